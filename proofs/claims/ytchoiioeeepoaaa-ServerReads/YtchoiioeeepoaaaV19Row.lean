/- Rows of links of one's own; how they grow; the contracts of the clones. -/
import Derived.Test.YtchoiioeeepoaaaV19Leaf
import Derived.Test.YtchoiioeeepoaaaF17Rot
namespace Go.Proofs.Ytchoiioeeepoaaa.V19
open Go.RowKit C8 E9 F17
/-- A link in a cell: its bytes lie in a block that stands, and not in block g. -/
def LkC (w : World) (g : Option Nat) (y : Value) (x : List Nat) : Prop :=
  ∃ bp bc, y = .slice bp x.length bc ∧ Src w y x ∧ x.length ≤ 1000000 ∧ (x ≠ [] → ∀ b, y.ownBlock = some b → some b ≠ g ∧ b < w.heap.size)
def AreC (w : World) (g : Option Nat) (xs : List Value) (ls : Ls) : Prop := ∀ (j : Nat) (u : Value) (y : List Nat), xs[j]? = some u → ls[j]? = some y → LkC w g u y
/-- A row of one's own of links. -/
def LRow (w : World) (base : Nat) (v : Value) (n : Nat) (ls : Ls) : Prop := ls.length = n ∧ ∃ xs, w.ownsRow base 32 1 v n xs ∧ AreC w v.ownBlock xs ls
section
variable {w w' : World} {g g' : Option Nat} {y v : Value} {x : List Nat} {ls : Ls} {xs : List Value} {base n : Nat}
theorem LkC.turn (h : LkC w g y x) (ho : Only g.toList w w') (hg : g' = g ∨ ∃ k, g' = some k ∧ w.heap.size ≤ k) : LkC w' g' y x := by
  obtain ⟨bp, bc, h1, h2, h3, h4⟩ := h
  refine ⟨bp, bc, h1, ?_, h3, fun h0 b hb => ?_⟩
  · by_cases h0 : x = []
    · subst h0
      exact h2.empty w'
    · refine h2.only ho (fun b hb hm => ?_)
      simp only [Option.mem_toList] at hm
      exact (h4 h0 b hb).1 hm.symm
  · obtain ⟨k1, k2⟩ := h4 h0 b hb
    refine ⟨?_, Nat.lt_of_lt_of_le k2 ho.size⟩
    rcases hg with rfl | ⟨k, rfl, hk⟩
    · exact k1
    · intro e
      cases e
      omega
theorem LkC.below (h : LkC w g y x) (hb : Below w.heap.size w w') : LkC w' g y x := h.turn (Only.of_below hb _) (.inl rfl)
theorem AreC.turn (h : AreC w g xs ls) (ho : Only g.toList w w') (hg : g' = g ∨ ∃ k, g' = some k ∧ w.heap.size ≤ k) : AreC w' g' xs ls := fun j u y h1 h2 => (h j u y h1 h2).turn ho hg
theorem AreC.nil (w : World) (g : Option Nat) (xs : List Value) : AreC w g xs [] := fun j u y _ h => by simp at h
theorem AreC.append {ys : List Value} {ms : Ls} (h : AreC w g xs ls) (hl : xs.length = ls.length) (k : AreC w g ys ms) : AreC w g (xs ++ ys) (ls ++ ms) := fun j u y h1 h2 => by
  by_cases hj : j < ls.length
  · rw [List.getElem?_append_left (by omega)] at h1
    rw [List.getElem?_append_left hj] at h2
    exact h j u y h1 h2
  · rw [List.getElem?_append_right (by omega)] at h1
    rw [List.getElem?_append_right (by omega)] at h2
    rw [hl] at h1
    exact k _ u y h1 h2
theorem LRow.nil (w : World) (base : Nat) : LRow w base (.slice none 0 0) 0 [] := ⟨rfl, [], own_none _ _ _ _, AreC.nil _ _ _⟩
theorem LRow.turn (h : LRow w base v n ls) (ho : Only [] w w') : LRow w' base v n ls := by
  obtain ⟨h1, xs, h2, h3⟩ := h
  refine ⟨h1, xs, own_only h2 ho (fun b _ hm => by cases hm), h3.turn (ho.more (fun _ h => by cases h)) (.inl rfl)⟩
theorem LRow.below (h : LRow w base v n ls) (hb : Below w.heap.size w w') : LRow w' base v n ls := h.turn (Only.of_below hb _)
theorem LRow.slice (h : LRow w base v n ls) : ∃ q c, v = .slice q n c := by
  obtain ⟨_, xs, h2, _⟩ := h
  exact own_slice h2
theorem LRow.lk {q : Option Addr} {m c : Nat} (h : LRow w base (.slice q m c) n ls) : LkRow w q ls := fun j hj => by
  obtain ⟨h1, xs, ⟨hl, h2⟩, h3⟩ := h
  have hx : j < xs.length := by omega
  obtain ⟨bp, bc, k1, k2, k3, k4⟩ := h3 j xs[j] ls[j] (List.getElem?_eq_getElem hx) (List.getElem?_eq_getElem hj)
  rcases h2 with ⟨e, h0⟩ | ⟨g, cap, cur, e, hg, hh, hnc, hm, hc, ht⟩
  · omega
  · cases e
    refine ⟨g, 0, bp, bc, rfl, (Array.getElem?_eq_some_iff.1 hh).1, ?_, by rw [← k1]; exact k2, by omega⟩
    rw [cell_of_row _ _ _ _ _ _ hh, Nat.zero_add]
    obtain ⟨u, hu⟩ : ∃ u, xs[j] = u := ⟨_, rfl⟩
    have h9 : xs[j]? = some u := by rw [← hu]; exact List.getElem?_eq_getElem hx
    rw [← ht, List.getElem?_take_of_lt (by omega)] at h9
    rw [← k1, hu]
    simpa using h9
theorem LRow.cap {q : Option Addr} {m c : Nat} (h : LRow w base (.slice q m c) n ls) : ls.length ≤ c := by
  obtain ⟨h1, xs, ⟨hl, h2⟩, h3⟩ := h
  rcases h2 with ⟨e, h0⟩ | ⟨g, cap, cur, e, hg, hh, hnc, _⟩
  · cases e
    omega
  · cases e
    omega
theorem LRow.lt (h : LRow w base v n ls) : ∀ k, v.ownBlock = some k → base ≤ k ∧ k < w.heap.size := by
  obtain ⟨_, xs, h2, _⟩ := h
  exact h2.lt
theorem LRow.only {m : Nat} (h : LRow w base v n ls) (ho : Only [m] w w') (hm : IsMapB w m) : LRow w' base v n ls := by
  obtain ⟨h1, xs, h2, h3⟩ := h
  refine ⟨h1, xs, own_only h2 ho (fun b hb hmm => ?_), fun j u y h4 h5 => ?_⟩
  · rcases h2.2 with ⟨rfl, _⟩ | ⟨g, cap, cur, rfl, hg, hh, _⟩
    · cases hb
    · cases hb
      obtain ⟨es, clock, he⟩ := hm
      have e : g = m := List.mem_singleton.1 hmm
      rw [e, he] at hh
      cases hh
  · obtain ⟨bp, bc, k1, k2, k3, k4⟩ := h3 j u y h4 h5
    exact ⟨bp, bc, k1, src_off k2 ho hm, k3, fun h0 b hb => ⟨(k4 h0 b hb).1, Nat.lt_of_lt_of_le (k4 h0 b hb).2 ho.size⟩⟩
/-- A row of bytes of one's own is a link. -/
theorem LkC.of_own {A : Nat} (h : w.ownsRow A 5 1 y x.length (ints .u8 x)) (hs : ∀ z ∈ x, z < 256) (hl : x.length ≤ 1000000) (hg : ∀ k, g = some k → k < A) : LkC w g y x := by
  obtain ⟨q, c, rfl⟩ := own_slice h
  refine ⟨q, c, rfl, Src.own hs h, hl, fun h0 b hb => ?_⟩
  have := h.lt b hb
  refine ⟨fun e => ?_, this.2⟩
  have := hg b e.symm
  omega
end
theorem one32 (w : World) (y : Value) : (w.alloc (.cells #[y] 32)).rangeAt w.heap.size 0 [y] := fun j u hu => by
  rw [cell_of_row _ _ _ _ _ _ (heap_alloc_new w _), Nat.zero_add]
  simpa using hu
theorem law_append_links {ops : Array Oper} {rest : List Oper} {dst : Option Tmp} {T : TypeId} {pos : String} {after : Array Edge} {a : Act} {w : World} {Q : Exit → Act → World → Prop} {so xo : Operand}
    (base : Nat) (v : Value) (n : Nat) (ls : Ls) (ad : Addr) (m c : Nat) (news : List Value) (ms : Ls) (hs : a.eval so = v) (hx : a.eval xo = .slice (some ad) m c) (hown : LRow w base v n ls) (hm : ms.length = m) (hl : news.length = m) (hc : ∀ j u, news[j]? = some u → w.cell? (ad.add j) = some u) (hk : AreC w v.ownBlock news ms)
    (hn : n + m ≤ 1000000) (hbase : base ≤ w.heap.size)
    (h : ∀ v' w', LRow w' base v' (n + m) (ls ++ ms) → w.grownBy w' v.ownBlock → (v'.ownBlock = v.ownBlock ∨ v'.ownBlock = some w.heap.size) → wpList Try.prog ops Q rest (a.put dst v') w') :
    wpList Try.prog ops Q ({ dst := dst, op := .call { callee := .builtin .append, args := #[so, xo], argTypes := #[31, 31] }, type := T, pos := pos, after := after, guard := none } :: rest) a w := by
  obtain ⟨i, hi, hsz, hby, hz⟩ := info23e
  obtain ⟨h1, xs, h2, h3⟩ := hown
  have hu : ∀ u ∈ news, u.oneCell' = true := fun u hu => by
    obtain ⟨j, hj, rfl⟩ := List.getElem_of_mem hu
    obtain ⟨bp, bc, k1, _⟩ := hk j news[j] (ms[j]'(by omega)) (List.getElem?_eq_getElem hj) (List.getElem?_eq_getElem (by omega))
    rw [k1]
    rfl
  refine wpList_append_own_at _ rfl so xo 31 rfl base 32 i _ 1 24 Try.underlying31 hi hz hsz hby rfl (by decide) v n xs hs h2 ad m c news hx (by omega) hc hu (by unfold maxLen; omega) (by omega) hbase (fun v' w' k1 k2 _ k3 => h v' w' ⟨by rw [List.length_append]; omega, xs ++ news, k1, ?_⟩ k2 k3)
  have ho : Only v.ownBlock.toList w w' := Only.of_grown k2 (fun x hx => by rw [hx]; simp)
  have hg : v'.ownBlock = v.ownBlock ∨ ∃ k, v'.ownBlock = some k ∧ w.heap.size ≤ k := k3.elim .inl (fun e => .inr ⟨_, e, Nat.le_refl _⟩)
  exact (h3.turn ho hg).append (by have := h2.1; omega) (hk.turn ho hg)
/-- One link is put behind the last one. -/
theorem law_append_link {ops : Array Oper} {rest : List Oper} {dst : Option Tmp} {T : TypeId} {pos : String} {after : Array Edge} {a : Act} {w : World} {Q : Exit → Act → World → Prop} {so xo : Operand}
    (base : Nat) (v : Value) (n : Nat) (ls : Ls) (g : Nat) (y : Value) (x : List Nat) (hs : a.eval so = v) (hx : a.eval xo = .slice (some ⟨g, 0, none⟩) 1 1) (hown : LRow w base v n ls) (hc : w.rangeAt g 0 [y]) (hk : LkC w v.ownBlock y x)
    (hn : n + 1 ≤ 1000000) (hbase : base ≤ w.heap.size)
    (h : ∀ v' w', LRow w' base v' (n + 1) (ls ++ [x]) → w.grownBy w' v.ownBlock → (v'.ownBlock = v.ownBlock ∨ v'.ownBlock = some w.heap.size) → wpList Try.prog ops Q rest (a.put dst v') w') :
    wpList Try.prog ops Q ({ dst := dst, op := .call { callee := .builtin .append, args := #[so, xo], argTypes := #[31, 31] }, type := T, pos := pos, after := after, guard := none } :: rest) a w := by
  refine law_append_links base v n ls ⟨g, 0, none⟩ 1 1 [y] [x] hs hx hown rfl rfl (fun j u hu => by rw [Addr.add_mid]; exact hc j u hu) (fun j u z h1 h2 => ?_) hn hbase h
  match j, h1, h2 with
  | 0, h1, h2 =>
    cases h1
    cases h2
    exact hk
theorem LRow.grown {w w' : World} {base n : Nat} {v : Value} {ls : Ls} (h : LRow w base v n ls) (hg : w.grownBy w' v.ownBlock) (hb : base ≤ w.heap.size) : Below base w w' :=
  (Below.refl base w).grown hg hb (fun k hk => (h.lt k hk).1)
set_option maxHeartbeats 1000000 in
theorem bclone_any (sv : Value) (l : List Nat) (w : World) (hs : Src w sv l) (hl : l.length ≤ 900000) :
    Calls Try.prog 33 #[sv] w fun e w' => ∃ v, e = .returned v ∧ w'.ownsRow w.heap.size 5 1 v l.length (ints .u8 l) ∧ Below w.heap.size w w' := by
  rcases hs.cases with ⟨rfl, rfl⟩ | ⟨ad, c, rfl⟩
  · have hnil : (binOp .eql 32 (.slice none 0 0) (.slice none 0 0)).run Try.prog w = .ok (.bool true) w := Lib.run_eql_slice_nil w 32 5 none 0 0 0 0 Try.underlying32
    go_enter Try.func33, Try.ntmps33
    go_wp2_with fail
    go_ret
    exact ⟨_, rfl, own_none _ _ _ _, Below.refl _ _⟩
  · have HS : Hid (Src w (.slice (some ad) l.length c) l) := hs
    have hnil : (binOp .eql 32 (.slice (some ad) l.length c) (.slice none 0 0)).run Try.prog w = .ok (.bool false) w := Lib.run_eql_slice_nil w 32 5 (some ad) l.length c 0 0 Try.underlying32
    clear hs
    go_enter Try.func33, Try.ntmps33
    go_wp2_with (first | with_reducible (refine stop_builtin .append ?_))
    refine Stop.go ?_
    have hs1 : Src (w.alloc (.cells #[] 5)) (.slice (some ad) l.length c) l := HS.out.below ((Below.refl _ w).alloc (Nat.le_refl _) _)
    refine law_append_grow w.heap.size (.slice (some ⟨w.heap.size, 0, none⟩) 0 0) 0 [] _ l rfl rfl (own_built w) hs1 (by omega) (by simp) ?_
    intro v w1 h1 h2
    have HO : Hid (w1.ownsRow w.heap.size 5 1 v l.length (ints .u8 l)) := by
      rw [Nat.zero_add] at h1
      exact h1
    have HB : Hid (Below w.heap.size w w1) := ((Below.refl _ w).alloc (Nat.le_refl _) _).trans (h2.below (own_built w) (by simp))
    clear h1 h2 hs1
    go_wp2_with fail
    go_ret
    exact ⟨_, rfl, HO.out, HB.out⟩
/-- The cells of a row of links. -/
theorem row_cells {w : World} {q : Option Addr} {ls : Ls} (h : LkRow w q ls) : ∃ xs : List Value, xs.length = ls.length ∧ (∀ ad, q = some ad → ∀ (j : Nat) (u : Value), xs[j]? = some u → w.cell? (ad.add j) = some u) ∧ ∀ (j : Nat) (u : Value) (y : List Nat), xs[j]? = some u → ls[j]? = some y → ∃ bp bc, u = .slice bp y.length bc ∧ Src w u y := by
  refine ⟨(List.range ls.length).map (fun j => match q with | some ad => (w.cell? (ad.add j)).getD undef | none => undef), by simp, fun ad e j u hu => ?_, fun j u y hu hy => ?_⟩
  · subst e
    obtain ⟨hj, hu⟩ := List.getElem?_eq_some_iff.1 hu
    have hj' : j < ls.length := by simpa using hj
    obtain ⟨b, o, bp, bc, h1, h2, h3, h4, h5⟩ := h j hj'
    cases h1
    simp only [List.getElem_map, List.getElem_range] at hu
    rw [Addr.add_mid] at hu ⊢
    rw [h3] at hu ⊢
    rw [← hu]
    rfl
  · obtain ⟨hj, hy⟩ := List.getElem?_eq_some_iff.1 hy
    subst hy
    obtain ⟨hj2, hu⟩ := List.getElem?_eq_some_iff.1 hu
    obtain ⟨b, o, bp, bc, h1, h2, h3, h4, h5⟩ := h j hj
    subst h1
    simp only [List.getElem_map, List.getElem_range] at hu
    rw [Addr.add_mid, h3] at hu
    refine ⟨bp, bc, hu.symm, ?_⟩
    rw [← hu]
    exact h4
theorem own32 (w : World) : LRow (w.alloc (.cells #[] 32)) w.heap.size (.slice (some ⟨w.heap.size, 0, none⟩) 0 0) 0 [] :=
  ⟨rfl, [], ⟨rfl, .inr ⟨w.heap.size, 0, #[], rfl, Nat.le_refl _, heap_alloc_new w _, Nat.le_refl _, by unfold maxLen; omega, rfl, rfl⟩⟩, AreC.nil _ _ _⟩
set_option maxHeartbeats 1000000 in
theorem lclone_any (q : Option Addr) (cp : Nat) (ls : Ls) (w : World) (h : LkRow w q ls) (hn : ls.length ≤ 900000) (hs : ∀ x ∈ ls, x.length ≤ 1000000) :
    Calls Try.prog 30 #[.slice q ls.length cp] w fun e w' => ∃ v, e = .returned v ∧ LRow w' w.heap.size v ls.length ls ∧ Below w.heap.size w w' := by
  obtain ⟨n, HN⟩ : ∃ n, Hid (ls.length = n) := ⟨_, rfl⟩
  have HL : Hid (LkRow w q ls) := h
  rw [HN.out] at hn ⊢
  cases q with
  | none =>
    have h0 : ls = [] := by
      cases ls with
      | nil => rfl
      | cons x r => obtain ⟨_, _, _, _, e, _⟩ := h 0 (by simp); cases e
    subst h0
    have e0 : n = 0 := HN.out.symm
    subst e0
    have hnil : (binOp .eql 31 (.slice none 0 cp) (.slice none 0 0)).run Try.prog w = .ok (.bool true) w := Lib.run_eql_slice_nil w 31 32 none 0 cp 0 0 Try.underlying31
    clear h
    go_enter Try.func30, Try.ntmps30
    go_wp2_with fail
    go_ret
    exact ⟨_, rfl, LRow.nil _ _, Below.refl _ _⟩
  | some ad =>
    obtain ⟨xs, x1, x2, x3⟩ := row_cells h
    have hnil : (binOp .eql 31 (.slice (some ad) n cp) (.slice none 0 0)).run Try.prog w = .ok (.bool false) w := Lib.run_eql_slice_nil w 31 32 (some ad) n cp 0 0 Try.underlying31
    have hb : Below w.heap.size w (w.alloc (.cells #[] 32)) := (Below.refl _ w).alloc (Nat.le_refl _) _
    have HC : Hid (∀ (j : Nat) (u : Value), xs[j]? = some u → (w.alloc (.cells #[] 32)).cell? (ad.add j) = some u) := fun j u hu => (hb.cell (World.block_lt_of_cell? w _ (x2 ad rfl j u hu))).trans (x2 ad rfl j u hu)
    have HK : Hid (AreC (w.alloc (.cells #[] 32)) (some w.heap.size) xs ls) := fun j u y hu hy => by
      obtain ⟨bp, bc, k1, k2⟩ := x3 j u y hu hy
      refine ⟨bp, bc, k1, k2.below hb, hs y (List.mem_of_getElem? hy), fun h0 b hbb => ?_⟩
      have := (Old.of k2).2 h0 b hbb
      refine ⟨fun e => ?_, Nat.lt_of_lt_of_le this hb.size⟩
      cases e
      omega
    have HX : Hid (xs.length = n) := x1.trans HN.out
    have HB : Hid (Below w.heap.size w (w.alloc (.cells #[] 32))) := hb
    clear h x1 x2 x3 hb
    go_enter Try.func30, Try.ntmps30
    go_wp2_with (first | with_reducible (refine stop_builtin .append ?_))
    refine Stop.go ?_
    refine law_append_links w.heap.size (.slice (some ⟨w.heap.size, 0, none⟩) 0 0) 0 [] ad n cp xs ls rfl rfl (own32 w) HN.out HX.out HC.out HK.out (by omega) (by simp) ?_
    intro v w1 h1 h2 _
    have HO : Hid (LRow w1 w.heap.size v n ls) := by
      rw [Nat.zero_add] at h1
      exact h1
    have HB1 : Hid (Below w.heap.size w w1) := HB.out.trans ((own32 w).grown h2 (by simp))
    clear h1 h2
    go_wp2_with fail
    go_ret
    exact ⟨_, rfl, HO.out, HB1.out⟩
end Go.Proofs.Ytchoiioeeepoaaa.V19
