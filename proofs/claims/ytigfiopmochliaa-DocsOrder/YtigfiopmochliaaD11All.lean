/- Rows of names and values; the contract of All. -/
import Derived.Test.YtigfiopmochliaaD11Keys
import Derived.Test.YtigfiopmochliaaE9Made
namespace Go.Proofs.Ytigfiopmochliaa.D11
open Go.RowKit C8 E9
/-- Values, two a pair of a collection. -/
def AreQ (B : Value → List Nat → Prop) : List Value → Col → Prop
  | [], [] => True
  | x :: y :: r, p :: L => B x p.1 ∧ B y p.2 ∧ AreQ B r L
  | _, _ => False
section
variable {B B' : Value → List Nat → Prop}
theorem AreQ.imp (ht : ∀ v l, B v l → B' v l) : ∀ {xs : List Value} {L : Col}, AreQ B xs L → AreQ B' xs L
  | [], [], _ => trivial
  | _ :: _ :: _, _ :: _, h => ⟨ht _ _ h.1, ht _ _ h.2.1, AreQ.imp ht h.2.2⟩
  | [], _ :: _, h => h.elim
  | [_], [], h => h.elim
  | [_], _ :: _, h => h.elim
  | _ :: _ :: _, [], h => h.elim
theorem AreQ.snoc : ∀ {xs : List Value} {L : Col}, AreQ B xs L → ∀ {x y : Value} {p : List Nat × List Nat}, B x p.1 → B y p.2 → AreQ B (xs ++ [x, y]) (L ++ [p])
  | [], [], _, _, _, _, h1, h2 => ⟨h1, h2, trivial⟩
  | _ :: _ :: _, _ :: _, h, _, _, _, h1, h2 => ⟨h.1, h.2.1, AreQ.snoc h.2.2 h1 h2⟩
  | [], _ :: _, h, _, _, _, _, _ => h.elim
  | [_], [], h, _, _, _, _, _ => h.elim
  | [_], _ :: _, h, _, _, _, _, _ => h.elim
  | _ :: _ :: _, [], h, _, _, _, _, _ => h.elim
theorem AreQ.at : ∀ {xs : List Value} {L : Col}, AreQ B xs L → ∀ j (hj : j < L.length), ∃ x y, xs[j * 2]? = some x ∧ xs[j * 2 + 1]? = some y ∧ B x L[j].1 ∧ B y L[j].2
  | x :: y :: r, p :: L, h, 0, _ => ⟨x, y, rfl, rfl, h.1, h.2.1⟩
  | x :: y :: r, p :: L, h, j + 1, hj => by
    obtain ⟨x', y', h1, h2, h3, h4⟩ := AreQ.at h.2.2 j (by simpa using hj)
    refine ⟨x', y', ?_, ?_, by simpa using h3, by simpa using h4⟩
    · rw [show (j + 1) * 2 = j * 2 + 2 from by omega]; simpa using h1
    · rw [show (j + 1) * 2 + 1 = j * 2 + 1 + 2 from by omega]; simpa using h2
  | [], [], _, _, hj => by cases hj
  | [], _ :: _, h, _, _ => h.elim
  | [_], [], h, _, _ => h.elim
  | [_], _ :: _, h, _, _ => h.elim
  | _ :: _ :: _, [], h, _, _ => h.elim
end
/-- The names and values behind a slice: two cells a pair. -/
def DkRow (w : World) (q : Option Addr) (L : Col) : Prop :=
  ∀ j (h : j < L.length), ∃ b o np nc vp vc, q = some ⟨b, o, none⟩ ∧ b < w.heap.size ∧ w.cell? ⟨b, o + j * 2, none⟩ = some (.slice np L[j].1.length nc) ∧ w.cell? ⟨b, o + j * 2 + 1, none⟩ = some (.slice vp L[j].2.length vc) ∧
    Src w (.slice np L[j].1.length nc) L[j].1 ∧ Src w (.slice vp L[j].2.length vc) L[j].2
theorem DkRow.below {w w' : World} {q : Option Addr} {L : Col} (h : DkRow w q L) (hb : Below w.heap.size w w') : DkRow w' q L := fun j hj => by
  obtain ⟨b, o, np, nc, vp, vc, h1, h2, h3, h4, h5, h6⟩ := h j hj
  exact ⟨b, o, np, nc, vp, vc, h1, Nat.lt_of_lt_of_le h2 hb.size, (hb.cell (p := ⟨b, o + j * 2, none⟩) h2).trans h3, (hb.cell (p := ⟨b, o + j * 2 + 1, none⟩) h2).trans h4, h5.below hb, h6.below hb⟩
theorem AreQ.row {w : World} {xs : List Value} {L : Col} {base n c e : Nat} {q : Option Addr} (h : AreQ (fun v l => Src w v l) xs L) (hown : w.ownsRow base e 2 (.slice q n c) n xs) (hn : L.length = n) : DkRow w q L := fun j hj => by
  obtain ⟨x, y, k1, k2, k3, k4⟩ := h.at j hj
  obtain ⟨np, nc, rfl, -⟩ := k3.slice
  obtain ⟨vp, vc, rfl, -⟩ := k4.slice
  obtain ⟨hl, ⟨e1, e0⟩ | ⟨g, cap, cur, e1, hg, hh, hnc, hm, hcs, ht⟩⟩ := hown
  · omega
  · simp only [Value.slice.injEq] at e1
    obtain ⟨rfl, -, rfl⟩ := e1
    refine ⟨g, 0, np, nc, vp, vc, rfl, (Array.getElem?_eq_some_iff.1 hh).1, ?_, ?_, k3, k4⟩
    · rw [cell_of_row _ _ _ _ _ _ hh, Nat.zero_add]
      rw [← ht, List.getElem?_take_of_lt (by omega)] at k1
      simpa using k1
    · rw [cell_of_row _ _ _ _ _ _ hh, Nat.zero_add]
      rw [← ht, List.getElem?_take_of_lt (by omega)] at k2
      simpa using k2
theorem own_at {w : World} {base e n : Nat} {v : Value} {xs : List Value} (h : w.ownsRow base e 1 v n xs) {j : Nat} (hj : j < n) {x : Value} (hx : xs[j]? = some x) : ∃ g c, v = .slice (some ⟨g, 0, none⟩) n c ∧ base ≤ g ∧ g < w.heap.size ∧ n ≤ c ∧ w.cell? ⟨g, j, none⟩ = some x := by
  obtain ⟨hl, ⟨rfl, h0⟩ | ⟨g, cap, cur, rfl, hg, hh, hn, hm, hc, ht⟩⟩ := h
  · omega
  · refine ⟨g, cap, rfl, hg, (Array.getElem?_eq_some_iff.1 hh).1, hn, ?_⟩
    rw [cell_of_row _ _ _ _ _ _ hh]
    rw [← ht, Nat.mul_one, List.getElem?_take_of_lt hj] at hx
    simpa using hx
theorem own_low {w : World} {base base' e size n : Nat} {v : Value} {xs : List Value} (h : w.ownsRow base e size v n xs) (hb : base' ≤ base) : w.ownsRow base' e size v n xs := by
  obtain ⟨h1, h2⟩ := h
  refine ⟨h1, h2.imp id ?_⟩
  rintro ⟨g, cap, cur, a1, a2, a3⟩
  exact ⟨g, cap, cur, a1, by omega, a3⟩
/-- Bytes stay while a row of other things grows. -/
theorem Byt.grown {A base e size n : Nat} {w w' : World} {v x : Value} {xs : List Value} {l : List Nat} (h : Byt A w x l) (hown : w.ownsRow base e size v n xs) (he : e ≠ 5) (hg : w.grownBy w' v.ownBlock) : Byt A w' x l := by
  obtain ⟨_, ⟨rfl, _⟩ | ⟨g, cap, cur, rfl, _, hh, _⟩⟩ := hown
  · exact h.only (Only.of_grown (bs := []) hg (fun x hx => by cases hx)) (fun g hg => by cases hg)
  · refine h.only (Only.of_grown (bs := [g]) hg (fun x hx => by cases hx; simp)) (fun y hy cs fr hc => ?_)
    rw [List.mem_singleton.1 hy, hh] at hc
    cases hc
    exact he rfl
theorem get_at {L : Col} (h : Ok L) {j : Nat} (hj : j < L.length) : get L[j].1 L = some L[j].2 := by
  induction L generalizing j with
  | nil => cases hj
  | cons p r ih =>
    have hp := List.pairwise_cons.1 h.2
    rw [get_cons]
    cases j with
    | zero => simp
    | succ i =>
      have hi : i < r.length := by simpa using hj
      have hne : ¬ p.1 = r[i].1 := fun e => by
        have := hp.1 r[i] (List.getElem_mem hi)
        rw [e] at this
        exact lt_irr _ this
      simp only [List.getElem_cons_succ, hne, if_false]
      exact ih h.tail hi
theorem info55 : ∃ i, Try.prog.info? 55 = some i ∧ i.size = 2 ∧ i.bytes = 48 ∧ i.zero = some (.agg #[.slice none 0 0, .slice none 0 0]) := info_of (by kernel_rfl)
theorem info49 : ∃ i, Try.prog.info? 49 = some i ∧ i.size = 2 ∧ i.bytes = 48 ∧ i.zero = some (.agg #[.slice none 0 0, .slice none 0 0]) := info_of (by kernel_rfl)
theorem law_append_d {ops : Array Oper} {rest : List Oper} {dst : Option Tmp} {T : TypeId} {pos : String} {after : Array Edge} {a : Act} {w : World} {Q : Exit → Act → World → Prop} {so xo : Operand}
    (base : Nat) (v : Value) (n : Nat) (xs : List Value) (g : Nat) (news : List Value) (hs : a.eval so = v) (hx : a.eval xo = .slice (some ⟨g, 0, none⟩) 1 1) (hl : news.length = 2) (hown : w.ownsRow base 55 2 v n xs) (hc : w.rangeAt g 0 news) (hu : ∀ y ∈ news, y.oneCell' = true)
    (hn : n ≤ 1000000) (hbase : base ≤ w.heap.size)
    (h : ∀ v' w', w'.ownsRow base 55 2 v' (n + 1) (xs ++ news) → w.grownBy w' v.ownBlock → wpList Try.prog ops Q rest (a.put dst v') w') :
    wpList Try.prog ops Q ({ dst := dst, op := .call { callee := .builtin .append, args := #[so, xo], argTypes := #[43, 43] }, type := T, pos := pos, after := after, guard := none } :: rest) a w := by
  obtain ⟨i, hi, hsz, hby, hz⟩ := info55
  refine wpList_append_own_at _ rfl so xo 43 rfl base 55 i _ 2 48 Try.underlying43 hi hz hsz hby rfl (by decide) v n xs hs hown ⟨g, 0, none⟩ 1 1 news hx (by omega) (fun j y hy => ?_) hu (by unfold maxLen; omega) (by omega) hbase (fun v' w' h1 h2 _ _ => h v' w' h1 h2)
  rw [Addr.add_mid]
  exact hc j y hy
theorem law_append_r {ops : Array Oper} {rest : List Oper} {dst : Option Tmp} {T : TypeId} {pos : String} {after : Array Edge} {a : Act} {w : World} {Q : Exit → Act → World → Prop} {so xo : Operand}
    (base : Nat) (v : Value) (n : Nat) (xs : List Value) (g : Nat) (news : List Value) (hs : a.eval so = v) (hx : a.eval xo = .slice (some ⟨g, 0, none⟩) 1 1) (hl : news.length = 2) (hown : w.ownsRow base 49 2 v n xs) (hc : w.rangeAt g 0 news) (hu : ∀ y ∈ news, y.oneCell' = true)
    (hn : n ≤ 1000000) (hbase : base ≤ w.heap.size)
    (h : ∀ v' w', w'.ownsRow base 49 2 v' (n + 1) (xs ++ news) → w.grownBy w' v.ownBlock → wpList Try.prog ops Q rest (a.put dst v') w') :
    wpList Try.prog ops Q ({ dst := dst, op := .call { callee := .builtin .append, args := #[so, xo], argTypes := #[27, 27] }, type := T, pos := pos, after := after, guard := none } :: rest) a w := by
  obtain ⟨i, hi, hsz, hby, hz⟩ := info49
  refine wpList_append_own_at _ rfl so xo 27 rfl base 49 i _ 2 48 Try.underlying27 hi hz hsz hby rfl (by decide) v n xs hs hown ⟨g, 0, none⟩ 1 1 news hx (by omega) (fun j y hy => ?_) hu (by unfold maxLen; omega) (by omega) hbase (fun v' w' h1 h2 _ _ => h v' w' h1 h2)
  rw [Addr.add_mid]
  exact hc j y hy
theorem field68 (s : ByteArray) (w : World) : (Instr.field 68 (.agg #[.string s]) 0).run Try.prog w = .ok (.string s) w := by
  simp [go_sem, Instr.field, run_underlying Try.underlying68, asAgg, Result.andThen]
/-- What a call of All tells. -/
def AllSays (w : World) (L : Col) (e : Ending) (w' : World) : Prop := ∃ q c xs, e = .returned (.slice q L.length c) ∧ w'.ownsRow w.heap.size 55 2 (.slice q L.length c) L.length xs ∧ AreQ (fun v l => Byt w.heap.size w' v l) xs L ∧ Below w.heap.size w w'
theorem cast_lt {i j : Nat} (h : i < j) : (i : Int) < (j : Int) := by omega
set_option maxHeartbeats 4000000 in
set_option maxRecDepth 10000 in
theorem All_any (w : World) (p b : Nat) (L : Col) (h : DcIs w p b L) : Calls Try.prog 18 #[.pointer (some ⟨p, 0, none⟩)] w fun e w' => AllSays w L e w' := by
  have hc := h.cell
  have HS : Calls Try.prog 28 #[.func (.func 38) #[] #[.pointer (some ⟨w.heap.size, 0, none⟩)]] (w.alloc (.cells #[.map (some b)] 62)) fun e w' => ∃ v, e = .returned v ∧ w'.ownsRow w.heap.size 9 1 v L.length (L.map fun p => .string (strB p.1)) ∧ Below w.heap.size w w' := Sorted_any w b L h.own h.ok h.few
  have HD : Hid (DcIs w p b L) := h
  obtain ⟨n, HN⟩ : ∃ n, Hid (L.length = n) := ⟨_, rfl⟩
  have HF : Hid (n ≤ 1000000) := by rw [← HN.out]; exact h.few
  rw [HN.out] at HS
  clear h
  go_enter Try.func18, Try.ntmps18
  go_wp2_with (first | (go_at_call 29; refine (Keys_any _ b).mono ?_; rintro e w1 ⟨rfl, rfl⟩) | (go_at_call 28; refine HS.mono ?_; rintro e W0 ⟨kv, rfl, hk, hb0⟩; obtain ⟨kq, kc, rfl⟩ := own_slice hk))
  have HK : Hid (W0.ownsRow w.heap.size 9 1 (.slice kq n kc) n (L.map fun p => .string (strB p.1))) := hk
  have HB0 : Hid (Below w.heap.size w W0) := hb0
  clear hk hb0 HS
  have hn0 : (0 : Int) ≤ (n : Int) := by omega
  have hnb : (n : Int) ≤ 1000000 := by have := HF.out; omega
  go_loopw [13, 3] (fun i v wr => ∃ j : Nat, j ≤ n ∧ i = .int .i64 j ∧ Hid (Below W0.heap.size W0 wr) ∧ Hid (∃ q c xs, v = .slice q j c ∧ wr.ownsRow W0.heap.size 55 2 (.slice q j c) j xs ∧ AreQ (fun v l => Byt W0.heap.size wr v l) xs (L.take j))) (fun i _ _ => n - (intOf i).toNat)
  case atStart => exact ⟨0, by omega, rfl, Below.refl _ _, ⟨none, 0, [], rfl, own_none _ _ _ _, trivial⟩⟩
  case round =>
    obtain ⟨j, hj, rfl, HB1, HI⟩ := hrel
    obtain ⟨sq, sc, xs, hv, OX, AX⟩ := HI.out
    clear HI
    subst hv
    by_cases hlt : j < n
    · have ja : j < L.length := by rw [HN.out]; exact hlt
      have hdr : DcIs wr p b L := (HD.out.below HB0.out).below HB1.out
      have hpk := hdr.ok.1 _ (List.getElem_mem ja)
      obtain ⟨kg, kc', ek, hkb, hkl, -, hkc⟩ := own_at HK.out hlt (x := .string (strB L[j].1)) (by rw [List.getElem?_map, List.getElem?_eq_getElem ja]; rfl)
      simp only [Value.slice.injEq] at ek
      obtain ⟨rfl, -, rfl⟩ := ek
      have hkc1 := (HB1.out.cell (p := ⟨kg, j, none⟩) hkl).trans hkc
      obtain ⟨c1, w2, hr1, hs1, hb1⟩ := str_byt wr L[j].1 hpk.1
      have hd2 := hdr.below hb1
      have hcp2 := hd2.cell
      have hlk := hd2.look1 hpk.1 (Nat.le_trans hpk.2.2.1 (by unfold maxLen; omega))
      rw [get_at hdr.ok ja, Option.getD_some] at hlk
      obtain ⟨c2, w3, hr2, hs2, hb2⟩ := str_byt w2 L[j].2 hpk.2.1
      have HS1 : Hid (Byt W0.heap.size w3 (.slice (some ⟨wr.heap.size, 0, none⟩) L[j].1.length c1) L[j].1) := (hs1.below hb2).low HB1.out.size
      have HS2 : Hid (Byt W0.heap.size w3 (.slice (some ⟨w2.heap.size, 0, none⟩) L[j].2.length c2) L[j].2) := hs2.low (Nat.le_trans HB1.out.size hb1.size)
      have HT : Hid (∀ w', (∀ v l, Byt W0.heap.size w3 v l → Byt W0.heap.size w' v l) → AreQ (fun v l => Byt W0.heap.size w' v l) (xs ++ [.slice (some ⟨wr.heap.size, 0, none⟩) L[j].1.length c1, .slice (some ⟨w2.heap.size, 0, none⟩) L[j].2.length c2]) (L.take (j + 1))) := fun w' hw => by
        rw [List.take_succ_eq_append_getElem ja]
        exact (AX.imp (fun v l hx => hw v l ((hx.below hb1).below hb2))).snoc (hw _ _ HS1.out) (hw _ _ HS2.out)
      have HO3 : Hid (w3.ownsRow W0.heap.size 55 2 (.slice sq j sc) j xs) := own_below (own_below OX hb1) hb2
      have HB3 : Hid (Below W0.heap.size W0 w3) := (HB1.out.trans (bel_le hb1 HB1.out.size)).trans (bel_le hb2 (Nat.le_trans HB1.out.size hb1.size))
      have hfd := field68 (strB L[j].2) w2
      have j1 : (j : Int) < (n : Int) := by omega
      have j0 : (0 : Int) ≤ (j : Int) := by omega
      obtain ⟨g1, hg1⟩ : ∃ g, g = wr.heap.size := ⟨_, rfl⟩
      obtain ⟨g2, hg2⟩ : ∃ g, g = w2.heap.size := ⟨_, rfl⟩
      rw [← hg1] at hr1 HT
      rw [← hg2] at hr2 HT
      clear hs1 hs2 hb1 hb2 hd2 hdr hpk AX OX HS1 HS2 hg1 hg2 hkc hkb
      generalize strB L[j].1 = s1 at *
      generalize strB L[j].2 = s2 at *
      generalize L[j].1.length = l1 at *
      generalize L[j].2.length = l2 at *
      clear ja
      go_wp2_with (first | with_reducible (refine stop_builtin .append ?_))
      refine Stop.go ?_
      refine law_append_d W0.heap.size (.slice sq j sc) j xs w3.heap.size [.slice (some ⟨g1, 0, none⟩) l1 c1, .slice (some ⟨g2, 0, none⟩) l2 c2] rfl (by rfl) rfl (own_below HO3.out (bel_alloc (Nat.le_refl _) _)) (range_last w3 _ 55) (by simp; exact ⟨rfl, rfl⟩) (by have := HF.out; omega) (Nat.le_trans HB3.out.size (bel_alloc (Nat.le_refl _) _).size) ?_
      intro v2 w4 h1 h2
      have hb4 := below_append (own_below HO3.out (bel_alloc (Nat.le_refl _) (.cells #[.slice (some ⟨g1, 0, none⟩) l1 c1, .slice (some ⟨g2, 0, none⟩) l2 c2] 55))) h2 (Nat.le_trans HB3.out.size (bel_alloc (Nat.le_refl _) _).size)
      have HB4 : Hid (Below W0.heap.size W0 w4) := (HB3.out.trans (bel_alloc HB3.out.size _)).trans hb4
      obtain ⟨q2, c2', rfl⟩ := own_slice h1
      have HI2 : Hid (∃ q c xs, (.slice q2 (j + 1) c2' : Value) = .slice q (j + 1) c ∧ w4.ownsRow W0.heap.size 55 2 (.slice q (j + 1) c) (j + 1) xs ∧ AreQ (fun v l => Byt W0.heap.size w4 v l) xs (L.take (j + 1))) :=
        ⟨q2, c2', _, rfl, h1, HT.out w4 (fun v l hx => (hx.below (bel_alloc (Nat.le_refl _) _)).grown (own_below HO3.out (bel_alloc (Nat.le_refl _) _)) (by decide) h2)⟩
      clear h1 h2 hb4 HO3 HT
      go_wp2_with fail
      refine ⟨⟨j + 1, by omega, by simp, HB4, HI2⟩, ?_⟩
      simp only [intOf]
      omega
    · obtain rfl : j = n := by omega
      have j1 : ¬ (j : Int) < (j : Int) := by omega
      rw [List.take_of_length_le (by rw [HN.out]; omega)] at AX
      have HR : Hid (AllSays w L (.returned (.slice sq j sc)) wr) := ⟨sq, sc, xs, by rw [HN.out], by rw [HN.out]; exact own_low OX HB0.out.size, AX.imp (fun v l hx => hx.low HB0.out.size), HB0.out.trans (bel_le HB1.out HB0.out.size)⟩
      clear AX OX
      go_wp2_with fail
      go_ret
      exact HR.out
end Go.Proofs.Ytigfiopmochliaa.D11
