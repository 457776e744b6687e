/- The document's ring: keys that are derived, nonces, who and when may be. -/
import Derived.Test.YtagdlpodpokmmaaGreatDoorR14Sg
import Derived.Test.YtagdlpodpokmmaaGreatDoorS7SigP
import Derived.Test.YtagdlpodpokmmaaGreatDoorC8RNum
import Derived.ArgAppend
namespace Go.Proofs.YtagdlpodpokmmaaGreatDoor.S7
open Go.RowKit
/-- The bytes of a string that was turned to a row: its block bears a mark behind its last cell. -/
def CvIs (w : World) (g cap : Nat) (l : List Nat) : Prop := l.length ≤ cap ∧ w.rangeAt g 0 (ints .u8 l) ∧ ∃ cs : Array Value, cs.size = cap ∧ w.heap[g]? = some (.cells cs 5 (cap, cap + 1))
theorem CvIs.below {w w' : World} {g cap : Nat} {l : List Nat} (h : CvIs w g cap l) (hb : Below w.heap.size w w') : CvIs w' g cap l := by
  obtain ⟨h1, h2, cs, h3, h4⟩ := h
  exact ⟨h1, rangeAt_below hb h2, cs, h3, (hb.block g (Array.getElem?_eq_some_iff.1 h4).1).trans h4⟩
theorem conv_cv (w : World) (l : List Nat) (hl : ∀ y ∈ l, y < 256) : ∃ cap w', (convert 9 22 (.string (strB l))).run Tryz.prog w = .ok (.slice (some ⟨w.heap.size, 0, none⟩) l.length cap) w' ∧ CvIs w' w.heap.size cap l ∧ Below w.heap.size w w' ∧ w.heap.size < w'.heap.size := by
  obtain ⟨v, w', h1, h2, h3, _⟩ := bytes_src w l hl
  have hr := run_bytes_of_string w 9 22 5 (strB l) Tryz.underlying9 Tryz.underlying22 Tryz.underlying5
  rw [strB_size] at hr
  have hge := grownCap_ge w l.length 0 5
  generalize grownCap w l.length 0 5 = cap at hr hge
  rw [h1] at hr
  injection hr with e1 e2
  subst e1
  refine ⟨cap, w', h1, ⟨hge, ?_, bytesRow (strB l) cap, ?_, ?_⟩, h3, ?_⟩
  · obtain ⟨_, ⟨e, _⟩ | ⟨ad, c, e, rfl⟩ | ⟨b, o, c, e, _, hr⟩⟩ := h2
    · cases e
    · intro j v hv
      simp [ints] at hv
    · cases e
      exact hr
  · have := strB_size l
    simp only [bytesRow, Array.size_append, Array.size_map, Array.size_replicate, ByteArray.size_data]
    omega
  · have hz : (bytesRow (strB l) cap).size = cap := by
      have := strB_size l
      simp only [bytesRow, Array.size_append, Array.size_map, Array.size_replicate, ByteArray.size_data]
      omega
    rw [e2, hz]
    exact heap_alloc_new w.drew _
  · rw [e2]
    show _ < (w.heap.push _).size
    simp
theorem only_setCells (g : Nat) : ∀ (vs : List Value) (o : Nat) (w : World), Only [g] w (w.setCells g o vs)
  | [], _, _ => ⟨rfl, rfl, rfl, Nat.le_refl _, fun _ _ _ => rfl⟩
  | v :: r, o, w => (Only.setCell w ⟨g, o, none⟩ v (by simp)).trans (only_setCells g r (o + 1) _)
theorem heap_setCells (g : Nat) (fr : Nat × Nat) : ∀ (vs : List Value) (o : Nat) (w : World) (cs : Array Value), w.heap[g]? = some (.cells cs 5 fr) → ∃ cs', (w.setCells g o vs).heap[g]? = some (.cells cs' 5 fr)
  | [], _, _, cs, h => ⟨cs, h⟩
  | v :: r, o, w, cs, h => heap_setCells g fr r (o + 1) _ (cs.setIfInBounds o v) (by simp [World.setCell, Array.getElem?_modify, h])
/-- An append onto such a row: in its place, or in a new one. -/
theorem law_append_cv {ops : Array Oper} {rest : List Oper} {dst : Option Tmp} {T : TypeId} {pos : String} {after : Array Edge} {a : Act} {w : World} {Q : Exit → Act → World → Prop} {so xo : Operand}
    (B g cap base : Nat) (l news : List Nat) (sv : Value) (n : Nat) (hs : a.eval so = .slice (some ⟨g, 0, none⟩) n cap) (hnl : n = l.length) (hx : a.eval xo = sv) (hc : CvIs w g cap l) (hsv : w.ownsRow base 5 1 sv news.length (ints .u8 news)) (h0 : 0 < news.length)
    (hsm : ∀ x ∈ l ++ news, x < 256) (hn : l.length + news.length ≤ 100000)
    (h : ∀ v' w', By B w' v' (l ++ news) → Below g w w' → wpList Tryz.prog ops Q rest (a.put dst v') w') :
    wpList Tryz.prog ops Q ({ dst := dst, op := .call { callee := .builtin .append, args := #[so, xo], argTypes := #[22, 22] }, type := T, pos := pos, after := after, guard := none } :: rest) a w := by
  subst hnl
  obtain ⟨i, hi, hsz, hby, hz⟩ := info5e
  obtain ⟨b, c, rfl, _, _, _, hr⟩ := own_cell hsv h0
  obtain ⟨hlc, hrg, cs, hcs, hh⟩ := hc
  have hlt : g < w.heap.size := (Array.getElem?_eq_some_iff.1 hh).1
  have hin : l.length + news.length ≤ cap → ∀ j, j < (ints .u8 news).length → (w.cell? ⟨g, 0 + l.length * 1 + j, none⟩).isSome = true ∧ w.frozen? ⟨g, 0 + l.length * 1 + j, none⟩ = false := fun hroom j hj => by
    rw [ints_length] at hj
    refine ⟨?_, ?_⟩
    · rw [cell_of_row _ _ _ _ _ _ hh]
      simp
      omega
    · unfold World.frozen?
      simp only [hh]
      simp
      omega
  refine wpList_append_arg w rfl so xo 22 rfl 5 i _ 1 1 Tryz.underlying22 hi hz hsz hby rfl (by decide) g 0 l.length cap (ints .u8 l) hs (by rw [ints_length]; omega) (fun j u hu => hrg j u hu) ⟨b, 0, none⟩ news.length c (ints .u8 news) hx (by rw [ints_length]; omega) (fun j u hu => by rw [Addr.add_mid]; exact hr j u hu) (fun u hu => by obtain ⟨q, _, rfl⟩ := List.mem_map.1 hu; rfl) hin (by unfold maxLen; omega) (by omega) (fun hroom => ?_) (fun _ v' w' ho hg => ?_)
  · obtain ⟨cs', hh'⟩ := heap_setCells g _ (ints .u8 news) (0 + l.length * 1) w cs hh
    refine h _ _ ⟨hsm, .inr (.inr ⟨g, 0, cap, by rw [List.length_append], by rw [List.length_append]; exact hroom, ?_, .inr ⟨_, _, hh'⟩⟩)⟩ ((only_setCells g _ _ w).below (Nat.le_of_lt hlt) (fun x hx => by rw [List.mem_singleton.1 hx]; exact Nat.le_refl _))
    intro j u hu
    rw [ints_append] at hu
    by_cases hj : j < l.length
    · rw [List.getElem?_append_left (by rw [ints_length]; exact hj)] at hu
      rw [World.cell?_setCells_out g _ _ _ _ (fun _ _ => .inl (by show 0 + j < _; omega))]
      exact hrg j u hu
    · rw [List.getElem?_append_right (by rw [ints_length]; omega), ints_length] at hu
      have hk := (List.getElem?_eq_some_iff.1 hu).1
      have := World.cell?_setCells_in g (ints .u8 news) (0 + l.length * 1) w (fun j hj => (hin hroom j hj).1) (j - l.length) hk
      rw [show (0 + l.length * 1 + (j - l.length)) = 0 + j from by omega] at this
      rw [this]
      rw [List.getElem?_eq_getElem hk] at hu
      exact hu
  · exact h _ _ (By.own hsm (by rw [ints_append]; exact ho)) ⟨hg.os, hg.tape, hg.output, hg.size, fun k hk => hg.block k (Nat.lt_trans hk hlt) (by simp)⟩
abbrev TD : List (Option TypeId) := [some 30, some 83]
set_option maxHeartbeats 1000000 in
theorem rDerived_any {B d : Nat} {L : List Su.Thing} {w : World} {kv : Value} {k : List Nat} (h : Doc B w d L) (hL : L.length < 1000000) (hB : B ≤ w.heap.size) (hk : By B w kv k) (s : List Nat) (hs : ∀ y ∈ s, y < 256) (hsl : s.length ≤ 100) (n : Nat) (hn : n ≤ 1099511627776) :
    Calls Tryz.prog 10 #[.pointer (some ⟨d, 0, none⟩), kv, .string (strB s), .int .i64 (n : Int)] w fun e w' => ∃ u, e = .returned u ∧ w'.ownsRow w.heap.size 5 1 u 32 (ints .u8 (mk L k s n)) ∧ Doc B w' d (adk L k s n) ∧ Kx TD B w w' := by
  obtain ⟨cap, w1, hcv, h1, h2, h2l⟩ := conv_cv w s hs
  have HC : Hid (CvIs w1 w.heap.size cap s ∧ Below w.heap.size w w1) := ⟨h1, h2⟩
  have HN : Hid (Calls Tryz.prog 27 #[.int .i64 (n : Int)] w1 fun e w' => ∃ v, e = .returned v ∧ w'.ownsRow w1.heap.size 5 1 v 6 (ints .u8 (six n)) ∧ Below w1.heap.size w1 w') := C8.RefNum_any n w1 hn
  have HD : Hid (Doc B w d L ∧ By B w kv k ∧ B ≤ w.heap.size ∧ L.length < 1000000 ∧ (∀ x ∈ s ++ six n, x < 256) ∧ s.length ≤ 100) := ⟨h, hk, hB, hL, fun x hx => (List.mem_append.1 hx).elim (hs x) (six_small n x), hsl⟩
  obtain ⟨pk, ck, rfl, _⟩ := hk.src.slice
  clear h hL hB hk hs hn h1 h2 h2l hsl
  generalize k.length = kl at *
  generalize hsn : s.length = sn at hcv
  have HSN : Hid (sn = s.length) := hsn.symm
  clear hsn
  go_enter Tryz.func10, Tryz.ntmps10
  go_wp2_with fail
  refine HN.out.mono ?_
  rintro e w2 ⟨v, rfl, ho, hb⟩
  have HO : Hid (w2.ownsRow w1.heap.size 5 1 v (six n).length (ints .u8 (six n)) ∧ CvIs w2 w.heap.size cap s ∧ Below w.heap.size w w2) := ⟨by rw [six_length]; exact ho, HC.out.1.below hb, HC.out.2.trans (hb.mono HC.out.2.size)⟩
  clear ho hb HN HC hcv
  go_wp2_with (first | with_reducible (refine stop_builtin .append ?_))
  refine Stop.go ?_
  refine law_append_cv B w.heap.size cap w1.heap.size s (six n) v sn rfl HSN.out rfl HO.out.2.1 HO.out.1 (by rw [six_length]; decide) HD.out.2.2.2.2.1 (by rw [six_length]; have := HD.out.2.2.2.2.2; omega) ?_
  intro u w3 hu hb3
  have HB3 : Hid (Below w.heap.size w w3) := HO.out.2.2.trans hb3
  have HU : Hid (By B w3 u (s ++ six n)) := hu
  have hd := HD.out
  have HK : Hid (Calls Tryz.prog 26 #[.pointer (some ⟨d, 0, none⟩), .slice pk kl ck, u] w3 fun e w' => ∃ v, e = .returned v ∧ w'.ownsRow w.heap.size 5 1 v 32 (ints .u8 (mk L k s n)) ∧ Doc B w' d (adk L k s n) ∧ Kx TD B w w') := by
    refine (rCode_any (.slice pk kl ck) k u (s ++ six n) B d L w3 (hd.1.below HB3.out) (hd.2.1.below HB3.out) hu (Nat.le_trans hd.2.2.1 HB3.out.size) hd.2.2.2.1).mono ?_
    rintro e w' ⟨v, rfl, k1, k2, k3⟩
    exact ⟨v, rfl, own_older k1 HB3.out.size, k2, (Kx.of_below HB3.out hd.2.2.1).trans k3⟩
  obtain ⟨pu, cu, rfl, _⟩ := hu.src.slice
  clear hu hb3 HO hd HU HB3 HD HSN
  generalize (s ++ six n).length = ul at *
  go_wp2_with fail
  refine HK.out.mono ?_
  rintro e w4 ⟨v4, rfl, k1, k2, k3⟩
  have HZ : Hid (w4.ownsRow w.heap.size 5 1 v4 32 (ints .u8 (mk L k s n)) ∧ Doc B w4 d (adk L k s n) ∧ Kx TD B w w4) := ⟨k1, k2, k3⟩
  clear k1 k2 k3 HK
  go_wp2_with fail
  go_ret
  exact ⟨_, rfl, HZ.out⟩
set_option maxHeartbeats 1000000 in
theorem rNonce_any (w : World) (a b : Nat) (ha : a ≤ 1099511627776) (hb0 : b ≤ 1099511627776) : Calls Tryz.prog 19 #[.int .i64 (a : Int), .int .i64 (b : Int)] w fun e w' => ∃ v, e = .returned v ∧ w'.ownsRow w.heap.size 5 1 v 12 (ints .u8 (non a b)) ∧ Below w.heap.size w w' := by
  have HA : Hid (∀ w1, Calls Tryz.prog 27 #[.int .i64 (a : Int)] w1 fun e w' => ∃ v, e = .returned v ∧ w'.ownsRow w1.heap.size 5 1 v 6 (ints .u8 (six a)) ∧ Below w1.heap.size w1 w') := fun w1 => C8.RefNum_any a w1 ha
  have HB : Hid (∀ w1, Calls Tryz.prog 27 #[.int .i64 (b : Int)] w1 fun e w' => ∃ v, e = .returned v ∧ w'.ownsRow w1.heap.size 5 1 v 6 (ints .u8 (six b)) ∧ Below w1.heap.size w1 w') := fun w1 => C8.RefNum_any b w1 hb0
  clear ha hb0
  go_enter Tryz.func19, Tryz.ntmps19
  go_wp2_with fail
  have hb5 : Below w.heap.size w (w.alloc (.cells #[] 5)) := (Below.refl _ _).alloc (Nat.le_refl _) _
  have he : (w.alloc (.cells #[] 5)).ownsRow w.heap.size 5 1 (.slice (some ⟨w.heap.size, 0, none⟩) 0 0) 0 (ints .u8 []) :=
    ⟨rfl, .inr ⟨w.heap.size, 0, #[], rfl, Nat.le_refl _, heap_alloc_new w _, Nat.le_refl _, by unfold maxLen; decide, rfl, rfl⟩⟩
  have H0 : Hid (Below w.heap.size w (w.alloc (.cells #[] 5)) ∧ (w.alloc (.cells #[] 5)).ownsRow w.heap.size 5 1 (.slice (some ⟨w.heap.size, 0, none⟩) 0 0) 0 (ints .u8 [])) := ⟨hb5, he⟩
  clear hb5 he
  refine (HA.out _).mono ?_
  rintro e w1 ⟨v, rfl, ho, hb⟩
  have H1 : Hid (Src w1 v (six a) ∧ w1.ownsRow w.heap.size 5 1 (.slice (some ⟨w.heap.size, 0, none⟩) 0 0) 0 (ints .u8 []) ∧ Below w.heap.size w w1) := ⟨Src.own (six_small a) ho, C8.own_below H0.out.2 hb, H0.out.1.trans (hb.mono H0.out.1.size)⟩
  clear ho hb H0 HA
  go_wp2_with (first | with_reducible (refine stop_builtin .append ?_))
  refine Stop.go ?_
  refine law_append_src w.heap.size _ 0 [] _ (six a) rfl rfl H1.out.2.1 H1.out.1 (by rw [six_length]; decide) H1.out.2.2.size ?_
  intro u w2 ho hg
  have H2 : Hid (w2.ownsRow w.heap.size 5 1 u 6 (ints .u8 (six a)) ∧ Below w.heap.size w w2) := ⟨by rw [six_length] at ho; exact ho, H1.out.2.2.trans (below_append H1.out.2.1 hg H1.out.2.2.size)⟩
  clear ho hg H1
  go_wp2_with fail
  refine (HB.out _).mono ?_
  rintro e w3 ⟨v3, rfl, ho, hb⟩
  have H3 : Hid (Src w3 v3 (six b) ∧ w3.ownsRow w.heap.size 5 1 u 6 (ints .u8 (six a)) ∧ Below w.heap.size w w3) := ⟨Src.own (six_small b) ho, C8.own_below H2.out.1 hb, H2.out.2.trans (hb.mono H2.out.2.size)⟩
  clear ho hb H2 HB
  go_wp2_with (first | with_reducible (refine stop_builtin .append ?_))
  refine Stop.go ?_
  refine law_append_src w.heap.size u 6 (six a) _ (six b) rfl rfl H3.out.2.1 H3.out.1 (by rw [six_length]; decide) H3.out.2.2.size ?_
  intro u4 w4 ho hg
  have H4 : Hid (w4.ownsRow w.heap.size 5 1 u4 12 (ints .u8 (non a b)) ∧ Below w.heap.size w w4) := ⟨by rw [six_length] at ho; exact ho, H3.out.2.2.trans (below_append H3.out.2.1 hg H3.out.2.2.size)⟩
  clear ho hg H3
  go_wp2_with fail
  go_ret
  exact ⟨_, rfl, H4.out⟩
theorem spot_yes (w : World) (i j : Int) (h : (1 ≤ i ∧ i ≤ 16) ∧ 1 ≤ j ∧ j ≤ 16) : Calls Tryz.prog 32 #[.int .i64 i, .int .i64 j] w fun e w' => e = .returned (.bool true) ∧ w' = w := by
  obtain ⟨⟨h1, h2⟩, h3, h4⟩ := h
  go_enter Tryz.func32, Tryz.ntmps32
  go_wp2_with fail
  go_ret
  exact ⟨rfl, rfl⟩
theorem spot_no (w : World) (i j : Int) (h : ¬ ((1 ≤ i ∧ i ≤ 16) ∧ 1 ≤ j ∧ j ≤ 16)) : Calls Tryz.prog 32 #[.int .i64 i, .int .i64 j] w fun e w' => e = .returned (.bool false) ∧ w' = w := by
  by_cases h1 : 1 ≤ i
  · by_cases h2 : i ≤ 16
    · by_cases h3 : 1 ≤ j
      · have h4 : ¬ j ≤ 16 := fun e => h ⟨⟨h1, h2⟩, h3, e⟩
        clear h
        go_enter Tryz.func32, Tryz.ntmps32
        go_wp2_with fail
        go_ret
        exact ⟨rfl, rfl⟩
      · clear h
        go_enter Tryz.func32, Tryz.ntmps32
        go_wp2_with fail
        go_ret
        exact ⟨rfl, rfl⟩
    · clear h
      go_enter Tryz.func32, Tryz.ntmps32
      go_wp2_with fail
      go_ret
      exact ⟨rfl, rfl⟩
  · clear h
    go_enter Tryz.func32, Tryz.ntmps32
    go_wp2_with fail
    go_ret
    exact ⟨rfl, rfl⟩
end Go.Proofs.YtagdlpodpokmmaaGreatDoor.S7
/- The document's Wrap and Unwrap. -/
namespace Go.Proofs.YtagdlpodpokmmaaGreatDoor.S7
open Go.RowKit
section
variable {B d : Nat} {L : List Su.Thing} {w : World} {kv : Value} {k : List Nat}
theorem rWrap_range (w : World) (sp kv tv : Value) (who ep : Int) (h : ¬ ((1 ≤ who ∧ who ≤ 16) ∧ 1 ≤ ep ∧ ep ≤ 16)) : Calls Tryz.prog 12 #[sp, kv, .int .i64 who, .int .i64 ep, tv] w fun e w' => e = .returned (.tuple #[.slice none 0 0, .int .i64 12]) ∧ w' = w := by
  have HS : Hid (Calls Tryz.prog 32 #[.int .i64 who, .int .i64 ep] w fun e w' => e = .returned (.bool false) ∧ w' = w) := spot_no w who ep h
  clear h
  go_enter Tryz.func12, Tryz.ntmps12
  go_wp2_with fail
  refine HS.out.mono ?_
  rintro e w1 ⟨rfl, hw⟩
  obtain rfl : w = w1 := hw.symm
  clear hw
  go_wp2_with fail
  go_ret2
  exact ⟨rfl, rfl⟩
theorem rWrap_size (w : World) (sp kv : Value) (who ep : Int) (h : (1 ≤ who ∧ who ≤ 16) ∧ 1 ≤ ep ∧ ep ≤ 16) (q : Option Addr) (n c : Nat) (hn : n ≠ 32) : Calls Tryz.prog 12 #[sp, kv, .int .i64 who, .int .i64 ep, .slice q n c] w fun e w' => e = .returned (.tuple #[.slice none 0 0, .int .i64 11]) ∧ w' = w := by
  have HS : Hid (Calls Tryz.prog 32 #[.int .i64 who, .int .i64 ep] w fun e w' => e = .returned (.bool true) ∧ w' = w) := spot_yes w who ep h
  have h1 : ((n : Int) == 32) = false := by rw [beq_eq_false_iff_ne]; omega
  have h2 : ¬ (n : Int) = 32 := by omega
  clear h hn
  go_enter Tryz.func12, Tryz.ntmps12
  go_wp2_with fail
  refine HS.out.mono ?_
  rintro e w1 ⟨rfl, hw⟩
  obtain rfl : w = w1 := hw.symm
  clear hw
  go_wp2_with fail
  go_ret2
  exact ⟨rfl, rfl⟩
set_option maxHeartbeats 1000000 in
theorem rWrap_ok (h : Doc B w d L) (hL : L.length < 900000) (hB : B ≤ w.heap.size) (hk : By B w kv k) (who ep : Nat) (hw : 1 ≤ who ∧ who ≤ 16) (he : 1 ≤ ep ∧ ep ≤ 16) {tq : Option Addr} {tc : Nat} {t : List Nat} (ht : By B w (.slice tq 32 tc) t) (htl : t.length = 32) :
    Calls Tryz.prog 12 #[.pointer (some ⟨d, 0, none⟩), kv, .int .i64 (who : Int), .int .i64 (ep : Int), .slice tq 32 tc] w fun e w' => ∃ v, e = .returned (.tuple #[v, .int .i64 0]) ∧ w'.ownsRow w.heap.size 5 1 v 48 (ints .u8 (Su.box ((adk L k memB who).length + 1) 32)) ∧ Doc B w' d (adk L k memB who ++ [bxT L k who ep t]) ∧ Kx TD B w w' := by
  have HS : Hid (Calls Tryz.prog 32 #[.int .i64 (who : Int), .int .i64 (ep : Int)] w fun e w' => e = .returned (.bool true) ∧ w' = w) := spot_yes w who ep (by omega)
  have HD : Hid (Calls Tryz.prog 10 #[.pointer (some ⟨d, 0, none⟩), kv, .string ⟨#[109, 101, 109, 98, 101, 114]⟩, .int .i64 (who : Int)] w fun e w' => ∃ u, e = .returned u ∧ w'.ownsRow w.heap.size 5 1 u 32 (ints .u8 (mk L k memB who)) ∧ Doc B w' d (adk L k memB who) ∧ Kx TD B w w') := by
    rw [memS]
    exact rDerived_any h (by omega) hB hk memB mem_ok.1 mem_ok.2 who (by omega)
  have HN : Hid (∀ w1, Calls Tryz.prog 19 #[.int .i64 0, .int .i64 (ep : Int)] w1 fun e w' => ∃ v, e = .returned v ∧ w'.ownsRow w1.heap.size 5 1 v 12 (ints .u8 (non 0 ep)) ∧ Below w1.heap.size w1 w') := fun w1 => rNonce_any w1 0 ep (by omega) (by omega)
  have HT : Hid (By B w (.slice tq 32 tc) t ∧ B ≤ w.heap.size ∧ t.length = 32 ∧ L.length < 900000) := ⟨ht, hB, htl, hL⟩
  clear h hL hB hk hw he ht htl
  go_enter Tryz.func12, Tryz.ntmps12
  go_wp2_with fail
  refine HS.out.mono ?_
  rintro e w1 ⟨rfl, hw⟩
  obtain rfl : w = w1 := hw.symm
  clear hw HS
  go_wp2_with fail
  refine HD.out.mono ?_
  rintro e w1 ⟨u, rfl, h1, h2, h3⟩
  have H1 : Hid (By B w1 u (mk L k memB who) ∧ Doc B w1 d (adk L k memB who) ∧ Kx TD B w w1) := ⟨By.own (mk_small _ _ _ _) h1, h2, h3⟩
  clear h1 h2 h3 HD
  go_wp2_with fail
  refine (HN.out w1).mono ?_
  rintro e w2 ⟨nv, rfl, ho, hb⟩
  have h1 := H1.out
  have hB1 : B ≤ w1.heap.size := Nat.le_trans HT.out.2.1 h1.2.2.low.size
  have hB2 : B ≤ w2.heap.size := Nat.le_trans hB1 hb.size
  have hcv := Lib.run_convert_bytes_const (P := Tryz.prog) w2 22 5 #[.int .u8 119, .int .u8 114, .int .u8 97, .int .u8 112] 4 4 Tryz.underlying22 Tryz.underlying5
  have hb3 : Below w2.heap.size w2 (w2.alloc (.cells #[.int .u8 119, .int .u8 114, .int .u8 97, .int .u8 112] 5 (4, 5))) := below_alloc' w2 _
  have hl : By B (w2.alloc (.cells #[.int .u8 119, .int .u8 114, .int .u8 97, .int .u8 112] 5 (4, 5))) (.slice (some ⟨w2.heap.size, 0, none⟩) 4 4) wraB := lit_by B w2 wraB _ _ rfl (by decide) rfl
  generalize hW3 : w2.alloc (.cells #[.int .u8 119, .int .u8 114, .int .u8 97, .int .u8 112] 5 (4, 5)) = w3 at hcv hb3 hl
  have hb13 : Below w1.heap.size w1 w3 := hb.trans (hb3.mono hb.size)
  have HC : Hid (Calls Tryz.prog 33 #[.pointer (some ⟨d, 0, none⟩), u, nv, .slice (some ⟨w2.heap.size, 0, none⟩) 4 4, .slice tq 32 tc] w3 fun e w' => ∃ v, e = .returned (.tuple #[v, .int .i64 0]) ∧ w'.ownsRow w.heap.size 5 1 v 48 (ints .u8 (Su.box ((adk L k memB who).length + 1) 32)) ∧ Doc B w' d (adk L k memB who ++ [bxT L k who ep t]) ∧ Kx TD B w w') := by
    have hT := HT.out
    refine (rSeal_ok (mk L k memB who) (non 0 ep) wraB t u nv _ (.slice tq 32 tc) B d (adk L k memB who) w3 (h1.2.1.below hb13) (h1.1.below hb13) ((By.own (B := B) (non_small 0 ep) ho).below hb3) hl ((hT.1.kx h1.2.2 (by decide)).below hb13) (mk_length _ _ _ _) (non_length 0 ep) (by omega) (Nat.le_trans hB1 hb13.size) (by have := adk_length L k memB who; omega)).mono ?_
    rintro e w' ⟨v, rfl, k1, k2, k3⟩
    rw [hT.2.2.1] at k1
    exact ⟨v, rfl, own_older k1 (Nat.le_trans h1.2.2.low.size hb13.size), k2, (h1.2.2.trans (Kx.of_below hb13 hB1)).trans k3⟩
  clear h1 hB1 hB2 hb hb3 hl hb13 ho hW3 HT HN H1
  go_wp2_with fail
  refine HC.out.mono ?_
  rintro e w4 ⟨v, rfl, k1, k2, k3⟩
  have HZ : Hid (w4.ownsRow w.heap.size 5 1 v 48 (ints .u8 (Su.box ((adk L k memB who).length + 1) 32)) ∧ Doc B w4 d (adk L k memB who ++ [bxT L k who ep t]) ∧ Kx TD B w w4) := ⟨k1, k2, k3⟩
  clear k1 k2 k3 HC hcv
  go_wp2_with fail
  go_ret2
  exact ⟨_, rfl, HZ.out⟩
theorem rUnwrap_range (w : World) (sp kv tv : Value) (who ep : Int) (h : ¬ ((1 ≤ who ∧ who ≤ 16) ∧ 1 ≤ ep ∧ ep ≤ 16)) : Calls Tryz.prog 14 #[sp, kv, .int .i64 who, .int .i64 ep, tv] w fun e w' => e = .returned (.tuple #[.slice none 0 0, .int .i64 12]) ∧ w' = w := by
  have HS : Hid (Calls Tryz.prog 32 #[.int .i64 who, .int .i64 ep] w fun e w' => e = .returned (.bool false) ∧ w' = w) := spot_no w who ep h
  clear h
  go_enter Tryz.func14, Tryz.ntmps14
  go_wp2_with fail
  refine HS.out.mono ?_
  rintro e w1 ⟨rfl, hw⟩
  obtain rfl : w = w1 := hw.symm
  clear hw
  go_wp2_with fail
  go_ret2
  exact ⟨rfl, rfl⟩
set_option maxHeartbeats 1000000 in
theorem rUnwrap_any {bv : Value} {b : List Nat} (h : Doc B w d L) (hL : L.length < 900000) (hS : Shr L) (hB : B ≤ w.heap.size) (hk : By B w kv k) (who ep : Nat) (hw : 1 ≤ who ∧ who ≤ 16) (he : 1 ≤ ep ∧ ep ≤ 16) (hbv : By B w bv b) {rr : Option (List Nat)} (hrr : Su.opens (mk L k memB who) (non 0 ep) wraB b 0 (adk L k memB who) = rr) :
    Calls Tryz.prog 14 #[.pointer (some ⟨d, 0, none⟩), kv, .int .i64 (who : Int), .int .i64 (ep : Int), bv] w fun e w' => ROpenSays B (un32 rr) e w' ∧ Doc B w' d (adk L k memB who) ∧ Kx TD B w w' := by
  have HS : Hid (Calls Tryz.prog 32 #[.int .i64 (who : Int), .int .i64 (ep : Int)] w fun e w' => e = .returned (.bool true) ∧ w' = w) := spot_yes w who ep (by omega)
  have HD : Hid (Calls Tryz.prog 10 #[.pointer (some ⟨d, 0, none⟩), kv, .string ⟨#[109, 101, 109, 98, 101, 114]⟩, .int .i64 (who : Int)] w fun e w' => ∃ u, e = .returned u ∧ w'.ownsRow w.heap.size 5 1 u 32 (ints .u8 (mk L k memB who)) ∧ Doc B w' d (adk L k memB who) ∧ Kx TD B w w') := by
    rw [memS]
    exact rDerived_any h (by omega) hB hk memB mem_ok.1 mem_ok.2 who (by omega)
  have HN : Hid (∀ w1, Calls Tryz.prog 19 #[.int .i64 0, .int .i64 (ep : Int)] w1 fun e w' => ∃ v, e = .returned v ∧ w'.ownsRow w1.heap.size 5 1 v 12 (ints .u8 (non 0 ep)) ∧ Below w1.heap.size w1 w') := fun w1 => rNonce_any w1 0 ep (by omega) (by omega)
  have HT : Hid (By B w bv b ∧ B ≤ w.heap.size ∧ L.length < 900000 ∧ Shr L ∧ Su.opens (mk L k memB who) (non 0 ep) wraB b 0 (adk L k memB who) = rr) := ⟨hbv, hB, hL, hS, hrr⟩
  clear h hL hB hk hw he hbv hS hrr
  go_enter Tryz.func14, Tryz.ntmps14
  go_wp2_with fail
  refine HS.out.mono ?_
  rintro e w1 ⟨rfl, hw⟩
  obtain rfl : w = w1 := hw.symm
  clear hw HS
  go_wp2_with fail
  refine HD.out.mono ?_
  rintro e w1 ⟨u, rfl, h1, h2, h3⟩
  have H1 : Hid (By B w1 u (mk L k memB who) ∧ Doc B w1 d (adk L k memB who) ∧ Kx TD B w w1) := ⟨By.own (mk_small _ _ _ _) h1, h2, h3⟩
  clear h1 h2 h3 HD
  go_wp2_with fail
  refine (HN.out w1).mono ?_
  rintro e w2 ⟨nv, rfl, ho, hb⟩
  have h1 := H1.out
  have hB1 : B ≤ w1.heap.size := Nat.le_trans HT.out.2.1 h1.2.2.low.size
  have hcv := Lib.run_convert_bytes_const (P := Tryz.prog) w2 22 5 #[.int .u8 119, .int .u8 114, .int .u8 97, .int .u8 112] 4 4 Tryz.underlying22 Tryz.underlying5
  have hb3 : Below w2.heap.size w2 (w2.alloc (.cells #[.int .u8 119, .int .u8 114, .int .u8 97, .int .u8 112] 5 (4, 5))) := below_alloc' w2 _
  have hl : By B (w2.alloc (.cells #[.int .u8 119, .int .u8 114, .int .u8 97, .int .u8 112] 5 (4, 5))) (.slice (some ⟨w2.heap.size, 0, none⟩) 4 4) wraB := lit_by B w2 wraB _ _ rfl (by decide) rfl
  generalize hW3 : w2.alloc (.cells #[.int .u8 119, .int .u8 114, .int .u8 97, .int .u8 112] 5 (4, 5)) = w3 at hcv hb3 hl
  have hb13 : Below w1.heap.size w1 w3 := hb.trans (hb3.mono hb.size)
  have HC : Hid (Calls Tryz.prog 35 #[.pointer (some ⟨d, 0, none⟩), u, nv, .slice (some ⟨w2.heap.size, 0, none⟩) 4 4, bv] w3 fun e w' => ROpenSays B rr e w' ∧ Doc B w' d (adk L k memB who) ∧ Kx TD B w w') := by
    have hT := HT.out
    rw [← hT.2.2.2.2]
    refine (rOpen_any (mk L k memB who) (non 0 ep) wraB b u nv _ bv B d (adk L k memB who) w3 (h1.2.1.below hb13) (h1.1.below hb13) ((By.own (B := B) (non_small 0 ep) ho).below hb3) hl ((hT.1.kx h1.2.2 (by decide)).below hb13) (mk_length _ _ _ _) (non_length 0 ep) (by have := adk_length L k memB who; omega) (hT.2.2.2.1.adk k memB who mem_ok.2)).mono ?_
    rintro e w' ⟨k1, k2⟩
    exact ⟨k1, (h1.2.1.below hb13).below k2, (h1.2.2.trans (Kx.of_below hb13 hB1)).trans (Kx.of_below k2 (Nat.le_trans hB1 hb13.size))⟩
  clear h1 hB1 hb hb3 hl hb13 ho hW3 HT HN H1
  go_wp2_with fail
  refine HC.out.mono ?_
  rintro e w4 ⟨hr, k2, k3⟩
  have HZ : Hid (Doc B w4 d (adk L k memB who) ∧ Kx TD B w w4) := ⟨k2, k3⟩
  clear k2 k3 HC hcv
  cases rr with
  | none =>
    obtain rfl := hr
    go_wp2_with fail
    go_ret2
    exact ⟨rfl, HZ.out⟩
  | some t =>
    obtain ⟨v, rfl, hv⟩ := hr
    have HV : Hid (By B w4 v t) := hv
    obtain ⟨pv, cv, rfl, _⟩ := hv.src.slice
    clear hv
    by_cases h32 : t.length = 32
    · have HU : Hid (un32 (some t) = some t) := by show (if t.length = 32 then some t else none) = _; rw [if_pos h32]
      rw [h32] at HV
      rw [h32]
      clear h32
      go_wp2_with fail
      go_ret2
      refine ⟨?_, HZ.out⟩
      rw [HU.out]
      exact ⟨_, rfl, HV.out⟩
    · have HU : Hid (un32 (some t) = none) := by show (if t.length = 32 then some t else none) = _; rw [if_neg h32]
      have h2 : ¬ (t.length : Int) = 32 := by omega
      have h3 : ((t.length : Int) == 32) = false := by rw [beq_eq_false_iff_ne]; exact h2
      clear h32
      generalize t.length = tl at *
      go_wp2_with fail
      go_ret2
      refine ⟨?_, HZ.out⟩
      rw [HU.out]
      exact rfl
end
end Go.Proofs.YtagdlpodpokmmaaGreatDoor.S7
