/- The document's answer: less. -/
import Derived.Test.YtnceiccciaihoaaP4RNum
namespace Go.Proofs.Ytnceiccciaihoaa.P4
open Go.RowKit
theorem law_ints_from {ops : Array Oper} {rest : List Oper} {dst : Option Tmp} {T : TypeId} {pos : String} {after : Array Edge} {a : Act} {w : World} {Q : Exit → Act → World → Prop} {st xt : Tmp}
    (base : Nat) (v : Value) (n : Nat) (l : List Nat) (g of c : Nat) (m : Nat) (news : List Nat) (hs : a.eval (.tmp st) = v) (hx : a.eval (.tmp xt) = .slice (some ⟨g, of, none⟩) m c) (hm : news.length = m) (hown : w.ownsRow base 3 1 v n (ints .i64 l)) (hr : w.rangeAt g of (ints .i64 news))
    (hn : n + m ≤ 100000) (hbase : base ≤ w.heap.size)
    (h : ∀ v' w', w'.ownsRow base 3 1 v' (n + m) (ints .i64 (l ++ news)) → w.grownBy w' v.ownBlock → wpList Try.prog ops Q rest (a.put dst v') w') :
    wpList Try.prog ops Q ({ dst := dst, op := .call { callee := .builtin .append, args := #[.tmp st, .tmp xt], argTypes := #[68, 68] }, type := T, pos := pos, after := after, guard := none } :: rest) a w := by
  obtain ⟨i, hi, hsz, hby, hz⟩ := info3e
  refine wpList_append_own _ rfl (.tmp st) (.tmp xt) 68 rfl base 3 i _ 1 8 Try.underlying68 hi hz hsz hby rfl (by decide) v n (ints .i64 l) hs hown ⟨g, of, none⟩ m c (ints .i64 news) hx (by rw [ints_length]; omega) (fun j u hu => by rw [Addr.add_mid]; exact hr j u hu) (fun u hu => by obtain ⟨q, _, rfl⟩ := List.mem_map.1 hu; rfl) (by unfold maxLen; omega) (by omega) hbase (fun v' w' h1 h2 _ => h v' w' (by rw [ints_append]; exact h1) h2)
theorem own_int_lit {w : World} {base : Nat} (l : List Nat) (hb : base ≤ w.heap.size) (hn : l.length ≤ 100000) : (w.alloc (.cells (arr .i64 l) 3)).ownsRow base 3 1 (.slice (some ⟨w.heap.size, 0, none⟩) l.length l.length) l.length (ints .i64 l) := by
  refine ⟨by rw [ints_length]; simp, .inr ⟨w.heap.size, l.length, _, rfl, hb, heap_alloc_new w _, Nat.le_refl _, by unfold maxLen; omega, by rw [arr_size]; simp, ?_⟩⟩
  rw [arr_list, List.take_of_length_le (by rw [ints_length]; simp)]
theorem range_take_i {w : World} {b o : Nat} {l : List Nat} (h : w.rangeAt b o (ints .i64 l)) (n : Nat) : w.rangeAt b o (ints .i64 (l.take n)) := fun j v hv => by
  apply h j v
  have hj := (List.getElem?_eq_some_iff.1 hv).1
  simp only [ints, List.length_map, List.length_take] at hj
  simp only [ints, List.map_take] at hv ⊢
  rw [List.getElem?_take_of_lt (by omega)] at hv
  exact hv
/-- What less leaves: the same rest, and less than 2^130. -/
structure Lessed (a out : List Nat) : Prop where
  small : ∀ x ∈ out, x < 256
  same : Po.pos 256 out % Po.P = Po.pos 256 a % Po.P
  len : out.length ≤ max a.length 18
theorem lessed_step {a a1 low up t out : List Nat} (h : Lessed a a1) (h16 : 16 < a1.length) (hlow : low = a1.take 16 ++ [Sp.nth a1 16 % 4]) (hup : up = shr2 (a1.drop 16)) (ht : Po.pos 256 t = Po.pos 256 up * Po.pos 256 [5]) (htl : t.length = up.length + 1 + 1) (ho : Added low t out) : Lessed a out where
  small := ho.small
  same := by
    have e1 := split16 h16
    rw [← hlow, ← hup] at e1
    rw [← h.same, e1, ho.val, ht, Nat.mul_comm (Po.B ^ 5), Po.fold_mod]
    congr 1
    simp [Po.pos]
    omega
  len := by
    have h1 := h.len
    have h2 := ho.up
    have h3 : low.length = 17 := by rw [hlow]; simp; omega
    have h4 : up.length = a1.length - 16 := by rw [hup, shr2_length, List.length_drop]
    rw [h3, htl, h4] at h2
    omega
theorem lessed_less {a1 low up t out : List Nat} (h16 : 16 < a1.length) (hhi : Po.B ^ 5 ≤ Po.pos 256 a1) (ha1 : ∀ x ∈ a1, x < 256) (hlow : low = a1.take 16 ++ [Sp.nth a1 16 % 4]) (hup : up = shr2 (a1.drop 16)) (ht : Po.pos 256 t = Po.pos 256 up * Po.pos 256 [5]) (ho : Added low t out) : Po.pos 256 out < Po.pos 256 a1 := by
  have e1 := split16 h16
  rw [← hlow, ← hup] at e1
  rw [ho.val, ht]
  have h5 : Po.pos 256 [5] = 5 := by decide
  rw [h5]
  have hlt : Po.pos 256 low < Po.B ^ 5 := by
    have h2 : (a1.take 16).length = 16 := by rw [List.length_take]; omega
    rw [hlow, Po.pos_snoc, h2]
    have h3 := take_lt ha1 16
    have h4 : Po.B ^ 5 = 256 ^ 16 * 4 := by decide
    have h6 : 256 ^ 16 * (Sp.nth a1 16 % 4) ≤ 256 ^ 16 * 3 := Nat.mul_le_mul_left _ (by omega)
    rw [h4]
    omega
  have hu : 0 < Po.pos 256 up := by
    rcases Nat.eq_zero_or_pos (Po.pos 256 up) with h | h
    · rw [h, Nat.mul_zero] at e1
      omega
    · exact h
  rw [e1]
  have h7 : Po.B ^ 5 = 1361129467683753853853498429727072845824 := by decide
  rw [h7]
  omega
set_option maxHeartbeats 2000000 in
theorem less_any (a : List Nat) (va : Value) (w : World) (hva : NumIs w va a) (ha : ∀ x ∈ a, x < 256) (hal : a.length ≤ 900) :
    Calls Try.prog 51 #[va] w fun e w' => ∃ v out, e = .returned v ∧ NumIs w' v out ∧ Lessed a out ∧ Po.pos 256 out < Po.B ^ 5 ∧ Below w.heap.size w w' := by
  have HVA : Hid (NumIs w va a) := hva
  have HL0 : Hid (Lessed a a) := ⟨ha, rfl, by omega⟩
  clear hva ha
  go_enter Try.func51, Try.ntmps51
  go_wp2_with fail
  go_loopw [0] (fun v wr => ∃ a1 : List Nat, Hid (NumIs wr v a1) ∧ Hid (Lessed a a1) ∧ Hid (Below w.heap.size w wr)) (fun v wr => posSl v wr)
  case atStart => exact ⟨a, HVA.out, HL0.out, Below.refl _ _⟩
  case round =>
    clear HVA HL0
    obtain ⟨a1, HN1, HL1, HW1⟩ := hrel
    have HM1 : Hid (posSl u0 wr = Po.pos 256 a1) := posSl_of HN1.out
    have hl1 : a1.length ≤ 900 := by have := HL1.out.len; omega
    have hhi := high_any a1 u0 wr HN1.out HL1.out.small (by omega)
    obtain ⟨p1, c1, rfl, hc1, hr1⟩ := HN1.out
    have HR1 : Hid (a1 ≠ [] → ∃ b o, p1 = some ⟨b, o, none⟩ ∧ wr.rangeAt b o (ints .i64 a1)) := hr1
    obtain ⟨la, hla⟩ : ∃ la, a1.length = la := ⟨_, rfl⟩
    rw [hla] at hhi hc1 hl1 HN1 HM1 ⊢
    have HLA : Hid (a1.length = la) := hla
    clear hr1 hla
    go_wp2_with fail
    refine hhi.mono ?_
    rintro e w2 ⟨hs, rfl⟩
    clear hhi
    rcases hs with ⟨rfl, hbig⟩ | ⟨rfl, hsmall⟩
    · have h16 : 16 < la := by
        apply Decidable.byContradiction
        intro hn
        have h1 := Po.pos_lt (b := 256) (by decide) HL1.out.small
        have h2 : 256 ^ a1.length ≤ 256 ^ 16 := Nat.pow_le_pow_right (by decide) (by rw [HLA.out]; omega)
        have h3 := pow16
        omega
      have HBG : Hid (Po.B ^ 5 ≤ Po.pos 256 a1) := hbig
      clear hbig
      obtain ⟨b1, o1, rfl, hra⟩ := HR1.out (by intro e; have := HLA.out; rw [e] at this; simp at this; omega)
      have HRA : Hid (w2.rangeAt b1 o1 (ints .i64 a1)) := hra
      have x16 : Sp.nth a1 16 < 256 := Sp.nth_lt (by decide) HL1.out.small 16
      clear hra HR1 HN1
      have k16 : (16 : Int) < (la : Int) := by omega
      have k17 : (16 : Int) ≤ (c1 : Int) := by omega
      go_wp2_with (first | with_reducible (refine stop_builtin .append ?_))
      refine Stop.go ?_
      have hs0 := HW1.out.size
      have hbE : Below w2.heap.size w2 (w2.alloc (Obj.cells #[] 3)) := (Below.refl _ _).alloc (Nat.le_refl _) _
      have hO0 : (w2.alloc (Obj.cells #[] 3)).ownsRow w2.heap.size 3 1 (.slice (some ⟨w2.heap.size, 0, none⟩) 0 0) 0 (ints .i64 []) := own_int_lit [] (Nat.le_refl _) (by decide)
      refine law_ints_from w2.heap.size (.slice (some ⟨w2.heap.size, 0, none⟩) 0 0) 0 [] b1 o1 c1 16 (a1.take 16) rfl rfl (by rw [List.length_take, HLA.out]; omega) hO0 (rangeAt_below hbE (range_take_i HRA.out 16)) (by omega) (by simp) ?_
      intro v3 w3 ho3 hg3
      have hb3 : Below w2.heap.size w2 w3 := hbE.trans (below_grown' (Below.refl _ _) hg3 hO0 (by simp) (Nat.le_refl _))
      rw [Nat.zero_add, List.nil_append] at ho3
      have HO3 : Hid (w3.ownsRow w2.heap.size 3 1 v3 16 (ints .i64 (a1.take 16))) := ho3
      have HB3 : Hid (Below w2.heap.size w2 w3) := hb3
      have hs3 := hb3.size
      clear ho3 hg3 hb3 hO0 hbE
      obtain ⟨q3, cq3, rfl⟩ := own_slice HO3.out
      have cc := range_cell (rangeAt_below HB3.out HRA.out) 16 (by rw [HLA.out]; exact h16)
      have m16 : ((Sp.nth a1 16 : Nat) : Int).tmod 4 = ((Sp.nth a1 16 % 4 : Nat) : Int) := by rw [Int.tmod_eq_emod_of_nonneg (by omega)]; omega
      obtain ⟨low, hlow⟩ : ∃ low, low = a1.take 16 ++ [Sp.nth a1 16 % 4] := ⟨_, rfl⟩
      have HZL : Hid (low = a1.take 16 ++ [Sp.nth a1 16 % 4]) := hlow
      obtain ⟨z4, hz4⟩ : ∃ z4, Sp.nth a1 16 % 4 = z4 := ⟨_, rfl⟩
      have hz44 : z4 < 4 := by omega
      rw [hz4] at hlow m16
      have HLOW : Hid (low = a1.take 16 ++ [z4]) := hlow
      clear hlow hz4
      generalize Sp.nth a1 16 = y16 at cc m16 x16
      go_wp2_with (first | with_reducible (refine stop_builtin .append ?_))
      refine Stop.go ?_
      have hO4 : (w3.alloc (Obj.cells #[.int .i64 (z4 : Int)] 3)).ownsRow w2.heap.size 3 1 (.slice q3 16 cq3) 16 (ints .i64 (a1.take 16)) := ownsRow_alloc HO3.out _
      refine law_ints_from w2.heap.size (.slice q3 16 cq3) 16 (a1.take 16) w3.heap.size 0 1 1 [z4] rfl rfl rfl hO4 (rangeAt_of_row (heap_alloc_new w3 _)) (by omega) (by simp; omega) ?_
      intro v4 w4 ho4 hg4
      have hb4 : Below w2.heap.size w2 w4 := (HB3.out.alloc hs3 _).trans (below_grown' (Below.refl _ _) hg4 hO4 (by simp; omega) (Nat.le_refl _))
      rw [← HLOW.out] at ho4
      have HN4 : Hid (NumIs w4 v4 low) := own_num ho4
      have HB4 : Hid (Below w2.heap.size w2 w4) := hb4
      have HRA4 : Hid (w4.rangeAt b1 o1 (ints .i64 a1)) := rangeAt_below hb4 HRA.out
      have hs4 := hb4.size
      clear ho4 hg4 hb4 hO4 HO3 HB3 cc m16 HRA
      obtain ⟨up, hup⟩ : ∃ up, up = shr2 (a1.drop 16) := ⟨_, rfl⟩
      have HUP : Hid (up = shr2 (a1.drop 16)) := hup
      have HUL : Hid (up.length = la - 16) := by
        show _ = _
        rw [hup, shr2_length, List.length_drop, HLA.out]
      have HUN : Hid (∀ j, 16 + j < la → Sp.nth up j = Sp.nth a1 (16 + j) / 4 + Sp.nth a1 (16 + j + 1) % 4 * 64) := fun j hj => by
        rw [hup, shr2_nth _ _ (by rw [List.length_drop, HLA.out]; omega), Sp.nth_drop, Sp.nth_drop]
        rfl
      have HUB : Hid (∀ x ∈ up, x < 256) := by
        show ∀ x ∈ up, x < 256
        rw [hup]
        exact shr2_lt (lt_drop HL1.out.small 16)
      clear hup
      go_wp2_with fail
      go_loopw [4, 5] (fun sl u wr => ∃ j : Nat, 16 + j ≤ la ∧ u = .int .i64 ((16 + j : Nat) : Int) ∧ Hid (wr.ownsRow w4.heap.size 3 1 sl j (ints .i64 (up.take j))) ∧ Hid (Below w4.heap.size w4 wr)) (fun _ u _ => la - (intOf u).toNat)
      case atStart => exact ⟨0, by omega, rfl, own_none _ _ _ _, Below.refl _ _⟩
      case round =>
        obtain ⟨j, hj, rfl, HO, HW⟩ := hrel
        obtain ⟨q, cq, rfl⟩ := own_slice HO.out
        have hbn := HW.out.size
        by_cases hlt : 16 + j < la
        · obtain ⟨i, hi⟩ : ∃ i, 16 + j = i := ⟨_, rfl⟩
          have HI : Hid (16 + j = i) := hi
          have hun := HUN.out j hlt
          have HTS : Hid (up.take (j + 1) = up.take j ++ [Sp.nth up j]) := Po.take_succ_nth (by rw [HUL.out]; omega)
          rw [hi] at hun hlt ⊢
          have ci := range_cell (rangeAt_below HW.out HRA4.out) i (by rw [HLA.out]; exact hlt)
          have xi : Sp.nth a1 i < 256 := Sp.nth_lt (by decide) HL1.out.small i
          have g1 : (i : Int) < (la : Int) := by omega
          have i0 : (0 : Int) ≤ (i : Int) := by omega
          have d1 : ((Sp.nth a1 i : Nat) : Int).tdiv 4 = ((Sp.nth a1 i / 4 : Nat) : Int) := by rw [Int.tdiv_eq_ediv_of_nonneg (by omega)]; omega
          by_cases hlast : i + 1 < la
          · have ci1 := range_cell (rangeAt_below HW.out HRA4.out) (i + 1) (by rw [HLA.out]; exact hlast)
            have g2 : (i : Int) + 1 < (la : Int) := by omega
            have t2 : ((i : Int) + 1).toNat = i + 1 := by omega
            have m1 : ((Sp.nth a1 (i + 1) : Nat) : Int).tmod 4 = ((Sp.nth a1 (i + 1) % 4 : Nat) : Int) := by rw [Int.tmod_eq_emod_of_nonneg (by omega)]; omega
            have b1' : Sp.nth a1 i / 4 ≤ 63 := by omega
            have b2' : Sp.nth a1 (i + 1) % 4 ≤ 3 := by omega
            generalize Sp.nth a1 (i + 1) % 4 = r4 at *
            generalize Sp.nth a1 i / 4 = q4 at *
            generalize Sp.nth a1 (i + 1) = y1 at *
            generalize Sp.nth a1 i = y0 at *
            generalize Sp.nth up j = uj at *
            have e3 : (q4 : Int) + (r4 : Int) * 64 = (uj : Int) := by omega
            clear hun hi
            go_wp2_with (first | with_reducible (refine stop_builtin .append ?_))
            refine Stop.go ?_
            have HO2 : Hid ((wr.alloc (Obj.cells #[.int .i64 (uj : Int)] 3)).ownsRow w4.heap.size 3 1 (.slice q j cq) j (ints .i64 (up.take j))) := ownsRow_alloc HO.out _
            have HW2 : Hid (Below w4.heap.size w4 (wr.alloc (Obj.cells #[.int .i64 (uj : Int)] 3))) := HW.out.alloc hbn _
            refine law_ints_from w4.heap.size (.slice q j cq) j (up.take j) wr.heap.size 0 1 1 [uj] rfl rfl rfl HO2.out (rangeAt_of_row (heap_alloc_new wr _)) (by omega) (by simp; omega) ?_
            intro v' w' hown' hg'
            have HO5 : Hid (w'.ownsRow w4.heap.size 3 1 v' (j + 1) (ints .i64 (up.take (j + 1)))) := by
              rw [HTS.out]
              exact hown'
            have HW5 : Hid (Below w4.heap.size w4 w') := below_grown' HW2.out hg' HO2.out (by simp; omega) (Nat.le_refl _)
            clear hown' hg' HO HW HO2 HW2 HTS ci ci1
            go_wp2_with fail
            go_roundw
            case rel =>
              first
                | exact ⟨j + 1, (by have := HI.out; omega), (by have := HI.out; go_num), HO5.out, HW5.out⟩
                | ((repeat apply Exists.intro)
                   refine ⟨⟨j + 1, (by have := HI.out; omega), ?_, HO5.out, HW5.out⟩, rfl⟩
                   have := HI.out
                   go_num)
            case measure => have := HI.out; simp [intOf]; omega
          · have g2 : ¬ (i : Int) + 1 < (la : Int) := by omega
            have hz : Sp.nth a1 (i + 1) = 0 := nth_beyond (by rw [HLA.out]; omega)
            rw [hz] at hun
            have b1' : Sp.nth a1 i / 4 ≤ 63 := by omega
            generalize Sp.nth a1 i / 4 = q4 at *
            generalize Sp.nth a1 i = y0 at *
            generalize Sp.nth up j = uj at *
            obtain rfl : uj = q4 := by omega
            clear hun hi hz
            go_wp2_with (first | with_reducible (refine stop_builtin .append ?_))
            refine Stop.go ?_
            have HO2 : Hid ((wr.alloc (Obj.cells #[.int .i64 (uj : Int)] 3)).ownsRow w4.heap.size 3 1 (.slice q j cq) j (ints .i64 (up.take j))) := ownsRow_alloc HO.out _
            have HW2 : Hid (Below w4.heap.size w4 (wr.alloc (Obj.cells #[.int .i64 (uj : Int)] 3))) := HW.out.alloc hbn _
            refine law_ints_from w4.heap.size (.slice q j cq) j (up.take j) wr.heap.size 0 1 1 [uj] rfl rfl rfl HO2.out (rangeAt_of_row (heap_alloc_new wr _)) (by omega) (by simp; omega) ?_
            intro v' w' hown' hg'
            have HO5 : Hid (w'.ownsRow w4.heap.size 3 1 v' (j + 1) (ints .i64 (up.take (j + 1)))) := by
              rw [HTS.out]
              exact hown'
            have HW5 : Hid (Below w4.heap.size w4 w') := below_grown' HW2.out hg' HO2.out (by simp; omega) (Nat.le_refl _)
            clear hown' hg' HO HW HO2 HW2 HTS ci
            go_wp2_with fail
            go_roundw
            case rel =>
              first
                | exact ⟨j + 1, (by have := HI.out; omega), (by have := HI.out; go_num), HO5.out, HW5.out⟩
                | ((repeat apply Exists.intro)
                   refine ⟨⟨j + 1, (by have := HI.out; omega), ?_, HO5.out, HW5.out⟩, rfl⟩
                   have := HI.out
                   go_num)
            case measure => have := HI.out; simp [intOf]; omega
        · have g1 : ¬ ((16 + j : Nat) : Int) < (la : Int) := by omega
          have hjl : j = up.length := by rw [HUL.out]; omega
          have h1 := HO.out
          rw [hjl, List.take_length, ← hjl] at h1
          have HNU : Hid (NumIs wr (.slice q j cq) up) := own_num h1
          have HNL : Hid (NumIs wr v4 low) := HN4.out.below HW.out
          have HWA : Hid (Below w.heap.size w wr) := HW1.out.trans ((HB4.out.trans (HW.out.mono hs4)).mono hs0)
          clear h1 hjl HO HW HN4 HB4 HRA4
          generalize ((16 + j : Nat) : Int) = ij at *
          go_wp2_with fail
          have hb5 : Below wr.heap.size wr (wr.alloc (Obj.cells (arr .i64 [5]) 3)) := (Below.refl _ _).alloc (Nat.le_refl _) _
          have h5N : NumIs (wr.alloc (Obj.cells (arr .i64 [5]) 3)) (.slice (some ⟨wr.heap.size, 0, none⟩) 1 1) [5] := own_num (own_int_lit (base := 0) [5] (by omega) (by decide))
          refine (rtimes_any up [5] (.slice q j cq) _ _ (HNU.out.below hb5) h5N HUB.out (by decide) (by rw [HUL.out]; omega) (by decide)).mono ?_
          rintro e w6 ⟨vt, t, rfl, hnt, htl, htb, htv, hb6⟩
          have HNT : Hid (NumIs w6 vt t) := hnt
          have HTB : Hid (∀ x ∈ t, x < 256) := htb
          have HTL : Hid (t.length = up.length + 1 + 1) := htl
          have HTV : Hid (Po.pos 256 t = Po.pos 256 up * Po.pos 256 [5]) := htv
          have hb56 : Below wr.heap.size wr w6 := hb5.trans (hb6.mono hb5.size)
          have HNL6 : Hid (NumIs w6 v4 low) := HNL.out.below hb56
          have HW6 : Hid (Below w.heap.size w w6) := HWA.out.trans (hb56.mono HWA.out.size)
          have HLL : Hid (low.length ≤ 1000) := by
            show _ ≤ _
            rw [HLOW.out]
            simp
            omega
          have HLB : Hid (∀ x ∈ low, x < 256) := by
            show ∀ x ∈ low, x < 256
            rw [HLOW.out]
            intro x hx
            rcases List.mem_append.1 hx with h | h
            · exact HL1.out.small x (List.mem_of_mem_take h)
            · rw [List.mem_singleton.1 h]; omega
          clear hnt htb htl htv hb5 hb6 hb56 h5N HNU HNL HWA
          go_wp2_with fail
          refine (add_any low t v4 vt w6 HNL6.out HNT.out HLB.out HTB.out HLL.out (by rw [HTL.out, HUL.out]; omega)).mono ?_
          rintro e w7 ⟨v7, out, rfl, hadd, ho7, hb7⟩
          have HN7 : Hid (NumIs w7 v7 out) := own_num ho7
          have HW7 : Hid (Below w.heap.size w w7) := HW6.out.trans (hb7.mono HW6.out.size)
          have HL7 : Hid (Lessed a out) := lessed_step HL1.out (by rw [HLA.out]; exact h16) HZL.out HUP.out HTV.out HTL.out hadd
          have HLT : Hid (Po.pos 256 out < Po.pos 256 a1) := lessed_less (by rw [HLA.out]; exact h16) HBG.out HL1.out.small HZL.out HUP.out HTV.out hadd
          clear hadd ho7 hb7 HNT HTB HTL HTV HNL6 HW6 HLL HLB
          go_wp2_with fail
          go_roundw
          case rel =>
            first
              | exact ⟨out, HN7.out, HL7.out, HW7.out⟩
              | ((repeat apply Exists.intro)
                 exact ⟨⟨out, HN7.out, HL7.out, HW7.out⟩, rfl⟩)
          case measure =>
            have h1 := posSl_of HN7.out
            have h2 := HM1.out
            have h3 := HLT.out
            rw [← h1, ← h2] at h3
            exact h3
    · have HSM : Hid (Po.pos 256 a1 < Po.B ^ 5) := hsmall
      clear hsmall HR1
      go_wp2_with fail
      go_ret
      first
        | exact ⟨_, rfl, a1, HN1.out, HL1.out, HSM.out, HW1.out⟩
        | exact ⟨_, a1, rfl, HN1.out, HL1.out, HSM.out, HW1.out⟩
end Go.Proofs.Ytnceiccciaihoaa.P4
