/- The document's answer of layer 2: pad, Code. -/
import Derived.Test.YtnbdadhdpplldabDoorSteps
namespace Go.Proofs.YtnbdadhdpplldabDoor
open Go.RowKit
theorem own_weaken {w : World} {b b' e size : Nat} {v : Value} {n : Nat} {xs : List Value} (h : w.ownsRow b e size v n xs) (hb : b' ≤ b) : w.ownsRow b' e size v n xs := by
  obtain ⟨h1, h2 | ⟨g, cap, cur, h3, hg, rest⟩⟩ := h
  · exact ⟨h1, .inl h2⟩
  · exact ⟨h1, .inr ⟨g, cap, cur, h3, Nat.le_trans hb hg, rest⟩⟩
theorem pad_next (key : List Nat) (x k N : Nat) (hk : k < 64) {S : List Nat} (hS : Mk.short key = S) (hN : S.length = N) : (Mk.mask (Mk.fill key) x).take (k + 1) = (Mk.mask (Mk.fill key) x).take k ++ [if k < N then Sp.nth S k ^^^ x else x] := by
  have hl : (Mk.mask (Mk.fill key) x).length = 64 := by rw [Mk.mask_length, Mk.fill_length]
  rw [List.take_add_one, Sp.nth_of (by rw [hl]; exact hk)]
  congr 1
  have e : Sp.nth (Mk.mask (Mk.fill key) x) k = if k < N then Sp.nth S k ^^^ x else x := by
    have hfl := Mk.fill_length key
    have h1 : Sp.nth (Mk.mask (Mk.fill key) x) k = Sp.nth (Mk.fill key) k ^^^ x := by
      simp [Sp.nth, Mk.mask, hfl, hk]
    rw [h1]
    unfold Mk.fill
    rw [hS, hN]
    by_cases h : k < N
    · rw [if_pos h, Sp.nth_append_left (by rw [hN]; exact h)]
    · rw [if_neg h]
      have h2 := Sp.nth_append_right (l := S) (m := List.replicate (64 - N) 0) (k - N)
      rw [hN, show N + (k - N) = k from by omega] at h2
      rw [h2]
      have h3 : Sp.nth (List.replicate (64 - N) 0) (k - N) = 0 := by
        simp only [Sp.nth, List.getD_eq_getElem?_getD, List.getElem?_replicate]
        split <;> rfl
      rw [h3, Nat.zero_xor]
  rw [e]
  rfl
set_option maxHeartbeats 2000000 in
theorem pad_any (key : List Nat) (p : Option Addr) (n c x : Nat) (w : World) (hK : BytesAt w (.slice p n c) key) (hn : n ≤ 1000) (hx : x < 256) :
    Calls Tryd.prog 17 #[.slice p n c, .int .u8 x] w fun e w' => ∃ v, e = .returned v ∧ w'.ownsRow w.heap.size 5 1 v 64 (ints .u8 (Mk.mask (Mk.fill key) x)) ∧ Below w.heap.size w w' := by
  have HK : Hid (BytesAt w (.slice p n c) key) := hK
  have HKL : Hid (key.length = n) := (bytesAt_src hK).1
  have n0 : (n : Int) ≤ 1000 := by omega
  clear hK
  by_cases hlong : 64 < n
  · have hl' : (64 : Int) < (n : Int) := by omega
    have HSE : Hid (Mk.short key = Sp.sum key) := by
      show _ = _
      unfold Mk.short
      rw [if_pos (by rw [HKL.out]; exact hlong)]
    have HSL : Hid ((Sp.sum key).length = 32) := sum_length key
    have HSS : Hid (∀ y ∈ Sp.sum key, y < 256) := Mk.sum_small key
    have HC := rsum_step HK.out (by intro e; have := HKL.out; rw [e] at this; simp at this; omega) (by rw [HKL.out]; exact hn)
    have HCH : Hid (Calls Tryd.prog 16 #[.slice p n c] w fun e w2 => ∃ v, e = .returned v ∧ Below w.heap.size w w2 ∧ BV (Sp.sum key) v w2) := HC
    clear HC
    obtain ⟨F, hF⟩ : ∃ F, Mk.mask (Mk.fill key) x = F := ⟨_, rfl⟩
    rw [hF]
    have HFN : Hid (∀ k, k < 64 → F.take (k + 1) = F.take k ++ [if k < 32 then Sp.nth (Sp.sum key) k ^^^ x else x]) := fun k hk => by
      rw [← hF]
      exact pad_next key x k 32 hk HSE.out HSL.out
    have HFL : Hid (F.length = 64) := by
      show _ = _
      rw [← hF, Mk.mask_length, Mk.fill_length]
    clear hF HSE
    go_enter Tryd.func17, Tryd.ntmps17
    go_wp2_with fail
    refine HCH.out.mono ?_
    rintro e W1 ⟨v1, rfl, hbw, hv1⟩
    obtain ⟨p1, c1, rfl⟩ := bytesAt_slice hv1
    rw [sum_length] at hv1
    rw [sum_length]
    have HBW : Hid (Below w.heap.size w W1) := hbw
    have HSRC : Hid (Sp.sum key ≠ [] → ∃ b o, p1 = some ⟨b, o, none⟩ ∧ W1.rangeAt b o (ints .u8 (Sp.sum key))) := (bytesAt_src hv1).2
    clear hbw hv1 HCH HK
    go_wp2_with fail
    go_loopw [5, 6] (fun sl i wr => ∃ k : Nat, k ≤ 64 ∧ i = .int .i64 k ∧ Hid (wr.ownsRow W1.heap.size 5 1 sl k (ints .u8 (F.take k))) ∧ Hid (Below W1.heap.size W1 wr)) (fun _ i _ => 64 - (intOf i).toNat)
    case atStart => exact ⟨0, by omega, rfl, own_none _ _ _ _, Below.refl _ _⟩
    case round =>
      obtain ⟨k, hk, rfl, HO, HB⟩ := hrel
      obtain ⟨q, cq, rfl⟩ := own_slice HO.out
      by_cases hlt : k < 64
      · have k1 : (k : Int) < 64 := by omega
        have k0 : (0 : Int) ≤ (k : Int) := by omega
        have HNX := HFN.out k hlt
        have hbs := HB.out.size
        by_cases hin : k < 32
        · have k2 : (k : Int) < (32 : Int) := by omega
          rw [if_pos hin] at HNX
          obtain ⟨b, o, hpe, hr⟩ := HSRC.out (by intro e; have := HSL.out; rw [e] at this; simp at this <;> omega)
          have hc1 := rangeAt_below HB.out hr k _ (ints_get .u8 (Sp.sum key) k (by rw [HSL.out]; exact hin))
          have hy : Sp.nth (Sp.sum key) k < 256 := Sp.nth_lt (by decide) HSS.out _
          have hxx := u8_xor_nat _ _ hx hy
          rw [Nat.xor_comm] at hxx
          have HN1 : Hid (F.take (k + 1) = F.take k ++ [Sp.nth (Sp.sum key) k ^^^ x]) := HNX
          clear HNX hr
          generalize Sp.nth (Sp.sum key) k = y at *
          generalize hZ : y ^^^ x = z at *
          subst hpe
          have hbA : Below wr.heap.size wr (wr.alloc (Obj.cells (arr .u8 [z]) 5)) := (Below.refl _ _).alloc (Nat.le_refl _) _
          have HO2 : Hid ((wr.alloc (Obj.cells (arr .u8 [z]) 5)).ownsRow W1.heap.size 5 1 (.slice q k cq) k (ints .u8 (F.take k))) := own_below HO.out hbA
          have HB2 : Hid (Below W1.heap.size W1 (wr.alloc (Obj.cells (arr .u8 [z]) 5))) := HB.out.trans (hbA.mono hbs)
          have HR2 : Hid (SrcIs (wr.alloc (Obj.cells (arr .u8 [z]) 5)) (.slice (some ⟨wr.heap.size, 0, none⟩) 1 1) [z]) := .inr ⟨⟨wr.heap.size, 0, none⟩, 1, rfl, fun j u hu => by rw [Addr.add_mid]; exact rangeAt_of_row (heap_alloc_new wr _) j u hu⟩
          clear hbA HO HB
          go_wp2_with (first | with_reducible (refine stop_builtin .append ?_))
          refine Stop.go ?_
          rw [show (Obj.cells #[Value.int .u8 ((z : Nat) : Int)] 5 : Obj) = Obj.cells (arr .u8 [z]) 5 from rfl]
          with_reducible refine law_append W1.heap.size (.slice q k cq) k (ints .u8 (F.take k)) (.slice (some ⟨wr.heap.size, 0, none⟩) 1 1) [z] ?asvA ?axvA HO2.out HR2.out (by simp; omega) HB2.out.size ?akA
          case asvA => exact rfl
          case axvA => exact rfl
          intro v6 w6 hown6 hg6
          have HO6 : Hid (w6.ownsRow W1.heap.size 5 1 v6 (k + 1) (ints .u8 (F.take (k + 1)))) := by
            rw [HN1.out, ints_append]
            exact hown6
          have HB6 : Hid (Below W1.heap.size W1 w6) := below_grown' HB2.out hg6 HO2.out HB2.out.size (Nat.le_refl _)
          clear hown6 hg6 HO2 HB2 HR2 HN1
          go_wp2_with fail
          go_roundw
          case rel => exact ⟨k + 1, by omega, by go_num, HO6.out, HB6.out⟩
          case measure => simp [intOf]; omega
        · have k2 : ¬ (k : Int) < (32 : Int) := by omega
          rw [if_neg hin] at HNX
          have HN1 : Hid (F.take (k + 1) = F.take k ++ [x]) := HNX
          clear HNX
          have hbA : Below wr.heap.size wr (wr.alloc (Obj.cells (arr .u8 [x]) 5)) := (Below.refl _ _).alloc (Nat.le_refl _) _
          have HO2 : Hid ((wr.alloc (Obj.cells (arr .u8 [x]) 5)).ownsRow W1.heap.size 5 1 (.slice q k cq) k (ints .u8 (F.take k))) := own_below HO.out hbA
          have HB2 : Hid (Below W1.heap.size W1 (wr.alloc (Obj.cells (arr .u8 [x]) 5))) := HB.out.trans (hbA.mono hbs)
          have HR2 : Hid (SrcIs (wr.alloc (Obj.cells (arr .u8 [x]) 5)) (.slice (some ⟨wr.heap.size, 0, none⟩) 1 1) [x]) := .inr ⟨⟨wr.heap.size, 0, none⟩, 1, rfl, fun j u hu => by rw [Addr.add_mid]; exact rangeAt_of_row (heap_alloc_new wr _) j u hu⟩
          clear hbA HO HB
          go_wp2_with (first | with_reducible (refine stop_builtin .append ?_))
          refine Stop.go ?_
          rw [show (Obj.cells #[Value.int .u8 ((x : Nat) : Int)] 5 : Obj) = Obj.cells (arr .u8 [x]) 5 from rfl]
          with_reducible refine law_append W1.heap.size (.slice q k cq) k (ints .u8 (F.take k)) (.slice (some ⟨wr.heap.size, 0, none⟩) 1 1) [x] ?bsvA ?bxvA HO2.out HR2.out (by simp; omega) HB2.out.size ?bkA
          case bsvA => exact rfl
          case bxvA => exact rfl
          intro v6 w6 hown6 hg6
          have HO6 : Hid (w6.ownsRow W1.heap.size 5 1 v6 (k + 1) (ints .u8 (F.take (k + 1)))) := by
            rw [HN1.out, ints_append]
            exact hown6
          have HB6 : Hid (Below W1.heap.size W1 w6) := below_grown' HB2.out hg6 HO2.out HB2.out.size (Nat.le_refl _)
          clear hown6 hg6 HO2 HB2 HR2 HN1
          go_wp2_with fail
          go_roundw
          case rel => exact ⟨k + 1, by omega, by go_num, HO6.out, HB6.out⟩
          case measure => simp [intOf]; omega
      · obtain rfl : k = 64 := by omega
        have hO := HO.out
        rw [List.take_of_length_le (by rw [HFL.out]; exact Nat.le_refl _)] at hO
        have HF : Hid (wr.ownsRow w.heap.size 5 1 (.slice q 64 cq) 64 (ints .u8 F)) := own_weaken hO HBW.out.size
        have HB9 : Hid (Below w.heap.size w wr) := HBW.out.trans (HB.out.mono HBW.out.size)
        clear hO HO HB
        go_wp2_with fail
        go_ret
        exact ⟨_, rfl, HF.out, HB9.out⟩
  · have hl' : ¬ (64 : Int) < (n : Int) := by omega
    have HSE : Hid (Mk.short key = key) := by
      show _ = _
      unfold Mk.short
      rw [if_neg (by rw [HKL.out]; exact hlong)]
    have HSL : Hid (key.length = n) := HKL.out
    have HSS : Hid (∀ y ∈ key, y < 256) := HK.out.1
    obtain ⟨W1, hW1⟩ : ∃ W1, w = W1 := ⟨_, rfl⟩
    have HBW : Hid (Below w.heap.size w W1) := by
      rw [← hW1]
      exact Below.refl _ _
    have HSRC : Hid (key ≠ [] → ∃ b o, p = some ⟨b, o, none⟩ ∧ W1.rangeAt b o (ints .u8 key)) := by
      rw [← hW1]
      exact (bytesAt_src HK.out).2
    obtain ⟨F, hF⟩ : ∃ F, Mk.mask (Mk.fill key) x = F := ⟨_, rfl⟩
    rw [hF]
    have HFN : Hid (∀ k, k < 64 → F.take (k + 1) = F.take k ++ [if k < n then Sp.nth key k ^^^ x else x]) := fun k hk => by
      rw [← hF]
      exact pad_next key x k n hk HSE.out HSL.out
    have HFL : Hid (F.length = 64) := by
      show _ = _
      rw [← hF, Mk.mask_length, Mk.fill_length]
    clear hF HSE
    rw [hW1]
    rw [hW1] at HBW HK
    subst hW1
    clear HK
    go_enter Tryd.func17, Tryd.ntmps17
    go_wp2_with fail
    go_loopw [5, 6] (fun sl i wr => ∃ k : Nat, k ≤ 64 ∧ i = .int .i64 k ∧ Hid (wr.ownsRow w.heap.size 5 1 sl k (ints .u8 (F.take k))) ∧ Hid (Below w.heap.size w wr)) (fun _ i _ => 64 - (intOf i).toNat)
    case atStart => exact ⟨0, by omega, rfl, own_none _ _ _ _, Below.refl _ _⟩
    case round =>
      obtain ⟨k, hk, rfl, HO, HB⟩ := hrel
      obtain ⟨q, cq, rfl⟩ := own_slice HO.out
      by_cases hlt : k < 64
      · have k1 : (k : Int) < 64 := by omega
        have k0 : (0 : Int) ≤ (k : Int) := by omega
        have HNX := HFN.out k hlt
        have hbs := HB.out.size
        by_cases hin : k < n
        · have k2 : (k : Int) < (n : Int) := by omega
          rw [if_pos hin] at HNX
          obtain ⟨b, o, hpe, hr⟩ := HSRC.out (by intro e; have := HSL.out; rw [e] at this; simp at this <;> omega)
          have hc1 := rangeAt_below HB.out hr k _ (ints_get .u8 key k (by rw [HSL.out]; exact hin))
          have hy : Sp.nth key k < 256 := Sp.nth_lt (by decide) HSS.out _
          have hxx := u8_xor_nat _ _ hx hy
          rw [Nat.xor_comm] at hxx
          have HN1 : Hid (F.take (k + 1) = F.take k ++ [Sp.nth key k ^^^ x]) := HNX
          clear HNX hr
          generalize Sp.nth key k = y at *
          generalize hZ : y ^^^ x = z at *
          subst hpe
          have hbA : Below wr.heap.size wr (wr.alloc (Obj.cells (arr .u8 [z]) 5)) := (Below.refl _ _).alloc (Nat.le_refl _) _
          have HO2 : Hid ((wr.alloc (Obj.cells (arr .u8 [z]) 5)).ownsRow w.heap.size 5 1 (.slice q k cq) k (ints .u8 (F.take k))) := own_below HO.out hbA
          have HB2 : Hid (Below w.heap.size w (wr.alloc (Obj.cells (arr .u8 [z]) 5))) := HB.out.trans (hbA.mono hbs)
          have HR2 : Hid (SrcIs (wr.alloc (Obj.cells (arr .u8 [z]) 5)) (.slice (some ⟨wr.heap.size, 0, none⟩) 1 1) [z]) := .inr ⟨⟨wr.heap.size, 0, none⟩, 1, rfl, fun j u hu => by rw [Addr.add_mid]; exact rangeAt_of_row (heap_alloc_new wr _) j u hu⟩
          clear hbA HO HB
          go_wp2_with (first | with_reducible (refine stop_builtin .append ?_))
          refine Stop.go ?_
          rw [show (Obj.cells #[Value.int .u8 ((z : Nat) : Int)] 5 : Obj) = Obj.cells (arr .u8 [z]) 5 from rfl]
          with_reducible refine law_append w.heap.size (.slice q k cq) k (ints .u8 (F.take k)) (.slice (some ⟨wr.heap.size, 0, none⟩) 1 1) [z] ?asvB ?axvB HO2.out HR2.out (by simp; omega) HB2.out.size ?akB
          case asvB => exact rfl
          case axvB => exact rfl
          intro v6 w6 hown6 hg6
          have HO6 : Hid (w6.ownsRow w.heap.size 5 1 v6 (k + 1) (ints .u8 (F.take (k + 1)))) := by
            rw [HN1.out, ints_append]
            exact hown6
          have HB6 : Hid (Below w.heap.size w w6) := below_grown' HB2.out hg6 HO2.out HB2.out.size (Nat.le_refl _)
          clear hown6 hg6 HO2 HB2 HR2 HN1
          go_wp2_with fail
          go_roundw
          case rel => exact ⟨k + 1, by omega, by go_num, HO6.out, HB6.out⟩
          case measure => simp [intOf]; omega
        · have k2 : ¬ (k : Int) < (n : Int) := by omega
          rw [if_neg hin] at HNX
          have HN1 : Hid (F.take (k + 1) = F.take k ++ [x]) := HNX
          clear HNX
          have hbA : Below wr.heap.size wr (wr.alloc (Obj.cells (arr .u8 [x]) 5)) := (Below.refl _ _).alloc (Nat.le_refl _) _
          have HO2 : Hid ((wr.alloc (Obj.cells (arr .u8 [x]) 5)).ownsRow w.heap.size 5 1 (.slice q k cq) k (ints .u8 (F.take k))) := own_below HO.out hbA
          have HB2 : Hid (Below w.heap.size w (wr.alloc (Obj.cells (arr .u8 [x]) 5))) := HB.out.trans (hbA.mono hbs)
          have HR2 : Hid (SrcIs (wr.alloc (Obj.cells (arr .u8 [x]) 5)) (.slice (some ⟨wr.heap.size, 0, none⟩) 1 1) [x]) := .inr ⟨⟨wr.heap.size, 0, none⟩, 1, rfl, fun j u hu => by rw [Addr.add_mid]; exact rangeAt_of_row (heap_alloc_new wr _) j u hu⟩
          clear hbA HO HB
          go_wp2_with (first | with_reducible (refine stop_builtin .append ?_))
          refine Stop.go ?_
          rw [show (Obj.cells #[Value.int .u8 ((x : Nat) : Int)] 5 : Obj) = Obj.cells (arr .u8 [x]) 5 from rfl]
          with_reducible refine law_append w.heap.size (.slice q k cq) k (ints .u8 (F.take k)) (.slice (some ⟨wr.heap.size, 0, none⟩) 1 1) [x] ?bsvB ?bxvB HO2.out HR2.out (by simp; omega) HB2.out.size ?bkB
          case bsvB => exact rfl
          case bxvB => exact rfl
          intro v6 w6 hown6 hg6
          have HO6 : Hid (w6.ownsRow w.heap.size 5 1 v6 (k + 1) (ints .u8 (F.take (k + 1)))) := by
            rw [HN1.out, ints_append]
            exact hown6
          have HB6 : Hid (Below w.heap.size w w6) := below_grown' HB2.out hg6 HO2.out HB2.out.size (Nat.le_refl _)
          clear hown6 hg6 HO2 HB2 HR2 HN1
          go_wp2_with fail
          go_roundw
          case rel => exact ⟨k + 1, by omega, by go_num, HO6.out, HB6.out⟩
          case measure => simp [intOf]; omega
      · obtain rfl : k = 64 := by omega
        have hO := HO.out
        rw [List.take_of_length_le (by rw [HFL.out]; exact Nat.le_refl _)] at hO
        have HF : Hid (wr.ownsRow w.heap.size 5 1 (.slice q 64 cq) 64 (ints .u8 F)) := own_weaken hO HBW.out.size
        have HB9 : Hid (Below w.heap.size w wr) := HBW.out.trans (HB.out.mono HBW.out.size)
        clear hO HO HB
        go_wp2_with fail
        go_ret
        exact ⟨_, rfl, HF.out, HB9.out⟩
end Go.Proofs.YtnbdadhdpplldabDoor
