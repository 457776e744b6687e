/- Unwrap, whatever the suite. -/
import Derived.Test.YtagdlpodpokmmaaDoorR14Key
namespace Go.Proofs.YtagdlpodpokmmaaDoor.S7
open Go.RowKit
theorem Unwrap_range (w : World) (sp kv tv : Value) (who ep : Int) (h : ¬ ((1 ≤ who ∧ who ≤ 16) ∧ 1 ≤ ep ∧ ep ≤ 16)) : Calls Tryd.prog 13 #[sp, kv, .int .i64 who, .int .i64 ep, tv] w fun e w' => e = .returned (.tuple #[.slice none 0 0, .int .i64 12]) ∧ w' = w := by
  by_cases h1 : 1 ≤ who ∧ who ≤ 16
  · have HP : Hid (Calls Tryd.prog 25 #[.int .i64 who] w fun e w' => e = .returned (.bool true) ∧ w' = w) := isPerson_yes w who h1
    have HL : Hid (Calls Tryd.prog 26 #[.int .i64 ep] w fun e w' => e = .returned (.bool false) ∧ w' = w) := isLater_no w ep (fun e => h ⟨h1, e⟩)
    clear h h1
    go_enter Tryd.func13, Tryd.ntmps13
    go_wp2_with fail
    refine HP.out.mono ?_
    rintro e w1 ⟨rfl, hw⟩
    obtain rfl : w = w1 := hw.symm
    clear hw
    go_wp2_with fail
    refine HL.out.mono ?_
    rintro e w1 ⟨rfl, hw⟩
    obtain rfl : w = w1 := hw.symm
    clear hw
    go_wp2_with fail
    go_ret2
    exact ⟨rfl, rfl⟩
  · have HP : Hid (Calls Tryd.prog 25 #[.int .i64 who] w fun e w' => e = .returned (.bool false) ∧ w' = w) := isPerson_no w who h1
    clear h h1
    go_enter Tryd.func13, Tryd.ntmps13
    go_wp2_with fail
    refine HP.out.mono ?_
    rintro e w1 ⟨rfl, hw⟩
    obtain rfl : w = w1 := hw.symm
    clear hw
    go_wp2_with fail
    go_ret2
    exact ⟨rfl, rfl⟩
/-- A text of a key's size. -/
def un32 (r : Option (List Nat)) : Option (List Nat) := match r with
  | some t => if t.length = 32 then some t else none
  | none => none
section
variable {bs : List Nat} {ts : List (Option TypeId)} {B : Nat} {w : World} {I : World → Prop} {r : List Nat} {sp kv bv : Value}
set_option maxHeartbeats 2000000 in
theorem Unwrap_any (who : Int) (ep : Nat) (b : List Nat) (rr : Option (List Nat)) (hB : B ≤ w.heap.size) (h5 : some 5 ∉ ts) (hw : 1 ≤ who ∧ who ≤ 16) (hep : 1 ≤ ep ∧ ep ≤ 16) (hb : By B w bv b)
    (hk : ∀ w1, Below w.heap.size w w1 → Calls Tryd.prog 37 #[sp, kv, .string (strB memB), .int .i64 who] w1 fun e w' => ∃ u, e = .returned u ∧ w'.ownsRow w1.heap.size 5 1 u 32 (ints .u8 r) ∧ I w' ∧ Fr bs ts B w1 w')
    (hr : ∀ x ∈ r, x < 256) (hI : ∀ w1 w2, I w1 → Below w1.heap.size w1 w2 → I w2)
    (hopen : ∀ w1 u nv ov, I w1 → By B w1 u r → By B w1 nv (non 0 ep) → By B w1 ov wraB → By B w1 bv b → B ≤ w1.heap.size → Calls Tryd.prog 29 #[sp, u, nv, ov, bv] w1 fun e w' => OpenSays w1.heap.size rr e w' ∧ Below w1.heap.size w1 w') :
    Calls Tryd.prog 13 #[sp, kv, .int .i64 who, .int .i64 (ep : Int), bv] w fun e w' => OpenSays w.heap.size (un32 rr) e w' ∧ I w' ∧ Fr bs ts B w w' := by
  have HP : Hid (Calls Tryd.prog 25 #[.int .i64 who] w fun e w' => e = .returned (.bool true) ∧ w' = w) := isPerson_yes w who hw
  have HL : Hid (Calls Tryd.prog 26 #[.int .i64 (ep : Int)] w fun e w' => e = .returned (.bool true) ∧ w' = w) := isLater_yes w ep (by omega)
  have HK : Hid (Calls Tryd.prog 27 #[sp, kv, .int .i64 who, .int .i64 (ep : Int)] w fun e w' => ∃ u nv, e = .returned (.tuple #[u, nv]) ∧ w'.ownsRow w.heap.size 5 1 u 32 (ints .u8 r) ∧ By B w' nv (non 0 ep) ∧ I w' ∧ Fr bs ts B w w') := lock_any who ep hB h5 (by omega) hk
  have HT : Hid (By B w bv b ∧ some 5 ∉ ts ∧ (∀ x ∈ r, x < 256) ∧ B ≤ w.heap.size ∧ ∀ w1 w2, I w1 → Below w1.heap.size w1 w2 → I w2) := ⟨hb, h5, hr, hB, hI⟩
  have HS : Hid (∀ w1 u nv ov, I w1 → By B w1 u r → By B w1 nv (non 0 ep) → By B w1 ov wraB → By B w1 bv b → B ≤ w1.heap.size → Calls Tryd.prog 29 #[sp, u, nv, ov, bv] w1 fun e w' => OpenSays w1.heap.size rr e w' ∧ Below w1.heap.size w1 w') := hopen
  clear hB h5 hw hep hb hk hr hI hopen
  go_enter Tryd.func13, Tryd.ntmps13
  go_wp2_with fail
  refine HP.out.mono ?_
  rintro e w1 ⟨rfl, hw⟩
  obtain rfl : w = w1 := hw.symm
  clear hw
  go_wp2_with fail
  refine HL.out.mono ?_
  rintro e w1 ⟨rfl, hw⟩
  obtain rfl : w = w1 := hw.symm
  clear hw
  go_wp2_with fail
  refine HK.out.mono ?_
  rintro e w1 ⟨u, nv, rfl, h1, h2, h3, h4⟩
  have hcv := Lib.run_convert_bytes_const (P := Tryd.prog) w1 22 5 #[.int .u8 119, .int .u8 114, .int .u8 97, .int .u8 112] 4 4 Tryd.underlying22 Tryd.underlying5
  have hb2 : Below w1.heap.size w1 (w1.alloc (.cells #[.int .u8 119, .int .u8 114, .int .u8 97, .int .u8 112] 5 (4, 5))) := below_alloc' w1 _
  have hl := (wrap_lit w1).2
  generalize hW2 : w1.alloc (.cells #[.int .u8 119, .int .u8 114, .int .u8 97, .int .u8 112] 5 (4, 5)) = w2 at hcv hb2 hl
  have hB1 : B ≤ w1.heap.size := Nat.le_trans HT.out.2.2.2.1 h4.size
  have hlB : By B w2 (.slice (some ⟨w1.heap.size, 0, none⟩) 4 4) wraB := by
    obtain ⟨hs, h | h | ⟨b, o, c, e1, e2, e3, e4 | e4⟩⟩ := hl
    · exact ⟨hs, .inl h⟩
    · exact ⟨hs, .inr (.inl h)⟩
    · cases e1; omega
    · exact ⟨hs, .inr (.inr ⟨b, o, c, e1, e2, e3, .inr e4⟩)⟩
  have HC : Hid (Calls Tryd.prog 29 #[sp, u, nv, .slice (some ⟨w1.heap.size, 0, none⟩) 4 4, bv] w2 fun e w' => OpenSays w.heap.size rr e w' ∧ I w' ∧ Fr bs ts B w w') := by
    refine (HS.out w2 u nv _ (HT.out.2.2.2.2 _ _ h3 hb2) ((By.own (B := B) HT.out.2.2.1 h1).below hb2) (h2.below hb2) hlB ((HT.out.1.kx h4.kx HT.out.2.1).below hb2) (Nat.le_trans hB1 hb2.size)).mono ?_
    rintro e w' ⟨k1, k2⟩
    refine ⟨?_, HT.out.2.2.2.2 _ _ (HT.out.2.2.2.2 _ _ h3 hb2) k2, (h4.trans (Fr.of_below hb2 hB1)).trans (Fr.of_below k2 (Nat.le_trans hB1 hb2.size))⟩
    cases rr with
    | none => exact k1
    | some t =>
      obtain ⟨v, e1, e2, e3⟩ := k1
      exact ⟨v, e1, e2, fun b hb => Nat.le_trans (Nat.le_trans h4.size hb2.size) (e3 b hb)⟩
  clear h1 h2 h3 h4 hb2 hl hB1 hlB hW2 HS HT HK HP HL
  go_wp2_with fail
  refine HC.out.mono ?_
  rintro e w3 ⟨k1, k2, k3⟩
  have HZ : Hid (I w3 ∧ Fr bs ts B w w3) := ⟨k2, k3⟩
  clear k2 k3 HC hcv
  cases rr with
  | none =>
    replace k1 : e = .returned (.tuple #[.slice none 0 0, .int .i64 20]) := k1
    subst k1
    go_wp2_with fail
    go_ret2
    exact ⟨rfl, HZ.out⟩
  | some t =>
    obtain ⟨v, rfl, hs, hv⟩ := k1
    have HV : Hid (Src w3 v t ∧ ∀ b, v.ownBlock = some b → w.heap.size ≤ b) := ⟨hs, hv⟩
    obtain ⟨vq, vc, rfl, -⟩ := hs.slice
    clear hs hv
    by_cases h32 : t.length = 32
    · have HU : Hid (un32 (some t) = some t) := by show un32 _ = _; simp [un32, h32]
      rw [h32] at HV ⊢
      clear h32
      go_wp2_with fail
      go_ret2
      rw [HU.out]
      exact ⟨⟨_, rfl, HV.out⟩, HZ.out⟩
    · have HU : Hid (un32 (some t) = none) := by show un32 _ = _; simp [un32, h32]
      have h1 : ((t.length : Int) == 32) = false := by rw [beq_eq_false_iff_ne]; omega
      clear h32 HV
      go_wp2_with fail
      go_ret2
      rw [HU.out]
      exact ⟨rfl, HZ.out⟩
end
end Go.Proofs.YtagdlpodpokmmaaDoor.S7
