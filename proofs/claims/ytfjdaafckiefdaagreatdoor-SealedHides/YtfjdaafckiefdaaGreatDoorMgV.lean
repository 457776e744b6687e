/- The contract of the document's Size. -/
import Derived.Test.YtfjdaafckiefdaaGreatDoorMgB
import Derived.Test.YtfjdaafckiefdaaGreatDoorS15Anc
import Derived.Test.YtfjdaafckiefdaaGreatDoorS15Am
namespace Go.Proofs.YtfjdaafckiefdaaGreatDoor.C8
open Go.RowKit
def rsz (i : Int) : Nat := if 0 ≤ i then bsz i.toNat else 0
theorem rsz_nat (n : Nat) : rsz (n : Int) = bsz n := by simp [rsz]
def sz (j : Nat) : Nat := [64, 128, 256, 512, 1024, 2048].getD j 0
theorem sz_le {j : Nat} (h : j < 6) : 64 ≤ sz j ∧ sz j ≤ 2048 := by
  have : j = 0 ∨ j = 1 ∨ j = 2 ∨ j = 3 ∨ j = 4 ∨ j = 5 := by omega
  rcases this with rfl | rfl | rfl | rfl | rfl | rfl <;> decide
theorem sz_in {j : Nat} (h : j < 6) {i : Int} (h0 : 0 ≤ i) (h1 : i ≤ (sz j : Int) - 2) (hb : ∀ k, k < j → ¬ i ≤ (sz k : Int) - 2) : sz j = rsz i := by
  obtain ⟨n, rfl⟩ := Int.eq_ofNat_of_zero_le h0
  rw [rsz_nat]
  have : j = 0 ∨ j = 1 ∨ j = 2 ∨ j = 3 ∨ j = 4 ∨ j = 5 := by omega
  have s0 : sz 0 = 64 := rfl
  have s1 : sz 1 = 128 := rfl
  have s2 : sz 2 = 256 := rfl
  have s3 : sz 3 = 512 := rfl
  have s4 : sz 4 = 1024 := rfl
  have s5 : sz 5 = 2048 := rfl
  unfold bsz
  rcases this with rfl | rfl | rfl | rfl | rfl | rfl
  · repeat' split
    all_goals omega
  · have b0 := hb 0 (by omega)
    repeat' split
    all_goals omega
  · have b0 := hb 1 (by omega)
    repeat' split
    all_goals omega
  · have b0 := hb 2 (by omega)
    repeat' split
    all_goals omega
  · have b0 := hb 3 (by omega)
    repeat' split
    all_goals omega
  · have b0 := hb 4 (by omega)
    repeat' split
    all_goals omega
theorem sz_out {i : Int} (hb : 0 ≤ i → ¬ i ≤ (sz 5 : Int) - 2) : rsz i = 0 := by
  have s5 : sz 5 = 2048 := rfl
  unfold rsz
  split
  · rename_i h
    have := hb h
    exact bsz_none (by omega)
  · rfl
def six : Array Value := #[.int .i64 64, .int .i64 128, .int .i64 256, .int .i64 512, .int .i64 1024, .int .i64 2048]
theorem six_get {j : Nat} (h : j < 6) : six[j]? = some (.int .i64 (sz j : Nat)) := by
  have : j = 0 ∨ j = 1 ∨ j = 2 ∨ j = 3 ∨ j = 4 ∨ j = 5 := by omega
  rcases this with rfl | rfl | rfl | rfl | rfl | rfl <;> rfl
set_option maxHeartbeats 1000000 in
theorem RSize_any (i : Int) (w : World) (hi : -9223372036854775808 ≤ i ∧ i ≤ 9223372036854775807) : Calls Tryz.prog 35 #[.int .i64 i] w fun e w' => e = .returned (.int .i64 (rsz i : Nat)) ∧ Below w.heap.size w w' := by
  obtain ⟨R, hR⟩ : ∃ R, rsz i = R := ⟨_, rfl⟩
  rw [hR]
  have HI : Hid (∀ j, j < 6 → 0 ≤ i → i ≤ (sz j : Int) - 2 → (∀ k, k < j → (sz k : Int) - 2 < i) → sz j = R) := fun j h h0 h1 h2 => hR ▸ sz_in h h0 h1 (fun k hk => by have := h2 k hk; omega)
  have HO : Hid ((0 ≤ i → (sz 5 : Int) - 2 < i) → R = 0) := fun h => hR ▸ sz_out (fun h0 => by have := h h0; omega)
  clear hR
  obtain ⟨i1, i2⟩ := hi
  go_enter Tryz.func35, Tryz.ntmps35
  go_wp2_with fail
  go_loopw [4] (fun x wr => ∃ j : Nat, j ≤ 6 ∧ x = .int .i64 j ∧ Hid (∀ k, k < j → 0 ≤ i → (sz k : Int) - 2 < i) ∧ Hid (wr.heap[w.heap.size]? = some (.cells six 124 (0, 0))) ∧ Hid (Below w.heap.size w wr)) (fun x _ => 6 - (intOf x).toNat)
  case atStart =>
    refine ⟨0, by omega, rfl, fun k hk => by omega, ?_, ?_⟩
    · exact heap_alloc_new w _
    · exact (Below.refl _ _).alloc (Nat.le_refl _) _
  case round =>
    obtain ⟨j, hj, rfl, HB, HC, HW⟩ := hrel
    by_cases hlt : j < 6
    · have hc : wr.cell? ⟨w.heap.size, j, none⟩ = some (.int .i64 (sz j : Nat)) := by
        rw [cell_of_row _ _ _ _ _ _ HC.out]
        exact six_get hlt
      have hs := sz_le hlt
      have j1 : (j : Int) < 6 := by omega
      have j0 : (0 : Int) ≤ (j : Int) := by omega
      have s1 : (64 : Int) ≤ (sz j : Int) := by omega
      have s2 : (sz j : Int) ≤ 2048 := by omega
      have HSJ : Hid (0 ≤ i → i ≤ (sz j : Int) - 2 → sz j = R) := fun h0 h1 => HI.out j hlt h0 h1 (fun k hk => HB.out k hk h0)
      have HNX : Hid ((0 ≤ i → (sz j : Int) - 2 < i) → ∀ k, k < j + 1 → 0 ≤ i → (sz k : Int) - 2 < i) := fun h k hk h0 => by
        by_cases hk2 : k < j
        · exact HB.out k hk2 h0
        · rw [show k = j by omega]; exact h h0
      clear HB hs
      generalize sz j = s at *
      by_cases h0 : 0 ≤ i
      · by_cases h1 : i ≤ (s : Int) - 2
        · have := HSJ.out h0 h1
          clear HSJ HNX
          go_wp2_with fail
          go_ret
          exact ⟨by rw [← this]; rfl, HW.out⟩
        · have HN2 := HNX.out (fun _ => by omega)
          have HN3 : Hid (∀ k, k < j + 1 → 0 ≤ i → (sz k : Int) - 2 < i) := HN2
          clear HSJ HNX HN2
          go_wp2_with fail
          go_roundw
          case rel => exact ⟨j + 1, by omega, by go_num, HN3.out, HC.out, HW.out⟩
          case measure => simp [intOf]; omega
      · have HN2 := HNX.out (fun h => absurd h h0)
        have HN3 : Hid (∀ k, k < j + 1 → 0 ≤ i → (sz k : Int) - 2 < i) := HN2
        have h0' : i < 0 := by omega
        clear HSJ HNX HN2
        go_wp2_with fail
        go_roundw
        case rel => exact ⟨j + 1, by omega, by go_num, HN3.out, HC.out, HW.out⟩
        case measure => simp [intOf]; omega
    · obtain rfl : j = 6 := by omega
      have := HO.out (fun h => HB.out 5 (by omega) h)
      subst this
      clear HB
      go_wp2_with fail
      go_ret
      exact ⟨rfl, HW.out⟩
end Go.Proofs.YtfjdaafckiefdaaGreatDoor.C8
/- What Seal tells by signs, in one; two entries of one bucket: the mathematics. -/
namespace Go.Proofs.YtfjdaafckiefdaaGreatDoor.S15
open Go.RowKit C8 E9
open S7 (Fr Kx By Sw TU Shr)
def r0 : Rec := ⟨0, 0, 0, 0, []⟩
def serr (r : Rec) (e : En) (n : Nat) : Int := (sealErr r e n).getD 0
def sres (L : List S7.Su.Thing) (k : List Nat) (r : Rec) (e : En) (n : Nat) : Rec := if sealErr r e n = none then r.with (boxL L k r e) else r0
def sls (L : List S7.Su.Thing) (k ke : List Nat) (r : Rec) (e : En) : List S7.Su.Thing := if sealErr r e ke.length = none then endL L k ke r e else L
theorem Seal_u {B : Nat} {w : World} {p q m x : Nat} {L : List S7.Su.Thing} {sv : Value} {k : List Nat} {kq : Option Addr} {kc : Nat} {ke : List Nat} (r : Rec) (rq : Option Addr) (rc : Nat) (e : En) (ve : Value) (h : Sw B w p q m x L) (hL : L.length < 800000) (hB : B ≤ w.heap.size) (hk : By B w sv k) (hke : By B w (.slice kq ke.length kc) ke) (he : EnIs w ve e) :
    Calls Tryz.prog 22 #[.pointer (some ⟨p, 0, none⟩), sv, .slice kq ke.length kc, .agg (RecV r rq rc), ve] w fun y w' => ∃ q' c', y = .returned (.tuple #[.agg (RecV (sres L k r e ke.length) q' c'), .int .i64 (serr r e ke.length)]) ∧ By B w' (.slice q' (sres L k r e ke.length).box.length c') (sres L k r e ke.length).box ∧ Sw B w' p q m x (sls L k ke r e) ∧ Fr [p, m, x] TU B w w' := by
  refine (Seal_s r rq rc e ve h hL hB hk hke he).mono ?_
  rintro y w' (⟨er, h1, rfl, h2⟩ | ⟨h1, q', c', rfl, h2, h3, h4⟩)
  · have e1 : sres L k r e ke.length = r0 := by unfold sres; rw [h1]; rfl
    have e2 : serr r e ke.length = er := by unfold serr; rw [h1]; rfl
    have e3 : sls L k ke r e = L := by unfold sls; rw [h1]; rfl
    rw [e1, e2, e3]
    exact ⟨none, 0, rfl, By.nil _ _, h.below h2, Fr.of_below h2 hB⟩
  · have e1 : sres L k r e ke.length = r.with (boxL L k r e) := by unfold sres; rw [h1]; rfl
    have e2 : serr r e ke.length = 0 := by unfold serr; rw [h1]; rfl
    have e3 : sls L k ke r e = endL L k ke r e := by unfold sls; rw [h1]; rfl
    rw [e1, e2, e3]
    exact ⟨q', c', rfl, h2, h3, h4⟩
theorem sL_three (k : List Nat) (r : Rec) {b : List Nat} (hb : 18 ≤ b.length) : (sL aL0 k r b).length = 3 := by
  have e1 : adL aL0 k r = aL0 ++ [(77, k, [], [], S7.wriB ++ S7.six r.writer.toNat)] := by
    unfold adL S7.adk S7.Su.add aL0
    simp [S7.Su.pos]
  have e2 : S7.wriB ++ S7.six r.writer.toNat ≠ markL r.coll b := fun e => by
    have h1 := congrArg List.length e
    rw [markL_length, List.length_append, S7.six_length] at h1
    have h2 : S7.wriB.length = 6 := by decide
    omega
  unfold sL
  rw [e1]
  unfold S7.Su.add aL0
  simp [S7.Su.pos, e2]
theorem hides_same {a b : En} (k : List Nat) (r : Rec) (ha : right a = true) (hb : right b = true) (hw : a.writer = b.writer) (hz : bsz ((E9.bytes a).length + 36) = bsz ((E9.bytes b).length + 36)) : serr r a 32 = serr r b 32 ∧ sres aL0 k r a 32 = sres aL0 k r b 32 := by
  have e1 : sealErr r a 32 = sealErr r b 32 := by unfold sealErr; rw [ha, hb, hw]
  have e2 : boxL aL0 k r a = boxL aL0 k r b := by
    unfold boxL
    rw [sL_three k r (bytes_length ha).2, sL_three k r (bytes_length hb).2, (plain_ok aL0 k r ha).1, (plain_ok aL0 k r hb).1, hz]
  unfold serr sres
  rw [e1, e2]
  exact ⟨rfl, rfl⟩
end Go.Proofs.YtfjdaafckiefdaaGreatDoor.S15
