/- The contracts of fill and begin. -/
import Derived.Test.YtnceiccciaihoaaC3Mixed2
namespace Go.Proofs.Ytnceiccciaihoaa.C3
open Go.RowKit
theorem word_or (x0 x1 x2 x3 : Nat) (h0 : x0 < 256) (h1 : x1 < 256) (h2 : x2 < 256) (h3 : x3 < 256) :
    bits BinOp.or IntKind.u32 (bits BinOp.or IntKind.u32 (bits BinOp.or IntKind.u32 (x0 : Int) ((x1 : Int) * 256)) ((x2 : Int) * 65536)) ((x3 : Int) * 16777216) = ((x0 + x1 * 256 + x2 * 65536 + x3 * 16777216 : Nat) : Int) := by
  have e1 : ((x1 : Int) * 256) = ((x1 * 256 : Nat) : Int) := by omega
  have e2 : ((x2 : Int) * 65536) = ((x2 * 65536 : Nat) : Int) := by omega
  have e3 : ((x3 : Int) * 16777216) = ((x3 * 16777216 : Nat) : Int) := by omega
  have o1 : x0 ||| x1 * 256 = x0 + x1 * 256 := by
    rw [Nat.or_comm, Nat.mul_comm, Nat.add_comm]
    exact (Nat.two_pow_add_eq_or_of_lt (i := 8) h0 x1).symm
  have o2 : (x0 + x1 * 256) ||| x2 * 65536 = x0 + x1 * 256 + x2 * 65536 := by
    rw [Nat.or_comm, Nat.mul_comm x2, Nat.add_comm _ (65536 * x2)]
    exact (Nat.two_pow_add_eq_or_of_lt (i := 16) (by omega) x2).symm
  have o3 : (x0 + x1 * 256 + x2 * 65536) ||| x3 * 16777216 = x0 + x1 * 256 + x2 * 65536 + x3 * 16777216 := by
    rw [Nat.or_comm, Nat.mul_comm x3, Nat.add_comm _ (16777216 * x3)]
    exact (Nat.two_pow_add_eq_or_of_lt (i := 24) (by omega) x3).symm
  rw [e1, e2, e3, u32_or_nat _ _ (by omega) (by omega), o1, u32_or_nat _ _ (by omega) (by omega), o2, u32_or_nat _ _ (by omega) (by omega), o3]
/-- The state's words from p on, set to the first k words of bytes. -/
def fillTo (s : List Nat) (p : Nat) (b : List Nat) : Nat → List Nat
  | 0 => s
  | k + 1 => (fillTo s p b k).set (p + k) (Ch.word b (4 * k))
theorem fillTo_length (s : List Nat) (p : Nat) (b : List Nat) : ∀ k, (fillTo s p b k).length = s.length
  | 0 => rfl
  | k + 1 => by rw [fillTo, List.length_set, fillTo_length s p b k]
theorem range_cell {w : World} {g o : Nat} {k : IntKind} {l : List Nat} (h : w.rangeAt g o (ints k l)) (i : Nat) (hi : i < l.length) : w.cell? ⟨g, o + i, none⟩ = some (.int k (Sp.nth l i : Nat)) := h i _ (ints_get k l i hi)
theorem rangeAt_grown {w w' : World} {b o g : Nat} {cs : List Value} (h : w.rangeAt b o cs) (hg : w.grownBy w' (some g)) (hb : b ≠ g) : w'.rangeAt b o cs := fun j v hv => by
  have hc := h j v hv
  have hlt := World.block_lt_of_cell? w _ hc
  have := hg.block b hlt (by simpa using hb)
  rw [← hc]
  unfold World.cell?
  rw [this]
set_option maxHeartbeats 1000000 in
theorem fill32 (s l : List Nat) (g b o c : Nat) (w : World) (hg : StAt w g s) (hs : s.length = 16) (hl : l.length = 32) (hb : ∀ x ∈ l, x < 256) (hr : w.rangeAt b o (ints .u8 l)) (hbg : b ≠ g) (hc : 32 ≤ c) :
    Calls Try.prog 38 #[.pointer (some ⟨g, 0, none⟩), .int .i64 4, .slice (some ⟨b, o, none⟩) 32 c] w fun e w' => e = .returned (.tuple #[]) ∧ StAt w' g (fillTo s 4 l 8) ∧ w.grownBy w' (some g) := by
  have HG : Hid (StAt w g s) := hg
  have HR : Hid (w.rangeAt b o (ints .u8 l)) := hr
  have HL : Hid (l.length = 32) := hl
  have HS : Hid (s.length = 16) := hs
  have HB : Hid (∀ x ∈ l, x < 256) := hb
  clear hg hr hl hs hb
  go_enter Try.func38, Try.ntmps38
  go_wp2
  go_loopw [11] (fun i wr => ∃ k : Nat, k ≤ 8 ∧ i = .int .i64 k ∧ Hid (StAt wr g (fillTo s 4 l k)) ∧ Hid (w.grownBy wr (some g))) (fun i _ => 8 - (intOf i).toNat)
  case atStart => exact ⟨0, by omega, rfl, HG.out, grownBy_refl _ _⟩
  case round =>
    clear HG
    obtain ⟨k, hk, rfl, H1, G1⟩ := hrel
    by_cases hlt : k < 8
    · have hr1 := rangeAt_grown HR.out G1.out hbg
      have b0 := range_cell hr1 (4 * k) (by rw [HL.out]; omega)
      have b1 := range_cell hr1 (4 * k + 1) (by rw [HL.out]; omega)
      have b2 := range_cell hr1 (4 * k + 2) (by rw [HL.out]; omega)
      have b3 := range_cell hr1 (4 * k + 3) (by rw [HL.out]; omega)
      have x0 : Sp.nth l (4 * k) < 256 := Sp.nth_lt (by decide) HB.out _
      have x1 : Sp.nth l (4 * k + 1) < 256 := Sp.nth_lt (by decide) HB.out _
      have x2 : Sp.nth l (4 * k + 2) < 256 := Sp.nth_lt (by decide) HB.out _
      have x3 : Sp.nth l (4 * k + 3) < 256 := Sp.nth_lt (by decide) HB.out _
      have HW : Hid (Sp.nth l (4 * k) + Sp.nth l (4 * k + 1) * 256 + Sp.nth l (4 * k + 2) * 65536 + Sp.nth l (4 * k + 3) * 16777216 = Ch.word l (4 * k)) := rfl
      have HO := word_or _ _ _ _ x0 x1 x2 x3
      have hf := H1.out.may (4 + k)
      have hcl := H1.out.cell (4 + k) (by rw [fillTo_length, HS.out]; omega)
      have HN : Hid (StAt ((wr.setCell ⟨g, 4 + k, none⟩ (.int .u32 ((Ch.word l (4 * k) : Nat) : Int))).drewN 1) g (fillTo s 4 l (k + 1))) := H1.out.set (4 + k) _
      have HGN : Hid (w.grownBy ((wr.setCell ⟨g, 4 + k, none⟩ (.int .u32 ((Ch.word l (4 * k) : Nat) : Int))).drewN 1) (some g)) := grownBy_drewN (grownBy_set G1.out (4 + k) _) 1
      rw [HW.out] at HO
      clear hr1 H1 G1 HW
      generalize Sp.nth l (4 * k) = y0 at *
      generalize Sp.nth l (4 * k + 1) = y1 at *
      generalize Sp.nth l (4 * k + 2) = y2 at *
      generalize Sp.nth l (4 * k + 3) = y3 at *
      generalize Ch.word l (4 * k) = W at *
      generalize Sp.nth (fillTo s 4 l k) (4 + k) = old at *
      have k0 : (0 : Int) ≤ (k : Int) := by omega
      have k1 : (k : Int) < 8 := by omega
      have k2 : 4 * (k : Int) ≤ 32 := by omega
      have k3 : (0 : Int) ≤ 4 * (k : Int) := by omega
      have k4 : (4 * (k : Int)).toNat = 4 * k := by omega
      have k5 : 4 + (k : Int) < 16 := by omega
      have k6 : (0 : Int) ≤ 4 + (k : Int) := by omega
      have k7 : (4 + (k : Int)).toNat = 4 + k := by omega
      have k8 : ¬ c = 4 * k := by omega
      have k9 : 4 * k < 32 := by omega
      go_wp2
      obtain ⟨m, hm⟩ : ∃ m, 32 - 4 * k = m := ⟨_, rfl⟩
      rw [hm]
      have m0 : (0 : Int) < (m : Int) := by omega
      have m0' : 0 < m := by omega
      have m1 : (1 : Int) < (m : Int) := by omega
      have m2 : (2 : Int) < (m : Int) := by omega
      have m3 : (3 : Int) < (m : Int) := by omega
      clear hm
      have v1 : IntKind.i64.wrap (4 + (k : Int)) = 4 + (k : Int) := i64_id _ (by omega)
      rw [show o + (4 * k + 1) = o + 4 * k + 1 from rfl] at b1
      rw [show o + (4 * k + 2) = o + 4 * k + 2 from rfl] at b2
      rw [show o + (4 * k + 3) = o + 4 * k + 3 from rfl] at b3
      have hgb : g ≠ b := fun e => hbg e.symm
      go_region_held3 (fun w' => w'.cell? ⟨b, o + 4 * k, none⟩ = some (.int .u8 (y0 : Nat)) ∧ w'.cell? ⟨b, o + 4 * k + 1, none⟩ = some (.int .u8 (y1 : Nat)) ∧ w'.cell? ⟨b, o + 4 * k + 2, none⟩ = some (.int .u8 (y2 : Nat)) ∧ w'.cell? ⟨b, o + 4 * k + 3, none⟩ = some (.int .u8 (y3 : Nat))) (go_keep) (fail)
      go_wp2
      rw [HO]
      go_roundw
      case rel => exact ⟨k + 1, by omega, by go_num, HN.out, HGN.out⟩
      case measure => simp [intOf]; omega
    · obtain rfl : k = 8 := by omega
      go_wp2
      go_end0
      exact ⟨rfl, H1.out, G1.out⟩
set_option maxHeartbeats 1000000 in
theorem fill12 (s l : List Nat) (g b o c : Nat) (w : World) (hg : StAt w g s) (hs : s.length = 16) (hl : l.length = 12) (hb : ∀ x ∈ l, x < 256) (hr : w.rangeAt b o (ints .u8 l)) (hbg : b ≠ g) (hc : 12 ≤ c) :
    Calls Try.prog 38 #[.pointer (some ⟨g, 0, none⟩), .int .i64 13, .slice (some ⟨b, o, none⟩) 12 c] w fun e w' => e = .returned (.tuple #[]) ∧ StAt w' g (fillTo s 13 l 3) ∧ w.grownBy w' (some g) := by
  have HG : Hid (StAt w g s) := hg
  have HR : Hid (w.rangeAt b o (ints .u8 l)) := hr
  have HL : Hid (l.length = 12) := hl
  have HS : Hid (s.length = 16) := hs
  have HB : Hid (∀ x ∈ l, x < 256) := hb
  clear hg hr hl hs hb
  go_enter Try.func38, Try.ntmps38
  go_wp2
  go_loopw [11] (fun i wr => ∃ k : Nat, k ≤ 3 ∧ i = .int .i64 k ∧ Hid (StAt wr g (fillTo s 13 l k)) ∧ Hid (w.grownBy wr (some g))) (fun i _ => 3 - (intOf i).toNat)
  case atStart => exact ⟨0, by omega, rfl, HG.out, grownBy_refl _ _⟩
  case round =>
    clear HG
    obtain ⟨k, hk, rfl, H1, G1⟩ := hrel
    by_cases hlt : k < 3
    · have hr1 := rangeAt_grown HR.out G1.out hbg
      have b0 := range_cell hr1 (4 * k) (by rw [HL.out]; omega)
      have b1 := range_cell hr1 (4 * k + 1) (by rw [HL.out]; omega)
      have b2 := range_cell hr1 (4 * k + 2) (by rw [HL.out]; omega)
      have b3 := range_cell hr1 (4 * k + 3) (by rw [HL.out]; omega)
      have x0 : Sp.nth l (4 * k) < 256 := Sp.nth_lt (by decide) HB.out _
      have x1 : Sp.nth l (4 * k + 1) < 256 := Sp.nth_lt (by decide) HB.out _
      have x2 : Sp.nth l (4 * k + 2) < 256 := Sp.nth_lt (by decide) HB.out _
      have x3 : Sp.nth l (4 * k + 3) < 256 := Sp.nth_lt (by decide) HB.out _
      have HW : Hid (Sp.nth l (4 * k) + Sp.nth l (4 * k + 1) * 256 + Sp.nth l (4 * k + 2) * 65536 + Sp.nth l (4 * k + 3) * 16777216 = Ch.word l (4 * k)) := rfl
      have HO := word_or _ _ _ _ x0 x1 x2 x3
      have hf := H1.out.may (13 + k)
      have hcl := H1.out.cell (13 + k) (by rw [fillTo_length, HS.out]; omega)
      have HN : Hid (StAt ((wr.setCell ⟨g, 13 + k, none⟩ (.int .u32 ((Ch.word l (4 * k) : Nat) : Int))).drewN 1) g (fillTo s 13 l (k + 1))) := H1.out.set (13 + k) _
      have HGN : Hid (w.grownBy ((wr.setCell ⟨g, 13 + k, none⟩ (.int .u32 ((Ch.word l (4 * k) : Nat) : Int))).drewN 1) (some g)) := grownBy_drewN (grownBy_set G1.out (13 + k) _) 1
      rw [HW.out] at HO
      clear hr1 H1 G1 HW
      generalize Sp.nth l (4 * k) = y0 at *
      generalize Sp.nth l (4 * k + 1) = y1 at *
      generalize Sp.nth l (4 * k + 2) = y2 at *
      generalize Sp.nth l (4 * k + 3) = y3 at *
      generalize Ch.word l (4 * k) = W at *
      generalize Sp.nth (fillTo s 13 l k) (13 + k) = old at *
      have k0 : (0 : Int) ≤ (k : Int) := by omega
      have k1 : (k : Int) < 3 := by omega
      have k2 : 4 * (k : Int) ≤ 12 := by omega
      have k3 : (0 : Int) ≤ 4 * (k : Int) := by omega
      have k4 : (4 * (k : Int)).toNat = 4 * k := by omega
      have k5 : 13 + (k : Int) < 16 := by omega
      have k6 : (0 : Int) ≤ 13 + (k : Int) := by omega
      have k7 : (13 + (k : Int)).toNat = 13 + k := by omega
      have k8 : ¬ c = 4 * k := by omega
      have k9 : 4 * k < 12 := by omega
      go_wp2
      obtain ⟨m, hm⟩ : ∃ m, 12 - 4 * k = m := ⟨_, rfl⟩
      rw [hm]
      have m0 : (0 : Int) < (m : Int) := by omega
      have m0' : 0 < m := by omega
      have m1 : (1 : Int) < (m : Int) := by omega
      have m2 : (2 : Int) < (m : Int) := by omega
      have m3 : (3 : Int) < (m : Int) := by omega
      clear hm
      have v1 : IntKind.i64.wrap (13 + (k : Int)) = 13 + (k : Int) := i64_id _ (by omega)
      rw [show o + (4 * k + 1) = o + 4 * k + 1 from rfl] at b1
      rw [show o + (4 * k + 2) = o + 4 * k + 2 from rfl] at b2
      rw [show o + (4 * k + 3) = o + 4 * k + 3 from rfl] at b3
      have hgb : g ≠ b := fun e => hbg e.symm
      go_region_held3 (fun w' => w'.cell? ⟨b, o + 4 * k, none⟩ = some (.int .u8 (y0 : Nat)) ∧ w'.cell? ⟨b, o + 4 * k + 1, none⟩ = some (.int .u8 (y1 : Nat)) ∧ w'.cell? ⟨b, o + 4 * k + 2, none⟩ = some (.int .u8 (y2 : Nat)) ∧ w'.cell? ⟨b, o + 4 * k + 3, none⟩ = some (.int .u8 (y3 : Nat))) (go_keep) (fail)
      go_wp2
      rw [HO]
      go_roundw
      case rel => exact ⟨k + 1, by omega, by go_num, HN.out, HGN.out⟩
      case measure => simp [intOf]; omega
    · obtain rfl : k = 3 := by omega
      go_wp2
      go_end0
      exact ⟨rfl, H1.out, G1.out⟩
end Go.Proofs.Ytnceiccciaihoaa.C3
