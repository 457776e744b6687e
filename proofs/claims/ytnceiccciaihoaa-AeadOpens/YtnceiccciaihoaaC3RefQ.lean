/- The document's answer: left, quarter. -/
import Derived.Test.YtnceiccciaihoaaC3App
import Derived.BigRegion
import Derived.Deep.DeepCutAuto
import Derived.Deep.RegionHeld3
namespace Go.Proofs.Ytnceiccciaihoaa.C3
open Go.RowKit
theorem i64_xor_nat (a b : Nat) (ha : a < 4294967296) (hb : b < 4294967296) : bits .xor .i64 (a : Int) (b : Int) = ((a ^^^ b : Nat) : Int) := by
  have hx : a ^^^ b < 2 ^ 32 := Nat.xor_lt_two_pow (by omega) (by omega)
  have ea : (BitVec.ofInt 64 (a : Int)).toNat = a := by simp; omega
  have eb : (BitVec.ofInt 64 (b : Int)).toNat = b := by simp; omega
  show IntKind.i64.wrap ((BitVec.ofInt 64 (a : Int) ^^^ BitVec.ofInt 64 (b : Int)).toNat : Int) = _
  rw [BitVec.toNat_xor, ea, eb, i64_id _ (by omega)]
set_option maxHeartbeats 400000 in
theorem left16 (x : Nat) (w : World) (hx : x < 4294967296) : Calls Try.prog 50 #[.int .i64 x, .int .i64 16] w fun e w' => e = .returned (.int .i64 (Ch.rotl x 16 : Nat)) ∧ w' = w := by
  have h0 : (0 : Int) ≤ (x : Int) := by omega
  have h1 : (x : Int) ≤ 4294967295 := by omega
  have hE : ((Ch.rotl x 16 : Nat) : Int) = (x : Int) * 65536 % 4294967296 + (x : Int) * 65536 / 4294967296 := by
    unfold Ch.rotl
    omega
  go_enter Try.func50, Try.ntmps50
  go_wp2
  go_ret
  exact ⟨ret_int (by rw [hE]), rfl⟩
set_option maxHeartbeats 400000 in
theorem left12 (x : Nat) (w : World) (hx : x < 4294967296) : Calls Try.prog 50 #[.int .i64 x, .int .i64 12] w fun e w' => e = .returned (.int .i64 (Ch.rotl x 12 : Nat)) ∧ w' = w := by
  have h0 : (0 : Int) ≤ (x : Int) := by omega
  have h1 : (x : Int) ≤ 4294967295 := by omega
  have hE : ((Ch.rotl x 12 : Nat) : Int) = (x : Int) * 4096 % 4294967296 + (x : Int) * 4096 / 4294967296 := by
    unfold Ch.rotl
    omega
  go_enter Try.func50, Try.ntmps50
  go_wp2
  go_ret
  exact ⟨ret_int (by rw [hE]), rfl⟩
set_option maxHeartbeats 400000 in
theorem left8 (x : Nat) (w : World) (hx : x < 4294967296) : Calls Try.prog 50 #[.int .i64 x, .int .i64 8] w fun e w' => e = .returned (.int .i64 (Ch.rotl x 8 : Nat)) ∧ w' = w := by
  have h0 : (0 : Int) ≤ (x : Int) := by omega
  have h1 : (x : Int) ≤ 4294967295 := by omega
  have hE : ((Ch.rotl x 8 : Nat) : Int) = (x : Int) * 256 % 4294967296 + (x : Int) * 256 / 4294967296 := by
    unfold Ch.rotl
    omega
  go_enter Try.func50, Try.ntmps50
  go_wp2
  go_ret
  exact ⟨ret_int (by rw [hE]), rfl⟩
set_option maxHeartbeats 400000 in
theorem left7 (x : Nat) (w : World) (hx : x < 4294967296) : Calls Try.prog 50 #[.int .i64 x, .int .i64 7] w fun e w' => e = .returned (.int .i64 (Ch.rotl x 7 : Nat)) ∧ w' = w := by
  have h0 : (0 : Int) ≤ (x : Int) := by omega
  have h1 : (x : Int) ≤ 4294967295 := by omega
  have hE : ((Ch.rotl x 7 : Nat) : Int) = (x : Int) * 128 % 4294967296 + (x : Int) * 128 / 4294967296 := by
    unfold Ch.rotl
    omega
  go_enter Try.func50, Try.ntmps50
  go_wp2
  go_ret
  exact ⟨ret_int (by rw [hE]), rfl⟩
/-- A row of numbers: a state, and what lies behind it. -/
def RowT (w : World) (g : Nat) (s : List Nat) (tl : List Value) : Prop := w.heap[g]? = some (.cells (ints .i64 s ++ tl).toArray 3 (0, 0))
section
variable {w : World} {g : Nat} {s : List Nat} {tl : List Value}
theorem RowT.cell (h : RowT w g s tl) (i : Nat) (hi : i < s.length) : w.cell? ⟨g, i, none⟩ = some (.int .i64 (Sp.nth s i : Nat)) := by
  rw [cell_of_row _ _ _ _ _ _ h, List.getElem?_toArray, List.getElem?_append_left (by rw [ints_length]; exact hi)]
  exact ints_get _ _ _ hi
theorem RowT.may (h : RowT w g s tl) (i : Nat) : w.frozen? ⟨g, i, none⟩ = false := frozen_of_row _ _ _ _ _ h
theorem RowT.set (h : RowT w g s tl) (i x : Nat) (hi : i < s.length) : RowT (w.setCell ⟨g, i, none⟩ (.int .i64 (x : Nat))) g (s.set i x) tl := by
  have := heap_setCell_same w g i _ 3 (.int .i64 (x : Nat)) h
  unfold RowT
  rw [this]
  congr 2
  apply Array.ext'
  rw [List.setIfInBounds_toArray, List.set_append_left _ _ (by rw [ints_length]; exact hi)]
  simp [ints]
end
set_option maxHeartbeats 4000000 in
theorem rquarter_any (s : List Nat) (tl : List Value) (g cap a b c d : Nat) (w : World) (hs : Ch.Ok s) (hg : RowT w g s tl) (ha : a < 16) (hb : b < 16) (hc : c < 16) (hd : d < 16) :
    Calls Try.prog 44 #[.slice (some ⟨g, 0, none⟩) 16 cap, .int .i64 a, .int .i64 b, .int .i64 c, .int .i64 d] w fun e w' => e = .returned (.tuple #[]) ∧ RowT w' g (Ch.quarter s a b c d) tl ∧ w.grownBy w' (some g) := by
  have HQ : Ch.quarter s a b c d = Ch.step (Ch.step (Ch.step (Ch.step s a b d 16) c d b 12) a b d 8) c d b 7 := rfl
  obtain ⟨F, hF⟩ : ∃ F, Ch.quarter s a b c d = F := ⟨_, rfl⟩
  rw [hF]
  have HF : Hid (F = Ch.step (Ch.step (Ch.step (Ch.step s a b d 16) c d b 12) a b d 8) c d b 7) := hF.symm.trans HQ
  have HR0 : Hid (RowT w g s tl) := hg
  have HO0 : Hid (Ch.Ok s) := hs
  have HG0 : Hid (w.grownBy w (some g)) := grownBy_refl _ _
  clear hs hg HQ hF
  have a0 : (0 : Int) ≤ (a : Int) := by omega
  have a1 : (a : Int) < 16 := by omega
  have b0 : (0 : Int) ≤ (b : Int) := by omega
  have b1 : (b : Int) < 16 := by omega
  have c0 : (0 : Int) ≤ (c : Int) := by omega
  have c1 : (c : Int) < 16 := by omega
  have d0 : (0 : Int) ≤ (d : Int) := by omega
  have d1 : (d : Int) < 16 := by omega
  go_enter Try.func44, Try.ntmps44
  have ca0 := HR0.out.cell a (by rw [HO0.out.1]; exact ha)
  have cb0 := HR0.out.cell b (by rw [HO0.out.1]; exact hb)
  have fa0 := HR0.out.may a
  have xa0 := HO0.out.lt a
  have xb0 := HO0.out.lt b
  have hst : RowT ((w.setCell ⟨g, a, none⟩ (.int .i64 (((Sp.nth s a + Sp.nth s b) % 4294967296 : Nat) : Int))).drew) g (s.set a ((Sp.nth s a + Sp.nth s b) % 4294967296)) tl := HR0.out.set a _ (by rw [HO0.out.1]; exact ha)
  have HOK : Hid (Ch.Ok (s.set a ((Sp.nth s a + Sp.nth s b) % 4294967296))) := HO0.out.set a (Nat.mod_lt _ (by decide))
  have HGR : Hid (w.grownBy ((w.setCell ⟨g, a, none⟩ (.int .i64 (((Sp.nth s a + Sp.nth s b) % 4294967296 : Nat) : Int))).drew) (some g)) := grownBy_drewN (grownBy_set HG0.out a _) 1
  have HST : Hid (RowT ((w.setCell ⟨g, a, none⟩ (.int .i64 (((Sp.nth s a + Sp.nth s b) % 4294967296 : Nat) : Int))).drew) g (s.set a ((Sp.nth s a + Sp.nth s b) % 4294967296)) tl) := hst
  have HE : Hid (Ch.step s a b d 16 = (s.set a ((Sp.nth s a + Sp.nth s b) % 4294967296)).set d (Ch.rotl (Sp.nth (s.set a ((Sp.nth s a + Sp.nth s b) % 4294967296)) d ^^^ Sp.nth (s.set a ((Sp.nth s a + Sp.nth s b) % 4294967296)) a) 16)) := rfl
  have e0 : (((Sp.nth s a + Sp.nth s b) % 4294967296 : Nat) : Int) = ((Sp.nth s a : Nat) + (Sp.nth s b : Nat) : Int) % 4294967296 := by omega
  have e1 : ((Sp.nth s a : Nat) + (Sp.nth s b : Nat) : Int).tmod 4294967296 = ((Sp.nth s a : Nat) + (Sp.nth s b : Nat) : Int) % 4294967296 := Int.tmod_eq_emod_of_nonneg (by omega)
  have e2 : IntKind.i64.wrap ((Sp.nth s a : Nat) + (Sp.nth s b : Nat) : Int) = ((Sp.nth s a : Nat) + (Sp.nth s b : Nat) : Int) := i64_id _ (by omega)
  rw [e0] at HST HGR
  clear hst e0 HR0 HG0 xa0 xb0
  generalize hU : ((Sp.nth s a : Nat) + (Sp.nth s b : Nat) : Int) % 4294967296 = U at *
  clear hU
  generalize Sp.nth s a = ya at ca0 e1 e2
  generalize Sp.nth s b = yb at cb0 e1 e2
  go_wp2
  go_region
  go_wp2
  clear e1 e2 ca0 cb0 fa0
  generalize (w.setCell ⟨g, a, none⟩ (.int .i64 U)).drew = v0 at *
  generalize s.set a ((Sp.nth s a + Sp.nth s b) % 4294967296) = s1 at *
  have cd := HST.out.cell d (by rw [HOK.out.1]; exact hd)
  have ca := HST.out.cell a (by rw [HOK.out.1]; exact ha)
  have fd := HST.out.may d
  have xd : Sp.nth s1 d < 4294967296 := HOK.out.lt d
  have xa : Sp.nth s1 a < 4294967296 := HOK.out.lt a
  have hx := i64_xor_nat _ _ xd xa
  have xx : Sp.nth s1 d ^^^ Sp.nth s1 a < 4294967296 := Nat.xor_lt_two_pow (n := 32) xd xa
  have HN : Hid (RowT (v0.setCell ⟨g, d, none⟩ (.int .i64 ((Ch.rotl (Sp.nth s1 d ^^^ Sp.nth s1 a) 16 : Nat) : Int))) g (Ch.step s a b d 16) tl) := by
    rw [HE.out]
    exact HST.out.set d _ (by rw [HOK.out.1]; exact hd)
  have HGN : Hid (w.grownBy (v0.setCell ⟨g, d, none⟩ (.int .i64 ((Ch.rotl (Sp.nth s1 d ^^^ Sp.nth s1 a) 16 : Nat) : Int))) (some g)) := grownBy_set HGR.out d _
  have HO1 : Hid (Ch.Ok (Ch.step s a b d 16)) := Ch.step_ok HO0.out _ _ _ (by decide)
  clear HE xd xa HST HGR HOK HO0
  generalize Sp.nth s1 d = xd at *
  generalize Sp.nth s1 a = xa at *
  generalize Ch.step s a b d 16 = t0 at *
  go_cut [] from 23 to 35 (fun wx => RowT wx g t0 tl ∧ w.grownBy wx (some g))
  case first =>
    go_region_with ((go_at_call 50; refine (left16 _ _ xx).mono ?_; rintro e w' ⟨rfl, rfl⟩))
    all_goals (go_wp2_with fail; go_meet; exact ⟨HN.out, grownBy_drewN HGN.out 1⟩)
  case rest =>
  have HR1 : Hid (RowT wc g t0 tl) := hcut.1
  have HG1 : Hid (w.grownBy wc (some g)) := hcut.2
  clear hcut HN HGN xx cd ca fd hx
  generalize wc = w1 at *
  have ca1 := HR1.out.cell c (by rw [HO1.out.1]; exact hc)
  have cb1 := HR1.out.cell d (by rw [HO1.out.1]; exact hd)
  have fa1 := HR1.out.may c
  have xa1 := HO1.out.lt c
  have xb1 := HO1.out.lt d
  have hst : RowT ((w1.setCell ⟨g, c, none⟩ (.int .i64 (((Sp.nth t0 c + Sp.nth t0 d) % 4294967296 : Nat) : Int))).drew) g (t0.set c ((Sp.nth t0 c + Sp.nth t0 d) % 4294967296)) tl := HR1.out.set c _ (by rw [HO1.out.1]; exact hc)
  have HOK : Hid (Ch.Ok (t0.set c ((Sp.nth t0 c + Sp.nth t0 d) % 4294967296))) := HO1.out.set c (Nat.mod_lt _ (by decide))
  have HGR : Hid (w.grownBy ((w1.setCell ⟨g, c, none⟩ (.int .i64 (((Sp.nth t0 c + Sp.nth t0 d) % 4294967296 : Nat) : Int))).drew) (some g)) := grownBy_drewN (grownBy_set HG1.out c _) 1
  have HST : Hid (RowT ((w1.setCell ⟨g, c, none⟩ (.int .i64 (((Sp.nth t0 c + Sp.nth t0 d) % 4294967296 : Nat) : Int))).drew) g (t0.set c ((Sp.nth t0 c + Sp.nth t0 d) % 4294967296)) tl) := hst
  have HE : Hid (Ch.step t0 c d b 12 = (t0.set c ((Sp.nth t0 c + Sp.nth t0 d) % 4294967296)).set b (Ch.rotl (Sp.nth (t0.set c ((Sp.nth t0 c + Sp.nth t0 d) % 4294967296)) b ^^^ Sp.nth (t0.set c ((Sp.nth t0 c + Sp.nth t0 d) % 4294967296)) c) 12)) := rfl
  have e0 : (((Sp.nth t0 c + Sp.nth t0 d) % 4294967296 : Nat) : Int) = ((Sp.nth t0 c : Nat) + (Sp.nth t0 d : Nat) : Int) % 4294967296 := by omega
  have e1 : ((Sp.nth t0 c : Nat) + (Sp.nth t0 d : Nat) : Int).tmod 4294967296 = ((Sp.nth t0 c : Nat) + (Sp.nth t0 d : Nat) : Int) % 4294967296 := Int.tmod_eq_emod_of_nonneg (by omega)
  have e2 : IntKind.i64.wrap ((Sp.nth t0 c : Nat) + (Sp.nth t0 d : Nat) : Int) = ((Sp.nth t0 c : Nat) + (Sp.nth t0 d : Nat) : Int) := i64_id _ (by omega)
  rw [e0] at HST HGR
  clear hst e0 HR1 HG1 xa1 xb1
  generalize hU : ((Sp.nth t0 c : Nat) + (Sp.nth t0 d : Nat) : Int) % 4294967296 = U at *
  clear hU
  generalize Sp.nth t0 c = ya at ca1 e1 e2
  generalize Sp.nth t0 d = yb at cb1 e1 e2
  go_wp2
  go_region
  go_wp2
  clear e1 e2 ca1 cb1 fa1
  generalize (w1.setCell ⟨g, c, none⟩ (.int .i64 U)).drew = v1 at *
  generalize t0.set c ((Sp.nth t0 c + Sp.nth t0 d) % 4294967296) = s1 at *
  have cd := HST.out.cell b (by rw [HOK.out.1]; exact hb)
  have ca := HST.out.cell c (by rw [HOK.out.1]; exact hc)
  have fd := HST.out.may b
  have xd : Sp.nth s1 b < 4294967296 := HOK.out.lt b
  have xa : Sp.nth s1 c < 4294967296 := HOK.out.lt c
  have hx := i64_xor_nat _ _ xd xa
  have xx : Sp.nth s1 b ^^^ Sp.nth s1 c < 4294967296 := Nat.xor_lt_two_pow (n := 32) xd xa
  have HN : Hid (RowT (v1.setCell ⟨g, b, none⟩ (.int .i64 ((Ch.rotl (Sp.nth s1 b ^^^ Sp.nth s1 c) 12 : Nat) : Int))) g (Ch.step t0 c d b 12) tl) := by
    rw [HE.out]
    exact HST.out.set b _ (by rw [HOK.out.1]; exact hb)
  have HGN : Hid (w.grownBy (v1.setCell ⟨g, b, none⟩ (.int .i64 ((Ch.rotl (Sp.nth s1 b ^^^ Sp.nth s1 c) 12 : Nat) : Int))) (some g)) := grownBy_set HGR.out b _
  have HO2 : Hid (Ch.Ok (Ch.step t0 c d b 12)) := Ch.step_ok HO1.out _ _ _ (by decide)
  clear HE xd xa HST HGR HOK HO1
  generalize Sp.nth s1 b = xd at *
  generalize Sp.nth s1 c = xa at *
  generalize Ch.step t0 c d b 12 = t1 at *
  go_cut [] from 49 to 61 (fun wx => RowT wx g t1 tl ∧ w.grownBy wx (some g))
  case first =>
    go_region_with ((go_at_call 50; refine (left12 _ _ xx).mono ?_; rintro e w' ⟨rfl, rfl⟩))
    all_goals (go_wp2_with fail; go_meet; exact ⟨HN.out, grownBy_drewN HGN.out 1⟩)
  case rest =>
  have HR2 : Hid (RowT wc g t1 tl) := hcut.1
  have HG2 : Hid (w.grownBy wc (some g)) := hcut.2
  clear hcut HN HGN xx cd ca fd hx
  generalize wc = w2 at *
  have ca2 := HR2.out.cell a (by rw [HO2.out.1]; exact ha)
  have cb2 := HR2.out.cell b (by rw [HO2.out.1]; exact hb)
  have fa2 := HR2.out.may a
  have xa2 := HO2.out.lt a
  have xb2 := HO2.out.lt b
  have hst : RowT ((w2.setCell ⟨g, a, none⟩ (.int .i64 (((Sp.nth t1 a + Sp.nth t1 b) % 4294967296 : Nat) : Int))).drew) g (t1.set a ((Sp.nth t1 a + Sp.nth t1 b) % 4294967296)) tl := HR2.out.set a _ (by rw [HO2.out.1]; exact ha)
  have HOK : Hid (Ch.Ok (t1.set a ((Sp.nth t1 a + Sp.nth t1 b) % 4294967296))) := HO2.out.set a (Nat.mod_lt _ (by decide))
  have HGR : Hid (w.grownBy ((w2.setCell ⟨g, a, none⟩ (.int .i64 (((Sp.nth t1 a + Sp.nth t1 b) % 4294967296 : Nat) : Int))).drew) (some g)) := grownBy_drewN (grownBy_set HG2.out a _) 1
  have HST : Hid (RowT ((w2.setCell ⟨g, a, none⟩ (.int .i64 (((Sp.nth t1 a + Sp.nth t1 b) % 4294967296 : Nat) : Int))).drew) g (t1.set a ((Sp.nth t1 a + Sp.nth t1 b) % 4294967296)) tl) := hst
  have HE : Hid (Ch.step t1 a b d 8 = (t1.set a ((Sp.nth t1 a + Sp.nth t1 b) % 4294967296)).set d (Ch.rotl (Sp.nth (t1.set a ((Sp.nth t1 a + Sp.nth t1 b) % 4294967296)) d ^^^ Sp.nth (t1.set a ((Sp.nth t1 a + Sp.nth t1 b) % 4294967296)) a) 8)) := rfl
  have e0 : (((Sp.nth t1 a + Sp.nth t1 b) % 4294967296 : Nat) : Int) = ((Sp.nth t1 a : Nat) + (Sp.nth t1 b : Nat) : Int) % 4294967296 := by omega
  have e1 : ((Sp.nth t1 a : Nat) + (Sp.nth t1 b : Nat) : Int).tmod 4294967296 = ((Sp.nth t1 a : Nat) + (Sp.nth t1 b : Nat) : Int) % 4294967296 := Int.tmod_eq_emod_of_nonneg (by omega)
  have e2 : IntKind.i64.wrap ((Sp.nth t1 a : Nat) + (Sp.nth t1 b : Nat) : Int) = ((Sp.nth t1 a : Nat) + (Sp.nth t1 b : Nat) : Int) := i64_id _ (by omega)
  rw [e0] at HST HGR
  clear hst e0 HR2 HG2 xa2 xb2
  generalize hU : ((Sp.nth t1 a : Nat) + (Sp.nth t1 b : Nat) : Int) % 4294967296 = U at *
  clear hU
  generalize Sp.nth t1 a = ya at ca2 e1 e2
  generalize Sp.nth t1 b = yb at cb2 e1 e2
  go_wp2
  go_region
  go_wp2
  clear e1 e2 ca2 cb2 fa2
  generalize (w2.setCell ⟨g, a, none⟩ (.int .i64 U)).drew = v2 at *
  generalize t1.set a ((Sp.nth t1 a + Sp.nth t1 b) % 4294967296) = s1 at *
  have cd := HST.out.cell d (by rw [HOK.out.1]; exact hd)
  have ca := HST.out.cell a (by rw [HOK.out.1]; exact ha)
  have fd := HST.out.may d
  have xd : Sp.nth s1 d < 4294967296 := HOK.out.lt d
  have xa : Sp.nth s1 a < 4294967296 := HOK.out.lt a
  have hx := i64_xor_nat _ _ xd xa
  have xx : Sp.nth s1 d ^^^ Sp.nth s1 a < 4294967296 := Nat.xor_lt_two_pow (n := 32) xd xa
  have HN : Hid (RowT (v2.setCell ⟨g, d, none⟩ (.int .i64 ((Ch.rotl (Sp.nth s1 d ^^^ Sp.nth s1 a) 8 : Nat) : Int))) g (Ch.step t1 a b d 8) tl) := by
    rw [HE.out]
    exact HST.out.set d _ (by rw [HOK.out.1]; exact hd)
  have HGN : Hid (w.grownBy (v2.setCell ⟨g, d, none⟩ (.int .i64 ((Ch.rotl (Sp.nth s1 d ^^^ Sp.nth s1 a) 8 : Nat) : Int))) (some g)) := grownBy_set HGR.out d _
  have HO3 : Hid (Ch.Ok (Ch.step t1 a b d 8)) := Ch.step_ok HO2.out _ _ _ (by decide)
  clear HE xd xa HST HGR HOK HO2
  generalize Sp.nth s1 d = xd at *
  generalize Sp.nth s1 a = xa at *
  generalize Ch.step t1 a b d 8 = t2 at *
  go_cut [] from 75 to 87 (fun wx => RowT wx g t2 tl ∧ w.grownBy wx (some g))
  case first =>
    go_region_with ((go_at_call 50; refine (left8 _ _ xx).mono ?_; rintro e w' ⟨rfl, rfl⟩))
    all_goals (go_wp2_with fail; go_meet; exact ⟨HN.out, grownBy_drewN HGN.out 1⟩)
  case rest =>
  have HR3 : Hid (RowT wc g t2 tl) := hcut.1
  have HG3 : Hid (w.grownBy wc (some g)) := hcut.2
  clear hcut HN HGN xx cd ca fd hx
  generalize wc = w3 at *
  have ca3 := HR3.out.cell c (by rw [HO3.out.1]; exact hc)
  have cb3 := HR3.out.cell d (by rw [HO3.out.1]; exact hd)
  have fa3 := HR3.out.may c
  have xa3 := HO3.out.lt c
  have xb3 := HO3.out.lt d
  have hst : RowT ((w3.setCell ⟨g, c, none⟩ (.int .i64 (((Sp.nth t2 c + Sp.nth t2 d) % 4294967296 : Nat) : Int))).drew) g (t2.set c ((Sp.nth t2 c + Sp.nth t2 d) % 4294967296)) tl := HR3.out.set c _ (by rw [HO3.out.1]; exact hc)
  have HOK : Hid (Ch.Ok (t2.set c ((Sp.nth t2 c + Sp.nth t2 d) % 4294967296))) := HO3.out.set c (Nat.mod_lt _ (by decide))
  have HGR : Hid (w.grownBy ((w3.setCell ⟨g, c, none⟩ (.int .i64 (((Sp.nth t2 c + Sp.nth t2 d) % 4294967296 : Nat) : Int))).drew) (some g)) := grownBy_drewN (grownBy_set HG3.out c _) 1
  have HST : Hid (RowT ((w3.setCell ⟨g, c, none⟩ (.int .i64 (((Sp.nth t2 c + Sp.nth t2 d) % 4294967296 : Nat) : Int))).drew) g (t2.set c ((Sp.nth t2 c + Sp.nth t2 d) % 4294967296)) tl) := hst
  have HE : Hid (Ch.step t2 c d b 7 = (t2.set c ((Sp.nth t2 c + Sp.nth t2 d) % 4294967296)).set b (Ch.rotl (Sp.nth (t2.set c ((Sp.nth t2 c + Sp.nth t2 d) % 4294967296)) b ^^^ Sp.nth (t2.set c ((Sp.nth t2 c + Sp.nth t2 d) % 4294967296)) c) 7)) := rfl
  have e0 : (((Sp.nth t2 c + Sp.nth t2 d) % 4294967296 : Nat) : Int) = ((Sp.nth t2 c : Nat) + (Sp.nth t2 d : Nat) : Int) % 4294967296 := by omega
  have e1 : ((Sp.nth t2 c : Nat) + (Sp.nth t2 d : Nat) : Int).tmod 4294967296 = ((Sp.nth t2 c : Nat) + (Sp.nth t2 d : Nat) : Int) % 4294967296 := Int.tmod_eq_emod_of_nonneg (by omega)
  have e2 : IntKind.i64.wrap ((Sp.nth t2 c : Nat) + (Sp.nth t2 d : Nat) : Int) = ((Sp.nth t2 c : Nat) + (Sp.nth t2 d : Nat) : Int) := i64_id _ (by omega)
  rw [e0] at HST HGR
  clear hst e0 HR3 HG3 xa3 xb3
  generalize hU : ((Sp.nth t2 c : Nat) + (Sp.nth t2 d : Nat) : Int) % 4294967296 = U at *
  clear hU
  generalize Sp.nth t2 c = ya at ca3 e1 e2
  generalize Sp.nth t2 d = yb at cb3 e1 e2
  go_wp2
  go_region
  go_wp2
  clear e1 e2 ca3 cb3 fa3
  generalize (w3.setCell ⟨g, c, none⟩ (.int .i64 U)).drew = v3 at *
  generalize t2.set c ((Sp.nth t2 c + Sp.nth t2 d) % 4294967296) = s1 at *
  have cd := HST.out.cell b (by rw [HOK.out.1]; exact hb)
  have ca := HST.out.cell c (by rw [HOK.out.1]; exact hc)
  have fd := HST.out.may b
  have xd : Sp.nth s1 b < 4294967296 := HOK.out.lt b
  have xa : Sp.nth s1 c < 4294967296 := HOK.out.lt c
  have hx := i64_xor_nat _ _ xd xa
  have xx : Sp.nth s1 b ^^^ Sp.nth s1 c < 4294967296 := Nat.xor_lt_two_pow (n := 32) xd xa
  have HN : Hid (RowT (v3.setCell ⟨g, b, none⟩ (.int .i64 ((Ch.rotl (Sp.nth s1 b ^^^ Sp.nth s1 c) 7 : Nat) : Int))) g (Ch.step t2 c d b 7) tl) := by
    rw [HE.out]
    exact HST.out.set b _ (by rw [HOK.out.1]; exact hb)
  have HGN : Hid (w.grownBy (v3.setCell ⟨g, b, none⟩ (.int .i64 ((Ch.rotl (Sp.nth s1 b ^^^ Sp.nth s1 c) 7 : Nat) : Int))) (some g)) := grownBy_set HGR.out b _
  have HO4 : Hid (Ch.Ok (Ch.step t2 c d b 7)) := Ch.step_ok HO3.out _ _ _ (by decide)
  clear HE xd xa HST HGR HOK HO3
  generalize Sp.nth s1 b = xd at *
  generalize Sp.nth s1 c = xa at *
  generalize Ch.step t2 c d b 7 = t3 at *
  go_region_with ((go_at_call 50; refine (left7 _ _ xx).mono ?_; rintro e w' ⟨rfl, rfl⟩))
  all_goals (refine bodyPost_end (results_none rfl _ _ _) rfl ?_; exact ⟨rfl, HF.out ▸ HN.out, grownBy_drewN HGN.out 1⟩)
end Go.Proofs.Ytnceiccciaihoaa.C3
