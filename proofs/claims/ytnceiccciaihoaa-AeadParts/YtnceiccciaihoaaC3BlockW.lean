/- The contract of block: the bytes of the block that a state begins. -/
import Derived.Test.YtnceiccciaihoaaC3Begin
namespace Go.Proofs.Ytnceiccciaihoaa.C3
open Go.RowKit
def zeros64 : Array Value := arr .u8 (List.replicate 64 0)
theorem zeros64_eq : #[Value.int IntKind.u8 0, Value.int IntKind.u8 0, Value.int IntKind.u8 0, Value.int IntKind.u8 0, Value.int IntKind.u8 0, Value.int IntKind.u8 0, Value.int IntKind.u8 0, Value.int IntKind.u8 0, Value.int IntKind.u8 0, Value.int IntKind.u8 0, Value.int IntKind.u8 0, Value.int IntKind.u8 0, Value.int IntKind.u8 0, Value.int IntKind.u8 0, Value.int IntKind.u8 0, Value.int IntKind.u8 0, Value.int IntKind.u8 0, Value.int IntKind.u8 0, Value.int IntKind.u8 0, Value.int IntKind.u8 0, Value.int IntKind.u8 0, Value.int IntKind.u8 0, Value.int IntKind.u8 0, Value.int IntKind.u8 0, Value.int IntKind.u8 0, Value.int IntKind.u8 0, Value.int IntKind.u8 0, Value.int IntKind.u8 0, Value.int IntKind.u8 0, Value.int IntKind.u8 0, Value.int IntKind.u8 0, Value.int IntKind.u8 0, Value.int IntKind.u8 0, Value.int IntKind.u8 0, Value.int IntKind.u8 0, Value.int IntKind.u8 0, Value.int IntKind.u8 0, Value.int IntKind.u8 0, Value.int IntKind.u8 0, Value.int IntKind.u8 0, Value.int IntKind.u8 0, Value.int IntKind.u8 0, Value.int IntKind.u8 0, Value.int IntKind.u8 0, Value.int IntKind.u8 0, Value.int IntKind.u8 0, Value.int IntKind.u8 0, Value.int IntKind.u8 0, Value.int IntKind.u8 0, Value.int IntKind.u8 0, Value.int IntKind.u8 0, Value.int IntKind.u8 0, Value.int IntKind.u8 0, Value.int IntKind.u8 0, Value.int IntKind.u8 0, Value.int IntKind.u8 0, Value.int IntKind.u8 0, Value.int IntKind.u8 0, Value.int IntKind.u8 0, Value.int IntKind.u8 0, Value.int IntKind.u8 0, Value.int IntKind.u8 0, Value.int IntKind.u8 0, Value.int IntKind.u8 0] = zeros64 := rfl
theorem info38 : (Try.prog.info? 47).map (·.size) = some 64 := by kernel_rfl
theorem under38 : Try.prog.underlying 47 = some (.array 64 5) := by kernel_rfl
/-- At block g lie bytes of an array. -/
def ArAt (w : World) (g : Nat) (l : List Nat) : Prop := w.heap[g]? = some (.cells (arr .u8 l) 47 (0, 0))
section
variable {w : World} {g : Nat} {l : List Nat}
theorem ArAt.cell (h : ArAt w g l) (i : Nat) (hi : i < l.length) : w.cell? ⟨g, i, none⟩ = some (.int .u8 (Sp.nth l i : Nat)) := by
  rw [cell_of_row _ _ _ _ _ _ h]; exact arr_get _ _ _ hi
theorem ArAt.may (h : ArAt w g l) (i : Nat) : w.frozen? ⟨g, i, none⟩ = false := frozen_of_row _ _ _ _ _ h
theorem ArAt.set (h : ArAt w g l) (i x : Nat) : ArAt (w.setCell ⟨g, i, none⟩ (.int .u8 (x : Nat))) g (l.set i x) := by
  have := heap_setCell_same w g i (arr .u8 l) 47 (.int .u8 (x : Nat)) h
  unfold ArAt
  rw [this]
  congr 2
  apply Array.ext'
  simp [arr, ints]
theorem ArAt.grown {w' : World} {g' : Nat} (h : ArAt w g l) (hg : w.grownBy w' (some g')) (hne : g ≠ g') : ArAt w' g l := by
  have := hg.block g (Array.getElem?_eq_some_iff.1 h).1 (by simpa using hne)
  exact this.trans h
end
theorem setCells_size (g : Nat) : ∀ (vs : List Value) (o : Nat) (w : World), (w.setCells g o vs).heap.size = w.heap.size
  | [], _, _ => rfl
  | v :: vs, o, w => by rw [World.setCells, setCells_size g vs (o + 1)]; simp [World.setCell]
/-- Four bytes behind k fours, and noughts behind them. -/
theorem out_set (a : List Nat) (k x0 x1 x2 x3 : Nat) (ha : a.length = 4 * k) (hk : k < 16) :
    ((((a ++ List.replicate (64 - 4 * k) 0).set (4 * k) x0).set (4 * k + 1) x1).set (4 * k + 2) x2).set (4 * k + 3) x3 = a ++ [x0, x1, x2, x3] ++ List.replicate (64 - 4 * (k + 1)) 0 := by
  rw [show 64 - 4 * k = (64 - 4 * (k + 1)) + 1 + 1 + 1 + 1 from by omega]
  simp only [List.replicate_succ]
  rw [List.set_append_right _ _ (by omega), List.set_append_right _ _ (by omega), List.set_append_right _ _ (by omega), List.set_append_right _ _ (by omega), ha]
  rw [show 4 * k - 4 * k = 0 from by omega, show 4 * k + 1 - 4 * k = 1 from by omega, show 4 * k + 2 - 4 * k = 2 from by omega, show 4 * k + 3 - 4 * k = 3 from by omega]
  simp
def blkW (w : World) (s : List Nat) : World := (w.alloc (Obj.cells (arr .u32 s) 45)).alloc (Obj.cells zeros64 47)
theorem blkW_0 (w : World) (s : List Nat) : StAt (blkW w s) w.heap.size s := by
  show ((w.heap.push _).push _)[_]? = _
  rw [Array.getElem?_push_lt (by simp), Array.getElem_push_eq]
theorem blkW_1 (w : World) (s : List Nat) : ArAt (blkW w s) (w.heap.size + 1) (List.replicate 64 0) := by
  show ((w.heap.push _).push _)[_]? = _
  rw [Array.getElem?_push, if_pos (by simp)]
  rfl
theorem blkW_below (w : World) (s : List Nat) : Below w.heap.size w (blkW w s) := ((Below.refl _ _).alloc (Nat.le_refl _) _).alloc (by simp) _
theorem blkW_size (w : World) (s : List Nat) : (blkW w s).heap.size = w.heap.size + 2 := by simp [blkW]
theorem StAt.below {w w' : World} {g B : Nat} {s : List Nat} (h : StAt w g s) (hb : Below B w w') (hg : g < B) : StAt w' g s := (hb.block g hg).trans h
theorem ArAt.below {w w' : World} {g B : Nat} {s : List Nat} (h : ArAt w g s) (hb : Below B w w') (hg : g < B) : ArAt w' g s := (hb.block g hg).trans h
set_option maxHeartbeats 1000000 in
theorem block_any (s : List Nat) (w : World) (hs : Ch.Ok s) :
    Calls Try.prog 24 #[.agg (arr .u32 s)] w fun e w' => e = .returned (.agg (arr .u8 (Ch.block s))) ∧ Below w.heap.size w w' := by
  have HS : Hid (Ch.Ok s) := hs
  have hl := hs.1
  have HR : Hid (Ch.Ok (Ch.rounds s 10)) := Ch.rounds_ok hs 10
  have HC : Hid (∀ w, Calls Try.prog 39 #[.agg (arr .u32 s)] w fun e w' => e = .returned (.agg (arr .u32 (Ch.rounds s 10))) ∧ Below w.heap.size w w') := fun w => mixed_any s w hs
  have HO : Hid (∀ k, Ch.outTo s (Ch.rounds s 10) (k + 1) = Ch.outTo s (Ch.rounds s 10) k ++ Ch.le4 ((Sp.nth (Ch.rounds s 10) k + Sp.nth s k) % 4294967296)) := Ch.outTo_succ s _
  have HF : Hid (Ch.outTo s (Ch.rounds s 10) 16 = Ch.block s) := rfl
  have hbl := Ch.block_length s
  generalize Ch.block s = B at *
  generalize Ch.rounds s 10 = R at *
  have HBL : Hid (B.length = 64) := hbl
  have HSL : Hid (s.length = 16) := hl
  clear hs hl hbl
  go_enter Try.func24, Try.ntmps24
  go_wp2_with (first | with_reducible (refine stop_load 45 ?_))
  rw [zeros64_eq]
  refine Stop.go ?_
  rw [show (w.alloc (Obj.cells (arr .u32 s) 45)).alloc (Obj.cells zeros64 47) = blkW w s from rfl]
  with_reducible refine law_load_arr w.heap.size 0 .u32 s _ ?lx ?lc under41 rfl ?li ?lk
  case lx => exact rfl
  case lc => exact rangeAt_of_row (blkW_0 w s)
  case li => rw [HSL.out]; exact info41
  go_wp2_with fail
  refine (HC.out _).mono ?_
  rintro e W1 ⟨rfl, hb1⟩
  have hsz := blkW_size w s
  have HB1 : Hid (Below w.heap.size w W1) := (blkW_below w s).trans (hb1.mono (by omega))
  have HS1 : Hid (StAt W1 w.heap.size s) := (blkW_0 w s).below hb1 (by omega)
  have HA1 : Hid (ArAt W1 (w.heap.size + 1) (List.replicate 64 0)) := (blkW_1 w s).below hb1 (by omega)
  have hs1 : w.heap.size + 2 ≤ W1.heap.size := by rw [← hsz]; exact hb1.size
  clear hb1 hsz HC
  go_wp2_with (first | with_reducible (refine stop_store 45 ?_))
  rw [zeros16_eq]
  refine Stop.go ?_
  have hz0 : StAt (W1.alloc (Obj.cells zeros16 45)) W1.heap.size (List.replicate 16 0) := heap_alloc_new W1 _
  have HRL : Hid (R.length = 16) := HR.out.1
  with_reducible refine law_store W1.heap.size 0 (arr .u32 R) ?sx ?sy ?st ?si (ints_one _ _) ?sk
  case sx => exact rfl
  case sy => exact rfl
  case st => rw [arr_size, HRL.out]; exact there_of_row hz0 16 (by simp [arr_size])
  case si => rw [arr_size, HRL.out]; exact info41
  have hgr : W1.grownBy (World.setCells (W1.alloc (Obj.cells zeros16 45)) W1.heap.size 0 (arr .u32 R).toList) (some W1.heap.size) := grownBy_setCells _ _ (grownBy_alloc W1 _ _)
  have H2 : Hid (StAt (World.setCells (W1.alloc (Obj.cells zeros16 45)) W1.heap.size 0 (arr .u32 R).toList) W1.heap.size R) := by
    have := heap_setCells W1.heap.size 45 (ints .u32 R) 0 (W1.alloc (Obj.cells zeros16 45)) (ints .u32 (List.replicate 16 0)) hz0 (by rw [ints_length, ints_length, HRL.out]; simp)
    show _ = _
    rw [arr_list]
    refine Eq.trans this ?_
    rw [ints_length, HRL.out]
    simp [arr, ints]
  have HS2 : Hid (StAt (World.setCells (W1.alloc (Obj.cells zeros16 45)) W1.heap.size 0 (arr .u32 R).toList) w.heap.size s) := HS1.out.grown hgr (by omega)
  have HA2 : Hid (ArAt (World.setCells (W1.alloc (Obj.cells zeros16 45)) W1.heap.size 0 (arr .u32 R).toList) (w.heap.size + 1) (List.replicate 64 0)) := HA1.out.grown hgr (by omega)
  have HB2 : Hid (Below w.heap.size w (World.setCells (W1.alloc (Obj.cells zeros16 45)) W1.heap.size 0 (arr .u32 R).toList)) := below_grown HB1.out hgr (by omega)
  have hs2 : (World.setCells (W1.alloc (Obj.cells zeros16 45)) W1.heap.size 0 (arr .u32 R).toList).heap.size = W1.heap.size + 1 := by rw [setCells_size]; simp
  clear hgr hz0 HS1 HA1 HB1
  generalize World.setCells (W1.alloc (Obj.cells zeros16 45)) W1.heap.size 0 (arr .u32 R).toList = W2 at *
  generalize W1.heap.size = g3 at *
  go_wp2_with fail
  rw [zeros64_eq]
  have hgr : W2.grownBy (W2.alloc (Obj.cells zeros64 47)) (some W2.heap.size) := grownBy_alloc W2 _ _
  have H3 : Hid (StAt (W2.alloc (Obj.cells zeros64 47)) g3 R) := H2.out.grown hgr (by omega)
  have HS3 : Hid (StAt (W2.alloc (Obj.cells zeros64 47)) w.heap.size s) := HS2.out.grown hgr (by omega)
  have HA3 : Hid (ArAt (W2.alloc (Obj.cells zeros64 47)) (w.heap.size + 1) (List.replicate 64 0)) := HA2.out.grown hgr (by omega)
  have HB3 : Hid (Below w.heap.size w (W2.alloc (Obj.cells zeros64 47))) := below_grown HB2.out hgr (by omega)
  have HZ3 : Hid (ArAt (W2.alloc (Obj.cells zeros64 47)) W2.heap.size (List.replicate 64 0)) := heap_alloc_new W2 _
  clear hgr H2 HS2 HA2 HB2
  generalize W2.alloc (Obj.cells zeros64 47) = W3 at *
  generalize W2.heap.size = g4 at *
  subst hs2
  go_loopw [9] (fun i wr => ∃ k : Nat, k ≤ 16 ∧ i = .int .i64 k ∧ Hid (ArAt wr (g3 + 1) (Ch.outTo s R k ++ List.replicate (64 - 4 * k) 0)) ∧ Hid (W3.grownBy wr (some (g3 + 1)))) (fun i _ => 16 - (intOf i).toNat)
  case atStart => exact ⟨0, by omega, rfl, HZ3.out, grownBy_refl _ _⟩
  case round =>
    clear HZ3
    obtain ⟨k, hk, rfl, H4, G4⟩ := hrel
    by_cases hlt : k < 16
    · have c3 := (H3.out.grown G4.out (by omega)).cell k (by rw [HRL.out]; exact hlt)
      have cs := (HS3.out.grown G4.out (by omega)).cell k (by rw [HSL.out]; exact hlt)
      have k0 : (0 : Int) ≤ (k : Int) := by omega
      have k1 : (k : Int) < 16 := by omega
      have k2 : 4 * (k : Int) < 64 := by omega
      have k3 : 4 * (k : Int) + 1 < 64 := by omega
      have k4 : 4 * (k : Int) + 2 < 64 := by omega
      have k5 : 4 * (k : Int) + 3 < 64 := by omega
      have t0 : (4 * (k : Int)).toNat = 4 * k := by omega
      have t1 : (4 * (k : Int) + 1).toNat = 4 * k + 1 := by omega
      have t2 : (4 * (k : Int) + 2).toNat = 4 * k + 2 := by omega
      have t3 : (4 * (k : Int) + 3).toNat = 4 * k + 3 := by omega
      have HOK : Hid (Ch.outTo s R (k + 1) = _) := HO.out k
      generalize Sp.nth R k = x at *
      generalize Sp.nth s k = y at *
      go_wp2_with fail
      go_quiet (fail)
      obtain ⟨z, hz⟩ : ∃ z, (x + y) % 4294967296 = z := ⟨_, rfl⟩
      have hzi : ((x : Int) + (y : Int)) % 4294967296 = (z : Int) := by omega
      have hz32 : z < 4294967296 := by omega
      rw [hzi]
      rw [hz] at HOK
      clear hz hzi c3 cs
      have hol : (Ch.outTo s R k ++ List.replicate (64 - 4 * k) 0).length = 64 := by rw [List.length_append, Ch.outTo_length, List.length_replicate]; omega
      have e0 := H4.out.cell (4 * k) (by rw [hol]; omega)
      have e1 := H4.out.cell (4 * k + 1) (by rw [hol]; omega)
      have e2 := H4.out.cell (4 * k + 2) (by rw [hol]; omega)
      have e3 := H4.out.cell (4 * k + 3) (by rw [hol]; omega)
      have HN : Hid (ArAt ((((wr.drewN nq).setCell ⟨g3 + 1, 4 * k, none⟩ (.int .u8 ((z % 256 : Nat) : Int))).setCell ⟨g3 + 1, 4 * k + 1, none⟩ (.int .u8 ((z / 256 % 256 : Nat) : Int))).setCell ⟨g3 + 1, 4 * k + 2, none⟩ (.int .u8 ((z / 65536 % 256 : Nat) : Int)) |>.setCell ⟨g3 + 1, 4 * k + 3, none⟩ (.int .u8 ((z / 16777216 : Nat) : Int))) (g3 + 1) (Ch.outTo s R (k + 1) ++ List.replicate (64 - 4 * (k + 1)) 0)) := by
        rw [HOK.out, Ch.le4]
        rw [← out_set _ k _ _ _ _ (Ch.outTo_length s R k) hlt]
        have h4 : ArAt (wr.drewN nq) (g3 + 1) (Ch.outTo s R k ++ List.replicate (64 - 4 * k) 0) := H4.out
        exact (((h4.set (4 * k) _).set (4 * k + 1) _).set (4 * k + 2) _).set (4 * k + 3) _
      have HG : Hid (W3.grownBy ((((wr.drewN nq).setCell ⟨g3 + 1, 4 * k, none⟩ (.int .u8 ((z % 256 : Nat) : Int))).setCell ⟨g3 + 1, 4 * k + 1, none⟩ (.int .u8 ((z / 256 % 256 : Nat) : Int))).setCell ⟨g3 + 1, 4 * k + 2, none⟩ (.int .u8 ((z / 65536 % 256 : Nat) : Int)) |>.setCell ⟨g3 + 1, 4 * k + 3, none⟩ (.int .u8 ((z / 16777216 : Nat) : Int))) (some (g3 + 1))) :=
        grownBy_set (grownBy_set (grownBy_set (grownBy_set (grownBy_drewN G4.out nq) _ _) _ _) _ _) _ _
      have i0 : ((z % 256 : Nat) : Int) = (z : Int) % 256 := by omega
      have i1 : ((z / 256 % 256 : Nat) : Int) = (z : Int) / 256 % 256 := by omega
      have i2 : ((z / 65536 % 256 : Nat) : Int) = (z : Int) / 65536 % 256 := by omega
      have i3 : ((z / 16777216 : Nat) : Int) = (z : Int) / 16777216 := by omega
      rw [i0, i1, i2, i3] at HN HG
      have f0 := H4.out.may (4 * k)
      have f1 := H4.out.may (4 * k + 1)
      have f2 := H4.out.may (4 * k + 2)
      have f3 := H4.out.may (4 * k + 3)
      clear H4 G4 hol HOK i0 i1 i2 i3 HF HO HS HR
      go_wp2_with fail
      go_roundw
      case rel => exact ⟨k + 1, by omega, by go_num, HN.out, HG.out⟩
      case measure => simp [intOf]; omega
    · obtain rfl : k = 16 := by omega
      have h4 := H4.out
      rw [HF.out, show 64 - 4 * 16 = 0 from rfl, List.replicate_zero, List.append_nil] at h4
      have H5 : Hid (ArAt wr (g3 + 1) B) := h4
      have HA4 : Hid (ArAt wr (w.heap.size + 1) (List.replicate 64 0)) := HA3.out.grown G4.out (by omega)
      have HB4 : Hid (Below w.heap.size w wr) := below_grown HB3.out G4.out (by omega)
      clear h4 H4 G4 HO HF HS HR H3 HS3 HA3 HB3
      go_wp2_with (first | with_reducible (refine stop_load 47 ?_))
      refine Stop.go ?_
      with_reducible refine law_load_arr (g3 + 1) 0 .u8 B _ ?ux ?uc under38 rfl ?ui ?uk
      case ux => exact rfl
      case uc => exact rangeAt_of_row H5.out
      case ui => rw [HBL.out]; exact info38
      go_wp2_with (first | with_reducible (refine stop_store 47 ?_))
      refine Stop.go ?_
      with_reducible refine law_store (w.heap.size + 1) 0 (arr .u8 B) ?tx ?ty ?tt ?ti (ints_one _ _) ?tk
      case tx => exact rfl
      case ty => exact rfl
      case tt => rw [arr_size, HBL.out]; exact there_of_row HA4.out 64 (by simp [arr_size])
      case ti => rw [arr_size, HBL.out]; exact info38
      go_wp2_with fail
      refine bodyPost_ret (v := .agg (arr .u8 B)) (results_row rfl _ _ (w.heap.size + 1) 0 (ints .u8 B) _ rfl ?_ under38 rfl ?_) rfl ⟨rfl, ?_⟩
      · exact World.rangeAt_setCells_same _ _ _ _ (by rw [arr_list, ints_length, HBL.out]; exact there_of_row HA4.out 64 (by simp [arr_size]))
      · rw [ints_length, HBL.out]; exact info38
      · exact Below.setCells _ _ _ HB4.out (by omega)
end Go.Proofs.Ytnceiccciaihoaa.C3
