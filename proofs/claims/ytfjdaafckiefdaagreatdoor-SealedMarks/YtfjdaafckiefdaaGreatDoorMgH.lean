/- The contract of the document's Text, and how a part is read. -/
import Derived.Test.YtfjdaafckiefdaaGreatDoorMgF
import Derived.Test.YtfjdaafckiefdaaGreatDoorMgC
import Derived.Test.YtfjdaafckiefdaaGreatDoorE9Rf
import Derived.Test.YtfjdaafckiefdaaGreatDoorMgX
import Derived.Test.YtfjdaafckiefdaaGreatDoorMgU
namespace Go.Proofs.YtfjdaafckiefdaaGreatDoor.C8
open Go.RowKit
theorem own_two (w : World) (x y : Nat) : (w.alloc (.cells #[.int .u8 (x : Int), .int .u8 (y : Int)] 5)).ownsRow w.heap.size 5 1 (.slice (some ⟨w.heap.size, 0, none⟩) 2 2) 2 (ints .u8 [x, y]) :=
  ⟨rfl, .inr ⟨w.heap.size, 2, _, rfl, Nat.le_refl _, heap_alloc_new w _, Nat.le_refl _, by unfold maxLen; omega, rfl, rfl⟩⟩
theorem be2 (n : Nat) (h : n < 65536) : Cd.be 2 n = [n / 256, n % 256] := by
  simp [Cd.be]
  omega
set_option maxHeartbeats 1000000 in
theorem RefText_any (sv : Value) (t : List Nat) (w : World) (hs : Src w sv t) (ht : t.length ≤ 4096) :
    Calls Tryz.prog 38 #[sv] w fun e w' => ∃ v, e = .returned v ∧ w'.ownsRow w.heap.size 5 1 v (2 + t.length) (ints .u8 (Cd.be 2 t.length ++ t)) ∧ Below w.heap.size w w' := by
  have HS : Hid (Src w sv t) := hs
  obtain ⟨q, c, rfl, -⟩ := hs.slice
  obtain ⟨n, HN⟩ : ∃ n, Hid (t.length = n) := ⟨_, rfl⟩
  have HE : Hid (Cd.be 2 t.length = [n / 256, n % 256]) := by show _ = _; rw [HN.out] at ht ⊢; exact be2 n (by omega)
  rw [HE.out]
  rw [HN.out] at ht HS ⊢
  obtain ⟨x, HX⟩ : ∃ x, Hid (n / 256 = x) := ⟨_, rfl⟩
  obtain ⟨y, HY⟩ : ∃ y, Hid (n % 256 = y) := ⟨_, rfl⟩
  rw [HX.out, HY.out]
  have x1 : (n : Int) / 256 = (x : Int) := by rw [← HX.out]; omega
  have y1 : (n : Int) % 256 = (y : Int) := by rw [← HY.out]; omega
  have x2 : (x : Int) < 256 := by rw [← HX.out]; omega
  have y2 : (y : Int) < 256 := by rw [← HY.out]; omega
  have n1 : (n : Int) ≤ 4096 := by omega
  clear hs HE HX HY
  go_enter Tryz.func38, Tryz.ntmps38
  go_wp2_with (first | with_reducible (refine stop_builtin .append ?_))
  refine Stop.go ?_
  have hs0 : Src (w.alloc (.cells #[.int .u8 (x : Int), .int .u8 (y : Int)] 5)) (.slice q n c) t := HS.out.below ((Below.refl _ w).alloc (Nat.le_refl _) _)
  refine law_append_grow w.heap.size (.slice (some ⟨w.heap.size, 0, none⟩) 2 2) 2 [x, y] (.slice q n c) t rfl rfl (own_two w x y) hs0 (by rw [HN.out]; omega) (by simp) ?_
  intro v w1 h1 h2
  have HO : Hid (w1.ownsRow w.heap.size 5 1 v (2 + n) (ints .u8 ([x, y] ++ t))) := by
    rw [HN.out] at h1
    exact h1
  have HB : Hid (Below w.heap.size w w1) := ((Below.refl _ w).alloc (Nat.le_refl _) _).trans (h2.below (own_two w x y) (by simp))
  clear h1 h2 hs0
  go_wp2_with fail
  go_ret
  exact ⟨_, rfl, HO.out, HB.out⟩
theorem val2 {n : Nat} (l : List Nat) (h : n < 65536) : Cd.val ((Cd.be 2 n ++ l).take 2) = n := by
  rw [List.take_append_of_le_length (by rw [Cd.be_length]; omega), List.take_of_length_le (by rw [Cd.be_length]; omega), Cd.val_be, Nat.mod_eq_of_lt h]
theorem val6' {n : Nat} (l : List Nat) (h : n < 281474976710656) : Cd.val ((Cd.be 6 n ++ l).take 6) = n := by
  rw [List.take_append_of_le_length (by rw [Cd.be_length]; omega), List.take_of_length_le (by rw [Cd.be_length]; omega), Cd.val_be, Nat.mod_eq_of_lt h]
theorem dropk (k n : Nat) (l : List Nat) : (Cd.be k n ++ l).drop k = l := by
  have := List.drop_left (l₁ := Cd.be k n) (l₂ := l)
  rwa [Cd.be_length] at this
/-- A right text part is read. -/
theorem part_text (w : World) (p g o : Nat) (pt : Pt) (rest : List Nat) (h : RdAt w p g o (Cd.one pt ++ rest) false) (ht : pt.isText = true) (hw : Cd.wrong pt = 0) :
    Calls Tryz.prog 49 #[.pointer (some ⟨p, 0, none⟩), .int .i64 0, .int .i64 4096] w fun e w' => ∃ v, e = .returned v ∧ SrcV [p] pt.text v w' ∧ RdAt w' p g (o + (2 + pt.text.length)) rest false ∧ Only [p] w w' := by
  have hl : pt.text.length ≤ 4096 := by
    unfold Cd.wrong at hw
    rw [if_pos ht] at hw
    split at hw <;> omega
  have e1 : Cd.one pt = Cd.be 2 pt.text.length ++ pt.text := by unfold Cd.one; rw [if_pos ht]
  rw [e1, List.append_assoc] at h
  refine (Text_src w p g o _ false 0 4096 pt.text.length h (by simp [Cd.be_length] <;> omega) (val2 _ (by omega)) (by omega) (by omega)).mono ?_
  rintro e w' ⟨v, rfl, h3, h4, h5, h6⟩
  rw [dropk, List.take_left] at h4
  have e2 : (Cd.be 2 pt.text.length ++ (pt.text ++ rest)).drop (2 + pt.text.length) = rest := by
    rw [← List.drop_drop, dropk, List.drop_left]
  rw [e2] at h5
  refine ⟨v, rfl, ⟨h4, fun h0 => ?_⟩, h5, h6⟩
  rcases h3 with ⟨h7, _⟩ | rfl
  · exact absurd (List.eq_nil_of_length_eq_zero h7) h0
  · exact Off.at (ad := ⟨g, o + 2, none⟩) (by have := h.2.2.1; simp; omega)
/-- A right number part is read. -/
theorem part_num (w : World) (p g o : Nat) (pt : Pt) (rest : List Nat) (h : RdAt w p g o (Cd.one pt ++ rest) false) (ht : pt.isText = false) (hw : Cd.wrong pt = 0) :
    Calls Tryz.prog 48 #[.pointer (some ⟨p, 0, none⟩), .int .i64 0, .int .i64 1099511627776] w fun e w' => e = .returned (.int .i64 pt.n) ∧ RdAt w' p g (o + 6) rest false ∧ Only [p] w w' := by
  have hl : 0 ≤ pt.n ∧ pt.n ≤ 1099511627776 := by
    unfold Cd.wrong at hw
    rw [if_neg (by simp [ht])] at hw
    split at hw <;> omega
  have e1 : Cd.one pt = Cd.be 6 pt.n.toNat := by unfold Cd.one; rw [if_neg (by simp [ht])]
  rw [e1] at h
  have := Number_ok w p g o _ false 0 1099511627776 pt.n.toNat h (by simp [Cd.be_length]) (val6' _ (by omega)) (by omega) (by omega)
  rw [dropk, show ((pt.n.toNat : Nat) : Int) = pt.n from by omega] at this
  exact this
end Go.Proofs.YtfjdaafckiefdaaGreatDoor.C8
/- The contract of the document's join. -/
namespace Go.Proofs.YtfjdaafckiefdaaGreatDoor.E9
open Go.RowKit C8
/-- Pieces, one behind the other, at q. -/
def Pcs (w : World) (q : Option Addr) (ls : List (List Nat)) : Prop := ∀ i (h : i < ls.length), ∃ b o v, q = some ⟨b, o, none⟩ ∧ b < w.heap.size ∧ w.cell? ⟨b, o + i, none⟩ = some v ∧ Src w v ls[i]
theorem flat_le {ls : List (List Nat)} {i : Nat} : (ls.take i).flatten.length ≤ ls.flatten.length := by
  conv => rhs; rw [← List.take_append_drop i ls, List.flatten_append, List.length_append]
  omega
theorem flat_succ {ls : List (List Nat)} {i : Nat} (h : i < ls.length) : (ls.take (i + 1)).flatten = (ls.take i).flatten ++ ls[i] := by
  rw [List.take_succ_eq_append_getElem h, List.flatten_append]
  simp
set_option maxHeartbeats 2000000 in
theorem join_any (ls : List (List Nat)) (q : Option Addr) (c : Nat) (w : World) (h : Pcs w q ls) (hl : ls.length ≤ 100) (hf : ls.flatten.length ≤ 100000) :
    Calls Tryz.prog 81 #[.slice q ls.length c] w fun e w' => ∃ v, e = .returned v ∧ w'.ownsRow w.heap.size 5 1 v ls.flatten.length (ints .u8 ls.flatten) ∧ Below w.heap.size w w' := by
  have HP : Hid (Pcs w q ls) := h
  have HF : Hid (ls.flatten.length ≤ 100000) := hf
  obtain ⟨n, HN⟩ : ∃ n, Hid (ls.length = n) := ⟨_, rfl⟩
  obtain ⟨tot, HT⟩ : ∃ tot, Hid (ls.flatten = tot) := ⟨_, rfl⟩
  rw [HN.out] at hl ⊢
  rw [HT.out]
  clear h hf
  have l1 : (n : Int) ≤ 100 := by omega
  go_enter Tryz.func81, Tryz.ntmps81
  go_wp2_with fail
  go_loopw [3, 4] (fun sl i wr => ∃ j : Nat, j ≤ n ∧ i = .int .i64 j ∧ Hid (wr.ownsRow w.heap.size 5 1 sl (ls.take j).flatten.length (ints .u8 (ls.take j).flatten)) ∧ Hid (Below w.heap.size w wr)) (fun _ i _ => n - (intOf i).toNat)
  case atStart => exact ⟨0, by omega, rfl, own_none _ _ _ _, Below.refl _ _⟩
  case round =>
    obtain ⟨j, hj, rfl, HO, HB⟩ := hrel
    by_cases hlt : j < n
    · have hjp : j < ls.length := by rw [HN.out]; exact hlt
      obtain ⟨b, o, v, rfl, hb, hc, hs⟩ := HP.out j hjp
      have d1 := (HB.out.cell (p := ⟨b, o + j, none⟩) hb).trans hc
      have HS : Hid (Src wr v ls[j]) := hs.below HB.out
      have j1 : (j : Int) < (n : Int) := by omega
      have j0 : (0 : Int) ≤ (j : Int) := by omega
      have HL : Hid ((ls.take j).flatten.length + ls[j].length ≤ 100000) := by
        have h1 := flat_le (ls := ls) (i := j + 1)
        rw [flat_succ hjp, List.length_append] at h1
        exact Nat.le_trans h1 HF.out
      have HC : Hid ((ls.take (j + 1)).flatten = (ls.take j).flatten ++ ls[j]) := flat_succ hjp
      clear hc hs
      go_wp2_with (first | with_reducible (refine stop_builtin .append ?_))
      refine law_append_src w.heap.size u3 _ _ v _ rfl rfl HO.out HS.out HL.out HB.out.size ?_
      intro v' w' h1 h2
      have HO1 : Hid (w'.ownsRow w.heap.size 5 1 v' (ls.take (j + 1)).flatten.length (ints .u8 (ls.take (j + 1)).flatten)) := by
        show World.ownsRow _ _ _ _ _ _ _
        rw [HC.out, List.length_append]
        exact h1
      have HB1 : Hid (Below w.heap.size w w') := HB.out.trans (below_append HO.out h2 HB.out.size)
      clear h1 h2 HC HL HS HO HB
      go_wp2_with fail
      refine ⟨⟨j + 1, by omega, by simp, HO1, HB1⟩, ?_⟩
      simp only [intOf]
      omega
    · obtain rfl : j = n := by omega
      have j1 : ¬ (j : Int) < (j : Int) := by omega
      have HE : Hid (wr.ownsRow w.heap.size 5 1 u3 tot.length (ints .u8 tot)) := by
        have := HO.out
        rw [List.take_of_length_le (by rw [HN.out]; omega), HT.out] at this
        exact this
      clear HO
      go_wp2_with fail
      go_ret
      exact ⟨_, rfl, HE.out, HB.out⟩
end Go.Proofs.YtfjdaafckiefdaaGreatDoor.E9
/- Steps of the regions of the document's Bytes. -/
namespace Go.Proofs.YtfjdaafckiefdaaGreatDoor.E9
open Go.RowKit C8
/-- A row of pieces. -/
def PcsV (ls : List (List Nat)) (v : Value) (w : World) : Prop := ∃ q c, v = .slice q ls.length c ∧ Pcs w q ls
theorem PcsV.kept {ls : List (List Nat)} {v : Value} {w w' : World} (h : PcsV ls v w) (ho : Only [] w w') : PcsV ls v w' := by
  obtain ⟨q, c, rfl, h⟩ := h
  refine ⟨q, c, rfl, fun i hi => ?_⟩
  obtain ⟨b, o, v, hq, hb, hc, hs⟩ := h i hi
  have hB : Below w.heap.size w w' := ho.below (Nat.le_refl _) (by simp)
  exact ⟨b, o, v, hq, Nat.lt_of_lt_of_le hb hB.size, (hB.cell (p := ⟨b, o + i, none⟩) hb).trans hc, hs.below hB⟩
section
variable {o : Oper} {a' : Act} {w' : World}
theorem build2_run (s t : Tmp) (x y : Value) (ho : o.op = .buildSlice 136 2 #[(0, .tmp s), (1, .tmp t)]) (hx : ∃ p n c, x = .slice p n c) (hy : ∃ p n c, y = .slice p n c) (h0 : a'.tmps.getD s undef = x) (h1 : a'.tmps.getD t undef = y) :
    (execOp a'.eval o).run Tryz.prog w' = .ok (.value (.slice (some ⟨w'.heap.size, 0, none⟩) 2 2)) (w'.alloc (.cells #[x, y] 22)) := by
  obtain ⟨p, n, c, rfl⟩ := hx
  obtain ⟨p', n', c', rfl⟩ := hy
  have he : a'.eval (.tmp s) = .slice p n c := h0
  have hf : a'.eval (.tmp t) = .slice p' n' c' := h1
  unfold execOp
  simp only [ho]
  generalize a'.eval = r at *
  simp [he, hf, go_sem]
theorem build3_run (s t u : Tmp) (x y z : Value) (ho : o.op = .buildSlice 136 3 #[(0, .tmp s), (1, .tmp t), (2, .tmp u)]) (hx : ∃ p n c, x = .slice p n c) (hy : ∃ p n c, y = .slice p n c) (hz : ∃ p n c, z = .slice p n c) (h0 : a'.tmps.getD s undef = x) (h1 : a'.tmps.getD t undef = y) (h2 : a'.tmps.getD u undef = z) :
    (execOp a'.eval o).run Tryz.prog w' = .ok (.value (.slice (some ⟨w'.heap.size, 0, none⟩) 3 3)) (w'.alloc (.cells #[x, y, z] 22)) := by
  obtain ⟨p, n, c, rfl⟩ := hx
  obtain ⟨p', n', c', rfl⟩ := hy
  obtain ⟨p2, n2, c2, rfl⟩ := hz
  have he : a'.eval (.tmp s) = .slice p n c := h0
  have hf : a'.eval (.tmp t) = .slice p' n' c' := h1
  have hg : a'.eval (.tmp u) = .slice p2 n2 c2 := h2
  unfold execOp
  simp only [ho]
  generalize a'.eval = r at *
  simp [he, hf, hg, go_sem]
end
theorem slc_of {w : World} {v : Value} {l : List Nat} (h : Src w v l) : ∃ p n c, v = .slice p n c := by
  obtain ⟨p, c, rfl, _⟩ := h.slice
  exact ⟨_, _, _, rfl⟩
theorem pcs2 (w : World) (x y : Value) (l m : List Nat) (hx : Src w x l) (hy : Src w y m) : PcsV [l, m] (.slice (some ⟨w.heap.size, 0, none⟩) 2 2) (w.alloc (.cells #[x, y] 22)) := by
  refine ⟨_, _, rfl, fun i hi => ?_⟩
  have hB : Below w.heap.size w (w.alloc (.cells #[x, y] 22)) := (Below.refl _ w).alloc (Nat.le_refl _) _
  have hc := range_last w [x, y] 22
  have hs : (w.alloc (.cells #[x, y] 22)).heap.size = w.heap.size + 1 := by simp
  match i, hi with
  | 0, _ => exact ⟨_, _, x, rfl, by omega, hc 0 x rfl, hx.below hB⟩
  | 1, _ => exact ⟨_, _, y, rfl, by omega, hc 1 y rfl, hy.below hB⟩
theorem pcs3 (w : World) (x y z : Value) (l m n : List Nat) (hx : Src w x l) (hy : Src w y m) (hz : Src w z n) : PcsV [l, m, n] (.slice (some ⟨w.heap.size, 0, none⟩) 3 3) (w.alloc (.cells #[x, y, z] 22)) := by
  refine ⟨_, _, rfl, fun i hi => ?_⟩
  have hB : Below w.heap.size w (w.alloc (.cells #[x, y, z] 22)) := (Below.refl _ w).alloc (Nat.le_refl _) _
  have hc := range_last w [x, y, z] 22
  have hs : (w.alloc (.cells #[x, y, z] 22)).heap.size = w.heap.size + 1 := by simp
  match i, hi with
  | 0, _ => exact ⟨_, _, x, rfl, by omega, hc 0 x rfl, hx.below hB⟩
  | 1, _ => exact ⟨_, _, y, rfl, by omega, hc 1 y rfl, hy.below hB⟩
  | 2, _ => exact ⟨_, _, z, rfl, by omega, hc 2 z rfl, hz.below hB⟩
theorem srcV_of {w : World} {v : Value} {l : List Nat} (h : Src w v l) : SrcV [] l v w := ⟨h, fun _ b _ => by simp⟩
theorem num_q (n : Nat) (w : World) (hn : n ≤ 1099511627776) : Calls Tryz.prog 73 #[.int .i64 (n : Int)] w fun e w2 => ∃ v, e = .returned v ∧ Only [] w w2 ∧ (Nat → True → True) ∧ SrcV [] (Cd.be 6 n) v w2 := by
  refine (RefNum_any n w hn).mono ?_
  rintro e w2 ⟨v, rfl, h1, h2⟩
  exact ⟨v, rfl, Only.of_below h2 _, fun _ h => h, srcV_of (Src.own (Cd.be_lt 6 n) h1)⟩
theorem text_q (sv : Value) (t : List Nat) (w : World) (hs : Src w sv t) (ht : t.length ≤ 4096) : Calls Tryz.prog 38 #[sv] w fun e w2 => ∃ v, e = .returned v ∧ Only [] w w2 ∧ (Nat → True → True) ∧ SrcV [] (Cd.be 2 t.length ++ t) v w2 := by
  have hs2 := hs.small
  refine (RefText_any sv t w hs ht).mono ?_
  rintro e w2 ⟨v, rfl, h1, h2⟩
  exact ⟨v, rfl, Only.of_below h2 _, fun _ h => h, srcV_of (Src.own (fun x hx => (List.mem_append.1 hx).elim (Cd.be_lt 2 _ x) (hs2 x)) h1)⟩
theorem join_q (sv : Value) (ls : List (List Nat)) (w : World) (h : PcsV ls sv w) (hl : ls.length ≤ 100) (hf : ls.flatten.length ≤ 100000) (hs : ∀ x ∈ ls.flatten, x < 256) : Calls Tryz.prog 81 #[sv] w fun e w2 => ∃ v, e = .returned v ∧ Only [] w w2 ∧ (Nat → True → True) ∧ SrcV [] ls.flatten v w2 := by
  obtain ⟨q, c, rfl, h⟩ := h
  refine (join_any ls q c w h hl hf).mono ?_
  rintro e w2 ⟨v, rfl, h1, h2⟩
  exact ⟨v, rfl, Only.of_below h2 _, fun _ h => h, srcV_of (Src.own hs h1)⟩
end Go.Proofs.YtfjdaafckiefdaaGreatDoor.E9
/- The tables of the regions of the document's Bytes. -/
namespace Go.Proofs.YtfjdaafckiefdaaGreatDoor.E9
open Go.RowKit C8
theorem fa30_0 (b : Nat) (w : World) : (Instr.fieldAt 59 (.pointer (some ⟨b, 0, none⟩)) 0).run Tryz.prog w = .ok (.pointer (some ⟨b, 0, none⟩)) w := by kernel_rfl
theorem fa30_1 (b : Nat) (w : World) : (Instr.fieldAt 59 (.pointer (some ⟨b, 0, none⟩)) 1).run Tryz.prog w = .ok (.pointer (some ⟨b, 1, none⟩)) w := by kernel_rfl
theorem fa30_2 (b : Nat) (w : World) : (Instr.fieldAt 59 (.pointer (some ⟨b, 0, none⟩)) 2).run Tryz.prog w = .ok (.pointer (some ⟨b, 2, none⟩)) w := by kernel_rfl
theorem fa30_3 (b : Nat) (w : World) : (Instr.fieldAt 59 (.pointer (some ⟨b, 0, none⟩)) 3).run Tryz.prog w = .ok (.pointer (some ⟨b, 3, none⟩)) w := by kernel_rfl
theorem fa30_4 (b : Nat) (w : World) : (Instr.fieldAt 59 (.pointer (some ⟨b, 0, none⟩)) 4).run Tryz.prog w = .ok (.pointer (some ⟨b, 4, none⟩)) w := by kernel_rfl
theorem fa30_5 (b : Nat) (w : World) : (Instr.fieldAt 59 (.pointer (some ⟨b, 0, none⟩)) 5).run Tryz.prog w = .ok (.pointer (some ⟨b, 5, none⟩)) w := by kernel_rfl
theorem fa30_6 (b : Nat) (w : World) : (Instr.fieldAt 59 (.pointer (some ⟨b, 0, none⟩)) 6).run Tryz.prog w = .ok (.pointer (some ⟨b, 6, none⟩)) w := by kernel_rfl
theorem fa30_7 (b : Nat) (w : World) : (Instr.fieldAt 59 (.pointer (some ⟨b, 0, none⟩)) 7).run Tryz.prog w = .ok (.pointer (some ⟨b, 7, none⟩)) w := by kernel_rfl
def rb1 (B k1 k2 k3 : Nat) : Nat → Value → World → Prop
  | 0 => IsV (.pointer (some ⟨B, 0, none⟩))
  | 1 => IsV (.int .i64 (k1 : Int))
  | 2 => SrcV [] (Cd.be 6 k1)
  | 3 => IsV (.pointer (some ⟨B, 1, none⟩))
  | 4 => IsV (.int .i64 (k2 : Int))
  | 5 => SrcV [] (Cd.be 6 k2)
  | 6 => IsV (.pointer (some ⟨B, 2, none⟩))
  | 7 => IsV (.int .i64 (k3 : Int))
  | 8 => SrcV [] (Cd.be 6 k3)
  | 9 => PcsV [(Cd.be 6 k1), (Cd.be 6 k2), (Cd.be 6 k3)]
  | 10 => SrcV [] [(Cd.be 6 k1), (Cd.be 6 k2), (Cd.be 6 k3)].flatten
  | 11 => SrcV [] [(Cd.be 6 k1), (Cd.be 6 k2), (Cd.be 6 k3)].flatten
  | _ => fun _ _ => True
theorem rb1_kept (B k1 k2 k3 : Nat) : ∀ i v w w', rb1 B k1 k2 k3 i v w → Only [] w w' → rb1 B k1 k2 k3 i v w'
  | 0, _, _, _, h, _ => h
  | 1, _, _, _, h, _ => h
  | 2, _, _, _, h, ho => SrcV.kept h ho
  | 3, _, _, _, h, _ => h
  | 4, _, _, _, h, _ => h
  | 5, _, _, _, h, ho => SrcV.kept h ho
  | 6, _, _, _, h, _ => h
  | 7, _, _, _, h, _ => h
  | 8, _, _, _, h, ho => SrcV.kept h ho
  | 9, _, _, _, h, ho => PcsV.kept h ho
  | 10, _, _, _, h, ho => SrcV.kept h ho
  | 11, _, _, _, h, ho => SrcV.kept h ho
  | _ + 12, _, _, _, _, _ => trivial
theorem frame16_1 {A F : Array Value} (hs : A.size = 91) (h : ∀ t, [3, 5, 6, 7, 8, 9, 10, 11, 12, 13, 14, 15].contains t = false → A.getD t undef = F.getD t undef) : A = #[F.getD 0 undef, F.getD 1 undef, F.getD 2 undef, A.getD 3 undef, F.getD 4 undef, A.getD 5 undef, A.getD 6 undef, A.getD 7 undef, A.getD 8 undef, A.getD 9 undef, A.getD 10 undef, A.getD 11 undef, A.getD 12 undef, A.getD 13 undef, A.getD 14 undef, A.getD 15 undef, F.getD 16 undef, F.getD 17 undef, F.getD 18 undef, F.getD 19 undef, F.getD 20 undef, F.getD 21 undef, F.getD 22 undef, F.getD 23 undef, F.getD 24 undef, F.getD 25 undef, F.getD 26 undef, F.getD 27 undef, F.getD 28 undef, F.getD 29 undef, F.getD 30 undef, F.getD 31 undef, F.getD 32 undef, F.getD 33 undef, F.getD 34 undef, F.getD 35 undef, F.getD 36 undef, F.getD 37 undef, F.getD 38 undef, F.getD 39 undef, F.getD 40 undef, F.getD 41 undef, F.getD 42 undef, F.getD 43 undef, F.getD 44 undef, F.getD 45 undef, F.getD 46 undef, F.getD 47 undef, F.getD 48 undef, F.getD 49 undef, F.getD 50 undef, F.getD 51 undef, F.getD 52 undef, F.getD 53 undef, F.getD 54 undef, F.getD 55 undef, F.getD 56 undef, F.getD 57 undef, F.getD 58 undef, F.getD 59 undef, F.getD 60 undef, F.getD 61 undef, F.getD 62 undef, F.getD 63 undef, F.getD 64 undef, F.getD 65 undef, F.getD 66 undef, F.getD 67 undef, F.getD 68 undef, F.getD 69 undef, F.getD 70 undef, F.getD 71 undef, F.getD 72 undef, F.getD 73 undef, F.getD 74 undef, F.getD 75 undef, F.getD 76 undef, F.getD 77 undef, F.getD 78 undef, F.getD 79 undef, F.getD 80 undef, F.getD 81 undef, F.getD 82 undef, F.getD 83 undef, F.getD 84 undef, F.getD 85 undef, F.getD 86 undef, F.getD 87 undef, F.getD 88 undef, F.getD 89 undef, F.getD 90 undef] := by
  rw [← h 0 (by decide), ← h 1 (by decide), ← h 2 (by decide), ← h 4 (by decide), ← h 16 (by decide), ← h 17 (by decide), ← h 18 (by decide), ← h 19 (by decide), ← h 20 (by decide), ← h 21 (by decide), ← h 22 (by decide), ← h 23 (by decide), ← h 24 (by decide), ← h 25 (by decide), ← h 26 (by decide), ← h 27 (by decide), ← h 28 (by decide), ← h 29 (by decide), ← h 30 (by decide), ← h 31 (by decide), ← h 32 (by decide), ← h 33 (by decide), ← h 34 (by decide), ← h 35 (by decide), ← h 36 (by decide), ← h 37 (by decide), ← h 38 (by decide), ← h 39 (by decide), ← h 40 (by decide), ← h 41 (by decide), ← h 42 (by decide), ← h 43 (by decide), ← h 44 (by decide), ← h 45 (by decide), ← h 46 (by decide), ← h 47 (by decide), ← h 48 (by decide), ← h 49 (by decide), ← h 50 (by decide), ← h 51 (by decide), ← h 52 (by decide), ← h 53 (by decide), ← h 54 (by decide), ← h 55 (by decide), ← h 56 (by decide), ← h 57 (by decide), ← h 58 (by decide), ← h 59 (by decide), ← h 60 (by decide), ← h 61 (by decide), ← h 62 (by decide), ← h 63 (by decide), ← h 64 (by decide), ← h 65 (by decide), ← h 66 (by decide), ← h 67 (by decide), ← h 68 (by decide), ← h 69 (by decide), ← h 70 (by decide), ← h 71 (by decide), ← h 72 (by decide), ← h 73 (by decide), ← h 74 (by decide), ← h 75 (by decide), ← h 76 (by decide), ← h 77 (by decide), ← h 78 (by decide), ← h 79 (by decide), ← h 80 (by decide), ← h 81 (by decide), ← h 82 (by decide), ← h 83 (by decide), ← h 84 (by decide), ← h 85 (by decide), ← h 86 (by decide), ← h 87 (by decide), ← h 88 (by decide), ← h 89 (by decide), ← h 90 (by decide)]
  refine Array.ext (by simp [hs]) (fun i h1 h2 => ?_)
  have e : A[i] = A.getD i undef := by simp [h1]
  rw [e]
  rw [hs] at h1
  clear e h hs
  match i, h1 with
  | 0, _ => rfl
  | 1, _ => rfl
  | 2, _ => rfl
  | 3, _ => rfl
  | 4, _ => rfl
  | 5, _ => rfl
  | 6, _ => rfl
  | 7, _ => rfl
  | 8, _ => rfl
  | 9, _ => rfl
  | 10, _ => rfl
  | 11, _ => rfl
  | 12, _ => rfl
  | 13, _ => rfl
  | 14, _ => rfl
  | 15, _ => rfl
  | 16, _ => rfl
  | 17, _ => rfl
  | 18, _ => rfl
  | 19, _ => rfl
  | 20, _ => rfl
  | 21, _ => rfl
  | 22, _ => rfl
  | 23, _ => rfl
  | 24, _ => rfl
  | 25, _ => rfl
  | 26, _ => rfl
  | 27, _ => rfl
  | 28, _ => rfl
  | 29, _ => rfl
  | 30, _ => rfl
  | 31, _ => rfl
  | 32, _ => rfl
  | 33, _ => rfl
  | 34, _ => rfl
  | 35, _ => rfl
  | 36, _ => rfl
  | 37, _ => rfl
  | 38, _ => rfl
  | 39, _ => rfl
  | 40, _ => rfl
  | 41, _ => rfl
  | 42, _ => rfl
  | 43, _ => rfl
  | 44, _ => rfl
  | 45, _ => rfl
  | 46, _ => rfl
  | 47, _ => rfl
  | 48, _ => rfl
  | 49, _ => rfl
  | 50, _ => rfl
  | 51, _ => rfl
  | 52, _ => rfl
  | 53, _ => rfl
  | 54, _ => rfl
  | 55, _ => rfl
  | 56, _ => rfl
  | 57, _ => rfl
  | 58, _ => rfl
  | 59, _ => rfl
  | 60, _ => rfl
  | 61, _ => rfl
  | 62, _ => rfl
  | 63, _ => rfl
  | 64, _ => rfl
  | 65, _ => rfl
  | 66, _ => rfl
  | 67, _ => rfl
  | 68, _ => rfl
  | 69, _ => rfl
  | 70, _ => rfl
  | 71, _ => rfl
  | 72, _ => rfl
  | 73, _ => rfl
  | 74, _ => rfl
  | 75, _ => rfl
  | 76, _ => rfl
  | 77, _ => rfl
  | 78, _ => rfl
  | 79, _ => rfl
  | 80, _ => rfl
  | 81, _ => rfl
  | 82, _ => rfl
  | 83, _ => rfl
  | 84, _ => rfl
  | 85, _ => rfl
  | 86, _ => rfl
  | 87, _ => rfl
  | 88, _ => rfl
  | 89, _ => rfl
  | 90, _ => rfl
  | _ + 91, h => exact absurd h (by omega)
def rb4 (B : Nat) (hb t4 t5 : List Nat) : Nat → Value → World → Prop
  | 0 => SrcV [] hb
  | 1 => IsV (.pointer (some ⟨B, 3, none⟩))
  | 2 => SrcV [] t4
  | 3 => SrcV [] (Cd.be 2 t4.length ++ t4)
  | 4 => IsV (.pointer (some ⟨B, 4, none⟩))
  | 5 => SrcV [] t5
  | 6 => SrcV [] (Cd.be 2 t5.length ++ t5)
  | 7 => PcsV [hb, (Cd.be 2 t4.length ++ t4), (Cd.be 2 t5.length ++ t5)]
  | 8 => SrcV [] [hb, (Cd.be 2 t4.length ++ t4), (Cd.be 2 t5.length ++ t5)].flatten
  | 9 => SrcV [] [hb, (Cd.be 2 t4.length ++ t4), (Cd.be 2 t5.length ++ t5)].flatten
  | _ => fun _ _ => True
theorem rb4_kept (B : Nat) (hb t4 t5 : List Nat) : ∀ i v w w', rb4 B hb t4 t5 i v w → Only [] w w' → rb4 B hb t4 t5 i v w'
  | 0, _, _, _, h, ho => SrcV.kept h ho
  | 1, _, _, _, h, _ => h
  | 2, _, _, _, h, ho => SrcV.kept h ho
  | 3, _, _, _, h, ho => SrcV.kept h ho
  | 4, _, _, _, h, _ => h
  | 5, _, _, _, h, ho => SrcV.kept h ho
  | 6, _, _, _, h, ho => SrcV.kept h ho
  | 7, _, _, _, h, ho => PcsV.kept h ho
  | 8, _, _, _, h, ho => SrcV.kept h ho
  | 9, _, _, _, h, ho => SrcV.kept h ho
  | _ + 10, _, _, _, _, _ => trivial
theorem frame16_4 {A F : Array Value} (hs : A.size = 91) (h : ∀ t, [2, 20, 21, 22, 23, 24, 25, 26, 27, 28].contains t = false → A.getD t undef = F.getD t undef) : A = #[F.getD 0 undef, F.getD 1 undef, A.getD 2 undef, F.getD 3 undef, F.getD 4 undef, F.getD 5 undef, F.getD 6 undef, F.getD 7 undef, F.getD 8 undef, F.getD 9 undef, F.getD 10 undef, F.getD 11 undef, F.getD 12 undef, F.getD 13 undef, F.getD 14 undef, F.getD 15 undef, F.getD 16 undef, F.getD 17 undef, F.getD 18 undef, F.getD 19 undef, A.getD 20 undef, A.getD 21 undef, A.getD 22 undef, A.getD 23 undef, A.getD 24 undef, A.getD 25 undef, A.getD 26 undef, A.getD 27 undef, A.getD 28 undef, F.getD 29 undef, F.getD 30 undef, F.getD 31 undef, F.getD 32 undef, F.getD 33 undef, F.getD 34 undef, F.getD 35 undef, F.getD 36 undef, F.getD 37 undef, F.getD 38 undef, F.getD 39 undef, F.getD 40 undef, F.getD 41 undef, F.getD 42 undef, F.getD 43 undef, F.getD 44 undef, F.getD 45 undef, F.getD 46 undef, F.getD 47 undef, F.getD 48 undef, F.getD 49 undef, F.getD 50 undef, F.getD 51 undef, F.getD 52 undef, F.getD 53 undef, F.getD 54 undef, F.getD 55 undef, F.getD 56 undef, F.getD 57 undef, F.getD 58 undef, F.getD 59 undef, F.getD 60 undef, F.getD 61 undef, F.getD 62 undef, F.getD 63 undef, F.getD 64 undef, F.getD 65 undef, F.getD 66 undef, F.getD 67 undef, F.getD 68 undef, F.getD 69 undef, F.getD 70 undef, F.getD 71 undef, F.getD 72 undef, F.getD 73 undef, F.getD 74 undef, F.getD 75 undef, F.getD 76 undef, F.getD 77 undef, F.getD 78 undef, F.getD 79 undef, F.getD 80 undef, F.getD 81 undef, F.getD 82 undef, F.getD 83 undef, F.getD 84 undef, F.getD 85 undef, F.getD 86 undef, F.getD 87 undef, F.getD 88 undef, F.getD 89 undef, F.getD 90 undef] := by
  rw [← h 0 (by decide), ← h 1 (by decide), ← h 3 (by decide), ← h 4 (by decide), ← h 5 (by decide), ← h 6 (by decide), ← h 7 (by decide), ← h 8 (by decide), ← h 9 (by decide), ← h 10 (by decide), ← h 11 (by decide), ← h 12 (by decide), ← h 13 (by decide), ← h 14 (by decide), ← h 15 (by decide), ← h 16 (by decide), ← h 17 (by decide), ← h 18 (by decide), ← h 19 (by decide), ← h 29 (by decide), ← h 30 (by decide), ← h 31 (by decide), ← h 32 (by decide), ← h 33 (by decide), ← h 34 (by decide), ← h 35 (by decide), ← h 36 (by decide), ← h 37 (by decide), ← h 38 (by decide), ← h 39 (by decide), ← h 40 (by decide), ← h 41 (by decide), ← h 42 (by decide), ← h 43 (by decide), ← h 44 (by decide), ← h 45 (by decide), ← h 46 (by decide), ← h 47 (by decide), ← h 48 (by decide), ← h 49 (by decide), ← h 50 (by decide), ← h 51 (by decide), ← h 52 (by decide), ← h 53 (by decide), ← h 54 (by decide), ← h 55 (by decide), ← h 56 (by decide), ← h 57 (by decide), ← h 58 (by decide), ← h 59 (by decide), ← h 60 (by decide), ← h 61 (by decide), ← h 62 (by decide), ← h 63 (by decide), ← h 64 (by decide), ← h 65 (by decide), ← h 66 (by decide), ← h 67 (by decide), ← h 68 (by decide), ← h 69 (by decide), ← h 70 (by decide), ← h 71 (by decide), ← h 72 (by decide), ← h 73 (by decide), ← h 74 (by decide), ← h 75 (by decide), ← h 76 (by decide), ← h 77 (by decide), ← h 78 (by decide), ← h 79 (by decide), ← h 80 (by decide), ← h 81 (by decide), ← h 82 (by decide), ← h 83 (by decide), ← h 84 (by decide), ← h 85 (by decide), ← h 86 (by decide), ← h 87 (by decide), ← h 88 (by decide), ← h 89 (by decide), ← h 90 (by decide)]
  refine Array.ext (by simp [hs]) (fun i h1 h2 => ?_)
  have e : A[i] = A.getD i undef := by simp [h1]
  rw [e]
  rw [hs] at h1
  clear e h hs
  match i, h1 with
  | 0, _ => rfl
  | 1, _ => rfl
  | 2, _ => rfl
  | 3, _ => rfl
  | 4, _ => rfl
  | 5, _ => rfl
  | 6, _ => rfl
  | 7, _ => rfl
  | 8, _ => rfl
  | 9, _ => rfl
  | 10, _ => rfl
  | 11, _ => rfl
  | 12, _ => rfl
  | 13, _ => rfl
  | 14, _ => rfl
  | 15, _ => rfl
  | 16, _ => rfl
  | 17, _ => rfl
  | 18, _ => rfl
  | 19, _ => rfl
  | 20, _ => rfl
  | 21, _ => rfl
  | 22, _ => rfl
  | 23, _ => rfl
  | 24, _ => rfl
  | 25, _ => rfl
  | 26, _ => rfl
  | 27, _ => rfl
  | 28, _ => rfl
  | 29, _ => rfl
  | 30, _ => rfl
  | 31, _ => rfl
  | 32, _ => rfl
  | 33, _ => rfl
  | 34, _ => rfl
  | 35, _ => rfl
  | 36, _ => rfl
  | 37, _ => rfl
  | 38, _ => rfl
  | 39, _ => rfl
  | 40, _ => rfl
  | 41, _ => rfl
  | 42, _ => rfl
  | 43, _ => rfl
  | 44, _ => rfl
  | 45, _ => rfl
  | 46, _ => rfl
  | 47, _ => rfl
  | 48, _ => rfl
  | 49, _ => rfl
  | 50, _ => rfl
  | 51, _ => rfl
  | 52, _ => rfl
  | 53, _ => rfl
  | 54, _ => rfl
  | 55, _ => rfl
  | 56, _ => rfl
  | 57, _ => rfl
  | 58, _ => rfl
  | 59, _ => rfl
  | 60, _ => rfl
  | 61, _ => rfl
  | 62, _ => rfl
  | 63, _ => rfl
  | 64, _ => rfl
  | 65, _ => rfl
  | 66, _ => rfl
  | 67, _ => rfl
  | 68, _ => rfl
  | 69, _ => rfl
  | 70, _ => rfl
  | 71, _ => rfl
  | 72, _ => rfl
  | 73, _ => rfl
  | 74, _ => rfl
  | 75, _ => rfl
  | 76, _ => rfl
  | 77, _ => rfl
  | 78, _ => rfl
  | 79, _ => rfl
  | 80, _ => rfl
  | 81, _ => rfl
  | 82, _ => rfl
  | 83, _ => rfl
  | 84, _ => rfl
  | 85, _ => rfl
  | 86, _ => rfl
  | 87, _ => rfl
  | 88, _ => rfl
  | 89, _ => rfl
  | 90, _ => rfl
  | _ + 91, h => exact absurd h (by omega)
def rb8 (B k6 k7 : Nat) (hb : List Nat) : Nat → Value → World → Prop
  | 0 => SrcV [] hb
  | 1 => IsV (.pointer (some ⟨B, 5, none⟩))
  | 2 => IsV (.int .i64 (k6 : Int))
  | 3 => SrcV [] (Cd.be 6 k6)
  | 4 => IsV (.pointer (some ⟨B, 6, none⟩))
  | 5 => IsV (.int .i64 (k7 : Int))
  | 6 => SrcV [] (Cd.be 6 k7)
  | 7 => PcsV [hb, (Cd.be 6 k6), (Cd.be 6 k7)]
  | 8 => SrcV [] [hb, (Cd.be 6 k6), (Cd.be 6 k7)].flatten
  | 9 => SrcV [] [hb, (Cd.be 6 k6), (Cd.be 6 k7)].flatten
  | _ => fun _ _ => True
theorem rb8_kept (B k6 k7 : Nat) (hb : List Nat) : ∀ i v w w', rb8 B k6 k7 hb i v w → Only [] w w' → rb8 B k6 k7 hb i v w'
  | 0, _, _, _, h, ho => SrcV.kept h ho
  | 1, _, _, _, h, _ => h
  | 2, _, _, _, h, _ => h
  | 3, _, _, _, h, ho => SrcV.kept h ho
  | 4, _, _, _, h, _ => h
  | 5, _, _, _, h, _ => h
  | 6, _, _, _, h, ho => SrcV.kept h ho
  | 7, _, _, _, h, ho => PcsV.kept h ho
  | 8, _, _, _, h, ho => SrcV.kept h ho
  | 9, _, _, _, h, ho => SrcV.kept h ho
  | _ + 10, _, _, _, _, _ => trivial
theorem frame16_8 {A F : Array Value} (hs : A.size = 91) (h : ∀ t, [2, 39, 40, 41, 42, 43, 44, 45, 46, 47].contains t = false → A.getD t undef = F.getD t undef) : A = #[F.getD 0 undef, F.getD 1 undef, A.getD 2 undef, F.getD 3 undef, F.getD 4 undef, F.getD 5 undef, F.getD 6 undef, F.getD 7 undef, F.getD 8 undef, F.getD 9 undef, F.getD 10 undef, F.getD 11 undef, F.getD 12 undef, F.getD 13 undef, F.getD 14 undef, F.getD 15 undef, F.getD 16 undef, F.getD 17 undef, F.getD 18 undef, F.getD 19 undef, F.getD 20 undef, F.getD 21 undef, F.getD 22 undef, F.getD 23 undef, F.getD 24 undef, F.getD 25 undef, F.getD 26 undef, F.getD 27 undef, F.getD 28 undef, F.getD 29 undef, F.getD 30 undef, F.getD 31 undef, F.getD 32 undef, F.getD 33 undef, F.getD 34 undef, F.getD 35 undef, F.getD 36 undef, F.getD 37 undef, F.getD 38 undef, A.getD 39 undef, A.getD 40 undef, A.getD 41 undef, A.getD 42 undef, A.getD 43 undef, A.getD 44 undef, A.getD 45 undef, A.getD 46 undef, A.getD 47 undef, F.getD 48 undef, F.getD 49 undef, F.getD 50 undef, F.getD 51 undef, F.getD 52 undef, F.getD 53 undef, F.getD 54 undef, F.getD 55 undef, F.getD 56 undef, F.getD 57 undef, F.getD 58 undef, F.getD 59 undef, F.getD 60 undef, F.getD 61 undef, F.getD 62 undef, F.getD 63 undef, F.getD 64 undef, F.getD 65 undef, F.getD 66 undef, F.getD 67 undef, F.getD 68 undef, F.getD 69 undef, F.getD 70 undef, F.getD 71 undef, F.getD 72 undef, F.getD 73 undef, F.getD 74 undef, F.getD 75 undef, F.getD 76 undef, F.getD 77 undef, F.getD 78 undef, F.getD 79 undef, F.getD 80 undef, F.getD 81 undef, F.getD 82 undef, F.getD 83 undef, F.getD 84 undef, F.getD 85 undef, F.getD 86 undef, F.getD 87 undef, F.getD 88 undef, F.getD 89 undef, F.getD 90 undef] := by
  rw [← h 0 (by decide), ← h 1 (by decide), ← h 3 (by decide), ← h 4 (by decide), ← h 5 (by decide), ← h 6 (by decide), ← h 7 (by decide), ← h 8 (by decide), ← h 9 (by decide), ← h 10 (by decide), ← h 11 (by decide), ← h 12 (by decide), ← h 13 (by decide), ← h 14 (by decide), ← h 15 (by decide), ← h 16 (by decide), ← h 17 (by decide), ← h 18 (by decide), ← h 19 (by decide), ← h 20 (by decide), ← h 21 (by decide), ← h 22 (by decide), ← h 23 (by decide), ← h 24 (by decide), ← h 25 (by decide), ← h 26 (by decide), ← h 27 (by decide), ← h 28 (by decide), ← h 29 (by decide), ← h 30 (by decide), ← h 31 (by decide), ← h 32 (by decide), ← h 33 (by decide), ← h 34 (by decide), ← h 35 (by decide), ← h 36 (by decide), ← h 37 (by decide), ← h 38 (by decide), ← h 48 (by decide), ← h 49 (by decide), ← h 50 (by decide), ← h 51 (by decide), ← h 52 (by decide), ← h 53 (by decide), ← h 54 (by decide), ← h 55 (by decide), ← h 56 (by decide), ← h 57 (by decide), ← h 58 (by decide), ← h 59 (by decide), ← h 60 (by decide), ← h 61 (by decide), ← h 62 (by decide), ← h 63 (by decide), ← h 64 (by decide), ← h 65 (by decide), ← h 66 (by decide), ← h 67 (by decide), ← h 68 (by decide), ← h 69 (by decide), ← h 70 (by decide), ← h 71 (by decide), ← h 72 (by decide), ← h 73 (by decide), ← h 74 (by decide), ← h 75 (by decide), ← h 76 (by decide), ← h 77 (by decide), ← h 78 (by decide), ← h 79 (by decide), ← h 80 (by decide), ← h 81 (by decide), ← h 82 (by decide), ← h 83 (by decide), ← h 84 (by decide), ← h 85 (by decide), ← h 86 (by decide), ← h 87 (by decide), ← h 88 (by decide), ← h 89 (by decide), ← h 90 (by decide)]
  refine Array.ext (by simp [hs]) (fun i h1 h2 => ?_)
  have e : A[i] = A.getD i undef := by simp [h1]
  rw [e]
  rw [hs] at h1
  clear e h hs
  match i, h1 with
  | 0, _ => rfl
  | 1, _ => rfl
  | 2, _ => rfl
  | 3, _ => rfl
  | 4, _ => rfl
  | 5, _ => rfl
  | 6, _ => rfl
  | 7, _ => rfl
  | 8, _ => rfl
  | 9, _ => rfl
  | 10, _ => rfl
  | 11, _ => rfl
  | 12, _ => rfl
  | 13, _ => rfl
  | 14, _ => rfl
  | 15, _ => rfl
  | 16, _ => rfl
  | 17, _ => rfl
  | 18, _ => rfl
  | 19, _ => rfl
  | 20, _ => rfl
  | 21, _ => rfl
  | 22, _ => rfl
  | 23, _ => rfl
  | 24, _ => rfl
  | 25, _ => rfl
  | 26, _ => rfl
  | 27, _ => rfl
  | 28, _ => rfl
  | 29, _ => rfl
  | 30, _ => rfl
  | 31, _ => rfl
  | 32, _ => rfl
  | 33, _ => rfl
  | 34, _ => rfl
  | 35, _ => rfl
  | 36, _ => rfl
  | 37, _ => rfl
  | 38, _ => rfl
  | 39, _ => rfl
  | 40, _ => rfl
  | 41, _ => rfl
  | 42, _ => rfl
  | 43, _ => rfl
  | 44, _ => rfl
  | 45, _ => rfl
  | 46, _ => rfl
  | 47, _ => rfl
  | 48, _ => rfl
  | 49, _ => rfl
  | 50, _ => rfl
  | 51, _ => rfl
  | 52, _ => rfl
  | 53, _ => rfl
  | 54, _ => rfl
  | 55, _ => rfl
  | 56, _ => rfl
  | 57, _ => rfl
  | 58, _ => rfl
  | 59, _ => rfl
  | 60, _ => rfl
  | 61, _ => rfl
  | 62, _ => rfl
  | 63, _ => rfl
  | 64, _ => rfl
  | 65, _ => rfl
  | 66, _ => rfl
  | 67, _ => rfl
  | 68, _ => rfl
  | 69, _ => rfl
  | 70, _ => rfl
  | 71, _ => rfl
  | 72, _ => rfl
  | 73, _ => rfl
  | 74, _ => rfl
  | 75, _ => rfl
  | 76, _ => rfl
  | 77, _ => rfl
  | 78, _ => rfl
  | 79, _ => rfl
  | 80, _ => rfl
  | 81, _ => rfl
  | 82, _ => rfl
  | 83, _ => rfl
  | 84, _ => rfl
  | 85, _ => rfl
  | 86, _ => rfl
  | 87, _ => rfl
  | 88, _ => rfl
  | 89, _ => rfl
  | 90, _ => rfl
  | _ + 91, h => exact absurd h (by omega)
end Go.Proofs.YtfjdaafckiefdaaGreatDoor.E9
