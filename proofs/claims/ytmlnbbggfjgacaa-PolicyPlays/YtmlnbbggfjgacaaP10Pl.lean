/- The walk of PolicyPlays. -/
import Derived.Test.YtmlnbbggfjgacaaP10Pj
namespace Go.Proofs.Ytmlnbbggfjgacaa.P10
open Go.RowKit C8 E9
/-- The policy and the document's, each in its box. -/
structure PG (w W : World) (b5 b7 : Nat) (fo e : Int) (q : Option Addr) (nn c : Nat) (R : Int → Int) : Prop where
  bel : Below w.heap.size w W
  lo5 : w.heap.size ≤ b5
  lo7 : w.heap.size ≤ b7
  ne : b5 ≠ b7
  box : W.heap[b5]? = some (.cells #[.int .i64 fo, .int .i64 e, .slice q nn c] 26 (0, 0))
  pol : RpAt W b7 fo e R
  told : Told4 0 W fo e q nn c R
/-- While an entry is looked at: it, the policy behind it, and the document's entry. -/
structure IP (w W : World) (b5 b7 b9 b10 b12 : Nat) (fo e : Int) (q : Option Addr) (nn c : Nat) (R : Int → Int) (E QC E2 : Array Value) (T : World → Prop) : Prop where
  pg : PG w W b5 b7 fo e q nn c R
  r9 : W.heap[b9]? = some (.cells E 38 (0, 0))
  r10 : W.heap[b10]? = some (.cells QC 26 (0, 0))
  r12 : W.heap[b12]? = some (.cells E2 43 (0, 0))
  t : T W
  keep : ∀ u u', Below u.heap.size u u' → T u → T u'
section
variable {w W W' : World} {b5 b7 b9 b10 b12 : Nat} {fo e : Int} {q : Option Addr} {nn c : Nat} {R : Int → Int} {E QC E2 : Array Value} {T : World → Prop}
theorem PG.step (h : PG w W b5 b7 fo e q nn c R) (hb : Below W.heap.size W W') : PG w W' b5 b7 fo e q nn c R :=
  ⟨h.bel.trans (bel_le hb h.bel.size), h.lo5, h.lo7, h.ne, (hb.block _ (Array.getElem?_eq_some_iff.1 h.box).1).trans h.box, h.pol.below hb, h.told.below hb⟩
theorem PG.lt (h : PG w W b5 b7 fo e q nn c R) : b5 < W.heap.size ∧ b7 < W.heap.size := ⟨(Array.getElem?_eq_some_iff.1 h.box).1, h.pol.lt⟩
theorem PG.cells (h : PG w W b5 b7 fo e q nn c R) : W.cell? ⟨b5, 0, none⟩ = some (.int .i64 fo) ∧ W.cell? ⟨b5, 1, none⟩ = some (.int .i64 e) ∧ W.cell? ⟨b5, 2, none⟩ = some (.slice q nn c) := by
  refine ⟨?_, ?_, ?_⟩ <;> (rw [cell_of_row _ _ _ _ _ _ h.box]; rfl)
theorem IP.step (h : IP w W b5 b7 b9 b10 b12 fo e q nn c R E QC E2 T) (hb : Below W.heap.size W W') : IP w W' b5 b7 b9 b10 b12 fo e q nn c R E QC E2 T :=
  ⟨h.pg.step hb, (hb.block _ (Array.getElem?_eq_some_iff.1 h.r9).1).trans h.r9, (hb.block _ (Array.getElem?_eq_some_iff.1 h.r10).1).trans h.r10, (hb.block _ (Array.getElem?_eq_some_iff.1 h.r12).1).trans h.r12, h.keep _ _ hb h.t, h.keep⟩
theorem row9c {b : Nat} {x0 x1 x2 x3 x4 x5 x6 x7 x8 : Value} {t : TypeId} (h : W.heap[b]? = some (.cells #[x0, x1, x2, x3, x4, x5, x6, x7, x8] t (0, 0))) : W.cell? ⟨b, 0, none⟩ = some x0 ∧ W.cell? ⟨b, 1, none⟩ = some x1 ∧ W.cell? ⟨b, 2, none⟩ = some x2 ∧ W.cell? ⟨b, 3, none⟩ = some x3 ∧ W.cell? ⟨b, 4, none⟩ = some x4 ∧ W.cell? ⟨b, 5, none⟩ = some x5 ∧ W.cell? ⟨b, 6, none⟩ = some x6 ∧ W.cell? ⟨b, 7, none⟩ = some x7 ∧ W.cell? ⟨b, 8, none⟩ = some x8 := by
  refine ⟨?_, ?_, ?_, ?_, ?_, ?_, ?_, ?_, ?_⟩ <;> (rw [cell_of_row _ _ _ _ _ _ h]; rfl)
theorem row3c {b : Nat} {x0 x1 x2 : Value} {t : TypeId} (h : W.heap[b]? = some (.cells #[x0, x1, x2] t (0, 0))) : W.cell? ⟨b, 0, none⟩ = some x0 ∧ W.cell? ⟨b, 1, none⟩ = some x1 ∧ W.cell? ⟨b, 2, none⟩ = some x2 := by
  refine ⟨?_, ?_, ?_⟩ <;> (rw [cell_of_row _ _ _ _ _ _ h]; rfl)
theorem PG.start {w2 w3 : World} {c : Nat} (hb : Below w.heap.size w w2) (hT : Told4 0 w2 fo 0 q 1 c R) (h3 : Below (w2.alloc (.cells #[.int .i64 fo, .int .i64 0, .slice q 1 c] 26)).heap.size (w2.alloc (.cells #[.int .i64 fo, .int .i64 0, .slice q 1 c] 26)) w3) :
    PG w ((w3.alloc (.cells #[.int .i64 0, .int .i64 0, .int .i64 0, .int .i64 0, .int .i64 0, .int .i64 0, .int .i64 0, .int .i64 0, .int .i64 0, .int .i64 0, .int .i64 0, .int .i64 0, .int .i64 0, .int .i64 0, .int .i64 0, .int .i64 0, .int .i64 0, .int .i64 0, .int .i64 0] 32)).setCells w3.heap.size 0 (RpL fo 0 R)) w2.heap.size w3.heap.size fo 0 q 1 c R := by
  have ha : Below w2.heap.size w2 (w2.alloc (.cells #[.int .i64 fo, .int .i64 0, .slice q 1 c] 26)) := bel_alloc (Nat.le_refl _) _
  have h4 : Below w3.heap.size w3 ((w3.alloc (.cells #[.int .i64 0, .int .i64 0, .int .i64 0, .int .i64 0, .int .i64 0, .int .i64 0, .int .i64 0, .int .i64 0, .int .i64 0, .int .i64 0, .int .i64 0, .int .i64 0, .int .i64 0, .int .i64 0, .int .i64 0, .int .i64 0, .int .i64 0, .int .i64 0, .int .i64 0] 32)).setCells w3.heap.size 0 (RpL fo 0 R)) := Below.setCells _ _ _ (bel_alloc (Nat.le_refl _) _) (Nat.le_refl _)
  have h23 : Below w2.heap.size w2 w3 := ha.trans (bel_le h3 ha.size)
  have hlt : w2.heap.size < w3.heap.size := by have := h3.size; simp at this; omega
  have hbx : w3.heap[w2.heap.size]? = some (.cells #[.int .i64 fo, .int .i64 0, .slice q 1 c] 26 (0, 0)) := (h3.block _ (by simp)).trans (heap_alloc_new w2 _)
  have hz : RpAt (w3.alloc (.cells #[.int .i64 0, .int .i64 0, .int .i64 0, .int .i64 0, .int .i64 0, .int .i64 0, .int .i64 0, .int .i64 0, .int .i64 0, .int .i64 0, .int .i64 0, .int .i64 0, .int .i64 0, .int .i64 0, .int .i64 0, .int .i64 0, .int .i64 0, .int .i64 0, .int .i64 0] 32)) w3.heap.size 0 0 (fun _ => 0) := by
    show _ = _
    rw [← rpl_zero]
    exact heap_alloc_new w3 _
  exact ⟨hb.trans ((bel_le h23 hb.size).trans (bel_le h4 (Nat.le_trans hb.size h23.size))), hb.size, Nat.le_trans hb.size h23.size, by omega, (h4.block _ hlt).trans hbx, hz.put (R' := R) fo 0, (hT.below h23).below h4⟩
theorem PG.next {e1 : Int} {q1 : Option Addr} {n1 c1 : Nat} {R1 : Int → Int} {B : Nat} (h : PG w W b5 b7 fo e q nn c R) (hT : Told4 B W fo e1 q1 n1 c1 R1) (hB : b5 < B ∧ b7 < B) :
    PG w ((W.setCells b5 0 [.int .i64 fo, .int .i64 e1, .slice q1 n1 c1]).setCells b7 0 (RpL fo e1 R1)) b5 b7 fo e1 q1 n1 c1 R1 := by
  have o1 : Only [b5, b7] W (W.setCells b5 0 [.int .i64 fo, .int .i64 e1, .slice q1 n1 c1]) := (only_cells b5 _ 0 W).more (by simp)
  have o2 : Only [b5, b7] (W.setCells b5 0 [.int .i64 fo, .int .i64 e1, .slice q1 n1 c1]) ((W.setCells b5 0 [.int .i64 fo, .int .i64 e1, .slice q1 n1 c1]).setCells b7 0 (RpL fo e1 R1)) := (only_cells b7 _ 0 _).more (by simp)
  have ho := o1.trans o2
  have hbx : (W.setCells b5 0 [.int .i64 fo, .int .i64 e1, .slice q1 n1 c1]).heap[b5]? = some (.cells #[.int .i64 fo, .int .i64 e1, .slice q1 n1 c1] 26 (0, 0)) := by
    have := heap_setCells b5 26 [.int .i64 fo, .int .i64 e1, .slice q1 n1 c1] 0 W [.int .i64 fo, .int .i64 e, .slice q nn c] h.box (by simp)
    simpa using this
  refine ⟨h.bel.trans (ho.below h.bel.size (by have := h.lo5; have := h.lo7; simp; omega)), h.lo5, h.lo7, h.ne, ?_, ?_, (hT.only ho (by simpa using hB)).old (Nat.zero_le _)⟩
  · exact ((only_cells b7 (RpL fo e1 R1) 0 _).block b5 (Array.getElem?_eq_some_iff.1 hbx).1 (by simpa using h.ne)).trans hbx
  · exact (h.pol.only (only_cells b5 _ 0 W) (by simpa using Ne.symm h.ne)).put (R' := R1) fo e1
end
/-- What the operations of the region leave that sets both policies. -/
def pl26 (QC : Array Value) (L : List Value) (E2 : Array Value) (L1 : List Value) : Nat → Value → World → Prop
  | 0 => IsV (.agg QC)
  | 1 => IsV (.agg L.toArray)
  | 2 => IsV (.agg E2)
  | 3 => IsV (.agg L1.toArray)
  | _ => fun _ _ => True
theorem pl26_kept (QC : Array Value) (L : List Value) (E2 : Array Value) (L1 : List Value) : ∀ i v (w w' : World), pl26 QC L E2 L1 i v w → True → pl26 QC L E2 L1 i v w'
  | 0, _, _, _, h, _ => h
  | 1, _, _, _, h, _ => h
  | 2, _, _, _, h, _ => h
  | 3, _, _, _, h, _ => h
  | _ + 4, _, _, _, _, _ => trivial
theorem frame3_26 {A F : Array Value} (hs : A.size = 101) (h : ∀ t, [92, 93, 94, 95].contains t = false → A.getD t undef = F.getD t undef) : A = #[F.getD 0 undef, F.getD 1 undef, F.getD 2 undef, F.getD 3 undef, F.getD 4 undef, F.getD 5 undef, F.getD 6 undef, F.getD 7 undef, F.getD 8 undef, F.getD 9 undef, F.getD 10 undef, F.getD 11 undef, F.getD 12 undef, F.getD 13 undef, F.getD 14 undef, F.getD 15 undef, F.getD 16 undef, F.getD 17 undef, F.getD 18 undef, F.getD 19 undef, F.getD 20 undef, F.getD 21 undef, F.getD 22 undef, F.getD 23 undef, F.getD 24 undef, F.getD 25 undef, F.getD 26 undef, F.getD 27 undef, F.getD 28 undef, F.getD 29 undef, F.getD 30 undef, F.getD 31 undef, F.getD 32 undef, F.getD 33 undef, F.getD 34 undef, F.getD 35 undef, F.getD 36 undef, F.getD 37 undef, F.getD 38 undef, F.getD 39 undef, F.getD 40 undef, F.getD 41 undef, F.getD 42 undef, F.getD 43 undef, F.getD 44 undef, F.getD 45 undef, F.getD 46 undef, F.getD 47 undef, F.getD 48 undef, F.getD 49 undef, F.getD 50 undef, F.getD 51 undef, F.getD 52 undef, F.getD 53 undef, F.getD 54 undef, F.getD 55 undef, F.getD 56 undef, F.getD 57 undef, F.getD 58 undef, F.getD 59 undef, F.getD 60 undef, F.getD 61 undef, F.getD 62 undef, F.getD 63 undef, F.getD 64 undef, F.getD 65 undef, F.getD 66 undef, F.getD 67 undef, F.getD 68 undef, F.getD 69 undef, F.getD 70 undef, F.getD 71 undef, F.getD 72 undef, F.getD 73 undef, F.getD 74 undef, F.getD 75 undef, F.getD 76 undef, F.getD 77 undef, F.getD 78 undef, F.getD 79 undef, F.getD 80 undef, F.getD 81 undef, F.getD 82 undef, F.getD 83 undef, F.getD 84 undef, F.getD 85 undef, F.getD 86 undef, F.getD 87 undef, F.getD 88 undef, F.getD 89 undef, F.getD 90 undef, F.getD 91 undef, A.getD 92 undef, A.getD 93 undef, A.getD 94 undef, A.getD 95 undef, F.getD 96 undef, F.getD 97 undef, F.getD 98 undef, F.getD 99 undef, F.getD 100 undef] := by
  rw [← h 0 (by decide), ← h 1 (by decide), ← h 2 (by decide), ← h 3 (by decide), ← h 4 (by decide), ← h 5 (by decide), ← h 6 (by decide), ← h 7 (by decide), ← h 8 (by decide), ← h 9 (by decide), ← h 10 (by decide), ← h 11 (by decide), ← h 12 (by decide), ← h 13 (by decide), ← h 14 (by decide), ← h 15 (by decide), ← h 16 (by decide), ← h 17 (by decide), ← h 18 (by decide), ← h 19 (by decide), ← h 20 (by decide), ← h 21 (by decide), ← h 22 (by decide), ← h 23 (by decide), ← h 24 (by decide), ← h 25 (by decide), ← h 26 (by decide), ← h 27 (by decide), ← h 28 (by decide), ← h 29 (by decide), ← h 30 (by decide), ← h 31 (by decide), ← h 32 (by decide), ← h 33 (by decide), ← h 34 (by decide), ← h 35 (by decide), ← h 36 (by decide), ← h 37 (by decide), ← h 38 (by decide), ← h 39 (by decide), ← h 40 (by decide), ← h 41 (by decide), ← h 42 (by decide), ← h 43 (by decide), ← h 44 (by decide), ← h 45 (by decide), ← h 46 (by decide), ← h 47 (by decide), ← h 48 (by decide), ← h 49 (by decide), ← h 50 (by decide), ← h 51 (by decide), ← h 52 (by decide), ← h 53 (by decide), ← h 54 (by decide), ← h 55 (by decide), ← h 56 (by decide), ← h 57 (by decide), ← h 58 (by decide), ← h 59 (by decide), ← h 60 (by decide), ← h 61 (by decide), ← h 62 (by decide), ← h 63 (by decide), ← h 64 (by decide), ← h 65 (by decide), ← h 66 (by decide), ← h 67 (by decide), ← h 68 (by decide), ← h 69 (by decide), ← h 70 (by decide), ← h 71 (by decide), ← h 72 (by decide), ← h 73 (by decide), ← h 74 (by decide), ← h 75 (by decide), ← h 76 (by decide), ← h 77 (by decide), ← h 78 (by decide), ← h 79 (by decide), ← h 80 (by decide), ← h 81 (by decide), ← h 82 (by decide), ← h 83 (by decide), ← h 84 (by decide), ← h 85 (by decide), ← h 86 (by decide), ← h 87 (by decide), ← h 88 (by decide), ← h 89 (by decide), ← h 90 (by decide), ← h 91 (by decide), ← h 96 (by decide), ← h 97 (by decide), ← h 98 (by decide), ← h 99 (by decide), ← h 100 (by decide)]
  refine Array.ext (by simp [hs]) (fun i h1 h2 => ?_)
  have e : A[i] = A.getD i undef := by simp [h1]
  rw [e]
  rw [hs] at h1
  clear e h hs
  match i, h1 with
  | 0, _ => rfl
  | 1, _ => rfl
  | 2, _ => rfl
  | 3, _ => rfl
  | 4, _ => rfl
  | 5, _ => rfl
  | 6, _ => rfl
  | 7, _ => rfl
  | 8, _ => rfl
  | 9, _ => rfl
  | 10, _ => rfl
  | 11, _ => rfl
  | 12, _ => rfl
  | 13, _ => rfl
  | 14, _ => rfl
  | 15, _ => rfl
  | 16, _ => rfl
  | 17, _ => rfl
  | 18, _ => rfl
  | 19, _ => rfl
  | 20, _ => rfl
  | 21, _ => rfl
  | 22, _ => rfl
  | 23, _ => rfl
  | 24, _ => rfl
  | 25, _ => rfl
  | 26, _ => rfl
  | 27, _ => rfl
  | 28, _ => rfl
  | 29, _ => rfl
  | 30, _ => rfl
  | 31, _ => rfl
  | 32, _ => rfl
  | 33, _ => rfl
  | 34, _ => rfl
  | 35, _ => rfl
  | 36, _ => rfl
  | 37, _ => rfl
  | 38, _ => rfl
  | 39, _ => rfl
  | 40, _ => rfl
  | 41, _ => rfl
  | 42, _ => rfl
  | 43, _ => rfl
  | 44, _ => rfl
  | 45, _ => rfl
  | 46, _ => rfl
  | 47, _ => rfl
  | 48, _ => rfl
  | 49, _ => rfl
  | 50, _ => rfl
  | 51, _ => rfl
  | 52, _ => rfl
  | 53, _ => rfl
  | 54, _ => rfl
  | 55, _ => rfl
  | 56, _ => rfl
  | 57, _ => rfl
  | 58, _ => rfl
  | 59, _ => rfl
  | 60, _ => rfl
  | 61, _ => rfl
  | 62, _ => rfl
  | 63, _ => rfl
  | 64, _ => rfl
  | 65, _ => rfl
  | 66, _ => rfl
  | 67, _ => rfl
  | 68, _ => rfl
  | 69, _ => rfl
  | 70, _ => rfl
  | 71, _ => rfl
  | 72, _ => rfl
  | 73, _ => rfl
  | 74, _ => rfl
  | 75, _ => rfl
  | 76, _ => rfl
  | 77, _ => rfl
  | 78, _ => rfl
  | 79, _ => rfl
  | 80, _ => rfl
  | 81, _ => rfl
  | 82, _ => rfl
  | 83, _ => rfl
  | 84, _ => rfl
  | 85, _ => rfl
  | 86, _ => rfl
  | 87, _ => rfl
  | 88, _ => rfl
  | 89, _ => rfl
  | 90, _ => rfl
  | 91, _ => rfl
  | 92, _ => rfl
  | 93, _ => rfl
  | 94, _ => rfl
  | 95, _ => rfl
  | 96, _ => rfl
  | 97, _ => rfl
  | 98, _ => rfl
  | 99, _ => rfl
  | 100, _ => rfl
  | _ + 101, h => exact absurd h (by omega)
set_option maxHeartbeats 4000000 in
theorem pl_many (w : World) (fo : Int) (a1 : Option Addr) (n c1 : Nat) (hn : n ≤ 9223372036854775807) (h : 40 < n) : Calls Try.prog 3 #[.int .i64 fo, .slice a1 n c1] w fun x w' => x = .returned (.bool true) ∧ Below w.heap.size w w' := by
  have HC9 : ∀ W, W = w → Calls Try.prog 9 #[] W fun x w' => x = .returned (.bool true) ∧ Hid (Below w.heap.size w w') := by rintro W rfl; exact anchor_any W
  have k1 : (40 : Int) < (n : Int) := by omega
  go_enter Try.func3, Try.ntmps3
  go_wp2_with (first | (go_at_call 9; refine (HC9 _ rfl).mono ?_; rintro x w1 ⟨rfl, B1⟩))
  go_ret
  exact ⟨rfl, B1.out⟩
set_option maxHeartbeats 4000000 in
theorem pl_low (w : World) (fo : Int) (a1 : Option Addr) (n c1 : Nat) (h : n ≤ 40) (hf : fo < 1) : Calls Try.prog 3 #[.int .i64 fo, .slice a1 n c1] w fun x w' => x = .returned (.bool true) ∧ Below w.heap.size w w' := by
  have HC9 : ∀ W, W = w → Calls Try.prog 9 #[] W fun x w' => x = .returned (.bool true) ∧ Hid (Below w.heap.size w w') := by rintro W rfl; exact anchor_any W
  have HC10 : ∀ W, Hid (Below w.heap.size w W) → Calls Try.prog 10 #[.int .i64 fo] W fun x w' => x = .returned (.tuple #[.agg #[.int .i64 0, .int .i64 0, .slice none 0 0], .int .i64 10]) ∧ Hid (∀ o, Below w.heap.size w (w'.alloc o)) := fun W hW => (First_bad fo W (by omega)).mono (by
    rintro x w' ⟨rfl, hb⟩
    have hb2 := hW.out.trans (bel_le hb hW.out.size)
    exact ⟨rfl, fun o => hb2.trans (bel_alloc hb2.size o)⟩)
  have k1 : ¬ (40 : Int) < (n : Int) := by omega
  go_enter Try.func3, Try.ntmps3
  go_wp2_with (first | (go_at_call 9; refine (HC9 _ rfl).mono ?_; rintro x w1 ⟨rfl, B1⟩) | (go_at_call 10; refine (HC10 _ B1).mono ?_; rintro x w2 ⟨rfl, B2⟩))
  go_ret
  exact ⟨rfl, B2.out _⟩
set_option maxHeartbeats 4000000 in
theorem pl_high (w : World) (fo : Int) (a1 : Option Addr) (n c1 : Nat) (h : n ≤ 40) (hf : 16 < fo) : Calls Try.prog 3 #[.int .i64 fo, .slice a1 n c1] w fun x w' => x = .returned (.bool true) ∧ Below w.heap.size w w' := by
  have HC9 : ∀ W, W = w → Calls Try.prog 9 #[] W fun x w' => x = .returned (.bool true) ∧ Hid (Below w.heap.size w w') := by rintro W rfl; exact anchor_any W
  have HC10 : ∀ W, Hid (Below w.heap.size w W) → Calls Try.prog 10 #[.int .i64 fo] W fun x w' => x = .returned (.tuple #[.agg #[.int .i64 0, .int .i64 0, .slice none 0 0], .int .i64 10]) ∧ Hid (∀ o, Below w.heap.size w (w'.alloc o)) := fun W hW => (First_bad fo W (by omega)).mono (by
    rintro x w' ⟨rfl, hb⟩
    have hb2 := hW.out.trans (bel_le hb hW.out.size)
    exact ⟨rfl, fun o => hb2.trans (bel_alloc hb2.size o)⟩)
  have k1 : ¬ (40 : Int) < (n : Int) := by omega
  have k2 : ¬ fo < 1 := by omega
  go_enter Try.func3, Try.ntmps3
  go_wp2_with (first | (go_at_call 9; refine (HC9 _ rfl).mono ?_; rintro x w1 ⟨rfl, B1⟩) | (go_at_call 10; refine (HC10 _ B1).mono ?_; rintro x w2 ⟨rfl, B2⟩))
  go_ret
  exact ⟨rfl, B2.out _⟩
set_option maxHeartbeats 16000000 in
set_option maxRecDepth 20000 in
theorem pl_main (w : World) (fo : Int) (a1 : Option Addr) (es : List En) (ca : Nat) (h1 : EnRow w a1 es) (hn : es.length ≤ 40) (hf : 1 ≤ fo ∧ fo ≤ 16) : Calls Try.prog 3 #[.int .i64 fo, .slice a1 es.length ca] w fun x w' => x = .returned (.bool true) ∧ Below w.heap.size w w' := by
  have HC9 : ∀ W, W = w → Calls Try.prog 9 #[] W fun x w' => x = .returned (.bool true) ∧ Hid (Below w.heap.size w w') := by rintro W rfl; exact anchor_any W
  obtain ⟨R0, HR0⟩ : ∃ R0 : Int → Int, Hid ((fun x => if fo = x then 7 else 0) = R0) := ⟨_, rfl⟩
  have HC10 : ∀ W, Hid (Below w.heap.size w W) → Calls Try.prog 10 #[.int .i64 fo] W fun x w' => ∃ q c, x = .returned (.tuple #[.agg #[.int .i64 fo, .int .i64 0, .slice q 1 c], .int .i64 0]) ∧ Hid (Below w.heap.size w w' ∧ Told4 0 w' fo 0 q 1 c R0) := fun W hW => (first_fo fo W hf).mono (by
    rintro x w' ⟨q, c, rfl, k1, k2⟩
    rw [HR0.out] at k1
    exact ⟨q, c, rfl, hW.out.trans (bel_le k2 hW.out.size), k1.old (Nat.zero_le _)⟩)
  have HC11 : ∀ W, Calls Try.prog 11 #[.int .i64 fo] W fun x w' => x = .returned (.agg (RpL fo 0 R0).toArray) ∧ Hid (Below W.heap.size W w') := fun W => by
    have h := rFirst_any fo W hf
    rw [show (fun x => if x = fo then (7 : Int) else 0) = R0 from by
      rw [← HR0.out]
      funext x
      by_cases hx : fo = x
      · rw [if_pos hx, if_pos hx.symm]
      · rw [if_neg hx, if_neg (fun e => hx e.symm)]] at h
    exact h
  have HSM0 : Hid (∀ {b5 b7 : Nat} {e : Int} {q : Option Addr} {nn c : Nat} {R : Int → Int} (W : World), PG w W b5 b7 fo e q nn c R → Calls Try.prog 12 #[.agg #[.int .i64 fo, .int .i64 e, .slice q nn c], .agg (RpL fo e R).toArray] W fun z u => z = .returned (.bool true) ∧ Below W.heap.size W u) := fun W h => same_any _ _ _ _ _ _ W h.told
  have HA : Hid (∀ W, Below w.heap.size w W → EnRow W a1 es) := fun W hW => h1.below hW
  have f1' : ¬ fo < 1 := by omega
  have f2' : ¬ 16 < fo := by omega
  clear h1 hf HR0
  obtain ⟨n, HN⟩ : ∃ n, Hid (es.length = n) := ⟨_, rfl⟩
  rw [HN.out] at hn ⊢
  have n40 : (n : Int) ≤ 40 := by omega
  obtain ⟨dd, hd1, hd2⟩ := u32
  go_enter Try.func3, Try.ntmps3
  go_wp2_with (first | (go_at_call 9; refine (HC9 _ rfl).mono ?_; rintro x w1 ⟨rfl, B1⟩))
  refine (HC10 _ B1).mono ?_
  rintro x w2 ⟨q0, c0, rfl, G0⟩
  clear HC9 HC10 B1
  go_wp2_with (first | (go_at_call 11; refine (HC11 _).mono ?_; rintro x w3 ⟨rfl, B3⟩) | with_reducible (refine stop_store 32 ?_))
  refine Stop.go ?_
  have HZ : Hid (RpAt (w3.alloc (.cells #[.int .i64 0, .int .i64 0, .int .i64 0, .int .i64 0, .int .i64 0, .int .i64 0, .int .i64 0, .int .i64 0, .int .i64 0, .int .i64 0, .int .i64 0, .int .i64 0, .int .i64 0, .int .i64 0, .int .i64 0, .int .i64 0, .int .i64 0, .int .i64 0, .int .i64 0] 32)) w3.heap.size 0 0 (fun _ => 0)) := by
    show _ = _
    rw [← rpl_zero]
    exact heap_alloc_new w3 _
  have hsz : (RpL fo 0 R0).toArray.size = 19 := by rw [List.size_toArray, rpl_length]
  refine law_store w3.heap.size 0 (RpL fo 0 R0).toArray rfl rfl (by rw [hsz]; exact HZ.out.there) (by rw [i32, hsz]) (all_oneCell_toArray rpl_one) ?_
  have G5 : Hid (PG w ((w3.alloc (.cells #[.int .i64 0, .int .i64 0, .int .i64 0, .int .i64 0, .int .i64 0, .int .i64 0, .int .i64 0, .int .i64 0, .int .i64 0, .int .i64 0, .int .i64 0, .int .i64 0, .int .i64 0, .int .i64 0, .int .i64 0, .int .i64 0, .int .i64 0, .int .i64 0, .int .i64 0] 32)).setCells w3.heap.size 0 (RpL fo 0 R0)) w2.heap.size w3.heap.size fo 0 q0 1 c0 R0) := PG.start G0.out.1 G0.out.2 B3.out
  clear HZ hsz G0 B3 HC11
  generalize (w3.alloc (.cells #[.int .i64 0, .int .i64 0, .int .i64 0, .int .i64 0, .int .i64 0, .int .i64 0, .int .i64 0, .int .i64 0, .int .i64 0, .int .i64 0, .int .i64 0, .int .i64 0, .int .i64 0, .int .i64 0, .int .i64 0, .int .i64 0, .int .i64 0, .int .i64 0, .int .i64 0] 32)).setCells w3.heap.size 0 (RpL fo 0 R0) = W5 at *
  generalize w2.heap.size = b5 at *
  generalize w3.heap.size = b7 at *
  obtain ⟨g0, g1, g2⟩ := G5.out.cells
  go_wp2_with (first | with_reducible (refine stop_load_g 32 ?_))
  refine Stop.go ?_
  refine unguard rfl ?_
  refine law_load b7 0 (RpL fo 0 R0) dd rfl G5.out.pol.row hd1 hd2 (by rw [i32, rpl_length]) ?_
  have H12 := HSM0.out W5 G5.out
  go_wp2_with fail
  refine H12.mono ?_
  rintro x w6 ⟨rfl, B6⟩
  have G6 : Hid (PG w w6 b5 b7 fo 0 q0 1 c0 R0) := G5.out.step B6
  clear H12 B6 G5 g0 g1 g2
  go_wp2_with fail
  go_loopw [50] (fun i wr => ∃ (j : Nat) (e : Int) (q : Option Addr) (nn c : Nat) (R : Int → Int), j ≤ n ∧ i = .int .i64 j ∧ Hid (PG w wr b5 b7 fo e q nn c R)) (fun i _ => n - (intOf i).toNat)
  case atStart => exact ⟨0, 0, q0, 1, c0, _, by omega, rfl, G6⟩
  case round =>
    obtain ⟨j, e, q, nn, c, R, hj, rfl, GJ⟩ := hrel
    clear G6
    have j0 : (0 : Int) ≤ (j : Int) := by omega
    by_cases hlt : j < n
    · have j1 : (j : Int) < (n : Int) := by omega
      obtain ⟨bb, ob, np, nc, vp, vc, wq, wc, rfl, k2, k3, k4⟩ := (HA.out wr GJ.out.bel) j (by rw [HN.out]; exact hlt)
      generalize es[j]'(by rw [HN.out]; exact hlt) = en at *
      obtain ⟨E0, HE0⟩ : ∃ E0, Hid (en = E0) := ⟨_, rfl⟩
      have HEN : Hid (∀ W, Below wr.heap.size wr W → EnIs W (.agg (EnV en np nc vp vc wq wc)) E0) := fun W hb => by
        rw [← HE0.out]
        exact k4.below hb
      obtain ⟨sm, HS⟩ : ∃ sm, Hid (small E0 = sm) := ⟨_, rfl⟩
      have HSM : Hid (∀ W, Below wr.heap.size wr W → Calls Try.prog 13 #[.agg (EnV en np nc vp vc wq wc)] W fun z u => z = .returned (.bool sm) ∧ Below W.heap.size W u) := by
        rw [← HS.out]
        exact fun W hb => small_any E0 _ W (HEN.out W hb)
      clear k4 HE0
      obtain ⟨a1, a2, a3, a4, a5, a6, a7, a8, a9⟩ := en
      simp only [EnV] at k3 HSM HEN
      generalize a4.length = l4 at *
      generalize a5.length = l5 at *
      generalize a9.length = l9 at *
      have d0 : wr.cell? ⟨bb, ob + j * 9, none⟩ = some (.int .i64 a1) := k3 0 _ rfl
      have d1 : wr.cell? ⟨bb, ob + j * 9 + 1, none⟩ = some (.int .i64 a2) := k3 1 _ rfl
      have d2 : wr.cell? ⟨bb, ob + j * 9 + 2, none⟩ = some (.int .i64 a3) := k3 2 _ rfl
      have d3 : wr.cell? ⟨bb, ob + j * 9 + 3, none⟩ = some (.slice np l4 nc) := k3 3 _ rfl
      have d4 : wr.cell? ⟨bb, ob + j * 9 + 4, none⟩ = some (.slice vp l5 vc) := k3 4 _ rfl
      have d5 : wr.cell? ⟨bb, ob + j * 9 + 5, none⟩ = some (.int .i64 a6) := k3 5 _ rfl
      have d6 : wr.cell? ⟨bb, ob + j * 9 + 6, none⟩ = some (.int .i64 a7) := k3 6 _ rfl
      have d7 : wr.cell? ⟨bb, ob + j * 9 + 7, none⟩ = some (.int .i64 a8) := k3 7 _ rfl
      have d8 : wr.cell? ⟨bb, ob + j * 9 + 8, none⟩ = some (.slice wq l9 wc) := k3 8 _ rfl
      clear k3
      have HB8 : Hid (Below wr.heap.size wr (wr.alloc (.cells #[.int .i64 a1, .int .i64 a2, .int .i64 a3, .slice np l4 nc, .slice vp l5 vc, .int .i64 a6, .int .i64 a7, .int .i64 a8, .slice wq l9 wc] 38))) := bel_alloc (Nat.le_refl _) _
      have R8 : Hid ((wr.alloc (.cells #[.int .i64 a1, .int .i64 a2, .int .i64 a3, .slice np l4 nc, .slice vp l5 vc, .int .i64 a6, .int .i64 a7, .int .i64 a8, .slice wq l9 wc] 38)).heap[wr.heap.size]? = some (.cells #[.int .i64 a1, .int .i64 a2, .int .i64 a3, .slice np l4 nc, .slice vp l5 vc, .int .i64 a6, .int .i64 a7, .int .i64 a8, .slice wq l9 wc] 38 (0, 0))) := heap_alloc_new wr _
      have H13 : Calls Try.prog 13 #[.agg #[.int .i64 a1, .int .i64 a2, .int .i64 a3, .slice np l4 nc, .slice vp l5 vc, .int .i64 a6, .int .i64 a7, .int .i64 a8, .slice wq l9 wc]] (wr.alloc (.cells #[.int .i64 a1, .int .i64 a2, .int .i64 a3, .slice np l4 nc, .slice vp l5 vc, .int .i64 a6, .int .i64 a7, .int .i64 a8, .slice wq l9 wc] 38)) fun z u => z = .returned (.bool sm) ∧ Hid (Below (wr.alloc (.cells #[.int .i64 a1, .int .i64 a2, .int .i64 a3, .slice np l4 nc, .slice vp l5 vc, .int .i64 a6, .int .i64 a7, .int .i64 a8, .slice wq l9 wc] 38)).heap.size (wr.alloc (.cells #[.int .i64 a1, .int .i64 a2, .int .i64 a3, .slice np l4 nc, .slice vp l5 vc, .int .i64 a6, .int .i64 a7, .int .i64 a8, .slice wq l9 wc] 38)) u) := HSM.out _ HB8.out
      go_wp2_with fail
      refine H13.mono ?_
      rintro z w3 ⟨rfl, B3⟩
      have HB3 : Hid (Below wr.heap.size wr w3) := HB8.out.trans (bel_le B3.out HB8.out.size)
      have R3 : Hid (w3.heap[wr.heap.size]? = some (.cells #[.int .i64 a1, .int .i64 a2, .int .i64 a3, .slice np l4 nc, .slice vp l5 vc, .int .i64 a6, .int .i64 a7, .int .i64 a8, .slice wq l9 wc] 38 (0, 0))) := (B3.out.block _ (Array.getElem?_eq_some_iff.1 R8.out).1).trans R8.out
      clear H13 HSM R8 d0 d1 d2 d3 d4 d5 d6 d7 d8
      cases sm with
      | false =>
        have HBW : Hid (Below w.heap.size w w3) := (GJ.out.step HB3.out).bel
        go_wp2_with fail
        go_ret
        exact ⟨rfl, HBW.out⟩
      | true =>
        have G3 : Hid (PG w w3 b5 b7 fo e q nn c R) := GJ.out.step HB3.out
        have HL8 : Hid (b5 < w3.heap.size ∧ b7 < w3.heap.size) := G3.out.lt
        have HSB : Hid (E0.wraps.length ≤ 20) := (small_of HS.out).2.2.2
        have HEN3 : Hid (∀ W, Below w3.heap.size w3 W → EnIs W (.agg #[.int .i64 a1, .int .i64 a2, .int .i64 a3, .slice np l4 nc, .slice vp l5 vc, .int .i64 a6, .int .i64 a7, .int .i64 a8, .slice wq l9 wc]) E0) := fun W hb => HEN.out W (HB3.out.trans (bel_le hb HB3.out.size))
        have HC15 : Hid (∀ W, Below w3.heap.size w3 W → Calls Try.prog 15 #[.agg #[.int .i64 a1, .int .i64 a2, .int .i64 a3, .slice np l4 nc, .slice vp l5 vc, .int .i64 a6, .int .i64 a7, .int .i64 a8, .slice wq l9 wc]] W fun z u => ∃ (k1 k2 k3 : Int) (np' : Option Addr) (m4 nc' : Nat) (vp' : Option Addr) (m5 vc' : Nat) (k6 k7 k8 : Int) (wq' : Option Addr) (m9 wc' : Nat), z = .returned (.agg #[.int .i64 k1, .int .i64 k2, .int .i64 k3, .slice np' m4 nc', .slice vp' m5 vc', .int .i64 k6, .int .i64 k7, .int .i64 k8, .slice wq' m9 wc']) ∧ Below W.heap.size W u ∧ EnIs u (.agg #[.int .i64 k1, .int .i64 k2, .int .i64 k3, .slice np' m4 nc', .slice vp' m5 vc', .int .i64 k6, .int .i64 k7, .int .i64 k8, .slice wq' m9 wc']) E0) := fun W hb => (made_any E0 _ W (HEN3.out W hb) (by have := HSB.out; omega)).mono (by
          rintro z u ⟨v, rfl, ⟨np, nc, vp, vc, q, c, rfl, hat⟩, hb⟩
          exact ⟨_, _, _, _, _, _, _, _, _, _, _, _, _, _, _, rfl, hb, _, _, _, _, _, _, rfl, hat⟩)
        obtain ⟨g0, g1, g2⟩ := G3.out.cells
        obtain ⟨d0, d1, d2, d3, d4, d5, d6, d7, d8⟩ := row9c R3.out
        clear GJ HEN HB3 HB8 B3 HS
        generalize wr.heap.size = b9 at *
        obtain ⟨wt, HWT⟩ : ∃ wt, Hid (want fo e R E0 = wt) := ⟨_, rfl⟩
        obtain ⟨rt, HRT⟩ : ∃ rt, Hid (right E0 = rt) := ⟨_, rfl⟩
        cases rt with
        | false =>
          have hwt : want fo e R E0 = 10 := by
            unfold want
            rw [if_neg (by rw [HRT.out]; decide)]
          obtain rfl : 10 = wt := by rw [← hwt]; exact HWT.out
          clear hwt
          have H14 : Calls Try.prog 14 #[.agg #[.int .i64 fo, .int .i64 e, .slice q nn c], .agg #[.int .i64 a1, .int .i64 a2, .int .i64 a3, .slice np l4 nc, .slice vp l5 vc, .int .i64 a6, .int .i64 a7, .int .i64 a8, .slice wq l9 wc]] w3 fun z u => z = .returned (.tuple #[.agg #[.int .i64 0, .int .i64 0, .slice none 0 0], .int .i64 10]) ∧ Hid (Below w3.heap.size w3 u) := by
            have h := G3.out.told.ano E0 _ (HEN3.out _ (Below.refl _ _)) (by rw [HWT.out]; decide)
            rw [HWT.out] at h
            exact h
          go_wp2_with fail
          refine H14.mono ?_
          rintro z w5 ⟨rfl, B5⟩
          have HB6 : Hid (Below w3.heap.size w3 (w5.alloc (.cells #[.int .i64 0, .int .i64 0, .slice none 0 0] 26))) := B5.out.trans (bel_alloc B5.out.size _)
          have HQ6 : Hid ((w5.alloc (.cells #[.int .i64 0, .int .i64 0, .slice none 0 0] 26)).heap[w5.heap.size]? = some (.cells #[.int .i64 0, .int .i64 0, .slice none 0 0] 26 (0, 0))) := heap_alloc_new w5 _
          clear H14 B5 g0 g1 g2 d0 d1 d2 d3 d4 d5 d6 d7 d8
          obtain ⟨d0, d1, d2, d3, d4, d5, d6, d7, d8⟩ := row9c ((HB6.out.block _ (Array.getElem?_eq_some_iff.1 R3.out).1).trans R3.out)
          have H15 := HC15.out _ HB6.out
          go_wp2_with fail
          refine H15.mono ?_
          rintro z w7 ⟨k1, k2, k3, np', m4, nc', vp', m5, vc', k6, k7, k8, wq', m9, wc', rfl, B7, EN7⟩
          obtain ⟨T, HT⟩ : ∃ T : World → Prop, Hid ((fun u => EnIs u (.agg #[.int .i64 a1, .int .i64 a2, .int .i64 a3, .slice np l4 nc, .slice vp l5 vc, .int .i64 a6, .int .i64 a7, .int .i64 a8, .slice wq l9 wc]) E0 ∧ EnIs u (.agg #[.int .i64 k1, .int .i64 k2, .int .i64 k3, .slice np' m4 nc', .slice vp' m5 vc', .int .i64 k6, .int .i64 k7, .int .i64 k8, .slice wq' m9 wc']) E0 ∧ True) = T) := ⟨_, rfl⟩
          have HTT : Hid (∀ u, T u → EnIs u (.agg #[.int .i64 a1, .int .i64 a2, .int .i64 a3, .slice np l4 nc, .slice vp l5 vc, .int .i64 a6, .int .i64 a7, .int .i64 a8, .slice wq l9 wc]) E0 ∧ EnIs u (.agg #[.int .i64 k1, .int .i64 k2, .int .i64 k3, .slice np' m4 nc', .slice vp' m5 vc', .int .i64 k6, .int .i64 k7, .int .i64 k8, .slice wq' m9 wc']) E0 ∧ True) := by rw [← HT.out]; exact fun _ h => h
          have B36 : Below w3.heap.size w3 w7 := HB6.out.trans (bel_le B7 HB6.out.size)
          have BA : Below w7.heap.size w7 (w7.alloc (.cells #[.int .i64 k1, .int .i64 k2, .int .i64 k3, .slice np' m4 nc', .slice vp' m5 vc', .int .i64 k6, .int .i64 k7, .int .i64 k8, .slice wq' m9 wc'] 43)) := bel_alloc (Nat.le_refl _) _
          have B38 : Below w3.heap.size w3 (w7.alloc (.cells #[.int .i64 k1, .int .i64 k2, .int .i64 k3, .slice np' m4 nc', .slice vp' m5 vc', .int .i64 k6, .int .i64 k7, .int .i64 k8, .slice wq' m9 wc'] 43)) := B36.trans (bel_le BA B36.size)
          have B68 : Below (w5.alloc (.cells #[.int .i64 0, .int .i64 0, .slice none 0 0] 26)).heap.size (w5.alloc (.cells #[.int .i64 0, .int .i64 0, .slice none 0 0] 26)) (w7.alloc (.cells #[.int .i64 k1, .int .i64 k2, .int .i64 k3, .slice np' m4 nc', .slice vp' m5 vc', .int .i64 k6, .int .i64 k7, .int .i64 k8, .slice wq' m9 wc'] 43)) := B7.trans (bel_le BA B7.size)
          have I8 : Hid (IP w (w7.alloc (.cells #[.int .i64 k1, .int .i64 k2, .int .i64 k3, .slice np' m4 nc', .slice vp' m5 vc', .int .i64 k6, .int .i64 k7, .int .i64 k8, .slice wq' m9 wc'] 43)) b5 b7 b9 w5.heap.size w7.heap.size fo e q nn c R #[.int .i64 a1, .int .i64 a2, .int .i64 a3, .slice np l4 nc, .slice vp l5 vc, .int .i64 a6, .int .i64 a7, .int .i64 a8, .slice wq l9 wc] #[.int .i64 0, .int .i64 0, .slice none 0 0] #[.int .i64 k1, .int .i64 k2, .int .i64 k3, .slice np' m4 nc', .slice vp' m5 vc', .int .i64 k6, .int .i64 k7, .int .i64 k8, .slice wq' m9 wc'] T) :=
            ⟨G3.out.step B38, (B38.block _ (Array.getElem?_eq_some_iff.1 R3.out).1).trans R3.out, (B68.block _ (Array.getElem?_eq_some_iff.1 HQ6.out).1).trans HQ6.out, heap_alloc_new w7 _,
              by rw [← HT.out]; exact ⟨HEN3.out _ B38, EN7.below BA, trivial⟩,
              by rw [← HT.out]; exact fun u u' hb h => ⟨h.1.below hb, h.2.1.below hb, trivial⟩⟩
          clear H15 B36 BA B38 B68 B7 EN7 HQ6 HB6 HC15 HEN3 G3 R3 HT d0 d1 d2 d3 d4 d5 d6 d7 d8
          have HC16 : ∀ W, Hid (IP w W b5 b7 b9 w5.heap.size w7.heap.size fo e q nn c R #[.int .i64 a1, .int .i64 a2, .int .i64 a3, .slice np l4 nc, .slice vp l5 vc, .int .i64 a6, .int .i64 a7, .int .i64 a8, .slice wq l9 wc] #[.int .i64 0, .int .i64 0, .slice none 0 0] #[.int .i64 k1, .int .i64 k2, .int .i64 k3, .slice np' m4 nc', .slice vp' m5 vc', .int .i64 k6, .int .i64 k7, .int .i64 k8, .slice wq' m9 wc'] T) → Calls Try.prog 16 #[.agg #[.int .i64 k1, .int .i64 k2, .int .i64 k3, .slice np' m4 nc', .slice vp' m5 vc', .int .i64 k6, .int .i64 k7, .int .i64 k8, .slice wq' m9 wc']] W fun z u => z = .returned (.bool false) ∧ Hid (IP w u b5 b7 b9 w5.heap.size w7.heap.size fo e q nn c R #[.int .i64 a1, .int .i64 a2, .int .i64 a3, .slice np l4 nc, .slice vp l5 vc, .int .i64 a6, .int .i64 a7, .int .i64 a8, .slice wq l9 wc] #[.int .i64 0, .int .i64 0, .slice none 0 0] #[.int .i64 k1, .int .i64 k2, .int .i64 k3, .slice np' m4 nc', .slice vp' m5 vc', .int .i64 k6, .int .i64 k7, .int .i64 k8, .slice wq' m9 wc'] T) := fun W h => by
            have hc := rRight_any E0 _ W (HTT.out _ h.out.t).2.1
            rw [HRT.out] at hc
            exact hc.mono (by rintro z u ⟨rfl, hb⟩; exact ⟨rfl, h.out.step hb⟩)
          have HC18 : ∀ W, Hid (IP w W b5 b7 b9 w5.heap.size w7.heap.size fo e q nn c R #[.int .i64 a1, .int .i64 a2, .int .i64 a3, .slice np l4 nc, .slice vp l5 vc, .int .i64 a6, .int .i64 a7, .int .i64 a8, .slice wq l9 wc] #[.int .i64 0, .int .i64 0, .slice none 0 0] #[.int .i64 k1, .int .i64 k2, .int .i64 k3, .slice np' m4 nc', .slice vp' m5 vc', .int .i64 k6, .int .i64 k7, .int .i64 k8, .slice wq' m9 wc'] T) → Calls Try.prog 18 #[.agg #[.int .i64 fo, .int .i64 e, .slice q nn c], .agg #[.int .i64 a1, .int .i64 a2, .int .i64 a3, .slice np l4 nc, .slice vp l5 vc, .int .i64 a6, .int .i64 a7, .int .i64 a8, .slice wq l9 wc]] W fun z u => z = .returned (.int .i64 10) ∧ Hid (IP w u b5 b7 b9 w5.heap.size w7.heap.size fo e q nn c R #[.int .i64 a1, .int .i64 a2, .int .i64 a3, .slice np l4 nc, .slice vp l5 vc, .int .i64 a6, .int .i64 a7, .int .i64 a8, .slice wq l9 wc] #[.int .i64 0, .int .i64 0, .slice none 0 0] #[.int .i64 k1, .int .i64 k2, .int .i64 k3, .slice np' m4 nc', .slice vp' m5 vc', .int .i64 k6, .int .i64 k7, .int .i64 k8, .slice wq' m9 wc'] T) := fun W h => by
            have hc := h.out.pg.told.mayc E0 _ (HTT.out _ h.out.t).1
            rw [HWT.out] at hc
            exact hc.mono (by rintro z u ⟨rfl, hb⟩; exact ⟨rfl, h.out.step hb⟩)
          obtain ⟨f0, f1, f2, f3, f4, f5, f6, f7, f8⟩ := row9c I8.out.r12
          go_wp2_with fail
          refine (HC16 _ I8).mono ?_
          rintro z w9 ⟨rfl, I9⟩
          clear I8 f0 f1 f2 f3 f4 f5 f6 f7 f8 HC16
          generalize w5.heap.size = b10 at *
          generalize w7.heap.size = b12 at *
          obtain ⟨g0, g1, g2⟩ := I9.out.pg.cells
          obtain ⟨d0, d1, d2, d3, d4, d5, d6, d7, d8⟩ := row9c I9.out.r9
          go_wp2_with fail
          refine (HC18 _ I9).mono ?_
          rintro z w10 ⟨rfl, I10⟩
          clear HC18 I9 g0 g1 g2 d0 d1 d2 d3 d4 d5 d6 d7 d8
          obtain ⟨g0, g1, g2⟩ := I10.out.pg.cells
          obtain ⟨u0, u1, u2⟩ := row3c I10.out.r10
          go_wp2_with (first | with_reducible (refine stop_load_g 32 ?_))
          refine Stop.go ?_
          refine unguard rfl ?_
          refine law_load b7 0 (RpL fo e R) dd rfl I10.out.pg.pol.row hd1 hd2 (by rw [i32, rpl_length]) ?_
          have H12 := HSM0.out w10 I10.out.pg
          go_wp2_with fail
          refine H12.mono ?_
          rintro z w11 ⟨rfl, B11⟩
          have G11 : Hid (PG w w11 b5 b7 fo e q nn c R) := I10.out.pg.step B11
          clear H12 B11 I10 g0 g1 g2 u0 u1 u2
          go_wp2_with fail
          refine ⟨⟨j + 1, e, q, nn, c, R, by omega, by simp, G11⟩, ?_⟩
          simp only [intOf]
          omega
        | true =>
          by_cases hw0 : wt = 0
          · subst hw0
            obtain ⟨e1, HE1⟩ : ∃ e1, Hid ((if E0.kind = 5 then E0.epoch else e) = e1) := ⟨_, rfl⟩
            obtain ⟨R1, HR1⟩ : ∃ R1, Hid (rafR E0 R = R1) := ⟨_, rfl⟩
            have H14 : Calls Try.prog 14 #[.agg #[.int .i64 fo, .int .i64 e, .slice q nn c], .agg #[.int .i64 a1, .int .i64 a2, .int .i64 a3, .slice np l4 nc, .slice vp l5 vc, .int .i64 a6, .int .i64 a7, .int .i64 a8, .slice wq l9 wc]] w3 fun z u => ∃ q1 n1 c1, z = .returned (.tuple #[.agg #[.int .i64 fo, .int .i64 e1, .slice q1 n1 c1], .int .i64 0]) ∧ Hid (Below w3.heap.size w3 u ∧ Told4 w3.heap.size u fo e1 q1 n1 c1 R1) := by
              have h := G3.out.told.ayes E0 _ (HEN3.out _ (Below.refl _ _)) HWT.out
              rw [HE1.out, HR1.out] at h
              exact h.mono (by rintro z u ⟨q1, n1, c1, rfl, h1, h2⟩; exact ⟨q1, n1, c1, rfl, h2, h1⟩)
            have HWH : Hid (E0.kind = 3 ∨ E0.kind = 4 → 1 ≤ E0.who ∧ E0.who ≤ 16) := fun hk34 => by
              rcases ((right_iff E0).1 HRT.out).2.2 with ⟨k, _⟩ | ⟨k, _⟩ | ⟨k, _, _, g, _⟩ | ⟨k, _, _, g, _⟩ | ⟨k, _⟩
              · omega
              · omega
              · exact g
              · exact g
              · omega
            go_wp2_with fail
            refine H14.mono ?_
            rintro z w5 ⟨q1, n1, c1, rfl, B5⟩
            have HB6 : Hid (Below w3.heap.size w3 (w5.alloc (.cells #[.int .i64 fo, .int .i64 e1, .slice q1 n1 c1] 26))) := B5.out.1.trans (bel_alloc B5.out.1.size _)
            have HQ6 : Hid ((w5.alloc (.cells #[.int .i64 fo, .int .i64 e1, .slice q1 n1 c1] 26)).heap[w5.heap.size]? = some (.cells #[.int .i64 fo, .int .i64 e1, .slice q1 n1 c1] 26 (0, 0))) := heap_alloc_new w5 _
            have HT6 : Hid (Told4 w3.heap.size (w5.alloc (.cells #[.int .i64 fo, .int .i64 e1, .slice q1 n1 c1] 26)) fo e1 q1 n1 c1 R1) := B5.out.2.below (bel_alloc (Nat.le_refl _) _)
            clear H14 B5 g0 g1 g2 d0 d1 d2 d3 d4 d5 d6 d7 d8
            obtain ⟨d0, d1, d2, d3, d4, d5, d6, d7, d8⟩ := row9c ((HB6.out.block _ (Array.getElem?_eq_some_iff.1 R3.out).1).trans R3.out)
            have H15 := HC15.out _ HB6.out
            go_wp2_with fail
            refine H15.mono ?_
            rintro z w7 ⟨k1, k2, k3, np', m4, nc', vp', m5, vc', k6, k7, k8, wq', m9, wc', rfl, B7, EN7⟩
            obtain ⟨T, HT⟩ : ∃ T : World → Prop, Hid ((fun u => EnIs u (.agg #[.int .i64 a1, .int .i64 a2, .int .i64 a3, .slice np l4 nc, .slice vp l5 vc, .int .i64 a6, .int .i64 a7, .int .i64 a8, .slice wq l9 wc]) E0 ∧ EnIs u (.agg #[.int .i64 k1, .int .i64 k2, .int .i64 k3, .slice np' m4 nc', .slice vp' m5 vc', .int .i64 k6, .int .i64 k7, .int .i64 k8, .slice wq' m9 wc']) E0 ∧ Told4 w3.heap.size u fo e1 q1 n1 c1 R1) = T) := ⟨_, rfl⟩
            have HTT : Hid (∀ u, T u → EnIs u (.agg #[.int .i64 a1, .int .i64 a2, .int .i64 a3, .slice np l4 nc, .slice vp l5 vc, .int .i64 a6, .int .i64 a7, .int .i64 a8, .slice wq l9 wc]) E0 ∧ EnIs u (.agg #[.int .i64 k1, .int .i64 k2, .int .i64 k3, .slice np' m4 nc', .slice vp' m5 vc', .int .i64 k6, .int .i64 k7, .int .i64 k8, .slice wq' m9 wc']) E0 ∧ Told4 w3.heap.size u fo e1 q1 n1 c1 R1) := by rw [← HT.out]; exact fun _ h => h
            have B36 : Below w3.heap.size w3 w7 := HB6.out.trans (bel_le B7 HB6.out.size)
            have BA : Below w7.heap.size w7 (w7.alloc (.cells #[.int .i64 k1, .int .i64 k2, .int .i64 k3, .slice np' m4 nc', .slice vp' m5 vc', .int .i64 k6, .int .i64 k7, .int .i64 k8, .slice wq' m9 wc'] 43)) := bel_alloc (Nat.le_refl _) _
            have B38 : Below w3.heap.size w3 (w7.alloc (.cells #[.int .i64 k1, .int .i64 k2, .int .i64 k3, .slice np' m4 nc', .slice vp' m5 vc', .int .i64 k6, .int .i64 k7, .int .i64 k8, .slice wq' m9 wc'] 43)) := B36.trans (bel_le BA B36.size)
            have B68 : Below (w5.alloc (.cells #[.int .i64 fo, .int .i64 e1, .slice q1 n1 c1] 26)).heap.size (w5.alloc (.cells #[.int .i64 fo, .int .i64 e1, .slice q1 n1 c1] 26)) (w7.alloc (.cells #[.int .i64 k1, .int .i64 k2, .int .i64 k3, .slice np' m4 nc', .slice vp' m5 vc', .int .i64 k6, .int .i64 k7, .int .i64 k8, .slice wq' m9 wc'] 43)) := B7.trans (bel_le BA B7.size)
            have I8 : Hid (IP w (w7.alloc (.cells #[.int .i64 k1, .int .i64 k2, .int .i64 k3, .slice np' m4 nc', .slice vp' m5 vc', .int .i64 k6, .int .i64 k7, .int .i64 k8, .slice wq' m9 wc'] 43)) b5 b7 b9 w5.heap.size w7.heap.size fo e q nn c R #[.int .i64 a1, .int .i64 a2, .int .i64 a3, .slice np l4 nc, .slice vp l5 vc, .int .i64 a6, .int .i64 a7, .int .i64 a8, .slice wq l9 wc] #[.int .i64 fo, .int .i64 e1, .slice q1 n1 c1] #[.int .i64 k1, .int .i64 k2, .int .i64 k3, .slice np' m4 nc', .slice vp' m5 vc', .int .i64 k6, .int .i64 k7, .int .i64 k8, .slice wq' m9 wc'] T) :=
              ⟨G3.out.step B38, (B38.block _ (Array.getElem?_eq_some_iff.1 R3.out).1).trans R3.out, (B68.block _ (Array.getElem?_eq_some_iff.1 HQ6.out).1).trans HQ6.out, heap_alloc_new w7 _,
                by rw [← HT.out]; exact ⟨HEN3.out _ B38, EN7.below BA, HT6.out.below B68⟩,
                by rw [← HT.out]; exact fun u u' hb h => ⟨h.1.below hb, h.2.1.below hb, h.2.2.below hb⟩⟩
            clear H15 B36 BA B38 B68 B7 EN7 HQ6 HB6 HT6 HC15 HEN3 G3 R3 HT d0 d1 d2 d3 d4 d5 d6 d7 d8
            have HC16 : ∀ W, Hid (IP w W b5 b7 b9 w5.heap.size w7.heap.size fo e q nn c R #[.int .i64 a1, .int .i64 a2, .int .i64 a3, .slice np l4 nc, .slice vp l5 vc, .int .i64 a6, .int .i64 a7, .int .i64 a8, .slice wq l9 wc] #[.int .i64 fo, .int .i64 e1, .slice q1 n1 c1] #[.int .i64 k1, .int .i64 k2, .int .i64 k3, .slice np' m4 nc', .slice vp' m5 vc', .int .i64 k6, .int .i64 k7, .int .i64 k8, .slice wq' m9 wc'] T) → Calls Try.prog 16 #[.agg #[.int .i64 k1, .int .i64 k2, .int .i64 k3, .slice np' m4 nc', .slice vp' m5 vc', .int .i64 k6, .int .i64 k7, .int .i64 k8, .slice wq' m9 wc']] W fun z u => z = .returned (.bool true) ∧ Hid (IP w u b5 b7 b9 w5.heap.size w7.heap.size fo e q nn c R #[.int .i64 a1, .int .i64 a2, .int .i64 a3, .slice np l4 nc, .slice vp l5 vc, .int .i64 a6, .int .i64 a7, .int .i64 a8, .slice wq l9 wc] #[.int .i64 fo, .int .i64 e1, .slice q1 n1 c1] #[.int .i64 k1, .int .i64 k2, .int .i64 k3, .slice np' m4 nc', .slice vp' m5 vc', .int .i64 k6, .int .i64 k7, .int .i64 k8, .slice wq' m9 wc'] T) := fun W h => by
              have hc := rRight_any E0 _ W (HTT.out _ h.out.t).2.1
              rw [HRT.out] at hc
              exact hc.mono (by rintro z u ⟨rfl, hb⟩; exact ⟨rfl, h.out.step hb⟩)
            have HC18 : ∀ W, Hid (IP w W b5 b7 b9 w5.heap.size w7.heap.size fo e q nn c R #[.int .i64 a1, .int .i64 a2, .int .i64 a3, .slice np l4 nc, .slice vp l5 vc, .int .i64 a6, .int .i64 a7, .int .i64 a8, .slice wq l9 wc] #[.int .i64 fo, .int .i64 e1, .slice q1 n1 c1] #[.int .i64 k1, .int .i64 k2, .int .i64 k3, .slice np' m4 nc', .slice vp' m5 vc', .int .i64 k6, .int .i64 k7, .int .i64 k8, .slice wq' m9 wc'] T) → Calls Try.prog 18 #[.agg #[.int .i64 fo, .int .i64 e, .slice q nn c], .agg #[.int .i64 a1, .int .i64 a2, .int .i64 a3, .slice np l4 nc, .slice vp l5 vc, .int .i64 a6, .int .i64 a7, .int .i64 a8, .slice wq l9 wc]] W fun z u => z = .returned (.int .i64 0) ∧ Hid (IP w u b5 b7 b9 w5.heap.size w7.heap.size fo e q nn c R #[.int .i64 a1, .int .i64 a2, .int .i64 a3, .slice np l4 nc, .slice vp l5 vc, .int .i64 a6, .int .i64 a7, .int .i64 a8, .slice wq l9 wc] #[.int .i64 fo, .int .i64 e1, .slice q1 n1 c1] #[.int .i64 k1, .int .i64 k2, .int .i64 k3, .slice np' m4 nc', .slice vp' m5 vc', .int .i64 k6, .int .i64 k7, .int .i64 k8, .slice wq' m9 wc'] T) := fun W h => by
              have hc := h.out.pg.told.mayc E0 _ (HTT.out _ h.out.t).1
              rw [HWT.out] at hc
              exact hc.mono (by rintro z u ⟨rfl, hb⟩; exact ⟨rfl, h.out.step hb⟩)
            obtain ⟨f0, f1, f2, f3, f4, f5, f6, f7, f8⟩ := row9c I8.out.r12
            go_wp2_with fail
            refine (HC16 _ I8).mono ?_
            rintro z w9 ⟨rfl, I9⟩
            clear I8 f0 f1 f2 f3 f4 f5 f6 f7 f8 HC16
            generalize w5.heap.size = b10 at *
            generalize w7.heap.size = b12 at *
            have HC17 : ∀ W, Hid (IP w W b5 b7 b9 b10 b12 fo e q nn c R #[.int .i64 a1, .int .i64 a2, .int .i64 a3, .slice np l4 nc, .slice vp l5 vc, .int .i64 a6, .int .i64 a7, .int .i64 a8, .slice wq l9 wc] #[.int .i64 fo, .int .i64 e1, .slice q1 n1 c1] #[.int .i64 k1, .int .i64 k2, .int .i64 k3, .slice np' m4 nc', .slice vp' m5 vc', .int .i64 k6, .int .i64 k7, .int .i64 k8, .slice wq' m9 wc'] T) → Calls Try.prog 17 #[.agg (RpL fo e R).toArray, .agg #[.int .i64 k1, .int .i64 k2, .int .i64 k3, .slice np' m4 nc', .slice vp' m5 vc', .int .i64 k6, .int .i64 k7, .int .i64 k8, .slice wq' m9 wc']] W fun z u => z = .returned (.int .i64 0) ∧ Hid (IP w u b5 b7 b9 b10 b12 fo e q nn c R #[.int .i64 a1, .int .i64 a2, .int .i64 a3, .slice np l4 nc, .slice vp l5 vc, .int .i64 a6, .int .i64 a7, .int .i64 a8, .slice wq l9 wc] #[.int .i64 fo, .int .i64 e1, .slice q1 n1 c1] #[.int .i64 k1, .int .i64 k2, .int .i64 k3, .slice np' m4 nc', .slice vp' m5 vc', .int .i64 k6, .int .i64 k7, .int .i64 k8, .slice wq' m9 wc'] T) := fun W h => by
              have hw := (right_iff E0).1 HRT.out
              have hbd := h.out.pg.told.bnd
              have hc := rMay_any fo e R E0 _ W (HTT.out _ h.out.t).2.1 (by omega) hbd.1 hbd.2 (by have := HSB.out; omega)
              have hwt := HWT.out
              unfold want at hwt
              rw [if_pos HRT.out] at hwt
              rw [hwt] at hc
              exact hc.mono (by rintro z u ⟨rfl, hb⟩; exact ⟨rfl, h.out.step hb⟩)
            obtain ⟨f0, f1, f2, f3, f4, f5, f6, f7, f8⟩ := row9c I9.out.r12
            go_wp2_with (first | with_reducible (refine stop_load 32 ?_))
            refine Stop.go ?_
            refine law_load b7 0 (RpL fo e R) dd rfl I9.out.pg.pol.row hd1 hd2 (by rw [i32, rpl_length]) ?_
            go_wp2_with fail
            refine (HC17 _ I9).mono ?_
            rintro z wA ⟨rfl, IA⟩
            clear HC17 I9 f0 f1 f2 f3 f4 f5 f6 f7 f8
            obtain ⟨g0, g1, g2⟩ := IA.out.pg.cells
            obtain ⟨d0, d1, d2, d3, d4, d5, d6, d7, d8⟩ := row9c IA.out.r9
            go_wp2_with fail
            refine (HC18 _ IA).mono ?_
            rintro z w10 ⟨rfl, I10⟩
            clear HC18 IA g0 g1 g2 d0 d1 d2 d3 d4 d5 d6 d7 d8
            have HC19 : ∀ W, IP w W b5 b7 b9 b10 b12 fo e q nn c R #[.int .i64 a1, .int .i64 a2, .int .i64 a3, .slice np l4 nc, .slice vp l5 vc, .int .i64 a6, .int .i64 a7, .int .i64 a8, .slice wq l9 wc] #[.int .i64 fo, .int .i64 e1, .slice q1 n1 c1] #[.int .i64 k1, .int .i64 k2, .int .i64 k3, .slice np' m4 nc', .slice vp' m5 vc', .int .i64 k6, .int .i64 k7, .int .i64 k8, .slice wq' m9 wc'] T → Calls Try.prog 19 #[.agg (RpL fo e R).toArray, .agg #[.int .i64 k1, .int .i64 k2, .int .i64 k3, .slice np' m4 nc', .slice vp' m5 vc', .int .i64 k6, .int .i64 k7, .int .i64 k8, .slice wq' m9 wc']] W fun z u => z = .returned (.agg (RpL fo e1 R1).toArray) ∧ IP w u b5 b7 b9 b10 b12 fo e q nn c R #[.int .i64 a1, .int .i64 a2, .int .i64 a3, .slice np l4 nc, .slice vp l5 vc, .int .i64 a6, .int .i64 a7, .int .i64 a8, .slice wq l9 wc] #[.int .i64 fo, .int .i64 e1, .slice q1 n1 c1] #[.int .i64 k1, .int .i64 k2, .int .i64 k3, .slice np' m4 nc', .slice vp' m5 vc', .int .i64 k6, .int .i64 k7, .int .i64 k8, .slice wq' m9 wc'] T := fun W h => by
              have hc := rApply_any fo e R E0 _ W (HTT.out _ h.t).2.1 HWH.out
              rw [HE1.out, HR1.out] at hc
              exact hc.mono (by rintro z u ⟨rfl, hb⟩; exact ⟨rfl, h.step hb⟩)
            have HNX : ∀ W, IP w W b5 b7 b9 b10 b12 fo e q nn c R #[.int .i64 a1, .int .i64 a2, .int .i64 a3, .slice np l4 nc, .slice vp l5 vc, .int .i64 a6, .int .i64 a7, .int .i64 a8, .slice wq l9 wc] #[.int .i64 fo, .int .i64 e1, .slice q1 n1 c1] #[.int .i64 k1, .int .i64 k2, .int .i64 k3, .slice np' m4 nc', .slice vp' m5 vc', .int .i64 k6, .int .i64 k7, .int .i64 k8, .slice wq' m9 wc'] T → PG w ((W.setCells b5 0 [.int .i64 fo, .int .i64 e1, .slice q1 n1 c1]).setCells b7 0 (RpL fo e1 R1)) b5 b7 fo e1 q1 n1 c1 R1 := fun W h => h.pg.next (HTT.out _ h.t).2.2 HL8.out
            go_wp2_with fail
            refine wp_region_st (pl26 #[.int .i64 fo, .int .i64 e1, .slice q1 n1 c1] (RpL fo e R) #[.int .i64 k1, .int .i64 k2, .int .i64 k3, .slice np' m4 nc', .slice vp' m5 vc', .int .i64 k6, .int .i64 k7, .int .i64 k8, .slice wq' m9 wc'] (RpL fo e1 R1)) (fun _ _ => True) (S26 (fun u => IP w u b5 b7 b9 b10 b12 fo e q nn c R #[.int .i64 a1, .int .i64 a2, .int .i64 a3, .slice np l4 nc, .slice vp l5 vc, .int .i64 a6, .int .i64 a7, .int .i64 a8, .slice wq l9 wc] #[.int .i64 fo, .int .i64 e1, .slice q1 n1 c1] #[.int .i64 k1, .int .i64 k2, .int .i64 k3, .slice np' m4 nc', .slice vp' m5 vc', .int .i64 k6, .int .i64 k7, .int .i64 k8, .slice wq' m9 wc'] T) (fun u => ∃ v, IP w v b5 b7 b9 b10 b12 fo e q nn c R #[.int .i64 a1, .int .i64 a2, .int .i64 a3, .slice np l4 nc, .slice vp l5 vc, .int .i64 a6, .int .i64 a7, .int .i64 a8, .slice wq l9 wc] #[.int .i64 fo, .int .i64 e1, .slice q1 n1 c1] #[.int .i64 k1, .int .i64 k2, .int .i64 k3, .slice np' m4 nc', .slice vp' m5 vc', .int .i64 k6, .int .i64 k7, .int .i64 k8, .slice wq' m9 wc'] T ∧ u = v.setCells b5 0 [.int .i64 fo, .int .i64 e1, .slice q1 n1 c1]) (fun u => PG w u b5 b7 fo e1 q1 n1 c1 R1)) (by kernel_rfl) trivial (fun _ _ _ _ _ => trivial) (pl26_kept #[.int .i64 fo, .int .i64 e1, .slice q1 n1 c1] (RpL fo e R) #[.int .i64 k1, .int .i64 k2, .int .i64 k3, .slice np' m4 nc', .slice vp' m5 vc', .int .i64 k6, .int .i64 k7, .int .i64 k8, .slice wq' m9 wc'] (RpL fo e1 R1)) (by kernel_rfl) (S26.start (I10.out.step ((only_drew [] w10).below (Nat.le_refl _) (by simp)))) ?_ ?_
            · intro i o a' w' f hi inv hS hfi hfw hpre
              have hlt6 : i < 6 := (Array.getElem?_eq_some_iff.1 hi).1
              obtain rfl|rfl|rfl|rfl|rfl|rfl : i = 0 ∨ i = 1 ∨ i = 2 ∨ i = 3 ∨ i = 4 ∨ i = 5 := by omega
              · obtain rfl := Option.some.inj hi
                have hR := (hS.early (.inl rfl) hfi).2
                have h0 : a'.tmps.getD 10 undef = .pointer (some ⟨b10, 0, none⟩) := by rw [inv.old 10 (notDst_spec (by kernel_rfl))]; rfl
                exact wpOp_value _ rfl rfl (load_run 26 10 b10 0 _ rfl h0 (ld26 ⟨hR.r10, rfl⟩)) ⟨trivial, hS.load (.inl rfl) hfi, _, rfl, rfl⟩
              · obtain rfl := Option.some.inj hi
                have hR := (hS.early (.inr (.inl rfl)) hfi).2
                have h0 : a'.tmps.getD 7 undef = .pointer (some ⟨b7, 0, none⟩) := by rw [inv.old 7 (notDst_spec (by kernel_rfl))]; rfl
                exact wpOp_value _ rfl rfl (load_run 32 7 b7 0 _ rfl h0 (ld32 hR.pg.pol)) ⟨trivial, hS.load (.inr (.inl rfl)) hfi, _, rfl, rfl⟩
              · obtain rfl := Option.some.inj hi
                have hR := (hS.early (.inr (.inr (.inl rfl))) hfi).2
                have h0 : a'.tmps.getD 12 undef = .pointer (some ⟨b12, 0, none⟩) := by rw [inv.old 12 (notDst_spec (by kernel_rfl))]; rfl
                exact wpOp_value _ rfl rfl (load_run 43 12 b12 0 _ rfl h0 (ld43 ⟨hR.r12, rfl⟩)) ⟨trivial, hS.load (.inr (.inr rfl)) hfi, _, rfl, rfl⟩
              · obtain rfl := Option.some.inj hi
                have hR := (hS.early (.inr (.inr (.inr rfl))) hfi).2
                have h0 : a'.tmps.getD 93 undef = _ := pre_of hpre 1 93 (by kernel_rfl) (by kernel_rfl)
                have h1 : a'.tmps.getD 94 undef = _ := pre_of hpre 2 94 (by kernel_rfl) (by kernel_rfl)
                refine wpOp_call 19 #[a'.tmps.getD 93 undef, a'.tmps.getD 94 undef] rfl rfl (by kernel_rfl) ?_
                rw [h0, h1]
                exact (HC19 w' hR).mono (by rintro z u ⟨rfl, hu⟩; exact ⟨_, rfl, trivial, hS.call hfi (been_of hfw 1 (by kernel_rfl)) (been_of hfw 2 (by kernel_rfl)) hu, _, rfl, rfl⟩)
              · obtain rfl := Option.some.inj hi
                have hR := hS.2.2.2.1 hfi
                have h0 : a'.tmps.getD 5 undef = .pointer (some ⟨b5, 0, none⟩) := by rw [inv.old 5 (notDst_spec (by kernel_rfl))]; rfl
                have h1 : a'.tmps.getD 92 undef = _ := pre_of hpre 0 92 (by kernel_rfl) (by kernel_rfl)
                exact wpOp_store 26 (.tmp 5) (.tmp 92) b5 0 #[.int .i64 fo, .int .i64 e1, .slice q1 n1 c1] rfl rfl rfl h0 h1 (there_of_row hR.pg.box 3 (by simp)) (by kernel_rfl) (by simp [Value.oneCell']) ⟨trivial, hS.sto1 hfi (been_of hfw 0 (by kernel_rfl)) (been_of hfw 3 (by kernel_rfl)) ⟨w', hR, rfl⟩, undef, rfl, trivial⟩
              · obtain rfl := Option.some.inj hi
                obtain ⟨v, hv, rfl⟩ := hS.2.2.2.2.1 (been_of hfw 4 (by kernel_rfl)) hfi
                have h0 : a'.tmps.getD 7 undef = .pointer (some ⟨b7, 0, none⟩) := by rw [inv.old 7 (notDst_spec (by kernel_rfl))]; rfl
                have h1 : a'.tmps.getD 95 undef = _ := pre_of hpre 3 95 (by kernel_rfl) (by kernel_rfl)
                have hsz : (RpL fo e1 R1).toArray.size = 19 := by rw [List.size_toArray, rpl_length]
                exact wpOp_store 32 (.tmp 7) (.tmp 95) b7 0 (RpL fo e1 R1).toArray rfl rfl rfl h0 h1 (by rw [hsz]; exact (hv.pg.pol.only (only_cells b5 _ 0 v) (by simpa using Ne.symm hv.pg.ne)).there) (by rw [i32, hsz]) (all_oneCell_toArray rpl_one) ⟨trivial, hS.sto2 (been_of hfw 4 (by kernel_rfl)) (HNX v hv), undef, rfl, trivial⟩
            · intro a' wB f inv hS hall hd
              have G11 : Hid (PG w wB b5 b7 fo e1 q1 n1 c1 R1) := hS.2.2.2.2.2 (hall 5 (by decide))
              have hdf : a'.defers = [] := inv.defers
              have hsz : a'.tmps.size = 101 := inv.size
              have ef := frame3_26 hsz (fun t ht => inv.old t (dstsIn_spec (ts := [92, 93, 94, 95]) (by kernel_rfl) t ht))
              clear inv hd hsz hall hS HC19 HNX I10
              obtain ⟨tmps, defers⟩ := a'
              obtain rfl : defers = [] := hdf
              replace ef : tmps = _ := ef
              generalize tmps.getD 92 undef = x92 at *
              generalize tmps.getD 93 undef = x93 at *
              generalize tmps.getD 94 undef = x94 at *
              generalize tmps.getD 95 undef = x95 at *
              simp only [Array.getD_eq_getD_getElem?, List.getElem?_toArray, List.getElem?_cons_succ, List.getElem?_cons_zero, Option.getD_some] at ef
              subst ef
              obtain ⟨g0, g1, g2⟩ := G11.out.cells
              go_wp2_with (first | with_reducible (refine stop_load 32 ?_))
              refine Stop.go ?_
              refine law_load b7 0 (RpL fo e1 R1) dd rfl G11.out.pol.row hd1 hd2 (by rw [i32, rpl_length]) ?_
              have H12 := HSM0.out wB G11.out
              go_wp2_with fail
              refine H12.mono ?_
              rintro z wC ⟨rfl, BC⟩
              have G12 : Hid (PG w wC b5 b7 fo e1 q1 n1 c1 R1) := G11.out.step BC
              clear H12 BC G11 g0 g1 g2
              go_wp2_with fail
              refine ⟨⟨j + 1, e1, q1, n1, c1, R1, by omega, by simp, G12⟩, ?_⟩
              simp only [intOf]
              omega
          · clear HL8
            have H14 : Calls Try.prog 14 #[.agg #[.int .i64 fo, .int .i64 e, .slice q nn c], .agg #[.int .i64 a1, .int .i64 a2, .int .i64 a3, .slice np l4 nc, .slice vp l5 vc, .int .i64 a6, .int .i64 a7, .int .i64 a8, .slice wq l9 wc]] w3 fun z u => z = .returned (.tuple #[.agg #[.int .i64 0, .int .i64 0, .slice none 0 0], .int .i64 wt]) ∧ Hid (Below w3.heap.size w3 u) := by
              have h := G3.out.told.ano E0 _ (HEN3.out _ (Below.refl _ _)) (by rw [HWT.out]; exact hw0)
              rw [HWT.out] at h
              exact h
            have hwb : (wt != 0) = true := by simpa using hw0
            have hwc : (wt != wt) = false := by simp
            clear hw0
            go_wp2_with fail
            refine H14.mono ?_
            rintro z w5 ⟨rfl, B5⟩
            have HB6 : Hid (Below w3.heap.size w3 (w5.alloc (.cells #[.int .i64 0, .int .i64 0, .slice none 0 0] 26))) := B5.out.trans (bel_alloc B5.out.size _)
            have HQ6 : Hid ((w5.alloc (.cells #[.int .i64 0, .int .i64 0, .slice none 0 0] 26)).heap[w5.heap.size]? = some (.cells #[.int .i64 0, .int .i64 0, .slice none 0 0] 26 (0, 0))) := heap_alloc_new w5 _
            clear H14 B5 g0 g1 g2 d0 d1 d2 d3 d4 d5 d6 d7 d8
            obtain ⟨d0, d1, d2, d3, d4, d5, d6, d7, d8⟩ := row9c ((HB6.out.block _ (Array.getElem?_eq_some_iff.1 R3.out).1).trans R3.out)
            have H15 := HC15.out _ HB6.out
            go_wp2_with fail
            refine H15.mono ?_
            rintro z w7 ⟨k1, k2, k3, np', m4, nc', vp', m5, vc', k6, k7, k8, wq', m9, wc', rfl, B7, EN7⟩
            obtain ⟨T, HT⟩ : ∃ T : World → Prop, Hid ((fun u => EnIs u (.agg #[.int .i64 a1, .int .i64 a2, .int .i64 a3, .slice np l4 nc, .slice vp l5 vc, .int .i64 a6, .int .i64 a7, .int .i64 a8, .slice wq l9 wc]) E0 ∧ EnIs u (.agg #[.int .i64 k1, .int .i64 k2, .int .i64 k3, .slice np' m4 nc', .slice vp' m5 vc', .int .i64 k6, .int .i64 k7, .int .i64 k8, .slice wq' m9 wc']) E0 ∧ True) = T) := ⟨_, rfl⟩
            have HTT : Hid (∀ u, T u → EnIs u (.agg #[.int .i64 a1, .int .i64 a2, .int .i64 a3, .slice np l4 nc, .slice vp l5 vc, .int .i64 a6, .int .i64 a7, .int .i64 a8, .slice wq l9 wc]) E0 ∧ EnIs u (.agg #[.int .i64 k1, .int .i64 k2, .int .i64 k3, .slice np' m4 nc', .slice vp' m5 vc', .int .i64 k6, .int .i64 k7, .int .i64 k8, .slice wq' m9 wc']) E0 ∧ True) := by rw [← HT.out]; exact fun _ h => h
            have B36 : Below w3.heap.size w3 w7 := HB6.out.trans (bel_le B7 HB6.out.size)
            have BA : Below w7.heap.size w7 (w7.alloc (.cells #[.int .i64 k1, .int .i64 k2, .int .i64 k3, .slice np' m4 nc', .slice vp' m5 vc', .int .i64 k6, .int .i64 k7, .int .i64 k8, .slice wq' m9 wc'] 43)) := bel_alloc (Nat.le_refl _) _
            have B38 : Below w3.heap.size w3 (w7.alloc (.cells #[.int .i64 k1, .int .i64 k2, .int .i64 k3, .slice np' m4 nc', .slice vp' m5 vc', .int .i64 k6, .int .i64 k7, .int .i64 k8, .slice wq' m9 wc'] 43)) := B36.trans (bel_le BA B36.size)
            have B68 : Below (w5.alloc (.cells #[.int .i64 0, .int .i64 0, .slice none 0 0] 26)).heap.size (w5.alloc (.cells #[.int .i64 0, .int .i64 0, .slice none 0 0] 26)) (w7.alloc (.cells #[.int .i64 k1, .int .i64 k2, .int .i64 k3, .slice np' m4 nc', .slice vp' m5 vc', .int .i64 k6, .int .i64 k7, .int .i64 k8, .slice wq' m9 wc'] 43)) := B7.trans (bel_le BA B7.size)
            have I8 : Hid (IP w (w7.alloc (.cells #[.int .i64 k1, .int .i64 k2, .int .i64 k3, .slice np' m4 nc', .slice vp' m5 vc', .int .i64 k6, .int .i64 k7, .int .i64 k8, .slice wq' m9 wc'] 43)) b5 b7 b9 w5.heap.size w7.heap.size fo e q nn c R #[.int .i64 a1, .int .i64 a2, .int .i64 a3, .slice np l4 nc, .slice vp l5 vc, .int .i64 a6, .int .i64 a7, .int .i64 a8, .slice wq l9 wc] #[.int .i64 0, .int .i64 0, .slice none 0 0] #[.int .i64 k1, .int .i64 k2, .int .i64 k3, .slice np' m4 nc', .slice vp' m5 vc', .int .i64 k6, .int .i64 k7, .int .i64 k8, .slice wq' m9 wc'] T) :=
              ⟨G3.out.step B38, (B38.block _ (Array.getElem?_eq_some_iff.1 R3.out).1).trans R3.out, (B68.block _ (Array.getElem?_eq_some_iff.1 HQ6.out).1).trans HQ6.out, heap_alloc_new w7 _,
                by rw [← HT.out]; exact ⟨HEN3.out _ B38, EN7.below BA, trivial⟩,
                by rw [← HT.out]; exact fun u u' hb h => ⟨h.1.below hb, h.2.1.below hb, trivial⟩⟩
            clear H15 B36 BA B38 B68 B7 EN7 HQ6 HB6 HC15 HEN3 G3 R3 HT d0 d1 d2 d3 d4 d5 d6 d7 d8
            have HC16 : ∀ W, Hid (IP w W b5 b7 b9 w5.heap.size w7.heap.size fo e q nn c R #[.int .i64 a1, .int .i64 a2, .int .i64 a3, .slice np l4 nc, .slice vp l5 vc, .int .i64 a6, .int .i64 a7, .int .i64 a8, .slice wq l9 wc] #[.int .i64 0, .int .i64 0, .slice none 0 0] #[.int .i64 k1, .int .i64 k2, .int .i64 k3, .slice np' m4 nc', .slice vp' m5 vc', .int .i64 k6, .int .i64 k7, .int .i64 k8, .slice wq' m9 wc'] T) → Calls Try.prog 16 #[.agg #[.int .i64 k1, .int .i64 k2, .int .i64 k3, .slice np' m4 nc', .slice vp' m5 vc', .int .i64 k6, .int .i64 k7, .int .i64 k8, .slice wq' m9 wc']] W fun z u => z = .returned (.bool true) ∧ Hid (IP w u b5 b7 b9 w5.heap.size w7.heap.size fo e q nn c R #[.int .i64 a1, .int .i64 a2, .int .i64 a3, .slice np l4 nc, .slice vp l5 vc, .int .i64 a6, .int .i64 a7, .int .i64 a8, .slice wq l9 wc] #[.int .i64 0, .int .i64 0, .slice none 0 0] #[.int .i64 k1, .int .i64 k2, .int .i64 k3, .slice np' m4 nc', .slice vp' m5 vc', .int .i64 k6, .int .i64 k7, .int .i64 k8, .slice wq' m9 wc'] T) := fun W h => by
              have hc := rRight_any E0 _ W (HTT.out _ h.out.t).2.1
              rw [HRT.out] at hc
              exact hc.mono (by rintro z u ⟨rfl, hb⟩; exact ⟨rfl, h.out.step hb⟩)
            have HC18 : ∀ W, Hid (IP w W b5 b7 b9 w5.heap.size w7.heap.size fo e q nn c R #[.int .i64 a1, .int .i64 a2, .int .i64 a3, .slice np l4 nc, .slice vp l5 vc, .int .i64 a6, .int .i64 a7, .int .i64 a8, .slice wq l9 wc] #[.int .i64 0, .int .i64 0, .slice none 0 0] #[.int .i64 k1, .int .i64 k2, .int .i64 k3, .slice np' m4 nc', .slice vp' m5 vc', .int .i64 k6, .int .i64 k7, .int .i64 k8, .slice wq' m9 wc'] T) → Calls Try.prog 18 #[.agg #[.int .i64 fo, .int .i64 e, .slice q nn c], .agg #[.int .i64 a1, .int .i64 a2, .int .i64 a3, .slice np l4 nc, .slice vp l5 vc, .int .i64 a6, .int .i64 a7, .int .i64 a8, .slice wq l9 wc]] W fun z u => z = .returned (.int .i64 wt) ∧ Hid (IP w u b5 b7 b9 w5.heap.size w7.heap.size fo e q nn c R #[.int .i64 a1, .int .i64 a2, .int .i64 a3, .slice np l4 nc, .slice vp l5 vc, .int .i64 a6, .int .i64 a7, .int .i64 a8, .slice wq l9 wc] #[.int .i64 0, .int .i64 0, .slice none 0 0] #[.int .i64 k1, .int .i64 k2, .int .i64 k3, .slice np' m4 nc', .slice vp' m5 vc', .int .i64 k6, .int .i64 k7, .int .i64 k8, .slice wq' m9 wc'] T) := fun W h => by
              have hc := h.out.pg.told.mayc E0 _ (HTT.out _ h.out.t).1
              rw [HWT.out] at hc
              exact hc.mono (by rintro z u ⟨rfl, hb⟩; exact ⟨rfl, h.out.step hb⟩)
            obtain ⟨f0, f1, f2, f3, f4, f5, f6, f7, f8⟩ := row9c I8.out.r12
            go_wp2_with fail
            refine (HC16 _ I8).mono ?_
            rintro z w9 ⟨rfl, I9⟩
            clear I8 f0 f1 f2 f3 f4 f5 f6 f7 f8 HC16
            generalize w5.heap.size = b10 at *
            generalize w7.heap.size = b12 at *
            have HC17 : ∀ W, Hid (IP w W b5 b7 b9 b10 b12 fo e q nn c R #[.int .i64 a1, .int .i64 a2, .int .i64 a3, .slice np l4 nc, .slice vp l5 vc, .int .i64 a6, .int .i64 a7, .int .i64 a8, .slice wq l9 wc] #[.int .i64 0, .int .i64 0, .slice none 0 0] #[.int .i64 k1, .int .i64 k2, .int .i64 k3, .slice np' m4 nc', .slice vp' m5 vc', .int .i64 k6, .int .i64 k7, .int .i64 k8, .slice wq' m9 wc'] T) → Calls Try.prog 17 #[.agg (RpL fo e R).toArray, .agg #[.int .i64 k1, .int .i64 k2, .int .i64 k3, .slice np' m4 nc', .slice vp' m5 vc', .int .i64 k6, .int .i64 k7, .int .i64 k8, .slice wq' m9 wc']] W fun z u => z = .returned (.int .i64 wt) ∧ Hid (IP w u b5 b7 b9 b10 b12 fo e q nn c R #[.int .i64 a1, .int .i64 a2, .int .i64 a3, .slice np l4 nc, .slice vp l5 vc, .int .i64 a6, .int .i64 a7, .int .i64 a8, .slice wq l9 wc] #[.int .i64 0, .int .i64 0, .slice none 0 0] #[.int .i64 k1, .int .i64 k2, .int .i64 k3, .slice np' m4 nc', .slice vp' m5 vc', .int .i64 k6, .int .i64 k7, .int .i64 k8, .slice wq' m9 wc'] T) := fun W h => by
              have hw := (right_iff E0).1 HRT.out
              have hbd := h.out.pg.told.bnd
              have hc := rMay_any fo e R E0 _ W (HTT.out _ h.out.t).2.1 (by omega) hbd.1 hbd.2 (by have := HSB.out; omega)
              have hwt := HWT.out
              unfold want at hwt
              rw [if_pos HRT.out] at hwt
              rw [hwt] at hc
              exact hc.mono (by rintro z u ⟨rfl, hb⟩; exact ⟨rfl, h.out.step hb⟩)
            obtain ⟨f0, f1, f2, f3, f4, f5, f6, f7, f8⟩ := row9c I9.out.r12
            go_wp2_with (first | with_reducible (refine stop_load 32 ?_))
            refine Stop.go ?_
            refine law_load b7 0 (RpL fo e R) dd rfl I9.out.pg.pol.row hd1 hd2 (by rw [i32, rpl_length]) ?_
            go_wp2_with fail
            refine (HC17 _ I9).mono ?_
            rintro z wA ⟨rfl, IA⟩
            clear HC17 I9 f0 f1 f2 f3 f4 f5 f6 f7 f8
            obtain ⟨g0, g1, g2⟩ := IA.out.pg.cells
            obtain ⟨d0, d1, d2, d3, d4, d5, d6, d7, d8⟩ := row9c IA.out.r9
            go_wp2_with fail
            refine (HC18 _ IA).mono ?_
            rintro z w10 ⟨rfl, I10⟩
            clear HC18 IA g0 g1 g2 d0 d1 d2 d3 d4 d5 d6 d7 d8
            obtain ⟨g0, g1, g2⟩ := I10.out.pg.cells
            obtain ⟨u0, u1, u2⟩ := row3c I10.out.r10
            go_wp2_with (first | with_reducible (refine stop_load_g 32 ?_))
            refine Stop.go ?_
            refine unguard rfl ?_
            refine law_load b7 0 (RpL fo e R) dd rfl I10.out.pg.pol.row hd1 hd2 (by rw [i32, rpl_length]) ?_
            have H12 := HSM0.out w10 I10.out.pg
            go_wp2_with fail
            refine H12.mono ?_
            rintro z w11 ⟨rfl, B11⟩
            have G11 : Hid (PG w w11 b5 b7 fo e q nn c R) := I10.out.pg.step B11
            clear H12 B11 I10 g0 g1 g2 u0 u1 u2
            go_wp2_with fail
            refine ⟨⟨j + 1, e, q, nn, c, R, by omega, by simp, G11⟩, ?_⟩
            simp only [intOf]
            omega
    · obtain rfl : j = n := by omega
      have j1 : ¬ (j : Int) < (j : Int) := by omega
      have HBW : Hid (Below w.heap.size w wr) := GJ.out.bel
      go_wp2_with fail
      go_ret
      exact ⟨rfl, HBW.out⟩
theorem plays_any (fo : Int) (a1 : Option Addr) (n c1 : Nat) (w : World) (h1 : n ≤ 9223372036854775807 ∧ ∃ es : List En, es.length = n ∧ EnRow w a1 es) : Calls Try.prog 3 #[.int .i64 fo, .slice a1 n c1] w fun x w' => x = .returned (.bool true) ∧ Below w.heap.size w w' := by
  by_cases h : 40 < n
  · exact pl_many w fo a1 n c1 h1.1 h
  · by_cases hf : fo < 1
    · exact pl_low w fo a1 n c1 (by omega) hf
    · by_cases hg : 16 < fo
      · exact pl_high w fo a1 n c1 (by omega) hg
      · obtain ⟨-, es, rfl, hr⟩ := h1
        exact pl_main w fo a1 es c1 hr (by omega) (by omega)
end Go.Proofs.Ytmlnbbggfjgacaa.P10
