/- The tables of the regions of PolicyOwn. -/
import Derived.Test.YtmlnbbggfjgacaaP10Fo1
namespace Go.Proofs.Ytmlnbbggfjgacaa.P10
open Go.RowKit C8 E9
theorem addN_run {o : Oper} {a' : Act} {w' : World} (s t : Tmp) (x y : Int) (ho : o.op = .binOp .add 3 (.tmp s) (.tmp t) 3) (h0 : a'.tmps.getD s undef = .int .i64 x) (h1 : a'.tmps.getD t undef = .int .i64 y) : (execOp a'.eval o).run Try.prog w' = .ok (.value (.int .i64 (IntKind.i64.wrap (x + y)))) w' := by
  have he : a'.eval (.tmp s) = .int .i64 x := h0
  have hf : a'.eval (.tmp t) = .int .i64 y := h1
  unfold execOp
  simp only [ho]
  rw [he, hf]
  simp [go_sem]
theorem Told4.isRight {B : Nat} {w : World} {f e : Int} {q : Option Addr} {n c : Nat} {R : Int → Int} (h : Told4 B w f e q n c R) : Calls Try.prog 20 #[.agg #[.int .i64 f, .int .i64 e, .slice q n c]] w fun z u => z = .returned (.bool true) ∧ Below w.heap.size w u := by
  obtain ⟨p, h1, h2, h3, h4, h5⟩ := h.is
  have := pRight_any p _ w h1
  rw [h2] at this
  exact this
/-- Members whose rights may be set. -/
def RowsOf (B D : Nat) (w : World) (q : Option Addr) (n : Nat) : Prop := ∀ j, j < n → ∃ b o, q = some ⟨b, o, none⟩ ∧ B ≤ b ∧ b < D ∧ (∃ m, w.cell? ⟨b, o + j * 2 + 1, none⟩ = some (.int .i64 m)) ∧ w.frozen? ⟨b, o + j * 2 + 1, none⟩ = false
theorem RowsOf.below {B D : Nat} {w w' : World} {q : Option Addr} {n : Nat} (h : RowsOf B D w q n) (hD : D ≤ w.heap.size) (hb : Below w.heap.size w w') : RowsOf B D w' q n := fun j hj => by
  obtain ⟨b, o, h1, h2, h3, ⟨m, h4⟩, h5⟩ := h j hj
  have hblk := hb.block b (by omega)
  refine ⟨b, o, h1, h2, h3, ⟨m, (hb.cell (p := ⟨b, o + j * 2 + 1, none⟩) (by simpa using (by omega : b < w.heap.size))).trans h4⟩, ?_⟩
  unfold World.frozen? at h5 ⊢
  simpa [hblk] using h5
theorem some_set {w : World} {a : Addr} (h : ∃ m, w.cell? a = some (.int .i64 m)) (b : Addr) (x : Int) : ∃ m, (w.setCell b (.int .i64 x)).cell? a = some (.int .i64 m) := by
  rcases h with ⟨m, hm⟩
  rcases Classical.em (b = a) with rfl | e
  · exact ⟨x, World.cell?_setCell_same _ _ _ hm⟩
  · exact ⟨m, by rw [World.cell?_setCell_other _ _ _ _ e, hm]⟩
theorem RowsOf.set {B D : Nat} {w : World} {q : Option Addr} {n : Nat} (h : RowsOf B D w q n) (a : Addr) (x : Int) : RowsOf B D (w.setCell a (.int .i64 x)) q n := fun j hj => by
  obtain ⟨b, o, h1, h2, h3, h4, h5⟩ := h j hj
  exact ⟨b, o, h1, h2, h3, some_set h4 _ _, by simpa using h5⟩
theorem MbOwn.rows {B : Nat} {w : World} {q : Option Addr} {n c : Nat} {ms : List (Int × Int)} (h : MbOwn B w (.slice q n c) ms) : RowsOf B w.heap.size w q n := fun j hj => by
  obtain ⟨q', c', hv, hh⟩ := h
  cases hv
  rcases hh with rfl | ⟨g, rfl, hB, hg, hd⟩
  · cases hj
  · have c1 := hd.cell (i := j) (c := 1) (by simpa using hj) (by omega)
    have e : (ms.toArray)[j]! = ms[j] := by rw [getElem!_pos _ _ (by simpa using hj)]; simp
    rw [e] at c1
    exact ⟨g, 0, rfl, hB, hg, ⟨ms[j].2, by simpa [encM] using c1.1⟩, by simpa using c1.2⟩
/-- Apply of a right policy, told by the row that it has of its own. -/
def ApRows (w : World) (x : Ending) (w' : World) : Prop :=
  Below w.heap.size w w' ∧ ∃ f2 e2 q2 n2 c2 r2, x = .returned (.tuple #[.agg #[.int .i64 f2, .int .i64 e2, .slice q2 n2 c2], .int .i64 r2]) ∧ n2 ≤ 16 ∧ RowsOf w.heap.size w'.heap.size w' q2 n2
theorem ApTold.rows {e : En} {f ep : Int} {R : Int → Int} {w : World} {x : Ending} {w' : World} (h : ApTold e f ep R w x w') : ApRows w x w' := by
  obtain ⟨hb, ⟨r, hr, rfl⟩ | ⟨e1, q1, n1, c1, rfl, hT, -⟩⟩ := h
  · exact ⟨hb, 0, 0, none, 0, 0, r, rfl, by omega, fun j hj => by cases hj⟩
  · refine ⟨hb, f, e1, q1, n1, c1, 0, rfl, ?_, ?_⟩
    · obtain ⟨p, -, -, rfl, -, h2, -⟩ := hT
      have := mok_len (by decide) (pright_of h2).2.2.1
      omega
    · obtain ⟨p, -, -, rfl, h1, -⟩ := hT
      exact h1.rows
def ow15 (CP : Array Value) (b8 : Nat) (fo wh rf ra sm : Int) : Nat → Value → World → Prop
  | 0 => IsV (.agg CP)
  | 1 => IsV (.int .i64 fo)
  | 2 => IsV (.int .i64 rf)
  | 3 => IsV (.agg CP)
  | 4 => IsV (.pointer (some ⟨b8, 5, none⟩))
  | 5 => IsV (.int .i64 wh)
  | 6 => IsV (.int .i64 ra)
  | 7 => IsV (.int .i64 sm)
  | 8 => IsV (.int .i64 sm)
  | _ => fun _ _ => True
theorem ow15_kept (CP : Array Value) (b8 : Nat) (fo wh rf ra sm : Int) : ∀ i v w w', ow15 CP b8 fo wh rf ra sm i v w → Only [] w w' → ow15 CP b8 fo wh rf ra sm i v w'
  | 0, _, _, _, h, _ => h
  | 1, _, _, _, h, _ => h
  | 2, _, _, _, h, _ => h
  | 3, _, _, _, h, _ => h
  | 4, _, _, _, h, _ => h
  | 5, _, _, _, h, _ => h
  | 6, _, _, _, h, _ => h
  | 7, _, _, _, h, _ => h
  | 8, _, _, _, h, _ => h
  | _ + 9, _, _, _, _, _ => trivial
def ow22 (CQ CP : Array Value) (b8 : Nat) (fo wh rf ra sm : Int) : Nat → Value → World → Prop
  | 0 => IsV (.agg CP)
  | 1 => IsV (.int .i64 fo)
  | 2 => IsV (.int .i64 rf)
  | 3 => IsV (.agg CP)
  | 4 => IsV (.pointer (some ⟨b8, 5, none⟩))
  | 5 => IsV (.int .i64 wh)
  | 6 => IsV (.int .i64 ra)
  | 7 => IsV (.int .i64 sm)
  | 8 => IsV (.int .i64 sm)
  | 9 => IsV (.bool false)
  | 10 => IsV (.bool false)
  | 11 => IsV (.agg CQ)
  | 12 => IsV (.bool true)
  | 13 => IsV (.bool false)
  | 14 => IsV (.bool false)
  | 15 => IsV (.bool false)
  | 16 => IsV (.agg CP)
  | 17 => IsV (.bool true)
  | 18 => IsV (.bool false)
  | 19 => IsV (.bool false)
  | _ => fun _ _ => True
theorem ow22_kept (CQ CP : Array Value) (b8 : Nat) (fo wh rf ra sm : Int) : ∀ i v w w', ow22 CQ CP b8 fo wh rf ra sm i v w → Only [] w w' → ow22 CQ CP b8 fo wh rf ra sm i v w'
  | 0, _, _, _, h, _ => h
  | 1, _, _, _, h, _ => h
  | 2, _, _, _, h, _ => h
  | 3, _, _, _, h, _ => h
  | 4, _, _, _, h, _ => h
  | 5, _, _, _, h, _ => h
  | 6, _, _, _, h, _ => h
  | 7, _, _, _, h, _ => h
  | 8, _, _, _, h, _ => h
  | 9, _, _, _, h, _ => h
  | 10, _, _, _, h, _ => h
  | 11, _, _, _, h, _ => h
  | 12, _, _, _, h, _ => h
  | 13, _, _, _, h, _ => h
  | 14, _, _, _, h, _ => h
  | 15, _, _, _, h, _ => h
  | 16, _, _, _, h, _ => h
  | 17, _, _, _, h, _ => h
  | 18, _, _, _, h, _ => h
  | 19, _, _, _, h, _ => h
  | _ + 20, _, _, _, _, _ => trivial
set_option maxHeartbeats 4000000 in
set_option maxRecDepth 20000 in
theorem frame6_15 {A F : Array Value} (hs : A.size = 92) (h : ∀ t, [11, 44, 45, 46, 47, 48, 49, 50, 51].contains t = false → A.getD t undef = F.getD t undef) : A = #[F.getD 0 undef, F.getD 1 undef, F.getD 2 undef, F.getD 3 undef, F.getD 4 undef, F.getD 5 undef, F.getD 6 undef, F.getD 7 undef, F.getD 8 undef, F.getD 9 undef, F.getD 10 undef, A.getD 11 undef, F.getD 12 undef, F.getD 13 undef, F.getD 14 undef, F.getD 15 undef, F.getD 16 undef, F.getD 17 undef, F.getD 18 undef, F.getD 19 undef, F.getD 20 undef, F.getD 21 undef, F.getD 22 undef, F.getD 23 undef, F.getD 24 undef, F.getD 25 undef, F.getD 26 undef, F.getD 27 undef, F.getD 28 undef, F.getD 29 undef, F.getD 30 undef, F.getD 31 undef, F.getD 32 undef, F.getD 33 undef, F.getD 34 undef, F.getD 35 undef, F.getD 36 undef, F.getD 37 undef, F.getD 38 undef, F.getD 39 undef, F.getD 40 undef, F.getD 41 undef, F.getD 42 undef, F.getD 43 undef, A.getD 44 undef, A.getD 45 undef, A.getD 46 undef, A.getD 47 undef, A.getD 48 undef, A.getD 49 undef, A.getD 50 undef, A.getD 51 undef, F.getD 52 undef, F.getD 53 undef, F.getD 54 undef, F.getD 55 undef, F.getD 56 undef, F.getD 57 undef, F.getD 58 undef, F.getD 59 undef, F.getD 60 undef, F.getD 61 undef, F.getD 62 undef, F.getD 63 undef, F.getD 64 undef, F.getD 65 undef, F.getD 66 undef, F.getD 67 undef, F.getD 68 undef, F.getD 69 undef, F.getD 70 undef, F.getD 71 undef, F.getD 72 undef, F.getD 73 undef, F.getD 74 undef, F.getD 75 undef, F.getD 76 undef, F.getD 77 undef, F.getD 78 undef, F.getD 79 undef, F.getD 80 undef, F.getD 81 undef, F.getD 82 undef, F.getD 83 undef, F.getD 84 undef, F.getD 85 undef, F.getD 86 undef, F.getD 87 undef, F.getD 88 undef, F.getD 89 undef, F.getD 90 undef, F.getD 91 undef] := by
  rw [← h 0 (by decide), ← h 1 (by decide), ← h 2 (by decide), ← h 3 (by decide), ← h 4 (by decide), ← h 5 (by decide), ← h 6 (by decide), ← h 7 (by decide), ← h 8 (by decide), ← h 9 (by decide), ← h 10 (by decide), ← h 12 (by decide), ← h 13 (by decide), ← h 14 (by decide), ← h 15 (by decide), ← h 16 (by decide), ← h 17 (by decide), ← h 18 (by decide), ← h 19 (by decide), ← h 20 (by decide), ← h 21 (by decide), ← h 22 (by decide), ← h 23 (by decide), ← h 24 (by decide), ← h 25 (by decide), ← h 26 (by decide), ← h 27 (by decide), ← h 28 (by decide), ← h 29 (by decide), ← h 30 (by decide), ← h 31 (by decide), ← h 32 (by decide), ← h 33 (by decide), ← h 34 (by decide), ← h 35 (by decide), ← h 36 (by decide), ← h 37 (by decide), ← h 38 (by decide), ← h 39 (by decide), ← h 40 (by decide), ← h 41 (by decide), ← h 42 (by decide), ← h 43 (by decide), ← h 52 (by decide), ← h 53 (by decide), ← h 54 (by decide), ← h 55 (by decide), ← h 56 (by decide), ← h 57 (by decide), ← h 58 (by decide), ← h 59 (by decide), ← h 60 (by decide), ← h 61 (by decide), ← h 62 (by decide), ← h 63 (by decide), ← h 64 (by decide), ← h 65 (by decide), ← h 66 (by decide), ← h 67 (by decide), ← h 68 (by decide), ← h 69 (by decide), ← h 70 (by decide), ← h 71 (by decide), ← h 72 (by decide), ← h 73 (by decide), ← h 74 (by decide), ← h 75 (by decide), ← h 76 (by decide), ← h 77 (by decide), ← h 78 (by decide), ← h 79 (by decide), ← h 80 (by decide), ← h 81 (by decide), ← h 82 (by decide), ← h 83 (by decide), ← h 84 (by decide), ← h 85 (by decide), ← h 86 (by decide), ← h 87 (by decide), ← h 88 (by decide), ← h 89 (by decide), ← h 90 (by decide), ← h 91 (by decide)]
  refine Array.ext (by simp [hs]) (fun i h1 h2 => ?_)
  have e : A[i] = A.getD i undef := by simp [h1]
  rw [e]
  rw [hs] at h1
  clear e h hs
  match i, h1 with
  | 0, _ => rfl
  | 1, _ => rfl
  | 2, _ => rfl
  | 3, _ => rfl
  | 4, _ => rfl
  | 5, _ => rfl
  | 6, _ => rfl
  | 7, _ => rfl
  | 8, _ => rfl
  | 9, _ => rfl
  | 10, _ => rfl
  | 11, _ => rfl
  | 12, _ => rfl
  | 13, _ => rfl
  | 14, _ => rfl
  | 15, _ => rfl
  | 16, _ => rfl
  | 17, _ => rfl
  | 18, _ => rfl
  | 19, _ => rfl
  | 20, _ => rfl
  | 21, _ => rfl
  | 22, _ => rfl
  | 23, _ => rfl
  | 24, _ => rfl
  | 25, _ => rfl
  | 26, _ => rfl
  | 27, _ => rfl
  | 28, _ => rfl
  | 29, _ => rfl
  | 30, _ => rfl
  | 31, _ => rfl
  | 32, _ => rfl
  | 33, _ => rfl
  | 34, _ => rfl
  | 35, _ => rfl
  | 36, _ => rfl
  | 37, _ => rfl
  | 38, _ => rfl
  | 39, _ => rfl
  | 40, _ => rfl
  | 41, _ => rfl
  | 42, _ => rfl
  | 43, _ => rfl
  | 44, _ => rfl
  | 45, _ => rfl
  | 46, _ => rfl
  | 47, _ => rfl
  | 48, _ => rfl
  | 49, _ => rfl
  | 50, _ => rfl
  | 51, _ => rfl
  | 52, _ => rfl
  | 53, _ => rfl
  | 54, _ => rfl
  | 55, _ => rfl
  | 56, _ => rfl
  | 57, _ => rfl
  | 58, _ => rfl
  | 59, _ => rfl
  | 60, _ => rfl
  | 61, _ => rfl
  | 62, _ => rfl
  | 63, _ => rfl
  | 64, _ => rfl
  | 65, _ => rfl
  | 66, _ => rfl
  | 67, _ => rfl
  | 68, _ => rfl
  | 69, _ => rfl
  | 70, _ => rfl
  | 71, _ => rfl
  | 72, _ => rfl
  | 73, _ => rfl
  | 74, _ => rfl
  | 75, _ => rfl
  | 76, _ => rfl
  | 77, _ => rfl
  | 78, _ => rfl
  | 79, _ => rfl
  | 80, _ => rfl
  | 81, _ => rfl
  | 82, _ => rfl
  | 83, _ => rfl
  | 84, _ => rfl
  | 85, _ => rfl
  | 86, _ => rfl
  | 87, _ => rfl
  | 88, _ => rfl
  | 89, _ => rfl
  | 90, _ => rfl
  | 91, _ => rfl
  | _ + 92, h => exact absurd h (by omega)
set_option maxHeartbeats 4000000 in
set_option maxRecDepth 20000 in
theorem frame6_22 {A F : Array Value} (hs : A.size = 92) (h : ∀ t, [70, 71, 72, 73, 74, 75, 76, 77, 78, 79, 80, 81, 82, 83, 84, 85, 86, 87, 88, 89].contains t = false → A.getD t undef = F.getD t undef) : A = #[F.getD 0 undef, F.getD 1 undef, F.getD 2 undef, F.getD 3 undef, F.getD 4 undef, F.getD 5 undef, F.getD 6 undef, F.getD 7 undef, F.getD 8 undef, F.getD 9 undef, F.getD 10 undef, F.getD 11 undef, F.getD 12 undef, F.getD 13 undef, F.getD 14 undef, F.getD 15 undef, F.getD 16 undef, F.getD 17 undef, F.getD 18 undef, F.getD 19 undef, F.getD 20 undef, F.getD 21 undef, F.getD 22 undef, F.getD 23 undef, F.getD 24 undef, F.getD 25 undef, F.getD 26 undef, F.getD 27 undef, F.getD 28 undef, F.getD 29 undef, F.getD 30 undef, F.getD 31 undef, F.getD 32 undef, F.getD 33 undef, F.getD 34 undef, F.getD 35 undef, F.getD 36 undef, F.getD 37 undef, F.getD 38 undef, F.getD 39 undef, F.getD 40 undef, F.getD 41 undef, F.getD 42 undef, F.getD 43 undef, F.getD 44 undef, F.getD 45 undef, F.getD 46 undef, F.getD 47 undef, F.getD 48 undef, F.getD 49 undef, F.getD 50 undef, F.getD 51 undef, F.getD 52 undef, F.getD 53 undef, F.getD 54 undef, F.getD 55 undef, F.getD 56 undef, F.getD 57 undef, F.getD 58 undef, F.getD 59 undef, F.getD 60 undef, F.getD 61 undef, F.getD 62 undef, F.getD 63 undef, F.getD 64 undef, F.getD 65 undef, F.getD 66 undef, F.getD 67 undef, F.getD 68 undef, F.getD 69 undef, A.getD 70 undef, A.getD 71 undef, A.getD 72 undef, A.getD 73 undef, A.getD 74 undef, A.getD 75 undef, A.getD 76 undef, A.getD 77 undef, A.getD 78 undef, A.getD 79 undef, A.getD 80 undef, A.getD 81 undef, A.getD 82 undef, A.getD 83 undef, A.getD 84 undef, A.getD 85 undef, A.getD 86 undef, A.getD 87 undef, A.getD 88 undef, A.getD 89 undef, F.getD 90 undef, F.getD 91 undef] := by
  rw [← h 0 (by decide), ← h 1 (by decide), ← h 2 (by decide), ← h 3 (by decide), ← h 4 (by decide), ← h 5 (by decide), ← h 6 (by decide), ← h 7 (by decide), ← h 8 (by decide), ← h 9 (by decide), ← h 10 (by decide), ← h 11 (by decide), ← h 12 (by decide), ← h 13 (by decide), ← h 14 (by decide), ← h 15 (by decide), ← h 16 (by decide), ← h 17 (by decide), ← h 18 (by decide), ← h 19 (by decide), ← h 20 (by decide), ← h 21 (by decide), ← h 22 (by decide), ← h 23 (by decide), ← h 24 (by decide), ← h 25 (by decide), ← h 26 (by decide), ← h 27 (by decide), ← h 28 (by decide), ← h 29 (by decide), ← h 30 (by decide), ← h 31 (by decide), ← h 32 (by decide), ← h 33 (by decide), ← h 34 (by decide), ← h 35 (by decide), ← h 36 (by decide), ← h 37 (by decide), ← h 38 (by decide), ← h 39 (by decide), ← h 40 (by decide), ← h 41 (by decide), ← h 42 (by decide), ← h 43 (by decide), ← h 44 (by decide), ← h 45 (by decide), ← h 46 (by decide), ← h 47 (by decide), ← h 48 (by decide), ← h 49 (by decide), ← h 50 (by decide), ← h 51 (by decide), ← h 52 (by decide), ← h 53 (by decide), ← h 54 (by decide), ← h 55 (by decide), ← h 56 (by decide), ← h 57 (by decide), ← h 58 (by decide), ← h 59 (by decide), ← h 60 (by decide), ← h 61 (by decide), ← h 62 (by decide), ← h 63 (by decide), ← h 64 (by decide), ← h 65 (by decide), ← h 66 (by decide), ← h 67 (by decide), ← h 68 (by decide), ← h 69 (by decide), ← h 90 (by decide), ← h 91 (by decide)]
  refine Array.ext (by simp [hs]) (fun i h1 h2 => ?_)
  have e : A[i] = A.getD i undef := by simp [h1]
  rw [e]
  rw [hs] at h1
  clear e h hs
  match i, h1 with
  | 0, _ => rfl
  | 1, _ => rfl
  | 2, _ => rfl
  | 3, _ => rfl
  | 4, _ => rfl
  | 5, _ => rfl
  | 6, _ => rfl
  | 7, _ => rfl
  | 8, _ => rfl
  | 9, _ => rfl
  | 10, _ => rfl
  | 11, _ => rfl
  | 12, _ => rfl
  | 13, _ => rfl
  | 14, _ => rfl
  | 15, _ => rfl
  | 16, _ => rfl
  | 17, _ => rfl
  | 18, _ => rfl
  | 19, _ => rfl
  | 20, _ => rfl
  | 21, _ => rfl
  | 22, _ => rfl
  | 23, _ => rfl
  | 24, _ => rfl
  | 25, _ => rfl
  | 26, _ => rfl
  | 27, _ => rfl
  | 28, _ => rfl
  | 29, _ => rfl
  | 30, _ => rfl
  | 31, _ => rfl
  | 32, _ => rfl
  | 33, _ => rfl
  | 34, _ => rfl
  | 35, _ => rfl
  | 36, _ => rfl
  | 37, _ => rfl
  | 38, _ => rfl
  | 39, _ => rfl
  | 40, _ => rfl
  | 41, _ => rfl
  | 42, _ => rfl
  | 43, _ => rfl
  | 44, _ => rfl
  | 45, _ => rfl
  | 46, _ => rfl
  | 47, _ => rfl
  | 48, _ => rfl
  | 49, _ => rfl
  | 50, _ => rfl
  | 51, _ => rfl
  | 52, _ => rfl
  | 53, _ => rfl
  | 54, _ => rfl
  | 55, _ => rfl
  | 56, _ => rfl
  | 57, _ => rfl
  | 58, _ => rfl
  | 59, _ => rfl
  | 60, _ => rfl
  | 61, _ => rfl
  | 62, _ => rfl
  | 63, _ => rfl
  | 64, _ => rfl
  | 65, _ => rfl
  | 66, _ => rfl
  | 67, _ => rfl
  | 68, _ => rfl
  | 69, _ => rfl
  | 70, _ => rfl
  | 71, _ => rfl
  | 72, _ => rfl
  | 73, _ => rfl
  | 74, _ => rfl
  | 75, _ => rfl
  | 76, _ => rfl
  | 77, _ => rfl
  | 78, _ => rfl
  | 79, _ => rfl
  | 80, _ => rfl
  | 81, _ => rfl
  | 82, _ => rfl
  | 83, _ => rfl
  | 84, _ => rfl
  | 85, _ => rfl
  | 86, _ => rfl
  | 87, _ => rfl
  | 88, _ => rfl
  | 89, _ => rfl
  | 90, _ => rfl
  | 91, _ => rfl
  | _ + 92, h => exact absurd h (by omega)
end Go.Proofs.Ytmlnbbggfjgacaa.P10
