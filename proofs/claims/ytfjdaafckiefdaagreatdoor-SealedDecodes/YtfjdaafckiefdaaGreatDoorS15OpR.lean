/- Open: the drawn region that asks the suite for the box's text. -/
import Derived.Test.YtfjdaafckiefdaaGreatDoorS15Open
import Derived.Test.YtfjdaafckiefdaaGreatDoorMgC
namespace Go.Proofs.YtfjdaafckiefdaaGreatDoor.S15
open Go.RowKit C8 E9
open S7 (Fr Kx By)
def TupV (X : Value → World → Prop) (er : Int) (v : Value) (w : World) : Prop := ∃ y, v = .tuple #[y, .int .i64 er] ∧ X y w
def rgO (sp : Value) (kq : Option Addr) (kc : Nat) (R : Array Value) (pb : Nat) (bv : Value) (nn ff : List Nat) (X : Value → World → Prop) (er : Int) : Nat → Value → World → Prop
  | 0 => IsV sp
  | 1 => IsV (.slice kq 32 kc)
  | 2 => IsV (.agg R)
  | 3 => SrcV [] nn
  | 4 => IsV (.agg R)
  | 5 => SrcV [] ff
  | 6 => IsV (.pointer (some ⟨pb, 4, none⟩))
  | 7 => IsV bv
  | 8 => TupV X er
  | 9 => TupV X er
  | 10 => X
  | 11 => IsV (.int .i64 er)
  | 12 => X
  | 13 => IsV (.int .i64 er)
  | _ => fun _ _ => True
theorem rgO_kept (sp : Value) (kq : Option Addr) (kc : Nat) (R : Array Value) (pb : Nat) (bv : Value) (nn ff : List Nat) (X : Value → World → Prop) (er : Int) (hX : ∀ v w w', X v w → Only [] w w' → X v w') : ∀ i v w w', rgO sp kq kc R pb bv nn ff X er i v w → Only [] w w' → rgO sp kq kc R pb bv nn ff X er i v w'
  | 0, _, _, _, h, _ => h
  | 1, _, _, _, h, _ => h
  | 2, _, _, _, h, _ => h
  | 3, _, _, _, h, ho => SrcV.kept h ho
  | 4, _, _, _, h, _ => h
  | 5, _, _, _, h, ho => SrcV.kept h ho
  | 6, _, _, _, h, _ => h
  | 7, _, _, _, h, _ => h
  | 8, _, _, _, h, ho => by obtain ⟨y, h1, h2⟩ := h; exact ⟨y, h1, hX _ _ _ h2 ho⟩
  | 9, _, _, _, h, ho => by obtain ⟨y, h1, h2⟩ := h; exact ⟨y, h1, hX _ _ _ h2 ho⟩
  | 10, _, _, _, h, ho => hX _ _ _ h ho
  | 11, _, _, _, h, _ => h
  | 12, _, _, _, h, ho => hX _ _ _ h ho
  | 13, _, _, _, h, _ => h
  | _ + 14, _, _, _, _, _ => trivial
theorem ext_run {o : Oper} {a' : Act} {w' : World} (t : Tmp) (k : Nat) (vs : Array Value) (y : Value) (ho : o.op = .extract (.tmp t) k) (h0 : a'.tmps.getD t undef = .tuple vs) (hy : vs[k]? = some y) : (execOp a'.eval o).run Tryz.prog w' = .ok (.value y) w' := by
  have he : a'.eval (.tmp t) = .tuple vs := h0
  unfold execOp
  simp only [ho]
  rw [he]
  simp [go_sem, hy]
theorem fa24_4 (b : Nat) (w : World) : (Instr.fieldAt 24 (.pointer (some ⟨b, 0, none⟩)) 4).run Tryz.prog w = .ok (.pointer (some ⟨b, 4, none⟩)) w := by simp [go_sem]
theorem ld24r {b : Nat} {cs : Array Value} {t : TypeId} {fr : Nat × Nat} {w : World} (h : w.heap[b]? = some (.cells cs t fr) ∧ cs.size = 5) : (Instr.loadAt 24 (.pointer (some ⟨b, 0, none⟩))).run Tryz.prog w = .ok (.agg cs) w := by
  simp only [Instr.loadAt, Instr.sureAddr, Sem.run_bind, Sem.run_pure, Result.andThen_ok, run_loadVar_row (P := Tryz.prog) w b t 24 cs fr _ h.1 Tryz.underlying24 rfl (by rw [h.2]; kernel_rfl)]
theorem frameO {A F : Array Value} (hs : A.size = 74) (h : ∀ t, [10, 11, 23, 24, 25, 26, 27, 28, 29, 30, 31, 32, 33, 34].contains t = false → A.getD t undef = F.getD t undef) : A = #[F.getD 0 undef, F.getD 1 undef, F.getD 2 undef, F.getD 3 undef, F.getD 4 undef, F.getD 5 undef, F.getD 6 undef, F.getD 7 undef, F.getD 8 undef, F.getD 9 undef, A.getD 10 undef, A.getD 11 undef, F.getD 12 undef, F.getD 13 undef, F.getD 14 undef, F.getD 15 undef, F.getD 16 undef, F.getD 17 undef, F.getD 18 undef, F.getD 19 undef, F.getD 20 undef, F.getD 21 undef, F.getD 22 undef, A.getD 23 undef, A.getD 24 undef, A.getD 25 undef, A.getD 26 undef, A.getD 27 undef, A.getD 28 undef, A.getD 29 undef, A.getD 30 undef, A.getD 31 undef, A.getD 32 undef, A.getD 33 undef, A.getD 34 undef, F.getD 35 undef, F.getD 36 undef, F.getD 37 undef, F.getD 38 undef, F.getD 39 undef, F.getD 40 undef, F.getD 41 undef, F.getD 42 undef, F.getD 43 undef, F.getD 44 undef, F.getD 45 undef, F.getD 46 undef, F.getD 47 undef, F.getD 48 undef, F.getD 49 undef, F.getD 50 undef, F.getD 51 undef, F.getD 52 undef, F.getD 53 undef, F.getD 54 undef, F.getD 55 undef, F.getD 56 undef, F.getD 57 undef, F.getD 58 undef, F.getD 59 undef, F.getD 60 undef, F.getD 61 undef, F.getD 62 undef, F.getD 63 undef, F.getD 64 undef, F.getD 65 undef, F.getD 66 undef, F.getD 67 undef, F.getD 68 undef, F.getD 69 undef, F.getD 70 undef, F.getD 71 undef, F.getD 72 undef, F.getD 73 undef] := by
  rw [← h 0 (by decide), ← h 1 (by decide), ← h 2 (by decide), ← h 3 (by decide), ← h 4 (by decide), ← h 5 (by decide), ← h 6 (by decide), ← h 7 (by decide), ← h 8 (by decide), ← h 9 (by decide), ← h 12 (by decide), ← h 13 (by decide), ← h 14 (by decide), ← h 15 (by decide), ← h 16 (by decide), ← h 17 (by decide), ← h 18 (by decide), ← h 19 (by decide), ← h 20 (by decide), ← h 21 (by decide), ← h 22 (by decide), ← h 35 (by decide), ← h 36 (by decide), ← h 37 (by decide), ← h 38 (by decide), ← h 39 (by decide), ← h 40 (by decide), ← h 41 (by decide), ← h 42 (by decide), ← h 43 (by decide), ← h 44 (by decide), ← h 45 (by decide), ← h 46 (by decide), ← h 47 (by decide), ← h 48 (by decide), ← h 49 (by decide), ← h 50 (by decide), ← h 51 (by decide), ← h 52 (by decide), ← h 53 (by decide), ← h 54 (by decide), ← h 55 (by decide), ← h 56 (by decide), ← h 57 (by decide), ← h 58 (by decide), ← h 59 (by decide), ← h 60 (by decide), ← h 61 (by decide), ← h 62 (by decide), ← h 63 (by decide), ← h 64 (by decide), ← h 65 (by decide), ← h 66 (by decide), ← h 67 (by decide), ← h 68 (by decide), ← h 69 (by decide), ← h 70 (by decide), ← h 71 (by decide), ← h 72 (by decide), ← h 73 (by decide)]
  refine Array.ext (by simp [hs]) (fun i h1 h2 => ?_)
  have e : A[i] = A.getD i undef := by simp [h1]
  rw [e]
  rw [hs] at h1
  clear e h hs
  match i, h1 with
  | 0, _ => rfl
  | 1, _ => rfl
  | 2, _ => rfl
  | 3, _ => rfl
  | 4, _ => rfl
  | 5, _ => rfl
  | 6, _ => rfl
  | 7, _ => rfl
  | 8, _ => rfl
  | 9, _ => rfl
  | 10, _ => rfl
  | 11, _ => rfl
  | 12, _ => rfl
  | 13, _ => rfl
  | 14, _ => rfl
  | 15, _ => rfl
  | 16, _ => rfl
  | 17, _ => rfl
  | 18, _ => rfl
  | 19, _ => rfl
  | 20, _ => rfl
  | 21, _ => rfl
  | 22, _ => rfl
  | 23, _ => rfl
  | 24, _ => rfl
  | 25, _ => rfl
  | 26, _ => rfl
  | 27, _ => rfl
  | 28, _ => rfl
  | 29, _ => rfl
  | 30, _ => rfl
  | 31, _ => rfl
  | 32, _ => rfl
  | 33, _ => rfl
  | 34, _ => rfl
  | 35, _ => rfl
  | 36, _ => rfl
  | 37, _ => rfl
  | 38, _ => rfl
  | 39, _ => rfl
  | 40, _ => rfl
  | 41, _ => rfl
  | 42, _ => rfl
  | 43, _ => rfl
  | 44, _ => rfl
  | 45, _ => rfl
  | 46, _ => rfl
  | 47, _ => rfl
  | 48, _ => rfl
  | 49, _ => rfl
  | 50, _ => rfl
  | 51, _ => rfl
  | 52, _ => rfl
  | 53, _ => rfl
  | 54, _ => rfl
  | 55, _ => rfl
  | 56, _ => rfl
  | 57, _ => rfl
  | 58, _ => rfl
  | 59, _ => rfl
  | 60, _ => rfl
  | 61, _ => rfl
  | 62, _ => rfl
  | 63, _ => rfl
  | 64, _ => rfl
  | 65, _ => rfl
  | 66, _ => rfl
  | 67, _ => rfl
  | 68, _ => rfl
  | 69, _ => rfl
  | 70, _ => rfl
  | 71, _ => rfl
  | 72, _ => rfl
  | 73, _ => rfl
  | _ + 74, h => exact absurd h (by omega)
end Go.Proofs.YtfjdaafckiefdaaGreatDoor.S15
