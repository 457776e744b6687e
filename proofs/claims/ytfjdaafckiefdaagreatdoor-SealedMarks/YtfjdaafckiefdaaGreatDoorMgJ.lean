/- The tables of the regions of the document's Bytes: the kind 5. -/
import Derived.Test.YtfjdaafckiefdaaGreatDoorMgH
import Derived.Test.YtfjdaafckiefdaaGreatDoorMgN
import Derived.Test.YtfjdaafckiefdaaGreatDoorMgI
namespace Go.Proofs.YtfjdaafckiefdaaGreatDoor.E9
open Go.RowKit C8
theorem lenV_run {o : Oper} {a' : Act} {w' : World} (t : Tmp) (q : Option Addr) (n c : Nat) (ho : o.op = .call { callee := .builtin .len, args := #[.tmp t], argTypes := #[57] }) (h : a'.tmps.getD t undef = .slice q n c) : (execOp a'.eval o).run Tryz.prog w' = .ok (.value (.int .i64 (n : Int))) w' := by
  have he : a'.eval (.tmp t) = .slice q n c := h
  unfold execOp
  simp only [ho]
  generalize a'.eval = r at *
  simp [he, go_sem, resolve, invoke, builtin]
/-- Till the operation n has been, the slot t is as it was; ahead of it the operation 0 has been. -/
def LtS (n t : Nat) (x : Value) (f : Nat → Bool) (a : Act) (_ : World) : Prop := (f n = true → f 0 = true) ∧ (f n = false → a.tmps.getD t undef = x)
theorem LtS.start {n t : Nat} {x : Value} {a : Act} {w : World} (h : a.tmps.getD t undef = x) : LtS n t x (fun _ => false) a w := ⟨(fun h => by cases h), fun _ => h⟩
section
variable {P : Program} {ops : Array Oper} {Q : Exit → Act → World → Prop} {V : Nat → Value → World → Prop} {bs : List Nat} {f : Nat → Bool} {n t : Nat} {x : Value} {i : Nat} {o : Oper} {a' : Act} {w' w'' : World}
theorem LtS.here (h : LtS n t x f a' w') (h0 : f 0 = false) : a'.tmps.getD t undef = x := h.2 (by
  cases hf : f n with
  | false => rfl
  | true => have := h.1 hf; rw [h0] at this; cases this)
theorem LtS.step (h : LtS n t x f a' w') (hn : i ≠ n) (d : Option Tmp) (hd : d ≠ some t) (v : Value) (w2 : World) : LtS n t x (fun j => if j = i then true else f j) (a'.put d v) w2 := by
  refine ⟨fun h1 => ?_, fun h1 => ?_⟩
  · have h2 : f n = true := by simpa [Ne.symm hn] using h1
    show (if 0 = i then true else f 0) = true
    split
    · rfl
    · exact h.1 h2
  · have h2 : f n = false := by simpa [Ne.symm hn] using h1
    rw [getD_put _ _ _ _ hd]
    exact h.2 h2
theorem ls_value (v : Value) (hi : ops[i]? = some o) (hw : Region.wanted o (yielded ops a'.tmps) = true) (hr : (execOp a'.eval o).run P w' = .ok (.value v) w'') (hb : Below w'.heap.size w' w'') (hS : LtS n t x f a' w') (hn : i ≠ n) (hd : o.dst ≠ some t) (hv : V i v w'') :
    wpOp P ops Q i (fun a'' w2 => Only bs w' w2 ∧ LtS n t x (fun j => if j = i then true else f j) a'' w2 ∧ ∃ v, a'' = a'.put o.dst v ∧ V i v w2) a' w' :=
  wpOp_value v hi hw hr ⟨Only.of_below hb _, hS.step hn _ hd _ _, v, rfl, hv⟩
theorem ls_quiet (fn : FuncId) (args : Array Value) (hi : ops[i]? = some o) (hw : Region.wanted o (yielded ops a'.tmps) = true)
    (hr : (execOp a'.eval o).run P w' = .ok (.enter fn args) w') (hS : LtS n t x f a' w') (hn : i ≠ n) (hd : o.dst ≠ some t)
    (h : Calls P fn args w' fun e w2 => ∃ v, e = .returned v ∧ Only bs w' w2 ∧ (Nat → True → True) ∧ V i v w2) :
    wpOp P ops Q i (fun a'' w2 => Only bs w' w2 ∧ LtS n t x (fun j => if j = i then true else f j) a'' w2 ∧ ∃ v, a'' = a'.put o.dst v ∧ V i v w2) a' w' :=
  wpOp_call fn args hi hw hr (h.mono fun _ _ ⟨v, he, hg, _, hv⟩ => ⟨v, he, hg, hS.step hn _ hd _ _, v, rfl, hv⟩)
theorem ls_last (v : Value) (hi : ops[n]? = some o) (hw : Region.wanted o (yielded ops a'.tmps) = true) (hr : (execOp a'.eval o).run P w' = .ok (.value v) w') (h0 : f 0 = true) (hn : 0 ≠ n) (hv : V n v w') :
    wpOp P ops Q n (fun a'' w2 => Only bs w' w2 ∧ LtS n t x (fun j => if j = n then true else f j) a'' w2 ∧ ∃ v, a'' = a'.put o.dst v ∧ V n v w2) a' w' :=
  wpOp_value v hi hw hr ⟨Only.refl _ _, ⟨fun _ => by show (if 0 = n then true else f 0) = true; rw [if_neg hn]; exact h0, fun h => by simp at h⟩, v, rfl, hv⟩
end
def rb11 (B k8 n9 c : Nat) (q : Option Addr) (hb : List Nat) : Nat → Value → World → Prop
  | 0 => SrcV [] hb
  | 1 => IsV (.pointer (some ⟨B, 7, none⟩))
  | 2 => IsV (.int .i64 (k8 : Int))
  | 3 => SrcV [] (Cd.be 6 k8)
  | 4 => IsV (.pointer (some ⟨B, 8, none⟩))
  | 5 => IsV (.slice q n9 c)
  | 6 => IsV (.int .i64 (n9 : Int))
  | 7 => SrcV [] (Cd.be 6 n9)
  | 8 => PcsV [hb, (Cd.be 6 k8), (Cd.be 6 n9)]
  | 9 => SrcV [] [hb, (Cd.be 6 k8), (Cd.be 6 n9)].flatten
  | 10 => SrcV [] [hb, (Cd.be 6 k8), (Cd.be 6 n9)].flatten
  | _ => fun _ _ => True
theorem rb11_kept (B k8 n9 c : Nat) (q : Option Addr) (hb : List Nat) : ∀ i v w w', rb11 B k8 n9 c q hb i v w → Only [] w w' → rb11 B k8 n9 c q hb i v w'
  | 0, _, _, _, h, ho => SrcV.kept h ho
  | 1, _, _, _, h, _ => h
  | 2, _, _, _, h, _ => h
  | 3, _, _, _, h, ho => SrcV.kept h ho
  | 4, _, _, _, h, _ => h
  | 5, _, _, _, h, _ => h
  | 6, _, _, _, h, _ => h
  | 7, _, _, _, h, ho => SrcV.kept h ho
  | 8, _, _, _, h, ho => PcsV.kept h ho
  | 9, _, _, _, h, ho => SrcV.kept h ho
  | 10, _, _, _, h, ho => SrcV.kept h ho
  | _ + 11, _, _, _, _, _ => trivial
theorem frame16_11 {A F : Array Value} (hs : A.size = 91) (h : ∀ t, [3, 56, 57, 58, 59, 60, 61, 62, 63, 64, 65].contains t = false → A.getD t undef = F.getD t undef) : A = #[F.getD 0 undef, F.getD 1 undef, F.getD 2 undef, A.getD 3 undef, F.getD 4 undef, F.getD 5 undef, F.getD 6 undef, F.getD 7 undef, F.getD 8 undef, F.getD 9 undef, F.getD 10 undef, F.getD 11 undef, F.getD 12 undef, F.getD 13 undef, F.getD 14 undef, F.getD 15 undef, F.getD 16 undef, F.getD 17 undef, F.getD 18 undef, F.getD 19 undef, F.getD 20 undef, F.getD 21 undef, F.getD 22 undef, F.getD 23 undef, F.getD 24 undef, F.getD 25 undef, F.getD 26 undef, F.getD 27 undef, F.getD 28 undef, F.getD 29 undef, F.getD 30 undef, F.getD 31 undef, F.getD 32 undef, F.getD 33 undef, F.getD 34 undef, F.getD 35 undef, F.getD 36 undef, F.getD 37 undef, F.getD 38 undef, F.getD 39 undef, F.getD 40 undef, F.getD 41 undef, F.getD 42 undef, F.getD 43 undef, F.getD 44 undef, F.getD 45 undef, F.getD 46 undef, F.getD 47 undef, F.getD 48 undef, F.getD 49 undef, F.getD 50 undef, F.getD 51 undef, F.getD 52 undef, F.getD 53 undef, F.getD 54 undef, F.getD 55 undef, A.getD 56 undef, A.getD 57 undef, A.getD 58 undef, A.getD 59 undef, A.getD 60 undef, A.getD 61 undef, A.getD 62 undef, A.getD 63 undef, A.getD 64 undef, A.getD 65 undef, F.getD 66 undef, F.getD 67 undef, F.getD 68 undef, F.getD 69 undef, F.getD 70 undef, F.getD 71 undef, F.getD 72 undef, F.getD 73 undef, F.getD 74 undef, F.getD 75 undef, F.getD 76 undef, F.getD 77 undef, F.getD 78 undef, F.getD 79 undef, F.getD 80 undef, F.getD 81 undef, F.getD 82 undef, F.getD 83 undef, F.getD 84 undef, F.getD 85 undef, F.getD 86 undef, F.getD 87 undef, F.getD 88 undef, F.getD 89 undef, F.getD 90 undef] := by
  rw [← h 0 (by decide), ← h 1 (by decide), ← h 2 (by decide), ← h 4 (by decide), ← h 5 (by decide), ← h 6 (by decide), ← h 7 (by decide), ← h 8 (by decide), ← h 9 (by decide), ← h 10 (by decide), ← h 11 (by decide), ← h 12 (by decide), ← h 13 (by decide), ← h 14 (by decide), ← h 15 (by decide), ← h 16 (by decide), ← h 17 (by decide), ← h 18 (by decide), ← h 19 (by decide), ← h 20 (by decide), ← h 21 (by decide), ← h 22 (by decide), ← h 23 (by decide), ← h 24 (by decide), ← h 25 (by decide), ← h 26 (by decide), ← h 27 (by decide), ← h 28 (by decide), ← h 29 (by decide), ← h 30 (by decide), ← h 31 (by decide), ← h 32 (by decide), ← h 33 (by decide), ← h 34 (by decide), ← h 35 (by decide), ← h 36 (by decide), ← h 37 (by decide), ← h 38 (by decide), ← h 39 (by decide), ← h 40 (by decide), ← h 41 (by decide), ← h 42 (by decide), ← h 43 (by decide), ← h 44 (by decide), ← h 45 (by decide), ← h 46 (by decide), ← h 47 (by decide), ← h 48 (by decide), ← h 49 (by decide), ← h 50 (by decide), ← h 51 (by decide), ← h 52 (by decide), ← h 53 (by decide), ← h 54 (by decide), ← h 55 (by decide), ← h 66 (by decide), ← h 67 (by decide), ← h 68 (by decide), ← h 69 (by decide), ← h 70 (by decide), ← h 71 (by decide), ← h 72 (by decide), ← h 73 (by decide), ← h 74 (by decide), ← h 75 (by decide), ← h 76 (by decide), ← h 77 (by decide), ← h 78 (by decide), ← h 79 (by decide), ← h 80 (by decide), ← h 81 (by decide), ← h 82 (by decide), ← h 83 (by decide), ← h 84 (by decide), ← h 85 (by decide), ← h 86 (by decide), ← h 87 (by decide), ← h 88 (by decide), ← h 89 (by decide), ← h 90 (by decide)]
  refine Array.ext (by simp [hs]) (fun i h1 h2 => ?_)
  have e : A[i] = A.getD i undef := by simp [h1]
  rw [e]
  rw [hs] at h1
  clear e h hs
  match i, h1 with
  | 0, _ => rfl
  | 1, _ => rfl
  | 2, _ => rfl
  | 3, _ => rfl
  | 4, _ => rfl
  | 5, _ => rfl
  | 6, _ => rfl
  | 7, _ => rfl
  | 8, _ => rfl
  | 9, _ => rfl
  | 10, _ => rfl
  | 11, _ => rfl
  | 12, _ => rfl
  | 13, _ => rfl
  | 14, _ => rfl
  | 15, _ => rfl
  | 16, _ => rfl
  | 17, _ => rfl
  | 18, _ => rfl
  | 19, _ => rfl
  | 20, _ => rfl
  | 21, _ => rfl
  | 22, _ => rfl
  | 23, _ => rfl
  | 24, _ => rfl
  | 25, _ => rfl
  | 26, _ => rfl
  | 27, _ => rfl
  | 28, _ => rfl
  | 29, _ => rfl
  | 30, _ => rfl
  | 31, _ => rfl
  | 32, _ => rfl
  | 33, _ => rfl
  | 34, _ => rfl
  | 35, _ => rfl
  | 36, _ => rfl
  | 37, _ => rfl
  | 38, _ => rfl
  | 39, _ => rfl
  | 40, _ => rfl
  | 41, _ => rfl
  | 42, _ => rfl
  | 43, _ => rfl
  | 44, _ => rfl
  | 45, _ => rfl
  | 46, _ => rfl
  | 47, _ => rfl
  | 48, _ => rfl
  | 49, _ => rfl
  | 50, _ => rfl
  | 51, _ => rfl
  | 52, _ => rfl
  | 53, _ => rfl
  | 54, _ => rfl
  | 55, _ => rfl
  | 56, _ => rfl
  | 57, _ => rfl
  | 58, _ => rfl
  | 59, _ => rfl
  | 60, _ => rfl
  | 61, _ => rfl
  | 62, _ => rfl
  | 63, _ => rfl
  | 64, _ => rfl
  | 65, _ => rfl
  | 66, _ => rfl
  | 67, _ => rfl
  | 68, _ => rfl
  | 69, _ => rfl
  | 70, _ => rfl
  | 71, _ => rfl
  | 72, _ => rfl
  | 73, _ => rfl
  | 74, _ => rfl
  | 75, _ => rfl
  | 76, _ => rfl
  | 77, _ => rfl
  | 78, _ => rfl
  | 79, _ => rfl
  | 80, _ => rfl
  | 81, _ => rfl
  | 82, _ => rfl
  | 83, _ => rfl
  | 84, _ => rfl
  | 85, _ => rfl
  | 86, _ => rfl
  | 87, _ => rfl
  | 88, _ => rfl
  | 89, _ => rfl
  | 90, _ => rfl
  | _ + 91, h => exact absurd h (by omega)
def rb15 (B ba oa n9 c j kx : Nat) (x2 hb : List Nat) : Nat → Value → World → Prop
  | 0 => SrcV [] hb
  | 1 => IsV (.pointer (some ⟨B, 8, none⟩))
  | 2 => IsV (.slice (some ⟨ba, oa, none⟩) n9 c)
  | 3 => IsV (.int .i64 (j : Int))
  | 4 => IsV (.pointer (some ⟨ba, oa + j * 2, none⟩))
  | 5 => IsV (.pointer (some ⟨ba, oa + j * 2 + 0, none⟩))
  | 6 => IsV (.int .i64 (kx : Int))
  | 7 => SrcV [] (Cd.be 6 kx)
  | 8 => IsV (.pointer (some ⟨B, 8, none⟩))
  | 9 => IsV (.slice (some ⟨ba, oa, none⟩) n9 c)
  | 10 => IsV (.int .i64 (j : Int))
  | 11 => IsV (.pointer (some ⟨ba, oa + j * 2, none⟩))
  | 12 => IsV (.pointer (some ⟨ba, oa + j * 2 + 1, none⟩))
  | 13 => SrcV [] x2
  | 14 => SrcV [] (Cd.be 2 x2.length ++ x2)
  | 15 => PcsV [hb, (Cd.be 6 kx), (Cd.be 2 x2.length ++ x2)]
  | 16 => SrcV [] [hb, (Cd.be 6 kx), (Cd.be 2 x2.length ++ x2)].flatten
  | 17 => SrcV [] [hb, (Cd.be 6 kx), (Cd.be 2 x2.length ++ x2)].flatten
  | _ => fun _ _ => True
theorem rb15_kept (B ba oa n9 c j kx : Nat) (x2 hb : List Nat) : ∀ i v w w', rb15 B ba oa n9 c j kx x2 hb i v w → Only [] w w' → rb15 B ba oa n9 c j kx x2 hb i v w'
  | 0, _, _, _, h, ho => SrcV.kept h ho
  | 1, _, _, _, h, _ => h
  | 2, _, _, _, h, _ => h
  | 3, _, _, _, h, _ => h
  | 4, _, _, _, h, _ => h
  | 5, _, _, _, h, _ => h
  | 6, _, _, _, h, _ => h
  | 7, _, _, _, h, ho => SrcV.kept h ho
  | 8, _, _, _, h, _ => h
  | 9, _, _, _, h, _ => h
  | 10, _, _, _, h, _ => h
  | 11, _, _, _, h, _ => h
  | 12, _, _, _, h, _ => h
  | 13, _, _, _, h, ho => SrcV.kept h ho
  | 14, _, _, _, h, ho => SrcV.kept h ho
  | 15, _, _, _, h, ho => PcsV.kept h ho
  | 16, _, _, _, h, ho => SrcV.kept h ho
  | 17, _, _, _, h, ho => SrcV.kept h ho
  | _ + 18, _, _, _, _, _ => trivial
theorem frame16_15 {A F : Array Value} (hs : A.size = 91) (h : ∀ t, [3, 73, 74, 75, 76, 77, 78, 79, 80, 81, 82, 83, 84, 85, 86, 87, 88, 89].contains t = false → A.getD t undef = F.getD t undef) : A = #[F.getD 0 undef, F.getD 1 undef, F.getD 2 undef, A.getD 3 undef, F.getD 4 undef, F.getD 5 undef, F.getD 6 undef, F.getD 7 undef, F.getD 8 undef, F.getD 9 undef, F.getD 10 undef, F.getD 11 undef, F.getD 12 undef, F.getD 13 undef, F.getD 14 undef, F.getD 15 undef, F.getD 16 undef, F.getD 17 undef, F.getD 18 undef, F.getD 19 undef, F.getD 20 undef, F.getD 21 undef, F.getD 22 undef, F.getD 23 undef, F.getD 24 undef, F.getD 25 undef, F.getD 26 undef, F.getD 27 undef, F.getD 28 undef, F.getD 29 undef, F.getD 30 undef, F.getD 31 undef, F.getD 32 undef, F.getD 33 undef, F.getD 34 undef, F.getD 35 undef, F.getD 36 undef, F.getD 37 undef, F.getD 38 undef, F.getD 39 undef, F.getD 40 undef, F.getD 41 undef, F.getD 42 undef, F.getD 43 undef, F.getD 44 undef, F.getD 45 undef, F.getD 46 undef, F.getD 47 undef, F.getD 48 undef, F.getD 49 undef, F.getD 50 undef, F.getD 51 undef, F.getD 52 undef, F.getD 53 undef, F.getD 54 undef, F.getD 55 undef, F.getD 56 undef, F.getD 57 undef, F.getD 58 undef, F.getD 59 undef, F.getD 60 undef, F.getD 61 undef, F.getD 62 undef, F.getD 63 undef, F.getD 64 undef, F.getD 65 undef, F.getD 66 undef, F.getD 67 undef, F.getD 68 undef, F.getD 69 undef, F.getD 70 undef, F.getD 71 undef, F.getD 72 undef, A.getD 73 undef, A.getD 74 undef, A.getD 75 undef, A.getD 76 undef, A.getD 77 undef, A.getD 78 undef, A.getD 79 undef, A.getD 80 undef, A.getD 81 undef, A.getD 82 undef, A.getD 83 undef, A.getD 84 undef, A.getD 85 undef, A.getD 86 undef, A.getD 87 undef, A.getD 88 undef, A.getD 89 undef, F.getD 90 undef] := by
  rw [← h 0 (by decide), ← h 1 (by decide), ← h 2 (by decide), ← h 4 (by decide), ← h 5 (by decide), ← h 6 (by decide), ← h 7 (by decide), ← h 8 (by decide), ← h 9 (by decide), ← h 10 (by decide), ← h 11 (by decide), ← h 12 (by decide), ← h 13 (by decide), ← h 14 (by decide), ← h 15 (by decide), ← h 16 (by decide), ← h 17 (by decide), ← h 18 (by decide), ← h 19 (by decide), ← h 20 (by decide), ← h 21 (by decide), ← h 22 (by decide), ← h 23 (by decide), ← h 24 (by decide), ← h 25 (by decide), ← h 26 (by decide), ← h 27 (by decide), ← h 28 (by decide), ← h 29 (by decide), ← h 30 (by decide), ← h 31 (by decide), ← h 32 (by decide), ← h 33 (by decide), ← h 34 (by decide), ← h 35 (by decide), ← h 36 (by decide), ← h 37 (by decide), ← h 38 (by decide), ← h 39 (by decide), ← h 40 (by decide), ← h 41 (by decide), ← h 42 (by decide), ← h 43 (by decide), ← h 44 (by decide), ← h 45 (by decide), ← h 46 (by decide), ← h 47 (by decide), ← h 48 (by decide), ← h 49 (by decide), ← h 50 (by decide), ← h 51 (by decide), ← h 52 (by decide), ← h 53 (by decide), ← h 54 (by decide), ← h 55 (by decide), ← h 56 (by decide), ← h 57 (by decide), ← h 58 (by decide), ← h 59 (by decide), ← h 60 (by decide), ← h 61 (by decide), ← h 62 (by decide), ← h 63 (by decide), ← h 64 (by decide), ← h 65 (by decide), ← h 66 (by decide), ← h 67 (by decide), ← h 68 (by decide), ← h 69 (by decide), ← h 70 (by decide), ← h 71 (by decide), ← h 72 (by decide), ← h 90 (by decide)]
  refine Array.ext (by simp [hs]) (fun i h1 h2 => ?_)
  have e : A[i] = A.getD i undef := by simp [h1]
  rw [e]
  rw [hs] at h1
  clear e h hs
  match i, h1 with
  | 0, _ => rfl
  | 1, _ => rfl
  | 2, _ => rfl
  | 3, _ => rfl
  | 4, _ => rfl
  | 5, _ => rfl
  | 6, _ => rfl
  | 7, _ => rfl
  | 8, _ => rfl
  | 9, _ => rfl
  | 10, _ => rfl
  | 11, _ => rfl
  | 12, _ => rfl
  | 13, _ => rfl
  | 14, _ => rfl
  | 15, _ => rfl
  | 16, _ => rfl
  | 17, _ => rfl
  | 18, _ => rfl
  | 19, _ => rfl
  | 20, _ => rfl
  | 21, _ => rfl
  | 22, _ => rfl
  | 23, _ => rfl
  | 24, _ => rfl
  | 25, _ => rfl
  | 26, _ => rfl
  | 27, _ => rfl
  | 28, _ => rfl
  | 29, _ => rfl
  | 30, _ => rfl
  | 31, _ => rfl
  | 32, _ => rfl
  | 33, _ => rfl
  | 34, _ => rfl
  | 35, _ => rfl
  | 36, _ => rfl
  | 37, _ => rfl
  | 38, _ => rfl
  | 39, _ => rfl
  | 40, _ => rfl
  | 41, _ => rfl
  | 42, _ => rfl
  | 43, _ => rfl
  | 44, _ => rfl
  | 45, _ => rfl
  | 46, _ => rfl
  | 47, _ => rfl
  | 48, _ => rfl
  | 49, _ => rfl
  | 50, _ => rfl
  | 51, _ => rfl
  | 52, _ => rfl
  | 53, _ => rfl
  | 54, _ => rfl
  | 55, _ => rfl
  | 56, _ => rfl
  | 57, _ => rfl
  | 58, _ => rfl
  | 59, _ => rfl
  | 60, _ => rfl
  | 61, _ => rfl
  | 62, _ => rfl
  | 63, _ => rfl
  | 64, _ => rfl
  | 65, _ => rfl
  | 66, _ => rfl
  | 67, _ => rfl
  | 68, _ => rfl
  | 69, _ => rfl
  | 70, _ => rfl
  | 71, _ => rfl
  | 72, _ => rfl
  | 73, _ => rfl
  | 74, _ => rfl
  | 75, _ => rfl
  | 76, _ => rfl
  | 77, _ => rfl
  | 78, _ => rfl
  | 79, _ => rfl
  | 80, _ => rfl
  | 81, _ => rfl
  | 82, _ => rfl
  | 83, _ => rfl
  | 84, _ => rfl
  | 85, _ => rfl
  | 86, _ => rfl
  | 87, _ => rfl
  | 88, _ => rfl
  | 89, _ => rfl
  | 90, _ => rfl
  | _ + 91, h => exact absurd h (by omega)
end Go.Proofs.YtfjdaafckiefdaaGreatDoor.E9
/- The document's Bytes: the kind 5. -/
namespace Go.Proofs.YtfjdaafckiefdaaGreatDoor.E9
open Go.RowKit C8
/-- A wrap's bytes. -/
def wpc (x : Int × List Nat) : List Nat := Cd.be 6 x.1.toNat ++ (Cd.be 2 x.2.length ++ x.2)
def wps (ws : List (Int × List Nat)) : List Nat := (ws.map wpc).flatten
theorem wps_succ {ws : List (Int × List Nat)} {j : Nat} (h : j < ws.length) : wps (ws.take (j + 1)) = wps (ws.take j) ++ wpc ws[j] := by
  unfold wps
  rw [List.take_succ_eq_append_getElem h, List.map_append, List.flatten_append]
  simp
set_option maxHeartbeats 8000000 in
theorem rBytes5 (w : World) (k1 k2 k3 k6 k7 k8 : Nat) (t4 t5 : List Nat) (np vp q : Option Addr) (nc vc c n9 : Nat) (ws : List (Int × List Nat)) (hk : k1 = 5) (b2 : k2 ≤ 16) (b3 : k3 ≤ 1099511627776) (b8 : k8 ≤ 16) (hn : ws.length = n9) (b9 : n9 ≤ 16) (hws : ∀ x ∈ ws, (0 ≤ x.1 ∧ x.1 ≤ 16) ∧ x.2.length = 48) (hrow : WrRow w q ws) :
    Calls Tryz.prog 36 #[.agg #[.int .i64 (k1 : Int), .int .i64 (k2 : Int), .int .i64 (k3 : Int), .slice np t4.length nc, .slice vp t5.length vc, .int .i64 (k6 : Int), .int .i64 (k7 : Int), .int .i64 (k8 : Int), .slice q n9 c]] w fun e w' => ∃ v, e = .returned v ∧ Src w' v ([[Cd.be 6 k1, Cd.be 6 k2, Cd.be 6 k3].flatten, (Cd.be 6 k8), (Cd.be 6 n9)].flatten ++ wps ws) ∧ Below w.heap.size w w' := by
  have HB : Hid (Below w.heap.size w (w.alloc (.cells #[.int .i64 (k1 : Int), .int .i64 (k2 : Int), .int .i64 (k3 : Int), .slice np t4.length nc, .slice vp t5.length vc, .int .i64 (k6 : Int), .int .i64 (k7 : Int), .int .i64 (k8 : Int), .slice q n9 c] 59))) := bel_alloc (Nat.le_refl _) _
  have HBA : Hid (∀ w', Only [] (w.alloc (.cells #[.int .i64 (k1 : Int), .int .i64 (k2 : Int), .int .i64 (k3 : Int), .slice np t4.length nc, .slice vp t5.length vc, .int .i64 (k6 : Int), .int .i64 (k7 : Int), .int .i64 (k8 : Int), .slice q n9 c] 59)) w' → Below w.heap.size w w') := fun w' h => HB.out.trans (h.below (by simp) (by simp))
  have HE0 : Hid (∀ w', Only [] (w.alloc (.cells #[.int .i64 (k1 : Int), .int .i64 (k2 : Int), .int .i64 (k3 : Int), .slice np t4.length nc, .slice vp t5.length vc, .int .i64 (k6 : Int), .int .i64 (k7 : Int), .int .i64 (k8 : Int), .slice q n9 c] 59)) w' → w'.cell? ⟨w.heap.size, 0, none⟩ = some (.int .i64 (k1 : Int))) := fun w' h => (((h.below (B := w.heap.size + 1) (by simp) (by simp)).cell (p := ⟨w.heap.size, 0, none⟩) (Nat.lt_succ_self _)).trans (by rw [cell_of_row _ _ _ _ _ _ (heap_alloc_new w _)]; rfl))
  have HE1 : Hid (∀ w', Only [] (w.alloc (.cells #[.int .i64 (k1 : Int), .int .i64 (k2 : Int), .int .i64 (k3 : Int), .slice np t4.length nc, .slice vp t5.length vc, .int .i64 (k6 : Int), .int .i64 (k7 : Int), .int .i64 (k8 : Int), .slice q n9 c] 59)) w' → w'.cell? ⟨w.heap.size, 1, none⟩ = some (.int .i64 (k2 : Int))) := fun w' h => (((h.below (B := w.heap.size + 1) (by simp) (by simp)).cell (p := ⟨w.heap.size, 1, none⟩) (Nat.lt_succ_self _)).trans (by rw [cell_of_row _ _ _ _ _ _ (heap_alloc_new w _)]; rfl))
  have HE2 : Hid (∀ w', Only [] (w.alloc (.cells #[.int .i64 (k1 : Int), .int .i64 (k2 : Int), .int .i64 (k3 : Int), .slice np t4.length nc, .slice vp t5.length vc, .int .i64 (k6 : Int), .int .i64 (k7 : Int), .int .i64 (k8 : Int), .slice q n9 c] 59)) w' → w'.cell? ⟨w.heap.size, 2, none⟩ = some (.int .i64 (k3 : Int))) := fun w' h => (((h.below (B := w.heap.size + 1) (by simp) (by simp)).cell (p := ⟨w.heap.size, 2, none⟩) (Nat.lt_succ_self _)).trans (by rw [cell_of_row _ _ _ _ _ _ (heap_alloc_new w _)]; rfl))
  have HE7 : Hid (∀ w', Only [] (w.alloc (.cells #[.int .i64 (k1 : Int), .int .i64 (k2 : Int), .int .i64 (k3 : Int), .slice np t4.length nc, .slice vp t5.length vc, .int .i64 (k6 : Int), .int .i64 (k7 : Int), .int .i64 (k8 : Int), .slice q n9 c] 59)) w' → w'.cell? ⟨w.heap.size, 7, none⟩ = some (.int .i64 (k8 : Int))) := fun w' h => (((h.below (B := w.heap.size + 1) (by simp) (by simp)).cell (p := ⟨w.heap.size, 7, none⟩) (Nat.lt_succ_self _)).trans (by rw [cell_of_row _ _ _ _ _ _ (heap_alloc_new w _)]; rfl))
  have HE8 : Hid (∀ w', Only [] (w.alloc (.cells #[.int .i64 (k1 : Int), .int .i64 (k2 : Int), .int .i64 (k3 : Int), .slice np t4.length nc, .slice vp t5.length vc, .int .i64 (k6 : Int), .int .i64 (k7 : Int), .int .i64 (k8 : Int), .slice q n9 c] 59)) w' → w'.cell? ⟨w.heap.size, 8, none⟩ = some (.slice q n9 c)) := fun w' h => (((h.below (B := w.heap.size + 1) (by simp) (by simp)).cell (p := ⟨w.heap.size, 8, none⟩) (Nat.lt_succ_self _)).trans (by rw [cell_of_row _ _ _ _ _ _ (heap_alloc_new w _)]; rfl))
  have HSM : Hid (∀ x ∈ [Cd.be 6 k1, Cd.be 6 k2, Cd.be 6 k3].flatten, x < 256) := by
    show ∀ x ∈ _, _
    simp only [List.flatten_cons, List.flatten_nil, List.append_nil, List.mem_append]
    rintro x (h | h | h) <;> exact Cd.be_lt _ _ x h
  have HLB : Hid ([Cd.be 6 k1, Cd.be 6 k2, Cd.be 6 k3].flatten.length = 18) := by show _ = _; simp [Cd.be_length]
  have HWS : Hid (∀ x ∈ ws, (0 ≤ x.1 ∧ x.1 ≤ 16) ∧ x.2.length = 48) := hws
  have HRW : Hid (WrRow w q ws) := hrow
  have HN : Hid (ws.length = n9) := hn
  have HK : Hid (k1 = 5) := hk
  have bk : k1 ≤ 5 := by omega
  clear hk hws hrow hn
  obtain ⟨res, HRES⟩ : ∃ res, Hid ([[Cd.be 6 k1, Cd.be 6 k2, Cd.be 6 k3].flatten, (Cd.be 6 k8), (Cd.be 6 n9)].flatten ++ wps ws = res) := ⟨_, rfl⟩
  rw [HRES.out]
  go_enter Tryz.func36, Tryz.ntmps36
  go_wp2_with fail
  have RB : ∀ k w w', Below w.heap.size w w' → (fun (_ : Nat) (_ : World) => True) k w → (fun (_ : Nat) (_ : World) => True) k w' := fun _ _ _ _ _ => trivial
  refine wp_region_st (rb1 w.heap.size k1 k2 k3) (fun u u' => Only [] u u') (SeqS [] (fun (_ : Nat) (_ : World) => True)) (by kernel_rfl) (only_drew _ _) (only_trans _) (rb1_kept w.heap.size k1 k2 k3) (by kernel_rfl) (SeqS.start (trivial)) ?_ ?_
  · intro i o a' w' f hi inv hS hfi hfw hpre
    have ho : Only [] (w.alloc (.cells #[.int .i64 (k1 : Int), .int .i64 (k2 : Int), .int .i64 (k3 : Int), .slice np t4.length nc, .slice vp t5.length vc, .int .i64 (k6 : Int), .int .i64 (k7 : Int), .int .i64 (k8 : Int), .slice q n9 c] 59)) w' := inv.grow
    have hlt : i < 12 := (Array.getElem?_eq_some_iff.1 hi).1
    obtain rfl|rfl|rfl|rfl|rfl|rfl|rfl|rfl|rfl|rfl|rfl|rfl : i = 0 ∨ i = 1 ∨ i = 2 ∨ i = 3 ∨ i = 4 ∨ i = 5 ∨ i = 6 ∨ i = 7 ∨ i = 8 ∨ i = 9 ∨ i = 10 ∨ i = 11 := by omega
    · obtain rfl := Option.some.inj hi
      have h0 : a'.tmps.getD 1 undef = (.pointer (some ⟨w.heap.size, 0, none⟩)) := by rw [inv.old 1 (notDst_spec (by kernel_rfl))]; rfl
      exact sq_value _ rfl rfl (fa_run 59 0 1 w.heap.size rfl h0 (fa30_0 w.heap.size)) (Below.refl _ _) (by decide) hS RB rfl
    · obtain rfl := Option.some.inj hi
      have h0 : a'.tmps.getD 5 undef = _ := pre_of hpre 0 5 (by kernel_rfl) (by kernel_rfl)
      exact sq_value _ rfl rfl (load_run 3 5 w.heap.size (0) _ rfl h0 (ld3 (HE0.out w' ho))) (Below.refl _ _) (by decide) hS RB rfl
    · obtain rfl := Option.some.inj hi
      have h0 : a'.tmps.getD 6 undef = _ := pre_of hpre 1 6 (by kernel_rfl) (by kernel_rfl)
      refine sq_quiet 73 #[a'.tmps.getD 6 undef] rfl rfl (by kernel_rfl) (by decide) hS ?_
      rw [h0]
      exact num_q k1 w' (by omega)
    · obtain rfl := Option.some.inj hi
      have h0 : a'.tmps.getD 1 undef = (.pointer (some ⟨w.heap.size, 0, none⟩)) := by rw [inv.old 1 (notDst_spec (by kernel_rfl))]; rfl
      exact sq_value _ rfl rfl (fa_run 59 1 1 w.heap.size rfl h0 (fa30_1 w.heap.size)) (Below.refl _ _) (by decide) hS RB rfl
    · obtain rfl := Option.some.inj hi
      have h0 : a'.tmps.getD 8 undef = _ := pre_of hpre 3 8 (by kernel_rfl) (by kernel_rfl)
      exact sq_value _ rfl rfl (load_run 3 8 w.heap.size (1) _ rfl h0 (ld3 (HE1.out w' ho))) (Below.refl _ _) (by decide) hS RB rfl
    · obtain rfl := Option.some.inj hi
      have h0 : a'.tmps.getD 9 undef = _ := pre_of hpre 4 9 (by kernel_rfl) (by kernel_rfl)
      refine sq_quiet 73 #[a'.tmps.getD 9 undef] rfl rfl (by kernel_rfl) (by decide) hS ?_
      rw [h0]
      exact num_q k2 w' (by omega)
    · obtain rfl := Option.some.inj hi
      have h0 : a'.tmps.getD 1 undef = (.pointer (some ⟨w.heap.size, 0, none⟩)) := by rw [inv.old 1 (notDst_spec (by kernel_rfl))]; rfl
      exact sq_value _ rfl rfl (fa_run 59 2 1 w.heap.size rfl h0 (fa30_2 w.heap.size)) (Below.refl _ _) (by decide) hS RB rfl
    · obtain rfl := Option.some.inj hi
      have h0 : a'.tmps.getD 11 undef = _ := pre_of hpre 6 11 (by kernel_rfl) (by kernel_rfl)
      exact sq_value _ rfl rfl (load_run 3 11 w.heap.size (2) _ rfl h0 (ld3 (HE2.out w' ho))) (Below.refl _ _) (by decide) hS RB rfl
    · obtain rfl := Option.some.inj hi
      have h0 : a'.tmps.getD 12 undef = _ := pre_of hpre 7 12 (by kernel_rfl) (by kernel_rfl)
      refine sq_quiet 73 #[a'.tmps.getD 12 undef] rfl rfl (by kernel_rfl) (by decide) hS ?_
      rw [h0]
      exact num_q k3 w' (by omega)
    · obtain rfl := Option.some.inj hi
      have h0 := pre_of hpre 2 7 (by kernel_rfl) (by kernel_rfl)
      have h1 := pre_of hpre 5 10 (by kernel_rfl) (by kernel_rfl)
      have h2 := pre_of hpre 8 13 (by kernel_rfl) (by kernel_rfl)
      exact sq_value _ rfl rfl (build3_run 7 10 13 _ _ _ rfl (slc_of h0.1) (slc_of h1.1) (slc_of h2.1) rfl rfl rfl) ((Below.refl _ _).alloc (Nat.le_refl _) _) (by decide) hS RB (pcs3 _ _ _ _ _ _ _ h0.1 h1.1 h2.1)
    · obtain rfl := Option.some.inj hi
      have h0 := pre_of hpre 9 14 (by kernel_rfl) (by kernel_rfl)
      refine sq_quiet 81 #[a'.tmps.getD 14 undef] rfl rfl (by kernel_rfl) (by decide) hS ?_
      exact join_q _ [(Cd.be 6 k1), (Cd.be 6 k2), (Cd.be 6 k3)] w' h0 (by simp) (by simp [Cd.be_length] <;> omega) (HSM.out)
    · obtain rfl := Option.some.inj hi
      have h0 := pre_of hpre 10 15 (by kernel_rfl) (by kernel_rfl)
      exact sq_value _ rfl rfl (rfl) (Below.refl _ _) (by decide) hS RB h0
  · intro a' w3 f inv hS hall hd
    have hk11 := hd 11 3 (by kernel_rfl)
    have ho : Only [] (w.alloc (.cells #[.int .i64 (k1 : Int), .int .i64 (k2 : Int), .int .i64 (k3 : Int), .slice np t4.length nc, .slice vp t5.length vc, .int .i64 (k6 : Int), .int .i64 (k7 : Int), .int .i64 (k8 : Int), .slice q n9 c] 59)) w3 := inv.grow
    have hdf : a'.defers = [] := inv.defers
    have hsz : a'.tmps.size = 91 := inv.size
    have e := frame16_1 hsz (fun t ht => inv.old t (dstsIn_spec (ts := [3, 5, 6, 7, 8, 9, 10, 11, 12, 13, 14, 15]) (by kernel_rfl) t ht))
    have hR := hS.done (fun c hc => hall c (show c < 12 by simp at hc <;> omega))
    clear inv hd hsz hall hS
    obtain ⟨tmps, defers⟩ := a'
    obtain rfl : defers = [] := hdf
    replace e : tmps = _ := e
    replace hk11 : SrcV [] [(Cd.be 6 k1), (Cd.be 6 k2), (Cd.be 6 k3)].flatten (tmps.getD 3 undef) w3 := hk11
    generalize tmps.getD 3 undef = x3 at *
    generalize tmps.getD 5 undef = x5 at *
    generalize tmps.getD 6 undef = x6 at *
    generalize tmps.getD 7 undef = x7 at *
    generalize tmps.getD 8 undef = x8 at *
    generalize tmps.getD 9 undef = x9 at *
    generalize tmps.getD 10 undef = x10 at *
    generalize tmps.getD 11 undef = x11 at *
    generalize tmps.getD 12 undef = x12 at *
    generalize tmps.getD 13 undef = x13 at *
    generalize tmps.getD 14 undef = x14 at *
    generalize tmps.getD 15 undef = x15 at *
    simp only [Array.getD_eq_getD_getElem?, List.getElem?_toArray, List.getElem?_cons_succ, List.getElem?_cons_zero, Option.getD_some] at e
    subst e
    obtain ⟨hb, HHB⟩ : ∃ hb, Hid ([Cd.be 6 k1, Cd.be 6 k2, Cd.be 6 k3].flatten = hb) := ⟨_, rfl⟩
    rw [HHB.out] at hk11 HSM HLB HRES
    clear HHB hR
    replace HE0 : Hid (∀ w', Only [] w3 w' → w'.cell? ⟨w.heap.size, 0, none⟩ = some (.int .i64 (k1 : Int))) := fun w' h => HE0.out w' (only_trans _ _ _ _ ho h)
    replace HE7 : Hid (∀ w', Only [] w3 w' → w'.cell? ⟨w.heap.size, 7, none⟩ = some (.int .i64 (k8 : Int))) := fun w' h => HE7.out w' (only_trans _ _ _ _ ho h)
    replace HE8 : Hid (∀ w', Only [] w3 w' → w'.cell? ⟨w.heap.size, 8, none⟩ = some (.slice q n9 c)) := fun w' h => HE8.out w' (only_trans _ _ _ _ ho h)
    replace HBA : Hid (∀ w', Only [] w3 w' → Below w.heap.size w w') := fun w' h => HBA.out w' (only_trans _ _ _ _ ho h)
    have HH : Hid (∀ w', Only [] w3 w' → SrcV [] hb x3 w') := fun w' h => hk11.kept h
    have c0 := HE0.out w3 (Only.refl _ _)
    clear ho hk11 HB HE1 HE2
    replace HSM : Hid (∀ x ∈ [hb, (Cd.be 6 k8), (Cd.be 6 n9)].flatten, x < 256) := by
      show ∀ x ∈ _, _
      simp only [List.flatten_cons, List.flatten_nil, List.append_nil, List.mem_append]
      intro x h
      have := Cd.be_lt 6 k8 x
      have := Cd.be_lt 6 n9 x
      have := HSM.out x
      grind
    have hlb : hb.length = 18 := HLB.out
    have hk := HK.out
    have y1 : ((k1 : Int) == 1) = false := by simp; omega
    have z1 : ¬ (k1 : Int) = 1 := by omega
    have y2 : ((k1 : Int) == 2) = false := by simp; omega
    have z2 : ¬ (k1 : Int) = 2 := by omega
    have y3 : ((k1 : Int) == 3) = false := by simp; omega
    have z3 : ¬ (k1 : Int) = 3 := by omega
    have y4 : ((k1 : Int) == 4) = false := by simp; omega
    have z4 : ¬ (k1 : Int) = 4 := by omega
    clear hk
    go_wp2_with fail
    refine wp_region_sa (rb11 w.heap.size k8 n9 c q hb) (fun u u' => Only [] u u') (LtS 10 3 _) (by kernel_rfl) (only_drew _ _) (only_trans _) (rb11_kept w.heap.size k8 n9 c q hb) (by kernel_rfl) (LtS.start rfl) ?_ ?_
    · intro i o a' w' f hi inv hS hfi hfw hpre
      have ho : Only [] w3 w' := inv.grow
      have hlt : i < 11 := (Array.getElem?_eq_some_iff.1 hi).1
      obtain rfl|rfl|rfl|rfl|rfl|rfl|rfl|rfl|rfl|rfl|rfl : i = 0 ∨ i = 1 ∨ i = 2 ∨ i = 3 ∨ i = 4 ∨ i = 5 ∨ i = 6 ∨ i = 7 ∨ i = 8 ∨ i = 9 ∨ i = 10 := by omega
      · obtain rfl := Option.some.inj hi
        exact ls_value _ rfl rfl rfl (Below.refl _ _) hS (by decide) (by decide) (by show SrcV _ _ (a'.tmps.getD 3 undef) _; rw [hS.here hfi]; exact HH.out w' ho)
      · obtain rfl := Option.some.inj hi
        have h0 : a'.tmps.getD 1 undef = (.pointer (some ⟨w.heap.size, 0, none⟩)) := by rw [inv.old 1 (notDst_spec (by kernel_rfl))]; rfl
        exact ls_value _ rfl rfl (fa_run 59 7 1 w.heap.size rfl h0 (fa30_7 w.heap.size)) (Below.refl _ _) hS (by decide) (by decide) rfl
      · obtain rfl := Option.some.inj hi
        have h0 : a'.tmps.getD 57 undef = _ := pre_of hpre 1 57 (by kernel_rfl) (by kernel_rfl)
        exact ls_value _ rfl rfl (load_run 3 57 w.heap.size (7) _ rfl h0 (ld3 (HE7.out w' ho))) (Below.refl _ _) hS (by decide) (by decide) rfl
      · obtain rfl := Option.some.inj hi
        have h0 : a'.tmps.getD 58 undef = _ := pre_of hpre 2 58 (by kernel_rfl) (by kernel_rfl)
        refine ls_quiet 73 #[a'.tmps.getD 58 undef] rfl rfl (by kernel_rfl) hS (by decide) (by decide) ?_
        rw [h0]
        exact num_q k8 w' (by omega)
      · obtain rfl := Option.some.inj hi
        have h0 : a'.tmps.getD 1 undef = (.pointer (some ⟨w.heap.size, 0, none⟩)) := by rw [inv.old 1 (notDst_spec (by kernel_rfl))]; rfl
        exact ls_value _ rfl rfl (fa_run 59 8 1 w.heap.size rfl h0 (fa30_8 w.heap.size)) (Below.refl _ _) hS (by decide) (by decide) rfl
      · obtain rfl := Option.some.inj hi
        have h0 : a'.tmps.getD 60 undef = _ := pre_of hpre 4 60 (by kernel_rfl) (by kernel_rfl)
        exact ls_value _ rfl rfl (load_run 57 60 w.heap.size (8) _ rfl h0 (ld28 (HE8.out w' ho))) (Below.refl _ _) hS (by decide) (by decide) rfl
      · obtain rfl := Option.some.inj hi
        have h0 : a'.tmps.getD 61 undef = _ := pre_of hpre 5 61 (by kernel_rfl) (by kernel_rfl)
        exact ls_value _ rfl rfl (lenV_run 61 _ _ _ rfl h0) (Below.refl _ _) hS (by decide) (by decide) rfl
      · obtain rfl := Option.some.inj hi
        have h0 : a'.tmps.getD 62 undef = _ := pre_of hpre 6 62 (by kernel_rfl) (by kernel_rfl)
        refine ls_quiet 73 #[a'.tmps.getD 62 undef] rfl rfl (by kernel_rfl) hS (by decide) (by decide) ?_
        rw [h0]
        exact num_q n9 w' (by omega)
      · obtain rfl := Option.some.inj hi
        have h0 := pre_of hpre 0 56 (by kernel_rfl) (by kernel_rfl)
        have h1 := pre_of hpre 3 59 (by kernel_rfl) (by kernel_rfl)
        have h2 := pre_of hpre 7 63 (by kernel_rfl) (by kernel_rfl)
        exact ls_value _ rfl rfl (build3_run 56 59 63 _ _ _ rfl (slc_of h0.1) (slc_of h1.1) (slc_of h2.1) rfl rfl rfl) ((Below.refl _ _).alloc (Nat.le_refl _) _) hS (by decide) (by decide) (pcs3 _ _ _ _ _ _ _ h0.1 h1.1 h2.1)
      · obtain rfl := Option.some.inj hi
        have h0 := pre_of hpre 8 64 (by kernel_rfl) (by kernel_rfl)
        refine ls_quiet 81 #[a'.tmps.getD 64 undef] rfl rfl (by kernel_rfl) hS (by decide) (by decide) ?_
        exact join_q _ [hb, (Cd.be 6 k8), (Cd.be 6 n9)] w' h0 (by simp) (by simp [Cd.be_length] <;> omega) (HSM.out)
      · obtain rfl := Option.some.inj hi
        have h0 := pre_of hpre 9 65 (by kernel_rfl) (by kernel_rfl)
        exact ls_last _ rfl rfl rfl (been_of hfw 0 (by kernel_rfl)) (by decide) h0
    · intro a' w4 f inv hS hall hd
      have hk10 := hd 10 3 (by kernel_rfl)
      have ho : Only [] w3 w4 := inv.grow
      have hdf : a'.defers = [] := inv.defers
      have hsz : a'.tmps.size = 91 := inv.size
      have e := frame16_11 hsz (fun t ht => inv.old t (dstsIn_spec (ts := [3, 56, 57, 58, 59, 60, 61, 62, 63, 64, 65]) (by kernel_rfl) t ht))
      clear inv hd hsz hall hS
      obtain ⟨tmps, defers⟩ := a'
      obtain rfl : defers = [] := hdf
      replace e : tmps = _ := e
      replace hk10 : SrcV [] [hb, (Cd.be 6 k8), (Cd.be 6 n9)].flatten (tmps.getD 3 undef) w4 := hk10
      generalize tmps.getD 3 undef = x3 at *
      generalize tmps.getD 56 undef = x56 at *
      generalize tmps.getD 57 undef = x57 at *
      generalize tmps.getD 58 undef = x58 at *
      generalize tmps.getD 59 undef = x59 at *
      generalize tmps.getD 60 undef = x60 at *
      generalize tmps.getD 61 undef = x61 at *
      generalize tmps.getD 62 undef = x62 at *
      generalize tmps.getD 63 undef = x63 at *
      generalize tmps.getD 64 undef = x64 at *
      generalize tmps.getD 65 undef = x65 at *
      simp only [Array.getD_eq_getD_getElem?, List.getElem?_toArray, List.getElem?_cons_succ, List.getElem?_cons_zero, Option.getD_some] at e
      subst e
      have HLEN : Hid ([hb, (Cd.be 6 k8), (Cd.be 6 n9)].flatten.length = 30) := by show _ = _; simp [Cd.be_length]; omega
      obtain ⟨h0, HHB⟩ : ∃ h0, Hid ([hb, (Cd.be 6 k8), (Cd.be 6 n9)].flatten = h0) := ⟨_, rfl⟩
      rw [HHB.out] at hk10 HSM HLEN HRES
      clear HHB HH HLB hlb
      replace HE8 : Hid (∀ w', Only [] w4 w' → w'.cell? ⟨w.heap.size, 8, none⟩ = some (.slice q n9 c)) := fun w' h => HE8.out w' (only_trans _ _ _ _ ho h)
      replace HBA : Hid (∀ w', Only [] w4 w' → Below w.heap.size w w') := fun w' h => HBA.out w' (only_trans _ _ _ _ ho h)
      have HH0 : Hid (SrcV [] h0 x3 w4) := hk10
      clear ho hk10 HE0 HE7 c0 y1 y2 y3 y4 z1 z2 z3 z4
      go_wp2_with fail
      go_loopw [3, 4] (fun sl i wr => ∃ j : Nat, j ≤ n9 ∧ i = .int .i64 j ∧ Hid (Only [] w4 wr) ∧ Hid (Src wr sl (h0 ++ wps (ws.take j))) ∧ Hid ((h0 ++ wps (ws.take j)).length ≤ 30 + 56 * j) ∧ Hid (∀ x ∈ h0 ++ wps (ws.take j), x < 256)) (fun _ i _ => n9 - (intOf i).toNat)
      case atStart => exact ⟨0, by omega, rfl, Only.refl _ _, by show Src _ _ _; simpa [wps] using HH0.out.1, by show _ ≤ _; have := HLEN.out; simp [wps]; omega, by show ∀ x ∈ _, _; simpa [wps] using HSM.out⟩
      case round =>
        obtain ⟨j, hj, rfl, HOW, HSL, HLL, HLX⟩ := hrel
        replace HE8 : Hid (∀ w', Only [] wr w' → w'.cell? ⟨w.heap.size, 8, none⟩ = some (.slice q n9 c)) := fun w' h => HE8.out w' (only_trans _ _ _ _ HOW.out h)
        by_cases hlt : j < n9
        · have ja : j < ws.length := by rw [HN.out]; exact hlt
          obtain ⟨ba, oa, bp, bc, rfl, m2, m3, m4, m5, m6⟩ := HRW.out j ja
          have hjn := hlt
          have j1 : (j : Int) < (n9 : Int) := by omega
          have j0 : (0 : Int) ≤ (j : Int) := by omega
          have hB : ∀ w', Only [] wr w' → Below w.heap.size w w' := fun w' h => HBA.out w' (only_trans _ _ _ _ HOW.out h)
          obtain ⟨⟨g1, g2⟩, g3⟩ := HWS.out _ (List.getElem_mem ja)
          obtain ⟨kx, hkx⟩ : ∃ kx : Nat, ws[j].1 = (kx : Int) := ⟨ws[j].1.toNat, by omega⟩
          obtain ⟨x2, hx2⟩ : ∃ x2, ws[j].2 = x2 := ⟨_, rfl⟩
          have HNX : Hid (h0 ++ wps (ws.take (j + 1)) = [h0 ++ wps (ws.take j), Cd.be 6 kx, Cd.be 2 x2.length ++ x2].flatten) := by
            show _ = _
            rw [wps_succ ja, wpc, hkx, hx2]
            simp [List.append_assoc]
          rw [hkx] at m3 g1 g2
          rw [hx2] at m4 m5 g3
          have HA0 : Hid (∀ w', Only [] wr w' → w'.cell? ⟨ba, oa + j * 2 + 0, none⟩ = some (.int .i64 (kx : Int))) := fun w' h => ((hB w' h).cell (p := ⟨ba, oa + j * 2, none⟩) m2).trans m3
          have HA1 : Hid (∀ w', Only [] wr w' → w'.cell? ⟨ba, oa + j * 2 + 1, none⟩ = some (.slice bp x2.length bc)) := fun w' h => ((hB w' h).cell (p := ⟨ba, oa + j * 2 + 1, none⟩) m2).trans m4
          have HSA : Hid (∀ w', Only [] wr w' → SrcV [] x2 (.slice bp x2.length bc) w') := fun w' h => srcV_of (m5.below (hB w' h))
          have HX2 : Hid (∀ x ∈ x2, x < 256) := m5.small
          have hll : (h0 ++ wps (ws.take j)).length ≤ 1000 := by have := HLL.out; omega
          obtain ⟨hb, HHB⟩ : ∃ hb, Hid (h0 ++ wps (ws.take j) = hb) := ⟨_, rfl⟩
          have HLL2 : Hid (hb.length ≤ 30 + 56 * j) := by rw [← HHB.out]; exact HLL.out
          rw [HHB.out] at HSL hll HNX HLX
          have HH : Hid (∀ w', Only [] wr w' → SrcV [] hb u3 w') := fun w' h => (srcV_of HSL.out).kept h
          have HSM : Hid (∀ x ∈ [hb, Cd.be 6 kx, Cd.be 2 x2.length ++ x2].flatten, x < 256) := by
            show ∀ x ∈ _, _
            simp only [List.flatten_cons, List.flatten_nil, List.append_nil, List.mem_append]
            intro x h
            have := Cd.be_lt 6 kx x
            have := Cd.be_lt 2 x2.length x
            have := HLX.out x
            have := HX2.out x
            grind
          have c8 := HE8.out wr (Only.refl _ _)
          clear HHB m2 m3 m4 m5 m6 hkx hx2 hB ja
          go_wp2_with fail
          refine wp_region_sa (rb15 w.heap.size ba oa n9 c j kx x2 hb) (fun u u' => Only [] u u') (LtS 17 3 _) (by kernel_rfl) (only_drew _ _) (only_trans _) (rb15_kept w.heap.size ba oa n9 c j kx x2 hb) (by kernel_rfl) (LtS.start rfl) ?_ ?_
          · intro i o a' w' f hi inv hS hfi hfw hpre
            have ho : Only [] wr w' := inv.grow
            have hlt : i < 18 := (Array.getElem?_eq_some_iff.1 hi).1
            obtain rfl|rfl|rfl|rfl|rfl|rfl|rfl|rfl|rfl|rfl|rfl|rfl|rfl|rfl|rfl|rfl|rfl|rfl : i = 0 ∨ i = 1 ∨ i = 2 ∨ i = 3 ∨ i = 4 ∨ i = 5 ∨ i = 6 ∨ i = 7 ∨ i = 8 ∨ i = 9 ∨ i = 10 ∨ i = 11 ∨ i = 12 ∨ i = 13 ∨ i = 14 ∨ i = 15 ∨ i = 16 ∨ i = 17 := by omega
            · obtain rfl := Option.some.inj hi
              exact ls_value _ rfl rfl rfl (Below.refl _ _) hS (by decide) (by decide) (by show SrcV _ _ (a'.tmps.getD 3 undef) _; rw [hS.here hfi]; exact HH.out w' ho)
            · obtain rfl := Option.some.inj hi
              have h0 : a'.tmps.getD 1 undef = (.pointer (some ⟨w.heap.size, 0, none⟩)) := by rw [inv.old 1 (notDst_spec (by kernel_rfl))]; rfl
              exact ls_value _ rfl rfl (fa_run 59 8 1 w.heap.size rfl h0 (fa30_8 w.heap.size)) (Below.refl _ _) hS (by decide) (by decide) rfl
            · obtain rfl := Option.some.inj hi
              have h0 : a'.tmps.getD 74 undef = _ := pre_of hpre 1 74 (by kernel_rfl) (by kernel_rfl)
              exact ls_value _ rfl rfl (load_run 57 74 w.heap.size (8) _ rfl h0 (ld28 (HE8.out w' ho))) (Below.refl _ _) hS (by decide) (by decide) rfl
            · obtain rfl := Option.some.inj hi
              exact ls_value _ rfl rfl rfl (Below.refl _ _) hS (by decide) (by decide) (by show a'.tmps.getD 4 undef = _; rw [inv.old 4 (notDst_spec (by kernel_rfl))]; rfl)
            · obtain rfl := Option.some.inj hi
              have h0 : a'.tmps.getD 75 undef = _ := pre_of hpre 2 75 (by kernel_rfl) (by kernel_rfl)
              have h1 : a'.tmps.getD 76 undef = _ := pre_of hpre 3 76 (by kernel_rfl) (by kernel_rfl)
              exact ls_value _ rfl rfl (idx28_run 75 76 ba oa n9 c j rfl h0 h1 hjn) (Below.refl _ _) hS (by decide) (by decide) rfl
            · obtain rfl := Option.some.inj hi
              have h0 : a'.tmps.getD 77 undef = _ := pre_of hpre 4 77 (by kernel_rfl) (by kernel_rfl)
              exact ls_value _ rfl rfl (fo_run 107 0 77 ba (oa + j * 2) rfl h0 (fo47_0 ba (oa + j * 2))) (Below.refl _ _) hS (by decide) (by decide) rfl
            · obtain rfl := Option.some.inj hi
              have h0 : a'.tmps.getD 78 undef = _ := pre_of hpre 5 78 (by kernel_rfl) (by kernel_rfl)
              exact ls_value _ rfl rfl (load_run 3 78 ba (oa + j * 2 + 0) _ rfl h0 (ld3 (HA0.out w' ho))) (Below.refl _ _) hS (by decide) (by decide) rfl
            · obtain rfl := Option.some.inj hi
              have h0 : a'.tmps.getD 79 undef = _ := pre_of hpre 6 79 (by kernel_rfl) (by kernel_rfl)
              refine ls_quiet 73 #[a'.tmps.getD 79 undef] rfl rfl (by kernel_rfl) hS (by decide) (by decide) ?_
              rw [h0]
              exact num_q kx w' (by omega)
            · obtain rfl := Option.some.inj hi
              have h0 : a'.tmps.getD 1 undef = (.pointer (some ⟨w.heap.size, 0, none⟩)) := by rw [inv.old 1 (notDst_spec (by kernel_rfl))]; rfl
              exact ls_value _ rfl rfl (fa_run 59 8 1 w.heap.size rfl h0 (fa30_8 w.heap.size)) (Below.refl _ _) hS (by decide) (by decide) rfl
            · obtain rfl := Option.some.inj hi
              have h0 : a'.tmps.getD 81 undef = _ := pre_of hpre 8 81 (by kernel_rfl) (by kernel_rfl)
              exact ls_value _ rfl rfl (load_run 57 81 w.heap.size (8) _ rfl h0 (ld28 (HE8.out w' ho))) (Below.refl _ _) hS (by decide) (by decide) rfl
            · obtain rfl := Option.some.inj hi
              exact ls_value _ rfl rfl rfl (Below.refl _ _) hS (by decide) (by decide) (by show a'.tmps.getD 4 undef = _; rw [inv.old 4 (notDst_spec (by kernel_rfl))]; rfl)
            · obtain rfl := Option.some.inj hi
              have h0 : a'.tmps.getD 82 undef = _ := pre_of hpre 9 82 (by kernel_rfl) (by kernel_rfl)
              have h1 : a'.tmps.getD 83 undef = _ := pre_of hpre 10 83 (by kernel_rfl) (by kernel_rfl)
              exact ls_value _ rfl rfl (idx28_run 82 83 ba oa n9 c j rfl h0 h1 hjn) (Below.refl _ _) hS (by decide) (by decide) rfl
            · obtain rfl := Option.some.inj hi
              have h0 : a'.tmps.getD 84 undef = _ := pre_of hpre 11 84 (by kernel_rfl) (by kernel_rfl)
              exact ls_value _ rfl rfl (fo_run 107 1 84 ba (oa + j * 2) rfl h0 (fo47_1 ba (oa + j * 2))) (Below.refl _ _) hS (by decide) (by decide) rfl
            · obtain rfl := Option.some.inj hi
              have h0 : a'.tmps.getD 85 undef = _ := pre_of hpre 12 85 (by kernel_rfl) (by kernel_rfl)
              exact ls_value _ rfl rfl (load_run 22 85 ba (oa + j * 2 + 1) _ rfl h0 (ld22 (HA1.out w' ho))) (Below.refl _ _) hS (by decide) (by decide) (HSA.out w' ho)
            · obtain rfl := Option.some.inj hi
              have h0 := pre_of hpre 13 86 (by kernel_rfl) (by kernel_rfl)
              refine ls_quiet 38 #[a'.tmps.getD 86 undef] rfl rfl (by kernel_rfl) hS (by decide) (by decide) ?_
              exact text_q _ x2 w' h0.1 (by omega)
            · obtain rfl := Option.some.inj hi
              have h0 := pre_of hpre 0 73 (by kernel_rfl) (by kernel_rfl)
              have h1 := pre_of hpre 7 80 (by kernel_rfl) (by kernel_rfl)
              have h2 := pre_of hpre 14 87 (by kernel_rfl) (by kernel_rfl)
              exact ls_value _ rfl rfl (build3_run 73 80 87 _ _ _ rfl (slc_of h0.1) (slc_of h1.1) (slc_of h2.1) rfl rfl rfl) ((Below.refl _ _).alloc (Nat.le_refl _) _) hS (by decide) (by decide) (pcs3 _ _ _ _ _ _ _ h0.1 h1.1 h2.1)
            · obtain rfl := Option.some.inj hi
              have h0 := pre_of hpre 15 88 (by kernel_rfl) (by kernel_rfl)
              refine ls_quiet 81 #[a'.tmps.getD 88 undef] rfl rfl (by kernel_rfl) hS (by decide) (by decide) ?_
              exact join_q _ [hb, (Cd.be 6 kx), (Cd.be 2 x2.length ++ x2)] w' h0 (by simp) (by simp [Cd.be_length] <;> omega) (HSM.out)
            · obtain rfl := Option.some.inj hi
              have h0 := pre_of hpre 16 89 (by kernel_rfl) (by kernel_rfl)
              exact ls_last _ rfl rfl rfl (been_of hfw 0 (by kernel_rfl)) (by decide) h0
          · intro a' w5 f inv hS hall hd
            have hk17 := hd 17 3 (by kernel_rfl)
            have ho : Only [] wr w5 := inv.grow
            have hdf : a'.defers = [] := inv.defers
            have hsz : a'.tmps.size = 91 := inv.size
            have e := frame16_15 hsz (fun t ht => inv.old t (dstsIn_spec (ts := [3, 73, 74, 75, 76, 77, 78, 79, 80, 81, 82, 83, 84, 85, 86, 87, 88, 89]) (by kernel_rfl) t ht))
            clear inv hd hsz hall hS
            obtain ⟨tmps, defers⟩ := a'
            obtain rfl : defers = [] := hdf
            replace e : tmps = _ := e
            replace hk17 : SrcV [] [hb, (Cd.be 6 kx), (Cd.be 2 x2.length ++ x2)].flatten (tmps.getD 3 undef) w5 := hk17
            generalize tmps.getD 3 undef = x3 at *
            generalize tmps.getD 73 undef = x73 at *
            generalize tmps.getD 74 undef = x74 at *
            generalize tmps.getD 75 undef = x75 at *
            generalize tmps.getD 76 undef = x76 at *
            generalize tmps.getD 77 undef = x77 at *
            generalize tmps.getD 78 undef = x78 at *
            generalize tmps.getD 79 undef = x79 at *
            generalize tmps.getD 80 undef = x80 at *
            generalize tmps.getD 81 undef = x81 at *
            generalize tmps.getD 82 undef = x82 at *
            generalize tmps.getD 83 undef = x83 at *
            generalize tmps.getD 84 undef = x84 at *
            generalize tmps.getD 85 undef = x85 at *
            generalize tmps.getD 86 undef = x86 at *
            generalize tmps.getD 87 undef = x87 at *
            generalize tmps.getD 88 undef = x88 at *
            generalize tmps.getD 89 undef = x89 at *
            simp only [Array.getD_eq_getD_getElem?, List.getElem?_toArray, List.getElem?_cons_succ, List.getElem?_cons_zero, Option.getD_some] at e
            subst e
            have HOW5 : Hid (Only [] w4 w5) := only_trans _ _ _ _ HOW.out ho
            have HSL5 : Hid (Src w5 x3 (h0 ++ wps (ws.take (j + 1)))) := by show Src _ _ _; rw [HNX.out]; exact hk17.1
            have HLL5 : Hid ((h0 ++ wps (ws.take (j + 1))).length ≤ 30 + 56 * (j + 1)) := by show _ ≤ _; rw [HNX.out]; have := HLL2.out; simp [Cd.be_length]; omega
            have HLX5 : Hid (∀ x ∈ h0 ++ wps (ws.take (j + 1)), x < 256) := by rw [HNX.out]; exact HSM.out
            clear ho hk17 HNX HH HSL HOW
            go_wp2_with fail
            refine ⟨⟨j + 1, by omega, (by first | (simp; done) | (simp; omega)), HOW5, HSL5, HLL5, HLX5⟩, ?_⟩
            simp only [intOf]
            omega
        · obtain rfl : j = n9 := by omega
          have j1 : ¬ (j : Int) < (j : Int) := by omega
          have HF : Hid (Src wr u3 res ∧ Below w.heap.size w wr) := ⟨by
            have := HSL.out
            rw [List.take_of_length_le (by rw [HN.out]; omega), HRES.out] at this
            exact this, HBA.out _ HOW.out⟩
          have c8 := HE8.out wr (Only.refl _ _)
          clear HSL HLL HLX
          go_wp2_with fail
          go_ret
          exact ⟨_, rfl, HF.out⟩
end Go.Proofs.YtfjdaafckiefdaaGreatDoor.E9
/- The contract of the document's Bytes. -/
namespace Go.Proofs.YtfjdaafckiefdaaGreatDoor.E9
open Go.RowKit C8
theorem wps_enc : ∀ ws : List (Int × List Nat), wps ws = Cd.enc (wpts ws)
  | [] => rfl
  | x :: r => by
    show wpc x ++ wps r = _
    rw [wps_enc r]
    simp [wpts, Cd.enc, Cd.one, num, txt, wpc, List.append_assoc]
theorem nat_of {n : Int} (h : 0 ≤ n) : ∃ k : Nat, n = (k : Int) := ⟨n.toNat, by omega⟩
theorem rBytes_any (a : En) (va : Value) (w : World) (ha : EnIs w va a) (hr : right a = true) :
    Calls Tryz.prog 36 #[va] w fun e w' => ∃ v, e = .returned v ∧ Src w' v (bytes a) ∧ Below w.heap.size w w' := by
  obtain ⟨np, nc, vp, vc, q, c, rfl, ha⟩ := ha
  obtain ⟨hw, hs, hk⟩ := (right_iff a).1 hr
  obtain ⟨h4, h5, h9, -, -, -⟩ := ha
  obtain ⟨a1, a2, a3, a4, a5, a6, a7, a8, a9⟩ := a
  simp only [EnV] at *
  obtain ⟨k2, rfl⟩ := nat_of (n := a2) (by omega)
  obtain ⟨k3, rfl⟩ := nat_of (n := a3) (by omega)
  obtain ⟨k6, rfl⟩ := nat_of (n := a6) (by omega)
  obtain ⟨k7, rfl⟩ := nat_of (n := a7) (by omega)
  obtain ⟨k8, rfl⟩ := nat_of (n := a8) (by omega)
  rcases hk with hk | hk | hk | hk | hk
  · obtain ⟨rfl, ⟨-, b4⟩, b5, -⟩ := hk
    refine (rBytes1 w 1 k2 k3 k6 k7 k8 a4 a5 np vp q nc vc c a9.length rfl (by omega) (by omega) h4 h5 b4 b5).mono ?_
    rintro e w' ⟨v, rfl, g1, g2⟩
    exact ⟨v, rfl, by simpa [bytes, pts, tailP, Cd.enc, Cd.one, num, txt, List.append_assoc] using g1, g2⟩
  · obtain ⟨rfl, ⟨-, b4⟩, -⟩ := hk
    refine (rBytes2 w 2 k2 k3 k6 k7 k8 a4 a5 np vp q nc vc c a9.length rfl (by omega) (by omega) h4 h5 b4).mono ?_
    rintro e w' ⟨v, rfl, g1, g2⟩
    exact ⟨v, rfl, by simpa [bytes, pts, tailP, Cd.enc, Cd.one, num, txt, List.append_assoc] using g1, g2⟩
  · obtain ⟨rfl, -, -, ⟨-, b6⟩, ⟨-, b7⟩, -⟩ := hk
    refine (rBytes3 w 3 k2 k3 k6 k7 k8 a4 a5 np vp q nc vc c a9.length rfl (by omega) (by omega) (by omega) (by omega) h4 h5).mono ?_
    rintro e w' ⟨v, rfl, g1, g2⟩
    exact ⟨v, rfl, by simpa [bytes, pts, tailP, Cd.enc, Cd.one, num, txt, List.append_assoc] using g1, g2⟩
  · obtain ⟨rfl, -, -, ⟨-, b6⟩, -⟩ := hk
    refine (rBytes4 w 4 k2 k3 k6 k7 k8 a4 a5 np vp q nc vc c a9.length rfl (by omega) (by omega) (by omega) h4 h5).mono ?_
    rintro e w' ⟨v, rfl, g1, g2⟩
    exact ⟨v, rfl, by simpa [bytes, pts, tailP, Cd.enc, Cd.one, num, txt, List.append_assoc] using g1, g2⟩
  · obtain ⟨rfl, -, -, -, -, ⟨-, b8⟩, hok⟩ := hk
    refine (rBytes5 w 5 k2 k3 k6 k7 k8 a4 a5 np vp q nc vc c a9.length a9 rfl (by omega) (by omega) (by omega) rfl (wok_le hok) (fun x hx => ?_) h9).mono ?_
    · have := wok_each a9 0 (by omega) hok x hx
      omega
    · rintro e w' ⟨v, rfl, g1, g2⟩
      rw [wps_enc] at g1
      exact ⟨v, rfl, by simpa [bytes, pts, tailP, Cd.enc, Cd.one, num, txt, List.append_assoc] using g1, g2⟩
end Go.Proofs.YtfjdaafckiefdaaGreatDoor.E9
