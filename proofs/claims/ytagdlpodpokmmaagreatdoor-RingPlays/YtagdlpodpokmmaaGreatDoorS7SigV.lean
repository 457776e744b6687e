/- The document's Open: its region. -/
import Derived.Test.YtagdlpodpokmmaaGreatDoorS7OnceV
import Derived.Test.YtagdlpodpokmmaaGreatDoorS7SigK
namespace Go.Proofs.YtagdlpodpokmmaaGreatDoor.S7
open Go.RowKit
section
variable {P : Program} {ops : Array Oper} {Q : Exit → Act → World → Prop} {V : Nat → Value → World → Prop} {bs cs : List Nat} {R : Nat → World → Prop} {f : Nat → Bool}
theorem sq_skip {i : Nat} {o : Oper} {a' : Act} {w' : World} (hi : ops[i]? = some o) (hw : Region.wanted o (yielded ops a'.tmps) = false) (hn : i ∉ cs) (hS : SeqS cs R f w') (hv : V i undef w') :
    wpOp P ops Q i (fun a'' w2 => Only bs w' w2 ∧ SeqS cs R (fun j => if j = i then true else f j) w2 ∧ ∃ v, a'' = a'.put o.dst v ∧ V i v w2) a' w' := by
  unfold wpOp
  simp only [hi, hw]
  exact ⟨Only.refl _ _, hS.quiet hn (fun _ h => h), undef, rfl, hv⟩
theorem unwanted_of {o : Oper} {a' : Act} (j : Nat) (d : Tmp) (b : Bool) (hg : o.guard = some (j, !b)) (hd : (ops[j]?).bind (·.dst) = some d) (hv : a'.tmps.getD d undef = .bool b) : Region.wanted o (yielded ops a'.tmps) = false := by
  have hsome : a'.tmps[d]? = some (.bool b) := by
    cases h : a'.tmps[d]? with
    | none => simp [h, undef] at hv
    | some x => simpa [h] using hv
  cases b <;> simp [Region.wanted, hg, yielded, hd, hsome]
end
section
variable {o : Oper} {a' : Act} {w' : World}
theorem fa_run (T : TypeId) (k : Nat) (t : Tmp) (b : Nat) (ho : o.op = .fieldAddr T (.tmp t) k) (h0 : a'.tmps.getD t undef = .pointer (some ⟨b, 0, none⟩)) (hf : ∀ w : World, (Instr.fieldAt T (.pointer (some ⟨b, 0, none⟩)) k).run Tryz.prog w = .ok (.pointer (some ⟨b, k, none⟩)) w) :
    (execOp a'.eval o).run Tryz.prog w' = .ok (.value (.pointer (some ⟨b, k, none⟩))) w' := by
  have he : a'.eval (.tmp t) = .pointer (some ⟨b, 0, none⟩) := h0
  unfold execOp
  simp only [ho]
  rw [he]
  simp [hf, Result.andThen]
theorem eqlS_run (s t : Tmp) (x y : ByteArray) (ho : o.op = .binOp .eql 9 (.tmp s) (.tmp t) 9) (h0 : a'.tmps.getD s undef = .string x) (h1 : a'.tmps.getD t undef = .string y) : (execOp a'.eval o).run Tryz.prog w' = .ok (.value (.bool (x.toList == y.toList))) w' := by
  have he : a'.eval (.tmp s) = .string x := h0
  have hc : a'.eval (.tmp t) = .string y := h1
  unfold execOp
  simp only [ho]
  rw [he, hc]
  simp [go_sem]
theorem eqlc_run (s : Tmp) (x : Nat) (ho : o.op = .binOp .eql 3 (.tmp s) (.const (.int .i64 66)) 3) (h0 : a'.tmps.getD s undef = .int .i64 (x : Int)) : (execOp a'.eval o).run Tryz.prog w' = .ok (.value (.bool (decide ((x : Int) = 66)))) w' := by
  have he : a'.eval (.tmp s) = .int .i64 (x : Int) := h0
  unfold execOp
  simp only [ho]
  rw [he]
  simp [go_sem, Act.eval]
  rfl
theorem addc_run (s : Tmp) (x : Nat) (hx : x < 1000000) (ho : o.op = .binOp .add 3 (.tmp s) (.const (.int .i64 1)) 3) (h0 : a'.tmps.getD s undef = .int .i64 (x : Int)) : (execOp a'.eval o).run Tryz.prog w' = .ok (.value (.int .i64 ((x + 1 : Nat) : Int))) w' := by
  have he : a'.eval (.tmp s) = .int .i64 (x : Int) := h0
  have hb : (x : Int) < 1000000 := by omega
  have h0' : (0 : Int) ≤ (x : Int) := by omega
  unfold execOp
  simp only [ho]
  rw [he]
  simp [go_sem, Act.eval]
  rw [IntKind.wrap_i64]
  omega
theorem len_run {l : List Nat} (s : Tmp) (ho : o.op = .call { callee := .builtin .len, args := #[.tmp s], argTypes := #[22] }) (h0 : Src w' (a'.tmps.getD s undef) l) : (execOp a'.eval o).run Tryz.prog w' = .ok (.value (.int .i64 (l.length : Int))) w' := by
  obtain ⟨q, c, e, _⟩ := h0.slice
  have e2 : a'.tmps[s]?.getD undef = .slice q l.length c := by simpa using e
  unfold execOp
  simp only [ho]
  simp [go_sem, resolve, invoke, builtin, e2]
end
theorem fa71_0 (b : Nat) (w : World) : (Instr.fieldAt 83 (.pointer (some ⟨b, 0, none⟩)) 0).run Tryz.prog w = .ok (.pointer (some ⟨b, 0, none⟩)) w := by simp [go_sem]
theorem fa71_1 (b : Nat) (w : World) : (Instr.fieldAt 83 (.pointer (some ⟨b, 0, none⟩)) 1).run Tryz.prog w = .ok (.pointer (some ⟨b, 1, none⟩)) w := by simp [go_sem]
theorem fa71_2 (b : Nat) (w : World) : (Instr.fieldAt 83 (.pointer (some ⟨b, 0, none⟩)) 2).run Tryz.prog w = .ok (.pointer (some ⟨b, 2, none⟩)) w := by simp [go_sem]
theorem fa71_3 (b : Nat) (w : World) : (Instr.fieldAt 83 (.pointer (some ⟨b, 0, none⟩)) 3).run Tryz.prog w = .ok (.pointer (some ⟨b, 3, none⟩)) w := by simp [go_sem]
theorem fa71_4 (b : Nat) (w : World) : (Instr.fieldAt 83 (.pointer (some ⟨b, 0, none⟩)) 4).run Tryz.prog w = .ok (.pointer (some ⟨b, 4, none⟩)) w := by simp [go_sem]
theorem ld3 {b k : Nat} {n : Int} {w : World} (h : w.cell? ⟨b, k, none⟩ = some (.int .i64 n)) : (Instr.loadAt 3 (.pointer (some ⟨b, k, none⟩))).run Tryz.prog w = .ok (.int .i64 n) w := by simp [go_sem, h]
def op7c0 (pe us : Nat) : Nat → Value → World → Prop
  | 0 => IsV (.pointer (some ⟨pe, 0, none⟩))
  | 1 => IsV (.int .i64 (us : Int))
  | 2 => IsV (.bool false)
  | 3 => IsV (.bool false)
  | 4 => IsV undef
  | 5 => IsV undef
  | 6 => IsV undef
  | 7 => IsV undef
  | 8 => IsV undef
  | 9 => IsV undef
  | 10 => IsV undef
  | 11 => IsV undef
  | 12 => IsV undef
  | 13 => IsV undef
  | 14 => IsV (.bool false)
  | 15 => IsV (.bool false)
  | 16 => IsV undef
  | 17 => IsV undef
  | 18 => IsV undef
  | 19 => IsV undef
  | 20 => IsV undef
  | 21 => IsV undef
  | 22 => IsV (.bool false)
  | 23 => IsV (.bool false)
  | 24 => IsV undef
  | 25 => IsV undef
  | 26 => IsV undef
  | 27 => IsV undef
  | 28 => IsV undef
  | 29 => IsV undef
  | 30 => IsV (.bool false)
  | 31 => IsV (.bool false)
  | 32 => IsV undef
  | 33 => IsV undef
  | 34 => IsV undef
  | 35 => IsV undef
  | 36 => IsV undef
  | 37 => IsV undef
  | 38 => IsV (.bool false)
  | _ => fun _ _ => True
theorem op7c0_kept (pe us : Nat) : ∀ i v w w', op7c0 pe us i v w → Only [] w w' → op7c0 pe us i v w'
  | 0, _, _, _, h, _ => h
  | 1, _, _, _, h, _ => h
  | 2, _, _, _, h, _ => h
  | 3, _, _, _, h, _ => h
  | 4, _, _, _, h, _ => h
  | 5, _, _, _, h, _ => h
  | 6, _, _, _, h, _ => h
  | 7, _, _, _, h, _ => h
  | 8, _, _, _, h, _ => h
  | 9, _, _, _, h, _ => h
  | 10, _, _, _, h, _ => h
  | 11, _, _, _, h, _ => h
  | 12, _, _, _, h, _ => h
  | 13, _, _, _, h, _ => h
  | 14, _, _, _, h, _ => h
  | 15, _, _, _, h, _ => h
  | 16, _, _, _, h, _ => h
  | 17, _, _, _, h, _ => h
  | 18, _, _, _, h, _ => h
  | 19, _, _, _, h, _ => h
  | 20, _, _, _, h, _ => h
  | 21, _, _, _, h, _ => h
  | 22, _, _, _, h, _ => h
  | 23, _, _, _, h, _ => h
  | 24, _, _, _, h, _ => h
  | 25, _, _, _, h, _ => h
  | 26, _, _, _, h, _ => h
  | 27, _, _, _, h, _ => h
  | 28, _, _, _, h, _ => h
  | 29, _, _, _, h, _ => h
  | 30, _, _, _, h, _ => h
  | 31, _, _, _, h, _ => h
  | 32, _, _, _, h, _ => h
  | 33, _, _, _, h, _ => h
  | 34, _, _, _, h, _ => h
  | 35, _, _, _, h, _ => h
  | 36, _, _, _, h, _ => h
  | 37, _, _, _, h, _ => h
  | 38, _, _, _, h, _ => h
  | _ + 39, _, _, _, _, _ => trivial
def op7c1 (pe j us : Nat) (ut bs : List Nat) : Nat → Value → World → Prop
  | 0 => IsV (.pointer (some ⟨pe, 0, none⟩))
  | 1 => IsV (.int .i64 (us : Int))
  | 2 => IsV (.bool true)
  | 3 => IsV (.bool true)
  | 4 => IsV (.int .i64 (j : Int))
  | 5 => IsV (.int .i64 ((j + 1 : Nat) : Int))
  | 6 => IsV (.pointer (some ⟨pe, 4, none⟩))
  | 7 => SrcV [] ut
  | 8 => IsV (.int .i64 (ut.length : Int))
  | 9 => SrcV [] (Su.box (j + 1) ut.length)
  | 10 => IsV (.string (strB (Su.box (j + 1) ut.length)))
  | 11 => SrcV [] bs
  | 12 => IsV (.string (strB bs))
  | 13 => IsV (.bool false)
  | 14 => IsV (.bool false)
  | 15 => IsV (.bool false)
  | 16 => IsV undef
  | 17 => IsV undef
  | 18 => IsV undef
  | 19 => IsV undef
  | 20 => IsV undef
  | 21 => IsV undef
  | 22 => IsV (.bool false)
  | 23 => IsV (.bool false)
  | 24 => IsV undef
  | 25 => IsV undef
  | 26 => IsV undef
  | 27 => IsV undef
  | 28 => IsV undef
  | 29 => IsV undef
  | 30 => IsV (.bool false)
  | 31 => IsV (.bool false)
  | 32 => IsV undef
  | 33 => IsV undef
  | 34 => IsV undef
  | 35 => IsV undef
  | 36 => IsV undef
  | 37 => IsV undef
  | 38 => IsV (.bool false)
  | _ => fun _ _ => True
theorem op7c1_kept (pe j us : Nat) (ut bs : List Nat) : ∀ i v w w', op7c1 pe j us ut bs i v w → Only [] w w' → op7c1 pe j us ut bs i v w'
  | 0, _, _, _, h, _ => h
  | 1, _, _, _, h, _ => h
  | 2, _, _, _, h, _ => h
  | 3, _, _, _, h, _ => h
  | 4, _, _, _, h, _ => h
  | 5, _, _, _, h, _ => h
  | 6, _, _, _, h, _ => h
  | 7, _, _, _, h, ho => SrcV.kept h ho
  | 8, _, _, _, h, _ => h
  | 9, _, _, _, h, ho => SrcV.kept h ho
  | 10, _, _, _, h, _ => h
  | 11, _, _, _, h, ho => SrcV.kept h ho
  | 12, _, _, _, h, _ => h
  | 13, _, _, _, h, _ => h
  | 14, _, _, _, h, _ => h
  | 15, _, _, _, h, _ => h
  | 16, _, _, _, h, _ => h
  | 17, _, _, _, h, _ => h
  | 18, _, _, _, h, _ => h
  | 19, _, _, _, h, _ => h
  | 20, _, _, _, h, _ => h
  | 21, _, _, _, h, _ => h
  | 22, _, _, _, h, _ => h
  | 23, _, _, _, h, _ => h
  | 24, _, _, _, h, _ => h
  | 25, _, _, _, h, _ => h
  | 26, _, _, _, h, _ => h
  | 27, _, _, _, h, _ => h
  | 28, _, _, _, h, _ => h
  | 29, _, _, _, h, _ => h
  | 30, _, _, _, h, _ => h
  | 31, _, _, _, h, _ => h
  | 32, _, _, _, h, _ => h
  | 33, _, _, _, h, _ => h
  | 34, _, _, _, h, _ => h
  | 35, _, _, _, h, _ => h
  | 36, _, _, _, h, _ => h
  | 37, _, _, _, h, _ => h
  | 38, _, _, _, h, _ => h
  | _ + 39, _, _, _, _, _ => trivial
def op7c2 (pe j us : Nat) (uk ut k bs : List Nat) : Nat → Value → World → Prop
  | 0 => IsV (.pointer (some ⟨pe, 0, none⟩))
  | 1 => IsV (.int .i64 (us : Int))
  | 2 => IsV (.bool true)
  | 3 => IsV (.bool true)
  | 4 => IsV (.int .i64 (j : Int))
  | 5 => IsV (.int .i64 ((j + 1 : Nat) : Int))
  | 6 => IsV (.pointer (some ⟨pe, 4, none⟩))
  | 7 => SrcV [] ut
  | 8 => IsV (.int .i64 (ut.length : Int))
  | 9 => SrcV [] (Su.box (j + 1) ut.length)
  | 10 => IsV (.string (strB (Su.box (j + 1) ut.length)))
  | 11 => SrcV [] bs
  | 12 => IsV (.string (strB bs))
  | 13 => IsV (.bool true)
  | 14 => IsV (.bool true)
  | 15 => IsV (.bool true)
  | 16 => IsV (.pointer (some ⟨pe, 1, none⟩))
  | 17 => SrcV [] uk
  | 18 => IsV (.string (strB uk))
  | 19 => SrcV [] k
  | 20 => IsV (.string (strB k))
  | 21 => IsV (.bool false)
  | 22 => IsV (.bool false)
  | 23 => IsV (.bool false)
  | 24 => IsV undef
  | 25 => IsV undef
  | 26 => IsV undef
  | 27 => IsV undef
  | 28 => IsV undef
  | 29 => IsV undef
  | 30 => IsV (.bool false)
  | 31 => IsV (.bool false)
  | 32 => IsV undef
  | 33 => IsV undef
  | 34 => IsV undef
  | 35 => IsV undef
  | 36 => IsV undef
  | 37 => IsV undef
  | 38 => IsV (.bool false)
  | _ => fun _ _ => True
theorem op7c2_kept (pe j us : Nat) (uk ut k bs : List Nat) : ∀ i v w w', op7c2 pe j us uk ut k bs i v w → Only [] w w' → op7c2 pe j us uk ut k bs i v w'
  | 0, _, _, _, h, _ => h
  | 1, _, _, _, h, _ => h
  | 2, _, _, _, h, _ => h
  | 3, _, _, _, h, _ => h
  | 4, _, _, _, h, _ => h
  | 5, _, _, _, h, _ => h
  | 6, _, _, _, h, _ => h
  | 7, _, _, _, h, ho => SrcV.kept h ho
  | 8, _, _, _, h, _ => h
  | 9, _, _, _, h, ho => SrcV.kept h ho
  | 10, _, _, _, h, _ => h
  | 11, _, _, _, h, ho => SrcV.kept h ho
  | 12, _, _, _, h, _ => h
  | 13, _, _, _, h, _ => h
  | 14, _, _, _, h, _ => h
  | 15, _, _, _, h, _ => h
  | 16, _, _, _, h, _ => h
  | 17, _, _, _, h, ho => SrcV.kept h ho
  | 18, _, _, _, h, _ => h
  | 19, _, _, _, h, ho => SrcV.kept h ho
  | 20, _, _, _, h, _ => h
  | 21, _, _, _, h, _ => h
  | 22, _, _, _, h, _ => h
  | 23, _, _, _, h, _ => h
  | 24, _, _, _, h, _ => h
  | 25, _, _, _, h, _ => h
  | 26, _, _, _, h, _ => h
  | 27, _, _, _, h, _ => h
  | 28, _, _, _, h, _ => h
  | 29, _, _, _, h, _ => h
  | 30, _, _, _, h, _ => h
  | 31, _, _, _, h, _ => h
  | 32, _, _, _, h, _ => h
  | 33, _, _, _, h, _ => h
  | 34, _, _, _, h, _ => h
  | 35, _, _, _, h, _ => h
  | 36, _, _, _, h, _ => h
  | 37, _, _, _, h, _ => h
  | 38, _, _, _, h, _ => h
  | _ + 39, _, _, _, _, _ => trivial
def op7c3 (pe j us : Nat) (uk un ut k nn bs : List Nat) : Nat → Value → World → Prop
  | 0 => IsV (.pointer (some ⟨pe, 0, none⟩))
  | 1 => IsV (.int .i64 (us : Int))
  | 2 => IsV (.bool true)
  | 3 => IsV (.bool true)
  | 4 => IsV (.int .i64 (j : Int))
  | 5 => IsV (.int .i64 ((j + 1 : Nat) : Int))
  | 6 => IsV (.pointer (some ⟨pe, 4, none⟩))
  | 7 => SrcV [] ut
  | 8 => IsV (.int .i64 (ut.length : Int))
  | 9 => SrcV [] (Su.box (j + 1) ut.length)
  | 10 => IsV (.string (strB (Su.box (j + 1) ut.length)))
  | 11 => SrcV [] bs
  | 12 => IsV (.string (strB bs))
  | 13 => IsV (.bool true)
  | 14 => IsV (.bool true)
  | 15 => IsV (.bool true)
  | 16 => IsV (.pointer (some ⟨pe, 1, none⟩))
  | 17 => SrcV [] uk
  | 18 => IsV (.string (strB uk))
  | 19 => SrcV [] k
  | 20 => IsV (.string (strB k))
  | 21 => IsV (.bool true)
  | 22 => IsV (.bool true)
  | 23 => IsV (.bool true)
  | 24 => IsV (.pointer (some ⟨pe, 2, none⟩))
  | 25 => SrcV [] un
  | 26 => IsV (.string (strB un))
  | 27 => SrcV [] nn
  | 28 => IsV (.string (strB nn))
  | 29 => IsV (.bool false)
  | 30 => IsV (.bool false)
  | 31 => IsV (.bool false)
  | 32 => IsV undef
  | 33 => IsV undef
  | 34 => IsV undef
  | 35 => IsV undef
  | 36 => IsV undef
  | 37 => IsV undef
  | 38 => IsV (.bool false)
  | _ => fun _ _ => True
theorem op7c3_kept (pe j us : Nat) (uk un ut k nn bs : List Nat) : ∀ i v w w', op7c3 pe j us uk un ut k nn bs i v w → Only [] w w' → op7c3 pe j us uk un ut k nn bs i v w'
  | 0, _, _, _, h, _ => h
  | 1, _, _, _, h, _ => h
  | 2, _, _, _, h, _ => h
  | 3, _, _, _, h, _ => h
  | 4, _, _, _, h, _ => h
  | 5, _, _, _, h, _ => h
  | 6, _, _, _, h, _ => h
  | 7, _, _, _, h, ho => SrcV.kept h ho
  | 8, _, _, _, h, _ => h
  | 9, _, _, _, h, ho => SrcV.kept h ho
  | 10, _, _, _, h, _ => h
  | 11, _, _, _, h, ho => SrcV.kept h ho
  | 12, _, _, _, h, _ => h
  | 13, _, _, _, h, _ => h
  | 14, _, _, _, h, _ => h
  | 15, _, _, _, h, _ => h
  | 16, _, _, _, h, _ => h
  | 17, _, _, _, h, ho => SrcV.kept h ho
  | 18, _, _, _, h, _ => h
  | 19, _, _, _, h, ho => SrcV.kept h ho
  | 20, _, _, _, h, _ => h
  | 21, _, _, _, h, _ => h
  | 22, _, _, _, h, _ => h
  | 23, _, _, _, h, _ => h
  | 24, _, _, _, h, _ => h
  | 25, _, _, _, h, ho => SrcV.kept h ho
  | 26, _, _, _, h, _ => h
  | 27, _, _, _, h, ho => SrcV.kept h ho
  | 28, _, _, _, h, _ => h
  | 29, _, _, _, h, _ => h
  | 30, _, _, _, h, _ => h
  | 31, _, _, _, h, _ => h
  | 32, _, _, _, h, _ => h
  | 33, _, _, _, h, _ => h
  | 34, _, _, _, h, _ => h
  | 35, _, _, _, h, _ => h
  | 36, _, _, _, h, _ => h
  | 37, _, _, _, h, _ => h
  | 38, _, _, _, h, _ => h
  | _ + 39, _, _, _, _, _ => trivial
def op7c4 (pe j us : Nat) (uk un uo ut k nn o bs : List Nat) : Nat → Value → World → Prop
  | 0 => IsV (.pointer (some ⟨pe, 0, none⟩))
  | 1 => IsV (.int .i64 (us : Int))
  | 2 => IsV (.bool true)
  | 3 => IsV (.bool true)
  | 4 => IsV (.int .i64 (j : Int))
  | 5 => IsV (.int .i64 ((j + 1 : Nat) : Int))
  | 6 => IsV (.pointer (some ⟨pe, 4, none⟩))
  | 7 => SrcV [] ut
  | 8 => IsV (.int .i64 (ut.length : Int))
  | 9 => SrcV [] (Su.box (j + 1) ut.length)
  | 10 => IsV (.string (strB (Su.box (j + 1) ut.length)))
  | 11 => SrcV [] bs
  | 12 => IsV (.string (strB bs))
  | 13 => IsV (.bool true)
  | 14 => IsV (.bool true)
  | 15 => IsV (.bool true)
  | 16 => IsV (.pointer (some ⟨pe, 1, none⟩))
  | 17 => SrcV [] uk
  | 18 => IsV (.string (strB uk))
  | 19 => SrcV [] k
  | 20 => IsV (.string (strB k))
  | 21 => IsV (.bool true)
  | 22 => IsV (.bool true)
  | 23 => IsV (.bool true)
  | 24 => IsV (.pointer (some ⟨pe, 2, none⟩))
  | 25 => SrcV [] un
  | 26 => IsV (.string (strB un))
  | 27 => SrcV [] nn
  | 28 => IsV (.string (strB nn))
  | 29 => IsV (.bool true)
  | 30 => IsV (.bool true)
  | 31 => IsV (.bool true)
  | 32 => IsV (.pointer (some ⟨pe, 3, none⟩))
  | 33 => SrcV [] uo
  | 34 => IsV (.string (strB uo))
  | 35 => SrcV [] o
  | 36 => IsV (.string (strB o))
  | 37 => IsV (.bool false)
  | 38 => IsV (.bool false)
  | _ => fun _ _ => True
theorem op7c4_kept (pe j us : Nat) (uk un uo ut k nn o bs : List Nat) : ∀ i v w w', op7c4 pe j us uk un uo ut k nn o bs i v w → Only [] w w' → op7c4 pe j us uk un uo ut k nn o bs i v w'
  | 0, _, _, _, h, _ => h
  | 1, _, _, _, h, _ => h
  | 2, _, _, _, h, _ => h
  | 3, _, _, _, h, _ => h
  | 4, _, _, _, h, _ => h
  | 5, _, _, _, h, _ => h
  | 6, _, _, _, h, _ => h
  | 7, _, _, _, h, ho => SrcV.kept h ho
  | 8, _, _, _, h, _ => h
  | 9, _, _, _, h, ho => SrcV.kept h ho
  | 10, _, _, _, h, _ => h
  | 11, _, _, _, h, ho => SrcV.kept h ho
  | 12, _, _, _, h, _ => h
  | 13, _, _, _, h, _ => h
  | 14, _, _, _, h, _ => h
  | 15, _, _, _, h, _ => h
  | 16, _, _, _, h, _ => h
  | 17, _, _, _, h, ho => SrcV.kept h ho
  | 18, _, _, _, h, _ => h
  | 19, _, _, _, h, ho => SrcV.kept h ho
  | 20, _, _, _, h, _ => h
  | 21, _, _, _, h, _ => h
  | 22, _, _, _, h, _ => h
  | 23, _, _, _, h, _ => h
  | 24, _, _, _, h, _ => h
  | 25, _, _, _, h, ho => SrcV.kept h ho
  | 26, _, _, _, h, _ => h
  | 27, _, _, _, h, ho => SrcV.kept h ho
  | 28, _, _, _, h, _ => h
  | 29, _, _, _, h, _ => h
  | 30, _, _, _, h, _ => h
  | 31, _, _, _, h, _ => h
  | 32, _, _, _, h, _ => h
  | 33, _, _, _, h, ho => SrcV.kept h ho
  | 34, _, _, _, h, _ => h
  | 35, _, _, _, h, ho => SrcV.kept h ho
  | 36, _, _, _, h, _ => h
  | 37, _, _, _, h, _ => h
  | 38, _, _, _, h, _ => h
  | _ + 39, _, _, _, _, _ => trivial
def op7c5 (pe j us : Nat) (uk un uo ut k nn o bs : List Nat) : Nat → Value → World → Prop
  | 0 => IsV (.pointer (some ⟨pe, 0, none⟩))
  | 1 => IsV (.int .i64 (us : Int))
  | 2 => IsV (.bool true)
  | 3 => IsV (.bool true)
  | 4 => IsV (.int .i64 (j : Int))
  | 5 => IsV (.int .i64 ((j + 1 : Nat) : Int))
  | 6 => IsV (.pointer (some ⟨pe, 4, none⟩))
  | 7 => SrcV [] ut
  | 8 => IsV (.int .i64 (ut.length : Int))
  | 9 => SrcV [] (Su.box (j + 1) ut.length)
  | 10 => IsV (.string (strB (Su.box (j + 1) ut.length)))
  | 11 => SrcV [] bs
  | 12 => IsV (.string (strB bs))
  | 13 => IsV (.bool true)
  | 14 => IsV (.bool true)
  | 15 => IsV (.bool true)
  | 16 => IsV (.pointer (some ⟨pe, 1, none⟩))
  | 17 => SrcV [] uk
  | 18 => IsV (.string (strB uk))
  | 19 => SrcV [] k
  | 20 => IsV (.string (strB k))
  | 21 => IsV (.bool true)
  | 22 => IsV (.bool true)
  | 23 => IsV (.bool true)
  | 24 => IsV (.pointer (some ⟨pe, 2, none⟩))
  | 25 => SrcV [] un
  | 26 => IsV (.string (strB un))
  | 27 => SrcV [] nn
  | 28 => IsV (.string (strB nn))
  | 29 => IsV (.bool true)
  | 30 => IsV (.bool true)
  | 31 => IsV (.bool true)
  | 32 => IsV (.pointer (some ⟨pe, 3, none⟩))
  | 33 => SrcV [] uo
  | 34 => IsV (.string (strB uo))
  | 35 => SrcV [] o
  | 36 => IsV (.string (strB o))
  | 37 => IsV (.bool true)
  | 38 => IsV (.bool true)
  | _ => fun _ _ => True
theorem op7c5_kept (pe j us : Nat) (uk un uo ut k nn o bs : List Nat) : ∀ i v w w', op7c5 pe j us uk un uo ut k nn o bs i v w → Only [] w w' → op7c5 pe j us uk un uo ut k nn o bs i v w'
  | 0, _, _, _, h, _ => h
  | 1, _, _, _, h, _ => h
  | 2, _, _, _, h, _ => h
  | 3, _, _, _, h, _ => h
  | 4, _, _, _, h, _ => h
  | 5, _, _, _, h, _ => h
  | 6, _, _, _, h, _ => h
  | 7, _, _, _, h, ho => SrcV.kept h ho
  | 8, _, _, _, h, _ => h
  | 9, _, _, _, h, ho => SrcV.kept h ho
  | 10, _, _, _, h, _ => h
  | 11, _, _, _, h, ho => SrcV.kept h ho
  | 12, _, _, _, h, _ => h
  | 13, _, _, _, h, _ => h
  | 14, _, _, _, h, _ => h
  | 15, _, _, _, h, _ => h
  | 16, _, _, _, h, _ => h
  | 17, _, _, _, h, ho => SrcV.kept h ho
  | 18, _, _, _, h, _ => h
  | 19, _, _, _, h, ho => SrcV.kept h ho
  | 20, _, _, _, h, _ => h
  | 21, _, _, _, h, _ => h
  | 22, _, _, _, h, _ => h
  | 23, _, _, _, h, _ => h
  | 24, _, _, _, h, _ => h
  | 25, _, _, _, h, ho => SrcV.kept h ho
  | 26, _, _, _, h, _ => h
  | 27, _, _, _, h, ho => SrcV.kept h ho
  | 28, _, _, _, h, _ => h
  | 29, _, _, _, h, _ => h
  | 30, _, _, _, h, _ => h
  | 31, _, _, _, h, _ => h
  | 32, _, _, _, h, _ => h
  | 33, _, _, _, h, ho => SrcV.kept h ho
  | 34, _, _, _, h, _ => h
  | 35, _, _, _, h, ho => SrcV.kept h ho
  | 36, _, _, _, h, _ => h
  | 37, _, _, _, h, _ => h
  | 38, _, _, _, h, _ => h
  | _ + 39, _, _, _, _, _ => trivial
theorem frame22_7 {A F : Array Value} (hs : A.size = 79) (h : ∀ t, [38, 39, 40, 41, 42, 43, 44, 45, 46, 47, 48, 49, 50, 51, 52, 53, 54, 55, 56, 57, 58, 59, 60, 61, 62, 63, 64, 65, 66, 67, 68, 69, 70, 71, 72, 73, 74, 75, 76].contains t = false → A.getD t undef = F.getD t undef) : A = #[F.getD 0 undef, F.getD 1 undef, F.getD 2 undef, F.getD 3 undef, F.getD 4 undef, F.getD 5 undef, F.getD 6 undef, F.getD 7 undef, F.getD 8 undef, F.getD 9 undef, F.getD 10 undef, F.getD 11 undef, F.getD 12 undef, F.getD 13 undef, F.getD 14 undef, F.getD 15 undef, F.getD 16 undef, F.getD 17 undef, F.getD 18 undef, F.getD 19 undef, F.getD 20 undef, F.getD 21 undef, F.getD 22 undef, F.getD 23 undef, F.getD 24 undef, F.getD 25 undef, F.getD 26 undef, F.getD 27 undef, F.getD 28 undef, F.getD 29 undef, F.getD 30 undef, F.getD 31 undef, F.getD 32 undef, F.getD 33 undef, F.getD 34 undef, F.getD 35 undef, F.getD 36 undef, F.getD 37 undef, A.getD 38 undef, A.getD 39 undef, A.getD 40 undef, A.getD 41 undef, A.getD 42 undef, A.getD 43 undef, A.getD 44 undef, A.getD 45 undef, A.getD 46 undef, A.getD 47 undef, A.getD 48 undef, A.getD 49 undef, A.getD 50 undef, A.getD 51 undef, A.getD 52 undef, A.getD 53 undef, A.getD 54 undef, A.getD 55 undef, A.getD 56 undef, A.getD 57 undef, A.getD 58 undef, A.getD 59 undef, A.getD 60 undef, A.getD 61 undef, A.getD 62 undef, A.getD 63 undef, A.getD 64 undef, A.getD 65 undef, A.getD 66 undef, A.getD 67 undef, A.getD 68 undef, A.getD 69 undef, A.getD 70 undef, A.getD 71 undef, A.getD 72 undef, A.getD 73 undef, A.getD 74 undef, A.getD 75 undef, A.getD 76 undef, F.getD 77 undef, F.getD 78 undef] := by
  rw [← h 0 (by decide), ← h 1 (by decide), ← h 2 (by decide), ← h 3 (by decide), ← h 4 (by decide), ← h 5 (by decide), ← h 6 (by decide), ← h 7 (by decide), ← h 8 (by decide), ← h 9 (by decide), ← h 10 (by decide), ← h 11 (by decide), ← h 12 (by decide), ← h 13 (by decide), ← h 14 (by decide), ← h 15 (by decide), ← h 16 (by decide), ← h 17 (by decide), ← h 18 (by decide), ← h 19 (by decide), ← h 20 (by decide), ← h 21 (by decide), ← h 22 (by decide), ← h 23 (by decide), ← h 24 (by decide), ← h 25 (by decide), ← h 26 (by decide), ← h 27 (by decide), ← h 28 (by decide), ← h 29 (by decide), ← h 30 (by decide), ← h 31 (by decide), ← h 32 (by decide), ← h 33 (by decide), ← h 34 (by decide), ← h 35 (by decide), ← h 36 (by decide), ← h 37 (by decide), ← h 77 (by decide), ← h 78 (by decide)]
  refine Array.ext (by simp [hs]) (fun i h1 h2 => ?_)
  have e : A[i] = A.getD i undef := by simp [h1]
  rw [e]
  rw [hs] at h1
  clear e h hs
  match i, h1 with
  | 0, _ => rfl
  | 1, _ => rfl
  | 2, _ => rfl
  | 3, _ => rfl
  | 4, _ => rfl
  | 5, _ => rfl
  | 6, _ => rfl
  | 7, _ => rfl
  | 8, _ => rfl
  | 9, _ => rfl
  | 10, _ => rfl
  | 11, _ => rfl
  | 12, _ => rfl
  | 13, _ => rfl
  | 14, _ => rfl
  | 15, _ => rfl
  | 16, _ => rfl
  | 17, _ => rfl
  | 18, _ => rfl
  | 19, _ => rfl
  | 20, _ => rfl
  | 21, _ => rfl
  | 22, _ => rfl
  | 23, _ => rfl
  | 24, _ => rfl
  | 25, _ => rfl
  | 26, _ => rfl
  | 27, _ => rfl
  | 28, _ => rfl
  | 29, _ => rfl
  | 30, _ => rfl
  | 31, _ => rfl
  | 32, _ => rfl
  | 33, _ => rfl
  | 34, _ => rfl
  | 35, _ => rfl
  | 36, _ => rfl
  | 37, _ => rfl
  | 38, _ => rfl
  | 39, _ => rfl
  | 40, _ => rfl
  | 41, _ => rfl
  | 42, _ => rfl
  | 43, _ => rfl
  | 44, _ => rfl
  | 45, _ => rfl
  | 46, _ => rfl
  | 47, _ => rfl
  | 48, _ => rfl
  | 49, _ => rfl
  | 50, _ => rfl
  | 51, _ => rfl
  | 52, _ => rfl
  | 53, _ => rfl
  | 54, _ => rfl
  | 55, _ => rfl
  | 56, _ => rfl
  | 57, _ => rfl
  | 58, _ => rfl
  | 59, _ => rfl
  | 60, _ => rfl
  | 61, _ => rfl
  | 62, _ => rfl
  | 63, _ => rfl
  | 64, _ => rfl
  | 65, _ => rfl
  | 66, _ => rfl
  | 67, _ => rfl
  | 68, _ => rfl
  | 69, _ => rfl
  | 70, _ => rfl
  | 71, _ => rfl
  | 72, _ => rfl
  | 73, _ => rfl
  | 74, _ => rfl
  | 75, _ => rfl
  | 76, _ => rfl
  | 77, _ => rfl
  | 78, _ => rfl
  | _ + 79, h => exact absurd h (by omega)
end Go.Proofs.YtagdlpodpokmmaaGreatDoor.S7
