/- The contracts of EqualFunc over wraps and numbers, allows, fits and May. -/
import Derived.Test.YtmlnbbggfjgacaaP10Readers
import Derived.Test.YtmlnbbggfjgacaaE9RWV
namespace Go.Proofs.Ytmlnbbggfjgacaa.P10
open Go.RowKit C8 E9
/-- Numbers behind a slice. -/
def IntR (w : World) (q : Option Addr) (l : List Int) : Prop := ∀ j (h : j < l.length), ∃ b o, q = some ⟨b, o, none⟩ ∧ b < w.heap.size ∧ w.cell? ⟨b, o + j, none⟩ = some (.int .i64 l[j])
theorem IntR.below {w w' : World} {q : Option Addr} {l : List Int} (h : IntR w q l) (hb : Below w.heap.size w w') : IntR w' q l := fun j hj => by
  obtain ⟨b, o, h1, h2, h3⟩ := h j hj
  exact ⟨b, o, h1, Nat.lt_of_lt_of_le h2 hb.size, (hb.cell (p := ⟨b, o + j, none⟩) h2).trans h3⟩
theorem IntR.own {w : World} {B n c : Nat} {q : Option Addr} {l : List Int} (h : w.ownsRow B 3 1 (.slice q n c) l.length (intV l)) : IntR w q l := fun j hj => by
  obtain ⟨hl, ⟨e, h0⟩ | ⟨g, cap, cur, e, hg, hh, hnc, hm, hc, ht⟩⟩ := h
  · omega
  · cases e
    refine ⟨g, 0, rfl, (Array.getElem?_eq_some_iff.1 hh).1, ?_⟩
    have hx : (intV l)[j]? = some (.int .i64 l[j]) := by unfold intV; simp [hj]
    rw [cell_of_row _ _ _ _ _ _ hh, Nat.zero_add]
    rw [← ht, List.getElem?_take_of_lt (by omega)] at hx
    simpa using hx
set_option maxHeartbeats 1000000 in
theorem wrapped_any (x1 who : Int) (bp : Option Addr) (bl bc : Nat) (W : World) : Calls Try.prog 46 #[.agg #[.int .i64 x1, .slice bp bl bc], .int .i64 who] W fun e w' => e = .returned (.bool (x1 == who)) ∧ Below W.heap.size W w' := by
  have HB : Hid (∀ o, Below W.heap.size W (W.alloc o)) := fun o => bel_alloc (Nat.le_refl _) o
  go_enter Try.func46, Try.ntmps46
  go_wp2_with fail
  go_ret
  exact ⟨rfl, HB.out _⟩
theorem take_extM {α β : Type} {f : α → β} {a : List α} {b : List β} {j : Nat} (ha : j < a.length) (hb : j < b.length) (h : (a.take j).map f = b.take j) (he : f a[j] = b[j]) : (a.take (j + 1)).map f = b.take (j + 1) := by
  rw [List.take_succ_eq_append_getElem ha, List.take_succ_eq_append_getElem hb, List.map_append, h]
  simp [he]
set_option maxHeartbeats 4000000 in
theorem equalInts_any (ws : List (Int × List Nat)) (l : List Int) (qa qb : Option Addr) (ca cb : Nat) (w : World) (ha : WrRow w qa ws) (hb : IntR w qb l) (la : ws.length ≤ 9223372036854775807) :
    Calls Try.prog 45 #[.slice qa ws.length ca, .slice qb l.length cb, .func (.func 46) #[] #[]] w fun e w' => e = .returned (.bool (decide (ws.map (·.1) = l))) ∧ Below w.heap.size w w' := by
  have HA : Hid (WrRow w qa ws) := ha
  have HBR : Hid (IntR w qb l) := hb
  clear ha hb
  by_cases hn : ws.length = l.length
  · obtain ⟨n, HN⟩ : ∃ n, Hid (ws.length = n) := ⟨_, rfl⟩
    have HM : Hid (l.length = n) := hn.symm.trans HN.out
    obtain ⟨res, HR⟩ : ∃ res, Hid (decide (ws.map (·.1) = l) = res) := ⟨_, rfl⟩
    rw [HN.out] at la
    rw [HN.out, HM.out, HR.out]
    clear hn
    have l1 : (n : Int) ≤ 9223372036854775807 := by omega
    go_enter Try.func45, Try.ntmps45
    go_wp2_with fail
    go_loopw [17] (fun i wr => ∃ j : Nat, j ≤ n ∧ i = .int .i64 j ∧ Hid (Below w.heap.size w wr) ∧ Hid ((ws.take j).map (·.1) = l.take j)) (fun i _ => n - (intOf i).toNat)
    case atStart => exact ⟨0, by omega, rfl, Below.refl _ _, rfl⟩
    case round =>
      obtain ⟨j, hj, rfl, HB, HE⟩ := hrel
      by_cases hlt : j < n
      · have ja : j < ws.length := by rw [HN.out]; exact hlt
        have jb : j < l.length := by rw [HM.out]; exact hlt
        obtain ⟨b, o, bp, bc, rfl, k2, k3, k4, k5, k6⟩ := HA.out j ja
        obtain ⟨b', o', rfl, m2, m3⟩ := HBR.out j jb
        have d0 := (HB.out.cell (p := ⟨b, o + j * 2, none⟩) k2).trans k3
        have d1 := (HB.out.cell (p := ⟨b, o + j * 2 + 1, none⟩) k2).trans k4
        have f0 : ∀ ob, (wr.alloc ob).cell? ⟨b', o' + j, none⟩ = _ := fun ob => ((HB.out.trans (bel_alloc HB.out.size ob)).cell (p := ⟨b', o' + j, none⟩) m2).trans m3
        have j1 : (j : Int) < (n : Int) := by omega
        have j0 : (0 : Int) ≤ (j : Int) := by omega
        have HS : ∀ W, Hid (Below wr.heap.size wr W) → Calls Try.prog 46 #[.agg #[.int .i64 ws[j].1, .slice bp ws[j].2.length bc], .int .i64 l[j]] W fun e w' => e = .returned (.bool (ws[j].1 == l[j])) ∧ Hid (Below w.heap.size w w') := fun W hW =>
          have hB : Below w.heap.size w W := HB.out.trans (bel_le hW.out HB.out.size)
          (wrapped_any _ _ _ _ _ W).mono (by
            rintro e w' ⟨rfl, h⟩
            exact ⟨rfl, hB.trans (bel_le h hB.size)⟩)
        have HW : Hid (∀ o1, Below wr.heap.size wr (wr.alloc o1)) := fun o1 => bel_alloc (Nat.le_refl _) o1
        clear k3 k4 k5 k6 m3
        by_cases he : ws[j].1 = l[j]
        · have HE2 : Hid ((ws.take (j + 1)).map (·.1) = l.take (j + 1)) := take_extM ja jb HE.out he
          rw [show (ws[j].1 == l[j]) = true from by simp [he]] at HS
          clear he HE
          generalize ws[j] = x at *
          generalize l[j] = y at *
          obtain ⟨x1, x2⟩ := x
          simp only at d0 d1 f0 HS
          generalize x2.length = xl at *
          clear ja jb
          go_wp2_with (first | (go_at_call 46; refine (HS _ (HW.out _)).mono ?_; rintro e w1 ⟨rfl, HB1⟩))
          refine ⟨⟨j + 1, by omega, by simp, HB1, HE2⟩, ?_⟩
          simp only [intOf]
          omega
        · have HF : Hid (res = false) := by
            show res = false
            rw [← HR.out]
            apply decide_eq_false
            intro e
            apply he
            have : (ws.map (·.1))[j]'(by simpa using ja) = l[j] := by simp only [e]
            simpa using this
          rw [show (ws[j].1 == l[j]) = false from by simp [he]] at HS
          clear he HE
          generalize ws[j] = x at *
          generalize l[j] = y at *
          obtain ⟨x1, x2⟩ := x
          simp only at d0 d1 f0 HS
          generalize x2.length = xl at *
          clear ja jb
          go_wp2_with (first | (go_at_call 46; refine (HS _ (HW.out _)).mono ?_; rintro e w1 ⟨rfl, HB1⟩))
          go_ret
          exact ⟨by rw [HF.out]; rfl, HB1.out⟩
      · obtain rfl : j = n := by omega
        have j1 : ¬ (j : Int) < (j : Int) := by omega
        have HF : Hid (res = true) := by
          show res = true
          rw [← HR.out]
          apply decide_eq_true
          have := HE.out
          rwa [List.take_of_length_le (by rw [HN.out]; omega), List.take_of_length_le (by rw [HM.out]; omega)] at this
        go_wp2_with fail
        go_ret
        exact ⟨by rw [HF.out]; rfl, HB.out⟩
  · have HF : decide (ws.map (·.1) = l) = false := by
      apply decide_eq_false
      intro e
      apply hn
      rw [← e, List.length_map]
    rw [HF]
    generalize ws.length = n at *
    generalize l.length = m at *
    have h1 : ((n : Int) != (m : Int)) = true := by simp; omega
    clear HF
    go_enter Try.func45, Try.ntmps45
    go_wp2_with fail
    go_ret
    exact ⟨rfl, Below.refl _ _⟩
/-- The readers' row. -/
def RdV (l : List Int) (v : Value) (w : World) : Prop := ∃ q c, v = .slice q l.length c ∧ IntR w q l
theorem RdV.kept {l : List Int} {v : Value} {w w' : World} (h : RdV l v w) (ho : Only [] w w') : RdV l v w' := by
  obtain ⟨q, c, rfl, h⟩ := h
  exact ⟨q, c, rfl, h.below (ho.below (Nat.le_refl _) (by simp))⟩
section
variable {o : Oper} {a' : Act} {w' : World}
theorem fa38_7 (b : Nat) (w : World) : (Instr.fieldAt 38 (.pointer (some ⟨b, 0, none⟩)) 7).run Try.prog w = .ok (.pointer (some ⟨b, 7, none⟩)) w := by simp [go_sem]
theorem fa38_8 (b : Nat) (w : World) : (Instr.fieldAt 38 (.pointer (some ⟨b, 0, none⟩)) 8).run Try.prog w = .ok (.pointer (some ⟨b, 8, none⟩)) w := by simp [go_sem]
theorem fa26_1 (b : Nat) (w : World) : (Instr.fieldAt 26 (.pointer (some ⟨b, 0, none⟩)) 1).run Try.prog w = .ok (.pointer (some ⟨b, 1, none⟩)) w := by simp [go_sem]
theorem ld36 {b k : Nat} {q : Option Addr} {n c : Nat} {w : World} (h : w.cell? ⟨b, k, none⟩ = some (.slice q n c)) : (Instr.loadAt 36 (.pointer (some ⟨b, k, none⟩))).run Try.prog w = .ok (.slice q n c) w := by simp [go_sem, h]
theorem ld26 {b : Nat} {cs : Array Value} {t : TypeId} {fr : Nat × Nat} {w : World} (h : w.heap[b]? = some (.cells cs t fr) ∧ cs.size = 3) : (Instr.loadAt 26 (.pointer (some ⟨b, 0, none⟩))).run Try.prog w = .ok (.agg cs) w := by
  simp only [Instr.loadAt, Instr.sureAddr, Sem.run_bind, Sem.run_pure, Result.andThen_ok, run_loadVar_row (P := Try.prog) w b t 26 cs fr _ h.1 Try.underlying26 rfl (by rw [h.2]; kernel_rfl)]
theorem addK_run (s : Tmp) (x y : Int) (ho : o.op = .binOp .add 3 (.tmp s) (.const (.int .i64 y)) 3) (h0 : a'.tmps.getD s undef = .int .i64 x) : (execOp a'.eval o).run Try.prog w' = .ok (.value (.int .i64 (IntKind.i64.wrap (x + y)))) w' := by
  have he : a'.eval (.tmp s) = .int .i64 x := h0
  have hf : a'.eval (.const (.int .i64 y)) = .int .i64 y := rfl
  unfold execOp
  simp only [ho]
  rw [he, hf]
  simp [go_sem]
theorem eqlN_run (s t : Tmp) (x y : Int) (ho : o.op = .binOp .eql 3 (.tmp s) (.tmp t) 3) (h0 : a'.tmps.getD s undef = .int .i64 x) (h1 : a'.tmps.getD t undef = .int .i64 y) : (execOp a'.eval o).run Try.prog w' = .ok (.value (.bool (x == y))) w' := by
  have he : a'.eval (.tmp s) = .int .i64 x := h0
  have hf : a'.eval (.tmp t) = .int .i64 y := h1
  unfold execOp
  simp only [ho]
  rw [he, hf]
  simp [go_sem]
end
def fit1 (CP : Array Value) (p2 p3 : Nat) (ep pe pe1 : Int) (q : Option Addr) (l9 c : Nat) (l : List Int) (sm : Bool) : Nat → Value → World → Prop
  | 0 => IsV (.pointer (some ⟨p3, 7, none⟩))
  | 1 => IsV (.int .i64 ep)
  | 2 => IsV (.pointer (some ⟨p2, 1, none⟩))
  | 3 => IsV (.int .i64 pe)
  | 4 => IsV (.int .i64 pe1)
  | 5 => IsV (.bool true)
  | 6 => IsV (.bool true)
  | 7 => IsV (.pointer (some ⟨p3, 8, none⟩))
  | 8 => IsV (.slice q l9 c)
  | 9 => IsV (.agg CP)
  | 10 => RdV l
  | 11 => IsV (.bool sm)
  | 12 => IsV (.bool sm)
  | 13 => IsV (.bool sm)
  | _ => fun _ _ => True
theorem fit1_kept (CP : Array Value) (p2 p3 : Nat) (ep pe pe1 : Int) (q : Option Addr) (l9 c : Nat) (l : List Int) (sm : Bool) : ∀ i v w w', fit1 CP p2 p3 ep pe pe1 q l9 c l sm i v w → Only [] w w' → fit1 CP p2 p3 ep pe pe1 q l9 c l sm i v w'
  | 0, _, _, _, h, _ => h
  | 1, _, _, _, h, _ => h
  | 2, _, _, _, h, _ => h
  | 3, _, _, _, h, _ => h
  | 4, _, _, _, h, _ => h
  | 5, _, _, _, h, _ => h
  | 6, _, _, _, h, _ => h
  | 7, _, _, _, h, _ => h
  | 8, _, _, _, h, _ => h
  | 9, _, _, _, h, _ => h
  | 10, _, _, _, h, ho => RdV.kept h ho
  | 11, _, _, _, h, _ => h
  | 12, _, _, _, h, _ => h
  | 13, _, _, _, h, _ => h
  | _ + 14, _, _, _, _, _ => trivial
def fit0 (p2 p3 : Nat) (ep pe pe1 : Int) : Nat → Value → World → Prop
  | 0 => IsV (.pointer (some ⟨p3, 7, none⟩))
  | 1 => IsV (.int .i64 ep)
  | 2 => IsV (.pointer (some ⟨p2, 1, none⟩))
  | 3 => IsV (.int .i64 pe)
  | 4 => IsV (.int .i64 pe1)
  | 5 => IsV (.bool false)
  | 6 => IsV (.bool false)
  | 7 => IsV undef
  | 8 => IsV undef
  | 9 => IsV undef
  | 10 => IsV undef
  | 11 => IsV undef
  | 12 => IsV (.bool false)
  | 13 => IsV (.bool false)
  | _ => fun _ _ => True
theorem fit0_kept (p2 p3 : Nat) (ep pe pe1 : Int) : ∀ i v w w', fit0 p2 p3 ep pe pe1 i v w → Only [] w w' → fit0 p2 p3 ep pe pe1 i v w'
  | 0, _, _, _, h, _ => h
  | 1, _, _, _, h, _ => h
  | 2, _, _, _, h, _ => h
  | 3, _, _, _, h, _ => h
  | 4, _, _, _, h, _ => h
  | 5, _, _, _, h, _ => h
  | 6, _, _, _, h, _ => h
  | 7, _, _, _, h, _ => h
  | 8, _, _, _, h, _ => h
  | 9, _, _, _, h, _ => h
  | 10, _, _, _, h, _ => h
  | 11, _, _, _, h, _ => h
  | 12, _, _, _, h, _ => h
  | 13, _, _, _, h, _ => h
  | _ + 14, _, _, _, _, _ => trivial
theorem frame33 {A F : Array Value} (hs : A.size = 18) (h : ∀ t, [4, 5, 6, 7, 8, 9, 10, 11, 12, 13, 14, 15, 16, 17].contains t = false → A.getD t undef = F.getD t undef) : A = #[F.getD 0 undef, F.getD 1 undef, F.getD 2 undef, F.getD 3 undef, A.getD 4 undef, A.getD 5 undef, A.getD 6 undef, A.getD 7 undef, A.getD 8 undef, A.getD 9 undef, A.getD 10 undef, A.getD 11 undef, A.getD 12 undef, A.getD 13 undef, A.getD 14 undef, A.getD 15 undef, A.getD 16 undef, A.getD 17 undef] := by
  rw [← h 0 (by decide), ← h 1 (by decide), ← h 2 (by decide), ← h 3 (by decide)]
  refine Array.ext (by simp [hs]) (fun i h1 h2 => ?_)
  have e : A[i] = A.getD i undef := by simp [h1]
  rw [e]
  rw [hs] at h1
  clear e h hs
  match i, h1 with
  | 0, _ => rfl
  | 1, _ => rfl
  | 2, _ => rfl
  | 3, _ => rfl
  | 4, _ => rfl
  | 5, _ => rfl
  | 6, _ => rfl
  | 7, _ => rfl
  | 8, _ => rfl
  | 9, _ => rfl
  | 10, _ => rfl
  | 11, _ => rfl
  | 12, _ => rfl
  | 13, _ => rfl
  | 14, _ => rfl
  | 15, _ => rfl
  | 16, _ => rfl
  | 17, _ => rfl
  | _ + 18, h => exact absurd h (by omega)
/-- A policy and an entry in the boxes that a call began with. -/
structure B2 (w W : World) (P E : Array Value) : Prop where
  bel : Below w.heap.size w W
  box : W.heap[w.heap.size]? = some (.cells P 26 (0, 0))
  boe : W.heap[w.heap.size + 1]? = some (.cells E 38 (0, 0))
theorem B2.step {w W W' : World} {P E : Array Value} (h : B2 w W P E) (hb : Below W.heap.size W W') : B2 w W' P E :=
  ⟨h.bel.trans (bel_le hb h.bel.size), (hb.block _ (Array.getElem?_eq_some_iff.1 h.box).1).trans h.box, (hb.block _ (Array.getElem?_eq_some_iff.1 h.boe).1).trans h.boe⟩
theorem B2.start (w : World) (P E : Array Value) : B2 w ((w.alloc (.cells P 26)).alloc (.cells E 38)) P E :=
  ⟨(bel_alloc (Nat.le_refl _) _).trans (bel_alloc (by simp) _), heap_alloc2_old w _ _, heap_alloc2_new w _ _⟩
theorem B2.pcells {w W : World} {E : Array Value} {x0 x1 x2 : Value} (h : B2 w W #[x0, x1, x2] E) : W.cell? ⟨w.heap.size, 0, none⟩ = some (x0) ∧ W.cell? ⟨w.heap.size, 1, none⟩ = some (x1) ∧ W.cell? ⟨w.heap.size, 2, none⟩ = some (x2) := by
  refine ⟨?_, ?_, ?_⟩ <;> (rw [cell_of_row _ _ _ _ _ _ h.box]; rfl)
theorem B2.ecells {w W : World} {P : Array Value} {x0 x1 x2 x3 x4 x5 x6 x7 x8 : Value} (h : B2 w W P #[x0, x1, x2, x3, x4, x5, x6, x7, x8]) : W.cell? ⟨(w.heap.size + 1), 0, none⟩ = some (x0) ∧ W.cell? ⟨(w.heap.size + 1), 1, none⟩ = some (x1) ∧ W.cell? ⟨(w.heap.size + 1), 2, none⟩ = some (x2) ∧ W.cell? ⟨(w.heap.size + 1), 3, none⟩ = some (x3) ∧ W.cell? ⟨(w.heap.size + 1), 4, none⟩ = some (x4) ∧ W.cell? ⟨(w.heap.size + 1), 5, none⟩ = some (x5) ∧ W.cell? ⟨(w.heap.size + 1), 6, none⟩ = some (x6) ∧ W.cell? ⟨(w.heap.size + 1), 7, none⟩ = some (x7) ∧ W.cell? ⟨(w.heap.size + 1), 8, none⟩ = some (x8) := by
  refine ⟨?_, ?_, ?_, ?_, ?_, ?_, ?_, ?_, ?_⟩ <;> (rw [cell_of_row _ _ _ _ _ _ h.boe]; rfl)
/-- A rotate fits. -/
def fits (p : Pol) (e : En) : Bool := decide (e.epoch = p.e + 1) && decide (e.wraps.map (·.1) = rdrs p.ms)
set_option maxHeartbeats 4000000 in
theorem fits_y (p : Pol) (e : En) (vp0 ve0 : Value) (w : World) (hp : PolIs w vp0 p) (hE : EnIs w ve0 e) (hm : mok 0 p.ms = true) (h0 : p.ms ≠ []) (h16 : 0 ≤ p.e ∧ p.e ≤ 16) (he : e.epoch = p.e + 1) :
    Calls Try.prog 33 #[vp0, ve0] w fun x w' => x = .returned (.bool (decide (e.wraps.map (·.1) = rdrs p.ms))) ∧ Below w.heap.size w w' := by
  have hP := hp
  obtain ⟨mq, mc, rfl, -, -⟩ := hp
  have hEE := hE
  obtain ⟨np, nc, vp, vc, q, c, rfl, -⟩ := hE
  have HST : Hid (B2 w ((w.alloc (.cells (PolV p mq mc) 26)).alloc (.cells (EnV e np nc vp vc q c) 38)) (PolV p mq mc) (EnV e np nc vp vc q c)) := B2.start w _ _
  have HRD : Hid (∀ W, Below w.heap.size w W → Calls Try.prog 22 #[.agg (PolV p mq mc)] W fun x u => ∃ v, x = .returned v ∧ RdV (rdrs p.ms) v u ∧ Below W.heap.size W u) := fun W hW => (Readers_any p _ W (hP.below hW) hm h0).mono (by
    rintro x u ⟨v, rfl, h1, h2⟩
    obtain ⟨q1, c1, rfl⟩ := own_slice h1
    exact ⟨_, rfl, ⟨q1, c1, rfl, IntR.own h1⟩, h2⟩)
  have HEQ0 : Hid (∀ W, Below w.heap.size w W → ∀ v, RdV (rdrs p.ms) v W → Calls Try.prog 45 #[.slice q e.wraps.length c, v, .func (.func 46) #[] #[]] W fun x u => x = .returned (.bool (decide (e.wraps.map (·.1) = rdrs p.ms))) ∧ Below W.heap.size W u) := fun W hW v hv => by
    obtain ⟨q1, c1, rfl, h1⟩ := hv
    obtain ⟨np', nc', vp', vc', q', c', eq, hat⟩ := hEE.below hW
    have e9 := congrArg (fun x => match x with | .agg a => a[8]? | _ => none) eq
    simp only [EnV] at e9
    have e9' : Value.slice q e.wraps.length c = Value.slice q' e.wraps.length c' := by simpa using e9
    cases e9'
    exact equalInts_any e.wraps (rdrs p.ms) q q1 c c1 W hat.wraps h1 hat.lw
  clear hP hEE hm h0
  generalize decide (e.wraps.map (·.1) = rdrs p.ms) = sm at *
  generalize rdrs p.ms = l at *
  obtain ⟨pf, pe, ms⟩ := p
  obtain ⟨e1, e2, e3, e4, e5, e6, e7, ep, e9⟩ := e
  simp only [PolV, EnV] at *
  generalize ms.length = ml at *
  generalize e4.length = l4 at *
  generalize e5.length = l5 at *
  generalize e9.length = l9 at *
  obtain ⟨pe1, HPE⟩ : ∃ pe1, Hid (IntKind.i64.wrap (pe + 1) = pe1) := ⟨_, rfl⟩
  have HEQ : Hid ((ep == pe1) = true) := by
    have : pe1 = pe + 1 := by rw [← HPE.out, IntKind.wrap_i64]; omega
    show (ep == pe1) = true
    rw [this]
    simp [he]
  clear he h16
  go_enter Try.func33, Try.ntmps33
  go_wp2_with fail
  obtain ⟨W0, HW0⟩ : ∃ W0, Hid ((w.alloc (.cells #[.int .i64 pf, .int .i64 pe, .slice mq ml mc] 26)).alloc (.cells #[.int .i64 e1, .int .i64 e2, .int .i64 e3, .slice np l4 nc, .slice vp l5 vc, .int .i64 e6, .int .i64 e7, .int .i64 ep, .slice q l9 c] 38) = W0) := ⟨_, rfl⟩
  rw [HW0.out] at HST
  rw [HW0.out]
  obtain ⟨CP, HCP⟩ : ∃ CP : Array Value, Hid (#[.int .i64 pf, .int .i64 pe, .slice mq ml mc] = CP) := ⟨_, rfl⟩
  obtain ⟨p2, HP2⟩ : ∃ p2, Hid (w.heap.size = p2) := ⟨_, rfl⟩
  obtain ⟨p3, HP3⟩ : ∃ p3, Hid (w.heap.size + 1 = p3) := ⟨_, rfl⟩
  have HBL : Hid (∀ w', Only [] W0 w' → Below w.heap.size w w' ∧ B2 w w' #[.int .i64 pf, .int .i64 pe, .slice mq ml mc] #[.int .i64 e1, .int .i64 e2, .int .i64 e3, .slice np l4 nc, .slice vp l5 vc, .int .i64 e6, .int .i64 e7, .int .i64 ep, .slice q l9 c]) := fun w' ho => ⟨(HST.out.step (ho.below (Nat.le_refl _) (by simp))).bel, HST.out.step (ho.below (Nat.le_refl _) (by simp))⟩
  have HX : Hid (∀ w', Only [] W0 w' → w'.cell? ⟨p3, 7, none⟩ = some (.int .i64 ep) ∧ w'.cell? ⟨p2, 1, none⟩ = some (.int .i64 pe) ∧ w'.cell? ⟨p3, 8, none⟩ = some (.slice q l9 c) ∧ w'.heap[p2]? = some (.cells CP 26 (0, 0)) ∧ CP.size = 3) := by
    rw [← HP2.out, ← HP3.out, ← HCP.out]
    exact fun w' ho => have h := (HBL.out w' ho).2; ⟨h.ecells.2.2.2.2.2.2.2.1, h.pcells.2.1, h.ecells.2.2.2.2.2.2.2.2, h.box, rfl⟩
  have HC22 : Hid (∀ w', Only [] W0 w' → Calls Try.prog 22 #[.agg CP] w' fun x u => ∃ v, x = .returned v ∧ RdV l v u ∧ Below w'.heap.size w' u) := by
    rw [← HCP.out]
    exact fun w' ho => HRD.out w' (HBL.out w' ho).1
  have HC45 : Hid (∀ w', Only [] W0 w' → ∀ v, RdV l v w' → Calls Try.prog 45 #[.slice q l9 c, v, .func (.func 46) #[] #[]] w' fun x u => x = .returned (.bool sm) ∧ Below w'.heap.size w' u) := fun w' ho v hv => HEQ0.out w' (HBL.out w' ho).1 v hv
  have HFI : Hid (∀ w', Only [] W0 w' → Below w.heap.size w w') := fun w' ho => (HBL.out w' ho).1
  rw [HP3.out, HP2.out]
  clear HRD HEQ0 HST HW0 HBL HP2 HP3 HCP
  have RB : ∀ k w w', Below w.heap.size w w' → (fun (_ : Nat) (_ : World) => True) k w → (fun (_ : Nat) (_ : World) => True) k w' := fun _ _ _ _ _ => trivial
  refine wp_region_st (fit1 CP p2 p3 ep pe pe1 q l9 c l sm) (fun u u' => Only [] u u') (SeqS [] (fun (_ : Nat) (_ : World) => True)) (by kernel_rfl) (only_drew _ _) (only_trans _) (fit1_kept CP p2 p3 ep pe pe1 q l9 c l sm) (by kernel_rfl) (SeqS.start (trivial)) ?_ ?_
  · intro i o a' w' f hi inv hS hfi hfw hpre
    have ho : Only [] W0 w' := inv.grow
    have hlt : i < 14 := (Array.getElem?_eq_some_iff.1 hi).1
    obtain rfl|rfl|rfl|rfl|rfl|rfl|rfl|rfl|rfl|rfl|rfl|rfl|rfl|rfl : i = 0 ∨ i = 1 ∨ i = 2 ∨ i = 3 ∨ i = 4 ∨ i = 5 ∨ i = 6 ∨ i = 7 ∨ i = 8 ∨ i = 9 ∨ i = 10 ∨ i = 11 ∨ i = 12 ∨ i = 13 := by omega
    · obtain rfl := Option.some.inj hi
      have h0 : a'.tmps.getD 3 undef = (.pointer (some ⟨p3, 0, none⟩)) := by rw [inv.old 3 (notDst_spec (by kernel_rfl))]; rfl
      exact sq_value _ rfl rfl (fa_run 38 7 3 p3 rfl h0 (fa38_7 p3)) (Below.refl _ _) (by decide) hS RB rfl
    · obtain rfl := Option.some.inj hi
      have h0 : a'.tmps.getD 5 undef = _ := pre_of hpre 0 5 (by kernel_rfl) (by kernel_rfl)
      exact sq_value _ rfl rfl (load_run 3 5 p3 (7) _ rfl h0 (ld3 ((HX.out w' ho).1))) (Below.refl _ _) (by decide) hS RB rfl
    · obtain rfl := Option.some.inj hi
      have h0 : a'.tmps.getD 2 undef = (.pointer (some ⟨p2, 0, none⟩)) := by rw [inv.old 2 (notDst_spec (by kernel_rfl))]; rfl
      exact sq_value _ rfl rfl (fa_run 26 1 2 p2 rfl h0 (fa26_1 p2)) (Below.refl _ _) (by decide) hS RB rfl
    · obtain rfl := Option.some.inj hi
      have h0 : a'.tmps.getD 7 undef = _ := pre_of hpre 2 7 (by kernel_rfl) (by kernel_rfl)
      exact sq_value _ rfl rfl (load_run 3 7 p2 (1) _ rfl h0 (ld3 ((HX.out w' ho).2.1))) (Below.refl _ _) (by decide) hS RB rfl
    · obtain rfl := Option.some.inj hi
      have h0 : a'.tmps.getD 8 undef = _ := pre_of hpre 3 8 (by kernel_rfl) (by kernel_rfl)
      exact sq_value _ rfl rfl (addK_run 8 _ _ rfl h0) (Below.refl _ _) (by decide) hS RB (by show Value.int _ _ = _; rw [HPE.out])
    · obtain rfl := Option.some.inj hi
      have h0 : a'.tmps.getD 6 undef = _ := pre_of hpre 1 6 (by kernel_rfl) (by kernel_rfl)
      have h1 : a'.tmps.getD 9 undef = _ := pre_of hpre 4 9 (by kernel_rfl) (by kernel_rfl)
      exact sq_value _ rfl rfl (eqlN_run 6 9 _ _ rfl h0 h1) (Below.refl _ _) (by decide) hS RB (by show Value.bool _ = _; simp only [HEQ.out])
    · obtain rfl := Option.some.inj hi
      have h0 := pre_of hpre 5 10 (by kernel_rfl) (by kernel_rfl)
      exact sq_value _ rfl rfl (rfl) (Below.refl _ _) (by decide) hS RB h0
    · obtain rfl := Option.some.inj hi
      have hgu : a'.tmps.getD 11 undef = _ := pre_of hpre 6 11 (by kernel_rfl) (by kernel_rfl)
      have h0 : a'.tmps.getD 3 undef = (.pointer (some ⟨p3, 0, none⟩)) := by rw [inv.old 3 (notDst_spec (by kernel_rfl))]; rfl
      exact sq_value _ rfl (wanted_of 6 11 true rfl (by kernel_rfl) hgu) (fa_run 38 8 3 p3 rfl h0 (fa38_8 p3)) (Below.refl _ _) (by decide) hS RB rfl
    · obtain rfl := Option.some.inj hi
      have hgu : a'.tmps.getD 11 undef = _ := pre_of hpre 6 11 (by kernel_rfl) (by kernel_rfl)
      have h0 : a'.tmps.getD 12 undef = _ := pre_of hpre 7 12 (by kernel_rfl) (by kernel_rfl)
      exact sq_value _ rfl (wanted_of 6 11 true rfl (by kernel_rfl) hgu) (load_run 36 12 p3 (8) _ rfl h0 (ld36 ((HX.out w' ho).2.2.1))) (Below.refl _ _) (by decide) hS RB rfl
    · obtain rfl := Option.some.inj hi
      have hgu : a'.tmps.getD 11 undef = _ := pre_of hpre 6 11 (by kernel_rfl) (by kernel_rfl)
      have h0 : a'.tmps.getD 2 undef = (.pointer (some ⟨p2, 0, none⟩)) := by rw [inv.old 2 (notDst_spec (by kernel_rfl))]; rfl
      exact sq_value _ rfl (wanted_of 6 11 true rfl (by kernel_rfl) hgu) (load_run 26 2 p2 (0) _ rfl h0 (ld26 ((HX.out w' ho).2.2.2))) (Below.refl _ _) (by decide) hS RB rfl
    · obtain rfl := Option.some.inj hi
      have hgu : a'.tmps.getD 11 undef = _ := pre_of hpre 6 11 (by kernel_rfl) (by kernel_rfl)
      have h0 : a'.tmps.getD 14 undef = _ := pre_of hpre 9 14 (by kernel_rfl) (by kernel_rfl)
      refine sq_quiet 22 #[a'.tmps.getD 14 undef] rfl (wanted_of 6 11 true rfl (by kernel_rfl) hgu) (by kernel_rfl) (by decide) hS ?_
      rw [h0]
      exact (HC22.out w' ho).mono (by rintro e u ⟨v, rfl, h1, h2⟩; exact ⟨_, rfl, Only.of_below h2 _, (fun _ h => h), h1⟩)
    · obtain rfl := Option.some.inj hi
      have hgu : a'.tmps.getD 11 undef = _ := pre_of hpre 6 11 (by kernel_rfl) (by kernel_rfl)
      have h0 : a'.tmps.getD 13 undef = _ := pre_of hpre 8 13 (by kernel_rfl) (by kernel_rfl)
      have h1 := pre_of hpre 10 15 (by kernel_rfl) (by kernel_rfl)
      refine sq_quiet 45 #[a'.tmps.getD 13 undef, a'.tmps.getD 15 undef, .func (.func 46) #[] #[]] rfl (wanted_of 6 11 true rfl (by kernel_rfl) hgu) (by kernel_rfl) (by decide) hS ?_
      rw [h0]
      exact (HC45.out w' ho _ h1).mono (by rintro e u ⟨rfl, h2⟩; exact ⟨_, rfl, Only.of_below h2 _, (fun _ h => h), rfl⟩)
    · obtain rfl := Option.some.inj hi
      have h0 : a'.tmps.getD 11 undef = _ := pre_of hpre 6 11 (by kernel_rfl) (by kernel_rfl)
      have h1 : a'.tmps.getD 16 undef = _ := pre_of hpre 11 16 (by kernel_rfl) (by kernel_rfl)
      exact sq_value _ rfl rfl (pick_run 11 true _ _ _ _ rfl h0 h1 rfl) (Below.refl _ _) (by decide) hS RB rfl
    · obtain rfl := Option.some.inj hi
      have h0 := pre_of hpre 12 17 (by kernel_rfl) (by kernel_rfl)
      exact sq_value _ rfl rfl (rfl) (Below.refl _ _) (by decide) hS RB h0
  · intro a' w9 f inv hS hall hd
    have hk13 := hd 13 4 (by kernel_rfl)
    have ho : Only [] W0 w9 := inv.grow
    have hdf : a'.defers = [] := inv.defers
    have hsz : a'.tmps.size = 18 := inv.size
    have e := frame33 hsz (fun t ht => inv.old t (dstsIn_spec (ts := [4, 5, 6, 7, 8, 9, 10, 11, 12, 13, 14, 15, 16, 17]) (by kernel_rfl) t ht))
    have hR := hS.done (fun c hc => hall c (show c < 14 by simp at hc <;> omega))
    clear inv hd hsz hall hS
    obtain ⟨tmps, defers⟩ := a'
    obtain rfl : defers = [] := hdf
    replace e : tmps = _ := e
    replace hk13 : tmps.getD 4 undef = (.bool sm) := hk13
    generalize tmps.getD 4 undef = x4 at *
    generalize tmps.getD 5 undef = x5 at *
    generalize tmps.getD 6 undef = x6 at *
    generalize tmps.getD 7 undef = x7 at *
    generalize tmps.getD 8 undef = x8 at *
    generalize tmps.getD 9 undef = x9 at *
    generalize tmps.getD 10 undef = x10 at *
    generalize tmps.getD 11 undef = x11 at *
    generalize tmps.getD 12 undef = x12 at *
    generalize tmps.getD 13 undef = x13 at *
    generalize tmps.getD 14 undef = x14 at *
    generalize tmps.getD 15 undef = x15 at *
    generalize tmps.getD 16 undef = x16 at *
    generalize tmps.getD 17 undef = x17 at *
    simp only [Array.getD_eq_getD_getElem?, List.getElem?_toArray, List.getElem?_cons_succ, List.getElem?_cons_zero, Option.getD_some] at e
    subst e
    subst hk13
    go_wp2_with fail
    go_ret
    exact ⟨rfl, HFI.out _ ho⟩
set_option maxHeartbeats 4000000 in
theorem fits_n (p : Pol) (e : En) (vp0 ve0 : Value) (w : World) (hp : PolIs w vp0 p) (hE : EnIs w ve0 e) (hm : mok 0 p.ms = true) (h0 : p.ms ≠ []) (h16 : 0 ≤ p.e ∧ p.e ≤ 16) (he : ¬ e.epoch = p.e + 1) :
    Calls Try.prog 33 #[vp0, ve0] w fun x w' => x = .returned (.bool false) ∧ Below w.heap.size w w' := by
  have hP := hp
  obtain ⟨mq, mc, rfl, -, -⟩ := hp
  have hEE := hE
  obtain ⟨np, nc, vp, vc, q, c, rfl, -⟩ := hE
  have HST : Hid (B2 w ((w.alloc (.cells (PolV p mq mc) 26)).alloc (.cells (EnV e np nc vp vc q c) 38)) (PolV p mq mc) (EnV e np nc vp vc q c)) := B2.start w _ _
  have HRD : Hid (∀ W, Below w.heap.size w W → Calls Try.prog 22 #[.agg (PolV p mq mc)] W fun x u => ∃ v, x = .returned v ∧ RdV (rdrs p.ms) v u ∧ Below W.heap.size W u) := fun W hW => (Readers_any p _ W (hP.below hW) hm h0).mono (by
    rintro x u ⟨v, rfl, h1, h2⟩
    obtain ⟨q1, c1, rfl⟩ := own_slice h1
    exact ⟨_, rfl, ⟨q1, c1, rfl, IntR.own h1⟩, h2⟩)
  have HEQ0 : Hid (∀ W, Below w.heap.size w W → ∀ v, RdV (rdrs p.ms) v W → Calls Try.prog 45 #[.slice q e.wraps.length c, v, .func (.func 46) #[] #[]] W fun x u => x = .returned (.bool (decide (e.wraps.map (·.1) = rdrs p.ms))) ∧ Below W.heap.size W u) := fun W hW v hv => by
    obtain ⟨q1, c1, rfl, h1⟩ := hv
    obtain ⟨np', nc', vp', vc', q', c', eq, hat⟩ := hEE.below hW
    have e9 := congrArg (fun x => match x with | .agg a => a[8]? | _ => none) eq
    simp only [EnV] at e9
    have e9' : Value.slice q e.wraps.length c = Value.slice q' e.wraps.length c' := by simpa using e9
    cases e9'
    exact equalInts_any e.wraps (rdrs p.ms) q q1 c c1 W hat.wraps h1 hat.lw
  clear hP hEE hm h0
  generalize decide (e.wraps.map (·.1) = rdrs p.ms) = sm at *
  generalize rdrs p.ms = l at *
  obtain ⟨pf, pe, ms⟩ := p
  obtain ⟨e1, e2, e3, e4, e5, e6, e7, ep, e9⟩ := e
  simp only [PolV, EnV] at *
  generalize ms.length = ml at *
  generalize e4.length = l4 at *
  generalize e5.length = l5 at *
  generalize e9.length = l9 at *
  obtain ⟨pe1, HPE⟩ : ∃ pe1, Hid (IntKind.i64.wrap (pe + 1) = pe1) := ⟨_, rfl⟩
  have HEQ : Hid ((ep == pe1) = false) := by
    have : pe1 = pe + 1 := by rw [← HPE.out, IntKind.wrap_i64]; omega
    show (ep == pe1) = false
    rw [this]
    simp [he]
  clear he h16
  go_enter Try.func33, Try.ntmps33
  go_wp2_with fail
  obtain ⟨W0, HW0⟩ : ∃ W0, Hid ((w.alloc (.cells #[.int .i64 pf, .int .i64 pe, .slice mq ml mc] 26)).alloc (.cells #[.int .i64 e1, .int .i64 e2, .int .i64 e3, .slice np l4 nc, .slice vp l5 vc, .int .i64 e6, .int .i64 e7, .int .i64 ep, .slice q l9 c] 38) = W0) := ⟨_, rfl⟩
  rw [HW0.out] at HST
  rw [HW0.out]
  obtain ⟨CP, HCP⟩ : ∃ CP : Array Value, Hid (#[.int .i64 pf, .int .i64 pe, .slice mq ml mc] = CP) := ⟨_, rfl⟩
  obtain ⟨p2, HP2⟩ : ∃ p2, Hid (w.heap.size = p2) := ⟨_, rfl⟩
  obtain ⟨p3, HP3⟩ : ∃ p3, Hid (w.heap.size + 1 = p3) := ⟨_, rfl⟩
  have HBL : Hid (∀ w', Only [] W0 w' → Below w.heap.size w w' ∧ B2 w w' #[.int .i64 pf, .int .i64 pe, .slice mq ml mc] #[.int .i64 e1, .int .i64 e2, .int .i64 e3, .slice np l4 nc, .slice vp l5 vc, .int .i64 e6, .int .i64 e7, .int .i64 ep, .slice q l9 c]) := fun w' ho => ⟨(HST.out.step (ho.below (Nat.le_refl _) (by simp))).bel, HST.out.step (ho.below (Nat.le_refl _) (by simp))⟩
  have HX : Hid (∀ w', Only [] W0 w' → w'.cell? ⟨p3, 7, none⟩ = some (.int .i64 ep) ∧ w'.cell? ⟨p2, 1, none⟩ = some (.int .i64 pe) ∧ w'.cell? ⟨p3, 8, none⟩ = some (.slice q l9 c) ∧ w'.heap[p2]? = some (.cells CP 26 (0, 0)) ∧ CP.size = 3) := by
    rw [← HP2.out, ← HP3.out, ← HCP.out]
    exact fun w' ho => have h := (HBL.out w' ho).2; ⟨h.ecells.2.2.2.2.2.2.2.1, h.pcells.2.1, h.ecells.2.2.2.2.2.2.2.2, h.box, rfl⟩
  have HC22 : Hid (∀ w', Only [] W0 w' → Calls Try.prog 22 #[.agg CP] w' fun x u => ∃ v, x = .returned v ∧ RdV l v u ∧ Below w'.heap.size w' u) := by
    rw [← HCP.out]
    exact fun w' ho => HRD.out w' (HBL.out w' ho).1
  have HC45 : Hid (∀ w', Only [] W0 w' → ∀ v, RdV l v w' → Calls Try.prog 45 #[.slice q l9 c, v, .func (.func 46) #[] #[]] w' fun x u => x = .returned (.bool sm) ∧ Below w'.heap.size w' u) := fun w' ho v hv => HEQ0.out w' (HBL.out w' ho).1 v hv
  have HFI : Hid (∀ w', Only [] W0 w' → Below w.heap.size w w') := fun w' ho => (HBL.out w' ho).1
  rw [HP3.out, HP2.out]
  clear HRD HEQ0 HST HW0 HBL HP2 HP3 HCP
  have RB : ∀ k w w', Below w.heap.size w w' → (fun (_ : Nat) (_ : World) => True) k w → (fun (_ : Nat) (_ : World) => True) k w' := fun _ _ _ _ _ => trivial
  refine wp_region_st (fit0 p2 p3 ep pe pe1) (fun u u' => Only [] u u') (SeqS [] (fun (_ : Nat) (_ : World) => True)) (by kernel_rfl) (only_drew _ _) (only_trans _) (fit0_kept p2 p3 ep pe pe1) (by kernel_rfl) (SeqS.start (trivial)) ?_ ?_
  · intro i o a' w' f hi inv hS hfi hfw hpre
    have ho : Only [] W0 w' := inv.grow
    have hlt : i < 14 := (Array.getElem?_eq_some_iff.1 hi).1
    obtain rfl|rfl|rfl|rfl|rfl|rfl|rfl|rfl|rfl|rfl|rfl|rfl|rfl|rfl : i = 0 ∨ i = 1 ∨ i = 2 ∨ i = 3 ∨ i = 4 ∨ i = 5 ∨ i = 6 ∨ i = 7 ∨ i = 8 ∨ i = 9 ∨ i = 10 ∨ i = 11 ∨ i = 12 ∨ i = 13 := by omega
    · obtain rfl := Option.some.inj hi
      have h0 : a'.tmps.getD 3 undef = (.pointer (some ⟨p3, 0, none⟩)) := by rw [inv.old 3 (notDst_spec (by kernel_rfl))]; rfl
      exact sq_value _ rfl rfl (fa_run 38 7 3 p3 rfl h0 (fa38_7 p3)) (Below.refl _ _) (by decide) hS RB rfl
    · obtain rfl := Option.some.inj hi
      have h0 : a'.tmps.getD 5 undef = _ := pre_of hpre 0 5 (by kernel_rfl) (by kernel_rfl)
      exact sq_value _ rfl rfl (load_run 3 5 p3 (7) _ rfl h0 (ld3 ((HX.out w' ho).1))) (Below.refl _ _) (by decide) hS RB rfl
    · obtain rfl := Option.some.inj hi
      have h0 : a'.tmps.getD 2 undef = (.pointer (some ⟨p2, 0, none⟩)) := by rw [inv.old 2 (notDst_spec (by kernel_rfl))]; rfl
      exact sq_value _ rfl rfl (fa_run 26 1 2 p2 rfl h0 (fa26_1 p2)) (Below.refl _ _) (by decide) hS RB rfl
    · obtain rfl := Option.some.inj hi
      have h0 : a'.tmps.getD 7 undef = _ := pre_of hpre 2 7 (by kernel_rfl) (by kernel_rfl)
      exact sq_value _ rfl rfl (load_run 3 7 p2 (1) _ rfl h0 (ld3 ((HX.out w' ho).2.1))) (Below.refl _ _) (by decide) hS RB rfl
    · obtain rfl := Option.some.inj hi
      have h0 : a'.tmps.getD 8 undef = _ := pre_of hpre 3 8 (by kernel_rfl) (by kernel_rfl)
      exact sq_value _ rfl rfl (addK_run 8 _ _ rfl h0) (Below.refl _ _) (by decide) hS RB (by show Value.int _ _ = _; rw [HPE.out])
    · obtain rfl := Option.some.inj hi
      have h0 : a'.tmps.getD 6 undef = _ := pre_of hpre 1 6 (by kernel_rfl) (by kernel_rfl)
      have h1 : a'.tmps.getD 9 undef = _ := pre_of hpre 4 9 (by kernel_rfl) (by kernel_rfl)
      exact sq_value _ rfl rfl (eqlN_run 6 9 _ _ rfl h0 h1) (Below.refl _ _) (by decide) hS RB (by show Value.bool _ = _; simp only [HEQ.out])
    · obtain rfl := Option.some.inj hi
      have h0 := pre_of hpre 5 10 (by kernel_rfl) (by kernel_rfl)
      exact sq_value _ rfl rfl (rfl) (Below.refl _ _) (by decide) hS RB h0
    · obtain rfl := Option.some.inj hi
      have hgu : a'.tmps.getD 11 undef = _ := pre_of hpre 6 11 (by kernel_rfl) (by kernel_rfl)
      exact sq_skip rfl (unwanted_of 6 11 false rfl (by kernel_rfl) hgu) (by decide) hS rfl
    · obtain rfl := Option.some.inj hi
      have hgu : a'.tmps.getD 11 undef = _ := pre_of hpre 6 11 (by kernel_rfl) (by kernel_rfl)
      exact sq_skip rfl (unwanted_of 6 11 false rfl (by kernel_rfl) hgu) (by decide) hS rfl
    · obtain rfl := Option.some.inj hi
      have hgu : a'.tmps.getD 11 undef = _ := pre_of hpre 6 11 (by kernel_rfl) (by kernel_rfl)
      exact sq_skip rfl (unwanted_of 6 11 false rfl (by kernel_rfl) hgu) (by decide) hS rfl
    · obtain rfl := Option.some.inj hi
      have hgu : a'.tmps.getD 11 undef = _ := pre_of hpre 6 11 (by kernel_rfl) (by kernel_rfl)
      exact sq_skip rfl (unwanted_of 6 11 false rfl (by kernel_rfl) hgu) (by decide) hS rfl
    · obtain rfl := Option.some.inj hi
      have hgu : a'.tmps.getD 11 undef = _ := pre_of hpre 6 11 (by kernel_rfl) (by kernel_rfl)
      exact sq_skip rfl (unwanted_of 6 11 false rfl (by kernel_rfl) hgu) (by decide) hS rfl
    · obtain rfl := Option.some.inj hi
      have h0 : a'.tmps.getD 11 undef = _ := pre_of hpre 6 11 (by kernel_rfl) (by kernel_rfl)
      exact sq_value _ rfl rfl (pick_run 11 false _ _ _ _ rfl h0 rfl rfl) (Below.refl _ _) (by decide) hS RB rfl
    · obtain rfl := Option.some.inj hi
      have h0 := pre_of hpre 12 17 (by kernel_rfl) (by kernel_rfl)
      exact sq_value _ rfl rfl (rfl) (Below.refl _ _) (by decide) hS RB h0
  · intro a' w9 f inv hS hall hd
    have hk13 := hd 13 4 (by kernel_rfl)
    have ho : Only [] W0 w9 := inv.grow
    have hdf : a'.defers = [] := inv.defers
    have hsz : a'.tmps.size = 18 := inv.size
    have e := frame33 hsz (fun t ht => inv.old t (dstsIn_spec (ts := [4, 5, 6, 7, 8, 9, 10, 11, 12, 13, 14, 15, 16, 17]) (by kernel_rfl) t ht))
    have hR := hS.done (fun c hc => hall c (show c < 14 by simp at hc <;> omega))
    clear inv hd hsz hall hS
    obtain ⟨tmps, defers⟩ := a'
    obtain rfl : defers = [] := hdf
    replace e : tmps = _ := e
    replace hk13 : tmps.getD 4 undef = (.bool false) := hk13
    generalize tmps.getD 4 undef = x4 at *
    generalize tmps.getD 5 undef = x5 at *
    generalize tmps.getD 6 undef = x6 at *
    generalize tmps.getD 7 undef = x7 at *
    generalize tmps.getD 8 undef = x8 at *
    generalize tmps.getD 9 undef = x9 at *
    generalize tmps.getD 10 undef = x10 at *
    generalize tmps.getD 11 undef = x11 at *
    generalize tmps.getD 12 undef = x12 at *
    generalize tmps.getD 13 undef = x13 at *
    generalize tmps.getD 14 undef = x14 at *
    generalize tmps.getD 15 undef = x15 at *
    generalize tmps.getD 16 undef = x16 at *
    generalize tmps.getD 17 undef = x17 at *
    simp only [Array.getD_eq_getD_getElem?, List.getElem?_toArray, List.getElem?_cons_succ, List.getElem?_cons_zero, Option.getD_some] at e
    subst e
    subst hk13
    go_wp2_with fail
    go_ret
    exact ⟨rfl, HFI.out _ ho⟩
theorem fits_any (p : Pol) (e : En) (vp0 ve0 : Value) (w : World) (hp : PolIs w vp0 p) (hE : EnIs w ve0 e) (hm : mok 0 p.ms = true) (h0 : p.ms ≠ []) (h16 : 0 ≤ p.e ∧ p.e ≤ 16) :
    Calls Try.prog 33 #[vp0, ve0] w fun x w' => x = .returned (.bool (fits p e)) ∧ Below w.heap.size w w' := by
  unfold fits
  by_cases he : e.epoch = p.e + 1
  · rw [decide_eq_true he, Bool.true_and]
    exact fits_y p e vp0 ve0 w hp hE hm h0 h16 he
  · rw [decide_eq_false he, Bool.false_and]
    exact fits_n p e vp0 ve0 w hp hE hm h0 h16 he
end Go.Proofs.Ytmlnbbggfjgacaa.P10
