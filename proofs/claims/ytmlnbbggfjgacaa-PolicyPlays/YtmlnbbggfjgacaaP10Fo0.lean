/- A founder's policy in its box; the tables of the region of PolicyFounder. -/
import Derived.Test.YtmlnbbggfjgacaaP10Gr1
import Derived.Test.YtmlnbbggfjgacaaP10Ents
import Derived.Test.YtmlnbbggfjgacaaE9Small
namespace Go.Proofs.Ytmlnbbggfjgacaa.P10
open Go.RowKit C8 E9
/-- A right policy in memory from B on, told by its rights. -/
def Told4 (B : Nat) (w : World) (f e : Int) (q : Option Addr) (n c : Nat) (R : Int → Int) : Prop := ∃ p : Pol, p.f = f ∧ p.e = e ∧ p.ms.length = n ∧ MbOwn B w (.slice q n c) p.ms ∧ pright p = true ∧ ∀ x, rts p.ms x = R x
section
variable {A B : Nat} {w w2 : World} {f e : Int} {q : Option Addr} {n c : Nat} {R : Int → Int}
theorem Told4.is (h : Told4 B w f e q n c R) : ∃ p : Pol, PolIs w (.agg #[.int .i64 f, .int .i64 e, .slice q n c]) p ∧ pright p = true ∧ p.f = f ∧ p.e = e ∧ ∀ x, rts p.ms x = R x := by
  obtain ⟨p, rfl, rfl, rfl, h1, h2, h4⟩ := h
  have hlen : p.ms.length ≤ 16 := by have := mok_len (by decide) (pright_of h2).2.2.1; omega
  exact ⟨p, ⟨q, c, rfl, h1.mb.2, by omega⟩, h2, rfl, rfl, h4⟩
theorem Told4.only {bs : List Nat} (h : Told4 B w f e q n c R) (ho : Only bs w w2) (hb : ∀ x ∈ bs, x < B) : Told4 B w2 f e q n c R := by
  obtain ⟨p, h1, h2, h3, h4, h5⟩ := h
  exact ⟨p, h1, h2, h3, h4.only ho hb, h5⟩
theorem Told4.below (h : Told4 B w f e q n c R) (hb : Below w.heap.size w w2) : Told4 B w2 f e q n c R := h.only (Only.of_below hb []) (by simp)
theorem Told4.old (h : Told4 B w f e q n c R) (hb : A ≤ B) : Told4 A w f e q n c R := by
  obtain ⟨p, h1, h2, h3, h4, h5⟩ := h
  exact ⟨p, h1, h2, h3, h4.old hb, h5⟩
theorem Told4.rights (h : Told4 B w f e q n c R) (who : Int) : Calls Try.prog 21 #[.agg #[.int .i64 f, .int .i64 e, .slice q n c], .int .i64 who] w fun z u => z = .returned (.int .i64 (R who)) ∧ Below w.heap.size w u := by
  obtain ⟨p, h1, h2, h3, h4, h5⟩ := h.is
  have := Rights_any p _ who w h1
  rw [h5] at this
  exact this
end
set_option maxHeartbeats 4000000 in
theorem first_fo (n : Int) (w : World) (h : 1 ≤ n ∧ n ≤ 16) : Calls Try.prog 10 #[.int .i64 n] w fun x w' => ∃ q c, x = .returned (.tuple #[.agg #[.int .i64 n, .int .i64 0, .slice q 1 c], .int .i64 0]) ∧ Told4 w.heap.size w' n 0 q 1 c (fun x => if n = x then 7 else 0) ∧ Below w.heap.size w w' := by
  have HC24 : ∀ W, Calls Try.prog 24 #[.int .i64 n, .int .i64 1, .int .i64 16] W fun e w' => e = .returned (.bool true) ∧ w' = W := fun W => pwithin_yes _ _ _ W h.1 h.2
  have HZ : Hid (∀ o, ((w.alloc (.cells #[.int .i64 n, .int .i64 0, .slice (some ⟨w.heap.size + 1, 0, none⟩) 1 1] 26)).alloc o).heap[w.heap.size]? = some (.cells #[.int .i64 n, .int .i64 0, .slice (some ⟨w.heap.size + 1, 0, none⟩) 1 1] 26 (0, 0))) := fun o => heap_alloc2_old w _ o
  have HM : Hid (((w.alloc (.cells #[.int .i64 n, .int .i64 0, .slice (some ⟨w.heap.size + 1, 0, none⟩) 1 1] 26)).alloc (.cells #[.int .i64 n, .int .i64 7] 50)).heap[w.heap.size + 1]? = some (.cells #[.int .i64 n, .int .i64 7] 50 (0, 0))) := heap_alloc2_new w _ _
  have HB : Hid (∀ o, Below w.heap.size w ((w.alloc (.cells #[.int .i64 n, .int .i64 0, .slice (some ⟨w.heap.size + 1, 0, none⟩) 1 1] 26)).alloc o)) := fun o => (bel_alloc (Nat.le_refl _) _).trans (bel_alloc (by simp) _)
  have H2 : Hid (pright (pfirst n) = true ∧ ∀ w, rts (pfirst n).ms w = if n = w then 7 else 0) := pfirst_right h
  clear h
  go_enter Try.func10, Try.ntmps10
  go_wp2_with (first | (go_at_call 24; with_reducible refine (HC24 _).mono ?_; rintro e w1 ⟨rfl, rfl⟩))
  refine bodyPost_ret (results_row2 rfl _ _ w.heap.size 26 _ (0, 0) _ rfl (HZ.out _) Try.underlying26 rfl (by kernel_rfl)) rfl ⟨some ⟨w.heap.size + 1, 0, none⟩, 1, rfl, ⟨pfirst n, rfl, rfl, rfl, ⟨_, 1, rfl, .inr ⟨w.heap.size + 1, rfl, by omega, (Array.getElem?_eq_some_iff.1 HM.out).1, holds_flat (fun t x hx => ?_)⟩⟩, H2.out.1, H2.out.2⟩, HB.out _⟩
  refine ⟨?_, frozen_of_row _ _ _ _ _ HM.out⟩
  rw [cell_of_row _ _ _ _ _ _ HM.out]
  simpa [flatM, pfirst] using hx
/-- What an entry that may be makes of rights. -/
def raf (e : En) (R : Int → Int) (x : Int) : Int := if e.kind = 3 ∧ x = e.who then e.rights else if e.kind = 4 ∧ x = e.who then 0 else R x
/-- What Apply tells of a right policy: an error; or a policy that is told by its rights, and what is known of the entry. -/
def ApTold (e : En) (f ep : Int) (R : Int → Int) (w : World) (x : Ending) (w' : World) : Prop :=
  Below w.heap.size w w' ∧ ((∃ r, r ≠ 0 ∧ x = .returned (.tuple #[.agg #[.int .i64 0, .int .i64 0, .slice none 0 0], .int .i64 r])) ∨
    ∃ e1 q1 n1 c1, x = .returned (.tuple #[.agg #[.int .i64 f, .int .i64 e1, .slice q1 n1 c1], .int .i64 0]) ∧ Told4 w.heap.size w' f e1 q1 n1 c1 (raf e R) ∧ (e1 = ep ∨ e1 = ep + 1) ∧ raf e R f = 7 ∧ ∀ x, raf e R x ≠ R x → x = e.who ∧ x ≠ f ∧ 4 ≤ R e.writer)
theorem apply_told (e : En) (ve : Value) (f ep : Int) (q : Option Addr) (n c B : Nat) (R : Int → Int) (w : World) (hv : Told4 B w f ep q n c R) (hE : EnIs w ve e) :
    Calls Try.prog 14 #[.agg #[.int .i64 f, .int .i64 ep, .slice q n c], ve] w fun x w' => ApTold e f ep R w x w' := by
  obtain ⟨p, h1, h2, h3, h4, h5⟩ := hv.is
  by_cases h0 : may p e = 0
  · refine (Apply_yes p e _ ve w h1 hE h0).mono ?_
    rintro x w' ⟨hb, p', q', c', rfl, ho, ha⟩
    obtain ⟨k1, k2, k3, k4⟩ := ap_after h0 ha
    obtain ⟨-, hr, hal, hfi⟩ := may_of h0
    have hra : ∀ x, rts p'.ms x = raf e R x := fun x => by
      rw [k4]
      unfold rafter raf
      rw [h5]
    have hf1 : p'.f = f := by rw [k2, h3]
    refine ⟨hb, .inr ⟨p'.e, q', p'.ms.length, c', by rw [← hf1]; rfl, ⟨p', hf1, rfl, rfl, ho, k1, hra⟩, ?_, ?_, fun x hx => ?_⟩⟩
    · rw [k3]
      by_cases h5' : e.kind = 5
      · rw [if_pos h5']
        have := hfi h5'
        unfold fits at this
        simp only [Bool.and_eq_true, decide_eq_true_eq] at this
        right
        rw [this.1, h4]
      · rw [if_neg h5', h4]; exact .inl rfl
    · rw [← hra, ← hf1]
      exact (pright_of k1).2.2.2.1
    · have hk : (e.kind = 3 ∨ e.kind = 4) ∧ x = e.who := by
        unfold raf at hx
        by_cases a3 : e.kind = 3 ∧ x = e.who
        · exact ⟨.inl a3.1, a3.2⟩
        · rw [if_neg a3] at hx
          by_cases a4 : e.kind = 4 ∧ x = e.who
          · exact ⟨.inr a4.1, a4.2⟩
          · rw [if_neg a4] at hx; exact absurd rfl hx
      unfold allows at hal
      rw [if_neg (by omega), if_pos hk.1] at hal
      simp only [decide_eq_true_eq] at hal
      rw [h5] at hal
      exact ⟨hk.2, by rw [hk.2, ← h3]; exact hal.2, hal.1⟩
  · refine (Apply_no p e _ ve w h1 hE _ rfl h0).mono ?_
    rintro x w' ⟨rfl, hb⟩
    exact ⟨hb, .inl ⟨_, h0, rfl⟩⟩
theorem lssK_run {o : Oper} {a' : Act} {w' : World} (s : Tmp) (x y : Int) (ho : o.op = .binOp .lss 3 (.tmp s) (.const (.int .i64 y)) 3) (h0 : a'.tmps.getD s undef = .int .i64 x) : (execOp a'.eval o).run Try.prog w' = .ok (.value (.bool (decide (x < y)))) w' := by
  have he : a'.eval (.tmp s) = .int .i64 x := h0
  have hf : a'.eval (.const (.int .i64 y)) = .int .i64 y := rfl
  unfold execOp
  simp only [ho]
  rw [he, hf]
  simp [go_sem]
theorem fa38_1 (b : Nat) (w : World) : (Instr.fieldAt 38 (.pointer (some ⟨b, 0, none⟩)) 1).run Try.prog w = .ok (.pointer (some ⟨b, 1, none⟩)) w := by simp [go_sem]
def fo20a (CQ CP : Array Value) (kk rq : Int) : Nat → Value → World → Prop
  | 0 => IsV (.agg CQ)
  | 1 => IsV (.int .i64 kk)
  | 2 => IsV (.int .i64 rq)
  | 3 => IsV (.agg CP)
  | 4 => IsV (.int .i64 kk)
  | 5 => IsV (.int .i64 rq)
  | 6 => IsV (.bool false)
  | 7 => IsV (.bool false)
  | 8 => IsV undef
  | 9 => IsV undef
  | 10 => IsV undef
  | 11 => IsV undef
  | 12 => IsV undef
  | 13 => IsV undef
  | 14 => IsV undef
  | 15 => IsV undef
  | 16 => IsV undef
  | 17 => IsV undef
  | 18 => IsV undef
  | 19 => IsV undef
  | 20 => IsV undef
  | 21 => IsV undef
  | 22 => IsV undef
  | 23 => IsV undef
  | 24 => IsV (.bool false)
  | _ => fun _ _ => True
theorem fo20a_kept (CQ CP : Array Value) (kk rq : Int) : ∀ i v w w', fo20a CQ CP kk rq i v w → Only [] w w' → fo20a CQ CP kk rq i v w'
  | 0, _, _, _, h, _ => h
  | 1, _, _, _, h, _ => h
  | 2, _, _, _, h, _ => h
  | 3, _, _, _, h, _ => h
  | 4, _, _, _, h, _ => h
  | 5, _, _, _, h, _ => h
  | 6, _, _, _, h, _ => h
  | 7, _, _, _, h, _ => h
  | 8, _, _, _, h, _ => h
  | 9, _, _, _, h, _ => h
  | 10, _, _, _, h, _ => h
  | 11, _, _, _, h, _ => h
  | 12, _, _, _, h, _ => h
  | 13, _, _, _, h, _ => h
  | 14, _, _, _, h, _ => h
  | 15, _, _, _, h, _ => h
  | 16, _, _, _, h, _ => h
  | 17, _, _, _, h, _ => h
  | 18, _, _, _, h, _ => h
  | 19, _, _, _, h, _ => h
  | 20, _, _, _, h, _ => h
  | 21, _, _, _, h, _ => h
  | 22, _, _, _, h, _ => h
  | 23, _, _, _, h, _ => h
  | 24, _, _, _, h, _ => h
  | _ + 25, _, _, _, _, _ => trivial
def fo20b (CQ CP : Array Value) (b8 : Nat) (kk fo wrr rq rp rw : Int) : Nat → Value → World → Prop
  | 0 => IsV (.agg CQ)
  | 1 => IsV (.int .i64 kk)
  | 2 => IsV (.int .i64 rq)
  | 3 => IsV (.agg CP)
  | 4 => IsV (.int .i64 kk)
  | 5 => IsV (.int .i64 rp)
  | 6 => IsV (.bool true)
  | 7 => IsV (.bool true)
  | 8 => IsV (.agg CP)
  | 9 => IsV (.pointer (some ⟨b8, 1, none⟩))
  | 10 => IsV (.int .i64 wrr)
  | 11 => IsV (.int .i64 rw)
  | 12 => IsV (.bool false)
  | 13 => IsV (.bool false)
  | 14 => IsV (.int .i64 kk)
  | 15 => IsV (.pointer (some ⟨b8, 5, none⟩))
  | 16 => IsV (.int .i64 kk)
  | 17 => IsV (.bool false)
  | 18 => IsV (.bool false)
  | 19 => IsV (.bool false)
  | 20 => IsV (.int .i64 kk)
  | 21 => IsV (.int .i64 fo)
  | 22 => IsV (.bool false)
  | 23 => IsV (.bool false)
  | 24 => IsV (.bool false)
  | _ => fun _ _ => True
theorem fo20b_kept (CQ CP : Array Value) (b8 : Nat) (kk fo wrr rq rp rw : Int) : ∀ i v w w', fo20b CQ CP b8 kk fo wrr rq rp rw i v w → Only [] w w' → fo20b CQ CP b8 kk fo wrr rq rp rw i v w'
  | 0, _, _, _, h, _ => h
  | 1, _, _, _, h, _ => h
  | 2, _, _, _, h, _ => h
  | 3, _, _, _, h, _ => h
  | 4, _, _, _, h, _ => h
  | 5, _, _, _, h, _ => h
  | 6, _, _, _, h, _ => h
  | 7, _, _, _, h, _ => h
  | 8, _, _, _, h, _ => h
  | 9, _, _, _, h, _ => h
  | 10, _, _, _, h, _ => h
  | 11, _, _, _, h, _ => h
  | 12, _, _, _, h, _ => h
  | 13, _, _, _, h, _ => h
  | 14, _, _, _, h, _ => h
  | 15, _, _, _, h, _ => h
  | 16, _, _, _, h, _ => h
  | 17, _, _, _, h, _ => h
  | 18, _, _, _, h, _ => h
  | 19, _, _, _, h, _ => h
  | 20, _, _, _, h, _ => h
  | 21, _, _, _, h, _ => h
  | 22, _, _, _, h, _ => h
  | 23, _, _, _, h, _ => h
  | 24, _, _, _, h, _ => h
  | _ + 25, _, _, _, _, _ => trivial
set_option maxHeartbeats 4000000 in
set_option maxRecDepth 20000 in
theorem frame5_20 {A F : Array Value} (hs : A.size = 91) (h : ∀ t, [64, 65, 66, 67, 68, 69, 70, 71, 72, 73, 74, 75, 76, 77, 78, 79, 80, 81, 82, 83, 84, 85, 86, 87, 88].contains t = false → A.getD t undef = F.getD t undef) : A = #[F.getD 0 undef, F.getD 1 undef, F.getD 2 undef, F.getD 3 undef, F.getD 4 undef, F.getD 5 undef, F.getD 6 undef, F.getD 7 undef, F.getD 8 undef, F.getD 9 undef, F.getD 10 undef, F.getD 11 undef, F.getD 12 undef, F.getD 13 undef, F.getD 14 undef, F.getD 15 undef, F.getD 16 undef, F.getD 17 undef, F.getD 18 undef, F.getD 19 undef, F.getD 20 undef, F.getD 21 undef, F.getD 22 undef, F.getD 23 undef, F.getD 24 undef, F.getD 25 undef, F.getD 26 undef, F.getD 27 undef, F.getD 28 undef, F.getD 29 undef, F.getD 30 undef, F.getD 31 undef, F.getD 32 undef, F.getD 33 undef, F.getD 34 undef, F.getD 35 undef, F.getD 36 undef, F.getD 37 undef, F.getD 38 undef, F.getD 39 undef, F.getD 40 undef, F.getD 41 undef, F.getD 42 undef, F.getD 43 undef, F.getD 44 undef, F.getD 45 undef, F.getD 46 undef, F.getD 47 undef, F.getD 48 undef, F.getD 49 undef, F.getD 50 undef, F.getD 51 undef, F.getD 52 undef, F.getD 53 undef, F.getD 54 undef, F.getD 55 undef, F.getD 56 undef, F.getD 57 undef, F.getD 58 undef, F.getD 59 undef, F.getD 60 undef, F.getD 61 undef, F.getD 62 undef, F.getD 63 undef, A.getD 64 undef, A.getD 65 undef, A.getD 66 undef, A.getD 67 undef, A.getD 68 undef, A.getD 69 undef, A.getD 70 undef, A.getD 71 undef, A.getD 72 undef, A.getD 73 undef, A.getD 74 undef, A.getD 75 undef, A.getD 76 undef, A.getD 77 undef, A.getD 78 undef, A.getD 79 undef, A.getD 80 undef, A.getD 81 undef, A.getD 82 undef, A.getD 83 undef, A.getD 84 undef, A.getD 85 undef, A.getD 86 undef, A.getD 87 undef, A.getD 88 undef, F.getD 89 undef, F.getD 90 undef] := by
  rw [← h 0 (by decide), ← h 1 (by decide), ← h 2 (by decide), ← h 3 (by decide), ← h 4 (by decide), ← h 5 (by decide), ← h 6 (by decide), ← h 7 (by decide), ← h 8 (by decide), ← h 9 (by decide), ← h 10 (by decide), ← h 11 (by decide), ← h 12 (by decide), ← h 13 (by decide), ← h 14 (by decide), ← h 15 (by decide), ← h 16 (by decide), ← h 17 (by decide), ← h 18 (by decide), ← h 19 (by decide), ← h 20 (by decide), ← h 21 (by decide), ← h 22 (by decide), ← h 23 (by decide), ← h 24 (by decide), ← h 25 (by decide), ← h 26 (by decide), ← h 27 (by decide), ← h 28 (by decide), ← h 29 (by decide), ← h 30 (by decide), ← h 31 (by decide), ← h 32 (by decide), ← h 33 (by decide), ← h 34 (by decide), ← h 35 (by decide), ← h 36 (by decide), ← h 37 (by decide), ← h 38 (by decide), ← h 39 (by decide), ← h 40 (by decide), ← h 41 (by decide), ← h 42 (by decide), ← h 43 (by decide), ← h 44 (by decide), ← h 45 (by decide), ← h 46 (by decide), ← h 47 (by decide), ← h 48 (by decide), ← h 49 (by decide), ← h 50 (by decide), ← h 51 (by decide), ← h 52 (by decide), ← h 53 (by decide), ← h 54 (by decide), ← h 55 (by decide), ← h 56 (by decide), ← h 57 (by decide), ← h 58 (by decide), ← h 59 (by decide), ← h 60 (by decide), ← h 61 (by decide), ← h 62 (by decide), ← h 63 (by decide), ← h 89 (by decide), ← h 90 (by decide)]
  refine Array.ext (by simp [hs]) (fun i h1 h2 => ?_)
  have e : A[i] = A.getD i undef := by simp [h1]
  rw [e]
  rw [hs] at h1
  clear e h hs
  match i, h1 with
  | 0, _ => rfl
  | 1, _ => rfl
  | 2, _ => rfl
  | 3, _ => rfl
  | 4, _ => rfl
  | 5, _ => rfl
  | 6, _ => rfl
  | 7, _ => rfl
  | 8, _ => rfl
  | 9, _ => rfl
  | 10, _ => rfl
  | 11, _ => rfl
  | 12, _ => rfl
  | 13, _ => rfl
  | 14, _ => rfl
  | 15, _ => rfl
  | 16, _ => rfl
  | 17, _ => rfl
  | 18, _ => rfl
  | 19, _ => rfl
  | 20, _ => rfl
  | 21, _ => rfl
  | 22, _ => rfl
  | 23, _ => rfl
  | 24, _ => rfl
  | 25, _ => rfl
  | 26, _ => rfl
  | 27, _ => rfl
  | 28, _ => rfl
  | 29, _ => rfl
  | 30, _ => rfl
  | 31, _ => rfl
  | 32, _ => rfl
  | 33, _ => rfl
  | 34, _ => rfl
  | 35, _ => rfl
  | 36, _ => rfl
  | 37, _ => rfl
  | 38, _ => rfl
  | 39, _ => rfl
  | 40, _ => rfl
  | 41, _ => rfl
  | 42, _ => rfl
  | 43, _ => rfl
  | 44, _ => rfl
  | 45, _ => rfl
  | 46, _ => rfl
  | 47, _ => rfl
  | 48, _ => rfl
  | 49, _ => rfl
  | 50, _ => rfl
  | 51, _ => rfl
  | 52, _ => rfl
  | 53, _ => rfl
  | 54, _ => rfl
  | 55, _ => rfl
  | 56, _ => rfl
  | 57, _ => rfl
  | 58, _ => rfl
  | 59, _ => rfl
  | 60, _ => rfl
  | 61, _ => rfl
  | 62, _ => rfl
  | 63, _ => rfl
  | 64, _ => rfl
  | 65, _ => rfl
  | 66, _ => rfl
  | 67, _ => rfl
  | 68, _ => rfl
  | 69, _ => rfl
  | 70, _ => rfl
  | 71, _ => rfl
  | 72, _ => rfl
  | 73, _ => rfl
  | 74, _ => rfl
  | 75, _ => rfl
  | 76, _ => rfl
  | 77, _ => rfl
  | 78, _ => rfl
  | 79, _ => rfl
  | 80, _ => rfl
  | 81, _ => rfl
  | 82, _ => rfl
  | 83, _ => rfl
  | 84, _ => rfl
  | 85, _ => rfl
  | 86, _ => rfl
  | 87, _ => rfl
  | 88, _ => rfl
  | 89, _ => rfl
  | 90, _ => rfl
  | _ + 91, h => exact absurd h (by omega)
end Go.Proofs.Ytmlnbbggfjgacaa.P10
