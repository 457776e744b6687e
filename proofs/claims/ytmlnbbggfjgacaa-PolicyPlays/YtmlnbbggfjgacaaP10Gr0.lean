/- How many may read, counted by numbers; policies in rows of their own. -/
import Derived.Test.YtmlnbbggfjgacaaP10Anc
namespace Go.Proofs.Ytmlnbbggfjgacaa.P10
open Go.RowKit C8 E9
/-- How many of the first n may read. -/
def cntL (ms : List (Int × Int)) (n : Int) : Nat := (ms.filter (fun m => decide (m.1 ≤ n) && decide (m.2 % 2 = 1))).length
theorem cntL_cons (x : Int × Int) (r : List (Int × Int)) (n : Int) : cntL (x :: r) n = (if x.1 ≤ n ∧ x.2 % 2 = 1 then 1 else 0) + cntL r n := by
  unfold cntL
  by_cases h : x.1 ≤ n ∧ x.2 % 2 = 1
  · rw [List.filter_cons_of_pos (by simp [h]), if_pos h, List.length_cons]; omega
  · rw [List.filter_cons_of_neg (by simpa using h), if_neg h]; omega
theorem cntL_succ : ∀ {ms : List (Int × Int)}, (ms.map (·.1)).Nodup → (∀ m ∈ ms, 0 ≤ m.2) → ∀ n, (cntL ms (n + 1) : Int) = cntL ms n + rts ms (n + 1) % 2
  | [], _, _, n => by simp [cntL, rts]
  | x :: r, h, hb, n => by
    rw [List.map_cons, List.nodup_cons] at h
    have ih := cntL_succ h.2 (fun m hm => hb m (List.mem_cons_of_mem _ hm)) n
    have hx := hb x List.mem_cons_self
    rw [cntL_cons, cntL_cons, rts]
    by_cases e : x.1 = n + 1
    · rw [if_pos e]
      have hz : rts r (n + 1) = 0 := rts_none (fun y hy e2 => h.1 (by rw [e, ← e2]; exact List.mem_map_of_mem hy))
      rw [hz] at ih
      have h2 : ¬ (x.1 ≤ n ∧ x.2 % 2 = 1) := by omega
      rw [if_neg h2]
      by_cases h3 : x.2 % 2 = 1
      · rw [if_pos ⟨by omega, h3⟩]; omega
      · rw [if_neg (fun k => h3 k.2)]; omega
    · rw [if_neg e]
      by_cases h3 : x.1 ≤ n ∧ x.2 % 2 = 1
      · rw [if_pos h3, if_pos ⟨by omega, h3.2⟩]; omega
      · rw [if_neg h3, if_neg (by omega)]; omega
theorem cntL_zero {ms : List (Int × Int)} (h : ∀ m ∈ ms, (0 : Int) < m.1) : cntL ms 0 = 0 := by
  unfold cntL
  rw [List.length_eq_zero_iff, List.filter_eq_nil_iff]
  intro m hm
  have := h m hm
  simp
  omega
theorem cntL_all {ms : List (Int × Int)} (h : ∀ m ∈ ms, m.1 ≤ 16) : cntL ms 16 = (rdrs ms).length := by
  unfold cntL rdrs
  rw [List.length_map]
  congr 1
  apply List.filter_congr
  intro m hm
  simp [h m hm]
/-- A policy of the founder 1 in memory from B on, told by its rights. -/
def Told3 (B : Nat) (w : World) (f e : Int) (q : Option Addr) (n c : Nat) (R : Int → Int) : Prop := ∃ p : Pol, p.f = f ∧ p.e = e ∧ p.ms.length = n ∧ MbOwn B w (.slice q n c) p.ms ∧ pright p = true ∧ f = 1 ∧ ∀ x, rts p.ms x = R x
theorem Told3.is {B : Nat} {w : World} {f e : Int} {q : Option Addr} {n c : Nat} {R : Int → Int} (h : Told3 B w f e q n c R) : Told2 w (.agg #[.int .i64 f, .int .i64 e, .slice q n c]) e R := by
  obtain ⟨p, rfl, rfl, rfl, h1, h2, h3, h4⟩ := h
  have hlen : p.ms.length ≤ 16 := by have := mok_len (by decide) (pright_of h2).2.2.1; omega
  exact ⟨p, ⟨q, c, rfl, h1.mb.2, by omega⟩, h2, h3, rfl, h4⟩
theorem Told3.only {B : Nat} {w w2 : World} {f e : Int} {q : Option Addr} {n c : Nat} {R : Int → Int} {bs : List Nat} (h : Told3 B w f e q n c R) (ho : Only bs w w2) (hb : ∀ x ∈ bs, x < B) : Told3 B w2 f e q n c R := by
  obtain ⟨p, h1, h2, h3, h4, h5⟩ := h
  exact ⟨p, h1, h2, h3, h4.only ho hb, h5⟩
theorem Told3.below {B : Nat} {w w2 : World} {f e : Int} {q : Option Addr} {n c : Nat} {R : Int → Int} (h : Told3 B w f e q n c R) (hb : Below w.heap.size w w2) : Told3 B w2 f e q n c R := h.only (Only.of_below hb []) (by simp)
theorem Told3.old {A B : Nat} {w : World} {f e : Int} {q : Option Addr} {n c : Nat} {R : Int → Int} (h : Told3 B w f e q n c R) (hb : A ≤ B) : Told3 A w f e q n c R := by
  obtain ⟨p, h1, h2, h3, h4, h5⟩ := h
  exact ⟨p, h1, h2, h3, h4.old hb, h5⟩
theorem Told3.rts {B : Nat} {w : World} {f e : Int} {q : Option Addr} {n c : Nat} {R : Int → Int} (h : Told3 B w f e q n c R) (x : Int) : 0 ≤ R x ∧ R x ≤ 7 := by
  obtain ⟨p, _, _, _, _, h5, _, h6⟩ := h
  rw [← h6]
  exact rts_range (pright_of h5).2.2.1 x
set_option maxHeartbeats 4000000 in
theorem first_own (w : World) : Calls Try.prog 10 #[.int .i64 1] w fun x w' => ∃ q c, x = .returned (.tuple #[.agg #[.int .i64 1, .int .i64 0, .slice q 1 c], .int .i64 0]) ∧ Told3 w.heap.size w' 1 0 q 1 c (fun x => if 1 = x then 7 else 0) ∧ Below w.heap.size w w' := by
  have HC24 : ∀ W, Calls Try.prog 24 #[.int .i64 1, .int .i64 1, .int .i64 16] W fun e w' => e = .returned (.bool true) ∧ w' = W := fun W => pwithin_yes _ _ _ W (by decide) (by decide)
  have HZ : Hid (∀ o, ((w.alloc (.cells #[.int .i64 1, .int .i64 0, .slice (some ⟨w.heap.size + 1, 0, none⟩) 1 1] 26)).alloc o).heap[w.heap.size]? = some (.cells #[.int .i64 1, .int .i64 0, .slice (some ⟨w.heap.size + 1, 0, none⟩) 1 1] 26 (0, 0))) := fun o => heap_alloc2_old w _ o
  have HM : Hid (((w.alloc (.cells #[.int .i64 1, .int .i64 0, .slice (some ⟨w.heap.size + 1, 0, none⟩) 1 1] 26)).alloc (.cells #[.int .i64 1, .int .i64 7] 50)).heap[w.heap.size + 1]? = some (.cells #[.int .i64 1, .int .i64 7] 50 (0, 0))) := heap_alloc2_new w _ _
  have HB : Hid (∀ o, Below w.heap.size w ((w.alloc (.cells #[.int .i64 1, .int .i64 0, .slice (some ⟨w.heap.size + 1, 0, none⟩) 1 1] 26)).alloc o)) := fun o => (bel_alloc (Nat.le_refl _) _).trans (bel_alloc (by simp) _)
  go_enter Try.func10, Try.ntmps10
  go_wp2_with (first | (go_at_call 24; with_reducible refine (HC24 _).mono ?_; rintro e w1 ⟨rfl, rfl⟩))
  have h2 := pfirst_right (n := 1) (by decide)
  refine bodyPost_ret (results_row2 rfl _ _ w.heap.size 26 _ (0, 0) _ rfl (HZ.out _) Try.underlying26 rfl (by kernel_rfl)) rfl ⟨some ⟨w.heap.size + 1, 0, none⟩, 1, rfl, ⟨pfirst 1, rfl, rfl, rfl, ⟨_, 1, rfl, .inr ⟨w.heap.size + 1, rfl, by omega, (Array.getElem?_eq_some_iff.1 HM.out).1, holds_flat (fun t x hx => ?_)⟩⟩, h2.1, rfl, h2.2⟩, HB.out _⟩
  refine ⟨?_, frozen_of_row _ _ _ _ _ HM.out⟩
  rw [cell_of_row _ _ _ _ _ _ HM.out]
  simpa [flatM, pfirst] using hx
theorem change_own (e : En) (ve : Value) (f ep : Int) (q : Option Addr) (n c B : Nat) (R : Int → Int) (w : World) (hv : Told3 B w f ep q n c R) (hE : EnIs w ve e) (hm : ∀ p, pright p = true → p.f = 1 → rts p.ms 1 = 7 → p.e = ep → (∀ x, rts p.ms x = R x) → may p e = 0) :
    Calls Try.prog 14 #[.agg #[.int .i64 f, .int .i64 ep, .slice q n c], ve] w fun x w' => ∃ e1 q1 n1 c1, x = .returned (.tuple #[.agg #[.int .i64 1, .int .i64 e1, .slice q1 n1 c1], .int .i64 0]) ∧ e1 = (if e.kind = 5 then e.epoch else ep) ∧ Told3 w.heap.size w' 1 e1 q1 n1 c1 (fun x => if e.kind = 3 ∧ x = e.who then e.rights else if e.kind = 4 ∧ x = e.who then 0 else R x) ∧ Below w.heap.size w w' := by
  obtain ⟨p, h1, h2, h3, h4, h5⟩ := hv.is
  have h17 : Go.Proofs.Ytmlnbbggfjgacaa.P10.rts p.ms 1 = 7 := by have := (pright_of h2).2.2.2.1; rw [h3] at this; exact this
  have h0 := hm p h2 h3 h17 h4 h5
  refine (Apply_yes p e _ ve w h1 hE h0).mono ?_
  rintro x w' ⟨hb, p', q', c', rfl, ho, ha⟩
  obtain ⟨k1, k2, k3, k4⟩ := ap_after h0 ha
  have hf1 : p'.f = 1 := by rw [k2, h3]
  refine ⟨p'.e, q', p'.ms.length, c', by rw [← hf1]; rfl, by rw [k3, h4], ⟨p', hf1, rfl, rfl, ho, k1, rfl, fun x => ?_⟩, hb⟩
  rw [k4]
  unfold rafter
  rw [h5]
end Go.Proofs.Ytmlnbbggfjgacaa.P10
