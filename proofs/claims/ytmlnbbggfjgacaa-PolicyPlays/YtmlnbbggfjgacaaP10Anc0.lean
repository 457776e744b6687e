/- The contract of anchor: the document's examples. -/
import Derived.Test.YtmlnbbggfjgacaaP10Math
namespace Go.Proofs.Ytmlnbbggfjgacaa.P10
open Go.RowKit C8 E9
theorem en_grant (w : World) (s who r : Int) : EnIs w (.agg #[.int .i64 3, .int .i64 1, .int .i64 s, .slice none 0 0, .slice none 0 0, .int .i64 who, .int .i64 r, .int .i64 0, .slice none 0 0]) ⟨3, 1, s, [], [], who, r, 0, []⟩ :=
  ⟨none, 0, none, 0, none, 0, rfl, Src.nil _, Src.nil _, WrRow.nil _ _, by simp, by simp, by simp⟩
theorem right_grant {s who r : Int} (hs : 1 ≤ s ∧ s ≤ 1099511627776) (hw : 1 ≤ who ∧ who ≤ 16) (hr : 1 ≤ r ∧ r ≤ 7) : right ⟨3, 1, s, [], [], who, r, 0, []⟩ = true :=
  (right_iff _).2 ⟨by simp, hs, .inr (.inr (.inl ⟨rfl, rfl, rfl, hw, hr, rfl, rfl⟩))⟩
/-- A founder's grant may be. -/
theorem may_grant {p : Pol} {s who r : Int} (hp : pright p = true) (h1 : rts p.ms 1 = 7) (hs : 1 ≤ s ∧ s ≤ 1099511627776) (hw : 1 ≤ who ∧ who ≤ 16) (hr : 1 ≤ r ∧ r ≤ 7) (hne : who ≠ p.f) : may p ⟨3, 1, s, [], [], who, r, 0, []⟩ = 0 := by
  unfold may
  rw [if_pos ⟨hp, right_grant hs hw hr⟩]
  have : allows p ⟨3, 1, s, [], [], who, r, 0, []⟩ = true := by
    unfold allows
    simp [h1, hne]
  rw [if_pos this]
  simp
theorem may_put {p : Pol} (hp : pright p = true) : may p ⟨1, 2, 1, [97], [], 0, 0, 0, []⟩ = if 2 ≤ rts p.ms 2 then 0 else 30 := by
  have hr : right ⟨1, 2, 1, [97], [], 0, 0, 0, []⟩ = true := by decide
  unfold may
  rw [if_pos ⟨hp, hr⟩]
  unfold allows
  simp
theorem pfirst_right {n : Int} (h : 1 ≤ n ∧ n ≤ 16) : pright (pfirst n) = true ∧ ∀ w, rts (pfirst n).ms w = if n = w then 7 else 0 := by
  refine ⟨?_, fun w => by simp [pfirst, rts]⟩
  unfold pright pfirst
  simp [mok, rts]
  omega
/-- Members are told by their rights: those who may read. -/
theorem rdrs_two {p : Pol} (hp : pright p = true) (h1 : rts p.ms 1 = 7) (h2 : rts p.ms 2 = 1) (h3 : ∀ w, w ≠ 1 → w ≠ 2 → rts p.ms w = 0) : rdrs p.ms = [1, 2] := by
  obtain ⟨_, _, hm, _, _⟩ := pright_of hp
  have hri := mok_rise hm
  have hat := mok_at hm
  have hnd := rise_nodup hri
  have hmem : ∀ x ∈ p.ms, x = (1, 7) ∨ x = (2, 1) := fun x hx => by
    have hx2 := rts_mem hnd x hx
    have hb := hat x hx
    obtain ⟨a, b⟩ := x
    simp only at hx2 hb
    by_cases e1 : a = 1
    · left; rw [e1] at hx2 ⊢; rw [h1] at hx2; rw [hx2]
    · by_cases e2 : a = 2
      · right; rw [e2] at hx2 ⊢; rw [h2] at hx2; rw [hx2]
      · rw [h3 a e1 e2] at hx2; omega
  have m1 : ((1 : Int), (7 : Int)) ∈ p.ms := by
    apply Classical.byContradiction
    intro hn
    have := rts_none (w := 1) (ms := p.ms) (fun x hx e => by
      rcases hmem x hx with rfl | rfl
      · exact hn hx
      · exact absurd e (by decide))
    omega
  have m2 : ((2 : Int), (1 : Int)) ∈ p.ms := by
    apply Classical.byContradiction
    intro hn
    have := rts_none (w := 2) (ms := p.ms) (fun x hx e => by
      rcases hmem x hx with rfl | rfl
      · exact absurd e (by decide)
      · exact hn hx)
    omega
  have : p.ms = [(1, 7), (2, 1)] := by
    generalize p.ms = l at *
    match l, hri, hmem, m1, m2 with
    | [], _, _, m1, _ => cases m1
    | [a], _, hmem, m1, m2 => simp at m1 m2; rw [← m1] at m2; exact absurd m2 (by decide)
    | [a, b], hri, hmem, _, _ =>
      have h01 := hri 0 1 (by omega) (by simp) (by simp)
      simp at h01
      rcases hmem a (by simp) with rfl | rfl <;> rcases hmem b (by simp) with rfl | rfl
      · exact absurd h01 (by decide)
      · rfl
      · exact absurd h01 (by decide)
      · exact absurd h01 (by decide)
    | a :: b :: c :: r, hri, hmem, _, _ =>
      have h01 := hri 0 1 (by omega) (by simp) (by simp)
      have h12 := hri 1 2 (by omega) (by simp) (by simp)
      simp at h01 h12
      rcases hmem a (by simp) with rfl | rfl <;> rcases hmem b (by simp) with rfl | rfl <;> rcases hmem c (by simp) with rfl | rfl <;> simp at h01 h12
  rw [this]
  decide
/-- The boxes of anchor: three policies and an entry. -/
def PBox (W : World) (b : Nat) (p : Pol) : Prop := ∃ q c, W.heap[b]? = some (.cells (PolV p q c) 26 (0, 0)) ∧ PolIs W (.agg (PolV p q c)) p
end Go.Proofs.Ytmlnbbggfjgacaa.P10
