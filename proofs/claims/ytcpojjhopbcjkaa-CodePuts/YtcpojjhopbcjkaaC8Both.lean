/- Both readers side by side. -/
import Derived.Test.YtcpojjhopbcjkaaC8Ref2
import Derived.Test.YtcpojjhopbcjkaaC8St
namespace Go.Proofs.Ytcpojjhopbcjkaa.C8
open Go.RowKit
/-- Both readers stand at one place. -/
def Both (w : World) (p g q : Nat) (sv : Value) (l : List Nat) (o at_ : Nat) (left : List Nat) (bad : Bool) : Prop :=
  RdAt w p g o left bad ∧ RfAt w q sv at_ bad ∧ at_ ≤ l.length ∧ (bad = false → left = l.drop at_) ∧ (bad = true → left = [])
theorem Src.off {w w' : World} {v : Value} {l : List Nat} {bs : List Nat} (h : Src w v l) (ho : Only bs w w') (hv : l ≠ [] → Off v bs) : Src w' v l := by
  by_cases h0 : l = []
  · subst h0
    exact h.empty w'
  · exact h.only ho (hv h0)
theorem Told.off {g o n : Nat} {bs : List Nat} {v : Value} {t : List Nat} (h : Told g o n v) (hn : t.length = n) (hq : g ∉ bs) : t ≠ [] → Off v bs := fun h0 => by
  rcases h with ⟨rfl, _⟩ | rfl
  · exact absurd (List.eq_nil_of_length_eq_zero hn) h0
  · exact Off.at (ad := ⟨g, o, none⟩) hq
theorem RdAt.glt {w : World} {p g o : Nat} {l : List Nat} {bad : Bool} (h : RdAt w p g o l bad) (h0 : l ≠ []) : g < w.heap.size := by
  obtain ⟨_, _, _, _, _, ⟨_, _, _, rfl⟩ | ⟨c, _, _, hr⟩⟩ := h
  · exact absurd rfl h0
  · exact range_lt hr (ints_ne h0)
theorem RdAt.kept2 {w w' : World} {p g o : Nat} {l : List Nat} {bad : Bool} (h : RdAt w p g o l bad) (hp : w'.heap[p]? = w.heap[p]?) (hg : l ≠ [] → w'.heap[g]? = w.heap[g]?) : RdAt w' p g o l bad := by
  by_cases h0 : l = []
  · subst h0
    obtain ⟨h1, h2, h3, sl, h4, h5⟩ := h
    refine ⟨h1, h2, h3, sl, hp.trans h4, ?_⟩
    rcases h5 with h5 | ⟨c, rfl, _, _⟩
    · exact .inl h5
    · exact .inl ⟨_, _, rfl, rfl⟩
  · exact h.kept hp (fun _ => hg h0)
theorem text_both (p g q : Nat) (sv : Value) (l : List Nat) (o at_ : Nat) (left : List Nat) (bad : Bool) (least most : Int) (hl : l.length ≤ 2000) (hgq : l ≠ [] → g ≠ q) (ha : at_ ≤ l.length) (hf : bad = false → left = l.drop at_) (ht : bad = true → left = []) :
    ∃ (S : List Nat) (o2 at2 : Nat) (left2 : List Nat) (bad2 : Bool), at2 ≤ l.length ∧ (bad2 = false → left2 = l.drop at2) ∧ (bad2 = true → left2 = []) ∧
      (∀ W, RdAt W p g o left bad → Calls Try.prog 15 #[.pointer (some ⟨p, 0, none⟩), .int .i64 least, .int .i64 most] W fun e w' => ∃ v, e = .returned v ∧ SrcV [p, q] S v w' ∧ RdAt w' p g o2 left2 bad2 ∧ Only [p] W w') ∧
      (∀ W, RfAt W q sv at_ bad → Src W sv l → (l ≠ [] → Off sv [p, q]) → Calls Try.prog 19 #[.pointer (some ⟨q, 0, none⟩), .int .i64 least, .int .i64 most] W fun e w' => ∃ v, e = .returned v ∧ SrcV [p, q] S v w' ∧ RfAt w' q sv at2 bad2 ∧ Only [q] W w') := by
  cases bad with
  | true =>
    have h0 := ht rfl
    subst h0
    refine ⟨[], o, at_, [], true, ha, (fun h => by cases h), (fun _ => rfl), fun W hW => ?_, fun W hW hs _ => ?_⟩
    · exact (Text_lack W p g o [] true least most hW (.inl (by simp))).mono (by rintro e w' ⟨rfl, h1, h2⟩; exact ⟨_, rfl, ⟨Src.nil _, (fun h => absurd rfl h)⟩, h1, h2⟩)
    · exact (RText_none W q at_ sv l true least most hW hs (by omega) ha (.inl rfl)).mono (by rintro e w' ⟨rfl, h1, h2⟩; exact ⟨_, rfl, ⟨Src.nil _, (fun h => absurd rfl h)⟩, h1, h2⟩)
  | false =>
    have h0 := hf rfl
    subst h0
    have hlen : (l.drop at_).length = l.length - at_ := List.length_drop
    by_cases h1 : (l.drop at_).length < 2
    · refine ⟨[], o, at_, [], true, ha, (fun h => by cases h), (fun _ => rfl), fun W hW => ?_, fun W hW hs _ => ?_⟩
      · exact (Text_lack W p g o _ false least most hW (.inl h1)).mono (by rintro e w' ⟨rfl, h1, h2⟩; exact ⟨_, rfl, ⟨Src.nil _, (fun h => absurd rfl h)⟩, h1, h2⟩)
      · exact (RText_none W q at_ sv l false least most hW hs (by omega) ha (.inr (by omega))).mono (by rintro e w' ⟨rfl, h1, h2⟩; exact ⟨_, rfl, ⟨Src.nil _, (fun h => absurd rfl h)⟩, h1, h2⟩)
    · by_cases h2 : (l.drop at_).length < 2 + Cd.val ((l.drop at_).take 2) ∨ (Cd.val ((l.drop at_).take 2) : Int) < least ∨ most < (Cd.val ((l.drop at_).take 2) : Int)
      · refine ⟨[], o, at_ + 2, [], true, by omega, (fun h => by cases h), (fun _ => rfl), fun W hW => ?_, fun W hW hs _ => ?_⟩
        · exact (Text_lack W p g o _ false least most hW (.inr h2)).mono (by rintro e w' ⟨rfl, h1, h2⟩; exact ⟨_, rfl, ⟨Src.nil _, (fun h => absurd rfl h)⟩, h1, h2⟩)
        · exact (RText_out W q at_ sv l least most _ hW hs (by omega) (by omega) rfl (by omega)).mono (by rintro e w' ⟨rfl, h1, h2⟩; exact ⟨_, rfl, ⟨Src.nil _, (fun h => absurd rfl h)⟩, h1, h2⟩)
      · generalize hn : Cd.val ((l.drop at_).take 2) = n at *
        have e1 : ((l.drop at_).drop 2).take n = (l.drop (at_ + 2)).take n := by rw [List.drop_drop]
        have e2 : (l.drop at_).drop (2 + n) = l.drop (at_ + 2 + n) := by rw [List.drop_drop, Nat.add_assoc]
        have e3 : ((l.drop (at_ + 2)).take n).length = n := by rw [List.length_take, List.length_drop]; omega
        refine ⟨(l.drop (at_ + 2)).take n, o + (2 + n), at_ + 2 + n, l.drop (at_ + 2 + n), false, by omega, (fun _ => rfl), (fun h => by cases h), fun W hW => ?_, fun W hW hs ho => ?_⟩
        · exact (Text_src W p g o _ false least most n hW (by omega) hn (by omega) (by omega)).mono (by
            rintro e w' ⟨v, rfl, h3, h4, h5, h6⟩
            rw [e1] at h4
            rw [e2] at h5
            exact ⟨v, rfl, ⟨h4, fun h0 => h3.off e3 (by have k1 := hgq (fun e => h0 (by rw [e]; simp)); have k2 := hW.2.2.1; simp; omega) h0⟩, h5, h6⟩)
        · exact (RText_ok W q at_ sv l least most n hW hs ((ho (fun e => by rw [e] at hlen h1; simp at hlen h1)).more (by simp)) (by omega) (by omega) hn (by omega) (by omega)).mono (by
            rintro e w' ⟨v, rfl, h3, h4, h5, h6⟩
            exact ⟨v, rfl, ⟨h4, fun _ b hb => ho (fun e => by rw [e] at hlen h1; simp at hlen h1) b (by rw [← h3]; exact hb)⟩, h5, h6⟩)
theorem num_both (p g q : Nat) (sv : Value) (l : List Nat) (o at_ : Nat) (left : List Nat) (bad : Bool) (least most : Int) (hl : l.length ≤ 2000) (ha : at_ ≤ l.length) (hf : bad = false → left = l.drop at_) (ht : bad = true → left = []) :
    ∃ (x : Int) (o2 at2 : Nat) (left2 : List Nat) (bad2 : Bool), at2 ≤ l.length ∧ (bad2 = false → left2 = l.drop at2) ∧ (bad2 = true → left2 = []) ∧
      (∀ W, RdAt W p g o left bad → Calls Try.prog 16 #[.pointer (some ⟨p, 0, none⟩), .int .i64 least, .int .i64 most] W fun e w' => e = .returned (.int .i64 x) ∧ RdAt w' p g o2 left2 bad2 ∧ Only [p] W w') ∧
      (∀ W, RfAt W q sv at_ bad → Src W sv l → Calls Try.prog 20 #[.pointer (some ⟨q, 0, none⟩), .int .i64 least, .int .i64 most] W fun e w' => e = .returned (.int .i64 x) ∧ RfAt w' q sv at2 bad2 ∧ Only [q] W w') := by
  cases bad with
  | true =>
    have h0 := ht rfl
    subst h0
    exact ⟨0, o, at_, [], true, ha, (fun h => by cases h), (fun _ => rfl), fun W hW => Number_lack W p g o [] true least most hW (.inl (by simp)), fun W hW hs => RNum_none W q at_ sv l true least most hW hs (by omega) ha (.inl rfl)⟩
  | false =>
    have h0 := hf rfl
    subst h0
    have hlen : (l.drop at_).length = l.length - at_ := List.length_drop
    by_cases h1 : (l.drop at_).length < 6
    · exact ⟨0, o, at_, [], true, ha, (fun h => by cases h), (fun _ => rfl), fun W hW => Number_lack W p g o _ false least most hW (.inl h1), fun W hW hs => RNum_none W q at_ sv l false least most hW hs (by omega) ha (.inr (by omega))⟩
    · by_cases h2 : (Cd.val ((l.drop at_).take 6) : Int) < least ∨ most < (Cd.val ((l.drop at_).take 6) : Int)
      · exact ⟨0, o, at_ + 6, [], true, by omega, (fun h => by cases h), (fun _ => rfl), fun W hW => Number_lack W p g o _ false least most hW (.inr h2), fun W hW hs => RNum_out W q at_ sv l least most _ hW hs (by omega) (by omega) rfl h2⟩
      · generalize hn : Cd.val ((l.drop at_).take 6) = n at *
        have e2 : (l.drop at_).drop 6 = l.drop (at_ + 6) := by rw [List.drop_drop]
        refine ⟨n, o + 6, at_ + 6, l.drop (at_ + 6), false, by omega, (fun _ => rfl), (fun h => by cases h), fun W hW => ?_, fun W hW hs => ?_⟩
        · have := Number_ok W p g o _ false least most n hW (by omega) hn (by omega) (by omega)
          rwa [e2] at this
        · exact RNum_ok W q at_ sv l least most n hW hs (by omega) (by omega) hn (by omega) (by omega)
end Go.Proofs.Ytcpojjhopbcjkaa.C8
