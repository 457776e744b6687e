/- The plain mathematics of entries: when one is right, its bytes, and how bytes are read as one. -/
import Derived.Test.YtchoiioeeepoaaaC8Spec
namespace Go.Proofs.Ytchoiioeeepoaaa.E9
open Go.RowKit C8
/-- An entry; its wraps are pairs of a member and a box. -/
structure En where
  kind : Int
  writer : Int
  seq : Int
  name : List Nat
  value : List Nat
  who : Int
  rights : Int
  epoch : Int
  wraps : List (Int × List Nat)
/-- Two are the same. -/
def same (a b : En) : Bool := decide (a.kind = b.kind ∧ a.writer = b.writer ∧ a.seq = b.seq ∧ a.name = b.name ∧ a.value = b.value ∧ a.who = b.who ∧ a.rights = b.rights ∧ a.epoch = b.epoch ∧ a.wraps = b.wraps)
theorem same_iff (a b : En) : same a b = true ↔ a = b := by
  obtain ⟨a1, a2, a3, a4, a5, a6, a7, a8, a9⟩ := a
  obtain ⟨b1, b2, b3, b4, b5, b6, b7, b8, b9⟩ := b
  simp [same]
def wok : Int → List (Int × List Nat) → Bool
  | _, [] => true
  | last, x :: r => decide (last + 1 ≤ x.1 ∧ x.1 ≤ 16) && decide (x.2.length = 48) && wok x.1 r
/-- What is named of its kind is within its bounds. -/
def byKind (e : En) : Bool :=
  if e.kind = 1 then decide (1 ≤ e.name.length ∧ e.name.length ≤ 64) && decide (e.value.length ≤ 512)
  else if e.kind = 2 then decide (1 ≤ e.name.length ∧ e.name.length ≤ 64)
  else if e.kind = 3 then decide (1 ≤ e.who ∧ e.who ≤ 16) && decide (1 ≤ e.rights ∧ e.rights ≤ 7)
  else if e.kind = 4 then decide (1 ≤ e.who ∧ e.who ≤ 16)
  else if e.kind = 5 then decide (1 ≤ e.epoch ∧ e.epoch ≤ 16) && wok 0 e.wraps
  else false
/-- Nothing but what is named of its kind. -/
def named (e : En) : En :=
  if e.kind = 1 then ⟨e.kind, e.writer, e.seq, e.name, e.value, 0, 0, 0, []⟩
  else if e.kind = 2 then ⟨e.kind, e.writer, e.seq, e.name, [], 0, 0, 0, []⟩
  else if e.kind = 3 then ⟨e.kind, e.writer, e.seq, [], [], e.who, e.rights, 0, []⟩
  else if e.kind = 4 then ⟨e.kind, e.writer, e.seq, [], [], e.who, 0, 0, []⟩
  else if e.kind = 5 then ⟨e.kind, e.writer, e.seq, [], [], 0, 0, e.epoch, e.wraps⟩
  else ⟨e.kind, e.writer, e.seq, [], [], 0, 0, 0, []⟩
def right (e : En) : Bool := decide (1 ≤ e.writer ∧ e.writer ≤ 16) && decide (1 ≤ e.seq ∧ e.seq ≤ 1099511627776) && byKind e && same e (named e)
/-- The ways to be right, one a kind. -/
theorem right_iff (e : En) : right e = true ↔ (1 ≤ e.writer ∧ e.writer ≤ 16) ∧ (1 ≤ e.seq ∧ e.seq ≤ 1099511627776) ∧
    ((e.kind = 1 ∧ (1 ≤ e.name.length ∧ e.name.length ≤ 64) ∧ e.value.length ≤ 512 ∧ e.who = 0 ∧ e.rights = 0 ∧ e.epoch = 0 ∧ e.wraps = []) ∨
     (e.kind = 2 ∧ (1 ≤ e.name.length ∧ e.name.length ≤ 64) ∧ e.value = [] ∧ e.who = 0 ∧ e.rights = 0 ∧ e.epoch = 0 ∧ e.wraps = []) ∨
     (e.kind = 3 ∧ e.name = [] ∧ e.value = [] ∧ (1 ≤ e.who ∧ e.who ≤ 16) ∧ (1 ≤ e.rights ∧ e.rights ≤ 7) ∧ e.epoch = 0 ∧ e.wraps = []) ∨
     (e.kind = 4 ∧ e.name = [] ∧ e.value = [] ∧ (1 ≤ e.who ∧ e.who ≤ 16) ∧ e.rights = 0 ∧ e.epoch = 0 ∧ e.wraps = []) ∨
     (e.kind = 5 ∧ e.name = [] ∧ e.value = [] ∧ e.who = 0 ∧ e.rights = 0 ∧ (1 ≤ e.epoch ∧ e.epoch ≤ 16) ∧ wok 0 e.wraps = true)) := by
  obtain ⟨a1, a2, a3, a4, a5, a6, a7, a8, a9⟩ := e
  unfold right byKind named
  by_cases h1 : a1 = 1
  · subst h1; simp [same, and_assoc]
  by_cases h2 : a1 = 2
  · subst h2; simp [same, and_assoc]
  by_cases h3 : a1 = 3
  · subst h3
    simp [same, and_assoc]
    intro _ _ _ _
    constructor <;> (intro h; simp_all)
  by_cases h4 : a1 = 4
  · subst h4
    simp [same, and_assoc]
    intro _ _ _ _
    constructor <;> (intro h; simp_all)
  by_cases h5 : a1 = 5
  · subst h5
    simp [same, and_assoc]
    intro _ _ _ _
    constructor <;> (intro h; simp_all)
  simp [h1, h2, h3, h4, h5]
theorem wok_length : ∀ (ws : List (Int × List Nat)) (last : Int), wok last ws = true → ws ≠ [] → last + ws.length ≤ 16
  | [], _, _, h => absurd rfl h
  | x :: r, last, h, _ => by
    simp only [wok, Bool.and_eq_true, decide_eq_true_eq] at h
    obtain ⟨⟨⟨h1, h2⟩, _⟩, h4⟩ := h
    by_cases hr : r = []
    · subst hr; simp; omega
    · have := wok_length r x.1 h4 hr
      simp only [List.length_cons]
      omega
theorem wok_le {ws : List (Int × List Nat)} (h : wok 0 ws = true) : ws.length ≤ 16 := by
  by_cases h0 : ws = []
  · subst h0; simp
  · have := wok_length ws 0 h h0
    omega
theorem wok_each : ∀ (ws : List (Int × List Nat)) (last : Int), 0 ≤ last → wok last ws = true → ∀ x ∈ ws, 1 ≤ x.1 ∧ x.1 ≤ 16 ∧ x.2.length = 48
  | [], _, _, _, x, hx => by cases hx
  | y :: r, last, h0, h, x, hx => by
    simp only [wok, Bool.and_eq_true, decide_eq_true_eq] at h
    obtain ⟨⟨⟨h1, h2⟩, h3⟩, h4⟩ := h
    rcases List.mem_cons.1 hx with rfl | hx
    · exact ⟨by omega, h2, h3⟩
    · exact wok_each r y.1 (by omega) h4 x hx
/-- Its bytes' parts. -/
def num (n : Int) : Pt := ⟨false, n, []⟩
def txt (l : List Nat) : Pt := ⟨true, 0, l⟩
def wpts : List (Int × List Nat) → List Pt
  | [] => []
  | x :: r => num x.1 :: txt x.2 :: wpts r
theorem wpts_append (a b : List (Int × List Nat)) : wpts (a ++ b) = wpts a ++ wpts b := by
  induction a with
  | nil => rfl
  | cons x r ih => simp [wpts, ih]
theorem wpts_length : ∀ ws : List (Int × List Nat), (wpts ws).length = 2 * ws.length
  | [] => rfl
  | _ :: r => by simp only [wpts, List.length_cons, wpts_length r]; omega
def tailP (e : En) : List Pt :=
  if e.kind = 1 then [txt e.name, txt e.value]
  else if e.kind = 2 then [txt e.name]
  else if e.kind = 3 then [num e.who, num e.rights]
  else if e.kind = 4 then [num e.who]
  else num e.epoch :: num (e.wraps.length : Int) :: wpts e.wraps
def pts (e : En) : List Pt := num e.kind :: num e.writer :: num e.seq :: tailP e
/-- An entry's bytes. -/
def bytes (e : En) : List Nat := Cd.enc (pts e)
theorem wrong_num {n : Int} (h0 : 0 ≤ n) (h1 : n ≤ 1099511627776) : Cd.wrong (num n) = 0 := by
  unfold Cd.wrong num
  rw [if_neg (by simp), if_neg (by simp only; omega)]
theorem wrong_txt {l : List Nat} (h : l.length ≤ 4096) : Cd.wrong (txt l) = 0 := by
  unfold Cd.wrong txt
  rw [if_pos rfl, if_neg (by simp only; omega)]
theorem err_cons {p : Pt} {r : List Pt} (h : Cd.wrong p = 0) (h2 : Cd.err r = 0) : Cd.err (p :: r) = 0 := by rw [Cd.err, if_pos h, h2]
theorem err_wpts : ∀ ws : List (Int × List Nat), (∀ x ∈ ws, 1 ≤ x.1 ∧ x.1 ≤ 16 ∧ x.2.length = 48) → Cd.err (wpts ws) = 0
  | [], _ => rfl
  | x :: r, h => by
    have h1 := h x (by simp)
    exact err_cons (wrong_num (by omega) (by omega)) (err_cons (wrong_txt (by omega)) (err_wpts r (fun y hy => h y (by simp [hy]))))
/-- A right entry's parts are right. -/
theorem right_err {e : En} (h : right e = true) : Cd.err (pts e) = 0 := by
  obtain ⟨hw, hs, h⟩ := (right_iff e).1 h
  unfold pts tailP
  rcases h with ⟨k, h1, h2, _⟩ | ⟨k, h1, _⟩ | ⟨k, _, _, h1, h2, _⟩ | ⟨k, _, _, h1, _⟩ | ⟨k, _, _, _, _, h1, h2⟩
  all_goals
    rw [k]
    refine err_cons (wrong_num (by decide) (by decide)) (err_cons (wrong_num (by omega) (by omega)) (err_cons (wrong_num (by omega) (by omega)) ?_))
  · exact err_cons (wrong_txt (by omega)) (err_cons (wrong_txt (by omega)) rfl)
  · exact err_cons (wrong_txt (by omega)) rfl
  · exact err_cons (wrong_num (by omega) (by omega)) (err_cons (wrong_num (by omega) (by omega)) rfl)
  · exact err_cons (wrong_num (by omega) (by omega)) rfl
  · have := wok_le h2
    exact err_cons (wrong_num (by omega) (by omega)) (err_cons (wrong_num (by omega) (by omega)) (err_wpts _ (wok_each _ 0 (by omega) h2)))
theorem pts_length {e : En} (h : right e = true) : (pts e).length ≤ 37 := by
  obtain ⟨hw, hs, h⟩ := (right_iff e).1 h
  unfold pts tailP
  rcases h with ⟨k, h1, h2, _⟩ | ⟨k, h1, _⟩ | ⟨k, _, _, h1, h2, _⟩ | ⟨k, _, _, h1, _⟩ | ⟨k, _, _, _, _, h1, h2⟩
  all_goals rw [k]
  · simp
  · simp
  · simp
  · simp
  · have := wok_le h2
    simp [wpts_length]
    omega
theorem one_num (n : Int) : Cd.one (num n) = Cd.be 6 n.toNat := by unfold Cd.one num; rw [if_neg (by simp)]
theorem one_txt (l : List Nat) : Cd.one (txt l) = Cd.be 2 l.length ++ l := by unfold Cd.one txt; rw [if_pos rfl]
theorem enc_wpts_length : ∀ ws : List (Int × List Nat), (∀ x ∈ ws, 1 ≤ x.1 ∧ x.1 ≤ 16 ∧ x.2.length = 48) → (Cd.enc (wpts ws)).length = 56 * ws.length
  | [], _ => rfl
  | x :: r, h => by
    have h1 := h x (by simp)
    have h2 := enc_wpts_length r (fun y hy => h y (by simp [hy]))
    simp only [wpts, Cd.enc, one_num, one_txt, List.length_append, Cd.be_length, List.length_cons, h2]
    omega
theorem bytes_length {e : En} (h : right e = true) : (bytes e).length ≤ 1000 ∧ 18 ≤ (bytes e).length := by
  obtain ⟨hw, hs, h⟩ := (right_iff e).1 h
  unfold bytes pts tailP
  rcases h with ⟨k, h1, h2, _⟩ | ⟨k, h1, _⟩ | ⟨k, _, _, h1, h2, _⟩ | ⟨k, _, _, h1, _⟩ | ⟨k, _, _, _, _, h1, h2⟩
  all_goals rw [k]; simp only [Cd.enc, one_num, one_txt, List.length_append, Cd.be_length, if_true, if_false, List.length_nil, show ¬ (2 : Int) = 1 from by decide, show ¬ (3 : Int) = 1 from by decide, show ¬ (3 : Int) = 2 from by decide, show ¬ (4 : Int) = 1 from by decide, show ¬ (4 : Int) = 2 from by decide, show ¬ (4 : Int) = 3 from by decide, show ¬ (5 : Int) = 1 from by decide, show ¬ (5 : Int) = 2 from by decide, show ¬ (5 : Int) = 3 from by decide, show ¬ (5 : Int) = 4 from by decide]
  · omega
  · omega
  · omega
  · omega
  · have := wok_le h2
    rw [enc_wpts_length _ (wok_each _ 0 (by omega) h2)]
    omega
/-- All of an entry's bytes are bytes. -/
def Small (e : En) : Prop := (∀ x ∈ e.name, x < 256) ∧ (∀ x ∈ e.value, x < 256) ∧ ∀ y ∈ e.wraps, ∀ x ∈ y.2, x < 256
theorem wpts_small : ∀ ws : List (Int × List Nat), (∀ y ∈ ws, ∀ x ∈ y.2, x < 256) → ∀ p ∈ wpts ws, ∀ x ∈ p.text, x < 256
  | [], _, p, hp => by cases hp
  | y :: r, h, p, hp => by
    simp only [wpts, List.mem_cons] at hp
    rcases hp with rfl | rfl | hp
    · intro x hx; cases hx
    · exact h y (by simp)
    · exact wpts_small r (fun z hz => h z (by simp [hz])) p hp
theorem bytes_small {e : En} (h : Small e) : ∀ x ∈ bytes e, x < 256 := by
  refine Cd.enc_lt fun p hp => ?_
  unfold pts at hp
  simp only [List.mem_cons] at hp
  rcases hp with rfl | rfl | rfl | hp
  · intro x hx; cases hx
  · intro x hx; cases hx
  · intro x hx; cases hx
  · unfold tailP at hp
    split at hp
    · simp only [List.mem_cons, List.not_mem_nil, or_false] at hp
      rcases hp with rfl | rfl
      · exact h.1
      · exact h.2.1
    · split at hp
      · simp only [List.mem_cons, List.not_mem_nil, or_false] at hp
        subst hp
        exact h.1
      · split at hp
        · simp only [List.mem_cons, List.not_mem_nil, or_false] at hp
          rcases hp with rfl | rfl <;> (intro x hx; cases hx)
        · split at hp
          · simp only [List.mem_cons, List.not_mem_nil, or_false] at hp
            subst hp
            intro x hx; cases hx
          · simp only [List.mem_cons] at hp
            rcases hp with rfl | rfl | hp
            · intro x hx; cases hx
            · intro x hx; cases hx
            · exact wpts_small _ h.2.2 p hp
end Go.Proofs.Ytchoiioeeepoaaa.E9
