/- The plain mathematics of entries: when one is right, its bytes, and how bytes are read as one. -/
import Derived.Test.YtfjdaafckiefdaaGreatDoorMgC
namespace Go.Proofs.YtfjdaafckiefdaaGreatDoor.E9
open Go.RowKit C8
/-- An entry; its wraps are pairs of a member and a box. -/
structure En where
  kind : Int
  writer : Int
  seq : Int
  name : List Nat
  value : List Nat
  who : Int
  rights : Int
  epoch : Int
  wraps : List (Int × List Nat)
/-- Two are the same. -/
def same (a b : En) : Bool := decide (a.kind = b.kind ∧ a.writer = b.writer ∧ a.seq = b.seq ∧ a.name = b.name ∧ a.value = b.value ∧ a.who = b.who ∧ a.rights = b.rights ∧ a.epoch = b.epoch ∧ a.wraps = b.wraps)
theorem same_iff (a b : En) : same a b = true ↔ a = b := by
  obtain ⟨a1, a2, a3, a4, a5, a6, a7, a8, a9⟩ := a
  obtain ⟨b1, b2, b3, b4, b5, b6, b7, b8, b9⟩ := b
  simp [same]
def wok : Int → List (Int × List Nat) → Bool
  | _, [] => true
  | last, x :: r => decide (last + 1 ≤ x.1 ∧ x.1 ≤ 16) && decide (x.2.length = 48) && wok x.1 r
/-- What is named of its kind is within its bounds. -/
def byKind (e : En) : Bool :=
  if e.kind = 1 then decide (1 ≤ e.name.length ∧ e.name.length ≤ 64) && decide (e.value.length ≤ 512)
  else if e.kind = 2 then decide (1 ≤ e.name.length ∧ e.name.length ≤ 64)
  else if e.kind = 3 then decide (1 ≤ e.who ∧ e.who ≤ 16) && decide (1 ≤ e.rights ∧ e.rights ≤ 7)
  else if e.kind = 4 then decide (1 ≤ e.who ∧ e.who ≤ 16)
  else if e.kind = 5 then decide (1 ≤ e.epoch ∧ e.epoch ≤ 16) && wok 0 e.wraps
  else false
/-- Nothing but what is named of its kind. -/
def named (e : En) : En :=
  if e.kind = 1 then ⟨e.kind, e.writer, e.seq, e.name, e.value, 0, 0, 0, []⟩
  else if e.kind = 2 then ⟨e.kind, e.writer, e.seq, e.name, [], 0, 0, 0, []⟩
  else if e.kind = 3 then ⟨e.kind, e.writer, e.seq, [], [], e.who, e.rights, 0, []⟩
  else if e.kind = 4 then ⟨e.kind, e.writer, e.seq, [], [], e.who, 0, 0, []⟩
  else if e.kind = 5 then ⟨e.kind, e.writer, e.seq, [], [], 0, 0, e.epoch, e.wraps⟩
  else ⟨e.kind, e.writer, e.seq, [], [], 0, 0, 0, []⟩
def right (e : En) : Bool := decide (1 ≤ e.writer ∧ e.writer ≤ 16) && decide (1 ≤ e.seq ∧ e.seq ≤ 1099511627776) && byKind e && same e (named e)
/-- The ways to be right, one a kind. -/
theorem right_iff (e : En) : right e = true ↔ (1 ≤ e.writer ∧ e.writer ≤ 16) ∧ (1 ≤ e.seq ∧ e.seq ≤ 1099511627776) ∧
    ((e.kind = 1 ∧ (1 ≤ e.name.length ∧ e.name.length ≤ 64) ∧ e.value.length ≤ 512 ∧ e.who = 0 ∧ e.rights = 0 ∧ e.epoch = 0 ∧ e.wraps = []) ∨
     (e.kind = 2 ∧ (1 ≤ e.name.length ∧ e.name.length ≤ 64) ∧ e.value = [] ∧ e.who = 0 ∧ e.rights = 0 ∧ e.epoch = 0 ∧ e.wraps = []) ∨
     (e.kind = 3 ∧ e.name = [] ∧ e.value = [] ∧ (1 ≤ e.who ∧ e.who ≤ 16) ∧ (1 ≤ e.rights ∧ e.rights ≤ 7) ∧ e.epoch = 0 ∧ e.wraps = []) ∨
     (e.kind = 4 ∧ e.name = [] ∧ e.value = [] ∧ (1 ≤ e.who ∧ e.who ≤ 16) ∧ e.rights = 0 ∧ e.epoch = 0 ∧ e.wraps = []) ∨
     (e.kind = 5 ∧ e.name = [] ∧ e.value = [] ∧ e.who = 0 ∧ e.rights = 0 ∧ (1 ≤ e.epoch ∧ e.epoch ≤ 16) ∧ wok 0 e.wraps = true)) := by
  obtain ⟨a1, a2, a3, a4, a5, a6, a7, a8, a9⟩ := e
  unfold right byKind named
  by_cases h1 : a1 = 1
  · subst h1; simp [same, and_assoc]
  by_cases h2 : a1 = 2
  · subst h2; simp [same, and_assoc]
  by_cases h3 : a1 = 3
  · subst h3
    simp [same, and_assoc]
    intro _ _ _ _
    constructor <;> (intro h; simp_all)
  by_cases h4 : a1 = 4
  · subst h4
    simp [same, and_assoc]
    intro _ _ _ _
    constructor <;> (intro h; simp_all)
  by_cases h5 : a1 = 5
  · subst h5
    simp [same, and_assoc]
    intro _ _ _ _
    constructor <;> (intro h; simp_all)
  simp [h1, h2, h3, h4, h5]
theorem wok_length : ∀ (ws : List (Int × List Nat)) (last : Int), wok last ws = true → ws ≠ [] → last + ws.length ≤ 16
  | [], _, _, h => absurd rfl h
  | x :: r, last, h, _ => by
    simp only [wok, Bool.and_eq_true, decide_eq_true_eq] at h
    obtain ⟨⟨⟨h1, h2⟩, _⟩, h4⟩ := h
    by_cases hr : r = []
    · subst hr; simp; omega
    · have := wok_length r x.1 h4 hr
      simp only [List.length_cons]
      omega
theorem wok_le {ws : List (Int × List Nat)} (h : wok 0 ws = true) : ws.length ≤ 16 := by
  by_cases h0 : ws = []
  · subst h0; simp
  · have := wok_length ws 0 h h0
    omega
theorem wok_each : ∀ (ws : List (Int × List Nat)) (last : Int), 0 ≤ last → wok last ws = true → ∀ x ∈ ws, 1 ≤ x.1 ∧ x.1 ≤ 16 ∧ x.2.length = 48
  | [], _, _, _, x, hx => by cases hx
  | y :: r, last, h0, h, x, hx => by
    simp only [wok, Bool.and_eq_true, decide_eq_true_eq] at h
    obtain ⟨⟨⟨h1, h2⟩, h3⟩, h4⟩ := h
    rcases List.mem_cons.1 hx with rfl | hx
    · exact ⟨by omega, h2, h3⟩
    · exact wok_each r y.1 (by omega) h4 x hx
/-- Its bytes' parts. -/
def num (n : Int) : Pt := ⟨false, n, []⟩
def txt (l : List Nat) : Pt := ⟨true, 0, l⟩
def wpts : List (Int × List Nat) → List Pt
  | [] => []
  | x :: r => num x.1 :: txt x.2 :: wpts r
theorem wpts_append (a b : List (Int × List Nat)) : wpts (a ++ b) = wpts a ++ wpts b := by
  induction a with
  | nil => rfl
  | cons x r ih => simp [wpts, ih]
theorem wpts_length : ∀ ws : List (Int × List Nat), (wpts ws).length = 2 * ws.length
  | [] => rfl
  | _ :: r => by simp only [wpts, List.length_cons, wpts_length r]; omega
def tailP (e : En) : List Pt :=
  if e.kind = 1 then [txt e.name, txt e.value]
  else if e.kind = 2 then [txt e.name]
  else if e.kind = 3 then [num e.who, num e.rights]
  else if e.kind = 4 then [num e.who]
  else num e.epoch :: num (e.wraps.length : Int) :: wpts e.wraps
def pts (e : En) : List Pt := num e.kind :: num e.writer :: num e.seq :: tailP e
/-- An entry's bytes. -/
def bytes (e : En) : List Nat := Cd.enc (pts e)
theorem wrong_num {n : Int} (h0 : 0 ≤ n) (h1 : n ≤ 1099511627776) : Cd.wrong (num n) = 0 := by
  unfold Cd.wrong num
  rw [if_neg (by simp), if_neg (by simp only; omega)]
theorem wrong_txt {l : List Nat} (h : l.length ≤ 4096) : Cd.wrong (txt l) = 0 := by
  unfold Cd.wrong txt
  rw [if_pos rfl, if_neg (by simp only; omega)]
theorem err_cons {p : Pt} {r : List Pt} (h : Cd.wrong p = 0) (h2 : Cd.err r = 0) : Cd.err (p :: r) = 0 := by rw [Cd.err, if_pos h, h2]
theorem err_wpts : ∀ ws : List (Int × List Nat), (∀ x ∈ ws, 1 ≤ x.1 ∧ x.1 ≤ 16 ∧ x.2.length = 48) → Cd.err (wpts ws) = 0
  | [], _ => rfl
  | x :: r, h => by
    have h1 := h x (by simp)
    exact err_cons (wrong_num (by omega) (by omega)) (err_cons (wrong_txt (by omega)) (err_wpts r (fun y hy => h y (by simp [hy]))))
/-- A right entry's parts are right. -/
theorem right_err {e : En} (h : right e = true) : Cd.err (pts e) = 0 := by
  obtain ⟨hw, hs, h⟩ := (right_iff e).1 h
  unfold pts tailP
  rcases h with ⟨k, h1, h2, _⟩ | ⟨k, h1, _⟩ | ⟨k, _, _, h1, h2, _⟩ | ⟨k, _, _, h1, _⟩ | ⟨k, _, _, _, _, h1, h2⟩
  all_goals
    rw [k]
    refine err_cons (wrong_num (by decide) (by decide)) (err_cons (wrong_num (by omega) (by omega)) (err_cons (wrong_num (by omega) (by omega)) ?_))
  · exact err_cons (wrong_txt (by omega)) (err_cons (wrong_txt (by omega)) rfl)
  · exact err_cons (wrong_txt (by omega)) rfl
  · exact err_cons (wrong_num (by omega) (by omega)) (err_cons (wrong_num (by omega) (by omega)) rfl)
  · exact err_cons (wrong_num (by omega) (by omega)) rfl
  · have := wok_le h2
    exact err_cons (wrong_num (by omega) (by omega)) (err_cons (wrong_num (by omega) (by omega)) (err_wpts _ (wok_each _ 0 (by omega) h2)))
theorem pts_length {e : En} (h : right e = true) : (pts e).length ≤ 37 := by
  obtain ⟨hw, hs, h⟩ := (right_iff e).1 h
  unfold pts tailP
  rcases h with ⟨k, h1, h2, _⟩ | ⟨k, h1, _⟩ | ⟨k, _, _, h1, h2, _⟩ | ⟨k, _, _, h1, _⟩ | ⟨k, _, _, _, _, h1, h2⟩
  all_goals rw [k]
  · simp
  · simp
  · simp
  · simp
  · have := wok_le h2
    simp [wpts_length]
    omega
theorem one_num (n : Int) : Cd.one (num n) = Cd.be 6 n.toNat := by unfold Cd.one num; rw [if_neg (by simp)]
theorem one_txt (l : List Nat) : Cd.one (txt l) = Cd.be 2 l.length ++ l := by unfold Cd.one txt; rw [if_pos rfl]
theorem enc_wpts_length : ∀ ws : List (Int × List Nat), (∀ x ∈ ws, 1 ≤ x.1 ∧ x.1 ≤ 16 ∧ x.2.length = 48) → (Cd.enc (wpts ws)).length = 56 * ws.length
  | [], _ => rfl
  | x :: r, h => by
    have h1 := h x (by simp)
    have h2 := enc_wpts_length r (fun y hy => h y (by simp [hy]))
    simp only [wpts, Cd.enc, one_num, one_txt, List.length_append, Cd.be_length, List.length_cons, h2]
    omega
theorem bytes_length {e : En} (h : right e = true) : (bytes e).length ≤ 1000 ∧ 18 ≤ (bytes e).length := by
  obtain ⟨hw, hs, h⟩ := (right_iff e).1 h
  unfold bytes pts tailP
  rcases h with ⟨k, h1, h2, _⟩ | ⟨k, h1, _⟩ | ⟨k, _, _, h1, h2, _⟩ | ⟨k, _, _, h1, _⟩ | ⟨k, _, _, _, _, h1, h2⟩
  all_goals rw [k]; simp only [Cd.enc, one_num, one_txt, List.length_append, Cd.be_length, if_true, if_false, List.length_nil, show ¬ (2 : Int) = 1 from by decide, show ¬ (3 : Int) = 1 from by decide, show ¬ (3 : Int) = 2 from by decide, show ¬ (4 : Int) = 1 from by decide, show ¬ (4 : Int) = 2 from by decide, show ¬ (4 : Int) = 3 from by decide, show ¬ (5 : Int) = 1 from by decide, show ¬ (5 : Int) = 2 from by decide, show ¬ (5 : Int) = 3 from by decide, show ¬ (5 : Int) = 4 from by decide]
  · omega
  · omega
  · omega
  · omega
  · have := wok_le h2
    rw [enc_wpts_length _ (wok_each _ 0 (by omega) h2)]
    omega
/-- All of an entry's bytes are bytes. -/
def Small (e : En) : Prop := (∀ x ∈ e.name, x < 256) ∧ (∀ x ∈ e.value, x < 256) ∧ ∀ y ∈ e.wraps, ∀ x ∈ y.2, x < 256
theorem wpts_small : ∀ ws : List (Int × List Nat), (∀ y ∈ ws, ∀ x ∈ y.2, x < 256) → ∀ p ∈ wpts ws, ∀ x ∈ p.text, x < 256
  | [], _, p, hp => by cases hp
  | y :: r, h, p, hp => by
    simp only [wpts, List.mem_cons] at hp
    rcases hp with rfl | rfl | hp
    · intro x hx; cases hx
    · exact h y (by simp)
    · exact wpts_small r (fun z hz => h z (by simp [hz])) p hp
theorem bytes_small {e : En} (h : Small e) : ∀ x ∈ bytes e, x < 256 := by
  refine Cd.enc_lt fun p hp => ?_
  unfold pts at hp
  simp only [List.mem_cons] at hp
  rcases hp with rfl | rfl | rfl | hp
  · intro x hx; cases hx
  · intro x hx; cases hx
  · intro x hx; cases hx
  · unfold tailP at hp
    split at hp
    · simp only [List.mem_cons, List.not_mem_nil, or_false] at hp
      rcases hp with rfl | rfl
      · exact h.1
      · exact h.2.1
    · split at hp
      · simp only [List.mem_cons, List.not_mem_nil, or_false] at hp
        subst hp
        exact h.1
      · split at hp
        · simp only [List.mem_cons, List.not_mem_nil, or_false] at hp
          rcases hp with rfl | rfl <;> (intro x hx; cases hx)
        · split at hp
          · simp only [List.mem_cons, List.not_mem_nil, or_false] at hp
            subst hp
            intro x hx; cases hx
          · simp only [List.mem_cons] at hp
            rcases hp with rfl | rfl | hp
            · intro x hx; cases hx
            · intro x hx; cases hx
            · exact wpts_small _ h.2.2 p hp
end Go.Proofs.YtfjdaafckiefdaaGreatDoor.E9
/- How bytes are read as an entry: by plain functions, with tight and with loose bounds; both find just the right entry whose bytes they are. -/
namespace Go.Proofs.YtfjdaafckiefdaaGreatDoor.E9
open Go.RowKit C8
/-- What is left of the bytes, and whether they are bad. -/
abbrev Sta := List Nat × Bool
def rN (lo hi : Int) (s : Sta) : Int × Sta :=
  if s.1.length < 6 ∨ (Cd.val (s.1.take 6) : Int) < lo ∨ hi < (Cd.val (s.1.take 6) : Int) then (0, ([], true)) else ((Cd.val (s.1.take 6) : Int), (s.1.drop 6, s.2))
def rT (lo hi : Int) (s : Sta) : List Nat × Sta :=
  if s.1.length < 2 ∨ s.1.length < 2 + Cd.val (s.1.take 2) ∨ (Cd.val (s.1.take 2) : Int) < lo ∨ hi < (Cd.val (s.1.take 2) : Int) then ([], ([], true)) else ((s.1.drop 2).take (Cd.val (s.1.take 2)), (s.1.drop (2 + Cd.val (s.1.take 2)), s.2))
def rW (lo hi : Int) : Nat → Sta → List (Int × List Nat) × Sta
  | 0, s => ([], s)
  | n + 1, s => ((rW lo hi n s).1 ++ [((rN 1 16 (rW lo hi n s).2).1, (rT lo hi (rN 1 16 (rW lo hi n s).2).2).1)], (rT lo hi (rN 1 16 (rW lo hi n s).2).2).2)
def hiK (t : Bool) : Int := if t then 5 else 1099511627776
def lo1 (t : Bool) : Int := if t then 1 else 0
def hiT (t : Bool) : Int := if t then 64 else 4096
def hiV (t : Bool) : Int := if t then 512 else 4096
def hiR (t : Bool) : Int := if t then 7 else 1099511627776
def hiE (t : Bool) : Int := if t then 16 else 1099511627776
def loB (t : Bool) : Int := if t then 48 else 0
def hiB (t : Bool) : Int := if t then 48 else 4096
/-- The kind, the writer and the number, and what is left. -/
def hd (t : Bool) (s : Sta) : (Int × Int × Int) × Sta :=
  (((rN (lo1 t) (hiK t) s).1, (rN 1 16 (rN (lo1 t) (hiK t) s).2).1, (rN (lo1 t) 1099511627776 (rN 1 16 (rN (lo1 t) (hiK t) s).2).2).1), (rN (lo1 t) 1099511627776 (rN 1 16 (rN (lo1 t) (hiK t) s).2).2).2)
/-- What stands behind them. -/
def tl (t : Bool) (k a b : Int) (s : Sta) : En × Sta :=
  if k = 1 then (⟨k, a, b, (rT (lo1 t) (hiT t) s).1, (rT 0 (hiV t) (rT (lo1 t) (hiT t) s).2).1, 0, 0, 0, []⟩, (rT 0 (hiV t) (rT (lo1 t) (hiT t) s).2).2)
  else if k = 2 then (⟨k, a, b, (rT (lo1 t) (hiT t) s).1, [], 0, 0, 0, []⟩, (rT (lo1 t) (hiT t) s).2)
  else if k = 3 then (⟨k, a, b, [], [], (rN 1 16 s).1, (rN (lo1 t) (hiR t) (rN 1 16 s).2).1, 0, []⟩, (rN (lo1 t) (hiR t) (rN 1 16 s).2).2)
  else if k = 4 then (⟨k, a, b, [], [], (rN 1 16 s).1, 0, 0, []⟩, (rN 1 16 s).2)
  else if k = 5 then (⟨k, a, b, [], [], 0, 0, (rN (lo1 t) (hiE t) s).1, (rW (loB t) (hiB t) (rN 0 16 (rN (lo1 t) (hiE t) s).2).1.toNat (rN 0 16 (rN (lo1 t) (hiE t) s).2).2).1⟩, (rW (loB t) (hiB t) (rN 0 16 (rN (lo1 t) (hiE t) s).2).1.toNat (rN 0 16 (rN (lo1 t) (hiE t) s).2).2).2)
  else (⟨k, a, b, [], [], 0, 0, 0, []⟩, s)
def decE (t : Bool) (s : Sta) : En × Sta := tl t (hd t s).1.1 (hd t s).1.2.1 (hd t s).1.2.2 (hd t s).2
/-- The entry whose bytes they are, if there is one. -/
def dec (t : Bool) (l : List Nat) : Option En := if (decE t (l, false)).2.2 = false ∧ (decE t (l, false)).2.1 = [] ∧ right (decE t (l, false)).1 = true then some (decE t (l, false)).1 else none
theorem be_of_val : ∀ (k : Nat) (l : List Nat), l.length = k → (∀ x ∈ l, x < 256) → Cd.be k (Cd.val l) = l
  | 0, l, h, _ => by rw [List.eq_nil_of_length_eq_zero h]; rfl
  | k + 1, l, h, hs => by
    have hne : l ≠ [] := by intro e; subst e; simp at h
    rw [← List.dropLast_concat_getLast hne]
    have hx := hs _ (List.getLast_mem hne)
    have hl : l.dropLast.length = k := by rw [List.length_dropLast]; omega
    rw [Cd.val_snoc, Cd.be]
    have e1 : (Cd.val l.dropLast * 256 + l.getLast hne) / 256 = Cd.val l.dropLast := by omega
    have e2 : (Cd.val l.dropLast * 256 + l.getLast hne) % 256 = l.getLast hne := by omega
    rw [e1, e2, be_of_val k _ hl (fun x hx => hs x ((List.dropLast_sublist l).subset hx))]
theorem take_be (k n : Nat) (r : List Nat) : (Cd.be k n ++ r).take k = Cd.be k n := by
  have := List.take_left (l₁ := Cd.be k n) (l₂ := r)
  rwa [Cd.be_length] at this
theorem drop_be (k n : Nat) (r : List Nat) : (Cd.be k n ++ r).drop k = r := by
  have := List.drop_left (l₁ := Cd.be k n) (l₂ := r)
  rwa [Cd.be_length] at this
/-- A number that was written is read. -/
theorem rN_of {lo hi : Int} {n : Int} {r : List Nat} (h0 : 0 ≤ n) (hm : n ≤ 1099511627776) (h1 : lo ≤ n) (h2 : n ≤ hi) : rN lo hi (Cd.one (num n) ++ r, false) = (n, (r, false)) := by
  have hv : Cd.val (Cd.be 6 n.toNat) = n.toNat := by rw [Cd.val_be, Nat.mod_eq_of_lt]; omega
  unfold rN
  simp only [one_num, take_be, drop_be, hv]
  rw [if_neg (by rw [List.length_append, Cd.be_length]; omega)]
  congr 1
  omega
theorem rT_of {lo hi : Int} {l r : List Nat} (hm : l.length ≤ 4096) (h1 : lo ≤ (l.length : Int)) (h2 : (l.length : Int) ≤ hi) : rT lo hi (Cd.one (txt l) ++ r, false) = (l, (r, false)) := by
  have hv : Cd.val (Cd.be 2 l.length) = l.length := by rw [Cd.val_be, Nat.mod_eq_of_lt]; omega
  unfold rT
  simp only [one_txt, List.append_assoc, take_be, drop_be, hv]
  rw [if_neg (by rw [List.length_append, List.length_append, Cd.be_length]; omega)]
  rw [List.take_left, ← List.drop_drop, drop_be, List.drop_left]
theorem rW_of {lo hi : Int} {r : List Nat} (h1 : lo ≤ 48) (h2 : 48 ≤ hi) (ws : List (Int × List Nat)) (hw : ∀ x ∈ ws, 1 ≤ x.1 ∧ x.1 ≤ 16 ∧ x.2.length = 48) : ∀ n, n ≤ ws.length → rW lo hi n (Cd.enc (wpts ws) ++ r, false) = (ws.take n, (Cd.enc (wpts (ws.drop n)) ++ r, false))
  | 0, _ => by simp [rW]
  | n + 1, hn => by
    have hx := hw ws[n] (List.getElem_mem (by omega))
    rw [rW, rW_of h1 h2 ws hw n (by omega)]
    simp only
    rw [List.drop_eq_getElem_cons (by omega : n < ws.length), wpts, Cd.enc, Cd.enc, List.append_assoc, List.append_assoc, rN_of (by omega) (by omega) (by omega) (by omega)]
    simp only
    rw [rT_of (by omega) (by omega) (by omega), List.take_succ_eq_append_getElem (by omega : n < ws.length)]
theorem lo1_le (t : Bool) : lo1 t ≤ 1 := by cases t <;> decide
/-- A right entry's bytes are read as it, whatever stands behind. -/
theorem decE_of (t : Bool) {e : En} (h : right e = true) (r : List Nat) : decE t (bytes e ++ r, false) = (e, (r, false)) := by
  obtain ⟨hw, hs, h⟩ := (right_iff e).1 h
  obtain ⟨a1, a2, a3, a4, a5, a6, a7, a8, a9⟩ := e
  simp only at hw hs h
  have l1 := lo1_le t
  have b1 : (5 : Int) ≤ hiK t := by cases t <;> decide
  have b2 : (64 : Int) ≤ hiT t := by cases t <;> decide
  have b3 : (512 : Int) ≤ hiV t := by cases t <;> decide
  have b4 : (7 : Int) ≤ hiR t := by cases t <;> decide
  have b5 : (16 : Int) ≤ hiE t := by cases t <;> decide
  have b6 : loB t ≤ 48 := by cases t <;> decide
  have b7 : (48 : Int) ≤ hiB t := by cases t <;> decide
  have hk : 1 ≤ a1 ∧ a1 ≤ 5 := by rcases h with ⟨k, _⟩ | ⟨k, _⟩ | ⟨k, _⟩ | ⟨k, _⟩ | ⟨k, _⟩ <;> omega
  unfold decE bytes pts
  simp only [Cd.enc, List.append_assoc]
  have hh : ∀ z, hd t (Cd.one (num a1) ++ (Cd.one (num a2) ++ (Cd.one (num a3) ++ z)), false) = ((a1, a2, a3), (z, false)) := by
    intro z
    unfold hd
    rw [rN_of (by omega) (by omega) (by omega) (by omega)]
    simp only
    rw [rN_of (by omega) (by omega) (by omega) (by omega)]
    simp only
    rw [rN_of (by omega) (by omega) (by omega) (by omega)]
  rw [hh]
  simp only
  unfold tl tailP
  simp only
  rcases h with ⟨rfl, h1, h2, rfl, rfl, rfl, rfl⟩ | ⟨rfl, h1, rfl, rfl, rfl, rfl, rfl⟩ | ⟨rfl, rfl, rfl, h1, h2, rfl, rfl⟩ | ⟨rfl, rfl, rfl, h1, rfl, rfl, rfl⟩ | ⟨rfl, rfl, rfl, rfl, rfl, h1, h2⟩
  · simp only [if_true, Cd.enc, List.append_assoc, List.nil_append]
    rw [rT_of (by omega) (by omega) (by omega)]
    simp only
    rw [rT_of (by omega) (by omega) (by omega)]
  · simp only [if_true, if_false, show ¬ (2 : Int) = 1 from by decide, Cd.enc, List.append_assoc, List.nil_append]
    rw [rT_of (by omega) (by omega) (by omega)]
  · simp only [if_true, if_false, show ¬ (3 : Int) = 1 from by decide, show ¬ (3 : Int) = 2 from by decide, Cd.enc, List.append_assoc, List.nil_append]
    rw [rN_of (by omega) (by omega) (by omega) (by omega)]
    simp only
    rw [rN_of (by omega) (by omega) (by omega) (by omega)]
  · simp only [if_true, if_false, show ¬ (4 : Int) = 1 from by decide, show ¬ (4 : Int) = 2 from by decide, show ¬ (4 : Int) = 3 from by decide, Cd.enc, List.append_assoc, List.nil_append]
    rw [rN_of (by omega) (by omega) (by omega) (by omega)]
  · have hl := wok_le h2
    simp only [if_true, if_false, show ¬ (5 : Int) = 1 from by decide, show ¬ (5 : Int) = 2 from by decide, show ¬ (5 : Int) = 3 from by decide, show ¬ (5 : Int) = 4 from by decide, Cd.enc, List.append_assoc]
    rw [rN_of (by omega) (by omega) (by omega) (by omega)]
    simp only
    rw [rN_of (by omega) (by omega) (by omega) (by omega)]
    simp only
    rw [show ((a9.length : Int)).toNat = a9.length from by omega, rW_of b6 b7 a9 (wok_each a9 0 (by omega) h2) a9.length (Nat.le_refl _)]
    simp [wpts, Cd.enc]
/-- What was read stood there. -/
theorem rN_then {lo hi : Int} {s : Sta} (hs : ∀ x ∈ s.1, x < 256) (h : (rN lo hi s).2.2 = false) : s.2 = false ∧ s.1 = Cd.one (num (rN lo hi s).1) ++ (rN lo hi s).2.1 ∧ (∀ x ∈ (rN lo hi s).2.1, x < 256) ∧ lo ≤ (rN lo hi s).1 ∧ (rN lo hi s).1 ≤ hi := by
  unfold rN at h ⊢
  split at h
  · cases h
  · rename_i hc
    rw [if_neg hc]
    refine ⟨h, ?_, fun x hx => hs x (List.mem_of_mem_drop hx), by simp only; omega, by simp only; omega⟩
    simp only [one_num, Int.toNat_natCast]
    rw [be_of_val 6 _ (by rw [List.length_take]; omega) (fun x hx => hs x (List.mem_of_mem_take hx)), List.take_append_drop]
theorem rT_then {lo hi : Int} {s : Sta} (hs : ∀ x ∈ s.1, x < 256) (h : (rT lo hi s).2.2 = false) : s.2 = false ∧ s.1 = Cd.one (txt (rT lo hi s).1) ++ (rT lo hi s).2.1 ∧ (∀ x ∈ (rT lo hi s).2.1, x < 256) := by
  unfold rT at h ⊢
  split at h
  · cases h
  · rename_i hc
    rw [if_neg hc]
    refine ⟨h, ?_, fun x hx => hs x (List.mem_of_mem_drop hx)⟩
    have hl : ((s.1.drop 2).take (Cd.val (s.1.take 2))).length = Cd.val (s.1.take 2) := by rw [List.length_take, List.length_drop]; omega
    simp only [one_txt, hl]
    rw [be_of_val 2 _ (by rw [List.length_take]; omega) (fun x hx => hs x (List.mem_of_mem_take hx)), List.append_assoc, ← List.drop_drop, List.take_append_drop, List.take_append_drop]
theorem rN_bad {lo hi : Int} {s : Sta} (h : (rN lo hi s).2.2 = false) : s.2 = false := by
  unfold rN at h
  split at h
  · cases h
  · exact h
theorem rT_bad {lo hi : Int} {s : Sta} (h : (rT lo hi s).2.2 = false) : s.2 = false := by
  unfold rT at h
  split at h
  · cases h
  · exact h
theorem rW_then {lo hi : Int} {s : Sta} (hs : ∀ x ∈ s.1, x < 256) : ∀ n, (rW lo hi n s).2.2 = false → s.2 = false ∧ s.1 = Cd.enc (wpts (rW lo hi n s).1) ++ (rW lo hi n s).2.1 ∧ (∀ x ∈ (rW lo hi n s).2.1, x < 256) ∧ (rW lo hi n s).1.length = n
  | 0, h => ⟨h, by simp [rW, wpts, Cd.enc], hs, rfl⟩
  | n + 1, h => by
    rw [rW] at h ⊢
    simp only at h
    have hn := rT_bad h
    obtain ⟨h1, h2, h3, h4⟩ := rW_then hs n (rN_bad hn)
    generalize rW lo hi n s = p at *
    obtain ⟨_, g1, g2, _⟩ := rN_then h3 hn
    obtain ⟨_, g3, g4⟩ := rT_then g2 h
    refine ⟨h1, ?_, g4, by simp [h4]⟩
    simp only
    rw [wpts_append, Cd.enc_append, List.append_assoc, show ∀ x : Int × List Nat, wpts [x] = [num x.1, txt x.2] from fun _ => rfl, Cd.enc, Cd.enc, Cd.enc, List.append_nil, List.append_assoc, ← g3, ← g1]
    exact h2
/-- What is read, and isn't bad, has just these bytes. -/
theorem decE_then (t : Bool) (l : List Nat) (hl : ∀ x ∈ l, x < 256) (h : (decE t (l, false)).2.2 = false) (hk : 1 ≤ (decE t (l, false)).1.kind ∧ (decE t (l, false)).1.kind ≤ 5) : l = bytes (decE t (l, false)).1 ++ (decE t (l, false)).2.1 := by
  unfold decE at h hk ⊢
  have key : ∀ s : Sta, (hd t (l, false)).2 = s → s.2 = false → (∀ x ∈ s.1, x < 256) ∧ l = Cd.one (num (hd t (l, false)).1.1) ++ (Cd.one (num (hd t (l, false)).1.2.1) ++ (Cd.one (num (hd t (l, false)).1.2.2) ++ s.1)) := by
    rintro s rfl hb
    unfold hd at hb ⊢
    simp only at hb ⊢
    have b2 := rN_bad hb
    have b1 := rN_bad b2
    obtain ⟨_, e1, s1, _⟩ := rN_then (s := (l, false)) hl b1
    obtain ⟨_, e2, s2, _⟩ := rN_then s1 b2
    obtain ⟨_, e3, s3, _⟩ := rN_then s2 hb
    refine ⟨s3, ?_⟩
    rw [← e3, ← e2, ← e1]
  generalize (hd t (l, false)).2 = s at *
  generalize (hd t (l, false)).1.1 = k at *
  generalize (hd t (l, false)).1.2.1 = a at *
  generalize (hd t (l, false)).1.2.2 = b at *
  replace key := key s rfl
  unfold tl at h hk ⊢
  unfold bytes pts tailP
  by_cases k1 : k = 1
  · subst k1
    simp only [if_true] at h ⊢
    have b1 := rT_bad h
    obtain ⟨hs, e⟩ := key (rT_bad b1)
    obtain ⟨_, e1, s1⟩ := rT_then hs b1
    obtain ⟨_, e2, s2⟩ := rT_then s1 h
    simp only [Cd.enc, List.append_assoc, List.nil_append]
    rw [← e2, ← e1]
    exact e
  by_cases k2 : k = 2
  · subst k2
    simp only [if_true, if_false, show ¬ (2 : Int) = 1 from by decide] at h ⊢
    obtain ⟨hs, e⟩ := key (rT_bad h)
    obtain ⟨_, e1, s1⟩ := rT_then hs h
    simp only [Cd.enc, List.append_assoc, List.nil_append]
    rw [← e1]
    exact e
  by_cases k3 : k = 3
  · subst k3
    simp only [if_true, if_false, show ¬ (3 : Int) = 1 from by decide, show ¬ (3 : Int) = 2 from by decide] at h ⊢
    have b1 := rN_bad h
    obtain ⟨hs, e⟩ := key (rN_bad b1)
    obtain ⟨_, e1, s1, _⟩ := rN_then hs b1
    obtain ⟨_, e2, s2, _⟩ := rN_then s1 h
    simp only [Cd.enc, List.append_assoc, List.nil_append]
    rw [← e2, ← e1]
    exact e
  by_cases k4 : k = 4
  · subst k4
    simp only [if_true, if_false, show ¬ (4 : Int) = 1 from by decide, show ¬ (4 : Int) = 2 from by decide, show ¬ (4 : Int) = 3 from by decide] at h ⊢
    obtain ⟨hs, e⟩ := key (rN_bad h)
    obtain ⟨_, e1, s1, _⟩ := rN_then hs h
    simp only [Cd.enc, List.append_assoc, List.nil_append]
    rw [← e1]
    exact e
  by_cases k5 : k = 5
  · subst k5
    simp only [if_true, if_false, show ¬ (5 : Int) = 1 from by decide, show ¬ (5 : Int) = 2 from by decide, show ¬ (5 : Int) = 3 from by decide, show ¬ (5 : Int) = 4 from by decide] at h ⊢
    have hb : ∀ n, (rW (loB t) (hiB t) n (rN 0 16 (rN (lo1 t) (hiE t) s).2).2).2.2 = false → (rN 0 16 (rN (lo1 t) (hiE t) s).2).2.2 = false := by
      intro n
      induction n with
      | zero => exact id
      | succ m ih => exact fun hh => ih (rN_bad (rT_bad hh))
    have b2 := hb _ h
    have b1 := rN_bad b2
    obtain ⟨hs, e⟩ := key (rN_bad b1)
    obtain ⟨_, e1, s1, _⟩ := rN_then hs b1
    obtain ⟨_, e2, s2, n1, n2⟩ := rN_then s1 b2
    obtain ⟨_, e3, s3, hn⟩ := rW_then s2 _ h
    simp only [Cd.enc, List.append_assoc]
    rw [hn, Int.toNat_of_nonneg n1, ← e3, ← e2, ← e1]
    exact e
  · rw [if_neg k1, if_neg k2, if_neg k3, if_neg k4, if_neg k5] at hk
    simp only at hk
    omega
theorem right_kind {e : En} (h : right e = true) : 1 ≤ e.kind ∧ e.kind ≤ 5 := by
  obtain ⟨_, _, ⟨k, _⟩ | ⟨k, _⟩ | ⟨k, _⟩ | ⟨k, _⟩ | ⟨k, _⟩⟩ := (right_iff e).1 h <;> omega
/-- An entry is read just if it is right and these are its bytes. -/
theorem dec_iff (t : Bool) (l : List Nat) (hl : ∀ x ∈ l, x < 256) (e : En) : dec t l = some e ↔ right e = true ∧ bytes e = l := by
  unfold dec
  constructor
  · intro h
    split at h
    · rename_i hc
      obtain ⟨h1, h2, h3⟩ := hc
      obtain rfl := Option.some.inj h
      refine ⟨h3, ?_⟩
      have := decE_then t l hl h1 (right_kind h3)
      rw [h2, List.append_nil] at this
      exact this.symm
    · cases h
  · rintro ⟨h, rfl⟩
    have := decE_of t h []
    rw [List.append_nil] at this
    rw [this]
    simp [h]
theorem dec_both (l : List Nat) (hl : ∀ x ∈ l, x < 256) : dec true l = dec false l := by
  apply Option.ext
  intro e
  rw [dec_iff true l hl, dec_iff false l hl]
theorem bytes_inj {a b : En} (ha : right a = true) (hb : right b = true) (h : bytes a = bytes b) : a = b := by
  have h1 := decE_of true ha []
  have h2 := decE_of true hb []
  rw [h, h2] at h1
  exact (congrArg Prod.fst h1).symm
/-- Bytes that are cut off are none. -/
theorem dec_cut (t : Bool) {e : En} (he : right e = true) (hs : Small e) {k : Nat} (hk : k < (bytes e).length) : dec t ((bytes e).take k) = none := by
  cases hd : dec t ((bytes e).take k) with
  | none => rfl
  | some f =>
    exfalso
    obtain ⟨hf, hb⟩ := (dec_iff t _ (fun x hx => bytes_small hs x (List.mem_of_mem_take hx)) f).1 hd
    have h1 := decE_of t hf ((bytes e).drop k)
    rw [hb, List.take_append_drop] at h1
    have h2 := decE_of t he []
    rw [List.append_nil, h1] at h2
    have h3 := congrArg (fun x => x.2.1) h2
    simp only at h3
    have := congrArg List.length h3
    simp at this
    omega
theorem dec_more (t : Bool) {e : En} (he : right e = true) {r : List Nat} (hr : r ≠ []) : dec t (bytes e ++ r) = none := by
  unfold dec
  rw [decE_of t he r]
  simp [hr]
theorem dec_own (t : Bool) {e : En} (he : right e = true) : dec t (bytes e) = some e := by
  unfold dec
  have := decE_of t he []
  rw [List.append_nil] at this
  rw [this]
  simp [he]
end Go.Proofs.YtfjdaafckiefdaaGreatDoor.E9
/- Entries in memory; the contracts of within, Equal, sameWrap, EqualFunc. -/
namespace Go.Proofs.YtfjdaafckiefdaaGreatDoor.E9
open Go.RowKit C8
/-- The wraps behind a slice: two cells each. -/
def WrRow (w : World) (q : Option Addr) (ws : List (Int × List Nat)) : Prop :=
  ∀ j (h : j < ws.length), ∃ b o bp bc, q = some ⟨b, o, none⟩ ∧ b < w.heap.size ∧ w.cell? ⟨b, o + j * 2, none⟩ = some (.int .i64 ws[j].1) ∧ w.cell? ⟨b, o + j * 2 + 1, none⟩ = some (.slice bp ws[j].2.length bc) ∧ Src w (.slice bp ws[j].2.length bc) ws[j].2 ∧ ws[j].2.length ≤ 9223372036854775807
theorem WrRow.below {w w' : World} {q : Option Addr} {ws : List (Int × List Nat)} (h : WrRow w q ws) (hb : Below w.heap.size w w') : WrRow w' q ws := fun j hj => by
  obtain ⟨b, o, bp, bc, h1, h2, h3, h4, h5, h6⟩ := h j hj
  exact ⟨b, o, bp, bc, h1, Nat.lt_of_lt_of_le h2 hb.size, (hb.cell (p := ⟨b, o + j * 2, none⟩) h2).trans h3, (hb.cell (p := ⟨b, o + j * 2 + 1, none⟩) h2).trans h4, h5.below hb, h6⟩
theorem WrRow.nil (w : World) (q : Option Addr) : WrRow w q [] := fun j hj => by cases hj
/-- An entry as a value: its nine cells. -/
def EnV (e : En) (np : Option Addr) (nc : Nat) (vp : Option Addr) (vc : Nat) (q : Option Addr) (c : Nat) : Array Value :=
  #[.int .i64 e.kind, .int .i64 e.writer, .int .i64 e.seq, .slice np e.name.length nc, .slice vp e.value.length vc, .int .i64 e.who, .int .i64 e.rights, .int .i64 e.epoch, .slice q e.wraps.length c]
structure EnAt (w : World) (e : En) (np : Option Addr) (nc : Nat) (vp : Option Addr) (vc : Nat) (q : Option Addr) : Prop where
  name : Src w (.slice np e.name.length nc) e.name
  value : Src w (.slice vp e.value.length vc) e.value
  wraps : WrRow w q e.wraps
  ln : e.name.length ≤ 9223372036854775807
  lv : e.value.length ≤ 9223372036854775807
  lw : e.wraps.length ≤ 9223372036854775807
def EnIs (w : World) (v : Value) (e : En) : Prop := ∃ np nc vp vc q c, v = .agg (EnV e np nc vp vc q c) ∧ EnAt w e np nc vp vc q
theorem EnAt.below {w w' : World} {e : En} {np : Option Addr} {nc : Nat} {vp : Option Addr} {vc : Nat} {q : Option Addr} (h : EnAt w e np nc vp vc q) (hb : Below w.heap.size w w') : EnAt w' e np nc vp vc q := ⟨h.name.below hb, h.value.below hb, h.wraps.below hb, h.ln, h.lv, h.lw⟩
theorem EnIs.below {w w' : World} {v : Value} {e : En} (h : EnIs w v e) (hb : Below w.heap.size w w') : EnIs w' v e := by
  obtain ⟨np, nc, vp, vc, q, c, rfl, h⟩ := h
  exact ⟨np, nc, vp, vc, q, c, rfl, h.below hb⟩
theorem WrRow.small {w : World} {q : Option Addr} {ws : List (Int × List Nat)} (h : WrRow w q ws) : ∀ y ∈ ws, ∀ x ∈ y.2, x < 256 := fun y hy => by
  obtain ⟨j, hj, rfl⟩ := List.getElem_of_mem hy
  obtain ⟨_, _, _, _, _, _, _, _, h5, _⟩ := h j hj
  exact h5.small
theorem EnIs.small {w : World} {v : Value} {e : En} (h : EnIs w v e) : Small e := by
  obtain ⟨np, nc, vp, vc, q, c, rfl, h⟩ := h
  exact ⟨h.name.small, h.value.small, h.wraps.small⟩
set_option maxHeartbeats 1000000 in
theorem within_yes (n lo hi : Int) (w : World) (h1 : lo ≤ n) (h2 : n ≤ hi) : Calls Tryz.prog 82 #[.int .i64 n, .int .i64 lo, .int .i64 hi] w fun e w' => e = .returned (.bool true) ∧ w' = w := by
  go_enter Tryz.func82, Tryz.ntmps82
  go_wp2_with fail
  go_ret
  exact ⟨rfl, rfl⟩
set_option maxHeartbeats 1000000 in
theorem within_no (n lo hi : Int) (w : World) (h : n < lo ∨ hi < n) : Calls Tryz.prog 82 #[.int .i64 n, .int .i64 lo, .int .i64 hi] w fun e w' => e = .returned (.bool false) ∧ w' = w := by
  by_cases h1 : lo ≤ n
  · have h2 : ¬ n ≤ hi := by omega
    clear h
    go_enter Tryz.func82, Tryz.ntmps82
    go_wp2_with fail
    go_ret
    exact ⟨rfl, rfl⟩
  · clear h
    go_enter Tryz.func82, Tryz.ntmps82
    go_wp2_with fail
    go_ret
    exact ⟨rfl, rfl⟩
theorem within_any (n lo hi : Int) (w : World) : Calls Tryz.prog 82 #[.int .i64 n, .int .i64 lo, .int .i64 hi] w fun e w' => e = .returned (.bool (decide (lo ≤ n ∧ n ≤ hi))) ∧ w' = w := by
  by_cases h : lo ≤ n ∧ n ≤ hi
  · rw [decide_eq_true h]; exact within_yes n lo hi w h.1 h.2
  · rw [decide_eq_false h]; exact within_no n lo hi w (by omega)
set_option maxHeartbeats 1000000 in
theorem equal_any (p q : Option Addr) (n m c d : Nat) (l k : List Nat) (w : World) (h1 : Src w (.slice p n c) l) (h2 : Src w (.slice q m d) k) : Calls Tryz.prog 87 #[.slice p n c, .slice q m d] w fun e w' => e = .returned (.bool (decide (l = k))) ∧ w' = w := by
  have cv := conv_src h1
  have cw := conv_src h2
  have HL : Hid (((strB l).toList == (strB k).toList) = decide (l = k)) := strB_beqL h1.small h2.small
  clear h1 h2
  generalize strB l = x at *
  generalize strB k = y at *
  go_enter Tryz.func87, Tryz.ntmps87
  go_wp2_with fail
  go_ret
  refine ⟨?_, rfl⟩
  rw [← HL.out]
  rfl
set_option maxHeartbeats 2000000 in
theorem sameWrap_any (a b : Int) (p q : Option Addr) (n m c d : Nat) (l k : List Nat) (w : World) (h1 : Src w (.slice p n c) l) (h2 : Src w (.slice q m d) k) : Calls Tryz.prog 89 #[.agg #[.int .i64 a, .slice p n c], .agg #[.int .i64 b, .slice q m d]] w fun e w' => e = .returned (.bool (decide (a = b ∧ l = k))) ∧ Below w.heap.size w w' := by
  have HE : ∀ W, Below w.heap.size w W → Calls Tryz.prog 87 #[.slice p n c, .slice q m d] W fun e w' => e = .returned (.bool (decide (l = k))) ∧ w' = W := fun W hb => equal_any p q n m c d l k W (h1.below hb) (h2.below hb)
  have HB : Hid (Below w.heap.size w ((w.alloc (.cells #[.int .i64 a, .slice p n c] 100)).alloc (.cells #[.int .i64 b, .slice q m d] 100))) := ((Below.refl _ w).alloc (Nat.le_refl _) _).alloc (by simp) _
  clear h1 h2
  by_cases ha : a = b
  · subst ha
    by_cases hl : l = k
    · have e1 : decide (a = a ∧ l = k) = true := by simp [hl]
      have e2 : decide (l = k) = true := by simp [hl]
      rw [e1]
      rw [e2] at HE
      clear e1 e2 hl
      go_enter Tryz.func89, Tryz.ntmps89
      go_wp2_with (first | (go_at_call 87; refine (HE _ HB.out).mono ?_; rintro e w1 ⟨rfl, rfl⟩))
      go_ret
      exact ⟨rfl, HB.out⟩
    · have e1 : decide (a = a ∧ l = k) = false := by simp [hl]
      have e2 : decide (l = k) = false := by simp [hl]
      rw [e1]
      rw [e2] at HE
      clear e1 e2 hl
      go_enter Tryz.func89, Tryz.ntmps89
      go_wp2_with (first | (go_at_call 87; refine (HE _ HB.out).mono ?_; rintro e w1 ⟨rfl, rfl⟩))
      go_ret
      exact ⟨rfl, HB.out⟩
  · have e1 : decide (a = b ∧ l = k) = false := by simp [ha]
    have e2 : (a == b) = false := by simp [ha]
    rw [e1]
    clear e1
    go_enter Tryz.func89, Tryz.ntmps89
    go_wp2_with fail
    go_ret
    exact ⟨rfl, HB.out⟩
end Go.Proofs.YtfjdaafckiefdaaGreatDoor.E9
/- The contracts of EqualFunc and rightWraps. -/
namespace Go.Proofs.YtfjdaafckiefdaaGreatDoor.E9
open Go.RowKit C8
theorem bel_alloc {w : World} {B : Nat} (h : B ≤ w.heap.size) (o : Obj) : Below B w (w.alloc o) := (Below.refl _ w).alloc h _
theorem take_ext {α : Type} {a b : List α} {j : Nat} (ha : j < a.length) (hb : j < b.length) (h : a.take j = b.take j) (he : a[j] = b[j]) : a.take (j + 1) = b.take (j + 1) := by
  rw [List.take_succ_eq_append_getElem ha, List.take_succ_eq_append_getElem hb, h, he]
set_option maxHeartbeats 4000000 in
theorem equalFunc_any (wa wb : List (Int × List Nat)) (qa qb : Option Addr) (ca cb : Nat) (w : World) (ha : WrRow w qa wa) (hb : WrRow w qb wb) (la : wa.length ≤ 9223372036854775807) :
    Calls Tryz.prog 88 #[.slice qa wa.length ca, .slice qb wb.length cb, .func (.func 89) #[] #[]] w fun e w' => e = .returned (.bool (decide (wa = wb))) ∧ Below w.heap.size w w' := by
  have HA : Hid (WrRow w qa wa) := ha
  have HBR : Hid (WrRow w qb wb) := hb
  clear ha hb
  by_cases hn : wa.length = wb.length
  · obtain ⟨n, HN⟩ : ∃ n, Hid (wa.length = n) := ⟨_, rfl⟩
    have HM : Hid (wb.length = n) := hn.symm.trans HN.out
    obtain ⟨res, HR⟩ : ∃ res, Hid (decide (wa = wb) = res) := ⟨_, rfl⟩
    rw [HN.out] at la
    rw [HN.out, HM.out, HR.out]
    clear hn
    have l1 : (n : Int) ≤ 9223372036854775807 := by omega
    go_enter Tryz.func88, Tryz.ntmps88
    go_wp2_with fail
    go_loopw [17] (fun i wr => ∃ j : Nat, j ≤ n ∧ i = .int .i64 j ∧ Hid (Below w.heap.size w wr) ∧ Hid (wa.take j = wb.take j)) (fun i _ => n - (intOf i).toNat)
    case atStart => exact ⟨0, by omega, rfl, Below.refl _ _, rfl⟩
    case round =>
      obtain ⟨j, hj, rfl, HB, HE⟩ := hrel
      by_cases hlt : j < n
      · have ja : j < wa.length := by rw [HN.out]; exact hlt
        have jb : j < wb.length := by rw [HM.out]; exact hlt
        obtain ⟨b, o, bp, bc, rfl, k2, k3, k4, k5, k6⟩ := HA.out j ja
        obtain ⟨b', o', bp', bc', rfl, m2, m3, m4, m5, m6⟩ := HBR.out j jb
        have d0 := (HB.out.cell (p := ⟨b, o + j * 2, none⟩) k2).trans k3
        have d1 := (HB.out.cell (p := ⟨b, o + j * 2 + 1, none⟩) k2).trans k4
        have f0 : ∀ ob, (wr.alloc ob).cell? ⟨b', o' + j * 2, none⟩ = _ := fun ob => ((HB.out.trans (bel_alloc HB.out.size ob)).cell (p := ⟨b', o' + j * 2, none⟩) m2).trans m3
        have f1 : ∀ ob, (wr.alloc ob).cell? ⟨b', o' + j * 2 + 1, none⟩ = _ := fun ob => ((HB.out.trans (bel_alloc HB.out.size ob)).cell (p := ⟨b', o' + j * 2 + 1, none⟩) m2).trans m4
        have j1 : (j : Int) < (n : Int) := by omega
        have j0 : (0 : Int) ≤ (j : Int) := by omega
        have HS : ∀ W, Hid (Below wr.heap.size wr W) → Calls Tryz.prog 89 #[.agg #[.int .i64 wa[j].1, .slice bp wa[j].2.length bc], .agg #[.int .i64 wb[j].1, .slice bp' wb[j].2.length bc']] W fun e w' => e = .returned (.bool (decide (wa[j].1 = wb[j].1 ∧ wa[j].2 = wb[j].2))) ∧ Hid (Below w.heap.size w w') := fun W hW => by
          have hB : Below w.heap.size w W := HB.out.trans (bel_le hW.out HB.out.size)
          refine (sameWrap_any _ _ _ _ _ _ _ _ _ _ W (k5.below hB) (m5.below hB)).mono ?_
          rintro e w' ⟨rfl, h⟩
          exact ⟨rfl, hB.trans (bel_le h hB.size)⟩
        have HW : Hid (∀ o1 o2, Below wr.heap.size wr ((wr.alloc o1).alloc o2)) := fun o1 o2 => (bel_alloc (Nat.le_refl _) o1).trans (bel_alloc (by simp) o2)
        clear k3 k4 k5 k6 m3 m4 m5 m6
        by_cases he : wa[j].1 = wb[j].1 ∧ wa[j].2 = wb[j].2
        · have HE2 : Hid (wa.take (j + 1) = wb.take (j + 1)) := take_ext ja jb HE.out (Prod.ext he.1 he.2)
          rw [decide_eq_true he] at HS
          clear he HE
          generalize wa[j] = x at *
          generalize wb[j] = y at *
          obtain ⟨x1, x2⟩ := x
          obtain ⟨y1, y2⟩ := y
          simp only at d0 d1 f0 f1 HS
          generalize x2.length = xl at *
          generalize y2.length = yl at *
          clear ja jb
          go_wp2_with (first | (go_at_call 89; refine (HS _ (HW.out _ _)).mono ?_; rintro e w1 ⟨rfl, HB1⟩))
          refine ⟨⟨j + 1, by omega, by simp, HB1, HE2⟩, ?_⟩
          simp only [intOf]
          omega
        · have HF : Hid (res = false) := by
            show _ = _
            rw [← HR.out]
            apply decide_eq_false
            rintro rfl
            exact he ⟨rfl, rfl⟩
          rw [decide_eq_false he] at HS
          clear he HE
          generalize wa[j] = x at *
          generalize wb[j] = y at *
          obtain ⟨x1, x2⟩ := x
          obtain ⟨y1, y2⟩ := y
          simp only at d0 d1 f0 f1 HS
          generalize x2.length = xl at *
          generalize y2.length = yl at *
          clear ja jb
          go_wp2_with (first | (go_at_call 89; refine (HS _ (HW.out _ _)).mono ?_; rintro e w1 ⟨rfl, HB1⟩))
          go_ret
          exact ⟨by rw [HF.out]; rfl, HB1.out⟩
      · obtain rfl : j = n := by omega
        have j1 : ¬ (j : Int) < (j : Int) := by omega
        have HT : Hid (res = true) := by
          show _ = _
          rw [← HR.out]
          apply decide_eq_true
          have := HE.out
          rwa [List.take_of_length_le (by rw [HN.out]; omega), List.take_of_length_le (by rw [HM.out]; omega)] at this
        clear HE
        go_wp2_with fail
        go_ret
        exact ⟨by rw [HT.out]; rfl, HB.out⟩
  · have e1 : decide (wa = wb) = false := decide_eq_false (fun h => hn (by rw [h]))
    have hn1 : ¬ (wa.length : Int) = (wb.length : Int) := by omega
    have hn2 : ((wa.length : Int) == (wb.length : Int)) = false := by simpa using hn1
    rw [e1]
    generalize wa.length = n at *
    generalize wb.length = m at *
    clear HA HBR e1
    go_enter Tryz.func88, Tryz.ntmps88
    go_wp2_with fail
    go_ret
    exact ⟨rfl, Below.refl _ _⟩
theorem wok_drop {last : Int} {ws : List (Int × List Nat)} {j : Nat} (h : j < ws.length) : wok last (ws.drop j) = (decide (last + 1 ≤ ws[j].1 ∧ ws[j].1 ≤ 16) && decide (ws[j].2.length = 48) && wok ws[j].1 (ws.drop (j + 1))) := by
  rw [List.drop_eq_getElem_cons h, wok]
set_option maxHeartbeats 4000000 in
theorem rightWraps_any (ws : List (Int × List Nat)) (q : Option Addr) (c : Nat) (w : World) (h : WrRow w q ws) (hl : ws.length ≤ 9223372036854775807) :
    Calls Tryz.prog 118 #[.slice q ws.length c] w fun e w' => e = .returned (.bool (wok 0 ws)) ∧ Below w.heap.size w w' := by
  have HA : Hid (WrRow w q ws) := h
  obtain ⟨n, HN⟩ : ∃ n, Hid (ws.length = n) := ⟨_, rfl⟩
  obtain ⟨res, HR⟩ : ∃ res, Hid (wok 0 ws = res) := ⟨_, rfl⟩
  rw [HN.out] at hl
  rw [HN.out, HR.out]
  clear h
  have l1 : (n : Int) ≤ 9223372036854775807 := by omega
  go_enter Tryz.func118, Tryz.ntmps118
  go_wp2_with fail
  go_loopw [3, 8] (fun la i wr => ∃ (j : Nat) (last : Int), j ≤ n ∧ i = .int .i64 j ∧ la = .int .i64 last ∧ 0 ≤ last ∧ last ≤ 16 ∧ Hid (Below w.heap.size w wr) ∧ Hid (wok last (ws.drop j) = res)) (fun _ i _ => n - (intOf i).toNat)
  case atStart => exact ⟨0, 0, by omega, rfl, rfl, by omega, by omega, Below.refl _ _, HR.out⟩
  case round =>
    obtain ⟨j, last, hj, rfl, rfl, h0, h16, HB, HE⟩ := hrel
    by_cases hlt : j < n
    · have ja : j < ws.length := by rw [HN.out]; exact hlt
      obtain ⟨b, o, bp, bc, rfl, k2, k3, k4, k5, k6⟩ := HA.out j ja
      have d0 := (HB.out.cell (p := ⟨b, o + j * 2, none⟩) k2).trans k3
      have d1 := (HB.out.cell (p := ⟨b, o + j * 2 + 1, none⟩) k2).trans k4
      have j1 : (j : Int) < (n : Int) := by omega
      have j0 : (0 : Int) ≤ (j : Int) := by omega
      have HBA : Hid (∀ ob, Below w.heap.size w (wr.alloc ob)) := fun ob => HB.out.trans (bel_alloc HB.out.size ob)
      replace HE : Hid ((decide (last + 1 ≤ ws[j].1 ∧ ws[j].1 ≤ 16) && decide (ws[j].2.length = 48) && wok ws[j].1 (ws.drop (j + 1))) = res) := (wok_drop ja) ▸ HE.out
      clear k3 k4 k5 k6
      obtain ⟨r, HRR⟩ : ∃ r, Hid (ws.drop (j + 1) = r) := ⟨_, rfl⟩
      rw [HRR.out] at HE
      generalize ws[j] = x at *
      obtain ⟨x1, x2⟩ := x
      simp only at d0 d1 HE
      generalize x2.length = xl at *
      clear ja
      by_cases hx : last + 1 ≤ x1 ∧ x1 ≤ 16
      · by_cases hy : xl = 48
        · subst hy
          replace HE : Hid (wok x1 r = res) := by
            have := HE.out
            rw [decide_eq_true hx, decide_eq_true rfl] at this
            exact this
          go_wp2_with (first | (go_at_call 82; refine (within_yes _ _ _ _ hx.1 hx.2).mono ?_; rintro e w1 ⟨rfl, rfl⟩))
          refine ⟨⟨j + 1, x1, by omega, by simp, rfl, by omega, by omega, HBA.out _, by show wok x1 (ws.drop (j + 1)) = res; rw [HRR.out]; exact HE.out⟩, ?_⟩
          simp only [intOf]
          omega
        · have hy1 : ((xl : Int) == 48) = false := by simp; omega
          have HF : Hid (res = false) := by
            have := HE.out
            rw [decide_eq_false hy] at this
            simp at this
            exact this
          go_wp2_with (first | (go_at_call 82; refine (within_yes _ _ _ _ hx.1 hx.2).mono ?_; rintro e w1 ⟨rfl, rfl⟩))
          go_ret
          exact ⟨by rw [HF.out]; rfl, HBA.out _⟩
      · have HF : Hid (res = false) := by
          have := HE.out
          rw [decide_eq_false hx] at this
          simp at this
          exact this
        have hx2 : x1 < last + 1 ∨ 16 < x1 := by omega
        have HX : ∀ W, Calls Tryz.prog 82 #[.int .i64 x1, .int .i64 (last + 1), .int .i64 16] W fun e w' => e = .returned (.bool false) ∧ w' = W := fun W => within_no _ _ _ W hx2
        clear hx hx2 HE
        go_wp2_with (first | (go_at_call 82; refine (HX _).mono ?_; rintro e w1 ⟨rfl, rfl⟩))
        go_ret
        exact ⟨by rw [HF.out]; rfl, HBA.out _⟩
    · obtain rfl : j = n := by omega
      have j1 : ¬ (j : Int) < (j : Int) := by omega
      have HT : Hid (res = true) := by
        have := HE.out
        rw [List.drop_eq_nil_of_le (by rw [HN.out]; omega)] at this
        exact this.symm
      clear HE
      go_wp2_with fail
      go_ret
      exact ⟨by rw [HT.out]; rfl, HB.out⟩
end Go.Proofs.YtfjdaafckiefdaaGreatDoor.E9
/- The contract of rightByKind. -/
namespace Go.Proofs.YtfjdaafckiefdaaGreatDoor.E9
open Go.RowKit C8
set_option maxHeartbeats 1000000 in
theorem bk1y (w : World) (a2 a3 a6 a7 a8 : Int) (np vp q : Option Addr) (nc n4 vc n5 c n9 : Nat) (HX : Hid (decide ((1 : Int) ≤ (n4 : Int) ∧ (n4 : Int) ≤ 64) = true)) :
    Calls Tryz.prog 83 #[.agg #[.int .i64 1, .int .i64 a2, .int .i64 a3, .slice np n4 nc, .slice vp n5 vc, .int .i64 a6, .int .i64 a7, .int .i64 a8, .slice q n9 c]] w fun e w' => e = .returned (.bool (decide ((n5 : Int) ≤ 512))) ∧ Below w.heap.size w w' := by
  have HB : Hid (∀ o1, Below w.heap.size w (w.alloc o1)) := fun o1 => bel_alloc (Nat.le_refl _) o1
  go_enter Tryz.func83, Tryz.ntmps83
  go_wp2_with (first | (go_at_call 82; refine (within_any _ _ _ _).mono ?_; rintro e w1 ⟨he, rfl⟩; (try rw [HX.out] at he); subst he))
  go_ret
  exact ⟨rfl, HB.out _⟩
set_option maxHeartbeats 1000000 in
theorem bk1n (w : World) (a2 a3 a6 a7 a8 : Int) (np vp q : Option Addr) (nc n4 vc n5 c n9 : Nat) (HX : Hid (decide ((1 : Int) ≤ (n4 : Int) ∧ (n4 : Int) ≤ 64) = false)) :
    Calls Tryz.prog 83 #[.agg #[.int .i64 1, .int .i64 a2, .int .i64 a3, .slice np n4 nc, .slice vp n5 vc, .int .i64 a6, .int .i64 a7, .int .i64 a8, .slice q n9 c]] w fun e w' => e = .returned (.bool false) ∧ Below w.heap.size w w' := by
  have HB : Hid (∀ o1, Below w.heap.size w (w.alloc o1)) := fun o1 => bel_alloc (Nat.le_refl _) o1
  go_enter Tryz.func83, Tryz.ntmps83
  go_wp2_with (first | (go_at_call 82; refine (within_any _ _ _ _).mono ?_; rintro e w1 ⟨he, rfl⟩; (try rw [HX.out] at he); subst he))
  go_ret
  exact ⟨rfl, HB.out _⟩
set_option maxHeartbeats 1000000 in
theorem bk2 (w : World) (a2 a3 a6 a7 a8 : Int) (np vp q : Option Addr) (nc n4 vc n5 c n9 : Nat)  :
    Calls Tryz.prog 83 #[.agg #[.int .i64 2, .int .i64 a2, .int .i64 a3, .slice np n4 nc, .slice vp n5 vc, .int .i64 a6, .int .i64 a7, .int .i64 a8, .slice q n9 c]] w fun e w' => e = .returned (.bool (decide ((1 : Int) ≤ (n4 : Int) ∧ (n4 : Int) ≤ 64))) ∧ Below w.heap.size w w' := by
  have HB : Hid (∀ o1, Below w.heap.size w (w.alloc o1)) := fun o1 => bel_alloc (Nat.le_refl _) o1
  go_enter Tryz.func83, Tryz.ntmps83
  go_wp2_with (first | (go_at_call 82; refine (within_any _ _ _ _).mono ?_; rintro e w1 ⟨he, rfl⟩; subst he))
  go_ret
  exact ⟨by rw [Bool.decide_and]; rfl, HB.out _⟩
set_option maxHeartbeats 1000000 in
theorem bk3y (w : World) (a2 a3 a6 a7 a8 : Int) (np vp q : Option Addr) (nc n4 vc n5 c n9 : Nat) (HX : Hid (decide ((1 : Int) ≤ a6 ∧ a6 ≤ 16) = true)) :
    Calls Tryz.prog 83 #[.agg #[.int .i64 3, .int .i64 a2, .int .i64 a3, .slice np n4 nc, .slice vp n5 vc, .int .i64 a6, .int .i64 a7, .int .i64 a8, .slice q n9 c]] w fun e w' => e = .returned (.bool (decide ((1 : Int) ≤ a7 ∧ a7 ≤ 7))) ∧ Below w.heap.size w w' := by
  have HB : Hid (∀ o1, Below w.heap.size w (w.alloc o1)) := fun o1 => bel_alloc (Nat.le_refl _) o1
  go_enter Tryz.func83, Tryz.ntmps83
  go_wp2_with (first | (go_at_call 82; refine (within_any _ _ _ _).mono ?_; rintro e w1 ⟨he, rfl⟩; (try rw [HX.out] at he); subst he))
  go_ret
  exact ⟨by rw [Bool.decide_and]; rfl, HB.out _⟩
set_option maxHeartbeats 1000000 in
theorem bk3n (w : World) (a2 a3 a6 a7 a8 : Int) (np vp q : Option Addr) (nc n4 vc n5 c n9 : Nat) (HX : Hid (decide ((1 : Int) ≤ a6 ∧ a6 ≤ 16) = false)) :
    Calls Tryz.prog 83 #[.agg #[.int .i64 3, .int .i64 a2, .int .i64 a3, .slice np n4 nc, .slice vp n5 vc, .int .i64 a6, .int .i64 a7, .int .i64 a8, .slice q n9 c]] w fun e w' => e = .returned (.bool false) ∧ Below w.heap.size w w' := by
  have HB : Hid (∀ o1, Below w.heap.size w (w.alloc o1)) := fun o1 => bel_alloc (Nat.le_refl _) o1
  go_enter Tryz.func83, Tryz.ntmps83
  go_wp2_with (first | (go_at_call 82; refine (within_any _ _ _ _).mono ?_; rintro e w1 ⟨he, rfl⟩; (try rw [HX.out] at he); subst he))
  go_ret
  exact ⟨rfl, HB.out _⟩
set_option maxHeartbeats 1000000 in
theorem bk4 (w : World) (a2 a3 a6 a7 a8 : Int) (np vp q : Option Addr) (nc n4 vc n5 c n9 : Nat)  :
    Calls Tryz.prog 83 #[.agg #[.int .i64 4, .int .i64 a2, .int .i64 a3, .slice np n4 nc, .slice vp n5 vc, .int .i64 a6, .int .i64 a7, .int .i64 a8, .slice q n9 c]] w fun e w' => e = .returned (.bool (decide ((1 : Int) ≤ a6 ∧ a6 ≤ 16))) ∧ Below w.heap.size w w' := by
  have HB : Hid (∀ o1, Below w.heap.size w (w.alloc o1)) := fun o1 => bel_alloc (Nat.le_refl _) o1
  go_enter Tryz.func83, Tryz.ntmps83
  go_wp2_with (first | (go_at_call 82; refine (within_any _ _ _ _).mono ?_; rintro e w1 ⟨he, rfl⟩; subst he))
  go_ret
  exact ⟨by rw [Bool.decide_and]; rfl, HB.out _⟩
set_option maxHeartbeats 1000000 in
theorem bk5y (w : World) (a2 a3 a6 a7 a8 : Int) (np vp q : Option Addr) (nc n4 vc n5 c n9 : Nat) (HX : Hid (decide ((1 : Int) ≤ a8 ∧ a8 ≤ 16) = true)) (r : Bool) (HW : ∀ W, Hid (Below w.heap.size w W) → Calls Tryz.prog 118 #[.slice q n9 c] W fun e w' => e = .returned (.bool r) ∧ Hid (Below w.heap.size w w')) :
    Calls Tryz.prog 83 #[.agg #[.int .i64 5, .int .i64 a2, .int .i64 a3, .slice np n4 nc, .slice vp n5 vc, .int .i64 a6, .int .i64 a7, .int .i64 a8, .slice q n9 c]] w fun e w' => e = .returned (.bool r) ∧ Below w.heap.size w w' := by
  have HB : Hid (∀ o1, Below w.heap.size w (w.alloc o1)) := fun o1 => bel_alloc (Nat.le_refl _) o1
  go_enter Tryz.func83, Tryz.ntmps83
  go_wp2_with (first | (go_at_call 82; refine (within_any _ _ _ _).mono ?_; rintro e w1 ⟨he, rfl⟩; (try rw [HX.out] at he); subst he) | (go_at_call 118; refine (HW _ (HB.out _)).mono ?_; rintro e w1 ⟨rfl, HB1⟩))
  go_ret
  exact ⟨rfl, HB1.out⟩
set_option maxHeartbeats 1000000 in
theorem bk5n (w : World) (a2 a3 a6 a7 a8 : Int) (np vp q : Option Addr) (nc n4 vc n5 c n9 : Nat) (HX : Hid (decide ((1 : Int) ≤ a8 ∧ a8 ≤ 16) = false)) :
    Calls Tryz.prog 83 #[.agg #[.int .i64 5, .int .i64 a2, .int .i64 a3, .slice np n4 nc, .slice vp n5 vc, .int .i64 a6, .int .i64 a7, .int .i64 a8, .slice q n9 c]] w fun e w' => e = .returned (.bool false) ∧ Below w.heap.size w w' := by
  have HB : Hid (∀ o1, Below w.heap.size w (w.alloc o1)) := fun o1 => bel_alloc (Nat.le_refl _) o1
  go_enter Tryz.func83, Tryz.ntmps83
  go_wp2_with (first | (go_at_call 82; refine (within_any _ _ _ _).mono ?_; rintro e w1 ⟨he, rfl⟩; (try rw [HX.out] at he); subst he))
  go_ret
  exact ⟨rfl, HB.out _⟩
set_option maxHeartbeats 1000000 in
theorem bk0 (w : World) (a1 a2 a3 a6 a7 a8 : Int) (np vp q : Option Addr) (nc n4 vc n5 c n9 : Nat) (k1 : ¬ a1 = 1) (k2 : ¬ a1 = 2) (k3 : ¬ a1 = 3) (k4 : ¬ a1 = 4) (k5 : ¬ a1 = 5) :
    Calls Tryz.prog 83 #[.agg #[.int .i64 a1, .int .i64 a2, .int .i64 a3, .slice np n4 nc, .slice vp n5 vc, .int .i64 a6, .int .i64 a7, .int .i64 a8, .slice q n9 c]] w fun e w' => e = .returned (.bool false) ∧ Below w.heap.size w w' := by
  have HB : Hid (∀ o1, Below w.heap.size w (w.alloc o1)) := fun o1 => bel_alloc (Nat.le_refl _) o1
  have z1 : (a1 == 1) = false := by simp [k1]
  have z2 : (a1 == 2) = false := by simp [k2]
  have z3 : (a1 == 3) = false := by simp [k3]
  have z4 : (a1 == 4) = false := by simp [k4]
  have z5 : (a1 == 5) = false := by simp [k5]
  go_enter Tryz.func83, Tryz.ntmps83
  go_wp2_with (first | fail)
  go_ret
  exact ⟨rfl, HB.out _⟩
theorem byKind_any (a : En) (va : Value) (w : World) (ha : EnIs w va a) :
    Calls Tryz.prog 83 #[va] w fun e w' => e = .returned (.bool (byKind a)) ∧ Below w.heap.size w w' := by
  obtain ⟨np, nc, vp, vc, q, c, rfl, ha⟩ := ha
  have HW : ∀ W, Hid (Below w.heap.size w W) → Calls Tryz.prog 118 #[.slice q a.wraps.length c] W fun e w' => e = .returned (.bool (wok 0 a.wraps)) ∧ Hid (Below w.heap.size w w') := fun W h => by
    refine (rightWraps_any _ _ _ W (ha.wraps.below h.out) ha.lw).mono ?_
    rintro e w' ⟨rfl, h2⟩
    exact ⟨rfl, h.out.trans (bel_le h2 h.out.size)⟩
  clear ha
  obtain ⟨a1, a2, a3, a4, a5, a6, a7, a8, a9⟩ := a
  simp only [EnV] at HW ⊢
  have c4 : decide ((1 : Int) ≤ (a4.length : Int) ∧ (a4.length : Int) ≤ 64) = decide (1 ≤ a4.length ∧ a4.length ≤ 64) := by rw [decide_eq_decide]; omega
  have c5 : decide ((a5.length : Int) ≤ 512) = decide (a5.length ≤ 512) := by rw [decide_eq_decide]; omega
  unfold byKind
  simp only
  by_cases k1 : a1 = 1
  · subst k1
    rw [if_pos rfl, ← c4, ← c5]
    cases hx : decide ((1 : Int) ≤ (a4.length : Int) ∧ (a4.length : Int) ≤ 64) with
    | true => exact bk1y w a2 a3 a6 a7 a8 np vp q nc _ vc _ c _ hx
    | false => exact bk1n w a2 a3 a6 a7 a8 np vp q nc _ vc _ c _ hx
  rw [if_neg k1]
  by_cases k2 : a1 = 2
  · subst k2
    rw [if_pos rfl, ← c4]
    exact bk2 w a2 a3 a6 a7 a8 np vp q nc _ vc _ c _
  rw [if_neg k2]
  by_cases k3 : a1 = 3
  · subst k3
    rw [if_pos rfl]
    cases hx : decide ((1 : Int) ≤ a6 ∧ a6 ≤ 16) with
    | true => exact bk3y w a2 a3 a6 a7 a8 np vp q nc _ vc _ c _ hx
    | false => exact bk3n w a2 a3 a6 a7 a8 np vp q nc _ vc _ c _ hx
  rw [if_neg k3]
  by_cases k4 : a1 = 4
  · subst k4
    rw [if_pos rfl]
    exact bk4 w a2 a3 a6 a7 a8 np vp q nc _ vc _ c _
  rw [if_neg k4]
  by_cases k5 : a1 = 5
  · subst k5
    rw [if_pos rfl]
    cases hx : decide ((1 : Int) ≤ a8 ∧ a8 ≤ 16) with
    | true => exact bk5y w a2 a3 a6 a7 a8 np vp q nc _ vc _ c _ hx _ HW
    | false => exact bk5n w a2 a3 a6 a7 a8 np vp q nc _ vc _ c _ hx
  rw [if_neg k5]
  exact bk0 w a1 a2 a3 a6 a7 a8 np vp q nc _ vc _ c _ k1 k2 k3 k4 k5
end Go.Proofs.YtfjdaafckiefdaaGreatDoor.E9
/- The contract of named. -/
namespace Go.Proofs.YtfjdaafckiefdaaGreatDoor.E9
open Go.RowKit C8
theorem mid3 (w : World) (A B C : Obj) : (((w.alloc A).alloc B).alloc C).heap[w.heap.size + 1]? = some B := by
  rw [Below.heap_alloc _ _ _ (by simp)]
  exact heap_alloc2_new w A B
theorem bel3 (w : World) (A B C : Obj) : Below w.heap.size w (((w.alloc A).alloc B).alloc C) :=
  ((bel_alloc (Nat.le_refl _) A).trans (bel_alloc (by simp) B)).trans (bel_alloc (by simp; omega) C)
set_option maxHeartbeats 1000000 in
theorem nm1 (w : World) (a2 a3 a6 a7 a8 : Int) (np vp q : Option Addr) (nc n4 vc n5 c n9 : Nat)  :
    Calls Tryz.prog 84 #[.agg #[.int .i64 1, .int .i64 a2, .int .i64 a3, .slice np n4 nc, .slice vp n5 vc, .int .i64 a6, .int .i64 a7, .int .i64 a8, .slice q n9 c]] w fun e w' => e = .returned (.agg #[.int .i64 1, .int .i64 a2, .int .i64 a3, .slice np n4 nc, .slice vp n5 vc, .int .i64 0, .int .i64 0, .int .i64 0, .slice none 0 0]) ∧ Below w.heap.size w w' := by
  go_enter Tryz.func84, Tryz.ntmps84
  go_wp2_with fail
  all_goals go_region
  all_goals go_wp2_with fail
  all_goals (try simp only [Exit.inBlock, Exit.then])
  all_goals refine bodyPost_ret (results_cell_row rfl _ _ (w.heap.size + 1) 49 _ (0, 0) _ rfl (mid3 w _ _ _) Tryz.underlying49 rfl (by kernel_rfl)) rfl ⟨rfl, (bel3 w _ _ _).drew⟩
set_option maxHeartbeats 1000000 in
theorem nm2 (w : World) (a2 a3 a6 a7 a8 : Int) (np vp q : Option Addr) (nc n4 vc n5 c n9 : Nat)  :
    Calls Tryz.prog 84 #[.agg #[.int .i64 2, .int .i64 a2, .int .i64 a3, .slice np n4 nc, .slice vp n5 vc, .int .i64 a6, .int .i64 a7, .int .i64 a8, .slice q n9 c]] w fun e w' => e = .returned (.agg #[.int .i64 2, .int .i64 a2, .int .i64 a3, .slice np n4 nc, .slice none 0 0, .int .i64 0, .int .i64 0, .int .i64 0, .slice none 0 0]) ∧ Below w.heap.size w w' := by
  go_enter Tryz.func84, Tryz.ntmps84
  go_wp2_with fail
  (try simp only [Exit.inBlock, Exit.then])
  refine bodyPost_ret (results_cell_row rfl _ _ (w.heap.size + 1) 49 _ (0, 0) _ rfl (mid3 w _ _ _) Tryz.underlying49 rfl (by kernel_rfl)) rfl ⟨rfl, bel3 w _ _ _⟩
set_option maxHeartbeats 1000000 in
theorem nm3 (w : World) (a2 a3 a6 a7 a8 : Int) (np vp q : Option Addr) (nc n4 vc n5 c n9 : Nat)  :
    Calls Tryz.prog 84 #[.agg #[.int .i64 3, .int .i64 a2, .int .i64 a3, .slice np n4 nc, .slice vp n5 vc, .int .i64 a6, .int .i64 a7, .int .i64 a8, .slice q n9 c]] w fun e w' => e = .returned (.agg #[.int .i64 3, .int .i64 a2, .int .i64 a3, .slice none 0 0, .slice none 0 0, .int .i64 a6, .int .i64 a7, .int .i64 0, .slice none 0 0]) ∧ Below w.heap.size w w' := by
  go_enter Tryz.func84, Tryz.ntmps84
  go_wp2_with fail
  all_goals go_region
  all_goals go_wp2_with fail
  all_goals (try simp only [Exit.inBlock, Exit.then])
  all_goals refine bodyPost_ret (results_cell_row rfl _ _ (w.heap.size + 1) 49 _ (0, 0) _ rfl (mid3 w _ _ _) Tryz.underlying49 rfl (by kernel_rfl)) rfl ⟨rfl, (bel3 w _ _ _).drew⟩
set_option maxHeartbeats 1000000 in
theorem nm4 (w : World) (a2 a3 a6 a7 a8 : Int) (np vp q : Option Addr) (nc n4 vc n5 c n9 : Nat)  :
    Calls Tryz.prog 84 #[.agg #[.int .i64 4, .int .i64 a2, .int .i64 a3, .slice np n4 nc, .slice vp n5 vc, .int .i64 a6, .int .i64 a7, .int .i64 a8, .slice q n9 c]] w fun e w' => e = .returned (.agg #[.int .i64 4, .int .i64 a2, .int .i64 a3, .slice none 0 0, .slice none 0 0, .int .i64 a6, .int .i64 0, .int .i64 0, .slice none 0 0]) ∧ Below w.heap.size w w' := by
  go_enter Tryz.func84, Tryz.ntmps84
  go_wp2_with fail
  (try simp only [Exit.inBlock, Exit.then])
  refine bodyPost_ret (results_cell_row rfl _ _ (w.heap.size + 1) 49 _ (0, 0) _ rfl (mid3 w _ _ _) Tryz.underlying49 rfl (by kernel_rfl)) rfl ⟨rfl, bel3 w _ _ _⟩
set_option maxHeartbeats 1000000 in
theorem nm5 (w : World) (a2 a3 a6 a7 a8 : Int) (np vp q : Option Addr) (nc n4 vc n5 c n9 : Nat)  :
    Calls Tryz.prog 84 #[.agg #[.int .i64 5, .int .i64 a2, .int .i64 a3, .slice np n4 nc, .slice vp n5 vc, .int .i64 a6, .int .i64 a7, .int .i64 a8, .slice q n9 c]] w fun e w' => e = .returned (.agg #[.int .i64 5, .int .i64 a2, .int .i64 a3, .slice none 0 0, .slice none 0 0, .int .i64 0, .int .i64 0, .int .i64 a8, .slice q n9 c]) ∧ Below w.heap.size w w' := by
  go_enter Tryz.func84, Tryz.ntmps84
  go_wp2_with fail
  all_goals go_region
  all_goals go_wp2_with fail
  all_goals (try simp only [Exit.inBlock, Exit.then])
  all_goals refine bodyPost_ret (results_cell_row rfl _ _ (w.heap.size + 1) 49 _ (0, 0) _ rfl (mid3 w _ _ _) Tryz.underlying49 rfl (by kernel_rfl)) rfl ⟨rfl, (bel3 w _ _ _).drew⟩
set_option maxHeartbeats 1000000 in
theorem nm0 (w : World) (a1 a2 a3 a6 a7 a8 : Int) (np vp q : Option Addr) (nc n4 vc n5 c n9 : Nat) (k1 : ¬ a1 = 1) (k2 : ¬ a1 = 2) (k3 : ¬ a1 = 3) (k4 : ¬ a1 = 4) (k5 : ¬ a1 = 5) :
    Calls Tryz.prog 84 #[.agg #[.int .i64 a1, .int .i64 a2, .int .i64 a3, .slice np n4 nc, .slice vp n5 vc, .int .i64 a6, .int .i64 a7, .int .i64 a8, .slice q n9 c]] w fun e w' => e = .returned (.agg #[.int .i64 a1, .int .i64 a2, .int .i64 a3, .slice none 0 0, .slice none 0 0, .int .i64 0, .int .i64 0, .int .i64 0, .slice none 0 0]) ∧ Below w.heap.size w w' := by
  have z1 : (a1 == 1) = false := by simp [k1]
  have z2 : (a1 == 2) = false := by simp [k2]
  have z3 : (a1 == 3) = false := by simp [k3]
  have z4 : (a1 == 4) = false := by simp [k4]
  have z5 : (a1 == 5) = false := by simp [k5]
  go_enter Tryz.func84, Tryz.ntmps84
  go_wp2_with fail
  (try simp only [Exit.inBlock, Exit.then])
  refine bodyPost_ret (results_cell_row rfl _ _ (w.heap.size + 1) 49 _ (0, 0) _ rfl (mid3 w _ _ _) Tryz.underlying49 rfl (by kernel_rfl)) rfl ⟨rfl, bel3 w _ _ _⟩
theorem EnAt.mk0 {w : World} {e : En} {np : Option Addr} {nc : Nat} {vp : Option Addr} {vc : Nat} {q : Option Addr} (h1 : Src w (.slice np e.name.length nc) e.name) (h2 : Src w (.slice vp e.value.length vc) e.value) (h3 : WrRow w q e.wraps) (ln : e.name.length ≤ 9223372036854775807) (lv : e.value.length ≤ 9223372036854775807) (lw : e.wraps.length ≤ 9223372036854775807) : EnAt w e np nc vp vc q := ⟨h1, h2, h3, ln, lv, lw⟩
theorem named_any (a : En) (va : Value) (w : World) (ha : EnIs w va a) :
    Calls Tryz.prog 84 #[va] w fun e w' => ∃ v, e = .returned v ∧ EnIs w' v (named a) ∧ Below w.heap.size w w' := by
  obtain ⟨np, nc, vp, vc, q, c, rfl, ha⟩ := ha
  obtain ⟨a1, a2, a3, a4, a5, a6, a7, a8, a9⟩ := a
  simp only [EnV]
  have Z : ∀ W : World, Src W (.slice none 0 0) [] := fun W => Src.nil W
  have lz : ([] : List Nat).length ≤ 9223372036854775807 := by simp
  have lz' : ([] : List (Int × List Nat)).length ≤ 9223372036854775807 := by simp
  unfold named
  simp only
  by_cases k1 : a1 = 1
  · subst k1
    rw [if_pos rfl]
    refine (nm1 w a2 a3 a6 a7 a8 np vp q nc _ vc _ c _).mono ?_
    rintro e w' ⟨rfl, hb⟩
    exact ⟨_, rfl, ⟨np, nc, vp, vc, none, 0, rfl, (ha.below hb).name, (ha.below hb).value, WrRow.nil _ _, ha.ln, ha.lv, lz'⟩, hb⟩
  rw [if_neg k1]
  by_cases k2 : a1 = 2
  · subst k2
    rw [if_pos rfl]
    refine (nm2 w a2 a3 a6 a7 a8 np vp q nc _ vc _ c _).mono ?_
    rintro e w' ⟨rfl, hb⟩
    exact ⟨_, rfl, ⟨np, nc, none, 0, none, 0, rfl, (ha.below hb).name, Z _, WrRow.nil _ _, ha.ln, lz, lz'⟩, hb⟩
  rw [if_neg k2]
  by_cases k3 : a1 = 3
  · subst k3
    rw [if_pos rfl]
    refine (nm3 w a2 a3 a6 a7 a8 np vp q nc _ vc _ c _).mono ?_
    rintro e w' ⟨rfl, hb⟩
    exact ⟨_, rfl, ⟨none, 0, none, 0, none, 0, rfl, Z _, Z _, WrRow.nil _ _, lz, lz, lz'⟩, hb⟩
  rw [if_neg k3]
  by_cases k4 : a1 = 4
  · subst k4
    rw [if_pos rfl]
    refine (nm4 w a2 a3 a6 a7 a8 np vp q nc _ vc _ c _).mono ?_
    rintro e w' ⟨rfl, hb⟩
    exact ⟨_, rfl, ⟨none, 0, none, 0, none, 0, rfl, Z _, Z _, WrRow.nil _ _, lz, lz, lz'⟩, hb⟩
  rw [if_neg k4]
  by_cases k5 : a1 = 5
  · subst k5
    rw [if_pos rfl]
    refine (nm5 w a2 a3 a6 a7 a8 np vp q nc _ vc _ c _).mono ?_
    rintro e w' ⟨rfl, hb⟩
    exact ⟨_, rfl, ⟨none, 0, none, 0, q, c, rfl, Z _, Z _, (ha.below hb).wraps, lz, lz, ha.lw⟩, hb⟩
  rw [if_neg k5]
  refine (nm0 w a1 a2 a3 a6 a7 a8 np vp q nc _ vc _ c _ k1 k2 k3 k4 k5).mono ?_
  rintro e w' ⟨rfl, hb⟩
  exact ⟨_, rfl, ⟨none, 0, none, 0, none, 0, rfl, Z _, Z _, WrRow.nil _ _, lz, lz, lz'⟩, hb⟩
end Go.Proofs.YtfjdaafckiefdaaGreatDoor.E9
/- The contracts of Same, rightByKind and named. -/
namespace Go.Proofs.YtfjdaafckiefdaaGreatDoor.E9
open Go.RowKit C8
set_option maxHeartbeats 8000000 in
theorem Same_any (a b : En) (va vb : Value) (w : World) (ha : EnIs w va a) (hb : EnIs w vb b) :
    Calls Tryz.prog 41 #[va, vb] w fun e w' => e = .returned (.bool (same a b)) ∧ Below w.heap.size w w' := by
  obtain ⟨np, nc, vp, vc, q, c, rfl, ha⟩ := ha
  obtain ⟨np', nc', vp', vc', q', c', rfl, hb⟩ := hb
  have HN : ∀ W, Hid (Below w.heap.size w W) → Calls Tryz.prog 87 #[.slice np a.name.length nc, .slice np' b.name.length nc'] W fun e w' => e = .returned (.bool (decide (a.name = b.name))) ∧ w' = W := fun W h => equal_any _ _ _ _ _ _ _ _ W (ha.name.below h.out) (hb.name.below h.out)
  have HV : ∀ W, Hid (Below w.heap.size w W) → Calls Tryz.prog 87 #[.slice vp a.value.length vc, .slice vp' b.value.length vc'] W fun e w' => e = .returned (.bool (decide (a.value = b.value))) ∧ w' = W := fun W h => equal_any _ _ _ _ _ _ _ _ W (ha.value.below h.out) (hb.value.below h.out)
  have HW : ∀ W, Hid (Below w.heap.size w W) → Calls Tryz.prog 88 #[.slice q a.wraps.length c, .slice q' b.wraps.length c', .func (.func 89) #[] #[]] W fun e w' => e = .returned (.bool (decide (a.wraps = b.wraps))) ∧ Hid (Below w.heap.size w w') := fun W h => by
    refine (equalFunc_any _ _ _ _ _ _ W (ha.wraps.below h.out) (hb.wraps.below h.out) ha.lw).mono ?_
    rintro e w' ⟨rfl, h2⟩
    exact ⟨rfl, h.out.trans (bel_le h2 h.out.size)⟩
  have HB : Hid (∀ o1 o2, Below w.heap.size w ((w.alloc o1).alloc o2)) := fun o1 o2 => (bel_alloc (Nat.le_refl _) o1).trans (bel_alloc (by simp) o2)
  have HBH : ∀ o1 o2, Hid (Below w.heap.size w ((w.alloc o1).alloc o2)) := HB.out
  clear ha hb
  obtain ⟨res, HR⟩ : ∃ res, Hid (same a b = res) := ⟨_, rfl⟩
  rw [HR.out]
  obtain ⟨a1, a2, a3, a4, a5, a6, a7, a8, a9⟩ := a
  obtain ⟨b1, b2, b3, b4, b5, b6, b7, b8, b9⟩ := b
  simp only [EnV] at HN HV HW ⊢
  by_cases h1 : a1 = b1
  rotate_left
  · have HF : Hid (res = false) := by show _ = _; rw [← HR.out]; simp [same, h1]
    have z1 : (a1 == b1) = false := by simp [h1]
    clear h1 HR
    generalize a4.length = n4 at *
    generalize b4.length = m4 at *
    generalize a5.length = n5 at *
    generalize b5.length = m5 at *
    generalize a9.length = n9 at *
    generalize b9.length = m9 at *
    go_enter Tryz.func41, Tryz.ntmps41
    go_wp2_with (first | (go_at_call 87; first | (with_reducible refine (HN _ (HBH _ _)).mono ?_; rintro e w1 ⟨rfl, rfl⟩) | (with_reducible refine (HV _ (HBH _ _)).mono ?_; rintro e w1 ⟨rfl, rfl⟩)) | (go_at_call 88; refine (HW _ (HB.out _ _)).mono ?_; rintro e w1 ⟨rfl, HB1⟩))
    go_ret
    exact ⟨by rw [HF.out]; rfl, HB.out _ _⟩
  subst h1
  by_cases h2 : a2 = b2
  rotate_left
  · have HF : Hid (res = false) := by show _ = _; rw [← HR.out]; simp [same, h2]
    have z2 : (a2 == b2) = false := by simp [h2]
    clear h2 HR
    generalize a4.length = n4 at *
    generalize b4.length = m4 at *
    generalize a5.length = n5 at *
    generalize b5.length = m5 at *
    generalize a9.length = n9 at *
    generalize b9.length = m9 at *
    go_enter Tryz.func41, Tryz.ntmps41
    go_wp2_with (first | (go_at_call 87; first | (with_reducible refine (HN _ (HBH _ _)).mono ?_; rintro e w1 ⟨rfl, rfl⟩) | (with_reducible refine (HV _ (HBH _ _)).mono ?_; rintro e w1 ⟨rfl, rfl⟩)) | (go_at_call 88; refine (HW _ (HB.out _ _)).mono ?_; rintro e w1 ⟨rfl, HB1⟩))
    go_ret
    exact ⟨by rw [HF.out]; rfl, HB.out _ _⟩
  subst h2
  by_cases h3 : a3 = b3
  rotate_left
  · have HF : Hid (res = false) := by show _ = _; rw [← HR.out]; simp [same, h3]
    have z3 : (a3 == b3) = false := by simp [h3]
    clear h3 HR
    generalize a4.length = n4 at *
    generalize b4.length = m4 at *
    generalize a5.length = n5 at *
    generalize b5.length = m5 at *
    generalize a9.length = n9 at *
    generalize b9.length = m9 at *
    go_enter Tryz.func41, Tryz.ntmps41
    go_wp2_with (first | (go_at_call 87; first | (with_reducible refine (HN _ (HBH _ _)).mono ?_; rintro e w1 ⟨rfl, rfl⟩) | (with_reducible refine (HV _ (HBH _ _)).mono ?_; rintro e w1 ⟨rfl, rfl⟩)) | (go_at_call 88; refine (HW _ (HB.out _ _)).mono ?_; rintro e w1 ⟨rfl, HB1⟩))
    go_ret
    exact ⟨by rw [HF.out]; rfl, HB.out _ _⟩
  subst h3
  by_cases h4 : a4 = b4
  rotate_left
  · have HF : Hid (res = false) := by show _ = _; rw [← HR.out]; simp [same, h4]
    rw [decide_eq_false h4] at HN
    clear h4 HR
    generalize a4.length = n4 at *
    generalize b4.length = m4 at *
    generalize a5.length = n5 at *
    generalize b5.length = m5 at *
    generalize a9.length = n9 at *
    generalize b9.length = m9 at *
    go_enter Tryz.func41, Tryz.ntmps41
    go_wp2_with (first | (go_at_call 87; first | (with_reducible refine (HN _ (HBH _ _)).mono ?_; rintro e w1 ⟨rfl, rfl⟩) | (with_reducible refine (HV _ (HBH _ _)).mono ?_; rintro e w1 ⟨rfl, rfl⟩)) | (go_at_call 88; refine (HW _ (HB.out _ _)).mono ?_; rintro e w1 ⟨rfl, HB1⟩))
    go_ret
    exact ⟨by rw [HF.out]; rfl, HB.out _ _⟩
  rw [decide_eq_true h4] at HN
  by_cases h5 : a5 = b5
  rotate_left
  · have HF : Hid (res = false) := by show _ = _; rw [← HR.out]; simp [same, h5]
    rw [decide_eq_false h5] at HV
    clear h5 HR
    generalize a4.length = n4 at *
    generalize b4.length = m4 at *
    generalize a5.length = n5 at *
    generalize b5.length = m5 at *
    generalize a9.length = n9 at *
    generalize b9.length = m9 at *
    go_enter Tryz.func41, Tryz.ntmps41
    go_wp2_with (first | (go_at_call 87; first | (with_reducible refine (HN _ (HBH _ _)).mono ?_; rintro e w1 ⟨rfl, rfl⟩) | (with_reducible refine (HV _ (HBH _ _)).mono ?_; rintro e w1 ⟨rfl, rfl⟩)) | (go_at_call 88; refine (HW _ (HB.out _ _)).mono ?_; rintro e w1 ⟨rfl, HB1⟩))
    go_ret
    exact ⟨by rw [HF.out]; rfl, HB.out _ _⟩
  rw [decide_eq_true h5] at HV
  by_cases h6 : a6 = b6
  rotate_left
  · have HF : Hid (res = false) := by show _ = _; rw [← HR.out]; simp [same, h6]
    have z6 : (a6 == b6) = false := by simp [h6]
    clear h6 HR
    generalize a4.length = n4 at *
    generalize b4.length = m4 at *
    generalize a5.length = n5 at *
    generalize b5.length = m5 at *
    generalize a9.length = n9 at *
    generalize b9.length = m9 at *
    go_enter Tryz.func41, Tryz.ntmps41
    go_wp2_with (first | (go_at_call 87; first | (with_reducible refine (HN _ (HBH _ _)).mono ?_; rintro e w1 ⟨rfl, rfl⟩) | (with_reducible refine (HV _ (HBH _ _)).mono ?_; rintro e w1 ⟨rfl, rfl⟩)) | (go_at_call 88; refine (HW _ (HB.out _ _)).mono ?_; rintro e w1 ⟨rfl, HB1⟩))
    go_ret
    exact ⟨by rw [HF.out]; rfl, HB.out _ _⟩
  subst h6
  by_cases h7 : a7 = b7
  rotate_left
  · have HF : Hid (res = false) := by show _ = _; rw [← HR.out]; simp [same, h7]
    have z7 : (a7 == b7) = false := by simp [h7]
    clear h7 HR
    generalize a4.length = n4 at *
    generalize b4.length = m4 at *
    generalize a5.length = n5 at *
    generalize b5.length = m5 at *
    generalize a9.length = n9 at *
    generalize b9.length = m9 at *
    go_enter Tryz.func41, Tryz.ntmps41
    go_wp2_with (first | (go_at_call 87; first | (with_reducible refine (HN _ (HBH _ _)).mono ?_; rintro e w1 ⟨rfl, rfl⟩) | (with_reducible refine (HV _ (HBH _ _)).mono ?_; rintro e w1 ⟨rfl, rfl⟩)) | (go_at_call 88; refine (HW _ (HB.out _ _)).mono ?_; rintro e w1 ⟨rfl, HB1⟩))
    go_ret
    exact ⟨by rw [HF.out]; rfl, HB.out _ _⟩
  subst h7
  by_cases h8 : a8 = b8
  rotate_left
  · have HF : Hid (res = false) := by show _ = _; rw [← HR.out]; simp [same, h8]
    have z8 : (a8 == b8) = false := by simp [h8]
    clear h8 HR
    generalize a4.length = n4 at *
    generalize b4.length = m4 at *
    generalize a5.length = n5 at *
    generalize b5.length = m5 at *
    generalize a9.length = n9 at *
    generalize b9.length = m9 at *
    go_enter Tryz.func41, Tryz.ntmps41
    go_wp2_with (first | (go_at_call 87; first | (with_reducible refine (HN _ (HBH _ _)).mono ?_; rintro e w1 ⟨rfl, rfl⟩) | (with_reducible refine (HV _ (HBH _ _)).mono ?_; rintro e w1 ⟨rfl, rfl⟩)) | (go_at_call 88; refine (HW _ (HB.out _ _)).mono ?_; rintro e w1 ⟨rfl, HB1⟩))
    go_ret
    exact ⟨by rw [HF.out]; rfl, HB.out _ _⟩
  subst h8
  by_cases h9 : a9 = b9
  rotate_left
  · have HF : Hid (res = false) := by show _ = _; rw [← HR.out]; simp [same, h9]
    rw [decide_eq_false h9] at HW
    clear h9 HR
    generalize a4.length = n4 at *
    generalize b4.length = m4 at *
    generalize a5.length = n5 at *
    generalize b5.length = m5 at *
    generalize a9.length = n9 at *
    generalize b9.length = m9 at *
    go_enter Tryz.func41, Tryz.ntmps41
    go_wp2_with (first | (go_at_call 87; first | (with_reducible refine (HN _ (HBH _ _)).mono ?_; rintro e w1 ⟨rfl, rfl⟩) | (with_reducible refine (HV _ (HBH _ _)).mono ?_; rintro e w1 ⟨rfl, rfl⟩)) | (go_at_call 88; refine (HW _ (HB.out _ _)).mono ?_; rintro e w1 ⟨rfl, HB1⟩))
    go_ret
    exact ⟨by rw [HF.out]; rfl, HB1.out⟩
  rw [decide_eq_true h9] at HW
  have HF : Hid (res = true) := by show _ = _; rw [← HR.out]; simp [same, h4, h5, h9]
  clear h4 h5 h9 HR
  generalize a4.length = n4 at *
  generalize b4.length = m4 at *
  generalize a5.length = n5 at *
  generalize b5.length = m5 at *
  generalize a9.length = n9 at *
  generalize b9.length = m9 at *
  go_enter Tryz.func41, Tryz.ntmps41
  go_wp2_with (first | (go_at_call 87; first | (with_reducible refine (HN _ (HBH _ _)).mono ?_; rintro e w1 ⟨rfl, rfl⟩) | (with_reducible refine (HV _ (HBH _ _)).mono ?_; rintro e w1 ⟨rfl, rfl⟩)) | (go_at_call 88; refine (HW _ (HB.out _ _)).mono ?_; rintro e w1 ⟨rfl, HB1⟩))
  go_ret
  exact ⟨by rw [HF.out]; rfl, HB1.out⟩
end Go.Proofs.YtfjdaafckiefdaaGreatDoor.E9
/- The contract of Right. -/
namespace Go.Proofs.YtfjdaafckiefdaaGreatDoor.E9
open Go.RowKit C8
/-- An entry's nine cells. -/
def enC (a1 a2 a3 : Int) (np : Option Addr) (n4 nc : Nat) (vp : Option Addr) (n5 vc : Nat) (a6 a7 a8 : Int) (q : Option Addr) (n9 c : Nat) : Array Value := #[.int .i64 a1, .int .i64 a2, .int .i64 a3, .slice np n4 nc, .slice vp n5 vc, .int .i64 a6, .int .i64 a7, .int .i64 a8, .slice q n9 c]
/-- A value that is this entry. -/
def EnsV (e : En) (v : Value) (w : World) : Prop := EnIs w v e
theorem EnsV.kept {e : En} {v : Value} {w w' : World} (h : EnsV e v w) (ho : Only [] w w') : EnsV e v w' := EnIs.below h (ho.below (Nat.le_refl _) (by simp))
theorem fa25_1 (b : Nat) (w : World) : (Instr.fieldAt 49 (.pointer (some ⟨b, 0, none⟩)) 1).run Tryz.prog w = .ok (.pointer (some ⟨b, 1, none⟩)) w := by simp [go_sem]
theorem fa25_2 (b : Nat) (w : World) : (Instr.fieldAt 49 (.pointer (some ⟨b, 0, none⟩)) 2).run Tryz.prog w = .ok (.pointer (some ⟨b, 2, none⟩)) w := by simp [go_sem]
theorem ld25 {b : Nat} {cs : Array Value} {t : TypeId} {fr : Nat × Nat} {w : World} (h : w.heap[b]? = some (.cells cs t fr) ∧ cs.size = 9) : (Instr.loadAt 49 (.pointer (some ⟨b, 0, none⟩))).run Tryz.prog w = .ok (.agg cs) w := by
  simp only [Instr.loadAt, Instr.sureAddr, Sem.run_bind, Sem.run_pure, Result.andThen_ok, run_loadVar_row (P := Tryz.prog) w b t 49 cs fr _ h.1 Tryz.underlying49 rfl (by rw [h.2]; kernel_rfl)]

def rgA (pb : Nat) (a2 : Int) : Nat → Value → World → Prop
  | 0 => IsV (.pointer (some ⟨pb, 1, none⟩))
  | 1 => IsV (.int .i64 a2)
  | 2 => IsV (.bool false)
  | 3 => IsV (.bool false)
  | 4 => IsV undef
  | 5 => IsV undef
  | 6 => IsV undef
  | 7 => IsV (.bool false)
  | 8 => IsV (.bool false)
  | 9 => IsV undef
  | 10 => IsV undef
  | 11 => IsV (.bool false)
  | 12 => IsV (.bool false)
  | 13 => IsV undef
  | 14 => IsV undef
  | 15 => IsV undef
  | 16 => IsV undef
  | 17 => IsV (.bool false)
  | 18 => IsV (.bool false)
  | _ => fun _ _ => True
theorem rgA_kept (pb : Nat) (a2 : Int) : ∀ i v w w', rgA pb a2 i v w → Only [] w w' → rgA pb a2 i v w'
  | 0, _, _, _, h, _ => h
  | 1, _, _, _, h, _ => h
  | 2, _, _, _, h, _ => h
  | 3, _, _, _, h, _ => h
  | 4, _, _, _, h, _ => h
  | 5, _, _, _, h, _ => h
  | 6, _, _, _, h, _ => h
  | 7, _, _, _, h, _ => h
  | 8, _, _, _, h, _ => h
  | 9, _, _, _, h, _ => h
  | 10, _, _, _, h, _ => h
  | 11, _, _, _, h, _ => h
  | 12, _, _, _, h, _ => h
  | 13, _, _, _, h, _ => h
  | 14, _, _, _, h, _ => h
  | 15, _, _, _, h, _ => h
  | 16, _, _, _, h, _ => h
  | 17, _, _, _, h, _ => h
  | 18, _, _, _, h, _ => h
  | _ + 19, _, _, _, _, _ => trivial
def rgB (pb : Nat) (a2 a3 : Int) : Nat → Value → World → Prop
  | 0 => IsV (.pointer (some ⟨pb, 1, none⟩))
  | 1 => IsV (.int .i64 a2)
  | 2 => IsV (.bool true)
  | 3 => IsV (.bool true)
  | 4 => IsV (.pointer (some ⟨pb, 2, none⟩))
  | 5 => IsV (.int .i64 a3)
  | 6 => IsV (.bool false)
  | 7 => IsV (.bool false)
  | 8 => IsV (.bool false)
  | 9 => IsV undef
  | 10 => IsV undef
  | 11 => IsV (.bool false)
  | 12 => IsV (.bool false)
  | 13 => IsV undef
  | 14 => IsV undef
  | 15 => IsV undef
  | 16 => IsV undef
  | 17 => IsV (.bool false)
  | 18 => IsV (.bool false)
  | _ => fun _ _ => True
theorem rgB_kept (pb : Nat) (a2 a3 : Int) : ∀ i v w w', rgB pb a2 a3 i v w → Only [] w w' → rgB pb a2 a3 i v w'
  | 0, _, _, _, h, _ => h
  | 1, _, _, _, h, _ => h
  | 2, _, _, _, h, _ => h
  | 3, _, _, _, h, _ => h
  | 4, _, _, _, h, _ => h
  | 5, _, _, _, h, _ => h
  | 6, _, _, _, h, _ => h
  | 7, _, _, _, h, _ => h
  | 8, _, _, _, h, _ => h
  | 9, _, _, _, h, _ => h
  | 10, _, _, _, h, _ => h
  | 11, _, _, _, h, _ => h
  | 12, _, _, _, h, _ => h
  | 13, _, _, _, h, _ => h
  | 14, _, _, _, h, _ => h
  | 15, _, _, _, h, _ => h
  | 16, _, _, _, h, _ => h
  | 17, _, _, _, h, _ => h
  | 18, _, _, _, h, _ => h
  | _ + 19, _, _, _, _, _ => trivial
def rgC (pb : Nat) (a2 a3 : Int) (CC : Array Value) : Nat → Value → World → Prop
  | 0 => IsV (.pointer (some ⟨pb, 1, none⟩))
  | 1 => IsV (.int .i64 a2)
  | 2 => IsV (.bool true)
  | 3 => IsV (.bool true)
  | 4 => IsV (.pointer (some ⟨pb, 2, none⟩))
  | 5 => IsV (.int .i64 a3)
  | 6 => IsV (.bool true)
  | 7 => IsV (.bool true)
  | 8 => IsV (.bool true)
  | 9 => IsV (.agg CC)
  | 10 => IsV (.bool false)
  | 11 => IsV (.bool false)
  | 12 => IsV (.bool false)
  | 13 => IsV undef
  | 14 => IsV undef
  | 15 => IsV undef
  | 16 => IsV undef
  | 17 => IsV (.bool false)
  | 18 => IsV (.bool false)
  | _ => fun _ _ => True
theorem rgC_kept (pb : Nat) (a2 a3 : Int) (CC : Array Value) : ∀ i v w w', rgC pb a2 a3 CC i v w → Only [] w w' → rgC pb a2 a3 CC i v w'
  | 0, _, _, _, h, _ => h
  | 1, _, _, _, h, _ => h
  | 2, _, _, _, h, _ => h
  | 3, _, _, _, h, _ => h
  | 4, _, _, _, h, _ => h
  | 5, _, _, _, h, _ => h
  | 6, _, _, _, h, _ => h
  | 7, _, _, _, h, _ => h
  | 8, _, _, _, h, _ => h
  | 9, _, _, _, h, _ => h
  | 10, _, _, _, h, _ => h
  | 11, _, _, _, h, _ => h
  | 12, _, _, _, h, _ => h
  | 13, _, _, _, h, _ => h
  | 14, _, _, _, h, _ => h
  | 15, _, _, _, h, _ => h
  | 16, _, _, _, h, _ => h
  | 17, _, _, _, h, _ => h
  | 18, _, _, _, h, _ => h
  | _ + 19, _, _, _, _, _ => trivial
def rgD (pb : Nat) (a2 a3 : Int) (CC : Array Value) (nd : En) (sm : Bool) : Nat → Value → World → Prop
  | 0 => IsV (.pointer (some ⟨pb, 1, none⟩))
  | 1 => IsV (.int .i64 a2)
  | 2 => IsV (.bool true)
  | 3 => IsV (.bool true)
  | 4 => IsV (.pointer (some ⟨pb, 2, none⟩))
  | 5 => IsV (.int .i64 a3)
  | 6 => IsV (.bool true)
  | 7 => IsV (.bool true)
  | 8 => IsV (.bool true)
  | 9 => IsV (.agg CC)
  | 10 => IsV (.bool true)
  | 11 => IsV (.bool true)
  | 12 => IsV (.bool true)
  | 13 => IsV (.agg CC)
  | 14 => IsV (.agg CC)
  | 15 => EnsV nd
  | 16 => IsV (.bool sm)
  | 17 => IsV (.bool sm)
  | 18 => IsV (.bool sm)
  | _ => fun _ _ => True
theorem rgD_kept (pb : Nat) (a2 a3 : Int) (CC : Array Value) (nd : En) (sm : Bool) : ∀ i v w w', rgD pb a2 a3 CC nd sm i v w → Only [] w w' → rgD pb a2 a3 CC nd sm i v w'
  | 0, _, _, _, h, _ => h
  | 1, _, _, _, h, _ => h
  | 2, _, _, _, h, _ => h
  | 3, _, _, _, h, _ => h
  | 4, _, _, _, h, _ => h
  | 5, _, _, _, h, _ => h
  | 6, _, _, _, h, _ => h
  | 7, _, _, _, h, _ => h
  | 8, _, _, _, h, _ => h
  | 9, _, _, _, h, _ => h
  | 10, _, _, _, h, _ => h
  | 11, _, _, _, h, _ => h
  | 12, _, _, _, h, _ => h
  | 13, _, _, _, h, _ => h
  | 14, _, _, _, h, _ => h
  | 15, _, _, _, h, ho => EnsV.kept h ho
  | 16, _, _, _, h, _ => h
  | 17, _, _, _, h, _ => h
  | 18, _, _, _, h, _ => h
  | _ + 19, _, _, _, _, _ => trivial
theorem frame13 {A F : Array Value} (hs : A.size = 21) (h : ∀ t, [2, 3, 4, 5, 6, 7, 8, 9, 10, 11, 12, 13, 14, 15, 16, 17, 18, 19, 20].contains t = false → A.getD t undef = F.getD t undef) : A = #[F.getD 0 undef, F.getD 1 undef, A.getD 2 undef, A.getD 3 undef, A.getD 4 undef, A.getD 5 undef, A.getD 6 undef, A.getD 7 undef, A.getD 8 undef, A.getD 9 undef, A.getD 10 undef, A.getD 11 undef, A.getD 12 undef, A.getD 13 undef, A.getD 14 undef, A.getD 15 undef, A.getD 16 undef, A.getD 17 undef, A.getD 18 undef, A.getD 19 undef, A.getD 20 undef] := by
  rw [← h 0 (by decide), ← h 1 (by decide)]
  refine Array.ext (by simp [hs]) (fun i h1 h2 => ?_)
  have e : A[i] = A.getD i undef := by simp [h1]
  rw [e]
  rw [hs] at h1
  clear e h hs
  match i, h1 with
  | 0, _ => rfl
  | 1, _ => rfl
  | 2, _ => rfl
  | 3, _ => rfl
  | 4, _ => rfl
  | 5, _ => rfl
  | 6, _ => rfl
  | 7, _ => rfl
  | 8, _ => rfl
  | 9, _ => rfl
  | 10, _ => rfl
  | 11, _ => rfl
  | 12, _ => rfl
  | 13, _ => rfl
  | 14, _ => rfl
  | 15, _ => rfl
  | 16, _ => rfl
  | 17, _ => rfl
  | 18, _ => rfl
  | 19, _ => rfl
  | 20, _ => rfl
  | _ + 21, h => exact absurd h (by omega)
set_option maxHeartbeats 4000000 in
theorem rt1 (w : World) (CC : Array Value) (a2 : Int) (pb : Nat) (W : World) (HPB : Hid (w.heap.size = pb)) (HW : Hid (w.alloc (.cells CC 49) = W)) (HB : Hid (Below w.heap.size w W)) (HC1 : Hid (∀ w', Only [] W w' → w'.cell? ⟨pb, 1, none⟩ = some (.int .i64 a2))) (HX : Hid (decide ((1 : Int) ≤ a2 ∧ a2 ≤ 16) = false)) :
    Calls Tryz.prog 37 #[.agg CC] w fun e w' => e = .returned (.bool false) ∧ Below w.heap.size w w' := by
  have HFIN : Hid (∀ w', Only [] W w' → Below w.heap.size w w') := fun w' ho => HB.out.trans (ho.below HB.out.size (by simp))
  go_enter Tryz.func37, Tryz.ntmps37
  go_wp2_with fail
  rw [HW.out, HPB.out]
  have RB : ∀ k w w', Below w.heap.size w w' → (fun (_ : Nat) (_ : World) => True) k w → (fun (_ : Nat) (_ : World) => True) k w' := fun _ _ _ _ _ => trivial
  refine wp_region_st (rgA pb a2) (fun u u' => Only [] u u') (SeqS [] (fun (_ : Nat) (_ : World) => True)) (by kernel_rfl) (only_drew _ _) (only_trans _) (rgA_kept pb a2) (by kernel_rfl) (SeqS.start (trivial)) ?_ ?_
  · intro i o a' w' f hi inv hS hfi hfw hpre
    have ho : Only [] W w' := inv.grow
    have hlt : i < 19 := (Array.getElem?_eq_some_iff.1 hi).1
    obtain rfl|rfl|rfl|rfl|rfl|rfl|rfl|rfl|rfl|rfl|rfl|rfl|rfl|rfl|rfl|rfl|rfl|rfl|rfl : i = 0 ∨ i = 1 ∨ i = 2 ∨ i = 3 ∨ i = 4 ∨ i = 5 ∨ i = 6 ∨ i = 7 ∨ i = 8 ∨ i = 9 ∨ i = 10 ∨ i = 11 ∨ i = 12 ∨ i = 13 ∨ i = 14 ∨ i = 15 ∨ i = 16 ∨ i = 17 ∨ i = 18 := by omega
    · obtain rfl := Option.some.inj hi
      have h0 : a'.tmps.getD 1 undef = (.pointer (some ⟨pb, 0, none⟩)) := by rw [inv.old 1 (notDst_spec (by kernel_rfl))]; rfl
      exact sq_value _ rfl rfl (fa_run 49 1 1 pb rfl h0 (fa25_1 pb)) (Below.refl _ _) (by decide) hS RB rfl
    · obtain rfl := Option.some.inj hi
      have h0 : a'.tmps.getD 3 undef = _ := pre_of hpre 0 3 (by kernel_rfl) (by kernel_rfl)
      exact sq_value _ rfl rfl (load_run 3 3 pb (1) _ rfl h0 (ld3 (HC1.out w' ho))) (Below.refl _ _) (by decide) hS RB rfl
    · obtain rfl := Option.some.inj hi
      have h0 : a'.tmps.getD 4 undef = _ := pre_of hpre 1 4 (by kernel_rfl) (by kernel_rfl)
      refine sq_quiet 82 #[a'.tmps.getD 4 undef, .int .i64 1, .int .i64 16] rfl rfl (by kernel_rfl) (by decide) hS ?_
      rw [h0]
      exact (within_any _ _ _ w').mono (by rintro e u ⟨rfl, rfl⟩; exact ⟨_, rfl, Only.refl _ _, (fun _ h => h), by rw [HX.out]; rfl⟩)
    · obtain rfl := Option.some.inj hi
      have h0 := pre_of hpre 2 5 (by kernel_rfl) (by kernel_rfl)
      exact sq_value _ rfl rfl (rfl) (Below.refl _ _) (by decide) hS RB h0
    · obtain rfl := Option.some.inj hi
      have hgu : a'.tmps.getD 6 undef = _ := pre_of hpre 3 6 (by kernel_rfl) (by kernel_rfl)
      exact sq_skip rfl (unwanted_of 3 6 false rfl (by kernel_rfl) hgu) (by decide) hS rfl
    · obtain rfl := Option.some.inj hi
      have hgu : a'.tmps.getD 6 undef = _ := pre_of hpre 3 6 (by kernel_rfl) (by kernel_rfl)
      exact sq_skip rfl (unwanted_of 3 6 false rfl (by kernel_rfl) hgu) (by decide) hS rfl
    · obtain rfl := Option.some.inj hi
      have hgu : a'.tmps.getD 6 undef = _ := pre_of hpre 3 6 (by kernel_rfl) (by kernel_rfl)
      exact sq_skip rfl (unwanted_of 3 6 false rfl (by kernel_rfl) hgu) (by decide) hS rfl
    · obtain rfl := Option.some.inj hi
      have h0 : a'.tmps.getD 6 undef = _ := pre_of hpre 3 6 (by kernel_rfl) (by kernel_rfl)
      exact sq_value _ rfl rfl (pick_run 6 false _ _ _ _ rfl h0 rfl rfl) (Below.refl _ _) (by decide) hS RB rfl
    · obtain rfl := Option.some.inj hi
      have h0 := pre_of hpre 7 10 (by kernel_rfl) (by kernel_rfl)
      exact sq_value _ rfl rfl (rfl) (Below.refl _ _) (by decide) hS RB h0
    · obtain rfl := Option.some.inj hi
      have hgu : a'.tmps.getD 11 undef = _ := pre_of hpre 8 11 (by kernel_rfl) (by kernel_rfl)
      exact sq_skip rfl (unwanted_of 8 11 false rfl (by kernel_rfl) hgu) (by decide) hS rfl
    · obtain rfl := Option.some.inj hi
      have hgu : a'.tmps.getD 11 undef = _ := pre_of hpre 8 11 (by kernel_rfl) (by kernel_rfl)
      exact sq_skip rfl (unwanted_of 8 11 false rfl (by kernel_rfl) hgu) (by decide) hS rfl
    · obtain rfl := Option.some.inj hi
      have h0 : a'.tmps.getD 11 undef = _ := pre_of hpre 8 11 (by kernel_rfl) (by kernel_rfl)
      exact sq_value _ rfl rfl (pick_run 11 false _ _ _ _ rfl h0 rfl rfl) (Below.refl _ _) (by decide) hS RB rfl
    · obtain rfl := Option.some.inj hi
      have h0 := pre_of hpre 11 14 (by kernel_rfl) (by kernel_rfl)
      exact sq_value _ rfl rfl (rfl) (Below.refl _ _) (by decide) hS RB h0
    · obtain rfl := Option.some.inj hi
      have hgu : a'.tmps.getD 15 undef = _ := pre_of hpre 12 15 (by kernel_rfl) (by kernel_rfl)
      exact sq_skip rfl (unwanted_of 12 15 false rfl (by kernel_rfl) hgu) (by decide) hS rfl
    · obtain rfl := Option.some.inj hi
      have hgu : a'.tmps.getD 15 undef = _ := pre_of hpre 12 15 (by kernel_rfl) (by kernel_rfl)
      exact sq_skip rfl (unwanted_of 12 15 false rfl (by kernel_rfl) hgu) (by decide) hS rfl
    · obtain rfl := Option.some.inj hi
      have hgu : a'.tmps.getD 15 undef = _ := pre_of hpre 12 15 (by kernel_rfl) (by kernel_rfl)
      exact sq_skip rfl (unwanted_of 12 15 false rfl (by kernel_rfl) hgu) (by decide) hS rfl
    · obtain rfl := Option.some.inj hi
      have hgu : a'.tmps.getD 15 undef = _ := pre_of hpre 12 15 (by kernel_rfl) (by kernel_rfl)
      exact sq_skip rfl (unwanted_of 12 15 false rfl (by kernel_rfl) hgu) (by decide) hS rfl
    · obtain rfl := Option.some.inj hi
      have h0 : a'.tmps.getD 15 undef = _ := pre_of hpre 12 15 (by kernel_rfl) (by kernel_rfl)
      exact sq_value _ rfl rfl (pick_run 15 false _ _ _ _ rfl h0 rfl rfl) (Below.refl _ _) (by decide) hS RB rfl
    · obtain rfl := Option.some.inj hi
      have h0 := pre_of hpre 17 20 (by kernel_rfl) (by kernel_rfl)
      exact sq_value _ rfl rfl (rfl) (Below.refl _ _) (by decide) hS RB h0
  · intro a' w3 f inv hS hall hd
    have hk18 := hd 18 2 (by kernel_rfl)
    have ho : Only [] W w3 := inv.grow
    have hdf : a'.defers = [] := inv.defers
    have hsz : a'.tmps.size = 21 := inv.size
    have e := frame13 hsz (fun t ht => inv.old t (dstsIn_spec (ts := [2, 3, 4, 5, 6, 7, 8, 9, 10, 11, 12, 13, 14, 15, 16, 17, 18, 19, 20]) (by kernel_rfl) t ht))
    have hR := hS.done (fun c hc => hall c (show c < 19 by simp at hc <;> omega))
    clear inv hd hsz hall hS
    obtain ⟨tmps, defers⟩ := a'
    obtain rfl : defers = [] := hdf
    replace e : tmps = _ := e
    replace hk18 : tmps.getD 2 undef = (.bool false) := hk18
    generalize tmps.getD 2 undef = x2 at *
    generalize tmps.getD 3 undef = x3 at *
    generalize tmps.getD 4 undef = x4 at *
    generalize tmps.getD 5 undef = x5 at *
    generalize tmps.getD 6 undef = x6 at *
    generalize tmps.getD 7 undef = x7 at *
    generalize tmps.getD 8 undef = x8 at *
    generalize tmps.getD 9 undef = x9 at *
    generalize tmps.getD 10 undef = x10 at *
    generalize tmps.getD 11 undef = x11 at *
    generalize tmps.getD 12 undef = x12 at *
    generalize tmps.getD 13 undef = x13 at *
    generalize tmps.getD 14 undef = x14 at *
    generalize tmps.getD 15 undef = x15 at *
    generalize tmps.getD 16 undef = x16 at *
    generalize tmps.getD 17 undef = x17 at *
    generalize tmps.getD 18 undef = x18 at *
    generalize tmps.getD 19 undef = x19 at *
    generalize tmps.getD 20 undef = x20 at *
    simp only [Array.getD_eq_getD_getElem?, List.getElem?_toArray, List.getElem?_cons_succ, List.getElem?_cons_zero, Option.getD_some] at e
    subst e
    subst hk18
    go_wp2_with fail
    go_ret
    exact ⟨rfl, HFIN.out _ ho⟩
set_option maxHeartbeats 4000000 in
theorem rt2 (w : World) (CC : Array Value) (a2 a3 : Int) (pb : Nat) (W : World) (HPB : Hid (w.heap.size = pb)) (HW : Hid (w.alloc (.cells CC 49) = W)) (HB : Hid (Below w.heap.size w W)) (HC1 : Hid (∀ w', Only [] W w' → w'.cell? ⟨pb, 1, none⟩ = some (.int .i64 a2))) (HC2 : Hid (∀ w', Only [] W w' → w'.cell? ⟨pb, 2, none⟩ = some (.int .i64 a3))) (HX : Hid (decide ((1 : Int) ≤ a2 ∧ a2 ≤ 16) = true)) (HY : Hid (decide ((1 : Int) ≤ a3 ∧ a3 ≤ 1099511627776) = false)) :
    Calls Tryz.prog 37 #[.agg CC] w fun e w' => e = .returned (.bool false) ∧ Below w.heap.size w w' := by
  have HFIN : Hid (∀ w', Only [] W w' → Below w.heap.size w w') := fun w' ho => HB.out.trans (ho.below HB.out.size (by simp))
  go_enter Tryz.func37, Tryz.ntmps37
  go_wp2_with fail
  rw [HW.out, HPB.out]
  have RB : ∀ k w w', Below w.heap.size w w' → (fun (_ : Nat) (_ : World) => True) k w → (fun (_ : Nat) (_ : World) => True) k w' := fun _ _ _ _ _ => trivial
  refine wp_region_st (rgB pb a2 a3) (fun u u' => Only [] u u') (SeqS [] (fun (_ : Nat) (_ : World) => True)) (by kernel_rfl) (only_drew _ _) (only_trans _) (rgB_kept pb a2 a3) (by kernel_rfl) (SeqS.start (trivial)) ?_ ?_
  · intro i o a' w' f hi inv hS hfi hfw hpre
    have ho : Only [] W w' := inv.grow
    have hlt : i < 19 := (Array.getElem?_eq_some_iff.1 hi).1
    obtain rfl|rfl|rfl|rfl|rfl|rfl|rfl|rfl|rfl|rfl|rfl|rfl|rfl|rfl|rfl|rfl|rfl|rfl|rfl : i = 0 ∨ i = 1 ∨ i = 2 ∨ i = 3 ∨ i = 4 ∨ i = 5 ∨ i = 6 ∨ i = 7 ∨ i = 8 ∨ i = 9 ∨ i = 10 ∨ i = 11 ∨ i = 12 ∨ i = 13 ∨ i = 14 ∨ i = 15 ∨ i = 16 ∨ i = 17 ∨ i = 18 := by omega
    · obtain rfl := Option.some.inj hi
      have h0 : a'.tmps.getD 1 undef = (.pointer (some ⟨pb, 0, none⟩)) := by rw [inv.old 1 (notDst_spec (by kernel_rfl))]; rfl
      exact sq_value _ rfl rfl (fa_run 49 1 1 pb rfl h0 (fa25_1 pb)) (Below.refl _ _) (by decide) hS RB rfl
    · obtain rfl := Option.some.inj hi
      have h0 : a'.tmps.getD 3 undef = _ := pre_of hpre 0 3 (by kernel_rfl) (by kernel_rfl)
      exact sq_value _ rfl rfl (load_run 3 3 pb (1) _ rfl h0 (ld3 (HC1.out w' ho))) (Below.refl _ _) (by decide) hS RB rfl
    · obtain rfl := Option.some.inj hi
      have h0 : a'.tmps.getD 4 undef = _ := pre_of hpre 1 4 (by kernel_rfl) (by kernel_rfl)
      refine sq_quiet 82 #[a'.tmps.getD 4 undef, .int .i64 1, .int .i64 16] rfl rfl (by kernel_rfl) (by decide) hS ?_
      rw [h0]
      exact (within_any _ _ _ w').mono (by rintro e u ⟨rfl, rfl⟩; exact ⟨_, rfl, Only.refl _ _, (fun _ h => h), by rw [HX.out]; rfl⟩)
    · obtain rfl := Option.some.inj hi
      have h0 := pre_of hpre 2 5 (by kernel_rfl) (by kernel_rfl)
      exact sq_value _ rfl rfl (rfl) (Below.refl _ _) (by decide) hS RB h0
    · obtain rfl := Option.some.inj hi
      have hgu : a'.tmps.getD 6 undef = _ := pre_of hpre 3 6 (by kernel_rfl) (by kernel_rfl)
      have h0 : a'.tmps.getD 1 undef = (.pointer (some ⟨pb, 0, none⟩)) := by rw [inv.old 1 (notDst_spec (by kernel_rfl))]; rfl
      exact sq_value _ rfl (wanted_of 3 6 true rfl (by kernel_rfl) hgu) (fa_run 49 2 1 pb rfl h0 (fa25_2 pb)) (Below.refl _ _) (by decide) hS RB rfl
    · obtain rfl := Option.some.inj hi
      have hgu : a'.tmps.getD 6 undef = _ := pre_of hpre 3 6 (by kernel_rfl) (by kernel_rfl)
      have h0 : a'.tmps.getD 7 undef = _ := pre_of hpre 4 7 (by kernel_rfl) (by kernel_rfl)
      exact sq_value _ rfl (wanted_of 3 6 true rfl (by kernel_rfl) hgu) (load_run 3 7 pb (2) _ rfl h0 (ld3 (HC2.out w' ho))) (Below.refl _ _) (by decide) hS RB rfl
    · obtain rfl := Option.some.inj hi
      have hgu : a'.tmps.getD 6 undef = _ := pre_of hpre 3 6 (by kernel_rfl) (by kernel_rfl)
      have h0 : a'.tmps.getD 8 undef = _ := pre_of hpre 5 8 (by kernel_rfl) (by kernel_rfl)
      refine sq_quiet 82 #[a'.tmps.getD 8 undef, .int .i64 1, .int .i64 1099511627776] rfl (wanted_of 3 6 true rfl (by kernel_rfl) hgu) (by kernel_rfl) (by decide) hS ?_
      rw [h0]
      exact (within_any _ _ _ w').mono (by rintro e u ⟨rfl, rfl⟩; exact ⟨_, rfl, Only.refl _ _, (fun _ h => h), by rw [HY.out]; rfl⟩)
    · obtain rfl := Option.some.inj hi
      have h0 : a'.tmps.getD 6 undef = _ := pre_of hpre 3 6 (by kernel_rfl) (by kernel_rfl)
      have h1 : a'.tmps.getD 9 undef = _ := pre_of hpre 6 9 (by kernel_rfl) (by kernel_rfl)
      exact sq_value _ rfl rfl (pick_run 6 true _ _ _ _ rfl h0 h1 rfl) (Below.refl _ _) (by decide) hS RB rfl
    · obtain rfl := Option.some.inj hi
      have h0 := pre_of hpre 7 10 (by kernel_rfl) (by kernel_rfl)
      exact sq_value _ rfl rfl (rfl) (Below.refl _ _) (by decide) hS RB h0
    · obtain rfl := Option.some.inj hi
      have hgu : a'.tmps.getD 11 undef = _ := pre_of hpre 8 11 (by kernel_rfl) (by kernel_rfl)
      exact sq_skip rfl (unwanted_of 8 11 false rfl (by kernel_rfl) hgu) (by decide) hS rfl
    · obtain rfl := Option.some.inj hi
      have hgu : a'.tmps.getD 11 undef = _ := pre_of hpre 8 11 (by kernel_rfl) (by kernel_rfl)
      exact sq_skip rfl (unwanted_of 8 11 false rfl (by kernel_rfl) hgu) (by decide) hS rfl
    · obtain rfl := Option.some.inj hi
      have h0 : a'.tmps.getD 11 undef = _ := pre_of hpre 8 11 (by kernel_rfl) (by kernel_rfl)
      exact sq_value _ rfl rfl (pick_run 11 false _ _ _ _ rfl h0 rfl rfl) (Below.refl _ _) (by decide) hS RB rfl
    · obtain rfl := Option.some.inj hi
      have h0 := pre_of hpre 11 14 (by kernel_rfl) (by kernel_rfl)
      exact sq_value _ rfl rfl (rfl) (Below.refl _ _) (by decide) hS RB h0
    · obtain rfl := Option.some.inj hi
      have hgu : a'.tmps.getD 15 undef = _ := pre_of hpre 12 15 (by kernel_rfl) (by kernel_rfl)
      exact sq_skip rfl (unwanted_of 12 15 false rfl (by kernel_rfl) hgu) (by decide) hS rfl
    · obtain rfl := Option.some.inj hi
      have hgu : a'.tmps.getD 15 undef = _ := pre_of hpre 12 15 (by kernel_rfl) (by kernel_rfl)
      exact sq_skip rfl (unwanted_of 12 15 false rfl (by kernel_rfl) hgu) (by decide) hS rfl
    · obtain rfl := Option.some.inj hi
      have hgu : a'.tmps.getD 15 undef = _ := pre_of hpre 12 15 (by kernel_rfl) (by kernel_rfl)
      exact sq_skip rfl (unwanted_of 12 15 false rfl (by kernel_rfl) hgu) (by decide) hS rfl
    · obtain rfl := Option.some.inj hi
      have hgu : a'.tmps.getD 15 undef = _ := pre_of hpre 12 15 (by kernel_rfl) (by kernel_rfl)
      exact sq_skip rfl (unwanted_of 12 15 false rfl (by kernel_rfl) hgu) (by decide) hS rfl
    · obtain rfl := Option.some.inj hi
      have h0 : a'.tmps.getD 15 undef = _ := pre_of hpre 12 15 (by kernel_rfl) (by kernel_rfl)
      exact sq_value _ rfl rfl (pick_run 15 false _ _ _ _ rfl h0 rfl rfl) (Below.refl _ _) (by decide) hS RB rfl
    · obtain rfl := Option.some.inj hi
      have h0 := pre_of hpre 17 20 (by kernel_rfl) (by kernel_rfl)
      exact sq_value _ rfl rfl (rfl) (Below.refl _ _) (by decide) hS RB h0
  · intro a' w3 f inv hS hall hd
    have hk18 := hd 18 2 (by kernel_rfl)
    have ho : Only [] W w3 := inv.grow
    have hdf : a'.defers = [] := inv.defers
    have hsz : a'.tmps.size = 21 := inv.size
    have e := frame13 hsz (fun t ht => inv.old t (dstsIn_spec (ts := [2, 3, 4, 5, 6, 7, 8, 9, 10, 11, 12, 13, 14, 15, 16, 17, 18, 19, 20]) (by kernel_rfl) t ht))
    have hR := hS.done (fun c hc => hall c (show c < 19 by simp at hc <;> omega))
    clear inv hd hsz hall hS
    obtain ⟨tmps, defers⟩ := a'
    obtain rfl : defers = [] := hdf
    replace e : tmps = _ := e
    replace hk18 : tmps.getD 2 undef = (.bool false) := hk18
    generalize tmps.getD 2 undef = x2 at *
    generalize tmps.getD 3 undef = x3 at *
    generalize tmps.getD 4 undef = x4 at *
    generalize tmps.getD 5 undef = x5 at *
    generalize tmps.getD 6 undef = x6 at *
    generalize tmps.getD 7 undef = x7 at *
    generalize tmps.getD 8 undef = x8 at *
    generalize tmps.getD 9 undef = x9 at *
    generalize tmps.getD 10 undef = x10 at *
    generalize tmps.getD 11 undef = x11 at *
    generalize tmps.getD 12 undef = x12 at *
    generalize tmps.getD 13 undef = x13 at *
    generalize tmps.getD 14 undef = x14 at *
    generalize tmps.getD 15 undef = x15 at *
    generalize tmps.getD 16 undef = x16 at *
    generalize tmps.getD 17 undef = x17 at *
    generalize tmps.getD 18 undef = x18 at *
    generalize tmps.getD 19 undef = x19 at *
    generalize tmps.getD 20 undef = x20 at *
    simp only [Array.getD_eq_getD_getElem?, List.getElem?_toArray, List.getElem?_cons_succ, List.getElem?_cons_zero, Option.getD_some] at e
    subst e
    subst hk18
    go_wp2_with fail
    go_ret
    exact ⟨rfl, HFIN.out _ ho⟩
set_option maxHeartbeats 4000000 in
theorem rt3 (w : World) (CC : Array Value) (a2 a3 : Int) (pb : Nat) (W : World) (HPB : Hid (w.heap.size = pb)) (HW : Hid (w.alloc (.cells CC 49) = W)) (HB : Hid (Below w.heap.size w W)) (HC0 : Hid (∀ w', Only [] W w' → w'.heap[pb]? = some (.cells CC 49 (0, 0)) ∧ CC.size = 9)) (HC1 : Hid (∀ w', Only [] W w' → w'.cell? ⟨pb, 1, none⟩ = some (.int .i64 a2))) (HC2 : Hid (∀ w', Only [] W w' → w'.cell? ⟨pb, 2, none⟩ = some (.int .i64 a3))) (HX : Hid (decide ((1 : Int) ≤ a2 ∧ a2 ≤ 16) = true)) (HY : Hid (decide ((1 : Int) ≤ a3 ∧ a3 ≤ 1099511627776) = true)) (HK : Hid (∀ w', Only [] W w' → Calls Tryz.prog 83 #[.agg CC] w' fun e u => e = .returned (.bool false) ∧ Below w'.heap.size w' u)) :
    Calls Tryz.prog 37 #[.agg CC] w fun e w' => e = .returned (.bool false) ∧ Below w.heap.size w w' := by
  have HFIN : Hid (∀ w', Only [] W w' → Below w.heap.size w w') := fun w' ho => HB.out.trans (ho.below HB.out.size (by simp))
  go_enter Tryz.func37, Tryz.ntmps37
  go_wp2_with fail
  rw [HW.out, HPB.out]
  have RB : ∀ k w w', Below w.heap.size w w' → (fun (_ : Nat) (_ : World) => True) k w → (fun (_ : Nat) (_ : World) => True) k w' := fun _ _ _ _ _ => trivial
  refine wp_region_st (rgC pb a2 a3 CC) (fun u u' => Only [] u u') (SeqS [] (fun (_ : Nat) (_ : World) => True)) (by kernel_rfl) (only_drew _ _) (only_trans _) (rgC_kept pb a2 a3 CC) (by kernel_rfl) (SeqS.start (trivial)) ?_ ?_
  · intro i o a' w' f hi inv hS hfi hfw hpre
    have ho : Only [] W w' := inv.grow
    have hlt : i < 19 := (Array.getElem?_eq_some_iff.1 hi).1
    obtain rfl|rfl|rfl|rfl|rfl|rfl|rfl|rfl|rfl|rfl|rfl|rfl|rfl|rfl|rfl|rfl|rfl|rfl|rfl : i = 0 ∨ i = 1 ∨ i = 2 ∨ i = 3 ∨ i = 4 ∨ i = 5 ∨ i = 6 ∨ i = 7 ∨ i = 8 ∨ i = 9 ∨ i = 10 ∨ i = 11 ∨ i = 12 ∨ i = 13 ∨ i = 14 ∨ i = 15 ∨ i = 16 ∨ i = 17 ∨ i = 18 := by omega
    · obtain rfl := Option.some.inj hi
      have h0 : a'.tmps.getD 1 undef = (.pointer (some ⟨pb, 0, none⟩)) := by rw [inv.old 1 (notDst_spec (by kernel_rfl))]; rfl
      exact sq_value _ rfl rfl (fa_run 49 1 1 pb rfl h0 (fa25_1 pb)) (Below.refl _ _) (by decide) hS RB rfl
    · obtain rfl := Option.some.inj hi
      have h0 : a'.tmps.getD 3 undef = _ := pre_of hpre 0 3 (by kernel_rfl) (by kernel_rfl)
      exact sq_value _ rfl rfl (load_run 3 3 pb (1) _ rfl h0 (ld3 (HC1.out w' ho))) (Below.refl _ _) (by decide) hS RB rfl
    · obtain rfl := Option.some.inj hi
      have h0 : a'.tmps.getD 4 undef = _ := pre_of hpre 1 4 (by kernel_rfl) (by kernel_rfl)
      refine sq_quiet 82 #[a'.tmps.getD 4 undef, .int .i64 1, .int .i64 16] rfl rfl (by kernel_rfl) (by decide) hS ?_
      rw [h0]
      exact (within_any _ _ _ w').mono (by rintro e u ⟨rfl, rfl⟩; exact ⟨_, rfl, Only.refl _ _, (fun _ h => h), by rw [HX.out]; rfl⟩)
    · obtain rfl := Option.some.inj hi
      have h0 := pre_of hpre 2 5 (by kernel_rfl) (by kernel_rfl)
      exact sq_value _ rfl rfl (rfl) (Below.refl _ _) (by decide) hS RB h0
    · obtain rfl := Option.some.inj hi
      have hgu : a'.tmps.getD 6 undef = _ := pre_of hpre 3 6 (by kernel_rfl) (by kernel_rfl)
      have h0 : a'.tmps.getD 1 undef = (.pointer (some ⟨pb, 0, none⟩)) := by rw [inv.old 1 (notDst_spec (by kernel_rfl))]; rfl
      exact sq_value _ rfl (wanted_of 3 6 true rfl (by kernel_rfl) hgu) (fa_run 49 2 1 pb rfl h0 (fa25_2 pb)) (Below.refl _ _) (by decide) hS RB rfl
    · obtain rfl := Option.some.inj hi
      have hgu : a'.tmps.getD 6 undef = _ := pre_of hpre 3 6 (by kernel_rfl) (by kernel_rfl)
      have h0 : a'.tmps.getD 7 undef = _ := pre_of hpre 4 7 (by kernel_rfl) (by kernel_rfl)
      exact sq_value _ rfl (wanted_of 3 6 true rfl (by kernel_rfl) hgu) (load_run 3 7 pb (2) _ rfl h0 (ld3 (HC2.out w' ho))) (Below.refl _ _) (by decide) hS RB rfl
    · obtain rfl := Option.some.inj hi
      have hgu : a'.tmps.getD 6 undef = _ := pre_of hpre 3 6 (by kernel_rfl) (by kernel_rfl)
      have h0 : a'.tmps.getD 8 undef = _ := pre_of hpre 5 8 (by kernel_rfl) (by kernel_rfl)
      refine sq_quiet 82 #[a'.tmps.getD 8 undef, .int .i64 1, .int .i64 1099511627776] rfl (wanted_of 3 6 true rfl (by kernel_rfl) hgu) (by kernel_rfl) (by decide) hS ?_
      rw [h0]
      exact (within_any _ _ _ w').mono (by rintro e u ⟨rfl, rfl⟩; exact ⟨_, rfl, Only.refl _ _, (fun _ h => h), by rw [HY.out]; rfl⟩)
    · obtain rfl := Option.some.inj hi
      have h0 : a'.tmps.getD 6 undef = _ := pre_of hpre 3 6 (by kernel_rfl) (by kernel_rfl)
      have h1 : a'.tmps.getD 9 undef = _ := pre_of hpre 6 9 (by kernel_rfl) (by kernel_rfl)
      exact sq_value _ rfl rfl (pick_run 6 true _ _ _ _ rfl h0 h1 rfl) (Below.refl _ _) (by decide) hS RB rfl
    · obtain rfl := Option.some.inj hi
      have h0 := pre_of hpre 7 10 (by kernel_rfl) (by kernel_rfl)
      exact sq_value _ rfl rfl (rfl) (Below.refl _ _) (by decide) hS RB h0
    · obtain rfl := Option.some.inj hi
      have hgu : a'.tmps.getD 11 undef = _ := pre_of hpre 8 11 (by kernel_rfl) (by kernel_rfl)
      have h0 : a'.tmps.getD 1 undef = (.pointer (some ⟨pb, 0, none⟩)) := by rw [inv.old 1 (notDst_spec (by kernel_rfl))]; rfl
      exact sq_value _ rfl (wanted_of 8 11 true rfl (by kernel_rfl) hgu) (load_run 49 1 pb (0) _ rfl h0 (ld25 (HC0.out w' ho))) (Below.refl _ _) (by decide) hS RB rfl
    · obtain rfl := Option.some.inj hi
      have hgu : a'.tmps.getD 11 undef = _ := pre_of hpre 8 11 (by kernel_rfl) (by kernel_rfl)
      have h0 : a'.tmps.getD 12 undef = _ := pre_of hpre 9 12 (by kernel_rfl) (by kernel_rfl)
      refine sq_quiet 83 #[a'.tmps.getD 12 undef] rfl (wanted_of 8 11 true rfl (by kernel_rfl) hgu) (by kernel_rfl) (by decide) hS ?_
      rw [h0]
      exact (HK.out w' ho).mono (by rintro e u ⟨rfl, h⟩; exact ⟨_, rfl, Only.of_below h _, (fun _ h => h), rfl⟩)
    · obtain rfl := Option.some.inj hi
      have h0 : a'.tmps.getD 11 undef = _ := pre_of hpre 8 11 (by kernel_rfl) (by kernel_rfl)
      have h1 : a'.tmps.getD 13 undef = _ := pre_of hpre 10 13 (by kernel_rfl) (by kernel_rfl)
      exact sq_value _ rfl rfl (pick_run 11 true _ _ _ _ rfl h0 h1 rfl) (Below.refl _ _) (by decide) hS RB rfl
    · obtain rfl := Option.some.inj hi
      have h0 := pre_of hpre 11 14 (by kernel_rfl) (by kernel_rfl)
      exact sq_value _ rfl rfl (rfl) (Below.refl _ _) (by decide) hS RB h0
    · obtain rfl := Option.some.inj hi
      have hgu : a'.tmps.getD 15 undef = _ := pre_of hpre 12 15 (by kernel_rfl) (by kernel_rfl)
      exact sq_skip rfl (unwanted_of 12 15 false rfl (by kernel_rfl) hgu) (by decide) hS rfl
    · obtain rfl := Option.some.inj hi
      have hgu : a'.tmps.getD 15 undef = _ := pre_of hpre 12 15 (by kernel_rfl) (by kernel_rfl)
      exact sq_skip rfl (unwanted_of 12 15 false rfl (by kernel_rfl) hgu) (by decide) hS rfl
    · obtain rfl := Option.some.inj hi
      have hgu : a'.tmps.getD 15 undef = _ := pre_of hpre 12 15 (by kernel_rfl) (by kernel_rfl)
      exact sq_skip rfl (unwanted_of 12 15 false rfl (by kernel_rfl) hgu) (by decide) hS rfl
    · obtain rfl := Option.some.inj hi
      have hgu : a'.tmps.getD 15 undef = _ := pre_of hpre 12 15 (by kernel_rfl) (by kernel_rfl)
      exact sq_skip rfl (unwanted_of 12 15 false rfl (by kernel_rfl) hgu) (by decide) hS rfl
    · obtain rfl := Option.some.inj hi
      have h0 : a'.tmps.getD 15 undef = _ := pre_of hpre 12 15 (by kernel_rfl) (by kernel_rfl)
      exact sq_value _ rfl rfl (pick_run 15 false _ _ _ _ rfl h0 rfl rfl) (Below.refl _ _) (by decide) hS RB rfl
    · obtain rfl := Option.some.inj hi
      have h0 := pre_of hpre 17 20 (by kernel_rfl) (by kernel_rfl)
      exact sq_value _ rfl rfl (rfl) (Below.refl _ _) (by decide) hS RB h0
  · intro a' w3 f inv hS hall hd
    have hk18 := hd 18 2 (by kernel_rfl)
    have ho : Only [] W w3 := inv.grow
    have hdf : a'.defers = [] := inv.defers
    have hsz : a'.tmps.size = 21 := inv.size
    have e := frame13 hsz (fun t ht => inv.old t (dstsIn_spec (ts := [2, 3, 4, 5, 6, 7, 8, 9, 10, 11, 12, 13, 14, 15, 16, 17, 18, 19, 20]) (by kernel_rfl) t ht))
    have hR := hS.done (fun c hc => hall c (show c < 19 by simp at hc <;> omega))
    clear inv hd hsz hall hS
    obtain ⟨tmps, defers⟩ := a'
    obtain rfl : defers = [] := hdf
    replace e : tmps = _ := e
    replace hk18 : tmps.getD 2 undef = (.bool false) := hk18
    generalize tmps.getD 2 undef = x2 at *
    generalize tmps.getD 3 undef = x3 at *
    generalize tmps.getD 4 undef = x4 at *
    generalize tmps.getD 5 undef = x5 at *
    generalize tmps.getD 6 undef = x6 at *
    generalize tmps.getD 7 undef = x7 at *
    generalize tmps.getD 8 undef = x8 at *
    generalize tmps.getD 9 undef = x9 at *
    generalize tmps.getD 10 undef = x10 at *
    generalize tmps.getD 11 undef = x11 at *
    generalize tmps.getD 12 undef = x12 at *
    generalize tmps.getD 13 undef = x13 at *
    generalize tmps.getD 14 undef = x14 at *
    generalize tmps.getD 15 undef = x15 at *
    generalize tmps.getD 16 undef = x16 at *
    generalize tmps.getD 17 undef = x17 at *
    generalize tmps.getD 18 undef = x18 at *
    generalize tmps.getD 19 undef = x19 at *
    generalize tmps.getD 20 undef = x20 at *
    simp only [Array.getD_eq_getD_getElem?, List.getElem?_toArray, List.getElem?_cons_succ, List.getElem?_cons_zero, Option.getD_some] at e
    subst e
    subst hk18
    go_wp2_with fail
    go_ret
    exact ⟨rfl, HFIN.out _ ho⟩
set_option maxHeartbeats 4000000 in
theorem rt4 (w : World) (CC : Array Value) (a2 a3 : Int) (nd : En) (sm : Bool) (pb : Nat) (W : World) (HPB : Hid (w.heap.size = pb)) (HW : Hid (w.alloc (.cells CC 49) = W)) (HB : Hid (Below w.heap.size w W)) (HC0 : Hid (∀ w', Only [] W w' → w'.heap[pb]? = some (.cells CC 49 (0, 0)) ∧ CC.size = 9)) (HC1 : Hid (∀ w', Only [] W w' → w'.cell? ⟨pb, 1, none⟩ = some (.int .i64 a2))) (HC2 : Hid (∀ w', Only [] W w' → w'.cell? ⟨pb, 2, none⟩ = some (.int .i64 a3))) (HX : Hid (decide ((1 : Int) ≤ a2 ∧ a2 ≤ 16) = true)) (HY : Hid (decide ((1 : Int) ≤ a3 ∧ a3 ≤ 1099511627776) = true)) (HK : Hid (∀ w', Only [] W w' → Calls Tryz.prog 83 #[.agg CC] w' fun e u => e = .returned (.bool true) ∧ Below w'.heap.size w' u)) (HN : Hid (∀ w', Only [] W w' → Calls Tryz.prog 84 #[.agg CC] w' fun e u => ∃ v, e = .returned v ∧ EnIs u v nd ∧ Below w'.heap.size w' u)) (HS : Hid (∀ w', Only [] W w' → ∀ v, EnIs w' v nd → Calls Tryz.prog 41 #[.agg CC, v] w' fun e u => e = .returned (.bool sm) ∧ Below w'.heap.size w' u)) :
    Calls Tryz.prog 37 #[.agg CC] w fun e w' => e = .returned (.bool sm) ∧ Below w.heap.size w w' := by
  have HFIN : Hid (∀ w', Only [] W w' → Below w.heap.size w w') := fun w' ho => HB.out.trans (ho.below HB.out.size (by simp))
  go_enter Tryz.func37, Tryz.ntmps37
  go_wp2_with fail
  rw [HW.out, HPB.out]
  have RB : ∀ k w w', Below w.heap.size w w' → (fun (_ : Nat) (_ : World) => True) k w → (fun (_ : Nat) (_ : World) => True) k w' := fun _ _ _ _ _ => trivial
  refine wp_region_st (rgD pb a2 a3 CC nd sm) (fun u u' => Only [] u u') (SeqS [] (fun (_ : Nat) (_ : World) => True)) (by kernel_rfl) (only_drew _ _) (only_trans _) (rgD_kept pb a2 a3 CC nd sm) (by kernel_rfl) (SeqS.start (trivial)) ?_ ?_
  · intro i o a' w' f hi inv hS hfi hfw hpre
    have ho : Only [] W w' := inv.grow
    have hlt : i < 19 := (Array.getElem?_eq_some_iff.1 hi).1
    obtain rfl|rfl|rfl|rfl|rfl|rfl|rfl|rfl|rfl|rfl|rfl|rfl|rfl|rfl|rfl|rfl|rfl|rfl|rfl : i = 0 ∨ i = 1 ∨ i = 2 ∨ i = 3 ∨ i = 4 ∨ i = 5 ∨ i = 6 ∨ i = 7 ∨ i = 8 ∨ i = 9 ∨ i = 10 ∨ i = 11 ∨ i = 12 ∨ i = 13 ∨ i = 14 ∨ i = 15 ∨ i = 16 ∨ i = 17 ∨ i = 18 := by omega
    · obtain rfl := Option.some.inj hi
      have h0 : a'.tmps.getD 1 undef = (.pointer (some ⟨pb, 0, none⟩)) := by rw [inv.old 1 (notDst_spec (by kernel_rfl))]; rfl
      exact sq_value _ rfl rfl (fa_run 49 1 1 pb rfl h0 (fa25_1 pb)) (Below.refl _ _) (by decide) hS RB rfl
    · obtain rfl := Option.some.inj hi
      have h0 : a'.tmps.getD 3 undef = _ := pre_of hpre 0 3 (by kernel_rfl) (by kernel_rfl)
      exact sq_value _ rfl rfl (load_run 3 3 pb (1) _ rfl h0 (ld3 (HC1.out w' ho))) (Below.refl _ _) (by decide) hS RB rfl
    · obtain rfl := Option.some.inj hi
      have h0 : a'.tmps.getD 4 undef = _ := pre_of hpre 1 4 (by kernel_rfl) (by kernel_rfl)
      refine sq_quiet 82 #[a'.tmps.getD 4 undef, .int .i64 1, .int .i64 16] rfl rfl (by kernel_rfl) (by decide) hS ?_
      rw [h0]
      exact (within_any _ _ _ w').mono (by rintro e u ⟨rfl, rfl⟩; exact ⟨_, rfl, Only.refl _ _, (fun _ h => h), by rw [HX.out]; rfl⟩)
    · obtain rfl := Option.some.inj hi
      have h0 := pre_of hpre 2 5 (by kernel_rfl) (by kernel_rfl)
      exact sq_value _ rfl rfl (rfl) (Below.refl _ _) (by decide) hS RB h0
    · obtain rfl := Option.some.inj hi
      have hgu : a'.tmps.getD 6 undef = _ := pre_of hpre 3 6 (by kernel_rfl) (by kernel_rfl)
      have h0 : a'.tmps.getD 1 undef = (.pointer (some ⟨pb, 0, none⟩)) := by rw [inv.old 1 (notDst_spec (by kernel_rfl))]; rfl
      exact sq_value _ rfl (wanted_of 3 6 true rfl (by kernel_rfl) hgu) (fa_run 49 2 1 pb rfl h0 (fa25_2 pb)) (Below.refl _ _) (by decide) hS RB rfl
    · obtain rfl := Option.some.inj hi
      have hgu : a'.tmps.getD 6 undef = _ := pre_of hpre 3 6 (by kernel_rfl) (by kernel_rfl)
      have h0 : a'.tmps.getD 7 undef = _ := pre_of hpre 4 7 (by kernel_rfl) (by kernel_rfl)
      exact sq_value _ rfl (wanted_of 3 6 true rfl (by kernel_rfl) hgu) (load_run 3 7 pb (2) _ rfl h0 (ld3 (HC2.out w' ho))) (Below.refl _ _) (by decide) hS RB rfl
    · obtain rfl := Option.some.inj hi
      have hgu : a'.tmps.getD 6 undef = _ := pre_of hpre 3 6 (by kernel_rfl) (by kernel_rfl)
      have h0 : a'.tmps.getD 8 undef = _ := pre_of hpre 5 8 (by kernel_rfl) (by kernel_rfl)
      refine sq_quiet 82 #[a'.tmps.getD 8 undef, .int .i64 1, .int .i64 1099511627776] rfl (wanted_of 3 6 true rfl (by kernel_rfl) hgu) (by kernel_rfl) (by decide) hS ?_
      rw [h0]
      exact (within_any _ _ _ w').mono (by rintro e u ⟨rfl, rfl⟩; exact ⟨_, rfl, Only.refl _ _, (fun _ h => h), by rw [HY.out]; rfl⟩)
    · obtain rfl := Option.some.inj hi
      have h0 : a'.tmps.getD 6 undef = _ := pre_of hpre 3 6 (by kernel_rfl) (by kernel_rfl)
      have h1 : a'.tmps.getD 9 undef = _ := pre_of hpre 6 9 (by kernel_rfl) (by kernel_rfl)
      exact sq_value _ rfl rfl (pick_run 6 true _ _ _ _ rfl h0 h1 rfl) (Below.refl _ _) (by decide) hS RB rfl
    · obtain rfl := Option.some.inj hi
      have h0 := pre_of hpre 7 10 (by kernel_rfl) (by kernel_rfl)
      exact sq_value _ rfl rfl (rfl) (Below.refl _ _) (by decide) hS RB h0
    · obtain rfl := Option.some.inj hi
      have hgu : a'.tmps.getD 11 undef = _ := pre_of hpre 8 11 (by kernel_rfl) (by kernel_rfl)
      have h0 : a'.tmps.getD 1 undef = (.pointer (some ⟨pb, 0, none⟩)) := by rw [inv.old 1 (notDst_spec (by kernel_rfl))]; rfl
      exact sq_value _ rfl (wanted_of 8 11 true rfl (by kernel_rfl) hgu) (load_run 49 1 pb (0) _ rfl h0 (ld25 (HC0.out w' ho))) (Below.refl _ _) (by decide) hS RB rfl
    · obtain rfl := Option.some.inj hi
      have hgu : a'.tmps.getD 11 undef = _ := pre_of hpre 8 11 (by kernel_rfl) (by kernel_rfl)
      have h0 : a'.tmps.getD 12 undef = _ := pre_of hpre 9 12 (by kernel_rfl) (by kernel_rfl)
      refine sq_quiet 83 #[a'.tmps.getD 12 undef] rfl (wanted_of 8 11 true rfl (by kernel_rfl) hgu) (by kernel_rfl) (by decide) hS ?_
      rw [h0]
      exact (HK.out w' ho).mono (by rintro e u ⟨rfl, h⟩; exact ⟨_, rfl, Only.of_below h _, (fun _ h => h), rfl⟩)
    · obtain rfl := Option.some.inj hi
      have h0 : a'.tmps.getD 11 undef = _ := pre_of hpre 8 11 (by kernel_rfl) (by kernel_rfl)
      have h1 : a'.tmps.getD 13 undef = _ := pre_of hpre 10 13 (by kernel_rfl) (by kernel_rfl)
      exact sq_value _ rfl rfl (pick_run 11 true _ _ _ _ rfl h0 h1 rfl) (Below.refl _ _) (by decide) hS RB rfl
    · obtain rfl := Option.some.inj hi
      have h0 := pre_of hpre 11 14 (by kernel_rfl) (by kernel_rfl)
      exact sq_value _ rfl rfl (rfl) (Below.refl _ _) (by decide) hS RB h0
    · obtain rfl := Option.some.inj hi
      have hgu : a'.tmps.getD 15 undef = _ := pre_of hpre 12 15 (by kernel_rfl) (by kernel_rfl)
      have h0 : a'.tmps.getD 1 undef = (.pointer (some ⟨pb, 0, none⟩)) := by rw [inv.old 1 (notDst_spec (by kernel_rfl))]; rfl
      exact sq_value _ rfl (wanted_of 12 15 true rfl (by kernel_rfl) hgu) (load_run 49 1 pb (0) _ rfl h0 (ld25 (HC0.out w' ho))) (Below.refl _ _) (by decide) hS RB rfl
    · obtain rfl := Option.some.inj hi
      have hgu : a'.tmps.getD 15 undef = _ := pre_of hpre 12 15 (by kernel_rfl) (by kernel_rfl)
      have h0 : a'.tmps.getD 1 undef = (.pointer (some ⟨pb, 0, none⟩)) := by rw [inv.old 1 (notDst_spec (by kernel_rfl))]; rfl
      exact sq_value _ rfl (wanted_of 12 15 true rfl (by kernel_rfl) hgu) (load_run 49 1 pb (0) _ rfl h0 (ld25 (HC0.out w' ho))) (Below.refl _ _) (by decide) hS RB rfl
    · obtain rfl := Option.some.inj hi
      have hgu : a'.tmps.getD 15 undef = _ := pre_of hpre 12 15 (by kernel_rfl) (by kernel_rfl)
      have h0 : a'.tmps.getD 17 undef = _ := pre_of hpre 14 17 (by kernel_rfl) (by kernel_rfl)
      refine sq_quiet 84 #[a'.tmps.getD 17 undef] rfl (wanted_of 12 15 true rfl (by kernel_rfl) hgu) (by kernel_rfl) (by decide) hS ?_
      rw [h0]
      exact (HN.out w' ho).mono (by rintro e u ⟨v, rfl, h1, h2⟩; exact ⟨_, rfl, Only.of_below h2 _, (fun _ h => h), h1⟩)
    · obtain rfl := Option.some.inj hi
      have hgu : a'.tmps.getD 15 undef = _ := pre_of hpre 12 15 (by kernel_rfl) (by kernel_rfl)
      have h0 : a'.tmps.getD 16 undef = _ := pre_of hpre 13 16 (by kernel_rfl) (by kernel_rfl)
      have h1 := pre_of hpre 15 18 (by kernel_rfl) (by kernel_rfl)
      refine sq_quiet 41 #[a'.tmps.getD 16 undef, a'.tmps.getD 18 undef] rfl (wanted_of 12 15 true rfl (by kernel_rfl) hgu) (by kernel_rfl) (by decide) hS ?_
      rw [h0]
      exact (HS.out w' ho _ h1).mono (by rintro e u ⟨rfl, h2⟩; exact ⟨_, rfl, Only.of_below h2 _, (fun _ h => h), rfl⟩)
    · obtain rfl := Option.some.inj hi
      have h0 : a'.tmps.getD 15 undef = _ := pre_of hpre 12 15 (by kernel_rfl) (by kernel_rfl)
      have h1 : a'.tmps.getD 19 undef = _ := pre_of hpre 16 19 (by kernel_rfl) (by kernel_rfl)
      exact sq_value _ rfl rfl (pick_run 15 true _ _ _ _ rfl h0 h1 rfl) (Below.refl _ _) (by decide) hS RB rfl
    · obtain rfl := Option.some.inj hi
      have h0 := pre_of hpre 17 20 (by kernel_rfl) (by kernel_rfl)
      exact sq_value _ rfl rfl (rfl) (Below.refl _ _) (by decide) hS RB h0
  · intro a' w3 f inv hS hall hd
    have hk18 := hd 18 2 (by kernel_rfl)
    have ho : Only [] W w3 := inv.grow
    have hdf : a'.defers = [] := inv.defers
    have hsz : a'.tmps.size = 21 := inv.size
    have e := frame13 hsz (fun t ht => inv.old t (dstsIn_spec (ts := [2, 3, 4, 5, 6, 7, 8, 9, 10, 11, 12, 13, 14, 15, 16, 17, 18, 19, 20]) (by kernel_rfl) t ht))
    have hR := hS.done (fun c hc => hall c (show c < 19 by simp at hc <;> omega))
    clear inv hd hsz hall hS
    obtain ⟨tmps, defers⟩ := a'
    obtain rfl : defers = [] := hdf
    replace e : tmps = _ := e
    replace hk18 : tmps.getD 2 undef = (.bool sm) := hk18
    generalize tmps.getD 2 undef = x2 at *
    generalize tmps.getD 3 undef = x3 at *
    generalize tmps.getD 4 undef = x4 at *
    generalize tmps.getD 5 undef = x5 at *
    generalize tmps.getD 6 undef = x6 at *
    generalize tmps.getD 7 undef = x7 at *
    generalize tmps.getD 8 undef = x8 at *
    generalize tmps.getD 9 undef = x9 at *
    generalize tmps.getD 10 undef = x10 at *
    generalize tmps.getD 11 undef = x11 at *
    generalize tmps.getD 12 undef = x12 at *
    generalize tmps.getD 13 undef = x13 at *
    generalize tmps.getD 14 undef = x14 at *
    generalize tmps.getD 15 undef = x15 at *
    generalize tmps.getD 16 undef = x16 at *
    generalize tmps.getD 17 undef = x17 at *
    generalize tmps.getD 18 undef = x18 at *
    generalize tmps.getD 19 undef = x19 at *
    generalize tmps.getD 20 undef = x20 at *
    simp only [Array.getD_eq_getD_getElem?, List.getElem?_toArray, List.getElem?_cons_succ, List.getElem?_cons_zero, Option.getD_some] at e
    subst e
    subst hk18
    go_wp2_with fail
    go_ret
    exact ⟨rfl, HFIN.out _ ho⟩
theorem Right_any (a : En) (va : Value) (w : World) (ha : EnIs w va a) :
    Calls Tryz.prog 37 #[va] w fun e w' => e = .returned (.bool (right a)) ∧ Below w.heap.size w w' := by
  have hA := ha
  obtain ⟨np, nc, vp, vc, q, c, rfl, -⟩ := ha
  have e0 : EnV a np nc vp vc q c = enC a.kind a.writer a.seq np a.name.length nc vp a.value.length vc a.who a.rights a.epoch q a.wraps.length c := rfl
  rw [e0] at hA ⊢
  have hsz : (enC a.kind a.writer a.seq np a.name.length nc vp a.value.length vc a.who a.rights a.epoch q a.wraps.length c).size = 9 := rfl
  have g1 : (enC a.kind a.writer a.seq np a.name.length nc vp a.value.length vc a.who a.rights a.epoch q a.wraps.length c)[1]? = some (.int .i64 a.writer) := rfl
  have g2 : (enC a.kind a.writer a.seq np a.name.length nc vp a.value.length vc a.who a.rights a.epoch q a.wraps.length c)[2]? = some (.int .i64 a.seq) := rfl
  generalize enC a.kind a.writer a.seq np a.name.length nc vp a.value.length vc a.who a.rights a.epoch q a.wraps.length c = CC at *
  clear e0
  have hb : Below w.heap.size w (w.alloc (.cells CC 49)) := bel_alloc (Nat.le_refl _) _
  have hn := heap_alloc_new w (.cells CC 49)
  have hW : ∀ w', Only [] (w.alloc (.cells CC 49)) w' → w'.heap[w.heap.size]? = some (.cells CC 49 (0, 0)) := fun w' ho => (ho.block _ (by simp) (by simp)).trans hn
  have hB : ∀ w', Only [] (w.alloc (.cells CC 49)) w' → Below w.heap.size w w' := fun w' ho => hb.trans (ho.below hb.size (by simp))
  have c1 : ∀ w', Only [] (w.alloc (.cells CC 49)) w' → w'.cell? ⟨w.heap.size, 1, none⟩ = some (.int .i64 a.writer) := fun w' ho => by rw [cell_of_row _ _ _ _ _ _ (hW w' ho)]; exact g1
  have c2 : ∀ w', Only [] (w.alloc (.cells CC 49)) w' → w'.cell? ⟨w.heap.size, 2, none⟩ = some (.int .i64 a.seq) := fun w' ho => by rw [cell_of_row _ _ _ _ _ _ (hW w' ho)]; exact g2
  unfold right
  cases hx : decide ((1 : Int) ≤ a.writer ∧ a.writer ≤ 16) with
  | false => exact rt1 w CC _ _ _ rfl rfl hb c1 hx
  | true =>
    cases hy : decide ((1 : Int) ≤ a.seq ∧ a.seq ≤ 1099511627776) with
    | false => exact rt2 w CC _ _ _ _ rfl rfl hb c1 c2 hx hy
    | true =>
      have hk : ∀ w', Only [] (w.alloc (.cells CC 49)) w' → Calls Tryz.prog 83 #[.agg CC] w' fun e u => e = .returned (.bool (byKind a)) ∧ Below w'.heap.size w' u := fun w' ho => byKind_any a _ w' (hA.below (hB w' ho))
      cases hz : byKind a with
      | false =>
        rw [hz] at hk
        exact rt3 w CC _ _ _ _ rfl rfl hb (fun w' ho => ⟨hW w' ho, hsz⟩) c1 c2 hx hy hk
      | true =>
        rw [hz] at hk
        exact rt4 w CC _ _ (named a) (same a (named a)) _ _ rfl rfl hb (fun w' ho => ⟨hW w' ho, hsz⟩) c1 c2 hx hy hk (fun w' ho => named_any a _ w' (hA.below (hB w' ho))) (fun w' ho v hv => Same_any a (named a) _ v w' (hA.below (hB w' ho)) hv)
end Go.Proofs.YtfjdaafckiefdaaGreatDoor.E9
