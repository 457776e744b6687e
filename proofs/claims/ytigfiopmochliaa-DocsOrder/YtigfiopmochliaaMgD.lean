/- The plain mathematics of entries: when one is right, its bytes, and how bytes are read as one. -/
import Derived.Test.YtigfiopmochliaaMgA
import Derived.Test.YtigfiopmochliaaMgB
namespace Go.Proofs.Ytigfiopmochliaa.E9
open Go.RowKit C8
/-- An entry; its wraps are pairs of a member and a box. -/
structure En where
  kind : Int
  writer : Int
  seq : Int
  name : List Nat
  value : List Nat
  who : Int
  rights : Int
  epoch : Int
  wraps : List (Int × List Nat)
/-- Two are the same. -/
def same (a b : En) : Bool := decide (a.kind = b.kind ∧ a.writer = b.writer ∧ a.seq = b.seq ∧ a.name = b.name ∧ a.value = b.value ∧ a.who = b.who ∧ a.rights = b.rights ∧ a.epoch = b.epoch ∧ a.wraps = b.wraps)
theorem same_iff (a b : En) : same a b = true ↔ a = b := by
  obtain ⟨a1, a2, a3, a4, a5, a6, a7, a8, a9⟩ := a
  obtain ⟨b1, b2, b3, b4, b5, b6, b7, b8, b9⟩ := b
  simp [same]
def wok : Int → List (Int × List Nat) → Bool
  | _, [] => true
  | last, x :: r => decide (last + 1 ≤ x.1 ∧ x.1 ≤ 16) && decide (x.2.length = 48) && wok x.1 r
/-- What is named of its kind is within its bounds. -/
def byKind (e : En) : Bool :=
  if e.kind = 1 then decide (1 ≤ e.name.length ∧ e.name.length ≤ 64) && decide (e.value.length ≤ 512)
  else if e.kind = 2 then decide (1 ≤ e.name.length ∧ e.name.length ≤ 64)
  else if e.kind = 3 then decide (1 ≤ e.who ∧ e.who ≤ 16) && decide (1 ≤ e.rights ∧ e.rights ≤ 7)
  else if e.kind = 4 then decide (1 ≤ e.who ∧ e.who ≤ 16)
  else if e.kind = 5 then decide (1 ≤ e.epoch ∧ e.epoch ≤ 16) && wok 0 e.wraps
  else false
/-- Nothing but what is named of its kind. -/
def named (e : En) : En :=
  if e.kind = 1 then ⟨e.kind, e.writer, e.seq, e.name, e.value, 0, 0, 0, []⟩
  else if e.kind = 2 then ⟨e.kind, e.writer, e.seq, e.name, [], 0, 0, 0, []⟩
  else if e.kind = 3 then ⟨e.kind, e.writer, e.seq, [], [], e.who, e.rights, 0, []⟩
  else if e.kind = 4 then ⟨e.kind, e.writer, e.seq, [], [], e.who, 0, 0, []⟩
  else if e.kind = 5 then ⟨e.kind, e.writer, e.seq, [], [], 0, 0, e.epoch, e.wraps⟩
  else ⟨e.kind, e.writer, e.seq, [], [], 0, 0, 0, []⟩
def right (e : En) : Bool := decide (1 ≤ e.writer ∧ e.writer ≤ 16) && decide (1 ≤ e.seq ∧ e.seq ≤ 1099511627776) && byKind e && same e (named e)
/-- The ways to be right, one a kind. -/
theorem right_iff (e : En) : right e = true ↔ (1 ≤ e.writer ∧ e.writer ≤ 16) ∧ (1 ≤ e.seq ∧ e.seq ≤ 1099511627776) ∧
    ((e.kind = 1 ∧ (1 ≤ e.name.length ∧ e.name.length ≤ 64) ∧ e.value.length ≤ 512 ∧ e.who = 0 ∧ e.rights = 0 ∧ e.epoch = 0 ∧ e.wraps = []) ∨
     (e.kind = 2 ∧ (1 ≤ e.name.length ∧ e.name.length ≤ 64) ∧ e.value = [] ∧ e.who = 0 ∧ e.rights = 0 ∧ e.epoch = 0 ∧ e.wraps = []) ∨
     (e.kind = 3 ∧ e.name = [] ∧ e.value = [] ∧ (1 ≤ e.who ∧ e.who ≤ 16) ∧ (1 ≤ e.rights ∧ e.rights ≤ 7) ∧ e.epoch = 0 ∧ e.wraps = []) ∨
     (e.kind = 4 ∧ e.name = [] ∧ e.value = [] ∧ (1 ≤ e.who ∧ e.who ≤ 16) ∧ e.rights = 0 ∧ e.epoch = 0 ∧ e.wraps = []) ∨
     (e.kind = 5 ∧ e.name = [] ∧ e.value = [] ∧ e.who = 0 ∧ e.rights = 0 ∧ (1 ≤ e.epoch ∧ e.epoch ≤ 16) ∧ wok 0 e.wraps = true)) := by
  obtain ⟨a1, a2, a3, a4, a5, a6, a7, a8, a9⟩ := e
  unfold right byKind named
  by_cases h1 : a1 = 1
  · subst h1; simp [same, and_assoc]
  by_cases h2 : a1 = 2
  · subst h2; simp [same, and_assoc]
  by_cases h3 : a1 = 3
  · subst h3
    simp [same, and_assoc]
    intro _ _ _ _
    constructor <;> (intro h; simp_all)
  by_cases h4 : a1 = 4
  · subst h4
    simp [same, and_assoc]
    intro _ _ _ _
    constructor <;> (intro h; simp_all)
  by_cases h5 : a1 = 5
  · subst h5
    simp [same, and_assoc]
    intro _ _ _ _
    constructor <;> (intro h; simp_all)
  simp [h1, h2, h3, h4, h5]
theorem wok_length : ∀ (ws : List (Int × List Nat)) (last : Int), wok last ws = true → ws ≠ [] → last + ws.length ≤ 16
  | [], _, _, h => absurd rfl h
  | x :: r, last, h, _ => by
    simp only [wok, Bool.and_eq_true, decide_eq_true_eq] at h
    obtain ⟨⟨⟨h1, h2⟩, _⟩, h4⟩ := h
    by_cases hr : r = []
    · subst hr; simp; omega
    · have := wok_length r x.1 h4 hr
      simp only [List.length_cons]
      omega
theorem wok_le {ws : List (Int × List Nat)} (h : wok 0 ws = true) : ws.length ≤ 16 := by
  by_cases h0 : ws = []
  · subst h0; simp
  · have := wok_length ws 0 h h0
    omega
theorem wok_each : ∀ (ws : List (Int × List Nat)) (last : Int), 0 ≤ last → wok last ws = true → ∀ x ∈ ws, 1 ≤ x.1 ∧ x.1 ≤ 16 ∧ x.2.length = 48
  | [], _, _, _, x, hx => by cases hx
  | y :: r, last, h0, h, x, hx => by
    simp only [wok, Bool.and_eq_true, decide_eq_true_eq] at h
    obtain ⟨⟨⟨h1, h2⟩, h3⟩, h4⟩ := h
    rcases List.mem_cons.1 hx with rfl | hx
    · exact ⟨by omega, h2, h3⟩
    · exact wok_each r y.1 (by omega) h4 x hx
/-- Its bytes' parts. -/
def num (n : Int) : Pt := ⟨false, n, []⟩
def txt (l : List Nat) : Pt := ⟨true, 0, l⟩
def wpts : List (Int × List Nat) → List Pt
  | [] => []
  | x :: r => num x.1 :: txt x.2 :: wpts r
theorem wpts_append (a b : List (Int × List Nat)) : wpts (a ++ b) = wpts a ++ wpts b := by
  induction a with
  | nil => rfl
  | cons x r ih => simp [wpts, ih]
theorem wpts_length : ∀ ws : List (Int × List Nat), (wpts ws).length = 2 * ws.length
  | [] => rfl
  | _ :: r => by simp only [wpts, List.length_cons, wpts_length r]; omega
def tailP (e : En) : List Pt :=
  if e.kind = 1 then [txt e.name, txt e.value]
  else if e.kind = 2 then [txt e.name]
  else if e.kind = 3 then [num e.who, num e.rights]
  else if e.kind = 4 then [num e.who]
  else num e.epoch :: num (e.wraps.length : Int) :: wpts e.wraps
def pts (e : En) : List Pt := num e.kind :: num e.writer :: num e.seq :: tailP e
/-- An entry's bytes. -/
def bytes (e : En) : List Nat := Cd.enc (pts e)
theorem wrong_num {n : Int} (h0 : 0 ≤ n) (h1 : n ≤ 1099511627776) : Cd.wrong (num n) = 0 := by
  unfold Cd.wrong num
  rw [if_neg (by simp), if_neg (by simp only; omega)]
theorem wrong_txt {l : List Nat} (h : l.length ≤ 4096) : Cd.wrong (txt l) = 0 := by
  unfold Cd.wrong txt
  rw [if_pos rfl, if_neg (by simp only; omega)]
theorem err_cons {p : Pt} {r : List Pt} (h : Cd.wrong p = 0) (h2 : Cd.err r = 0) : Cd.err (p :: r) = 0 := by rw [Cd.err, if_pos h, h2]
theorem err_wpts : ∀ ws : List (Int × List Nat), (∀ x ∈ ws, 1 ≤ x.1 ∧ x.1 ≤ 16 ∧ x.2.length = 48) → Cd.err (wpts ws) = 0
  | [], _ => rfl
  | x :: r, h => by
    have h1 := h x (by simp)
    exact err_cons (wrong_num (by omega) (by omega)) (err_cons (wrong_txt (by omega)) (err_wpts r (fun y hy => h y (by simp [hy]))))
/-- A right entry's parts are right. -/
theorem right_err {e : En} (h : right e = true) : Cd.err (pts e) = 0 := by
  obtain ⟨hw, hs, h⟩ := (right_iff e).1 h
  unfold pts tailP
  rcases h with ⟨k, h1, h2, _⟩ | ⟨k, h1, _⟩ | ⟨k, _, _, h1, h2, _⟩ | ⟨k, _, _, h1, _⟩ | ⟨k, _, _, _, _, h1, h2⟩
  all_goals
    rw [k]
    refine err_cons (wrong_num (by decide) (by decide)) (err_cons (wrong_num (by omega) (by omega)) (err_cons (wrong_num (by omega) (by omega)) ?_))
  · exact err_cons (wrong_txt (by omega)) (err_cons (wrong_txt (by omega)) rfl)
  · exact err_cons (wrong_txt (by omega)) rfl
  · exact err_cons (wrong_num (by omega) (by omega)) (err_cons (wrong_num (by omega) (by omega)) rfl)
  · exact err_cons (wrong_num (by omega) (by omega)) rfl
  · have := wok_le h2
    exact err_cons (wrong_num (by omega) (by omega)) (err_cons (wrong_num (by omega) (by omega)) (err_wpts _ (wok_each _ 0 (by omega) h2)))
theorem pts_length {e : En} (h : right e = true) : (pts e).length ≤ 37 := by
  obtain ⟨hw, hs, h⟩ := (right_iff e).1 h
  unfold pts tailP
  rcases h with ⟨k, h1, h2, _⟩ | ⟨k, h1, _⟩ | ⟨k, _, _, h1, h2, _⟩ | ⟨k, _, _, h1, _⟩ | ⟨k, _, _, _, _, h1, h2⟩
  all_goals rw [k]
  · simp
  · simp
  · simp
  · simp
  · have := wok_le h2
    simp [wpts_length]
    omega
theorem one_num (n : Int) : Cd.one (num n) = Cd.be 6 n.toNat := by unfold Cd.one num; rw [if_neg (by simp)]
theorem one_txt (l : List Nat) : Cd.one (txt l) = Cd.be 2 l.length ++ l := by unfold Cd.one txt; rw [if_pos rfl]
theorem enc_wpts_length : ∀ ws : List (Int × List Nat), (∀ x ∈ ws, 1 ≤ x.1 ∧ x.1 ≤ 16 ∧ x.2.length = 48) → (Cd.enc (wpts ws)).length = 56 * ws.length
  | [], _ => rfl
  | x :: r, h => by
    have h1 := h x (by simp)
    have h2 := enc_wpts_length r (fun y hy => h y (by simp [hy]))
    simp only [wpts, Cd.enc, one_num, one_txt, List.length_append, Cd.be_length, List.length_cons, h2]
    omega
theorem bytes_length {e : En} (h : right e = true) : (bytes e).length ≤ 1000 ∧ 18 ≤ (bytes e).length := by
  obtain ⟨hw, hs, h⟩ := (right_iff e).1 h
  unfold bytes pts tailP
  rcases h with ⟨k, h1, h2, _⟩ | ⟨k, h1, _⟩ | ⟨k, _, _, h1, h2, _⟩ | ⟨k, _, _, h1, _⟩ | ⟨k, _, _, _, _, h1, h2⟩
  all_goals rw [k]; simp only [Cd.enc, one_num, one_txt, List.length_append, Cd.be_length, if_true, if_false, List.length_nil, show ¬ (2 : Int) = 1 from by decide, show ¬ (3 : Int) = 1 from by decide, show ¬ (3 : Int) = 2 from by decide, show ¬ (4 : Int) = 1 from by decide, show ¬ (4 : Int) = 2 from by decide, show ¬ (4 : Int) = 3 from by decide, show ¬ (5 : Int) = 1 from by decide, show ¬ (5 : Int) = 2 from by decide, show ¬ (5 : Int) = 3 from by decide, show ¬ (5 : Int) = 4 from by decide]
  · omega
  · omega
  · omega
  · omega
  · have := wok_le h2
    rw [enc_wpts_length _ (wok_each _ 0 (by omega) h2)]
    omega
/-- All of an entry's bytes are bytes. -/
def Small (e : En) : Prop := (∀ x ∈ e.name, x < 256) ∧ (∀ x ∈ e.value, x < 256) ∧ ∀ y ∈ e.wraps, ∀ x ∈ y.2, x < 256
theorem wpts_small : ∀ ws : List (Int × List Nat), (∀ y ∈ ws, ∀ x ∈ y.2, x < 256) → ∀ p ∈ wpts ws, ∀ x ∈ p.text, x < 256
  | [], _, p, hp => by cases hp
  | y :: r, h, p, hp => by
    simp only [wpts, List.mem_cons] at hp
    rcases hp with rfl | rfl | hp
    · intro x hx; cases hx
    · exact h y (by simp)
    · exact wpts_small r (fun z hz => h z (by simp [hz])) p hp
theorem bytes_small {e : En} (h : Small e) : ∀ x ∈ bytes e, x < 256 := by
  refine Cd.enc_lt fun p hp => ?_
  unfold pts at hp
  simp only [List.mem_cons] at hp
  rcases hp with rfl | rfl | rfl | hp
  · intro x hx; cases hx
  · intro x hx; cases hx
  · intro x hx; cases hx
  · unfold tailP at hp
    split at hp
    · simp only [List.mem_cons, List.not_mem_nil, or_false] at hp
      rcases hp with rfl | rfl
      · exact h.1
      · exact h.2.1
    · split at hp
      · simp only [List.mem_cons, List.not_mem_nil, or_false] at hp
        subst hp
        exact h.1
      · split at hp
        · simp only [List.mem_cons, List.not_mem_nil, or_false] at hp
          rcases hp with rfl | rfl <;> (intro x hx; cases hx)
        · split at hp
          · simp only [List.mem_cons, List.not_mem_nil, or_false] at hp
            subst hp
            intro x hx; cases hx
          · simp only [List.mem_cons] at hp
            rcases hp with rfl | rfl | hp
            · intro x hx; cases hx
            · intro x hx; cases hx
            · exact wpts_small _ h.2.2 p hp
end Go.Proofs.Ytigfiopmochliaa.E9
/- How bytes are read as an entry: by plain functions, with tight and with loose bounds; both find just the right entry whose bytes they are. -/
namespace Go.Proofs.Ytigfiopmochliaa.E9
open Go.RowKit C8
/-- What is left of the bytes, and whether they are bad. -/
abbrev Sta := List Nat × Bool
def rN (lo hi : Int) (s : Sta) : Int × Sta :=
  if s.1.length < 6 ∨ (Cd.val (s.1.take 6) : Int) < lo ∨ hi < (Cd.val (s.1.take 6) : Int) then (0, ([], true)) else ((Cd.val (s.1.take 6) : Int), (s.1.drop 6, s.2))
def rT (lo hi : Int) (s : Sta) : List Nat × Sta :=
  if s.1.length < 2 ∨ s.1.length < 2 + Cd.val (s.1.take 2) ∨ (Cd.val (s.1.take 2) : Int) < lo ∨ hi < (Cd.val (s.1.take 2) : Int) then ([], ([], true)) else ((s.1.drop 2).take (Cd.val (s.1.take 2)), (s.1.drop (2 + Cd.val (s.1.take 2)), s.2))
def rW (lo hi : Int) : Nat → Sta → List (Int × List Nat) × Sta
  | 0, s => ([], s)
  | n + 1, s => ((rW lo hi n s).1 ++ [((rN 1 16 (rW lo hi n s).2).1, (rT lo hi (rN 1 16 (rW lo hi n s).2).2).1)], (rT lo hi (rN 1 16 (rW lo hi n s).2).2).2)
def hiK (t : Bool) : Int := if t then 5 else 1099511627776
def lo1 (t : Bool) : Int := if t then 1 else 0
def hiT (t : Bool) : Int := if t then 64 else 4096
def hiV (t : Bool) : Int := if t then 512 else 4096
def hiR (t : Bool) : Int := if t then 7 else 1099511627776
def hiE (t : Bool) : Int := if t then 16 else 1099511627776
def loB (t : Bool) : Int := if t then 48 else 0
def hiB (t : Bool) : Int := if t then 48 else 4096
/-- The kind, the writer and the number, and what is left. -/
def hd (t : Bool) (s : Sta) : (Int × Int × Int) × Sta :=
  (((rN (lo1 t) (hiK t) s).1, (rN 1 16 (rN (lo1 t) (hiK t) s).2).1, (rN (lo1 t) 1099511627776 (rN 1 16 (rN (lo1 t) (hiK t) s).2).2).1), (rN (lo1 t) 1099511627776 (rN 1 16 (rN (lo1 t) (hiK t) s).2).2).2)
/-- What stands behind them. -/
def tl (t : Bool) (k a b : Int) (s : Sta) : En × Sta :=
  if k = 1 then (⟨k, a, b, (rT (lo1 t) (hiT t) s).1, (rT 0 (hiV t) (rT (lo1 t) (hiT t) s).2).1, 0, 0, 0, []⟩, (rT 0 (hiV t) (rT (lo1 t) (hiT t) s).2).2)
  else if k = 2 then (⟨k, a, b, (rT (lo1 t) (hiT t) s).1, [], 0, 0, 0, []⟩, (rT (lo1 t) (hiT t) s).2)
  else if k = 3 then (⟨k, a, b, [], [], (rN 1 16 s).1, (rN (lo1 t) (hiR t) (rN 1 16 s).2).1, 0, []⟩, (rN (lo1 t) (hiR t) (rN 1 16 s).2).2)
  else if k = 4 then (⟨k, a, b, [], [], (rN 1 16 s).1, 0, 0, []⟩, (rN 1 16 s).2)
  else if k = 5 then (⟨k, a, b, [], [], 0, 0, (rN (lo1 t) (hiE t) s).1, (rW (loB t) (hiB t) (rN 0 16 (rN (lo1 t) (hiE t) s).2).1.toNat (rN 0 16 (rN (lo1 t) (hiE t) s).2).2).1⟩, (rW (loB t) (hiB t) (rN 0 16 (rN (lo1 t) (hiE t) s).2).1.toNat (rN 0 16 (rN (lo1 t) (hiE t) s).2).2).2)
  else (⟨k, a, b, [], [], 0, 0, 0, []⟩, s)
def decE (t : Bool) (s : Sta) : En × Sta := tl t (hd t s).1.1 (hd t s).1.2.1 (hd t s).1.2.2 (hd t s).2
/-- The entry whose bytes they are, if there is one. -/
def dec (t : Bool) (l : List Nat) : Option En := if (decE t (l, false)).2.2 = false ∧ (decE t (l, false)).2.1 = [] ∧ right (decE t (l, false)).1 = true then some (decE t (l, false)).1 else none
theorem be_of_val : ∀ (k : Nat) (l : List Nat), l.length = k → (∀ x ∈ l, x < 256) → Cd.be k (Cd.val l) = l
  | 0, l, h, _ => by rw [List.eq_nil_of_length_eq_zero h]; rfl
  | k + 1, l, h, hs => by
    have hne : l ≠ [] := by intro e; subst e; simp at h
    rw [← List.dropLast_concat_getLast hne]
    have hx := hs _ (List.getLast_mem hne)
    have hl : l.dropLast.length = k := by rw [List.length_dropLast]; omega
    rw [Cd.val_snoc, Cd.be]
    have e1 : (Cd.val l.dropLast * 256 + l.getLast hne) / 256 = Cd.val l.dropLast := by omega
    have e2 : (Cd.val l.dropLast * 256 + l.getLast hne) % 256 = l.getLast hne := by omega
    rw [e1, e2, be_of_val k _ hl (fun x hx => hs x ((List.dropLast_sublist l).subset hx))]
theorem take_be (k n : Nat) (r : List Nat) : (Cd.be k n ++ r).take k = Cd.be k n := by
  have := List.take_left (l₁ := Cd.be k n) (l₂ := r)
  rwa [Cd.be_length] at this
theorem drop_be (k n : Nat) (r : List Nat) : (Cd.be k n ++ r).drop k = r := by
  have := List.drop_left (l₁ := Cd.be k n) (l₂ := r)
  rwa [Cd.be_length] at this
/-- A number that was written is read. -/
theorem rN_of {lo hi : Int} {n : Int} {r : List Nat} (h0 : 0 ≤ n) (hm : n ≤ 1099511627776) (h1 : lo ≤ n) (h2 : n ≤ hi) : rN lo hi (Cd.one (num n) ++ r, false) = (n, (r, false)) := by
  have hv : Cd.val (Cd.be 6 n.toNat) = n.toNat := by rw [Cd.val_be, Nat.mod_eq_of_lt]; omega
  unfold rN
  simp only [one_num, take_be, drop_be, hv]
  rw [if_neg (by rw [List.length_append, Cd.be_length]; omega)]
  congr 1
  omega
theorem rT_of {lo hi : Int} {l r : List Nat} (hm : l.length ≤ 4096) (h1 : lo ≤ (l.length : Int)) (h2 : (l.length : Int) ≤ hi) : rT lo hi (Cd.one (txt l) ++ r, false) = (l, (r, false)) := by
  have hv : Cd.val (Cd.be 2 l.length) = l.length := by rw [Cd.val_be, Nat.mod_eq_of_lt]; omega
  unfold rT
  simp only [one_txt, List.append_assoc, take_be, drop_be, hv]
  rw [if_neg (by rw [List.length_append, List.length_append, Cd.be_length]; omega)]
  rw [List.take_left, ← List.drop_drop, drop_be, List.drop_left]
theorem rW_of {lo hi : Int} {r : List Nat} (h1 : lo ≤ 48) (h2 : 48 ≤ hi) (ws : List (Int × List Nat)) (hw : ∀ x ∈ ws, 1 ≤ x.1 ∧ x.1 ≤ 16 ∧ x.2.length = 48) : ∀ n, n ≤ ws.length → rW lo hi n (Cd.enc (wpts ws) ++ r, false) = (ws.take n, (Cd.enc (wpts (ws.drop n)) ++ r, false))
  | 0, _ => by simp [rW]
  | n + 1, hn => by
    have hx := hw ws[n] (List.getElem_mem (by omega))
    rw [rW, rW_of h1 h2 ws hw n (by omega)]
    simp only
    rw [List.drop_eq_getElem_cons (by omega : n < ws.length), wpts, Cd.enc, Cd.enc, List.append_assoc, List.append_assoc, rN_of (by omega) (by omega) (by omega) (by omega)]
    simp only
    rw [rT_of (by omega) (by omega) (by omega), List.take_succ_eq_append_getElem (by omega : n < ws.length)]
theorem lo1_le (t : Bool) : lo1 t ≤ 1 := by cases t <;> decide
/-- A right entry's bytes are read as it, whatever stands behind. -/
theorem decE_of (t : Bool) {e : En} (h : right e = true) (r : List Nat) : decE t (bytes e ++ r, false) = (e, (r, false)) := by
  obtain ⟨hw, hs, h⟩ := (right_iff e).1 h
  obtain ⟨a1, a2, a3, a4, a5, a6, a7, a8, a9⟩ := e
  simp only at hw hs h
  have l1 := lo1_le t
  have b1 : (5 : Int) ≤ hiK t := by cases t <;> decide
  have b2 : (64 : Int) ≤ hiT t := by cases t <;> decide
  have b3 : (512 : Int) ≤ hiV t := by cases t <;> decide
  have b4 : (7 : Int) ≤ hiR t := by cases t <;> decide
  have b5 : (16 : Int) ≤ hiE t := by cases t <;> decide
  have b6 : loB t ≤ 48 := by cases t <;> decide
  have b7 : (48 : Int) ≤ hiB t := by cases t <;> decide
  have hk : 1 ≤ a1 ∧ a1 ≤ 5 := by rcases h with ⟨k, _⟩ | ⟨k, _⟩ | ⟨k, _⟩ | ⟨k, _⟩ | ⟨k, _⟩ <;> omega
  unfold decE bytes pts
  simp only [Cd.enc, List.append_assoc]
  have hh : ∀ z, hd t (Cd.one (num a1) ++ (Cd.one (num a2) ++ (Cd.one (num a3) ++ z)), false) = ((a1, a2, a3), (z, false)) := by
    intro z
    unfold hd
    rw [rN_of (by omega) (by omega) (by omega) (by omega)]
    simp only
    rw [rN_of (by omega) (by omega) (by omega) (by omega)]
    simp only
    rw [rN_of (by omega) (by omega) (by omega) (by omega)]
  rw [hh]
  simp only
  unfold tl tailP
  simp only
  rcases h with ⟨rfl, h1, h2, rfl, rfl, rfl, rfl⟩ | ⟨rfl, h1, rfl, rfl, rfl, rfl, rfl⟩ | ⟨rfl, rfl, rfl, h1, h2, rfl, rfl⟩ | ⟨rfl, rfl, rfl, h1, rfl, rfl, rfl⟩ | ⟨rfl, rfl, rfl, rfl, rfl, h1, h2⟩
  · simp only [if_true, Cd.enc, List.append_assoc, List.nil_append]
    rw [rT_of (by omega) (by omega) (by omega)]
    simp only
    rw [rT_of (by omega) (by omega) (by omega)]
  · simp only [if_true, if_false, show ¬ (2 : Int) = 1 from by decide, Cd.enc, List.append_assoc, List.nil_append]
    rw [rT_of (by omega) (by omega) (by omega)]
  · simp only [if_true, if_false, show ¬ (3 : Int) = 1 from by decide, show ¬ (3 : Int) = 2 from by decide, Cd.enc, List.append_assoc, List.nil_append]
    rw [rN_of (by omega) (by omega) (by omega) (by omega)]
    simp only
    rw [rN_of (by omega) (by omega) (by omega) (by omega)]
  · simp only [if_true, if_false, show ¬ (4 : Int) = 1 from by decide, show ¬ (4 : Int) = 2 from by decide, show ¬ (4 : Int) = 3 from by decide, Cd.enc, List.append_assoc, List.nil_append]
    rw [rN_of (by omega) (by omega) (by omega) (by omega)]
  · have hl := wok_le h2
    simp only [if_true, if_false, show ¬ (5 : Int) = 1 from by decide, show ¬ (5 : Int) = 2 from by decide, show ¬ (5 : Int) = 3 from by decide, show ¬ (5 : Int) = 4 from by decide, Cd.enc, List.append_assoc]
    rw [rN_of (by omega) (by omega) (by omega) (by omega)]
    simp only
    rw [rN_of (by omega) (by omega) (by omega) (by omega)]
    simp only
    rw [show ((a9.length : Int)).toNat = a9.length from by omega, rW_of b6 b7 a9 (wok_each a9 0 (by omega) h2) a9.length (Nat.le_refl _)]
    simp [wpts, Cd.enc]
/-- What was read stood there. -/
theorem rN_then {lo hi : Int} {s : Sta} (hs : ∀ x ∈ s.1, x < 256) (h : (rN lo hi s).2.2 = false) : s.2 = false ∧ s.1 = Cd.one (num (rN lo hi s).1) ++ (rN lo hi s).2.1 ∧ (∀ x ∈ (rN lo hi s).2.1, x < 256) ∧ lo ≤ (rN lo hi s).1 ∧ (rN lo hi s).1 ≤ hi := by
  unfold rN at h ⊢
  split at h
  · cases h
  · rename_i hc
    rw [if_neg hc]
    refine ⟨h, ?_, fun x hx => hs x (List.mem_of_mem_drop hx), by simp only; omega, by simp only; omega⟩
    simp only [one_num, Int.toNat_natCast]
    rw [be_of_val 6 _ (by rw [List.length_take]; omega) (fun x hx => hs x (List.mem_of_mem_take hx)), List.take_append_drop]
theorem rT_then {lo hi : Int} {s : Sta} (hs : ∀ x ∈ s.1, x < 256) (h : (rT lo hi s).2.2 = false) : s.2 = false ∧ s.1 = Cd.one (txt (rT lo hi s).1) ++ (rT lo hi s).2.1 ∧ (∀ x ∈ (rT lo hi s).2.1, x < 256) := by
  unfold rT at h ⊢
  split at h
  · cases h
  · rename_i hc
    rw [if_neg hc]
    refine ⟨h, ?_, fun x hx => hs x (List.mem_of_mem_drop hx)⟩
    have hl : ((s.1.drop 2).take (Cd.val (s.1.take 2))).length = Cd.val (s.1.take 2) := by rw [List.length_take, List.length_drop]; omega
    simp only [one_txt, hl]
    rw [be_of_val 2 _ (by rw [List.length_take]; omega) (fun x hx => hs x (List.mem_of_mem_take hx)), List.append_assoc, ← List.drop_drop, List.take_append_drop, List.take_append_drop]
theorem rN_bad {lo hi : Int} {s : Sta} (h : (rN lo hi s).2.2 = false) : s.2 = false := by
  unfold rN at h
  split at h
  · cases h
  · exact h
theorem rT_bad {lo hi : Int} {s : Sta} (h : (rT lo hi s).2.2 = false) : s.2 = false := by
  unfold rT at h
  split at h
  · cases h
  · exact h
theorem rW_then {lo hi : Int} {s : Sta} (hs : ∀ x ∈ s.1, x < 256) : ∀ n, (rW lo hi n s).2.2 = false → s.2 = false ∧ s.1 = Cd.enc (wpts (rW lo hi n s).1) ++ (rW lo hi n s).2.1 ∧ (∀ x ∈ (rW lo hi n s).2.1, x < 256) ∧ (rW lo hi n s).1.length = n
  | 0, h => ⟨h, by simp [rW, wpts, Cd.enc], hs, rfl⟩
  | n + 1, h => by
    rw [rW] at h ⊢
    simp only at h
    have hn := rT_bad h
    obtain ⟨h1, h2, h3, h4⟩ := rW_then hs n (rN_bad hn)
    generalize rW lo hi n s = p at *
    obtain ⟨_, g1, g2, _⟩ := rN_then h3 hn
    obtain ⟨_, g3, g4⟩ := rT_then g2 h
    refine ⟨h1, ?_, g4, by simp [h4]⟩
    simp only
    rw [wpts_append, Cd.enc_append, List.append_assoc, show ∀ x : Int × List Nat, wpts [x] = [num x.1, txt x.2] from fun _ => rfl, Cd.enc, Cd.enc, Cd.enc, List.append_nil, List.append_assoc, ← g3, ← g1]
    exact h2
/-- What is read, and isn't bad, has just these bytes. -/
theorem decE_then (t : Bool) (l : List Nat) (hl : ∀ x ∈ l, x < 256) (h : (decE t (l, false)).2.2 = false) (hk : 1 ≤ (decE t (l, false)).1.kind ∧ (decE t (l, false)).1.kind ≤ 5) : l = bytes (decE t (l, false)).1 ++ (decE t (l, false)).2.1 := by
  unfold decE at h hk ⊢
  have key : ∀ s : Sta, (hd t (l, false)).2 = s → s.2 = false → (∀ x ∈ s.1, x < 256) ∧ l = Cd.one (num (hd t (l, false)).1.1) ++ (Cd.one (num (hd t (l, false)).1.2.1) ++ (Cd.one (num (hd t (l, false)).1.2.2) ++ s.1)) := by
    rintro s rfl hb
    unfold hd at hb ⊢
    simp only at hb ⊢
    have b2 := rN_bad hb
    have b1 := rN_bad b2
    obtain ⟨_, e1, s1, _⟩ := rN_then (s := (l, false)) hl b1
    obtain ⟨_, e2, s2, _⟩ := rN_then s1 b2
    obtain ⟨_, e3, s3, _⟩ := rN_then s2 hb
    refine ⟨s3, ?_⟩
    rw [← e3, ← e2, ← e1]
  generalize (hd t (l, false)).2 = s at *
  generalize (hd t (l, false)).1.1 = k at *
  generalize (hd t (l, false)).1.2.1 = a at *
  generalize (hd t (l, false)).1.2.2 = b at *
  replace key := key s rfl
  unfold tl at h hk ⊢
  unfold bytes pts tailP
  by_cases k1 : k = 1
  · subst k1
    simp only [if_true] at h ⊢
    have b1 := rT_bad h
    obtain ⟨hs, e⟩ := key (rT_bad b1)
    obtain ⟨_, e1, s1⟩ := rT_then hs b1
    obtain ⟨_, e2, s2⟩ := rT_then s1 h
    simp only [Cd.enc, List.append_assoc, List.nil_append]
    rw [← e2, ← e1]
    exact e
  by_cases k2 : k = 2
  · subst k2
    simp only [if_true, if_false, show ¬ (2 : Int) = 1 from by decide] at h ⊢
    obtain ⟨hs, e⟩ := key (rT_bad h)
    obtain ⟨_, e1, s1⟩ := rT_then hs h
    simp only [Cd.enc, List.append_assoc, List.nil_append]
    rw [← e1]
    exact e
  by_cases k3 : k = 3
  · subst k3
    simp only [if_true, if_false, show ¬ (3 : Int) = 1 from by decide, show ¬ (3 : Int) = 2 from by decide] at h ⊢
    have b1 := rN_bad h
    obtain ⟨hs, e⟩ := key (rN_bad b1)
    obtain ⟨_, e1, s1, _⟩ := rN_then hs b1
    obtain ⟨_, e2, s2, _⟩ := rN_then s1 h
    simp only [Cd.enc, List.append_assoc, List.nil_append]
    rw [← e2, ← e1]
    exact e
  by_cases k4 : k = 4
  · subst k4
    simp only [if_true, if_false, show ¬ (4 : Int) = 1 from by decide, show ¬ (4 : Int) = 2 from by decide, show ¬ (4 : Int) = 3 from by decide] at h ⊢
    obtain ⟨hs, e⟩ := key (rN_bad h)
    obtain ⟨_, e1, s1, _⟩ := rN_then hs h
    simp only [Cd.enc, List.append_assoc, List.nil_append]
    rw [← e1]
    exact e
  by_cases k5 : k = 5
  · subst k5
    simp only [if_true, if_false, show ¬ (5 : Int) = 1 from by decide, show ¬ (5 : Int) = 2 from by decide, show ¬ (5 : Int) = 3 from by decide, show ¬ (5 : Int) = 4 from by decide] at h ⊢
    have hb : ∀ n, (rW (loB t) (hiB t) n (rN 0 16 (rN (lo1 t) (hiE t) s).2).2).2.2 = false → (rN 0 16 (rN (lo1 t) (hiE t) s).2).2.2 = false := by
      intro n
      induction n with
      | zero => exact id
      | succ m ih => exact fun hh => ih (rN_bad (rT_bad hh))
    have b2 := hb _ h
    have b1 := rN_bad b2
    obtain ⟨hs, e⟩ := key (rN_bad b1)
    obtain ⟨_, e1, s1, _⟩ := rN_then hs b1
    obtain ⟨_, e2, s2, n1, n2⟩ := rN_then s1 b2
    obtain ⟨_, e3, s3, hn⟩ := rW_then s2 _ h
    simp only [Cd.enc, List.append_assoc]
    rw [hn, Int.toNat_of_nonneg n1, ← e3, ← e2, ← e1]
    exact e
  · rw [if_neg k1, if_neg k2, if_neg k3, if_neg k4, if_neg k5] at hk
    simp only at hk
    omega
theorem right_kind {e : En} (h : right e = true) : 1 ≤ e.kind ∧ e.kind ≤ 5 := by
  obtain ⟨_, _, ⟨k, _⟩ | ⟨k, _⟩ | ⟨k, _⟩ | ⟨k, _⟩ | ⟨k, _⟩⟩ := (right_iff e).1 h <;> omega
/-- An entry is read just if it is right and these are its bytes. -/
theorem dec_iff (t : Bool) (l : List Nat) (hl : ∀ x ∈ l, x < 256) (e : En) : dec t l = some e ↔ right e = true ∧ bytes e = l := by
  unfold dec
  constructor
  · intro h
    split at h
    · rename_i hc
      obtain ⟨h1, h2, h3⟩ := hc
      obtain rfl := Option.some.inj h
      refine ⟨h3, ?_⟩
      have := decE_then t l hl h1 (right_kind h3)
      rw [h2, List.append_nil] at this
      exact this.symm
    · cases h
  · rintro ⟨h, rfl⟩
    have := decE_of t h []
    rw [List.append_nil] at this
    rw [this]
    simp [h]
theorem dec_both (l : List Nat) (hl : ∀ x ∈ l, x < 256) : dec true l = dec false l := by
  apply Option.ext
  intro e
  rw [dec_iff true l hl, dec_iff false l hl]
theorem bytes_inj {a b : En} (ha : right a = true) (hb : right b = true) (h : bytes a = bytes b) : a = b := by
  have h1 := decE_of true ha []
  have h2 := decE_of true hb []
  rw [h, h2] at h1
  exact (congrArg Prod.fst h1).symm
/-- Bytes that are cut off are none. -/
theorem dec_cut (t : Bool) {e : En} (he : right e = true) (hs : Small e) {k : Nat} (hk : k < (bytes e).length) : dec t ((bytes e).take k) = none := by
  cases hd : dec t ((bytes e).take k) with
  | none => rfl
  | some f =>
    exfalso
    obtain ⟨hf, hb⟩ := (dec_iff t _ (fun x hx => bytes_small hs x (List.mem_of_mem_take hx)) f).1 hd
    have h1 := decE_of t hf ((bytes e).drop k)
    rw [hb, List.take_append_drop] at h1
    have h2 := decE_of t he []
    rw [List.append_nil, h1] at h2
    have h3 := congrArg (fun x => x.2.1) h2
    simp only at h3
    have := congrArg List.length h3
    simp at this
    omega
theorem dec_more (t : Bool) {e : En} (he : right e = true) {r : List Nat} (hr : r ≠ []) : dec t (bytes e ++ r) = none := by
  unfold dec
  rw [decE_of t he r]
  simp [hr]
theorem dec_own (t : Bool) {e : En} (he : right e = true) : dec t (bytes e) = some e := by
  unfold dec
  have := decE_of t he []
  rw [List.append_nil] at this
  rw [this]
  simp [he]
end Go.Proofs.Ytigfiopmochliaa.E9
/- Entries in memory; the contracts of within, Equal, sameWrap, EqualFunc. -/
namespace Go.Proofs.Ytigfiopmochliaa.E9
open Go.RowKit C8
/-- The wraps behind a slice: two cells each. -/
def WrRow (w : World) (q : Option Addr) (ws : List (Int × List Nat)) : Prop :=
  ∀ j (h : j < ws.length), ∃ b o bp bc, q = some ⟨b, o, none⟩ ∧ b < w.heap.size ∧ w.cell? ⟨b, o + j * 2, none⟩ = some (.int .i64 ws[j].1) ∧ w.cell? ⟨b, o + j * 2 + 1, none⟩ = some (.slice bp ws[j].2.length bc) ∧ Src w (.slice bp ws[j].2.length bc) ws[j].2 ∧ ws[j].2.length ≤ 9223372036854775807
theorem WrRow.below {w w' : World} {q : Option Addr} {ws : List (Int × List Nat)} (h : WrRow w q ws) (hb : Below w.heap.size w w') : WrRow w' q ws := fun j hj => by
  obtain ⟨b, o, bp, bc, h1, h2, h3, h4, h5, h6⟩ := h j hj
  exact ⟨b, o, bp, bc, h1, Nat.lt_of_lt_of_le h2 hb.size, (hb.cell (p := ⟨b, o + j * 2, none⟩) h2).trans h3, (hb.cell (p := ⟨b, o + j * 2 + 1, none⟩) h2).trans h4, h5.below hb, h6⟩
theorem WrRow.nil (w : World) (q : Option Addr) : WrRow w q [] := fun j hj => by cases hj
/-- An entry as a value: its nine cells. -/
def EnV (e : En) (np : Option Addr) (nc : Nat) (vp : Option Addr) (vc : Nat) (q : Option Addr) (c : Nat) : Array Value :=
  #[.int .i64 e.kind, .int .i64 e.writer, .int .i64 e.seq, .slice np e.name.length nc, .slice vp e.value.length vc, .int .i64 e.who, .int .i64 e.rights, .int .i64 e.epoch, .slice q e.wraps.length c]
structure EnAt (w : World) (e : En) (np : Option Addr) (nc : Nat) (vp : Option Addr) (vc : Nat) (q : Option Addr) : Prop where
  name : Src w (.slice np e.name.length nc) e.name
  value : Src w (.slice vp e.value.length vc) e.value
  wraps : WrRow w q e.wraps
  ln : e.name.length ≤ 9223372036854775807
  lv : e.value.length ≤ 9223372036854775807
  lw : e.wraps.length ≤ 9223372036854775807
def EnIs (w : World) (v : Value) (e : En) : Prop := ∃ np nc vp vc q c, v = .agg (EnV e np nc vp vc q c) ∧ EnAt w e np nc vp vc q
theorem EnAt.below {w w' : World} {e : En} {np : Option Addr} {nc : Nat} {vp : Option Addr} {vc : Nat} {q : Option Addr} (h : EnAt w e np nc vp vc q) (hb : Below w.heap.size w w') : EnAt w' e np nc vp vc q := ⟨h.name.below hb, h.value.below hb, h.wraps.below hb, h.ln, h.lv, h.lw⟩
theorem EnIs.below {w w' : World} {v : Value} {e : En} (h : EnIs w v e) (hb : Below w.heap.size w w') : EnIs w' v e := by
  obtain ⟨np, nc, vp, vc, q, c, rfl, h⟩ := h
  exact ⟨np, nc, vp, vc, q, c, rfl, h.below hb⟩
theorem WrRow.small {w : World} {q : Option Addr} {ws : List (Int × List Nat)} (h : WrRow w q ws) : ∀ y ∈ ws, ∀ x ∈ y.2, x < 256 := fun y hy => by
  obtain ⟨j, hj, rfl⟩ := List.getElem_of_mem hy
  obtain ⟨_, _, _, _, _, _, _, _, h5, _⟩ := h j hj
  exact h5.small
theorem EnIs.small {w : World} {v : Value} {e : En} (h : EnIs w v e) : Small e := by
  obtain ⟨np, nc, vp, vc, q, c, rfl, h⟩ := h
  exact ⟨h.name.small, h.value.small, h.wraps.small⟩
set_option maxHeartbeats 1000000 in
theorem within_yes (n lo hi : Int) (w : World) (h1 : lo ≤ n) (h2 : n ≤ hi) : Calls Try.prog 32 #[.int .i64 n, .int .i64 lo, .int .i64 hi] w fun e w' => e = .returned (.bool true) ∧ w' = w := by
  go_enter Try.func32, Try.ntmps32
  go_wp2_with fail
  go_ret
  exact ⟨rfl, rfl⟩
set_option maxHeartbeats 1000000 in
theorem within_no (n lo hi : Int) (w : World) (h : n < lo ∨ hi < n) : Calls Try.prog 32 #[.int .i64 n, .int .i64 lo, .int .i64 hi] w fun e w' => e = .returned (.bool false) ∧ w' = w := by
  by_cases h1 : lo ≤ n
  · have h2 : ¬ n ≤ hi := by omega
    clear h
    go_enter Try.func32, Try.ntmps32
    go_wp2_with fail
    go_ret
    exact ⟨rfl, rfl⟩
  · clear h
    go_enter Try.func32, Try.ntmps32
    go_wp2_with fail
    go_ret
    exact ⟨rfl, rfl⟩
theorem within_any (n lo hi : Int) (w : World) : Calls Try.prog 32 #[.int .i64 n, .int .i64 lo, .int .i64 hi] w fun e w' => e = .returned (.bool (decide (lo ≤ n ∧ n ≤ hi))) ∧ w' = w := by
  by_cases h : lo ≤ n ∧ n ≤ hi
  · rw [decide_eq_true h]; exact within_yes n lo hi w h.1 h.2
  · rw [decide_eq_false h]; exact within_no n lo hi w (by omega)
set_option maxHeartbeats 1000000 in
theorem equal_any (p q : Option Addr) (n m c d : Nat) (l k : List Nat) (w : World) (h1 : Src w (.slice p n c) l) (h2 : Src w (.slice q m d) k) : Calls Try.prog 41 #[.slice p n c, .slice q m d] w fun e w' => e = .returned (.bool (decide (l = k))) ∧ w' = w := by
  have cv := conv_src h1
  have cw := conv_src h2
  have HL : Hid (((strB l).toList == (strB k).toList) = decide (l = k)) := strB_beqL h1.small h2.small
  clear h1 h2
  generalize strB l = x at *
  generalize strB k = y at *
  go_enter Try.func41, Try.ntmps41
  go_wp2_with fail
  go_ret
  refine ⟨?_, rfl⟩
  rw [← HL.out]
  rfl
set_option maxHeartbeats 2000000 in
theorem sameWrap_any (a b : Int) (p q : Option Addr) (n m c d : Nat) (l k : List Nat) (w : World) (h1 : Src w (.slice p n c) l) (h2 : Src w (.slice q m d) k) : Calls Try.prog 43 #[.agg #[.int .i64 a, .slice p n c], .agg #[.int .i64 b, .slice q m d]] w fun e w' => e = .returned (.bool (decide (a = b ∧ l = k))) ∧ Below w.heap.size w w' := by
  have HE : ∀ W, Below w.heap.size w W → Calls Try.prog 41 #[.slice p n c, .slice q m d] W fun e w' => e = .returned (.bool (decide (l = k))) ∧ w' = W := fun W hb => equal_any p q n m c d l k W (h1.below hb) (h2.below hb)
  have HB : Hid (Below w.heap.size w ((w.alloc (.cells #[.int .i64 a, .slice p n c] 66)).alloc (.cells #[.int .i64 b, .slice q m d] 66))) := ((Below.refl _ w).alloc (Nat.le_refl _) _).alloc (by simp) _
  clear h1 h2
  by_cases ha : a = b
  · subst ha
    by_cases hl : l = k
    · have e1 : decide (a = a ∧ l = k) = true := by simp [hl]
      have e2 : decide (l = k) = true := by simp [hl]
      rw [e1]
      rw [e2] at HE
      clear e1 e2 hl
      go_enter Try.func43, Try.ntmps43
      go_wp2_with (first | (go_at_call 41; refine (HE _ HB.out).mono ?_; rintro e w1 ⟨rfl, rfl⟩))
      go_ret
      exact ⟨rfl, HB.out⟩
    · have e1 : decide (a = a ∧ l = k) = false := by simp [hl]
      have e2 : decide (l = k) = false := by simp [hl]
      rw [e1]
      rw [e2] at HE
      clear e1 e2 hl
      go_enter Try.func43, Try.ntmps43
      go_wp2_with (first | (go_at_call 41; refine (HE _ HB.out).mono ?_; rintro e w1 ⟨rfl, rfl⟩))
      go_ret
      exact ⟨rfl, HB.out⟩
  · have e1 : decide (a = b ∧ l = k) = false := by simp [ha]
    have e2 : (a == b) = false := by simp [ha]
    rw [e1]
    clear e1
    go_enter Try.func43, Try.ntmps43
    go_wp2_with fail
    go_ret
    exact ⟨rfl, HB.out⟩
end Go.Proofs.Ytigfiopmochliaa.E9
/- The reader by plain functions of what it has left; the contracts of Decode's closures. -/
namespace Go.Proofs.Ytigfiopmochliaa.E9
open Go.RowKit C8
/-- A reader at p, whose bytes lie from A on and below B. -/
def Tx (w : World) (p A B : Nat) (v : Value) (t : List Nat) : Prop := Src w v t ∧ (t ≠ [] → ∃ g, v.ownBlock = some g ∧ A ≤ g ∧ g < B ∧ g ≠ p)
theorem Tx.only {w w' : World} {p A B : Nat} {v : Value} {t : List Nat} (h : Tx w p A B v t) (ho : Only [p] w w') : Tx w' p A B v t := by
  refine ⟨?_, h.2⟩
  by_cases h0 : t = []
  · subst h0
    exact h.1.empty w'
  · obtain ⟨g, hg, _, _, hp⟩ := h.2 h0
    exact h.1.only ho (fun b hb hm => by rw [hg] at hb; cases hb; simp at hm; exact hp hm)
theorem Tx.below {w w' : World} {p A B : Nat} {v : Value} {t : List Nat} (h : Tx w p A B v t) (hb : Below B w w') : Tx w' p A B v t := by
  refine ⟨?_, h.2⟩
  have : Old B w v t := ⟨h.1, fun h0 b hb => by obtain ⟨g, hg, _, hB, _⟩ := h.2 h0; rw [hg] at hb; cases hb; exact hB⟩
  exact (this.keep hb).1
theorem Tx.nil (w : World) (p A B : Nat) : Tx w p A B (.slice none 0 0) [] := ⟨Src.nil w, fun h => absurd rfl h⟩
end Go.Proofs.Ytigfiopmochliaa.E9
