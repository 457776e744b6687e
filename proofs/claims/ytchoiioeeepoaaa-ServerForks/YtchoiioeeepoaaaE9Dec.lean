/- How bytes are read as an entry: by plain functions, with tight and with loose bounds; both find just the right entry whose bytes they are. -/
import Derived.Test.YtchoiioeeepoaaaE9Spec
namespace Go.Proofs.Ytchoiioeeepoaaa.E9
open Go.RowKit C8
/-- What is left of the bytes, and whether they are bad. -/
abbrev Sta := List Nat × Bool
def rN (lo hi : Int) (s : Sta) : Int × Sta :=
  if s.1.length < 6 ∨ (Cd.val (s.1.take 6) : Int) < lo ∨ hi < (Cd.val (s.1.take 6) : Int) then (0, ([], true)) else ((Cd.val (s.1.take 6) : Int), (s.1.drop 6, s.2))
def rT (lo hi : Int) (s : Sta) : List Nat × Sta :=
  if s.1.length < 2 ∨ s.1.length < 2 + Cd.val (s.1.take 2) ∨ (Cd.val (s.1.take 2) : Int) < lo ∨ hi < (Cd.val (s.1.take 2) : Int) then ([], ([], true)) else ((s.1.drop 2).take (Cd.val (s.1.take 2)), (s.1.drop (2 + Cd.val (s.1.take 2)), s.2))
def rW (lo hi : Int) : Nat → Sta → List (Int × List Nat) × Sta
  | 0, s => ([], s)
  | n + 1, s => ((rW lo hi n s).1 ++ [((rN 1 16 (rW lo hi n s).2).1, (rT lo hi (rN 1 16 (rW lo hi n s).2).2).1)], (rT lo hi (rN 1 16 (rW lo hi n s).2).2).2)
def hiK (t : Bool) : Int := if t then 5 else 1099511627776
def lo1 (t : Bool) : Int := if t then 1 else 0
def hiT (t : Bool) : Int := if t then 64 else 4096
def hiV (t : Bool) : Int := if t then 512 else 4096
def hiR (t : Bool) : Int := if t then 7 else 1099511627776
def hiE (t : Bool) : Int := if t then 16 else 1099511627776
def loB (t : Bool) : Int := if t then 48 else 0
def hiB (t : Bool) : Int := if t then 48 else 4096
/-- The kind, the writer and the number, and what is left. -/
def hd (t : Bool) (s : Sta) : (Int × Int × Int) × Sta :=
  (((rN (lo1 t) (hiK t) s).1, (rN 1 16 (rN (lo1 t) (hiK t) s).2).1, (rN (lo1 t) 1099511627776 (rN 1 16 (rN (lo1 t) (hiK t) s).2).2).1), (rN (lo1 t) 1099511627776 (rN 1 16 (rN (lo1 t) (hiK t) s).2).2).2)
/-- What stands behind them. -/
def tl (t : Bool) (k a b : Int) (s : Sta) : En × Sta :=
  if k = 1 then (⟨k, a, b, (rT (lo1 t) (hiT t) s).1, (rT 0 (hiV t) (rT (lo1 t) (hiT t) s).2).1, 0, 0, 0, []⟩, (rT 0 (hiV t) (rT (lo1 t) (hiT t) s).2).2)
  else if k = 2 then (⟨k, a, b, (rT (lo1 t) (hiT t) s).1, [], 0, 0, 0, []⟩, (rT (lo1 t) (hiT t) s).2)
  else if k = 3 then (⟨k, a, b, [], [], (rN 1 16 s).1, (rN (lo1 t) (hiR t) (rN 1 16 s).2).1, 0, []⟩, (rN (lo1 t) (hiR t) (rN 1 16 s).2).2)
  else if k = 4 then (⟨k, a, b, [], [], (rN 1 16 s).1, 0, 0, []⟩, (rN 1 16 s).2)
  else if k = 5 then (⟨k, a, b, [], [], 0, 0, (rN (lo1 t) (hiE t) s).1, (rW (loB t) (hiB t) (rN 0 16 (rN (lo1 t) (hiE t) s).2).1.toNat (rN 0 16 (rN (lo1 t) (hiE t) s).2).2).1⟩, (rW (loB t) (hiB t) (rN 0 16 (rN (lo1 t) (hiE t) s).2).1.toNat (rN 0 16 (rN (lo1 t) (hiE t) s).2).2).2)
  else (⟨k, a, b, [], [], 0, 0, 0, []⟩, s)
def decE (t : Bool) (s : Sta) : En × Sta := tl t (hd t s).1.1 (hd t s).1.2.1 (hd t s).1.2.2 (hd t s).2
/-- The entry whose bytes they are, if there is one. -/
def dec (t : Bool) (l : List Nat) : Option En := if (decE t (l, false)).2.2 = false ∧ (decE t (l, false)).2.1 = [] ∧ right (decE t (l, false)).1 = true then some (decE t (l, false)).1 else none
theorem be_of_val : ∀ (k : Nat) (l : List Nat), l.length = k → (∀ x ∈ l, x < 256) → Cd.be k (Cd.val l) = l
  | 0, l, h, _ => by rw [List.eq_nil_of_length_eq_zero h]; rfl
  | k + 1, l, h, hs => by
    have hne : l ≠ [] := by intro e; subst e; simp at h
    rw [← List.dropLast_concat_getLast hne]
    have hx := hs _ (List.getLast_mem hne)
    have hl : l.dropLast.length = k := by rw [List.length_dropLast]; omega
    rw [Cd.val_snoc, Cd.be]
    have e1 : (Cd.val l.dropLast * 256 + l.getLast hne) / 256 = Cd.val l.dropLast := by omega
    have e2 : (Cd.val l.dropLast * 256 + l.getLast hne) % 256 = l.getLast hne := by omega
    rw [e1, e2, be_of_val k _ hl (fun x hx => hs x ((List.dropLast_sublist l).subset hx))]
theorem take_be (k n : Nat) (r : List Nat) : (Cd.be k n ++ r).take k = Cd.be k n := by
  have := List.take_left (l₁ := Cd.be k n) (l₂ := r)
  rwa [Cd.be_length] at this
theorem drop_be (k n : Nat) (r : List Nat) : (Cd.be k n ++ r).drop k = r := by
  have := List.drop_left (l₁ := Cd.be k n) (l₂ := r)
  rwa [Cd.be_length] at this
/-- A number that was written is read. -/
theorem rN_of {lo hi : Int} {n : Int} {r : List Nat} (h0 : 0 ≤ n) (hm : n ≤ 1099511627776) (h1 : lo ≤ n) (h2 : n ≤ hi) : rN lo hi (Cd.one (num n) ++ r, false) = (n, (r, false)) := by
  have hv : Cd.val (Cd.be 6 n.toNat) = n.toNat := by rw [Cd.val_be, Nat.mod_eq_of_lt]; omega
  unfold rN
  simp only [one_num, take_be, drop_be, hv]
  rw [if_neg (by rw [List.length_append, Cd.be_length]; omega)]
  congr 1
  omega
theorem rT_of {lo hi : Int} {l r : List Nat} (hm : l.length ≤ 4096) (h1 : lo ≤ (l.length : Int)) (h2 : (l.length : Int) ≤ hi) : rT lo hi (Cd.one (txt l) ++ r, false) = (l, (r, false)) := by
  have hv : Cd.val (Cd.be 2 l.length) = l.length := by rw [Cd.val_be, Nat.mod_eq_of_lt]; omega
  unfold rT
  simp only [one_txt, List.append_assoc, take_be, drop_be, hv]
  rw [if_neg (by rw [List.length_append, List.length_append, Cd.be_length]; omega)]
  rw [List.take_left, ← List.drop_drop, drop_be, List.drop_left]
theorem rW_of {lo hi : Int} {r : List Nat} (h1 : lo ≤ 48) (h2 : 48 ≤ hi) (ws : List (Int × List Nat)) (hw : ∀ x ∈ ws, 1 ≤ x.1 ∧ x.1 ≤ 16 ∧ x.2.length = 48) : ∀ n, n ≤ ws.length → rW lo hi n (Cd.enc (wpts ws) ++ r, false) = (ws.take n, (Cd.enc (wpts (ws.drop n)) ++ r, false))
  | 0, _ => by simp [rW]
  | n + 1, hn => by
    have hx := hw ws[n] (List.getElem_mem (by omega))
    rw [rW, rW_of h1 h2 ws hw n (by omega)]
    simp only
    rw [List.drop_eq_getElem_cons (by omega : n < ws.length), wpts, Cd.enc, Cd.enc, List.append_assoc, List.append_assoc, rN_of (by omega) (by omega) (by omega) (by omega)]
    simp only
    rw [rT_of (by omega) (by omega) (by omega), List.take_succ_eq_append_getElem (by omega : n < ws.length)]
theorem lo1_le (t : Bool) : lo1 t ≤ 1 := by cases t <;> decide
/-- A right entry's bytes are read as it, whatever stands behind. -/
theorem decE_of (t : Bool) {e : En} (h : right e = true) (r : List Nat) : decE t (bytes e ++ r, false) = (e, (r, false)) := by
  obtain ⟨hw, hs, h⟩ := (right_iff e).1 h
  obtain ⟨a1, a2, a3, a4, a5, a6, a7, a8, a9⟩ := e
  simp only at hw hs h
  have l1 := lo1_le t
  have b1 : (5 : Int) ≤ hiK t := by cases t <;> decide
  have b2 : (64 : Int) ≤ hiT t := by cases t <;> decide
  have b3 : (512 : Int) ≤ hiV t := by cases t <;> decide
  have b4 : (7 : Int) ≤ hiR t := by cases t <;> decide
  have b5 : (16 : Int) ≤ hiE t := by cases t <;> decide
  have b6 : loB t ≤ 48 := by cases t <;> decide
  have b7 : (48 : Int) ≤ hiB t := by cases t <;> decide
  have hk : 1 ≤ a1 ∧ a1 ≤ 5 := by rcases h with ⟨k, _⟩ | ⟨k, _⟩ | ⟨k, _⟩ | ⟨k, _⟩ | ⟨k, _⟩ <;> omega
  unfold decE bytes pts
  simp only [Cd.enc, List.append_assoc]
  have hh : ∀ z, hd t (Cd.one (num a1) ++ (Cd.one (num a2) ++ (Cd.one (num a3) ++ z)), false) = ((a1, a2, a3), (z, false)) := by
    intro z
    unfold hd
    rw [rN_of (by omega) (by omega) (by omega) (by omega)]
    simp only
    rw [rN_of (by omega) (by omega) (by omega) (by omega)]
    simp only
    rw [rN_of (by omega) (by omega) (by omega) (by omega)]
  rw [hh]
  simp only
  unfold tl tailP
  simp only
  rcases h with ⟨rfl, h1, h2, rfl, rfl, rfl, rfl⟩ | ⟨rfl, h1, rfl, rfl, rfl, rfl, rfl⟩ | ⟨rfl, rfl, rfl, h1, h2, rfl, rfl⟩ | ⟨rfl, rfl, rfl, h1, rfl, rfl, rfl⟩ | ⟨rfl, rfl, rfl, rfl, rfl, h1, h2⟩
  · simp only [if_true, Cd.enc, List.append_assoc, List.nil_append]
    rw [rT_of (by omega) (by omega) (by omega)]
    simp only
    rw [rT_of (by omega) (by omega) (by omega)]
  · simp only [if_true, if_false, show ¬ (2 : Int) = 1 from by decide, Cd.enc, List.append_assoc, List.nil_append]
    rw [rT_of (by omega) (by omega) (by omega)]
  · simp only [if_true, if_false, show ¬ (3 : Int) = 1 from by decide, show ¬ (3 : Int) = 2 from by decide, Cd.enc, List.append_assoc, List.nil_append]
    rw [rN_of (by omega) (by omega) (by omega) (by omega)]
    simp only
    rw [rN_of (by omega) (by omega) (by omega) (by omega)]
  · simp only [if_true, if_false, show ¬ (4 : Int) = 1 from by decide, show ¬ (4 : Int) = 2 from by decide, show ¬ (4 : Int) = 3 from by decide, Cd.enc, List.append_assoc, List.nil_append]
    rw [rN_of (by omega) (by omega) (by omega) (by omega)]
  · have hl := wok_le h2
    simp only [if_true, if_false, show ¬ (5 : Int) = 1 from by decide, show ¬ (5 : Int) = 2 from by decide, show ¬ (5 : Int) = 3 from by decide, show ¬ (5 : Int) = 4 from by decide, Cd.enc, List.append_assoc]
    rw [rN_of (by omega) (by omega) (by omega) (by omega)]
    simp only
    rw [rN_of (by omega) (by omega) (by omega) (by omega)]
    simp only
    rw [show ((a9.length : Int)).toNat = a9.length from by omega, rW_of b6 b7 a9 (wok_each a9 0 (by omega) h2) a9.length (Nat.le_refl _)]
    simp [wpts, Cd.enc]
/-- What was read stood there. -/
theorem rN_then {lo hi : Int} {s : Sta} (hs : ∀ x ∈ s.1, x < 256) (h : (rN lo hi s).2.2 = false) : s.2 = false ∧ s.1 = Cd.one (num (rN lo hi s).1) ++ (rN lo hi s).2.1 ∧ (∀ x ∈ (rN lo hi s).2.1, x < 256) ∧ lo ≤ (rN lo hi s).1 ∧ (rN lo hi s).1 ≤ hi := by
  unfold rN at h ⊢
  split at h
  · cases h
  · rename_i hc
    rw [if_neg hc]
    refine ⟨h, ?_, fun x hx => hs x (List.mem_of_mem_drop hx), by simp only; omega, by simp only; omega⟩
    simp only [one_num, Int.toNat_natCast]
    rw [be_of_val 6 _ (by rw [List.length_take]; omega) (fun x hx => hs x (List.mem_of_mem_take hx)), List.take_append_drop]
theorem rT_then {lo hi : Int} {s : Sta} (hs : ∀ x ∈ s.1, x < 256) (h : (rT lo hi s).2.2 = false) : s.2 = false ∧ s.1 = Cd.one (txt (rT lo hi s).1) ++ (rT lo hi s).2.1 ∧ (∀ x ∈ (rT lo hi s).2.1, x < 256) := by
  unfold rT at h ⊢
  split at h
  · cases h
  · rename_i hc
    rw [if_neg hc]
    refine ⟨h, ?_, fun x hx => hs x (List.mem_of_mem_drop hx)⟩
    have hl : ((s.1.drop 2).take (Cd.val (s.1.take 2))).length = Cd.val (s.1.take 2) := by rw [List.length_take, List.length_drop]; omega
    simp only [one_txt, hl]
    rw [be_of_val 2 _ (by rw [List.length_take]; omega) (fun x hx => hs x (List.mem_of_mem_take hx)), List.append_assoc, ← List.drop_drop, List.take_append_drop, List.take_append_drop]
theorem rN_bad {lo hi : Int} {s : Sta} (h : (rN lo hi s).2.2 = false) : s.2 = false := by
  unfold rN at h
  split at h
  · cases h
  · exact h
theorem rT_bad {lo hi : Int} {s : Sta} (h : (rT lo hi s).2.2 = false) : s.2 = false := by
  unfold rT at h
  split at h
  · cases h
  · exact h
theorem rW_then {lo hi : Int} {s : Sta} (hs : ∀ x ∈ s.1, x < 256) : ∀ n, (rW lo hi n s).2.2 = false → s.2 = false ∧ s.1 = Cd.enc (wpts (rW lo hi n s).1) ++ (rW lo hi n s).2.1 ∧ (∀ x ∈ (rW lo hi n s).2.1, x < 256) ∧ (rW lo hi n s).1.length = n
  | 0, h => ⟨h, by simp [rW, wpts, Cd.enc], hs, rfl⟩
  | n + 1, h => by
    rw [rW] at h ⊢
    simp only at h
    have hn := rT_bad h
    obtain ⟨h1, h2, h3, h4⟩ := rW_then hs n (rN_bad hn)
    generalize rW lo hi n s = p at *
    obtain ⟨_, g1, g2, _⟩ := rN_then h3 hn
    obtain ⟨_, g3, g4⟩ := rT_then g2 h
    refine ⟨h1, ?_, g4, by simp [h4]⟩
    simp only
    rw [wpts_append, Cd.enc_append, List.append_assoc, show ∀ x : Int × List Nat, wpts [x] = [num x.1, txt x.2] from fun _ => rfl, Cd.enc, Cd.enc, Cd.enc, List.append_nil, List.append_assoc, ← g3, ← g1]
    exact h2
/-- What is read, and isn't bad, has just these bytes. -/
theorem decE_then (t : Bool) (l : List Nat) (hl : ∀ x ∈ l, x < 256) (h : (decE t (l, false)).2.2 = false) (hk : 1 ≤ (decE t (l, false)).1.kind ∧ (decE t (l, false)).1.kind ≤ 5) : l = bytes (decE t (l, false)).1 ++ (decE t (l, false)).2.1 := by
  unfold decE at h hk ⊢
  have key : ∀ s : Sta, (hd t (l, false)).2 = s → s.2 = false → (∀ x ∈ s.1, x < 256) ∧ l = Cd.one (num (hd t (l, false)).1.1) ++ (Cd.one (num (hd t (l, false)).1.2.1) ++ (Cd.one (num (hd t (l, false)).1.2.2) ++ s.1)) := by
    rintro s rfl hb
    unfold hd at hb ⊢
    simp only at hb ⊢
    have b2 := rN_bad hb
    have b1 := rN_bad b2
    obtain ⟨_, e1, s1, _⟩ := rN_then (s := (l, false)) hl b1
    obtain ⟨_, e2, s2, _⟩ := rN_then s1 b2
    obtain ⟨_, e3, s3, _⟩ := rN_then s2 hb
    refine ⟨s3, ?_⟩
    rw [← e3, ← e2, ← e1]
  generalize (hd t (l, false)).2 = s at *
  generalize (hd t (l, false)).1.1 = k at *
  generalize (hd t (l, false)).1.2.1 = a at *
  generalize (hd t (l, false)).1.2.2 = b at *
  replace key := key s rfl
  unfold tl at h hk ⊢
  unfold bytes pts tailP
  by_cases k1 : k = 1
  · subst k1
    simp only [if_true] at h ⊢
    have b1 := rT_bad h
    obtain ⟨hs, e⟩ := key (rT_bad b1)
    obtain ⟨_, e1, s1⟩ := rT_then hs b1
    obtain ⟨_, e2, s2⟩ := rT_then s1 h
    simp only [Cd.enc, List.append_assoc, List.nil_append]
    rw [← e2, ← e1]
    exact e
  by_cases k2 : k = 2
  · subst k2
    simp only [if_true, if_false, show ¬ (2 : Int) = 1 from by decide] at h ⊢
    obtain ⟨hs, e⟩ := key (rT_bad h)
    obtain ⟨_, e1, s1⟩ := rT_then hs h
    simp only [Cd.enc, List.append_assoc, List.nil_append]
    rw [← e1]
    exact e
  by_cases k3 : k = 3
  · subst k3
    simp only [if_true, if_false, show ¬ (3 : Int) = 1 from by decide, show ¬ (3 : Int) = 2 from by decide] at h ⊢
    have b1 := rN_bad h
    obtain ⟨hs, e⟩ := key (rN_bad b1)
    obtain ⟨_, e1, s1, _⟩ := rN_then hs b1
    obtain ⟨_, e2, s2, _⟩ := rN_then s1 h
    simp only [Cd.enc, List.append_assoc, List.nil_append]
    rw [← e2, ← e1]
    exact e
  by_cases k4 : k = 4
  · subst k4
    simp only [if_true, if_false, show ¬ (4 : Int) = 1 from by decide, show ¬ (4 : Int) = 2 from by decide, show ¬ (4 : Int) = 3 from by decide] at h ⊢
    obtain ⟨hs, e⟩ := key (rN_bad h)
    obtain ⟨_, e1, s1, _⟩ := rN_then hs h
    simp only [Cd.enc, List.append_assoc, List.nil_append]
    rw [← e1]
    exact e
  by_cases k5 : k = 5
  · subst k5
    simp only [if_true, if_false, show ¬ (5 : Int) = 1 from by decide, show ¬ (5 : Int) = 2 from by decide, show ¬ (5 : Int) = 3 from by decide, show ¬ (5 : Int) = 4 from by decide] at h ⊢
    have hb : ∀ n, (rW (loB t) (hiB t) n (rN 0 16 (rN (lo1 t) (hiE t) s).2).2).2.2 = false → (rN 0 16 (rN (lo1 t) (hiE t) s).2).2.2 = false := by
      intro n
      induction n with
      | zero => exact id
      | succ m ih => exact fun hh => ih (rN_bad (rT_bad hh))
    have b2 := hb _ h
    have b1 := rN_bad b2
    obtain ⟨hs, e⟩ := key (rN_bad b1)
    obtain ⟨_, e1, s1, _⟩ := rN_then hs b1
    obtain ⟨_, e2, s2, n1, n2⟩ := rN_then s1 b2
    obtain ⟨_, e3, s3, hn⟩ := rW_then s2 _ h
    simp only [Cd.enc, List.append_assoc]
    rw [hn, Int.toNat_of_nonneg n1, ← e3, ← e2, ← e1]
    exact e
  · rw [if_neg k1, if_neg k2, if_neg k3, if_neg k4, if_neg k5] at hk
    simp only at hk
    omega
theorem right_kind {e : En} (h : right e = true) : 1 ≤ e.kind ∧ e.kind ≤ 5 := by
  obtain ⟨_, _, ⟨k, _⟩ | ⟨k, _⟩ | ⟨k, _⟩ | ⟨k, _⟩ | ⟨k, _⟩⟩ := (right_iff e).1 h <;> omega
/-- An entry is read just if it is right and these are its bytes. -/
theorem dec_iff (t : Bool) (l : List Nat) (hl : ∀ x ∈ l, x < 256) (e : En) : dec t l = some e ↔ right e = true ∧ bytes e = l := by
  unfold dec
  constructor
  · intro h
    split at h
    · rename_i hc
      obtain ⟨h1, h2, h3⟩ := hc
      obtain rfl := Option.some.inj h
      refine ⟨h3, ?_⟩
      have := decE_then t l hl h1 (right_kind h3)
      rw [h2, List.append_nil] at this
      exact this.symm
    · cases h
  · rintro ⟨h, rfl⟩
    have := decE_of t h []
    rw [List.append_nil] at this
    rw [this]
    simp [h]
theorem dec_both (l : List Nat) (hl : ∀ x ∈ l, x < 256) : dec true l = dec false l := by
  apply Option.ext
  intro e
  rw [dec_iff true l hl, dec_iff false l hl]
theorem bytes_inj {a b : En} (ha : right a = true) (hb : right b = true) (h : bytes a = bytes b) : a = b := by
  have h1 := decE_of true ha []
  have h2 := decE_of true hb []
  rw [h, h2] at h1
  exact (congrArg Prod.fst h1).symm
/-- Bytes that are cut off are none. -/
theorem dec_cut (t : Bool) {e : En} (he : right e = true) (hs : Small e) {k : Nat} (hk : k < (bytes e).length) : dec t ((bytes e).take k) = none := by
  cases hd : dec t ((bytes e).take k) with
  | none => rfl
  | some f =>
    exfalso
    obtain ⟨hf, hb⟩ := (dec_iff t _ (fun x hx => bytes_small hs x (List.mem_of_mem_take hx)) f).1 hd
    have h1 := decE_of t hf ((bytes e).drop k)
    rw [hb, List.take_append_drop] at h1
    have h2 := decE_of t he []
    rw [List.append_nil, h1] at h2
    have h3 := congrArg (fun x => x.2.1) h2
    simp only at h3
    have := congrArg List.length h3
    simp at this
    omega
theorem dec_more (t : Bool) {e : En} (he : right e = true) {r : List Nat} (hr : r ≠ []) : dec t (bytes e ++ r) = none := by
  unfold dec
  rw [decE_of t he r]
  simp [hr]
theorem dec_own (t : Bool) {e : En} (he : right e = true) : dec t (bytes e) = some e := by
  unfold dec
  have := decE_of t he []
  rw [List.append_nil] at this
  rw [this]
  simp [he]
end Go.Proofs.Ytchoiioeeepoaaa.E9
