/- Records: when one is right, its bytes, and how bytes are read as one. -/
import Derived.Test.YtfjdaafckiefdabGreatDoorMgE
namespace Go.Proofs.YtfjdaafckiefdabGreatDoor.S15
open Go.RowKit C8 E9
/-- A record. -/
structure Rec where
  coll : Int
  epoch : Int
  writer : Int
  count : Int
  box : List Nat
def rnum (r : Rec) : Bool := decide ((1 ≤ r.coll ∧ r.coll ≤ 1099511627776) ∧ (0 ≤ r.epoch ∧ r.epoch ≤ 16) ∧ (1 ≤ r.writer ∧ r.writer ≤ 16) ∧ 1 ≤ r.count ∧ r.count ≤ 1099511627776)
def rright (r : Rec) : Bool := rnum r && decide (80 ≤ r.box.length ∧ r.box.length ≤ 2064)
def fpts (r : Rec) : List Pt := [num r.coll, num r.epoch, num r.writer, num r.count]
def rfront (r : Rec) : List Nat := Cd.enc (fpts r)
def rpts (r : Rec) : List Pt := [num r.coll, num r.epoch, num r.writer, num r.count, txt r.box]
def rbytes (r : Rec) : List Nat := Cd.enc (rpts r)
def rsame (a b : Rec) : Bool := decide (a.coll = b.coll ∧ a.epoch = b.epoch ∧ a.writer = b.writer ∧ a.count = b.count ∧ a.box = b.box)
theorem rsame_iff (a b : Rec) : rsame a b = true ↔ a = b := by
  obtain ⟨a1, a2, a3, a4, a5⟩ := a
  obtain ⟨b1, b2, b3, b4, b5⟩ := b
  simp [rsame]
theorem rnum_iff (r : Rec) : rnum r = true ↔ (1 ≤ r.coll ∧ r.coll ≤ 1099511627776) ∧ (0 ≤ r.epoch ∧ r.epoch ≤ 16) ∧ (1 ≤ r.writer ∧ r.writer ≤ 16) ∧ 1 ≤ r.count ∧ r.count ≤ 1099511627776 := by
  unfold rnum; exact decide_eq_true_iff
theorem rright_iff (r : Rec) : rright r = true ↔ rnum r = true ∧ 80 ≤ r.box.length ∧ r.box.length ≤ 2064 := by
  unfold rright; rw [Bool.and_eq_true, decide_eq_true_iff]
theorem rnum_err {r : Rec} (h : rnum r = true) : Cd.err (fpts r) = 0 := by
  obtain ⟨h1, h2, h3, h4⟩ := (rnum_iff r).1 h
  exact err_cons (wrong_num (by omega) (by omega)) (err_cons (wrong_num (by omega) (by omega)) (err_cons (wrong_num (by omega) (by omega)) (err_cons (wrong_num (by omega) (by omega)) rfl)))
theorem rright_err {r : Rec} (h : rright r = true) : Cd.err (rpts r) = 0 := by
  obtain ⟨h0, h5⟩ := (rright_iff r).1 h
  obtain ⟨h1, h2, h3, h4⟩ := (rnum_iff r).1 h0
  exact err_cons (wrong_num (by omega) (by omega)) (err_cons (wrong_num (by omega) (by omega)) (err_cons (wrong_num (by omega) (by omega)) (err_cons (wrong_num (by omega) (by omega)) (err_cons (wrong_txt (by omega)) rfl))))
theorem rfront_length (r : Rec) : (rfront r).length = 24 := by
  unfold rfront fpts
  simp only [Cd.enc, one_num, List.length_append, Cd.be_length, List.length_nil]
theorem rbytes_eq (r : Rec) : rbytes r = rfront r ++ Cd.one (txt r.box) := by
  unfold rbytes rfront rpts fpts
  simp only [Cd.enc, List.append_assoc, List.append_nil]
theorem rbytes_length (r : Rec) : (rbytes r).length = 26 + r.box.length := by
  rw [rbytes_eq, List.length_append, rfront_length, one_txt, List.length_append, Cd.be_length]
  omega
theorem rfront_small (r : Rec) : ∀ x ∈ rfront r, x < 256 := by
  refine Cd.enc_lt fun p hp => ?_
  unfold fpts at hp
  simp only [List.mem_cons, List.not_mem_nil, or_false] at hp
  rcases hp with rfl | rfl | rfl | rfl <;> (intro x hx; cases hx)
theorem rbytes_small {r : Rec} (h : ∀ x ∈ r.box, x < 256) : ∀ x ∈ rbytes r, x < 256 := by
  refine Cd.enc_lt fun p hp => ?_
  unfold rpts at hp
  simp only [List.mem_cons, List.not_mem_nil, or_false] at hp
  rcases hp with rfl | rfl | rfl | rfl | rfl
  · intro x hx; cases hx
  · intro x hx; cases hx
  · intro x hx; cases hx
  · intro x hx; cases hx
  · exact h
def l1 (t : Bool) : Int := if t then 1 else 0
def h16 (t : Bool) : Int := if t then 16 else 1099511627776
/-- What is read, tight or loose. -/
def rdE (t : Bool) (s : Sta) : Rec × Sta :=
  (⟨(rN (l1 t) 1099511627776 s).1, (rN 0 (h16 t) (rN (l1 t) 1099511627776 s).2).1, (rN (l1 t) (h16 t) (rN 0 (h16 t) (rN (l1 t) 1099511627776 s).2).2).1, (rN (l1 t) 1099511627776 (rN (l1 t) (h16 t) (rN 0 (h16 t) (rN (l1 t) 1099511627776 s).2).2).2).1,
    (rT 80 2064 (rN (l1 t) 1099511627776 (rN (l1 t) (h16 t) (rN 0 (h16 t) (rN (l1 t) 1099511627776 s).2).2).2).2).1⟩, (rT 80 2064 (rN (l1 t) 1099511627776 (rN (l1 t) (h16 t) (rN 0 (h16 t) (rN (l1 t) 1099511627776 s).2).2).2).2).2)
/-- The record whose bytes they are, if there is one. -/
def rdec (t : Bool) (l : List Nat) : Option Rec := if (rdE t (l, false)).2.2 = false ∧ (rdE t (l, false)).2.1 = [] ∧ rright (rdE t (l, false)).1 = true then some (rdE t (l, false)).1 else none
theorem rdE_of (t : Bool) {e : Rec} (h : rright e = true) (r : List Nat) : rdE t (rbytes e ++ r, false) = (e, (r, false)) := by
  obtain ⟨h0, h5⟩ := (rright_iff e).1 h
  obtain ⟨h1, h2, h3, h4⟩ := (rnum_iff e).1 h0
  obtain ⟨a1, a2, a3, a4, a5⟩ := e
  simp only at h1 h2 h3 h4 h5
  have k1 : l1 t ≤ 1 := by cases t <;> decide
  have k2 : (16 : Int) ≤ h16 t := by cases t <;> decide
  unfold rdE rbytes rpts
  simp only [Cd.enc, List.append_assoc, List.nil_append]
  rw [rN_of (by omega) (by omega) (by omega) (by omega)]
  simp only
  rw [rN_of (by omega) (by omega) (by omega) (by omega)]
  simp only
  rw [rN_of (by omega) (by omega) (by omega) (by omega)]
  simp only
  rw [rN_of (by omega) (by omega) (by omega) (by omega)]
  simp only
  rw [rT_of (by omega) (by omega) (by omega)]
theorem rdE_then (t : Bool) (l : List Nat) (hl : ∀ x ∈ l, x < 256) (h : (rdE t (l, false)).2.2 = false) : l = rbytes (rdE t (l, false)).1 ++ (rdE t (l, false)).2.1 := by
  unfold rdE at h ⊢
  simp only at h ⊢
  have b4 := rT_bad h
  have b3 := rN_bad b4
  have b2 := rN_bad b3
  have b1 := rN_bad b2
  obtain ⟨_, e1, s1, _⟩ := rN_then (s := (l, false)) hl b1
  obtain ⟨_, e2, s2, _⟩ := rN_then s1 b2
  obtain ⟨_, e3, s3, _⟩ := rN_then s2 b3
  obtain ⟨_, e4, s4, _⟩ := rN_then s3 b4
  obtain ⟨_, e5, s5⟩ := rT_then s4 h
  unfold rbytes rpts
  simp only [Cd.enc, List.append_assoc, List.nil_append]
  rw [← e5, ← e4, ← e3, ← e2, ← e1]
theorem rdec_iff (t : Bool) {l : List Nat} (hl : ∀ x ∈ l, x < 256) (r : Rec) : rdec t l = some r ↔ rright r = true ∧ l = rbytes r := by
  constructor
  · intro h
    unfold rdec at h
    split at h
    · rename_i hc
      have h1 := rdE_then t l hl hc.1
      rw [hc.2.1, List.append_nil] at h1
      have e := Option.some.inj h
      rw [e] at h1 hc
      exact ⟨hc.2.2, h1⟩
    · cases h
  · rintro ⟨h1, rfl⟩
    have h2 := rdE_of t h1 []
    rw [List.append_nil] at h2
    unfold rdec
    rw [h2]
    simp [h1]
theorem rdec_both {l : List Nat} (hl : ∀ x ∈ l, x < 256) : rdec true l = rdec false l := by
  cases h : rdec false l with
  | none =>
    cases h2 : rdec true l with
    | none => rfl
    | some r =>
      have := (rdec_iff false hl r).2 ((rdec_iff true hl r).1 h2)
      rw [h] at this
      cases this
  | some r => exact (rdec_iff true hl r).2 ((rdec_iff false hl r).1 h)
theorem rdec_own (t : Bool) {r : Rec} (h : rright r = true) : rdec t (rbytes r) = some r := by
  have h2 := rdE_of t h []
  rw [List.append_nil] at h2
  unfold rdec
  rw [h2]
  simp [h]
/-- The document's reader tells the right record, wherever it comes to its end. -/
theorem rdE_tight {l : List Nat} (h : (rdE true (l, false)).2.2 = false) : rright (rdE true (l, false)).1 = true := by
  unfold rdE at h ⊢
  simp only at h ⊢
  have b4 := rT_bad h
  have b3 := rN_bad b4
  have b2 := rN_bad b3
  have b1 := rN_bad b2
  have q : ∀ (lo hi : Int) (s : Sta), (rN lo hi s).2.2 = false → lo ≤ (rN lo hi s).1 ∧ (rN lo hi s).1 ≤ hi := fun lo hi s h => by
    unfold rN at h ⊢
    split at h
    · cases h
    · rename_i hc
      rw [if_neg hc]
      simp only
      omega
  have q2 : ∀ (s : Sta), (rT 80 2064 s).2.2 = false → 80 ≤ (rT 80 2064 s).1.length ∧ (rT 80 2064 s).1.length ≤ 2064 := fun s h => by
    unfold rT at h ⊢
    split at h
    · cases h
    · rename_i hc
      rw [if_neg hc]
      simp only [List.length_take, List.length_drop]
      omega
  refine (rright_iff _).2 ⟨(rnum_iff _).2 ⟨q _ _ _ b1, ?_, ?_, q _ _ _ b4⟩, q2 _ h⟩
  · exact q 0 16 _ b2
  · exact q 1 16 _ b3
theorem rdec_true (l : List Nat) : rdec true l = if (!(rdE true (l, false)).2.2 && decide ((rdE true (l, false)).2.1 = [])) = true then some (rdE true (l, false)).1 else none := by
  unfold rdec
  by_cases h : (rdE true (l, false)).2.2 = false
  · have h1 := rdE_tight h
    by_cases h2 : (rdE true (l, false)).2.1 = []
    · simp [h, h1, h2]
    · simp [h2]
  · simp [h]
end Go.Proofs.YtfjdaafckiefdabGreatDoor.S15
