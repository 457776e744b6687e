/- Records: when one is right, its bytes, and how bytes are read as one. -/
import Derived.Test.YtfjdaafckiefdaaGreatDoorMgE
namespace Go.Proofs.YtfjdaafckiefdaaGreatDoor.S15
open Go.RowKit C8 E9
/-- A record. -/
structure Rec where
  coll : Int
  epoch : Int
  writer : Int
  count : Int
  box : List Nat
def rnum (r : Rec) : Bool := decide ((1 ≤ r.coll ∧ r.coll ≤ 1099511627776) ∧ (0 ≤ r.epoch ∧ r.epoch ≤ 16) ∧ (1 ≤ r.writer ∧ r.writer ≤ 16) ∧ 1 ≤ r.count ∧ r.count ≤ 1099511627776)
def rright (r : Rec) : Bool := rnum r && decide (80 ≤ r.box.length ∧ r.box.length ≤ 2064)
def fpts (r : Rec) : List Pt := [num r.coll, num r.epoch, num r.writer, num r.count]
def rfront (r : Rec) : List Nat := Cd.enc (fpts r)
def rpts (r : Rec) : List Pt := [num r.coll, num r.epoch, num r.writer, num r.count, txt r.box]
def rbytes (r : Rec) : List Nat := Cd.enc (rpts r)
theorem rnum_iff (r : Rec) : rnum r = true ↔ (1 ≤ r.coll ∧ r.coll ≤ 1099511627776) ∧ (0 ≤ r.epoch ∧ r.epoch ≤ 16) ∧ (1 ≤ r.writer ∧ r.writer ≤ 16) ∧ 1 ≤ r.count ∧ r.count ≤ 1099511627776 := by
  unfold rnum; exact decide_eq_true_iff
theorem rright_iff (r : Rec) : rright r = true ↔ rnum r = true ∧ 80 ≤ r.box.length ∧ r.box.length ≤ 2064 := by
  unfold rright; rw [Bool.and_eq_true, decide_eq_true_iff]
theorem rnum_err {r : Rec} (h : rnum r = true) : Cd.err (fpts r) = 0 := by
  obtain ⟨h1, h2, h3, h4⟩ := (rnum_iff r).1 h
  exact err_cons (wrong_num (by omega) (by omega)) (err_cons (wrong_num (by omega) (by omega)) (err_cons (wrong_num (by omega) (by omega)) (err_cons (wrong_num (by omega) (by omega)) rfl)))
theorem rright_err {r : Rec} (h : rright r = true) : Cd.err (rpts r) = 0 := by
  obtain ⟨h0, h5⟩ := (rright_iff r).1 h
  obtain ⟨h1, h2, h3, h4⟩ := (rnum_iff r).1 h0
  exact err_cons (wrong_num (by omega) (by omega)) (err_cons (wrong_num (by omega) (by omega)) (err_cons (wrong_num (by omega) (by omega)) (err_cons (wrong_num (by omega) (by omega)) (err_cons (wrong_txt (by omega)) rfl))))
theorem rfront_length (r : Rec) : (rfront r).length = 24 := by
  unfold rfront fpts
  simp only [Cd.enc, one_num, List.length_append, Cd.be_length, List.length_nil]
theorem rfront_small (r : Rec) : ∀ x ∈ rfront r, x < 256 := by
  refine Cd.enc_lt fun p hp => ?_
  unfold fpts at hp
  simp only [List.mem_cons, List.not_mem_nil, or_false] at hp
  rcases hp with rfl | rfl | rfl | rfl <;> (intro x hx; cases hx)
def l1 (t : Bool) : Int := if t then 1 else 0
def h16 (t : Bool) : Int := if t then 16 else 1099511627776
end Go.Proofs.YtfjdaafckiefdaaGreatDoor.S15
