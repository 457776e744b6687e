/- The document's answer of layer 1, as plain functions of natural numbers: products, roots, primes. -/
import Derived.Test.YtnbdadhdpplldabDoorSpec
namespace Go.Proofs.YtnbdadhdpplldabDoor
namespace Rf
open Sp (nth)
def mulStep (a b o : List Nat) (i k : Nat) : List Nat := o.set (i + k) (nth o (i + k) + nth a i * nth b k)
def mulRow (a b : List Nat) (i : Nat) (o : List Nat) : Nat → List Nat
  | 0 => o
  | k + 1 => mulStep a b (mulRow a b i o k) i k
def mulTo (a b : List Nat) : Nat → List Nat
  | 0 => List.replicate (a.length + b.length - 1) 0
  | i + 1 => mulRow a b i (mulTo a b i) b.length
def carryStep (o : List Nat) (i : Nat) : List Nat := (o.set (i - 1) (nth o (i - 1) + nth o i / 65536)).set i (nth o i % 65536)
def carry : Nat → List Nat → List Nat
  | 0, o => o
  | i + 1, o => carry i (carryStep o (i + 1))
def times (a b : List Nat) : List Nat := carry (a.length + b.length - 2) (mulTo a b a.length)
def below (a : List Nat) (p : Nat) : Bool := if nth a 0 = p then (a.drop 1).all (· == 0) else decide (nth a 0 < p)
def wholeGoes (cube : Bool) (p x : Nat) : Bool := (!cube && decide ((x + 1) * (x + 1) ≤ p)) || (cube && decide ((x + 1) * (x + 1) * (x + 1) ≤ p))
def whole (cube : Bool) (p : Nat) : Nat → Nat → Nat
  | 0, x => x
  | f + 1, x => if wholeGoes cube p x then whole cube p f (x + 1) else x
def three (wh y : Nat) : List Nat := [wh, y / 65536, y % 65536]
def small (cube : Bool) (p wh y : Nat) : Bool := below (if cube then times (times (three wh y) (three wh y)) (three wh y) else times (three wh y) (three wh y)) p
def bitsTo (cube : Bool) (p wh : Nat) : Nat → Nat → Nat
  | 0, x => x
  | b + 1, x => bitsTo cube p wh b (if small cube p wh (x + 2 ^ b) then x + 2 ^ b else x)
def root (p : Nat) (cube : Bool) : Nat := bitsTo cube p (whole cube p (p - 1) 1) 32 0
def primeTo (p : Nat) : Nat → Nat → Bool → Bool
  | 0, _, b => b
  | f + 1, d, b => if d * d ≤ p then primeTo p f (d + 1) (b && p % d != 0) else b
def prime (p : Nat) : Bool := primeTo p (p + 1 - 2) 2 true
def rootsTo (n : Nat) (cube : Bool) : Nat → Nat → List Nat → List Nat
  | 0, _, o => o
  | f + 1, p, o => if o.length < n then rootsTo n cube f (p + 1) (if prime p then o ++ [root p cube] else o) else o
def roots (n : Nat) (cube : Bool) : List Nat := rootsTo n cube 398 2 []
def rowTo (cube : Bool) : Nat → Nat → Nat → List Nat
  | 0, _, _ => []
  | _ + 1, 0, _ => []
  | c + 1, f + 1, p => if prime p then root p cube :: rowTo cube c f (p + 1) else rowTo cube (c + 1) f (p + 1)
theorem rootsTo_row (n : Nat) (cube : Bool) : ∀ f p o, rootsTo n cube f p o = o ++ rowTo cube (n - o.length) f p
  | 0, p, o => by
    unfold rootsTo
    cases n - o.length <;> simp [rowTo]
  | f + 1, p, o => by
    unfold rootsTo
    by_cases h : o.length < n
    · obtain ⟨c, hc⟩ : ∃ c, n - o.length = c + 1 := ⟨n - o.length - 1, by omega⟩
      rw [if_pos h, rootsTo_row n cube f, hc]
      by_cases hp : prime p = true
      · simp only [hp, if_true, rowTo, List.length_append, List.length_singleton]
        rw [show n - (o.length + 1) = c from by omega]
        simp
      · simp only [hp, rowTo]
        simp [hc]
    · rw [if_neg h, show n - o.length = 0 from by omega]
      simp [rowTo]
end Rf
end Go.Proofs.YtnbdadhdpplldabDoor
