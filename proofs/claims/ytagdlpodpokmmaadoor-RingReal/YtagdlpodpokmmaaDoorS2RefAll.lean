/- The document's answer of layer 1, as plain functions of natural numbers: products, roots, primes. -/
import Derived.Test.YtagdlpodpokmmaaDoorS2Own
import Derived.BigRegion
import Derived.Deep.RegionLaw
import Derived.Deep.RegionHeldLaw
import Derived.Test.YtagdlpodpokmmaaDoorS2Mac
namespace Go.Proofs.YtagdlpodpokmmaaDoor.S2
open Go.Proofs.YtagdlpodpokmmaaDoor.Sp
namespace Rf
def mulStep (a b o : List Nat) (i k : Nat) : List Nat := o.set (i + k) (nth o (i + k) + nth a i * nth b k)
def mulRow (a b : List Nat) (i : Nat) (o : List Nat) : Nat → List Nat
  | 0 => o
  | k + 1 => mulStep a b (mulRow a b i o k) i k
def mulTo (a b : List Nat) : Nat → List Nat
  | 0 => List.replicate (a.length + b.length - 1) 0
  | i + 1 => mulRow a b i (mulTo a b i) b.length
def carryStep (o : List Nat) (i : Nat) : List Nat := (o.set (i - 1) (nth o (i - 1) + nth o i / 65536)).set i (nth o i % 65536)
def carry : Nat → List Nat → List Nat
  | 0, o => o
  | i + 1, o => carry i (carryStep o (i + 1))
def times (a b : List Nat) : List Nat := carry (a.length + b.length - 2) (mulTo a b a.length)
def below (a : List Nat) (p : Nat) : Bool := if nth a 0 = p then (a.drop 1).all (· == 0) else decide (nth a 0 < p)
def wholeGoes (cube : Bool) (p x : Nat) : Bool := (!cube && decide ((x + 1) * (x + 1) ≤ p)) || (cube && decide ((x + 1) * (x + 1) * (x + 1) ≤ p))
def whole (cube : Bool) (p : Nat) : Nat → Nat → Nat
  | 0, x => x
  | f + 1, x => if wholeGoes cube p x then whole cube p f (x + 1) else x
def three (wh y : Nat) : List Nat := [wh, y / 65536, y % 65536]
def small (cube : Bool) (p wh y : Nat) : Bool := below (if cube then times (times (three wh y) (three wh y)) (three wh y) else times (three wh y) (three wh y)) p
def bitsTo (cube : Bool) (p wh : Nat) : Nat → Nat → Nat
  | 0, x => x
  | b + 1, x => bitsTo cube p wh b (if small cube p wh (x + 2 ^ b) then x + 2 ^ b else x)
def root (p : Nat) (cube : Bool) : Nat := bitsTo cube p (whole cube p (p - 1) 1) 32 0
def primeTo (p : Nat) : Nat → Nat → Bool → Bool
  | 0, _, b => b
  | f + 1, d, b => if d * d ≤ p then primeTo p f (d + 1) (b && p % d != 0) else b
def prime (p : Nat) : Bool := primeTo p (p + 1 - 2) 2 true
def rootsTo (n : Nat) (cube : Bool) : Nat → Nat → List Nat → List Nat
  | 0, _, o => o
  | f + 1, p, o => if o.length < n then rootsTo n cube f (p + 1) (if prime p then o ++ [root p cube] else o) else o
def roots (n : Nat) (cube : Bool) : List Nat := rootsTo n cube 398 2 []
def rowTo (cube : Bool) : Nat → Nat → Nat → List Nat
  | 0, _, _ => []
  | _ + 1, 0, _ => []
  | c + 1, f + 1, p => if prime p then root p cube :: rowTo cube c f (p + 1) else rowTo cube (c + 1) f (p + 1)
theorem rootsTo_row (n : Nat) (cube : Bool) : ∀ f p o, rootsTo n cube f p o = o ++ rowTo cube (n - o.length) f p
  | 0, p, o => by
    unfold rootsTo
    cases n - o.length <;> simp [rowTo]
  | f + 1, p, o => by
    unfold rootsTo
    by_cases h : o.length < n
    · obtain ⟨c, hc⟩ : ∃ c, n - o.length = c + 1 := ⟨n - o.length - 1, by omega⟩
      rw [if_pos h, rootsTo_row n cube f, hc]
      by_cases hp : prime p = true
      · simp only [hp, if_true, rowTo, List.length_append, List.length_singleton]
        rw [show n - (o.length + 1) = c from by omega]
        simp
      · simp only [hp, rowTo]
        simp [hc]
    · rw [if_neg h, show n - o.length = 0 from by omega]
      simp [rowTo]
end Rf
end Go.Proofs.YtagdlpodpokmmaaDoor.S2
/- The roots that the document's answer finds are the numbers of the plain mathematics: by the kernel's own reckoning, root by root. -/
namespace Go.Proofs.YtagdlpodpokmmaaDoor.S2
open Go.Proofs.YtagdlpodpokmmaaDoor.Sp
namespace Rf
theorem row_take {cube : Bool} {c f p x : Nat} {l : List Nat} (q : Nat) (hq : p + 1 = q) (hp : prime p = true) (hr : root p cube = x) (h : rowTo cube c f q = l) : rowTo cube (c + 1) (f + 1) p = x :: l := by
  subst hq
  subst h
  simp [rowTo, hp, hr]
theorem row_skip {cube : Bool} {c f p : Nat} {l : List Nat} (q : Nat) (hq : p + 1 = q) (hp : prime p = false) (h : rowTo cube (c + 1) f q = l) : rowTo cube (c + 1) (f + 1) p = l := by
  subst hq
  subst h
  simp [rowTo, hp]
theorem square2 : root 2 false = 0x6a09e667 := by decide +kernel
theorem square3 : root 3 false = 0xbb67ae85 := by decide +kernel
theorem square5 : root 5 false = 0x3c6ef372 := by decide +kernel
theorem square7 : root 7 false = 0xa54ff53a := by decide +kernel
theorem square11 : root 11 false = 0x510e527f := by decide +kernel
theorem square13 : root 13 false = 0x9b05688c := by decide +kernel
theorem square17 : root 17 false = 0x1f83d9ab := by decide +kernel
theorem square19 : root 19 false = 0x5be0cd19 := by decide +kernel
theorem cube2 : root 2 true = 0x428a2f98 := by decide +kernel
theorem cube3 : root 3 true = 0x71374491 := by decide +kernel
theorem cube5 : root 5 true = 0xb5c0fbcf := by decide +kernel
theorem cube7 : root 7 true = 0xe9b5dba5 := by decide +kernel
theorem cube11 : root 11 true = 0x3956c25b := by decide +kernel
theorem cube13 : root 13 true = 0x59f111f1 := by decide +kernel
theorem cube17 : root 17 true = 0x923f82a4 := by decide +kernel
theorem cube19 : root 19 true = 0xab1c5ed5 := by decide +kernel
theorem cube23 : root 23 true = 0xd807aa98 := by decide +kernel
theorem cube29 : root 29 true = 0x12835b01 := by decide +kernel
theorem cube31 : root 31 true = 0x243185be := by decide +kernel
theorem cube37 : root 37 true = 0x550c7dc3 := by decide +kernel
theorem cube41 : root 41 true = 0x72be5d74 := by decide +kernel
theorem cube43 : root 43 true = 0x80deb1fe := by decide +kernel
theorem cube47 : root 47 true = 0x9bdc06a7 := by decide +kernel
theorem cube53 : root 53 true = 0xc19bf174 := by decide +kernel
theorem cube59 : root 59 true = 0xe49b69c1 := by decide +kernel
theorem cube61 : root 61 true = 0xefbe4786 := by decide +kernel
theorem cube67 : root 67 true = 0x0fc19dc6 := by decide +kernel
theorem cube71 : root 71 true = 0x240ca1cc := by decide +kernel
theorem cube73 : root 73 true = 0x2de92c6f := by decide +kernel
theorem cube79 : root 79 true = 0x4a7484aa := by decide +kernel
theorem cube83 : root 83 true = 0x5cb0a9dc := by decide +kernel
theorem cube89 : root 89 true = 0x76f988da := by decide +kernel
theorem cube97 : root 97 true = 0x983e5152 := by decide +kernel
theorem cube101 : root 101 true = 0xa831c66d := by decide +kernel
theorem cube103 : root 103 true = 0xb00327c8 := by decide +kernel
theorem cube107 : root 107 true = 0xbf597fc7 := by decide +kernel
theorem cube109 : root 109 true = 0xc6e00bf3 := by decide +kernel
theorem cube113 : root 113 true = 0xd5a79147 := by decide +kernel
theorem cube127 : root 127 true = 0x06ca6351 := by decide +kernel
theorem cube131 : root 131 true = 0x14292967 := by decide +kernel
theorem cube137 : root 137 true = 0x27b70a85 := by decide +kernel
theorem cube139 : root 139 true = 0x2e1b2138 := by decide +kernel
theorem cube149 : root 149 true = 0x4d2c6dfc := by decide +kernel
theorem cube151 : root 151 true = 0x53380d13 := by decide +kernel
theorem cube157 : root 157 true = 0x650a7354 := by decide +kernel
theorem cube163 : root 163 true = 0x766a0abb := by decide +kernel
theorem cube167 : root 167 true = 0x81c2c92e := by decide +kernel
theorem cube173 : root 173 true = 0x92722c85 := by decide +kernel
theorem cube179 : root 179 true = 0xa2bfe8a1 := by decide +kernel
theorem cube181 : root 181 true = 0xa81a664b := by decide +kernel
theorem cube191 : root 191 true = 0xc24b8b70 := by decide +kernel
theorem cube193 : root 193 true = 0xc76c51a3 := by decide +kernel
theorem cube197 : root 197 true = 0xd192e819 := by decide +kernel
theorem cube199 : root 199 true = 0xd6990624 := by decide +kernel
theorem cube211 : root 211 true = 0xf40e3585 := by decide +kernel
theorem cube223 : root 223 true = 0x106aa070 := by decide +kernel
theorem cube227 : root 227 true = 0x19a4c116 := by decide +kernel
theorem cube229 : root 229 true = 0x1e376c08 := by decide +kernel
theorem cube233 : root 233 true = 0x2748774c := by decide +kernel
theorem cube239 : root 239 true = 0x34b0bcb5 := by decide +kernel
theorem cube241 : root 241 true = 0x391c0cb3 := by decide +kernel
theorem cube251 : root 251 true = 0x4ed8aa4a := by decide +kernel
theorem cube257 : root 257 true = 0x5b9cca4f := by decide +kernel
theorem cube263 : root 263 true = 0x682e6ff3 := by decide +kernel
theorem cube269 : root 269 true = 0x748f82ee := by decide +kernel
theorem cube271 : root 271 true = 0x78a5636f := by decide +kernel
theorem cube277 : root 277 true = 0x84c87814 := by decide +kernel
theorem cube281 : root 281 true = 0x8cc70208 := by decide +kernel
theorem cube283 : root 283 true = 0x90befffa := by decide +kernel
theorem cube293 : root 293 true = 0xa4506ceb := by decide +kernel
theorem cube307 : root 307 true = 0xbef9a3f7 := by decide +kernel
theorem cube311 : root 311 true = 0xc67178f2 := by decide +kernel
theorem row8 : rowTo false 8 398 2 = [0x6a09e667, 0xbb67ae85, 0x3c6ef372, 0xa54ff53a, 0x510e527f, 0x9b05688c, 0x1f83d9ab, 0x5be0cd19] := by
  refine row_take 3 rfl (by decide +kernel) square2 ?_
  refine row_take 4 rfl (by decide +kernel) square3 ?_
  refine row_skip 5 rfl (by decide +kernel) ?_
  refine row_take 6 rfl (by decide +kernel) square5 ?_
  refine row_skip 7 rfl (by decide +kernel) ?_
  refine row_take 8 rfl (by decide +kernel) square7 ?_
  refine row_skip 9 rfl (by decide +kernel) ?_
  refine row_skip 10 rfl (by decide +kernel) ?_
  refine row_skip 11 rfl (by decide +kernel) ?_
  refine row_take 12 rfl (by decide +kernel) square11 ?_
  refine row_skip 13 rfl (by decide +kernel) ?_
  refine row_take 14 rfl (by decide +kernel) square13 ?_
  refine row_skip 15 rfl (by decide +kernel) ?_
  refine row_skip 16 rfl (by decide +kernel) ?_
  refine row_skip 17 rfl (by decide +kernel) ?_
  refine row_take 18 rfl (by decide +kernel) square17 ?_
  refine row_skip 19 rfl (by decide +kernel) ?_
  refine row_take 20 rfl (by decide +kernel) square19 ?_
  rfl
theorem row64 : rowTo true 64 398 2 = [0x428a2f98, 0x71374491, 0xb5c0fbcf, 0xe9b5dba5, 0x3956c25b, 0x59f111f1, 0x923f82a4, 0xab1c5ed5, 0xd807aa98, 0x12835b01, 0x243185be, 0x550c7dc3, 0x72be5d74, 0x80deb1fe, 0x9bdc06a7, 0xc19bf174, 0xe49b69c1, 0xefbe4786, 0x0fc19dc6, 0x240ca1cc, 0x2de92c6f, 0x4a7484aa, 0x5cb0a9dc, 0x76f988da, 0x983e5152, 0xa831c66d, 0xb00327c8, 0xbf597fc7, 0xc6e00bf3, 0xd5a79147, 0x06ca6351, 0x14292967, 0x27b70a85, 0x2e1b2138, 0x4d2c6dfc, 0x53380d13, 0x650a7354, 0x766a0abb, 0x81c2c92e, 0x92722c85, 0xa2bfe8a1, 0xa81a664b, 0xc24b8b70, 0xc76c51a3, 0xd192e819, 0xd6990624, 0xf40e3585, 0x106aa070, 0x19a4c116, 0x1e376c08, 0x2748774c, 0x34b0bcb5, 0x391c0cb3, 0x4ed8aa4a, 0x5b9cca4f, 0x682e6ff3, 0x748f82ee, 0x78a5636f, 0x84c87814, 0x8cc70208, 0x90befffa, 0xa4506ceb, 0xbef9a3f7, 0xc67178f2] := by
  refine row_take 3 rfl (by decide +kernel) cube2 ?_
  refine row_take 4 rfl (by decide +kernel) cube3 ?_
  refine row_skip 5 rfl (by decide +kernel) ?_
  refine row_take 6 rfl (by decide +kernel) cube5 ?_
  refine row_skip 7 rfl (by decide +kernel) ?_
  refine row_take 8 rfl (by decide +kernel) cube7 ?_
  refine row_skip 9 rfl (by decide +kernel) ?_
  refine row_skip 10 rfl (by decide +kernel) ?_
  refine row_skip 11 rfl (by decide +kernel) ?_
  refine row_take 12 rfl (by decide +kernel) cube11 ?_
  refine row_skip 13 rfl (by decide +kernel) ?_
  refine row_take 14 rfl (by decide +kernel) cube13 ?_
  refine row_skip 15 rfl (by decide +kernel) ?_
  refine row_skip 16 rfl (by decide +kernel) ?_
  refine row_skip 17 rfl (by decide +kernel) ?_
  refine row_take 18 rfl (by decide +kernel) cube17 ?_
  refine row_skip 19 rfl (by decide +kernel) ?_
  refine row_take 20 rfl (by decide +kernel) cube19 ?_
  refine row_skip 21 rfl (by decide +kernel) ?_
  refine row_skip 22 rfl (by decide +kernel) ?_
  refine row_skip 23 rfl (by decide +kernel) ?_
  refine row_take 24 rfl (by decide +kernel) cube23 ?_
  refine row_skip 25 rfl (by decide +kernel) ?_
  refine row_skip 26 rfl (by decide +kernel) ?_
  refine row_skip 27 rfl (by decide +kernel) ?_
  refine row_skip 28 rfl (by decide +kernel) ?_
  refine row_skip 29 rfl (by decide +kernel) ?_
  refine row_take 30 rfl (by decide +kernel) cube29 ?_
  refine row_skip 31 rfl (by decide +kernel) ?_
  refine row_take 32 rfl (by decide +kernel) cube31 ?_
  refine row_skip 33 rfl (by decide +kernel) ?_
  refine row_skip 34 rfl (by decide +kernel) ?_
  refine row_skip 35 rfl (by decide +kernel) ?_
  refine row_skip 36 rfl (by decide +kernel) ?_
  refine row_skip 37 rfl (by decide +kernel) ?_
  refine row_take 38 rfl (by decide +kernel) cube37 ?_
  refine row_skip 39 rfl (by decide +kernel) ?_
  refine row_skip 40 rfl (by decide +kernel) ?_
  refine row_skip 41 rfl (by decide +kernel) ?_
  refine row_take 42 rfl (by decide +kernel) cube41 ?_
  refine row_skip 43 rfl (by decide +kernel) ?_
  refine row_take 44 rfl (by decide +kernel) cube43 ?_
  refine row_skip 45 rfl (by decide +kernel) ?_
  refine row_skip 46 rfl (by decide +kernel) ?_
  refine row_skip 47 rfl (by decide +kernel) ?_
  refine row_take 48 rfl (by decide +kernel) cube47 ?_
  refine row_skip 49 rfl (by decide +kernel) ?_
  refine row_skip 50 rfl (by decide +kernel) ?_
  refine row_skip 51 rfl (by decide +kernel) ?_
  refine row_skip 52 rfl (by decide +kernel) ?_
  refine row_skip 53 rfl (by decide +kernel) ?_
  refine row_take 54 rfl (by decide +kernel) cube53 ?_
  refine row_skip 55 rfl (by decide +kernel) ?_
  refine row_skip 56 rfl (by decide +kernel) ?_
  refine row_skip 57 rfl (by decide +kernel) ?_
  refine row_skip 58 rfl (by decide +kernel) ?_
  refine row_skip 59 rfl (by decide +kernel) ?_
  refine row_take 60 rfl (by decide +kernel) cube59 ?_
  refine row_skip 61 rfl (by decide +kernel) ?_
  refine row_take 62 rfl (by decide +kernel) cube61 ?_
  refine row_skip 63 rfl (by decide +kernel) ?_
  refine row_skip 64 rfl (by decide +kernel) ?_
  refine row_skip 65 rfl (by decide +kernel) ?_
  refine row_skip 66 rfl (by decide +kernel) ?_
  refine row_skip 67 rfl (by decide +kernel) ?_
  refine row_take 68 rfl (by decide +kernel) cube67 ?_
  refine row_skip 69 rfl (by decide +kernel) ?_
  refine row_skip 70 rfl (by decide +kernel) ?_
  refine row_skip 71 rfl (by decide +kernel) ?_
  refine row_take 72 rfl (by decide +kernel) cube71 ?_
  refine row_skip 73 rfl (by decide +kernel) ?_
  refine row_take 74 rfl (by decide +kernel) cube73 ?_
  refine row_skip 75 rfl (by decide +kernel) ?_
  refine row_skip 76 rfl (by decide +kernel) ?_
  refine row_skip 77 rfl (by decide +kernel) ?_
  refine row_skip 78 rfl (by decide +kernel) ?_
  refine row_skip 79 rfl (by decide +kernel) ?_
  refine row_take 80 rfl (by decide +kernel) cube79 ?_
  refine row_skip 81 rfl (by decide +kernel) ?_
  refine row_skip 82 rfl (by decide +kernel) ?_
  refine row_skip 83 rfl (by decide +kernel) ?_
  refine row_take 84 rfl (by decide +kernel) cube83 ?_
  refine row_skip 85 rfl (by decide +kernel) ?_
  refine row_skip 86 rfl (by decide +kernel) ?_
  refine row_skip 87 rfl (by decide +kernel) ?_
  refine row_skip 88 rfl (by decide +kernel) ?_
  refine row_skip 89 rfl (by decide +kernel) ?_
  refine row_take 90 rfl (by decide +kernel) cube89 ?_
  refine row_skip 91 rfl (by decide +kernel) ?_
  refine row_skip 92 rfl (by decide +kernel) ?_
  refine row_skip 93 rfl (by decide +kernel) ?_
  refine row_skip 94 rfl (by decide +kernel) ?_
  refine row_skip 95 rfl (by decide +kernel) ?_
  refine row_skip 96 rfl (by decide +kernel) ?_
  refine row_skip 97 rfl (by decide +kernel) ?_
  refine row_take 98 rfl (by decide +kernel) cube97 ?_
  refine row_skip 99 rfl (by decide +kernel) ?_
  refine row_skip 100 rfl (by decide +kernel) ?_
  refine row_skip 101 rfl (by decide +kernel) ?_
  refine row_take 102 rfl (by decide +kernel) cube101 ?_
  refine row_skip 103 rfl (by decide +kernel) ?_
  refine row_take 104 rfl (by decide +kernel) cube103 ?_
  refine row_skip 105 rfl (by decide +kernel) ?_
  refine row_skip 106 rfl (by decide +kernel) ?_
  refine row_skip 107 rfl (by decide +kernel) ?_
  refine row_take 108 rfl (by decide +kernel) cube107 ?_
  refine row_skip 109 rfl (by decide +kernel) ?_
  refine row_take 110 rfl (by decide +kernel) cube109 ?_
  refine row_skip 111 rfl (by decide +kernel) ?_
  refine row_skip 112 rfl (by decide +kernel) ?_
  refine row_skip 113 rfl (by decide +kernel) ?_
  refine row_take 114 rfl (by decide +kernel) cube113 ?_
  refine row_skip 115 rfl (by decide +kernel) ?_
  refine row_skip 116 rfl (by decide +kernel) ?_
  refine row_skip 117 rfl (by decide +kernel) ?_
  refine row_skip 118 rfl (by decide +kernel) ?_
  refine row_skip 119 rfl (by decide +kernel) ?_
  refine row_skip 120 rfl (by decide +kernel) ?_
  refine row_skip 121 rfl (by decide +kernel) ?_
  refine row_skip 122 rfl (by decide +kernel) ?_
  refine row_skip 123 rfl (by decide +kernel) ?_
  refine row_skip 124 rfl (by decide +kernel) ?_
  refine row_skip 125 rfl (by decide +kernel) ?_
  refine row_skip 126 rfl (by decide +kernel) ?_
  refine row_skip 127 rfl (by decide +kernel) ?_
  refine row_take 128 rfl (by decide +kernel) cube127 ?_
  refine row_skip 129 rfl (by decide +kernel) ?_
  refine row_skip 130 rfl (by decide +kernel) ?_
  refine row_skip 131 rfl (by decide +kernel) ?_
  refine row_take 132 rfl (by decide +kernel) cube131 ?_
  refine row_skip 133 rfl (by decide +kernel) ?_
  refine row_skip 134 rfl (by decide +kernel) ?_
  refine row_skip 135 rfl (by decide +kernel) ?_
  refine row_skip 136 rfl (by decide +kernel) ?_
  refine row_skip 137 rfl (by decide +kernel) ?_
  refine row_take 138 rfl (by decide +kernel) cube137 ?_
  refine row_skip 139 rfl (by decide +kernel) ?_
  refine row_take 140 rfl (by decide +kernel) cube139 ?_
  refine row_skip 141 rfl (by decide +kernel) ?_
  refine row_skip 142 rfl (by decide +kernel) ?_
  refine row_skip 143 rfl (by decide +kernel) ?_
  refine row_skip 144 rfl (by decide +kernel) ?_
  refine row_skip 145 rfl (by decide +kernel) ?_
  refine row_skip 146 rfl (by decide +kernel) ?_
  refine row_skip 147 rfl (by decide +kernel) ?_
  refine row_skip 148 rfl (by decide +kernel) ?_
  refine row_skip 149 rfl (by decide +kernel) ?_
  refine row_take 150 rfl (by decide +kernel) cube149 ?_
  refine row_skip 151 rfl (by decide +kernel) ?_
  refine row_take 152 rfl (by decide +kernel) cube151 ?_
  refine row_skip 153 rfl (by decide +kernel) ?_
  refine row_skip 154 rfl (by decide +kernel) ?_
  refine row_skip 155 rfl (by decide +kernel) ?_
  refine row_skip 156 rfl (by decide +kernel) ?_
  refine row_skip 157 rfl (by decide +kernel) ?_
  refine row_take 158 rfl (by decide +kernel) cube157 ?_
  refine row_skip 159 rfl (by decide +kernel) ?_
  refine row_skip 160 rfl (by decide +kernel) ?_
  refine row_skip 161 rfl (by decide +kernel) ?_
  refine row_skip 162 rfl (by decide +kernel) ?_
  refine row_skip 163 rfl (by decide +kernel) ?_
  refine row_take 164 rfl (by decide +kernel) cube163 ?_
  refine row_skip 165 rfl (by decide +kernel) ?_
  refine row_skip 166 rfl (by decide +kernel) ?_
  refine row_skip 167 rfl (by decide +kernel) ?_
  refine row_take 168 rfl (by decide +kernel) cube167 ?_
  refine row_skip 169 rfl (by decide +kernel) ?_
  refine row_skip 170 rfl (by decide +kernel) ?_
  refine row_skip 171 rfl (by decide +kernel) ?_
  refine row_skip 172 rfl (by decide +kernel) ?_
  refine row_skip 173 rfl (by decide +kernel) ?_
  refine row_take 174 rfl (by decide +kernel) cube173 ?_
  refine row_skip 175 rfl (by decide +kernel) ?_
  refine row_skip 176 rfl (by decide +kernel) ?_
  refine row_skip 177 rfl (by decide +kernel) ?_
  refine row_skip 178 rfl (by decide +kernel) ?_
  refine row_skip 179 rfl (by decide +kernel) ?_
  refine row_take 180 rfl (by decide +kernel) cube179 ?_
  refine row_skip 181 rfl (by decide +kernel) ?_
  refine row_take 182 rfl (by decide +kernel) cube181 ?_
  refine row_skip 183 rfl (by decide +kernel) ?_
  refine row_skip 184 rfl (by decide +kernel) ?_
  refine row_skip 185 rfl (by decide +kernel) ?_
  refine row_skip 186 rfl (by decide +kernel) ?_
  refine row_skip 187 rfl (by decide +kernel) ?_
  refine row_skip 188 rfl (by decide +kernel) ?_
  refine row_skip 189 rfl (by decide +kernel) ?_
  refine row_skip 190 rfl (by decide +kernel) ?_
  refine row_skip 191 rfl (by decide +kernel) ?_
  refine row_take 192 rfl (by decide +kernel) cube191 ?_
  refine row_skip 193 rfl (by decide +kernel) ?_
  refine row_take 194 rfl (by decide +kernel) cube193 ?_
  refine row_skip 195 rfl (by decide +kernel) ?_
  refine row_skip 196 rfl (by decide +kernel) ?_
  refine row_skip 197 rfl (by decide +kernel) ?_
  refine row_take 198 rfl (by decide +kernel) cube197 ?_
  refine row_skip 199 rfl (by decide +kernel) ?_
  refine row_take 200 rfl (by decide +kernel) cube199 ?_
  refine row_skip 201 rfl (by decide +kernel) ?_
  refine row_skip 202 rfl (by decide +kernel) ?_
  refine row_skip 203 rfl (by decide +kernel) ?_
  refine row_skip 204 rfl (by decide +kernel) ?_
  refine row_skip 205 rfl (by decide +kernel) ?_
  refine row_skip 206 rfl (by decide +kernel) ?_
  refine row_skip 207 rfl (by decide +kernel) ?_
  refine row_skip 208 rfl (by decide +kernel) ?_
  refine row_skip 209 rfl (by decide +kernel) ?_
  refine row_skip 210 rfl (by decide +kernel) ?_
  refine row_skip 211 rfl (by decide +kernel) ?_
  refine row_take 212 rfl (by decide +kernel) cube211 ?_
  refine row_skip 213 rfl (by decide +kernel) ?_
  refine row_skip 214 rfl (by decide +kernel) ?_
  refine row_skip 215 rfl (by decide +kernel) ?_
  refine row_skip 216 rfl (by decide +kernel) ?_
  refine row_skip 217 rfl (by decide +kernel) ?_
  refine row_skip 218 rfl (by decide +kernel) ?_
  refine row_skip 219 rfl (by decide +kernel) ?_
  refine row_skip 220 rfl (by decide +kernel) ?_
  refine row_skip 221 rfl (by decide +kernel) ?_
  refine row_skip 222 rfl (by decide +kernel) ?_
  refine row_skip 223 rfl (by decide +kernel) ?_
  refine row_take 224 rfl (by decide +kernel) cube223 ?_
  refine row_skip 225 rfl (by decide +kernel) ?_
  refine row_skip 226 rfl (by decide +kernel) ?_
  refine row_skip 227 rfl (by decide +kernel) ?_
  refine row_take 228 rfl (by decide +kernel) cube227 ?_
  refine row_skip 229 rfl (by decide +kernel) ?_
  refine row_take 230 rfl (by decide +kernel) cube229 ?_
  refine row_skip 231 rfl (by decide +kernel) ?_
  refine row_skip 232 rfl (by decide +kernel) ?_
  refine row_skip 233 rfl (by decide +kernel) ?_
  refine row_take 234 rfl (by decide +kernel) cube233 ?_
  refine row_skip 235 rfl (by decide +kernel) ?_
  refine row_skip 236 rfl (by decide +kernel) ?_
  refine row_skip 237 rfl (by decide +kernel) ?_
  refine row_skip 238 rfl (by decide +kernel) ?_
  refine row_skip 239 rfl (by decide +kernel) ?_
  refine row_take 240 rfl (by decide +kernel) cube239 ?_
  refine row_skip 241 rfl (by decide +kernel) ?_
  refine row_take 242 rfl (by decide +kernel) cube241 ?_
  refine row_skip 243 rfl (by decide +kernel) ?_
  refine row_skip 244 rfl (by decide +kernel) ?_
  refine row_skip 245 rfl (by decide +kernel) ?_
  refine row_skip 246 rfl (by decide +kernel) ?_
  refine row_skip 247 rfl (by decide +kernel) ?_
  refine row_skip 248 rfl (by decide +kernel) ?_
  refine row_skip 249 rfl (by decide +kernel) ?_
  refine row_skip 250 rfl (by decide +kernel) ?_
  refine row_skip 251 rfl (by decide +kernel) ?_
  refine row_take 252 rfl (by decide +kernel) cube251 ?_
  refine row_skip 253 rfl (by decide +kernel) ?_
  refine row_skip 254 rfl (by decide +kernel) ?_
  refine row_skip 255 rfl (by decide +kernel) ?_
  refine row_skip 256 rfl (by decide +kernel) ?_
  refine row_skip 257 rfl (by decide +kernel) ?_
  refine row_take 258 rfl (by decide +kernel) cube257 ?_
  refine row_skip 259 rfl (by decide +kernel) ?_
  refine row_skip 260 rfl (by decide +kernel) ?_
  refine row_skip 261 rfl (by decide +kernel) ?_
  refine row_skip 262 rfl (by decide +kernel) ?_
  refine row_skip 263 rfl (by decide +kernel) ?_
  refine row_take 264 rfl (by decide +kernel) cube263 ?_
  refine row_skip 265 rfl (by decide +kernel) ?_
  refine row_skip 266 rfl (by decide +kernel) ?_
  refine row_skip 267 rfl (by decide +kernel) ?_
  refine row_skip 268 rfl (by decide +kernel) ?_
  refine row_skip 269 rfl (by decide +kernel) ?_
  refine row_take 270 rfl (by decide +kernel) cube269 ?_
  refine row_skip 271 rfl (by decide +kernel) ?_
  refine row_take 272 rfl (by decide +kernel) cube271 ?_
  refine row_skip 273 rfl (by decide +kernel) ?_
  refine row_skip 274 rfl (by decide +kernel) ?_
  refine row_skip 275 rfl (by decide +kernel) ?_
  refine row_skip 276 rfl (by decide +kernel) ?_
  refine row_skip 277 rfl (by decide +kernel) ?_
  refine row_take 278 rfl (by decide +kernel) cube277 ?_
  refine row_skip 279 rfl (by decide +kernel) ?_
  refine row_skip 280 rfl (by decide +kernel) ?_
  refine row_skip 281 rfl (by decide +kernel) ?_
  refine row_take 282 rfl (by decide +kernel) cube281 ?_
  refine row_skip 283 rfl (by decide +kernel) ?_
  refine row_take 284 rfl (by decide +kernel) cube283 ?_
  refine row_skip 285 rfl (by decide +kernel) ?_
  refine row_skip 286 rfl (by decide +kernel) ?_
  refine row_skip 287 rfl (by decide +kernel) ?_
  refine row_skip 288 rfl (by decide +kernel) ?_
  refine row_skip 289 rfl (by decide +kernel) ?_
  refine row_skip 290 rfl (by decide +kernel) ?_
  refine row_skip 291 rfl (by decide +kernel) ?_
  refine row_skip 292 rfl (by decide +kernel) ?_
  refine row_skip 293 rfl (by decide +kernel) ?_
  refine row_take 294 rfl (by decide +kernel) cube293 ?_
  refine row_skip 295 rfl (by decide +kernel) ?_
  refine row_skip 296 rfl (by decide +kernel) ?_
  refine row_skip 297 rfl (by decide +kernel) ?_
  refine row_skip 298 rfl (by decide +kernel) ?_
  refine row_skip 299 rfl (by decide +kernel) ?_
  refine row_skip 300 rfl (by decide +kernel) ?_
  refine row_skip 301 rfl (by decide +kernel) ?_
  refine row_skip 302 rfl (by decide +kernel) ?_
  refine row_skip 303 rfl (by decide +kernel) ?_
  refine row_skip 304 rfl (by decide +kernel) ?_
  refine row_skip 305 rfl (by decide +kernel) ?_
  refine row_skip 306 rfl (by decide +kernel) ?_
  refine row_skip 307 rfl (by decide +kernel) ?_
  refine row_take 308 rfl (by decide +kernel) cube307 ?_
  refine row_skip 309 rfl (by decide +kernel) ?_
  refine row_skip 310 rfl (by decide +kernel) ?_
  refine row_skip 311 rfl (by decide +kernel) ?_
  refine row_take 312 rfl (by decide +kernel) cube311 ?_
  rfl
theorem roots8 : roots 8 false = [0x6a09e667, 0xbb67ae85, 0x3c6ef372, 0xa54ff53a, 0x510e527f, 0x9b05688c, 0x1f83d9ab, 0x5be0cd19] := by
  unfold roots
  rw [rootsTo_row, List.nil_append]
  exact row8
theorem roots64 : roots 64 true = [0x428a2f98, 0x71374491, 0xb5c0fbcf, 0xe9b5dba5, 0x3956c25b, 0x59f111f1, 0x923f82a4, 0xab1c5ed5, 0xd807aa98, 0x12835b01, 0x243185be, 0x550c7dc3, 0x72be5d74, 0x80deb1fe, 0x9bdc06a7, 0xc19bf174, 0xe49b69c1, 0xefbe4786, 0x0fc19dc6, 0x240ca1cc, 0x2de92c6f, 0x4a7484aa, 0x5cb0a9dc, 0x76f988da, 0x983e5152, 0xa831c66d, 0xb00327c8, 0xbf597fc7, 0xc6e00bf3, 0xd5a79147, 0x06ca6351, 0x14292967, 0x27b70a85, 0x2e1b2138, 0x4d2c6dfc, 0x53380d13, 0x650a7354, 0x766a0abb, 0x81c2c92e, 0x92722c85, 0xa2bfe8a1, 0xa81a664b, 0xc24b8b70, 0xc76c51a3, 0xd192e819, 0xd6990624, 0xf40e3585, 0x106aa070, 0x19a4c116, 0x1e376c08, 0x2748774c, 0x34b0bcb5, 0x391c0cb3, 0x4ed8aa4a, 0x5b9cca4f, 0x682e6ff3, 0x748f82ee, 0x78a5636f, 0x84c87814, 0x8cc70208, 0x90befffa, 0xa4506ceb, 0xbef9a3f7, 0xc67178f2] := by
  unfold roots
  rw [rootsTo_row, List.nil_append]
  exact row64
end Rf
end Go.Proofs.YtagdlpodpokmmaaDoor.S2
/- The contracts of the leaves of the document's answer: top, turn, word, below. -/
namespace Go.Proofs.YtagdlpodpokmmaaDoor.S2
open Go.Proofs.YtagdlpodpokmmaaDoor.Sp
open Go.RowKit
theorem i64_xor_nat (a b : Nat) (ha : a < 4294967296) (hb : b < 4294967296) : bits .xor .i64 (a : Int) (b : Int) = ((a ^^^ b : Nat) : Int) := by
  have hx : a ^^^ b < 2 ^ 32 := Nat.xor_lt_two_pow (by omega) (by omega)
  have ea : (BitVec.ofInt 64 (a : Int)).toNat = a := by simp; omega
  have eb : (BitVec.ofInt 64 (b : Int)).toNat = b := by simp; omega
  show IntKind.i64.wrap ((BitVec.ofInt 64 (a : Int) ^^^ BitVec.ofInt 64 (b : Int)).toNat : Int) = _
  rw [BitVec.toNat_xor, ea, eb, i64_id _ (by omega)]
theorem i64_and_nat (a b : Nat) (ha : a < 4294967296) (hb : b < 4294967296) : bits .and .i64 (a : Int) (b : Int) = ((a &&& b : Nat) : Int) := by
  have hx : a &&& b < 4294967296 := Sp.and_lt ha
  have ea : (BitVec.ofInt 64 (a : Int)).toNat = a := by simp; omega
  have eb : (BitVec.ofInt 64 (b : Int)).toNat = b := by simp; omega
  show IntKind.i64.wrap ((BitVec.ofInt 64 (a : Int) &&& BitVec.ofInt 64 (b : Int)).toNat : Int) = _
  rw [BitVec.toNat_and, ea, eb, i64_id _ (by omega)]
theorem rotr_sum (x n : Nat) (hn : n ≤ 32) : Sp.rotr x n = x / 2 ^ n + x % 2 ^ n * 2 ^ (32 - n) ∨ ¬ x < 4294967296 := by
  by_cases hx : x < 4294967296
  · left
    unfold Sp.rotr
    have e : (4294967296 : Nat) = 2 ^ n * 2 ^ (32 - n) := by rw [← Nat.pow_add, show n + (32 - n) = 32 from by omega]
    have hd : x / 2 ^ n < 2 ^ (32 - n) := by
      rw [Nat.div_lt_iff_lt_mul (Nat.two_pow_pos n), Nat.mul_comm, ← e]; exact hx
    rw [e, Nat.mul_mod_mul_right, Nat.mul_comm _ (2 ^ (32 - n)), ← Nat.two_pow_add_eq_or_of_lt hd]
    omega
  · exact .inr hx
theorem rotr_eq (x n : Nat) (hn : n ≤ 32) (hx : x < 4294967296) : Sp.rotr x n = x / 2 ^ n + x % 2 ^ n * 2 ^ (32 - n) := (rotr_sum x n hn).resolve_right (fun h => h hx)
set_option maxHeartbeats 400000 in
theorem top_any (x : Nat) (w : World) (hx : x ≤ 9223372036854775807) : Calls Tryd.prog 47 #[.int .i64 x] w fun e w' => e = .returned (.int .i64 (x % 4294967296 : Nat)) ∧ w' = w := by
  go_enter Tryd.func47, Tryd.ntmps47
  go_wp2
  go_ret
  exact ⟨ret_int (by omega), rfl⟩
set_option maxHeartbeats 400000 in
theorem turn2 (x : Nat) (w : World) (hx : x < 4294967296) : Calls Tryd.prog 48 #[.int .i64 x, .int .i64 2] w fun e w' => e = .returned (.int .i64 (Sp.rotr x 2 : Nat)) ∧ ∃ n, w' = w.drewN n := by
  go_enter Tryd.func48, Tryd.ntmps48
  go_wp2_with fail
  go_quiet (fail)
  go_wp2
  go_ret
  refine ⟨ret_int ?_, nq, rfl⟩
  rw [rotr_eq x 2 (by decide) hx]
  omega
set_option maxHeartbeats 400000 in
theorem turn6 (x : Nat) (w : World) (hx : x < 4294967296) : Calls Tryd.prog 48 #[.int .i64 x, .int .i64 6] w fun e w' => e = .returned (.int .i64 (Sp.rotr x 6 : Nat)) ∧ ∃ n, w' = w.drewN n := by
  go_enter Tryd.func48, Tryd.ntmps48
  go_wp2_with fail
  go_quiet (fail)
  go_wp2
  go_ret
  refine ⟨ret_int ?_, nq, rfl⟩
  rw [rotr_eq x 6 (by decide) hx]
  omega
set_option maxHeartbeats 400000 in
theorem turn7 (x : Nat) (w : World) (hx : x < 4294967296) : Calls Tryd.prog 48 #[.int .i64 x, .int .i64 7] w fun e w' => e = .returned (.int .i64 (Sp.rotr x 7 : Nat)) ∧ ∃ n, w' = w.drewN n := by
  go_enter Tryd.func48, Tryd.ntmps48
  go_wp2_with fail
  go_quiet (fail)
  go_wp2
  go_ret
  refine ⟨ret_int ?_, nq, rfl⟩
  rw [rotr_eq x 7 (by decide) hx]
  omega
set_option maxHeartbeats 400000 in
theorem turn11 (x : Nat) (w : World) (hx : x < 4294967296) : Calls Tryd.prog 48 #[.int .i64 x, .int .i64 11] w fun e w' => e = .returned (.int .i64 (Sp.rotr x 11 : Nat)) ∧ ∃ n, w' = w.drewN n := by
  go_enter Tryd.func48, Tryd.ntmps48
  go_wp2_with fail
  go_quiet (fail)
  go_wp2
  go_ret
  refine ⟨ret_int ?_, nq, rfl⟩
  rw [rotr_eq x 11 (by decide) hx]
  omega
set_option maxHeartbeats 400000 in
theorem turn13 (x : Nat) (w : World) (hx : x < 4294967296) : Calls Tryd.prog 48 #[.int .i64 x, .int .i64 13] w fun e w' => e = .returned (.int .i64 (Sp.rotr x 13 : Nat)) ∧ ∃ n, w' = w.drewN n := by
  go_enter Tryd.func48, Tryd.ntmps48
  go_wp2_with fail
  go_quiet (fail)
  go_wp2
  go_ret
  refine ⟨ret_int ?_, nq, rfl⟩
  rw [rotr_eq x 13 (by decide) hx]
  omega
set_option maxHeartbeats 400000 in
theorem turn17 (x : Nat) (w : World) (hx : x < 4294967296) : Calls Tryd.prog 48 #[.int .i64 x, .int .i64 17] w fun e w' => e = .returned (.int .i64 (Sp.rotr x 17 : Nat)) ∧ ∃ n, w' = w.drewN n := by
  go_enter Tryd.func48, Tryd.ntmps48
  go_wp2_with fail
  go_quiet (fail)
  go_wp2
  go_ret
  refine ⟨ret_int ?_, nq, rfl⟩
  rw [rotr_eq x 17 (by decide) hx]
  omega
set_option maxHeartbeats 400000 in
theorem turn18 (x : Nat) (w : World) (hx : x < 4294967296) : Calls Tryd.prog 48 #[.int .i64 x, .int .i64 18] w fun e w' => e = .returned (.int .i64 (Sp.rotr x 18 : Nat)) ∧ ∃ n, w' = w.drewN n := by
  go_enter Tryd.func48, Tryd.ntmps48
  go_wp2_with fail
  go_quiet (fail)
  go_wp2
  go_ret
  refine ⟨ret_int ?_, nq, rfl⟩
  rw [rotr_eq x 18 (by decide) hx]
  omega
set_option maxHeartbeats 400000 in
theorem turn19 (x : Nat) (w : World) (hx : x < 4294967296) : Calls Tryd.prog 48 #[.int .i64 x, .int .i64 19] w fun e w' => e = .returned (.int .i64 (Sp.rotr x 19 : Nat)) ∧ ∃ n, w' = w.drewN n := by
  go_enter Tryd.func48, Tryd.ntmps48
  go_wp2_with fail
  go_quiet (fail)
  go_wp2
  go_ret
  refine ⟨ret_int ?_, nq, rfl⟩
  rw [rotr_eq x 19 (by decide) hx]
  omega
set_option maxHeartbeats 400000 in
theorem turn22 (x : Nat) (w : World) (hx : x < 4294967296) : Calls Tryd.prog 48 #[.int .i64 x, .int .i64 22] w fun e w' => e = .returned (.int .i64 (Sp.rotr x 22 : Nat)) ∧ ∃ n, w' = w.drewN n := by
  go_enter Tryd.func48, Tryd.ntmps48
  go_wp2_with fail
  go_quiet (fail)
  go_wp2
  go_ret
  refine ⟨ret_int ?_, nq, rfl⟩
  rw [rotr_eq x 22 (by decide) hx]
  omega
set_option maxHeartbeats 400000 in
theorem turn25 (x : Nat) (w : World) (hx : x < 4294967296) : Calls Tryd.prog 48 #[.int .i64 x, .int .i64 25] w fun e w' => e = .returned (.int .i64 (Sp.rotr x 25 : Nat)) ∧ ∃ n, w' = w.drewN n := by
  go_enter Tryd.func48, Tryd.ntmps48
  go_wp2_with fail
  go_quiet (fail)
  go_wp2
  go_ret
  refine ⟨ret_int ?_, nq, rfl⟩
  rw [rotr_eq x 25 (by decide) hx]
  omega
theorem word_sum (x0 x1 x2 x3 : Nat) (_h0 : x0 < 256) (h1 : x1 < 256) (h2 : x2 < 256) (h3 : x3 < 256) : x0 * 16777216 ||| x1 * 65536 ||| x2 * 256 ||| x3 = x0 * 16777216 + x1 * 65536 + x2 * 256 + x3 := by
  have e1 : x0 * 16777216 ||| x1 * 65536 = (x0 * 256 + x1) * 65536 := by
    have := Nat.two_pow_add_eq_or_of_lt (i := 24) (b := x1 * 65536) (by omega) x0
    rw [Nat.mul_comm x0, ← this]
    omega
  have e2 : (x0 * 256 + x1) * 65536 ||| x2 * 256 = (x0 * 65536 + x1 * 256 + x2) * 256 := by
    have := Nat.two_pow_add_eq_or_of_lt (i := 16) (b := x2 * 256) (by omega) (x0 * 256 + x1)
    rw [Nat.mul_comm (x0 * 256 + x1), ← this]
    omega
  have e3 : (x0 * 65536 + x1 * 256 + x2) * 256 ||| x3 = x0 * 16777216 + x1 * 65536 + x2 * 256 + x3 := by
    have := Nat.two_pow_add_eq_or_of_lt (i := 8) (b := x3) (by omega) (x0 * 65536 + x1 * 256 + x2)
    rw [Nat.mul_comm (x0 * 65536 + x1 * 256 + x2), ← this]
    omega
  rw [e1, e2, e3]
theorem range_cell {w : World} {g o : Nat} {k : IntKind} {l : List Nat} (h : w.rangeAt g o (ints k l)) (i : Nat) (hi : i < l.length) : w.cell? ⟨g, o + i, none⟩ = some (.int k (Sp.nth l i : Nat)) := h i _ (ints_get k l i hi)
set_option maxHeartbeats 400000 in
theorem word_any (b : List Nat) (g o c i : Nat) (w : World) (hs : ∀ x ∈ b, x < 256) (hr : w.rangeAt g o (ints .u8 b)) (hi : i + 3 < b.length) (hl : b.length ≤ 1000000) :
    Calls Tryd.prog 64 #[.slice (some ⟨g, o, none⟩) b.length c, .int .i64 i] w fun e w' => e = .returned (.int .i64 (Sp.word b i : Nat)) ∧ ∃ n, w' = w.drewN n := by
  have c0 := range_cell hr i (by omega)
  have c1 := range_cell hr (i + 1) (by omega)
  have c2 := range_cell hr (i + 2) (by omega)
  have c3 := range_cell hr (i + 3) (by omega)
  have s0 := Sp.nth_lt (by decide) hs i
  have s1 := Sp.nth_lt (by decide) hs (i + 1)
  have s2 := Sp.nth_lt (by decide) hs (i + 2)
  have s3 := Sp.nth_lt (by decide) hs (i + 3)
  have ew : Sp.word b i = _ := word_sum _ _ _ _ s0 s1 s2 s3
  have HE : Hid (Sp.word b i = Sp.nth b i * 16777216 + Sp.nth b (i + 1) * 65536 + Sp.nth b (i + 2) * 256 + Sp.nth b (i + 3)) := ew
  clear hr hs ew
  generalize Sp.nth b i = x0 at *
  generalize Sp.nth b (i + 1) = x1 at *
  generalize Sp.nth b (i + 2) = x2 at *
  generalize Sp.nth b (i + 3) = x3 at *
  have i0 : (0 : Int) ≤ (i : Int) := by omega
  have l3 : (i : Int) + 3 < (b.length : Int) := by omega
  have l0 : (i : Int) < (b.length : Int) := by omega
  have l1 : (i : Int) + 1 < (b.length : Int) := by omega
  have l2 : (i : Int) + 2 < (b.length : Int) := by omega
  go_enter Tryd.func64, Tryd.ntmps64
  go_wp2_with fail
  go_quiet (fail)
  go_wp2
  go_ret
  refine ⟨ret_int ?_, nq, rfl⟩
  rw [HE.out]
  omega
/-- A row of numbers that may be read: nothing, or cells from some place on. -/
def IntsAt (w : World) (v : Value) (l : List Nat) : Prop := ∃ g c, v = .slice (some ⟨g, 0, none⟩) l.length c ∧ w.rangeAt g 0 (ints .i64 l)
theorem IntsAt.below {w w' : World} {v : Value} {l : List Nat} (h : IntsAt w v l) (hb : Below w.heap.size w w') : IntsAt w' v l := by
  obtain ⟨g, c, rfl, hr⟩ := h
  exact ⟨g, c, rfl, rangeAt_below hb hr⟩
theorem all_zero_nth : ∀ (l : List Nat), l.all (· == 0) = true ↔ ∀ i, i < l.length → Sp.nth l i = 0
  | [] => by simp
  | x :: l => by
    simp only [List.all_cons, Bool.and_eq_true, beq_iff_eq, all_zero_nth l]
    constructor
    · rintro ⟨rfl, h⟩ i hi
      cases i with
      | zero => rfl
      | succ i => exact h i (by simpa using hi)
    · intro h
      exact ⟨h 0 (by simp), fun i hi => h (i + 1) (by simpa using hi)⟩
set_option maxHeartbeats 400000 in
theorem below_any (a : List Nat) (p : Nat) (v : Value) (w : World) (hv : IntsAt w v a) (h0 : 0 < a.length) (hl : a.length ≤ 1000000) :
    Calls Tryd.prog 80 #[v, .int .i64 p] w fun e w' => e = .returned (.bool (Rf.below a p)) ∧ w' = w := by
  obtain ⟨g, c, rfl, hr⟩ := hv
  have c0 := range_cell hr 0 h0
  rw [Nat.zero_add] at c0
  have hl0 : (0 : Int) < (a.length : Int) := by omega
  have HR : Hid (w.rangeAt g 0 (ints .i64 a)) := hr
  clear hr
  by_cases hp : Sp.nth a 0 = p
  · obtain ⟨r, hrr⟩ : ∃ r, Rf.below a p = r := ⟨_, rfl⟩
    have hbl : r = (a.drop 1).all (· == 0) := by rw [← hrr]; simp [Rf.below, hp]
    have HBL : Hid (r = (a.drop 1).all (· == 0)) := hbl
    rw [hrr]
    clear hbl hrr
    rw [hp] at c0
    go_enter Tryd.func80, Tryd.ntmps80
    go_wp2
    go_loop [5] (fun i => ∃ k : Nat, 1 ≤ k ∧ k ≤ a.length ∧ i = .int .i64 k ∧ Hid (∀ j, 1 ≤ j → j < k → Sp.nth a j = 0)) (fun i => a.length - (intOf i).toNat)
    case atStart => exact ⟨1, by omega, by omega, rfl, fun j h1 h2 => by omega⟩
    case round =>
      obtain ⟨k, hk1, hk2, rfl, HZ⟩ := hrel
      by_cases hlt : k < a.length
      · have ck := range_cell HR.out k hlt
        rw [Nat.zero_add] at ck
        have k0 : (0 : Int) ≤ (k : Int) := by omega
        have k1 : (k : Int) < (a.length : Int) := by omega
        by_cases hz : Sp.nth a k = 0
        · rw [hz] at ck
          go_wp2
          go_round
          case rel => exact ⟨k + 1, by omega, by omega, by go_num, fun j h1 h2 => by
            by_cases e : j = k
            · rw [e]; exact hz
            · exact HZ.out j h1 (by omega)⟩
          case measure => simp [intOf]; omega
        · have hz' : ((Sp.nth a k : Nat) : Int) ≠ 0 := by omega
          have hrf : r = false := by
            rw [HBL.out, Bool.eq_false_iff]
            intro h
            have := (all_zero_nth _).1 h (k - 1) (by simp; omega)
            rw [Sp.nth_drop, show 1 + (k - 1) = k from by omega] at this
            exact hz this
          subst hrf
          go_wp2
          go_ret
          exact ⟨rfl, rfl⟩
      · obtain rfl : k = a.length := by omega
        have hrt : r = true := by
          rw [HBL.out, all_zero_nth]
          intro i hi
          simp at hi
          rw [Sp.nth_drop]
          exact HZ.out (1 + i) (by omega) (by omega)
        subst hrt
        go_wp2
        go_ret
        exact ⟨rfl, rfl⟩
  · have hbl : Rf.below a p = decide (Sp.nth a 0 < p) := by simp [Rf.below, hp]
    have hp' : ((Sp.nth a 0 : Nat) : Int) ≠ (p : Int) := by omega
    rw [hbl]
    clear hbl
    go_enter Tryd.func80, Tryd.ntmps80
    go_wp2
    go_ret
    exact ⟨rfl, rfl⟩
end Go.Proofs.YtagdlpodpokmmaaDoor.S2
/- The contract of the document's times. -/
namespace Go.Proofs.YtagdlpodpokmmaaDoor.S2
open Go.Proofs.YtagdlpodpokmmaaDoor.Sp
open Go.RowKit
theorem info3e : ∃ i, Tryd.prog.info? 3 = some i ∧ i.size = 1 ∧ i.bytes = 8 ∧ i.zero = some (.int .i64 0) := info_of (by kernel_rfl)
theorem make_ints (l : Nat) (hc : l ≤ 1000000) (w : World) :
    (Instr.makeSlice 39 (.int .i64 (l : Int)) (.int .i64 (l : Int))).run Tryd.prog w = .ok (.slice (some ⟨w.heap.size, 0, none⟩) l l) (w.alloc (.cells (arr .i64 (List.replicate l 0)) 3)) := by
  obtain ⟨i, hi, hs, hb, hz⟩ := info3e
  have := run_make (P := Tryd.prog) w 39 3 i _ Tryd.underlying39 hi hz .i64 .i64 (l : Int) (l : Int) (by omega) (by omega) (by rw [hb]; omega) (by omega)
  rw [this, hs, ← made_zeros]
  simp [Value.cells]
/-- A row of numbers in a block of its own. -/
def RowOf (w : World) (g : Nat) (l : List Nat) : Prop := w.heap[g]? = some (.cells (arr .i64 l) 3 (0, 0))
theorem RowOf.cell {w : World} {g : Nat} {l : List Nat} (h : RowOf w g l) (i : Nat) (hi : i < l.length) : w.cell? ⟨g, i, none⟩ = some (.int .i64 (Sp.nth l i : Nat)) := by
  rw [cell_of_row _ _ _ _ _ _ h]; exact arr_get _ _ _ hi
theorem RowOf.may {w : World} {g : Nat} {l : List Nat} (h : RowOf w g l) (i : Nat) : w.frozen? ⟨g, i, none⟩ = false := frozen_of_row _ _ _ _ _ h
theorem RowOf.set {w : World} {g : Nat} {l : List Nat} (h : RowOf w g l) (i x : Nat) : RowOf (w.setCell ⟨g, i, none⟩ (.int .i64 (x : Nat))) g (l.set i x) := by
  have := heap_setCell_same w g i (arr .i64 l) 3 (.int .i64 (x : Nat)) h
  unfold RowOf
  rw [this]
  congr 2
  apply Array.ext'
  simp [arr, ints]
theorem RowOf.drewN {w : World} {g : Nat} {l : List Nat} (h : RowOf w g l) (n : Nat) : RowOf (w.drewN n) g l := h
namespace Rf
theorem mulRow_length (a b o : List Nat) (i : Nat) : ∀ k, (mulRow a b i o k).length = o.length
  | 0 => rfl
  | k + 1 => by simp [mulRow, mulStep, mulRow_length a b o i k]
theorem mulTo_length (a b : List Nat) : ∀ i, (mulTo a b i).length = a.length + b.length - 1
  | 0 => by simp [mulTo]
  | i + 1 => by simp [mulTo, mulRow_length, mulTo_length a b i]
theorem nth_set (l : List Nat) (i j x : Nat) : nth (l.set i x) j ≤ max (nth l j) x ∧ (i ≠ j → nth (l.set i x) j = nth l j) := by
  unfold nth
  rw [List.getD_eq_getElem?_getD, List.getD_eq_getElem?_getD, List.getElem?_set]
  by_cases h : i = j
  · subst h
    by_cases h2 : i < l.length
    · simp [h2]; omega
    · simp [h2]
  · simp [h]; omega
theorem mul_le {x y : Nat} (hx : x ≤ 137438953472) (hy : y ≤ 65536) : x * y ≤ 9007199254740992 := Nat.mul_le_mul hx hy
theorem carryStep_length (o : List Nat) (i : Nat) : (carryStep o i).length = o.length := by simp [carryStep]
theorem carry_length : ∀ i o, (carry i o).length = o.length
  | 0, _ => rfl
  | i + 1, o => by rw [carry, carry_length i, carryStep_length]
theorem times_length (a b : List Nat) : (times a b).length = a.length + b.length - 1 := by rw [times, carry_length, mulTo_length]
end Rf
set_option maxHeartbeats 1000000 in
theorem times_any (a b : List Nat) (va vb : Value) (w : World) (hva : IntsAt w va a) (hvb : IntsAt w vb b) (ha : ∀ i, Sp.nth a i ≤ 137438953472) (hb : ∀ i, Sp.nth b i ≤ 65536) (ha1 : 1 ≤ a.length) (ha5 : a.length ≤ 5) (hb3 : b.length = 3) :
    Calls Tryd.prog 79 #[va, vb] w fun e w' => ∃ g, e = .returned (.slice (some ⟨g, 0, none⟩) (Rf.times a b).length (Rf.times a b).length) ∧ w.heap.size ≤ g ∧ RowOf w' g (Rf.times a b) ∧ Below w.heap.size w w' := by
  obtain ⟨ga, ca, rfl, hra⟩ := hva
  obtain ⟨gb, cb, rfl, hrb⟩ := hvb
  have HRA : Hid (w.rangeAt ga 0 (ints .i64 a)) := hra
  have HRB : Hid (w.rangeAt gb 0 (ints .i64 b)) := hrb
  have HA : Hid (∀ i, Sp.nth a i ≤ 137438953472) := ha
  have HB : Hid (∀ i, Sp.nth b i ≤ 65536) := hb
  have HB3 : Hid (b.length = 3) := hb3
  obtain ⟨n, hn⟩ : ∃ n, a.length = n := ⟨_, rfl⟩
  have HN : Hid (a.length = n) := hn
  rw [hb3, hn]
  rw [hn] at ha1 ha5
  clear hra hrb ha hb hb3 hn
  have hmk : ∀ w, (Instr.makeSlice 39 (.int .i64 ((n : Int) + 3 - 1)) (.int .i64 ((n : Int) + 3 - 1))).run Tryd.prog w = .ok (.slice (some ⟨w.heap.size, 0, none⟩) (n + 2) (n + 2)) (w.alloc (.cells (arr .i64 (List.replicate (n + 2) 0)) 3)) := fun w => by
    have := make_ints (n + 2) (by omega) w
    rw [show ((n + 2 : Nat) : Int) = (n : Int) + 3 - 1 from by omega] at this
    exact this
  obtain ⟨T, hT⟩ : ∃ T, Rf.times a b = T := ⟨_, rfl⟩
  have hfin : T = Rf.carry (n + 1) (Rf.mulTo a b n) := by rw [← hT, Rf.times, HN.out, HB3.out]; rfl
  have hTl : T.length = n + 2 := by rw [← hT, Rf.times_length, HN.out, HB3.out]; omega
  rw [hT, hTl]
  have HF : Hid (T = Rf.carry (n + 1) (Rf.mulTo a b n)) := hfin
  clear hfin hTl hT
  go_enter Tryd.func79, Tryd.ntmps79
  go_wp2
  go_loopw [6] (fun i wr => ∃ k : Nat, k ≤ n ∧ i = .int .i64 k ∧ Hid (RowOf wr w.heap.size (Rf.mulTo a b k)) ∧ Hid (Below w.heap.size w wr) ∧ Hid (∀ j, Sp.nth (Rf.mulTo a b k) j ≤ 3 * k * 9007199254740992)) (fun i _ => n - (intOf i).toNat)
  case atStart =>
    refine ⟨0, by omega, rfl, ?_, (Below.refl _ _).alloc (Nat.le_refl _) _, fun j => ?_⟩
    · have := heap_alloc_new w (.cells (arr .i64 (List.replicate (n + 2) 0)) 3)
      show _ = _
      rw [this]
      simp [Rf.mulTo, HN.out, HB3.out]
    · simp [Rf.mulTo, Sp.nth, List.getElem?_replicate]
      split <;> rfl
  case round =>
    obtain ⟨k, hk, rfl, HO, HW, HM⟩ := hrel
    by_cases hlt : k < n
    · have k0 : (0 : Int) ≤ (k : Int) := by omega
      have k1 : (k : Int) < (n : Int) := by omega
      go_wp2
      go_loopw [7] (fun i wr => ∃ q : Nat, q ≤ 3 ∧ i = .int .i64 q ∧ Hid (RowOf wr w.heap.size (Rf.mulRow a b k (Rf.mulTo a b k) q)) ∧ Hid (Below w.heap.size w wr) ∧ Hid (∀ j, Sp.nth (Rf.mulRow a b k (Rf.mulTo a b k) q) j ≤ (3 * k + q) * 9007199254740992)) (fun i _ => 3 - (intOf i).toNat)
      case atStart => exact ⟨0, by omega, rfl, HO.out, HW.out, HM.out⟩
      case round =>
        clear HO HW HM
        obtain ⟨q, hq, rfl, HO, HW, HM⟩ := hrel
        by_cases hqt : q < 3
        · obtain ⟨o, ho⟩ : ∃ o, Rf.mulRow a b k (Rf.mulTo a b k) q = o := ⟨_, rfl⟩
          have hol : o.length = n + 2 := by rw [← ho, Rf.mulRow_length, Rf.mulTo_length, HN.out, HB3.out]; omega
          have hst : Rf.mulRow a b k (Rf.mulTo a b k) (q + 1) = Rf.mulStep a b o k q := by rw [← ho]; rfl
          rw [ho] at HO HM
          have HST : Hid (Rf.mulRow a b k (Rf.mulTo a b k) (q + 1) = Rf.mulStep a b o k q) := hst
          have ca := range_cell (rangeAt_below HW.out HRA.out) k (by rw [HN.out]; exact hlt)
          have cb := range_cell (rangeAt_below HW.out HRB.out) q (by rw [HB3.out]; exact hqt)
          rw [Nat.zero_add] at ca cb
          have co := HO.out.cell (k + q) (by omega)
          have cf := HO.out.may (k + q)
          have bx := HA.out k
          have bY := HB.out q
          have bz := HM.out (k + q)
          have bp := Rf.mul_le bx bY
          have hms : Rf.mulStep a b o k q = o.set (k + q) (Sp.nth o (k + q) + Sp.nth a k * Sp.nth b q) := rfl
          have HMS : Hid (Rf.mulStep a b o k q = o.set (k + q) (Sp.nth o (k + q) + Sp.nth a k * Sp.nth b q)) := hms
          clear ho hst hms hol
          generalize Sp.nth a k = x at *
          generalize Sp.nth b q = y at *
          generalize hzz : Sp.nth o (k + q) = z at *
          have HZ : Hid (Sp.nth o (k + q) = z) := hzz
          clear hzz
          have bp0 : (0 : Int) ≤ (x : Int) * (y : Int) := Int.mul_nonneg (by omega) (by omega)
          have bp1 : (x : Int) * (y : Int) ≤ 9007199254740992 := by
            rw [← Int.natCast_mul]; omega
          have bz1 : (z : Int) ≤ 135107988821114880 := by omega
          have q0 : (0 : Int) ≤ (q : Int) := by omega
          have q1 : (q : Int) < 3 := by omega
          have kq : (k : Int) + (q : Int) < (n : Int) + 2 := by omega
          have kq0 : (0 : Int) ≤ (k : Int) + (q : Int) := by omega
          go_wp2
          go_region
          go_wp2
          go_roundw
          case rel =>
            refine ⟨q + 1, by omega, by go_num, ?_, below_drewN (HW.out.setCell (Nat.le_refl _) _) 1, ?_⟩
            · rw [HST.out, HMS.out]
              have := RowOf.set HO.out (k + q) (z + x * y)
              rw [Int.natCast_add, Int.natCast_mul] at this
              exact this
            · rw [HST.out, HMS.out]
              intro j
              have h1 := (Rf.nth_set o (k + q) j (z + x * y)).1
              have h2 := HM.out j
              have h3 := HM.out (k + q)
              rw [HZ.out] at h3
              omega
          case measure => simp [intOf]; omega
        · obtain rfl : q = 3 := by omega
          have hto : Rf.mulTo a b (k + 1) = Rf.mulRow a b k (Rf.mulTo a b k) 3 := by rw [Rf.mulTo, HB3.out]
          have HTO : Hid (Rf.mulTo a b (k + 1) = Rf.mulRow a b k (Rf.mulTo a b k) 3) := hto
          clear hto
          go_wp2
          go_roundw
          case rel => exact ⟨k + 1, by omega, by go_num, by rw [HTO.out]; exact HO.out, HW.out, by rw [HTO.out]; exact fun j => by have := HM.out j; omega⟩
          case measure => simp [intOf]; omega
    · obtain rfl : k = n := by omega
      have hol : (Rf.mulTo a b k).length = k + 2 := by rw [Rf.mulTo_length, HN.out, HB3.out]; omega
      have HOL : Hid ((Rf.mulTo a b k).length = k + 2) := hol
      clear hol
      go_wp2
      go_loopw [8] (fun i wr => ∃ (q : Nat) (o : List Nat), q ≤ k + 1 ∧ i = .int .i64 q ∧ Hid (o.length = k + 2) ∧ Hid (T = Rf.carry q o) ∧ Hid (RowOf wr w.heap.size o) ∧ Hid (Below w.heap.size w wr) ∧ Hid (∀ j, (j < q → Sp.nth o j ≤ 135107988821114880) ∧ (j = q → Sp.nth o j ≤ 288230376151711744))) (fun i _ => (intOf i).toNat)
      case atStart =>
        refine ⟨k + 1, Rf.mulTo a b k, by omega, by go_num, HOL.out, HF.out, HO.out, HW.out, fun j => ?_⟩
        have := HM.out j
        omega
      case round =>
        clear HO HW HM HOL HF
        obtain ⟨q, o, hq, rfl, HOL, HF, HO, HW, HM⟩ := hrel
        by_cases hq0 : 0 < q
        · have c1 := HO.out.cell (q - 1) (by rw [HOL.out]; omega)
          have c2 := HO.out.cell q (by rw [HOL.out]; omega)
          have cf1 := HO.out.may (q - 1)
          have cf2 := HO.out.may q
          have b1 := (HM.out (q - 1)).1 (by omega)
          have b2 := (HM.out q).2 rfl
          have hcs : Rf.carryStep o q = (o.set (q - 1) (Sp.nth o (q - 1) + Sp.nth o q / 65536)).set q (Sp.nth o q % 65536) := rfl
          have HCS : Hid (Rf.carryStep o q = (o.set (q - 1) (Sp.nth o (q - 1) + Sp.nth o q / 65536)).set q (Sp.nth o q % 65536)) := hcs
          clear hcs
          generalize Sp.nth o (q - 1) = y at *
          generalize hxx : Sp.nth o q = x at *
          have HX : Hid (Sp.nth o q = x) := hxx
          clear hxx
          have q0 : (0 : Int) < (q : Int) := by omega
          have q00 : (0 : Int) ≤ (q : Int) - 1 := by omega
          have q1 : (q : Int) < (k : Int) + 2 := by omega
          have q2 : (q : Int) - 1 < (k : Int) + 2 := by omega
          have q3 : ((q : Int) - 1).toNat = q - 1 := by omega
          have hx2 : Sp.nth (o.set (q - 1) (y + x / 65536)) q = x := by rw [(Rf.nth_set _ _ _ _).2 (by omega)]; exact HX.out
          have R2 := RowOf.set HO.out (q - 1) (y + x / 65536)
          have hi2 : ((y + x / 65536 : Nat) : Int) = (y : Int) + (x : Int) / 65536 := by omega
          rw [hi2] at R2
          have c3 := R2.cell q (by simp [HOL.out]; omega)
          rw [hx2] at c3
          have B2 := below_drewN (HW.out.setCell (p := ⟨w.heap.size, q - 1, none⟩) (Nat.le_refl _) (.int .i64 ((y : Int) + (x : Int) / 65536))) 1
          have R2H : Hid (RowOf (wr.setCell ⟨w.heap.size, q - 1, none⟩ (.int .i64 ((y : Int) + (x : Int) / 65536))) w.heap.size (o.set (q - 1) (y + x / 65536))) := R2
          have B2H : Hid (Below w.heap.size w ((wr.setCell ⟨w.heap.size, q - 1, none⟩ (.int .i64 ((y : Int) + (x : Int) / 65536))).drewN 1)) := B2
          have cf3 := R2.may q
          clear R2 B2 hx2 hi2
          go_wp2
          go_region
          generalize wr.setCell ⟨w.heap.size, q - 1, none⟩ (.int .i64 ((y : Int) + (x : Int) / 65536)) = w2 at *
          go_wp2
          go_roundw
          case rel =>
            have R3 := RowOf.set R2H.out q (x % 65536)
            have hi3 : ((x % 65536 : Nat) : Int) = (x : Int) % 65536 := by omega
            rw [hi3, ← HCS.out] at R3
            have hq1 : q = (q - 1) + 1 := by omega
            refine ⟨q - 1, Rf.carryStep o q, by omega, by go_num, by rw [Rf.carryStep_length]; exact HOL.out, ?_, R3, ?_, fun j => ⟨fun hj => ?_, fun hj => ?_⟩⟩
            · show T = _
              have := HF.out
              rw [hq1, Rf.carry, ← hq1] at this
              exact this
            · exact B2H.out.setCell (Nat.le_refl _) _
            · rw [HCS.out, (Rf.nth_set _ _ _ _).2 (by omega), (Rf.nth_set _ _ _ _).2 (by omega)]
              exact (HM.out j).1 (by omega)
            · subst hj
              rw [HCS.out, (Rf.nth_set _ _ _ _).2 (by omega)]
              have h1 := (Rf.nth_set o (q - 1) (q - 1) (y + x / 65536)).1
              have h2 := (HM.out (q - 1)).1 (by omega)
              omega
          case measure => simp [intOf]; omega
        · obtain rfl : q = 0 := by omega
          have hTo : T = o := HF.out
          subst hTo
          go_wp2
          go_ret
          exact ⟨w.heap.size, rfl, Nat.le_refl _, HO.out, HW.out⟩
end Go.Proofs.YtagdlpodpokmmaaDoor.S2
/- The contract of the document's root. -/
namespace Go.Proofs.YtagdlpodpokmmaaDoor.S2
open Go.Proofs.YtagdlpodpokmmaaDoor.Sp
open Go.RowKit
namespace Rf
theorem whole_goes {cube : Bool} {p x : Nat} (h : wholeGoes cube p x = true) (hx : x + 1 ≤ p) : whole cube p (p - x) x = whole cube p (p - (x + 1)) (x + 1) := by
  obtain ⟨f, hf⟩ : ∃ f, p - x = f + 1 := ⟨p - x - 1, by omega⟩
  rw [hf, show p - (x + 1) = f from by omega, whole, if_pos h]
theorem whole_stops {cube : Bool} {p x : Nat} (h : wholeGoes cube p x = false) : whole cube p (p - x) x = x := by
  cases hf : p - x with
  | zero => rfl
  | succ f => rw [whole, if_neg (by simp [h])]
theorem times33 (a b c d e f : Nat) : times [a, b, c] [d, e, f] = carry 4 [a * d, a * e + b * d, a * f + b * e + c * d, b * f + c * e, c * f] := by
  simp [times, mulTo, mulRow, mulStep, nth]
theorem times33_le {a b c d e f : Nat} (ha : a ≤ 65536) (hb : b ≤ 65536) (hc : c ≤ 65536) (hd : d ≤ 65536) (he : e ≤ 65536) (hf : f ≤ 65536) (i : Nat) : nth (times [a, b, c] [d, e, f]) i ≤ 137438953472 := by
  rw [times33]
  have p1 := Nat.mul_le_mul ha hd
  have p2 := Nat.mul_le_mul ha he
  have p3 := Nat.mul_le_mul hb hd
  have p4 := Nat.mul_le_mul ha hf
  have p5 := Nat.mul_le_mul hb he
  have p6 := Nat.mul_le_mul hc hd
  have p7 := Nat.mul_le_mul hb hf
  have p8 := Nat.mul_le_mul hc he
  have p9 := Nat.mul_le_mul hc hf
  generalize a * d = x1 at *
  generalize a * e = x2 at *
  generalize b * d = x3 at *
  generalize a * f = x4 at *
  generalize b * e = x5 at *
  generalize c * d = x6 at *
  generalize b * f = x7 at *
  generalize c * e = x8 at *
  generalize c * f = x9 at *
  simp [carry, carryStep, nth]
  match i with
  | 0 => simp; omega
  | 1 => simp; omega
  | 2 => simp; omega
  | 3 => simp; omega
  | 4 => simp; omega
  | i + 5 => simp
theorem three_le {wh y : Nat} (hw : wh ≤ 65536) (hy : y ≤ 4294967296) (i : Nat) : nth (three wh y) i ≤ 65536 := by
  match i with
  | 0 => exact hw
  | 1 => show y / 65536 ≤ 65536; omega
  | 2 => show y % 65536 ≤ 65536; omega
  | i + 3 => simp [three, nth]
theorem three_sq {wh y : Nat} (hw : wh ≤ 65536) (hy : y ≤ 4294967296) (i : Nat) : nth (times (three wh y) (three wh y)) i ≤ 137438953472 :=
  times33_le hw (three_le hw hy 1) (three_le hw hy 2) hw (three_le hw hy 1) (three_le hw hy 2) i
end Rf
theorem intsAt_row {w : World} {g c : Nat} {l : List Nat} (h : RowOf w g l) : IntsAt w (.slice (some ⟨g, 0, none⟩) l.length c) l := ⟨g, c, rfl, rangeAt_of_row h⟩
set_option maxHeartbeats 1000000 in
theorem root_false (p : Nat) (w : World) (hp : 2 ≤ p) (hp2 : p ≤ 400) :
    Calls Tryd.prog 63 #[.int .i64 p, .bool false] w fun e w' => e = .returned (.int .i64 (Rf.root p false : Nat)) ∧ Below w.heap.size w w' := by
  obtain ⟨W, hW⟩ : ∃ W, Rf.whole false p (p - 1) 1 = W := ⟨_, rfl⟩
  obtain ⟨R, hR⟩ : ∃ R, Rf.root p false = R := ⟨_, rfl⟩
  have hR2 : Rf.bitsTo false p W 32 0 = R := by rw [← hR, ← hW]; rfl
  rw [hR]
  have HW : Hid (Rf.whole false p (p - 1) 1 = W) := hW
  have HR : Hid (Rf.bitsTo false p W 32 0 = R) := hR2
  clear hW hR hR2
  go_enter Tryd.func63, Tryd.ntmps63
  go_wp2
  go_loop [5] (fun i => ∃ x : Nat, 1 ≤ x ∧ x ≤ p ∧ i = .int .i64 x ∧ Hid (Rf.whole false p (p - x) x = W)) (fun i => p - (intOf i).toNat)
  case atStart => exact ⟨1, by omega, by omega, rfl, HW.out⟩
  case round =>
    obtain ⟨x, hx1, hx2, rfl, HX⟩ := hrel
    obtain ⟨s, hs⟩ : ∃ s, (x + 1) * (x + 1) = s := ⟨_, rfl⟩
    have hsb : s ≤ 160801 := by rw [← hs]; exact Nat.mul_le_mul (show x + 1 ≤ 401 by omega) (show x + 1 ≤ 401 by omega)
    have hsx : x + 1 ≤ s := by rw [← hs]; exact Nat.le_mul_of_pos_right _ (by omega)
    have hsi : ((x : Int) + 1) * ((x : Int) + 1) = (s : Int) := by rw [← hs]; simp
    have HG : Hid (Rf.wholeGoes false p x = decide (s ≤ p)) := by rw [← hs]; simp [Rf.wholeGoes, Hid]
    clear hs
    by_cases hg : s ≤ p
    · have hgI : (s : Int) ≤ (p : Int) := by omega
      go_wp2
      go_round
      case rel =>
        have h1 := Rf.whole_goes (by rw [HG.out]; simp [hg]) (show x + 1 ≤ p by omega)
        exact ⟨x + 1, by omega, by omega, by go_num, by rw [← h1]; exact HX.out⟩
      case measure => simp [intOf]; omega
    · have hgI : ¬ (s : Int) ≤ (p : Int) := by omega
      have hxW : x = W := by rw [← HX.out]; exact (Rf.whole_stops (by rw [HG.out]; simp [hg])).symm
      subst hxW
      clear HX HG HW
      go_wp2
      go_loopw [6, 7] (fun xv i wr => ∃ (k y : Nat), k ≤ 32 ∧ i = .int .i64 ((k : Int) - 1) ∧ xv = .int .i64 y ∧ Hid (y + 2 ^ k ≤ 4294967296) ∧ Hid (Rf.bitsTo false p x k y = R) ∧ Hid (Below w.heap.size w wr)) (fun _ i _ => (intOf i + 1).toNat)
      case atStart => exact ⟨32, 0, by omega, rfl, rfl, Nat.le_refl _, HR.out, Below.refl _ _⟩
      case round =>
        clear HR
        obtain ⟨k, y, hk, rfl, rfl, HY, HR, HB⟩ := hrel
        by_cases hk0 : 0 < k
        · obtain ⟨j, rfl⟩ : ∃ j, k = j + 1 := ⟨k - 1, by omega⟩
          obtain ⟨P, hP⟩ : ∃ P, 2 ^ j = P := ⟨_, rfl⟩
          have hPI : (2 : Int) ^ j = (P : Int) := by rw [← hP]; simp
          have hy := HY.out
          rw [Nat.pow_succ, hP] at hy
          have hP1 : 1 ≤ P := by rw [← hP]; exact Nat.two_pow_pos j
          have HP : Hid (2 ^ j = P) := hP
          have HJ : Hid (Rf.bitsTo false p x j (if Rf.small false p x (y + P) then y + P else y) = R) := by
            have := HR.out
            rw [Rf.bitsTo, hP] at this
            exact this
          have ej : ((j + 1 : Nat) : Int) - 1 = (j : Int) := by omega
          rw [ej]
          clear hP HY HR ej
          have j0 : (0 : Int) ≤ (j : Int) := by omega
          have j1 : (j : Int) < 64 := by omega
          go_wp2_with fail
          obtain ⟨Y, hY⟩ : ∃ Y, y + P = Y := ⟨_, rfl⟩
          have hYI : (y : Int) + (P : Int) = (Y : Int) := by omega
          rw [hYI]
          rw [hY] at HJ
          have hY2 : Y ≤ 4294967296 := by omega
          have hrow : RowOf (wr.alloc (.cells #[.int .i64 x, .int .i64 ((Y : Int) / 65536), .int .i64 ((Y : Int) % 65536)] 3)) wr.heap.size (Rf.three x Y) := by
            show _ = _
            rw [heap_alloc_new]
            simp [arr, ints, Rf.three]
          have hbA : Below w.heap.size w (wr.alloc (.cells #[.int .i64 x, .int .i64 ((Y : Int) / 65536), .int .i64 ((Y : Int) % 65536)] 3)) := HB.out.alloc HB.out.size _
          have hszA : wr.heap.size < (wr.alloc (.cells #[.int .i64 x, .int .i64 ((Y : Int) / 65536), .int .i64 ((Y : Int) % 65536)] 3)).heap.size := by simp
          have hx3 : x ≤ 65536 := by omega
          generalize wr.alloc (.cells #[.int .i64 x, .int .i64 ((Y : Int) / 65536), .int .i64 ((Y : Int) % 65536)] 3) = wA at *
          refine (times_any (Rf.three x Y) (Rf.three x Y) (.slice (some ⟨wr.heap.size, 0, none⟩) 3 3) (.slice (some ⟨wr.heap.size, 0, none⟩) 3 3) wA (intsAt_row hrow) (intsAt_row hrow) (fun i => Nat.le_trans (Rf.three_le hx3 hY2 i) (by decide)) (Rf.three_le hx3 hY2) (by show 1 ≤ 3; decide) (by show 3 ≤ 5; decide) rfl).mono ?_
          rintro e w2 ⟨g2, rfl, hg2, hr2, hb2⟩
          have hbB : Below w.heap.size w w2 := hbA.trans (hb2.mono hbA.size)
          have hrowB : RowOf w2 wr.heap.size (Rf.three x Y) := (hb2.block _ hszA).trans hrow
          have HBB : Hid (Below w.heap.size w w2) := hbB
          have HRB : Hid (RowOf w2 wr.heap.size (Rf.three x Y)) := hrowB
          have HR2 : Hid (RowOf w2 g2 (Rf.times (Rf.three x Y) (Rf.three x Y))) := hr2
          have hlen : (Rf.times (Rf.three x Y) (Rf.three x Y)).length = 5 := by rw [Rf.times_length]; rfl
          rw [hlen]
          have HLEN : Hid ((Rf.times (Rf.three x Y) (Rf.three x Y)).length = 5) := hlen
          clear hrow hbA hszA hg2 hr2 hb2 hbB hrowB HB hlen
          go_wp2_with fail
          refine (below_any (Rf.times (Rf.three x Y) (Rf.three x Y)) p (.slice (some ⟨g2, 0, none⟩) 5 5) w2 (by have := intsAt_row (c := 5) HR2.out; rw [HLEN.out] at this; exact this) (by rw [HLEN.out]; decide) (by rw [HLEN.out]; decide)).mono ?_
          rintro e w4 ⟨rfl, rfl⟩
          have hsm : Rf.below (Rf.times (Rf.three x Y) (Rf.three x Y)) p = Rf.small false p x Y := by simp [Rf.small]
          have HBX := HBB
          rw [hsm]
          clear hsm
          by_cases hs : Rf.small false p x Y = true
          · have HJ' : Hid (Rf.bitsTo false p x j Y = R) := by
              have := HJ.out
              rw [if_pos hs] at this
              exact this
            rw [hs]
            clear hs HJ
            go_wp2
            go_roundw
            case rel => exact ⟨j, Y, by omega, by go_num, rfl, (by have := HP.out; omega : Y + 2 ^ j ≤ 4294967296), HJ'.out, HBX.out⟩
            case measure => simp [intOf]
          · have hs' : Rf.small false p x Y = false := by simpa using hs
            have HJ' : Hid (Rf.bitsTo false p x j y = R) := by
              have := HJ.out
              rw [if_neg hs] at this
              exact this
            rw [hs']
            clear hs hs' HJ
            go_wp2
            go_roundw
            case rel => exact ⟨j, y, by omega, by go_num, rfl, (by have := HP.out; omega : y + 2 ^ j ≤ 4294967296), HJ'.out, HBX.out⟩
            case measure => simp [intOf]
        · obtain rfl : k = 0 := by omega
          have hyR : y = R := HR.out
          subst hyR
          go_wp2
          go_ret
          exact ⟨rfl, HB.out⟩
set_option maxHeartbeats 1000000 in
theorem root_true (p : Nat) (w : World) (hp : 2 ≤ p) (hp2 : p ≤ 400) :
    Calls Tryd.prog 63 #[.int .i64 p, .bool true] w fun e w' => e = .returned (.int .i64 (Rf.root p true : Nat)) ∧ Below w.heap.size w w' := by
  obtain ⟨W, hW⟩ : ∃ W, Rf.whole true p (p - 1) 1 = W := ⟨_, rfl⟩
  obtain ⟨R, hR⟩ : ∃ R, Rf.root p true = R := ⟨_, rfl⟩
  have hR2 : Rf.bitsTo true p W 32 0 = R := by rw [← hR, ← hW]; rfl
  rw [hR]
  have HW : Hid (Rf.whole true p (p - 1) 1 = W) := hW
  have HR : Hid (Rf.bitsTo true p W 32 0 = R) := hR2
  clear hW hR hR2
  go_enter Tryd.func63, Tryd.ntmps63
  go_wp2
  go_loop [5] (fun i => ∃ x : Nat, 1 ≤ x ∧ x ≤ p ∧ i = .int .i64 x ∧ Hid (Rf.whole true p (p - x) x = W)) (fun i => p - (intOf i).toNat)
  case atStart => exact ⟨1, by omega, by omega, rfl, HW.out⟩
  case round =>
    obtain ⟨x, hx1, hx2, rfl, HX⟩ := hrel
    obtain ⟨s, hs⟩ : ∃ s, (x + 1) * (x + 1) * (x + 1) = s := ⟨_, rfl⟩
    obtain ⟨r, hr⟩ : ∃ r, (x + 1) * (x + 1) = r := ⟨_, rfl⟩
    have hrb : r ≤ 160801 := by rw [← hr]; exact Nat.mul_le_mul (show x + 1 ≤ 401 by omega) (show x + 1 ≤ 401 by omega)
    have hrx : x + 1 ≤ r := by rw [← hr]; exact Nat.le_mul_of_pos_right _ (by omega)
    have hsr : r * (x + 1) = s := by rw [← hr]; exact hs
    have hsb : s ≤ 64481201 := by rw [← hsr]; exact Nat.mul_le_mul hrb (show x + 1 ≤ 401 by omega)
    have hsx : x + 1 ≤ s := by rw [← hsr]; exact Nat.le_mul_of_pos_left _ (by omega)
    have hri : ((x : Int) + 1) * ((x : Int) + 1) = (r : Int) := by rw [← hr]; simp
    have hsi : (r : Int) * ((x : Int) + 1) = (s : Int) := by rw [← hsr]; simp
    have HG : Hid (Rf.wholeGoes true p x = decide (s ≤ p)) := by rw [← hs]; simp [Rf.wholeGoes, Hid]
    clear hs hr hsr
    by_cases hg : s ≤ p
    · have hgI : (s : Int) ≤ (p : Int) := by omega
      go_wp2
      go_round
      case rel =>
        have h1 := Rf.whole_goes (by rw [HG.out]; simp [hg]) (show x + 1 ≤ p by omega)
        exact ⟨x + 1, by omega, by omega, by go_num, by rw [← h1]; exact HX.out⟩
      case measure => simp [intOf]; omega
    · have hgI : ¬ (s : Int) ≤ (p : Int) := by omega
      have hxW : x = W := by rw [← HX.out]; exact (Rf.whole_stops (by rw [HG.out]; simp [hg])).symm
      subst hxW
      clear HX HG HW
      go_wp2
      go_loopw [6, 7] (fun xv i wr => ∃ (k y : Nat), k ≤ 32 ∧ i = .int .i64 ((k : Int) - 1) ∧ xv = .int .i64 y ∧ Hid (y + 2 ^ k ≤ 4294967296) ∧ Hid (Rf.bitsTo true p x k y = R) ∧ Hid (Below w.heap.size w wr)) (fun _ i _ => (intOf i + 1).toNat)
      case atStart => exact ⟨32, 0, by omega, rfl, rfl, Nat.le_refl _, HR.out, Below.refl _ _⟩
      case round =>
        clear HR
        obtain ⟨k, y, hk, rfl, rfl, HY, HR, HB⟩ := hrel
        by_cases hk0 : 0 < k
        · obtain ⟨j, rfl⟩ : ∃ j, k = j + 1 := ⟨k - 1, by omega⟩
          obtain ⟨P, hP⟩ : ∃ P, 2 ^ j = P := ⟨_, rfl⟩
          have hPI : (2 : Int) ^ j = (P : Int) := by rw [← hP]; simp
          have hy := HY.out
          rw [Nat.pow_succ, hP] at hy
          have hP1 : 1 ≤ P := by rw [← hP]; exact Nat.two_pow_pos j
          have HP : Hid (2 ^ j = P) := hP
          have HJ : Hid (Rf.bitsTo true p x j (if Rf.small true p x (y + P) then y + P else y) = R) := by
            have := HR.out
            rw [Rf.bitsTo, hP] at this
            exact this
          have ej : ((j + 1 : Nat) : Int) - 1 = (j : Int) := by omega
          rw [ej]
          clear hP HY HR ej
          have j0 : (0 : Int) ≤ (j : Int) := by omega
          have j1 : (j : Int) < 64 := by omega
          go_wp2_with fail
          obtain ⟨Y, hY⟩ : ∃ Y, y + P = Y := ⟨_, rfl⟩
          have hYI : (y : Int) + (P : Int) = (Y : Int) := by omega
          rw [hYI]
          rw [hY] at HJ
          have hY2 : Y ≤ 4294967296 := by omega
          have hrow : RowOf (wr.alloc (.cells #[.int .i64 x, .int .i64 ((Y : Int) / 65536), .int .i64 ((Y : Int) % 65536)] 3)) wr.heap.size (Rf.three x Y) := by
            show _ = _
            rw [heap_alloc_new]
            simp [arr, ints, Rf.three]
          have hbA : Below w.heap.size w (wr.alloc (.cells #[.int .i64 x, .int .i64 ((Y : Int) / 65536), .int .i64 ((Y : Int) % 65536)] 3)) := HB.out.alloc HB.out.size _
          have hszA : wr.heap.size < (wr.alloc (.cells #[.int .i64 x, .int .i64 ((Y : Int) / 65536), .int .i64 ((Y : Int) % 65536)] 3)).heap.size := by simp
          have hx3 : x ≤ 65536 := by omega
          generalize wr.alloc (.cells #[.int .i64 x, .int .i64 ((Y : Int) / 65536), .int .i64 ((Y : Int) % 65536)] 3) = wA at *
          refine (times_any (Rf.three x Y) (Rf.three x Y) (.slice (some ⟨wr.heap.size, 0, none⟩) 3 3) (.slice (some ⟨wr.heap.size, 0, none⟩) 3 3) wA (intsAt_row hrow) (intsAt_row hrow) (fun i => Nat.le_trans (Rf.three_le hx3 hY2 i) (by decide)) (Rf.three_le hx3 hY2) (by show 1 ≤ 3; decide) (by show 3 ≤ 5; decide) rfl).mono ?_
          rintro e w2 ⟨g2, rfl, hg2, hr2, hb2⟩
          have hbB : Below w.heap.size w w2 := hbA.trans (hb2.mono hbA.size)
          have hrowB : RowOf w2 wr.heap.size (Rf.three x Y) := (hb2.block _ hszA).trans hrow
          have HBB : Hid (Below w.heap.size w w2) := hbB
          have HRB : Hid (RowOf w2 wr.heap.size (Rf.three x Y)) := hrowB
          have HR2 : Hid (RowOf w2 g2 (Rf.times (Rf.three x Y) (Rf.three x Y))) := hr2
          have hlen : (Rf.times (Rf.three x Y) (Rf.three x Y)).length = 5 := by rw [Rf.times_length]; rfl
          rw [hlen]
          have HLEN : Hid ((Rf.times (Rf.three x Y) (Rf.three x Y)).length = 5) := hlen
          clear hrow hbA hszA hg2 hr2 hb2 hbB hrowB HB hlen
          go_wp2_with fail
          refine (times_any (Rf.times (Rf.three x Y) (Rf.three x Y)) (Rf.three x Y) (.slice (some ⟨g2, 0, none⟩) 5 5) (.slice (some ⟨wr.heap.size, 0, none⟩) 3 3) w2 (by have := intsAt_row (c := 5) HR2.out; rw [HLEN.out] at this; exact this) (intsAt_row HRB.out) (Rf.three_sq hx3 hY2) (Rf.three_le hx3 hY2) (by rw [HLEN.out]; decide) (by rw [HLEN.out]; decide) rfl).mono ?_
          rintro e w3 ⟨g3, rfl, hg3, hr3, hb3⟩
          have hbC : Below w.heap.size w w3 := HBB.out.trans (hb3.mono HBB.out.size)
          have hlen3 : (Rf.times (Rf.times (Rf.three x Y) (Rf.three x Y)) (Rf.three x Y)).length = 7 := by rw [Rf.times_length, HLEN.out]; rfl
          rw [hlen3]
          have HBC : Hid (Below w.heap.size w w3) := hbC
          have HR3 : Hid (RowOf w3 g3 (Rf.times (Rf.times (Rf.three x Y) (Rf.three x Y)) (Rf.three x Y))) := hr3
          have HLEN3 : Hid ((Rf.times (Rf.times (Rf.three x Y) (Rf.three x Y)) (Rf.three x Y)).length = 7) := hlen3
          clear hg3 hr3 hb3 hbC hlen3 HBB HRB HR2 HLEN
          go_wp2_with fail
          refine (below_any (Rf.times (Rf.times (Rf.three x Y) (Rf.three x Y)) (Rf.three x Y)) p (.slice (some ⟨g3, 0, none⟩) 7 7) w3 (by have := intsAt_row (c := 7) HR3.out; rw [HLEN3.out] at this; exact this) (by rw [HLEN3.out]; decide) (by rw [HLEN3.out]; decide)).mono ?_
          rintro e w4 ⟨rfl, rfl⟩
          have hsm : Rf.below (Rf.times (Rf.times (Rf.three x Y) (Rf.three x Y)) (Rf.three x Y)) p = Rf.small true p x Y := by simp [Rf.small]
          have HBX := HBC
          rw [hsm]
          clear hsm
          by_cases hs : Rf.small true p x Y = true
          · have HJ' : Hid (Rf.bitsTo true p x j Y = R) := by
              have := HJ.out
              rw [if_pos hs] at this
              exact this
            rw [hs]
            clear hs HJ
            go_wp2
            go_roundw
            case rel => exact ⟨j, Y, by omega, by go_num, rfl, (by have := HP.out; omega : Y + 2 ^ j ≤ 4294967296), HJ'.out, HBX.out⟩
            case measure => simp [intOf]
          · have hs' : Rf.small true p x Y = false := by simpa using hs
            have HJ' : Hid (Rf.bitsTo true p x j y = R) := by
              have := HJ.out
              rw [if_neg hs] at this
              exact this
            rw [hs']
            clear hs hs' HJ
            go_wp2
            go_roundw
            case rel => exact ⟨j, y, by omega, by go_num, rfl, (by have := HP.out; omega : y + 2 ^ j ≤ 4294967296), HJ'.out, HBX.out⟩
            case measure => simp [intOf]
        · obtain rfl : k = 0 := by omega
          have hyR : y = R := HR.out
          subst hyR
          go_wp2
          go_ret
          exact ⟨rfl, HB.out⟩
end Go.Proofs.YtagdlpodpokmmaaDoor.S2
/- The contract of the document's roots. -/
namespace Go.Proofs.YtagdlpodpokmmaaDoor.S2
open Go.Proofs.YtagdlpodpokmmaaDoor.Sp
open Go.RowKit
theorem own_slice {w : World} {base e size : Nat} {v : Value} {n : Nat} {xs : List Value} (h : w.ownsRow base e size v n xs) : ∃ q c, v = .slice q n c := by
  obtain ⟨_, ⟨rfl, rfl⟩ | ⟨g, cap, cur, rfl, _⟩⟩ := h
  · exact ⟨none, 0, rfl⟩
  · exact ⟨_, cap, rfl⟩
theorem own_none (w : World) (base e size : Nat) : w.ownsRow base e size (.slice none 0 0) 0 [] := ⟨by simp, .inl ⟨rfl, rfl⟩⟩
theorem own_below {w w' : World} {base e size : Nat} {v : Value} {n : Nat} {xs : List Value} (h : w.ownsRow base e size v n xs) (hb : Below w.heap.size w w') : w'.ownsRow base e size v n xs :=
  h.kept (row := none) ⟨hb.os, hb.tape, hb.output, hb.size, fun k hk _ => hb.block k hk⟩ (by cases hv : v.ownBlock <;> simp)
theorem ints_new (w : World) (l : List Nat) : (w.alloc (.cells (arr .i64 l) 3)).rangeAt w.heap.size 0 (ints .i64 l) := rangeAt_of_row (heap_alloc_new w _)
/-- append of numbers to a row of one's own. -/
theorem law_append_ints {ops : Array Oper} {rest : List Oper} {dst : Option Tmp} {T : TypeId} {pos : String} {after : Array Edge} {a : Act} {w : World} {Q : Exit → Act → World → Prop} {st xt : Tmp}
    (base : Nat) (v : Value) (n : Nat) (l : List Nat) (g c : Nat) (m : Nat) (news : List Nat) (hs : a.eval (.tmp st) = v) (hx : a.eval (.tmp xt) = .slice (some ⟨g, 0, none⟩) m c) (hm : news.length = m) (hown : w.ownsRow base 3 1 v n (ints .i64 l)) (hr : w.rangeAt g 0 (ints .i64 news))
    (hn : n + m ≤ 100000) (hbase : base ≤ w.heap.size)
    (h : ∀ v' w', w'.ownsRow base 3 1 v' (n + m) (ints .i64 (l ++ news)) → w.grownBy w' v.ownBlock → wpList Tryd.prog ops Q rest (a.put dst v') w') :
    wpList Tryd.prog ops Q ({ dst := dst, op := .call { callee := .builtin .append, args := #[.tmp st, .tmp xt], argTypes := #[39, 39] }, type := T, pos := pos, after := after, guard := none } :: rest) a w := by
  obtain ⟨i, hi, hsz, hby, hz⟩ := info3e
  refine wpList_append_own _ rfl (.tmp st) (.tmp xt) 39 rfl base 3 i _ 1 8 Tryd.underlying39 hi hz hsz hby rfl (by decide) v n (ints .i64 l) hs hown ⟨g, 0, none⟩ m c (ints .i64 news) hx (by rw [ints_length]; omega) (fun j u hu => by rw [Addr.add_mid]; exact hr j u hu) (fun u hu => by obtain ⟨q, _, rfl⟩ := List.mem_map.1 hu; rfl) (by unfold maxLen; omega) (by omega) hbase (fun v' w' h1 h2 _ => h v' w' (by rw [ints_append]; exact h1) h2)
theorem below_grown' {B base : Nat} {a w w' : World} {v : Value} {e size n : Nat} {xs : List Value} (h : Below B a w) (hg : w.grownBy w' v.ownBlock) (hown : w.ownsRow base e size v n xs) (hB : B ≤ w.heap.size) (hb : B ≤ base) : Below B a w' :=
  h.grown hg hB (fun k hk => Nat.le_trans hb (hown.lt k hk).1)
namespace Rf
theorem prime_goes {p d : Nat} {b : Bool} (h : d * d ≤ p) (hd : 2 ≤ d) : primeTo p (p + 1 - d) d b = primeTo p (p + 1 - (d + 1)) (d + 1) (b && p % d != 0) := by
  have hle : d ≤ p := Nat.le_trans (Nat.le_mul_of_pos_left d (by omega)) h
  obtain ⟨f, hf⟩ : ∃ f, p + 1 - d = f + 1 := ⟨p - d, by omega⟩
  rw [hf, show p + 1 - (d + 1) = f from by omega, primeTo, if_pos h]
theorem prime_stops {p d : Nat} {b : Bool} (h : ¬ d * d ≤ p) : primeTo p (p + 1 - d) d b = b := by
  cases hf : p + 1 - d with
  | zero => rfl
  | succ f => rw [primeTo, if_neg h]
theorem roots_goes {n p : Nat} {cube : Bool} {o R : List Nat} (hR : rootsTo n cube (400 - p) p o = R) (hl : R.length = n) (h : o.length < n) : p < 400 ∧ rootsTo n cube (400 - (p + 1)) (p + 1) (if prime p then o ++ [root p cube] else o) = R := by
  by_cases hp : p < 400
  · refine ⟨hp, ?_⟩
    obtain ⟨f, hf⟩ : ∃ f, 400 - p = f + 1 := ⟨400 - p - 1, by omega⟩
    rw [hf, rootsTo, if_pos h] at hR
    rw [show 400 - (p + 1) = f from by omega]
    exact hR
  · rw [show 400 - p = 0 from by omega] at hR
    have : o = R := hR
    subst this
    omega
theorem roots_stops {n p f : Nat} {cube : Bool} {o R : List Nat} (hR : rootsTo n cube f p o = R) (h : ¬ o.length < n) : o = R := by
  cases f with
  | zero => exact hR
  | succ f => rw [rootsTo, if_neg h] at hR; exact hR
end Rf
theorem root_any (p : Nat) (cube : Bool) (w : World) (hp : 2 ≤ p) (hp2 : p ≤ 400) :
    Calls Tryd.prog 63 #[.int .i64 p, .bool cube] w fun e w' => e = .returned (.int .i64 (Rf.root p cube : Nat)) ∧ Below w.heap.size w w' := by
  cases cube
  · exact root_false p w hp hp2
  · exact root_true p w hp hp2
set_option maxHeartbeats 1000000 in
theorem roots_any (n : Nat) (cube : Bool) (w : World) (R : List Nat) (hR : Rf.roots n cube = R) (hl : R.length = n) (hn : n ≤ 64) :
    Calls Tryd.prog 45 #[.int .i64 n, .bool cube] w fun e w' => ∃ v, e = .returned v ∧ w'.ownsRow w.heap.size 3 1 v n (ints .i64 R) ∧ Below w.heap.size w w' := by
  have HR : Hid (Rf.rootsTo n cube (400 - 2) 2 [] = R) := hR
  have HL : Hid (R.length = n) := hl
  clear hR hl
  go_enter Tryd.func45, Tryd.ntmps45
  go_wp2
  go_loopw [5, 6] (fun sl i wr => ∃ (p : Nat) (o : List Nat), 2 ≤ p ∧ p ≤ 400 ∧ o.length ≤ n ∧ i = .int .i64 p ∧ Hid (wr.ownsRow w.heap.size 3 1 sl o.length (ints .i64 o)) ∧ Hid (Rf.rootsTo n cube (400 - p) p o = R) ∧ Hid (Below w.heap.size w wr)) (fun _ i _ => 400 - (intOf i).toNat)
  case atStart => exact ⟨2, [], by omega, by omega, by simp, rfl, own_none _ _ _ _, HR.out, Below.refl _ _⟩
  case round =>
    clear HR
    obtain ⟨p, o, hp, hp2, hol, rfl, HO, HR, HB⟩ := hrel
    obtain ⟨q, c, rfl⟩ := own_slice HO.out
    by_cases hlt : o.length < n
    · have hltI : (o.length : Int) < (n : Int) := by omega
      obtain ⟨hp3, hnx⟩ := Rf.roots_goes HR.out HL.out hlt
      have HNX : Hid (Rf.rootsTo n cube (400 - (p + 1)) (p + 1) (if Rf.prime p then o ++ [Rf.root p cube] else o) = R) := hnx
      clear hnx HR
      go_wp2
      go_loop [7, 8] (fun bv i => ∃ (d : Nat) (b : Bool), 2 ≤ d ∧ d ≤ p + 1 ∧ i = .int .i64 d ∧ bv = .bool b ∧ Hid (Rf.primeTo p (p + 1 - d) d b = Rf.prime p)) (fun _ i => p + 1 - (intOf i).toNat)
      case atStart => exact ⟨2, true, by omega, by omega, rfl, rfl, rfl⟩
      case round =>
        obtain ⟨d, b, hd, hd2, rfl, rfl, HP⟩ := hrel
        obtain ⟨s, hs⟩ : ∃ s, d * d = s := ⟨_, rfl⟩
        have hsb : s ≤ 160801 := by rw [← hs]; exact Nat.mul_le_mul (show d ≤ 401 by omega) (show d ≤ 401 by omega)
        have hsd : d ≤ s := by rw [← hs]; exact Nat.le_mul_of_pos_right _ (by omega)
        have hsi : (d : Int) * (d : Int) = (s : Int) := by rw [← hs]; simp
        have HS : Hid (d * d = s) := hs
        clear hs
        have d0 : (d : Int) ≠ 0 := by omega
        have d1 : (0 : Int) < (d : Int) := by omega
        by_cases hg : s ≤ p
        · have hgI : (s : Int) ≤ (p : Int) := by omega
          have hpg := Rf.prime_goes (b := b) (show d * d ≤ p by rw [HS.out]; exact hg) hd
          have HPG : Hid (Rf.primeTo p (p + 1 - (d + 1)) (d + 1) (b && p % d != 0) = Rf.prime p) := by rw [← hpg]; exact HP.out
          have HMI : Hid (((p : Int) % (d : Int) != 0) = (p % d != 0)) := by
            show _ = _
            rw [← Int.natCast_emod]
            by_cases h0 : p % d = 0
            · simp [h0]
            · have h1 : ((p % d : Nat) : Int) ≠ 0 := by omega
              rw [bne_iff_ne.2 h1, bne_iff_ne.2 h0]
          clear hpg HP
          cases b
          · go_wp2
            go_round
            case rel => exact ⟨d + 1, false, by omega, by omega, by go_num, rfl, HPG.out⟩
            case measure => simp [intOf]; omega
          · go_wp2
            go_round
            case rel => exact ⟨d + 1, p % d != 0, by omega, by omega, by go_num, by rw [HMI.out], by have := HPG.out; rw [Bool.true_and] at this; exact this⟩
            case measure => simp [intOf]; omega
        · have hgI : ¬ (s : Int) ≤ (p : Int) := by omega
          have hbp : b = Rf.prime p := by rw [← HP.out]; exact (Rf.prime_stops (by rw [HS.out]; exact hg)).symm
          cases b
          · have HNX' : Hid (Rf.rootsTo n cube (400 - (p + 1)) (p + 1) o = R) := by
              have := HNX.out
              rw [← hbp, if_neg (by decide)] at this
              exact this
            clear HNX hbp HP
            go_wp2
            go_roundw
            case rel => exact ⟨p + 1, o, by omega, by omega, by omega, by go_num, HO.out, HNX'.out, HB.out⟩
            case measure => simp [intOf]; omega
          · have HNX' : Hid (Rf.rootsTo n cube (400 - (p + 1)) (p + 1) (o ++ [Rf.root p cube]) = R) := by
              have := HNX.out
              rw [← hbp, if_pos rfl] at this
              exact this
            clear HNX hbp HP
            go_wp2_with fail
            refine (root_any p cube wr hp hp2).mono ?_
            rintro e w2 ⟨rfl, hb2⟩
            have hbA : Below w.heap.size w w2 := HB.out.trans (hb2.mono HB.out.size)
            have HBA : Hid (Below w.heap.size w w2) := hbA
            have HOA : Hid (w2.ownsRow w.heap.size 3 1 (Value.slice q o.length c) o.length (ints IntKind.i64 o)) := own_below HO.out hb2
            clear HO HB hb2 hbA
            go_wp2_with (with_reducible (refine stop_builtin .append ?_))
            refine Stop.go ?_
            have hrg : (w2.alloc (.cells #[.int .i64 (Rf.root p cube : Nat)] 3)).rangeAt w2.heap.size 0 (ints .i64 [Rf.root p cube]) := ints_new w2 [Rf.root p cube]
            have hsz2 := HBA.out.size
            with_reducible refine law_append_ints w.heap.size (.slice q o.length c) o.length o w2.heap.size 1 1 [Rf.root p cube] ?asv ?axv rfl (own_below HOA.out ((Below.refl _ _).alloc (Nat.le_refl _) _)) hrg (by omega) (by simp; omega) ?ak
            case asv => exact rfl
            case axv => exact rfl
            intro v3 w3 hown3 hg3
            have hb3 : Below w.heap.size w w3 := below_grown' (HBA.out.alloc HBA.out.size _) hg3 (own_below HOA.out ((Below.refl _ _).alloc (Nat.le_refl _) _)) (by simp; have := HBA.out.size; omega) (Nat.le_refl _)
            have HO3 : Hid (w3.ownsRow w.heap.size 3 1 v3 (o ++ [Rf.root p cube]).length (ints .i64 (o ++ [Rf.root p cube]))) := by
              rw [List.length_append]; exact hown3
            have HB3 : Hid (Below w.heap.size w w3) := hb3
            clear hown3 hg3 hb3 HOA HBA hrg
            go_wp2
            go_roundw
            case rel => exact ⟨p + 1, o ++ [Rf.root p cube], by omega, by omega, by simp; omega, by go_num, HO3.out, HNX'.out, HB3.out⟩
            case measure => simp [intOf]; omega
    · have hltI : ¬ (o.length : Int) < (n : Int) := by omega
      have hoR := Rf.roots_stops HR.out hlt
      subst hoR
      have hln := HL.out
      go_wp2
      go_ret
      exact ⟨_, rfl, by rw [← hln]; exact HO.out, HB.out⟩
end Go.Proofs.YtagdlpodpokmmaaDoor.S2
/- The contract of the document's schedule. -/
namespace Go.Proofs.YtagdlpodpokmmaaDoor.S2
open Go.Proofs.YtagdlpodpokmmaaDoor.Sp
open Go.RowKit
set_option maxHeartbeats 400000 in
theorem topI (z : Int) (w : World) (h0 : 0 ≤ z) (h1 : z ≤ 9223372036854775807) : Calls Tryd.prog 47 #[.int .i64 z] w fun e w' => e = .returned (.int .i64 (z % 4294967296)) ∧ w' = w := by
  obtain ⟨x, rfl⟩ := Int.eq_ofNat_of_zero_le h0
  refine (top_any x w (by omega)).mono ?_
  rintro e w' ⟨rfl, rfl⟩
  exact ⟨ret_int (by omega), rfl⟩
theorem topN (A B C D n : Nat) (w : World) (hA : A < 4294967296) (hB : B < 4294967296) (hC : C < 4294967296) (hD : D < 4294967296) (hn : ((A : Int) + (B : Int) + (C : Int) + (D : Int)) % 4294967296 = (n : Int)) :
    Calls Tryd.prog 47 #[.int .i64 ((A : Int) + (B : Int) + (C : Int) + (D : Int))] w fun e w' => e = .returned (.int .i64 (n : Nat)) ∧ w' = w := by
  refine (topI _ w (by omega) (by omega)).mono ?_
  rintro e w' ⟨rfl, rfl⟩
  exact ⟨ret_int hn, rfl⟩
theorem cf26 (vs : Array Value) (w : World) : (callFunc 47 vs).run Tryd.prog w = .ok (.enter 47 vs) w := by kernel_rfl
/-- A call of a function, as one step of a region that draws. -/
theorem step_call {P : Program} {ops : Array Oper} {o : Oper} {a : Act} {w : World} {K : Act → World → Prop} {Q : Exit → Act → World → Prop} {E : Prop} (hg : o.guard = none) (f : FuncId) (hcf : ∀ vs w, (callFunc f vs).run P w = .ok (.enter f vs) w) (x : Operand) (ts : Array TypeId)
    (hop : o.op = Op.call { callee := Callee.value (Operand.func f), args := #[x], argTypes := ts }) (v : Value) (hv : a.eval x = v)
    (h : Calls P f #[v] w fun e w' => ∃ v, e = .returned v ∧ K (a.put o.dst v) w') :
    if Region.wanted o (yielded ops a.tmps) = true then Oper.wp P o a w K Q else E := by
  have hw : Region.wanted o (yielded ops a.tmps) = true := by simp [Region.wanted, hg]
  rw [if_pos hw]
  have hr : (execOp a.eval o).run P w = .ok (.enter f #[v]) w := by
    unfold execOp
    simp only [hop]
    have hf : a.eval (.func f) = .func (Fn.func f) #[] #[] := rfl
    generalize a.eval = r at *
    simp [go_sem, hcf, hv, hf]
  unfold Oper.wp
  rw [hr]
  exact h.mono (by rintro e w' ⟨v, rfl, hk⟩; exact hk)
theorem step_append_ints {ops : Array Oper} {o : Oper} {a : Act} {w : World} {K : Act → World → Prop} {Q : Exit → Act → World → Prop} {E : Prop} (hg : o.guard = none) (s x : Operand)
    (hop : o.op = Op.call { callee := Callee.builtin Builtin.append, args := #[s, x], argTypes := #[39, 39] })
    (base : Nat) (v : Value) (n : Nat) (l : List Nat) (g c : Nat) (m : Nat) (news : List Nat) (hs : a.eval s = v) (hx : a.eval x = .slice (some ⟨g, 0, none⟩) m c) (hm : news.length = m) (hown : w.ownsRow base 3 1 v n (ints .i64 l)) (hr : w.rangeAt g 0 (ints .i64 news))
    (hn : n + m ≤ 100000) (hbase : base ≤ w.heap.size)
    (hK : ∀ v' w', Hid (w'.ownsRow base 3 1 v' (n + m) (ints .i64 (l ++ news))) → Hid (w.grownBy w' v.ownBlock) → K (a.put o.dst v') w') :
    if Region.wanted o (yielded ops a.tmps) = true then Oper.wp Tryd.prog o a w K Q else E := by
  have hw : Region.wanted o (yielded ops a.tmps) = true := by simp [Region.wanted, hg]
  rw [if_pos hw]
  obtain ⟨i, hi, hsz, hby, hz⟩ := info3e
  obtain ⟨v', w', hrun, r1, r2, _⟩ := run_append_own (P := Tryd.prog) w base 39 o.type 3 i _ 1 8 Tryd.underlying39 hi hz hsz hby rfl (by decide) v n (ints .i64 l) hown ⟨g, 0, none⟩ m c (ints .i64 news) (by rw [ints_length]; omega) (fun j u hu => by rw [Addr.add_mid]; exact hr j u hu) (fun u hu => by obtain ⟨q, _, rfl⟩ := List.mem_map.1 hu; rfl) (by unfold maxLen; omega) (by omega) hbase
  rw [← ints_append] at r1
  unfold Oper.wp
  simp [execOp, hop, resolve, invoke, builtin, hs, hx, hrun, Result.andThen]
  exact hK v' w' r1 r2
theorem own_cell {w : World} {base : Nat} {v : Value} {k : IntKind} {e n : Nat} {l : List Nat} (h : w.ownsRow base e 1 v n (ints k l)) (hn : 0 < n) : ∃ g c, v = .slice (some ⟨g, 0, none⟩) n c ∧ base ≤ g ∧ g < w.heap.size ∧ w.rangeAt g 0 (ints k l) := by
  obtain ⟨hl, ⟨rfl, h0⟩ | ⟨g, cap, cur, rfl, hg, hh, hn, hm, hc, ht⟩⟩ := h
  · omega
  · refine ⟨g, cap, rfl, hg, (Array.getElem?_eq_some_iff.1 hh).1, fun j u hu => ?_⟩
    rw [cell_of_row _ _ _ _ _ _ hh, Nat.zero_add]
    have hj := (List.getElem?_eq_some_iff.1 hu).1
    rw [← ht, Nat.mul_one, List.getElem?_take_of_lt (by rw [hl] at hj; omega)] at hu
    simpa using hu
set_option maxRecDepth 100000 in
set_option maxHeartbeats 1000000 in
theorem sched_any (b : List Nat) (g o c : Nat) (w : World) (hs : ∀ x ∈ b, x < 256) (hr : w.rangeAt g o (ints .u8 b)) (hl : b.length = 64) :
    Calls Tryd.prog 46 #[.slice (some ⟨g, o, none⟩) 64 c] w fun e w' => ∃ v, e = .returned v ∧ w'.ownsRow w.heap.size 3 1 v 64 (ints .i64 (Sp.spread b)) ∧ Below w.heap.size w w' := by
  have HS : Hid (∀ x ∈ b, x < 256) := hs
  have HR : Hid (w.rangeAt g o (ints .u8 b)) := hr
  have HL : Hid (b.length = 64) := hl
  clear hs hr hl
  go_enter Tryd.func46, Tryd.ntmps46
  go_wp2
  go_loopw [3, 4] (fun sl i wr => ∃ (k : Nat), k ≤ 16 ∧ i = .int .i64 k ∧ Hid (wr.ownsRow w.heap.size 3 1 sl k (ints .i64 (Sp.firsts b k))) ∧ Hid (Below w.heap.size w wr)) (fun _ i _ => 16 - (intOf i).toNat)
  case atStart => exact ⟨0, by omega, rfl, own_none _ _ _ _, Below.refl _ _⟩
  case round =>
    obtain ⟨k, hk, rfl, HO, HB⟩ := hrel
    obtain ⟨q, cq, rfl⟩ := own_slice HO.out
    by_cases hlt : k < 16
    · go_wp2_with fail
      have hwd := word_any b g o c (4 * k) wr HS.out (rangeAt_below HB.out HR.out) (by rw [HL.out]; omega) (by rw [HL.out]; decide)
      rw [HL.out, show ((4 * k : Nat) : Int) = 4 * (k : Int) from by omega] at hwd
      refine hwd.mono ?_
      clear hwd
      rintro e w2 ⟨rfl, m, rfl⟩
      go_wp2_with (with_reducible (refine stop_builtin .append ?_))
      refine Stop.go ?_
      have hsz := HB.out.size
      have hrg : ((wr.drewN m).alloc (.cells #[.int .i64 (Sp.word b (4 * k) : Nat)] 3)).rangeAt wr.heap.size 0 (ints .i64 [Sp.word b (4 * k)]) := ints_new (wr.drewN m) [Sp.word b (4 * k)]
      have hbA : Below wr.heap.size wr ((wr.drewN m).alloc (.cells #[.int .i64 (Sp.word b (4 * k) : Nat)] 3)) := (below_drewN (Below.refl _ _) m).alloc (Nat.le_refl _) _
      with_reducible refine law_append_ints w.heap.size (.slice q k cq) k (Sp.firsts b k) wr.heap.size 1 1 [Sp.word b (4 * k)] ?asv ?axv rfl (own_below HO.out hbA) hrg (by omega) (by simp; omega) ?ak
      case asv => exact rfl
      case axv => exact rfl
      intro v3 w3 hown3 hg3
      rw [← Sp.firsts_succ] at hown3
      have hb3 : Below w.heap.size w w3 := below_grown' (HB.out.trans (hbA.mono hsz)) hg3 (own_below HO.out hbA) (by simp; omega) (Nat.le_refl _)
      have HO3 : Hid (w3.ownsRow w.heap.size 3 1 v3 (k + 1) (ints .i64 (Sp.firsts b (k + 1)))) := hown3
      have HB3 : Hid (Below w.heap.size w w3) := hb3
      clear hown3 hg3 hb3 HO HB hrg hbA
      go_wp2
      go_roundw
      case rel => exact ⟨k + 1, by omega, by go_num, HO3.out, HB3.out⟩
      case measure => simp [intOf]; omega
    · obtain rfl : k = 16 := by omega
      go_wp2
      go_loopw [3, 5] (fun sl i wr => ∃ (k : Nat), k ≤ 48 ∧ i = .int .i64 ((k + 16 : Nat) : Int) ∧ Hid (wr.ownsRow w.heap.size 3 1 sl (k + 16) (ints .i64 (Sp.spreadTo b k))) ∧ Hid (Below w.heap.size w wr)) (fun _ i _ => 64 - (intOf i).toNat)
      case atStart => exact ⟨0, by omega, rfl, HO.out, HB.out⟩
      case round =>
        clear HO HB
        obtain ⟨k, hk, rfl, HO, HB⟩ := hrel
        obtain ⟨t, ht⟩ : ∃ t, k + 16 = t := ⟨_, rfl⟩
        rw [ht] at HO
        rw [ht]
        obtain ⟨gl, cl, rfl, hgl, hgl2, hrl⟩ := own_cell HO.out (by omega)
        have hlen := Sp.spreadTo_length b k
        have hsm : ∀ x ∈ Sp.spreadTo b k, x < 4294967296 := Sp.spreadTo_lt HS.out k
        obtain ⟨l, hl⟩ : ∃ l, Sp.spreadTo b k = l := ⟨_, rfl⟩
        have HSU : Hid (Sp.spreadTo b (k + 1) = l ++ [Sp.next l]) := by rw [← hl]; rfl
        have HSL : Hid (Sp.spreadTo b k = l) := hl
        rw [hl] at hlen hsm hrl HO
        have HLL : Hid (l.length = t) := by show _ = _; omega
        have HRL : Hid (wr.rangeAt gl 0 (ints .i64 l)) := hrl
        clear hl hlen hrl
        by_cases hlt : t < 64
        · have c2 := range_cell HRL.out (t - 2) (by rw [HLL.out]; omega)
          have c7 := range_cell HRL.out (t - 7) (by rw [HLL.out]; omega)
          have c15 := range_cell HRL.out (t - 15) (by rw [HLL.out]; omega)
          have c16 := range_cell HRL.out (t - 16) (by rw [HLL.out]; omega)
          rw [Nat.zero_add] at c2 c7 c15 c16
          have x2 : Sp.nth l (t - 2) < 4294967296 := Sp.nth_lt (by decide) hsm _
          have x7 : Sp.nth l (t - 7) < 4294967296 := Sp.nth_lt (by decide) hsm _
          have x15 : Sp.nth l (t - 15) < 4294967296 := Sp.nth_lt (by decide) hsm _
          have x16 : Sp.nth l (t - 16) < 4294967296 := Sp.nth_lt (by decide) hsm _
          have s2 : Sp.shifted (Sp.nth l (t - 2)) 17 19 10 < 4294967296 := Sp.shifted_lt x2
          have s15 : Sp.shifted (Sp.nth l (t - 15)) 7 18 3 < 4294967296 := Sp.shifted_lt x15
          have HNX : Hid ((((Sp.shifted (Sp.nth l (t - 2)) 17 19 10 : Nat) : Int) + (Sp.nth l (t - 7) : Nat) + (Sp.shifted (Sp.nth l (t - 15)) 7 18 3 : Nat) + (Sp.nth l (t - 16) : Nat)) % 4294967296 = (Sp.next l : Nat)) := by
            show _ = _
            have := Sp.nextI l t HLL.out
            rw [IntKind.wrap_u32'] at this
            rw [← this]
            omega
          have e2 : Sp.shifted (Sp.nth l (t - 2)) 17 19 10 = Sp.rotr (Sp.nth l (t - 2)) 17 ^^^ Sp.rotr (Sp.nth l (t - 2)) 19 ^^^ Sp.nth l (t - 2) / 1024 := rfl
          have e15 : Sp.shifted (Sp.nth l (t - 15)) 7 18 3 = Sp.rotr (Sp.nth l (t - 15)) 7 ^^^ Sp.rotr (Sp.nth l (t - 15)) 18 ^^^ Sp.nth l (t - 15) / 8 := rfl
          have HE2 : Hid (Sp.shifted (Sp.nth l (t - 2)) 17 19 10 = Sp.rotr (Sp.nth l (t - 2)) 17 ^^^ Sp.rotr (Sp.nth l (t - 2)) 19 ^^^ Sp.nth l (t - 2) / 1024) := e2
          have HE15 : Hid (Sp.shifted (Sp.nth l (t - 15)) 7 18 3 = Sp.rotr (Sp.nth l (t - 15)) 7 ^^^ Sp.rotr (Sp.nth l (t - 15)) 18 ^^^ Sp.nth l (t - 15) / 8) := e15
          clear e2 e15 hsm
          generalize Sp.shifted (Sp.nth l (t - 2)) 17 19 10 = S2 at *
          generalize Sp.shifted (Sp.nth l (t - 15)) 7 18 3 = S15 at *
          generalize Sp.nth l (t - 2) = X2 at *
          generalize Sp.nth l (t - 7) = X7 at *
          generalize Sp.nth l (t - 15) = X15 at *
          generalize Sp.nth l (t - 16) = X16 at *
          have i2 : (0 : Int) ≤ (t : Int) - 2 := by omega
          have i7 : (0 : Int) ≤ (t : Int) - 7 := by omega
          have i15 : (0 : Int) ≤ (t : Int) - 15 := by omega
          have i16 : (0 : Int) ≤ (t : Int) - 16 := by omega
          have j2 : (t : Int) - 2 < (t : Int) := by omega
          have j7 : (t : Int) - 7 < (t : Int) := by omega
          have j15 : (t : Int) - 15 < (t : Int) := by omega
          have j16 : (t : Int) - 16 < (t : Int) := by omega
          have t2 : ((t : Int) - 2).toNat = t - 2 := by omega
          have t7 : ((t : Int) - 7).toNat = t - 7 := by omega
          have t15 : ((t : Int) - 15).toNat = t - 15 := by omega
          have t16 : ((t : Int) - 16).toNat = t - 16 := by omega
          have v7 : IntKind.i64.wrap ((t : Int) - 7) = (t : Int) - 7 := i64_id _ (by omega)
          have v16 : IntKind.i64.wrap ((t : Int) - 16) = (t : Int) - 16 := i64_id _ (by omega)
          have n1 : IntKind.i64.wrap ((S2 : Int) + (X7 : Int)) = (S2 : Int) + (X7 : Int) := i64_id _ (by omega)
          have n2 : IntKind.i64.wrap ((S2 : Int) + (X7 : Int) + (S15 : Int)) = (S2 : Int) + (X7 : Int) + (S15 : Int) := i64_id _ (by omega)
          have n3 : IntKind.i64.wrap ((S2 : Int) + (X7 : Int) + (S15 : Int) + (X16 : Int)) = (S2 : Int) + (X7 : Int) + (S15 : Int) + (X16 : Int) := i64_id _ (by omega)
          have p7 : (7 : Int) ≤ (t : Int) := by omega
          have p16 : (16 : Int) ≤ (t : Int) := by omega
          have q0 : (t : Int) < 64 := by omega
          have r7 := Sp.rotr_lt (n := 7) x15
          have r18 := Sp.rotr_lt (n := 18) x15
          have r17 := Sp.rotr_lt (n := 17) x2
          have r19 := Sp.rotr_lt (n := 19) x2
          have hS15 : bits BinOp.xor IntKind.i64 (bits BinOp.xor IntKind.i64 ((Sp.rotr X15 7 : Nat) : Int) ((Sp.rotr X15 18 : Nat) : Int)) ((X15 : Int) / 8) = (S15 : Int) := by
            rw [show (X15 : Int) / 8 = ((X15 / 8 : Nat) : Int) from by omega, i64_xor_nat _ _ r7 r18, i64_xor_nat _ _ (Sp.xor_lt r7 r18) (by omega), HE15.out]
          have hS2 : bits BinOp.xor IntKind.i64 (bits BinOp.xor IntKind.i64 ((Sp.rotr X2 17 : Nat) : Int) ((Sp.rotr X2 19 : Nat) : Int)) ((X2 : Int) / 1024) = (S2 : Int) := by
            rw [show (X2 : Int) / 1024 = ((X2 / 1024 : Nat) : Int) from by omega, i64_xor_nat _ _ r17 r19, i64_xor_nat _ _ (Sp.xor_lt r17 r19) (by omega), HE2.out]
          have hT : ∀ w, Calls Tryd.prog 47 #[.int .i64 ((S2 : Int) + (X7 : Int) + (S15 : Int) + (X16 : Int))] w fun e w' => e = .returned (.int .i64 (Sp.next l : Nat)) ∧ w' = w := fun w => topN S2 X7 S15 X16 (Sp.next l) w s2 x7 s15 x16 HNX.out
          have HS15 : Hid (bits BinOp.xor IntKind.i64 (bits BinOp.xor IntKind.i64 ((Sp.rotr X15 7 : Nat) : Int) ((Sp.rotr X15 18 : Nat) : Int)) ((X15 : Int) / 8) = (S15 : Int)) := hS15
          have HS2 : Hid (bits BinOp.xor IntKind.i64 (bits BinOp.xor IntKind.i64 ((Sp.rotr X2 17 : Nat) : Int) ((Sp.rotr X2 19 : Nat) : Int)) ((X2 : Int) / 1024) = (S2 : Int)) := hS2
          have HTOP : Hid (∀ w, Calls Tryd.prog 47 #[.int .i64 ((S2 : Int) + (X7 : Int) + (S15 : Int) + (X16 : Int))] w fun e w' => e = .returned (.int .i64 (Sp.next l : Nat)) ∧ w' = w) := hT
          clear hS15 hS2 hT HNX HE2 HE15 r7 r18 r17 r19
          have hszB := HB.out.size
          go_wp2_with fail
          refine (turn7 X15 wr x15).mono ?_
          rintro e w2 ⟨rfl, m1, rfl⟩
          go_wp2_with fail
          refine (turn18 X15 _ x15).mono ?_
          rintro e w2 ⟨rfl, m2, rfl⟩
          go_wp2_with fail
          rw [HS15.out]
          refine (turn17 X2 _ x2).mono ?_
          rintro e w2 ⟨rfl, m3, rfl⟩
          go_wp2_with fail
          refine (turn19 X2 _ x2).mono ?_
          rintro e w2 ⟨rfl, m4, rfl⟩
          go_wp2_with fail
          rw [HS2.out]
          go_region_law (first | (refine step_append_ints rfl (.tmp 51) (.tmp 68) rfl w.heap.size (.slice (some ⟨gl, 0, none⟩) t cl) t l wr.heap.size 1 1 [Sp.next l] rfl rfl rfl (own_below HO.out ((below_drewN (Below.refl _ _) _).alloc (Nat.le_refl _) _)) (ints_new (wr.drewN _) [Sp.next l]) (by omega) (by simp; omega) ?_; intro v3 w3 HO3 HG3) | (refine step_call rfl 47 cf26 (.tmp 66) #[3] rfl (.int .i64 ((S2 : Int) + (X7 : Int) + (S15 : Int) + (X16 : Int))) rfl ((HTOP.out _).mono ?_); rintro e w' ⟨rfl, rfl⟩; refine ⟨_, rfl, ?_⟩))
          all_goals
            have hb3 : Below w.heap.size w w3 := below_grown' ((below_drewN HB.out _).alloc hszB _) HG3.out (own_below HO.out ((below_drewN (Below.refl _ _) _).alloc (Nat.le_refl _) _)) (by simp; omega) (Nat.le_refl _)
            have HB3 : Hid (Below w.heap.size w w3) := hb3
            clear hb3 HG3
            go_wp2
            go_roundw
            case rel =>
              (repeat apply Exists.intro)
              refine ⟨⟨k + 1, by omega, ?_, ?_, HB3.out⟩, rfl⟩
              · rw [← ht]; go_num
              · rw [HSU.out, show k + 1 + 16 = t + 1 from by omega]; exact HO3.out
            case measure => simp [intOf]; omega
        · obtain rfl : t = 64 := by omega
          obtain rfl : k = 48 := by omega
          go_wp2
          go_ret
          refine ⟨_, rfl, ?_, HB.out⟩
          show wr.ownsRow _ _ _ _ _ (ints .i64 (Sp.spreadTo b 48))
          rw [HSL.out]
          exact HO.out
end Go.Proofs.YtagdlpodpokmmaaDoor.S2
/- The contract of the document's Sum. -/
namespace Go.Proofs.YtagdlpodpokmmaaDoor.S2
open Go.Proofs.YtagdlpodpokmmaaDoor.Sp
open Go.RowKit
theorem srcIs_new (w : World) (l : List Nat) : SrcIs (w.alloc (.cells (arr .u8 l) 5)) (.slice (some ⟨w.heap.size, 0, none⟩) l.length l.length) l :=
  .inr ⟨⟨w.heap.size, 0, none⟩, l.length, rfl, fun j u hu => by rw [Addr.add_mid]; exact rangeAt_of_row (heap_alloc_new w _) j u hu⟩
namespace Sp
theorem be8_small (c : Nat) (h : c < 4294967296) : be8To c 8 = [0, 0, 0, 0] ++ [c / 16777216 % 256, c / 65536 % 256, c / 256 % 256, c % 256] := by
  have e : be8To c 8 = [c / 2 ^ 56 % 256, c / 2 ^ 48 % 256, c / 2 ^ 40 % 256, c / 2 ^ 32 % 256, c / 2 ^ 24 % 256, c / 2 ^ 16 % 256, c / 2 ^ 8 % 256, c / 2 ^ 0 % 256] := rfl
  have a1 : c / 2 ^ 56 % 256 = 0 := by omega
  have a2 : c / 2 ^ 48 % 256 = 0 := by omega
  have a3 : c / 2 ^ 40 % 256 = 0 := by omega
  have a4 : c / 2 ^ 32 % 256 = 0 := by omega
  rw [e, a1, a2, a3, a4]
  simp
theorem pad_list (m : List Nat) (hm : m.length * 8 < 4294967296) : m ++ [128] ++ List.replicate (marked m.length - 1) 0 ++ [0, 0, 0, 0] ++ [m.length * 8 / 16777216 % 256, m.length * 8 / 65536 % 256, m.length * 8 / 256 % 256, m.length * 8 % 256] = m ++ ending m.length := by
  unfold ending endingTo
  rw [be8_small _ hm]
  simp
end Sp
theorem own_cell2 {w : World} {base : Nat} {v : Value} {k : IntKind} {e n : Nat} {l : List Nat} (h : w.ownsRow base e 1 v n (ints k l)) (hn : 0 < n) : ∃ g c, v = .slice (some ⟨g, 0, none⟩) n c ∧ n ≤ c ∧ base ≤ g ∧ g < w.heap.size ∧ w.rangeAt g 0 (ints k l) := by
  obtain ⟨g, c, rfl, h1, h2, h3⟩ := own_cell h hn
  obtain ⟨_, ⟨h0, _⟩ | ⟨g', cap, cur, hv, hg, hh, hn, _⟩⟩ := h
  · cases h0
  · cases hv
    exact ⟨g, c, rfl, hn, h1, h2, h3⟩
theorem range_grown {w w' : World} {g o : Nat} {vs : List Value} {r : Nat} (h : w.rangeAt g o vs) (hg : w.grownBy w' (some r)) (hne : g ≠ r) : w'.rangeAt g o vs := fun j v hv => by
  have h1 := h j v hv
  have h2 := World.block_lt_of_cell? w _ h1
  rw [← h1]
  unfold World.cell?
  rw [hg.block g h2 (by intro e; exact hne (Option.some.inj e))]
theorem range_sub {w : World} {g : Nat} {k : IntKind} {l : List Nat} (h : w.rangeAt g 0 (ints k l)) (o n : Nat) : w.rangeAt g o (ints k ((l.drop o).take n)) := fun j v hv => by
  have := h (o + j) v
  rw [Nat.zero_add] at this
  apply this
  rw [← hv]
  have hj := (List.getElem?_eq_some_iff.1 hv).1
  simp [ints] at hj
  simp [ints, List.getElem?_take_of_lt (show j < n by omega), List.getElem?_drop]
theorem quiet_more2 {P : Program} {f : FuncId} {args : Array Value} {w : World} {m n : Nat} {v : Value}
    (h : Calls P f args (w.drewN (m + n)) fun e w' => e = .returned v ∧ ∃ k, w' = (w.drewN (m + n)).drewN k) : Calls P f args (w.drewN (m + n)) fun e w'' => e = .returned v ∧ ∃ k, w'' = w.drewN (m + k) :=
  h.mono fun _ _ ⟨he, k, hk⟩ => ⟨he, n + k, by rw [hk, World.drewN_drewN, Nat.add_assoc]⟩
theorem topQ (z : Int) (n : Nat) (w : World) (h0 : 0 ≤ z) (h1 : z ≤ 9223372036854775807) (hn : z % 4294967296 = (n : Int)) : Calls Tryd.prog 47 #[.int .i64 z] w fun e w' => e = .returned (.int .i64 (n : Nat)) ∧ w' = w := by
  refine (topI z w h0 h1).mono ?_
  rintro e w' ⟨rfl, rfl⟩
  exact ⟨ret_int hn, rfl⟩
theorem top5 (A B C D E n : Nat) (w : World) (hA : A < 4294967296) (hB : B < 4294967296) (hC : C < 4294967296) (hD : D < 4294967296) (hE : E < 4294967296) (hn : ((A : Int) + (B : Int) + (C : Int) + (D : Int) + (E : Int)) % 4294967296 = (n : Int)) :
    Calls Tryd.prog 47 #[.int .i64 ((A : Int) + (B : Int) + (C : Int) + (D : Int) + (E : Int))] w fun e w' => e = .returned (.int .i64 (n : Nat)) ∧ w' = w := topQ _ n w (by omega) (by omega) hn
theorem top2 (A B n : Nat) (w : World) (hA : A < 4294967296) (hB : B < 4294967296) (hn : ((A : Int) + (B : Int)) % 4294967296 = (n : Int)) :
    Calls Tryd.prog 47 #[.int .i64 ((A : Int) + (B : Int))] w fun e w' => e = .returned (.int .i64 (n : Nat)) ∧ w' = w := topQ _ n w (by omega) (by omega) hn
theorem top2' (A B : Nat) (w : World) (hA : A < 4294967296) (hB : B < 4294967296) :
    Calls Tryd.prog 47 #[.int .i64 ((A : Int) + (B : Int))] w fun e w' => e = .returned (.int .i64 ((A + B) % 4294967296 : Nat)) ∧ w' = w := top2 A B _ w hA hB (by omega)
theorem wrap2 {A B : Nat} (hA : A < 4294967296) (hB : B < 4294967296) : IntKind.i64.wrap ((A : Int) + (B : Int)) = (A : Int) + (B : Int) := i64_id _ (by omega)
theorem cell_alloc_g {w : World} {g i : Nat} {o : Obj} (h : g < w.heap.size) : (w.alloc o).cell? ⟨g, i, none⟩ = w.cell? ⟨g, i, none⟩ := ((Below.refl w.heap.size w).alloc (Nat.le_refl _) o).cell h
theorem rows_new (W : World) (T1 T2 ra rb rc rd re rf rg : Nat) : (W.alloc (.cells #[.int .i64 (((T1 : Int) + (T2 : Int)) % 4294967296), .int .i64 ra, .int .i64 rb, .int .i64 rc, .int .i64 (((rd : Int) + (T1 : Int)) % 4294967296), .int .i64 re, .int .i64 rf, .int .i64 rg] 3)).rangeAt W.heap.size 0 (ints .i64 [(T1 + T2) % 4294967296, ra, rb, rc, (rd + T1) % 4294967296, re, rf, rg]) := by
  have h := ints_new W [(T1 + T2) % 4294967296, ra, rb, rc, (rd + T1) % 4294967296, re, rf, rg]
  have e1 : (((T1 + T2) % 4294967296 : Nat) : Int) = ((T1 : Int) + (T2 : Int)) % 4294967296 := by omega
  have e2 : (((rd + T1) % 4294967296 : Nat) : Int) = ((rd : Int) + (T1 : Int)) % 4294967296 := by omega
  rw [← e1, ← e2]
  exact h
theorem own_mono {w : World} {base base' e size : Nat} {v : Value} {n : Nat} {xs : List Value} (h : w.ownsRow base e size v n xs) (hb : base' ≤ base) : w.ownsRow base' e size v n xs := by
  obtain ⟨hl, h | ⟨g, cap, cur, hv, hg, h⟩⟩ := h
  · exact ⟨hl, .inl h⟩
  · exact ⟨hl, .inr ⟨g, cap, cur, hv, Nat.le_trans hb hg, h⟩⟩
theorem bytes_new (W : World) (x : Nat) (hx : x < 4294967296) : (W.alloc (.cells #[.int .u8 (IntKind.u8.wrap (IntKind.i64.wrap ((x : Int) / 16777216))), .int .u8 (IntKind.u8.wrap ((IntKind.i64.wrap ((x : Int) / 65536)).tmod 256)), .int .u8 (IntKind.u8.wrap ((IntKind.i64.wrap ((x : Int) / 256)).tmod 256)), .int .u8 (IntKind.u8.wrap ((x : Int).tmod 256))] 5)).rangeAt W.heap.size 0 (ints .u8 (Sp.bytes4 x)) := by
  have h : (W.alloc (.cells (arr .u8 (Sp.bytes4 x)) 5)).rangeAt W.heap.size 0 (ints .u8 (Sp.bytes4 x)) := rangeAt_of_row (heap_alloc_new W _)
  have e1 : IntKind.u8.wrap (IntKind.i64.wrap ((x : Int) / 16777216)) = ((x / 16777216 % 256 : Nat) : Int) := by
    rw [i64_id _ (by omega), IntKind.wrap_u8']; omega
  have e2 : IntKind.u8.wrap ((IntKind.i64.wrap ((x : Int) / 65536)).tmod 256) = ((x / 65536 % 256 : Nat) : Int) := by
    rw [i64_id _ (by omega), Int.tmod_eq_emod_of_nonneg (by omega), IntKind.wrap_u8']; omega
  have e3 : IntKind.u8.wrap ((IntKind.i64.wrap ((x : Int) / 256)).tmod 256) = ((x / 256 % 256 : Nat) : Int) := by
    rw [i64_id _ (by omega), Int.tmod_eq_emod_of_nonneg (by omega), IntKind.wrap_u8']; omega
  have e4 : IntKind.u8.wrap ((x : Int).tmod 256) = ((x % 256 : Nat) : Int) := by
    rw [Int.tmod_eq_emod_of_nonneg (by omega), IntKind.wrap_u8']; omega
  rw [e1, e2, e3, e4]
  exact h
theorem step_append_bytes {ops : Array Oper} {o : Oper} {a : Act} {w : World} {K : Act → World → Prop} {Q : Exit → Act → World → Prop} {E : Prop} (hg : o.guard = none) (s x : Operand)
    (hop : o.op = Op.call { callee := Callee.builtin Builtin.append, args := #[s, x], argTypes := #[22, 22] })
    (base : Nat) (v : Value) (n : Nat) (l : List Nat) (g c : Nat) (m : Nat) (news : List Nat) (hs : a.eval s = v) (hx : a.eval x = .slice (some ⟨g, 0, none⟩) m c) (hm : news.length = m) (hown : w.ownsRow base 5 1 v n (ints .u8 l)) (hr : w.rangeAt g 0 (ints .u8 news))
    (hn : n + m ≤ 100000) (hbase : base ≤ w.heap.size)
    (hK : ∀ v' w', Hid (w'.ownsRow base 5 1 v' (n + m) (ints .u8 (l ++ news))) → Hid (w.grownBy w' v.ownBlock) → K (a.put o.dst v') w') :
    if Region.wanted o (yielded ops a.tmps) = true then Oper.wp Tryd.prog o a w K Q else E := by
  have hw : Region.wanted o (yielded ops a.tmps) = true := by simp [Region.wanted, hg]
  rw [if_pos hw]
  obtain ⟨i, hi, hsz, hby, hz⟩ := info5e
  obtain ⟨v', w', hrun, r1, r2, _⟩ := run_append_own (P := Tryd.prog) w base 22 o.type 5 i _ 1 1 Tryd.underlying22 hi hz hsz hby rfl (by decide) v n (ints .u8 l) hown ⟨g, 0, none⟩ m c (ints .u8 news) (by rw [ints_length]; omega) (fun j u hu => by rw [Addr.add_mid]; exact hr j u hu) (fun u hu => by obtain ⟨q, _, rfl⟩ := List.mem_map.1 hu; rfl) (by unfold maxLen; omega) (by omega) hbase
  rw [← ints_append] at r1
  unfold Oper.wp
  simp [execOp, hop, resolve, invoke, builtin, hs, hx, hrun, Result.andThen]
  exact hK v' w' r1 r2
theorem cast2 (x y : Nat) : (((x + y) % 4294967296 : Nat) : Int) = ((x : Int) + (y : Int)) % 4294967296 := by omega
theorem app_keep {base g j n : Nat} {w w' : World} {v u : Value} {xs : List Value} (hg : w.grownBy w' v.ownBlock) (hown : w.ownsRow base 5 1 v n xs) (hlt : g < base) (hsz : base ≤ w.heap.size) (hc : w.cell? ⟨g, j, none⟩ = some u) : w'.cell? ⟨g, j, none⟩ = some u := by
  have hb := below_grown' (Below.refl base w) hg hown hsz (Nat.le_refl _)
  rw [← hc]
  exact hb.cell hlt
theorem K_lt : ∀ x ∈ Sp.K, x < 4294967296 := by decide
namespace Sp
theorem not_eq (e : Nat) (h : e < 4294967296) : 4294967295 ^^^ e = 4294967295 - e := by
  have h1 := BitVec.toNat_not (x := BitVec.ofNat 32 e)
  have h2 : ~~~(BitVec.ofNat 32 e) = BitVec.allOnes 32 ^^^ BitVec.ofNat 32 e := by rw [BitVec.allOnes_xor]
  rw [h2, BitVec.toNat_xor, BitVec.toNat_allOnes, BitVec.toNat_ofNat, Nat.mod_eq_of_lt (by omega)] at h1
  omega
theorem not_int (e : Nat) (h : e < 4294967296) : (4294967295 : Int) - (e : Int) = ((4294967295 ^^^ e : Nat) : Int) := by rw [not_eq e h]; omega
theorem t1_int (s : S8) (k w : Nat) : ((s.h : Int) + (turned s.e 6 11 25 : Nat) + (ch s.e s.f s.g : Nat) + (k : Nat) + (w : Nat)) % 4294967296 = (t1 s k w : Nat) := by unfold t1 add32; omega
theorem t2_int (s : S8) : (((turned s.a 2 13 22 : Nat) : Int) + (maj s.a s.b s.c : Nat)) % 4294967296 = (t2 s : Nat) := by unfold t2 add32; omega
def plusTo (H S : List Nat) : Nat → List Nat
  | 0 => H
  | j + 1 => (plusTo H S j).set j ((nth H j + nth S j) % 4294967296)
theorem plusTo_nth (H S : List Nat) : ∀ j i, j ≤ i → nth (plusTo H S j) i = nth H i
  | 0, _, _ => rfl
  | j + 1, i, h => by rw [plusTo, (Rf.nth_set _ _ _ _).2 (by omega), plusTo_nth H S j i (by omega)]
theorem plusTo_all (s r : S8) : plusTo s.list r.list 8 = (s.plus r).list := rfl
theorem list_lt {s : S8} (h : s.ok) : ∀ x ∈ s.list, x < 4294967296 := by
  obtain ⟨h1, h2, h3, h4, h5, h6, h7, h8⟩ := h
  intro x hx
  simp [S8.list] at hx
  rcases hx with rfl | rfl | rfl | rfl | rfl | rfl | rfl | rfl <;> assumption
end Sp
/-- A row of eight numbers that may be written. -/
def HRow (w : World) (g : Nat) (l : List Nat) : Prop := ∃ cur : Array Value, w.heap[g]? = some (.cells cur 3 (0, 0)) ∧ cur.toList.take 8 = ints .i64 l ∧ l.length = 8
theorem hrow_own {w : World} {base : Nat} {g c : Nat} {l : List Nat} (h : w.ownsRow base 3 1 (.slice (some ⟨g, 0, none⟩) 8 c) 8 (ints .i64 l)) : HRow w g l := by
  obtain ⟨hl, ⟨h0, _⟩ | ⟨g', cap, cur, hv, hg, hh, hn, hm, hc, ht⟩⟩ := h
  · cases h0
  · cases hv
    exact ⟨cur, hh, ht, by rw [ints_length] at hl; omega⟩
theorem HRow.range {w : World} {g : Nat} {l : List Nat} (h : HRow w g l) : w.rangeAt g 0 (ints .i64 l) := by
  obtain ⟨cur, hh, ht, hl⟩ := h
  intro j u hu
  rw [cell_of_row _ _ _ _ _ _ hh, Nat.zero_add]
  have hj := (List.getElem?_eq_some_iff.1 hu).1
  rw [ints_length] at hj
  rw [← ht, List.getElem?_take_of_lt (by omega)] at hu
  simpa using hu
theorem HRow.may {w : World} {g : Nat} {l : List Nat} (h : HRow w g l) (i : Nat) : w.frozen? ⟨g, i, none⟩ = false := by
  obtain ⟨cur, hh, ht, hl⟩ := h
  exact frozen_of_row _ _ _ _ _ hh
theorem HRow.set {w : World} {g : Nat} {l : List Nat} (h : HRow w g l) (i x : Nat) : HRow (w.setCell ⟨g, i, none⟩ (.int .i64 (x : Nat))) g (l.set i x) := by
  obtain ⟨cur, hh, ht, hl⟩ := h
  refine ⟨_, heap_setCell_same w g i cur 3 (.int .i64 (x : Nat)) hh, ?_, by simp [hl]⟩
  rw [Array.toList_setIfInBounds, List.take_set, ht]
  simp [ints, List.map_set]
set_option maxRecDepth 8000 in
set_option maxHeartbeats 16000000 in
theorem rsum_any (m : List Nat) (p : Option Addr) (cp : Nat) (w : World) (hsrc : SrcIs w (.slice p m.length cp) m) (hsm : ∀ x ∈ m, x < 256) (hm : m.length ≤ 1000) :
    Calls Tryd.prog 30 #[.slice p m.length cp] w fun e w' => ∃ v, e = .returned v ∧ w'.ownsRow w.heap.size 5 1 v 32 (ints .u8 (Sp.sum m)) ∧ Below w.heap.size w w' := by
  have HSRC : Hid (SrcIs w (.slice p m.length cp) m) := hsrc
  have HSM : Hid (∀ x ∈ m, x < 256) := hsm
  obtain ⟨n, hn⟩ : ∃ n, m.length = n := ⟨_, rfl⟩
  have HN : Hid (m.length = n) := hn
  rw [hn] at hm HSRC
  rw [hn]
  clear hsrc hsm hn
  go_enter Tryd.func30, Tryd.ntmps30
  go_wp2_with (with_reducible (refine stop_builtin .append ?_))
  refine Stop.go ?_
  have hown0 : (w.alloc (Obj.cells #[] 5)).ownsRow w.heap.size 5 1 (.slice (some ⟨w.heap.size, 0, none⟩) 0 0) 0 (ints .u8 []) :=
    ⟨rfl, .inr ⟨w.heap.size, 0, #[], rfl, Nat.le_refl _, heap_alloc_new w (.cells #[] 5), by omega, by decide, rfl, rfl⟩⟩
  have hb0 : Below w.heap.size w (w.alloc (Obj.cells #[] 5)) := (Below.refl _ _).alloc (Nat.le_refl _) _
  with_reducible refine law_append w.heap.size (.slice (some ⟨w.heap.size, 0, none⟩) 0 0) 0 (ints .u8 []) (.slice p n cp) m ?asv ?axv hown0 (SrcIs.below HSRC.out hb0) (by rw [HN.out]; omega) (by simp) ?ak
  case asv => exact rfl
  case axv => exact rfl
  intro v1 w1 hown1 hg1
  rw [HN.out, Nat.zero_add, ← ints_append, List.nil_append] at hown1
  have hb1 : Below w.heap.size w w1 := below_grown' hb0 hg1 hown0 (by simp) (Nat.le_refl _)
  have HO1 : Hid (w1.ownsRow w.heap.size 5 1 v1 n (ints .u8 m)) := hown1
  have HB1 : Hid (Below w.heap.size w w1) := hb1
  clear hown0 hb0 hown1 hg1 hb1
  go_wp2_with (with_reducible (refine stop_builtin .append ?_))
  refine Stop.go ?_
  have hs1 := HB1.out.size
  have hsr : SrcIs (w1.alloc (.cells #[.int .u8 128] 5)) (.slice (some ⟨w1.heap.size, 0, none⟩) 1 1) [128] := srcIs_new w1 [128]
  have hownA := own_below HO1.out ((Below.refl _ _).alloc (Nat.le_refl _) (Obj.cells #[.int .u8 128] 5))
  with_reducible refine law_append w.heap.size v1 n (ints .u8 m) (.slice (some ⟨w1.heap.size, 0, none⟩) 1 1) [128] ?bsv ?bxv hownA hsr (by simp; omega) (by simp; omega) ?bk
  case bsv => exact rfl
  case bxv => exact rfl
  intro v2 w2 hown2 hg2
  rw [← ints_append] at hown2
  have hb2 : Below w.heap.size w w2 := below_grown' (HB1.out.alloc hs1 _) hg2 hownA (by simp; omega) (Nat.le_refl _)
  have HO2 : Hid (w2.ownsRow w.heap.size 5 1 v2 (n + 1) (ints .u8 (m ++ [128]))) := hown2
  have HB2 : Hid (Below w.heap.size w w2) := hb2
  clear hown2 hg2 hb2 hownA hsr HO1 HB1 hs1
  go_wp2
  go_loopw [3] (fun sl wr => ∃ (j : Nat), j ≤ Sp.marked n - 1 ∧ Hid (wr.ownsRow w.heap.size 5 1 sl (n + 1 + j) (ints .u8 (m ++ [128] ++ List.replicate j 0))) ∧ Hid (Below w.heap.size w wr)) (fun sl _ => n + 65 - lenOf sl)
  case atStart => exact ⟨0, by omega, by have := HO2.out; rw [← List.append_nil (m ++ [128])] at this; exact this, HB2.out⟩
  case round =>
    clear HO2 HB2
    obtain ⟨j, hj, HO2, HB2⟩ := hrel
    obtain ⟨q, cq, rfl⟩ := own_slice HO2.out
    have hmk := Sp.marked_pos n
    have hmd : Sp.marked n = 64 - (n + 8) % 64 := rfl
    have hs2 := HB2.out.size
    by_cases hlt : j < Sp.marked n - 1
    · have hne : ((n + 1 + j : Nat) : Int) % 64 ≠ 56 := by omega
      clear hmd
      go_wp2_with (with_reducible (refine stop_builtin .append ?_))
      refine Stop.go ?_
      have hsr : SrcIs (wr.alloc (.cells #[.int .u8 0] 5)) (.slice (some ⟨wr.heap.size, 0, none⟩) 1 1) [0] := srcIs_new wr [0]
      have hownA := own_below HO2.out ((Below.refl _ _).alloc (Nat.le_refl _) (Obj.cells #[.int .u8 0] 5))
      with_reducible refine law_append w.heap.size (.slice q (n + 1 + j) cq) (n + 1 + j) (ints .u8 (m ++ [128] ++ List.replicate j 0)) (.slice (some ⟨wr.heap.size, 0, none⟩) 1 1) [0] ?csv ?cxv hownA hsr (by simp; omega) (by simp; omega) ?ck
      case csv => exact rfl
      case cxv => exact rfl
      intro v3 w3 hown3 hg3
      rw [← ints_append, List.append_assoc _ (List.replicate j 0), ← List.replicate_succ'] at hown3
      have hb3 : Below w.heap.size w w3 := below_grown' (HB2.out.alloc hs2 _) hg3 hownA (by simp; omega) (Nat.le_refl _)
      have HO3 : Hid (w3.ownsRow w.heap.size 5 1 v3 (n + 1 + (j + 1)) (ints .u8 (m ++ [128] ++ List.replicate (j + 1) 0))) := hown3
      have HB3 : Hid (Below w.heap.size w w3) := hb3
      clear hown3 hg3 hb3 hownA hsr HO2 HB2 hs2
      obtain ⟨q3, c3, rfl⟩ := own_slice HO3.out
      go_wp2
      go_roundw
      case rel => exact ⟨j + 1, by omega, HO3.out, HB3.out⟩
      case measure => simp [lenOf]; omega
    · obtain rfl : j = Sp.marked n - 1 := by omega
      obtain ⟨d, hd⟩ : ∃ d, Sp.marked n - 1 = d := ⟨_, rfl⟩
      rw [hd]
      rw [hd] at HO2
      have heq : ((n + 1 + d : Nat) : Int) % 64 = 56 := by omega
      have hd63 : d ≤ 63 := by omega
      have HD : Hid (Sp.marked n - 1 = d) := hd
      clear hmd hmk hj hlt hd
      go_wp2_with (with_reducible (refine stop_builtin .append ?_))
      refine Stop.go ?_
      have hsr : SrcIs (wr.alloc (.cells #[.int .u8 0, .int .u8 0, .int .u8 0, .int .u8 0] 5)) (.slice (some ⟨wr.heap.size, 0, none⟩) 4 4) [0, 0, 0, 0] := srcIs_new wr [0, 0, 0, 0]
      have hownA := own_below HO2.out ((Below.refl _ _).alloc (Nat.le_refl _) (Obj.cells #[.int .u8 0, .int .u8 0, .int .u8 0, .int .u8 0] 5))
      with_reducible refine law_append w.heap.size (.slice q (n + 1 + d) cq) (n + 1 + d) (ints .u8 (m ++ [128] ++ List.replicate d 0)) (.slice (some ⟨wr.heap.size, 0, none⟩) 4 4) [0, 0, 0, 0] ?dsv ?dxv hownA hsr (by simp; omega) (by simp; omega) ?dk
      case dsv => exact rfl
      case dxv => exact rfl
      intro v3 w3 hown3 hg3
      rw [← ints_append] at hown3
      have hb3 : Below w.heap.size w w3 := below_grown' (HB2.out.alloc hs2 _) hg3 hownA (by simp; omega) (Nat.le_refl _)
      have HO3 : Hid (w3.ownsRow w.heap.size 5 1 v3 (n + 1 + d + 4) (ints .u8 (m ++ [128] ++ List.replicate d 0 ++ [0, 0, 0, 0]))) := hown3
      have HB3 : Hid (Below w.heap.size w w3) := hb3
      clear hown3 hg3 hb3 hownA hsr HO2 HB2 hs2
      have hs3 := HB3.out.size
      go_wp2_with (with_reducible (refine stop_builtin .append ?_))
      refine Stop.go ?_
      have hl4 : (#[.int .u8 (8 * (n : Int) / 16777216), .int .u8 (8 * (n : Int) / 65536 % 256), .int .u8 (8 * (n : Int) / 256 % 256), .int .u8 (8 * (n : Int) % 256)] : Array Value) = arr .u8 [n * 8 / 16777216 % 256, n * 8 / 65536 % 256, n * 8 / 256 % 256, n * 8 % 256] := by
        simp only [arr, ints, List.map_cons, List.map_nil]
        rw [show ((n * 8 / 16777216 % 256 : Nat) : Int) = 8 * (n : Int) / 16777216 from by omega, show ((n * 8 / 65536 % 256 : Nat) : Int) = 8 * (n : Int) / 65536 % 256 from by omega, show ((n * 8 / 256 % 256 : Nat) : Int) = 8 * (n : Int) / 256 % 256 from by omega, show ((n * 8 % 256 : Nat) : Int) = 8 * (n : Int) % 256 from by omega]
      rw [hl4]
      clear hl4
      have hsr : SrcIs (w3.alloc (.cells (arr .u8 [n * 8 / 16777216 % 256, n * 8 / 65536 % 256, n * 8 / 256 % 256, n * 8 % 256]) 5)) (.slice (some ⟨w3.heap.size, 0, none⟩) 4 4) [n * 8 / 16777216 % 256, n * 8 / 65536 % 256, n * 8 / 256 % 256, n * 8 % 256] := srcIs_new w3 _
      have hownA := own_below HO3.out ((Below.refl _ _).alloc (Nat.le_refl _) (Obj.cells (arr .u8 [n * 8 / 16777216 % 256, n * 8 / 65536 % 256, n * 8 / 256 % 256, n * 8 % 256]) 5))
      with_reducible refine law_append w.heap.size v3 (n + 1 + d + 4) (ints .u8 (m ++ [128] ++ List.replicate d 0 ++ [0, 0, 0, 0])) (.slice (some ⟨w3.heap.size, 0, none⟩) 4 4) [n * 8 / 16777216 % 256, n * 8 / 65536 % 256, n * 8 / 256 % 256, n * 8 % 256] ?esv ?exv hownA hsr (by simp; omega) (by simp; omega) ?ek
      case esv => exact rfl
      case exv => exact rfl
      intro v4 w4 hown4 hg4
      have hpl := Sp.pad_list m (by rw [HN.out]; omega)
      rw [HN.out, HD.out] at hpl
      rw [← ints_append, hpl] at hown4
      have hb4 : Below w.heap.size w w4 := below_grown' (HB3.out.alloc hs3 _) hg4 hownA (by simp; omega) (Nat.le_refl _)
      obtain ⟨M, hM⟩ : ∃ M, m ++ Sp.ending n = M := ⟨_, rfl⟩
      obtain ⟨L, hL⟩ : ∃ L, n + 1 + d + 8 = L := ⟨_, rfl⟩
      rw [hM] at hown4
      have hML : M.length = L := by
        have := hown4.1
        rw [ints_length] at this
        simp at this
        omega
      have HM : Hid (m ++ Sp.ending n = M) := hM
      have HML : Hid (M.length = L) := hML
      have hMs : ∀ x ∈ M, x < 256 := by
        rw [← hM]
        intro x hx
        rcases List.mem_append.1 hx with h | h
        · exact HSM.out x h
        · exact ending_small n x h
      have HMS : Hid (∀ x ∈ M, x < 256) := hMs
      obtain ⟨X, hX⟩ : ∃ X, L = 64 * X := ⟨L / 64, by omega⟩
      have hXb : X ≤ 20 := by omega
      have HX : Hid (L = 64 * X) := hX
      have hLp : 0 < L := by omega
      obtain ⟨gb, cb, rfl, hcb, hgb, hgb2, hrb⟩ := own_cell2 hown4 (show 0 < n + 1 + d + 4 + 4 by omega)
      have HRB : Hid (w4.rangeAt gb 0 (ints .u8 M)) := hrb
      have hcb' : L ≤ cb := by have h0 : n + 1 + d + 4 + 4 ≤ cb := hcb; omega
      clear hcb
      have HB4 : Hid (Below w.heap.size w w4) := hb4
      have eL : n + 1 + d + 4 + [n * 8 / 16777216 % 256, n * 8 / 65536 % 256, n * 8 / 256 % 256, n * 8 % 256].length = L := by show n + 1 + d + 4 + 4 = L; omega
      rw [eL]
      clear hown4 hg4 hb4 hownA hsr HO3 HB3 hs3 hpl hM hL hML hMs hrb hX eL HSRC HSM
      have hs4 := HB4.out.size
      go_wp2_with fail
      refine (roots_any 64 true w4 _ Rf.roots64 rfl (by decide)).mono ?_
      rintro e w5 ⟨v5, rfl, hown5, hb5⟩
      obtain ⟨gk, ck, rfl, hgk, hgk2, hrk⟩ := own_cell hown5 (by decide)
      have hs5 := hb5.size
      have HRK : Hid (w5.rangeAt gk 0 (ints .i64 Sp.K)) := hrk
      have HB5 : Hid (Below w4.heap.size w4 w5) := hb5
      clear hown5 hb5 hrk
      go_wp2_with fail
      refine (roots_any 8 false w5 _ Rf.roots8 rfl (by decide)).mono ?_
      rintro e w6 ⟨v6, rfl, hown6, hb6⟩
      obtain ⟨gh, ch, rfl, hgh, hgh2, hrh⟩ := own_cell hown6 (by decide)
      have hs6 := hb6.size
      have HRH : Hid (HRow w6 gh Sp.init.list) := hrow_own hown6
      have HB6 : Hid (Below w5.heap.size w5 w6) := hb6
      clear hown6 hb6 hrh
      have HRB6 : Hid (w6.rangeAt gb 0 (ints .u8 M)) := rangeAt_below HB6.out (rangeAt_below HB5.out HRB.out)
      have HRK6 : Hid (w6.rangeAt gk 0 (ints .i64 Sp.K)) := rangeAt_below HB6.out HRK.out
      have HBW : Hid (Below w.heap.size w w6) := (HB4.out.trans (HB5.out.mono hs4)).trans (HB6.out.mono (Nat.le_trans hs4 hs5))
      clear HRB HRK HB5 HB6 HB4
      have nbh : gb ≠ gh := by omega
      have nkh : gk ≠ gh := by omega
      go_wp2
      go_loopw [7] (fun i wr => ∃ k : Nat, k ≤ X ∧ i = .int .i64 (64 * (k : Int)) ∧ Hid (w6.grownBy wr (some gh)) ∧ Hid (HRow wr gh (Sp.absorb M k).list)) (fun i _ => L - (intOf i).toNat)
      case atStart => exact ⟨0, by omega, rfl, grownBy_refl _ _, HRH.out⟩
      case round =>
        clear HRH
        obtain ⟨k, hk, rfl, HG, HRH⟩ := hrel
        by_cases hlt : k < X
        · have q1 : 64 * (k : Int) < (L : Int) := by have := HX.out; omega
          have q2 : 64 * (k : Int) + 64 ≤ (L : Int) := by have := HX.out; omega
          have q3 : 64 * (k : Int) + 64 ≤ (cb : Int) := by omega
          go_wp2_with fail
          have hbl : ((M.drop (64 * k)).take 64).length = 64 := by have := HX.out; simp [HML.out]; omega
          refine (sched_any ((M.drop (64 * k)).take 64) gb (64 * k) (cb - 64 * k) wr (fun x hx => HMS.out x (List.mem_of_mem_drop (List.mem_of_mem_take hx))) (range_sub (range_grown HRB6.out HG.out nbh) _ _) hbl).mono ?_
          rintro e w7 ⟨v7, rfl, hown7, hb7⟩
          obtain ⟨gw, cw, rfl, hgw, hgw2, hrw⟩ := own_cell hown7 (by decide)
          have hs7 := hb7.size
          obtain ⟨ws, hws⟩ : ∃ ws, Sp.spread ((M.drop (64 * k)).take 64) = ws := ⟨_, rfl⟩
          obtain ⟨st, hst⟩ : ∃ st, Sp.absorb M k = st := ⟨_, rfl⟩
          have hso : st.ok := by rw [← hst]; exact Sp.absorb_ok M k
          have hwl : ws.length = 64 := by rw [← hws]; exact Sp.spreadTo_length _ 48
          have hwb : ∀ x ∈ ws, x < 4294967296 := by rw [← hws]; exact Sp.spreadTo_lt (fun x hx => HMS.out x (List.mem_of_mem_drop (List.mem_of_mem_take hx))) 48
          have HAB : Hid (Sp.absorb M (k + 1) = Sp.mix st ws) := by rw [← hst, ← hws]; rfl
          rw [hws] at hrw
          rw [hst] at HRH
          have HWL : Hid (ws.length = 64) := hwl
          have HWB : Hid (∀ x ∈ ws, x < 4294967296) := hwb
          have HSO : Hid st.ok := hso
          have HRW : Hid (w7.rangeAt gw 0 (ints .i64 ws)) := hrw
          have hgl : gh < wr.heap.size := by have := HG.out.size; omega
          have HG7 : Hid (w6.grownBy w7 (some gh)) := grownBy_trans HG.out ⟨hb7.os, hb7.tape, hb7.output, hb7.size, fun q hq _ => hb7.block q hq⟩
          have HRH7 : Hid (HRow w7 gh st.list) := by
            obtain ⟨cur, h1, h2⟩ := HRH.out
            exact ⟨cur, (hb7.block gh hgl).trans h1, h2⟩
          have ngw : gw ≠ gh := by omega
          have hgh7 : gh < w7.heap.size := by omega
          have hs76 : w6.heap.size ≤ w7.heap.size := HG7.out.size
          clear hown7 hb7 hws hst hso hwl hwb hrw HG HRH hbl
          go_wp2_with (with_reducible (refine stop_builtin .append ?_))
          refine Stop.go ?_
          have hownS : (w7.alloc (Obj.cells #[] 3)).ownsRow w7.heap.size 3 1 (.slice (some ⟨w7.heap.size, 0, none⟩) 0 0) 0 (ints .i64 []) :=
            ⟨rfl, .inr ⟨w7.heap.size, 0, #[], rfl, Nat.le_refl _, heap_alloc_new w7 (.cells #[] 3), by omega, by decide, rfl, rfl⟩⟩
          have hbS : Below w7.heap.size w7 (w7.alloc (Obj.cells #[] 3)) := (Below.refl _ _).alloc (Nat.le_refl _) _
          with_reducible refine law_append_ints w7.heap.size (.slice (some ⟨w7.heap.size, 0, none⟩) 0 0) 0 [] gh ch 8 st.list ?fsv ?fxv rfl hownS (rangeAt_below hbS HRH7.out.range) (by omega) (by simp) ?fk
          case fsv => exact rfl
          case fxv => exact rfl
          intro v8 w8 hown8 hg8
          rw [List.nil_append, Nat.zero_add] at hown8
          have hb8 : Below w7.heap.size w7 w8 := below_grown' hbS hg8 hownS (by simp) (Nat.le_refl _)
          obtain ⟨gs, cs, rfl, hgs, hgs2, hrs⟩ := own_cell hown8 (by decide)
          have HRS : Hid (w8.rangeAt gs 0 (ints .i64 st.list)) := hrs
          have HG8 : Hid (w6.grownBy w8 (some gh)) := grownBy_trans HG7.out ⟨hb8.os, hb8.tape, hb8.output, hb8.size, fun q hq _ => hb8.block q hq⟩
          have HRH8 : Hid (HRow w8 gh st.list) := by
            obtain ⟨cur, h1, h2⟩ := HRH7.out
            exact ⟨cur, (hb8.block gh hgh7).trans h1, h2⟩
          have HRW8 : Hid (w8.rangeAt gw 0 (ints .i64 ws)) := rangeAt_below hb8 HRW.out
          have HRK8 : Hid (w8.rangeAt gk 0 (ints .i64 Sp.K)) := range_grown HRK6.out HG8.out nkh
          have hs8 := hb8.size
          have hgh8 : gh < w8.heap.size := by omega
          clear hown8 hg8 hb8 hrs hownS hbS HRW HG7 HRH7
          go_wp2
          go_loopw [9, 10] (fun sl i wr => ∃ (t g c : Nat), t ≤ 64 ∧ i = .int .i64 t ∧ sl = .slice (some ⟨g, 0, none⟩) 8 c ∧ Hid (wr.rangeAt g 0 (ints .i64 (Sp.rounds st ws t).list)) ∧ Hid (w7.heap.size ≤ g) ∧ Hid (Below w8.heap.size w8 wr)) (fun _ i _ => 64 - (intOf i).toNat)
          case atStart => exact ⟨0, gs, cs, by omega, rfl, rfl, HRS.out, hgs, Below.refl _ _⟩
          case round =>
            clear HRS hgs hgs2
            obtain ⟨t, g, c, ht, rfl, rfl, HRS, HGE, HB⟩ := hrel
            by_cases htt : t < 64
            · have t0 : (0 : Int) ≤ (t : Int) := by omega
              have t1 : (t : Int) < 64 := by omega
              have hro := Sp.rounds_ok HSO.out ws t
              obtain ⟨r, hr⟩ : ∃ r, Sp.rounds st ws t = r := ⟨_, rfl⟩
              rw [hr] at hro HRS
              have hkl : t < Sp.K.length := htt
              obtain ⟨kk, hkk⟩ : ∃ kk, Sp.nth Sp.K t = kk := ⟨_, rfl⟩
              obtain ⟨ww, hww⟩ : ∃ ww, Sp.nth ws t = ww := ⟨_, rfl⟩
              have HNX : Hid (Sp.rounds st ws (t + 1) = Sp.round r kk ww) := by rw [← hr, ← hkk, ← hww]; rfl
              have bk : kk < 4294967296 := by rw [← hkk]; exact Sp.nth_lt (by decide) K_lt t
              have bw : ww < 4294967296 := by rw [← hww]; exact Sp.nth_lt (by decide) HWB.out t
              have cK := range_cell (rangeAt_below HB.out HRK8.out) t hkl
              have cW := range_cell (rangeAt_below HB.out HRW8.out) t (by rw [HWL.out]; exact htt)
              rw [Nat.zero_add, hkk] at cK
              rw [Nat.zero_add, hww] at cW
              clear hkk hww hr hkl
              have c0 := range_cell HRS.out 0 (by show 0 < 8; decide)
              have c1 := range_cell HRS.out 1 (by show 1 < 8; decide)
              have c2 := range_cell HRS.out 2 (by show 2 < 8; decide)
              have c3 := range_cell HRS.out 3 (by show 3 < 8; decide)
              have c4 := range_cell HRS.out 4 (by show 4 < 8; decide)
              have c5 := range_cell HRS.out 5 (by show 5 < 8; decide)
              have c6 := range_cell HRS.out 6 (by show 6 < 8; decide)
              have c7 := range_cell HRS.out 7 (by show 7 < 8; decide)
              have hgr : g < wr.heap.size := World.block_lt_of_cell? wr _ c0
              obtain ⟨ra, rb, rc, rd, re, rf, rg, rh⟩ := r
              obtain ⟨b0, b1, b2, b3, b4, b5, b6, b7⟩ := hro
              simp only [Sp.S8.list, Sp.nth, List.getD_cons_zero, List.getD_cons_succ, Nat.zero_add] at c0 c1 c2 c3 c4 c5 c6 c7
              simp only at b0 b1 b2 b3 b4 b5 b6 b7
              obtain ⟨T1, hT1⟩ : ∃ T1, Sp.t1 ⟨ra, rb, rc, rd, re, rf, rg, rh⟩ kk ww = T1 := ⟨_, rfl⟩
              obtain ⟨T2, hT2⟩ : ∃ T2, Sp.t2 ⟨ra, rb, rc, rd, re, rf, rg, rh⟩ = T2 := ⟨_, rfl⟩
              have bT1 : T1 < 4294967296 := by rw [← hT1]; exact Sp.add32_lt _ _
              have bT2 : T2 < 4294967296 := by rw [← hT2]; exact Sp.add32_lt _ _
              have hI1 := Sp.t1_int ⟨ra, rb, rc, rd, re, rf, rg, rh⟩ kk ww
              have hI2 := Sp.t2_int ⟨ra, rb, rc, rd, re, rf, rg, rh⟩
              rw [hT1] at hI1
              rw [hT2] at hI2
              simp only at hI1 hI2
              have HNL : Hid ((Sp.round ⟨ra, rb, rc, rd, re, rf, rg, rh⟩ kk ww).list = [(T1 + T2) % 4294967296, ra, rb, rc, (rd + T1) % 4294967296, re, rf, rg]) := by
                show _ = _
                unfold Sp.round Sp.S8.list
                simp only [hT1, hT2, Sp.add32]
              have HNX' : Hid (Sp.rounds st ws (t + 1) = Sp.round ⟨ra, rb, rc, rd, re, rf, rg, rh⟩ kk ww) := HNX
              clear HNX hT1 hT2
              have r6 := Sp.rotr_lt (n := 6) b4
              have r11 := Sp.rotr_lt (n := 11) b4
              have r25 := Sp.rotr_lt (n := 25) b4
              have r2 := Sp.rotr_lt (n := 2) b0
              have r13 := Sp.rotr_lt (n := 13) b0
              have r22 := Sp.rotr_lt (n := 22) b0
              have x1 := i64_xor_nat _ _ r6 r11
              have x2 := i64_xor_nat _ _ (Sp.xor_lt r6 r11) r25
              have x3 := i64_and_nat _ _ b4 b5
              have hnot : (4294967295 : Int) - (re : Int) = ((4294967295 ^^^ re : Nat) : Int) := Sp.not_int re b4
              have hnb : 4294967295 ^^^ re < 4294967296 := Sp.xor_lt (by decide) b4
              have x4 := i64_and_nat _ _ hnb b6
              have x5 := i64_xor_nat _ _ (Sp.and_lt (b := rf) b4) (Sp.and_lt (b := rg) hnb)
              have y1 := i64_xor_nat _ _ r2 r13
              have y2 := i64_xor_nat _ _ (Sp.xor_lt r2 r13) r22
              have y3 := i64_and_nat _ _ b0 b1
              have y4 := i64_and_nat _ _ b0 b2
              have y5 := i64_and_nat _ _ b1 b2
              have y6 := i64_xor_nat _ _ (Sp.and_lt (b := rb) b0) (Sp.and_lt (b := rc) b0)
              have y7 := i64_xor_nat _ _ (Sp.xor_lt (Sp.and_lt (b := rb) b0) (Sp.and_lt (b := rc) b0)) (Sp.and_lt (b := rc) b1)
              have eC : re &&& rf ^^^ (4294967295 ^^^ re) &&& rg = Sp.ch re rf rg := rfl
              have eM : ra &&& rb ^^^ ra &&& rc ^^^ rb &&& rc = Sp.maj ra rb rc := rfl
              have eT : Sp.rotr re 6 ^^^ Sp.rotr re 11 ^^^ Sp.rotr re 25 = Sp.turned re 6 11 25 := rfl
              have eU : Sp.rotr ra 2 ^^^ Sp.rotr ra 13 ^^^ Sp.rotr ra 22 = Sp.turned ra 2 13 22 := rfl
              rw [eC] at x5
              rw [eM] at y7
              rw [eT] at x2
              rw [eU] at y2
              clear eC eM eT eU
              have bC : Sp.ch re rf rg < 4294967296 := Sp.ch_lt b4
              have bM : Sp.maj ra rb rc < 4294967296 := Sp.maj_lt b0 b1
              have bT : Sp.turned re 6 11 25 < 4294967296 := Sp.turned_lt b4
              have bU : Sp.turned ra 2 13 22 < 4294967296 := Sp.turned_lt b0
              have hTop1 : ∀ W, Calls Tryd.prog 47 #[.int .i64 ((rh : Int) + (Sp.turned re 6 11 25 : Nat) + (Sp.ch re rf rg : Nat) + (kk : Int) + (ww : Int))] W fun e w' => e = .returned (.int .i64 (T1 : Nat)) ∧ w' = W := fun W => top5 rh _ _ kk ww T1 W b7 bT bC bk bw hI1
              have hTop2 : ∀ W, Calls Tryd.prog 47 #[.int .i64 (((Sp.turned ra 2 13 22 : Nat) : Int) + (Sp.maj ra rb rc : Nat))] W fun e w' => e = .returned (.int .i64 (T2 : Nat)) ∧ w' = W := fun W => top2 _ _ T2 W bU bM hI2
              have hTop3 : ∀ W, Calls Tryd.prog 47 #[.int .i64 ((T1 : Int) + (T2 : Int))] W fun e w' => e = .returned (.int .i64 ((T1 + T2) % 4294967296 : Nat)) ∧ w' = W := fun W => top2' _ _ W bT1 bT2
              have hTop4 : ∀ W, Calls Tryd.prog 47 #[.int .i64 ((rd : Int) + (T1 : Int))] W fun e w' => e = .returned (.int .i64 ((rd + T1) % 4294967296 : Nat)) ∧ w' = W := fun W => top2' _ _ W b3 bT1
              have HT1 : Hid (∀ W, Calls Tryd.prog 47 #[.int .i64 ((rh : Int) + (Sp.turned re 6 11 25 : Nat) + (Sp.ch re rf rg : Nat) + (kk : Int) + (ww : Int))] W fun e w' => e = .returned (.int .i64 (T1 : Nat)) ∧ w' = W) := hTop1
              have HT2 : Hid (∀ W, Calls Tryd.prog 47 #[.int .i64 (((Sp.turned ra 2 13 22 : Nat) : Int) + (Sp.maj ra rb rc : Nat))] W fun e w' => e = .returned (.int .i64 (T2 : Nat)) ∧ w' = W) := hTop2
              have HT3 : Hid (∀ W, Calls Tryd.prog 47 #[.int .i64 ((T1 : Int) + (T2 : Int))] W fun e w' => e = .returned (.int .i64 ((T1 + T2) % 4294967296 : Nat)) ∧ w' = W) := hTop3
              have HT4 : Hid (∀ W, Calls Tryd.prog 47 #[.int .i64 ((rd : Int) + (T1 : Int))] W fun e w' => e = .returned (.int .i64 ((rd + T1) % 4294967296 : Nat)) ∧ w' = W) := hTop4
              clear hTop1 hTop2 hTop3 hTop4 hI1 hI2
              have n1 : IntKind.i64.wrap ((T1 : Int) + (T2 : Int)) = (T1 : Int) + (T2 : Int) := wrap2 bT1 bT2
              have n2 : IntKind.i64.wrap ((rd : Int) + (T1 : Int)) = (rd : Int) + (T1 : Int) := wrap2 b3 bT1
              go_wp2_with fail
              go_quiet ((first | (go_at_call_of 48 (Value.int IntKind.i64 6); exact Calls.quiet_of (turn6 re _ b4)) | (go_at_call_of 48 (Value.int IntKind.i64 11); exact Calls.quiet_of (turn11 re _ b4)) | (go_at_call_of 48 (Value.int IntKind.i64 25); exact Calls.quiet_of (turn25 re _ b4)) | (go_at_call 47; exact Calls.quiet_of_same (HT1.out _))))
              go_wp2_with fail
              go_quiet ((first | (go_at_call_of 48 (Value.int IntKind.i64 2); first | exact Calls.quiet_of (turn2 ra _ b0) | exact quiet_more2 (turn2 ra _ b0)) | (go_at_call_of 48 (Value.int IntKind.i64 13); first | exact Calls.quiet_of (turn13 ra _ b0) | exact quiet_more2 (turn13 ra _ b0)) | (go_at_call_of 48 (Value.int IntKind.i64 22); first | exact Calls.quiet_of (turn22 ra _ b0) | exact quiet_more2 (turn22 ra _ b0)) | (go_at_call 47; first | exact Calls.quiet_of_same (HT2.out _) | exact quiet_more (HT2.out _))))
              go_wp2_with fail
              clear x1 x2 x3 x4 x5 y1 y2 y3 y4 y5 y6 y7 r6 r11 r25 r2 r13 r22 hnot hnb
              go_region_held3 (fun w' => w'.cell? ⟨g, 0, none⟩ = some (.int .i64 (ra : Nat)) ∧ w'.cell? ⟨g, 1, none⟩ = some (.int .i64 (rb : Nat)) ∧ w'.cell? ⟨g, 2, none⟩ = some (.int .i64 (rc : Nat)) ∧ w'.cell? ⟨g, 3, none⟩ = some (.int .i64 (rd : Nat)) ∧ w'.cell? ⟨g, 4, none⟩ = some (.int .i64 (re : Nat)) ∧ w'.cell? ⟨g, 5, none⟩ = some (.int .i64 (rf : Nat)) ∧ w'.cell? ⟨g, 6, none⟩ = some (.int .i64 (rg : Nat))) (first | go_keep | (simp only [World.cell?_drewN]; refine ⟨?_, ?_, ?_, ?_, ?_, ?_, ?_⟩ <;> (rw [cell_alloc_g (by simpa using hgr)]; first | exact c0 | exact c1 | exact c2 | exact c3 | exact c4 | exact c5 | exact c6))) (first | (go_at_call_of 47 (Value.int IntKind.i64 ((T1 : Int) + (T2 : Int))); refine (HT3.out _).mono ?_; rintro e w' ⟨rfl, rfl⟩) | (go_at_call 47; refine (HT4.out _).mono ?_; rintro e w' ⟨rfl, rfl⟩))
              go_wp2
              go_roundw
              case rel => exact ⟨t + 1, wr.heap.size, 8, by omega, by go_num, rfl, by rw [HNX'.out, HNL.out]; exact rows_new (wr.drewN _) T1 T2 ra rb rc rd re rf rg, Nat.le_trans hs8 HB.out.size, (below_drewN HB.out _).alloc HB.out.size _⟩
              case measure => simp [intOf]; omega
            · obtain rfl : t = 64 := by omega
              have HRH9 : Hid (HRow wr gh st.list) := by
                obtain ⟨cur, h1, h2⟩ := HRH8.out
                exact ⟨cur, (HB.out.block gh hgh8).trans h1, h2⟩
              have HG9 : Hid (w6.grownBy wr (some gh)) := grownBy_trans HG8.out ⟨HB.out.os, HB.out.tape, HB.out.output, HB.out.size, fun q hq _ => HB.out.block q hq⟩
              have ngs : g ≠ gh := by have := HGE.out; omega
              obtain ⟨r, hr⟩ : ∃ r, Sp.rounds st ws 64 = r := ⟨_, rfl⟩
              have hro : r.ok := by rw [← hr]; exact Sp.rounds_ok HSO.out ws 64
              have HMX : Hid (Sp.absorb M (k + 1) = st.plus r) := by rw [HAB.out, Sp.mix, hr]; exact rfl
              rw [hr] at HRS
              have HRO : Hid (∀ x ∈ r.list, x < 4294967296) := Sp.list_lt hro
              have HSB : Hid (∀ x ∈ st.list, x < 4294967296) := Sp.list_lt HSO.out
              clear hr hro HAB
              go_wp2
              go_loopw [15] (fun i wr2 => ∃ j : Nat, j ≤ 8 ∧ i = .int .i64 j ∧ Hid (HRow wr2 gh (Sp.plusTo st.list r.list j)) ∧ Hid (wr.grownBy wr2 (some gh))) (fun i _ => 8 - (intOf i).toNat)
              case atStart => exact ⟨0, by omega, rfl, HRH9.out, grownBy_refl _ _⟩
              case round =>
                obtain ⟨j, hj, rfl, HR, HGJ⟩ := hrel
                by_cases hjt : j < 8
                · have j0 : (0 : Int) ≤ (j : Int) := by omega
                  have j1 : (j : Int) < 8 := by omega
                  have hln : (Sp.plusTo st.list r.list j).length = 8 := by obtain ⟨_, _, _, h⟩ := HR.out; exact h
                  have cH := range_cell HR.out.range j (by rw [hln]; exact hjt)
                  have cS := range_cell (range_grown HRS.out HGJ.out ngs) j hjt
                  have cf := HR.out.may j
                  rw [Sp.plusTo_nth _ _ j j (Nat.le_refl _)] at cH
                  rw [Nat.zero_add] at cH cS
                  have bx : Sp.nth st.list j < 4294967296 := Sp.nth_lt (by decide) HSB.out j
                  have bY : Sp.nth r.list j < 4294967296 := Sp.nth_lt (by decide) HRO.out j
                  have HPT : Hid (Sp.plusTo st.list r.list (j + 1) = (Sp.plusTo st.list r.list j).set j ((Sp.nth st.list j + Sp.nth r.list j) % 4294967296)) := rfl
                  generalize Sp.nth st.list j = x at *
                  generalize Sp.nth r.list j = y at *
                  have n1 : IntKind.i64.wrap ((x : Int) + (y : Int)) = (x : Int) + (y : Int) := wrap2 bx bY
                  have HTJ : Hid (∀ W, Calls Tryd.prog 47 #[.int .i64 ((x : Int) + (y : Int))] W fun e w' => e = .returned (.int .i64 ((x + y) % 4294967296 : Nat)) ∧ w' = W) := fun W => top2' x y W bx bY
                  clear hln
                  go_wp2_with fail
                  go_region_law (refine step_call rfl 47 cf26 (.tmp 188) #[3] rfl (.int .i64 ((x : Int) + (y : Int))) rfl ((HTJ.out _).mono ?_); rintro e w' ⟨rfl, rfl⟩; refine ⟨_, rfl, ?_⟩)
                  all_goals
                    go_wp2
                    go_roundw
                    case rel =>
                      have h1 := HR.out.set j ((x + y) % 4294967296)
                      rw [← HPT.out, cast2] at h1
                      have h2 := grownBy_set HGJ.out j (.int .i64 (((x : Int) + (y : Int)) % 4294967296))
                      (repeat apply Exists.intro)
                      refine ⟨⟨j + 1, hjt, ?_, ?_, ?_⟩, rfl⟩
                      · exact rfl
                      · exact h1
                      · exact grownBy_drewN h2 1
                    case measure => simp [intOf]; omega
                · obtain rfl : j = 8 := by omega
                  have HRX : Hid (HRow wr gh (Sp.absorb M (k + 1)).list) := by rw [HMX.out, ← Sp.plusTo_all]; exact HR.out
                  have HGX : Hid (w6.grownBy wr (some gh)) := grownBy_trans HG9.out HGJ.out
                  clear HR HGJ
                  go_wp2
                  go_roundw
                  case rel => exact ⟨k + 1, by omega, by go_num, HGX.out, HRX.out⟩
                  case measure => simp [intOf]; omega
        · obtain rfl : k = X := by omega
          have q1 : ¬ 64 * (k : Int) < (L : Int) := by have := HX.out; omega
          have HSUM : Hid (Sp.sum m = Sp.bytesTo (Sp.absorb M k).list 8) := by
            show _ = _
            unfold Sp.sum
            have h1 : m.length + (Sp.ending m.length).length = 64 * k := by
              have h2 := HML.out
              have h3 := HX.out
              rw [← HM.out, List.length_append, ← HN.out] at h2
              omega
            rw [h1, Nat.mul_div_cancel_left k (by decide), HN.out, HM.out]
          obtain ⟨H, hH⟩ : ∃ H, (Sp.absorb M k).list = H := ⟨_, rfl⟩
          have HHB : Hid (∀ x ∈ H, x < 4294967296) := by rw [← hH]; exact Sp.list_lt (Sp.absorb_ok M k)
          have HHL : Hid (H.length = 8) := by rw [← hH]; exact rfl
          rw [hH] at HRH HSUM
          have hgr : gh < wr.heap.size := by have := HG.out.size; omega
          have HBX : Hid (Below w.heap.size w wr) := below_grown HBW.out HG.out HBW.out.size (by omega)
          have hsW := HBX.out.size
          clear hH
          generalize wr = W9 at *
          go_wp2
          go_loopw [16, 17] (fun sl i wr2 => ∃ j : Nat, j ≤ 8 ∧ i = .int .i64 j ∧ Hid (wr2.ownsRow W9.heap.size 5 1 sl (4 * j) (ints .u8 (Sp.bytesTo H j))) ∧ Hid (Below W9.heap.size W9 wr2)) (fun _ i _ => 8 - (intOf i).toNat)
          case atStart => exact ⟨0, by omega, rfl, own_none _ _ _ _, Below.refl _ _⟩
          case round =>
            obtain ⟨j, hj, rfl, HO, HB⟩ := hrel
            obtain ⟨q5, c5, rfl⟩ := own_slice HO.out
            by_cases hjt : j < 8
            · have j0 : (0 : Int) ≤ (j : Int) := by omega
              have j1 : (j : Int) < 8 := by omega
              have cH := range_cell (rangeAt_below HB.out HRH.out.range) j (by rw [HHL.out]; exact hjt)
              rw [Nat.zero_add] at cH
              have bx : Sp.nth H j < 4294967296 := Sp.nth_lt (by decide) HHB.out j
              have HBT : Hid (Sp.bytesTo H (j + 1) = Sp.bytesTo H j ++ Sp.bytes4 (Sp.nth H j)) := Sp.bytesTo_succ H j (by rw [HHL.out]; exact hjt)
              generalize Sp.nth H j = x at *
              have hszB := HB.out.size
              have hgr2 : gh < wr.heap.size := by omega
              go_wp2_with fail
              go_region_held_law (fun w' => w'.cell? ⟨gh, j, none⟩ = some (.int .i64 (x : Nat))) (first | go_keep | assumption | (simp only [World.cell?_drewN]; rw [cell_alloc_g (by simpa using hgr2)]; exact cH)) ((refine step_append_bytes rfl (.tmp 195) (.tmp 222) rfl W9.heap.size (.slice q5 (4 * j) c5) (4 * j) (Sp.bytesTo H j) wr.heap.size 4 4 (Sp.bytes4 x) rfl rfl rfl (own_below HO.out ((below_drewN (Below.refl _ _) _).alloc (Nat.le_refl _) _)) (bytes_new (wr.drewN _) x bx) (by omega) (by simp; omega) ?_; intro v3 w3 HO3 HG3; have hk3 := app_keep HG3.out (own_below HO.out ((below_drewN (Below.refl _ _) _).alloc (Nat.le_refl _) _)) hgr (by simp; omega) ((cell_alloc_g (by simpa using hgr2)).trans cH)))
              have HB3 : Hid (Below W9.heap.size W9 w3) := below_grown' ((below_drewN HB.out _).alloc hszB _) HG3.out (own_below HO.out ((below_drewN (Below.refl _ _) _).alloc (Nat.le_refl _) _)) (by simp; omega) (Nat.le_refl _)
              clear HG3 hk3
              go_wp2
              go_roundw
              case rel =>
                first
                  | exact ⟨j + 1, hjt, rfl, by rw [HBT.out]; exact HO3.out, HB3.out⟩
                  | ((repeat apply Exists.intro)
                     refine ⟨⟨j + 1, hjt, ?_, ?_, HB3.out⟩, rfl⟩
                     · exact rfl
                     · rw [HBT.out]; exact HO3.out)
              case measure => simp [intOf]; omega
            · obtain rfl : j = 8 := by omega
              go_wp2
              go_ret
              exact ⟨_, rfl, by rw [HSUM.out]; exact own_mono HO.out hsW, HBX.out.trans (HB.out.mono hsW)⟩
end Go.Proofs.YtagdlpodpokmmaaDoor.S2
