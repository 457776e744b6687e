/- SuiteTwo: what its calls leave behind. -/
import Derived.Test.YtbblokikhocdfaaDoorS7Rows
import Derived.Test.YtbblokikhocdfaaDoorS7Real2
import Derived.Test.YtbblokikhocdfaaDoorS7Facts
import Derived.Test.YtbblokikhocdfaaDoorS7ApartV
namespace Go.Proofs.YtbblokikhocdfaaDoor.S7
open Go.RowKit
def AnyV (_ : Value) (_ : World) : Prop := True
def tn1 : Nat → Nat | 0 => 0 | 1 => 1 | 2 => 1 | _ => 2
def tn2 : Nat → Nat | 0 => 0 | 1 => 0 | 2 => 1 | 3 => 1 | _ => 2
/-- How many calls have been, by how many operations of the chain. -/
def nC : Nat → Nat | 0 => 0 | 1 => 1 | 2 => 2 | 3 => 2 | 4 => 3 | 5 => 4 | 6 => 4 | 7 => 4 | 8 => 5 | 9 => 6 | 10 => 6 | 11 => 7 | 12 => 8 | 13 => 9 | _ => 10
/-- A suite of signs that is new. -/
def NewAt (B : Nat) (u : World) (x : Value) : Prop := ∃ p q m z, x = .pointer (some ⟨p, 0, none⟩) ∧ SuIs u p q m z [] ∧ B ≤ p ∧ B ≤ m
/-- The three suites, and the ones of signs, by how many calls have been. -/
def twoR (B p1 p2 p3 : Nat) (sv1 sv2 sv3 : Value) (k : Nat) (x y : Value) (u : World) : Prop :=
  (k < 7 → RlIs u p1 sv1 (tn1 k) ∧ RlIs u p2 sv2 (tn2 k) ∧ RlIs u p3 sv3 0) ∧ (k = 7 → NewAt B u x) ∧ (k = 9 → NewAt B u y)
structure TwoK (B p1 p2 p3 : Nat) (sv1 sv2 : Value) (la lt k1 k2 bx sm sg : List Nat) : Prop where
  b0 : 0 < B
  q1 : B ≤ p1
  q2 : B ≤ p2
  ne : p1 ≠ p2 ∧ p1 ≠ p3 ∧ p2 ≠ p3
  o1 : Off sv1 [p1]
  o2 : Off sv2 [p2]
  sla : ∀ y ∈ la, y < 256
  nla : la.length ≤ 100
  nlt : lt.length ≤ 100
  e1 : k1 = S2.Mk.code la (Su.be 8 1)
  e2 : k2 = S2.Mk.code la (Su.be 8 2)
  esm : sm = S2.Sp.sum lt
  esg : sg = Su.sign 72 1
  sbx : ∀ y ∈ bx, y < 256
  sk1 : ∀ y ∈ k1, y < 256
  sk2 : ∀ y ∈ k2, y < 256
  ssm : ∀ y ∈ sm, y < 256
  ssg : ∀ y ∈ sg, y < 256
structure TwoS (B : Nat) (sv1 sv2 tv bv1 bv2 : Value) (la lt bx : List Nat) (u : World) : Prop where
  tab : S2.Tab u
  s1 : OwnV 0 la sv1 u
  s2 : OwnV 0 la sv2 u
  t : Old B u tv lt
  b1 : OwnV 0 bx bv1 u
  b2 : OwnV 0 bx bv2 u
  size : B ≤ u.heap.size
  b0 : 0 < B
section
variable {B p1 p2 p3 : Nat} {sv1 sv2 sv3 tv bv1 bv2 : Value} {la lt k1 k2 bx sm sg : List Nat} {u u' : World} {x y : Value}
theorem TwoS.kp (h : TwoS B sv1 sv2 tv bv1 bv2 la lt bx u) (hk : Kp B u u') : TwoS B sv1 sv2 tv bv1 bv2 la lt bx u' :=
  ⟨tab_below h.tab hk.low h.b0, h.s1.rows hk, h.s2.rows hk, h.t.keep hk.low, h.b1.rows hk, h.b2.rows hk, Nat.le_trans h.size hk.low.size, h.b0⟩
theorem twoR_quiet (k : Nat) (x y : Value) (w w' : World) (hb : Below w.heap.size w w') (h : twoR B p1 p2 p3 sv1 sv2 sv3 k x y w) : twoR B p1 p2 p3 sv1 sv2 sv3 k x y w' := by
  obtain ⟨h1, h2, h3⟩ := h
  refine ⟨fun hk => ?_, fun hk => ?_, fun hk => ?_⟩
  · obtain ⟨a, b, c⟩ := h1 hk
    exact ⟨a.below hb, b.below hb, c.below hb⟩
  · obtain ⟨p, q, m, z, e, hs, hp⟩ := h2 hk
    exact ⟨p, q, m, z, e, hs.below hb, hp⟩
  · obtain ⟨p, q, m, z, e, hs, hp⟩ := h3 hk
    exact ⟨p, q, m, z, e, hs.below hb, hp⟩
theorem rl_notrow {p n : Nat} {sv : Value} (h : RlIs u p sv n) (cs : Array Value) (t : TypeId) (fr : Nat × Nat) (hc : u.heap[p]? = some (Obj.cells cs t fr)) : t ≠ 5 ∧ t ≠ 32 := by
  rw [show u.heap[p]? = _ from h] at hc
  cases hc
  exact ⟨by decide, by decide⟩
theorem su_notrow {p q m z : Nat} {L : List Su.Thing} (h : SuIs u p q m z L) (y : Nat) (hy : y = p ∨ y = m) (cs : Array Value) (t : TypeId) (fr : Nat × Nat) (hc : u.heap[y]? = some (Obj.cells cs t fr)) : t ≠ 5 ∧ t ≠ 32 := by
  rcases hy with rfl | rfl
  · rw [h.box] at hc
    cases hc
    exact ⟨by decide, by decide⟩
  · obtain ⟨es, c, hm, _⟩ := h.nums
    rw [hm] at hc
    cases hc
theorem key_kp {p n : Nat} {sv : Value} {l : List Nat} (hB0 : 0 < B) (hB : B ≤ p) (h : RlIs u p sv n) (hs : OwnV 0 l sv u) (hsm : ∀ y ∈ l, y < 256) (ho : Off sv [p]) (hT : S2.Tab u) (hl : l.length ≤ 100) (hn : n < 1000000) :
    Calls Tryd.prog 17 #[.pointer (some ⟨p, 0, none⟩)] u fun e w' => ∃ v, e = .returned v ∧ Kp B u w' ∧ Only [p] u w' ∧ RlIs w' p sv (n + 1) ∧ OwnV 0 (S2.Mk.code l (Su.be 8 (n + 1))) v w' := by
  refine (Key_RV l p n 0 sv u h (hs.src hsm) ho hT (by omega) (by omega) hn (Nat.zero_le _)).mono ?_
  rintro e w' ⟨v, rfl, h1, h2, h3⟩
  exact ⟨v, rfl, Kp.of_only h1 (Nat.le_trans hB (Nat.le_of_lt h.lt)) (all_one ⟨hB, rl_notrow h⟩), h1, h2, h3⟩
theorem two_c0 (K : TwoK B p1 p2 p3 sv1 sv2 la lt k1 k2 bx sm sg) (S : TwoS B sv1 sv2 tv bv1 bv2 la lt bx u) (hR : twoR B p1 p2 p3 sv1 sv2 sv3 0 x y u) :
    Calls Tryd.prog 17 #[.pointer (some ⟨p1, 0, none⟩)] u fun e w' => ∃ v, e = .returned v ∧ Kp B u w' ∧ twoR B p1 p2 p3 sv1 sv2 sv3 1 x y w' ∧ OwnV 0 k1 v w' := by
  obtain ⟨h1, h2, h3⟩ := hR.1 (by decide)
  rw [K.e1]
  have ne := K.ne
  refine (key_kp K.b0 K.q1 h1 S.s1 K.sla K.o1 S.tab K.nla (by decide)).mono ?_
  rintro e w' ⟨v, rfl, g1, g2, g3, g4⟩
  exact ⟨v, rfl, g1, ⟨fun _ => ⟨g3, h2.only g2 (by simp; omega), h3.only g2 (by simp; omega)⟩, fun h => by omega, fun h => by omega⟩, g4⟩
theorem two_c1 (K : TwoK B p1 p2 p3 sv1 sv2 la lt k1 k2 bx sm sg) (S : TwoS B sv1 sv2 tv bv1 bv2 la lt bx u) (hR : twoR B p1 p2 p3 sv1 sv2 sv3 1 x y u) :
    Calls Tryd.prog 17 #[.pointer (some ⟨p2, 0, none⟩)] u fun e w' => ∃ v, e = .returned v ∧ Kp B u w' ∧ twoR B p1 p2 p3 sv1 sv2 sv3 2 x y w' ∧ OwnV 0 k1 v w' := by
  obtain ⟨h1, h2, h3⟩ := hR.1 (by decide)
  rw [K.e1]
  have ne := K.ne
  refine (key_kp K.b0 K.q2 h2 S.s2 K.sla K.o2 S.tab K.nla (by decide)).mono ?_
  rintro e w' ⟨v, rfl, g1, g2, g3, g4⟩
  exact ⟨v, rfl, g1, ⟨fun _ => ⟨h1.only g2 (by simp; omega), g3, h3.only g2 (by simp; omega)⟩, fun h => by omega, fun h => by omega⟩, g4⟩
theorem two_c2 (K : TwoK B p1 p2 p3 sv1 sv2 la lt k1 k2 bx sm sg) (S : TwoS B sv1 sv2 tv bv1 bv2 la lt bx u) (hR : twoR B p1 p2 p3 sv1 sv2 sv3 2 x y u) :
    Calls Tryd.prog 17 #[.pointer (some ⟨p1, 0, none⟩)] u fun e w' => ∃ v, e = .returned v ∧ Kp B u w' ∧ twoR B p1 p2 p3 sv1 sv2 sv3 3 x y w' ∧ OwnV 0 k2 v w' := by
  obtain ⟨h1, h2, h3⟩ := hR.1 (by decide)
  rw [K.e2]
  have ne := K.ne
  refine (key_kp K.b0 K.q1 h1 S.s1 K.sla K.o1 S.tab K.nla (by decide)).mono ?_
  rintro e w' ⟨v, rfl, g1, g2, g3, g4⟩
  exact ⟨v, rfl, g1, ⟨fun _ => ⟨g3, h2.only g2 (by simp; omega), h3.only g2 (by simp; omega)⟩, fun h => by omega, fun h => by omega⟩, g4⟩
theorem two_c3 (K : TwoK B p1 p2 p3 sv1 sv2 la lt k1 k2 bx sm sg) (S : TwoS B sv1 sv2 tv bv1 bv2 la lt bx u) (hR : twoR B p1 p2 p3 sv1 sv2 sv3 3 x y u) :
    Calls Tryd.prog 17 #[.pointer (some ⟨p2, 0, none⟩)] u fun e w' => ∃ v, e = .returned v ∧ Kp B u w' ∧ twoR B p1 p2 p3 sv1 sv2 sv3 4 x y w' ∧ OwnV 0 k2 v w' := by
  obtain ⟨h1, h2, h3⟩ := hR.1 (by decide)
  rw [K.e2]
  have ne := K.ne
  refine (key_kp K.b0 K.q2 h2 S.s2 K.sla K.o2 S.tab K.nla (by decide)).mono ?_
  rintro e w' ⟨v, rfl, g1, g2, g3, g4⟩
  exact ⟨v, rfl, g1, ⟨fun _ => ⟨h1.only g2 (by simp; omega), g3, h3.only g2 (by simp; omega)⟩, fun h => by omega, fun h => by omega⟩, g4⟩
theorem two_c4 (K : TwoK B p1 p2 p3 sv1 sv2 la lt k1 k2 bx sm sg) (S : TwoS B sv1 sv2 tv bv1 bv2 la lt bx u) {g : Nat} (hR : twoR B p1 p2 p3 sv1 sv2 sv3 4 x y u) (hc : u.cell? ⟨g, 0, none⟩ = some tv) :
    Calls Tryd.prog 13 #[.pointer (some ⟨p1, 0, none⟩), .slice (some ⟨g, 0, none⟩) 1 1] u fun e w' => ∃ v, e = .returned v ∧ Kp B u w' ∧ twoR B p1 p2 p3 sv1 sv2 sv3 5 x y w' ∧ OwnV 0 sm v w' := by
  have hr := hR
  obtain ⟨h1, h2, h3⟩ := hR.1 (by decide)
  rw [K.esm]
  refine (Sum_RV lt tv g p1 _ 0 _ u h1 hc S.t.1 S.tab (by have := K.nlt; omega) (Nat.zero_le _)).mono ?_
  rintro e w' ⟨v, rfl, g1, g2⟩
  exact ⟨v, rfl, Kp.of_below g1 S.size, ⟨fun _ => ⟨h1.below g1, h2.below g1, h3.below g1⟩, fun h => by omega, fun h => by omega⟩, g2⟩
theorem two_c5 (K : TwoK B p1 p2 p3 sv1 sv2 la lt k1 k2 bx sm sg) (S : TwoS B sv1 sv2 tv bv1 bv2 la lt bx u) {g : Nat} (hR : twoR B p1 p2 p3 sv1 sv2 sv3 5 x y u) (hc : u.cell? ⟨g, 0, none⟩ = some tv) :
    Calls Tryd.prog 13 #[.pointer (some ⟨p3, 0, none⟩), .slice (some ⟨g, 0, none⟩) 1 1] u fun e w' => ∃ v, e = .returned v ∧ Kp B u w' ∧ twoR B p1 p2 p3 sv1 sv2 sv3 6 x y w' ∧ OwnV 0 sm v w' := by
  have hr := hR
  obtain ⟨h1, h2, h3⟩ := hR.1 (by decide)
  rw [K.esm]
  refine (Sum_RV lt tv g p3 _ 0 _ u h3 hc S.t.1 S.tab (by have := K.nlt; omega) (Nat.zero_le _)).mono ?_
  rintro e w' ⟨v, rfl, g1, g2⟩
  exact ⟨v, rfl, Kp.of_below g1 S.size, ⟨fun _ => ⟨h1.below g1, h2.below g1, h3.below g1⟩, fun h => by omega, fun h => by omega⟩, g2⟩
theorem two_c7 (K : TwoK B p1 p2 p3 sv1 sv2 la lt k1 k2 bx sm sg) (S : TwoS B sv1 sv2 tv bv1 bv2 la lt bx u) {g : Nat} (hR : twoR B p1 p2 p3 sv1 sv2 sv3 7 x y u) (hc : u.cell? ⟨g, 0, none⟩ = some tv) :
    Calls Tryd.prog 13 #[x, .slice (some ⟨g, 0, none⟩) 1 1] u fun e w' => ∃ v, e = .returned v ∧ Kp B u w' ∧ twoR B p1 p2 p3 sv1 sv2 sv3 8 x y w' ∧ OwnV 0 sg v w' := by
  obtain ⟨p, q, m, z, rfl, hs, hp, hm⟩ := hR.2.1 rfl
  rw [K.esg]
  refine (Sum_V lt tv g p q m z 0 [] u hs hc S.t.1 (by have := K.nlt; omega) (by decide) (Nat.zero_le _)).mono ?_
  rintro e w' ⟨v, rfl, g1, _, g3⟩
  exact ⟨v, rfl, Kp.of_only g1 S.size (all_two ⟨hp, su_notrow hs p (.inl rfl)⟩ ⟨hm, su_notrow hs m (.inr rfl)⟩), ⟨fun h => by omega, fun h => by omega, fun h => by omega⟩, g3⟩
theorem two_c9 (K : TwoK B p1 p2 p3 sv1 sv2 la lt k1 k2 bx sm sg) (S : TwoS B sv1 sv2 tv bv1 bv2 la lt bx u) {g : Nat} (hR : twoR B p1 p2 p3 sv1 sv2 sv3 9 x y u) (hc : u.cell? ⟨g, 0, none⟩ = some tv) :
    Calls Tryd.prog 13 #[y, .slice (some ⟨g, 0, none⟩) 1 1] u fun e w' => ∃ v, e = .returned v ∧ Kp B u w' ∧ twoR B p1 p2 p3 sv1 sv2 sv3 10 x y w' ∧ OwnV 0 sg v w' := by
  obtain ⟨p, q, m, z, rfl, hs, hp, hm⟩ := hR.2.2 rfl
  rw [K.esg]
  refine (Sum_V lt tv g p q m z 0 [] u hs hc S.t.1 (by have := K.nlt; omega) (by decide) (Nat.zero_le _)).mono ?_
  rintro e w' ⟨v, rfl, g1, _, g3⟩
  exact ⟨v, rfl, Kp.of_only g1 S.size (all_two ⟨hp, su_notrow hs p (.inl rfl)⟩ ⟨hm, su_notrow hs m (.inr rfl)⟩), ⟨fun h => by omega, fun h => by omega, fun h => by omega⟩, g3⟩
theorem two_c6 (S : TwoS B sv1 sv2 tv bv1 bv2 la lt bx u) (hR : twoR B p1 p2 p3 sv1 sv2 sv3 6 x y u) :
    Calls Tryd.prog 12 #[] u fun e w' => ∃ v, e = .returned v ∧ Kp B u w' ∧ twoR B p1 p2 p3 sv1 sv2 sv3 7 v y w' ∧ AnyV v w' := by
  have _ := hR
  refine (Signs_new u).mono ?_
  rintro e w' ⟨p, q, m, z, rfl, hs, hb, hp⟩
  exact ⟨_, rfl, Kp.of_below hb S.size, ⟨fun h => by omega, fun _ => ⟨p, q, m, z, rfl, hs, Nat.le_trans S.size hp.1, Nat.le_trans S.size hp.2.2.1⟩, fun h => by omega⟩, trivial⟩
theorem two_c8 (S : TwoS B sv1 sv2 tv bv1 bv2 la lt bx u) (hR : twoR B p1 p2 p3 sv1 sv2 sv3 8 x y u) :
    Calls Tryd.prog 12 #[] u fun e w' => ∃ v, e = .returned v ∧ Kp B u w' ∧ twoR B p1 p2 p3 sv1 sv2 sv3 9 x v w' ∧ AnyV v w' := by
  have _ := hR
  refine (Signs_new u).mono ?_
  rintro e w' ⟨p, q, m, z, rfl, hs, hb, hp⟩
  exact ⟨_, rfl, Kp.of_below hb S.size, ⟨fun h => by omega, fun h => by omega, fun _ => ⟨p, q, m, z, rfl, hs, Nat.le_trans S.size hp.1, Nat.le_trans S.size hp.2.2.1⟩⟩, trivial⟩
end
theorem make12 (u : World) : (Instr.makeSlice 32 (.int .i64 12) (.int .i64 12)).run Tryd.prog u = .ok (.slice (some ⟨u.heap.size, 0, none⟩) 12 12) (u.alloc (.cells (arr .u8 (List.replicate 12 0)) 5)) := by
  obtain ⟨i, hi, hsz, hby, hz⟩ := info5e
  have hr := run_make (P := Tryd.prog) u 32 5 i _ Tryd.underlying32 hi hz .i64 .i64 ((12 : Nat) : Int) ((12 : Nat) : Int) (by omega) (by omega) (by rw [hby]; omega) (by omega)
  simp only [Int.toNat_natCast, hsz, Nat.mul_one] at hr
  have e : (Value.int IntKind.u8 0).cells = #[.int .u8 0] := rfl
  rw [e, made_zeros] at hr
  exact hr
def two8 (p1 p2 p3 : Nat) (tv bv1 bv2 : Value) (k1 k2 bx sm sg : List Nat) : Nat → Value → World → Prop
  | 0 => IsV (.int .i64 0)
  | 1 => IsV (.bool true)
  | 2 => IsV (.bool true)
  | 3 => IsV (.int .i64 0)
  | 4 => IsV (.bool true)
  | 5 => IsV (.bool true)
  | 6 => IsV (.bool true)
  | 7 => IsV (.pointer (some ⟨p1, 0, none⟩))
  | 8 => OwnV 0 k1
  | 9 => StrV k1
  | 10 => IsV (.pointer (some ⟨p2, 0, none⟩))
  | 11 => OwnV 0 k1
  | 12 => StrV k1
  | 13 => IsV (.bool true)
  | 14 => IsV (.bool true)
  | 15 => IsV (.bool true)
  | 16 => IsV (.pointer (some ⟨p1, 0, none⟩))
  | 17 => OwnV 0 k2
  | 18 => StrV k2
  | 19 => IsV (.pointer (some ⟨p2, 0, none⟩))
  | 20 => OwnV 0 k2
  | 21 => StrV k2
  | 22 => IsV (.bool true)
  | 23 => IsV (.bool true)
  | 24 => IsV (.bool true)
  | 25 => IsV bv1
  | 26 => StrV bx
  | 27 => IsV bv2
  | 28 => StrV bx
  | 29 => IsV (.bool true)
  | 30 => IsV (.bool true)
  | 31 => IsV (.bool true)
  | 32 => IsV (.pointer (some ⟨p1, 0, none⟩))
  | 33 => IsV tv
  | 34 => PartT tv
  | 35 => OwnV 0 sm
  | 36 => StrV sm
  | 37 => IsV (.pointer (some ⟨p3, 0, none⟩))
  | 38 => IsV tv
  | 39 => PartT tv
  | 40 => OwnV 0 sm
  | 41 => StrV sm
  | 42 => IsV (.bool true)
  | 43 => IsV (.bool true)
  | 44 => IsV (.bool true)
  | 45 => AnyV
  | 46 => IsV tv
  | 47 => PartT tv
  | 48 => OwnV 0 sg
  | 49 => StrV sg
  | 50 => AnyV
  | 51 => IsV tv
  | 52 => PartT tv
  | 53 => OwnV 0 sg
  | 54 => StrV sg
  | 55 => IsV (.bool true)
  | 56 => IsV (.bool true)
  | 57 => IsV (.bool true)
  | _ => fun _ _ => True
theorem two8_kept (p1 p2 p3 : Nat) (tv bv1 bv2 : Value) (k1 k2 bx sm sg : List Nat) (B : Nat) : ∀ i v w w', two8 p1 p2 p3 tv bv1 bv2 k1 k2 bx sm sg i v w → Kp B w w' → two8 p1 p2 p3 tv bv1 bv2 k1 k2 bx sm sg i v w'
  | 0, _, _, _, h, _ => h
  | 1, _, _, _, h, _ => h
  | 2, _, _, _, h, _ => h
  | 3, _, _, _, h, _ => h
  | 4, _, _, _, h, _ => h
  | 5, _, _, _, h, _ => h
  | 6, _, _, _, h, _ => h
  | 7, _, _, _, h, _ => h
  | 8, _, _, _, h, ho => OwnV.rows h ho
  | 9, _, _, _, h, _ => h
  | 10, _, _, _, h, _ => h
  | 11, _, _, _, h, ho => OwnV.rows h ho
  | 12, _, _, _, h, _ => h
  | 13, _, _, _, h, _ => h
  | 14, _, _, _, h, _ => h
  | 15, _, _, _, h, _ => h
  | 16, _, _, _, h, _ => h
  | 17, _, _, _, h, ho => OwnV.rows h ho
  | 18, _, _, _, h, _ => h
  | 19, _, _, _, h, _ => h
  | 20, _, _, _, h, ho => OwnV.rows h ho
  | 21, _, _, _, h, _ => h
  | 22, _, _, _, h, _ => h
  | 23, _, _, _, h, _ => h
  | 24, _, _, _, h, _ => h
  | 25, _, _, _, h, _ => h
  | 26, _, _, _, h, _ => h
  | 27, _, _, _, h, _ => h
  | 28, _, _, _, h, _ => h
  | 29, _, _, _, h, _ => h
  | 30, _, _, _, h, _ => h
  | 31, _, _, _, h, _ => h
  | 32, _, _, _, h, _ => h
  | 33, _, _, _, h, _ => h
  | 34, _, _, _, h, ho => PartT.rows h ho
  | 35, _, _, _, h, ho => OwnV.rows h ho
  | 36, _, _, _, h, _ => h
  | 37, _, _, _, h, _ => h
  | 38, _, _, _, h, _ => h
  | 39, _, _, _, h, ho => PartT.rows h ho
  | 40, _, _, _, h, ho => OwnV.rows h ho
  | 41, _, _, _, h, _ => h
  | 42, _, _, _, h, _ => h
  | 43, _, _, _, h, _ => h
  | 44, _, _, _, h, _ => h
  | 45, _, _, _, h, _ => h
  | 46, _, _, _, h, _ => h
  | 47, _, _, _, h, ho => PartT.rows h ho
  | 48, _, _, _, h, ho => OwnV.rows h ho
  | 49, _, _, _, h, _ => h
  | 50, _, _, _, h, _ => h
  | 51, _, _, _, h, _ => h
  | 52, _, _, _, h, ho => PartT.rows h ho
  | 53, _, _, _, h, ho => OwnV.rows h ho
  | 54, _, _, _, h, _ => h
  | 55, _, _, _, h, _ => h
  | 56, _, _, _, h, _ => h
  | 57, _, _, _, h, _ => h
  | _ + 58, _, _, _, _, _ => trivial
theorem frame110_8 {A F : Array Value} (hs : A.size = 110) (h : ∀ t, [8, 53, 54, 55, 56, 57, 58, 59, 60, 61, 62, 63, 64, 65, 66, 67, 68, 69, 70, 71, 72, 73, 74, 75, 76, 77, 78, 79, 80, 81, 82, 83, 84, 85, 86, 87, 88, 89, 90, 91, 92, 93, 94, 95, 96, 97, 98, 99, 100, 101, 102, 103, 104, 105, 106, 107, 108, 109].contains t = false → A.getD t undef = F.getD t undef) : A = #[F.getD 0 undef, F.getD 1 undef, F.getD 2 undef, F.getD 3 undef, F.getD 4 undef, F.getD 5 undef, F.getD 6 undef, F.getD 7 undef, A.getD 8 undef, F.getD 9 undef, F.getD 10 undef, F.getD 11 undef, F.getD 12 undef, F.getD 13 undef, F.getD 14 undef, F.getD 15 undef, F.getD 16 undef, F.getD 17 undef, F.getD 18 undef, F.getD 19 undef, F.getD 20 undef, F.getD 21 undef, F.getD 22 undef, F.getD 23 undef, F.getD 24 undef, F.getD 25 undef, F.getD 26 undef, F.getD 27 undef, F.getD 28 undef, F.getD 29 undef, F.getD 30 undef, F.getD 31 undef, F.getD 32 undef, F.getD 33 undef, F.getD 34 undef, F.getD 35 undef, F.getD 36 undef, F.getD 37 undef, F.getD 38 undef, F.getD 39 undef, F.getD 40 undef, F.getD 41 undef, F.getD 42 undef, F.getD 43 undef, F.getD 44 undef, F.getD 45 undef, F.getD 46 undef, F.getD 47 undef, F.getD 48 undef, F.getD 49 undef, F.getD 50 undef, F.getD 51 undef, F.getD 52 undef, A.getD 53 undef, A.getD 54 undef, A.getD 55 undef, A.getD 56 undef, A.getD 57 undef, A.getD 58 undef, A.getD 59 undef, A.getD 60 undef, A.getD 61 undef, A.getD 62 undef, A.getD 63 undef, A.getD 64 undef, A.getD 65 undef, A.getD 66 undef, A.getD 67 undef, A.getD 68 undef, A.getD 69 undef, A.getD 70 undef, A.getD 71 undef, A.getD 72 undef, A.getD 73 undef, A.getD 74 undef, A.getD 75 undef, A.getD 76 undef, A.getD 77 undef, A.getD 78 undef, A.getD 79 undef, A.getD 80 undef, A.getD 81 undef, A.getD 82 undef, A.getD 83 undef, A.getD 84 undef, A.getD 85 undef, A.getD 86 undef, A.getD 87 undef, A.getD 88 undef, A.getD 89 undef, A.getD 90 undef, A.getD 91 undef, A.getD 92 undef, A.getD 93 undef, A.getD 94 undef, A.getD 95 undef, A.getD 96 undef, A.getD 97 undef, A.getD 98 undef, A.getD 99 undef, A.getD 100 undef, A.getD 101 undef, A.getD 102 undef, A.getD 103 undef, A.getD 104 undef, A.getD 105 undef, A.getD 106 undef, A.getD 107 undef, A.getD 108 undef, A.getD 109 undef] := by
  rw [← h 0 (by decide), ← h 1 (by decide), ← h 2 (by decide), ← h 3 (by decide), ← h 4 (by decide), ← h 5 (by decide), ← h 6 (by decide), ← h 7 (by decide), ← h 9 (by decide), ← h 10 (by decide), ← h 11 (by decide), ← h 12 (by decide), ← h 13 (by decide), ← h 14 (by decide), ← h 15 (by decide), ← h 16 (by decide), ← h 17 (by decide), ← h 18 (by decide), ← h 19 (by decide), ← h 20 (by decide), ← h 21 (by decide), ← h 22 (by decide), ← h 23 (by decide), ← h 24 (by decide), ← h 25 (by decide), ← h 26 (by decide), ← h 27 (by decide), ← h 28 (by decide), ← h 29 (by decide), ← h 30 (by decide), ← h 31 (by decide), ← h 32 (by decide), ← h 33 (by decide), ← h 34 (by decide), ← h 35 (by decide), ← h 36 (by decide), ← h 37 (by decide), ← h 38 (by decide), ← h 39 (by decide), ← h 40 (by decide), ← h 41 (by decide), ← h 42 (by decide), ← h 43 (by decide), ← h 44 (by decide), ← h 45 (by decide), ← h 46 (by decide), ← h 47 (by decide), ← h 48 (by decide), ← h 49 (by decide), ← h 50 (by decide), ← h 51 (by decide), ← h 52 (by decide)]
  refine Array.ext (by simp [hs]) (fun i h1 h2 => ?_)
  have e : A[i] = A.getD i undef := by simp [h1]
  rw [e]
  rw [hs] at h1
  clear e h hs
  match i, h1 with
  | 0, _ => rfl
  | 1, _ => rfl
  | 2, _ => rfl
  | 3, _ => rfl
  | 4, _ => rfl
  | 5, _ => rfl
  | 6, _ => rfl
  | 7, _ => rfl
  | 8, _ => rfl
  | 9, _ => rfl
  | 10, _ => rfl
  | 11, _ => rfl
  | 12, _ => rfl
  | 13, _ => rfl
  | 14, _ => rfl
  | 15, _ => rfl
  | 16, _ => rfl
  | 17, _ => rfl
  | 18, _ => rfl
  | 19, _ => rfl
  | 20, _ => rfl
  | 21, _ => rfl
  | 22, _ => rfl
  | 23, _ => rfl
  | 24, _ => rfl
  | 25, _ => rfl
  | 26, _ => rfl
  | 27, _ => rfl
  | 28, _ => rfl
  | 29, _ => rfl
  | 30, _ => rfl
  | 31, _ => rfl
  | 32, _ => rfl
  | 33, _ => rfl
  | 34, _ => rfl
  | 35, _ => rfl
  | 36, _ => rfl
  | 37, _ => rfl
  | 38, _ => rfl
  | 39, _ => rfl
  | 40, _ => rfl
  | 41, _ => rfl
  | 42, _ => rfl
  | 43, _ => rfl
  | 44, _ => rfl
  | 45, _ => rfl
  | 46, _ => rfl
  | 47, _ => rfl
  | 48, _ => rfl
  | 49, _ => rfl
  | 50, _ => rfl
  | 51, _ => rfl
  | 52, _ => rfl
  | 53, _ => rfl
  | 54, _ => rfl
  | 55, _ => rfl
  | 56, _ => rfl
  | 57, _ => rfl
  | 58, _ => rfl
  | 59, _ => rfl
  | 60, _ => rfl
  | 61, _ => rfl
  | 62, _ => rfl
  | 63, _ => rfl
  | 64, _ => rfl
  | 65, _ => rfl
  | 66, _ => rfl
  | 67, _ => rfl
  | 68, _ => rfl
  | 69, _ => rfl
  | 70, _ => rfl
  | 71, _ => rfl
  | 72, _ => rfl
  | 73, _ => rfl
  | 74, _ => rfl
  | 75, _ => rfl
  | 76, _ => rfl
  | 77, _ => rfl
  | 78, _ => rfl
  | 79, _ => rfl
  | 80, _ => rfl
  | 81, _ => rfl
  | 82, _ => rfl
  | 83, _ => rfl
  | 84, _ => rfl
  | 85, _ => rfl
  | 86, _ => rfl
  | 87, _ => rfl
  | 88, _ => rfl
  | 89, _ => rfl
  | 90, _ => rfl
  | 91, _ => rfl
  | 92, _ => rfl
  | 93, _ => rfl
  | 94, _ => rfl
  | 95, _ => rfl
  | 96, _ => rfl
  | 97, _ => rfl
  | 98, _ => rfl
  | 99, _ => rfl
  | 100, _ => rfl
  | 101, _ => rfl
  | 102, _ => rfl
  | 103, _ => rfl
  | 104, _ => rfl
  | 105, _ => rfl
  | 106, _ => rfl
  | 107, _ => rfl
  | 108, _ => rfl
  | 109, _ => rfl
  | _ + 110, h => exact absurd h (by omega)
end Go.Proofs.YtbblokikhocdfaaDoor.S7
