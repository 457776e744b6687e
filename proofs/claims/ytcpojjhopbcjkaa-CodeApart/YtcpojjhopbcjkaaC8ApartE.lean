/- The walk of CodeApart. -/
import Derived.Test.YtcpojjhopbcjkaaC8LPut
import Derived.Deep.QuietTactic
import Derived.BigQuiet
namespace Go.Proofs.Ytcpojjhopbcjkaa.C8
open Go.RowKit
/-- Two parts of one sort are the same. -/
def eqP (p q : Pt) : Bool := if p.isText = true then decide (p.text = q.text) else decide (p.n = q.n)
def sameP : List Pt → List Pt → Bool
  | [], [] => true
  | p :: r, q :: s => eqP p q && sameP r s
  | _, _ => false
theorem sameP_snoc : ∀ (l m : List Pt) (p q : Pt), l.length = m.length → sameP (l ++ [p]) (m ++ [q]) = (sameP l m && eqP p q)
  | [], [], p, q, _ => by simp [sameP]
  | x :: r, y :: s, p, q, h => by
    simp only [List.cons_append, sameP]
    rw [sameP_snoc r s p q (by simpa using h), Bool.and_assoc]
  | [], _ :: _, _, _, h => by simp at h
  | _ :: _, [], _, _, h => by simp at h
/-- The sorts are the same, one by one. -/
def sorts (l m : List Pt) : Prop := l.length = m.length ∧ ∀ j (h : j < l.length) (h' : j < m.length), l[j].isText = m[j].isText
theorem sorts_cons {p q : Pt} {r s : List Pt} (h : sorts (p :: r) (q :: s)) : p.isText = q.isText ∧ sorts r s :=
  ⟨h.2 0 (by simp) (by simp), by simpa using h.1, fun j h1 h2 => h.2 (j + 1) (by simpa using h1) (by simpa using h2)⟩
theorem one_inj {p q : Pt} {x y : List Nat} (hs : p.isText = q.isText) (hp : Cd.wrong p = 0) (hq : Cd.wrong q = 0) (h : Cd.one p ++ x = Cd.one q ++ y) : eqP p q = true ∧ x = y := by
  unfold Cd.one at h
  unfold Cd.wrong at hp hq
  cases ht : p.isText with
  | true =>
    have ht2 : q.isText = true := by rw [← hs]; exact ht
    rw [if_pos ht] at h hp
    rw [if_pos ht2] at h hq
    have lp : p.text.length ≤ 4096 := by split at hp <;> omega
    have lq : q.text.length ≤ 4096 := by split at hq <;> omega
    rw [List.append_assoc, List.append_assoc] at h
    have h1 := List.append_inj h (by rw [Cd.be_length, Cd.be_length])
    have hlen := Cd.be_inj (k := 2) (by omega) (by omega) h1.1
    have h2 := List.append_inj h1.2 hlen
    exact ⟨by simp [eqP, ht, h2.1], h2.2⟩
  | false =>
    have ht2 : q.isText = false := by rw [← hs]; exact ht
    rw [if_neg (by simp [ht])] at h hp
    rw [if_neg (by simp [ht2])] at h hq
    have lp : 0 ≤ p.n ∧ p.n ≤ 1099511627776 := by split at hp <;> omega
    have lq : 0 ≤ q.n ∧ q.n ≤ 1099511627776 := by split at hq <;> omega
    have h1 := List.append_inj h (by rw [Cd.be_length, Cd.be_length])
    have hn := Cd.be_inj (k := 6) (by omega) (by omega) h1.1
    exact ⟨by simp [eqP, ht]; omega, h1.2⟩
theorem one_same {p q : Pt} (hs : p.isText = q.isText) (h : eqP p q = true) : Cd.one p = Cd.one q := by
  unfold Cd.one
  unfold eqP at h
  cases ht : p.isText with
  | true =>
    have ht2 : q.isText = true := by rw [← hs]; exact ht
    rw [if_pos ht] at h
    rw [if_pos rfl, if_pos ht2, of_decide_eq_true h]
  | false =>
    have ht2 : q.isText = false := by rw [← hs]; exact ht
    rw [if_neg (by simp [ht])] at h
    rw [if_neg (by simp), if_neg (by simp [ht2]), of_decide_eq_true h]
theorem enc_same : ∀ (l m : List Pt), sorts l m → Cd.err l = 0 → Cd.err m = 0 → (Cd.enc l = Cd.enc m ↔ sameP l m = true)
  | [], [], _, _, _ => by simp [Cd.enc, sameP]
  | p :: r, q :: s, hs, h1, h2 => by
    obtain ⟨hs1, hs2⟩ := sorts_cons hs
    have w1 := Cd.wrong_of_err h1 p (by simp)
    have w2 := Cd.wrong_of_err h2 q (by simp)
    have e1 : Cd.err r = 0 := by simpa [Cd.err, w1] using h1
    have e2 : Cd.err s = 0 := by simpa [Cd.err, w2] using h2
    have ih := enc_same r s hs2 e1 e2
    simp only [sameP, Cd.enc, Bool.and_eq_true]
    constructor
    · intro h
      have h3 := one_inj hs1 w1 w2 h
      exact ⟨h3.1, ih.1 h3.2⟩
    · rintro ⟨h3, h4⟩
      rw [one_same hs1 h3, ih.2 h4]
  | [], _ :: _, h, _, _ => by simp [sorts] at h
  | _ :: _, [], h, _, _ => by simp [sorts] at h
set_option maxHeartbeats 1000000 in
theorem apart_sa (ps qs : List Pt) (a b : Option Addr) (n m c d : Nat) (w : World) (hn : ps.length = n) (_ : qs.length = m) (gn : n ≤ 9223372036854775807) (_ : m ≤ 9223372036854775807) (hp : PartRow w a ps) (_ : PartRow w b qs) (hs : sm ps = false) :
    Calls Try.prog 7 #[.slice a n c, .slice b m d] w fun e w' => e = .returned (.bool true) ∧ Below w.heap.size w w' := by
  have HP : Hid (PartRow w a ps) := hp
  clear hp
  go_enter Try.func7, Try.ntmps7
  go_wp2_with (go_at_call 9; refine (anchor_any _).mono ?_; rintro e w0 ⟨rfl, b0⟩; have B0 : Hid (Below w.heap.size w w0) := b0; clear b0)
  refine (small_any ps a n c w0 hn gn (HP.out.moved (bel_le B0.out (Nat.le_refl _)))).mono ?_
  rintro e w1 ⟨rfl, b1⟩
  have B1 : Hid (Below w.heap.size w w1) := B0.out.trans (bel_le b1 B0.out.size)
  clear b1
  rw [hs]
  go_wp2_with fail
  go_ret
  exact ⟨rfl, B1.out⟩
set_option maxHeartbeats 1000000 in
theorem apart_sb (ps qs : List Pt) (a b : Option Addr) (n m c d : Nat) (w : World) (hn : ps.length = n) (hm : qs.length = m) (gn : n ≤ 9223372036854775807) (gm : m ≤ 9223372036854775807) (hp : PartRow w a ps) (hq : PartRow w b qs) (hs : sm ps = true) (ht : sm qs = false) :
    Calls Try.prog 7 #[.slice a n c, .slice b m d] w fun e w' => e = .returned (.bool true) ∧ Below w.heap.size w w' := by
  have HP : Hid (PartRow w a ps) := hp
  have HQ : Hid (PartRow w b qs) := hq
  clear hp hq
  go_enter Try.func7, Try.ntmps7
  go_wp2_with (go_at_call 9; refine (anchor_any _).mono ?_; rintro e w0 ⟨rfl, b0⟩; have B0 : Hid (Below w.heap.size w w0) := b0; clear b0)
  refine (small_any ps a n c w0 hn gn (HP.out.moved (bel_le B0.out (Nat.le_refl _)))).mono ?_
  rintro e w1 ⟨rfl, b1⟩
  have B1 : Hid (Below w.heap.size w w1) := B0.out.trans (bel_le b1 B0.out.size)
  clear b1
  rw [hs]
  go_wp2_with fail
  refine (small_any qs b m d w1 hm gm (HQ.out.moved (bel_le B1.out (Nat.le_refl _)))).mono ?_
  rintro e w2 ⟨rfl, b1⟩
  have B2 : Hid (Below w.heap.size w w2) := B1.out.trans (bel_le b1 B1.out.size)
  clear b1
  rw [ht]
  go_wp2_with fail
  go_ret
  exact ⟨rfl, B2.out⟩
set_option maxHeartbeats 1000000 in
theorem apart_ln (ps qs : List Pt) (a b : Option Addr) (n m c d : Nat) (w : World) (hn : ps.length = n) (hm : qs.length = m) (gn : n ≤ 9223372036854775807) (gm : m ≤ 9223372036854775807) (hp : PartRow w a ps) (hq : PartRow w b qs) (hs : sm ps = true) (ht : sm qs = true) (hl : n ≠ m) :
    Calls Try.prog 7 #[.slice a n c, .slice b m d] w fun e w' => e = .returned (.bool true) ∧ Below w.heap.size w w' := by
  have HP : Hid (PartRow w a ps) := hp
  have HQ : Hid (PartRow w b qs) := hq
  have l1 : ((n : Int) == (m : Int)) = false := by simp; omega
  have l2 : ¬ (n : Int) = (m : Int) := by omega
  clear hp hq
  go_enter Try.func7, Try.ntmps7
  go_wp2_with (go_at_call 9; refine (anchor_any _).mono ?_; rintro e w0 ⟨rfl, b0⟩; have B0 : Hid (Below w.heap.size w w0) := b0; clear b0)
  refine (small_any ps a n c w0 hn gn (HP.out.moved (bel_le B0.out (Nat.le_refl _)))).mono ?_
  rintro e w1 ⟨rfl, b1⟩
  have B1 : Hid (Below w.heap.size w w1) := B0.out.trans (bel_le b1 B0.out.size)
  clear b1
  rw [hs]
  go_wp2_with fail
  refine (small_any qs b m d w1 hm gm (HQ.out.moved (bel_le B1.out (Nat.le_refl _)))).mono ?_
  rintro e w2 ⟨rfl, b1⟩
  have B2 : Hid (Below w.heap.size w w2) := B1.out.trans (bel_le b1 B1.out.size)
  clear b1
  rw [ht]
  go_wp2_with fail
  go_ret
  exact ⟨rfl, B2.out⟩
end Go.Proofs.Ytcpojjhopbcjkaa.C8
