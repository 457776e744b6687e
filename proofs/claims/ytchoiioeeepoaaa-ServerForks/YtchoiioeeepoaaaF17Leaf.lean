/- Frames in memory; the contracts of within, EqualFunc and rightLinks. -/
import Derived.Test.YtchoiioeeepoaaaF17Spec
import Derived.Test.YtchoiioeeepoaaaE9Eq
import Derived.Test.YtchoiioeeepoaaaC8Clone
namespace Go.Proofs.Ytchoiioeeepoaaa.F17
open Go.RowKit C8 E9
/-- The links behind a slice: a cell each. -/
def LkRow (w : World) (q : Option Addr) (ls : List (List Nat)) : Prop :=
  ∀ j (h : j < ls.length), ∃ b o bp bc, q = some ⟨b, o, none⟩ ∧ b < w.heap.size ∧ w.cell? ⟨b, o + j, none⟩ = some (.slice bp ls[j].length bc) ∧ Src w (.slice bp ls[j].length bc) ls[j] ∧ ls[j].length ≤ 9223372036854775807
theorem LkRow.below {w w' : World} {q : Option Addr} {ls : List (List Nat)} (h : LkRow w q ls) (hb : Below w.heap.size w w') : LkRow w' q ls := fun j hj => by
  obtain ⟨b, o, bp, bc, h1, h2, h3, h4, h5⟩ := h j hj
  exact ⟨b, o, bp, bc, h1, Nat.lt_of_lt_of_le h2 hb.size, (hb.cell (p := ⟨b, o + j, none⟩) h2).trans h3, h4.below hb, h5⟩
theorem LkRow.nil (w : World) (q : Option Addr) : LkRow w q [] := fun j hj => by cases hj
theorem LkRow.small {w : World} {q : Option Addr} {ls : List (List Nat)} (h : LkRow w q ls) : ∀ y ∈ ls, ∀ x ∈ y, x < 256 := fun y hy => by
  obtain ⟨j, hj, rfl⟩ := List.getElem_of_mem hy
  obtain ⟨_, _, _, _, _, _, _, h5, _⟩ := h j hj
  exact h5.small
/-- A frame as a value: its five cells. -/
def FrV (f : Fr) (q : Option Addr) (c : Nat) (sp : Option Addr) (sc : Nat) : Array Value :=
  #[.int .i64 f.kind, .int .i64 f.coll, .int .i64 f.idx, .slice q f.links.length c, .slice sp f.sum.length sc]
structure FrAt (w : World) (f : Fr) (q : Option Addr) (sp : Option Addr) (sc : Nat) : Prop where
  links : LkRow w q f.links
  sum : Src w (.slice sp f.sum.length sc) f.sum
  ll : f.links.length ≤ 9223372036854775807
  lt : f.sum.length ≤ 9223372036854775807
def FrIs (w : World) (v : Value) (f : Fr) : Prop := ∃ q c sp sc, v = .agg (FrV f q c sp sc) ∧ FrAt w f q sp sc
theorem FrAt.below {w w' : World} {f : Fr} {q sp : Option Addr} {sc : Nat} (h : FrAt w f q sp sc) (hb : Below w.heap.size w w') : FrAt w' f q sp sc := ⟨h.links.below hb, h.sum.below hb, h.ll, h.lt⟩
theorem FrIs.below {w w' : World} {v : Value} {f : Fr} (h : FrIs w v f) (hb : Below w.heap.size w w') : FrIs w' v f := by
  obtain ⟨q, c, sp, sc, rfl, h⟩ := h
  exact ⟨q, c, sp, sc, rfl, h.below hb⟩
theorem FrIs.small {w : World} {v : Value} {f : Fr} (h : FrIs w v f) : Small f := by
  obtain ⟨q, c, sp, sc, rfl, h⟩ := h
  exact ⟨h.links.small, h.sum.small⟩
theorem zero_is (w : World) : FrIs w (.agg #[.int .i64 0, .int .i64 0, .int .i64 0, .slice none 0 0, .slice none 0 0]) ⟨0, 0, 0, [], []⟩ :=
  ⟨none, 0, none, 0, rfl, LkRow.nil _ _, Src.nil _, by decide, by decide⟩
set_option maxHeartbeats 1000000 in
theorem within_yes (n lo hi : Int) (w : World) (h1 : lo ≤ n) (h2 : n ≤ hi) : Calls Try.prog 50 #[.int .i64 n, .int .i64 lo, .int .i64 hi] w fun e w' => e = .returned (.bool true) ∧ w' = w := by
  go_enter Try.func50, Try.ntmps50
  go_wp2_with fail
  go_ret
  exact ⟨rfl, rfl⟩
set_option maxHeartbeats 1000000 in
theorem within_no (n lo hi : Int) (w : World) (h : n < lo ∨ hi < n) : Calls Try.prog 50 #[.int .i64 n, .int .i64 lo, .int .i64 hi] w fun e w' => e = .returned (.bool false) ∧ w' = w := by
  by_cases h1 : lo ≤ n
  · have h2 : ¬ n ≤ hi := by omega
    clear h
    go_enter Try.func50, Try.ntmps50
    go_wp2_with fail
    go_ret
    exact ⟨rfl, rfl⟩
  · clear h
    go_enter Try.func50, Try.ntmps50
    go_wp2_with fail
    go_ret
    exact ⟨rfl, rfl⟩
theorem within_any (n lo hi : Int) (w : World) : Calls Try.prog 50 #[.int .i64 n, .int .i64 lo, .int .i64 hi] w fun e w' => e = .returned (.bool (decide (lo ≤ n ∧ n ≤ hi))) ∧ w' = w := by
  by_cases h : lo ≤ n ∧ n ≤ hi
  · rw [decide_eq_true h]; exact within_yes n lo hi w h.1 h.2
  · rw [decide_eq_false h]; exact within_no n lo hi w (by omega)
theorem lok_drop {ls : List (List Nat)} {j : Nat} (h : j < ls.length) : lok (ls.drop j) = (decide (1 ≤ ls[j].length ∧ ls[j].length ≤ 4096) && lok (ls.drop (j + 1))) := by
  rw [List.drop_eq_getElem_cons h, lok]
set_option maxHeartbeats 4000000 in
theorem rightLinks_any (ls : List (List Nat)) (q : Option Addr) (c : Nat) (w : World) (h : LkRow w q ls) (hl : ls.length ≤ 9223372036854775807) :
    Calls Try.prog 51 #[.slice q ls.length c] w fun e w' => e = .returned (.bool (lks ls)) ∧ w' = w := by
  have HA : Hid (LkRow w q ls) := h
  obtain ⟨n, HN⟩ : ∃ n, Hid (ls.length = n) := ⟨_, rfl⟩
  obtain ⟨res, HR⟩ : ∃ res, Hid (lks ls = res) := ⟨_, rfl⟩
  rw [HN.out] at hl
  rw [HN.out, HR.out]
  clear h
  have l1 : (n : Int) ≤ 9223372036854775807 := by omega
  by_cases h8 : n ≤ 8
  rotate_left
  · have HF : Hid (res = false) := by
      show _ = _
      rw [← HR.out, lks, decide_eq_false (by rw [HN.out]; exact h8)]
      rfl
    have q1 : (8 : Int) < (n : Int) := by omega
    clear HR HN HA
    go_enter Try.func51, Try.ntmps51
    go_wp2_with fail
    go_ret
    exact ⟨by rw [HF.out]; rfl, rfl⟩
  have HL : Hid (lok ls = res) := by
    show _ = _
    rw [← HR.out, lks, decide_eq_true (by rw [HN.out]; exact h8)]
    rfl
  have q1 : ¬ (8 : Int) < (n : Int) := by omega
  clear HR
  go_enter Try.func51, Try.ntmps51
  go_wp2_with fail
  go_loopw [10] (fun i wr => ∃ j : Nat, j ≤ n ∧ i = .int .i64 j ∧ w = wr ∧ Hid (lok (ls.drop j) = res)) (fun i _ => n - (intOf i).toNat)
  case atStart => exact ⟨0, by omega, rfl, rfl, HL.out⟩
  case round =>
    obtain ⟨j, hj, rfl, rfl, HE⟩ := hrel
    by_cases hlt : j < n
    · have ja : j < ls.length := by rw [HN.out]; exact hlt
      obtain ⟨b, o, bp, bc, rfl, k2, k3, k4, k5⟩ := HA.out j ja
      have j1 : (j : Int) < (n : Int) := by omega
      have j0 : (0 : Int) ≤ (j : Int) := by omega
      replace HE : Hid ((decide (1 ≤ ls[j].length ∧ ls[j].length ≤ 4096) && lok (ls.drop (j + 1))) = res) := (lok_drop ja) ▸ HE.out
      clear k4
      obtain ⟨r, HRR⟩ : ∃ r, Hid (lok (ls.drop (j + 1)) = r) := ⟨_, rfl⟩
      rw [HRR.out] at HE
      generalize ls[j].length = xl at *
      clear ja
      by_cases hx : 1 ≤ xl ∧ xl ≤ 4096
      · replace HE : Hid (r = res) := by
          have := HE.out
          rw [decide_eq_true hx] at this
          exact this
        have x1 : (1 : Int) ≤ (xl : Int) := by omega
        have x2 : (xl : Int) ≤ 4096 := by omega
        clear hx
        go_wp2_with (first | (go_at_call 50; refine (within_yes _ _ _ _ x1 x2).mono ?_; rintro e w1 ⟨rfl, rfl⟩))
        refine ⟨⟨j + 1, by omega, by simp, trivial, by show lok (ls.drop (j + 1)) = res; rw [HRR.out]; exact HE.out⟩, ?_⟩
        simp only [intOf]
        omega
      · have HF : Hid (res = false) := by
          have := HE.out
          rw [decide_eq_false hx] at this
          simp at this
          exact this
        have hx2 : (xl : Int) < 1 ∨ (4096 : Int) < (xl : Int) := by omega
        have HX : ∀ W, Calls Try.prog 50 #[.int .i64 (xl : Int), .int .i64 1, .int .i64 4096] W fun e w' => e = .returned (.bool false) ∧ w' = W := fun W => within_no _ _ _ W hx2
        clear hx hx2 HE
        go_wp2_with (first | (go_at_call 50; refine (HX _).mono ?_; rintro e w1 ⟨rfl, rfl⟩))
        go_ret
        exact ⟨by rw [HF.out]; rfl, rfl⟩
    · obtain rfl : j = n := by omega
      have j1 : ¬ (j : Int) < (j : Int) := by omega
      have HT : Hid (res = true) := by
        have := HE.out
        rw [List.drop_eq_nil_of_le (by rw [HN.out]; omega)] at this
        exact this.symm
      clear HE
      go_wp2_with fail
      go_ret
      exact ⟨by rw [HT.out]; rfl, rfl⟩
end Go.Proofs.Ytchoiioeeepoaaa.F17
