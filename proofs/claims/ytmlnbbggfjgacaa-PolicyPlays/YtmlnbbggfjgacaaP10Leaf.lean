/- Policies: what is asked of them; members in memory; the contracts of within, rightMembers, Rights. -/
import Derived.Test.YtmlnbbggfjgacaaE9Right
import Derived.Test.YtmlnbbggfjgacaaP10Lay
namespace Go.Proofs.Ytmlnbbggfjgacaa.P10
open Go.RowKit C8 E9
/-- A policy: its founder, its epoch, its members with their rights. -/
structure Pol where
  f : Int
  e : Int
  ms : List (Int × Int)
/-- Members rise, each within its bounds. -/
def mok : Int → List (Int × Int) → Bool
  | _, [] => true
  | last, m :: r => decide (last + 1 ≤ m.1 ∧ m.1 ≤ 16) && decide (1 ≤ m.2 ∧ m.2 ≤ 7) && mok m.1 r
/-- What somebody may do. -/
def rts : List (Int × Int) → Int → Int
  | [], _ => 0
  | m :: r, who => if m.1 = who then m.2 else rts r who
def pright (p : Pol) : Bool := decide (1 ≤ p.f ∧ p.f ≤ 16) && decide (0 ≤ p.e ∧ p.e ≤ 16) && mok 0 p.ms && decide (rts p.ms p.f = 7)
/-- Members behind a slice: two cells each. -/
def Mb (w : World) (q : Option Addr) (ms : List (Int × Int)) : Prop :=
  ∀ j (h : j < ms.length), ∃ b o, q = some ⟨b, o, none⟩ ∧ b < w.heap.size ∧ w.cell? ⟨b, o + j * 2, none⟩ = some (.int .i64 ms[j].1) ∧ w.cell? ⟨b, o + j * 2 + 1, none⟩ = some (.int .i64 ms[j].2)
theorem Mb.below {w w' : World} {q : Option Addr} {ms : List (Int × Int)} (h : Mb w q ms) (hb : Below w.heap.size w w') : Mb w' q ms := fun j hj => by
  obtain ⟨b, o, h1, h2, h3, h4⟩ := h j hj
  exact ⟨b, o, h1, Nat.lt_of_lt_of_le h2 hb.size, (hb.cell (p := ⟨b, o + j * 2, none⟩) h2).trans h3, (hb.cell (p := ⟨b, o + j * 2 + 1, none⟩) h2).trans h4⟩
theorem Mb.nil (w : World) (q : Option Addr) : Mb w q [] := fun j hj => by cases hj
/-- A policy as a value: its three cells. -/
def PolV (p : Pol) (q : Option Addr) (c : Nat) : Array Value := #[.int .i64 p.f, .int .i64 p.e, .slice q p.ms.length c]
def PolIs (w : World) (v : Value) (p : Pol) : Prop := ∃ q c, v = .agg (PolV p q c) ∧ Mb w q p.ms ∧ p.ms.length ≤ 9223372036854775807
theorem PolIs.below {w w' : World} {v : Value} {p : Pol} (h : PolIs w v p) (hb : Below w.heap.size w w') : PolIs w' v p := by
  obtain ⟨q, c, rfl, h1, h2⟩ := h
  exact ⟨q, c, rfl, h1.below hb, h2⟩
theorem mok_drop {last : Int} {ms : List (Int × Int)} {j : Nat} (h : j < ms.length) : mok last (ms.drop j) = (decide (last + 1 ≤ ms[j].1 ∧ ms[j].1 ≤ 16) && decide (1 ≤ ms[j].2 ∧ ms[j].2 ≤ 7) && mok ms[j].1 (ms.drop (j + 1))) := by
  rw [List.drop_eq_getElem_cons h, mok]
theorem rts_drop {who : Int} {ms : List (Int × Int)} {j : Nat} (h : j < ms.length) : rts (ms.drop j) who = if ms[j].1 = who then ms[j].2 else rts (ms.drop (j + 1)) who := by
  rw [List.drop_eq_getElem_cons h, rts]
theorem pwithin_yes (n lo hi : Int) (w : World) (h1 : lo ≤ n) (h2 : n ≤ hi) : Calls Try.prog 24 #[.int .i64 n, .int .i64 lo, .int .i64 hi] w fun e w' => e = .returned (.bool true) ∧ w' = w := by
  go_enter Try.func24, Try.ntmps24
  go_wp2_with fail
  go_ret
  exact ⟨rfl, rfl⟩
theorem pwithin_no (n lo hi : Int) (w : World) (h : n < lo ∨ hi < n) : Calls Try.prog 24 #[.int .i64 n, .int .i64 lo, .int .i64 hi] w fun e w' => e = .returned (.bool false) ∧ w' = w := by
  by_cases h1 : lo ≤ n
  · have h2 : ¬ n ≤ hi := by omega
    clear h
    go_enter Try.func24, Try.ntmps24
    go_wp2_with fail
    go_ret
    exact ⟨rfl, rfl⟩
  · clear h
    go_enter Try.func24, Try.ntmps24
    go_wp2_with fail
    go_ret
    exact ⟨rfl, rfl⟩
theorem pwithin_any (n lo hi : Int) (w : World) : Calls Try.prog 24 #[.int .i64 n, .int .i64 lo, .int .i64 hi] w fun e w' => e = .returned (.bool (decide (lo ≤ n ∧ n ≤ hi))) ∧ w' = w := by
  by_cases h : lo ≤ n ∧ n ≤ hi
  · rw [decide_eq_true h]; exact pwithin_yes n lo hi w h.1 h.2
  · rw [decide_eq_false h]; exact pwithin_no n lo hi w (by omega)
set_option maxHeartbeats 4000000 in
theorem rightMembers_any (ms : List (Int × Int)) (q : Option Addr) (c : Nat) (w : World) (h : Mb w q ms) (hl : ms.length ≤ 9223372036854775807) :
    Calls Try.prog 34 #[.slice q ms.length c] w fun e w' => e = .returned (.bool (mok 0 ms)) ∧ Below w.heap.size w w' := by
  have HA : Hid (Mb w q ms) := h
  obtain ⟨n, HN⟩ : ∃ n, Hid (ms.length = n) := ⟨_, rfl⟩
  obtain ⟨res, HR⟩ : ∃ res, Hid (mok 0 ms = res) := ⟨_, rfl⟩
  rw [HN.out] at hl
  rw [HN.out, HR.out]
  clear h
  have l1 : (n : Int) ≤ 9223372036854775807 := by omega
  go_enter Try.func34, Try.ntmps34
  go_wp2_with fail
  go_loopw [3, 8] (fun la i wr => ∃ (j : Nat) (last : Int), j ≤ n ∧ i = .int .i64 j ∧ la = .int .i64 last ∧ 0 ≤ last ∧ last ≤ 16 ∧ Hid (Below w.heap.size w wr) ∧ Hid (mok last (ms.drop j) = res)) (fun _ i _ => n - (intOf i).toNat)
  case atStart => exact ⟨0, 0, by omega, rfl, rfl, by omega, by omega, Below.refl _ _, HR.out⟩
  case round =>
    obtain ⟨j, last, hj, rfl, rfl, h0, h16, HB, HE⟩ := hrel
    by_cases hlt : j < n
    · have ja : j < ms.length := by rw [HN.out]; exact hlt
      obtain ⟨b, o, rfl, k2, k3, k4⟩ := HA.out j ja
      have d0 := (HB.out.cell (p := ⟨b, o + j * 2, none⟩) k2).trans k3
      have d1 := (HB.out.cell (p := ⟨b, o + j * 2 + 1, none⟩) k2).trans k4
      have j1 : (j : Int) < (n : Int) := by omega
      have j0 : (0 : Int) ≤ (j : Int) := by omega
      have HBA : Hid (∀ ob, Below w.heap.size w (wr.alloc ob)) := fun ob => HB.out.trans (bel_alloc HB.out.size ob)
      replace HE : Hid ((decide (last + 1 ≤ ms[j].1 ∧ ms[j].1 ≤ 16) && decide (1 ≤ ms[j].2 ∧ ms[j].2 ≤ 7) && mok ms[j].1 (ms.drop (j + 1))) = res) := (mok_drop ja) ▸ HE.out
      clear k3 k4
      obtain ⟨r, HRR⟩ : ∃ r, Hid (ms.drop (j + 1) = r) := ⟨_, rfl⟩
      rw [HRR.out] at HE
      generalize ms[j] = x at *
      obtain ⟨x1, x2⟩ := x
      simp only at d0 d1 HE
      clear ja
      by_cases hx : last + 1 ≤ x1 ∧ x1 ≤ 16
      · have HX : ∀ W, Calls Try.prog 24 #[.int .i64 x1, .int .i64 (last + 1), .int .i64 16] W fun e w' => e = .returned (.bool true) ∧ w' = W := fun W => pwithin_yes _ _ _ W hx.1 hx.2
        by_cases hy : 1 ≤ x2 ∧ x2 ≤ 7
        · replace HE : Hid (mok x1 r = res) := by
            have := HE.out
            rw [decide_eq_true hx, decide_eq_true hy] at this
            exact this
          have HY : ∀ W, Calls Try.prog 24 #[.int .i64 x2, .int .i64 1, .int .i64 7] W fun e w' => e = .returned (.bool true) ∧ w' = W := fun W => pwithin_yes _ _ _ W hy.1 hy.2
          go_wp2_with (first | (go_at_call 24; with_reducible refine (HX _).mono ?_; rintro e w1 ⟨rfl, rfl⟩) | (go_at_call 24; with_reducible refine (HY _).mono ?_; rintro e w1 ⟨rfl, rfl⟩))
          refine ⟨⟨j + 1, x1, by omega, by simp, rfl, by omega, by omega, HBA.out _, by show mok x1 (ms.drop (j + 1)) = res; rw [HRR.out]; exact HE.out⟩, ?_⟩
          simp only [intOf]
          omega
        · have HF : Hid (res = false) := by
            have := HE.out
            rw [decide_eq_false hy] at this
            simp at this
            exact this
          have HY : ∀ W, Calls Try.prog 24 #[.int .i64 x2, .int .i64 1, .int .i64 7] W fun e w' => e = .returned (.bool false) ∧ w' = W := fun W => pwithin_no _ _ _ W (by omega)
          go_wp2_with (first | (go_at_call 24; with_reducible refine (HX _).mono ?_; rintro e w1 ⟨rfl, rfl⟩) | (go_at_call 24; with_reducible refine (HY _).mono ?_; rintro e w1 ⟨rfl, rfl⟩))
          go_ret
          exact ⟨by rw [HF.out]; rfl, HBA.out _⟩
      · have HF : Hid (res = false) := by
          have := HE.out
          rw [decide_eq_false hx] at this
          simp at this
          exact this
        have HX : ∀ W, Calls Try.prog 24 #[.int .i64 x1, .int .i64 (last + 1), .int .i64 16] W fun e w' => e = .returned (.bool false) ∧ w' = W := fun W => pwithin_no _ _ _ W (by omega)
        clear hx HE
        go_wp2_with (first | (go_at_call 24; refine (HX _).mono ?_; rintro e w1 ⟨rfl, rfl⟩))
        go_ret
        exact ⟨by rw [HF.out]; rfl, HBA.out _⟩
    · obtain rfl : j = n := by omega
      have j1 : ¬ (j : Int) < (j : Int) := by omega
      have HF : Hid (res = true) := by
        have := HE.out
        rw [List.drop_of_length_le (by rw [HN.out]; omega)] at this
        exact this.symm
      go_wp2_with fail
      go_ret
      exact ⟨by rw [HF.out]; rfl, HB.out⟩
set_option maxHeartbeats 4000000 in
theorem Rights_any (p : Pol) (va : Value) (who : Int) (w : World) (hp : PolIs w va p) :
    Calls Try.prog 21 #[va, .int .i64 who] w fun e w' => e = .returned (.int .i64 (rts p.ms who)) ∧ Below w.heap.size w w' := by
  obtain ⟨q, c, rfl, h, hl⟩ := hp
  obtain ⟨pf, pe, ms⟩ := p
  simp only [PolV] at h hl ⊢
  have HA : Hid (Mb w q ms) := h
  obtain ⟨n, HN⟩ : ∃ n, Hid (ms.length = n) := ⟨_, rfl⟩
  obtain ⟨res, HR⟩ : ∃ res, Hid (rts ms who = res) := ⟨_, rfl⟩
  rw [HN.out] at hl
  rw [HN.out, HR.out]
  clear h
  have l1 : (n : Int) ≤ 9223372036854775807 := by omega
  have HB0 : Hid (Below w.heap.size w (w.alloc (.cells #[.int .i64 pf, .int .i64 pe, .slice q n c] 26))) := bel_alloc (Nat.le_refl _) _
  go_enter Try.func21, Try.ntmps21
  go_wp2_with fail
  generalize w.alloc (.cells #[.int .i64 pf, .int .i64 pe, .slice q n c] 26) = W0 at *
  go_loopw [10] (fun i wr => ∃ j : Nat, j ≤ n ∧ i = .int .i64 j ∧ Hid (Below w.heap.size w wr) ∧ Hid (rts (ms.drop j) who = res)) (fun i _ => n - (intOf i).toNat)
  case atStart => exact ⟨0, by omega, rfl, HB0, HR.out⟩
  case round =>
    obtain ⟨j, hj, rfl, HB, HE⟩ := hrel
    by_cases hlt : j < n
    · have ja : j < ms.length := by rw [HN.out]; exact hlt
      obtain ⟨b, o, rfl, k2, k3, k4⟩ := HA.out j ja
      have d0 := (HB.out.cell (p := ⟨b, o + j * 2, none⟩) k2).trans k3
      have d1 := (HB.out.cell (p := ⟨b, o + j * 2 + 1, none⟩) k2).trans k4
      have j1 : (j : Int) < (n : Int) := by omega
      have j0 : (0 : Int) ≤ (j : Int) := by omega
      have HBA : Hid (∀ ob, Below w.heap.size w (wr.alloc ob)) := fun ob => HB.out.trans (bel_alloc HB.out.size ob)
      replace HE : Hid ((if ms[j].1 = who then ms[j].2 else rts (ms.drop (j + 1)) who) = res) := (rts_drop ja) ▸ HE.out
      clear k3 k4
      obtain ⟨r, HRR⟩ : ∃ r, Hid (ms.drop (j + 1) = r) := ⟨_, rfl⟩
      rw [HRR.out] at HE
      generalize ms[j] = x at *
      obtain ⟨x1, x2⟩ := x
      simp only at d0 d1 HE
      clear ja
      by_cases hx : x1 = who
      · have HF : Hid (x2 = res) := by have := HE.out; rw [if_pos hx] at this; exact this
        have hx1 : (x1 == who) = true := by simp [hx]
        clear HE
        go_wp2_with fail
        go_ret
        exact ⟨by rw [HF.out]; rfl, HBA.out _⟩
      · have hx1 : (x1 == who) = false := by simp [hx]
        have HE2 : Hid (rts r who = res) := by have := HE.out; rw [if_neg hx] at this; exact this
        clear HE
        go_wp2_with fail
        refine ⟨⟨j + 1, by omega, by simp, HBA.out _, by show rts (ms.drop (j + 1)) who = res; rw [HRR.out]; exact HE2.out⟩, ?_⟩
        simp only [intOf]
        omega
    · obtain rfl : j = n := by omega
      have j1 : ¬ (j : Int) < (j : Int) := by omega
      have HF : Hid (res = 0) := by
        have := HE.out
        rw [List.drop_of_length_le (by rw [HN.out]; omega)] at this
        exact this.symm
      go_wp2_with fail
      go_ret
      exact ⟨by rw [HF.out]; rfl, HB.out⟩
end Go.Proofs.Ytmlnbbggfjgacaa.P10
