/- The contracts of Put, for right parts, and of Encode. -/
import Derived.Test.YtchoiioeeepoaaaE9Parts
namespace Go.Proofs.Ytchoiioeeepoaaa.E9
open Go.RowKit C8
theorem own_older {base base' e size n : Nat} {w : World} {v : Value} {xs : List Value} (h : w.ownsRow base e size v n xs) (hb : base' ≤ base) : w.ownsRow base' e size v n xs := by
  obtain ⟨hl, h1 | ⟨g, cap, cur, rfl, hg, hr⟩⟩ := h
  · exact ⟨hl, .inl h1⟩
  · exact ⟨hl, .inr ⟨g, cap, cur, rfl, Nat.le_trans hb hg, hr⟩⟩
theorem err_sub {ps : List Pt} (h : Cd.err ps = 0) (j : Nat) : Cd.err (ps.take j) = 0 := by
  induction ps generalizing j with
  | nil => simp [Cd.err]
  | cons p r ih =>
    cases j with
    | zero => rfl
    | succ j =>
      have hp := Cd.wrong_of_err h p (by simp)
      rw [List.take_succ_cons]
      rw [Cd.err, if_pos hp] at h
      exact err_cons hp (ih h j)
theorem enc_sub (ps : List Pt) (j : Nat) : (Cd.enc (ps.take j)).length ≤ (Cd.enc ps).length := by
  conv => rhs; rw [← List.take_append_drop j ps, Cd.enc_append, List.length_append]
  omega
set_option maxHeartbeats 2000000 in
theorem Put_ok (ps : List Pt) (q : Option Addr) (c : Nat) (w : World) (hl : ps.length ≤ 64) (he : Cd.err ps = 0) (hz : (Cd.enc ps).length ≤ 80000) (hp : PartsIs w w.heap.size q ps) :
    Calls Try.prog 57 #[.slice q ps.length c] w fun e w' => ∃ v, e = .returned (.tuple #[v, .int .i64 0]) ∧ w'.ownsRow w.heap.size 5 1 v (Cd.enc ps).length (ints .u8 (Cd.enc ps)) ∧ Below w.heap.size w w' := by
  have HP : Hid (PartsIs w w.heap.size q ps) := hp
  have HE0 : Hid (Cd.err ps = 0) := he
  have HZ : Hid ((Cd.enc ps).length ≤ 80000) := hz
  obtain ⟨n, HN⟩ : ∃ n, Hid (ps.length = n) := ⟨_, rfl⟩
  rw [HN.out] at hl ⊢
  clear hp he hz
  have l1 : (n : Int) ≤ 64 := by omega
  go_enter Try.func57, Try.ntmps57
  go_wp2_with fail
  go_loopw [4, 10] (fun sl i wr => ∃ j : Nat, j ≤ n ∧ i = .int .i64 j ∧ Hid (wr.ownsRow w.heap.size 5 1 sl (Cd.enc (ps.take j)).length (ints .u8 (Cd.enc (ps.take j)))) ∧ Hid (Below w.heap.size w wr)) (fun _ i _ => n - (intOf i).toNat)
  case atStart => exact ⟨0, by omega, rfl, own_none _ _ _ _, Below.refl _ _⟩
  case round =>
    obtain ⟨j, hj, rfl, HO, HB⟩ := hrel
    by_cases hlt : j < n
    · have hjp : j < ps.length := by rw [HN.out]; exact hlt
      obtain ⟨b, o, u, rfl, hb, hc, hpart⟩ := HP.out j hjp
      have d1 := (HB.out.cell (p := ⟨b, o + j, none⟩) hb).trans hc
      have HPT : Hid (PartIs wr w.heap.size u ps[j]) := hpart.below HB.out
      have j1 : (j : Int) < (n : Int) := by omega
      have j0 : (0 : Int) ≤ (j : Int) := by omega
      have HL : Hid ((Cd.enc (ps.take j)).length ≤ 80000) := Nat.le_trans (enc_sub ps j) HZ.out
      have HS : Hid (w.heap.size ≤ wr.heap.size) := HB.out.size
      clear hc hpart
      have hw : Cd.wrong ps[j] = 0 := Cd.wrong_of_err HE0.out _ (List.getElem_mem hjp)
      have HC2 : Hid (Cd.enc (ps.take (j + 1)) = Cd.enc (ps.take j) ++ Cd.one ps[j]) := by
        show _ = _
        rw [List.take_succ_eq_append_getElem hjp, Cd.enc_snoc]
      have HC : ∀ W, W = wr → Calls Try.prog 59 #[u4, u] W fun e w' => ∃ v', e = .returned (.tuple #[v', .int .i64 0]) ∧ Hid (w'.ownsRow w.heap.size 5 1 v' (Cd.enc (ps.take (j + 1))).length (ints .u8 (Cd.enc (ps.take (j + 1))))) ∧ Hid (Below w.heap.size w w') := by
        rintro W rfl
        refine (addPart_ok _ u4 _ w.heap.size u ps[j] W HO.out HL.out HS.out HPT.out hw).mono ?_
        rintro e w' ⟨v', rfl, h1, h2⟩
        refine ⟨v', rfl, ?_, HB.out.trans h2⟩
        show World.ownsRow _ _ _ _ _ _ _
        rw [HC2.out, List.length_append]
        exact h1
      clear hw HC2 HL HPT HO hjp
      go_wp2_with (first | (go_at_call 59; refine (HC _ rfl).mono ?_; rintro e w1 ⟨v1, rfl, HO1, HB1⟩))
      refine ⟨⟨j + 1, by omega, by simp, HO1, HB1⟩, ?_⟩
      simp only [intOf]
      omega
    · obtain rfl : j = n := by omega
      have j1 : ¬ (j : Int) < (j : Int) := by omega
      have HO0 : Hid (wr.ownsRow w.heap.size 5 1 u4 (Cd.enc ps).length (ints .u8 (Cd.enc ps))) := by have := HO.out; rwa [List.take_of_length_le (by rw [HN.out]; omega)] at this
      clear HO
      go_wp2_with fail
      go_ret2
      exact ⟨_, rfl, HO0.out, HB.out⟩
/-- What Encode tells. -/
def EncSays (a : En) (w : World) (e : Ending) (w' : World) : Prop :=
  Below w.heap.size w w' ∧ ((right a = true ∧ ∃ v, e = .returned (.tuple #[v, .int .i64 0]) ∧ w'.ownsRow w.heap.size 5 1 v (bytes a).length (ints .u8 (bytes a))) ∨ (right a = false ∧ e = .returned (.tuple #[.slice none 0 0, .int .i64 10])))
end Go.Proofs.Ytchoiioeeepoaaa.E9
