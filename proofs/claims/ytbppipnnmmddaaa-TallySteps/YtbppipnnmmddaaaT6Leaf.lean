/- The contracts of math.Abs, math.Trunc and isWhole. -/
import Derived.Test.YtbppipnnmmddaaaProg
import Derived.Test.YtbppipnnmmddaaaT6Whole
import Derived.Test.YtbppipnnmmddaaaLaws2
import Derived.Laws.Externs
import Derived.BigRegion
import Derived.WalkMore
namespace Go.Proofs.Ytbppipnnmmddaaa
open Go.RowKit Ieee
theorem run_float64bits (b : Nat) (w : World) : (callFunc 30 #[.float .f64 b]).run Try.prog w = .ok (.value (.int .u64 b)) w :=
  run_callFunc_extern Try.func30 (by kernel_rfl) (by kernel_rfl) (by kernel_rfl) (e := Extern.MathFloatBits.float64bits) (by kernel_rfl) _ w
theorem run_float64frombits (n : Int) (w : World) : (callFunc 29 #[.int .u64 n]).run Try.prog w = .ok (.value (.float .f64 n.toNat)) w :=
  run_callFunc_extern Try.func29 (by kernel_rfl) (by kernel_rfl) (by kernel_rfl) (e := Extern.MathFloatBits.float64frombits) (by kernel_rfl) _ w
attribute [local go_sem] run_float64bits run_float64frombits
theorem run_toIntegral (b : Nat) (P : Program) (w : World) : ∃ r k, T6.Cut b r ∧ (Extern.MathFloor.toIntegral "math.archTrunc" .zero #[.float .f64 b]).run P w = .ok (.float .f64 r) (w.drewN k) := by
  show ∃ r k, T6.Cut b r ∧ Sem.run P (match double.read b with | .nan s t => _ | d => _) w = _
  cases e : double.read b with
  | nan s f =>
    simp only
    split
    · exact ⟨b, 0, .inl ⟨s, f, e⟩, rfl⟩
    · simp only [Sem.run_bind, run_choose_drew]
      rw [if_neg (by decide)]
      simp only [Result.andThen]
      exact ⟨_, 1, .inl ⟨s, f, e⟩, rfl⟩
  | number s m p =>
    exact ⟨double.write ((double.read b).integral .zero), 0, .inr rfl, by rw [e]; rfl⟩
  | infinity s =>
    exact ⟨double.write ((double.read b).integral .zero), 0, .inr rfl, by rw [e]; rfl⟩
theorem run_archTrunc (b : Nat) (w : World) : ∃ r k, T6.Cut b r ∧ (callFunc 27 #[.float .f64 b]).run Try.prog w = .ok (.value (.float .f64 r)) (w.drewN k) := by
  obtain ⟨r, k, h1, h2⟩ := run_toIntegral b Try.prog w
  refine ⟨r, k, h1, ?_⟩
  have h := run_callFunc_extern Try.func27 (by kernel_rfl) (by kernel_rfl) (by kernel_rfl) (e := Extern.MathFloor.toIntegral "math.archTrunc" .zero) (by kernel_rfl) #[.float .f64 b] w
  rw [h, h2]
  rfl
set_option maxHeartbeats 1000000 in
theorem abs_any (b : Nat) (hb : b < 2 ^ 64) (w : World) : Calls Try.prog 26 #[.float .f64 b] w fun e w' => e = .returned (.float .f64 (b &&& (18446744073709551615 - 9223372036854775808))) ∧ w' = w := by
  have hv : (bits .andNot .u64 (b : Int) 9223372036854775808).toNat = b &&& (18446744073709551615 - 9223372036854775808) := by
    have := u64_andNot_nat b 9223372036854775808 hb (by decide)
    rw [show ((9223372036854775808 : Nat) : Int) = 9223372036854775808 from rfl] at this
    rw [this, Int.toNat_natCast]
  go_enter Try.func26, Try.ntmps26
  go_wp2
  go_ret
  exact ⟨rfl, rfl⟩
set_option maxHeartbeats 1000000 in
theorem trunc_any (b : Nat) (w : World) : Calls Try.prog 25 #[.float .f64 b] w fun e w' => ∃ r k, e = .returned (.float .f64 r) ∧ T6.Cut b r ∧ w' = w.drewN k := by
  obtain ⟨r, k, hc, hr⟩ := run_archTrunc b w
  have HC : Hid (T6.Cut b r) := hc
  clear hc
  go_enter Try.func25, Try.ntmps25
  go_wp2
  go_ret
  exact ⟨r, k, rfl, HC.out, rfl⟩
set_option maxHeartbeats 1000000 in
theorem isWhole_any (b : Nat) (hb : b < 2 ^ 64) (w : World) : Calls Try.prog 24 #[.float .f64 b] w fun e w' => ∃ v k, e = .returned (.bool v) ∧ (v = true ↔ T6.Wh b) ∧ w' = w.drewN k := by
  go_enter Try.func24, Try.ntmps24
  go_wp2_with (first | (go_at_call 25; refine (trunc_any _ _).mono ?_; rintro e w' ⟨r, k, rfl, hc, rfl⟩) | (go_at_call 26; refine (abs_any _ hb _).mono ?_; rintro e w' ⟨rfl, rfl⟩))
  · go_ret
    exact ⟨_, k, rfl, T6.whole_yes hb hc ‹_›, rfl⟩
  · go_ret
    exact ⟨_, k, rfl, T6.whole_no hb hc ‹_›, rfl⟩
theorem isWhole_yes (b : Nat) (hb : b < 2 ^ 64) (h : T6.Wh b) (w : World) : Calls Try.prog 24 #[.float .f64 b] w fun e w' => ∃ k, e = .returned (.bool true) ∧ w' = w.drewN k :=
  (isWhole_any b hb w).mono fun _ _ ⟨_, k, he, hv, hw⟩ => ⟨k, by rw [he, hv.2 h], hw⟩
theorem isWhole_no (b : Nat) (hb : b < 2 ^ 64) (h : ¬ T6.Wh b) (w : World) : Calls Try.prog 24 #[.float .f64 b] w fun e w' => ∃ k, e = .returned (.bool false) ∧ w' = w.drewN k :=
  (isWhole_any b hb w).mono fun _ _ ⟨v, k, he, hv, hw⟩ => ⟨k, by rw [he]; cases v with
    | true => exact absurd (hv.1 rfl) h
    | false => rfl, hw⟩
end Go.Proofs.Ytbppipnnmmddaaa
