/- The contract of areSteps. -/
import Derived.Test.YtbppipnnmmddaaaT6Box
namespace Go.Proofs.Ytbppipnnmmddaaa
open Go.RowKit Ieee
/-- Behind a slice lie the numbers of some steps. -/
def Row (w : World) (p : Option Addr) (D : List (Int × Int)) : Prop :=
  ∀ j (h : j < D.length), ∃ g o x y, p = some ⟨g, o, none⟩ ∧ w.cell? ⟨g, o + j, none⟩ = some (.complex .f64 x y) ∧ U x D[j].1 ∧ U y D[j].2
def Steps (D : List (Int × Int)) : Prop := ∀ j (h : j < D.length), Sp2 D[j].1 D[j].2
theorem St_of {a b : Nat} {m n : Int} (h1 : U a m) (h2 : U b n) (h : Sp2 m n) : T6.St a b := by
  obtain ⟨q1, q2, q3, q4⟩ := h
  exact ⟨⟨m, h1.1, by omega⟩, ⟨n, h2.1, by omega⟩⟩
theorem Row.drewN {w : World} {p : Option Addr} {D : List (Int × Int)} (h : Row w p D) (k : Nat) : Row (w.drewN k) p D := h
set_option maxHeartbeats 2000000 in
theorem areSteps_yes (D : List (Int × Int)) (p : Option Addr) (c : Nat) (w : World) (h : Row w p D) (hs : Steps D) (hl : D.length ≤ 40) : Calls Try.prog 22 #[.slice p D.length c] w fun e w' => ∃ k, e = .returned (.bool true) ∧ w' = w.drewN k := by
  have HR : Hid (Row w p D) := h
  have HS : Hid (Steps D) := hs
  clear h hs
  generalize hn : D.length = n at *
  have HN : Hid (D.length = n) := hn
  clear hn
  go_enter Try.func22, Try.ntmps22
  go_wp2_with fail
  go_loopw [7] (fun i wr => ∃ (j k : Nat), j ≤ n ∧ i = .int .i64 j ∧ wr = w.drewN k) (fun i _ => n - (intOf i).toNat)
  case atStart => exact ⟨0, 0, by omega, rfl, rfl⟩
  case round =>
    obtain ⟨j, k, hj, rfl, rfl⟩ := hrel
    by_cases hlt : j < n
    · obtain ⟨g, o, x, y, rfl, hc, hx, hy⟩ := HR.out j (by rw [HN.out]; exact hlt)
      have hst := St_of hx hy (HS.out j (by rw [HN.out]; exact hlt))
      have a1 := hx.2
      have a2 := hy.2
      clear hx hy
      have j1 : (j : Int) < (n : Int) := by omega
      go_wp2_with (go_at_call 23; refine (isStep_yes x y a1 a2 hst _).mono ?_; rintro e w' ⟨k', rfl, rfl⟩)
      refine ⟨⟨j + 1, k + k', by omega, by simp, rfl⟩, ?_⟩
      simp only [intOf]
      omega
    · have j1 : ¬ (j : Int) < (n : Int) := by omega
      go_wp2_with fail
      go_ret
      exact ⟨rfl, _, rfl⟩
end Go.Proofs.Ytbppipnnmmddaaa
