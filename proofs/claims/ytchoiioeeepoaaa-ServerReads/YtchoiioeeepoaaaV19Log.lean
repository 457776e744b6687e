/- The contract of Log. -/
import Derived.Test.YtchoiioeeepoaaaV19Row
namespace Go.Proofs.Ytchoiioeeepoaaa.V19
open Go.RowKit C8 E9 F17
set_option maxHeartbeats 4000000 in
theorem Log_any (p b m : Nat) (M : St) (x c : Int) (w : World) (h : SvAt w p b m M) (hx : In64 x) (hc : In64 c) (hok : Wf (M x c)) :
    Calls Try.prog 19 #[.pointer (some ⟨p, 0, none⟩), .int .i64 x, .int .i64 c] w fun e w' => ∃ v, e = .returned v ∧ LRow w' w.heap.size v (M x c).length (M x c) ∧ Below w.heap.size w w' := by
  obtain ⟨q, cp, hlk, HL, -⟩ := h.look hx hc
  have d0 : w.cell? ⟨p, 0, none⟩ = some (.map (some b)) := cell_of_row _ _ _ _ _ _ h.cell
  generalize M x c = ls at *
  obtain ⟨n, HN⟩ : ∃ n, Hid (ls.length = n) := ⟨_, rfl⟩
  have HA : Hid (LkRow w q ls) := HL
  have HW : Hid (Wf ls) := hok
  have hn : n ≤ 64 := by have := HN.out; have := hok.1; omega
  rw [HN.out] at hlk ⊢
  unfold pl at hlk
  clear h HL hok hx hc
  have l1 : (n : Int) ≤ 64 := by omega
  go_enter Try.func19, Try.ntmps19
  go_wp2_with fail
  go_loopw [7, 19] (fun sl i wr => ∃ j : Nat, j ≤ n ∧ i = .int .i64 j ∧ Hid (LRow wr w.heap.size sl j (ls.take j)) ∧ Hid (Below w.heap.size w wr)) (fun _ i _ => n - (intOf i).toNat)
  case atStart => exact ⟨0, by omega, rfl, by show LRow _ _ _ _ _; exact LRow.nil _ _, Below.refl _ _⟩
  case round =>
    obtain ⟨j, hj, rfl, HO, HB⟩ := hrel
    by_cases hlt : j < n
    · have ja : j < ls.length := by rw [HN.out]; exact hlt
      obtain ⟨bb, o, bp, bc, rfl, k2, k3, k4, k5⟩ := HA.out j ja
      have d1 := (HB.out.cell (p := ⟨bb, o + j, none⟩) k2).trans k3
      have j1 : (j : Int) < (n : Int) := by omega
      have j0 : (0 : Int) ≤ (j : Int) := by omega
      obtain ⟨y, HY⟩ : ∃ y : List Nat, Hid (ls[j] = y) := ⟨ls[j], rfl⟩
      rw [HY.out] at d1 k4
      have hy : y ∈ ls := by rw [← HY.out]; exact List.getElem_mem _
      have HYW : Hid (y.length ≤ 4096 ∧ ∀ z ∈ y, z < 256) := ⟨(HW.out.2 y hy).1.2, (HW.out.2 y hy).2⟩
      have HT : Hid (ls.take (j + 1) = ls.take j ++ [y]) := by
        show _ = _
        rw [List.take_succ_eq_append_getElem ja, HY.out]
      have HC : ∀ W, W = wr → Calls Try.prog 33 #[.slice bp y.length bc] W fun e w' => ∃ v, e = .returned v ∧ Hid (w'.ownsRow W.heap.size 5 1 v y.length (ints .u8 y) ∧ Below W.heap.size W w') := by
        rintro W rfl
        refine (bclone_any _ _ W (k4.below HB.out) (by have := HYW.out.1; omega)).mono ?_
        rintro e w' ⟨v, rfl, h1, h2⟩
        exact ⟨v, rfl, h1, h2⟩
      clear k3 k4 k5 hy hlk d0
      go_wp2_with (first | (go_at_call 33; refine (HC _ rfl).mono ?_; rintro e w1 ⟨v1, rfl, H1⟩; obtain ⟨vq, vc, rfl⟩ := own_slice H1.out.1) | with_reducible (refine stop_builtin .append ?_))
      refine Stop.go ?_
      obtain ⟨h1, h2⟩ := H1.out
      have hb2 : Below w1.heap.size w1 (w1.alloc (.cells #[.slice vq y.length vc] 32)) := (Below.refl _ w1).alloc (Nat.le_refl _) _
      have hO : LRow (w1.alloc (.cells #[.slice vq y.length vc] 32)) w.heap.size u7 j (ls.take j) := (HO.out.below h2).below hb2
      have hk : LkC (w1.alloc (.cells #[.slice vq y.length vc] 32)) u7.ownBlock (.slice vq y.length vc) y := (LkC.of_own h1 HYW.out.2 (by have := HYW.out.1; omega) (fun k hk => (HO.out.lt k hk).2)).below hb2
      refine law_append_link w.heap.size u7 j (ls.take j) w1.heap.size (.slice vq y.length vc) y rfl rfl hO (one32 w1 (.slice vq y.length vc)) hk (by omega) (by have := HB.out.size; have := h2.size; simp; omega) ?_
      intro v' w2 k1 k2 _
      have HO2 : Hid (LRow w2 w.heap.size v' (j + 1) (ls.take (j + 1))) := by
        show LRow _ _ _ _ _
        rw [HT.out]
        exact k1
      have HB2 : Hid (Below w.heap.size w w2) := (HB.out.trans (h2.mono HB.out.size)).trans ((hb2.mono (Nat.le_trans HB.out.size h2.size)).trans (hO.grown k2 (by have := HB.out.size; have := h2.size; simp; omega)))
      clear h1 h2 hb2 hO hk k1 k2 H1 HO HT HY
      go_wp2_with fail
      refine ⟨⟨j + 1, by omega, by simp, HO2, HB2⟩, ?_⟩
      simp only [intOf]
      omega
    · obtain rfl : j = n := by omega
      have j1 : ¬ (j : Int) < (j : Int) := by omega
      have HO2 : Hid (LRow wr w.heap.size u7 j ls) := by
        have := HO.out
        rw [List.take_of_length_le (by rw [HN.out]; omega)] at this
        exact this
      clear HO
      go_wp2_with fail
      go_ret
      exact ⟨_, rfl, HO2.out, HB.out⟩
end Go.Proofs.Ytchoiioeeepoaaa.V19
