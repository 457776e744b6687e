/- The contract of the server's pull. -/
import Derived.Test.YtchoiioeeepoaaaV19Bat
namespace Go.Proofs.Ytchoiioeeepoaaa.V19
open Go.RowKit C8 E9 F17
def dropQ (q : Option Addr) (cp i : Nat) : Option Addr := if cp = i then q else q.map (·.add i)
theorem slice_l (q : Option Addr) (n cp i : Nat) (h : i ≤ n) (w : World) : (Instr.slice 31 (.slice q n cp) (some (.int .i64 (i : Int))) none none).run Try.prog w = .ok (.slice (dropQ q cp i) (n - i) (cp - i)) w := by
  have hs : (sizeOf (Try.prog.elem 31)).run Try.prog w = .ok 1 w := by kernel_rfl
  rw [run_slice_l (ht := Try.underlying31) (h0 := by omega) (h1 := by omega), hs]
  simp only [Result.andThen, sliced, dropQ, Int.toNat_natCast, Nat.mul_one]
theorem row_drop {w : World} {q : Option Addr} {ls : Ls} {cp : Nat} (h : LkRow w q ls) (hc : ls.length ≤ cp) (i : Nat) : LkRow w (dropQ q cp i) (ls.drop i) := fun j hj => by
  have h1 : i + j < ls.length := by rw [List.length_drop] at hj; omega
  obtain ⟨b, o, bp, bc, k1, k2, k3, k4, k5⟩ := h (i + j) h1
  have e : (ls.drop i)[j] = ls[i + j] := by simp
  refine ⟨b, o + i, bp, bc, ?_, k2, by rw [e, Nat.add_assoc]; exact k3, by rw [e]; exact k4, by rw [e]; exact k5⟩
  unfold dropQ
  rw [if_neg (by omega), k1]
  simp [Addr.add_mid]
def PullSays (M : St) (x c i : Int) (w : World) (e : Ending) (w' : World) : Prop :=
  ∃ v, e = .returned (.tuple #[v, .int .i64 (pullA M x c i).2]) ∧ Src w' v (pullA M x c i).1 ∧ Below w.heap.size w w'
theorem PullSays.more {M : St} {x c i : Int} {w w' : World} (hb : Below w.heap.size w w') (hf : ((M x c).length : Int) < i) : PullSays M x c i w (.returned (.tuple #[.slice none 0 0, .int .i64 14])) w' := by
  have e : pullA M x c i = ([], 14) := by unfold pullA; rw [if_pos hf]
  unfold PullSays
  rw [e]
  exact ⟨_, rfl, Src.nil _, hb⟩
theorem PullSays.done {M : St} {x c i : Int} {w w' : World} {v : Value} (hs : Src w' v (bat c i ((M x c).drop i.toNat))) (hb : Below w.heap.size w w') (hf : ¬ ((M x c).length : Int) < i) : PullSays M x c i w (.returned (.tuple #[v, .int .i64 0])) w' := by
  have e : pullA M x c i = (bat c i ((M x c).drop i.toNat), 0) := by unfold pullA; rw [if_neg hf]
  unfold PullSays
  rw [e]
  exact ⟨_, rfl, hs, hb⟩
set_option maxHeartbeats 8000000 in
set_option maxRecDepth 20000 in
theorem pull_any (p b m : Nat) (M : St) (x c i : Int) (w : World) (h : SvAt w p b m M) (hx : In64 x) (hc : 1 ≤ c ∧ c ≤ 1099511627776) (hi : 0 ≤ i ∧ i ≤ 64) (hok : Wf (M x c)) :
    Calls Try.prog 26 #[.pointer (some ⟨p, 0, none⟩), pl x c, .int .i64 i] w fun e w' => PullSays M x c i w e w' := by
  have hic : In64 c := by unfold In64; omega
  obtain ⟨i, rfl⟩ := Int.eq_ofNat_of_zero_le hi.1
  obtain ⟨log, HLG⟩ : ∃ log, Hid (M x c = log) := ⟨_, rfl⟩
  obtain ⟨n, HN⟩ : ∃ n, Hid (log.length = n) := ⟨_, rfl⟩
  obtain ⟨W1, hW1⟩ : ∃ W1, W1 = w.alloc (.cells #[.int .i64 x, .int .i64 c] 64) := ⟨_, rfl⟩
  have hb1 : Below w.heap.size w W1 := by rw [hW1]; exact (Below.refl _ w).alloc (Nat.le_refl _) _
  have hbox : W1.heap[w.heap.size]? = some (.cells #[.int .i64 x, .int .i64 c] 64 (0, 0)) := by rw [hW1]; exact heap_alloc_new w _
  have hS1 : SvAt W1.drew p b m M := (h.below hb1).below (Below.refl _ W1).drew
  obtain ⟨q, cp, hlk, HL0, hcp⟩ := hS1.look hx hic
  rw [HLG.out] at hlk HL0 hok hcp
  rw [HN.out] at hlk hcp
  have d0 : W1.drew.cell? ⟨p, 0, none⟩ = some (.map (some b)) := cell_of_row _ _ _ _ _ _ hS1.cell
  have d2 : W1.drew.cell? ⟨w.heap.size, 0, none⟩ = some (.int .i64 x) := cell_of_row _ _ _ _ _ _ hbox
  have d3 : W1.drew.cell? ⟨w.heap.size, 1, none⟩ = some (.int .i64 c) := cell_of_row _ _ _ _ _ _ hbox
  have HOK : Hid (Wf log) := hok
  have HL : Hid (LkRow W1.drew q log) := HL0
  have HB1 : Hid (Below w.heap.size w W1.drew) := hb1.drew
  have HC : Hid (1 ≤ c ∧ c ≤ 1099511627776) := hc
  have HI : Hid (0 ≤ (i : Int) ∧ (i : Int) ≤ 64) := hi
  have hn : n ≤ 64 := by have := hok.1; have := HN.out; omega
  have l1 : (n : Int) ≤ 64 := by omega
  have l2 : (i : Int) ≤ 64 := hi.2
  unfold pl at hlk ⊢
  clear h hx hc hi hok hb1 hbox hS1 HL0 hic
  go_enter Try.func26, Try.ntmps26
  go_upto_region 1 with fail
  rw [← hW1]
  clear hW1
  go_cut [8] from 9 to 14 (fun v8 wx => v8 = .slice q n cp ∧ wx = W1.drew)
  case first =>
    go_region
    all_goals (go_wp2_with fail; go_meet; exact ⟨rfl, rfl⟩)
  case rest =>
    obtain ⟨rfl, rfl⟩ := hcut
    clear hlk
    by_cases hgt : (n : Int) < (i : Int)
    · go_wp2_with fail
      go_ret2
      exact PullSays.more HB1.out (by rw [HLG.out, HN.out]; exact hgt)
    · have hle : i ≤ n := by omega
      have hsl := slice_l q n cp i hle
      have HBC : ∀ W, W = W1.drew.drew → Calls Try.prog 42 #[.int .i64 c, .int .i64 (i : Int), .slice (dropQ q cp i) (n - i) (cp - i)] W fun e w' => ∃ v, e = .returned v ∧ Hid (Src w' v (bat c i (log.drop i)) ∧ Below w.heap.size w w') := by
        rintro W rfl
        have hb2 : Below w.heap.size w W1.drew.drew := HB1.out.drew
        have hlen : (log.drop i).length = n - i := by rw [List.length_drop, HN.out]
        rw [← hlen]
        have hld : LkRow W1.drew.drew q log := HL.out.below (Below.refl _ _).drew
        have hw2 : Wf (log.drop i) := ⟨by rw [hlen]; omega, fun y hy => HOK.out.2 y (List.mem_of_mem_drop hy)⟩
        refine (batch_any c i _ _ (log.drop i) _ (row_drop hld (by rw [HN.out]; exact hcp) i) (by rw [hlen]; omega) HC.out HI.out hw2).mono ?_
        rintro e w' ⟨v, rfl, h1, h2⟩
        exact ⟨v, rfl, h1, hb2.trans (h2.mono hb2.size)⟩
      go_upto_region 4 with fail
      go_region_with (go_at_call 42; refine (HBC _ rfl).mono ?_; rintro e w1 ⟨v1, rfl, H1⟩)
      all_goals (go_wp2_with fail; go_ret2; exact PullSays.done (by rw [HLG.out]; exact H1.out.1) H1.out.2 (by rw [HLG.out, HN.out]; omega))
end Go.Proofs.Ytchoiioeeepoaaa.V19
