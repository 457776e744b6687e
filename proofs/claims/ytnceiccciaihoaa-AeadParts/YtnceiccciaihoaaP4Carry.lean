/- The contract of carry. -/
import Derived.Test.YtnceiccciaihoaaProg
import Derived.Test.YtnceiccciaihoaaP4Spec
import Derived.Test.YtnceiccciaihoaaLaws2
import Derived.BigRegion
import Derived.Deep.RegionHeld3
import Derived.WalkMore
import Derived.ScopeJumps
namespace Go.Proofs.Ytnceiccciaihoaa.P4
open Go.RowKit
/-- At block g lies a wide number. -/
def WAt (w : World) (g : Nat) (s : List Nat) : Prop := w.heap[g]? = some (.cells (arr .u64 s) 51 (0, 0))
section
variable {w : World} {g : Nat} {s : List Nat}
theorem WAt.cell (h : WAt w g s) (i : Nat) (hi : i < s.length) : w.cell? ⟨g, i, none⟩ = some (.int .u64 (Sp.nth s i : Nat)) := by
  rw [cell_of_row _ _ _ _ _ _ h]; exact arr_get _ _ _ hi
theorem WAt.may (h : WAt w g s) (i : Nat) : w.frozen? ⟨g, i, none⟩ = false := frozen_of_row _ _ _ _ _ h
theorem WAt.set (h : WAt w g s) (i x : Nat) : WAt (w.setCell ⟨g, i, none⟩ (.int .u64 (x : Nat))) g (s.set i x) := by
  have := heap_setCell_same w g i (arr .u64 s) 51 (.int .u64 (x : Nat)) h
  unfold WAt
  rw [this]
  congr 2
  apply Array.ext'
  simp [arr, ints]
theorem WAt.drewN (h : WAt w g s) (n : Nat) : WAt (w.drewN n) g s := h
theorem WAt.lt (h : WAt w g s) : g < w.heap.size := (Array.getElem?_eq_some_iff.1 h).1
theorem WAt.grown {w' : World} {g' : Nat} (h : WAt w g s) (hg : w.grownBy w' (some g')) (hne : g ≠ g') : WAt w' g s := by
  have := hg.block g h.lt (by simpa using hne)
  exact this.trans h
theorem WAt.below {w' : World} {K : Nat} (h : WAt w g s) (hb : Below K w w') (hg : g < K) : WAt w' g s := (hb.block g hg).trans h
end
theorem nth_snoc (D : List Nat) (x : Nat) (l : List Nat) (k : Nat) (hk : D.length = k) : Sp.nth (D ++ x :: l) k = x := by
  subst hk
  simp [Sp.nth]
theorem set_snoc (D : List Nat) (x y : Nat) (l : List Nat) (k : Nat) (hk : D.length = k) : (D ++ x :: l).set k y = D ++ y :: l := by
  subst hk
  rw [List.set_append_right _ _ (Nat.le_refl _)]
  simp
theorem drop_nth {l : List Nat} {k : Nat} (h : k < l.length) : l.drop k = Sp.nth l k :: l.drop (k + 1) := by
  rw [List.drop_eq_getElem_cons h]
  simp [Sp.nth, h]
theorem mask26 (x : Nat) (hx : x < 18446744073709551616) : bits BinOp.and .u64 (x : Int) 67108863 = ((x % 67108864 : Nat) : Int) := by
  have := u64_and_nat x 67108863 hx (by decide)
  rw [show ((67108863 : Nat) : Int) = 67108863 from rfl] at this
  rw [this]
  congr 1
  exact Nat.and_two_pow_sub_one_eq_mod x 26
/-- What carry leaves. -/
def Carried (n d : List Nat) (o : Nat) : Prop := d.length = 5 ∧ (∀ x ∈ d, x < Po.B) ∧ Po.pos Po.B d + Po.B ^ 5 * o = Po.pos Po.B n ∧ o < 274877906944
set_option maxHeartbeats 1000000 in
theorem carry_any (n : List Nat) (g : Nat) (w : World) (hg : WAt w g n) (hl : n.length = 5) (hn : ∀ x ∈ n, x < 9223372036854775808) :
    Calls Try.prog 31 #[.pointer (some ⟨g, 0, none⟩)] w fun e w' => ∃ d o, e = .returned (.int .u64 (o : Nat)) ∧ Carried n d o ∧ WAt w' g d ∧ w.grownBy w' (some g) := by
  have HG : Hid (WAt w g n) := hg
  have HL : Hid (n.length = 5) := hl
  have HN : Hid (∀ x ∈ n, x < 9223372036854775808) := hn
  clear hg hl hn
  go_enter Try.func31, Try.ntmps31
  go_wp2
  go_loopw [3, 5] (fun ov i wr => ∃ (k o : Nat) (D : List Nat), k ≤ 5 ∧ i = .int .i64 k ∧ ov = .int .u64 o ∧ o < 274877906944 ∧ Hid (WAt wr g (D ++ n.drop k)) ∧ Hid (w.grownBy wr (some g)) ∧ Hid (D.length = k) ∧ Hid (∀ x ∈ D, x < Po.B) ∧ Hid (Po.pos Po.B D + Po.B ^ k * o = Po.pos Po.B (n.take k))) (fun _ i _ => 5 - (intOf i).toNat)
  case atStart => exact ⟨0, 0, [], by omega, rfl, rfl, by omega, HG.out, grownBy_refl _ _, rfl, fun x hx => by simp at hx, by show _ = _; simp [Po.pos]⟩
  case round =>
    clear HG
    obtain ⟨k, o, D, hk, rfl, rfl, ho, H1, G1, HD, HB, HP⟩ := hrel
    by_cases hlt : k < 5
    · have hdr := drop_nth (l := n) (k := k) (by rw [HL.out]; exact hlt)
      have h1 := H1.out
      rw [hdr] at h1
      have hlen : (D ++ Sp.nth n k :: n.drop (k + 1)).length = 5 := by simp [HD.out, HL.out]; omega
      have ck := h1.cell k (by omega)
      rw [nth_snoc D _ _ k HD.out] at ck
      have fk := h1.may k
      have xk : Sp.nth n k < 9223372036854775808 := Sp.nth_lt (by decide) HN.out k
      have HS1 : Hid (WAt ((wr.setCell ⟨g, k, none⟩ (.int .u64 ((Sp.nth n k + o : Nat) : Int))).drew) g (D ++ (Sp.nth n k + o) :: n.drop (k + 1))) := by
        have := h1.set k (Sp.nth n k + o)
        rw [set_snoc D _ _ _ k HD.out] at this
        exact this
      have HG1 : Hid (w.grownBy ((wr.setCell ⟨g, k, none⟩ (.int .u64 ((Sp.nth n k + o : Nat) : Int))).drew) (some g)) := grownBy_drewN (grownBy_set G1.out k _) 1
      have HE : Hid (Po.pos Po.B (n.take (k + 1)) = Po.pos Po.B (n.take k) + Po.B ^ k * Sp.nth n k) := Po.pos_take _ (by rw [HL.out]; exact hlt)
      clear hdr h1 hlen H1 G1
      generalize Sp.nth n k = y at *
      have k0 : (0 : Int) ≤ (k : Int) := by omega
      have k1 : (k : Int) < 5 := by omega
      have e1 : ((y + o : Nat) : Int) = (y : Int) + (o : Int) := by omega
      rw [e1] at HS1 HG1
      go_wp2
      go_region
      go_wp2
      generalize (wr.setCell ⟨g, k, none⟩ (.int .u64 ((y : Int) + (o : Int)))).drew = w1 at *
      clear ck fk
      obtain ⟨z, hz⟩ : ∃ z, y + o = z := ⟨_, rfl⟩
      have hz' : (y : Int) + (o : Int) = (z : Int) := by omega
      rw [hz] at HS1
      rw [hz'] at *
      have ck := HS1.out.cell k (by simp [HD.out])
      rw [nth_snoc D _ _ k HD.out] at ck
      have fk := HS1.out.may k
      have hz1 : z < 18446744073709551616 := by omega
      have hm := mask26 z hz1
      have HS2 : Hid (WAt ((w1.setCell ⟨g, k, none⟩ (.int .u64 ((z % 67108864 : Nat) : Int))).drew) g ((D ++ [z % 67108864]) ++ n.drop (k + 1))) := by
        have := HS1.out.set k (z % 67108864)
        rw [set_snoc D _ _ _ k HD.out] at this
        rw [List.append_assoc]
        exact this
      have HG2 : Hid (w.grownBy ((w1.setCell ⟨g, k, none⟩ (.int .u64 ((z % 67108864 : Nat) : Int))).drew) (some g)) := grownBy_drewN (grownBy_set HG1.out k _) 1
      have HD2 : Hid ((D ++ [z % 67108864]).length = k + 1) := by show _ = _; simp [HD.out]
      have HB2 : Hid (∀ x ∈ D ++ [z % 67108864], x < Po.B) := fun x hx => by
        rcases List.mem_append.1 hx with h | h
        · exact HB.out x h
        · rw [List.mem_singleton.1 h]; exact Nat.mod_lt _ (by decide)
      have HP2 : Hid (Po.pos Po.B (D ++ [z % 67108864]) + Po.B ^ (k + 1) * (z / 67108864) = Po.pos Po.B (n.take (k + 1))) := by
        show _ = _
        rw [HE.out, ← HP.out, Po.pos_snoc, HD.out, Nat.pow_succ, Nat.mul_assoc, Nat.add_assoc, ← Nat.mul_add, Nat.add_assoc, ← Nat.mul_add]
        congr 2
        have := Nat.mod_add_div z 67108864
        show z % 67108864 + 67108864 * (z / 67108864) = _
        omega
      have o2 : z / 67108864 < 274877906944 := by omega
      clear HS1 HG1 HD HB HP HE hz hz' e1
      have i0 : ((z % 67108864 : Nat) : Int) = (z : Int) % 67108864 := by omega
      rw [i0] at HS2 HG2
      go_region
      go_wp2
      go_roundw
      case rel => exact ⟨k + 1, z / 67108864, D ++ [z % 67108864], by omega, by go_num, by go_num, o2, HS2.out, HG2.out, HD2.out, HB2.out, HP2.out⟩
      case measure => simp [intOf]; omega
    · obtain rfl : k = 5 := by omega
      have h5 : n.drop 5 = [] := List.drop_eq_nil_of_le (by rw [HL.out]; exact Nat.le_refl _)
      have h6 : n.take 5 = n := List.take_of_length_le (by rw [HL.out]; exact Nat.le_refl _)
      have h1 := H1.out
      rw [h5, List.append_nil] at h1
      have hp := HP.out
      rw [h6] at hp
      go_wp2
      go_ret
      exact ⟨D, o, rfl, ⟨HD.out, HB.out, hp, ho⟩, h1, G1.out⟩
end Go.Proofs.Ytnceiccciaihoaa.P4
