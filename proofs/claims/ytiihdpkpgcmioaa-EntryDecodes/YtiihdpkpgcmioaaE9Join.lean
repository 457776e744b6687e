/- The contract of the document's join. -/
import Derived.Test.YtiihdpkpgcmioaaMgC
import Derived.Test.YtiihdpkpgcmioaaE9Rf
namespace Go.Proofs.Ytiihdpkpgcmioaa.E9
open Go.RowKit C8
/-- Pieces, one behind the other, at q. -/
def Pcs (w : World) (q : Option Addr) (ls : List (List Nat)) : Prop := ∀ i (h : i < ls.length), ∃ b o v, q = some ⟨b, o, none⟩ ∧ b < w.heap.size ∧ w.cell? ⟨b, o + i, none⟩ = some v ∧ Src w v ls[i]
theorem flat_le {ls : List (List Nat)} {i : Nat} : (ls.take i).flatten.length ≤ ls.flatten.length := by
  conv => rhs; rw [← List.take_append_drop i ls, List.flatten_append, List.length_append]
  omega
theorem flat_succ {ls : List (List Nat)} {i : Nat} (h : i < ls.length) : (ls.take (i + 1)).flatten = (ls.take i).flatten ++ ls[i] := by
  rw [List.take_succ_eq_append_getElem h, List.flatten_append]
  simp
set_option maxHeartbeats 2000000 in
theorem join_any (ls : List (List Nat)) (q : Option Addr) (c : Nat) (w : World) (h : Pcs w q ls) (hl : ls.length ≤ 100) (hf : ls.flatten.length ≤ 100000) :
    Calls Try.prog 34 #[.slice q ls.length c] w fun e w' => ∃ v, e = .returned v ∧ w'.ownsRow w.heap.size 5 1 v ls.flatten.length (ints .u8 ls.flatten) ∧ Below w.heap.size w w' := by
  have HP : Hid (Pcs w q ls) := h
  have HF : Hid (ls.flatten.length ≤ 100000) := hf
  obtain ⟨n, HN⟩ : ∃ n, Hid (ls.length = n) := ⟨_, rfl⟩
  obtain ⟨tot, HT⟩ : ∃ tot, Hid (ls.flatten = tot) := ⟨_, rfl⟩
  rw [HN.out] at hl ⊢
  rw [HT.out]
  clear h hf
  have l1 : (n : Int) ≤ 100 := by omega
  go_enter Try.func34, Try.ntmps34
  go_wp2_with fail
  go_loopw [3, 4] (fun sl i wr => ∃ j : Nat, j ≤ n ∧ i = .int .i64 j ∧ Hid (wr.ownsRow w.heap.size 5 1 sl (ls.take j).flatten.length (ints .u8 (ls.take j).flatten)) ∧ Hid (Below w.heap.size w wr)) (fun _ i _ => n - (intOf i).toNat)
  case atStart => exact ⟨0, by omega, rfl, own_none _ _ _ _, Below.refl _ _⟩
  case round =>
    obtain ⟨j, hj, rfl, HO, HB⟩ := hrel
    by_cases hlt : j < n
    · have hjp : j < ls.length := by rw [HN.out]; exact hlt
      obtain ⟨b, o, v, rfl, hb, hc, hs⟩ := HP.out j hjp
      have d1 := (HB.out.cell (p := ⟨b, o + j, none⟩) hb).trans hc
      have HS : Hid (Src wr v ls[j]) := hs.below HB.out
      have j1 : (j : Int) < (n : Int) := by omega
      have j0 : (0 : Int) ≤ (j : Int) := by omega
      have HL : Hid ((ls.take j).flatten.length + ls[j].length ≤ 100000) := by
        have h1 := flat_le (ls := ls) (i := j + 1)
        rw [flat_succ hjp, List.length_append] at h1
        exact Nat.le_trans h1 HF.out
      have HC : Hid ((ls.take (j + 1)).flatten = (ls.take j).flatten ++ ls[j]) := flat_succ hjp
      clear hc hs
      go_wp2_with (first | with_reducible (refine stop_builtin .append ?_))
      refine law_append_src w.heap.size u3 _ _ v _ rfl rfl HO.out HS.out HL.out HB.out.size ?_
      intro v' w' h1 h2
      have HO1 : Hid (w'.ownsRow w.heap.size 5 1 v' (ls.take (j + 1)).flatten.length (ints .u8 (ls.take (j + 1)).flatten)) := by
        show World.ownsRow _ _ _ _ _ _ _
        rw [HC.out, List.length_append]
        exact h1
      have HB1 : Hid (Below w.heap.size w w') := HB.out.trans (below_append HO.out h2 HB.out.size)
      clear h1 h2 HC HL HS HO HB
      go_wp2_with fail
      refine ⟨⟨j + 1, by omega, by simp, HO1, HB1⟩, ?_⟩
      simp only [intOf]
      omega
    · obtain rfl : j = n := by omega
      have j1 : ¬ (j : Int) < (j : Int) := by omega
      have HE : Hid (wr.ownsRow w.heap.size 5 1 u3 tot.length (ints .u8 tot)) := by
        have := HO.out
        rw [List.take_of_length_le (by rw [HN.out]; omega), HT.out] at this
        exact this
      clear HO
      go_wp2_with fail
      go_ret
      exact ⟨_, rfl, HE.out, HB.out⟩
end Go.Proofs.Ytiihdpkpgcmioaa.E9
