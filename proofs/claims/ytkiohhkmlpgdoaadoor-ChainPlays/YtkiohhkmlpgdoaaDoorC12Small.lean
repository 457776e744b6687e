/- The contract of the statements' small. -/
import Derived.Test.YtkiohhkmlpgdoaaDoorC12Args
import Derived.Test.YtkiohhkmlpgdoaaDoorC12Anc
namespace Go.Proofs.YtkiohhkmlpgdoaaDoor.S7
open Go.RowKit
/-- Can links be gone through with? -/
def sml (ls : List (List Nat)) : Bool := decide (∀ l ∈ ls, l.length ≤ 300) && decide (ls.length ≤ 70)
theorem RowsIs.at {B : Nat} {w w' : World} {q : Option Addr} {ls : List (List Nat)} (h : RowsIs w q ls) (hB : B = w.heap.size) (hb : Below B w w') {j : Nat} (hj : j < ls.length) : ∃ b o p c, q = some ⟨b, o, none⟩ ∧ w'.cell? ⟨b, o + j, none⟩ = some (.slice p ls[j].length c) ∧ By B w' (.slice p ls[j].length c) ls[j] := by
  subst hB
  obtain ⟨b, o, sv, h1, h2, h3, h4, h5⟩ := h.below hb j hj
  obtain ⟨p, c, e, _⟩ := h4.1.slice
  subst e
  exact ⟨b, o, p, c, h1, h3, h4.by⟩
set_option maxHeartbeats 4000000 in
theorem small_any (w0 w : World) (q : Option Addr) (n c : Nat) (ls : List (List Nat)) (h : RowsIs w0 q ls) (hb : Below w0.heap.size w0 w) (hn : ls.length = n) (hmx : n ≤ 9223372036854775807) {s : Bool} (hs : sml ls = s) : Calls Tryd.prog 10 #[.slice q n c] w fun e w' => e = .returned (.bool s) ∧ w' = w := by
  have HR : Hid (∀ j (hj : j < ls.length), ∃ b o p c, q = some ⟨b, o, none⟩ ∧ w.cell? ⟨b, o + j, none⟩ = some (.slice p ls[j].length c) ∧ ls[j].length ≤ 9223372036854775807) := fun j hj => by
    obtain ⟨b, o, sv, h1, h2, h3, h4, h5⟩ := h.below hb j hj
    obtain ⟨p, c, e, _⟩ := h4.1.slice
    subst e
    exact ⟨b, o, p, c, h1, h3, h5⟩
  have HN : Hid (ls.length = n) := hn
  have HS : Hid (sml ls = s) := hs
  have HF : Hid (∀ (j : Nat) (hj : j < ls.length), 300 < ls[j].length → s = false) := fun j hj h1 => by
    rw [← hs]
    unfold sml
    rw [Bool.and_eq_false_iff]
    exact .inl (decide_eq_false (fun h2 => by have := h2 _ (List.getElem_mem hj); omega))
  have HT : Hid ((∀ (j : Nat) (hj : j < ls.length), ls[j].length ≤ 300) → s = decide ((n : Int) ≤ 70)) := fun h1 => by
    rw [← hs]
    unfold sml
    rw [decide_eq_true (fun l hl => by obtain ⟨j, hj, rfl⟩ := List.mem_iff_getElem.1 hl; exact h1 j hj), Bool.true_and, hn]
    by_cases h7 : n ≤ 70
    · rw [decide_eq_true h7, decide_eq_true (by omega)]
    · rw [decide_eq_false h7, decide_eq_false (by omega)]
  clear h hb hn hs
  have n0 : (0 : Int) ≤ (n : Int) := by omega
  have n1 : (n : Int) ≤ 9223372036854775807 := by omega
  go_enter Tryd.func10, Tryd.ntmps10
  go_wp2_with fail
  go_loopw [7] (fun i wr => ∃ (j : Nat), j ≤ n ∧ i = .int .i64 j ∧ Hid (wr = w) ∧ Hid (∀ (k : Nat) (hk : k < ls.length), k < j → ls[k].length ≤ 300)) (fun i _ => n - (intOf i).toNat)
  case atStart => exact ⟨0, by omega, rfl, rfl, fun k _ hk => by omega⟩
  case round =>
    obtain ⟨j, hj, rfl, hw, HK⟩ := hrel
    obtain rfl : w = wr := hw.out.symm
    clear hw
    have j0 : (0 : Int) ≤ (j : Int) := by omega
    by_cases hlt : j < n
    · have j1 : (j : Int) < (n : Int) := by omega
      have ja : j < ls.length := by rw [HN.out]; exact hlt
      obtain ⟨b, o, p, cc, hq, hc, hm⟩ := HR.out j ja
      subst hq
      have HFJ := HF.out j ja
      have HKJ : Hid (ls[j].length ≤ 300 → ∀ (k : Nat) (hk : k < ls.length), k < j + 1 → ls[k].length ≤ 300) := fun h1 k hk h2 => by
        by_cases e : k = j
        · subst e; exact h1
        · exact HK.out k hk (by omega)
      generalize hln : ls[j].length = ln at *
      clear hln ja
      by_cases h3 : 300 < ln
      · have q1 : (300 : Int) < (ln : Int) := by omega
        have hsf := HFJ h3
        subst hsf
        clear HFJ HF HT HS
        go_wp2_with fail
        go_ret
        exact ⟨rfl, rfl⟩
      · have q1 : ¬ (300 : Int) < (ln : Int) := by omega
        have HK2 : Hid (∀ (k : Nat) (hk : k < ls.length), k < j + 1 → ls[k].length ≤ 300) := HKJ.out (by omega)
        clear HFJ HKJ
        go_wp2_with fail
        refine ⟨⟨j + 1, by omega, by simp, trivial, HK2⟩, ?_⟩
        simp only [intOf]
        omega
    · obtain rfl : j = n := by omega
      have j1 : ¬ (j : Int) < (j : Int) := by omega
      have hst := HT.out (fun k hk => HK.out k hk (by rw [← HN.out]; exact hk))
      subst hst
      clear HF HT HS HR
      go_wp2_with fail
      go_ret
      exact ⟨rfl, rfl⟩
end Go.Proofs.YtkiohhkmlpgdoaaDoor.S7
