/- The contracts of the statements' own small and put. -/
import Derived.Test.YtcpojjhopbcjkaaC8Args
namespace Go.Proofs.Ytcpojjhopbcjkaa.C8
open Go.RowKit
/-- Parts that are gone through with. -/
def sm (ps : List Pt) : Bool := ps.all (fun p => decide (p.text.length ≤ 5000)) && decide (ps.length ≤ 20)
theorem PartRow.below {w w' : World} {q : Option Addr} {ps : List Pt} (h : PartRow w q ps) (hb : Below w.heap.size w w') : ∀ j (hj : j < ps.length), ∃ b o sv, q = some ⟨b, o, none⟩ ∧ b < w.heap.size ∧ w'.cell? ⟨b, o + j * 3, none⟩ = some (.bool ps[j].isText) ∧ w'.cell? ⟨b, o + j * 3 + 1, none⟩ = some (.int .i64 ps[j].n) ∧ w'.cell? ⟨b, o + j * 3 + 2, none⟩ = some sv ∧ Old w.heap.size w' sv ps[j].text ∧ ps[j].text.length ≤ 9223372036854775807 := fun j hj => by
  obtain ⟨b, o, sv, h1, h2, h3, h4, h5, h6, h7⟩ := h j hj
  exact ⟨b, o, sv, h1, h2, (hb.cell (p := ⟨b, o + j * 3, none⟩) h2).trans h3, (hb.cell (p := ⟨b, o + j * 3 + 1, none⟩) h2).trans h4, (hb.cell (p := ⟨b, o + j * 3 + 2, none⟩) h2).trans h5, h6.below hb, h7⟩
theorem PartRow.moved {w w' : World} {q : Option Addr} {ps : List Pt} (h : PartRow w q ps) (hb : Below w.heap.size w w') : PartRow w' q ps := fun j hj => by
  obtain ⟨b, o, sv, h1, h2, h3, h4, h5, h6, h7⟩ := h.below hb j hj
  exact ⟨b, o, sv, h1, Nat.lt_of_lt_of_le h2 hb.size, h3, h4, h5, h6.up hb.size, h7⟩
set_option maxHeartbeats 2000000 in
theorem small_any (ps : List Pt) (q : Option Addr) (n c : Nat) (w : World) (hn : ps.length = n) (hm : n ≤ 9223372036854775807) (hp : PartRow w q ps) :
    Calls Try.prog 10 #[.slice q n c] w fun e w' => e = .returned (.bool (sm ps)) ∧ Below w.heap.size w w' := by
  have HP : Hid (PartRow w q ps) := hp
  have HN : Hid (ps.length = n) := hn
  have n1 : (n : Int) ≤ 9223372036854775807 := by omega
  obtain ⟨r, HRS⟩ : ∃ r, Hid (sm ps = r) := ⟨_, rfl⟩
  rw [HRS.out]
  clear hp hn
  go_enter Try.func10, Try.ntmps10
  go_wp2_with fail
  go_loopw [7] (fun i wr => ∃ j : Nat, j ≤ n ∧ i = .int .i64 j ∧ Hid (Below w.heap.size w wr) ∧ Hid ((ps.take j).all (fun p => decide (p.text.length ≤ 5000)) = true)) (fun i _ => n - (intOf i).toNat)
  case atStart => exact ⟨0, by omega, rfl, Below.refl _ _, rfl⟩
  case round =>
    obtain ⟨j, hj, rfl, HB, HA⟩ := hrel
    by_cases hlt : j < n
    · have hjp : j < ps.length := by rw [HN.out]; exact hlt
      obtain ⟨b, o, sv, rfl, hb, d0, d1, d2, hs, ht⟩ := HP.out.below HB.out j hjp
      obtain ⟨sp, sc, rfl, -⟩ := hs.1.slice
      have j1 : (j : Int) < (n : Int) := by omega
      have j0 : (0 : Int) ≤ (j : Int) := by omega
      have HB2 : Hid (∀ o, Below w.heap.size w (wr.alloc o)) := fun o => HB.out.alloc HB.out.size o
      by_cases hL : 5000 < ps[j].text.length
      · have HF : Hid (r = false) := by
          show _ = _
          rw [← HRS.out]
          have : ps.all (fun p => decide (p.text.length ≤ 5000)) = false := by
            rw [List.all_eq_false]
            exact ⟨ps[j], List.getElem_mem hjp, by simp; omega⟩
          simp [sm, this]
        have h5 : (5000 : Int) < (ps[j].text.length : Int) := by omega
        generalize ps[j] = pt at *
        obtain ⟨isT, pn, tx⟩ := pt
        simp only at d0 d1 d2 h5 ht hL
        generalize tx.length = tl at *
        clear HA HB hs hjp
        go_wp2_with fail
        go_ret
        exact ⟨by rw [HF.out]; rfl, HB2.out _⟩
      · have HA2 : Hid ((ps.take (j + 1)).all (fun p => decide (p.text.length ≤ 5000)) = true) := by
          show _ = _
          rw [List.take_succ_eq_append_getElem hjp, List.all_append, HA.out]
          simp; omega
        have h5 : (ps[j].text.length : Int) ≤ 5000 := by omega
        generalize ps[j] = pt at *
        obtain ⟨isT, pn, tx⟩ := pt
        simp only at d0 d1 d2 h5 ht hL
        generalize tx.length = tl at *
        clear HA HB hs hjp
        go_wp2_with fail
        refine ⟨⟨j + 1, by omega, by simp, HB2.out _, HA2⟩, ?_⟩
        simp only [intOf]
        omega
    · obtain rfl : j = n := by omega
      have j1 : ¬ (j : Int) < (j : Int) := by omega
      have HR2 : Hid (r = decide (j ≤ 20)) := by
        show _ = _
        have h1 := HA.out
        rw [List.take_of_length_le (by rw [HN.out]; omega)] at h1
        rw [← HRS.out, sm, h1, HN.out]
        simp
      clear HA
      go_wp2_with fail
      go_ret
      refine ⟨?_, HB.out⟩
      show Ending.returned (.bool (decide ((j : Int) ≤ 20))) = _
      rw [HR2.out]
      congr 3
      simp only [eq_iff_iff]
      omega
theorem info20e : ∃ i, Try.prog.info? 20 = some i ∧ i.size = 1 ∧ i.bytes = 16 ∧ i.zero = some .nilIface := info_of (by kernel_rfl)
/-- One value of any type is appended. -/
theorem law_append_i {ops : Array Oper} {rest : List Oper} {dst : Option Tmp} {T : TypeId} {pos : String} {after : Array Edge} {a : Act} {w : World} {Q : Exit → Act → World → Prop} {so xo : Operand}
    (base : Nat) (v : Value) (n : Nat) (xs : List Value) (g : Nat) (u : Value) (hs : a.eval so = v) (hx : a.eval xo = .slice (some ⟨g, 0, none⟩) 1 1) (hown : w.ownsRow base 20 1 v n xs) (hc : w.cell? ⟨g, 0, none⟩ = some u) (hu : u.oneCell' = true)
    (hn : n ≤ 1000) (hbase : base ≤ w.heap.size)
    (h : ∀ v' w', w'.ownsRow base 20 1 v' (n + 1) (xs ++ [u]) → w.grownBy w' v.ownBlock → wpList Try.prog ops Q rest (a.put dst v') w') :
    wpList Try.prog ops Q ({ dst := dst, op := .call { callee := .builtin .append, args := #[so, xo], argTypes := #[49, 49] }, type := T, pos := pos, after := after, guard := none } :: rest) a w := by
  obtain ⟨i, hi, hsz, hby, hz⟩ := info20e
  refine wpList_append_own _ rfl so xo 49 rfl base 20 i _ 1 16 Try.underlying49 hi hz hsz hby rfl (by decide) v n xs hs hown ⟨g, 0, none⟩ 1 1 [u] hx rfl (fun j y hy => ?_) (fun y hy => by rw [List.mem_singleton.1 hy]; exact hu) (by unfold maxLen; omega) (by omega) hbase (fun v' w' h1 h2 _ => h v' w' h1 h2)
  cases j with
  | zero => simp at hy; subst hy; rw [Addr.add_mid]; exact hc
  | succ j => simp at hy
end Go.Proofs.Ytcpojjhopbcjkaa.C8
