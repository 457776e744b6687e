/- The contracts of the statements' Docs, and of the document's Same and Get. -/
import Derived.Test.YtigfiopmochliaaD11All
import Derived.RegionTactic
import Derived.BigRegion
namespace Go.Proofs.Ytigfiopmochliaa.D11
open Go.RowKit C8 E9
theorem DkRow.nil (w : World) (q : Option Addr) : DkRow w q [] := fun j hj => by cases hj
theorem src_map {w w' : World} {v : Value} {l : List Nat} {bs : List Nat} (h : Src w v l) (ho : Only bs w w') (hm : ∀ g ∈ bs, ∃ es c, w.heap[g]? = some (.map es c)) : Src w' v l := by
  obtain ⟨hs, h1 | h1 | ⟨b, o, c', rfl, hc, hr⟩⟩ := h
  · exact ⟨hs, .inl h1⟩
  · exact ⟨hs, .inr (.inl h1)⟩
  · by_cases h0 : l = []
    · subst h0
      exact ⟨hs, .inr (.inl ⟨_, _, rfl, rfl⟩)⟩
    · have hb : b ∉ bs := fun e => by
        obtain ⟨es, c, hg⟩ := hm b e
        cases hl : l with
        | nil => exact h0 hl
        | cons y r =>
          have := hr 0 (.int .u8 y) (by rw [hl]; rfl)
          simp [World.cell?, hg] at this
      exact Src.only ⟨hs, .inr (.inr ⟨b, o, c', rfl, hc, hr⟩)⟩ ho (Off.at (ad := ⟨b, o, none⟩) hb)
/-- A row of names and values stays while maps turn. -/
theorem DkRow.map {w w' : World} {q : Option Addr} {L : Col} {bs : List Nat} (h : DkRow w q L) (ho : Only bs w w') (hm : ∀ g ∈ bs, ∃ es c, w.heap[g]? = some (.map es c)) : DkRow w' q L := fun j hj => by
  obtain ⟨b, o, np, nc, vp, vc, h1, h2, h3, h4, h5, h6⟩ := h j hj
  have hb : b ∉ bs := fun e => by
    obtain ⟨es, c, hg⟩ := hm b e
    simp [World.cell?, hg] at h3
  have hk := ho.block b h2 hb
  exact ⟨b, o, np, nc, vp, vc, h1, Nat.lt_of_lt_of_le h2 ho.size, (World.cell?_of_block (a := ⟨b, o + j * 2, none⟩) hk).trans h3, (World.cell?_of_block (a := ⟨b, o + j * 2 + 1, none⟩) hk).trans h4, src_map h5 ho hm, src_map h6 ho hm⟩
/-- What the statements' Docs tells. -/
def MdSays (w : World) (n : Nat) (L : Col) (e : Ending) (w' : World) : Prop := ∃ q' c', e = .returned (.slice q' n c') ∧ DkRow w' q' L ∧ Below w.heap.size w w'
set_option maxHeartbeats 4000000 in
theorem madeDocs_any (w : World) (q : Option Addr) (n c : Nat) (L : Col) (h : DkRow w q L) (hn : L.length = n) (hf : n ≤ 1000000) :
    Calls Try.prog 17 #[.slice q n c] w fun e w' => MdSays w n L e w' := by
  have HA : Hid (DkRow w q L) := h
  have HN : Hid (L.length = n) := hn
  have hnb : (n : Int) ≤ 1000000 := by omega
  have hn0 : (0 : Int) ≤ (n : Int) := by omega
  clear h hn
  go_enter Try.func17, Try.ntmps17
  go_wp2_with fail
  go_loopw [8, 3] (fun i v wr => ∃ j : Nat, j ≤ n ∧ i = .int .i64 j ∧ Hid (Below w.heap.size w wr) ∧ Hid (∃ q c xs, v = .slice q j c ∧ wr.ownsRow w.heap.size 49 2 (.slice q j c) j xs ∧ AreQ (fun v l => Src w v l) xs (L.take j))) (fun i _ _ => n - (intOf i).toNat)
  case atStart => exact ⟨0, by omega, rfl, Below.refl _ _, ⟨none, 0, [], rfl, own_none _ _ _ _, trivial⟩⟩
  case round =>
    obtain ⟨j, hj, rfl, HB, HI⟩ := hrel
    obtain ⟨sq, sc, xs, hv, OX, AX⟩ := HI.out
    clear HI
    subst hv
    by_cases hlt : j < n
    · have ja : j < L.length := by rw [HN.out]; exact hlt
      obtain ⟨b, o, np, nc, vp, vc, rfl, k2, k3, k4, k5, k6⟩ := HA.out j ja
      have d0 := (HB.out.cell (p := ⟨b, o + j * 2, none⟩) k2).trans k3
      have d1 := (HB.out.cell (p := ⟨b, o + j * 2 + 1, none⟩) k2).trans k4
      have j1 : (j : Int) < (n : Int) := by omega
      have j0 : (0 : Int) ≤ (j : Int) := by omega
      have HT : Hid (AreQ (fun v l => Src w v l) (xs ++ [.slice np L[j].1.length nc, .slice vp L[j].2.length vc]) (L.take (j + 1))) := by
        rw [List.take_succ_eq_append_getElem ja]
        exact AX.snoc k5 k6
      have HO : Hid (wr.ownsRow w.heap.size 49 2 (.slice sq j sc) j xs) := OX
      clear k3 k4 k5 k6 OX AX
      generalize L[j].1.length = l1 at *
      generalize L[j].2.length = l2 at *
      clear ja
      go_wp2_with (first | with_reducible (refine stop_builtin .append ?_))
      refine Stop.go ?_
      have hA : ∀ o1 o2, Below wr.heap.size wr ((wr.alloc o1).alloc o2) := fun o1 o2 => (bel_alloc (Nat.le_refl _) o1).trans (bel_alloc (by simp) o2)
      refine law_append_r w.heap.size (.slice sq j sc) j xs (wr.heap.size + 1) [.slice np l1 nc, .slice vp l2 vc] rfl rfl rfl (own_below HO.out (hA _ _)) ?hr (by simp; exact ⟨rfl, rfl⟩) (by omega) (Nat.le_trans HB.out.size (hA _ _).size) ?_
      case hr =>
        have hr0 := range_last (wr.alloc (.cells #[.slice np l1 nc, .slice vp l2 vc] 55)) [.slice np l1 nc, .slice vp l2 vc] 49
        rw [show (wr.alloc (.cells #[.slice np l1 nc, .slice vp l2 vc] 55)).heap.size = wr.heap.size + 1 from by simp] at hr0
        exact hr0
      intro v2 w2 h1 h2
      have hb2 := below_append (own_below HO.out (hA _ _)) h2 (Nat.le_trans HB.out.size (hA _ _).size)
      have HB2 : Hid (Below w.heap.size w w2) := (HB.out.trans (bel_le (hA _ _) HB.out.size)).trans hb2
      obtain ⟨q2, c2, rfl⟩ := own_slice h1
      have HI2 : Hid (∃ q c xs, (.slice q2 (j + 1) c2 : Value) = .slice q (j + 1) c ∧ w2.ownsRow w.heap.size 49 2 (.slice q (j + 1) c) (j + 1) xs ∧ AreQ (fun v l => Src w v l) xs (L.take (j + 1))) := ⟨q2, c2, _, rfl, h1, HT.out⟩
      clear h1 h2 hA hb2 HO HT
      go_wp2_with fail
      refine ⟨⟨j + 1, by omega, by simp, HB2, HI2⟩, ?_⟩
      simp only [intOf]
      omega
    · obtain rfl : j = n := by omega
      have j1 : ¬ (j : Int) < (j : Int) := by omega
      rw [List.take_of_length_le (by rw [HN.out]; omega)] at AX
      have HR : Hid (DkRow wr sq L) := AreQ.row (AX.imp (fun v l hx => hx.below HB.out)) OX HN.out
      clear AX OX
      go_wp2_with fail
      go_ret
      exact ⟨_, _, rfl, HR.out, HB.out⟩
theorem beq_strB {a b : List Nat} (ha : ∀ x ∈ a, x < 256) (hb : ∀ x ∈ b, x < 256) : (strB a == strB b) = decide (a = b) := strB_beq ha hb
/-- What the document's Get tells. -/
def RgSays (w : World) (L : Col) (k : List Nat) (e : Ending) (w' : World) : Prop := ∃ i : Int, e = .returned (.int .i64 i) ∧ ((∃ j : Nat, ∃ hj : j < L.length, i = j ∧ L[j].1 = k) ∨ (i = -1 ∧ ∀ p ∈ L, p.1 ≠ k)) ∧ Below w.heap.size w w'
set_option maxHeartbeats 4000000 in
theorem rGet_any (w : World) (q kp : Option Addr) (n c kn kc : Nat) (L : Col) (k : List Nat) (h : DkRow w q L) (hn : L.length = n) (hf : n ≤ 1000000) (hk : Src w (.slice kp kn kc) k) :
    Calls Try.prog 20 #[.slice q n c, .slice kp kn kc] w fun e w' => RgSays w L k e w' := by
  have HA : Hid (DkRow w q L) := h
  have HN : Hid (L.length = n) := hn
  have HK : Hid (Src w (.slice kp kn kc) k) := hk
  have hnb : (n : Int) ≤ 1000000 := by omega
  have hn0 : (0 : Int) ≤ (n : Int) := by omega
  clear h hn hk
  go_enter Try.func20, Try.ntmps20
  go_wp2_with fail
  go_loopw [5] (fun i wr => ∃ j : Nat, j ≤ n ∧ i = .int .i64 j ∧ Hid (Below w.heap.size w wr) ∧ Hid (∀ p ∈ L.take j, p.1 ≠ k)) (fun i _ => n - (intOf i).toNat)
  case atStart => exact ⟨0, by omega, rfl, Below.refl _ _, fun p hp => by cases hp⟩
  case round =>
    obtain ⟨j, hj, rfl, HB, HI⟩ := hrel
    by_cases hlt : j < n
    · have ja : j < L.length := by rw [HN.out]; exact hlt
      obtain ⟨b, o, np, nc, vp, vc, rfl, k2, k3, k4, k5, k6⟩ := HA.out j ja
      have d0 := (HB.out.cell (p := ⟨b, o + j * 2, none⟩) k2).trans k3
      have j1 : (j : Int) < (n : Int) := by omega
      have j0 : (0 : Int) ≤ (j : Int) := by omega
      have hx1 := conv_src (w := wr.drew) (show Src wr _ _ from k5.below HB.out)
      have hx2 := conv_src (w := wr.drew) (show Src wr _ _ from HK.out.below HB.out)
      have hbq := strB_beqL k5.small HK.out.small
      have HB2 : Hid (Below w.heap.size w wr.drew) := HB.out.trans (C8.below_drewN 1 wr _)
      by_cases he : L[j].1 = k
      · have HE : Hid (∃ i : Nat, ∃ hi : i < L.length, (j : Int) = i ∧ L[i].1 = k) := ⟨j, ja, rfl, he⟩
        rw [decide_eq_true he] at hbq
        clear k3 k4 k5 k6
        generalize strB L[j].1 = s1 at *
        generalize strB k = s2 at *
        generalize L[j].1.length = l1 at *
        clear he ja
        go_wp2_with fail
        go_region
        all_goals go_wp2_with fail
        all_goals go_ret
        all_goals exact ⟨_, rfl, .inl HE.out, HB2.out⟩
      · have HI2 : Hid (∀ p ∈ L.take (j + 1), p.1 ≠ k) := by
          rw [List.take_succ_eq_append_getElem ja]
          intro p hp
          rcases List.mem_append.1 hp with e | e
          · exact HI.out p e
          · rw [List.mem_singleton.1 e]
            exact he
        rw [decide_eq_false he] at hbq
        clear k3 k4 k5 k6
        generalize strB L[j].1 = s1 at *
        generalize strB k = s2 at *
        generalize L[j].1.length = l1 at *
        clear he ja
        go_wp2_with fail
        go_region
        all_goals go_wp2_with fail
        all_goals refine ⟨⟨j + 1, by omega, by simp, HB2, HI2⟩, ?_⟩
        all_goals simp only [intOf]
        all_goals omega
    · obtain rfl : j = n := by omega
      have j1 : ¬ (j : Int) < (j : Int) := by omega
      have HE : Hid (∀ p ∈ L, p.1 ≠ k) := by
        have := HI.out
        rw [List.take_of_length_le (by rw [HN.out]; omega)] at this
        exact this
      go_wp2_with fail
      go_ret
      exact ⟨_, rfl, .inr ⟨rfl, HE.out⟩, HB.out⟩
end Go.Proofs.Ytigfiopmochliaa.D11
