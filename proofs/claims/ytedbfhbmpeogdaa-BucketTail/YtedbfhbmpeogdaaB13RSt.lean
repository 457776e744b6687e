/- The contract of the document's Strip. -/
import Derived.Test.YtedbfhbmpeogdaaB13RP
import Derived.Test.YtedbfhbmpeogdaaB13St
namespace Go.Proofs.Ytedbfhbmpeogdaa.C8
open Go.RowKit
theorem strB_inj' {a b : ByteArray} (h : a.toList = b.toList) : a = b := by
  have : ∀ x : ByteArray, x.toList = x.data.toList := fun x => ByteArray.toList_eq x
  rw [this, this] at h
  exact ByteArray.ext (Array.ext' h)
theorem RStrip_short {l : List Nat} (v : Value) (w : World) (hv : Src w v l) (hl : l.length < 64) : Calls Try.prog 13 #[v] w fun e w' => e = .returned (.tuple #[.slice none 0 0, .bool false]) ∧ Below w.heap.size w w' := by
  obtain ⟨p, c, rfl, -⟩ := hv.slice
  generalize l.length = n at *
  have n1 : (n : Int) < 64 := by omega
  clear hv hl
  go_enter Try.func13, Try.ntmps13
  go_wp2_with fail
  go_ret2
  exact ⟨rfl, Below.refl _ _⟩
/-- What the document's Strip tells. -/
def RsSays (w : World) (l : List Nat) (e : Ending) (w' : World) : Prop :=
  (Right l → ∃ u, e = .returned (.tuple #[u, .bool true]) ∧ Src w' u (txtL l)) ∧ (¬ Right l → e = .returned (.tuple #[.slice none 0 0, .bool false])) ∧ Below w.heap.size w w'
set_option maxHeartbeats 1000000 in
theorem RStrip_any {l : List Nat} (v : Value) (w : World) (hv : Src w v l) (h2 : 64 ≤ l.length) (hl : l.length ≤ 50000) : Calls Try.prog 13 #[v] w (RsSays w l) := by
  obtain ⟨b, o, c, rfl, k0⟩ := hv.get 0 (by omega)
  obtain ⟨b', o', c', e', k1⟩ := hv.get 1 (by omega)
  cases e'
  have hcap := hv.slice
  have x0 := Sp.nth_lt (by decide) hv.small 0
  have x1 := Sp.nth_lt (by decide) hv.small 1
  have HSM : Hid (∀ x ∈ l, x < 256) := hv.small
  obtain ⟨m, HM⟩ : ∃ m, Hid (cnt l = m) := ⟨_, rfl⟩
  have HOR : (Sp.nth l 0 : Int) * 256 + (Sp.nth l 1 : Int) = (m : Int) := by
    rw [← HM.out]
    unfold cnt
    omega
  generalize Sp.nth l 0 = y0 at *
  generalize Sp.nth l 1 = y1 at *
  obtain ⟨n, HN⟩ : ∃ n, Hid (l.length = n) := ⟨_, rfl⟩
  have HV : Hid (Src w (.slice (some ⟨b, o, none⟩) n c) l) := HN.out ▸ hv
  obtain ⟨cn1, HCN⟩ : ∃ k, Hid (k = c ∧ n ≤ c) := by
    obtain ⟨p, c', e, hle⟩ := hcap
    cases e
    exact ⟨c, rfl, by rw [← HN.out]; exact hle⟩
  rw [HN.out] at h2 hl ⊢
  have n2 : (64 : Int) ≤ (n : Int) := by omega
  have n3 : (n : Int) ≤ 50000 := by omega
  have n4 : (1 : Int) < (n : Int) := by omega
  have n5 : (0 : Int) < (n : Int) := by omega
  have n6 : 1 < n := by omega
  have n7 : 0 < n := by omega
  rw [Nat.add_zero] at k0
  have k0' : w.drew.cell? ⟨b, o, none⟩ = some (.int .u8 (y0 : Int)) := k0
  have k1' : w.drew.cell? ⟨b, o + 1, none⟩ = some (.int .u8 (y1 : Int)) := k1
  have m0 : (0 : Int) ≤ (m : Int) := by omega
  have nc : n ≤ c := HCN.out.2
  have HNR : Hid (n < m + 2 ∨ 2046 < m → ¬ Right l) := fun h hr => by
    have := right_cnt hr
    rw [HM.out, HN.out] at this
    omega
  have m5 : m ≤ 1000000 := by rw [← HM.out]; exact Nat.le_trans (Nat.le_of_lt (cnt_lt hv.small)) (by decide)
  have m6 : (m : Int) ≤ 1000000 := by omega
  clear hv hcap HCN k0 k1
  obtain ⟨Q, HQ⟩ : ∃ Q, Hid (RsSays w l = Q) := ⟨_, rfl⟩
  rw [HQ.out]
  by_cases hm : n < m + 2
  · have m1 : (n : Int) < (m : Int) + 2 := by omega
    have HNO : Hid (¬ Right l) := HNR.out (.inl hm)
    go_enter Try.func13, Try.ntmps13
    go_wp2_with fail
    go_region
    try simp only [HOR]
    go_wp2_with fail
    rw [← HQ.out]
    exact ⟨fun h => absurd h HNO.out, fun _ => rfl, below_drewN 1 _ _⟩
  · have m1 : (m : Int) + 2 ≤ (n : Int) := by omega
    have HC : Hid (∀ (n' : Int) (W : World), n' = (m : Int) → Calls Try.prog 15 #[.int .i64 n'] W fun e w' => e = .returned (.int .i64 (bsz m : Nat)) ∧ Below W.heap.size W w') := fun n' W e => by
      have := RSize_any (m : Int) W (by omega)
      rw [rsz_nat] at this
      exact e ▸ this
    by_cases hz : 2046 < m
    · have HNO : Hid (¬ Right l) := HNR.out (.inr hz)
      rw [bsz_none hz] at HC
      go_enter Try.func13, Try.ntmps13
      go_wp2_with fail
      go_region
      try simp only [HOR]
      go_wp2_with fail
      refine (HC.out _ _ rfl).mono ?_
      rintro e w1 ⟨rfl, hb1⟩
      have HB1 : Hid (Below w.heap.size w.drew w1) := hb1
      clear hb1
      go_wp2_with fail
      rw [← HQ.out]
      exact ⟨fun h => absurd h HNO.out, fun _ => rfl, (below_drewN 1 w _).trans HB1.out⟩
    · have hs := bsz_le (show m ≤ 2046 by omega)
      have HMB : Hid (m ≤ 2046) := by show _ ≤ _; omega
      have z1 : ¬ ((bsz m : Nat) : Int) = 0 := by omega
      have z2 : (64 : Int) ≤ ((bsz m : Nat) : Int) := by omega
      have c2 : ¬ c = 2 := by omega
      have e2 : 2 + m ≤ n := by omega
      have e3 : (2 : Int) + (m : Int) ≤ (n : Int) := by omega
      have e4 : (2 : Int) ≤ 2 + (m : Int) := by omega
      have HT : Hid (txtL l = (l.drop 2).take m) := by
        show _ = _
        unfold txtL
        rw [HM.out]
      have HE : Hid (((l.drop 2).take m).length = m) := by
        show _ = _
        simp [HN.out]
        omega
      have HST : Hid (∀ w' k cc, k = m → m ≤ cc → Below w.heap.size w w' → Src w' (.slice (some ⟨b, o + 2, none⟩) k cc) ((l.drop 2).take m)) := fun w' k cc hk hcc h => hk ▸ Src.mid (k := 2) (m := m) (HV.out.below h) HN.out e2 hcc
      have HX : Hid (Right l ↔ padL ((l.drop 2).take m) = l) := by
        constructor
        · intro h
          rw [← HT.out]
          exact pad_txt h HSM.out
        · intro h
          exact right_of_pad h (by rw [HE.out]; exact HMB.out)
      have HSP : Hid (∀ x ∈ padL ((l.drop 2).take m), x < 256) := padL_lt (by rw [HE.out]; exact HMB.out) (fun x hx => HSM.out x (List.mem_of_mem_drop (List.mem_of_mem_take hx)))
      have z3 : (((bsz m : Nat) : Int) == 0) = false := by
        rw [beq_eq_false_iff_ne]
        omega
      generalize bsz m = s at *
      go_enter Try.func13, Try.ntmps13
      go_wp2_with fail
      go_region
      try simp only [HOR]
      go_wp2_with fail
      refine (HC.out _ _ rfl).mono ?_
      rintro e w1 ⟨rfl, hb1⟩
      have HB1 : Hid (Below w.heap.size w w1) := (below_drewN 1 w _).trans hb1
      clear hb1 k0' k1'
      have hcb : (convert 22 9 (.slice (some ⟨b, o, none⟩) n c)).run Try.prog w1.drew = .ok (.string (strB l)) w1.drew := conv_src (HV.out.below (HB1.out.trans (below_drewN 1 _ _)))
      have HCP : ∀ k cc, k = m → m ≤ cc → Calls Try.prog 12 #[.slice (some ⟨b, o + 2, none⟩) k cc] w1.drew fun e w' => ∃ q8 c8 s8, e = .returned (.slice q8 s8 c8) ∧ (convert 22 9 (.slice q8 s8 c8)).run Try.prog w' = .ok (.string (strB (padL ((l.drop 2).take m)))) w' ∧ (convert 22 9 (.slice (some ⟨b, o, none⟩) n c)).run Try.prog w' = .ok (.string (strB l)) w' ∧ Hid (Below w.heap.size w w') := fun k cc hk hcc => by
        refine (RPad_any _ k cc w1.drew (HST.out _ k cc hk hcc (HB1.out.trans (below_drewN 1 _ _))) (by rw [HE.out, hk]) (by rw [hk]; exact HMB.out)).mono ?_
        rintro e w' ⟨u, rfl, ho, hb⟩
        have hbb : Below w.heap.size w w' := (HB1.out.trans (below_drewN 1 _ _)).trans (hb.mono HB1.out.size)
        have hsu := Src.own HSP.out ho
        obtain ⟨q8, c8, rfl⟩ := own_slice ho
        exact ⟨q8, c8, _, rfl, conv_src hsu, conv_src (HV.out.below hbb), hbb⟩
      by_cases hr : Right l
      · have he := HX.out.1 hr
        rw [he] at HCP
        have HR : Hid (Right l) := hr
        have hbe : ((strB l).toList == (strB l).toList) = true := beq_self_eq_true _
        clear hr he HSP HX
        generalize strB l = st at *
        go_wp2_with fail
        go_region_with ((first
          | (go_at_call 12; refine (HCP _ _ (by omega) (by omega)).mono ?_; rintro e w8 ⟨q8, c8, s8, rfl, hc8, hc9, HB8⟩)))
        all_goals
          go_wp2_with fail
          rw [← HQ.out]
          exact ⟨fun _ => ⟨_, rfl, by rw [HT.out]; exact HST.out _ _ _ (by omega) (by omega) HB8.out⟩, fun h => absurd HR.out h, HB8.out⟩
      · have hne : ¬ strB (padL ((l.drop 2).take m)) = strB l := fun h => hr (HX.out.2 (strB_inj HSP.out HSM.out h))
        have hbe : ((strB (padL ((l.drop 2).take m))).toList == (strB l).toList) = false := by
          rw [Bool.eq_false_iff]
          intro h
          apply hne
          have := eq_of_beq h
          exact strB_inj' this
        have HR : Hid (¬ Right l) := hr
        clear hr HSP HX
        generalize strB l = st at *
        generalize strB (padL ((l.drop 2).take m)) = su at *
        go_wp2_with fail
        go_region_with ((first
          | (go_at_call 12; refine (HCP _ _ (by omega) (by omega)).mono ?_; rintro e w8 ⟨q8, c8, s8, rfl, hc8, hc9, HB8⟩)))
        all_goals
          go_wp2_with fail
          rw [← HQ.out]
          exact ⟨fun h => absurd h HR.out, fun _ => rfl, HB8.out⟩
theorem strip_no {l : List Nat} (v : Value) (w : World) (hv : Src w v l) (hl : l.length ≤ 50000) (hr : ¬ Right l) : Calls Try.prog 11 #[v] w fun e w' => e = .returned (.tuple #[.slice none 0 0, .int .i64 10]) ∧ Below w.heap.size w w' := by
  by_cases h : l.length < 2
  · exact Strip_short v w hv h
  · exact Strip_bad v w hv (by omega) hl hr
theorem rstrip_no {l : List Nat} (v : Value) (w : World) (hv : Src w v l) (hl : l.length ≤ 50000) (hr : ¬ Right l) : Calls Try.prog 13 #[v] w fun e w' => e = .returned (.tuple #[.slice none 0 0, .bool false]) ∧ Below w.heap.size w w' := by
  by_cases h : l.length < 64
  · exact RStrip_short v w hv h
  · exact (RStrip_any v w hv (by omega) hl).mono fun e w' h => ⟨h.2.1 hr, h.2.2⟩
theorem rstrip_yes {l : List Nat} (v : Value) (w : World) (hv : Src w v l) (hr : Right l) : Calls Try.prog 13 #[v] w fun e w' => ∃ u, e = .returned (.tuple #[u, .bool true]) ∧ Src w' u (txtL l) ∧ Below w.heap.size w w' := by
  have := right_cnt hr
  refine (RStrip_any v w hv (by omega) (by omega)).mono fun e w' h => ?_
  obtain ⟨u, he, hs⟩ := h.1 hr
  exact ⟨u, he, hs, h.2.2⟩
end Go.Proofs.Ytedbfhbmpeogdaa.C8
