/- The contract of Strip. -/
import Derived.Test.YtedbfhbmpeogdaaB13Leaf
namespace Go.Proofs.Ytedbfhbmpeogdaa.C8
open Go.RowKit
theorem i64_or_nat (a b : Nat) (ha : a < 9223372036854775808) (hb : b < 9223372036854775808) : bits .or .i64 (a : Int) (b : Int) = ((a ||| b : Nat) : Int) := by
  have hx : a ||| b < 2 ^ 63 := Nat.or_lt_two_pow (by omega) (by omega)
  show IntKind.i64.wrap ((BitVec.ofInt 64 (a : Int) ||| BitVec.ofInt 64 (b : Int)).toNat : Int) = _
  rw [BitVec.toNat_or, ofInt_u64 a (by omega), ofInt_u64 b (by omega)]
  exact i64_id _ (by omega)
theorem or_cnt {y0 y1 : Nat} (h0 : y0 < 256) (h1 : y1 < 256) : bits .or .i64 ((y0 : Int) * 256) (y1 : Int) = ((y0 * 256 + y1 : Nat) : Int) := by
  have h := i64_or_nat (y0 * 256) y1 (by omega) (by omega)
  have e : ((y0 * 256 : Nat) : Int) = (y0 : Int) * 256 := by omega
  rw [e] at h
  rw [h, Nat.mul_comm y0 256]
  have := Nat.two_pow_add_eq_or_of_lt (i := 8) (b := y1) (by omega) y0
  rw [show (256 : Nat) = 2 ^ 8 from rfl, ← this]
section
variable {w w' : World} {b o n c : Nat} {l : List Nat}
theorem Src.tail {k : Nat} (h : Src w (.slice (some ⟨b, o, none⟩) n c) l) (hl : l.length = n) (hk : k ≤ n) : Src w (.slice (some ⟨b, o + k, none⟩) (n - k) (c - k)) (l.drop k) := by
  subst hl
  refine ⟨fun x hx => h.1 x (List.mem_of_mem_drop hx), ?_⟩
  obtain ⟨_, ⟨e, _⟩ | ⟨ad, c', e, rfl⟩ | ⟨b', o', c', e, hc, hr⟩⟩ := h
  · cases e
  · exact .inr (.inl ⟨⟨b, o + k, none⟩, c - k, by simp, by simp⟩)
  · cases e
    refine .inr (.inr ⟨b, o + k, c - k, by simp, by simp; omega, fun j v hv => ?_⟩)
    have hv2 : (ints .u8 l)[k + j]? = some v := by
      rw [← hv]
      simp [ints]
    have := hr _ _ hv2
    rw [← Nat.add_assoc] at this
    exact this
theorem Src.nothing {k : Nat} (h : ∀ x ∈ l, x < 256) (hl : l.length = n) (hk : n = k) (ad : Addr) (cc : Nat) : Src w (.slice (some ad) 0 cc) (l.drop k) :=
  ⟨fun x hx => h x (List.mem_of_mem_drop hx), .inr (.inl ⟨ad, cc, rfl, List.drop_eq_nil_of_le (by omega)⟩)⟩
theorem Src.mid {k m cc : Nat} (h : Src w (.slice (some ⟨b, o, none⟩) n c) l) (hl : l.length = n) (hk : k + m ≤ n) (hcc : m ≤ cc) : Src w (.slice (some ⟨b, o + k, none⟩) m cc) ((l.drop k).take m) := by
  have ht := h.tail hl (show k ≤ n by omega)
  have e1 : ((l.drop k).take m).length = m := by simp; omega
  refine ⟨fun x hx => ht.1 x (List.mem_of_mem_take hx), ?_⟩
  obtain ⟨_, ⟨e, _⟩ | ⟨ad, c', e, e2⟩ | ⟨b', o', c', e, hc, hr⟩⟩ := ht
  · cases e
  · have : m = 0 := by rw [← e1, e2]; simp
    exact .inr (.inl ⟨⟨b, o + k, none⟩, cc, by rw [this], by rw [e2]; simp⟩)
  · simp at e
    obtain ⟨⟨rfl, rfl⟩, -, rfl⟩ := e
    refine .inr (.inr ⟨b, o + k, cc, by rw [e1], by rw [e1]; exact hcc, fun j v hv => hr j v ?_⟩)
    rw [← hv]
    have hj : j < m := by
      have := (List.getElem?_eq_some_iff.1 hv).1
      rw [ints_length, e1] at this
      exact this
    simp [ints, hj]
end
theorem Strip_short {l : List Nat} (v : Value) (w : World) (hv : Src w v l) (hl : l.length < 2) : Calls Try.prog 11 #[v] w fun e w' => e = .returned (.tuple #[.slice none 0 0, .int .i64 10]) ∧ Below w.heap.size w w' := by
  obtain ⟨p, c, rfl, -⟩ := hv.slice
  generalize l.length = n at *
  have n1 : (n : Int) < 2 := by omega
  clear hv hl
  go_enter Try.func11, Try.ntmps11
  go_wp2_with fail
  go_ret2
  exact ⟨rfl, Below.refl _ _⟩
set_option maxHeartbeats 1000000 in
theorem Strip_bad {l : List Nat} (v : Value) (w : World) (hv : Src w v l) (h2 : 2 ≤ l.length) (hl : l.length ≤ 50000) (hr : ¬ Right l) : Calls Try.prog 11 #[v] w fun e w' => e = .returned (.tuple #[.slice none 0 0, .int .i64 10]) ∧ Below w.heap.size w w' := by
  obtain ⟨b, o, c, rfl, k0⟩ := hv.get 0 (by omega)
  obtain ⟨b', o', c', e', k1⟩ := hv.get 1 (by omega)
  cases e'
  have hcap := hv.slice
  have x0 := Sp.nth_lt (by decide) hv.small 0
  have x1 := Sp.nth_lt (by decide) hv.small 1
  obtain ⟨m, HM⟩ : ∃ m, Hid (cnt l = m) := ⟨_, rfl⟩
  have HOR : bits .or .i64 ((Sp.nth l 0 : Int) * 256) (Sp.nth l 1 : Int) = (m : Int) := by
    rw [or_cnt x0 x1, ← HM.out]
    rfl
  generalize Sp.nth l 0 = y0 at *
  generalize Sp.nth l 1 = y1 at *
  obtain ⟨n, HN⟩ : ∃ n, Hid (l.length = n) := ⟨_, rfl⟩
  have HV : Hid (Src w (.slice (some ⟨b, o, none⟩) n c) l) := HN.out ▸ hv
  obtain ⟨cn1, HCN⟩ : ∃ k, Hid (k = c ∧ n ≤ c) := by
    obtain ⟨p, c', e, hle⟩ := hcap
    cases e
    exact ⟨c, rfl, by rw [← HN.out]; exact hle⟩
  rw [HN.out] at h2 hl ⊢
  have n2 : (2 : Int) ≤ (n : Int) := by omega
  have n3 : (n : Int) ≤ 50000 := by omega
  have n4 : (1 : Int) < (n : Int) := by omega
  have n5 : (0 : Int) < (n : Int) := by omega
  have n6 : 1 < n := by omega
  have n7 : 0 < n := by omega
  have n8 : ¬ (n : Int) < 2 := by omega
  rw [Nat.add_zero] at k0
  have k0' : w.drew.cell? ⟨b, o, none⟩ = some (.int .u8 (y0 : Int)) := k0
  have k1' : w.drew.cell? ⟨b, o + 1, none⟩ = some (.int .u8 (y1 : Int)) := k1
  have m0 : (0 : Int) ≤ (m : Int) := by omega
  have nc : n ≤ c := HCN.out.2
  have HR : Hid (bsz m = n → allN (l.drop (2 + m)) = false) := fun h => by
    rw [Bool.eq_false_iff, Ne, allN_iff]
    intro h3
    exact hr ⟨by rw [HN.out]; omega, by rw [HM.out, HN.out, h], by unfold tailL; rw [HM.out]; exact h3⟩
  clear hv hr h2 hcap HCN
  by_cases hm : m ≤ 2046
  · have hb := bsz_le hm
    have HC : Hid (∀ (n' : Int) (W : World), n' = (m : Int) → Calls Try.prog 14 #[.int .i64 n'] W fun e w' => e = .returned (.tuple #[.int .i64 (bsz m : Nat), .int .i64 0]) ∧ w' = W) := fun n' W e => e ▸ Size_ok m W hm
    generalize bsz m = s at *
    have m1 : (m : Int) ≤ 2046 := by omega
    by_cases hs : s = n
    · subst hs
      have HA : Hid (allN (l.drop (2 + m)) = false) := HR.out rfl
      have e2 : 2 + m ≤ s := by omega
      have e3 : (2 : Int) + (m : Int) ≤ (s : Int) := by omega
      have HK : Hid (∀ (ad : Addr) (k cc : Nat), (k = 0 ∧ s = 2 + m) ∨ (ad = ⟨b, o + (2 + m), none⟩ ∧ k = s - (2 + m) ∧ cc = c - (2 + m)) → Calls Try.prog 16 #[.slice (some ad) k cc] w.drew fun e w' => e = .returned (.bool false) ∧ w' = w.drew) := fun ad k cc h => by
        have hsr : Src w.drew (.slice (some ad) k cc) (l.drop (2 + m)) := by
          rcases h with ⟨rfl, h⟩ | ⟨rfl, rfl, rfl⟩
          · exact Src.nothing HV.out.small HN.out h ad cc
          · exact Src.tail (HV.out.below (below_drewN 1 _ _)) HN.out e2
        have := noughts_any _ w.drew hsr (by simp [HN.out]; omega)
        rwa [HA.out] at this
      clear HR HA k0 k1
      by_cases hc : c = 2 + m
      · go_enter Try.func11, Try.ntmps11
        go_wp2_with fail
        go_region
        try simp only [HOR]
        go_wp2_with fail
        refine (HC.out _ _ rfl).mono ?_
        rintro e w0 ⟨rfl, hw0⟩
        rw [hw0]
        clear hw0 w0
        go_wp2_with fail
        refine (HK.out _ _ _ (.inl ⟨by omega, by omega⟩)).mono ?_
        rintro e w0 ⟨rfl, hw0⟩
        rw [hw0]
        clear hw0 w0
        go_wp2_with fail
        go_ret2
        exact ⟨rfl, below_drewN 1 _ _⟩
      · go_enter Try.func11, Try.ntmps11
        go_wp2_with fail
        go_region
        try simp only [HOR]
        go_wp2_with fail
        refine (HC.out _ _ rfl).mono ?_
        rintro e w0 ⟨rfl, hw0⟩
        rw [hw0]
        clear hw0 w0
        go_wp2_with fail
        refine (HK.out _ _ _ (.inr ⟨rfl, rfl, rfl⟩)).mono ?_
        rintro e w0 ⟨rfl, hw0⟩
        rw [hw0]
        clear hw0 w0
        go_wp2_with fail
        go_ret2
        exact ⟨rfl, below_drewN 1 _ _⟩
    · have hs2 : ¬ (s : Int) = (n : Int) := by omega
      clear HR k0 k1
      go_enter Try.func11, Try.ntmps11
      go_wp2_with fail
      go_region
      try simp only [HOR]
      go_wp2_with fail
      refine (HC.out _ _ rfl).mono ?_
      rintro e w0 ⟨rfl, hw0⟩
      rw [hw0]
      clear hw0 w0
      go_wp2_with fail
      go_ret2
      exact ⟨rfl, below_drewN 1 _ _⟩
  · have HC : Hid (∀ (n' : Int) (W : World), n' = (m : Int) → Calls Try.prog 14 #[.int .i64 n'] W fun e w' => e = .returned (.tuple #[.int .i64 0, .int .i64 11]) ∧ w' = W) := fun n' W e => Size_bad n' W (.inr (by omega))
    have m1 : 2046 < (m : Int) := by omega
    clear HR k0 k1
    go_enter Try.func11, Try.ntmps11
    go_wp2_with fail
    go_region
    try simp only [HOR]
    go_wp2_with fail
    refine (HC.out _ _ rfl).mono ?_
    rintro e w0 ⟨rfl, hw0⟩
    rw [hw0]
    clear hw0 w0
    go_wp2_with fail
    go_ret2
    exact ⟨rfl, below_drewN 1 _ _⟩
set_option maxHeartbeats 1000000 in
theorem Strip_ok {l : List Nat} (v : Value) (w : World) (hv : Src w v l) (hr : Right l) : Calls Try.prog 11 #[v] w fun e w' => ∃ u, e = .returned (.tuple #[u, .int .i64 0]) ∧ w'.ownsRow w.heap.size 5 1 u (cnt l) (ints .u8 (txtL l)) ∧ Below w.heap.size w w' := by
  obtain ⟨q1, q2, q3, q4⟩ := right_cnt hr
  have h2 : 2 ≤ l.length := by omega
  have hl : l.length ≤ 50000 := by omega
  obtain ⟨b, o, c, rfl, k0⟩ := hv.get 0 (by omega)
  obtain ⟨b', o', c', e', k1⟩ := hv.get 1 (by omega)
  cases e'
  have hcap := hv.slice
  have x0 := Sp.nth_lt (by decide) hv.small 0
  have x1 := Sp.nth_lt (by decide) hv.small 1
  obtain ⟨m, HM⟩ : ∃ m, Hid (cnt l = m) := ⟨_, rfl⟩
  have HOR : bits .or .i64 ((Sp.nth l 0 : Int) * 256) (Sp.nth l 1 : Int) = (m : Int) := by
    rw [or_cnt x0 x1, ← HM.out]
    rfl
  generalize Sp.nth l 0 = y0 at *
  generalize Sp.nth l 1 = y1 at *
  obtain ⟨n, HN⟩ : ∃ n, Hid (l.length = n) := ⟨_, rfl⟩
  have HV : Hid (Src w (.slice (some ⟨b, o, none⟩) n c) l) := HN.out ▸ hv
  obtain ⟨cn1, HCN⟩ : ∃ k, Hid (k = c ∧ n ≤ c) := by
    obtain ⟨p, c', e, hle⟩ := hcap
    cases e
    exact ⟨c, rfl, by rw [← HN.out]; exact hle⟩
  rw [HN.out] at h2 hl ⊢
  have n2 : (2 : Int) ≤ (n : Int) := by omega
  have n3 : (n : Int) ≤ 50000 := by omega
  have n4 : (1 : Int) < (n : Int) := by omega
  have n5 : (0 : Int) < (n : Int) := by omega
  have n6 : 1 < n := by omega
  have n7 : 0 < n := by omega
  have n8 : ¬ (n : Int) < 2 := by omega
  rw [Nat.add_zero] at k0
  have k0' : w.drew.cell? ⟨b, o, none⟩ = some (.int .u8 (y0 : Int)) := k0
  have k1' : w.drew.cell? ⟨b, o + 1, none⟩ = some (.int .u8 (y1 : Int)) := k1
  have m0 : (0 : Int) ≤ (m : Int) := by omega
  have nc : n ≤ c := HCN.out.2
  have HA : Hid (allN (l.drop (2 + m)) = true) := by
    show _ = _
    rw [allN_iff]
    have := hr.2.2
    unfold tailL at this
    rw [HM.out] at this
    exact this
  have HT : Hid (txtL l = (l.drop 2).take m) := by
    show _ = _
    unfold txtL
    rw [HM.out]
  have hs : bsz m = n := by rw [← HM.out, ← HN.out]; exact hr.2.1
  rw [HM.out] at q1 q2 ⊢
  rw [HT.out]
  rw [HN.out] at q2 q3 q4
  have HC : Hid (∀ (n' : Int) (W : World), n' = (m : Int) → Calls Try.prog 14 #[.int .i64 n'] W fun e w' => e = .returned (.tuple #[.int .i64 (n : Int), .int .i64 0]) ∧ w' = W) := fun n' W e => by
    have := Size_ok m W q1
    rw [hs] at this
    exact e ▸ this
  clear hv hr h2 hcap HCN hs
  have m1 : (m : Int) ≤ 2046 := by omega
  have e2 : 2 + m ≤ n := by omega
  have e3 : (2 : Int) + (m : Int) ≤ (n : Int) := by omega
  have c2 : ¬ c = 2 := by omega
  have e4 : (2 : Int) ≤ 2 + (m : Int) := by omega
  have HK : Hid (∀ (ad : Addr) (k cc : Nat), (k = 0 ∧ n = 2 + m) ∨ (ad = ⟨b, o + (2 + m), none⟩ ∧ k = n - (2 + m) ∧ cc = c - (2 + m)) → Calls Try.prog 16 #[.slice (some ad) k cc] w.drew fun e w' => e = .returned (.bool true) ∧ w' = w.drew) := fun ad k cc h => by
    have hsr : Src w.drew (.slice (some ad) k cc) (l.drop (2 + m)) := by
      rcases h with ⟨rfl, h⟩ | ⟨rfl, rfl, rfl⟩
      · exact Src.nothing HV.out.small HN.out h ad cc
      · exact Src.tail (HV.out.below (below_drewN 1 _ _)) HN.out e2
    have := noughts_any _ w.drew hsr (by simp [HN.out]; omega)
    rwa [HA.out] at this
  have HE : Hid (((l.drop 2).take m).length = m) := by
    show _ = _
    simp [HN.out]
    omega
  have HCl : Hid (∀ k cc, k = m → m ≤ cc → Calls Try.prog 17 #[.slice (some ⟨b, o + 2, none⟩) k cc] w.drew fun e w' => ∃ u, e = .returned u ∧ w'.ownsRow w.heap.size 5 1 u m (ints .u8 ((l.drop 2).take m)) ∧ Below w.heap.size w.drew w') := fun k cc hk hcc => by
    rw [hk]
    have := clone_any _ w.drew (Src.mid (k := 2) (m := m) (HV.out.below (below_drewN 1 _ _)) HN.out e2 hcc) (by rw [HE.out]; omega)
    rw [HE.out] at this
    exact this
  clear k0 k1 HA
  by_cases hc : c = 2 + m
  · go_enter Try.func11, Try.ntmps11
    go_wp2_with fail
    go_region
    try simp only [HOR]
    go_wp2_with fail
    refine (HC.out _ _ rfl).mono ?_
    rintro e w0 ⟨rfl, hw0⟩
    rw [hw0]
    clear hw0 w0
    go_wp2_with fail
    refine (HK.out _ _ _ (.inl ⟨by omega, by omega⟩)).mono ?_
    rintro e w0 ⟨rfl, hw0⟩
    rw [hw0]
    clear hw0 w0
    go_wp2_with fail
    refine (HCl.out _ _ (by omega) (by omega)).mono ?_
    rintro e w5 ⟨u, rfl, ho5, hb5⟩
    have HO5 : Hid (w5.ownsRow w.heap.size 5 1 u m (ints .u8 ((l.drop 2).take m))) := ho5
    have HB5 : Hid (Below w.heap.size w.drew w5) := hb5
    clear ho5 hb5
    go_wp2_with fail
    go_ret2
    exact ⟨_, rfl, HO5.out, (below_drewN 1 w _).trans HB5.out⟩
  · go_enter Try.func11, Try.ntmps11
    go_wp2_with fail
    go_region
    try simp only [HOR]
    go_wp2_with fail
    refine (HC.out _ _ rfl).mono ?_
    rintro e w0 ⟨rfl, hw0⟩
    rw [hw0]
    clear hw0 w0
    go_wp2_with fail
    refine (HK.out _ _ _ (.inr ⟨rfl, rfl, rfl⟩)).mono ?_
    rintro e w0 ⟨rfl, hw0⟩
    rw [hw0]
    clear hw0 w0
    go_wp2_with fail
    refine (HCl.out _ _ (by omega) (by omega)).mono ?_
    rintro e w5 ⟨u, rfl, ho5, hb5⟩
    have HO5 : Hid (w5.ownsRow w.heap.size 5 1 u m (ints .u8 ((l.drop 2).take m))) := ho5
    have HB5 : Hid (Below w.heap.size w.drew w5) := hb5
    clear ho5 hb5
    go_wp2_with fail
    go_ret2
    exact ⟨_, rfl, HO5.out, (below_drewN 1 w _).trans HB5.out⟩
end Go.Proofs.Ytedbfhbmpeogdaa.C8
