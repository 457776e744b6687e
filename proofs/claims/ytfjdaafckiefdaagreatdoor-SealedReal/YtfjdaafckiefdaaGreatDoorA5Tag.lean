/- The contracts of tagged and tagOf. -/
import Derived.Test.YtfjdaafckiefdaaGreatDoorA5Fill
import Derived.Test.YtfjdaafckiefdaaGreatDoorP4Own
namespace Go.Proofs.YtfjdaafckiefdaaGreatDoor.A5
open Go.RowKit P4
theorem lack_add (n m : Nat) : Ae.lack (n + Ae.lack n + m) = Ae.lack m := by unfold Ae.lack; omega
set_option maxHeartbeats 1000000 in
theorem tagged_any (lo ls : List Nat) (o s : Value) (w : World) (ho : Src w o lo) (hs : Src w s ls) (hol : lo.length ≤ 40000) (hsl : ls.length ≤ 40000) :
    Calls Tryz.prog 136 #[o, s] w fun e w' => ∃ v, e = .returned v ∧ w'.ownsRow w.heap.size 5 1 v (Ae.tagged lo ls).length (ints .u8 (Ae.tagged lo ls)) ∧ Below w.heap.size w w' := by
  have HO : Hid (Src w o lo) := ho
  have HS : Hid (Src w s ls) := hs
  have HLO : Hid (lo.length ≤ 40000) := hol
  have HLS : Hid (ls.length ≤ 40000) := hsl
  have HK1 : Hid (Ae.lack lo.length < 16) := Ae.lack_le _
  have HK2 : Hid (Ae.lack ls.length < 16) := Ae.lack_le _
  have HTL : Hid ((Ae.tagged lo ls).length = lo.length + Ae.lack lo.length + ls.length + Ae.lack ls.length + 8 + 8) := by
    show _ = _
    rw [Ae.tagged_length]; omega
  have HTE : Hid (Ae.tagged lo ls = ((((lo ++ List.replicate (Ae.lack lo.length) 0) ++ ls) ++ List.replicate (Ae.lack ls.length) 0) ++ Ae.eight lo.length) ++ Ae.eight ls.length) := by
    show _ = _
    simp [Ae.tagged, Ae.fill]
  obtain ⟨TG, hTG⟩ : ∃ TG, Ae.tagged lo ls = TG := ⟨_, rfl⟩
  rw [hTG] at HTL HTE ⊢
  clear ho hs hol hsl hTG
  obtain ⟨po, co, rfl⟩ := HO.out.slice
  obtain ⟨ps, cs, rfl⟩ := HS.out.slice
  obtain ⟨no, hno⟩ : ∃ n, lo.length = n := ⟨_, rfl⟩
  obtain ⟨ns, hns⟩ : ∃ n, ls.length = n := ⟨_, rfl⟩
  rw [hno] at HO HLO HK1 HTL HTE ⊢
  rw [hns] at HS HLS HK2 HTL HTE ⊢
  have HNO : Hid (lo.length = no) := hno
  have HNS : Hid (ls.length = ns) := hns
  clear hno hns
  have n1 : (no : Int) ≤ 40000 := by have := HLO.out; omega
  have n2 : (ns : Int) ≤ 40000 := by have := HLS.out; omega
  go_enter Tryz.func136, Tryz.ntmps136
  go_wp2_with (first | with_reducible (refine stop_builtin .append ?_))
  refine Stop.go ?_
  refine law_append_src w.heap.size (.slice none 0 0) 0 [] (.slice po no co) lo rfl rfl (own_none _ _ _ _) HO.out (by have := HLO.out; have := HNO.out; omega) (Nat.le_refl _) ?_
  intro v1 w1 hown1 hb1
  rw [HNO.out, List.nil_append, Nat.zero_add] at hown1
  have HO1 : Hid (w1.ownsRow w.heap.size 5 1 v1 no (ints .u8 lo)) := hown1
  have HB1 : Hid (Below w.heap.size w w1) := hb1
  clear hown1 hb1
  go_wp2_with (first | with_reducible (refine stop_builtin .append ?_))
  refine (fillUp_any lo v1 no w.heap.size w1 HO1.out (by have := HLO.out; omega) HB1.out.size).mono ?_
  rintro e w2 ⟨v2, rfl, hown2, hb2⟩
  have HO2 : Hid (w2.ownsRow w.heap.size 5 1 v2 (no + Ae.lack no) (ints .u8 (lo ++ List.replicate (Ae.lack no) 0))) := hown2
  have HB2 : Hid (Below w.heap.size w w2) := HB1.out.trans hb2
  clear hown2 hb2 HO1 HB1
  go_wp2_with (first | with_reducible (refine stop_builtin .append ?_))
  refine Stop.go ?_
  refine law_append_src w.heap.size v2 (no + Ae.lack no) (lo ++ List.replicate (Ae.lack no) 0) (.slice ps ns cs) ls rfl rfl HO2.out (HS.out.below HB2.out) (by have := HLO.out; have := HLS.out; have := HK1.out; rw [HNS.out]; omega) HB2.out.size ?_
  intro v3 w3 hown3 hb3
  rw [HNS.out] at hown3
  have HO3 : Hid (w3.ownsRow w.heap.size 5 1 v3 (no + Ae.lack no + ns) (ints .u8 (lo ++ List.replicate (Ae.lack no) 0 ++ ls))) := hown3
  have HB3 : Hid (Below w.heap.size w w3) := HB2.out.trans hb3
  clear hown3 hb3 HO2 HB2
  go_wp2_with (first | with_reducible (refine stop_builtin .append ?_))
  refine (fillUp_any _ v3 _ w.heap.size w3 HO3.out (by have := HLO.out; have := HLS.out; have := HK1.out; omega) HB3.out.size).mono ?_
  rintro e w4 ⟨v4, rfl, hown4, hb4⟩
  rw [lack_add] at hown4
  have HO4 : Hid (w4.ownsRow w.heap.size 5 1 v4 (no + Ae.lack no + ns + Ae.lack ns) (ints .u8 (lo ++ List.replicate (Ae.lack no) 0 ++ ls ++ List.replicate (Ae.lack ns) 0))) := hown4
  have HB4 : Hid (Below w.heap.size w w4) := HB3.out.trans hb4
  clear hown4 hb4 HO3 HB3
  go_wp2_with fail
  refine (count_any _ v4 _ w.heap.size no w4 HO4.out (by have := HLO.out; have := HLS.out; have := HK1.out; have := HK2.out; omega) HB4.out.size (by omega)).mono ?_
  rintro e w5 ⟨v5, rfl, hown5, hb5⟩
  have HO5 : Hid (w5.ownsRow w.heap.size 5 1 v5 (no + Ae.lack no + ns + Ae.lack ns + 8) (ints .u8 (lo ++ List.replicate (Ae.lack no) 0 ++ ls ++ List.replicate (Ae.lack ns) 0 ++ Ae.eight no))) := hown5
  have HB5 : Hid (Below w.heap.size w w5) := HB4.out.trans hb5
  clear hown5 hb5 HO4 HB4
  go_wp2_with fail
  refine (count_any _ v5 _ w.heap.size ns w5 HO5.out (by have := HLO.out; have := HLS.out; have := HK1.out; have := HK2.out; omega) HB5.out.size (by omega)).mono ?_
  rintro e w6 ⟨v6, rfl, hown6, hb6⟩
  have HO6 : Hid (w6.ownsRow w.heap.size 5 1 v6 TG.length (ints .u8 TG)) := by
    rw [HTL.out, HTE.out]
    exact hown6
  have HB6 : Hid (Below w.heap.size w w6) := HB5.out.trans hb6
  clear hown6 hb6 HO5 HB5
  go_wp2_with fail
  go_ret
  exact ⟨_, rfl, HO6.out, HB6.out⟩
set_option maxHeartbeats 1000000 in
theorem tagOf_any (key lo ls : List Nat) (bk ok ck : Nat) (o s : Value) (w : World) (hk : key.length = 32) (hkb : ∀ x ∈ key, x < 256) (hkr : w.rangeAt bk ok (ints .u8 key)) (hck : 32 ≤ ck) (ho : Src w o lo) (hs : Src w s ls) (hol : lo.length ≤ 40000) (hsl : ls.length ≤ 40000) :
    Calls Tryz.prog 117 #[.slice (some ⟨bk, ok, none⟩) 32 ck, o, s] w fun e w' => ∃ v, e = .returned v ∧ w'.ownsRow w.heap.size 5 1 v 16 (ints .u8 (Po.tag key (Ae.tagged lo ls))) ∧ Below w.heap.size w w' := by
  have HX : Hid (Calls Tryz.prog 136 #[o, s] w fun e w' => ∃ v, e = .returned v ∧ w'.ownsRow w.heap.size 5 1 v (Ae.tagged lo ls).length (ints .u8 (Ae.tagged lo ls)) ∧ Below w.heap.size w w') := tagged_any lo ls o s w ho hs hol hsl
  have HTB : Hid (∀ x ∈ Ae.tagged lo ls, x < 256) := Ae.tagged_lt ho.1 hs.1
  have HTL : Hid ((Ae.tagged lo ls).length ≤ 90000) := by
    show _ ≤ _
    rw [Ae.tagged_length]
    have := Ae.lack_le lo.length
    have := Ae.lack_le ls.length
    omega
  obtain ⟨po, co, rfl⟩ := ho.slice
  obtain ⟨ps, cs, rfl⟩ := hs.slice
  generalize Ae.tagged lo ls = TG at *
  have HKL : Hid (key.length = 32) := hk
  have HKB : Hid (∀ x ∈ key, x < 256) := hkb
  have HKR : Hid (w.rangeAt bk ok (ints .u8 key)) := hkr
  clear hk hkb hkr ho hs hol hsl
  obtain ⟨T, hT⟩ : ∃ T, Po.tag key TG = T := ⟨_, rfl⟩
  have HT : Hid (Po.tag key TG = T) := hT
  rw [hT]
  clear hT
  go_enter Tryz.func117, Tryz.ntmps117
  go_wp2_with fail
  refine HX.out.mono ?_
  rintro e w1 ⟨v1, rfl, hown1, hb1⟩
  have HSV : Hid (Src w1 v1 TG) := Src.own HTB.out hown1
  obtain ⟨p1, c1, rfl⟩ := HSV.out.slice
  have HB1 : Hid (Below w.heap.size w w1) := hb1
  clear hown1 hb1 HX
  go_wp2_with fail
  obtain ⟨_, hc1, ht1⟩ := HSV.out.text
  refine (tag_ok key TG bk ok ck TG.length c1 p1 w1 HKL.out HKB.out (rangeAt_below HB1.out HKR.out) hck ht1 rfl (by have := HTL.out; omega) hc1).mono ?_
  rintro e w2 ⟨v2, rfl, hown2, hb2⟩
  rw [HT.out] at hown2
  have HO2 : Hid (w2.ownsRow w.heap.size 5 1 v2 16 (ints .u8 T)) := own_base hown2 HB1.out.size
  have HB2 : Hid (Below w.heap.size w w2) := HB1.out.trans (hb2.mono HB1.out.size)
  clear hown2 hb2 HB1 ht1 hc1
  go_wp2_with fail
  go_ret
  exact ⟨_, rfl, HO2.out, HB2.out⟩
end Go.Proofs.YtfjdaafckiefdaaGreatDoor.A5
