/- The document's answer: Tag and Seal. -/
import Derived.Test.YtnceiccciaihoaaA5RFill
import Derived.Test.YtnceiccciaihoaaC3Ref
import Derived.Test.YtnceiccciaihoaaP4Ref
namespace Go.Proofs.Ytnceiccciaihoaa.A5
open Go.RowKit P4
set_option maxHeartbeats 1000000 in
theorem rTag_any (key nonce lo ls : List Nat) (bk ok ck bn on cn : Nat) (o s : Value) (w : World) (hk : key.length = 32) (hn : nonce.length = 12) (hK : C3.SliceIs w bk ok key) (hN : C3.SliceIs w bn on nonce) (ho : Src w o lo) (hs : Src w s ls) (hol : lo.length ≤ 200) (hsl : ls.length ≤ 200) :
    Calls Try.prog 20 #[.slice (some ⟨bk, ok, none⟩) 32 ck, .slice (some ⟨bn, on, none⟩) 12 cn, o, s] w fun e w' => ∃ v, e = .returned v ∧ w'.ownsRow w.heap.size 5 1 v 16 (ints .u8 (Ae.tagOf key nonce lo ls)) ∧ Below w.heap.size w w' := by
  have HX : Hid (Calls Try.prog 34 #[.slice (some ⟨bk, ok, none⟩) 32 ck, .int .i64 0, .slice (some ⟨bn, on, none⟩) 12 cn] w fun e w' => ∃ g cp, e = .returned (.slice (some ⟨g, 0, none⟩) 64 cp) ∧ w.heap.size ≤ g ∧ 64 ≤ cp ∧ w'.rangeAt g 0 (ints .u8 (Ae.once key nonce)) ∧ Below w.heap.size w w') := by
    refine (C3.rblock_any key nonce bk ok ck bn on cn 0 w hk hn hK hN (by decide)).mono ?_
    rintro e w1 ⟨g, cp, rfl, hg, hcp, hr, hb⟩
    exact ⟨g, cp, rfl, hg, hcp, range_take hr 32, hb⟩
  have HOL : Hid ((Ae.once key nonce).length = 32) := Ae.once_length _ _
  have HOB : Hid (∀ y ∈ Ae.once key nonce, y < 256) := Ae.once_lt _ _
  have HO : Hid (Src w o lo) := ho
  have HS : Hid (Src w s ls) := hs
  have HK1 : Hid (Ae.lack lo.length < 16) := Ae.lack_le _
  have HK2 : Hid (Ae.lack ls.length < 16) := Ae.lack_le _
  have HTL : Hid ((Ae.tagged lo ls).length = lo.length + Ae.lack lo.length + (ls.length + Ae.lack ls.length) + 8 + 8) := by
    show _ = _
    rw [Ae.tagged_length]
  have HTE : Hid (Ae.tagged lo ls = ((Ae.fill lo ++ Ae.fill ls) ++ Ae.eight lo.length) ++ Ae.eight ls.length) := rfl
  have HTB : Hid (∀ x ∈ Ae.tagged lo ls, x < 256) := Ae.tagged_lt ho.1 hs.1
  have HFB : Hid (∀ x ∈ Ae.fill ls, x < 256) := Ae.fill_lt hs.1
  have HFL : Hid ((Ae.fill ls).length = ls.length + Ae.lack ls.length) := Ae.fill_length _
  have HT : Hid (Po.tag (Ae.once key nonce) (Ae.tagged lo ls) = Ae.tagOf key nonce lo ls) := rfl
  obtain ⟨T, hT⟩ : ∃ T, Ae.tagOf key nonce lo ls = T := ⟨_, rfl⟩
  rw [hT] at HT ⊢
  obtain ⟨po, co, rfl⟩ := ho.slice
  obtain ⟨ps, cs, rfl⟩ := hs.slice
  obtain ⟨no, hno⟩ : ∃ n, lo.length = n := ⟨_, rfl⟩
  obtain ⟨ns, hns⟩ : ∃ n, ls.length = n := ⟨_, rfl⟩
  rw [hno] at HO HK1 HTL HTE hol ⊢
  rw [hns] at HS HK2 HTL HTE HFL hsl ⊢
  have HNO : Hid (lo.length = no) := hno
  have HNS : Hid (ls.length = ns) := hns
  generalize Ae.tagged lo ls = TG at *
  generalize Ae.once key nonce = O at *
  clear hk hn hK hN ho hs hT hno hns
  have n1 : (no : Int) ≤ 200 := by omega
  have n2 : (ns : Int) ≤ 200 := by omega
  go_enter Try.func20, Try.ntmps20
  go_wp2_with (first | with_reducible (refine stop_builtin .append ?_))
  refine HX.out.mono ?_
  rintro e w1 ⟨g, cp, rfl, hg, hcp, hr, hb⟩
  have HR1 : Hid (w1.rangeAt g 0 (ints .u8 O)) := hr
  have HB1 : Hid (Below w.heap.size w w1) := hb
  clear hg hr hb HX
  go_wp2_with (first | with_reducible (refine stop_builtin .append ?_))
  refine (rfill_any lo _ w1 (HO.out.below HB1.out) (by rw [HNO.out]; omega)).mono ?_
  rintro e w2 ⟨v2, rfl, hown2, hb2⟩
  rw [HNO.out] at hown2
  have HO2 : Hid (w2.ownsRow w1.heap.size 5 1 v2 (no + Ae.lack no) (ints .u8 (Ae.fill lo))) := hown2
  have HB2 : Hid (Below w1.heap.size w1 w2) := hb2
  clear hown2 hb2
  go_wp2_with (first | with_reducible (refine stop_builtin .append ?_))
  refine (rfill_any ls _ w2 ((HS.out.below HB1.out).below HB2.out) (by rw [HNS.out]; omega)).mono ?_
  rintro e w3 ⟨v3, rfl, hown3, hb3⟩
  rw [HNS.out] at hown3
  have HO3 : Hid (w3.ownsRow w1.heap.size 5 1 v2 (no + Ae.lack no) (ints .u8 (Ae.fill lo))) := own_below HO2.out hb3
  have HS3 : Hid (Src w3 v3 (Ae.fill ls)) := Src.own HFB.out hown3
  have HB3 : Hid (Below w1.heap.size w1 w3) := HB2.out.trans (hb3.mono HB2.out.size)
  clear hown3 hb3 HB2 HO2
  go_wp2_with (first | with_reducible (refine stop_builtin .append ?_))
  refine Stop.go ?_
  refine law_append_src w1.heap.size v2 (no + Ae.lack no) (Ae.fill lo) v3 (Ae.fill ls) rfl rfl HO3.out HS3.out (by have := HK1.out; have := HK2.out; rw [HFL.out]; omega) HB3.out.size ?_
  intro v4 w4 hown4 hb4
  rw [HFL.out] at hown4
  have HO4 : Hid (w4.ownsRow w1.heap.size 5 1 v4 (no + Ae.lack no + (ns + Ae.lack ns)) (ints .u8 (Ae.fill lo ++ Ae.fill ls))) := hown4
  have HB4 : Hid (Below w1.heap.size w1 w4) := HB3.out.trans hb4
  clear hown4 hb4 HB3 HO3 HS3
  go_wp2_with (first | with_reducible (refine stop_builtin .append ?_))
  refine (reight_any no w4 (by omega)).mono ?_
  rintro e w5 ⟨v5, rfl, hown5, hb5⟩
  have HO5 : Hid (w5.ownsRow w1.heap.size 5 1 v4 (no + Ae.lack no + (ns + Ae.lack ns)) (ints .u8 (Ae.fill lo ++ Ae.fill ls))) := own_below HO4.out hb5
  have HS5 : Hid (Src w5 v5 (Ae.eight no)) := Src.own (Ae.eight_lt no) hown5
  have HB5 : Hid (Below w1.heap.size w1 w5) := HB4.out.trans (hb5.mono HB4.out.size)
  clear hown5 hb5 HB4 HO4
  go_wp2_with (first | with_reducible (refine stop_builtin .append ?_))
  refine Stop.go ?_
  refine law_append_src w1.heap.size v4 _ (Ae.fill lo ++ Ae.fill ls) v5 (Ae.eight no) rfl rfl HO5.out HS5.out (by have := HK1.out; have := HK2.out; rw [Ae.eight_length]; omega) HB5.out.size ?_
  intro v6 w6 hown6 hb6
  rw [Ae.eight_length] at hown6
  have HO6 : Hid (w6.ownsRow w1.heap.size 5 1 v6 (no + Ae.lack no + (ns + Ae.lack ns) + 8) (ints .u8 (Ae.fill lo ++ Ae.fill ls ++ Ae.eight no))) := hown6
  have HB6 : Hid (Below w1.heap.size w1 w6) := HB5.out.trans hb6
  clear hown6 hb6 HB5 HO5 HS5
  go_wp2_with (first | with_reducible (refine stop_builtin .append ?_))
  refine (reight_any ns w6 (by omega)).mono ?_
  rintro e w7 ⟨v7, rfl, hown7, hb7⟩
  have HO7 : Hid (w7.ownsRow w1.heap.size 5 1 v6 (no + Ae.lack no + (ns + Ae.lack ns) + 8) (ints .u8 (Ae.fill lo ++ Ae.fill ls ++ Ae.eight no))) := own_below HO6.out hb7
  have HS7 : Hid (Src w7 v7 (Ae.eight ns)) := Src.own (Ae.eight_lt ns) hown7
  have HB7 : Hid (Below w1.heap.size w1 w7) := HB6.out.trans (hb7.mono HB6.out.size)
  clear hown7 hb7 HB6 HO6
  go_wp2_with (first | with_reducible (refine stop_builtin .append ?_))
  refine Stop.go ?_
  refine law_append_src w1.heap.size v6 _ (Ae.fill lo ++ Ae.fill ls ++ Ae.eight no) v7 (Ae.eight ns) rfl rfl HO7.out HS7.out (by have := HK1.out; have := HK2.out; rw [Ae.eight_length]; omega) HB7.out.size ?_
  intro v8 w8 hown8 hb8
  rw [Ae.eight_length, ← HTE.out, ← HTL.out] at hown8
  have HS8 : Hid (Src w8 v8 TG) := Src.own HTB.out hown8
  have HB8 : Hid (Below w1.heap.size w1 w8) := HB7.out.trans hb8
  clear hown8 hb8 HB7 HO7 HS7
  have HR8 : Hid (w8.rangeAt g 0 (ints .u8 O)) := rangeAt_below HB8.out HR1.out
  obtain ⟨p8, c8, rfl⟩ := HS8.out.slice
  obtain ⟨_, hc8, ht8⟩ := HS8.out.text
  have hcp2 : (32 : Int) ≤ (cp : Int) := by omega
  have HT8 : Hid (TG.length ≤ c8) := hc8
  have HT9 : Hid (TextIs w8 p8 TG) := ht8
  have HTN : Hid (TG.length ≤ 600) := by
    show _ ≤ _
    have := HTL.out
    have := HK1.out
    have := HK2.out
    omega
  clear hc8 ht8
  go_wp2_with fail
  refine (rtag_any O TG g 0 cp TG.length c8 p8 w8 HOL.out HOB.out HR8.out (by omega) HT9.out rfl HTN.out HT8.out).mono ?_
  rintro e w9 ⟨v9, rfl, hown9, hb9⟩
  rw [HT.out] at hown9
  have HB9 : Hid (Below w.heap.size w w9) := HB1.out.trans ((HB8.out.trans (hb9.mono HB8.out.size)).mono HB1.out.size)
  have HO9 : Hid (w9.ownsRow w.heap.size 5 1 v9 16 (ints .u8 T)) := own_base hown9 (Nat.le_trans HB1.out.size HB8.out.size)
  clear hown9 hb9
  go_wp2_with fail
  go_ret
  exact ⟨_, rfl, HO9.out, HB9.out⟩
set_option maxHeartbeats 1000000 in
theorem rSeal_any (key nonce lo lt : List Nat) (bk ok ck bn on cn : Nat) (o x : Value) (w : World) (hk : key.length = 32) (hn : nonce.length = 12) (hK : C3.SliceIs w bk ok key) (hN : C3.SliceIs w bn on nonce) (ho : Src w o lo) (hx : Src w x lt) (hol : lo.length ≤ 200) (htl : lt.length ≤ 200) :
    Calls Try.prog 11 #[.slice (some ⟨bk, ok, none⟩) 32 ck, .slice (some ⟨bn, on, none⟩) 12 cn, o, x] w fun e w' => ∃ v, e = .returned v ∧ w'.ownsRow w.heap.size 5 1 v (lt.length + 16) (ints .u8 (Ae.box key nonce lo lt)) ∧ Below w.heap.size w w' := by
  obtain ⟨px, cx, rfl⟩ := hx.slice
  obtain ⟨po, co, rfl⟩ := ho.slice
  have HX : Hid (Calls Try.prog 19 #[.slice (some ⟨bk, ok, none⟩) 32 ck, .int .i64 1, .slice (some ⟨bn, on, none⟩) 12 cn, .slice px lt.length cx] w fun e w' => ∃ v, e = .returned v ∧ w'.ownsRow w.heap.size 5 1 v lt.length (ints .u8 (C3.Ch.xor key 1 nonce lt)) ∧ Below w.heap.size w w') :=
    C3.rxor_any key nonce lt bk ok ck bn on cn 1 lt.length cx px w hk hn hK hN (by decide) hx.text.2.2 rfl (by omega)
  have HSL : Hid ((C3.Ch.xor key 1 nonce lt).length = lt.length) := C3.Ch.xor_length _ _ _ _
  have HSB : Hid (∀ y ∈ C3.Ch.xor key 1 nonce lt, y < 256) := C3.Ch.xor_lt _ _ _ hx.1
  have HTL : Hid ((Ae.tagOf key nonce lo (C3.Ch.xor key 1 nonce lt)).length = 16) := Ae.tagOf_length _ _ _ _
  have HTB : Hid (∀ y ∈ Ae.tagOf key nonce lo (C3.Ch.xor key 1 nonce lt), y < 256) := Ae.tagOf_lt _ _ _ _
  have hB : Ae.box key nonce lo lt = C3.Ch.xor key 1 nonce lt ++ Ae.tagOf key nonce lo (C3.Ch.xor key 1 nonce lt) := rfl
  have HY : Hid (∀ (w1 : World) (s : Value), Below w.heap.size w w1 → Src w1 s (C3.Ch.xor key 1 nonce lt) → Calls Try.prog 20 #[.slice (some ⟨bk, ok, none⟩) 32 ck, .slice (some ⟨bn, on, none⟩) 12 cn, .slice po lo.length co, s] w1 fun e w' => ∃ v, e = .returned v ∧ w'.ownsRow w1.heap.size 5 1 v 16 (ints .u8 (Ae.tagOf key nonce lo (C3.Ch.xor key 1 nonce lt))) ∧ Below w1.heap.size w1 w') := fun w1 s hb hs =>
    rTag_any key nonce lo _ bk ok ck bn on cn _ s w1 hk hn (hK.below hb) (hN.below hb) (ho.below hb) hs hol (by rw [C3.Ch.xor_length]; exact htl)
  rw [hB]
  obtain ⟨no, hno⟩ : ∃ n, lo.length = n := ⟨_, rfl⟩
  obtain ⟨nt, hnt⟩ : ∃ n, lt.length = n := ⟨_, rfl⟩
  rw [hno] at HY ⊢
  rw [hnt] at HX HSL htl ⊢
  clear hk hn hK hN ho hx hno hnt hB hol
  generalize Ae.tagOf key nonce lo (C3.Ch.xor key 1 nonce lt) = T at *
  generalize C3.Ch.xor key 1 nonce lt = S at *
  go_enter Try.func11, Try.ntmps11
  go_wp2_with (first | with_reducible (refine stop_builtin .append ?_))
  refine HX.out.mono ?_
  rintro e w1 ⟨v1, rfl, hown1, hb1⟩
  have HS1 : Hid (Src w1 v1 S) := Src.own HSB.out hown1
  have HB1 : Hid (Below w.heap.size w w1) := hb1
  clear hown1 hb1 HX
  obtain ⟨p1, c1, rfl⟩ := HS1.out.slice
  go_wp2_with (first | with_reducible (refine stop_builtin .append ?_))
  refine Stop.go ?_
  refine law_append_src w1.heap.size (.slice (some ⟨w1.heap.size, 0, none⟩) 0 0) 0 [] _ S rfl rfl (own_empty (Nat.le_refl _)) (HS1.out.below ((Below.refl _ _).alloc (Nat.le_refl _) _)) (by rw [HSL.out]; omega) (by simp) ?_
  intro v2 w2 hown2 hb2
  rw [HSL.out, List.nil_append, Nat.zero_add] at hown2
  have HO2 : Hid (w2.ownsRow w1.heap.size 5 1 v2 nt (ints .u8 S)) := hown2
  have HB2 : Hid (Below w1.heap.size w1 w2) := ((Below.refl _ _).alloc (Nat.le_refl _) _).trans hb2
  have HS2 : Hid (Src w2 (.slice p1 S.length c1) S) := HS1.out.below HB2.out
  have HW2 : Hid (Below w.heap.size w w2) := HB1.out.trans (HB2.out.mono HB1.out.size)
  clear hown2 hb2 HS1
  go_wp2_with (first | with_reducible (refine stop_builtin .append ?_))
  refine (HY.out w2 _ HW2.out HS2.out).mono ?_
  rintro e w3 ⟨v3, rfl, hown3, hb3⟩
  have HS3 : Hid (Src w3 v3 T) := Src.own HTB.out hown3
  have HO3 : Hid (w3.ownsRow w1.heap.size 5 1 v2 nt (ints .u8 S)) := own_below HO2.out hb3
  have HB3 : Hid (Below w1.heap.size w1 w3) := HB2.out.trans (hb3.mono HB2.out.size)
  clear hown3 hb3 HO2 HB2 HS2 HW2
  go_wp2_with (first | with_reducible (refine stop_builtin .append ?_))
  refine Stop.go ?_
  refine law_append_src w1.heap.size v2 nt S v3 T rfl rfl HO3.out HS3.out (by rw [HTL.out]; omega) HB3.out.size ?_
  intro v4 w4 hown4 hb4
  rw [HTL.out] at hown4
  have HO4 : Hid (w4.ownsRow w.heap.size 5 1 v4 (nt + 16) (ints .u8 (S ++ T))) := own_base hown4 HB1.out.size
  have HB4 : Hid (Below w.heap.size w w4) := HB1.out.trans ((HB3.out.trans hb4).mono HB1.out.size)
  clear hown4 hb4
  go_wp2_with fail
  go_ret
  exact ⟨_, rfl, HO4.out, HB4.out⟩
end Go.Proofs.Ytnceiccciaihoaa.A5
