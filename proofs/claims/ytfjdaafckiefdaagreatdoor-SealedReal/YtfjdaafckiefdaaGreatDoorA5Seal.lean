/- The contracts of onceKey and Seal. -/
import Derived.Test.YtfjdaafckiefdaaGreatDoorA5Tag
import Derived.Test.YtfjdaafckiefdaaGreatDoorC3Own
namespace Go.Proofs.YtfjdaafckiefdaaGreatDoor.A5
open Go.RowKit P4
theorem arAt_range {w : World} {g : Nat} {l : List Nat} (h : C3.ArAt w g l) : w.rangeAt g 0 (ints .u8 l) := rangeAt_of_row h
theorem bRow_own {w : World} {base g n : Nat} {l : List Nat} (h : C3.BRow w g l) (hb : base ≤ g) (hl : l.length = n) (hn : n ≤ 1000000) : w.ownsRow base 5 1 (.slice (some ⟨g, 0, none⟩) n n) n (ints .u8 l) := by
  refine ⟨by rw [ints_length]; omega, .inr ⟨g, n, arr .u8 l, rfl, hb, h, Nat.le_refl _, by unfold maxLen; omega, by rw [arr_size]; omega, ?_⟩⟩
  rw [arr_list, List.take_of_length_le (by rw [ints_length]; omega)]
set_option maxHeartbeats 1000000 in
theorem once_ok (key nonce : List Nat) (bk ok ck bn on cn : Nat) (w : World) (hk : key.length = 32) (hn : nonce.length = 12) (hK : C3.SliceIs w bk ok key) (hN : C3.SliceIs w bn on nonce) (hck : 32 ≤ ck) (hcn : 12 ≤ cn) :
    Calls Tryz.prog 115 #[.slice (some ⟨bk, ok, none⟩) 32 ck, .slice (some ⟨bn, on, none⟩) 12 cn] w fun e w' => ∃ g, e = .returned (.tuple #[.slice (some ⟨g, 0, none⟩) 32 64, .int .i64 0]) ∧ w.heap.size ≤ g ∧ w'.rangeAt g 0 (ints .u8 (Ae.once key nonce)) ∧ Below w.heap.size w w' := by
  have HX : Hid (Calls Tryz.prog 131 #[.slice (some ⟨bk, ok, none⟩) 32 ck, .int .i64 0, .slice (some ⟨bn, on, none⟩) 12 cn] w fun e w' => ∃ g, e = .returned (.tuple #[.slice (some ⟨g, 0, none⟩) 64 64, .int .i64 0]) ∧ w.heap.size ≤ g ∧ w'.rangeAt g 0 (ints .u8 (Ae.once key nonce)) ∧ Below w.heap.size w w') := by
    refine (C3.Block_ok key nonce bk ok ck bn on cn 0 w hk hn hK hN (by decide) hck hcn).mono ?_
    rintro e w1 ⟨g, rfl, hg, hr, hb⟩
    exact ⟨g, rfl, hg, range_take (arAt_range hr) 32, hb⟩
  generalize Ae.once key nonce = O at *
  clear hk hn hK hN
  go_enter Tryz.func115, Tryz.ntmps115
  go_wp2_with fail
  refine HX.out.mono ?_
  rintro e w1 ⟨g, rfl, hg, hr, hb⟩
  have HG : Hid (w.heap.size ≤ g) := hg
  have HR : Hid (w1.rangeAt g 0 (ints .u8 O)) := hr
  have HB : Hid (Below w.heap.size w w1) := hb
  clear hg hr hb HX
  go_wp2_with fail
  refine bodyPost_ret (results_tmp2 rfl _ _ _) rfl ?_
  exact ⟨g, rfl, HG.out, HR.out, HB.out⟩
set_option maxHeartbeats 1000000 in
theorem Seal_ok (key nonce lo lt : List Nat) (bk ok ck bn on cn : Nat) (o x : Value) (w : World) (hk : key.length = 32) (hn : nonce.length = 12) (hK : C3.SliceIs w bk ok key) (hN : C3.SliceIs w bn on nonce) (hck : 32 ≤ ck) (hcn : 12 ≤ cn)
    (ho : Src w o lo) (hx : Src w x lt) (hol : lo.length ≤ 40000) (htl : lt.length ≤ 40000) :
    Calls Tryz.prog 74 #[.slice (some ⟨bk, ok, none⟩) 32 ck, .slice (some ⟨bn, on, none⟩) 12 cn, o, x] w fun e w' => ∃ v, e = .returned (.tuple #[v, .int .i64 0]) ∧ w'.ownsRow w.heap.size 5 1 v (lt.length + 16) (ints .u8 (Ae.box key nonce lo lt)) ∧ Below w.heap.size w w' := by
  have HX : Hid (Calls Tryz.prog 115 #[.slice (some ⟨bk, ok, none⟩) 32 ck, .slice (some ⟨bn, on, none⟩) 12 cn] w fun e w' => ∃ g, e = .returned (.tuple #[.slice (some ⟨g, 0, none⟩) 32 64, .int .i64 0]) ∧ w.heap.size ≤ g ∧ w'.rangeAt g 0 (ints .u8 (Ae.once key nonce)) ∧ Below w.heap.size w w') := once_ok key nonce bk ok ck bn on cn w hk hn hK hN hck hcn
  obtain ⟨px, cx, rfl⟩ := hx.slice
  obtain ⟨po, co, rfl⟩ := ho.slice
  have HY : Hid (∀ w1, Below w.heap.size w w1 → Calls Tryz.prog 116 #[.slice (some ⟨bk, ok, none⟩) 32 ck, .int .i64 1, .slice (some ⟨bn, on, none⟩) 12 cn, .slice px lt.length cx] w1 fun e w' => ∃ g, e = .returned (.tuple #[.slice (some ⟨g, 0, none⟩) lt.length lt.length, .int .i64 0]) ∧ w1.heap.size ≤ g ∧ C3.BRow w' g (C3.Ch.xor key 1 nonce lt) ∧ Below w1.heap.size w1 w') := fun w1 hb =>
    C3.XOR_ok key nonce lt bk ok ck bn on cn 1 lt.length cx px w1 hk hn (hK.below hb) (hN.below hb) (by decide) hck hcn (hx.below hb).text.2.2 rfl (by omega)
  have HSL : Hid ((C3.Ch.xor key 1 nonce lt).length = lt.length) := C3.Ch.xor_length _ _ _ _
  have HSB : Hid (∀ y ∈ C3.Ch.xor key 1 nonce lt, y < 256) := C3.Ch.xor_lt _ _ _ hx.1
  have HOL : Hid ((Ae.once key nonce).length = 32) := Ae.once_length _ _
  have HOB : Hid (∀ y ∈ Ae.once key nonce, y < 256) := Ae.once_lt _ _
  have HTL : Hid ((Po.tag (Ae.once key nonce) (Ae.tagged lo (C3.Ch.xor key 1 nonce lt))).length = 16) := Po.tag_length _ _
  have HTB : Hid (∀ y ∈ Po.tag (Ae.once key nonce) (Ae.tagged lo (C3.Ch.xor key 1 nonce lt)), y < 256) := Po.tag_lt _ _
  have hB : Ae.box key nonce lo lt = C3.Ch.xor key 1 nonce lt ++ Po.tag (Ae.once key nonce) (Ae.tagged lo (C3.Ch.xor key 1 nonce lt)) := rfl
  rw [hB]
  have HO : Hid (Src w (.slice po lo.length co) lo) := ho
  have HLO : Hid (lo.length ≤ 40000) := hol
  obtain ⟨no, hno⟩ : ∃ n, lo.length = n := ⟨_, rfl⟩
  rw [hno] at HO HLO hol
  rw [hno]
  have HNO : Hid (lo.length = no) := hno
  obtain ⟨nt, hnt⟩ : ∃ n, lt.length = n := ⟨_, rfl⟩
  rw [hnt] at HY HSL htl ⊢
  clear hk hn hK hN ho hx hnt hno hB
  generalize C3.Ch.xor key 1 nonce lt = S at *
  generalize Ae.once key nonce = O at *
  obtain ⟨T, hT⟩ : ∃ T, Po.tag O (Ae.tagged lo S) = T := ⟨_, rfl⟩
  rw [hT] at HTL HTB ⊢
  have HT : Hid (Po.tag O (Ae.tagged lo S) = T) := hT
  clear hT
  go_enter Tryz.func74, Tryz.ntmps74
  go_wp2_with fail
  refine HX.out.mono ?_
  rintro e w1 ⟨g, rfl, hg, hr, hb⟩
  have HR : Hid (w1.rangeAt g 0 (ints .u8 O)) := hr
  have HB1 : Hid (Below w.heap.size w w1) := hb
  clear hg hr hb HX
  go_wp2_with fail
  refine (HY.out w1 HB1.out).mono ?_
  rintro e w2 ⟨h, rfl, hg, hr, hb⟩
  have HR2 : Hid (w2.rangeAt g 0 (ints .u8 O)) := rangeAt_below hb HR.out
  have HS2 : Hid (w2.ownsRow w.heap.size 5 1 (.slice (some ⟨h, 0, none⟩) nt nt) nt (ints .u8 S)) := bRow_own hr (Nat.le_trans HB1.out.size hg) HSL.out (by omega)
  have HB2 : Hid (Below w.heap.size w w2) := HB1.out.trans (hb.mono HB1.out.size)
  clear hg hr hb HY HR HB1
  go_wp2_with (first | with_reducible (refine stop_builtin .append ?_))
  refine (tagOf_any O lo S g 0 64 _ _ w2 HOL.out HOB.out HR2.out (by decide) (HO.out.below HB2.out) (Src.own HSB.out HS2.out) (by rw [HNO.out]; exact hol) (by rw [HSL.out]; exact htl)).mono ?_
  rintro e w3 ⟨v3, rfl, hown3, hb3⟩
  rw [HT.out] at hown3
  have HT3 : Hid (Src w3 v3 T) := Src.own HTB.out hown3
  have HS3 : Hid (w3.ownsRow w.heap.size 5 1 (.slice (some ⟨h, 0, none⟩) nt nt) nt (ints .u8 S)) := own_below HS2.out hb3
  have HB3 : Hid (Below w.heap.size w w3) := HB2.out.trans (hb3.mono HB2.out.size)
  clear hown3 hb3 HR2 HS2 HB2
  go_wp2_with (first | with_reducible (refine stop_builtin .append ?_))
  refine Stop.go ?_
  refine law_append_src w.heap.size (.slice (some ⟨h, 0, none⟩) nt nt) nt S v3 T rfl rfl HS3.out HT3.out (by rw [HTL.out]; omega) HB3.out.size ?_
  intro v4 w4 hown4 hb4
  rw [HTL.out] at hown4
  have HO4 : Hid (w4.ownsRow w.heap.size 5 1 v4 (nt + 16) (ints .u8 (S ++ T))) := hown4
  have HB4 : Hid (Below w.heap.size w w4) := HB3.out.trans hb4
  clear hown4 hb4 HS3 HT3 HB3
  go_wp2_with fail
  refine bodyPost_ret (results_tmp2 rfl _ _ _) rfl ?_
  exact ⟨_, rfl, HO4.out, HB4.out⟩
end Go.Proofs.YtfjdaafckiefdaaGreatDoor.A5
