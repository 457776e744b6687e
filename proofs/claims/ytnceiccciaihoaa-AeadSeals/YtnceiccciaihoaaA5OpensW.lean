/- The walk of AeadOpens. -/
import Derived.Test.YtnceiccciaihoaaA5ROpen
namespace Go.Proofs.Ytnceiccciaihoaa.A5
open Go.RowKit P4
theorem conv_src {w : World} {v : Value} {l : List Nat} (h : Src w v l) : (convert 22 9 v).run Try.prog w = .ok (.string (strB l)) w := by
  obtain ⟨_, ⟨rfl, rfl⟩ | ⟨ad, c, rfl, rfl⟩ | ⟨b, o, c, rfl, _, hr⟩⟩ := h
  · exact conv_empty w _ _
  · exact conv_empty w _ _
  · exact run_conv w b o c l hr
theorem opens_lt {key nonce lo lb t : List Nat} (hb : ∀ x ∈ lb, x < 256) (h : Ae.opens key nonce lo lb = some t) : ∀ x ∈ t, x < 256 := by
  unfold Ae.opens at h
  split at h
  · cases h
  · split at h
    · rw [← Option.some.inj h]
      exact C3.Ch.xor_lt _ _ _ (fun x hx => hb x (List.mem_of_mem_take hx))
    · cases h
set_option maxHeartbeats 1000000 in
theorem opens_early (v0 v1 : Value) (po pb : Option Addr) (n co m cb : Nat) (w : World) (h : 100 < n ∨ 200 < m) :
    Calls Try.prog 4 #[v0, v1, .slice po n co, .slice pb m cb] w fun e w' => e = .returned (.bool true) ∧ Below w.heap.size w w' := by
  have HH : Hid (100 < n ∨ 200 < m) := h
  clear h
  go_enter Try.func4, Try.ntmps4
  go_wp2_with fail
  refine (anchor_any _).mono ?_
  rintro e w1 ⟨rfl, hb1⟩
  have HB1 : Hid (Below w.heap.size w w1) := hb1
  clear hb1
  go_wp2_with fail
  all_goals first | (exfalso; have := HH.out; omega) | (go_ret; exact ⟨rfl, HB1.out⟩)
set_option maxHeartbeats 1000000 in
theorem opens_bad (pk pn po pb : Option Addr) (nk ck nn cn n co m cb : Nat) (w : World) (h1 : n ≤ 100) (h2 : m ≤ 200) (h : nk ≠ 32 ∨ nn ≠ 12) :
    Calls Try.prog 4 #[.slice pk nk ck, .slice pn nn cn, .slice po n co, .slice pb m cb] w fun e w' => e = .returned (.bool true) ∧ Below w.heap.size w w' := by
  have HH : Hid (nk ≠ 32 ∨ nn ≠ 12) := h
  have g1 : (n : Int) ≤ 100 := by omega
  have g2 : (m : Int) ≤ 200 := by omega
  by_cases h32 : nk = 32
  · subst h32
    have g3 : ¬ (nn : Int) = 12 := by omega
    clear h
    go_enter Try.func4, Try.ntmps4
    go_wp2_with fail
    refine (anchor_any _).mono ?_
    rintro e w1 ⟨rfl, hb1⟩
    have HB1 : Hid (Below w.heap.size w w1) := hb1
    clear hb1
    go_wp2_with fail
    refine (Open_bad pk pn _ ck nn cn _ _ w1 HH.out).mono ?_
    rintro e w2 ⟨rfl, rfl⟩
    go_wp2_with fail
    go_ret
    exact ⟨rfl, HB1.out⟩
  · have g3 : ¬ (nk : Int) = 32 := by omega
    clear h h32
    go_enter Try.func4, Try.ntmps4
    go_wp2_with fail
    refine (anchor_any _).mono ?_
    rintro e w1 ⟨rfl, hb1⟩
    have HB1 : Hid (Below w.heap.size w w1) := hb1
    clear hb1
    go_wp2_with fail
    refine (Open_bad pk pn _ ck nn cn _ _ w1 HH.out).mono ?_
    rintro e w2 ⟨rfl, rfl⟩
    go_wp2_with fail
    go_ret
    exact ⟨rfl, HB1.out⟩
set_option maxHeartbeats 1000000 in
theorem opens_any (key nonce lo lb : List Nat) (bk ok ck bn on cn n co m cb : Nat) (po pb : Option Addr) (w : World) (hk : key.length = 32) (hn : nonce.length = 12) (hK : C3.SliceIs w bk ok key) (hN : C3.SliceIs w bn on nonce) (hck : 32 ≤ ck) (hcn : 12 ≤ cn)
    (ho : Src w (.slice po n co) lo) (hx : Src w (.slice pb m cb) lb) (h1 : n ≤ 100) (h2 : m ≤ 200) :
    Calls Try.prog 4 #[.slice (some ⟨bk, ok, none⟩) 32 ck, .slice (some ⟨bn, on, none⟩) 12 cn, .slice po n co, .slice pb m cb] w fun e w' => e = .returned (.bool true) ∧ Below w.heap.size w w' := by
  have HX : Hid (∀ w1, Below w.heap.size w w1 → Calls Try.prog 12 #[.slice (some ⟨bk, ok, none⟩) 32 ck, .slice (some ⟨bn, on, none⟩) 12 cn, .slice po n co, .slice pb m cb] w1 fun e w' => OpenSays w1.heap.size (Ae.opens key nonce lo lb) e w' ∧ Below w1.heap.size w1 w') := fun w1 hb =>
    Open_any key nonce lo lb bk ok ck bn on cn _ _ w1 hk hn (hK.below hb) (hN.below hb) hck hcn (ho.below hb) (hx.below hb) (by rw [ho.text.1]; omega) (by rw [hx.text.1]; omega)
  have HY : Hid (∀ w1, Below w.heap.size w w1 → Calls Try.prog 13 #[.slice (some ⟨bk, ok, none⟩) 32 ck, .slice (some ⟨bn, on, none⟩) 12 cn, .slice po n co, .slice pb m cb] w1 fun e w' => ROpenSays w1.heap.size (Ae.opens key nonce lo lb) e w' ∧ Below w1.heap.size w1 w') := fun w1 hb =>
    rOpen_any key nonce lo lb bk ok ck bn on cn _ _ w1 hk hn (hK.below hb) (hN.below hb) (ho.below hb) (hx.below hb) (by rw [ho.text.1]; omega) (by rw [hx.text.1]; omega)
  have HTB : Hid (∀ t, Ae.opens key nonce lo lb = some t → ∀ x ∈ t, x < 256) := fun t ht => opens_lt hx.1 ht
  have g1 : (n : Int) ≤ 100 := by omega
  have g2 : (m : Int) ≤ 200 := by omega
  clear hk hn hK hN ho hx
  generalize Ae.opens key nonce lo lb = R at *
  cases hR : R with
  | none =>
    rw [hR] at HX HY
    clear hR HTB
    go_enter Try.func4, Try.ntmps4
    go_wp2_with fail
    refine (anchor_any _).mono ?_
    rintro e w1 ⟨rfl, hb1⟩
    have HB1 : Hid (Below w.heap.size w w1) := hb1
    clear hb1
    go_wp2_with fail
    refine (HX.out w1 HB1.out).mono ?_
    rintro e w2 ⟨h, hb2⟩
    obtain rfl : e = _ := h
    have HB2 : Hid (Below w.heap.size w w2) := HB1.out.trans (hb2.mono HB1.out.size)
    clear hb2 HX
    go_wp2_with fail
    refine (HY.out w2 HB2.out).mono ?_
    rintro e w3 ⟨h, hb3⟩
    obtain rfl : e = _ := h
    have HB3 : Hid (Below w.heap.size w w3) := HB2.out.trans (hb3.mono HB2.out.size)
    clear hb3 HY
    go_wp2_with fail
    go_ret
    exact ⟨rfl, HB3.out⟩
  | some t =>
    have HTS : Hid (∀ x ∈ t, x < 256) := HTB.out t hR
    rw [hR] at HX HY
    clear hR HTB
    go_enter Try.func4, Try.ntmps4
    go_wp2_with fail
    refine (anchor_any _).mono ?_
    rintro e w1 ⟨rfl, hb1⟩
    have HB1 : Hid (Below w.heap.size w w1) := hb1
    clear hb1
    go_wp2_with fail
    refine (HX.out w1 HB1.out).mono ?_
    rintro e w2 ⟨⟨v2, rfl, ho2⟩, hb2⟩
    have HS2 : Hid (Src w2 v2 t) := Src.own HTS.out ho2
    have HB2 : Hid (Below w.heap.size w w2) := HB1.out.trans (hb2.mono HB1.out.size)
    clear hb2 HX ho2
    go_wp2_with fail
    refine (HY.out w2 HB2.out).mono ?_
    rintro e w3 ⟨⟨v3, rfl, ho3⟩, hb3⟩
    have HB3 : Hid (Below w.heap.size w w3) := HB2.out.trans (hb3.mono HB2.out.size)
    have hc2 := conv_src (HS2.out.below hb3)
    have hc3 := conv_src (Src.own HTS.out ho3)
    have hse := strB_eq t
    clear hb3 HY ho3
    go_wp2_with fail
    go_ret
    exact ⟨rfl, HB3.out⟩
end Go.Proofs.Ytnceiccciaihoaa.A5
