/- The document's answer of layer 2: Code. -/
import Derived.Test.YtnbdadhdpplldabDoorPad
namespace Go.Proofs.YtnbdadhdpplldabDoor
open Go.RowKit
theorem rsum_own {w w' : World} {base : Nat} {v : Value} {l : List Nat} {n : Nat} (h : w.ownsRow base 5 1 v n (ints .u8 l)) (hl : l.length = n) (h0 : 0 < n) (hs : ∀ x ∈ l, x < 256) (hn : n ≤ 1000) (hb : Below w.heap.size w w') :
    Calls Tryd.prog 16 #[v] w' fun e w2 => ∃ v, e = .returned v ∧ w2.ownsRow w'.heap.size 5 1 v 32 (ints .u8 (Sp.sum l)) ∧ Below w'.heap.size w' w2 := by
  obtain ⟨g, c, rfl, _, _, hr⟩ := own_cell h h0
  subst hl
  exact rsum_any l (some ⟨g, 0, none⟩) c w' (.inr ⟨⟨g, 0, none⟩, c, rfl, fun j u hu => by rw [Addr.add_mid]; exact rangeAt_below hb hr j u hu⟩) hs hn
theorem own_src {w : World} {base : Nat} {v : Value} {l : List Nat} {n : Nat} (h : w.ownsRow base 5 1 v n (ints .u8 l)) (hl : l.length = n) (h0 : 0 < n) : SrcIs w v l := by
  obtain ⟨g, c, rfl, _, _, hr⟩ := own_cell h h0
  exact .inr ⟨⟨g, 0, none⟩, c, by rw [hl], fun j u hu => by rw [Addr.add_mid]; exact hr j u hu⟩
set_option maxHeartbeats 1000000 in
theorem rcode_any (key m : List Nat) (p : Option Addr) (n c : Nat) (mv : Value) (w : World) (hK : BytesAt w (.slice p n c) key) (hn : n ≤ 1000) (hM : SrcIs w mv m) (hms : ∀ x ∈ m, x < 256) (hm : m.length ≤ 900) :
    Calls Tryd.prog 10 #[.slice p n c, mv] w fun e w' => ∃ v, e = .returned v ∧ w'.ownsRow w.heap.size 5 1 v 32 (ints .u8 (Mk.code key m)) ∧ Below w.heap.size w w' := by
  have HP : Hid (∀ w1 x, Below w.heap.size w w1 → x < 256 → Calls Tryd.prog 17 #[.slice p n c, .int .u8 (x : Nat)] w1 fun e w' => ∃ v, e = .returned v ∧ w'.ownsRow w1.heap.size 5 1 v 64 (ints .u8 (Mk.mask (Mk.fill key) x)) ∧ Below w1.heap.size w1 w') := fun w1 x hb hx => pad_any key p n c x w1 (bytesAt_below hK hb) hn hx
  have HM : Hid (SrcIs w mv m) := hM
  have HMS : Hid (∀ x ∈ m, x < 256) := hms
  have HFS : Hid (∀ x ∈ Mk.fill key, x < 256) := Mk.fill_small hK.1
  have HFL : Hid ((Mk.fill key).length = 64) := Mk.fill_length key
  have HCD : Hid (Mk.code key m = Sp.sum (Mk.mask (Mk.fill key) 92 ++ Sp.sum (Mk.mask (Mk.fill key) 54 ++ m))) := rfl
  obtain ⟨CD, hCD⟩ : ∃ CD, Mk.code key m = CD := ⟨_, rfl⟩
  rw [hCD]
  rw [hCD] at HCD
  clear hK hM hms hCD
  generalize Mk.fill key = K at *
  have HL1 : Hid ((Mk.mask K 54).length = 64) := by
    show _ = _
    rw [Mk.mask_length, HFL.out]
  have HL2 : Hid ((Mk.mask K 92).length = 64) := by
    show _ = _
    rw [Mk.mask_length, HFL.out]
  go_enter Tryd.func10, Tryd.ntmps10
  go_wp2_with fail
  refine (HP.out w 54 (Below.refl _ _) (by decide)).mono ?_
  rintro e w1 ⟨v1, rfl, ho1, hb1⟩
  have HO1 : Hid (w1.ownsRow w.heap.size 5 1 v1 64 (ints .u8 (Mk.mask K 54))) := ho1
  have HB1 : Hid (Below w.heap.size w w1) := hb1
  clear ho1 hb1
  go_wp2_with (first | with_reducible (refine stop_builtin .append ?_))
  refine Stop.go ?_
  with_reducible refine law_append w.heap.size v1 64 (ints .u8 (Mk.mask K 54)) mv m ?asv ?axv HO1.out (SrcIs.below HM.out HB1.out) (by omega) HB1.out.size ?ak
  case asv => exact rfl
  case axv => exact rfl
  intro v2 w2 ho2 hg2
  rw [← ints_append] at ho2
  have HO2 : Hid (w2.ownsRow w.heap.size 5 1 v2 (64 + m.length) (ints .u8 (Mk.mask K 54 ++ m))) := ho2
  have HB2 : Hid (Below w.heap.size w w2) := below_grown' HB1.out hg2 HO1.out HB1.out.size (Nat.le_refl _)
  clear ho2 hg2 HO1 HB1
  go_wp2_with fail
  refine (rsum_own HO2.out (by rw [List.length_append, HL1.out]) (by omega) (fun x hx => by rcases List.mem_append.1 hx with h | h; exact Mk.mask_small HFS.out (by decide) x h; exact HMS.out x h) (by omega) (Below.refl _ _)).mono ?_
  rintro e w3 ⟨v3, rfl, ho3, hb3⟩
  have HS3 : Hid (SrcIs w3 v3 (Sp.sum (Mk.mask K 54 ++ m))) := own_src ho3 (sum_length _) (by decide)
  have HB3 : Hid (Below w.heap.size w w3) := HB2.out.trans (hb3.mono HB2.out.size)
  clear ho3 hb3 HO2 HB2
  go_wp2_with fail
  refine (HP.out w3 92 HB3.out (by decide)).mono ?_
  rintro e w4 ⟨v4, rfl, ho4, hb4⟩
  have HO4 : Hid (w4.ownsRow w3.heap.size 5 1 v4 64 (ints .u8 (Mk.mask K 92))) := ho4
  have HS4 : Hid (SrcIs w4 v3 (Sp.sum (Mk.mask K 54 ++ m))) := SrcIs.below HS3.out hb4
  have HB4 : Hid (Below w.heap.size w w4) := HB3.out.trans (hb4.mono HB3.out.size)
  have hs34 := hb4.size
  have hs3 := HB3.out.size
  clear ho4 hb4 HS3
  have HSL : Hid ((Sp.sum (Mk.mask K 54 ++ m)).length = 32) := sum_length _
  generalize hI : Sp.sum (Mk.mask K 54 ++ m) = I at *
  have HI : Hid (∀ x ∈ I, x < 256) := by
    rw [← hI]
    exact Mk.sum_small _
  clear hI
  go_wp2_with (first | with_reducible (refine stop_builtin .append ?_))
  refine Stop.go ?_
  with_reducible refine law_append w3.heap.size v4 64 (ints .u8 (Mk.mask K 92)) v3 I ?bsv ?bxv HO4.out HS4.out (by rw [HSL.out]; decide) hs34 ?bk
  case bsv => exact rfl
  case bxv => exact rfl
  intro v5 w5 ho5 hg5
  rw [← ints_append, HSL.out] at ho5
  have HO5 : Hid (w5.ownsRow w3.heap.size 5 1 v5 (64 + 32) (ints .u8 (Mk.mask K 92 ++ I))) := ho5
  have HB5 : Hid (Below w.heap.size w w5) := below_grown' HB4.out hg5 HO4.out HB4.out.size hs3
  clear ho5 hg5 HO4 HB4 HS4
  go_wp2_with fail
  refine (rsum_own HO5.out (by rw [List.length_append, HL2.out, HSL.out]) (by decide) (fun x hx => by rcases List.mem_append.1 hx with h | h; exact Mk.mask_small HFS.out (by decide) x h; exact HI.out x h) (by decide) (Below.refl _ _)).mono ?_
  rintro e w6 ⟨v6, rfl, ho6, hb6⟩
  rw [← HCD.out] at ho6
  have HO6 : Hid (w6.ownsRow w.heap.size 5 1 v6 32 (ints .u8 CD)) := own_weaken ho6 HB5.out.size
  have HB6 : Hid (Below w.heap.size w w6) := HB5.out.trans (hb6.mono HB5.out.size)
  clear ho6 hb6 HO5 HB5
  go_wp2_with fail
  go_ret
  exact ⟨_, rfl, HO6.out, HB6.out⟩
end Go.Proofs.YtnbdadhdpplldabDoor
