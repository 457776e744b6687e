/- The contract of Open. -/
import Derived.Test.YtfjdaafckiefdaaGreatDoorA5Seal
import Derived.Test.YtfjdaafckiefdaaGreatDoorM2Eq
namespace Go.Proofs.YtfjdaafckiefdaaGreatDoor.A5
open Go.RowKit P4
/-- What Open tells. -/
def OpenSays (base : Nat) (r : Option (List Nat)) (e : Ending) (w' : World) : Prop := match r with
  | some t => ∃ v, e = .returned (.tuple #[v, .int .i64 0]) ∧ w'.ownsRow base 5 1 v t.length (ints .u8 t)
  | none => e = .returned (.tuple #[.slice none 0 0, .int .i64 20])
set_option maxHeartbeats 1000000 in
theorem Open_short (key nonce : List Nat) (bk ok ck bn on cn n cb : Nat) (po pb : Option Addr) (no co : Nat) (w : World) (hk : key.length = 32) (hn : nonce.length = 12) (hK : C3.SliceIs w bk ok key) (hN : C3.SliceIs w bn on nonce) (hck : 32 ≤ ck) (hcn : 12 ≤ cn) (h16 : n < 16) :
    Calls Tryz.prog 85 #[.slice (some ⟨bk, ok, none⟩) 32 ck, .slice (some ⟨bn, on, none⟩) 12 cn, .slice po no co, .slice pb n cb] w fun e w' => e = .returned (.tuple #[.slice none 0 0, .int .i64 20]) ∧ Below w.heap.size w w' := by
  have HX : Hid (Calls Tryz.prog 115 #[.slice (some ⟨bk, ok, none⟩) 32 ck, .slice (some ⟨bn, on, none⟩) 12 cn] w fun e w' => ∃ g, e = .returned (.tuple #[.slice (some ⟨g, 0, none⟩) 32 64, .int .i64 0]) ∧ w.heap.size ≤ g ∧ w'.rangeAt g 0 (ints .u8 (Ae.once key nonce)) ∧ Below w.heap.size w w') := once_ok key nonce bk ok ck bn on cn w hk hn hK hN hck hcn
  have g1 : (n : Int) - 16 < 0 := by omega
  have g2 : (n : Int) < 16 := by omega
  clear hk hn hK hN
  go_enter Tryz.func85, Tryz.ntmps85
  go_wp2_with fail
  refine HX.out.mono ?_
  rintro e w1 ⟨g, rfl, hg, hr, hb⟩
  have HB1 : Hid (Below w.heap.size w w1) := hb
  clear hg hr hb HX
  go_wp2_with fail
  refine bodyPost_ret (results_tmp2 rfl _ _ _) rfl ?_
  exact ⟨rfl, HB1.out⟩
set_option maxHeartbeats 1000000 in
theorem Open_long (key nonce lo ls lt : List Nat) (bk ok ck bn on cn bb ob cb k : Nat) (o : Value) (w : World) (hk : key.length = 32) (hn : nonce.length = 12) (hK : C3.SliceIs w bk ok key) (hN : C3.SliceIs w bn on nonce) (hck : 32 ≤ ck) (hcn : 12 ≤ cn)
    (ho : Src w o lo) (hol : lo.length ≤ 40000) (hsl : ls.length = k) (htl : lt.length = 16) (hkl : k ≤ 40000) (hcb : k + 16 ≤ cb) (hlb : ∀ x ∈ ls ++ lt, x < 256) (hr : w.rangeAt bb ob (ints .u8 (ls ++ lt))) :
    Calls Tryz.prog 85 #[.slice (some ⟨bk, ok, none⟩) 32 ck, .slice (some ⟨bn, on, none⟩) 12 cn, o, .slice (some ⟨bb, ob, none⟩) (k + 16) cb] w fun e w' => OpenSays w.heap.size (if Ae.tagOf key nonce lo ls = lt then some (C3.Ch.xor key 1 nonce ls) else none) e w' ∧ Below w.heap.size w w' := by
  have HX : Hid (Calls Tryz.prog 115 #[.slice (some ⟨bk, ok, none⟩) 32 ck, .slice (some ⟨bn, on, none⟩) 12 cn] w fun e w' => ∃ g, e = .returned (.tuple #[.slice (some ⟨g, 0, none⟩) 32 64, .int .i64 0]) ∧ w.heap.size ≤ g ∧ w'.rangeAt g 0 (ints .u8 (Ae.once key nonce)) ∧ Below w.heap.size w w') := once_ok key nonce bk ok ck bn on cn w hk hn hK hN hck hcn
  have HSr : Hid (∀ w1, Below w.heap.size w w1 → Src w1 (.slice (some ⟨bb, ob, none⟩) k cb) ls) := fun w1 hb => Src.below (Src.row (fun x hx => hlb x (List.mem_append_left _ hx)) (by omega) (by have := range_take hr k; rwa [← hsl, List.take_left] at this) hsl) hb
  have HTr : Hid (∀ w1, Below w.heap.size w w1 → w1.rangeAt bb (ob + k) (ints .u8 lt)) := fun w1 hb => rangeAt_below hb (by have := range_drop hr k; rwa [← hsl, List.drop_left, hsl] at this)
  have HTB0 : Hid (∀ x ∈ lt, x < 256) := fun x hx => hlb x (List.mem_append_right _ hx)
  have HTL0 : Hid (lt.length = 16) := htl
  have HY : Hid (∀ w1, Below w.heap.size w w1 → Calls Tryz.prog 116 #[.slice (some ⟨bk, ok, none⟩) 32 ck, .int .i64 1, .slice (some ⟨bn, on, none⟩) 12 cn, .slice (some ⟨bb, ob, none⟩) k cb] w1 fun e w' => ∃ g, e = .returned (.tuple #[.slice (some ⟨g, 0, none⟩) k k, .int .i64 0]) ∧ w1.heap.size ≤ g ∧ C3.BRow w' g (C3.Ch.xor key 1 nonce ls) ∧ Below w1.heap.size w1 w') := fun w1 hb =>
    C3.XOR_ok key nonce ls bk ok ck bn on cn 1 k cb _ w1 hk hn (hK.below hb) (hN.below hb) (by decide) hck hcn (HSr.out w1 hb).text.2.2 hsl (by omega)
  have HSL : Hid ((C3.Ch.xor key 1 nonce ls).length = k) := by show _ = _; rw [C3.Ch.xor_length, hsl]
  have HOL : Hid ((Ae.once key nonce).length = 32) := Ae.once_length _ _
  have HOB : Hid (∀ y ∈ Ae.once key nonce, y < 256) := Ae.once_lt _ _
  have HTL : Hid ((Ae.tagOf key nonce lo ls).length = 16) := Ae.tagOf_length _ _ _ _
  have HTB : Hid (∀ y ∈ Ae.tagOf key nonce lo ls, y < 256) := Ae.tagOf_lt _ _ _ _
  have HT : Hid (Po.tag (Ae.once key nonce) (Ae.tagged lo ls) = Ae.tagOf key nonce lo ls) := rfl
  have HLS : Hid (ls.length ≤ 40000) := by show _ ≤ _; omega
  have HO : Hid (Src w o lo) := ho
  have HLO : Hid (lo.length ≤ 40000) := hol
  obtain ⟨po, co, rfl⟩ := ho.slice
  obtain ⟨no, hno⟩ : ∃ n, lo.length = n := ⟨_, rfl⟩
  rw [hno] at HO ⊢
  clear hk hn hK hN ho hol hno hsl htl hlb hr
  generalize C3.Ch.xor key 1 nonce ls = S at *
  generalize Ae.tagOf key nonce lo ls = T at *
  generalize Ae.once key nonce = O at *
  obtain ⟨R, hR⟩ : ∃ R, (if T = lt then some S else none) = R := ⟨_, rfl⟩
  rw [hR]
  have HR1 : Hid (lt = T → R = some S) := fun h => by rw [← hR, if_pos h.symm]
  have HR0 : Hid (lt ≠ T → R = none) := fun h => by rw [← hR, if_neg (fun e => h e.symm)]
  clear hR
  have g1 : ¬ ((k : Int) + 16 - 16 < 0) := by omega
  have g2 : (k : Int) + 16 - 16 = (k : Int) := by omega
  have g3 : (k : Int) ≤ (cb : Int) := by omega
  have g4 : (k : Int) ≤ (k : Int) + 16 := by omega
  have g5 : (0 : Int) ≤ (k : Int) := by omega
  have g6 : (k : Int) + 16 ≤ (cb : Int) := by omega
  go_enter Tryz.func85, Tryz.ntmps85
  go_wp2_with fail
  refine HX.out.mono ?_
  rintro e w1 ⟨g, rfl, hg, hr, hb⟩
  have HR : Hid (w1.rangeAt g 0 (ints .u8 O)) := hr
  have HB1 : Hid (Below w.heap.size w w1) := hb
  clear hg hr hb HX
  go_wp2_with fail
  go_quiet (fail)
  go_wp2_with fail
  have hd : Below w1.heap.size w1 (w1.drewN nq) := ⟨rfl, rfl, rfl, Nat.le_refl _, fun _ _ => rfl⟩
  have HR2 : Hid ((w1.drewN nq).rangeAt g 0 (ints .u8 O)) := rangeAt_below hd HR.out
  have HB2 : Hid (Below w.heap.size w (w1.drewN nq)) := HB1.out.trans (hd.mono HB1.out.size)
  clear hd HR HB1
  generalize w1.drewN nq = w2 at *
  refine (tagOf_any O lo ls g 0 64 _ _ w2 HOL.out HOB.out HR2.out (by decide) (HO.out.below HB2.out) (HSr.out w2 HB2.out) HLO.out HLS.out).mono ?_
  rintro e w3 ⟨v3, rfl, hown3, hb3⟩
  rw [HT.out] at hown3
  obtain ⟨g3, c3, rfl, _, _, _, hr3⟩ := own_cell hown3 (by decide)
  have HT3 : Hid (w3.rangeAt g3 0 (ints .u8 T)) := hr3
  have HB3 : Hid (Below w.heap.size w w3) := HB2.out.trans (hb3.mono HB2.out.size)
  clear hown3 hb3 HR2 HB2 hr3
  go_wp2_with fail
  refine (M2.equal_any lt T (some ⟨bb, ob + k, none⟩) (some ⟨g3, 0, none⟩) 16 (cb - k) 16 c3 w3 HTL0.out HTL.out ⟨HTB0.out, fun _ => ⟨_, _, rfl, HTr.out w3 HB3.out⟩⟩ ⟨HTB.out, fun _ => ⟨_, _, rfl, HT3.out⟩⟩ (by decide) (by decide)).mono ?_
  rintro e w4 ⟨rfl, rfl⟩
  by_cases hT : lt = T
  · have HRE : Hid (R = some S) := HR1.out hT
    rw [decide_eq_true hT]
    go_wp2_with fail
    refine (HY.out w4 HB3.out).mono ?_
    rintro e w5 ⟨g5, rfl, hg5, hr5, hb5⟩
    have HO5 : Hid (w5.ownsRow w.heap.size 5 1 (.slice (some ⟨g5, 0, none⟩) k k) k (ints .u8 S)) := bRow_own hr5 (Nat.le_trans HB3.out.size hg5) HSL.out (by omega)
    have HB5 : Hid (Below w.heap.size w w5) := HB3.out.trans (hb5.mono HB3.out.size)
    clear hg5 hr5 hb5
    go_wp2_with fail
    refine bodyPost_ret (results_tmp2 rfl _ _ _) rfl ?_
    rw [HRE.out]
    exact ⟨⟨_, rfl, by rw [HSL.out]; exact HO5.out⟩, HB5.out⟩
  · have HRE : Hid (R = none) := HR0.out hT
    rw [decide_eq_false hT]
    go_wp2_with fail
    refine bodyPost_ret (results_tmp2 rfl _ _ _) rfl ?_
    rw [HRE.out]
    exact ⟨rfl, HB3.out⟩
/-- Open, of a right key and nonce. -/
theorem Open_any (key nonce lo lb : List Nat) (bk ok ck bn on cn : Nat) (o x : Value) (w : World) (hk : key.length = 32) (hn : nonce.length = 12) (hK : C3.SliceIs w bk ok key) (hN : C3.SliceIs w bn on nonce) (hck : 32 ≤ ck) (hcn : 12 ≤ cn)
    (ho : Src w o lo) (hx : Src w x lb) (hol : lo.length ≤ 40000) (hbl : lb.length ≤ 40000) :
    Calls Tryz.prog 85 #[.slice (some ⟨bk, ok, none⟩) 32 ck, .slice (some ⟨bn, on, none⟩) 12 cn, o, x] w fun e w' => OpenSays w.heap.size (Ae.opens key nonce lo lb) e w' ∧ Below w.heap.size w w' := by
  obtain ⟨px, cx, rfl⟩ := hx.slice
  by_cases h : lb.length < 16
  · rw [Ae.opens_short h]
    obtain ⟨po, co, rfl⟩ := ho.slice
    exact Open_short key nonce bk ok ck bn on cn _ cx po px _ co w hk hn hK hN hck hcn h
  · obtain ⟨_, hc, hs, hT⟩ := hx.text
    obtain ⟨b, ob, rfl, hr⟩ := hT (by intro e; subst e; exact h (by decide))
    unfold Ae.opens
    rw [if_neg h]
    have hl : lb.length = lb.length - 16 + 16 := by omega
    have ha : lb = lb.take (lb.length - 16) ++ lb.drop (lb.length - 16) := (List.take_append_drop _ _).symm
    have := Open_long key nonce lo (lb.take (lb.length - 16)) (lb.drop (lb.length - 16)) bk ok ck bn on cn b ob cx (lb.length - 16) o w hk hn hK hN hck hcn ho hol (by rw [List.length_take]; omega) (by rw [List.length_drop]; omega) (by omega) (by omega) (by rw [← ha]; exact hs) (by rw [← ha]; exact hr)
    rw [← hl] at this
    exact this
end Go.Proofs.YtfjdaafckiefdaaGreatDoor.A5
