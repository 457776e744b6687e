/- The walk of MacKeys. -/
import Derived.Test.YtnbdadhdpplldabDoorZeros
namespace Go.Proofs.YtnbdadhdpplldabDoor
open Go.RowKit
set_option maxHeartbeats 400000 in
theorem keys_early (p q : Option Addr) (n c m d : Nat) (z : Int) (w : World) (hT : Tab w) (h : 200 < n ∨ 200 < m ∨ z < 0 ∨ 64 < z) :
    Calls Tryd.prog 4 #[.slice p n c, .int .i64 z, .slice q m d] w fun e w' => e = .returned (.bool true) ∧ Below w.heap.size w w' := by
  have HT : Hid (Tab w) := hT
  have HH : Hid (200 < n ∨ 200 < m ∨ z < 0 ∨ 64 < z) := h
  clear hT h
  go_enter Tryd.func4, Tryd.ntmps4
  go_wp2_with fail
  refine (anchor_any w HT.out).mono ?_
  rintro e w1 ⟨rfl, hb1⟩
  have HB1 : Hid (Below w.heap.size w w1) := hb1
  clear hb1
  go_wp2_with fail
  all_goals first | (exfalso; have := HH.out; omega) | (go_ret; exact ⟨rfl, HB1.out⟩)
def shortV (k : Value) (x : Value) (y : Value) (key : List Nat) (lm : List Nat) : Nat → Value → World → Prop
  | 0 => IsV k
  | 1 => IsV y
  | 2 => PartsV [y]
  | 3 => BV (Mk.code key lm)
  | 4 => StrV (Mk.code key lm)
  | 5 => IsV x
  | 6 => IsV y
  | 7 => PartsV [y]
  | 8 => BV (Mk.code key lm)
  | 9 => StrV (Mk.code key lm)
  | 10 => IsV (.bool true)
  | 11 => IsV (.bool true)
  | _ => fun _ _ => True
theorem shortV_kept (k : Value) (x : Value) (y : Value) (key : List Nat) (lm : List Nat) : ∀ i v w w', shortV k x y key lm i v w → Below w.heap.size w w' → shortV k x y key lm i v w'
  | 0, _, _, _, h, _ => h
  | 1, _, _, _, h, _ => h
  | 2, _, _, _, h, hb => PartsV.kept h hb
  | 3, _, _, _, h, hb => BV.kept h hb
  | 4, _, _, _, h, _ => h
  | 5, _, _, _, h, _ => h
  | 6, _, _, _, h, _ => h
  | 7, _, _, _, h, hb => PartsV.kept h hb
  | 8, _, _, _, h, hb => BV.kept h hb
  | 9, _, _, _, h, _ => h
  | 10, _, _, _, h, _ => h
  | 11, _, _, _, h, _ => h
  | _ + 12, _, _, _, _, _ => trivial
set_option maxHeartbeats 2000000 in
theorem keys_short (key lm : List Nat) (p q : Option Addr) (n c m d z : Nat) (w : World) (hT : Tab w) (hK : BytesAt w (.slice p n c) key) (hSK : SrcIs w (.slice p n c) key) (hM : BytesAt w (.slice q m d) lm) (hSM : SrcIs w (.slice q m d) lm) (hn : n ≤ 200) (hm : m ≤ 200) (hz : z ≤ 64) (hl : n + z ≤ 64) :
    Calls Tryd.prog 4 #[.slice p n c, .int .i64 (z : Nat), .slice q m d] w fun e w' => e = .returned (.bool true) ∧ Below w.heap.size w w' := by
  have HT : Hid (Tab w) := hT
  have HK : Hid (BytesAt w (.slice p n c) key) := hK
  have HM : Hid (BytesAt w (.slice q m d) lm) := hM
  have HSK : Hid (SrcIs w (.slice p n c) key) := hSK
  have HSM : Hid (SrcIs w (.slice q m d) lm) := hSM
  have HKL : Hid (key.length = n) := (bytesAt_src hK).1
  have HML : Hid (lm.length = m) := (bytesAt_src hM).1
  clear hT hK hM hSK hSM
  have n1 : ¬ (200 : Int) < (n : Int) := by omega
  have n2 : ¬ (200 : Int) < (m : Int) := by omega
  have n3 : ¬ ((z : Nat) : Int) < 0 := by omega
  have n4 : ¬ (64 : Int) < ((z : Nat) : Int) := by omega
  have n5 : ((n + z : Nat) : Int) ≤ 64 := by omega
  go_enter Tryd.func4, Tryd.ntmps4
  go_wp2_with fail
  refine (anchor_any w HT.out).mono ?_
  rintro e w1 ⟨rfl, hb1⟩
  have HB1 : Hid (Below w.heap.size w w1) := hb1
  have hs1 := hb1.size
  clear hb1
  have hbA : Below w1.heap.size w1 (w1.alloc (Obj.cells (arr .u8 []) 5)) := (Below.refl _ _).alloc (Nat.le_refl _) _
  have HO2 : Hid ((w1.alloc (Obj.cells (arr .u8 []) 5)).ownsRow w1.heap.size 5 1 (.slice (some ⟨w1.heap.size, 0, none⟩) 0 0) 0 (ints .u8 [])) :=
    ⟨by simp [ints], .inr ⟨w1.heap.size, 0, arr .u8 [], rfl, Nat.le_refl _, heap_alloc_new w1 _, Nat.le_refl _, by decide, rfl, rfl⟩⟩
  have HB2 : Hid (Below w.heap.size w (w1.alloc (Obj.cells (arr .u8 []) 5))) := HB1.out.trans (hbA.mono hs1)
  have hsz2 : w1.heap.size ≤ (w1.alloc (Obj.cells (arr .u8 []) 5)).heap.size := by simp
  clear hbA
  go_wp2_with (first | with_reducible (refine stop_builtin .append ?_))
  refine Stop.go ?_
  rw [show (Obj.cells #[] 5 : Obj) = Obj.cells (arr .u8 []) 5 from rfl]
  with_reducible refine law_append w1.heap.size (.slice (some ⟨w1.heap.size, 0, none⟩) 0 0) 0 (ints .u8 []) (.slice p n c) key ?asv ?axv HO2.out (SrcIs.below HSK.out HB2.out) (by rw [HKL.out]; omega) hsz2 ?ak
  case asv => exact rfl
  case axv => exact rfl
  intro v3 w3 ho3 hg3
  rw [← ints_append, List.nil_append, Nat.zero_add, HKL.out] at ho3
  have HO3 : Hid (w3.ownsRow w1.heap.size 5 1 v3 n (ints .u8 key)) := ho3
  have HB3 : Hid (Below w.heap.size w w3) := below_grown' HB2.out hg3 HO2.out HB2.out.size hs1
  have hs3 : w1.heap.size ≤ w3.heap.size := Nat.le_trans hsz2 hg3.size
  clear ho3 hg3 HO2 HB2 hsz2
  go_wp2_with (first | with_reducible (refine stop_builtin .append ?_))
  refine Stop.go ?_
  with_reducible refine law_append_noughts w1.heap.size v3 n (ints .u8 key) z ?bsv ?bxv HO3.out (by omega) hs3 ?bk
  case bsv => exact rfl
  case bxv => exact rfl
  intro v4 w4 ho4 hg4
  rw [← ints_append] at ho4
  have HO4 : Hid (w4.ownsRow w1.heap.size 5 1 v4 (n + z) (ints .u8 (key ++ List.replicate z 0))) := ho4
  have HB4 : Hid (Below w.heap.size w w4) := below_grown' HB3.out hg4 HO3.out HB3.out.size hs1
  clear ho4 hg4 HO3 HB3
  obtain ⟨q4, c4, rfl⟩ := own_slice HO4.out
  have HLL : Hid ((key ++ List.replicate z 0).length = n + z) := by
    show _ = _
    rw [List.length_append, HKL.out, List.length_replicate]
  have HLS : Hid (∀ x ∈ key ++ List.replicate z 0, x < 256) := fun x hx => by
    rcases List.mem_append.1 hx with h | h
    · exact HK.out.1 x h
    · rw [(List.mem_replicate.1 h).2]; decide
  have HVL4 : Hid (BytesAt w4 (.slice q4 (n + z) c4) (key ++ List.replicate z 0)) := by
    have := bytesAt_own (l := key ++ List.replicate z 0) HLS.out (by rw [HLL.out]; exact HO4.out)
    exact this
  have hkn : key.length ≤ 100000 := by rw [HKL.out]; omega
  have hln : (key ++ List.replicate z 0).length ≤ 100000 := by rw [HLL.out]; omega
  have hmn : lm.length ≤ 1000000 := by rw [HML.out]; omega
  have HVX4 : Hid (BytesAt w4 (.slice p n c) key) := bytesAt_below HK.out HB4.out
  have HVM4 : Hid (BytesAt w4 (.slice q m d) lm) := bytesAt_below HM.out HB4.out
  have HVS4 : Hid (SrcIs w4 (.slice q m d) lm) := SrcIs.below HSM.out HB4.out
  have HMS : Hid (∀ x ∈ lm, x < 256) := HM.out.1
  have HT4 : Hid (Tab w4) := tab_below HT.out HB4.out
  clear HO4 HK HM HSK HSM
  have HCC : Hid (Mk.code (key ++ List.replicate z 0) lm = Mk.code key lm) := code_noughts key lm z (by rw [HKL.out]; exact hl)
  go_wp2_with fail
  have hT1 := HT4.out
  refine wp_region_inv (shortV (.slice q4 (n + z) c4) (.slice p n c) (.slice q m d) key lm) (fun u u' => Below u.heap.size u u') (by kernel_rfl) ((Below.refl _ _).drew) below_trans' (shortV_kept _ _ _ _ _) (by kernel_rfl) ?_ ?_
  · intro i o a' w' hi inv hpre
    have hb : Below w4.heap.size w4 w' := inv.grow
    have hlt : i < 12 := (Array.getElem?_eq_some_iff.1 hi).1
    obtain rfl|rfl|rfl|rfl|rfl|rfl|rfl|rfl|rfl|rfl|rfl|rfl : i = 0 ∨ i = 1 ∨ i = 2 ∨ i = 3 ∨ i = 4 ∨ i = 5 ∨ i = 6 ∨ i = 7 ∨ i = 8 ∨ i = 9 ∨ i = 10 ∨ i = 11 := by omega
    · obtain rfl := Option.some.inj hi
      exact st_value _ rfl rfl rfl (Below.refl _ _) (by show a'.tmps.getD 7 undef = _; rw [inv.old 7 (notDst_spec (by kernel_rfl))]; rfl)
    · obtain rfl := Option.some.inj hi
      exact st_value _ rfl rfl rfl (Below.refl _ _) (by show a'.tmps.getD 2 undef = _; rw [inv.old 2 (notDst_spec (by kernel_rfl))]; rfl)
    · obtain rfl := Option.some.inj hi
      have h0 : a'.tmps.getD 35 undef = _ := pre_of hpre 1 35 (by kernel_rfl) (by kernel_rfl)
      refine st_value (.slice (some ⟨w'.heap.size, 0, none⟩) 1 1) rfl rfl (build1_run 35 rfl h0) ((Below.refl _ _).alloc (Nat.le_refl _) _) ?_
      exact ⟨_, rfl, rangeAt_of_row (heap_alloc_new w' _)⟩
    · obtain rfl := Option.some.inj hi
      have h0 := pre_of hpre 0 34 (by kernel_rfl) (by kernel_rfl)
      have h1 := pre_of hpre 2 36 (by kernel_rfl) (by kernel_rfl)
      refine st_call 11 #[a'.tmps.getD 34 undef, a'.tmps.getD 36 undef] rfl rfl (by kernel_rfl) ?_
      exact (by have h := code1_step (kv := a'.tmps.getD 34 undef) (tab_below hT1 hb) (by rw [h0]; exact bytesAt_below HVL4.out hb) h1 (bytesAt_below HVM4.out hb) hln hmn; rw [HCC.out] at h; exact h)
    · obtain rfl := Option.some.inj hi
      have h0 := pre_of hpre 3 37 (by kernel_rfl) (by kernel_rfl)
      exact st_value _ rfl rfl (conv_run 37 rfl h0) (Below.refl _ _) rfl
    · obtain rfl := Option.some.inj hi
      exact st_value _ rfl rfl rfl (Below.refl _ _) (by show a'.tmps.getD 0 undef = _; rw [inv.old 0 (notDst_spec (by kernel_rfl))]; rfl)
    · obtain rfl := Option.some.inj hi
      exact st_value _ rfl rfl rfl (Below.refl _ _) (by show a'.tmps.getD 2 undef = _; rw [inv.old 2 (notDst_spec (by kernel_rfl))]; rfl)
    · obtain rfl := Option.some.inj hi
      have h0 : a'.tmps.getD 40 undef = _ := pre_of hpre 6 40 (by kernel_rfl) (by kernel_rfl)
      refine st_value (.slice (some ⟨w'.heap.size, 0, none⟩) 1 1) rfl rfl (build1_run 40 rfl h0) ((Below.refl _ _).alloc (Nat.le_refl _) _) ?_
      exact ⟨_, rfl, rangeAt_of_row (heap_alloc_new w' _)⟩
    · obtain rfl := Option.some.inj hi
      have h0 := pre_of hpre 5 39 (by kernel_rfl) (by kernel_rfl)
      have h1 := pre_of hpre 7 41 (by kernel_rfl) (by kernel_rfl)
      refine st_call 11 #[a'.tmps.getD 39 undef, a'.tmps.getD 41 undef] rfl rfl (by kernel_rfl) ?_
      exact code1_step (tab_below hT1 hb) (by rw [h0]; exact bytesAt_below HVX4.out hb) h1 (bytesAt_below HVM4.out hb) hkn hmn
    · obtain rfl := Option.some.inj hi
      have h0 := pre_of hpre 8 42 (by kernel_rfl) (by kernel_rfl)
      exact st_value _ rfl rfl (conv_run 42 rfl h0) (Below.refl _ _) rfl
    · obtain rfl := Option.some.inj hi
      have h0 : a'.tmps.getD 38 undef = _ := pre_of hpre 4 38 (by kernel_rfl) (by kernel_rfl)
      have h1 : a'.tmps.getD 43 undef = _ := pre_of hpre 9 43 (by kernel_rfl) (by kernel_rfl)
      exact st_value (.bool true) rfl rfl (eq_run 38 43 rfl h0 h1) (Below.refl _ _) rfl
    · obtain rfl := Option.some.inj hi
      have h0 : a'.tmps.getD 44 undef = _ := pre_of hpre 10 44 (by kernel_rfl) (by kernel_rfl)
      exact st_value _ rfl rfl rfl (Below.refl _ _) h0
  · intro a' w' inv hd
    have h0 : a'.tmps.getD 6 undef = _ := hd 11 6 (by kernel_rfl)
    have hb : Below w4.heap.size w4 w' := inv.grow
    have hb7 : Below w.heap.size w w' := HB4.out.trans (hb.mono HB4.out.size)
    have hdf : a'.defers = [] := inv.defers
    clear inv hd hb
    go_wp2
    exact ⟨hdf, _, results_tmp rfl _ _ _, by rw [h0], hb7⟩
theorem rcode_step {w : World} {key m : List Nat} {p : Option Addr} {n c : Nat} {mv : Value} (hK : BytesAt w (.slice p n c) key) (hn : n ≤ 1000) (hM : SrcIs w mv m) (hms : ∀ x ∈ m, x < 256) (hm : m.length ≤ 900) :
    Calls Tryd.prog 10 #[.slice p n c, mv] w fun e w2 => ∃ v, e = .returned v ∧ Below w.heap.size w w2 ∧ BV (Mk.code key m) v w2 := by
  refine (rcode_any key m p n c mv w hK hn hM hms hm).mono ?_
  rintro e w2 ⟨v, rfl, h1, h2⟩
  exact ⟨_, rfl, h2, bytesAt_own (Mk.code_small _ _) (by rw [Mk.code_length]; exact h1)⟩
def longerV (k : Value) (y : Value) (C : List Nat) : Nat → Value → World → Prop
  | 0 => IsV k
  | 1 => IsV y
  | 2 => PartsV [y]
  | 3 => BV C
  | 4 => StrV C
  | 5 => IsV k
  | 6 => IsV y
  | 7 => BV C
  | 8 => StrV C
  | 9 => IsV (.bool true)
  | 10 => IsV (.bool true)
  | _ => fun _ _ => True
theorem longerV_kept (k : Value) (y : Value) (C : List Nat) : ∀ i v w w', longerV k y C i v w → Below w.heap.size w w' → longerV k y C i v w'
  | 0, _, _, _, h, _ => h
  | 1, _, _, _, h, _ => h
  | 2, _, _, _, h, hb => PartsV.kept h hb
  | 3, _, _, _, h, hb => BV.kept h hb
  | 4, _, _, _, h, _ => h
  | 5, _, _, _, h, _ => h
  | 6, _, _, _, h, _ => h
  | 7, _, _, _, h, hb => BV.kept h hb
  | 8, _, _, _, h, _ => h
  | 9, _, _, _, h, _ => h
  | 10, _, _, _, h, _ => h
  | _ + 11, _, _, _, _, _ => trivial
set_option maxHeartbeats 2000000 in
theorem keys_long (key lm : List Nat) (p q : Option Addr) (n c m d z : Nat) (w : World) (hT : Tab w) (hK : BytesAt w (.slice p n c) key) (hSK : SrcIs w (.slice p n c) key) (hM : BytesAt w (.slice q m d) lm) (hSM : SrcIs w (.slice q m d) lm) (hn : n ≤ 200) (hm : m ≤ 200) (hz : z ≤ 64) (hl : 64 < n + z) :
    Calls Tryd.prog 4 #[.slice p n c, .int .i64 (z : Nat), .slice q m d] w fun e w' => e = .returned (.bool true) ∧ Below w.heap.size w w' := by
  have HT : Hid (Tab w) := hT
  have HK : Hid (BytesAt w (.slice p n c) key) := hK
  have HM : Hid (BytesAt w (.slice q m d) lm) := hM
  have HSK : Hid (SrcIs w (.slice p n c) key) := hSK
  have HSM : Hid (SrcIs w (.slice q m d) lm) := hSM
  have HKL : Hid (key.length = n) := (bytesAt_src hK).1
  have HML : Hid (lm.length = m) := (bytesAt_src hM).1
  clear hT hK hM hSK hSM
  have n1 : ¬ (200 : Int) < (n : Int) := by omega
  have n2 : ¬ (200 : Int) < (m : Int) := by omega
  have n3 : ¬ ((z : Nat) : Int) < 0 := by omega
  have n4 : ¬ (64 : Int) < ((z : Nat) : Int) := by omega
  have n5 : ¬ ((n + z : Nat) : Int) ≤ 64 := by omega
  go_enter Tryd.func4, Tryd.ntmps4
  go_wp2_with fail
  refine (anchor_any w HT.out).mono ?_
  rintro e w1 ⟨rfl, hb1⟩
  have HB1 : Hid (Below w.heap.size w w1) := hb1
  have hs1 := hb1.size
  clear hb1
  have hbA : Below w1.heap.size w1 (w1.alloc (Obj.cells (arr .u8 []) 5)) := (Below.refl _ _).alloc (Nat.le_refl _) _
  have HO2 : Hid ((w1.alloc (Obj.cells (arr .u8 []) 5)).ownsRow w1.heap.size 5 1 (.slice (some ⟨w1.heap.size, 0, none⟩) 0 0) 0 (ints .u8 [])) :=
    ⟨by simp [ints], .inr ⟨w1.heap.size, 0, arr .u8 [], rfl, Nat.le_refl _, heap_alloc_new w1 _, Nat.le_refl _, by decide, rfl, rfl⟩⟩
  have HB2 : Hid (Below w.heap.size w (w1.alloc (Obj.cells (arr .u8 []) 5))) := HB1.out.trans (hbA.mono hs1)
  have hsz2 : w1.heap.size ≤ (w1.alloc (Obj.cells (arr .u8 []) 5)).heap.size := by simp
  clear hbA
  go_wp2_with (first | with_reducible (refine stop_builtin .append ?_))
  refine Stop.go ?_
  rw [show (Obj.cells #[] 5 : Obj) = Obj.cells (arr .u8 []) 5 from rfl]
  with_reducible refine law_append w1.heap.size (.slice (some ⟨w1.heap.size, 0, none⟩) 0 0) 0 (ints .u8 []) (.slice p n c) key ?asv ?axv HO2.out (SrcIs.below HSK.out HB2.out) (by rw [HKL.out]; omega) hsz2 ?ak
  case asv => exact rfl
  case axv => exact rfl
  intro v3 w3 ho3 hg3
  rw [← ints_append, List.nil_append, Nat.zero_add, HKL.out] at ho3
  have HO3 : Hid (w3.ownsRow w1.heap.size 5 1 v3 n (ints .u8 key)) := ho3
  have HB3 : Hid (Below w.heap.size w w3) := below_grown' HB2.out hg3 HO2.out HB2.out.size hs1
  have hs3 : w1.heap.size ≤ w3.heap.size := Nat.le_trans hsz2 hg3.size
  clear ho3 hg3 HO2 HB2 hsz2
  go_wp2_with (first | with_reducible (refine stop_builtin .append ?_))
  refine Stop.go ?_
  with_reducible refine law_append_noughts w1.heap.size v3 n (ints .u8 key) z ?bsv ?bxv HO3.out (by omega) hs3 ?bk
  case bsv => exact rfl
  case bxv => exact rfl
  intro v4 w4 ho4 hg4
  rw [← ints_append] at ho4
  have HO4 : Hid (w4.ownsRow w1.heap.size 5 1 v4 (n + z) (ints .u8 (key ++ List.replicate z 0))) := ho4
  have HB4 : Hid (Below w.heap.size w w4) := below_grown' HB3.out hg4 HO3.out HB3.out.size hs1
  clear ho4 hg4 HO3 HB3
  obtain ⟨q4, c4, rfl⟩ := own_slice HO4.out
  have HLL : Hid ((key ++ List.replicate z 0).length = n + z) := by
    show _ = _
    rw [List.length_append, HKL.out, List.length_replicate]
  have HLS : Hid (∀ x ∈ key ++ List.replicate z 0, x < 256) := fun x hx => by
    rcases List.mem_append.1 hx with h | h
    · exact HK.out.1 x h
    · rw [(List.mem_replicate.1 h).2]; decide
  have HVL4 : Hid (BytesAt w4 (.slice q4 (n + z) c4) (key ++ List.replicate z 0)) := by
    have := bytesAt_own (l := key ++ List.replicate z 0) HLS.out (by rw [HLL.out]; exact HO4.out)
    exact this
  have hkn : key.length ≤ 100000 := by rw [HKL.out]; omega
  have hln : (key ++ List.replicate z 0).length ≤ 100000 := by rw [HLL.out]; omega
  have hmn : lm.length ≤ 1000000 := by rw [HML.out]; omega
  have HVX4 : Hid (BytesAt w4 (.slice p n c) key) := bytesAt_below HK.out HB4.out
  have HVM4 : Hid (BytesAt w4 (.slice q m d) lm) := bytesAt_below HM.out HB4.out
  have HVS4 : Hid (SrcIs w4 (.slice q m d) lm) := SrcIs.below HSM.out HB4.out
  have HMS : Hid (∀ x ∈ lm, x < 256) := HM.out.1
  have HT4 : Hid (Tab w4) := tab_below HT.out HB4.out
  clear HO4 HK HM HSK HSM
  go_wp2_with fail
  have hT1 := HT4.out
  obtain ⟨C, hC⟩ : ∃ C, Mk.code (key ++ List.replicate z 0) lm = C := ⟨_, rfl⟩
  have HC : Hid (Mk.code (key ++ List.replicate z 0) lm = C) := hC
  clear hC
  refine wp_region_inv (longerV (.slice q4 (n + z) c4) (.slice q m d) C) (fun u u' => Below u.heap.size u u') (by kernel_rfl) ((Below.refl _ _).drew) below_trans' (longerV_kept _ _ _) (by kernel_rfl) ?_ ?_
  · intro i o a' w' hi inv hpre
    have hb : Below w4.heap.size w4 w' := inv.grow
    have hlt : i < 11 := (Array.getElem?_eq_some_iff.1 hi).1
    obtain rfl|rfl|rfl|rfl|rfl|rfl|rfl|rfl|rfl|rfl|rfl : i = 0 ∨ i = 1 ∨ i = 2 ∨ i = 3 ∨ i = 4 ∨ i = 5 ∨ i = 6 ∨ i = 7 ∨ i = 8 ∨ i = 9 ∨ i = 10 := by omega
    · obtain rfl := Option.some.inj hi
      exact st_value _ rfl rfl rfl (Below.refl _ _) (by show a'.tmps.getD 7 undef = _; rw [inv.old 7 (notDst_spec (by kernel_rfl))]; rfl)
    · obtain rfl := Option.some.inj hi
      exact st_value _ rfl rfl rfl (Below.refl _ _) (by show a'.tmps.getD 2 undef = _; rw [inv.old 2 (notDst_spec (by kernel_rfl))]; rfl)
    · obtain rfl := Option.some.inj hi
      have h0 : a'.tmps.getD 46 undef = _ := pre_of hpre 1 46 (by kernel_rfl) (by kernel_rfl)
      refine st_value (.slice (some ⟨w'.heap.size, 0, none⟩) 1 1) rfl rfl (build1_run 46 rfl h0) ((Below.refl _ _).alloc (Nat.le_refl _) _) ?_
      exact ⟨_, rfl, rangeAt_of_row (heap_alloc_new w' _)⟩
    · obtain rfl := Option.some.inj hi
      have h0 := pre_of hpre 0 45 (by kernel_rfl) (by kernel_rfl)
      have h1 := pre_of hpre 2 47 (by kernel_rfl) (by kernel_rfl)
      refine st_call 11 #[a'.tmps.getD 45 undef, a'.tmps.getD 47 undef] rfl rfl (by kernel_rfl) ?_
      exact (by have h := code1_step (kv := a'.tmps.getD 45 undef) (tab_below hT1 hb) (by rw [h0]; exact bytesAt_below HVL4.out hb) h1 (bytesAt_below HVM4.out hb) hln hmn; rw [HC.out] at h; exact h)
    · obtain rfl := Option.some.inj hi
      have h0 := pre_of hpre 3 48 (by kernel_rfl) (by kernel_rfl)
      exact st_value _ rfl rfl (conv_run 48 rfl h0) (Below.refl _ _) rfl
    · obtain rfl := Option.some.inj hi
      exact st_value _ rfl rfl rfl (Below.refl _ _) (by show a'.tmps.getD 7 undef = _; rw [inv.old 7 (notDst_spec (by kernel_rfl))]; rfl)
    · obtain rfl := Option.some.inj hi
      exact st_value _ rfl rfl rfl (Below.refl _ _) (by show a'.tmps.getD 2 undef = _; rw [inv.old 2 (notDst_spec (by kernel_rfl))]; rfl)
    · obtain rfl := Option.some.inj hi
      have h0 := pre_of hpre 5 50 (by kernel_rfl) (by kernel_rfl)
      have h1 := pre_of hpre 6 51 (by kernel_rfl) (by kernel_rfl)
      refine st_call 10 #[a'.tmps.getD 50 undef, a'.tmps.getD 51 undef] rfl rfl (by kernel_rfl) ?_
      exact (by rw [h0, h1]; have h := rcode_step (bytesAt_below HVL4.out hb) (by omega) (SrcIs.below HVS4.out hb) HMS.out (by rw [HML.out]; omega); rw [HC.out] at h; exact h)
    · obtain rfl := Option.some.inj hi
      have h0 := pre_of hpre 7 52 (by kernel_rfl) (by kernel_rfl)
      exact st_value _ rfl rfl (conv_run 52 rfl h0) (Below.refl _ _) rfl
    · obtain rfl := Option.some.inj hi
      have h0 : a'.tmps.getD 49 undef = _ := pre_of hpre 4 49 (by kernel_rfl) (by kernel_rfl)
      have h1 : a'.tmps.getD 53 undef = _ := pre_of hpre 8 53 (by kernel_rfl) (by kernel_rfl)
      exact st_value (.bool true) rfl rfl (eq_run 49 53 rfl h0 h1) (Below.refl _ _) rfl
    · obtain rfl := Option.some.inj hi
      have h0 : a'.tmps.getD 54 undef = _ := pre_of hpre 9 54 (by kernel_rfl) (by kernel_rfl)
      exact st_value _ rfl rfl rfl (Below.refl _ _) h0
  · intro a' w' inv hd
    have h0 : a'.tmps.getD 6 undef = _ := hd 10 6 (by kernel_rfl)
    have hb : Below w4.heap.size w4 w' := inv.grow
    have hb7 : Below w.heap.size w w' := HB4.out.trans (hb.mono HB4.out.size)
    have hdf : a'.defers = [] := inv.defers
    clear inv hd hb
    go_wp2
    exact ⟨hdf, _, results_tmp rfl _ _ _, by rw [h0], hb7⟩
end Go.Proofs.YtnbdadhdpplldabDoor
