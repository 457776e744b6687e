/- The walk of ShaBytes. -/
import Derived.Test.YtnbdadhdpplldaaDoorInv2
namespace Go.Proofs.YtnbdadhdpplldaaDoor
open Go.RowKit
theorem hashAt_grown {w w' : World} {g h : Nat} {m : List Nat} (hh : HashAt w g m) (hg : w.grownBy w' (some h)) (hne : g ≠ h) : HashAt w' g m := by
  obtain ⟨st, blk, h1, h2⟩ := hh
  exact ⟨st, blk, h1, (hg.block g (Array.getElem?_eq_some_iff.1 h2).1 (fun e => hne (Option.some.inj e))).trans h2⟩
theorem bytesAt_part {w : World} {b o c : Nat} {l : List Nat} (hs : ∀ x ∈ l, x < 256) (hr : w.rangeAt b o (ints .u8 l)) (i k : Nat) (hk : i + k ≤ l.length) (hc : k ≤ c) :
    BytesAt w (.slice (some ⟨b, o + i, none⟩) k c) ((l.drop i).take k) := by
  have hl : ((l.drop i).take k).length = k := by simp; omega
  refine ⟨fun x hx => hs x (List.mem_of_mem_drop (List.mem_of_mem_take hx)), .inr ⟨b, o + i, c, by rw [hl], by omega, fun j v hv => ?_⟩⟩
  have hj : j < k := by
    have := (List.getElem?_eq_some_iff.1 hv).1
    rw [ints_length, hl] at this
    exact this
  have := hr (i + j) v (by rw [← hv]; simp [ints, hj])
  rwa [← Nat.add_assoc] at this
theorem bytesAt_head {w : World} {b o c : Nat} {l : List Nat} (hs : ∀ x ∈ l, x < 256) (hr : w.rangeAt b o (ints .u8 l)) (k : Nat) (hk : k ≤ l.length) (hc : k ≤ c) :
    BytesAt w (.slice (some ⟨b, o, none⟩) k c) (l.take k) := by
  have := bytesAt_part hs hr 0 k (by omega) hc
  simpa using this
theorem bytesAt_tail {w : World} {b o c : Nat} {l : List Nat} (hs : ∀ x ∈ l, x < 256) (hr : w.rangeAt b o (ints .u8 l)) (k n : Nat) (hn : l.length = n) (hk : k ≤ n) (hc : n ≤ c) (pd : Option Addr)
    (hp : (if c = k then some (⟨b, o, none⟩ : Addr) else some ⟨b, o + k, none⟩) = pd) :
    BytesAt w (.slice pd (n - k) (c - k)) (l.drop k) ∧ (Value.slice pd (n - k) (c - k)).ownBlock = some b := by
  subst hp
  by_cases h : c = k
  · refine ⟨⟨fun x hx => hs x (List.mem_of_mem_drop hx), .inl ⟨_, _, by rw [show n - k = 0 from by omega], List.drop_eq_nil_of_le (by omega)⟩⟩, ?_⟩
    rw [if_pos h]; rfl
  · rw [if_neg h]
    have := bytesAt_part (c := c - k) hs hr k (n - k) (by omega) (by omega)
    rw [List.take_of_length_le (by simp; omega)] at this
    exact ⟨this, rfl⟩
set_option maxHeartbeats 1000000 in
theorem shaBytes_any (b o c : Nat) (l : List Nat) (at_ : Int) (w : World) (hs : ∀ x ∈ l, x < 256) (hc : l.length ≤ c) (hr : w.rangeAt b o (ints .u8 l)) (hT : Tab w) (hbw : b < w.heap.size)
    (h1 : l.length ≤ 200) (h2 : 0 ≤ at_) (h3 : at_ ≤ 9223372036854775807) (hcm : c ≤ 9223372036854775807) :
    Calls Tryd.prog 7 #[.slice (some ⟨b, o, none⟩) l.length c, .int .i64 at_] w fun e w' => e = .returned (.bool true) ∧ Below w.heap.size w w' := by
  generalize hn : l.length = n at *
  have HN : Hid (l.length = n) := hn
  have HS : Hid _ := hs
  have HR : Hid (w.rangeAt b o (ints .u8 l)) := hr
  have HT : Hid (Tab w) := hT
  clear hn hs hr hT
  have n200 : (n : Int) ≤ 200 := by omega
  have nat0 : ¬ at_ < 0 := by omega
  go_enter Tryd.func7, Tryd.ntmps7
  go_wp2_with fail
  refine (anchor_any w HT.out).mono ?_
  rintro e w1 ⟨rfl, hb1⟩
  have hsz1 := hb1.size
  have HB1 : Hid _ := hb1
  clear hb1
  go_wp2_with (go_at_call 12; refine (new_any _).mono ?_; rintro e w' ⟨rfl, rfl⟩)
  go_loopw [22, 7] (fun i _ wr => ∃ k : Nat, k ≤ n ∧ i = .int .i64 k ∧ Hid (HashAt wr w1.heap.size (l.take k)) ∧ Hid (HashAt wr (w1.heap.size + 1) []) ∧ Hid (Below w.heap.size w wr)) (fun i _ _ => n - (intOf i).toNat)
  case atStart =>
    refine ⟨0, by omega, rfl, ?_, ?_, ?_⟩
    · exact hashAt_below (hashAt_new w1) (Below.heap_alloc _ _ _ (by simp))
    · have := hashAt_new (w1.alloc (.cells hash0 47))
      show HashAt _ _ _
      simpa using this
    · exact ((HB1.out.alloc hsz1 _).alloc (by simp; omega) _)
  case round =>
    obtain ⟨k, hk, rfl, HA, HC, HB⟩ := hrel
    by_cases hlt : k < n
    · have kc : ¬ c = k := by omega
      have k0 : (0 : Int) ≤ (k : Int) := by omega
      have k1 : (k : Int) + 1 ≤ (c : Int) := by omega
      go_wp2_with fail
      refine (write_any w1.heap.size (l.take k) ((l.drop k).take 1) _ _ HA.out (bytesAt_part HS.out (rangeAt_below HB.out HR.out) k 1 (by rw [HN.out]; omega) (by omega)) (fun _ e => by have := Option.some.inj e; simp at this; omega) (tab_below HT.out HB.out) (by omega) (by simp; omega)).mono ?_
      rintro e w3 ⟨rfl, hA3, hg3⟩
      rw [← List.take_add] at hA3
      have hC3 := hashAt_grown HC.out hg3 (by omega)
      have hb3 : Below w.heap.size w w3 := below_grown HB.out hg3 HB.out.size (by omega)
      have HA3 : Hid _ := hA3
      have HC3 : Hid _ := hC3
      have HB3 : Hid _ := hb3
      clear hA3 hC3 hb3 hg3
      go_wp2_with fail
      go_roundw
      case rel => exact ⟨k + 1, by omega, by go_num, HA3.out, HC3.out, HB3.out⟩
      case measure => simp [intOf]; omega
    · obtain rfl : n = k := by omega
      have hA := HA.out
      rw [List.take_of_length_le (by rw [HN.out]; omega)] at hA
      have HA' : Hid (HashAt wr w1.heap.size l) := hA
      clear HA hA hlt hk
      obtain ⟨j, hj⟩ : ∃ j : Nat, at_ % ((n : Int) + 1) = (j : Int) := ⟨(at_ % ((n : Int) + 1)).toNat, by have := Int.emod_nonneg at_ (b := (n : Int) + 1) (by omega); omega⟩
      have hjn : (j : Int) ≤ (n : Int) := by have := Int.emod_lt_of_pos at_ (b := (n : Int) + 1) (by omega); omega
      have hjc : (j : Int) ≤ (c : Int) := by omega
      have hjn' : j ≤ n := by omega
      have hj0 : (0 : Int) ≤ (j : Int) := by omega
      obtain ⟨pd, hpd⟩ : ∃ pd : Option Addr, (if c = j then some (⟨b, o, none⟩ : Addr) else some ⟨b, o + j, none⟩) = pd := ⟨_, rfl⟩
      obtain ⟨ad, had⟩ : ∃ ad : Addr, (if c = j then (⟨b, o, none⟩ : Addr) else ⟨b, o + j, none⟩) = ad := ⟨_, rfl⟩
      have HPD : Hid _ := hpd
      have HAD : Hid _ := had
      go_wp2_with fail
      refine (write_any (w1.heap.size + 1) [] (l.take j) _ _ HC.out (bytesAt_head HS.out (rangeAt_below HB.out HR.out) j (by rw [HN.out]; omega) (by omega)) (fun _ e => by have := Option.some.inj e; simp at this; omega) (tab_below HT.out HB.out) (by omega) (by simp; omega)).mono ?_
      rintro e w3 ⟨rfl, hC3, hg3⟩
      have hA3 := hashAt_grown HA'.out hg3 (by omega)
      have hb3 : Below w.heap.size w w3 := below_grown HB.out hg3 HB.out.size (by omega)
      rw [List.nil_append] at hC3
      have HA3 : Hid _ := hA3
      have HC3 : Hid _ := hC3
      have HB3 : Hid _ := hb3
      clear hA3 hC3 hb3 hg3
      go_wp2_with fail
      obtain ⟨hbt, hob⟩ := bytesAt_tail HS.out (rangeAt_below HB3.out HR.out) j n HN.out hjn' hc pd HPD.out
      refine (write_any (w1.heap.size + 1) (l.take j) (l.drop j) _ _ HC3.out hbt (fun _ => by rw [hob]; exact fun e => by have := Option.some.inj e; omega) (tab_below HT.out HB3.out) (by omega) (by simp; have := HN.out; omega)).mono ?_
      rintro e w4 ⟨rfl, hC4, hg4⟩
      have hA4 := hashAt_grown HA3.out hg4 (by omega)
      have hb4 : Below w.heap.size w w4 := below_grown HB3.out hg4 HB3.out.size (by omega)
      rw [List.take_append_drop] at hC4
      have HA4 : Hid _ := hA4
      have HC4 : Hid _ := hC4
      have HB4 : Hid _ := hb4
      clear hA4 hC4 hb4 hg4 hbt hob
      go_wp2_with fail
      have hT4 := tab_below HT.out HB4.out
      have hX : BytesAt w4 (.slice (some ⟨b, o, none⟩) n c) l := ⟨HS.out, .inr ⟨b, o, c, by rw [HN.out], by rw [HN.out]; exact hc, rangeAt_below HB4.out HR.out⟩⟩
      have hlt5 : l.length < 576460752303423488 := by rw [HN.out]; omega
      refine wp_region_inv (twoV w1.heap.size (w1.heap.size + 1) l l (.slice (some ⟨b, o, none⟩) n c) (.slice (some ⟨b, o, none⟩) n c)) (fun u u' => Below u.heap.size u u') (by kernel_rfl) ((Below.refl _ _).drew) below_trans' (twoV_kept _ _ _ _ _ _) (by kernel_rfl) ?_ ?_
      · intro i o a' w' hi inv hpre
        have hb : Below w4.heap.size w4 w' := inv.grow
        have hlt : i < 19 := (Array.getElem?_eq_some_iff.1 hi).1
        obtain rfl|rfl|rfl|rfl|rfl|rfl|rfl|rfl|rfl|rfl|rfl|rfl|rfl|rfl|rfl|rfl|rfl|rfl|rfl : i = 0 ∨ i = 1 ∨ i = 2 ∨ i = 3 ∨ i = 4 ∨ i = 5 ∨ i = 6 ∨ i = 7 ∨ i = 8 ∨ i = 9 ∨ i = 10 ∨ i = 11 ∨ i = 12 ∨ i = 13 ∨ i = 14 ∨ i = 15 ∨ i = 16 ∨ i = 17 ∨ i = 18 := by omega
        · obtain rfl := Option.some.inj hi
          exact st_value _ rfl rfl rfl (Below.refl _ _) (by show a'.tmps.getD 5 undef = _; rw [inv.old 5 (notDst_spec (by kernel_rfl))]; rfl)
        · obtain rfl := Option.some.inj hi
          have h0 : a'.tmps.getD 48 undef = _ := pre_of hpre 0 48 (by kernel_rfl) (by kernel_rfl)
          refine st_call 14 #[a'.tmps.getD 48 undef] rfl rfl (by kernel_rfl) ?_
          rw [h0]
          exact hsum_step HA4.out hT4 hlt5 hb
        · obtain rfl := Option.some.inj hi
          have h0 := pre_of hpre 1 49 (by kernel_rfl) (by kernel_rfl)
          exact st_value _ rfl rfl (conv_run 49 rfl h0) (Below.refl _ _) rfl
        · obtain rfl := Option.some.inj hi
          exact st_value _ rfl rfl rfl (Below.refl _ _) (by show a'.tmps.getD 0 undef = _; rw [inv.old 0 (notDst_spec (by kernel_rfl))]; rfl)
        · obtain rfl := Option.some.inj hi
          have h0 : a'.tmps.getD 51 undef = _ := pre_of hpre 3 51 (by kernel_rfl) (by kernel_rfl)
          refine st_value (.slice (some ⟨w'.heap.size, 0, none⟩) 1 1) rfl rfl (build_one 51 rfl h0) ((Below.refl _ _).alloc (Nat.le_refl _) _) ?_
          exact ⟨_, rfl, by rw [cell_of_row _ _ _ _ _ _ (heap_alloc_new w' _)]; rfl⟩
        · obtain rfl := Option.some.inj hi
          have h0 := pre_of hpre 4 52 (by kernel_rfl) (by kernel_rfl)
          refine st_call 10 #[a'.tmps.getD 52 undef] rfl rfl (by kernel_rfl) ?_
          exact sum1_step hX hT4 hlt5 hb h0
        · obtain rfl := Option.some.inj hi
          have h0 := pre_of hpre 5 53 (by kernel_rfl) (by kernel_rfl)
          exact st_value _ rfl rfl (conv_run 53 rfl h0) (Below.refl _ _) rfl
        · obtain rfl := Option.some.inj hi
          have h0 : a'.tmps.getD 50 undef = _ := pre_of hpre 2 50 (by kernel_rfl) (by kernel_rfl)
          have h1 : a'.tmps.getD 54 undef = _ := pre_of hpre 6 54 (by kernel_rfl) (by kernel_rfl)
          exact st_value (.bool true) rfl rfl (eq_run 50 54 rfl h0 h1) (Below.refl _ _) rfl
        · obtain rfl := Option.some.inj hi
          have h0 : a'.tmps.getD 55 undef = _ := pre_of hpre 7 55 (by kernel_rfl) (by kernel_rfl)
          exact st_value _ rfl rfl rfl (Below.refl _ _) h0
        · obtain rfl := Option.some.inj hi
          have h8 : a'.tmps.getD 56 undef = _ := pre_of hpre 8 56 (by kernel_rfl) (by kernel_rfl)
          exact st_value _ rfl (wanted_of 8 56 rfl (by kernel_rfl) h8) rfl (Below.refl _ _) (by show a'.tmps.getD 6 undef = _; rw [inv.old 6 (notDst_spec (by kernel_rfl))]; rfl)
        · obtain rfl := Option.some.inj hi
          have h8 : a'.tmps.getD 56 undef = _ := pre_of hpre 8 56 (by kernel_rfl) (by kernel_rfl)
          have h0 : a'.tmps.getD 57 undef = _ := pre_of hpre 9 57 (by kernel_rfl) (by kernel_rfl)
          refine st_call 14 #[a'.tmps.getD 57 undef] rfl (wanted_of 8 56 rfl (by kernel_rfl) h8) (by kernel_rfl) ?_
          rw [h0]
          exact hsum_step HC4.out hT4 hlt5 hb
        · obtain rfl := Option.some.inj hi
          have h8 : a'.tmps.getD 56 undef = _ := pre_of hpre 8 56 (by kernel_rfl) (by kernel_rfl)
          have h0 := pre_of hpre 10 58 (by kernel_rfl) (by kernel_rfl)
          exact st_value _ rfl (wanted_of 8 56 rfl (by kernel_rfl) h8) (conv_run 58 rfl h0) (Below.refl _ _) rfl
        · obtain rfl := Option.some.inj hi
          have h8 : a'.tmps.getD 56 undef = _ := pre_of hpre 8 56 (by kernel_rfl) (by kernel_rfl)
          exact st_value _ rfl (wanted_of 8 56 rfl (by kernel_rfl) h8) rfl (Below.refl _ _) (by show a'.tmps.getD 0 undef = _; rw [inv.old 0 (notDst_spec (by kernel_rfl))]; rfl)
        · obtain rfl := Option.some.inj hi
          have h8 : a'.tmps.getD 56 undef = _ := pre_of hpre 8 56 (by kernel_rfl) (by kernel_rfl)
          have h0 : a'.tmps.getD 60 undef = _ := pre_of hpre 12 60 (by kernel_rfl) (by kernel_rfl)
          refine st_value (.slice (some ⟨w'.heap.size, 0, none⟩) 1 1) rfl (wanted_of 8 56 rfl (by kernel_rfl) h8) (build_one 60 rfl h0) ((Below.refl _ _).alloc (Nat.le_refl _) _) ?_
          exact ⟨_, rfl, by rw [cell_of_row _ _ _ _ _ _ (heap_alloc_new w' _)]; rfl⟩
        · obtain rfl := Option.some.inj hi
          have h8 : a'.tmps.getD 56 undef = _ := pre_of hpre 8 56 (by kernel_rfl) (by kernel_rfl)
          have h0 := pre_of hpre 13 61 (by kernel_rfl) (by kernel_rfl)
          refine st_call 10 #[a'.tmps.getD 61 undef] rfl (wanted_of 8 56 rfl (by kernel_rfl) h8) (by kernel_rfl) ?_
          exact sum1_step hX hT4 hlt5 hb h0
        · obtain rfl := Option.some.inj hi
          have h8 : a'.tmps.getD 56 undef = _ := pre_of hpre 8 56 (by kernel_rfl) (by kernel_rfl)
          have h0 := pre_of hpre 14 62 (by kernel_rfl) (by kernel_rfl)
          exact st_value _ rfl (wanted_of 8 56 rfl (by kernel_rfl) h8) (conv_run 62 rfl h0) (Below.refl _ _) rfl
        · obtain rfl := Option.some.inj hi
          have h8 : a'.tmps.getD 56 undef = _ := pre_of hpre 8 56 (by kernel_rfl) (by kernel_rfl)
          have h0 : a'.tmps.getD 59 undef = _ := pre_of hpre 11 59 (by kernel_rfl) (by kernel_rfl)
          have h1 : a'.tmps.getD 63 undef = _ := pre_of hpre 15 63 (by kernel_rfl) (by kernel_rfl)
          exact st_value (.bool true) rfl (wanted_of 8 56 rfl (by kernel_rfl) h8) (eq_run 59 63 rfl h0 h1) (Below.refl _ _) rfl
        · obtain rfl := Option.some.inj hi
          have h0 : a'.tmps.getD 56 undef = _ := pre_of hpre 8 56 (by kernel_rfl) (by kernel_rfl)
          have h1 : a'.tmps.getD 64 undef = _ := pre_of hpre 16 64 (by kernel_rfl) (by kernel_rfl)
          exact st_value (.bool true) rfl rfl (pick_step h0 h1 rfl) (Below.refl _ _) rfl
        · obtain rfl := Option.some.inj hi
          have h0 : a'.tmps.getD 65 undef = _ := pre_of hpre 17 65 (by kernel_rfl) (by kernel_rfl)
          exact st_value _ rfl rfl rfl (Below.refl _ _) h0
      · intro a' w' inv hd
        have h0 : a'.tmps.getD 4 undef = _ := hd 18 4 (by kernel_rfl)
        have hb : Below w4.heap.size w4 w' := inv.grow
        have hb5 : Below w.heap.size w w' := HB4.out.trans (hb.mono HB4.out.size)
        have hdf : a'.defers = [] := inv.defers
        clear inv hd hb
        go_wp2
        exact ⟨hdf, _, results_tmp rfl _ _ _, by rw [h0], hb5⟩
end Go.Proofs.YtnbdadhdpplldaaDoor
