/- The contracts of sha.New and of a hash's Write. -/
import Derived.Test.YtnbdadhdpplldabDoorMix
import Derived.Test.YtnbdadhdpplldabDoorSpread
import Derived.Test.YtnbdadhdpplldabDoorLaws2
namespace Go.Proofs.YtnbdadhdpplldabDoor
open Go.RowKit
/-- At block g lies a hash of the bytes m. -/
def HashAt (w : World) (g : Nat) (m : List Nat) : Prop := ∃ st blk, Sp.IsHash m st blk ∧ w.heap[g]? = some (.cells (hashV st blk m.length).toArray 57 (0, 0))
def hash0 : Array Value := (hashV Sp.init.list (List.replicate 64 0) 0).toArray
set_option maxHeartbeats 400000 in
theorem new_any (w : World) : Calls Tryd.prog 19 #[] w fun e w' => e = .returned (.pointer (some ⟨w.heap.size, 0, none⟩)) ∧ w' = w.alloc (.cells hash0 57) := by
  go_enter Tryd.func19, Tryd.ntmps19
  go_wp2_with (with_reducible (refine stop_build 57 ?_))
  refine Stop.go ?_
  with_reducible refine law_build hash0 ?hb ?hk
  case hb => kernel_rfl
  go_wp2
  go_ret
  exact ⟨rfl, rfl⟩
theorem hashAt_new (w : World) : HashAt (w.alloc (.cells hash0 57)) w.heap.size [] := ⟨_, _, Sp.isHash_new, heap_alloc_new w _⟩

theorem tab_grown {w w' : World} {g : Nat} (hT : Tab w) (h : w.grownBy w' (some g)) (hg : g ≠ 0) : Tab w' := fun i hi => by
  have h1 := hT i hi
  rw [← h1]
  exact World.cell?_of_block (h.block 0 (World.block_lt_of_cell? w ⟨0, i, none⟩ h1) (fun e => hg (Option.some.inj e).symm))
/-- The bytes that a slice's value stands for. -/
def BytesAt (w : World) (v : Value) (l : List Nat) : Prop :=
  (∀ x ∈ l, x < 256) ∧ ((∃ p c, v = .slice p 0 c ∧ l = []) ∨ ∃ b o c, v = .slice (some ⟨b, o, none⟩) l.length c ∧ l.length ≤ c ∧ w.rangeAt b o (ints .u8 l))
def lenOf : Value → Nat | .slice _ n _ => n | _ => 0
theorem isHash_st {m st blk : List Nat} (h : Sp.IsHash m st blk) : st.length = 8 := by rw [h.st]; rfl

set_option maxHeartbeats 1000000 in
theorem write_any (g : Nat) (m l : List Nat) (v : Value) (w : World) (hh : HashAt w g m) (hv : BytesAt w v l) (hg : l ≠ [] → v.ownBlock ≠ some g) (hT : Tab w) (hg0 : g ≠ 0) (hn : m.length + l.length < 1152921504606846976) :
    Calls Tryd.prog 20 #[.pointer (some ⟨g, 0, none⟩), v] w fun e w' => e = .returned (.tuple #[]) ∧ HashAt w' g (m ++ l) ∧ w.grownBy w' (some g) := by
  go_enter Tryd.func20, Tryd.ntmps20
  go_wp2
  go_loopw [1] (fun sl wr => ∃ m' l', Hid (m ++ l = m' ++ l') ∧ HashAt wr g m' ∧ BytesAt wr sl l' ∧ Hid (l' ≠ [] → sl.ownBlock ≠ some g) ∧ Hid (w.grownBy wr (some g))) (fun sl _ => lenOf sl)
  case atStart => exact ⟨m, l, rfl, hh, hv, hg, grownBy_refl _ _⟩
  case round =>
    have HT : Hid _ := hT
    clear hh hv hg hT
    obtain ⟨m', l', HE, hh, hv, Hg', HG0⟩ := hrel
    have hnn : m'.length + l'.length < 1152921504606846976 := by
      have := congrArg List.length HE.out
      simp only [List.length_append] at this
      omega
    obtain ⟨hsm, ⟨p, c, rfl, rfl⟩ | ⟨b, o, c, rfl, hc, hr⟩⟩ := hv
    · go_wp2
      go_end0
      refine ⟨rfl, ?_, HG0.out⟩
      rw [HE.out, List.append_nil]
      exact hh
    · by_cases hl0 : l' = []
      · subst hl0
        go_wp2
        go_end0
        refine ⟨rfl, ?_, HG0.out⟩
        rw [HE.out, List.append_nil]
        exact hh
      · obtain ⟨st, blk, hi, hheap⟩ := hh
        have hst := isHash_st hi
        have hbl := hi.len
        generalize hN : m'.length = N at *
        generalize hL : l'.length = L at *
        have hLp : 0 < L := by cases l' with | nil => exact absurd rfl hl0 | cons x y => simp at hL; omega
        have hbg : b ≠ g := fun e => Hg'.out hl0 (by rw [e]; rfl)
        obtain ⟨r, hr'⟩ : ∃ r, r = N % 64 := ⟨_, rfl⟩
        have er : (N : Int) % 64 = (r : Int) := by omega
        have er' : (N : Int).tmod 64 = (r : Int) := by rw [Int.tmod_eq_emod_of_nonneg (by omega)]; exact er
        have hr64 : r < 64 := by omega
        have c72 := cell72 hst hbl hheap
        have HI : Hid _ := hi
        have HNN : Hid _ := hN
        have HLL : Hid _ := hL
        have HR : Hid _ := hr'
        have HH : Hid _ := hheap
        have HRG : Hid _ := hr
        have HS : Hid _ := hsm
        have HST : Hid _ := hst
        have HBL : Hid _ := hbl
        clear hi hN hL hr' hheap hr hl0 hsm hst hbl
        have r0 : (r : Int) < 64 := by omega
        have r1 : (0 : Int) ≤ (r : Int) := by omega
        have r2 : (r : Int) ≤ 64 := by omega
        have r3 : ¬ 64 = r := by omega
        obtain ⟨k, hk⟩ : ∃ k, k = min L (64 - r) := ⟨_, rfl⟩
        have hk1 : k ≤ L := by omega
        have hk2 : r + k ≤ 64 := by omega
        have HK : Hid _ := hk
        clear hk
        have Hn : Hid ((ints .u8 (l'.take k)).length = Nat.min L (64 - r)) := by
          show _ = _
          rw [ints_length, List.length_take, HLL.out, HK.out]
          show min (min L (64 - r)) L = min L (64 - r)
          omega
        have Hsrc : Hid (∀ j u, (ints .u8 (l'.take k))[j]? = some u → wr.cell? ((⟨b, o, none⟩ : Addr).add j) = some u) := fun j u hu => by
          rw [Addr.add_mid]
          apply HRG.out
          rw [← hu]
          have hj : j < k := by
            have := (List.getElem?_eq_some_iff.1 hu).1
            rw [ints_length, List.length_take] at this
            omega
          simp [ints, hj]
        have Hfit : Hid (8 + r + (ints .u8 (l'.take k)).length ≤ (hashV st blk N).length) := by
          show _ ≤ _
          rw [hashV_length HST.out HBL.out, ints_length, List.length_take]
          omega
        have Hone : Hid (∀ u ∈ ints .u8 (l'.take k), u.oneCell' = true) := fun u hu => by
          obtain ⟨q, _, rfl⟩ := List.mem_map.1 hu
          rfl
        go_wp2
        go_region_law (refine step_copy rfl (.tmp 16) (.tmp 17) 22 22 rfl 5 Tryd.underlying22 info5 (64 - r) (64 - r) L c g (8 + r) ⟨b, o, none⟩ rfl rfl (hashV st blk N) 57 HH.out (ints .u8 (l'.take k)) Hn.out Hsrc.out Hfit.out Hone.out ?_; intro w2 hsz HG HGR)
        have hlen : (ints .u8 (l'.take k)).length = k := by rw [Hn.out]; exact HK.out.symm
        have htk : (l'.take k).length = k := by rw [← ints_length .u8]; exact hlen
        rw [hlen]
        have hx2 : ∀ y ∈ l'.take k, y < 256 := fun y hy => HS.out y (List.mem_of_mem_take hy)
        have hdr : ∀ y ∈ l'.drop k, y < 256 := fun y hy => HS.out y (List.mem_of_mem_drop hy)
        have hG2 := HG.out
        rw [hashV_splice HST.out HBL.out N r (l'.take k) (by omega), htk] at hG2
        have hE2 : m ++ l = (m' ++ l'.take k) ++ l'.drop k := by rw [HE.out, List.append_assoc, List.take_append_drop]
        have hdl : (l'.drop k).length = L - k := by rw [List.length_drop, HLL.out]
        have hmk : (m' ++ l'.take k).length = N + k := by rw [List.length_append, HNN.out, htk]
        have hrg : wr.rangeAt b (o + k) (ints .u8 (l'.drop k)) := fun j u hu => by
          have := HRG.out (k + j) u (by rw [← hu]; simp [ints])
          rwa [← Nat.add_assoc] at this
        have hrg2 : w2.rangeAt b (o + k) (ints .u8 (l'.drop k)) := fun j u hu => by
          have h1 := hrg j u hu
          rw [← h1]
          exact World.cell?_of_block (HGR.out.block b (World.block_lt_of_cell? wr _ h1) (fun e => hbg (Option.some.inj e)))
        have hgr2 : w.grownBy w2 (some g) := grownBy_trans (grownBy_drewN HG0.out 1) HGR.out
        have hb2l : (blk.take r ++ (l'.take k ++ blk.drop (r + k))).length = 64 := by
          have := HBL.out
          simp only [List.length_append, List.length_take, List.length_drop, htk]
          simp only [List.length_take] at htk
          omega
        have c72b := cell72 HST.out hb2l hG2
        have f72b : w2.frozen? ⟨g, 72, none⟩ = false := frozen_of_row _ _ _ _ _ hG2
        have h3 := set72 HST.out hb2l hG2 (N + k)
        have hgr3 := grownBy_set hgr2 72 (.int .u64 ((N + k : Nat) : Int))
        have hrg3 : (w2.setCell ⟨g, 72, none⟩ (.int .u64 ((N + k : Nat) : Int))).rangeAt b (o + k) (ints .u8 (l'.drop k)) :=
          World.rangeAt_setCells_apart hrg2 g 72 [_] (.inl hbg)
        have HX2 : Hid _ := hx2
        have HDR : Hid _ := hdr
        have HG2 : Hid _ := hG2
        have HE2 : Hid _ := hE2
        have HDL : Hid _ := hdl
        have HMK : Hid _ := hmk
        have HGR2 : Hid _ := hgr2
        have HTK : Hid _ := htk
        have HB2 : Hid _ := hb2l
        have H3 : Hid _ := h3
        have HGR3 : Hid _ := hgr3
        have HRG3 : Hid _ := hrg3
        clear hx2 hdr hG2 hE2 hdl hmk hrg hrg2 hgr2 htk hb2l h3 hgr3 hrg3 hlen HG HGR HH
        have k1 : (k : Int) ≤ (L : Int) := by omega
        have k0 : (0 : Int) ≤ (k : Int) := by omega
        have k2 : (L : Int) ≤ (c : Int) := by omega
        have k3 : IntKind.u64.wrap ((N : Int) + (k : Int)) = (N : Int) + (k : Int) := by rw [IntKind.wrap_u64]; omega
        by_cases hfull : r + L < 64
        · obtain rfl : k = L := by have := HK.out; omega
          have hq : (((N : Int) + (k : Int)) % 64 == 0) = false := by have := HR.out; rw [beq_eq_false_iff_ne]; omega
          go_wp2
          go_roundw
          case rel =>
            refine ⟨m' ++ l'.take k, l'.drop k, HE2.out, ⟨st, blk.take r ++ (l'.take k ++ blk.drop (r + k)), ?_, ?_⟩, ⟨HDR.out, .inl ⟨_, _, rfl, List.drop_eq_nil_of_le (by rw [HLL.out]; omega)⟩⟩, ?_, HGR3.out⟩
            · have := HI.out.more (l'.take k) (by rw [HNN.out, HTK.out, ← HR.out]; omega) HX2.out
              rw [HNN.out, HTK.out, ← HR.out] at this
              exact this
            · rw [HMK.out]; exact H3.out
            · intro _
              show _ ≠ _
              split
              · exact fun e => hbg (Option.some.inj e)
              · exact fun e => hbg (Option.some.inj e)
          case measure => simp [lenOf]; omega
        · have hkL : k = 64 - r := by have := HK.out; omega
          have HKL : Hid _ := hkL
          clear hkL
          have hq : (((N : Int) + (k : Int)) % 64 == 0) = true := by have := HR.out; have := HKL.out; rw [beq_iff_eq]; omega
          have hnil : blk.drop (r + k) = [] := List.drop_eq_nil_of_le (by rw [HBL.out]; have := HKL.out; omega)
          have H3' := H3.out
          have HB2' := HB2.out
          rw [hnil, List.append_nil] at H3' HB2'
          have H4 : Hid _ := H3'
          have HB4 : Hid _ := HB2'
          clear H3' HB2' hnil
          have hs8 := HI.out.st
          rw [HNN.out] at hs8
          have hsok := Sp.absorb_ok m' (N / 64)
          have hmix := HI.out.full (l'.take k) (by rw [HNN.out, HTK.out, ← HR.out]; have := HKL.out; omega) HX2.out
          rw [HNN.out, ← HR.out] at hmix
          generalize Sp.absorb m' (N / 64) = s8 at *
          have HM8 : Hid _ := hmix
          have HOK : Hid _ := hsok
          have HS8 : Hid _ := hs8
          have hbf : ∀ x ∈ blk.take r ++ l'.take k, x < 256 := fun x hx => by
            rcases List.mem_append.1 hx with h | h
            · exact HI.out.small x (List.mem_of_mem_take h)
            · exact HX2.out x h
          have HBF : Hid _ := hbf
          clear hmix hsok hs8 hbf
          generalize hbF : blk.take r ++ l'.take k = bF at *
          clear hbF
          have hlt : g < (w2.setCell ⟨g, 72, none⟩ (.int .u64 ((N + k : Nat) : Int))).heap.size := (Array.getElem?_eq_some_iff.1 H4.out).1
          obtain ⟨pd, hpd⟩ : ∃ pd : Option Addr, (if c = k then some (⟨b, o, none⟩ : Addr) else some ⟨b, o + k, none⟩) = pd := ⟨_, rfl⟩
          obtain ⟨ad, had⟩ : ∃ ad : Addr, (if c = k then (⟨b, o, none⟩ : Addr) else ⟨b, o + k, none⟩) = ad := ⟨_, rfl⟩
          have HPD : Hid _ := hpd
          have HAD : Hid _ := had
          go_wp2
          refine wp_sets [37, 38, 39, 40, 41, 42, 43, 44, 45, 46, 47, 48, 49] (fun w7 => w7.heap[g]? = some (.cells (hashV (Sp.mix s8 (Sp.spread bF)).list bF (N + k)).toArray 57 (0, 0)) ∧ w.grownBy w7 (some g) ∧ w7.rangeAt b (o + k) (ints .u8 (l'.drop k))) ?_ ?_
          · refine wp_region_held (S := fun _ => True) (by kernel_rfl) ?_
            refine wpAnyH_take (i := 0) (v := .pointer (some ⟨g, 0, none⟩)) rfl (by kernel_rfl) (by kernel_rfl) (by kernel_rfl) (fun _ _ _ h => by cases h.1) (.inl ⟨by kernel_rfl, fun _ _ => by kernel_rfl⟩) trivial ?_
            refine wpAnyH_take (i := 1) (v := .pointer (some ⟨g, 0, none⟩)) rfl (by kernel_rfl) (by kernel_rfl) (by kernel_rfl) (fun _ _ _ h => by cases h.1) (.inl ⟨by kernel_rfl, fun _ _ => by kernel_rfl⟩) trivial ?_
            refine wpAnyH_take (i := 2) (v := .pointer (some ⟨g, 0, none⟩)) rfl (by kernel_rfl) (by kernel_rfl) (by kernel_rfl) (fun _ _ _ h => by cases h.1) (.inl ⟨by kernel_rfl, fun _ _ => by kernel_rfl⟩) trivial ?_
            refine wpAnyH_take (i := 3) (v := .pointer (some ⟨g, 0, none⟩)) rfl (by kernel_rfl) (by kernel_rfl) (by kernel_rfl) (fun _ _ _ h => by cases h.1) (.inl ⟨by kernel_rfl, fun _ _ => by kernel_rfl⟩) trivial ?_
            refine wpAnyH_take (i := 5) (v := .pointer (some ⟨g, 0, none⟩)) rfl (by kernel_rfl) (by kernel_rfl) (by kernel_rfl) (fun _ _ _ h => by cases h.1) (.inl ⟨by kernel_rfl, fun _ _ => by kernel_rfl⟩) trivial ?_
            refine wpAnyH_take (i := 6) (v := .pointer (some ⟨g, 0, none⟩)) rfl (by kernel_rfl) (by kernel_rfl) (by kernel_rfl) (fun _ _ _ h => by cases h.1) (.inl ⟨by kernel_rfl, fun _ _ => by kernel_rfl⟩) trivial ?_
            refine wpAnyH_take (i := 7) (v := .pointer (some ⟨g, 8, none⟩)) rfl (by kernel_rfl) (by kernel_rfl) (by kernel_rfl) (fun _ _ _ h => by cases h.1) (.inl ⟨by kernel_rfl, fun _ _ => by kernel_rfl⟩) trivial ?_
            refine held_two (i := 4) (j := 8) (by kernel_rfl) ?_ ?_
            · refine wpOp_load 54 (.tmp 40) g 0 (ints .u32 st) _ rfl (by kernel_rfl) rfl (by kernel_rfl) (hash_range0 H4.out) Tryd.underlying54 rfl (by rw [ints_length, HST.out]; exact info54) ⟨trivial, ?_⟩
              refine held_one (i := 8) (by kernel_rfl) ?_
              refine wpOp_load 38 (.tmp 44) g 8 (ints .u8 bF) _ rfl (by kernel_rfl) rfl (by kernel_rfl) (hash_range8 HST.out H4.out) under38 rfl (by rw [ints_length, HB4.out]; exact info38) ⟨trivial, ?_⟩
              refine held_one (i := 9) (by kernel_rfl) ?_
              refine wpOp_call 29 #[.agg (arr .u8 bF)] rfl (by kernel_rfl) (by kernel_rfl) ?_
              refine (spread_any bF _ HB4.out HBF.out).mono ?_
              rintro e w5 ⟨rfl, hb5⟩
              refine ⟨_, rfl, trivial, ?_⟩
              have h5 := (hb5.block g hlt).trans H4.out
              have hg5 : w.grownBy w5 (some g) := grownBy_trans HGR3.out ⟨hb5.os, hb5.tape, hb5.output, hb5.size, fun k hk _ => hb5.block k hk⟩
              refine held_one (i := 10) (by kernel_rfl) ?_
              refine wpOp_call 28 #[.agg (arr .u32 st), .agg (arr .u32 (Sp.spread bF))] rfl (by kernel_rfl) (by kernel_rfl) ?_
              have hcall := mix_any s8 (Sp.spread bF) w5 HOK.out (Sp.spreadTo_length bF 48) (tab_grown HT.out hg5 hg0)
              rw [← HS8.out] at hcall
              refine hcall.mono ?_
              clear hcall
              rintro e w6 ⟨rfl, hb6⟩
              refine ⟨_, rfl, trivial, ?_⟩
              have h6 := (hb6.block g (Nat.lt_of_lt_of_le hlt hb5.size)).trans h5
              have hg6 := grownBy_trans hg5 (grownBy_below (row := some g) hb6)
              refine wpAnyH_take (i := 11) (v := .pointer (some ⟨g, 0, none⟩)) rfl (by kernel_rfl) (by kernel_rfl) (by kernel_rfl) (fun _ _ _ h => by cases h.1) (.inl ⟨by kernel_rfl, fun _ _ => by kernel_rfl⟩) trivial ?_
              refine wpAnyH_take (i := 12) (v := .pointer (some ⟨g, 0, none⟩)) rfl (by kernel_rfl) (by kernel_rfl) (by kernel_rfl) (fun _ _ _ h => by cases h.1) (.inl ⟨by kernel_rfl, fun _ _ => by kernel_rfl⟩) trivial ?_
              refine held_one (i := 13) (by kernel_rfl) ?_
              refine wpOp_store 54 (.tmp 49) (.tmp 47) g 0 (arr .u32 (Sp.mix s8 (Sp.spread bF)).list) rfl (by kernel_rfl) rfl (by kernel_rfl) (by kernel_rfl) (hash_there HST.out HB4.out h6) info54 (ints_one _ _) ⟨trivial, ?_⟩
              refine wpAnyH_done (by kernel_rfl) ?_ _
              refine ⟨rfl, ⟨[.pointer (some ⟨g, 0, none⟩), .pointer (some ⟨g, 0, none⟩), .pointer (some ⟨g, 0, none⟩), .pointer (some ⟨g, 0, none⟩), .agg (ints .u32 st).toArray, .pointer (some ⟨g, 0, none⟩), .pointer (some ⟨g, 0, none⟩), .pointer (some ⟨g, 8, none⟩), .agg (ints .u8 bF).toArray, .agg (arr .u32 (Sp.spread bF)), .agg (arr .u32 (Sp.mix s8 (Sp.spread bF)).list), .pointer (some ⟨g, 0, none⟩), .pointer (some ⟨g, 0, none⟩)], rfl, by kernel_rfl⟩, ?_⟩
              exact ⟨hash_setSt HST.out HB4.out h6 (Sp.mix s8 (Sp.spread bF)).list rfl, grownBy_setCells (w' := w6) (ints .u32 (Sp.mix s8 (Sp.spread bF)).list) 0 hg6, World.rangeAt_setCells_apart (rangeAt_below hb6 (rangeAt_below hb5 HRG3.out)) g 0 _ (.inl hbg)⟩
            · refine wpOp_load 38 (.tmp 44) g 8 (ints .u8 bF) _ rfl (by kernel_rfl) rfl (by kernel_rfl) (hash_range8 HST.out H4.out) under38 rfl (by rw [ints_length, HB4.out]; exact info38) ⟨trivial, ?_⟩
              refine held_two (i := 4) (j := 9) (by kernel_rfl) ?_ ?_
              · refine wpOp_load 54 (.tmp 40) g 0 (ints .u32 st) _ rfl (by kernel_rfl) rfl (by kernel_rfl) (hash_range0 H4.out) Tryd.underlying54 rfl (by rw [ints_length, HST.out]; exact info54) ⟨trivial, ?_⟩
                refine held_one (i := 9) (by kernel_rfl) ?_
                refine wpOp_call 29 #[.agg (arr .u8 bF)] rfl (by kernel_rfl) (by kernel_rfl) ?_
                refine (spread_any bF _ HB4.out HBF.out).mono ?_
                rintro e w5 ⟨rfl, hb5⟩
                refine ⟨_, rfl, trivial, ?_⟩
                have h5 := (hb5.block g hlt).trans H4.out
                have hg5 : w.grownBy w5 (some g) := grownBy_trans HGR3.out ⟨hb5.os, hb5.tape, hb5.output, hb5.size, fun k hk _ => hb5.block k hk⟩
                refine held_one (i := 10) (by kernel_rfl) ?_
                refine wpOp_call 28 #[.agg (arr .u32 st), .agg (arr .u32 (Sp.spread bF))] rfl (by kernel_rfl) (by kernel_rfl) ?_
                have hcall := mix_any s8 (Sp.spread bF) w5 HOK.out (Sp.spreadTo_length bF 48) (tab_grown HT.out hg5 hg0)
                rw [← HS8.out] at hcall
                refine hcall.mono ?_
                clear hcall
                rintro e w6 ⟨rfl, hb6⟩
                refine ⟨_, rfl, trivial, ?_⟩
                have h6 := (hb6.block g (Nat.lt_of_lt_of_le hlt hb5.size)).trans h5
                have hg6 := grownBy_trans hg5 (grownBy_below (row := some g) hb6)
                refine wpAnyH_take (i := 11) (v := .pointer (some ⟨g, 0, none⟩)) rfl (by kernel_rfl) (by kernel_rfl) (by kernel_rfl) (fun _ _ _ h => by cases h.1) (.inl ⟨by kernel_rfl, fun _ _ => by kernel_rfl⟩) trivial ?_
                refine wpAnyH_take (i := 12) (v := .pointer (some ⟨g, 0, none⟩)) rfl (by kernel_rfl) (by kernel_rfl) (by kernel_rfl) (fun _ _ _ h => by cases h.1) (.inl ⟨by kernel_rfl, fun _ _ => by kernel_rfl⟩) trivial ?_
                refine held_one (i := 13) (by kernel_rfl) ?_
                refine wpOp_store 54 (.tmp 49) (.tmp 47) g 0 (arr .u32 (Sp.mix s8 (Sp.spread bF)).list) rfl (by kernel_rfl) rfl (by kernel_rfl) (by kernel_rfl) (hash_there HST.out HB4.out h6) info54 (ints_one _ _) ⟨trivial, ?_⟩
                refine wpAnyH_done (by kernel_rfl) ?_ _
                refine ⟨rfl, ⟨[.pointer (some ⟨g, 0, none⟩), .pointer (some ⟨g, 0, none⟩), .pointer (some ⟨g, 0, none⟩), .pointer (some ⟨g, 0, none⟩), .agg (ints .u32 st).toArray, .pointer (some ⟨g, 0, none⟩), .pointer (some ⟨g, 0, none⟩), .pointer (some ⟨g, 8, none⟩), .agg (ints .u8 bF).toArray, .agg (arr .u32 (Sp.spread bF)), .agg (arr .u32 (Sp.mix s8 (Sp.spread bF)).list), .pointer (some ⟨g, 0, none⟩), .pointer (some ⟨g, 0, none⟩)], rfl, by kernel_rfl⟩, ?_⟩
                exact ⟨hash_setSt HST.out HB4.out h6 (Sp.mix s8 (Sp.spread bF)).list rfl, grownBy_setCells (w' := w6) (ints .u32 (Sp.mix s8 (Sp.spread bF)).list) 0 hg6, World.rangeAt_setCells_apart (rangeAt_below hb6 (rangeAt_below hb5 HRG3.out)) g 0 _ (.inl hbg)⟩
              · refine wpOp_call 29 #[.agg (arr .u8 bF)] rfl (by kernel_rfl) (by kernel_rfl) ?_
                refine (spread_any bF _ HB4.out HBF.out).mono ?_
                rintro e w5 ⟨rfl, hb5⟩
                refine ⟨_, rfl, trivial, ?_⟩
                have h5 := (hb5.block g hlt).trans H4.out
                have hg5 : w.grownBy w5 (some g) := grownBy_trans HGR3.out ⟨hb5.os, hb5.tape, hb5.output, hb5.size, fun k hk _ => hb5.block k hk⟩
                refine held_one (i := 4) (by kernel_rfl) ?_
                refine wpOp_load 54 (.tmp 40) g 0 (ints .u32 st) _ rfl (by kernel_rfl) rfl (by kernel_rfl) (hash_range0 h5) Tryd.underlying54 rfl (by rw [ints_length, HST.out]; exact info54) ⟨trivial, ?_⟩
                refine held_one (i := 10) (by kernel_rfl) ?_
                refine wpOp_call 28 #[.agg (arr .u32 st), .agg (arr .u32 (Sp.spread bF))] rfl (by kernel_rfl) (by kernel_rfl) ?_
                have hcall := mix_any s8 (Sp.spread bF) w5 HOK.out (Sp.spreadTo_length bF 48) (tab_grown HT.out hg5 hg0)
                rw [← HS8.out] at hcall
                refine hcall.mono ?_
                clear hcall
                rintro e w6 ⟨rfl, hb6⟩
                refine ⟨_, rfl, trivial, ?_⟩
                have h6 := (hb6.block g (Nat.lt_of_lt_of_le hlt hb5.size)).trans h5
                have hg6 := grownBy_trans hg5 (grownBy_below (row := some g) hb6)
                refine wpAnyH_take (i := 11) (v := .pointer (some ⟨g, 0, none⟩)) rfl (by kernel_rfl) (by kernel_rfl) (by kernel_rfl) (fun _ _ _ h => by cases h.1) (.inl ⟨by kernel_rfl, fun _ _ => by kernel_rfl⟩) trivial ?_
                refine wpAnyH_take (i := 12) (v := .pointer (some ⟨g, 0, none⟩)) rfl (by kernel_rfl) (by kernel_rfl) (by kernel_rfl) (fun _ _ _ h => by cases h.1) (.inl ⟨by kernel_rfl, fun _ _ => by kernel_rfl⟩) trivial ?_
                refine held_one (i := 13) (by kernel_rfl) ?_
                refine wpOp_store 54 (.tmp 49) (.tmp 47) g 0 (arr .u32 (Sp.mix s8 (Sp.spread bF)).list) rfl (by kernel_rfl) rfl (by kernel_rfl) (by kernel_rfl) (hash_there HST.out HB4.out h6) info54 (ints_one _ _) ⟨trivial, ?_⟩
                refine wpAnyH_done (by kernel_rfl) ?_ _
                refine ⟨rfl, ⟨[.pointer (some ⟨g, 0, none⟩), .pointer (some ⟨g, 0, none⟩), .pointer (some ⟨g, 0, none⟩), .pointer (some ⟨g, 0, none⟩), .agg (ints .u32 st).toArray, .pointer (some ⟨g, 0, none⟩), .pointer (some ⟨g, 0, none⟩), .pointer (some ⟨g, 8, none⟩), .agg (ints .u8 bF).toArray, .agg (arr .u32 (Sp.spread bF)), .agg (arr .u32 (Sp.mix s8 (Sp.spread bF)).list), .pointer (some ⟨g, 0, none⟩), .pointer (some ⟨g, 0, none⟩)], rfl, by kernel_rfl⟩, ?_⟩
                exact ⟨hash_setSt HST.out HB4.out h6 (Sp.mix s8 (Sp.spread bF)).list rfl, grownBy_setCells (w' := w6) (ints .u32 (Sp.mix s8 (Sp.spread bF)).list) 0 hg6, World.rangeAt_setCells_apart (rangeAt_below hb6 (rangeAt_below hb5 HRG3.out)) g 0 _ (.inl hbg)⟩
          · rintro vs w7 hvl ⟨h7, hg7, hr7⟩
            have H7 : Hid _ := h7
            have HG7 : Hid _ := hg7
            have HR7 : Hid _ := hr7
            clear h7 hg7 hr7
            obtain ⟨v37, l37, rfl, h37⟩ := cons_of vs hvl; clear hvl
            obtain ⟨v38, l38, rfl, h38⟩ := cons_of l37 h37; clear h37
            obtain ⟨v39, l39, rfl, h39⟩ := cons_of l38 h38; clear h38
            obtain ⟨v40, l40, rfl, h40⟩ := cons_of l39 h39; clear h39
            obtain ⟨v41, l41, rfl, h41⟩ := cons_of l40 h40; clear h40
            obtain ⟨v42, l42, rfl, h42⟩ := cons_of l41 h41; clear h41
            obtain ⟨v43, l43, rfl, h43⟩ := cons_of l42 h42; clear h42
            obtain ⟨v44, l44, rfl, h44⟩ := cons_of l43 h43; clear h43
            obtain ⟨v45, l45, rfl, h45⟩ := cons_of l44 h44; clear h44
            obtain ⟨v46, l46, rfl, h46⟩ := cons_of l45 h45; clear h45
            obtain ⟨v47, l47, rfl, h47⟩ := cons_of l46 h46; clear h46
            obtain ⟨v48, l48, rfl, h48⟩ := cons_of l47 h47; clear h47
            obtain ⟨v49, l49, rfl, h49⟩ := cons_of l48 h48; clear h48
            obtain rfl := List.eq_nil_of_length_eq_zero h49; clear h49
            simp only [putAll, Act.put, List.setIfInBounds_toArray, List.set_cons_zero, List.set_cons_succ]
            go_wp2
            go_roundw
            case rel =>
              refine ⟨m' ++ l'.take k, l'.drop k, HE2.out, ⟨_, bF, HM8.out, by rw [HMK.out]; exact H7.out⟩, ⟨HDR.out, ?_⟩, ?_, HG7.out⟩
              · by_cases hck : c = k
                · exact .inl ⟨_, _, by rw [show L - k = 0 from by omega], List.drop_eq_nil_of_le (by rw [HLL.out]; omega)⟩
                · refine .inr ⟨b, o + k, c - k, ?_, by rw [HDL.out]; omega, HR7.out⟩
                  rw [HDL.out, ← HPD.out, if_neg hck]
              · intro _
                show _ ≠ _
                rw [← HPD.out]
                split
                · exact fun e => hbg (Option.some.inj e)
                · exact fun e => hbg (Option.some.inj e)
            case measure => have hkp := HKL.out; simp [lenOf]; omega
end Go.Proofs.YtnbdadhdpplldabDoor
