/- The statement with a real suite. -/
import Derived.Test.YtfjdaafckiefdaaGreatDoorS15RlO
import Derived.Test.YtfjdaafckiefdaaGreatDoorS15Anc
import Derived.Test.YtfjdaafckiefdaaGreatDoorMgAC
import Derived.Test.YtfjdaafckiefdaaGreatDoorMgE
import Derived.Test.YtfjdaafckiefdaaGreatDoorMgC
import Derived.Test.YtfjdaafckiefdaaGreatDoorMgF
namespace Go.Proofs.YtfjdaafckiefdaaGreatDoor.S15
open Go.RowKit C8 E9
open S7 (Fr Kx By RlIs)
set_option maxHeartbeats 400000 in
set_option maxRecDepth 10000 in
theorem Real_new (w : World) : Calls Tryz.prog 42 #[.slice none 0 0] w fun e w' => ∃ p sv, e = .returned (.pointer (some ⟨p, 0, none⟩)) ∧ RlIs w' p sv 0 ∧ Src w' sv [] ∧ S7.Off sv [p] ∧ Below w.heap.size w w' ∧ w.heap.size ≤ p := by
  have HC : Hid (Calls Tryz.prog 90 #[.slice none 0 0] w fun e w' => ∃ u, e = .returned u ∧ w'.ownsRow w.heap.size 5 1 u 0 (ints .u8 []) ∧ Below w.heap.size w w') := S7.clone_any _ w (S7.Src.nil w) (by simp)
  go_enter Tryz.func42, Tryz.ntmps42
  go_wp2_with fail
  refine HC.out.mono ?_
  rintro e w1 ⟨u, rfl, hs, hb⟩
  have HB : Hid (Below w.heap.size w w1) := hb
  have HS : Hid (Src w1 u [] ∧ S7.Off u [w1.heap.size]) := by
    refine ⟨Src.own (by simp) hs, fun b hb2 => ?_⟩
    obtain ⟨h1, ⟨rfl, _⟩ | ⟨g, cap, cur, rfl, hg, hh, _⟩⟩ := hs
    · simp [Value.ownBlock] at hb2
    · have hlt := (Array.getElem?_eq_some_iff.1 hh).1
      simp [Value.ownBlock] at hb2
      subst hb2
      simp
      omega
  obtain ⟨q, c, rfl⟩ := own_slice hs
  clear hs hb HC
  go_wp2_with fail
  go_ret
  exact ⟨_, _, rfl, heap_alloc_new w1 _, HS.out.1.below (S7.below_alloc' _ _), HS.out.2, HB.out.trans ((S7.below_alloc' _ _).mono HB.out.size), HB.out.size⟩
/-- What stands in the walk. -/
structure Zr (W : World) (e6 : Nat) (x : Obj) (p : Nat) (sv kv : Value) (key : List Nat) (w : World) : Prop where
  bel : Below W.heap.size W w
  low : W.heap.size ≤ w.heap.size
  ra : w.heap[e6]? = some x
  rl : RlIs w p sv 1
  kb : Src w kv key
theorem Zr.below {W w w' : World} {e6 p : Nat} {x : Obj} {sv kv : Value} {key : List Nat} (h : Zr W e6 x p sv kv key w) (hb : Below w.heap.size w w') : Zr W e6 x p sv kv key w' :=
  ⟨h.bel.trans (hb.mono h.low), Nat.le_trans h.low hb.size, (hb.block e6 (Array.getElem?_eq_some_iff.1 h.ra).1).trans h.ra, h.rl.below hb, h.kb.below hb⟩
theorem Zr.rp {W w : World} {e6 p : Nat} {x : Obj} {sv kv sk : Value} {key k : List Nat} (h : Zr W e6 x p sv kv key w) (hk : Src W sk k) (hT : S2.Tab W) : Rp w p sv 1 sk k := ⟨h.rl, hk.below h.bel, S7.tab_below hT h.bel (S7.tab_lt hT)⟩
theorem agree_set {A g : Nat} {w w2 : World} (ho : S7.Only [g] w w2) (hg : g < A) : Agree A w w2 := ⟨fun k hk hl => ho.block k hl (by simp; omega), ho.size⟩
/-- A bit of a byte is turned. -/
theorem turn_bit' {x s : Nat} (hx : x < 256) (hs : s < 8) : bits BinOp.xor .u8 (x : Int) (2 ^ s % 256) = ((x ^^^ 2 ^ s : Nat) : Int) := by
  have p : 2 ^ s < 256 := Nat.pow_lt_pow_right (n := 8) (by decide) hs
  have e : (2 : Int) ^ s % 256 = ((2 ^ s : Nat) : Int) := by
    have e1 : ((2 ^ s : Nat) : Int) = (2 : Int) ^ s := by rw [Int.natCast_pow]; rfl
    rw [← e1]
    generalize 2 ^ s = y at *
    omega
  rw [e]
  exact u8_xor_nat _ _ hx p
/-- The box with a bit of its tag turned is none. -/
theorem spoilt (k ke : List Nat) (r : Rec) (e : En) {j s : Nat} (hj : j < 16) : A5.Ae.opens ke (S7.non r.writer.toNat r.count.toNat) (rfront r) ((rbox k ke r e).set ((rplain k r e).length + j) (Sp.nth (rbox k ke r e) ((rplain k r e).length + j) ^^^ 2 ^ s)) = none := by
  refine A5.Ae.opens_spoilt hj ?_
  have e1 : Sp.nth (A5.Ae.tagOf ke (S7.non r.writer.toNat r.count.toNat) (rfront r) (C3.Ch.xor ke 1 (S7.non r.writer.toNat r.count.toNat) (rplain k r e))) j = Sp.nth (rbox k ke r e) ((rplain k r e).length + j) := by
    rw [rbox, A5.Ae.box, ← C3.Ch.xor_length ke 1 (S7.non r.writer.toNat r.count.toNat) (rplain k r e)]
    exact (Sp.nth_append_right _).symm
  rw [e1]
  exact A5.Ae.turned_ne (Nat.two_pow_pos s)
/-- What stands ahead of the suite. -/
structure Zb (W : World) (e6 : Nat) (x : Obj) (w : World) : Prop where
  bel : Below W.heap.size W w
  low : W.heap.size ≤ w.heap.size
  ra : w.heap[e6]? = some x
theorem Zb.below {W w w' : World} {e6 : Nat} {x : Obj} (h : Zb W e6 x w) (hb : Below w.heap.size w w') : Zb W e6 x w' :=
  ⟨h.bel.trans (hb.mono h.low), Nat.le_trans h.low hb.size, (hb.block e6 (Array.getElem?_eq_some_iff.1 h.ra).1).trans h.ra⟩
set_option maxHeartbeats 16000000 in
set_option maxRecDepth 20000 in
theorem real_main (e : En) (a1 a2 a3 a6 a7 a8 : Int) (np vp wp : Option Addr) (nl nc vl vc wl wc : Nat) (q1 : Option Addr) (n c : Nat) (k : List Nat) (co ep ct z : Int) (W : World) (ha : EnIs W (.agg #[.int .i64 a1, .int .i64 a2, .int .i64 a3, .slice np nl nc, .slice vp vl vc, .int .i64 a6, .int .i64 a7, .int .i64 a8, .slice wp wl wc]) e) (hw : e.writer = a2) (hk : Src W (.slice q1 n c) k) (hkn : k.length = n) (hT : S2.Tab W) (hz : z ≤ 9223372036854775807) :
    Calls Tryz.prog 8 #[.agg #[.int .i64 a1, .int .i64 a2, .int .i64 a3, .slice np nl nc, .slice vp vl vc, .int .i64 a6, .int .i64 a7, .int .i64 a8, .slice wp wl wc], .slice q1 n c, .int .i64 co, .int .i64 ep, .int .i64 ct, .int .i64 z] W fun y w' => y = .returned (.bool true) ∧ Below W.heap.size W w' := by
  have HA := hid ha
  have HK := hid hk
  have HT := hid hT
  have HKN := hid hkn
  have HW := hid hw
  clear ha hk hkn hT hw
  go_enter Tryz.func8, Tryz.ntmps8
  go_wp2_with fail
  have hb0 := S7.below_alloc' W (.cells #[.int .i64 a1, .int .i64 a2, .int .i64 a3, .slice np nl nc, .slice vp vl vc, .int .i64 a6, .int .i64 a7, .int .i64 a8, .slice wp wl wc] 49)
  have hw0 := heap_alloc_new W (.cells #[.int .i64 a1, .int .i64 a2, .int .i64 a3, .slice np nl nc, .slice vp vl vc, .int .i64 a6, .int .i64 a7, .int .i64 a8, .slice wp wl wc] 49)
  refine (anchor_any _).mono ?_
  rintro y w1 ⟨rfl, h1⟩
  obtain ⟨e6, HE6⟩ : ∃ e6, Hid (e6 = W.heap.size) := ⟨_, rfl⟩
  rw [← HE6.out] at hw0 ⊢
  have H1 : Hid (Zb W e6 (.cells #[.int .i64 a1, .int .i64 a2, .int .i64 a3, .slice np nl nc, .slice vp vl vc, .int .i64 a6, .int .i64 a7, .int .i64 a8, .slice wp wl wc] 49 (0, 0)) w1) := Zb.below (w := W.alloc (.cells #[.int .i64 a1, .int .i64 a2, .int .i64 a3, .slice np nl nc, .slice vp vl vc, .int .i64 a6, .int .i64 a7, .int .i64 a8, .slice wp wl wc] 49)) ⟨hb0, hb0.size, hw0⟩ h1
  clear hb0 hw0 h1
  obtain ⟨se, HSS⟩ : ∃ sa, Hid (small e = sa) := ⟨_, rfl⟩
  have HSA : Hid (Calls Tryz.prog 20 #[.agg #[.int .i64 a1, .int .i64 a2, .int .i64 a3, .slice np nl nc, .slice vp vl vc, .int .i64 a6, .int .i64 a7, .int .i64 a8, .slice wp wl wc]] w1 fun y w' => y = .returned (.bool se) ∧ Below w1.heap.size w1 w') := by rw [← HSS.out]; exact small_any e _ w1 (HA.out.below H1.out.bel)
  obtain ⟨c0, c1, d2, c3, c4, c5, c6, c7, c8⟩ := e9_cells H1.out.ra
  cases se with
  | false =>
    go_wp2_with fail
    refine HSA.out.mono ?_
    rintro y w2 ⟨rfl, h2⟩
    have G2 : Hid (Below W.heap.size W w2) := (H1.out.below h2).bel
    clear h2 c0 c1 d2 c3 c4 c5 c6 c7 c8 HSA
    go_wp2_with fail
    go_ret
    exact ⟨rfl, G2.out⟩
  | true =>
    by_cases hn : 50 < (n : Int)
    · go_wp2_with fail
      refine HSA.out.mono ?_
      rintro y w2 ⟨rfl, h2⟩
      have G2 : Hid (Below W.heap.size W w2) := (H1.out.below h2).bel
      clear h2 c0 c1 d2 c3 c4 c5 c6 c7 c8 HSA
      go_wp2_with fail
      go_ret
      exact ⟨rfl, G2.out⟩
    by_cases hz0 : z < 0
    · go_wp2_with fail
      refine HSA.out.mono ?_
      rintro y w2 ⟨rfl, h2⟩
      have G2 : Hid (Below W.heap.size W w2) := (H1.out.below h2).bel
      clear h2 c0 c1 d2 c3 c4 c5 c6 c7 c8 HSA
      go_wp2_with fail
      go_ret
      exact ⟨rfl, G2.out⟩
    go_wp2_with fail
    refine HSA.out.mono ?_
    rintro y w2 ⟨rfl, h2⟩
    have H2 := hid (H1.out.below h2)
    clear h2 c0 c1 d2 c3 c4 c5 c6 c7 c8 HSA H1
    go_wp2_with fail
    refine (Real_new w2).mono ?_
    rintro y w3 ⟨p, sv, rfl, s1, s2, s3, s4, s5⟩
    have H3 := hid (H2.out.below s4)
    have HP : Hid (e6 < w2.heap.size ∧ w2.heap.size ≤ p ∧ p ≠ 0) := ⟨(Array.getElem?_eq_some_iff.1 H2.out.ra).1, s5, by have := S7.tab_lt HT.out; have := H2.out.low; omega⟩
    have HRL := hid (And.intro s1 (And.intro s2 s3))
    clear s1 s2 s3 s4 s5
    go_wp2_with fail
    refine (S7.Key_real [] p 0 sv w3 HRL.out.1 HRL.out.2.1 HRL.out.2.2 (S7.tab_below HT.out H3.out.bel (S7.tab_lt HT.out)) HP.out.2.2 (by simp) (by decide)).mono ?_
    rintro y w4 ⟨kv, rfl, s1, s2, s3⟩
    obtain ⟨key, HKE⟩ : ∃ key, Hid (S2.Mk.code [] (S7.Su.be 8 (0 + 1)) = key) := ⟨_, rfl⟩
    have HKL : Hid (key.length = 32) := by rw [← HKE.out]; exact S2.Mk.code_length _ _
    rw [HKE.out] at s1
    have hks : ∀ x ∈ key, x < 256 := by rw [← HKE.out]; exact S2.Mk.code_small _ _
    have H4 : Hid (Zr W e6 (.cells #[.int .i64 a1, .int .i64 a2, .int .i64 a3, .slice np nl nc, .slice vp vl vc, .int .i64 a6, .int .i64 a7, .int .i64 a8, .slice wp wl wc] 49 (0, 0)) p sv kv key w4) := ⟨H3.out.bel.trans (s3.below H3.out.low (by have := HP.out; have := H2.out.low; intro y hy; rw [List.mem_singleton.1 hy]; omega)), Nat.le_trans H3.out.low s3.size, (s3.block e6 (Array.getElem?_eq_some_iff.1 H3.out.ra).1 (by have := HP.out; simp; omega)).trans H3.out.ra, s2, Src.own hks s1⟩
    obtain ⟨kq, kc, rfl⟩ := own_slice s1
    clear s1 s2 s3 hks H2 H3 HRL
    obtain ⟨c0, c1, d2, c3, c4, c5, c6, c7, c8⟩ := e9_cells H4.out.ra
    have HRP : Hid (∀ w, Zr W e6 (.cells #[.int .i64 a1, .int .i64 a2, .int .i64 a3, .slice np nl nc, .slice vp vl vc, .int .i64 a6, .int .i64 a7, .int .i64 a8, .slice wp wl wc] 49 (0, 0)) p sv (.slice kq 32 kc) key w → Rp w p sv 1 (.slice q1 n c) k) := fun w h => h.rp HK.out HT.out
    have HN : Hid (k.length ≤ 50000) := by show _ ≤ _; rw [HKN.out]; omega
    have HSL : Hid (Calls Tryz.prog 22 #[.pointer (some ⟨p, 0, none⟩), .slice q1 n c, .slice kq 32 kc, .agg #[.int .i64 co, .int .i64 ep, .int .i64 a2, .int .i64 ct, .slice none 0 0], .agg #[.int .i64 a1, .int .i64 a2, .int .i64 a3, .slice np nl nc, .slice vp vl vc, .int .i64 a6, .int .i64 a7, .int .i64 a8, .slice wp wl wc]] w4 (RSealSays w4 k key ⟨co, ep, a2, ct, []⟩ e)) :=
      Seal_rl ⟨co, ep, a2, ct, []⟩ none 0 e _ (HRP.out _ H4.out) HN.out (Nat.le_refl _) H4.out.kb HKL.out (HA.out.below H4.out.bel) HW.out
    clear hn
    go_wp2_with fail
    refine HSL.out.mono ?_
    clear HSL c0 c1 d2 c3 c4 c5 c6 c7 c8
    rintro y w5 (⟨er, h0, rfl, h1⟩ | ⟨hr, hnum, -, bq, bc, rfl, h1, h2⟩)
    · have G5 : Hid (Below W.heap.size W w5) := (H4.out.below h1).bel
      have h0' : (er == 0) = false := by rw [beq_eq_false_iff_ne]; exact h0
      clear h1
      unfold z5
      go_wp2_with fail
      go_ret
      exact ⟨rfl, G5.out.trans (S7.below_alloc' w5 _ |>.mono G5.out.size)⟩
    · have hpl := rplain_ok k ⟨co, ep, a2, ct, []⟩ hr
      obtain ⟨m, HM⟩ : ∃ m, Hid ((rplain k ⟨co, ep, a2, ct, []⟩ e).length = m) := ⟨_, rfl⟩
      have hbl : (rbox k key ⟨co, ep, a2, ct, []⟩ e).length = m + 16 := by rw [rbox_length, HM.out]
      have HML : Hid (64 ≤ m ∧ m ≤ 2048) := by rw [HM.out] at hpl; exact ⟨hpl.2.2.1, hpl.2.1⟩
      rw [show RecV (Rec.with ⟨co, ep, a2, ct, []⟩ (rbox k key ⟨co, ep, a2, ct, []⟩ e)) bq bc = #[.int .i64 co, .int .i64 ep, .int .i64 a2, .int .i64 ct, .slice bq (m + 16) bc] from by unfold RecV Rec.with; simp only [hbl]]
      rw [hbl] at h1
      obtain ⟨g, gc, e0, hg, hgl, hgc, -⟩ := own_cell h1 (by omega)
      obtain ⟨rfl, -, rfl⟩ := Value.slice.inj e0
      have HHR := hid hr
      have HHN := hid hnum
      obtain ⟨bx, HBX⟩ : ∃ bx, Hid (rbox k key ⟨co, ep, a2, ct, []⟩ e = bx) := ⟨_, rfl⟩
      have HBL : Hid (bx.length = m + 16) := by rw [← HBX.out]; exact hbl
      have HBS : Hid (∀ y ∈ bx, y < 256) := fun y hy => by
        rw [← HBX.out] at hy
        exact A5.Ae.box_lt (padL_small' (twoL_small (bytes_small (EnIs.small HA.out)) (rmark_ok k _ _).2) (by have := (bytes_length HHR.out).1; rw [twoL_length, (rmark_ok k _ _).1]; omega)) y hy
      rw [HBX.out] at h1
      have HG : Hid (w4.heap.size ≤ g ∧ g < w5.heap.size) := ⟨hg, hgl⟩
      have HO5 := hid h1
      have HB5 := hid h2
      clear h1 h2 hpl hbl hg hgl hgc e0 hr hnum
      go_upto_region 8 with fail
      have hb6 := S7.below_alloc' w5 (.cells #[.int .i64 co, .int .i64 ep, .int .i64 a2, .int .i64 ct, .slice (some ⟨g, 0, none⟩) (m + 16) bc] 24)
      have HR6 : Hid ((w5.alloc (.cells #[.int .i64 co, .int .i64 ep, .int .i64 a2, .int .i64 ct, .slice (some ⟨g, 0, none⟩) (m + 16) bc] 24)).heap[w5.heap.size]? = some (.cells #[.int .i64 co, .int .i64 ep, .int .i64 a2, .int .i64 ct, .slice (some ⟨g, 0, none⟩) (m + 16) bc] 24 (0, 0))) := heap_alloc_new w5 _
      have HB6 : Hid (Below w4.heap.size w4 (w5.alloc (.cells #[.int .i64 co, .int .i64 ep, .int .i64 a2, .int .i64 ct, .slice (some ⟨g, 0, none⟩) (m + 16) bc] 24))) := HB5.out.trans (hb6.mono HB5.out.size)
      have HO6 : Hid ((w5.alloc (.cells #[.int .i64 co, .int .i64 ep, .int .i64 a2, .int .i64 ct, .slice (some ⟨g, 0, none⟩) (m + 16) bc] 24)).ownsRow w4.heap.size 5 1 (.slice (some ⟨g, 0, none⟩) (m + 16) bc) (m + 16) (ints .u8 bx)) := own_kx (ts := []) HO5.out (Kx.of_below hb6 (Nat.le_refl _)) (by simp)
      have HS6 : Hid (w5.heap.size < (w5.alloc (.cells #[.int .i64 co, .int .i64 ep, .int .i64 a2, .int .i64 ct, .slice (some ⟨g, 0, none⟩) (m + 16) bc] 24)).heap.size) := (Array.getElem?_eq_some_iff.1 HR6.out).1
      clear hb6 HO5 HB5
      generalize hW6 : w5.alloc (.cells #[.int .i64 co, .int .i64 ep, .int .i64 a2, .int .i64 ct, .slice (some ⟨g, 0, none⟩) (m + 16) bc] 24) = w6 at *
      clear hW6
      generalize w5.heap.size = e15 at *
      have HNG : Hid (e15 ≠ g) := by have := HG.out; show _ ≠ _; omega
      have HO1 : Hid (Calls Tryz.prog 25 #[.pointer (some ⟨p, 0, none⟩), .slice q1 n c, .slice kq 32 kc, .agg #[.int .i64 co, .int .i64 ep, .int .i64 a2, .int .i64 ct, .slice (some ⟨g, 0, none⟩) (m + 16) bc]] w6 fun y w' => ∃ xnp xnc xvp xvc xwq xwc, y = .returned (.tuple #[.agg #[.int .i64 e.kind, .int .i64 e.writer, .int .i64 e.seq, .slice xnp e.name.length xnc, .slice xvp e.value.length xvc, .int .i64 e.who, .int .i64 e.rights, .int .i64 e.epoch, .slice xwq e.wraps.length xwc], .int .i64 0]) ∧ EnNew w6.heap.size w' (.agg #[.int .i64 e.kind, .int .i64 e.writer, .int .i64 e.seq, .slice xnp e.name.length xnc, .slice xvp e.value.length xvc, .int .i64 e.who, .int .i64 e.rights, .int .i64 e.epoch, .slice xwq e.wraps.length xwc]) e ∧ Below w6.heap.size w6 w') := by
        have hZ := H4.out.below HB6.out
        have hrr : rright (Rec.with ⟨co, ep, a2, ct, []⟩ bx) = true := (rright_iff _).2 ⟨HHN.out, by show 80 ≤ bx.length ∧ bx.length ≤ 2064; rw [HBL.out]; have := HML.out; omega⟩
        have h := Open_rl (Rec.with ⟨co, ep, a2, ct, []⟩ bx) (some ⟨g, 0, none⟩) bc hrr (HRP.out _ hZ) HN.out hZ.kb HKL.out (by show Src w6 (.slice (some ⟨g, 0, none⟩) bx.length bc) bx; rw [HBL.out]; exact Src.own HBS.out HO6.out)
        rw [show RecV (Rec.with ⟨co, ep, a2, ct, []⟩ bx) (some ⟨g, 0, none⟩) bc = #[.int .i64 co, .int .i64 ep, .int .i64 a2, .int .i64 ct, .slice (some ⟨g, 0, none⟩) (m + 16) bc] from by unfold RecV Rec.with; simp only [HBL.out]] at h
        refine h.mono (fun y w' hy => ?_)
        have hy' := open_own_rl k key ⟨co, ep, a2, ct, []⟩ HHR.out HW.out (w := w6) (w' := w') (y := y) (J := fun b _ => b.length ≤ 4096) (by rw [HBX.out]; exact hy)
        obtain ⟨k1, v, rfl, k2⟩ := hy'
        obtain ⟨xnp, xnc, xvp, xvc, xwq, xwc, rfl, -⟩ := k2.is
        exact ⟨xnp, xnc, xvp, xvc, xwq, xwc, rfl, k2, k1⟩
      obtain ⟨c0, c1, d2, c3, c4, -⟩ := rec_cells HR6.out
      go_wp2_with fail
      refine HO1.out.mono ?_
      rintro y w7 ⟨xnp, xnc, xvp, xvc, xwq, xwc, rfl, h3, h4⟩
      clear HO1 c0 c1 d2 c3 c4
      go_upto_region 11 with fail
      have hb8 := S7.below_alloc' w7 (.cells #[.int .i64 e.kind, .int .i64 e.writer, .int .i64 e.seq, .slice xnp e.name.length xnc, .slice xvp e.value.length xvc, .int .i64 e.who, .int .i64 e.rights, .int .i64 e.epoch, .slice xwq e.wraps.length xwc] 49)
      have hb68 : Below w6.heap.size w6 (w7.alloc (.cells #[.int .i64 e.kind, .int .i64 e.writer, .int .i64 e.seq, .slice xnp e.name.length xnc, .slice xvp e.value.length xvc, .int .i64 e.who, .int .i64 e.rights, .int .i64 e.epoch, .slice xwq e.wraps.length xwc] 49)) := h4.trans (hb8.mono h4.size)
      have HB8 : Hid (Below w4.heap.size w4 (w7.alloc (.cells #[.int .i64 e.kind, .int .i64 e.writer, .int .i64 e.seq, .slice xnp e.name.length xnc, .slice xvp e.value.length xvc, .int .i64 e.who, .int .i64 e.rights, .int .i64 e.epoch, .slice xwq e.wraps.length xwc] 49))) := HB6.out.trans (hb68.mono HB6.out.size)
      have HO8 : Hid ((w7.alloc (.cells #[.int .i64 e.kind, .int .i64 e.writer, .int .i64 e.seq, .slice xnp e.name.length xnc, .slice xvp e.value.length xvc, .int .i64 e.who, .int .i64 e.rights, .int .i64 e.epoch, .slice xwq e.wraps.length xwc] 49)).ownsRow w4.heap.size 5 1 (.slice (some ⟨g, 0, none⟩) (m + 16) bc) (m + 16) (ints .u8 bx)) := own_kx (ts := []) HO6.out (Kx.of_below hb68 (Nat.le_refl _)) (by simp)
      have HR8 : Hid ((w7.alloc (.cells #[.int .i64 e.kind, .int .i64 e.writer, .int .i64 e.seq, .slice xnp e.name.length xnc, .slice xvp e.value.length xvc, .int .i64 e.who, .int .i64 e.rights, .int .i64 e.epoch, .slice xwq e.wraps.length xwc] 49)).heap[e15]? = some (.cells #[.int .i64 co, .int .i64 ep, .int .i64 a2, .int .i64 ct, .slice (some ⟨g, 0, none⟩) (m + 16) bc] 24 (0, 0))) := (hb68.block _ HS6.out).trans HR6.out
      have HX8 : Hid ((w7.alloc (.cells #[.int .i64 e.kind, .int .i64 e.writer, .int .i64 e.seq, .slice xnp e.name.length xnc, .slice xvp e.value.length xvc, .int .i64 e.who, .int .i64 e.rights, .int .i64 e.epoch, .slice xwq e.wraps.length xwc] 49)).heap[w7.heap.size]? = some (.cells #[.int .i64 e.kind, .int .i64 e.writer, .int .i64 e.seq, .slice xnp e.name.length xnc, .slice xvp e.value.length xvc, .int .i64 e.who, .int .i64 e.rights, .int .i64 e.epoch, .slice xwq e.wraps.length xwc] 49 (0, 0))) := heap_alloc_new w7 _
      have HE8 : Hid (EnNew w6.heap.size (w7.alloc (.cells #[.int .i64 e.kind, .int .i64 e.writer, .int .i64 e.seq, .slice xnp e.name.length xnc, .slice xvp e.value.length xvc, .int .i64 e.who, .int .i64 e.rights, .int .i64 e.epoch, .slice xwq e.wraps.length xwc] 49)) (.agg #[.int .i64 e.kind, .int .i64 e.writer, .int .i64 e.seq, .slice xnp e.name.length xnc, .slice xvp e.value.length xvc, .int .i64 e.who, .int .i64 e.rights, .int .i64 e.epoch, .slice xwq e.wraps.length xwc]) e) := h3.agree (Agree.below hb8)
      have HN8 : Hid (w7.heap.size ≠ g ∧ g < w6.heap.size ∧ w6.heap.size ≤ w7.heap.size) := ⟨by have := HG.out; have := HS6.out; have := h4.size; omega, by have := HG.out; have := HS6.out; omega, h4.size⟩
      clear h3 h4 hb8 hb68 HB6 HO6 HR6
      generalize hW8 : w7.alloc (.cells #[.int .i64 e.kind, .int .i64 e.writer, .int .i64 e.seq, .slice xnp e.name.length xnc, .slice xvp e.value.length xvc, .int .i64 e.who, .int .i64 e.rights, .int .i64 e.epoch, .slice xwq e.wraps.length xwc] 49) = w8 at *
      clear hW8
      generalize w7.heap.size = e17 at *
      obtain ⟨zn, rfl⟩ : ∃ zn : Nat, z = (zn : Int) := ⟨z.toNat, by omega⟩
      obtain ⟨j, hj⟩ : ∃ j, zn / 8 % 16 = j := ⟨_, rfl⟩
      obtain ⟨s, hs⟩ : ∃ s, zn % 8 = s := ⟨_, rfl⟩
      have j1 : (zn : Int) / 8 % 16 = (j : Int) := by omega
      have s1 : (zn : Int) % 8 = (s : Int) := by omega
      have j2 : j < 16 := by omega
      have s2 : s < 8 := by omega
      clear hj hs
      have j3 : (0 : Int) ≤ (j : Int) := by omega
      have s3 : (0 : Int) ≤ (s : Int) := by omega
      have s4 : (s : Int) < 8 := by omega
      have m0 : m ≤ 2048 := HML.out.2
      have m1 : ((m + 16 : Nat) : Int) - 16 = (m : Int) := by omega
      have j4 : (m : Int) + (j : Int) < ((m + 16 : Nat) : Int) := by omega
      have j5 : (0 : Int) ≤ (m : Int) + (j : Int) := by omega
      have hcell : w8.cell? ⟨g, m + j, none⟩ = some (.int .u8 (Sp.nth bx (m + j) : Nat)) := by
        obtain ⟨g', c', e0, _, _, _, hr⟩ := own_cell HO8.out (by omega)
        cases e0
        have := C3.range_cell hr (m + j) (by rw [HBL.out]; omega)
        rwa [Nat.zero_add] at this
      have hfr := S7.own_may HO8.out (m + j)
      have x1 : Sp.nth bx (m + j) < 256 := Sp.nth_lt (by decide) HBS.out _
      obtain ⟨x, hx⟩ : ∃ x, Sp.nth bx (m + j) = x := ⟨_, rfl⟩
      have HXE : Hid (Sp.nth bx (m + j) = x) := hx
      rw [hx] at hcell x1
      clear hx
      obtain ⟨c0, c1, d2, c3, c4, -⟩ := rec_cells HR8.out
      go_region
      rw [turn_bit' x1 s2]
      have hd : ∀ u : World, Below u.heap.size u u.drew := fun u => ⟨rfl, rfl, rfl, Nat.le_refl _, fun _ _ => rfl⟩
      have hy2 : x ^^^ 2 ^ s < 256 := Nat.xor_lt_two_pow (n := 8) x1 (Nat.pow_lt_pow_right (n := 8) (by decide) s2)
      have ho9 : S7.Only [g] w8 (w8.setCell ⟨g, m + j, none⟩ (.int .u8 ((x ^^^ 2 ^ s : Nat) : Int))).drew := (S7.Only.setCell (bs := [g]) w8 ⟨g, m + j, none⟩ _ (by simp)).trans (S7.Only.of_below (hd _) _)
      have HS9 : Hid (Src (w8.setCell ⟨g, m + j, none⟩ (.int .u8 ((x ^^^ 2 ^ s : Nat) : Int))).drew (.slice (some ⟨g, 0, none⟩) (m + 16) bc) (bx.set (m + j) (x ^^^ 2 ^ s))) :=
        (Src.own (fun y hy => by
          rcases List.mem_or_eq_of_mem_set hy with h | h
          · exact HBS.out y h
          · rw [h]; exact hy2) (S7.own_set HO8.out)).below (hd _)
      have HB9 : Hid (Below w4.heap.size w4 (w8.setCell ⟨g, m + j, none⟩ (.int .u8 ((x ^^^ 2 ^ s : Nat) : Int))).drew) := HB8.out.trans (ho9.below HB8.out.size (by intro y hy; rw [List.mem_singleton.1 hy]; exact HG.out.1))
      have HR9 : Hid ((w8.setCell ⟨g, m + j, none⟩ (.int .u8 ((x ^^^ 2 ^ s : Nat) : Int))).drew.heap[e15]? = some (.cells #[.int .i64 co, .int .i64 ep, .int .i64 a2, .int .i64 ct, .slice (some ⟨g, 0, none⟩) (m + 16) bc] 24 (0, 0))) := (ho9.block _ (Array.getElem?_eq_some_iff.1 HR8.out).1 (by simp; exact HNG.out)).trans HR8.out
      have HX9 : Hid ((w8.setCell ⟨g, m + j, none⟩ (.int .u8 ((x ^^^ 2 ^ s : Nat) : Int))).drew.heap[e17]? = some (.cells #[.int .i64 e.kind, .int .i64 e.writer, .int .i64 e.seq, .slice xnp e.name.length xnc, .slice xvp e.value.length xvc, .int .i64 e.who, .int .i64 e.rights, .int .i64 e.epoch, .slice xwq e.wraps.length xwc] 49 (0, 0))) := (ho9.block _ (Array.getElem?_eq_some_iff.1 HX8.out).1 (by simp; exact HN8.out.1)).trans HX8.out
      have HE9 : Hid (EnNew w6.heap.size (w8.setCell ⟨g, m + j, none⟩ (.int .u8 ((x ^^^ 2 ^ s : Nat) : Int))).drew (.agg #[.int .i64 e.kind, .int .i64 e.writer, .int .i64 e.seq, .slice xnp e.name.length xnc, .slice xvp e.value.length xvc, .int .i64 e.who, .int .i64 e.rights, .int .i64 e.epoch, .slice xwq e.wraps.length xwc]) e) := HE8.out.agree (agree_set ho9 HN8.out.2.1)
      have HSP : Hid (A5.Ae.opens key (S7.non a2.toNat ct.toNat) (rfront ⟨co, ep, a2, ct, []⟩) (bx.set (m + j) (x ^^^ 2 ^ s)) = none) := by
        have h := spoilt k key ⟨co, ep, a2, ct, []⟩ e (s := s) j2
        rw [HBX.out, HM.out, HXE.out] at h
        exact h
      have HLX : Hid ((bx.set (m + j) (x ^^^ 2 ^ s)).length = m + 16) := by show _ = _; rw [List.length_set, HBL.out]
      clear ho9 HO8 HB8 HR8 HX8 HE8 hcell hfr c0 c1 d2 c3 c4 HXE hy2 hd
      generalize (w8.setCell ⟨g, m + j, none⟩ (.int .u8 ((x ^^^ 2 ^ s : Nat) : Int))).drew = w9 at *
      generalize bx.set (m + j) (x ^^^ 2 ^ s) = bx2 at *
      have HO2 : Hid (Calls Tryz.prog 25 #[.pointer (some ⟨p, 0, none⟩), .slice q1 n c, .slice kq 32 kc, .agg #[.int .i64 co, .int .i64 ep, .int .i64 a2, .int .i64 ct, .slice (some ⟨g, 0, none⟩) (m + 16) bc]] w9 fun y w' => y = .returned (.tuple #[.agg #[.int .i64 0, .int .i64 0, .int .i64 0, .slice none 0 0, .slice none 0 0, .int .i64 0, .int .i64 0, .int .i64 0, .slice none 0 0], .int .i64 20]) ∧ Below w9.heap.size w9 w') := by
        have hZ := H4.out.below HB9.out
        have hrr : rright (Rec.with ⟨co, ep, a2, ct, []⟩ bx2) = true := (rright_iff _).2 ⟨HHN.out, by show 80 ≤ bx2.length ∧ bx2.length ≤ 2064; rw [HLX.out]; have := HML.out; omega⟩
        have h := Open_rl (Rec.with ⟨co, ep, a2, ct, []⟩ bx2) (some ⟨g, 0, none⟩) bc hrr (HRP.out _ hZ) HN.out hZ.kb HKL.out (by show Src w9 (.slice (some ⟨g, 0, none⟩) bx2.length bc) bx2; rw [HLX.out]; exact HS9.out)
        rw [show RecV (Rec.with ⟨co, ep, a2, ct, []⟩ bx2) (some ⟨g, 0, none⟩) bc = #[.int .i64 co, .int .i64 ep, .int .i64 a2, .int .i64 ct, .slice (some ⟨g, 0, none⟩) (m + 16) bc] from by unfold RecV Rec.with; simp only [HLX.out]] at h
        refine h.mono (fun y w' hy => ?_)
        have hy' : OpAll [] [] w9.heap.size (Rec.with ⟨co, ep, a2, ct, []⟩ bx2) (A5.Ae.opens key (S7.non a2.toNat ct.toNat) (rfront ⟨co, ep, a2, ct, []⟩) bx2) (rmark k (Rec.with ⟨co, ep, a2, ct, []⟩ bx2)) (fun b _ => b.length ≤ 4096) w9 y w' := hy
        rw [HSP.out] at hy'
        exact hy'
      obtain ⟨c0, c1, d2, c3, c4, -⟩ := rec_cells HR9.out
      go_wp2_with fail
      refine HO2.out.mono ?_
      rintro y w10 ⟨rfl, h3⟩
      clear HO2 c0 c1 d2 c3 c4
      go_upto_region 13 with fail
      have hb11 := S7.below_alloc' w10 (.cells #[.int .i64 0, .int .i64 0, .int .i64 0, .slice none 0 0, .slice none 0 0, .int .i64 0, .int .i64 0, .int .i64 0, .slice none 0 0] 49)
      have hb911 : Below w9.heap.size w9 (w10.alloc (.cells #[.int .i64 0, .int .i64 0, .int .i64 0, .slice none 0 0, .slice none 0 0, .int .i64 0, .int .i64 0, .int .i64 0, .slice none 0 0] 49)) := h3.trans (hb11.mono h3.size)
      have H11 := hid (H4.out.below (HB9.out.trans (hb911.mono HB9.out.size)))
      have HX11 : Hid ((w10.alloc (.cells #[.int .i64 0, .int .i64 0, .int .i64 0, .slice none 0 0, .slice none 0 0, .int .i64 0, .int .i64 0, .int .i64 0, .slice none 0 0] 49)).heap[e17]? = some (.cells #[.int .i64 e.kind, .int .i64 e.writer, .int .i64 e.seq, .slice xnp e.name.length xnc, .slice xvp e.value.length xvc, .int .i64 e.who, .int .i64 e.rights, .int .i64 e.epoch, .slice xwq e.wraps.length xwc] 49 (0, 0))) := (hb911.block _ (Array.getElem?_eq_some_iff.1 HX9.out).1).trans HX9.out
      have HY11 : Hid ((w10.alloc (.cells #[.int .i64 0, .int .i64 0, .int .i64 0, .slice none 0 0, .slice none 0 0, .int .i64 0, .int .i64 0, .int .i64 0, .slice none 0 0] 49)).heap[w10.heap.size]? = some (.cells #[.int .i64 0, .int .i64 0, .int .i64 0, .slice none 0 0, .slice none 0 0, .int .i64 0, .int .i64 0, .int .i64 0, .slice none 0 0] 49 (0, 0))) := heap_alloc_new w10 _
      have HE11 : Hid (EnNew w6.heap.size (w10.alloc (.cells #[.int .i64 0, .int .i64 0, .int .i64 0, .slice none 0 0, .slice none 0 0, .int .i64 0, .int .i64 0, .int .i64 0, .slice none 0 0] 49)) (.agg #[.int .i64 e.kind, .int .i64 e.writer, .int .i64 e.seq, .slice xnp e.name.length xnc, .slice xvp e.value.length xvc, .int .i64 e.who, .int .i64 e.rights, .int .i64 e.epoch, .slice xwq e.wraps.length xwc]) e) := HE9.out.agree (Agree.below hb911)
      clear h3 hb11 hb911
      generalize hW11 : w10.alloc (.cells #[.int .i64 0, .int .i64 0, .int .i64 0, .slice none 0 0, .slice none 0 0, .int .i64 0, .int .i64 0, .int .i64 0, .slice none 0 0] 49) = w11 at *
      clear hW11
      generalize w10.heap.size = e19 at *
      have HSM : Hid (Calls Tryz.prog 41 #[.agg #[.int .i64 e.kind, .int .i64 e.writer, .int .i64 e.seq, .slice xnp e.name.length xnc, .slice xvp e.value.length xvc, .int .i64 e.who, .int .i64 e.rights, .int .i64 e.epoch, .slice xwq e.wraps.length xwc], .agg #[.int .i64 a1, .int .i64 a2, .int .i64 a3, .slice np nl nc, .slice vp vl vc, .int .i64 a6, .int .i64 a7, .int .i64 a8, .slice wp wl wc]] w11 fun y w' => y = .returned (.bool true) ∧ Below W.heap.size W w' ∧ w'.heap[e19]? = some (.cells #[.int .i64 0, .int .i64 0, .int .i64 0, .slice none 0 0, .slice none 0 0, .int .i64 0, .int .i64 0, .int .i64 0, .slice none 0 0] 49 (0, 0))) := by
        refine (Same_any e e _ _ w11 HE11.out.is (HA.out.below H11.out.bel)).mono ?_
        rintro y w' ⟨rfl, h1⟩
        rw [(same_iff e e).2 rfl]
        exact ⟨rfl, H11.out.bel.trans (h1.mono H11.out.low), (h1.block _ (Array.getElem?_eq_some_iff.1 HY11.out).1).trans HY11.out⟩
      obtain ⟨r0, r1, r2, r3, r4, r5, r6, r7, r8⟩ := e9_cells HX11.out
      obtain ⟨f0, f1, f2, f3, f4, f5, f6, f7, f8⟩ := e9_cells H11.out.ra
      go_wp2_with fail
      refine HSM.out.mono ?_
      rintro y w12 ⟨rfl, h1, h2⟩
      have HZ : Hid (Below W.heap.size W w12) := h1
      clear h1 r0 r1 r2 r3 r4 r5 r6 r7 r8 f0 f1 f2 f3 f4 f5 f6 f7 f8 HSM
      obtain ⟨r0, -⟩ := e9_cells h2
      clear h2
      go_wp2_with fail
      go_ret
      exact ⟨rfl, HZ.out⟩
theorem real_law (e : En) (va : Value) (q1 : Option Addr) (n c : Nat) (co ep ct z : Int) (W : World) (ha : EnIs W va e) (hk : RowIs W q1 n c) (hz : z ≤ 9223372036854775807) (hT : S2.Tab W) :
    Calls Tryz.prog 8 #[va, .slice q1 n c, .int .i64 co, .int .i64 ep, .int .i64 ct, .int .i64 z] W fun y w' => y = .returned (.bool true) ∧ Below W.heap.size W w' := by
  obtain ⟨k, hkl, hks⟩ := Src.of hk
  have ha' := ha
  obtain ⟨np, nc, vp, vc, wq, wc, rfl, -⟩ := ha
  exact real_main e e.kind e.writer e.seq e.who e.rights e.epoch np vp wq e.name.length nc e.value.length vc e.wraps.length wc q1 n c k co ep ct z W ha' rfl hks hkl hT hz
end Go.Proofs.YtfjdaafckiefdaaGreatDoor.S15
