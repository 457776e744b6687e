/- The document's rest of an entry of the fifth kind. -/
import Derived.Test.YtiihdpkpgcmioaaE9Rst
import Derived.Deep.AppendLies
import Derived.Deep.RegionLaw
import Derived.Deep.DrawnRows
namespace Go.Proofs.Ytiihdpkpgcmioaa.E9
open Go.RowKit C8
attribute [local go_sem] Go.wp_at_zero Go.wp_at_succ
theorem rW_len {lo hi : Int} {s : Sta} : ∀ n, (rW lo hi n s).1.length = n
  | 0 => rfl
  | n + 1 => by rw [rW, List.length_append, rW_len n]; rfl
theorem Rg.grow {w0 w W W' : World} {pe pr : Nat} {sv : Value} {l : List Nat} {s : Sta} {C : Array Value} {row : Option Nat} (h : Rg w0 w W pe pr sv l s C) (hl : pe < w.heap.size ∧ pr < w.heap.size) (hg : W.grownBy W' row) (hr : ∀ g, row = some g → w.heap.size ≤ g) : Rg w0 w W' pe pr sv l s C := by
  have hb : ∀ k, k < w.heap.size → W'.heap[k]? = W.heap[k]? := fun k hk => hg.block k (Nat.lt_of_lt_of_le hk h.on.size) (fun e => by have := hr k e.symm; omega)
  obtain ⟨a, h1, h2⟩ := h.rf
  exact ⟨h.pl, ⟨a, (hb pr hl.2).trans h1, h2⟩, (hb pe hl.1).trans h.ev, ⟨hg.os.trans h.on.os, hg.tape.trans h.on.tape, hg.output.trans h.on.output, Nat.le_trans h.on.size hg.size, fun k hk hn => (hb k hk).trans (h.on.block k hk hn)⟩⟩
/-- What rest leaves of an entry of the fifth kind: it stops where the bytes are bad. -/
def Rst5 (w0 w : World) (pe pr : Nat) (sv : Value) (l : List Nat) (a b ep : Int) (cn : Nat) (s5 : Sta) (w' : World) : Prop :=
  ∃ j, j ≤ cn ∧ (j = cn ∨ (rW 48 48 j s5).2.2 = true) ∧ RstSays w0 w pe pr sv l ⟨5, a, b, [], [], 0, 0, ep, (rW 48 48 j s5).1⟩ (rW 48 48 j s5).2 w'
theorem rst5_end {w0 w W : World} {pe pr : Nat} {sv : Value} {l : List Nat} {a b ep : Int} {cn j : Nat} {s5 : Sta} {q : Option Addr} {c : Nat} {xs : List Value} (hj : j ≤ cn) (hc : cn ≤ 16) (he : j = cn ∨ (rW 48 48 j s5).2.2 = true) (hl : pe < w.heap.size)
    (hg : Rg w0 w W pe pr sv l (rW 48 48 j s5).2 #[.int .i64 5, .int .i64 a, .int .i64 b, .slice none 0 0, .slice none 0 0, .int .i64 0, .int .i64 0, .int .i64 ep, .slice q j c]) (ho : W.ownsRow w.heap.size 47 2 (.slice q j c) j xs) (ha : AreS w0 xs (rW 48 48 j s5).1) : Rst5 w0 w pe pr sv l a b ep cn s5 W := by
  have hlen : (rW 48 48 j s5).1.length = j := rW_len j
  have e : #[.int .i64 5, .int .i64 a, .int .i64 b, .slice none 0 0, .slice none 0 0, .int .i64 0, .int .i64 0, .int .i64 ep, .slice q j c] = EnV ⟨5, a, b, [], [], 0, 0, ep, (rW 48 48 j s5).1⟩ none 0 none 0 q c := by simp only [EnV, hlen]; rfl
  rw [e] at hg
  refine ⟨j, hj, he, none, 0, none, 0, q, c, hg, fun w2 hag => ⟨none, 0, none, 0, q, c, rfl, Src.nil _, Src.nil _, ?_, by simp, by simp, by simp only; omega⟩⟩
  have hown : w2.ownsRow w.heap.size 47 2 (.slice q j c) j xs := by
    obtain ⟨hl', h1 | ⟨g, cap, cur, e, hg', hh, hr⟩⟩ := ho
    · exact ⟨hl', .inl h1⟩
    · exact ⟨hl', .inr ⟨g, cap, cur, e, hg', (hag.1 g (.inr (by omega)) (Array.getElem?_eq_some_iff.1 hh).1).trans hh, hr⟩⟩
  exact (ha.turn (fun v t h => src_far h hg.below hag)).row hown hlen
set_option maxHeartbeats 8000000 in
theorem rk5 (w0 w : World) (pe pr : Nat) (sv : Value) (l : List Nat) (a b : Int) (s : Sta) (G0 : Hid (Rg w0 w w pe pr sv l s #[.int .i64 5, .int .i64 a, .int .i64 b, .slice none 0 0, .slice none 0 0, .int .i64 0, .int .i64 0, .int .i64 0, .slice none 0 0])) (ep : Int) (s4 s5 : Sta) (cn : Nat) (H4 : Hid (rN 1 16 s = (ep, s4))) (H5 : Hid (rN 0 16 s4 = ((cn : Int), s5))) (hcn : cn ≤ 16) :
    Calls Try.prog 38 #[.pointer (some ⟨pe, 0, none⟩), .pointer (some ⟨pr, 0, none⟩)] w fun e w' => e = .returned (.tuple #[]) ∧ Rst5 w0 w pe pr sv l a b ep cn s5 w' := by
  obtain ⟨S, HSS⟩ : ∃ S, Hid (Rst5 w0 w pe pr sv l a b ep cn s5 = S) := ⟨_, rfl⟩
  rw [HSS.out]
  have z0 : w.cell? ⟨pe, 0, none⟩ = some (.int .i64 5) := by rw [cell_of_row _ _ _ _ _ _ G0.out.ev]; rfl
  have HLT : Hid (pe < w.heap.size ∧ pr < w.heap.size) := ⟨(Array.getElem?_eq_some_iff.1 G0.out.ev).1, by obtain ⟨a, h1, _⟩ := G0.out.rf; exact h1.lt⟩
  go_enter Try.func38, Try.ntmps38
  go_wp2_with fail
  refine (d37 G0 H4).mono ?_
  rintro e u0 ⟨rfl, G1, _⟩
  have x0 : u0.cell? ⟨pe, 7, none⟩ = some (.int .i64 0) := by rw [cell_of_row _ _ _ _ _ _ G1.out.ev]; rfl
  have y0 : u0.frozen? ⟨pe, 7, none⟩ = false := frozen_of_row _ _ _ _ _ G1.out.ev
  have G2 : Hid (Rg w0 w (u0.setCell ⟨pe, 7, none⟩ (.int .i64 ep)) pe pr sv l s4 #[.int .i64 5, .int .i64 a, .int .i64 b, .slice none 0 0, .slice none 0 0, .int .i64 0, .int .i64 0, .int .i64 ep, .slice none 0 0]) := G1.out.put 7 _ (heap_setCell_same _ pe 7 _ 30 _ G1.out.ev)
  clear G0 G1 z0
  go_wp2_with fail
  refine (d37 G2 H5).mono ?_
  rintro e u1 ⟨rfl, G3, _⟩
  clear G2 x0 y0
  have HI : Hid (∃ q c xs, Rg w0 w u1 pe pr sv l (rW 48 48 0 s5).2 #[.int .i64 5, .int .i64 a, .int .i64 b, .slice none 0 0, .slice none 0 0, .int .i64 0, .int .i64 0, .int .i64 ep, .slice q 0 c] ∧ u1.ownsRow w.heap.size 47 2 (.slice q 0 c) 0 xs ∧ AreS w0 xs (rW 48 48 0 s5).1) := ⟨none, 0, [], G3.out, own_none _ _ _ _, trivial⟩
  clear G3
  have cn1 : (cn : Int) ≤ 16 := by omega
  go_wp2_with fail
  go_loopw [5] (fun i wr => ∃ j : Nat, j ≤ cn ∧ i = .int .i64 j ∧ Hid (∃ q c xs, Rg w0 w wr pe pr sv l (rW 48 48 j s5).2 #[.int .i64 5, .int .i64 a, .int .i64 b, .slice none 0 0, .slice none 0 0, .int .i64 0, .int .i64 0, .int .i64 ep, .slice q j c] ∧ wr.ownsRow w.heap.size 47 2 (.slice q j c) j xs ∧ AreS w0 xs (rW 48 48 j s5).1)) (fun i _ => cn - (intOf i).toNat)
  case atStart => exact ⟨0, by omega, rfl, HI⟩
  case round =>
    obtain ⟨j, hj, rfl, HJ⟩ := hrel
    clear HI
    obtain ⟨q, c, xs, GJ, OJ, AJ⟩ := HJ.out
    clear HJ
    obtain ⟨at_, rf1, rf2⟩ := GJ.rf
    have rb := rf1.cells.2.2.1
    have j0 : (0 : Int) ≤ (j : Int) := by omega
    have HF : Hid (j = cn ∨ (rW 48 48 j s5).2.2 = true → S wr) := fun he => by
      rw [← HSS.out]
      exact rst5_end hj hcn he HLT.out.1 GJ OJ AJ
    have HG : Hid (Rg w0 w wr pe pr sv l (rW 48 48 j s5).2 #[.int .i64 5, .int .i64 a, .int .i64 b, .slice none 0 0, .slice none 0 0, .int .i64 0, .int .i64 0, .int .i64 ep, .slice q j c]) := GJ
    have HO : Hid (wr.ownsRow w.heap.size 47 2 (.slice q j c) j xs) := OJ
    have HA : Hid (AreS w0 xs (rW 48 48 j s5).1) := AJ
    clear GJ OJ AJ rf1 rf2
    by_cases hlt : j < cn
    · have j1 : (j : Int) < (cn : Int) := by omega
      cases hbad : (rW 48 48 j s5).2.2 with
      | true =>
        rw [hbad] at rb
        have HF2 : Hid (S wr) := HF.out (.inr hbad)
        clear HF HG HO HA hbad
        go_wp2_with fail
        go_end0
        exact ⟨rfl, HF2.out⟩
      | false =>
        rw [hbad] at rb
        clear HF hbad
        obtain ⟨n1, s', HN1⟩ : ∃ n s', Hid (rN 1 16 (rW 48 48 j s5).2 = (n, s')) := ⟨_, _, rfl⟩
        obtain ⟨tt, s'', HT1⟩ : ∃ tt s'', Hid (rT 48 48 s' = (tt, s'')) := ⟨_, _, rfl⟩
        have HNX : Hid (rW 48 48 (j + 1) s5 = ((rW 48 48 j s5).1 ++ [(n1, tt)], s'')) := by
          show _ = _
          rw [rW, HN1.out]
          simp only
          rw [HT1.out]
        generalize hwj : (rW 48 48 j s5) = wj at *
        have HWJ : Hid (rW 48 48 j s5 = wj) := hwj
        clear hwj
        go_wp2_with fail
        refine (d37 HG HN1).mono ?_
        rintro e v0 ⟨rfl, K1, O1⟩
        have P1 : Hid (v0.ownsRow w.heap.size 47 2 (.slice q j c) j xs) := own_only HO.out O1.out (own_off HO.out (by have := HLT.out; simp; omega))
        have hal : Below v0.heap.size v0 (v0.alloc (.cells #[.int .i64 n1, .slice none 0 0] 47)) := bel_alloc (Nat.le_refl _) _
        have K2 : Hid (Rg w0 w (v0.alloc (.cells #[.int .i64 n1, .slice none 0 0] 47)) pe pr sv l s' #[.int .i64 5, .int .i64 a, .int .i64 b, .slice none 0 0, .slice none 0 0, .int .i64 0, .int .i64 0, .int .i64 ep, .slice q j c]) := K1.out.up hal
        have P2 : Hid ((v0.alloc (.cells #[.int .i64 n1, .slice none 0 0] 47)).ownsRow w.heap.size 47 2 (.slice q j c) j xs) := own_below P1.out hal
        have Q2 : Hid ((v0.alloc (.cells #[.int .i64 n1, .slice none 0 0] 47)).heap[v0.heap.size]? = some (.cells #[.int .i64 n1, .slice none 0 0] 47 (0, 0))) := heap_alloc_new v0 _
        have L2 : Hid (w.heap.size ≤ v0.heap.size ∧ ∀ b, (Value.slice q j c).ownBlock = some b → b ≠ v0.heap.size) := ⟨K1.out.on.size, fun b hb e => by have := (P1.out.lt b hb).2; omega⟩
        clear HG HO hal K1 P1 O1 rb
        go_wp2_with fail
        generalize v0.alloc (.cells #[.int .i64 n1, .slice none 0 0] 47) = v1 at *
        generalize v0.heap.size = bw at *
        refine (d49 K2 HT1).mono ?_
        rintro e v2 ⟨tp, tc, rfl, T3, K3, O3⟩
        have NB : Hid (bw ≠ pr ∧ bw ≠ pe) := by have := L2.out.1; have := HLT.out; exact ⟨by omega, by omega⟩
        have P3 : Hid (v2.ownsRow w.heap.size 47 2 (.slice q j c) j xs) := own_only P2.out O3.out (own_off P2.out (by have := HLT.out; simp; omega))
        have Q3 : v2.heap[bw]? = some (.cells #[.int .i64 n1, .slice none 0 0] 47 (0, 0)) := (O3.out.block bw (Array.getElem?_eq_some_iff.1 Q2.out).1 (by have := NB.out; simp; omega)).trans Q2.out
        generalize htl : tt.length = tl at *
        have HTL : Hid (tt.length = tl) := htl
        clear htl
        have x1 : v2.cell? ⟨bw, 1, none⟩ = some (.slice none 0 0) := by rw [cell_of_row _ _ _ _ _ _ Q3]; rfl
        have y1 : v2.frozen? ⟨bw, 1, none⟩ = false := frozen_of_row _ _ _ _ _ Q3
        have Q4 : Hid ((v2.setCell ⟨bw, 1, none⟩ (.slice tp tl tc)).heap[bw]? = some (.cells #[.int .i64 n1, .slice tp tl tc] 47 (0, 0))) := heap_setCell_same _ bw 1 _ 47 _ Q3
        have on4 : Only [bw] v2 (v2.setCell ⟨bw, 1, none⟩ (.slice tp tl tc)) := Only.setCell _ _ _ (by simp)
        have K4 : Hid (Rg w0 w (v2.setCell ⟨bw, 1, none⟩ (.slice tp tl tc)) pe pr sv l s'' #[.int .i64 5, .int .i64 a, .int .i64 b, .slice none 0 0, .slice none 0 0, .int .i64 0, .int .i64 0, .int .i64 ep, .slice q j c]) := by
          obtain ⟨a', h1, h2⟩ := K3.out.rf
          have hs := K3.out.on
          have h3 := L2.out.1
          have h4 := NB.out
          exact ⟨K3.out.pl, ⟨a', h1.only on4 (by simp; omega), h2⟩, (on4.block pe (Array.getElem?_eq_some_iff.1 K3.out.ev).1 (by simp; omega)).trans K3.out.ev, ⟨on4.os.trans hs.os, on4.tape.trans hs.tape, on4.output.trans hs.output, Nat.le_trans hs.size on4.size, fun k hk hn => (on4.block k (Nat.lt_of_lt_of_le hk hs.size) (by simp; omega)).trans (hs.block k hk hn)⟩⟩
        have P4 : Hid ((v2.setCell ⟨bw, 1, none⟩ (.slice tp tl tc)).ownsRow w.heap.size 47 2 (.slice q j c) j xs) := own_only P3.out on4 (fun b hb hm => L2.out.2 b hb (by simpa using hm))
        clear K2 P2 Q2 K3 P3 Q3 O3 on4
        go_wp2_with fail
        generalize v2.setCell ⟨bw, 1, none⟩ (.slice tp tl tc) = wr at *
        have hc0 : wr.cell? ⟨pe, 8, none⟩ = some (.slice q j c) := by rw [cell_of_row _ _ _ _ _ _ K4.out.ev]; rfl
        have fd : wr.frozen? ⟨pe, 8, none⟩ = false := frozen_of_row _ _ _ _ _ K4.out.ev
        have w0c : wr.cell? ⟨bw, 0, none⟩ = some (.int .i64 n1) := by rw [cell_of_row _ _ _ _ _ _ Q4.out]; rfl
        have w1c : wr.cell? ⟨bw, 1, none⟩ = some (.slice tp tl tc) := by rw [cell_of_row _ _ _ _ _ _ Q4.out]; rfl
        have nd := World.new_ne wr ⟨pe, 8, none⟩ hc0
        have nx := World.new_ne wr ⟨bw, 0, none⟩ w0c
        have av : (Value.slice q j c).ownBlock ≠ some pe := fun e => by have := (P4.out.lt pe e).1; have := HLT.out; omega
        have ap : (Value.slice q j c).ownBlock ≠ some bw := fun e => L2.out.2 bw e rfl
        have ld : pe < wr.heap.size := World.block_lt_of_cell? wr _ hc0
        have lp : bw < wr.heap.size := World.block_lt_of_cell? wr _ w0c
        obtain ⟨i0, hi0, hz1, hz2, hz0⟩ := info47e
        have fda : ∀ c t, (wr.alloc (.cells c t)).drew.frozen? ⟨pe, 8, none⟩ = false := fun c t => (frozen?_alloc_cells wr c t _).trans fd
        have hca : ∀ c' t, (wr.alloc (.cells c' t)).drew.cell? ⟨pe, 8, none⟩ = some (.slice q j c) := fun c' t => (((Below.refl wr.heap.size wr).alloc (Nat.le_refl _) (.cells c' t)).cell (p := ⟨pe, 8, none⟩) ld).trans hc0
        have hB1 : w.heap.size ≤ wr.heap.size := K4.out.on.size
        have hm1 : j + 1 ≤ maxLen := by unfold maxLen; omega
        have hm2 : (j + 1) * 32 ≤ 140737488355328 := by omega
        have HFIN : Hid (∀ gg cap w2, w2.ownsRow w.heap.size 47 2 (.slice (some ⟨gg, 0, none⟩) (j + 1) cap) (j + 1) (xs ++ [.int .i64 n1, .slice tp tl tc]) → (wr.alloc (.cells #[.int .i64 n1, .slice tp tl tc] 47)).drew.grownBy w2 (Value.slice q j c).ownBlock → (∃ q c xs, Rg w0 w (w2.setCell ⟨pe, 8, none⟩ (.slice (some ⟨gg, 0, none⟩) (j + 1) cap)) pe pr sv l (rW 48 48 (j + 1) s5).2 #[.int .i64 5, .int .i64 a, .int .i64 b, .slice none 0 0, .slice none 0 0, .int .i64 0, .int .i64 0, .int .i64 ep, .slice q (j + 1) c] ∧ (w2.setCell ⟨pe, 8, none⟩ (.slice (some ⟨gg, 0, none⟩) (j + 1) cap)).ownsRow w.heap.size 47 2 (.slice q (j + 1) c) (j + 1) xs ∧ AreS w0 xs (rW 48 48 (j + 1) s5).1)) := by
          intro gg cap w2 ho hg
          have hb : Below wr.heap.size wr (wr.alloc (.cells #[.int .i64 n1, .slice tp tl tc] 47)).drew := ((Below.refl _ _).alloc (Nat.le_refl _) _).trans ⟨rfl, rfl, rfl, Nat.le_refl _, fun _ _ => rfl⟩
          have k1 := (K4.out.up hb).grow HLT.out hg (fun g e => (P4.out.lt g e).1)
          have on5 : Only [pe] w2 (w2.setCell ⟨pe, 8, none⟩ (.slice (some ⟨gg, 0, none⟩) (j + 1) cap)) := Only.setCell _ _ _ (by simp)
          refine ⟨_, cap, _, ?_, own_only ho on5 (own_off ho (by have := HLT.out; simp; omega)), ?_⟩
          · rw [HNX.out]
            exact k1.put 8 _ (heap_setCell_same _ pe 8 _ 30 _ k1.ev)
          · rw [HNX.out]
            have hsn := HA.out.snoc (n := n1) (t := tt) (tp := tp) (tc := tc) (by rw [HTL.out]; exact T3.out.1) (by have := T3.out.2; rw [HTL.out]; omega)
            rw [HTL.out] at hsn
            exact hsn
        have HOWN : Hid (wr.ownsRow w.heap.size 47 2 (.slice q j c) j xs) := P4.out
        clear K4 P4 Q4 HA T3 HTL HN1 HT1 HNX L2 NB x1 y1
        go_region_law ((refine step_append_lies _ (by rfl) _ _ _ (by rfl) w.heap.size 47 i0 _ 2 32 Try.underlying28 hi0 hz0 hz1 hz2 rfl (by omega) (.slice q j c) j xs (by rfl) ((HOWN.out.alloc _).drew) ⟨wr.heap.size, 0, none⟩ 1 1 [.int .i64 n1, .slice tp tl tc] (by rfl) (by rfl) (World.news_of_block (cs := #[.int .i64 n1, .slice tp tl tc]) (t := 47) (fr := (0, 0)) (heap_alloc_new wr _)) (by simp [Value.oneCell']) (by omega) hm1 hm2 (by simp; omega) (wr.heap.size + 1) (by simp) ?_; intro gg cap w2 hown2 hgrow hat hlt; have hc2 : w2.cell? ⟨pe, 8, none⟩ = some (.slice q j c) := (hgrow.cell_far _ (by simp; omega) (Ne.symm av)).trans (hca _ _); have hf2 : w2.frozen? ⟨pe, 8, none⟩ = false := (hgrow.frozen_far _ (by simp; omega) (Ne.symm av)).trans (fda _ _)))
        all_goals
          have HZ := HFIN.out _ _ _ hown2 hgrow
          have HZ1 : Hid (∃ q c xs, Rg w0 w (w2.setCell ⟨pe, 8, none⟩ (.slice (some ⟨gg, 0, none⟩) (j + 1) cap)) pe pr sv l (rW 48 48 (j + 1) s5).2 #[.int .i64 5, .int .i64 a, .int .i64 b, .slice none 0 0, .slice none 0 0, .int .i64 0, .int .i64 0, .int .i64 ep, .slice q (j + 1) c] ∧ (w2.setCell ⟨pe, 8, none⟩ (.slice (some ⟨gg, 0, none⟩) (j + 1) cap)).ownsRow w.heap.size 47 2 (.slice q (j + 1) c) (j + 1) xs ∧ AreS w0 xs (rW 48 48 (j + 1) s5).1) := HZ
          clear HZ hown2 hgrow HFIN hat fda hca HWJ
          go_wp2_with fail
          refine ⟨⟨j + 1, by omega, by simp, HZ1⟩, ?_⟩
          simp only [intOf]
          omega
    · obtain rfl : j = cn := by omega
      have j1 : ¬ (j : Int) < (j : Int) := by omega
      have HF2 : Hid (S wr) := HF.out (.inl rfl)
      clear HF HG HO HA
      go_wp2_with fail
      go_end0
      exact ⟨rfl, HF2.out⟩
end Go.Proofs.Ytiihdpkpgcmioaa.E9
