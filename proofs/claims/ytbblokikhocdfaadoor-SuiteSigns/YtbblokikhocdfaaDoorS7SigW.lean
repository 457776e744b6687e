/- The walk of SuiteSigns. -/
import Derived.Test.YtbblokikhocdfaaDoorS7SigY
import Derived.Deep.CutRange
import Derived.Deep.CutBlock
namespace Go.Proofs.YtbblokikhocdfaaDoor.S7
open Go.RowKit
theorem OpRow.up {w w1 : World} {q : Option Addr} {os : List Op7} (h : OpRow w w1 q os) (hs : w.heap.size ≤ w1.heap.size) : OpRow w1 w1 q os := fun j hj => by
  obtain ⟨b, o, kv, nv, ov, tv, h1, h2, h3, o1, o2, o3, o4⟩ := h j hj
  exact ⟨b, o, kv, nv, ov, tv, h1, Nat.lt_of_lt_of_le h2 hs, h3, o1.up hs, o2.up hs, o3.up hs, o4.up hs⟩
theorem sm7_of {os : List Op7} {m : Nat} (h : sm7 os m = true) : os.length ≤ m ∧ ∀ p ∈ os, p.key.length ≤ 100 ∧ p.nonce.length ≤ 100 ∧ p.other.length ≤ 100 ∧ p.text.length ≤ 200 := by
  simp only [sm7, Bool.and_eq_true, decide_eq_true_eq, List.all_eq_true] at h
  refine ⟨h.2, fun p hp => ?_⟩
  have := h.1 p hp
  simp only [ok7, Bool.and_eq_true, decide_eq_true_eq] at this
  exact ⟨this.1.1.1, this.1.1.2, this.1.2, this.2⟩
theorem Sg.start {w w2 : World} {p q m x : Nat} (hb : Below w.heap.size w w2) (hs : SuIs w2 p q m x []) (lp : w.heap.size ≤ p) (lm : w.heap.size ≤ m) (lx : w.heap.size ≤ x) : Sg w (w2.alloc (.cells #[.slice none 0 0] 30)) p q m x w2.heap.size (.slice none 0 0) 0 [] [] [] := by
  have ha : Below w2.heap.size w2 (w2.alloc (.cells #[.slice none 0 0] 30)) := below_alloc w2 _
  exact ⟨hb.trans (ha.mono hb.size), ⟨hs.below ha, ⟨_, [], ⟨hb.size, heap_alloc_new w2 _, own_none _ _ _ _, rfl, fun i c u h => by simp at h⟩⟩, lp, lm, lx, Nat.le_trans hb.size ha.size⟩, own_none _ _ _ _, rfl, rfl, fun i y l h => by simp at h, fun l h => by simp at h, fun u h => by simp at h⟩
def sgR (B p q m x d : Nat) (L L1 : List Su.Thing) : Nat → World → Prop
  | 0, u => Pr B u p q m x d L L
  | 1, u => Pr B u p q m x d L1 L
  | _ + 2, u => Pr B u p q m x d L1 L1
theorem sgR_below {B p q m x d : Nat} {L L1 : List Su.Thing} : ∀ k w w', Below w.heap.size w w' → sgR B p q m x d L L1 k w → sgR B p q m x d L L1 k w'
  | 0, _, _, hb, h => Pr.below h hb
  | 1, _, _, hb, h => Pr.below h hb
  | _ + 2, _, _, hb, h => Pr.below h hb
set_option maxHeartbeats 16000000 in
set_option maxRecDepth 20000 in
theorem signs_main (os : List Op7) (a : Option Addr) (n c : Nat) (w : World) (hos : os.length = n) (hn : n ≤ 9223372036854775807) (hP : OpRow w w a os) :
    Calls Tryd.prog 3 #[.slice a n c] w fun e w' => e = .returned (.bool true) ∧ Below w.heap.size w w' := by
  have HP : Hid (∀ W, Below w.heap.size w W → OpRow w W a os) := fun W hW => hP.below hW
  have HN : Hid (os.length = n) := hos
  have HS11 : Hid (∀ W, Below w.heap.size w W → Calls Tryd.prog 11 #[.slice a n c, .int .i64 60] W fun e w' => e = .returned (.bool (sm7 os 60)) ∧ Below W.heap.size W w') := fun W hW => small7_any os a n c 60 W hos hn ((hP.below hW).up hW.size)
  have n9 : (n : Int) ≤ 9223372036854775807 := by omega
  clear hP hos
  obtain ⟨sm, HSM⟩ : ∃ sm, Hid (sm7 os 60 = sm) := ⟨_, rfl⟩
  rw [HSM.out] at HS11
  go_enter Tryd.func3, Tryd.ntmps3
  go_wp2_with fail
  refine (anchor_any _).mono ?_
  rintro e w1 ⟨rfl, hb1⟩
  have HB1 : Hid (Below w.heap.size w w1) := hb1
  have H11 := HS11.out w1 hb1
  clear hb1 HS11
  go_wp2_with fail
  refine H11.mono ?_
  rintro e w2 ⟨rfl, hb2⟩
  have HB2 : Hid (Below w.heap.size w w2) := HB1.out.trans (hb2.mono HB1.out.size)
  clear H11 hb2 HB1
  cases sm with
  | false =>
    go_wp2_with fail
    go_ret
    exact ⟨rfl, HB2.out⟩
  | true =>
    have HSO : Hid (∀ p ∈ os, p.key.length ≤ 100 ∧ p.nonce.length ≤ 100 ∧ p.other.length ≤ 100 ∧ p.text.length ≤ 200) := (sm7_of HSM.out).2
    have hn6 : n ≤ 60 := by have := (sm7_of HSM.out).1; rw [HN.out] at this; exact this
    have n60 : (n : Int) ≤ 60 := by omega
    clear HSM n9 hn
    go_wp2_with fail
    refine (Signs_new w2).mono ?_
    rintro e w3 ⟨p, q, m, x, rfl, hs3, hb3, hp3⟩
    have G0 : Hid (Sg w (w3.alloc (.cells #[.slice none 0 0] 30)) p q m x w3.heap.size (.slice none 0 0) 0 [] [] []) := by
      have := HB2.out.size
      exact Sg.start (HB2.out.trans (hb3.mono HB2.out.size)) hs3 (by omega) (by omega) (by omega)
    clear hs3 hb3 hp3 HB2
    go_wp2_with fail
    generalize w3.alloc (.cells #[.slice none 0 0] 30) = W3 at *
    generalize w3.heap.size = d at *
    go_loopw [5, 22] (fun v i wr => ∃ (j k : Nat) (xs : List Value) (ts : List (List Nat)) (L : List Su.Thing), j ≤ n ∧ k ≤ j ∧ L.length ≤ j ∧ i = .int .i64 j ∧ Hid (Sg w wr p q m x d v k xs ts L)) (fun _ i _ => n - (intOf i).toNat)
    case atStart => exact ⟨0, 0, [], [], [], by omega, by omega, by simp, rfl, G0⟩
    case round =>
      obtain ⟨j, k, xs, ts, L, hj, hk, hL, rfl, GJ⟩ := hrel
      clear G0
      have j0 : (0 : Int) ≤ (j : Int) := by omega
      by_cases hlt : j < n
      · have hjp : j < os.length := by rw [HN.out]; exact hlt
        have j1 : (j : Int) < (n : Int) := by omega
        obtain ⟨bb, ob, kv, nv, ov, tv, rfl, hbb, ⟨d0, d1, d2, d3, d4, d5, d6⟩, o1, o2, o3, o4⟩ := (HP.out wr GJ.out.bel) j hjp
        obtain ⟨vq, vc, rfl⟩ := own_slice GJ.out.row
        have hsm := HSO.out os[j] (List.getElem_mem hjp)
        obtain ⟨q1, c1, rfl, -⟩ := o1.1.slice
        obtain ⟨q2, c2, rfl, -⟩ := o2.1.slice
        obtain ⟨q3, c3, rfl, -⟩ := o3.1.slice
        obtain ⟨q4, c4, rfl, -⟩ := o4.1.slice
        generalize os[j] = ot at *
        obtain ⟨k0, ky, nn, oo, tx, r5, r6⟩ := ot
        simp only at d0 d1 d2 d3 d4 d5 d6 o1 o2 o3 o4 hsm
        have GA : Hid (Sg w (wr.alloc (.cells #[.int .i64 k0, .slice q1 ky.length c1, .slice q2 nn.length c2, .slice q3 oo.length c3, .slice q4 tx.length c4, .int .i64 r5, .int .i64 r6] 34)) p q m x d (.slice vq k vc) k xs ts L ∧ Cp w.heap.size (wr.alloc (.cells #[.int .i64 k0, .slice q1 ky.length c1, .slice q2 nn.length c2, .slice q3 oo.length c3, .slice q4 tx.length c4, .int .i64 r5, .int .i64 r6] 34)) wr.heap.size k0 r5 r6 (.slice q1 ky.length c1) (.slice q2 nn.length c2) (.slice q3 oo.length c3) (.slice q4 tx.length c4) ky nn oo tx) := by
          have ha := below_alloc wr (.cells #[.int .i64 k0, .slice q1 ky.length c1, .slice q2 nn.length c2, .slice q3 oo.length c3, .slice q4 tx.length c4, .int .i64 r5, .int .i64 r6] 34)
          exact ⟨GJ.out.below ha, heap_alloc_new wr _, (By.of_old o1).below ha, (By.of_old o2).below ha, (By.of_old o3).below ha, (By.of_old o4).below ha, by omega, by omega, by omega, by omega, fun _ => by omega⟩
        have HPE : Hid (w.heap.size ≤ wr.heap.size) := GJ.out.bel.size
        clear GJ o1 o2 o3 o4 hsm hjp
        obtain ⟨l1, HL1⟩ : ∃ l1, Hid (ky.length = l1) := ⟨_, rfl⟩
        obtain ⟨l2, HL2⟩ : ∃ l2, Hid (nn.length = l2) := ⟨_, rfl⟩
        obtain ⟨l3, HL3⟩ : ∃ l3, Hid (oo.length = l3) := ⟨_, rfl⟩
        obtain ⟨l4, HL4⟩ : ∃ l4, Hid (tx.length = l4) := ⟨_, rfl⟩
        rw [HL1.out] at d1 GA
        rw [HL2.out] at d2 GA
        rw [HL3.out] at d3 GA
        rw [HL4.out] at d4 GA
        clear HL1 HL2 HL3 HL4
        go_upto_region 10 with fail
        generalize wr.alloc (.cells #[.int .i64 k0, .slice q1 l1 c1, .slice q2 l2 c2, .slice q3 l3 c3, .slice q4 l4 c4, .int .i64 r5, .int .i64 r6] 34) = WA at *
        generalize wr.heap.size = pe at *
        clear d0 d1 d2 d3 d4 d5 d6
        obtain ⟨e0, e1, e2, e3, e4, e5, e6, ez⟩ := GA.out.2.cells
        have k0' : (0 : Int) ≤ (k : Int) := by omega
        have k60 : (k : Int) ≤ 60 := by omega
        obtain ⟨b1, HB1⟩ : ∃ b1, Hid (decide (0 < r5 ∧ r5 ≤ (k : Int)) = b1) := ⟨_, rfl⟩
        go_cut [35] from 23 to 179 (fun v35 wx => v35 = .bool b1 ∧ wx = WA)
        case first =>
          as_aux_lemma =>
            by_cases h1 : 0 < r5
            · by_cases h2 : r5 ≤ (k : Int)
              · have hb : Hid (true = b1) := by rw [← HB1.out]; exact (decide_eq_true ⟨h1, h2⟩).symm
                clear GA HB1
                go_wp2_with fail
                go_meet
                exact ⟨congrArg Value.bool hb.out, rfl⟩
              · have hb : Hid (false = b1) := by rw [← HB1.out]; exact (decide_eq_false (fun h => h2 h.2)).symm
                clear GA HB1
                go_wp2_with fail
                go_meet
                exact ⟨congrArg Value.bool hb.out, rfl⟩
            · have hb : Hid (false = b1) := by rw [← HB1.out]; exact (decide_eq_false (fun h => h1 h.1)).symm
              clear GA HB1
              go_wp2_with fail
              go_meet
              exact ⟨congrArg Value.bool hb.out, rfl⟩
        case rest =>
        obtain ⟨rfl, rfl⟩ := hcut
        go_upto_if 35 with fail
        go_cut [] from 23 to 179 (fun wx => Hid (∃ kv ky, Sg w wx p q m x d (.slice vq k vc) k xs ts L ∧ Cp w.heap.size wx pe k0 r5 r6 kv (.slice q2 l2 c2) (.slice q3 l3 c3) (.slice q4 l4 c4) ky nn oo tx))
        case first =>
          as_aux_lemma =>
            cases b1 with
            | false =>
              go_wp2_with fail
              go_meet
              exact ⟨_, _, GA.out⟩
            | true =>
              have h12 := of_decide_eq_true HB1.out
              obtain ⟨i5, HI5⟩ : ∃ i5 : Nat, Hid (r5 = (i5 : Int) + 1) := ⟨(r5 - 1).toNat, by show _ = _; omega⟩
              have HI5' := HI5.out
              subst HI5'
              have i50 : (0 : Int) ≤ (i5 : Int) := by omega
              have i5k : (i5 : Int) < (k : Int) := by omega
              obtain ⟨g, cap, y, l, hv, hcap, hy, hby, hyl⟩ := GA.out.1.at (i := i5) (by omega)
              cases hv
              obtain ⟨yq, yc, rfl, -⟩ := hby.src.slice
              have GB : Hid (∃ kv ky, Sg w (wc.setCell ⟨pe, 1, none⟩ (.slice yq l.length yc)) p q m x d (.slice (some ⟨g, 0, none⟩) k vc) k xs ts L ∧ Cp w.heap.size (wc.setCell ⟨pe, 1, none⟩ (.slice yq l.length yc)) pe k0 ((i5 : Int) + 1) r6 kv (.slice q2 l2 c2) (.slice q3 l3 c3) (.slice q4 l4 c4) ky nn oo tx) := by
                have hk := kx34 GA.out.2.box HPE.out 1 (.slice yq l.length yc)
                exact ⟨_, _, GA.out.1.kx34 hk (by simp), GA.out.2.put1 (fun z l hz => hz.kx hk (by decide)) hby hyl⟩
              clear GA hby h12 HI5 HB1
              generalize l.length = yl at *
              go_wp2_with fail
              go_meet
              exact GB.out
        case rest =>
        obtain ⟨kvB, kyB, hc⟩ := hcut.out
        clear GA HB1 e0 e1 e2 e3 e4 e5 e6 ez hcut ky
        obtain ⟨q1b, c1b, rfl, -⟩ := hc.2.key.src.slice
        obtain ⟨l1b, HL1b⟩ : ∃ l1b, Hid (kyB.length = l1b) := ⟨_, rfl⟩
        rw [HL1b.out] at hc
        have GA : Hid (Sg w wc p q m x d (.slice vq k vc) k xs ts L ∧ Cp w.heap.size wc pe k0 r5 r6 (.slice q1b l1b c1b) (.slice q2 l2 c2) (.slice q3 l3 c3) (.slice q4 l4 c4) kyB nn oo tx) := hc
        clear hc
        obtain ⟨e0, e1, e2, e3, e4, e5, e6, ez⟩ := GA.out.2.cells
        go_upto_region 12 with fail
        generalize wc = WA at *
        obtain ⟨b2, HB2⟩ : ∃ b2, Hid (decide (k0 = 5 ∧ 0 < r6 ∧ r6 ≤ (k : Int)) = b2) := ⟨_, rfl⟩
        go_cut [57] from 23 to 179 (fun v57 wx => v57 = .bool b2 ∧ wx = WA)
        case first =>
          as_aux_lemma =>
            by_cases h5 : k0 = 5
            · subst h5
              by_cases h1 : 0 < r6
              · by_cases h2 : r6 ≤ (k : Int)
                · have hb : Hid (true = b2) := by rw [← HB2.out]; exact (decide_eq_true ⟨rfl, h1, h2⟩).symm
                  clear GA HB2
                  go_wp2_with fail
                  go_meet
                  exact ⟨congrArg Value.bool hb.out, rfl⟩
                · have hb : Hid (false = b2) := by rw [← HB2.out]; exact (decide_eq_false (fun h => h2 h.2.2)).symm
                  clear GA HB2
                  go_wp2_with fail
                  go_meet
                  exact ⟨congrArg Value.bool hb.out, rfl⟩
              · have hb : Hid (false = b2) := by rw [← HB2.out]; exact (decide_eq_false (fun h => h1 h.2.1)).symm
                clear GA HB2
                go_wp2_with fail
                go_meet
                exact ⟨congrArg Value.bool hb.out, rfl⟩
            · have hb : Hid (false = b2) := by rw [← HB2.out]; exact (decide_eq_false (fun h => h5 h.1)).symm
              have h5' : (k0 == 5) = false := by simpa using h5
              clear GA HB2 h5
              go_wp2_with fail
              go_meet
              exact ⟨congrArg Value.bool hb.out, rfl⟩
        case rest =>
        obtain ⟨rfl, rfl⟩ := hcut
        go_upto_if 57 with fail
        go_cut [] from 23 to 179 (fun wx => Hid (∃ tv tx, Sg w wx p q m x d (.slice vq k vc) k xs ts L ∧ Cp w.heap.size wx pe k0 r5 r6 (.slice q1b l1b c1b) (.slice q2 l2 c2) (.slice q3 l3 c3) tv kyB nn oo tx))
        case first =>
          as_aux_lemma =>
            cases b2 with
            | false =>
              go_wp2_with fail
              go_meet
              exact ⟨_, _, GA.out⟩
            | true =>
              have h12 := of_decide_eq_true HB2.out
              obtain ⟨i6, HI6⟩ : ∃ i6 : Nat, Hid (r6 = (i6 : Int) + 1) := ⟨(r6 - 1).toNat, by show _ = _; omega⟩
              have HI6' := HI6.out
              subst HI6'
              obtain ⟨h50, h51⟩ := h12
              subst h50
              have i60 : (0 : Int) ≤ (i6 : Int) := by omega
              have i6k : (i6 : Int) < (k : Int) := by omega
              obtain ⟨g, cap, y, l, hv, hcap, hy, hby, hyl⟩ := GA.out.1.at (i := i6) (by omega)
              cases hv
              obtain ⟨yq, yc, rfl, -⟩ := hby.src.slice
              have GB : Hid (∃ tv tx, Sg w (wc.setCell ⟨pe, 4, none⟩ (.slice yq l.length yc)) p q m x d (.slice (some ⟨g, 0, none⟩) k vc) k xs ts L ∧ Cp w.heap.size (wc.setCell ⟨pe, 4, none⟩ (.slice yq l.length yc)) pe 5 r5 ((i6 : Int) + 1) (.slice q1b l1b c1b) (.slice q2 l2 c2) (.slice q3 l3 c3) tv kyB nn oo tx) := by
                have hk := kx34 GA.out.2.box HPE.out 4 (.slice yq l.length yc)
                exact ⟨_, _, GA.out.1.kx34 hk (by simp), GA.out.2.put4 (fun z l hz => hz.kx hk (by decide)) hby hyl⟩
              clear GA hby h51 HI6 HB2
              generalize l.length = yl at *
              go_wp2_with fail
              go_meet
              exact GB.out
        case rest =>
        obtain ⟨tvB, txB, hc⟩ := hcut.out
        clear GA HB2 e0 e1 e2 e3 e4 e5 e6 ez hcut tx
        obtain ⟨q4b, c4b, rfl, -⟩ := hc.2.text.src.slice
        obtain ⟨l4b, HL4b⟩ : ∃ l4b, Hid (txB.length = l4b) := ⟨_, rfl⟩
        rw [HL4b.out] at hc
        have GA : Hid (Sg w wc p q m x d (.slice vq k vc) k xs ts L ∧ Cp w.heap.size wc pe k0 r5 r6 (.slice q1b l1b c1b) (.slice q2 l2 c2) (.slice q3 l3 c3) (.slice q4b l4b c4b) kyB nn oo txB) := hc
        clear hc
        obtain ⟨e0, e1, e2, e3, e4, e5, e6, ez⟩ := GA.out.2.cells
        go_upto_block 2 with fail
        generalize wc = WA at *
        go_cut [8, 9, 10, 11] from 23 to 179 (fun v8 v9 v10 v11 wx => ∃ (l : List Nat) (er : Int) (L' : List Su.Thing), v10 = .int .i64 er ∧ v11 = .int .i64 er ∧ L'.length ≤ j + 1 ∧ l.length ≤ 216 ∧ Hid (Src wx v8 l ∧ By w.heap.size wx v9 l ∧ Sg w wx p q m x d (.slice vq k vc) k xs ts L'))
        case first =>
          have HLL : Hid (L.length < 1000000) := by show _ < _; omega
          by_cases h1 : k0 = 1
          · subst h1
            as_aux_lemma =>
              have HBB : Hid (w.heap.size ≤ WA.heap.size) := GA.out.1.pr.size
              have HCE : Hid (∀ w', Kx [some 63, none, some 30, some 71] w.heap.size WA w' → w'.cell? ⟨pe, 1, none⟩ = some (.slice q1b l1b c1b) ∧ w'.cell? ⟨pe, 4, none⟩ = some (.slice q4b l4b c4b)) := fun w' hk => ⟨(GA.out.2.kx hk).cells.2.1, (GA.out.2.kx hk).cells.2.2.2.2.1⟩
              have HBY : Hid (∀ w', Kx [some 63, none, some 30, some 71] w.heap.size WA w' → By w.heap.size w' (.slice q1b l1b c1b) kyB ∧ By w.heap.size w' (.slice q4b l4b c4b) txB) := fun w' hk => ⟨(GA.out.2.kx hk).key, (GA.out.2.kx hk).text⟩
              have HTX : Hid (txB.length ≤ 50000) := by have := GA.out.2.lt; show _ ≤ _; omega
              go_wp2_with fail
              have RB : ∀ k u1 u2, Below u1.heap.size u1 u2 → (sgR w.heap.size p q m x d L (Su.add L 72 [] txB)) k u1 → (sgR w.heap.size p q m x d L (Su.add L 72 [] txB)) k u2 := sgR_below
              refine wp_region_st (sg19 w.heap.size p d pe L txB q4b l4b c4b) (fun u u' => Kx [some 63, none, some 30, some 71] w.heap.size u u') (SeqS [4, 8] (sgR w.heap.size p q m x d L (Su.add L 72 [] txB))) (by kernel_rfl) (kx_drew _ _ _) (kx_trans _ _) (sg19_kept w.heap.size p d pe L txB q4b l4b c4b) (by kernel_rfl) (SeqS.start (GA.out.1.pr.drew)) ?_ ?_
              · intro i o a' w' f hi inv hS hfi hfw hpre
                have ho : Kx [some 63, none, some 30, some 71] w.heap.size WA w' := inv.grow
                have hlt : i < 11 := (Array.getElem?_eq_some_iff.1 hi).1
                obtain rfl|rfl|rfl|rfl|rfl|rfl|rfl|rfl|rfl|rfl|rfl : i = 0 ∨ i = 1 ∨ i = 2 ∨ i = 3 ∨ i = 4 ∨ i = 5 ∨ i = 6 ∨ i = 7 ∨ i = 8 ∨ i = 9 ∨ i = 10 := by omega
                · obtain rfl := Option.some.inj hi
                  exact sk_value _ rfl rfl rfl (Below.refl _ _) (Nat.le_trans HBB.out ho.low.size) (by decide) hS RB (by show a'.tmps.getD 3 undef = _; rw [inv.old 3 (notDst_spec (by kernel_rfl))]; rfl)
                · obtain rfl := Option.some.inj hi
                  have h0 : a'.tmps.getD 7 undef = (.pointer (some ⟨pe, 0, none⟩)) := by rw [inv.old 7 (notDst_spec (by kernel_rfl))]; rfl
                  exact sk_value _ rfl rfl (fa_run 34 4 7 pe rfl h0 (fa34_4 pe)) (Below.refl _ _) (Nat.le_trans HBB.out ho.low.size) (by decide) hS RB rfl
                · obtain rfl := Option.some.inj hi
                  have h0 : a'.tmps.getD 70 undef = _ := pre_of hpre 1 70 (by kernel_rfl) (by kernel_rfl)
                  exact sk_value _ rfl rfl (load_run 32 70 pe (4) _ rfl h0 (ld32 ((HCE.out w' ho).2))) (Below.refl _ _) (Nat.le_trans HBB.out ho.low.size) (by decide) hS RB rfl
                · obtain rfl := Option.some.inj hi
                  have h0 : a'.tmps.getD 71 undef = _ := pre_of hpre 2 71 (by kernel_rfl) (by kernel_rfl)
                  exact sk_value _ rfl rfl (part_run 71 _ rfl ⟨_, _, _, rfl⟩ h0) (below_alloc _ _) (Nat.le_trans HBB.out ho.low.size) (by decide) hS RB (partK_new _ _)
                · obtain rfl := Option.some.inj hi
                  have h0 : a'.tmps.getD 69 undef = _ := pre_of hpre 0 69 (by kernel_rfl) (by kernel_rfl)
                  have h1 := pre_of hpre 3 72 (by kernel_rfl) (by kernel_rfl)
                  obtain ⟨gp1, hgp1, hcp1⟩ := PartK.cell h1
                  refine sk_call (k := 0) 13 #[a'.tmps.getD 69 undef, a'.tmps.getD 72 undef] rfl rfl (by kernel_rfl) rfl (by decide) hfi (fun c h _ => absurd rfl h) hS (fun hR => ?_)
                  rw [h0, hgp1]
                  exact (pSum txB gp1 1 (.slice q4b l4b c4b) hR hcp1 (HBY.out w' ho).2 HTX.out HLL.out).mono (by rintro e u ⟨v, rfl, hk, hp, ho1⟩; exact ⟨v, rfl, hk, hp, By.own (Su.sign_lt (by decide) _) ho1⟩)
                · obtain rfl := Option.some.inj hi
                  exact sk_value _ rfl rfl rfl (Below.refl _ _) (Nat.le_trans HBB.out ho.low.size) (by decide) hS RB (by show a'.tmps.getD 4 undef = _; rw [inv.old 4 (notDst_spec (by kernel_rfl))]; rfl)
                · obtain rfl := Option.some.inj hi
                  have h0 : a'.tmps.getD 7 undef = (.pointer (some ⟨pe, 0, none⟩)) := by rw [inv.old 7 (notDst_spec (by kernel_rfl))]; rfl
                  exact sk_value _ rfl rfl (fa_run 34 4 7 pe rfl h0 (fa34_4 pe)) (Below.refl _ _) (Nat.le_trans HBB.out ho.low.size) (by decide) hS RB rfl
                · obtain rfl := Option.some.inj hi
                  have h0 : a'.tmps.getD 75 undef = _ := pre_of hpre 6 75 (by kernel_rfl) (by kernel_rfl)
                  exact sk_value _ rfl rfl (load_run 32 75 pe (4) _ rfl h0 (ld32 ((HCE.out w' ho).2))) (Below.refl _ _) (Nat.le_trans HBB.out ho.low.size) (by decide) hS RB rfl
                · obtain rfl := Option.some.inj hi
                  have h0 : a'.tmps.getD 74 undef = _ := pre_of hpre 5 74 (by kernel_rfl) (by kernel_rfl)
                  have h1 : a'.tmps.getD 76 undef = _ := pre_of hpre 7 76 (by kernel_rfl) (by kernel_rfl)
                  refine sk_call (k := 1) 14 #[a'.tmps.getD 74 undef, a'.tmps.getD 76 undef] rfl rfl (by kernel_rfl) rfl (by decide) hfi (fun c _ hc => by cases hc; exact been_of hfw 4 (by kernel_rfl)) hS (fun hR => ?_)
                  rw [h0, h1]
                  exact (pRSum txB (.slice q4b l4b c4b) hR (HBY.out w' ho).2 HLL.out).mono (by rintro e u ⟨v, rfl, hk, hp, ho1⟩; exact ⟨v, rfl, hk, hp, By.own (Su.sign_lt (by decide) _) ho1⟩)
                · obtain rfl := Option.some.inj hi
                  have h0 := pre_of hpre 4 73 (by kernel_rfl) (by kernel_rfl)
                  exact sk_value _ rfl rfl (rfl) (Below.refl _ _) (Nat.le_trans HBB.out ho.low.size) (by decide) hS RB h0
                · obtain rfl := Option.some.inj hi
                  have h0 := pre_of hpre 8 77 (by kernel_rfl) (by kernel_rfl)
                  exact sk_value _ rfl rfl (rfl) (Below.refl _ _) (Nat.le_trans HBB.out ho.low.size) (by decide) hS RB h0
              · intro a' w9 f inv hS hall hd
                have hk9 := hd 9 8 (by kernel_rfl)
                have hk10 := hd 10 9 (by kernel_rfl)
                have ho : Kx [some 63, none, some 30, some 71] w.heap.size WA w9 := inv.grow
                have hdf : a'.defers = [] := inv.defers
                have hsz : a'.tmps.size = 180 := inv.size
                have e := frame3_19 hsz (fun t ht => inv.old t (dstsIn_spec (ts := [8, 9, 69, 70, 71, 72, 73, 74, 75, 76, 77]) (by kernel_rfl) t ht))
                have hR := hS.done (fun c hc => hall c (show c < 11 by simp at hc <;> omega))
                clear inv hd hsz hall hS
                obtain ⟨tmps, defers⟩ := a'
                obtain rfl : defers = [] := hdf
                replace e : tmps = _ := e
                replace hk9 : ByV w.heap.size (Su.sign 72 (Su.num L 72 [] txB)) (tmps.getD 8 undef) w9 := hk9
                replace hk10 : ByV w.heap.size (Su.sign 72 (Su.num L 72 [] txB)) (tmps.getD 9 undef) w9 := hk10
                generalize tmps.getD 8 undef = x8 at *
                generalize tmps.getD 9 undef = x9 at *
                generalize tmps.getD 69 undef = x69 at *
                generalize tmps.getD 70 undef = x70 at *
                generalize tmps.getD 71 undef = x71 at *
                generalize tmps.getD 72 undef = x72 at *
                generalize tmps.getD 73 undef = x73 at *
                generalize tmps.getD 74 undef = x74 at *
                generalize tmps.getD 75 undef = x75 at *
                generalize tmps.getD 76 undef = x76 at *
                generalize tmps.getD 77 undef = x77 at *
                simp only [Array.getD_eq_getD_getElem?, List.getElem?_toArray, List.getElem?_cons_succ, List.getElem?_cons_zero, Option.getD_some] at e
                subst e
                have GN : Hid (Src w9 x8 (Su.sign 72 (Su.num L 72 [] txB)) ∧ By w.heap.size w9 x9 (Su.sign 72 (Su.num L 72 [] txB)) ∧ Sg w w9 p q m x d (.slice vq k vc) k xs ts (Su.add L 72 [] txB)) := ⟨By.src hk9, hk10, GA.out.1.kx ho hR (add_texts GA.out.1.t216 GA.out.2.lt)⟩
                have HLE : Hid ((Su.add L 72 [] txB).length ≤ j + 1) := by have := (Su.add_length L 72 [] txB).2; show _ ≤ _; omega
                obtain ⟨aq, ac, rfl, -⟩ := (By.src hk9).slice
                obtain ⟨bq, bc, rfl, -⟩ := (By.src hk10).slice
                clear GA HBB HCE HBY HTX ho hR hk9 hk10
                go_wp2_with fail
                go_meet
                exact ⟨_, 0, _, rfl, rfl, HLE.out, by rw [Su.sign_length]; omega, GN.out⟩
          · skip
            by_cases h2 : k0 = 2
            · subst h2
              as_aux_lemma =>
                have HBB : Hid (w.heap.size ≤ WA.heap.size) := GA.out.1.pr.size
                have HCE : Hid (∀ w', Kx [some 63, none, some 30, some 71] w.heap.size WA w' → w'.cell? ⟨pe, 1, none⟩ = some (.slice q1b l1b c1b) ∧ w'.cell? ⟨pe, 4, none⟩ = some (.slice q4b l4b c4b)) := fun w' hk => ⟨(GA.out.2.kx hk).cells.2.1, (GA.out.2.kx hk).cells.2.2.2.2.1⟩
                have HBY : Hid (∀ w', Kx [some 63, none, some 30, some 71] w.heap.size WA w' → By w.heap.size w' (.slice q1b l1b c1b) kyB ∧ By w.heap.size w' (.slice q4b l4b c4b) txB) := fun w' hk => ⟨(GA.out.2.kx hk).key, (GA.out.2.kx hk).text⟩
                have HTX : Hid (txB.length ≤ 50000) := by have := GA.out.2.lt; show _ ≤ _; omega
                go_wp2_with fail
                have RB : ∀ k u1 u2, Below u1.heap.size u1 u2 → (sgR w.heap.size p q m x d L (Su.add L 77 kyB txB)) k u1 → (sgR w.heap.size p q m x d L (Su.add L 77 kyB txB)) k u2 := sgR_below
                refine wp_region_st (sg21 w.heap.size p d pe L kyB txB q1b q4b l1b c1b l4b c4b) (fun u u' => Kx [some 63, none, some 30, some 71] w.heap.size u u') (SeqS [6, 12] (sgR w.heap.size p q m x d L (Su.add L 77 kyB txB))) (by kernel_rfl) (kx_drew _ _ _) (kx_trans _ _) (sg21_kept w.heap.size p d pe L kyB txB q1b q4b l1b c1b l4b c4b) (by kernel_rfl) (SeqS.start (GA.out.1.pr.drew)) ?_ ?_
                · intro i o a' w' f hi inv hS hfi hfw hpre
                  have ho : Kx [some 63, none, some 30, some 71] w.heap.size WA w' := inv.grow
                  have hlt : i < 15 := (Array.getElem?_eq_some_iff.1 hi).1
                  obtain rfl|rfl|rfl|rfl|rfl|rfl|rfl|rfl|rfl|rfl|rfl|rfl|rfl|rfl|rfl : i = 0 ∨ i = 1 ∨ i = 2 ∨ i = 3 ∨ i = 4 ∨ i = 5 ∨ i = 6 ∨ i = 7 ∨ i = 8 ∨ i = 9 ∨ i = 10 ∨ i = 11 ∨ i = 12 ∨ i = 13 ∨ i = 14 := by omega
                  · obtain rfl := Option.some.inj hi
                    exact sk_value _ rfl rfl rfl (Below.refl _ _) (Nat.le_trans HBB.out ho.low.size) (by decide) hS RB (by show a'.tmps.getD 3 undef = _; rw [inv.old 3 (notDst_spec (by kernel_rfl))]; rfl)
                  · obtain rfl := Option.some.inj hi
                    have h0 : a'.tmps.getD 7 undef = (.pointer (some ⟨pe, 0, none⟩)) := by rw [inv.old 7 (notDst_spec (by kernel_rfl))]; rfl
                    exact sk_value _ rfl rfl (fa_run 34 1 7 pe rfl h0 (fa34_1 pe)) (Below.refl _ _) (Nat.le_trans HBB.out ho.low.size) (by decide) hS RB rfl
                  · obtain rfl := Option.some.inj hi
                    have h0 : a'.tmps.getD 81 undef = _ := pre_of hpre 1 81 (by kernel_rfl) (by kernel_rfl)
                    exact sk_value _ rfl rfl (load_run 32 81 pe (1) _ rfl h0 (ld32 ((HCE.out w' ho).1))) (Below.refl _ _) (Nat.le_trans HBB.out ho.low.size) (by decide) hS RB rfl
                  · obtain rfl := Option.some.inj hi
                    have h0 : a'.tmps.getD 7 undef = (.pointer (some ⟨pe, 0, none⟩)) := by rw [inv.old 7 (notDst_spec (by kernel_rfl))]; rfl
                    exact sk_value _ rfl rfl (fa_run 34 4 7 pe rfl h0 (fa34_4 pe)) (Below.refl _ _) (Nat.le_trans HBB.out ho.low.size) (by decide) hS RB rfl
                  · obtain rfl := Option.some.inj hi
                    have h0 : a'.tmps.getD 83 undef = _ := pre_of hpre 3 83 (by kernel_rfl) (by kernel_rfl)
                    exact sk_value _ rfl rfl (load_run 32 83 pe (4) _ rfl h0 (ld32 ((HCE.out w' ho).2))) (Below.refl _ _) (Nat.le_trans HBB.out ho.low.size) (by decide) hS RB rfl
                  · obtain rfl := Option.some.inj hi
                    have h0 : a'.tmps.getD 84 undef = _ := pre_of hpre 4 84 (by kernel_rfl) (by kernel_rfl)
                    exact sk_value _ rfl rfl (part_run 84 _ rfl ⟨_, _, _, rfl⟩ h0) (below_alloc _ _) (Nat.le_trans HBB.out ho.low.size) (by decide) hS RB (partK_new _ _)
                  · obtain rfl := Option.some.inj hi
                    have h0 : a'.tmps.getD 80 undef = _ := pre_of hpre 0 80 (by kernel_rfl) (by kernel_rfl)
                    have h1 : a'.tmps.getD 82 undef = _ := pre_of hpre 2 82 (by kernel_rfl) (by kernel_rfl)
                    have h2 := pre_of hpre 5 85 (by kernel_rfl) (by kernel_rfl)
                    obtain ⟨gp2, hgp2, hcp2⟩ := PartK.cell h2
                    refine sk_call (k := 0) 15 #[a'.tmps.getD 80 undef, a'.tmps.getD 82 undef, a'.tmps.getD 85 undef] rfl rfl (by kernel_rfl) rfl (by decide) hfi (fun c h _ => absurd rfl h) hS (fun hR => ?_)
                    rw [h0, h1, hgp2]
                    exact (pCode kyB txB gp2 1 (.slice q1b l1b c1b) (.slice q4b l4b c4b) hR (HBY.out w' ho).1 hcp2 (HBY.out w' ho).2 HTX.out HLL.out).mono (by rintro e u ⟨v, rfl, hk, hp, ho1⟩; exact ⟨v, rfl, hk, hp, By.own (Su.sign_lt (by decide) _) ho1⟩)
                  · obtain rfl := Option.some.inj hi
                    exact sk_value _ rfl rfl rfl (Below.refl _ _) (Nat.le_trans HBB.out ho.low.size) (by decide) hS RB (by show a'.tmps.getD 4 undef = _; rw [inv.old 4 (notDst_spec (by kernel_rfl))]; rfl)
                  · obtain rfl := Option.some.inj hi
                    have h0 : a'.tmps.getD 7 undef = (.pointer (some ⟨pe, 0, none⟩)) := by rw [inv.old 7 (notDst_spec (by kernel_rfl))]; rfl
                    exact sk_value _ rfl rfl (fa_run 34 1 7 pe rfl h0 (fa34_1 pe)) (Below.refl _ _) (Nat.le_trans HBB.out ho.low.size) (by decide) hS RB rfl
                  · obtain rfl := Option.some.inj hi
                    have h0 : a'.tmps.getD 88 undef = _ := pre_of hpre 8 88 (by kernel_rfl) (by kernel_rfl)
                    exact sk_value _ rfl rfl (load_run 32 88 pe (1) _ rfl h0 (ld32 ((HCE.out w' ho).1))) (Below.refl _ _) (Nat.le_trans HBB.out ho.low.size) (by decide) hS RB rfl
                  · obtain rfl := Option.some.inj hi
                    have h0 : a'.tmps.getD 7 undef = (.pointer (some ⟨pe, 0, none⟩)) := by rw [inv.old 7 (notDst_spec (by kernel_rfl))]; rfl
                    exact sk_value _ rfl rfl (fa_run 34 4 7 pe rfl h0 (fa34_4 pe)) (Below.refl _ _) (Nat.le_trans HBB.out ho.low.size) (by decide) hS RB rfl
                  · obtain rfl := Option.some.inj hi
                    have h0 : a'.tmps.getD 90 undef = _ := pre_of hpre 10 90 (by kernel_rfl) (by kernel_rfl)
                    exact sk_value _ rfl rfl (load_run 32 90 pe (4) _ rfl h0 (ld32 ((HCE.out w' ho).2))) (Below.refl _ _) (Nat.le_trans HBB.out ho.low.size) (by decide) hS RB rfl
                  · obtain rfl := Option.some.inj hi
                    have h0 : a'.tmps.getD 87 undef = _ := pre_of hpre 7 87 (by kernel_rfl) (by kernel_rfl)
                    have h1 : a'.tmps.getD 89 undef = _ := pre_of hpre 9 89 (by kernel_rfl) (by kernel_rfl)
                    have h2 : a'.tmps.getD 91 undef = _ := pre_of hpre 11 91 (by kernel_rfl) (by kernel_rfl)
                    refine sk_call (k := 1) 16 #[a'.tmps.getD 87 undef, a'.tmps.getD 89 undef, a'.tmps.getD 91 undef] rfl rfl (by kernel_rfl) rfl (by decide) hfi (fun c _ hc => by cases hc; exact been_of hfw 6 (by kernel_rfl)) hS (fun hR => ?_)
                    rw [h0, h1, h2]
                    exact (pRCode kyB txB (.slice q1b l1b c1b) (.slice q4b l4b c4b) hR (HBY.out w' ho).1 (HBY.out w' ho).2 HLL.out).mono (by rintro e u ⟨v, rfl, hk, hp, ho1⟩; exact ⟨v, rfl, hk, hp, By.own (Su.sign_lt (by decide) _) ho1⟩)
                  · obtain rfl := Option.some.inj hi
                    have h0 := pre_of hpre 6 86 (by kernel_rfl) (by kernel_rfl)
                    exact sk_value _ rfl rfl (rfl) (Below.refl _ _) (Nat.le_trans HBB.out ho.low.size) (by decide) hS RB h0
                  · obtain rfl := Option.some.inj hi
                    have h0 := pre_of hpre 12 92 (by kernel_rfl) (by kernel_rfl)
                    exact sk_value _ rfl rfl (rfl) (Below.refl _ _) (Nat.le_trans HBB.out ho.low.size) (by decide) hS RB h0
                · intro a' w9 f inv hS hall hd
                  have hk13 := hd 13 8 (by kernel_rfl)
                  have hk14 := hd 14 9 (by kernel_rfl)
                  have ho : Kx [some 63, none, some 30, some 71] w.heap.size WA w9 := inv.grow
                  have hdf : a'.defers = [] := inv.defers
                  have hsz : a'.tmps.size = 180 := inv.size
                  have e := frame3_21 hsz (fun t ht => inv.old t (dstsIn_spec (ts := [8, 9, 80, 81, 82, 83, 84, 85, 86, 87, 88, 89, 90, 91, 92]) (by kernel_rfl) t ht))
                  have hR := hS.done (fun c hc => hall c (show c < 15 by simp at hc <;> omega))
                  clear inv hd hsz hall hS
                  obtain ⟨tmps, defers⟩ := a'
                  obtain rfl : defers = [] := hdf
                  replace e : tmps = _ := e
                  replace hk13 : ByV w.heap.size (Su.sign 77 (Su.num L 77 kyB txB)) (tmps.getD 8 undef) w9 := hk13
                  replace hk14 : ByV w.heap.size (Su.sign 77 (Su.num L 77 kyB txB)) (tmps.getD 9 undef) w9 := hk14
                  generalize tmps.getD 8 undef = x8 at *
                  generalize tmps.getD 9 undef = x9 at *
                  generalize tmps.getD 80 undef = x80 at *
                  generalize tmps.getD 81 undef = x81 at *
                  generalize tmps.getD 82 undef = x82 at *
                  generalize tmps.getD 83 undef = x83 at *
                  generalize tmps.getD 84 undef = x84 at *
                  generalize tmps.getD 85 undef = x85 at *
                  generalize tmps.getD 86 undef = x86 at *
                  generalize tmps.getD 87 undef = x87 at *
                  generalize tmps.getD 88 undef = x88 at *
                  generalize tmps.getD 89 undef = x89 at *
                  generalize tmps.getD 90 undef = x90 at *
                  generalize tmps.getD 91 undef = x91 at *
                  generalize tmps.getD 92 undef = x92 at *
                  simp only [Array.getD_eq_getD_getElem?, List.getElem?_toArray, List.getElem?_cons_succ, List.getElem?_cons_zero, Option.getD_some] at e
                  subst e
                  have GN : Hid (Src w9 x8 (Su.sign 77 (Su.num L 77 kyB txB)) ∧ By w.heap.size w9 x9 (Su.sign 77 (Su.num L 77 kyB txB)) ∧ Sg w w9 p q m x d (.slice vq k vc) k xs ts (Su.add L 77 kyB txB)) := ⟨By.src hk13, hk14, GA.out.1.kx ho hR (add_texts GA.out.1.t216 GA.out.2.lt)⟩
                  have HLE : Hid ((Su.add L 77 kyB txB).length ≤ j + 1) := by have := (Su.add_length L 77 kyB txB).2; show _ ≤ _; omega
                  obtain ⟨aq, ac, rfl, -⟩ := (By.src hk13).slice
                  obtain ⟨bq, bc, rfl, -⟩ := (By.src hk14).slice
                  clear GA HBB HCE HBY HTX ho hR hk13 hk14
                  go_wp2_with fail
                  go_meet
                  exact ⟨_, 0, _, rfl, rfl, HLE.out, by rw [Su.sign_length]; omega, GN.out⟩
            · skip
              by_cases h3 : k0 = 3
              · subst h3
                as_aux_lemma =>
                  go_wp2_with fail
                  refine (pKey GA.out.1.pr HLL.out).mono ?_
                  rintro z w5 ⟨va, rfl, hk5, hp5, ho5⟩
                  obtain ⟨aq, ac, rfl⟩ := own_slice ho5
                  have HA5 : Hid (Kx [some 63, none, some 30, some 71] w.heap.size WA w5 ∧ Pr w.heap.size w5 p q m x d (L ++ [(75, [], [], [], [])]) L ∧ By w.heap.size w5 (.slice aq 32 ac) (Su.sign 75 (L.length + 1))) := ⟨hk5, hp5, By.own (Su.sign_lt (by decide) _) ho5⟩
                  clear hk5 hp5 ho5
                  go_wp2_with fail
                  refine (pRKey HA5.out.2.1 HLL.out).mono ?_
                  rintro z w6 ⟨vb, rfl, hk6, hp6, ho6⟩
                  obtain ⟨bq, bc, rfl⟩ := own_slice ho6
                  have GN : Hid (Src w6 (.slice aq 32 ac) (Su.sign 75 (L.length + 1)) ∧ By w.heap.size w6 (.slice bq 32 bc) (Su.sign 75 (L.length + 1)) ∧ Sg w w6 p q m x d (.slice vq k vc) k xs ts (L ++ [(75, [], [], [], [])])) := ⟨(HA5.out.2.2.kx hk6 (by decide)).src, By.own (Su.sign_lt (by decide) _) ho6, GA.out.1.kx (HA5.out.1.trans hk6) hp6 (snoc_texts GA.out.1.t216 (by simp))⟩
                  clear hk6 hp6 ho6 HA5 GA
                  go_wp2_with fail
                  go_meet
                  exact ⟨_, 0, _, rfl, rfl, by simp; omega, by rw [Su.sign_length]; omega, GN.out⟩
              · skip
                by_cases h4 : k0 = 4
                · subst h4
                  as_aux_lemma =>
                    have z1 : l1b = kyB.length := HL1b.out.symm
                    have z2 : l2 = nn.length := by obtain ⟨_, _, e, _⟩ := GA.out.2.nonce.src.slice; injection e
                    by_cases hz : l1b = 32 ∧ l2 = 12
                    · have HZ : Hid (kyB.length = 32 ∧ nn.length = 12) := by show _ ∧ _; omega
                      clear z1 z2 hz HL1b
                      have H19 := pSeal kyB nn oo txB _ _ _ _ GA.out.1.pr GA.out.2.key GA.out.2.nonce GA.out.2.other GA.out.2.text HZ.out.1 HZ.out.2 (by have := GA.out.2.lt; omega) HLL.out
                      go_wp2_with fail
                      refine H19.mono ?_
                      rintro z w5 ⟨va, rfl, hk5, hp5, ho5⟩
                      obtain ⟨aq, ac, rfl⟩ := own_slice ho5
                      have HA5 : Hid (Kx [some 63, none, some 30, some 71] w.heap.size WA w5 ∧ Pr w.heap.size w5 p q m x d (L ++ [(66, kyB, nn, oo, txB)]) L ∧ By w.heap.size w5 (.slice aq (txB.length + 16) ac) (Su.box (L.length + 1) txB.length)) := ⟨hk5, hp5, By.own (Su.box_lt _ _) ho5⟩
                      have C5 := GA.out.2.kx hk5
                      clear hk5 hp5 ho5 H19 e0 e1 e2 e3 e4 e5 e6 ez
                      obtain ⟨e0, e1, e2, e3, e4, e5, e6, ez⟩ := C5.cells
                      have H20 := pRSeal kyB nn oo txB _ _ _ _ HA5.out.2.1 C5.key C5.nonce C5.other C5.text HZ.out.1 HZ.out.2 (by have := GA.out.2.lt; omega) HLL.out
                      clear C5
                      generalize txB.length + 16 = sl at *
                      go_wp2_with fail
                      refine H20.mono ?_
                      rintro z w6 ⟨vb, rfl, hk6, hp6, ho6⟩
                      obtain ⟨bq, bc, rfl⟩ := own_slice ho6
                      have GN : Hid (Src w6 (.slice aq sl ac) (Su.box (L.length + 1) txB.length) ∧ By w.heap.size w6 (.slice bq sl bc) (Su.box (L.length + 1) txB.length) ∧ Sg w w6 p q m x d (.slice vq k vc) k xs ts (L ++ [(66, kyB, nn, oo, txB)])) := ⟨(HA5.out.2.2.kx hk6 (by decide)).src, By.own (Su.box_lt _ _) ho6, GA.out.1.kx (HA5.out.1.trans hk6) hp6 (snoc_texts GA.out.1.t216 GA.out.2.lt)⟩
                      have HSL : Hid ((Su.box (L.length + 1) txB.length).length ≤ 216) := by have := GA.out.2.l4 (by decide); show _ ≤ _; rw [Su.box_length]; omega
                      clear hk6 hp6 ho6 HA5 GA H20
                      go_wp2_with fail
                      go_meet
                      exact ⟨_, 0, _, rfl, rfl, by simp; omega, HSL.out, GN.out⟩
                    · have H19 := Seal_bad q1b q2 l1b c1b l2 c2 (.slice q3 l3 c3) (.slice q4b l4b c4b) p q m x L WA GA.out.1.pr.su (by omega)
                      have H20 := rSeal_bad (.pointer (some ⟨d, 0, none⟩)) q1b q2 l1b c1b l2 c2 (.slice q3 l3 c3) (.slice q4b l4b c4b) WA (by omega)
                      have GN : Hid (Src WA (.slice none 0 0) [] ∧ By w.heap.size WA (.slice none 0 0) [] ∧ Sg w WA p q m x d (.slice vq k vc) k xs ts L) := ⟨(By.nil w.heap.size WA).src, By.nil w.heap.size WA, GA.out.1⟩
                      clear GA z1 z2 hz HL1b
                      go_wp2_with fail
                      refine H19.mono ?_
                      rintro z w5 ⟨rfl, rfl⟩
                      go_wp2_with fail
                      refine H20.mono ?_
                      rintro z w5 ⟨rfl, rfl⟩
                      go_wp2_with fail
                      go_meet
                      exact ⟨_, 11, _, rfl, rfl, by omega, by simp, GN.out⟩
                · skip
                  by_cases h5 : k0 = 5
                  · subst h5
                    as_aux_lemma =>
                      have z1 : l1b = kyB.length := HL1b.out.symm
                      have z2 : l2 = nn.length := by obtain ⟨_, _, e, _⟩ := GA.out.2.nonce.src.slice; injection e
                      by_cases hz : l1b = 32 ∧ l2 = 12
                      · have HZ : Hid (kyB.length = 32 ∧ nn.length = 12) := by show _ ∧ _; omega
                        clear z1 z2 hz HL1b
                        obtain ⟨r, HR⟩ : ∃ r, Hid (Su.opens kyB nn oo txB 0 L = r) := ⟨_, rfl⟩
                        have HS2 : Hid (∀ u ∈ L, u.2.2.2.2.length ≤ 50000) := fun u hu => by have := GA.out.1.t216 u hu; omega
                        have H21 := pOpen kyB nn oo txB _ _ _ _ GA.out.1.pr GA.out.2.key GA.out.2.nonce GA.out.2.other GA.out.2.text HZ.out.1 HZ.out.2 (by have := GA.out.2.lt; omega) HLL.out HS2.out
                        rw [HR.out] at H21
                        cases r with
                        | none =>
                          go_wp2_with fail
                          refine H21.mono ?_
                          rintro z w5 ⟨hz5, hb5, hp5⟩
                          simp only [OpenSays] at hz5
                          subst hz5
                          have HA5 : Hid (Below WA.heap.size WA w5) := hb5
                          have C5 := GA.out.2.below hb5
                          have H22 := pROpen kyB nn oo txB _ _ _ _ hp5 C5.key C5.nonce C5.other C5.text HZ.out.1 HZ.out.2 HLL.out HS2.out
                          rw [HR.out] at H22
                          clear hb5 hp5 H21 e0 e1 e2 e3 e4 e5 e6 ez
                          obtain ⟨e0, e1, e2, e3, e4, e5, e6, ez⟩ := C5.cells
                          clear C5
                          go_wp2_with fail
                          refine H22.mono ?_
                          rintro z w6 ⟨hz6, hb6, hp6⟩
                          simp only [ROpenSays] at hz6
                          subst hz6
                          have GN : Hid (Src w6 (.slice none 0 0) [] ∧ By w.heap.size w6 (.slice none 0 0) [] ∧ Sg w w6 p q m x d (.slice vq k vc) k xs ts L) := ⟨(By.nil w.heap.size w6).src, By.nil w.heap.size w6, (GA.out.1.below HA5.out).below hb6⟩
                          clear hb6 hp6 H22 GA HA5
                          go_wp2_with fail
                          go_meet
                          exact ⟨_, 20, _, rfl, rfl, by omega, by simp, GN.out⟩
                        | some tt =>
                          have HTT : Hid (tt.length ≤ 216) := opens_text L 0 GA.out.1.t216 HR.out
                          go_wp2_with fail
                          refine H21.mono ?_
                          rintro z w5 ⟨⟨va, rfl, hs5, -⟩, hb5, hp5⟩
                          obtain ⟨aq, ac, rfl, -⟩ := hs5.slice
                          have HA5 : Hid (Below WA.heap.size WA w5 ∧ Src w5 (.slice aq tt.length ac) tt) := ⟨hb5, hs5⟩
                          have C5 := GA.out.2.below hb5
                          have H22 := pROpen kyB nn oo txB _ _ _ _ hp5 C5.key C5.nonce C5.other C5.text HZ.out.1 HZ.out.2 HLL.out HS2.out
                          rw [HR.out] at H22
                          clear hb5 hp5 hs5 H21 e0 e1 e2 e3 e4 e5 e6 ez
                          obtain ⟨e0, e1, e2, e3, e4, e5, e6, ez⟩ := C5.cells
                          clear C5
                          obtain ⟨tl, HTL⟩ : ∃ tl, Hid (tt.length = tl) := ⟨_, rfl⟩
                          rw [HTL.out] at HA5 ⊢
                          go_wp2_with fail
                          refine H22.mono ?_
                          rintro z w6 ⟨⟨vb, rfl, hs6⟩, hb6, hp6⟩
                          obtain ⟨bq, bc, rfl, -⟩ := hs6.src.slice
                          have GN : Hid (Src w6 (.slice aq tl ac) tt ∧ By w.heap.size w6 (.slice bq tt.length bc) tt ∧ Sg w w6 p q m x d (.slice vq k vc) k xs ts L) := ⟨HA5.out.2.below hb6, hs6, (GA.out.1.below HA5.out.1).below hb6⟩
                          clear hb6 hp6 hs6 H22 GA HA5
                          go_wp2_with fail
                          go_meet
                          exact ⟨_, 0, _, rfl, rfl, by omega, HTT.out, GN.out⟩
                      · have H21 := Open_bad q1b q2 l1b c1b l2 c2 (.slice q3 l3 c3) (.slice q4b l4b c4b) p q m x L WA GA.out.1.pr.su (by omega)
                        have H22 := rOpen_bad (.pointer (some ⟨d, 0, none⟩)) q1b q2 l1b c1b l2 c2 (.slice q3 l3 c3) (.slice q4b l4b c4b) WA (by omega)
                        have GN : Hid (Src WA (.slice none 0 0) [] ∧ By w.heap.size WA (.slice none 0 0) [] ∧ Sg w WA p q m x d (.slice vq k vc) k xs ts L) := ⟨(By.nil w.heap.size WA).src, By.nil w.heap.size WA, GA.out.1⟩
                        clear GA z1 z2 hz HL1b
                        go_wp2_with fail
                        refine H21.mono ?_
                        rintro z w5 ⟨rfl, rfl⟩
                        go_wp2_with fail
                        refine H22.mono ?_
                        rintro z w5 ⟨rfl, rfl⟩
                        go_wp2_with fail
                        go_meet
                        exact ⟨_, 11, _, rfl, rfl, by omega, by simp, GN.out⟩
                  · skip
                    as_aux_lemma =>
                      have z1 : (k0 == 1) = false := by simpa using h1
                      have z2 : (k0 == 2) = false := by simpa using h2
                      have z3 : (k0 == 3) = false := by simpa using h3
                      have z4 : (k0 == 4) = false := by simpa using h4
                      have z5 : (k0 == 5) = false := by simpa using h5
                      have GN : Hid (Sg w WA p q m x d (.slice vq k vc) k xs ts L) := GA.out.1
                      clear GA h1 h2 h3 h4 h5
                      go_wp2_with fail
                      refine ⟨⟨j + 1, k, xs, ts, L, by omega, by omega, by omega, by simp, GN⟩, ?_⟩
                      simp only [intOf]
                      omega
        case rest =>
          as_aux_lemma =>
            obtain ⟨l, er, L', rfl, rfl, hL', hl216, HC⟩ := hcut
            clear GA e0 e1 e2 e3 e4 e5 e6 ez HL1b HL4b
            obtain ⟨aq, ac, rfl, -⟩ := HC.out.1.slice
            obtain ⟨bq, bc, rfl, -⟩ := HC.out.2.1.src.slice
            obtain ⟨dv, dcs, hdoc⟩ := HC.out.2.2.pr.doc
            obtain ⟨dq, dc, rfl⟩ := own_slice hdoc.row
            have HBK : Hid (∀ w', Only [] wc w' → Below wc.heap.size wc w') := fun w' ho => ho.below (Nat.le_refl _) (by simp)
            have HSA : Hid (∀ w', Only [] wc w' → SrcV [] l (.slice aq l.length ac) w') := fun w' ho => ⟨HC.out.1.only ho (fun _ _ => by simp), fun _ _ => by simp⟩
            have HSB : Hid (∀ w', Only [] wc w' → SrcV [] l (.slice bq l.length bc) w') := fun w' ho => ⟨HC.out.2.1.src.only ho (fun _ _ => by simp), fun _ _ => by simp⟩
            have HDD : Hid (∀ w', Only [] wc w' → w'.cell? ⟨d, 0, none⟩ = some (.slice dq L'.length dc)) := fun w' ho => by
              rw [cell_of_row _ _ _ _ _ _ (hdoc.below (HBK.out w' ho)).box]
              rfl
            have HCN : Hid (∀ w', Only [] wc w' → Calls Tryd.prog 23 #[.pointer (some ⟨p, 0, none⟩)] w' fun z u => z = .returned (.int .i64 (L'.length : Int)) ∧ u = w') := fun w' ho => count_any p L'.length _ _ w' (HC.out.2.2.pr.su.below (HBK.out w' ho)).box
            clear hdoc
            go_wp2_with fail
            have RB : ∀ k w w', Below w.heap.size w w' → (fun (_ : Nat) (_ : World) => True) k w → (fun (_ : Nat) (_ : World) => True) k w' := fun _ _ _ _ _ => trivial
            refine wp_region_st (sg30 p d l er dq L'.length dc) (fun u u' => Only [] u u') (SeqS [] (fun (_ : Nat) (_ : World) => True)) (by kernel_rfl) (only_drew _ _) (only_trans _) (sg30_kept p d l er dq L'.length dc) (by kernel_rfl) (SeqS.start (trivial)) ?_ ?_
            · intro i o a' w' f hi inv hS hfi hfw hpre
              have ho : Only [] wc w' := inv.grow
              have hlt : i < 20 := (Array.getElem?_eq_some_iff.1 hi).1
              obtain rfl|rfl|rfl|rfl|rfl|rfl|rfl|rfl|rfl|rfl|rfl|rfl|rfl|rfl|rfl|rfl|rfl|rfl|rfl|rfl : i = 0 ∨ i = 1 ∨ i = 2 ∨ i = 3 ∨ i = 4 ∨ i = 5 ∨ i = 6 ∨ i = 7 ∨ i = 8 ∨ i = 9 ∨ i = 10 ∨ i = 11 ∨ i = 12 ∨ i = 13 ∨ i = 14 ∨ i = 15 ∨ i = 16 ∨ i = 17 ∨ i = 18 ∨ i = 19 := by omega
              · obtain rfl := Option.some.inj hi
                exact sq_value _ rfl rfl rfl (Below.refl _ _) (by decide) hS RB (by show a'.tmps.getD 10 undef = _; rw [inv.old 10 (notDst_spec (by kernel_rfl))]; rfl)
              · obtain rfl := Option.some.inj hi
                exact sq_value _ rfl rfl rfl (Below.refl _ _) (by decide) hS RB (by show a'.tmps.getD 11 undef = _; rw [inv.old 11 (notDst_spec (by kernel_rfl))]; rfl)
              · obtain rfl := Option.some.inj hi
                have h0 : a'.tmps.getD 155 undef = _ := pre_of hpre 0 155 (by kernel_rfl) (by kernel_rfl)
                have h1 : a'.tmps.getD 156 undef = _ := pre_of hpre 1 156 (by kernel_rfl) (by kernel_rfl)
                exact sq_value _ rfl rfl (neqN_run 155 156 _ _ rfl h0 h1) (Below.refl _ _) (by decide) hS RB (by show Value.bool _ = _; simp)
              · obtain rfl := Option.some.inj hi
                have h0 := pre_of hpre 2 157 (by kernel_rfl) (by kernel_rfl)
                exact sq_value _ rfl rfl (rfl) (Below.refl _ _) (by decide) hS RB h0
              · obtain rfl := Option.some.inj hi
                have hgu : a'.tmps.getD 158 undef = _ := pre_of hpre 3 158 (by kernel_rfl) (by kernel_rfl)
                exact sq_value _ rfl (wanted_of 3 158 false rfl (by kernel_rfl) hgu) rfl (Below.refl _ _) (by decide) hS RB (by show SrcV _ _ (a'.tmps.getD 8 undef) _; rw [inv.old 8 (notDst_spec (by kernel_rfl))]; exact (HSA.out w' ho))
              · obtain rfl := Option.some.inj hi
                have hgu : a'.tmps.getD 158 undef = _ := pre_of hpre 3 158 (by kernel_rfl) (by kernel_rfl)
                have h0 := pre_of hpre 4 159 (by kernel_rfl) (by kernel_rfl)
                exact sq_value _ rfl (wanted_of 3 158 false rfl (by kernel_rfl) hgu) (conv_run 159 _ rfl (h0.1)) (Below.refl _ _) (by decide) hS RB rfl
              · obtain rfl := Option.some.inj hi
                have hgu : a'.tmps.getD 158 undef = _ := pre_of hpre 3 158 (by kernel_rfl) (by kernel_rfl)
                exact sq_value _ rfl (wanted_of 3 158 false rfl (by kernel_rfl) hgu) rfl (Below.refl _ _) (by decide) hS RB (by show SrcV _ _ (a'.tmps.getD 9 undef) _; rw [inv.old 9 (notDst_spec (by kernel_rfl))]; exact (HSB.out w' ho))
              · obtain rfl := Option.some.inj hi
                have hgu : a'.tmps.getD 158 undef = _ := pre_of hpre 3 158 (by kernel_rfl) (by kernel_rfl)
                have h0 := pre_of hpre 6 161 (by kernel_rfl) (by kernel_rfl)
                exact sq_value _ rfl (wanted_of 3 158 false rfl (by kernel_rfl) hgu) (conv_run 161 _ rfl (h0.1)) (Below.refl _ _) (by decide) hS RB rfl
              · obtain rfl := Option.some.inj hi
                have hgu : a'.tmps.getD 158 undef = _ := pre_of hpre 3 158 (by kernel_rfl) (by kernel_rfl)
                have h0 : a'.tmps.getD 160 undef = _ := pre_of hpre 5 160 (by kernel_rfl) (by kernel_rfl)
                have h1 : a'.tmps.getD 162 undef = _ := pre_of hpre 7 162 (by kernel_rfl) (by kernel_rfl)
                exact sq_value _ rfl (wanted_of 3 158 false rfl (by kernel_rfl) hgu) (neqS_run 160 162 _ _ rfl h0 h1) (Below.refl _ _) (by decide) hS RB (by show Value.bool _ = _; simp)
              · obtain rfl := Option.some.inj hi
                have h0 : a'.tmps.getD 158 undef = _ := pre_of hpre 3 158 (by kernel_rfl) (by kernel_rfl)
                have h1 : a'.tmps.getD 163 undef = _ := pre_of hpre 8 163 (by kernel_rfl) (by kernel_rfl)
                exact sq_value _ rfl rfl (pick_run 158 false _ _ _ _ rfl h0 rfl h1) (Below.refl _ _) (by decide) hS RB rfl
              · obtain rfl := Option.some.inj hi
                have h0 := pre_of hpre 9 164 (by kernel_rfl) (by kernel_rfl)
                exact sq_value _ rfl rfl (rfl) (Below.refl _ _) (by decide) hS RB h0
              · obtain rfl := Option.some.inj hi
                have hgu : a'.tmps.getD 165 undef = _ := pre_of hpre 10 165 (by kernel_rfl) (by kernel_rfl)
                exact sq_value _ rfl (wanted_of 10 165 false rfl (by kernel_rfl) hgu) rfl (Below.refl _ _) (by decide) hS RB (by show a'.tmps.getD 3 undef = _; rw [inv.old 3 (notDst_spec (by kernel_rfl))]; rfl)
              · obtain rfl := Option.some.inj hi
                have hgu : a'.tmps.getD 165 undef = _ := pre_of hpre 10 165 (by kernel_rfl) (by kernel_rfl)
                have h0 : a'.tmps.getD 166 undef = _ := pre_of hpre 11 166 (by kernel_rfl) (by kernel_rfl)
                refine sq_quiet 23 #[a'.tmps.getD 166 undef] rfl (wanted_of 10 165 false rfl (by kernel_rfl) hgu) (by kernel_rfl) (by decide) hS ?_
                rw [h0]
                exact (HCN.out w' ho).mono (by rintro z u ⟨rfl, rfl⟩; exact ⟨_, rfl, Only.refl _ _, (fun _ h => h), rfl⟩)
              · obtain rfl := Option.some.inj hi
                have hgu : a'.tmps.getD 165 undef = _ := pre_of hpre 10 165 (by kernel_rfl) (by kernel_rfl)
                exact sq_value _ rfl (wanted_of 10 165 false rfl (by kernel_rfl) hgu) rfl (Below.refl _ _) (by decide) hS RB (by show a'.tmps.getD 4 undef = _; rw [inv.old 4 (notDst_spec (by kernel_rfl))]; rfl)
              · obtain rfl := Option.some.inj hi
                have hgu : a'.tmps.getD 165 undef = _ := pre_of hpre 10 165 (by kernel_rfl) (by kernel_rfl)
                have h0 : a'.tmps.getD 168 undef = _ := pre_of hpre 13 168 (by kernel_rfl) (by kernel_rfl)
                exact sq_value _ rfl (wanted_of 10 165 false rfl (by kernel_rfl) hgu) (nil_run 168 _ rfl h0) (Below.refl _ _) (by decide) hS RB rfl
              · obtain rfl := Option.some.inj hi
                have hgu : a'.tmps.getD 165 undef = _ := pre_of hpre 10 165 (by kernel_rfl) (by kernel_rfl)
                have h0 : a'.tmps.getD 169 undef = _ := pre_of hpre 14 169 (by kernel_rfl) (by kernel_rfl)
                exact sq_value _ rfl (wanted_of 10 165 false rfl (by kernel_rfl) hgu) (fa_run 30 0 169 d rfl h0 (fa30_0 d)) (Below.refl _ _) (by decide) hS RB rfl
              · obtain rfl := Option.some.inj hi
                have hgu : a'.tmps.getD 165 undef = _ := pre_of hpre 10 165 (by kernel_rfl) (by kernel_rfl)
                have h0 : a'.tmps.getD 170 undef = _ := pre_of hpre 15 170 (by kernel_rfl) (by kernel_rfl)
                exact sq_value _ rfl (wanted_of 10 165 false rfl (by kernel_rfl) hgu) (load_run 28 170 d (0) _ rfl h0 (ld28 ((HDD.out w' ho)))) (Below.refl _ _) (by decide) hS RB rfl
              · obtain rfl := Option.some.inj hi
                have hgu : a'.tmps.getD 165 undef = _ := pre_of hpre 10 165 (by kernel_rfl) (by kernel_rfl)
                have h0 : a'.tmps.getD 171 undef = _ := pre_of hpre 16 171 (by kernel_rfl) (by kernel_rfl)
                exact sq_value _ rfl (wanted_of 10 165 false rfl (by kernel_rfl) hgu) (lenV_run 171 _ _ _ rfl h0) (Below.refl _ _) (by decide) hS RB rfl
              · obtain rfl := Option.some.inj hi
                have hgu : a'.tmps.getD 165 undef = _ := pre_of hpre 10 165 (by kernel_rfl) (by kernel_rfl)
                have h0 : a'.tmps.getD 167 undef = _ := pre_of hpre 12 167 (by kernel_rfl) (by kernel_rfl)
                have h1 : a'.tmps.getD 172 undef = _ := pre_of hpre 17 172 (by kernel_rfl) (by kernel_rfl)
                exact sq_value _ rfl (wanted_of 10 165 false rfl (by kernel_rfl) hgu) (neqN_run 167 172 _ _ rfl h0 h1) (Below.refl _ _) (by decide) hS RB (by show Value.bool _ = _; simp)
              · obtain rfl := Option.some.inj hi
                have h0 : a'.tmps.getD 165 undef = _ := pre_of hpre 10 165 (by kernel_rfl) (by kernel_rfl)
                have h1 : a'.tmps.getD 173 undef = _ := pre_of hpre 18 173 (by kernel_rfl) (by kernel_rfl)
                exact sq_value _ rfl rfl (pick_run 165 false _ _ _ _ rfl h0 rfl h1) (Below.refl _ _) (by decide) hS RB rfl
            · intro a' w9 f inv hS hall hd
              have hk19 := hd 19 174 (by kernel_rfl)
              have ho : Only [] wc w9 := inv.grow
              have hdf : a'.defers = [] := inv.defers
              have hsz : a'.tmps.size = 180 := inv.size
              have e := frame3_30 hsz (fun t ht => inv.old t (dstsIn_spec (ts := [155, 156, 157, 158, 159, 160, 161, 162, 163, 164, 165, 166, 167, 168, 169, 170, 171, 172, 173, 174]) (by kernel_rfl) t ht))
              have hR := hS.done (fun c hc => hall c (show c < 20 by simp at hc <;> omega))
              clear inv hd hsz hall hS
              obtain ⟨tmps, defers⟩ := a'
              obtain rfl : defers = [] := hdf
              replace e : tmps = _ := e
              replace hk19 : tmps.getD 174 undef = (.bool false) := hk19
              generalize tmps.getD 155 undef = x155 at *
              generalize tmps.getD 156 undef = x156 at *
              generalize tmps.getD 157 undef = x157 at *
              generalize tmps.getD 158 undef = x158 at *
              generalize tmps.getD 159 undef = x159 at *
              generalize tmps.getD 160 undef = x160 at *
              generalize tmps.getD 161 undef = x161 at *
              generalize tmps.getD 162 undef = x162 at *
              generalize tmps.getD 163 undef = x163 at *
              generalize tmps.getD 164 undef = x164 at *
              generalize tmps.getD 165 undef = x165 at *
              generalize tmps.getD 166 undef = x166 at *
              generalize tmps.getD 167 undef = x167 at *
              generalize tmps.getD 168 undef = x168 at *
              generalize tmps.getD 169 undef = x169 at *
              generalize tmps.getD 170 undef = x170 at *
              generalize tmps.getD 171 undef = x171 at *
              generalize tmps.getD 172 undef = x172 at *
              generalize tmps.getD 173 undef = x173 at *
              generalize tmps.getD 174 undef = x174 at *
              simp only [Array.getD_eq_getD_getElem?, List.getElem?_toArray, List.getElem?_cons_succ, List.getElem?_cons_zero, Option.getD_some] at e
              subst e
              subst hk19
              have GE : Hid (Sg w w9 p q m x d (.slice vq k vc) k xs ts L' ∧ By w.heap.size w9 (.slice bq l.length bc) l) := ⟨HC.out.2.2.below (HBK.out w9 ho), HC.out.2.1.below (HBK.out w9 ho)⟩
              clear HC HSA HSB HDD HCN HBK ho hR
              go_wp2_with (first | with_reducible (refine stop_builtin .append ?_))
              refine Stop.go ?_
              have ha := below_alloc w9 (.cells #[.slice bq l.length bc] 32)
              have GF := GE.out.1.below ha
              refine law_append_row w.heap.size (.slice vq k vc) k xs w9.heap.size (.slice bq l.length bc) rfl rfl GF.row (cell_part w9 _) rfl (by omega) GF.pr.size ?_
              intro v' wN ho2 hg2 _
              have GNX : Hid (Sg w wN p q m x d v' (k + 1) (xs ++ [.slice bq l.length bc]) (ts ++ [l]) L') := GF.push ho2 hg2 (GE.out.2.below ha) hl216
              obtain ⟨nq, nc, rfl⟩ := own_slice ho2
              clear GF ha GE ho2 hg2
              go_wp2_with fail
              refine ⟨⟨j + 1, k + 1, _, _, L', by omega, by omega, hL', by simp, GNX⟩, ?_⟩
              simp only [intOf]
              omega
      · obtain rfl : j = n := by omega
        have j1 : ¬ (j : Int) < (j : Int) := by omega
        have HBW : Hid (Below w.heap.size w wr) := GJ.out.bel
        go_wp2_with fail
        go_ret
        exact ⟨rfl, HBW.out⟩
end Go.Proofs.YtbblokikhocdfaaDoor.S7
