/- The walk of RingPlays. -/
import Derived.Test.YtagdlpodpokmmaaGreatDoorMgP
import Derived.Test.YtagdlpodpokmmaaGreatDoorR14Anc
import Derived.Deep.CutRange
import Derived.Deep.CutBlock
import Derived.Deep.QuietTactic
import Derived.BigQuiet
namespace Go.Proofs.YtagdlpodpokmmaaGreatDoor.S7
open Go.RowKit
theorem Hid.mk'' {p : Prop} (h : p) : Hid p := h
theorem by_of_old {B : Nat} {W : World} {v : Value} {tx : List Nat} (h : Old B W v tx) : By B W v tx := by
  obtain ⟨⟨hs, h1 | h1 | ⟨b, o, c, rfl, hc, hr⟩⟩, h2⟩ := h
  · exact ⟨hs, .inl h1⟩
  · exact ⟨hs, .inr (.inl h1)⟩
  · by_cases h0 : tx = []
    · subst h0
      exact ⟨hs, .inr (.inl ⟨_, _, rfl, rfl⟩)⟩
    · exact ⟨hs, .inr (.inr ⟨b, o, c, rfl, hc, hr, .inl (h2 h0 b rfl)⟩)⟩
theorem By.low {B : Nat} {W W' : World} {v : Value} {l : List Nat} (h : By B W v l) (hB : W.heap.size = B) (hb : Below B W W') : By B W' v l := by
  subst hB
  exact h.below hb
set_option maxHeartbeats 16000000 in
set_option maxRecDepth 20000 in
theorem plays_main (os : List Op5) (a : Option Addr) (n c : Nat) (sq : Option Addr) (sn sc : Nat) (sl : List Nat) (w : World) (hsec : Src w (.slice sq sn sc) sl) (hos : os.length = n) (hn : n ≤ 9223372036854775807) (hsn : sn ≤ 9223372036854775807) (hP : OpRow5 w w a os) :
    Calls Tryz.prog 3 #[.slice sq sn sc, .slice a n c] w fun e w' => e = .returned (.bool true) ∧ Below w.heap.size w w' := by
  have HP : Hid (∀ W, Below w.heap.size w W → OpRow5 w W a os) := fun W hW => hP.below hW
  have HN : Hid (os.length = n) := hos
  have HSC : Hid (∀ W, Below w.heap.size w W → By w.heap.size W (.slice sq sn sc) sl) := fun W hW => (By.old hsec (Nat.le_refl _)).below hW
  have n9 : (n : Int) ≤ 9223372036854775807 := by omega
  have s9 : (sn : Int) ≤ 9223372036854775807 := by omega
  clear hP hos hsec
  go_enter Tryz.func3, Tryz.ntmps3
  go_wp2_with fail
  refine (anchor_any _).mono ?_
  rintro e w1 ⟨rfl, hb1⟩
  have HB1 : Hid (Below w.heap.size w w1) := hb1
  clear hb1
  by_cases h100 : 100 < (sn : Int)
  · go_wp2_with fail
    go_ret
    exact ⟨rfl, HB1.out⟩
  by_cases h50 : 50 < (n : Int)
  · go_wp2_with fail
    go_ret
    exact ⟨rfl, HB1.out⟩
  go_wp2_with fail
  refine (Signs_sw (B := w.heap.size) HB1.out.size).mono ?_
  rintro e w2 ⟨p, q, m, x, rfl, hs2, hb2⟩
  have G2 : Hid (Sw w.heap.size (w2.alloc (.cells #[.slice none 0 0] 30)) p q m x [] ∧ Doc w.heap.size (w2.alloc (.cells #[.slice none 0 0] 30)) w2.heap.size [] ∧ Below w.heap.size w (w2.alloc (.cells #[.slice none 0 0] 30))) := by
    have ha : Below w2.heap.size w2 (w2.alloc (.cells #[.slice none 0 0] 30)) := below_alloc w2 _
    have hb : Below w.heap.size w w2 := HB1.out.trans (hb2.mono HB1.out.size)
    exact ⟨hs2.below ha, ⟨_, [], ⟨hb.size, heap_alloc_new w2 _, own_none _ _ _ _, rfl, fun i c u h => by simp at h⟩⟩, hb.trans (ha.mono hb.size)⟩
  clear hs2 hb2 HB1
  go_wp2_with fail
  generalize w2.alloc (.cells #[.slice none 0 0] 30) = W2 at *
  generalize w2.heap.size = d at *
  refine (New_s G2.out.1 (by decide) G2.out.2.2.size (HSC.out _ G2.out.2.2)).mono ?_
  rintro e w3 ⟨r, y1, rfl, -, h1, h2, -, h4⟩
  have G3 : Hid ((∃ ys, RgIs w.heap.size w3 r ys (lrn (fun _ => none) 0 (mk [] sl epoB 0))) ∧ Sw w.heap.size w3 p q m x (adk [] sl epoB 0) ∧ Doc w.heap.size w3 d [] ∧ Below w.heap.size w w3) := ⟨⟨y1, h1⟩, h2, G2.out.2.1.kx h4 (by decide) (by decide) (by decide), G2.out.2.2.trans h4.low⟩
  clear h1 h2 h4 G2
  go_wp2_with fail
  refine (rNew_any G3.out.2.2.1 (by decide) G3.out.2.2.2.size (HSC.out _ G3.out.2.2.2)).mono ?_
  rintro e w4 ⟨rd, y2, rfl, h1, h2, h3⟩
  obtain ⟨L0, HL0⟩ : ∃ L0, Hid (adk [] sl epoB 0 = L0) := ⟨_, rfl⟩
  obtain ⟨ks0, HK0⟩ : ∃ ks0, Hid (lrn (fun _ => none) 0 (mk [] sl epoB 0) = ks0) := ⟨_, rfl⟩
  have G4 : Hid (Pg w w4 p q m x d r rd (.slice none 0 0) 0 [] [] L0 L0 ks0 ks0 ∧ L0.length ≤ 1) := by
    obtain ⟨⟨z1, g1⟩, g2, g3, g4⟩ := G3.out
    rw [← HL0.out, ← HK0.out]
    exact ⟨⟨g4.trans h3.low, g2.kx h3 (by decide) (by decide) (by decide), h2, ⟨z1, g1.kx h3 (by decide) (by decide)⟩, ⟨y2, h1⟩, own_none _ _ _ _, rfl, rfl, fun i y l h => by simp at h, fun l h => by simp at h, Shr.nil.adk sl epoB 0 epo_ok.2⟩, by have := adk_length [] sl epoB 0; simpa using this⟩
  clear h1 h2 h3 G3 HL0 HK0
  go_wp2_with fail
  go_loopw [9, 41] (fun v i wr => ∃ (j : Nat) (xs : List Value) (ts : List (List Nat)) (L : List Su.Thing) (ks : Nat → Option (List Nat)), j ≤ n ∧ L.length ≤ 2 * j + 1 ∧ i = .int .i64 j ∧ Hid (Pg w wr p q m x d r rd v j xs ts L L ks ks)) (fun _ i _ => n - (intOf i).toNat)
  case atStart => exact ⟨0, [], [], L0, ks0, by omega, by simpa using G4.out.2, rfl, G4.out.1⟩
  case round =>
    obtain ⟨j, xs, ts, L, ks, hj, hL, rfl, GJ⟩ := hrel
    clear G4
    have j0 : (0 : Int) ≤ (j : Int) := by omega
    by_cases hlt : j < n
    · have hjp : j < os.length := by rw [HN.out]; exact hlt
      have j1 : (j : Int) < (n : Int) := by omega
      obtain ⟨bb, ob, dv, rfl, hbb, ⟨d0, d1, d2, d3, d4⟩, o1⟩ := (HP.out wr GJ.out.bel) j hjp
      obtain ⟨vq, vc, rfl⟩ := own_slice GJ.out.row
      obtain ⟨q4, c4, rfl, -⟩ := o1.1.slice
      generalize os[j] = ot at *
      obtain ⟨k0, n0, m0, r0, dt⟩ := ot
      simp only at d0 d1 d2 d3 d4 o1
      have HBW : Hid (∀ cs, Below w.heap.size w (wr.alloc (.cells cs 37))) := fun cs => GJ.out.bel.trans ((below_alloc wr _).mono GJ.out.bel.size)
      by_cases hdt : 100 < (dt.length : Int)
      · clear GJ o1
        generalize dt.length = l4 at *
        go_wp2_with fail
        go_ret
        exact ⟨rfl, HBW.out _⟩
      have GA : Hid (Pg w (wr.alloc (.cells #[.int .i64 k0, .int .i64 n0, .int .i64 m0, .int .i64 r0, .slice q4 dt.length c4] 37)) p q m x d r rd (.slice vq j vc) j xs ts L L ks ks ∧ Cp5 w.heap.size (wr.alloc (.cells #[.int .i64 k0, .int .i64 n0, .int .i64 m0, .int .i64 r0, .slice q4 dt.length c4] 37)) wr.heap.size k0 n0 m0 r0 (.slice q4 dt.length c4) dt) := by
        have ha := below_alloc wr (.cells #[.int .i64 k0, .int .i64 n0, .int .i64 m0, .int .i64 r0, .slice q4 dt.length c4] 37)
        exact ⟨GJ.out.below ha, GJ.out.bel.size, heap_alloc_new wr _, (by_of_old o1).below ha, by omega⟩
      clear GJ o1 hjp HBW
      obtain ⟨l4, HL4⟩ : ∃ l4, Hid (dt.length = l4) := ⟨_, rfl⟩
      rw [HL4.out] at d4 GA hdt
      clear HL4
      go_upto_region 13 with fail
      generalize wr.alloc (.cells #[.int .i64 k0, .int .i64 n0, .int .i64 m0, .int .i64 r0, .slice q4 l4 c4] 37) = WA at *
      generalize wr.heap.size = pe at *
      clear d0 d1 d2 d3 d4 hdt
      obtain ⟨e0, e1, e2, e3, e4, ez⟩ := GA.out.2.cells
      have n50 : (n : Int) ≤ 50 := by omega
      obtain ⟨b1, HB1⟩ : ∃ b1, Hid (decide (0 < r0 ∧ r0 ≤ (j : Int)) = b1) := ⟨_, rfl⟩
      go_cut [58] from 42 to 265 (fun v58 wx => v58 = .bool b1 ∧ wx = WA)
      case first =>
        as_aux_lemma =>
          by_cases h1 : 0 < r0
          · by_cases h2 : r0 ≤ (j : Int)
            · have hb : Hid (true = b1) := by rw [← HB1.out]; exact (decide_eq_true ⟨h1, h2⟩).symm
              clear GA HB1
              go_wp2_with fail
              go_meet
              exact ⟨congrArg Value.bool hb.out, rfl⟩
            · have hb : Hid (false = b1) := by rw [← HB1.out]; exact (decide_eq_false (fun h => h2 h.2)).symm
              clear GA HB1
              go_wp2_with fail
              go_meet
              exact ⟨congrArg Value.bool hb.out, rfl⟩
          · have hb : Hid (false = b1) := by rw [← HB1.out]; exact (decide_eq_false (fun h => h1 h.1)).symm
            clear GA HB1
            go_wp2_with fail
            go_meet
            exact ⟨congrArg Value.bool hb.out, rfl⟩
      case rest =>
      as_aux_lemma =>
        obtain ⟨rfl, rfl⟩ := hcut
        go_upto_if 58 with fail
        go_cut [] from 42 to 265 (fun wx => Hid (∃ dv dt, Pg w wx p q m x d r rd (.slice vq j vc) j xs ts L L ks ks ∧ Cp5 w.heap.size wx pe k0 n0 m0 r0 dv dt))
        case first =>
          as_aux_lemma =>
            cases b1 with
            | false =>
              go_wp2_with fail
              go_meet
              exact ⟨_, _, GA.out⟩
            | true =>
              have h12 := of_decide_eq_true HB1.out
              obtain ⟨i5, HI5⟩ : ∃ i5 : Nat, Hid (r0 = (i5 : Int) + 1) := ⟨(r0 - 1).toNat, by show _ = _; omega⟩
              have HI5' := HI5.out
              subst HI5'
              have i50 : (0 : Int) ≤ (i5 : Int) := by omega
              have i5k : (i5 : Int) < (j : Int) := by omega
              obtain ⟨g, cap, y, l, hv, hcap, hy, hby, hyl⟩ := GA.out.1.at (i := i5) (by omega)
              cases hv
              obtain ⟨yq, yc, rfl, -⟩ := hby.src.slice
              have GB : Hid (∃ dv dt, Pg w (wc.setCell ⟨pe, 4, none⟩ (.slice yq l.length yc)) p q m x d r rd (.slice (some ⟨g, 0, none⟩) j vc) j xs ts L L ks ks ∧ Cp5 w.heap.size (wc.setCell ⟨pe, 4, none⟩ (.slice yq l.length yc)) pe k0 n0 m0 ((i5 : Int) + 1) dv dt) := by
                obtain ⟨hk, hc⟩ := GA.out.2.set hby hyl
                exact ⟨_, _, GA.out.1.op hk, hc⟩
              clear GA hby h12 HI5 HB1
              generalize l.length = yl at *
              go_wp2_with fail
              go_meet
              exact GB.out
        case rest =>
        as_aux_lemma =>
          obtain ⟨dvB, dtB, hc⟩ := hcut.out
          clear GA HB1 e0 e1 e2 e3 e4 ez hcut dt
          obtain ⟨q4b, c4b, rfl, -⟩ := hc.2.data.src.slice
          obtain ⟨l4b, HL4b⟩ : ∃ l4b, Hid (dtB.length = l4b) := ⟨_, rfl⟩
          rw [HL4b.out] at hc
          have GA : Hid (Pg w wc p q m x d r rd (.slice vq j vc) j xs ts L L ks ks ∧ Cp5 w.heap.size wc pe k0 n0 m0 r0 (.slice q4b l4b c4b) dtB) := hc
          clear hc
          obtain ⟨e0, e1, e2, e3, e4, ez⟩ := GA.out.2.cells
          go_upto_region 18 with fail
          generalize wc = WA at *
          obtain ⟨b3, HB3⟩ : ∃ b3, Hid (decide (1 ≤ n0 ∧ n0 ≤ 16) = b3) := ⟨_, rfl⟩
          go_cut [16] from 42 to 265 (fun v16 wx => v16 = .bool b3 ∧ wx = WA)
          case first =>
            as_aux_lemma =>
              by_cases h1 : 1 ≤ n0
              · by_cases h2 : n0 ≤ 16
                · have hb : Hid (true = b3) := by rw [← HB3.out]; exact (decide_eq_true ⟨h1, h2⟩).symm
                  clear GA HB3
                  go_wp2_with fail
                  go_meet
                  exact ⟨congrArg Value.bool hb.out, rfl⟩
                · have hb : Hid (false = b3) := by rw [← HB3.out]; exact (decide_eq_false (fun h => h2 h.2)).symm
                  clear GA HB3
                  go_wp2_with fail
                  go_meet
                  exact ⟨congrArg Value.bool hb.out, rfl⟩
              · have hb : Hid (false = b3) := by rw [← HB3.out]; exact (decide_eq_false (fun h => h1 h.1)).symm
                clear GA HB3
                go_wp2_with fail
                go_meet
                exact ⟨congrArg Value.bool hb.out, rfl⟩
          case rest =>
          as_aux_lemma =>
            obtain ⟨rfl, rfl⟩ := hcut
            go_upto_block 2 with fail
            generalize wc = WA at *
            go_cut [12, 13, 14, 15, 17, 18, 19] from 42 to 265 (fun v12 v13 v14 v15 _ _ _ wx => ∃ (l : List Nat) (er : Int) (L' : List Su.Thing) (ks' : Nat → Option (List Nat)), v14 = .int .i64 er ∧ v15 = .int .i64 er ∧ L'.length ≤ 2 * j + 3 ∧ l.length ≤ 100 ∧ Hid (By w.heap.size wx v12 l ∧ By w.heap.size wx v13 l ∧ Pg w wx p q m x d r rd (.slice vq j vc) j xs ts L' L' ks' ks'))
            case first =>
              have HLL : Hid (L.length < 900000) := by show _ < _; omega
              have HCE : Hid (∀ W', Kx TA w.heap.size WA W' → W'.cell? ⟨pe, 0, none⟩ = some (.int .i64 k0) ∧ W'.cell? ⟨pe, 1, none⟩ = some (.int .i64 n0) ∧ W'.cell? ⟨pe, 2, none⟩ = some (.int .i64 m0) ∧ W'.cell? ⟨pe, 4, none⟩ = some (.slice q4b l4b c4b)) := fun W' hk => by
                obtain ⟨g0, g1, g2, _, g4, _⟩ := (GA.out.2.kx hk (by decide) (by decide)).cells
                exact ⟨g0, g1, g2, g4⟩
              by_cases h1 : k0 = 1
              · subst h1
                as_aux_lemma =>
                  have hby := HSC.out WA GA.out.1.bel
                  by_cases hw : 1 ≤ n0 ∧ n0 ≤ 16
                  · have hb : b3 = true := by rw [← HB3.out]; exact decide_eq_true hw
                    subst hb
                    obtain ⟨nn, HNN⟩ : ∃ nn : Nat, Hid (n0 = (nn : Int)) := ⟨n0.toNat, by show _ = _; omega⟩
                    have HNN' := HNN.out
                    subst HNN'
                    obtain ⟨c1, c2⟩ := pMember GA.out.1 HLL.out hby nn (by omega)
                    clear HB3 HNN hw
                    have HX : Hid True := trivial
                    have C1 : Hid _ := Hid.mk'' c1
                    clear c1 hby
                    go_wp2_with fail
                    refine C1.out.mono ?_
                    rintro z W1 ⟨u, rfl, k1, k2, k3⟩
                    obtain ⟨f0, f1, f2, f4⟩ := HCE.out W1 k3
                    have C2 : Hid _ := Hid.mk'' (c2 W1 k2 (HSC.out W1 k2.bel))
                    have G1 : Hid _ := Hid.mk'' k1
                    clear k1 k2 k3 C1 c2
                    go_wp2_with fail
                    refine C2.out.mono ?_
                    rintro z W2 ⟨u2, rfl, k1, k2, k3⟩
                    have GZ : Hid _ := Hid.mk'' (And.intro (G1.out.kx k3 (by decide)) (And.intro k1 k2))
                    clear k1 k2 k3 G1 C2 GA
                    go_wp2_with fail
                    go_meet
                    exact ⟨mk L sl memB nn, 0, adk L sl memB nn, ks, rfl, rfl, by have := adk_length L sl memB nn; omega, by rw [mk_length]; decide, GZ⟩
                  · have hb : b3 = false := by rw [← HB3.out]; exact decide_eq_false hw
                    subst hb
                    have HW : Hid (¬ (1 ≤ n0 ∧ n0 ≤ 16)) := hw
                    clear HB3 hw hby
                    go_wp2_with fail
                    refine (Member_no WA _ _ n0 HW.out).mono ?_
                    rintro z W1 ⟨rfl, hW⟩
                    obtain rfl : WA = W1 := hW.symm
                    clear hW
                    go_wp2_with fail
                    go_meet
                    exact ⟨[], 12, L, ks, rfl, rfl, by omega, by simp, ⟨By.nil _ _, By.nil _ _, GA.out.1⟩⟩
              by_cases h2 : k0 = 2
              · subst h2
                as_aux_lemma =>
                  have hby := HSC.out WA GA.out.1.bel
                  by_cases hw : 1 ≤ n0 ∧ n0 ≤ 16
                  · have hb : b3 = true := by rw [← HB3.out]; exact decide_eq_true hw
                    subst hb
                    obtain ⟨nn, HNN⟩ : ∃ nn : Nat, Hid (n0 = (nn : Int)) := ⟨n0.toNat, by show _ = _; omega⟩
                    have HNN' := HNN.out
                    subst HNN'
                    obtain ⟨c1, c2⟩ := pWriter GA.out.1 HLL.out hby nn (by omega)
                    clear HB3 HNN hw
                    have HX : Hid True := trivial
                    have C1 : Hid _ := Hid.mk'' c1
                    clear c1 hby
                    go_wp2_with fail
                    refine C1.out.mono ?_
                    rintro z W1 ⟨u, rfl, k1, k2, k3⟩
                    obtain ⟨f0, f1, f2, f4⟩ := HCE.out W1 k3
                    have C2 : Hid _ := Hid.mk'' (c2 W1 k2 (HSC.out W1 k2.bel))
                    have G1 : Hid _ := Hid.mk'' k1
                    clear k1 k2 k3 C1 c2
                    go_wp2_with fail
                    refine C2.out.mono ?_
                    rintro z W2 ⟨u2, rfl, k1, k2, k3⟩
                    have GZ : Hid _ := Hid.mk'' (And.intro (G1.out.kx k3 (by decide)) (And.intro k1 k2))
                    clear k1 k2 k3 G1 C2 GA
                    go_wp2_with fail
                    go_meet
                    exact ⟨mk L sl wriB nn, 0, adk L sl wriB nn, ks, rfl, rfl, by have := adk_length L sl wriB nn; omega, by rw [mk_length]; decide, GZ⟩
                  · have hb : b3 = false := by rw [← HB3.out]; exact decide_eq_false hw
                    subst hb
                    have HW : Hid (¬ (1 ≤ n0 ∧ n0 ≤ 16)) := hw
                    clear HB3 hw hby
                    go_wp2_with fail
                    refine (Writer_no WA _ _ n0 HW.out).mono ?_
                    rintro z W1 ⟨rfl, hW⟩
                    obtain rfl : WA = W1 := hW.symm
                    clear hW
                    go_wp2_with fail
                    go_meet
                    exact ⟨[], 12, L, ks, rfl, rfl, by omega, by simp, ⟨By.nil _ _, By.nil _ _, GA.out.1⟩⟩
              by_cases h3 : k0 = 3
              · subst h3
                as_aux_lemma =>
                  have hby := HSC.out WA GA.out.1.bel
                  obtain ⟨l, er, L', hl, hL', c1, c2⟩ := pWrap GA.out.1 HLL.out hby n0 m0 GA.out.2.data
                  clear HB3
                  have HX : Hid True := trivial
                  have C1 : Hid _ := Hid.mk'' c1
                  clear c1 hby
                  go_wp2_with fail
                  refine C1.out.mono ?_
                  rintro z W1 ⟨u, rfl, k1, k2, k3⟩
                  obtain ⟨f0, f1, f2, f4⟩ := HCE.out W1 k3
                  have C2 : Hid _ := Hid.mk'' (c2 W1 k2 (HSC.out W1 k2.bel) (GA.out.2.data.kx k3 (by decide)))
                  have G1 : Hid _ := Hid.mk'' k1
                  clear k1 k2 k3 C1 c2
                  go_wp2_with fail
                  refine C2.out.mono ?_
                  rintro z W2 ⟨u2, rfl, k1, k2, k3⟩
                  have GZ : Hid _ := Hid.mk'' (And.intro (G1.out.kx k3 (by decide)) (And.intro k1 k2))
                  clear k1 k2 k3 G1 C2 GA
                  go_wp2_with fail
                  go_meet
                  exact ⟨l, er, L', ks, rfl, rfl, by omega, hl, GZ⟩
              by_cases h4 : k0 = 4
              · subst h4
                as_aux_lemma =>
                  have hby := HSC.out WA GA.out.1.bel
                  obtain ⟨l, er, L', hl, hL', c1, c2⟩ := pUnwrap GA.out.1 HLL.out hby n0 m0 GA.out.2.data GA.out.2.ld
                  clear HB3
                  have HX : Hid True := trivial
                  have C1 : Hid _ := Hid.mk'' c1
                  clear c1 hby
                  go_wp2_with fail
                  refine C1.out.mono ?_
                  rintro z W1 ⟨u, rfl, k1, k2, k3⟩
                  obtain ⟨f0, f1, f2, f4⟩ := HCE.out W1 k3
                  have C2 : Hid _ := Hid.mk'' (c2 W1 k2 (HSC.out W1 k2.bel) (GA.out.2.data.kx k3 (by decide)))
                  have G1 : Hid _ := Hid.mk'' k1
                  clear k1 k2 k3 C1 c2
                  go_wp2_with fail
                  refine C2.out.mono ?_
                  rintro z W2 ⟨u2, rfl, k1, k2, k3⟩
                  have GZ : Hid _ := Hid.mk'' (And.intro (G1.out.kx k3 (by decide)) (And.intro k1 k2))
                  clear k1 k2 k3 G1 C2 GA
                  go_wp2_with fail
                  go_meet
                  exact ⟨l, er, L', ks, rfl, rfl, by omega, hl, GZ⟩
              by_cases h5 : k0 = 5
              · subst h5
                as_aux_lemma =>
                  obtain ⟨er, ks', c1, c2⟩ := pLearn GA.out.1 n0 GA.out.2.data
                  clear HB3
                  have C1 : Hid _ := Hid.mk'' c1
                  clear c1
                  go_wp2_with fail
                  refine C1.out.mono ?_
                  rintro z W1 ⟨rfl, k2, k3⟩
                  obtain ⟨f0, f1, f2, f4⟩ := HCE.out W1 k3
                  have C2 : Hid _ := Hid.mk'' (c2 W1 k2 (GA.out.2.data.kx k3 (by decide)))
                  clear k2 k3 C1 c2
                  go_wp2_with fail
                  refine C2.out.mono ?_
                  rintro z W2 ⟨rfl, k2, k3⟩
                  have GZ : Hid _ := Hid.mk'' k2
                  clear k2 k3 C2 GA
                  go_wp2_with fail
                  go_meet
                  exact ⟨[], er, L, ks', rfl, rfl, by omega, by simp, ⟨By.nil _ _, By.nil _ _, GZ.out⟩⟩
              by_cases h6 : k0 = 6
              · subst h6
                as_aux_lemma =>
                  clear HB3
                  obtain ⟨y1, hr1⟩ := GA.out.1.rg
                  obtain ⟨y2, hr2⟩ := GA.out.1.rr
                  by_cases hr : 0 ≤ n0 ∧ n0 ≤ 16
                  · obtain ⟨nn, HNN⟩ : ∃ nn : Nat, Hid (n0 = (nn : Int)) := ⟨n0.toNat, by show _ = _; omega⟩
                    have HNN' := HNN.out
                    subst HNN'
                    have i0 : (0 : Int) ≤ (nn : Int) := by omega
                    have i16 : (nn : Int) ≤ 16 := by omega
                    have i17 : (nn : Int) < 17 := by omega
                    cases hkn : ks nn with
                    | none =>
                      have C1 : Hid _ := Hid.mk'' (Key_out WA r nn (has_no hr1 nn (by omega) hkn))
                      have hcd : WA.cell? ⟨rd, nn, none⟩ = some (.slice none 0 0) := (hr2.cell nn).trans (hr2.no nn (by omega) hkn)
                      clear hr1 hr2 hkn hr HNN
                      go_wp2_with fail
                      refine C1.out.mono ?_
                      rintro z W1 ⟨rfl, hW⟩
                      obtain rfl : WA = W1 := hW.symm
                      clear hW C1
                      go_upto_region 43 with fail
                      go_quiet (fail)
                      go_wp2_with fail
                      go_meet
                      exact ⟨[], 0, L, ks, rfl, rfl, by omega, by simp, ⟨By.nil _ _, By.nil _ _, GA.out.1.below (below_drewN _ _ _)⟩⟩
                    | some l =>
                      obtain ⟨h32, ad, cc, hx, hby2⟩ := hr2.yes nn l (by omega) hkn
                      have C1 : Hid _ := Hid.mk'' (Key_yes hr1 nn (by omega) hkn)
                      have HCD : Hid (∀ W', Below WA.heap.size WA W' → W'.cell? ⟨rd, nn, none⟩ = some (.slice (some ad) 32 cc) ∧ By w.heap.size W' (.slice (some ad) 32 cc) l) := fun W' hb => ⟨((hr2.below hb).cell nn).trans hx, hby2.below hb⟩
                      have HSM : Hid ((∀ y ∈ l, y < 256) ∧ l.length ≤ 100) := ⟨hby2.src.small, by omega⟩
                      clear hr1 hr2 hkn hr HNN hx hby2 h32
                      go_wp2_with fail
                      refine C1.out.mono ?_
                      rintro z W1 ⟨u, rfl, ho, hb⟩
                      have hcd := (HCD.out W1 hb).1
                      obtain ⟨f0, f1, f2, f4⟩ := HCE.out W1 (Kx.of_below hb GA.out.1.size)
                      have G1 : Hid _ := Hid.mk'' (And.intro (By.own (B := w.heap.size) HSM.out.1 ho) (And.intro (HCD.out W1 hb).2 (GA.out.1.below hb)))
                      clear ho hb C1 HCD
                      go_upto_region 43 with fail
                      go_quiet (fail)
                      go_wp2_with fail
                      go_meet
                      exact ⟨l, 0, L, ks, rfl, rfl, by omega, HSM.out.2, ⟨G1.out.1.below (below_drewN _ _ _), G1.out.2.1.below (below_drewN _ _ _), G1.out.2.2.below (below_drewN _ _ _)⟩⟩
                  · have C1 : Hid _ := Hid.mk'' (Key_out WA r n0 (has_out WA _ n0 (by omega)))
                    clear hr1 hr2
                    by_cases i0 : 0 ≤ n0
                    · have i16 : ¬ n0 ≤ 16 := fun e => hr ⟨i0, e⟩
                      clear hr
                      go_wp2_with fail
                      refine C1.out.mono ?_
                      rintro z W1 ⟨rfl, hW⟩
                      obtain rfl : WA = W1 := hW.symm
                      clear hW C1
                      go_wp2_with fail
                      go_meet
                      exact ⟨[], 0, L, ks, rfl, rfl, by omega, by simp, ⟨By.nil _ _, By.nil _ _, GA.out.1⟩⟩
                    · clear hr
                      go_wp2_with fail
                      refine C1.out.mono ?_
                      rintro z W1 ⟨rfl, hW⟩
                      obtain rfl : WA = W1 := hW.symm
                      clear hW C1
                      go_wp2_with fail
                      go_meet
                      exact ⟨[], 0, L, ks, rfl, rfl, by omega, by simp, ⟨By.nil _ _, By.nil _ _, GA.out.1⟩⟩
              by_cases h7 : k0 = 7
              · subst h7
                as_aux_lemma =>
                  clear HB3
                  by_cases hr : 0 ≤ n0 ∧ n0 ≤ 4294967295 ∧ 0 ≤ m0 ∧ m0 ≤ 1099511627776
                  · obtain ⟨nn, HNN⟩ : ∃ nn : Nat, Hid (n0 = (nn : Int)) := ⟨n0.toNat, by show _ = _; omega⟩
                    obtain ⟨mm, HMM⟩ : ∃ mm : Nat, Hid (m0 = (mm : Int)) := ⟨m0.toNat, by show _ = _; omega⟩
                    have HNN' := HNN.out
                    have HMM' := HMM.out
                    subst HNN' HMM'
                    obtain ⟨i0, i1, i2, i3⟩ := hr
                    have C1 : Hid _ := Hid.mk'' (Nonce_ok WA nn mm (by omega) (by omega))
                    have C2 : Hid _ := Hid.mk'' (fun W => rNonce_any W nn mm (by omega) (by omega))
                    clear HNN HMM
                    go_wp2_with fail
                    refine C1.out.mono ?_
                    rintro z W1 ⟨u, rfl, ho, hb⟩
                    obtain ⟨f0, f1, f2, f4⟩ := HCE.out W1 (Kx.of_below hb GA.out.1.size)
                    have G1 : Hid _ := Hid.mk'' (And.intro (By.own (B := w.heap.size) (non_small nn mm) ho) (GA.out.1.below hb))
                    clear ho hb C1
                    go_wp2_with fail
                    refine (C2.out W1).mono ?_
                    rintro z W2 ⟨u2, rfl, ho, hb⟩
                    have GZ : Hid _ := Hid.mk'' (And.intro (G1.out.1.below hb) (And.intro (By.own (B := w.heap.size) (non_small nn mm) ho) (G1.out.2.below hb)))
                    clear ho hb C2 G1
                    go_wp2_with fail
                    go_meet
                    exact ⟨non nn mm, 0, L, ks, rfl, rfl, by omega, by rw [non_length]; decide, GZ⟩
                  · have C1 : Hid _ := Hid.mk'' (Nonce_bad WA n0 m0 hr)
                    by_cases i0 : 0 ≤ n0
                    · by_cases i1 : n0 ≤ 4294967295
                      · by_cases i2 : 0 ≤ m0
                        · have i3 : ¬ m0 ≤ 1099511627776 := fun e => hr ⟨i0, i1, i2, e⟩
                          clear hr
                          go_wp2_with fail
                          refine C1.out.mono ?_
                          rintro z W1 ⟨rfl, hb⟩
                          obtain ⟨f0, f1, f2, f4⟩ := HCE.out W1 (Kx.of_below hb GA.out.1.size)
                          have G1 : Hid _ := Hid.mk'' (GA.out.1.below hb)
                          clear hb C1
                          go_wp2_with fail
                          go_meet
                          exact ⟨[], 12, L, ks, rfl, rfl, by omega, by simp, ⟨By.nil _ _, By.nil _ _, G1.out⟩⟩
                        · clear hr
                          go_wp2_with fail
                          refine C1.out.mono ?_
                          rintro z W1 ⟨rfl, hb⟩
                          obtain ⟨f0, f1, f2, f4⟩ := HCE.out W1 (Kx.of_below hb GA.out.1.size)
                          have G1 : Hid _ := Hid.mk'' (GA.out.1.below hb)
                          clear hb C1
                          go_wp2_with fail
                          go_meet
                          exact ⟨[], 12, L, ks, rfl, rfl, by omega, by simp, ⟨By.nil _ _, By.nil _ _, G1.out⟩⟩
                      · clear hr
                        go_wp2_with fail
                        refine C1.out.mono ?_
                        rintro z W1 ⟨rfl, hb⟩
                        obtain ⟨f0, f1, f2, f4⟩ := HCE.out W1 (Kx.of_below hb GA.out.1.size)
                        have G1 : Hid _ := Hid.mk'' (GA.out.1.below hb)
                        clear hb C1
                        go_wp2_with fail
                        go_meet
                        exact ⟨[], 12, L, ks, rfl, rfl, by omega, by simp, ⟨By.nil _ _, By.nil _ _, G1.out⟩⟩
                    · clear hr
                      go_wp2_with fail
                      refine C1.out.mono ?_
                      rintro z W1 ⟨rfl, hb⟩
                      obtain ⟨f0, f1, f2, f4⟩ := HCE.out W1 (Kx.of_below hb GA.out.1.size)
                      have G1 : Hid _ := Hid.mk'' (GA.out.1.below hb)
                      clear hb C1
                      go_wp2_with fail
                      go_meet
                      exact ⟨[], 12, L, ks, rfl, rfl, by omega, by simp, ⟨By.nil _ _, By.nil _ _, G1.out⟩⟩
              have g1 : (k0 == 1) = false := by simpa using h1
              have g2 : (k0 == 2) = false := by simpa using h2
              have g3 : (k0 == 3) = false := by simpa using h3
              have g4 : (k0 == 4) = false := by simpa using h4
              have g5 : (k0 == 5) = false := by simpa using h5
              have g6 : (k0 == 6) = false := by simpa using h6
              have g7 : (k0 == 7) = false := by simpa using h7
              go_wp2_with fail
              go_meet
              exact ⟨[], 0, L, ks, rfl, rfl, by omega, by simp, ⟨By.nil _ _, By.nil _ _, GA.out.1⟩⟩
            case rest =>
              as_aux_lemma =>
                obtain ⟨l, er, L', ks', rfl, rfl, hL', hl, HC⟩ := hcut
                clear GA e0 e1 e2 e3 e4 ez HL4b HB3
                obtain ⟨aq, ac, rfl, -⟩ := HC.out.1.src.slice
                obtain ⟨bq, bc, rfl, -⟩ := HC.out.2.1.src.slice
                obtain ⟨dv, dcs, hdoc⟩ := HC.out.2.2.doc
                obtain ⟨dq, dc, rfl⟩ := own_slice hdoc.row
                obtain ⟨y1, hr1⟩ := HC.out.2.2.rg
                obtain ⟨y2, hr2⟩ := HC.out.2.2.rr
                have HN1 : Hid (∀ n, Calls Tryz.prog 20 #[.pointer (some ⟨r, 0, none⟩)] (wc.drewN n) fun e w' => e = .returned (.int .i64 (nw ks' 17 : Int)) ∧ w' = wc.drewN n) := fun n => Newest_any (hr1.below (below_drewN n _ _))
                have HN2 : Hid (∀ n, Calls Tryz.prog 21 #[.pointer (some ⟨rd, 0, none⟩)] (wc.drewN n) fun e w' => e = .returned (.int .i64 (nw ks' 17 : Int)) ∧ w' = wc.drewN n) := fun n => rNewest_any (hr2.below (below_drewN n _ _))
                have HCN : Hid (∀ n, Calls Tryz.prog 22 #[.pointer (some ⟨p, 0, none⟩)] (wc.drewN n) fun e w' => e = .returned (.int .i64 (L'.length : Int)) ∧ w' = wc.drewN n) := fun n => count_any p L'.length _ _ _ (HC.out.2.2.su.below (below_drewN n _ _)).su.box
                have hcA : ∀ n, (convert 22 9 (.slice aq l.length ac)).run Tryz.prog (wc.drewN n) = .ok (.string (strB l)) (wc.drewN n) := fun n => conv_src (HC.out.1.src.below (below_drewN n _ _))
                have hcB : ∀ n, (convert 22 9 (.slice bq l.length bc)).run Tryz.prog (wc.drewN n) = .ok (.string (strB l)) (wc.drewN n) := fun n => conv_src (HC.out.2.1.src.below (below_drewN n _ _))
                have hdd : wc.cell? ⟨d, 0, none⟩ = some (.slice dq L'.length dc) := by
                  rw [cell_of_row _ _ _ _ _ _ hdoc.box]
                  rfl
                clear hdoc hr1 hr2
                obtain ⟨ll, HLE⟩ : ∃ ll, Hid (l.length = ll) := ⟨_, rfl⟩
                obtain ⟨ln, HLN⟩ : ∃ ln, Hid (L'.length = ln) := ⟨_, rfl⟩
                rw [HLE.out] at hcA hcB HC
                rw [HLN.out] at HCN hdd
                rw [HLE.out]
                generalize nw ks' 17 = nn at *
                go_upto_region 51 with fail
                go_quiet ((first | (go_at_call 20; exact Calls.quiet_of_same (HN1.out _)) | (go_at_call 21; exact Calls.quiet_of_same (HN2.out _)) | (go_at_call 22; exact Calls.quiet_of_same (HCN.out _))))
                go_wp2_with (first | with_reducible (refine stop_builtin .append ?_))
                refine Stop.go ?_
                have GF := fun n => (HC.out.2.2.below (below_drewN n wc _)).below (below_alloc' (wc.drewN n) (.cells #[.slice bq ll bc] 22))
                have GU := fun n => (HC.out.2.1.below (below_drewN n wc _)).below (below_alloc' (wc.drewN n) (.cells #[.slice bq ll bc] 22))
                refine law_append_told w.heap.size (.slice vq j vc) j xs _ (.slice bq ll bc) rfl rfl (GF _).row (cell_part _ _) rfl (by omega) (GF _).size ?_
                intro v' wN ho2 hg2
                have GNX : Hid (Pg w wN p q m x d r rd v' (j + 1) (xs ++ [.slice bq ll bc]) (ts ++ [l]) L' L' ks' ks') := (GF _).push ho2 hg2 (GU _) hl
                obtain ⟨nq1, nc1, rfl⟩ := own_slice ho2
                clear GF GU HC ho2 hg2 hcA hcB hdd HCN HN1 HN2
                go_wp2_with fail
                refine ⟨⟨j + 1, _, _, L', ks', by omega, by omega, by simp, GNX⟩, ?_⟩
                simp only [intOf]
                omega
    · obtain rfl : j = n := by omega
      have j1 : ¬ (j : Int) < (j : Int) := by omega
      have HBW : Hid (Below w.heap.size w wr) := GJ.out.bel
      go_wp2_with fail
      go_ret
      exact ⟨rfl, HBW.out⟩
end Go.Proofs.YtagdlpodpokmmaaGreatDoor.S7
