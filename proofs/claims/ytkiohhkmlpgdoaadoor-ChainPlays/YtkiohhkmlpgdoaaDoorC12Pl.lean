/- ChainPlays: the walk. -/
import Derived.Test.YtkiohhkmlpgdoaaDoorC12PlV
import Derived.Test.YtkiohhkmlpgdoaaDoorC12Small
namespace Go.Proofs.YtkiohhkmlpgdoaaDoor.S7
open Go.RowKit Rg
/-- Both ways to hold a head against a chain tell the same. -/
theorem ck_both {B : Nat} {w : World} {p q m x c d dc : Nat} {L : List Su.Thing} {ls ss : List (List Nat)} {n : Nat} (h : Pr2 B w p q m x c d dc L ls ss L ls ss) (hc : Chn L n ls ss) (ix : Int) (sq : Option Addr) (sn sc : Nat) (k : List Nat) (hs : Src w (.slice sq sn sc) k) :
    ∃ rr : Int, (∀ w', Below w.heap.size w w' → Calls Tryd.prog 18 #[.pointer (some ⟨c, 0, none⟩), .agg #[.int .i64 ix, .slice sq sn sc]] w' fun e w'' => e = .returned (.int .i64 rr) ∧ Below w'.heap.size w' w'') ∧ ∀ w', Below w.heap.size w w' → Calls Tryd.prog 19 #[.pointer (some ⟨dc, 0, none⟩), .int .i64 ix, .slice sq sn sc] w' fun e w'' => e = .returned (.int .i64 rr) ∧ Below w'.heap.size w' w'' := by
  have hln := hc.len
  by_cases h0 : ix < 0
  · refine ⟨12, fun w' hb => ?_, fun w' hb => ?_⟩
    · obtain ⟨lv, sv, h1⟩ := (h.below hb).one.ch
      have := Check_out h1 ix sq sn sc (.inl h0)
      rwa [if_pos h0] at this
    · obtain ⟨lv, sv, h1⟩ := (h.below hb).dcc
      exact (rCheck_low h1 ix h0 _).mono (by rintro e u ⟨rfl, rfl⟩; exact ⟨rfl, Below.refl _ _⟩)
  · by_cases h1 : (ls.length : Int) < ix
    · refine ⟨14, fun w' hb => ?_, fun w' hb => ?_⟩
      · obtain ⟨lv, sv, h2⟩ := (h.below hb).one.ch
        have := Check_out h2 ix sq sn sc (.inr h1)
        rwa [if_neg h0] at this
      · obtain ⟨lv, sv, h2⟩ := (h.below hb).dcc
        exact (rCheck_out h2 ix (by omega) _).mono (by rintro e u ⟨rfl, rfl⟩; exact ⟨rfl, Below.refl _ _⟩)
    · obtain ⟨j, rfl⟩ : ∃ j : Nat, ix = (j : Int) := ⟨ix.toNat, by omega⟩
      have hj : j < ss.length := by omega
      have hl : ss[j]? = some ss[j] := List.getElem?_eq_getElem hj
      refine ⟨if k = ss[j] then 0 else 24, fun w' hb => ?_, fun w' hb => ?_⟩
      · obtain ⟨lv, sv, h2⟩ := (h.below hb).one.ch
        exact Check_at h2 j _ k _ (by omega) hl (hs.below hb)
      · obtain ⟨lv, sv, h2⟩ := (h.below hb).dcc
        refine rCheck_at h2 j _ hl _ k (hs.below hb) _ ?_
        by_cases e : ss[j] = k
        · rw [if_pos e, if_pos e.symm]
        · rw [if_neg e, if_neg (fun e' => e e'.symm)]
theorem dcc_cells {B : Nat} {w : World} {dc : Nat} {lv sv : Value} {ls ss : List (List Nat)} (h : DcC B w dc lv sv ls ss) : ∃ lq lc zq zc, ∀ w', Below w.heap.size w w' → w'.cell? ⟨dc, 0, none⟩ = some (.slice lq ls.length lc) ∧ w'.cell? ⟨dc, 1, none⟩ = some (.slice zq ss.length zc) := by
  obtain ⟨xs, hx⟩ := h.links
  obtain ⟨ys, hy⟩ := h.sums
  obtain ⟨lq, lc, hl⟩ := hx.slice
  obtain ⟨zq, zc, hz⟩ := hy.slice
  refine ⟨lq, lc, zq, zc, fun w' hb => ?_⟩
  obtain ⟨d0, d1, _⟩ := (h.below hb).cells
  rw [hl] at d0
  rw [hz] at d1
  exact ⟨d0, d1⟩
/-- The row of sums, at a place. -/
theorem dcc_sum {B : Nat} {w : World} {dc : Nat} {lv sv : Value} {ls ss : List (List Nat)} (h : DcC B w dc lv sv ls ss) {j : Nat} {l : List Nat} (hl : ss[j]? = some l) : ∃ lq lc sgb zc q2 c2, ∀ w', Below w.heap.size w w' → w'.cell? ⟨dc, 0, none⟩ = some (.slice lq ls.length lc) ∧ w'.cell? ⟨dc, 1, none⟩ = some (.slice (some ⟨sgb, 0, none⟩) ss.length zc) ∧ w'.cell? ⟨sgb, 0 + j, none⟩ = some (.slice q2 l.length c2) ∧ Src w' (.slice q2 l.length c2) l := by
  obtain ⟨xs, hx⟩ := h.links
  obtain ⟨ys, hy⟩ := h.sums
  obtain ⟨lq, lc, hlv⟩ := hx.slice
  have hj := get_lt hl
  obtain ⟨g, cc, x, hsv, -, hc, hbx⟩ := hy.at hj
  obtain rfl : ss[j] = l := by rw [List.getElem?_eq_getElem hj] at hl; exact Option.some.inj hl
  obtain ⟨q2, c2, rfl, -⟩ := hbx.src.slice
  refine ⟨lq, lc, g, cc, q2, c2, fun w' hb => ?_⟩
  obtain ⟨d0, d1, _⟩ := (h.below hb).cells
  rw [hlv] at d0
  rw [hsv] at d1
  refine ⟨d0, d1, ?_, hbx.src.below hb⟩
  rw [Nat.zero_add]
  exact (hb.cell (p := ⟨g, j, none⟩) (World.block_lt_of_cell? w _ hc)).trans hc
/-- The rows of links and of sums, at a place. -/
theorem dcc_link {B : Nat} {w : World} {dc : Nat} {lv sv : Value} {ls ss : List (List Nat)} (h : DcC B w dc lv sv ls ss) {j : Nat} {l b : List Nat} (hl : ss[j]? = some l) (hb0 : ls[j]? = some b) : ∃ lgb lc sgb zc q2 c2 q3 c3, ∀ w', Below w.heap.size w w' → w'.cell? ⟨dc, 0, none⟩ = some (.slice (some ⟨lgb, 0, none⟩) ls.length lc) ∧ w'.cell? ⟨dc, 1, none⟩ = some (.slice (some ⟨sgb, 0, none⟩) ss.length zc) ∧ w'.cell? ⟨sgb, 0 + j, none⟩ = some (.slice q2 l.length c2) ∧ Src w' (.slice q2 l.length c2) l ∧ w'.cell? ⟨lgb, 0 + j, none⟩ = some (.slice q3 b.length c3) ∧ Src w' (.slice q3 b.length c3) b := by
  obtain ⟨xs, hx⟩ := h.links
  obtain ⟨ys, hy⟩ := h.sums
  have hj := get_lt hl
  have hj' := get_lt hb0
  obtain ⟨g, cc, x, hsv, -, hc, hbx⟩ := hy.at hj
  obtain ⟨g', cc', x', hlv, -, hc', hbx'⟩ := hx.at hj'
  obtain rfl : ss[j] = l := by rw [List.getElem?_eq_getElem hj] at hl; exact Option.some.inj hl
  obtain rfl : ls[j] = b := by rw [List.getElem?_eq_getElem hj'] at hb0; exact Option.some.inj hb0
  obtain ⟨q2, c2, rfl, -⟩ := hbx.src.slice
  obtain ⟨q3, c3, rfl, -⟩ := hbx'.src.slice
  refine ⟨g', cc', g, cc, q2, c2, q3, c3, fun w' hb => ?_⟩
  obtain ⟨d0, d1, _⟩ := (h.below hb).cells
  rw [hlv] at d0
  rw [hsv] at d1
  refine ⟨d0, d1, ?_, hbx.src.below hb, ?_, hbx'.src.below hb⟩
  · rw [Nat.zero_add]
    exact (hb.cell (p := ⟨g, j, none⟩) (World.block_lt_of_cell? w _ hc)).trans hc
  · rw [Nat.zero_add]
    exact (hb.cell (p := ⟨g', j, none⟩) (World.block_lt_of_cell? w _ hc')).trans hc'
set_option maxHeartbeats 32000000 in
set_option maxRecDepth 20000 in
theorem pl_main (w : World) (n : Nat) (a1 : Option Addr) (n1 c1 : Nat) (al : List (List Nat)) (ix : Int) (sq : Option Addr) (sn sc : Nat) (sl : List Nat) (h1 : RowsIs w a1 al) (hn1 : al.length = n1) (hs1 : sml al = true) (hsl : Src w (.slice sq sn sc) sl) (hsn : sn ≤ 100) (hn : 1 ≤ n ∧ n ≤ 1099511627776) :
    Calls Tryd.prog 3 #[.int .i64 (n : Int), .slice a1 n1 c1, .int .i64 ix, .slice sq sn sc] w fun e w' => e = .returned (.bool true) ∧ Below w.heap.size w w' := by
  obtain ⟨B, hBe⟩ : ∃ B, B = w.heap.size := ⟨_, rfl⟩
  have HBE : Hid (B = w.heap.size) := hBe
  rw [← hBe]
  clear hBe
  have H1 : Hid (RowsIs w a1 al) := h1
  have HN1 : Hid (al.length = n1) := hn1
  have HS1 : Hid (sml al = true) := hs1
  have HSML1 : Hid ((∀ y ∈ al, y.length ≤ 300) ∧ al.length ≤ 70) := by
    show _ ∧ _
    unfold sml at hs1
    exact ⟨of_decide_eq_true (Bool.and_eq_true_iff.1 hs1).1, of_decide_eq_true (Bool.and_eq_true_iff.1 hs1).2⟩
  have HSL : Hid (∀ w', Below B w w' → Src w' (.slice sq sn sc) sl) := fun w' hb => hsl.below (by rw [← HBE.out]; exact hb)
  have HNN : Hid (1 ≤ n ∧ n ≤ 1099511627776) := hn
  have hn70 : n1 ≤ 70 := by rw [← hn1]; exact HSML1.out.2
  have q0 : ¬ (100 : Int) < (sn : Int) := by omega
  have q1 : ¬ (n : Int) < 1 := by omega
  have q2 : ¬ (1099511627776 : Int) < (n : Int) := by omega
  have z0 : (0 : Int) ≤ (n1 : Int) := by omega
  have z1 : (n1 : Int) ≤ 70 := by omega
  clear h1 hn1 hs1 hsl hsn hn
  go_enter Tryd.func3, Tryd.ntmps3
  go_wp2_with fail
  refine (anchor_any w).mono ?_
  rintro e w1 ⟨rfl, hb1⟩
  have HB1 : Hid (Below w.heap.size w w1) := hb1
  clear hb1
  go_wp2_with fail
  refine (small_any w w1 a1 n1 c1 al H1.out HB1.out HN1.out (by omega) (s := true) HS1.out).mono ?_
  rintro e w9 ⟨rfl, hw9⟩
  obtain rfl : w1 = w9 := hw9.symm
  clear hw9
  go_wp2_with fail
  have G1 : Hid (Below B w w1 ∧ B ≤ w1.heap.size) := ⟨by rw [HBE.out]; exact HB1.out, by rw [HBE.out]; exact HB1.out.size⟩
  clear HB1 HS1
  refine (Signs_new w1).mono ?_
  rintro e w2 ⟨p, q, m, x, rfl, hs, hb⟩
  have G2 : Hid (Sw B w2 p q m x [] ∧ Below B w w2 ∧ B ≤ w2.heap.size) := ⟨⟨hs.su, by have := hs.lo; have := G1.out.2; omega⟩, G1.out.1.trans (hb.mono G1.out.2), Nat.le_trans G1.out.2 hb.size⟩
  clear hs hb G1
  go_wp2_with fail
  have hba := below_alloc' w2 (.cells #[.slice none 0 0] 31)
  have G3 : Hid (Sw B (w2.alloc (.cells #[.slice none 0 0] 31)) p q m x [] ∧ Doc B (w2.alloc (.cells #[.slice none 0 0] 31)) w2.heap.size [] ∧ Below B w (w2.alloc (.cells #[.slice none 0 0] 31)) ∧ B ≤ (w2.alloc (.cells #[.slice none 0 0] 31)).heap.size) := ⟨G2.out.1.below hba, ⟨_, [], ⟨G2.out.2.2, heap_alloc_new w2 _, own_none _ _ _ _, rfl, fun i c u h => by simp at h⟩⟩, G2.out.2.1.trans (hba.mono G2.out.2.2), Nat.le_trans G2.out.2.2 hba.size⟩
  clear hba G2
  generalize w2.alloc (.cells #[.slice none 0 0] 31) = W2 at *
  generalize w2.heap.size = d at *
  refine (one_new (n := n) G3.out.1 (by simp) G3.out.2.2.2 HNN.out).mono ?_
  rintro e w3 ⟨c, rfl, ho, hk⟩
  have G4 : Hid (One B w3 p q m x c (ad [] (lock6 ++ first n)) [] [sg [] (lock6 ++ first n)] ∧ Doc B w3 d [] ∧ Below B w w3) := ⟨ho, G3.out.2.1.kx hk (by decide) (by decide) (by decide), G3.out.2.2.1.trans hk.low⟩
  clear ho hk G3
  go_wp2_with fail
  refine (pr_new G4.out.1 G4.out.2.1 (by simp) HNN.out.2).mono ?_
  rintro e w4 ⟨dc, rfl, hp, hl⟩
  have G5 : Hid (Pr2 B w4 p q m x c d dc (ad [] (lock6 ++ first n)) [] [sg [] (lock6 ++ first n)] (ad [] (lock6 ++ first n)) [] [sg [] (lock6 ++ first n)] ∧ Below B w w4) := ⟨hp, G4.out.2.2.trans hl⟩
  clear hp hl G4
  go_wp2_with fail
  go_loopw [63] (fun i wr => ∃ (j : Nat) (L : List Su.Thing) (ls ss : List (List Nat)), j ≤ n1 ∧ i = .int .i64 j ∧ Hid (Pr2 B wr p q m x c d dc L ls ss L ls ss ∧ Below B w wr) ∧ Hid (Chn L n ls ss ∧ ls.length ≤ j ∧ L.length ≤ j + 1 ∧ ∀ y ∈ ls, y.length ≤ 300)) (fun i _ => n1 - (intOf i).toNat)
  case atStart => exact ⟨0, _, _, _, by omega, rfl, G5, Chn.new [] n, Nat.le_refl _, ad_length [] _, fun y hy => by simp at hy⟩
  case round =>
    obtain ⟨j, L, ls, ss, hj, rfl, GJ, HC⟩ := hrel
    clear G5
    have j0 : (0 : Int) ≤ (j : Int) := by omega
    by_cases hlt : j < n1
    · have j1 : (j : Int) < (n1 : Int) := by omega
      have ja : j < al.length := by rw [HN1.out]; exact hlt
      obtain ⟨b, o, pp, cc, hq, hcl, hby⟩ := H1.out.at HBE.out GJ.out.2 ja
      subst hq
      have h3 := HSML1.out.1 _ (List.getElem_mem ja)
      generalize al[j] = y at *
      have HBY : Hid (By B wr (.slice pp y.length cc) y) := hby
      clear hby ja
      obtain ⟨l, hl⟩ := HC.out.1.last
      have hl32 := HC.out.1.size hl
      have hln := HC.out.1.len
      obtain ⟨yl, hyl⟩ : ∃ yl, y.length = yl := ⟨_, rfl⟩
      rw [hyl] at hcl HBY h3
      obtain ⟨lv, sv, hch⟩ := GJ.out.1.one.ch
      obtain ⟨lv', sv', hdc⟩ := GJ.out.1.dcc
      by_cases hy0 : yl < 1
      · have HA : Hid (Calls Tryd.prog 14 #[.pointer (some ⟨c, 0, none⟩), .slice pp yl cc] wr fun e w' => e = .returned (.int .i64 11) ∧ w' = wr) := Append_size B c p lv sv ls ss wr pp yl cc hch (.inl hy0)
        have HR : Hid (Calls Tryd.prog 15 #[.pointer (some ⟨dc, 0, none⟩), .pointer (some ⟨d, 0, none⟩), .slice pp yl cc] wr fun e w' => e = .returned (.int .i64 11) ∧ w' = wr) := rAppend_size wr _ _ pp yl cc (.inl hy0)
        clear hch hdc hy0 hl hl32 hln HBY hyl
        go_wp2_with fail
        refine HA.out.mono ?_
        rintro e w5 ⟨rfl, hw⟩
        obtain rfl : wr = w5 := hw.symm
        clear hw
        go_wp2_with fail
        refine HR.out.mono ?_
        rintro e w5 ⟨rfl, hw⟩
        obtain rfl : wr = w5 := hw.symm
        clear hw
        go_wp2_with fail
        refine ⟨⟨j + 1, L, ls, ss, by omega, by simp, GJ, HC.out.1, by have := HC.out.2.1; omega, by have := HC.out.2.2.1; omega, HC.out.2.2.2⟩, ?_⟩
        simp only [intOf]
        omega
      · by_cases h64 : 64 ≤ ls.length
        · have HA : Hid (Calls Tryd.prog 14 #[.pointer (some ⟨c, 0, none⟩), .slice pp yl cc] wr fun e w' => e = .returned (.int .i64 33) ∧ w' = wr) := Append_full B c p lv sv ls ss wr pp yl cc hch (by omega) h64
          have HR : Hid (Calls Tryd.prog 15 #[.pointer (some ⟨dc, 0, none⟩), .pointer (some ⟨d, 0, none⟩), .slice pp yl cc] wr fun e w' => e = .returned (.int .i64 33) ∧ w' = wr) := rAppend_full B dc _ lv' sv' ls ss wr pp yl cc hdc (by omega) h64
          clear hch hdc hy0 hl hl32 hln HBY hyl h64
          go_wp2_with fail
          refine HA.out.mono ?_
          rintro e w5 ⟨rfl, hw⟩
          obtain rfl : wr = w5 := hw.symm
          clear hw
          go_wp2_with fail
          refine HR.out.mono ?_
          rintro e w5 ⟨rfl, hw⟩
          obtain rfl : wr = w5 := hw.symm
          clear hw
          go_wp2_with fail
          refine ⟨⟨j + 1, L, ls, ss, by omega, by simp, GJ, HC.out.1, by have := HC.out.2.1; omega, by have := HC.out.2.2.1; omega, HC.out.2.2.2⟩, ?_⟩
          simp only [intOf]
          omega
        · have HLL : Hid (L.length < 1000000) := by have := HC.out.2.2.1; show _ < _; omega
          have HA := p_append GJ.out.1 HLL.out HBY.out (by omega) (by omega) hl (by omega) (by omega)
          have HF : Hid (ls.length < 64 ∧ ss[ls.length]? = some l ∧ l.length = 32 ∧ ss.length ≤ 1000 ∧ 1 ≤ yl ∧ yl ≤ 4096 ∧ y.length ≤ 300) := ⟨by omega, hl, hl32.1, by omega, by omega, by omega, by omega⟩
          clear hch hdc hy0 hl hl32 hln hyl h64
          go_wp2_with fail
          refine HA.mono ?_
          rintro e w5 ⟨rfl, hp5, hk5⟩
          have HR := d_append hp5 HLL.out (HBY.out.kx hk5 (by decide)) ⟨HF.out.2.2.2.2.1, HF.out.2.2.2.2.2.1⟩ HF.out.1 HF.out.2.1 HF.out.2.2.1 HF.out.2.2.2.1
          have HB5 : Hid (Below B w w5) := GJ.out.2.trans hk5.low
          clear HA hp5 hk5 GJ HBY
          go_wp2_with fail
          refine HR.mono ?_
          rintro e w6 ⟨rfl, hp6, hk6⟩
          have G6 : Hid (Pr2 B w6 p q m x c d dc (ad L (l ++ y)) (ls ++ [y]) (ss ++ [sg L (l ++ y)]) (ad L (l ++ y)) (ls ++ [y]) (ss ++ [sg L (l ++ y)]) ∧ Below B w w6) := ⟨hp6, HB5.out.trans hk6⟩
          have HC6 : Hid (Chn (ad L (l ++ y)) n (ls ++ [y]) (ss ++ [sg L (l ++ y)]) ∧ (ls ++ [y]).length ≤ j + 1 ∧ (ad L (l ++ y)).length ≤ j + 1 + 1 ∧ ∀ z ∈ ls ++ [y], z.length ≤ 300) := ⟨HC.out.1.push HF.out.2.1, by rw [List.length_append]; have := HC.out.2.1; show _ + 1 ≤ _; omega, by have := ad_length L (l ++ y); have := HC.out.2.2.1; omega, fun z hz => (List.mem_append.1 hz).elim (HC.out.2.2.2 z) (fun e => by rw [List.mem_singleton.1 e]; exact HF.out.2.2.2.2.2.2)⟩
          clear HR hp6 hk6 HB5 HF HC
          go_wp2_with fail
          refine ⟨⟨j + 1, _, _, _, by omega, by simp, G6, HC6⟩, ?_⟩
          simp only [intOf]
          omega
    · obtain rfl : j = n1 := by omega
      have j1 : ¬ (j : Int) < (j : Int) := by omega
      obtain ⟨l, hl⟩ := HC.out.1.last
      have hl32 := (HC.out.1.size hl).1
      have HLS : Hid (∀ y ∈ l, y < 256) := (HC.out.1.size hl).2
      obtain ⟨rr, hck, hrk⟩ := ck_both GJ.out.1 HC.out.1 ix sq sn sc sl (HSL.out wr GJ.out.2)
      obtain ⟨lv', sv', hdc⟩ := GJ.out.1.dcc
      obtain ⟨lq, lc, zq, zc, hdcc⟩ := dcc_cells hdc
      obtain ⟨nl, hnl⟩ : ∃ nl, ls.length = nl := ⟨_, rfl⟩
      rw [hnl] at hdcc hl
      have HCK : Hid (∀ w', Below wr.heap.size wr w' → Calls Tryd.prog 18 #[.pointer (some ⟨c, 0, none⟩), .agg #[.int .i64 ix, .slice sq sn sc]] w' fun e w'' => e = .returned (.int .i64 rr) ∧ Below w'.heap.size w' w'') := hck
      have HRK : Hid (∀ w', Below wr.heap.size wr w' → Calls Tryd.prog 19 #[.pointer (some ⟨dc, 0, none⟩), .int .i64 ix, .slice sq sn sc] w' fun e w'' => e = .returned (.int .i64 rr) ∧ Below w'.heap.size w' w'') := hrk
      have HL : Hid (∀ w', Below wr.heap.size wr w' → Calls Tryd.prog 16 #[.pointer (some ⟨c, 0, none⟩)] w' fun e w'' => e = .returned (.int .i64 (nl : Int)) ∧ w'' = w') := fun w' hb => by
        have := one_len (GJ.out.1.below hb).one
        rwa [hnl] at this
      have HH : Hid (∀ w', Below wr.heap.size wr w' → Calls Tryd.prog 17 #[.pointer (some ⟨c, 0, none⟩)] w' fun e w'' => ∃ u, e = .returned (.agg #[.int .i64 (nl : Int), u]) ∧ w''.ownsRow w'.heap.size 5 1 u 32 (ints .u8 l) ∧ Below w'.heap.size w' w'') := fun w' hb => by
        have := one_head (GJ.out.1.below hb).one (by rw [hnl]; exact hl) (by omega)
        rwa [hnl, hl32] at this
      have HDC : Hid (∀ w', Below wr.heap.size wr w' → w'.cell? ⟨dc, 0, none⟩ = some (.slice lq nl lc) ∧ w'.cell? ⟨dc, 1, none⟩ = some (.slice zq ss.length zc)) := hdcc
      have HNL : Hid (ls.length = nl) := hnl
      have hnl70 : nl ≤ 70 := by have := HC.out.2.1; omega
      clear hck hrk hdc hdcc hl hl32 hnl H1 HSML1 HSL HN1 hlt
      go_wp2_with fail
      have RB : ∀ k w w', Below w.heap.size w w' → (fun (_ : Nat) (_ : World) => True) k w → (fun (_ : Nat) (_ : World) => True) k w' := fun _ _ _ _ _ => trivial
      refine wp_region_st (pl18 c dc nl lq lc ix rr sq sn sc l) (fun u u' => Only [] u u') (SeqS [] (fun (_ : Nat) (_ : World) => True)) (by kernel_rfl) (only_drew _ _) (only_trans _) (pl18_kept c dc nl lq lc ix rr sq sn sc l) (by kernel_rfl) (SeqS.start (trivial)) ?_ ?_
      · intro i o a' w' f hi inv hS hfi hfw hpre
        have ho : Only [] wr w' := inv.grow
        have hlt : i < 28 := (Array.getElem?_eq_some_iff.1 hi).1
        obtain rfl|rfl|rfl|rfl|rfl|rfl|rfl|rfl|rfl|rfl|rfl|rfl|rfl|rfl|rfl|rfl|rfl|rfl|rfl|rfl|rfl|rfl|rfl|rfl|rfl|rfl|rfl|rfl : i = 0 ∨ i = 1 ∨ i = 2 ∨ i = 3 ∨ i = 4 ∨ i = 5 ∨ i = 6 ∨ i = 7 ∨ i = 8 ∨ i = 9 ∨ i = 10 ∨ i = 11 ∨ i = 12 ∨ i = 13 ∨ i = 14 ∨ i = 15 ∨ i = 16 ∨ i = 17 ∨ i = 18 ∨ i = 19 ∨ i = 20 ∨ i = 21 ∨ i = 22 ∨ i = 23 ∨ i = 24 ∨ i = 25 ∨ i = 26 ∨ i = 27 := by omega
        · obtain rfl := Option.some.inj hi
          exact sq_value _ rfl rfl rfl (Below.refl _ _) (by decide) hS RB (by show a'.tmps.getD 11 undef = _; rw [inv.old 11 (notDst_spec (by kernel_rfl))]; rfl)
        · obtain rfl := Option.some.inj hi
          have h0 : a'.tmps.getD 76 undef = _ := pre_of hpre 0 76 (by kernel_rfl) (by kernel_rfl)
          refine sq_quiet 16 #[a'.tmps.getD 76 undef] rfl rfl (by kernel_rfl) (by decide) hS ?_
          rw [h0]
          exact (HL.out w' (ho.below (Nat.le_refl _) (by simp))).mono (by rintro e u ⟨rfl, hu⟩; subst hu; exact ⟨_, rfl, Only.refl _ _, (fun _ h => h), rfl⟩)
        · obtain rfl := Option.some.inj hi
          exact sq_value _ rfl rfl rfl (Below.refl _ _) (by decide) hS RB (by show a'.tmps.getD 13 undef = _; rw [inv.old 13 (notDst_spec (by kernel_rfl))]; rfl)
        · obtain rfl := Option.some.inj hi
          have h0 : a'.tmps.getD 78 undef = _ := pre_of hpre 2 78 (by kernel_rfl) (by kernel_rfl)
          exact sq_value _ rfl rfl (nil_run 78 _ rfl h0) (Below.refl _ _) (by decide) hS RB rfl
        · obtain rfl := Option.some.inj hi
          have h0 : a'.tmps.getD 79 undef = _ := pre_of hpre 3 79 (by kernel_rfl) (by kernel_rfl)
          exact sq_value _ rfl rfl (fa_run 42 0 79 dc rfl h0 (fa42_0 dc)) (Below.refl _ _) (by decide) hS RB rfl
        · obtain rfl := Option.some.inj hi
          have h0 : a'.tmps.getD 80 undef = _ := pre_of hpre 4 80 (by kernel_rfl) (by kernel_rfl)
          exact sq_value _ rfl rfl (load_run 22 80 dc (0) _ rfl h0 (ld22 ((HDC.out w' (ho.below (Nat.le_refl _) (by simp))).1))) (Below.refl _ _) (by decide) hS RB rfl
        · obtain rfl := Option.some.inj hi
          have h0 : a'.tmps.getD 81 undef = _ := pre_of hpre 5 81 (by kernel_rfl) (by kernel_rfl)
          exact sq_value _ rfl rfl (lenV_run 81 _ _ _ rfl h0) (Below.refl _ _) (by decide) hS RB rfl
        · obtain rfl := Option.some.inj hi
          have h0 : a'.tmps.getD 77 undef = _ := pre_of hpre 1 77 (by kernel_rfl) (by kernel_rfl)
          have h1 : a'.tmps.getD 82 undef = _ := pre_of hpre 6 82 (by kernel_rfl) (by kernel_rfl)
          exact sq_value _ rfl rfl (neqN_run 77 82 _ _ rfl h0 h1) (Below.refl _ _) (by decide) hS RB (by show Value.bool _ = _; simp)
        · obtain rfl := Option.some.inj hi
          have h0 := pre_of hpre 7 83 (by kernel_rfl) (by kernel_rfl)
          exact sq_value _ rfl rfl (rfl) (Below.refl _ _) (by decide) hS RB h0
        · obtain rfl := Option.some.inj hi
          have hgu : a'.tmps.getD 84 undef = _ := pre_of hpre 8 84 (by kernel_rfl) (by kernel_rfl)
          exact sq_value _ rfl (wanted_of 8 84 false rfl (by kernel_rfl) hgu) rfl (Below.refl _ _) (by decide) hS RB (by show a'.tmps.getD 11 undef = _; rw [inv.old 11 (notDst_spec (by kernel_rfl))]; rfl)
        · obtain rfl := Option.some.inj hi
          have hgu : a'.tmps.getD 84 undef = _ := pre_of hpre 8 84 (by kernel_rfl) (by kernel_rfl)
          have h0 : a'.tmps.getD 85 undef = _ := pre_of hpre 9 85 (by kernel_rfl) (by kernel_rfl)
          refine sq_quiet 17 #[a'.tmps.getD 85 undef] rfl (wanted_of 8 84 false rfl (by kernel_rfl) hgu) (by kernel_rfl) (by decide) hS ?_
          rw [h0]
          exact (HH.out w' (ho.below (Nat.le_refl _) (by simp))).mono (by rintro e u ⟨x, rfl, h1, h2⟩; obtain ⟨vq, vc, rfl⟩ := own_slice h1; exact ⟨_, rfl, Only.of_below h2 _, (fun _ _ => trivial), vq, vc, rfl, Src.own HLS.out h1⟩)
        · obtain rfl := Option.some.inj hi
          have hgu : a'.tmps.getD 84 undef = _ := pre_of hpre 8 84 (by kernel_rfl) (by kernel_rfl)
          have h0 := pre_of hpre 10 86 (by kernel_rfl) (by kernel_rfl)
          obtain ⟨vq, vc, he0, hs0⟩ := h0
          exact sq_value _ rfl (wanted_of 8 84 false rfl (by kernel_rfl) hgu) (field0_run 86 _ _ rfl he0) (Below.refl _ _) (by decide) hS RB rfl
        · obtain rfl := Option.some.inj hi
          have hgu : a'.tmps.getD 84 undef = _ := pre_of hpre 8 84 (by kernel_rfl) (by kernel_rfl)
          exact sq_value _ rfl (wanted_of 8 84 false rfl (by kernel_rfl) hgu) rfl (Below.refl _ _) (by decide) hS RB (by show a'.tmps.getD 11 undef = _; rw [inv.old 11 (notDst_spec (by kernel_rfl))]; rfl)
        · obtain rfl := Option.some.inj hi
          have hgu : a'.tmps.getD 84 undef = _ := pre_of hpre 8 84 (by kernel_rfl) (by kernel_rfl)
          have h0 : a'.tmps.getD 88 undef = _ := pre_of hpre 12 88 (by kernel_rfl) (by kernel_rfl)
          refine sq_quiet 16 #[a'.tmps.getD 88 undef] rfl (wanted_of 8 84 false rfl (by kernel_rfl) hgu) (by kernel_rfl) (by decide) hS ?_
          rw [h0]
          exact (HL.out w' (ho.below (Nat.le_refl _) (by simp))).mono (by rintro e u ⟨rfl, hu⟩; subst hu; exact ⟨_, rfl, Only.refl _ _, (fun _ h => h), rfl⟩)
        · obtain rfl := Option.some.inj hi
          have hgu : a'.tmps.getD 84 undef = _ := pre_of hpre 8 84 (by kernel_rfl) (by kernel_rfl)
          have h0 : a'.tmps.getD 87 undef = _ := pre_of hpre 11 87 (by kernel_rfl) (by kernel_rfl)
          have h1 : a'.tmps.getD 89 undef = _ := pre_of hpre 13 89 (by kernel_rfl) (by kernel_rfl)
          exact sq_value _ rfl (wanted_of 8 84 false rfl (by kernel_rfl) hgu) (neqN_run 87 89 _ _ rfl h0 h1) (Below.refl _ _) (by decide) hS RB (by show Value.bool _ = _; simp)
        · obtain rfl := Option.some.inj hi
          have h0 : a'.tmps.getD 84 undef = _ := pre_of hpre 8 84 (by kernel_rfl) (by kernel_rfl)
          have h1 : a'.tmps.getD 90 undef = _ := pre_of hpre 14 90 (by kernel_rfl) (by kernel_rfl)
          exact sq_value _ rfl rfl (pick_run 84 false _ _ _ _ rfl h0 rfl h1) (Below.refl _ _) (by decide) hS RB rfl
        · obtain rfl := Option.some.inj hi
          have h0 := pre_of hpre 15 91 (by kernel_rfl) (by kernel_rfl)
          exact sq_value _ rfl rfl (rfl) (Below.refl _ _) (by decide) hS RB h0
        · obtain rfl := Option.some.inj hi
          have hgu : a'.tmps.getD 92 undef = _ := pre_of hpre 16 92 (by kernel_rfl) (by kernel_rfl)
          exact sq_value _ rfl (wanted_of 16 92 false rfl (by kernel_rfl) hgu) rfl (Below.refl _ _) (by decide) hS RB (by show a'.tmps.getD 11 undef = _; rw [inv.old 11 (notDst_spec (by kernel_rfl))]; rfl)
        · obtain rfl := Option.some.inj hi
          have hgu : a'.tmps.getD 92 undef = _ := pre_of hpre 16 92 (by kernel_rfl) (by kernel_rfl)
          exact sq_value _ rfl (wanted_of 16 92 false rfl (by kernel_rfl) hgu) rfl (Below.refl _ _) (by decide) hS RB (by show a'.tmps.getD 2 undef = _; rw [inv.old 2 (notDst_spec (by kernel_rfl))]; rfl)
        · obtain rfl := Option.some.inj hi
          have hgu : a'.tmps.getD 92 undef = _ := pre_of hpre 16 92 (by kernel_rfl) (by kernel_rfl)
          exact sq_value _ rfl (wanted_of 16 92 false rfl (by kernel_rfl) hgu) rfl (Below.refl _ _) (by decide) hS RB (by show a'.tmps.getD 3 undef = _; rw [inv.old 3 (notDst_spec (by kernel_rfl))]; rfl)
        · obtain rfl := Option.some.inj hi
          have hgu : a'.tmps.getD 92 undef = _ := pre_of hpre 16 92 (by kernel_rfl) (by kernel_rfl)
          have h0 : a'.tmps.getD 94 undef = _ := pre_of hpre 18 94 (by kernel_rfl) (by kernel_rfl)
          have h1 : a'.tmps.getD 95 undef = _ := pre_of hpre 19 95 (by kernel_rfl) (by kernel_rfl)
          exact sq_value _ rfl (wanted_of 16 92 false rfl (by kernel_rfl) hgu) (build44_run 94 95 _ _ _ _ rfl h0 h1) (Below.refl _ _) (by decide) hS RB rfl
        · obtain rfl := Option.some.inj hi
          have hgu : a'.tmps.getD 92 undef = _ := pre_of hpre 16 92 (by kernel_rfl) (by kernel_rfl)
          have h0 : a'.tmps.getD 93 undef = _ := pre_of hpre 17 93 (by kernel_rfl) (by kernel_rfl)
          have h1 : a'.tmps.getD 96 undef = _ := pre_of hpre 20 96 (by kernel_rfl) (by kernel_rfl)
          refine sq_quiet 18 #[a'.tmps.getD 93 undef, a'.tmps.getD 96 undef] rfl (wanted_of 16 92 false rfl (by kernel_rfl) hgu) (by kernel_rfl) (by decide) hS ?_
          rw [h0, h1]
          exact (HCK.out w' (ho.below (Nat.le_refl _) (by simp))).mono (by rintro e u ⟨rfl, hu⟩; exact ⟨_, rfl, Only.of_below hu _, (fun _ _ => trivial), rfl⟩)
        · obtain rfl := Option.some.inj hi
          have hgu : a'.tmps.getD 92 undef = _ := pre_of hpre 16 92 (by kernel_rfl) (by kernel_rfl)
          exact sq_value _ rfl (wanted_of 16 92 false rfl (by kernel_rfl) hgu) rfl (Below.refl _ _) (by decide) hS RB (by show a'.tmps.getD 13 undef = _; rw [inv.old 13 (notDst_spec (by kernel_rfl))]; rfl)
        · obtain rfl := Option.some.inj hi
          have hgu : a'.tmps.getD 92 undef = _ := pre_of hpre 16 92 (by kernel_rfl) (by kernel_rfl)
          exact sq_value _ rfl (wanted_of 16 92 false rfl (by kernel_rfl) hgu) rfl (Below.refl _ _) (by decide) hS RB (by show a'.tmps.getD 2 undef = _; rw [inv.old 2 (notDst_spec (by kernel_rfl))]; rfl)
        · obtain rfl := Option.some.inj hi
          have hgu : a'.tmps.getD 92 undef = _ := pre_of hpre 16 92 (by kernel_rfl) (by kernel_rfl)
          exact sq_value _ rfl (wanted_of 16 92 false rfl (by kernel_rfl) hgu) rfl (Below.refl _ _) (by decide) hS RB (by show a'.tmps.getD 3 undef = _; rw [inv.old 3 (notDst_spec (by kernel_rfl))]; rfl)
        · obtain rfl := Option.some.inj hi
          have hgu : a'.tmps.getD 92 undef = _ := pre_of hpre 16 92 (by kernel_rfl) (by kernel_rfl)
          have h0 : a'.tmps.getD 98 undef = _ := pre_of hpre 22 98 (by kernel_rfl) (by kernel_rfl)
          have h1 : a'.tmps.getD 99 undef = _ := pre_of hpre 23 99 (by kernel_rfl) (by kernel_rfl)
          have h2 : a'.tmps.getD 100 undef = _ := pre_of hpre 24 100 (by kernel_rfl) (by kernel_rfl)
          refine sq_quiet 19 #[a'.tmps.getD 98 undef, a'.tmps.getD 99 undef, a'.tmps.getD 100 undef] rfl (wanted_of 16 92 false rfl (by kernel_rfl) hgu) (by kernel_rfl) (by decide) hS ?_
          rw [h0, h1, h2]
          exact (HRK.out w' (ho.below (Nat.le_refl _) (by simp))).mono (by rintro e u ⟨rfl, hu⟩; exact ⟨_, rfl, Only.of_below hu _, (fun _ _ => trivial), rfl⟩)
        · obtain rfl := Option.some.inj hi
          have hgu : a'.tmps.getD 92 undef = _ := pre_of hpre 16 92 (by kernel_rfl) (by kernel_rfl)
          have h0 : a'.tmps.getD 97 undef = _ := pre_of hpre 21 97 (by kernel_rfl) (by kernel_rfl)
          have h1 : a'.tmps.getD 101 undef = _ := pre_of hpre 25 101 (by kernel_rfl) (by kernel_rfl)
          exact sq_value _ rfl (wanted_of 16 92 false rfl (by kernel_rfl) hgu) (neqN_run 97 101 _ _ rfl h0 h1) (Below.refl _ _) (by decide) hS RB (by show Value.bool _ = _; simp)
        · obtain rfl := Option.some.inj hi
          have h0 : a'.tmps.getD 92 undef = _ := pre_of hpre 16 92 (by kernel_rfl) (by kernel_rfl)
          have h1 : a'.tmps.getD 102 undef = _ := pre_of hpre 26 102 (by kernel_rfl) (by kernel_rfl)
          exact sq_value _ rfl rfl (pick_run 92 false _ _ _ _ rfl h0 rfl h1) (Below.refl _ _) (by decide) hS RB rfl
      · intro a' w8 f inv hS hall hd
        have hk27 := hd 27 103 (by kernel_rfl)
        have ho : Only [] wr w8 := inv.grow
        have hdf : a'.defers = [] := inv.defers
        have hsz : a'.tmps.size = 196 := inv.size
        have e := frame3_18 hsz (fun t ht => inv.old t (dstsIn_spec (ts := [76, 77, 78, 79, 80, 81, 82, 83, 84, 85, 86, 87, 88, 89, 90, 91, 92, 93, 94, 95, 96, 97, 98, 99, 100, 101, 102, 103]) (by kernel_rfl) t ht))
        have hR := hS.done (fun c hc => hall c (show c < 28 by simp at hc <;> omega))
        clear inv hd hsz hall hS
        obtain ⟨tmps, defers⟩ := a'
        obtain rfl : defers = [] := hdf
        replace e : tmps = _ := e
        replace hk27 : tmps.getD 103 undef = (.bool false) := hk27
        generalize tmps.getD 76 undef = x76 at *
        generalize tmps.getD 77 undef = x77 at *
        generalize tmps.getD 78 undef = x78 at *
        generalize tmps.getD 79 undef = x79 at *
        generalize tmps.getD 80 undef = x80 at *
        generalize tmps.getD 81 undef = x81 at *
        generalize tmps.getD 82 undef = x82 at *
        generalize tmps.getD 83 undef = x83 at *
        generalize tmps.getD 84 undef = x84 at *
        generalize tmps.getD 85 undef = x85 at *
        generalize tmps.getD 86 undef = x86 at *
        generalize tmps.getD 87 undef = x87 at *
        generalize tmps.getD 88 undef = x88 at *
        generalize tmps.getD 89 undef = x89 at *
        generalize tmps.getD 90 undef = x90 at *
        generalize tmps.getD 91 undef = x91 at *
        generalize tmps.getD 92 undef = x92 at *
        generalize tmps.getD 93 undef = x93 at *
        generalize tmps.getD 94 undef = x94 at *
        generalize tmps.getD 95 undef = x95 at *
        generalize tmps.getD 96 undef = x96 at *
        generalize tmps.getD 97 undef = x97 at *
        generalize tmps.getD 98 undef = x98 at *
        generalize tmps.getD 99 undef = x99 at *
        generalize tmps.getD 100 undef = x100 at *
        generalize tmps.getD 101 undef = x101 at *
        generalize tmps.getD 102 undef = x102 at *
        generalize tmps.getD 103 undef = x103 at *
        simp only [Array.getD_eq_getD_getElem?, List.getElem?_toArray, List.getElem?_cons_succ, List.getElem?_cons_zero, Option.getD_some] at e
        subst e
        subst hk27
        have G8 : Hid (Pr2 B w8 p q m x c d dc L ls ss L ls ss ∧ Below B w w8) := by
          have hb := ho.below (Nat.le_refl _) (by simp)
          exact ⟨GJ.out.1.below hb, GJ.out.2.trans (hb.mono GJ.out.1.size)⟩
        clear GJ HCK HRK HL HH HDC HLS ho hR
        obtain ⟨ml, HML⟩ : ∃ ml, Hid (nl + 1 = ml) := ⟨_, rfl⟩
        go_wp2_with fail
        go_loopw [16] (fun i wr => ∃ z : Int, i = .int .i64 z ∧ -1 ≤ z ∧ z ≤ (nl : Int) + 2 ∧ Hid (Pr2 B wr p q m x c d dc L ls ss L ls ss ∧ Below B w wr)) (fun i _ => ((nl : Int) + 2 - intOf i).toNat)
        case atStart => exact ⟨-1, rfl, by omega, by omega, G8⟩
        case round =>
          obtain ⟨z, rfl, hz1, hz2, GK⟩ := hrel
          clear G8
          obtain ⟨lv, sv, hch⟩ := GK.out.1.one.ch
          obtain ⟨lv', sv', hdc⟩ := GK.out.1.dcc
          have hln := HC.out.1.len
          have HLN : Hid (Calls Tryd.prog 16 #[.pointer (some ⟨c, 0, none⟩)] wr fun e w' => e = .returned (.int .i64 (nl : Int)) ∧ w' = wr) := by
            have := one_len GK.out.1.one
            rwa [HNL.out] at this
          by_cases hz : z ≤ (nl : Int) + 1
          · by_cases ha : z = -1
            · subst ha
              have HG : Hid (decide ((0 : Int) ≤ (-1)) = false) := (by decide : decide ((0 : Int) ≤ (-1)) = false)
              have hc1 : (-1 : Int) ≤ (nl : Int) + 1 := by omega
              have HAT := At_none hch (-1) (.inl (by omega))
              obtain ⟨lq, lc, zq, zc, hdcc⟩ := dcc_cells hdc
              go_wp2_with fail
              refine HLN.out.mono ?_
              rintro e w5 ⟨rfl, hw⟩
              obtain rfl : wr = w5 := hw.symm
              clear hw
              go_wp2_with fail
              refine HAT.mono ?_
              rintro e w5 ⟨rfl, hb5⟩
              obtain ⟨w6, HW6⟩ : ∃ w6, Hid (w5.alloc (.cells #[.int .i64 0, .slice none 0 0] 44) = w6) := ⟨_, rfl⟩
              have hb6 : Below wr.heap.size wr w6 := hb5.trans ((by rw [← HW6.out]; exact below_alloc' w5 _ : Below w5.heap.size w5 w6).mono hb5.size)
              have HLK := Link_none (hch.below hb6) (-1) (.inl (by omega))
              obtain ⟨gd, hgd⟩ : ∃ gd, gd = w5.heap.size := ⟨_, rfl⟩
              rw [hln, HNL.out, HML.out] at hdcc
              have HDC : Hid (∀ w', Below w6.heap.size w6 w' → w'.cell? ⟨dc, 0, none⟩ = some (.slice lq nl lc) ∧ w'.cell? ⟨dc, 1, none⟩ = some (.slice zq ml zc) ∧ True) := fun w' hb => ⟨(hdcc w' (hb6.trans (hb.mono hb6.size))).1, (hdcc w' (hb6.trans (hb.mono hb6.size))).2, trivial⟩
              have G7 : Hid (∀ w', Below w6.heap.size w6 w' → Pr2 B w' p q m x c d dc L ls ss L ls ss ∧ Below B w w') := fun w' hb => ⟨GK.out.1.below (hb6.trans (hb.mono hb6.size)), GK.out.2.trans ((hb6.trans (hb.mono hb6.size)).mono GK.out.1.size)⟩
              clear HAT hb5 hb6 hdcc hch hdc hln GK
              go_wp2_with fail
              rw [HW6.out, ← hgd]
              clear HW6 hgd
              refine HLK.mono ?_
              rintro e w7 ⟨rfl, hw⟩
              obtain rfl : w6 = w7 := hw.symm
              clear hw HLK
              go_wp2_with fail
              have RB : ∀ k w w', Below w.heap.size w w' → (fun (_ : Nat) (_ : World) => True) k w → (fun (_ : Nat) (_ : World) => True) k w' := fun _ _ _ _ _ => trivial
              refine wp_region_st (pl25a ) (fun u u' => Only [] u u') (SeqS [] (fun (_ : Nat) (_ : World) => True)) (by kernel_rfl) (only_drew _ _) (only_trans _) (pl25a_kept ) (by kernel_rfl) (SeqS.start (trivial)) ?_ ?_
              · intro i o a' w' f hi inv hS hfi hfw hpre
                have ho : Only [] w6 w' := inv.grow
                have hlt : i < 73 := (Array.getElem?_eq_some_iff.1 hi).1
                obtain rfl|rfl|rfl|rfl|rfl|rfl|rfl|rfl|rfl|rfl|rfl|rfl|rfl|rfl|rfl|rfl|rfl|rfl|rfl|rfl|rfl|rfl|rfl|rfl|rfl|rfl|rfl|rfl|rfl|rfl|rfl|rfl|rfl|rfl|rfl|rfl|rfl|rfl|rfl|rfl|rfl|rfl|rfl|rfl|rfl|rfl|rfl|rfl|rfl|rfl|rfl|rfl|rfl|rfl|rfl|rfl|rfl|rfl|rfl|rfl|rfl|rfl|rfl|rfl|rfl|rfl|rfl|rfl|rfl|rfl|rfl|rfl|rfl : i = 0 ∨ i = 1 ∨ i = 2 ∨ i = 3 ∨ i = 4 ∨ i = 5 ∨ i = 6 ∨ i = 7 ∨ i = 8 ∨ i = 9 ∨ i = 10 ∨ i = 11 ∨ i = 12 ∨ i = 13 ∨ i = 14 ∨ i = 15 ∨ i = 16 ∨ i = 17 ∨ i = 18 ∨ i = 19 ∨ i = 20 ∨ i = 21 ∨ i = 22 ∨ i = 23 ∨ i = 24 ∨ i = 25 ∨ i = 26 ∨ i = 27 ∨ i = 28 ∨ i = 29 ∨ i = 30 ∨ i = 31 ∨ i = 32 ∨ i = 33 ∨ i = 34 ∨ i = 35 ∨ i = 36 ∨ i = 37 ∨ i = 38 ∨ i = 39 ∨ i = 40 ∨ i = 41 ∨ i = 42 ∨ i = 43 ∨ i = 44 ∨ i = 45 ∨ i = 46 ∨ i = 47 ∨ i = 48 ∨ i = 49 ∨ i = 50 ∨ i = 51 ∨ i = 52 ∨ i = 53 ∨ i = 54 ∨ i = 55 ∨ i = 56 ∨ i = 57 ∨ i = 58 ∨ i = 59 ∨ i = 60 ∨ i = 61 ∨ i = 62 ∨ i = 63 ∨ i = 64 ∨ i = 65 ∨ i = 66 ∨ i = 67 ∨ i = 68 ∨ i = 69 ∨ i = 70 ∨ i = 71 ∨ i = 72 := by omega
                · obtain rfl := Option.some.inj hi
                  exact sq_value _ rfl rfl rfl (Below.refl _ _) (by decide) hS RB (by show a'.tmps.getD 18 undef = _; rw [inv.old 18 (notDst_spec (by kernel_rfl))]; rfl)
                · obtain rfl := Option.some.inj hi
                  exact sq_value _ rfl rfl rfl (Below.refl _ _) (by decide) hS RB (by show a'.tmps.getD 16 undef = _; rw [inv.old 16 (notDst_spec (by kernel_rfl))]; rfl)
                · obtain rfl := Option.some.inj hi
                  have h0 : a'.tmps.getD 124 undef = _ := pre_of hpre 1 124 (by kernel_rfl) (by kernel_rfl)
                  exact sq_value _ rfl rfl (geqK_run 124 _ 0 rfl h0) (Below.refl _ _) (by decide) hS RB (by show Value.bool _ = _; rw [HG.out])
                · obtain rfl := Option.some.inj hi
                  have h0 := pre_of hpre 2 125 (by kernel_rfl) (by kernel_rfl)
                  exact sq_value _ rfl rfl (rfl) (Below.refl _ _) (by decide) hS RB h0
                · obtain rfl := Option.some.inj hi
                  have hgu : a'.tmps.getD 126 undef = _ := pre_of hpre 3 126 (by kernel_rfl) (by kernel_rfl)
                  exact sq_skip rfl (unwanted_of 3 126 false rfl (by kernel_rfl) hgu) (by decide) hS rfl
                · obtain rfl := Option.some.inj hi
                  have hgu : a'.tmps.getD 126 undef = _ := pre_of hpre 3 126 (by kernel_rfl) (by kernel_rfl)
                  exact sq_skip rfl (unwanted_of 3 126 false rfl (by kernel_rfl) hgu) (by decide) hS rfl
                · obtain rfl := Option.some.inj hi
                  have hgu : a'.tmps.getD 126 undef = _ := pre_of hpre 3 126 (by kernel_rfl) (by kernel_rfl)
                  exact sq_skip rfl (unwanted_of 3 126 false rfl (by kernel_rfl) hgu) (by decide) hS rfl
                · obtain rfl := Option.some.inj hi
                  have hgu : a'.tmps.getD 126 undef = _ := pre_of hpre 3 126 (by kernel_rfl) (by kernel_rfl)
                  exact sq_skip rfl (unwanted_of 3 126 false rfl (by kernel_rfl) hgu) (by decide) hS rfl
                · obtain rfl := Option.some.inj hi
                  have hgu : a'.tmps.getD 126 undef = _ := pre_of hpre 3 126 (by kernel_rfl) (by kernel_rfl)
                  exact sq_skip rfl (unwanted_of 3 126 false rfl (by kernel_rfl) hgu) (by decide) hS rfl
                · obtain rfl := Option.some.inj hi
                  have hgu : a'.tmps.getD 126 undef = _ := pre_of hpre 3 126 (by kernel_rfl) (by kernel_rfl)
                  exact sq_skip rfl (unwanted_of 3 126 false rfl (by kernel_rfl) hgu) (by decide) hS rfl
                · obtain rfl := Option.some.inj hi
                  have hgu : a'.tmps.getD 126 undef = _ := pre_of hpre 3 126 (by kernel_rfl) (by kernel_rfl)
                  exact sq_skip rfl (unwanted_of 3 126 false rfl (by kernel_rfl) hgu) (by decide) hS rfl
                · obtain rfl := Option.some.inj hi
                  have h0 : a'.tmps.getD 126 undef = _ := pre_of hpre 3 126 (by kernel_rfl) (by kernel_rfl)
                  exact sq_value _ rfl rfl (pick_run 126 false _ _ _ _ rfl h0 rfl rfl) (Below.refl _ _) (by decide) hS RB rfl
                · obtain rfl := Option.some.inj hi
                  have h0 : a'.tmps.getD 123 undef = _ := pre_of hpre 0 123 (by kernel_rfl) (by kernel_rfl)
                  have h1 : a'.tmps.getD 134 undef = _ := pre_of hpre 11 134 (by kernel_rfl) (by kernel_rfl)
                  exact sq_value _ rfl rfl (neqB_run 123 134 _ _ rfl h0 h1) (Below.refl _ _) (by decide) hS RB rfl
                · obtain rfl := Option.some.inj hi
                  have h0 := pre_of hpre 12 135 (by kernel_rfl) (by kernel_rfl)
                  exact sq_value _ rfl rfl (rfl) (Below.refl _ _) (by decide) hS RB h0
                · obtain rfl := Option.some.inj hi
                  have hgu : a'.tmps.getD 136 undef = _ := pre_of hpre 13 136 (by kernel_rfl) (by kernel_rfl)
                  exact sq_value _ rfl (wanted_of 13 136 false rfl (by kernel_rfl) hgu) rfl (Below.refl _ _) (by decide) hS RB (by show a'.tmps.getD 20 undef = _; rw [inv.old 20 (notDst_spec (by kernel_rfl))]; rfl)
                · obtain rfl := Option.some.inj hi
                  have hgu : a'.tmps.getD 136 undef = _ := pre_of hpre 13 136 (by kernel_rfl) (by kernel_rfl)
                  exact sq_value _ rfl (wanted_of 13 136 false rfl (by kernel_rfl) hgu) rfl (Below.refl _ _) (by decide) hS RB (by show a'.tmps.getD 16 undef = _; rw [inv.old 16 (notDst_spec (by kernel_rfl))]; rfl)
                · obtain rfl := Option.some.inj hi
                  have hgu : a'.tmps.getD 136 undef = _ := pre_of hpre 13 136 (by kernel_rfl) (by kernel_rfl)
                  have h0 : a'.tmps.getD 138 undef = _ := pre_of hpre 15 138 (by kernel_rfl) (by kernel_rfl)
                  exact sq_value _ rfl (wanted_of 13 136 false rfl (by kernel_rfl) hgu) (geqK_run 138 _ 0 rfl h0) (Below.refl _ _) (by decide) hS RB (by show Value.bool _ = _; rw [HG.out])
                · obtain rfl := Option.some.inj hi
                  have hgu : a'.tmps.getD 136 undef = _ := pre_of hpre 13 136 (by kernel_rfl) (by kernel_rfl)
                  have h0 := pre_of hpre 16 139 (by kernel_rfl) (by kernel_rfl)
                  exact sq_value _ rfl (wanted_of 13 136 false rfl (by kernel_rfl) hgu) (rfl) (Below.refl _ _) (by decide) hS RB h0
                · obtain rfl := Option.some.inj hi
                  have hgu : a'.tmps.getD 140 undef = _ := pre_of hpre 17 140 (by kernel_rfl) (by kernel_rfl)
                  exact sq_skip rfl (unwanted_of 17 140 false rfl (by kernel_rfl) hgu) (by decide) hS rfl
                · obtain rfl := Option.some.inj hi
                  have hgu : a'.tmps.getD 140 undef = _ := pre_of hpre 17 140 (by kernel_rfl) (by kernel_rfl)
                  exact sq_skip rfl (unwanted_of 17 140 false rfl (by kernel_rfl) hgu) (by decide) hS rfl
                · obtain rfl := Option.some.inj hi
                  have hgu : a'.tmps.getD 140 undef = _ := pre_of hpre 17 140 (by kernel_rfl) (by kernel_rfl)
                  exact sq_skip rfl (unwanted_of 17 140 false rfl (by kernel_rfl) hgu) (by decide) hS rfl
                · obtain rfl := Option.some.inj hi
                  have hgu : a'.tmps.getD 140 undef = _ := pre_of hpre 17 140 (by kernel_rfl) (by kernel_rfl)
                  exact sq_skip rfl (unwanted_of 17 140 false rfl (by kernel_rfl) hgu) (by decide) hS rfl
                · obtain rfl := Option.some.inj hi
                  have hgu : a'.tmps.getD 140 undef = _ := pre_of hpre 17 140 (by kernel_rfl) (by kernel_rfl)
                  exact sq_skip rfl (unwanted_of 17 140 false rfl (by kernel_rfl) hgu) (by decide) hS rfl
                · obtain rfl := Option.some.inj hi
                  have hgu : a'.tmps.getD 140 undef = _ := pre_of hpre 17 140 (by kernel_rfl) (by kernel_rfl)
                  exact sq_skip rfl (unwanted_of 17 140 false rfl (by kernel_rfl) hgu) (by decide) hS rfl
                · obtain rfl := Option.some.inj hi
                  have hgu : a'.tmps.getD 140 undef = _ := pre_of hpre 17 140 (by kernel_rfl) (by kernel_rfl)
                  exact sq_skip rfl (unwanted_of 17 140 false rfl (by kernel_rfl) hgu) (by decide) hS rfl
                · obtain rfl := Option.some.inj hi
                  have hgu : a'.tmps.getD 136 undef = _ := pre_of hpre 13 136 (by kernel_rfl) (by kernel_rfl)
                  have h0 : a'.tmps.getD 140 undef = _ := pre_of hpre 17 140 (by kernel_rfl) (by kernel_rfl)
                  exact sq_value _ rfl (wanted_of 13 136 false rfl (by kernel_rfl) hgu) (pick_run 140 false _ _ _ _ rfl h0 rfl rfl) (Below.refl _ _) (by decide) hS RB rfl
                · obtain rfl := Option.some.inj hi
                  have hgu : a'.tmps.getD 136 undef = _ := pre_of hpre 13 136 (by kernel_rfl) (by kernel_rfl)
                  have h0 : a'.tmps.getD 137 undef = _ := pre_of hpre 14 137 (by kernel_rfl) (by kernel_rfl)
                  have h1 : a'.tmps.getD 148 undef = _ := pre_of hpre 25 148 (by kernel_rfl) (by kernel_rfl)
                  exact sq_value _ rfl (wanted_of 13 136 false rfl (by kernel_rfl) hgu) (neqB_run 137 148 _ _ rfl h0 h1) (Below.refl _ _) (by decide) hS RB rfl
                · obtain rfl := Option.some.inj hi
                  have h0 : a'.tmps.getD 136 undef = _ := pre_of hpre 13 136 (by kernel_rfl) (by kernel_rfl)
                  have h1 : a'.tmps.getD 149 undef = _ := pre_of hpre 26 149 (by kernel_rfl) (by kernel_rfl)
                  exact sq_value _ rfl rfl (pick_run 136 false _ _ _ _ rfl h0 rfl h1) (Below.refl _ _) (by decide) hS RB rfl
                · obtain rfl := Option.some.inj hi
                  have h0 := pre_of hpre 27 150 (by kernel_rfl) (by kernel_rfl)
                  exact sq_value _ rfl rfl (rfl) (Below.refl _ _) (by decide) hS RB h0
                · obtain rfl := Option.some.inj hi
                  have hgu : a'.tmps.getD 151 undef = _ := pre_of hpre 28 151 (by kernel_rfl) (by kernel_rfl)
                  exact sq_value _ rfl (wanted_of 28 151 false rfl (by kernel_rfl) hgu) rfl (Below.refl _ _) (by decide) hS RB (by show a'.tmps.getD 18 undef = _; rw [inv.old 18 (notDst_spec (by kernel_rfl))]; rfl)
                · obtain rfl := Option.some.inj hi
                  have hgu : a'.tmps.getD 151 undef = _ := pre_of hpre 28 151 (by kernel_rfl) (by kernel_rfl)
                  have h0 := pre_of hpre 29 152 (by kernel_rfl) (by kernel_rfl)
                  exact sq_value _ rfl (wanted_of 28 151 false rfl (by kernel_rfl) hgu) (rfl) (Below.refl _ _) (by decide) hS RB h0
                · obtain rfl := Option.some.inj hi
                  have hgu : a'.tmps.getD 153 undef = _ := pre_of hpre 30 153 (by kernel_rfl) (by kernel_rfl)
                  exact sq_skip rfl (unwanted_of 30 153 false rfl (by kernel_rfl) hgu) (by decide) hS rfl
                · obtain rfl := Option.some.inj hi
                  have hgu : a'.tmps.getD 153 undef = _ := pre_of hpre 30 153 (by kernel_rfl) (by kernel_rfl)
                  exact sq_skip rfl (unwanted_of 30 153 false rfl (by kernel_rfl) hgu) (by decide) hS rfl
                · obtain rfl := Option.some.inj hi
                  have hgu : a'.tmps.getD 153 undef = _ := pre_of hpre 30 153 (by kernel_rfl) (by kernel_rfl)
                  exact sq_skip rfl (unwanted_of 30 153 false rfl (by kernel_rfl) hgu) (by decide) hS rfl
                · obtain rfl := Option.some.inj hi
                  have hgu : a'.tmps.getD 153 undef = _ := pre_of hpre 30 153 (by kernel_rfl) (by kernel_rfl)
                  exact sq_skip rfl (unwanted_of 30 153 false rfl (by kernel_rfl) hgu) (by decide) hS rfl
                · obtain rfl := Option.some.inj hi
                  have hgu : a'.tmps.getD 153 undef = _ := pre_of hpre 30 153 (by kernel_rfl) (by kernel_rfl)
                  exact sq_skip rfl (unwanted_of 30 153 false rfl (by kernel_rfl) hgu) (by decide) hS rfl
                · obtain rfl := Option.some.inj hi
                  have hgu : a'.tmps.getD 158 undef = _ := pre_of hpre 35 158 (by kernel_rfl) (by kernel_rfl)
                  exact sq_skip rfl (unwanted_undef 35 158 _ rfl (by kernel_rfl) hgu) (by decide) hS rfl
                · obtain rfl := Option.some.inj hi
                  have hgu : a'.tmps.getD 158 undef = _ := pre_of hpre 35 158 (by kernel_rfl) (by kernel_rfl)
                  exact sq_skip rfl (unwanted_undef 35 158 _ rfl (by kernel_rfl) hgu) (by decide) hS rfl
                · obtain rfl := Option.some.inj hi
                  have hgu : a'.tmps.getD 158 undef = _ := pre_of hpre 35 158 (by kernel_rfl) (by kernel_rfl)
                  exact sq_skip rfl (unwanted_undef 35 158 _ rfl (by kernel_rfl) hgu) (by decide) hS rfl
                · obtain rfl := Option.some.inj hi
                  have hgu : a'.tmps.getD 158 undef = _ := pre_of hpre 35 158 (by kernel_rfl) (by kernel_rfl)
                  exact sq_skip rfl (unwanted_undef 35 158 _ rfl (by kernel_rfl) hgu) (by decide) hS rfl
                · obtain rfl := Option.some.inj hi
                  have hgu : a'.tmps.getD 158 undef = _ := pre_of hpre 35 158 (by kernel_rfl) (by kernel_rfl)
                  exact sq_skip rfl (unwanted_undef 35 158 _ rfl (by kernel_rfl) hgu) (by decide) hS rfl
                · obtain rfl := Option.some.inj hi
                  have hgu : a'.tmps.getD 158 undef = _ := pre_of hpre 35 158 (by kernel_rfl) (by kernel_rfl)
                  exact sq_skip rfl (unwanted_undef 35 158 _ rfl (by kernel_rfl) hgu) (by decide) hS rfl
                · obtain rfl := Option.some.inj hi
                  have hgu : a'.tmps.getD 158 undef = _ := pre_of hpre 35 158 (by kernel_rfl) (by kernel_rfl)
                  exact sq_skip rfl (unwanted_undef 35 158 _ rfl (by kernel_rfl) hgu) (by decide) hS rfl
                · obtain rfl := Option.some.inj hi
                  have hgu : a'.tmps.getD 158 undef = _ := pre_of hpre 35 158 (by kernel_rfl) (by kernel_rfl)
                  exact sq_skip rfl (unwanted_undef 35 158 _ rfl (by kernel_rfl) hgu) (by decide) hS rfl
                · obtain rfl := Option.some.inj hi
                  have hgu : a'.tmps.getD 158 undef = _ := pre_of hpre 35 158 (by kernel_rfl) (by kernel_rfl)
                  exact sq_skip rfl (unwanted_undef 35 158 _ rfl (by kernel_rfl) hgu) (by decide) hS rfl
                · obtain rfl := Option.some.inj hi
                  have hgu : a'.tmps.getD 158 undef = _ := pre_of hpre 35 158 (by kernel_rfl) (by kernel_rfl)
                  exact sq_skip rfl (unwanted_undef 35 158 _ rfl (by kernel_rfl) hgu) (by decide) hS rfl
                · obtain rfl := Option.some.inj hi
                  have hgu : a'.tmps.getD 158 undef = _ := pre_of hpre 35 158 (by kernel_rfl) (by kernel_rfl)
                  exact sq_skip rfl (unwanted_undef 35 158 _ rfl (by kernel_rfl) hgu) (by decide) hS rfl
                · obtain rfl := Option.some.inj hi
                  have hgu : a'.tmps.getD 158 undef = _ := pre_of hpre 35 158 (by kernel_rfl) (by kernel_rfl)
                  exact sq_skip rfl (unwanted_undef 35 158 _ rfl (by kernel_rfl) hgu) (by decide) hS rfl
                · obtain rfl := Option.some.inj hi
                  have hgu : a'.tmps.getD 153 undef = _ := pre_of hpre 30 153 (by kernel_rfl) (by kernel_rfl)
                  exact sq_skip rfl (unwanted_of 30 153 false rfl (by kernel_rfl) hgu) (by decide) hS rfl
                · obtain rfl := Option.some.inj hi
                  have hgu : a'.tmps.getD 153 undef = _ := pre_of hpre 30 153 (by kernel_rfl) (by kernel_rfl)
                  exact sq_skip rfl (unwanted_of 30 153 false rfl (by kernel_rfl) hgu) (by decide) hS rfl
                · obtain rfl := Option.some.inj hi
                  have hgu : a'.tmps.getD 172 undef = _ := pre_of hpre 49 172 (by kernel_rfl) (by kernel_rfl)
                  exact sq_skip rfl (unwanted_undef 49 172 _ rfl (by kernel_rfl) hgu) (by decide) hS rfl
                · obtain rfl := Option.some.inj hi
                  have hgu : a'.tmps.getD 172 undef = _ := pre_of hpre 49 172 (by kernel_rfl) (by kernel_rfl)
                  exact sq_skip rfl (unwanted_undef 49 172 _ rfl (by kernel_rfl) hgu) (by decide) hS rfl
                · obtain rfl := Option.some.inj hi
                  have hgu : a'.tmps.getD 172 undef = _ := pre_of hpre 49 172 (by kernel_rfl) (by kernel_rfl)
                  exact sq_skip rfl (unwanted_undef 49 172 _ rfl (by kernel_rfl) hgu) (by decide) hS rfl
                · obtain rfl := Option.some.inj hi
                  have hgu : a'.tmps.getD 172 undef = _ := pre_of hpre 49 172 (by kernel_rfl) (by kernel_rfl)
                  exact sq_skip rfl (unwanted_undef 49 172 _ rfl (by kernel_rfl) hgu) (by decide) hS rfl
                · obtain rfl := Option.some.inj hi
                  have hgu : a'.tmps.getD 153 undef = _ := pre_of hpre 30 153 (by kernel_rfl) (by kernel_rfl)
                  exact sq_skip rfl (unwanted_of 30 153 false rfl (by kernel_rfl) hgu) (by decide) hS rfl
                · obtain rfl := Option.some.inj hi
                  have hgu : a'.tmps.getD 151 undef = _ := pre_of hpre 28 151 (by kernel_rfl) (by kernel_rfl)
                  have h0 : a'.tmps.getD 153 undef = _ := pre_of hpre 30 153 (by kernel_rfl) (by kernel_rfl)
                  exact sq_value _ rfl (wanted_of 28 151 false rfl (by kernel_rfl) hgu) (pick_run 153 false _ _ _ _ rfl h0 rfl rfl) (Below.refl _ _) (by decide) hS RB rfl
                · obtain rfl := Option.some.inj hi
                  have h0 : a'.tmps.getD 151 undef = _ := pre_of hpre 28 151 (by kernel_rfl) (by kernel_rfl)
                  have h1 : a'.tmps.getD 178 undef = _ := pre_of hpre 55 178 (by kernel_rfl) (by kernel_rfl)
                  exact sq_value _ rfl rfl (pick_run 151 false _ _ _ _ rfl h0 rfl h1) (Below.refl _ _) (by decide) hS RB rfl
                · obtain rfl := Option.some.inj hi
                  have h0 := pre_of hpre 56 179 (by kernel_rfl) (by kernel_rfl)
                  exact sq_value _ rfl rfl (rfl) (Below.refl _ _) (by decide) hS RB h0
                · obtain rfl := Option.some.inj hi
                  have hgu : a'.tmps.getD 180 undef = _ := pre_of hpre 57 180 (by kernel_rfl) (by kernel_rfl)
                  exact sq_value _ rfl (wanted_of 57 180 false rfl (by kernel_rfl) hgu) rfl (Below.refl _ _) (by decide) hS RB (by show a'.tmps.getD 20 undef = _; rw [inv.old 20 (notDst_spec (by kernel_rfl))]; rfl)
                · obtain rfl := Option.some.inj hi
                  have hgu : a'.tmps.getD 180 undef = _ := pre_of hpre 57 180 (by kernel_rfl) (by kernel_rfl)
                  have h0 := pre_of hpre 58 181 (by kernel_rfl) (by kernel_rfl)
                  exact sq_value _ rfl (wanted_of 57 180 false rfl (by kernel_rfl) hgu) (rfl) (Below.refl _ _) (by decide) hS RB h0
                · obtain rfl := Option.some.inj hi
                  have hgu : a'.tmps.getD 182 undef = _ := pre_of hpre 59 182 (by kernel_rfl) (by kernel_rfl)
                  exact sq_skip rfl (unwanted_of 59 182 false rfl (by kernel_rfl) hgu) (by decide) hS rfl
                · obtain rfl := Option.some.inj hi
                  have hgu : a'.tmps.getD 182 undef = _ := pre_of hpre 59 182 (by kernel_rfl) (by kernel_rfl)
                  exact sq_skip rfl (unwanted_of 59 182 false rfl (by kernel_rfl) hgu) (by decide) hS rfl
                · obtain rfl := Option.some.inj hi
                  have hgu : a'.tmps.getD 182 undef = _ := pre_of hpre 59 182 (by kernel_rfl) (by kernel_rfl)
                  exact sq_skip rfl (unwanted_of 59 182 false rfl (by kernel_rfl) hgu) (by decide) hS rfl
                · obtain rfl := Option.some.inj hi
                  have hgu : a'.tmps.getD 182 undef = _ := pre_of hpre 59 182 (by kernel_rfl) (by kernel_rfl)
                  exact sq_skip rfl (unwanted_of 59 182 false rfl (by kernel_rfl) hgu) (by decide) hS rfl
                · obtain rfl := Option.some.inj hi
                  have hgu : a'.tmps.getD 182 undef = _ := pre_of hpre 59 182 (by kernel_rfl) (by kernel_rfl)
                  exact sq_skip rfl (unwanted_of 59 182 false rfl (by kernel_rfl) hgu) (by decide) hS rfl
                · obtain rfl := Option.some.inj hi
                  have hgu : a'.tmps.getD 182 undef = _ := pre_of hpre 59 182 (by kernel_rfl) (by kernel_rfl)
                  exact sq_skip rfl (unwanted_of 59 182 false rfl (by kernel_rfl) hgu) (by decide) hS rfl
                · obtain rfl := Option.some.inj hi
                  have hgu : a'.tmps.getD 182 undef = _ := pre_of hpre 59 182 (by kernel_rfl) (by kernel_rfl)
                  exact sq_skip rfl (unwanted_of 59 182 false rfl (by kernel_rfl) hgu) (by decide) hS rfl
                · obtain rfl := Option.some.inj hi
                  have hgu : a'.tmps.getD 182 undef = _ := pre_of hpre 59 182 (by kernel_rfl) (by kernel_rfl)
                  exact sq_skip rfl (unwanted_of 59 182 false rfl (by kernel_rfl) hgu) (by decide) hS rfl
                · obtain rfl := Option.some.inj hi
                  have hgu : a'.tmps.getD 182 undef = _ := pre_of hpre 59 182 (by kernel_rfl) (by kernel_rfl)
                  exact sq_skip rfl (unwanted_of 59 182 false rfl (by kernel_rfl) hgu) (by decide) hS rfl
                · obtain rfl := Option.some.inj hi
                  have hgu : a'.tmps.getD 182 undef = _ := pre_of hpre 59 182 (by kernel_rfl) (by kernel_rfl)
                  exact sq_skip rfl (unwanted_of 59 182 false rfl (by kernel_rfl) hgu) (by decide) hS rfl
                · obtain rfl := Option.some.inj hi
                  have hgu : a'.tmps.getD 182 undef = _ := pre_of hpre 59 182 (by kernel_rfl) (by kernel_rfl)
                  exact sq_skip rfl (unwanted_of 59 182 false rfl (by kernel_rfl) hgu) (by decide) hS rfl
                · obtain rfl := Option.some.inj hi
                  have hgu : a'.tmps.getD 180 undef = _ := pre_of hpre 57 180 (by kernel_rfl) (by kernel_rfl)
                  have h0 : a'.tmps.getD 182 undef = _ := pre_of hpre 59 182 (by kernel_rfl) (by kernel_rfl)
                  exact sq_value _ rfl (wanted_of 57 180 false rfl (by kernel_rfl) hgu) (pick_run 182 false _ _ _ _ rfl h0 rfl rfl) (Below.refl _ _) (by decide) hS RB rfl
                · obtain rfl := Option.some.inj hi
                  have h0 : a'.tmps.getD 180 undef = _ := pre_of hpre 57 180 (by kernel_rfl) (by kernel_rfl)
                  have h1 : a'.tmps.getD 194 undef = _ := pre_of hpre 71 194 (by kernel_rfl) (by kernel_rfl)
                  exact sq_value _ rfl rfl (pick_run 180 false _ _ _ _ rfl h0 rfl h1) (Below.refl _ _) (by decide) hS RB rfl
              · intro a' w9 f inv hS hall hd
                have hk72 := hd 72 195 (by kernel_rfl)
                have ho : Only [] w6 w9 := inv.grow
                have hdf : a'.defers = [] := inv.defers
                have hsz : a'.tmps.size = 196 := inv.size
                have e := frame3_25 hsz (fun t ht => inv.old t (dstsIn_spec (ts := [123, 124, 125, 126, 127, 128, 129, 130, 131, 132, 133, 134, 135, 136, 137, 138, 139, 140, 141, 142, 143, 144, 145, 146, 147, 148, 149, 150, 151, 152, 153, 154, 155, 156, 157, 158, 159, 160, 161, 162, 163, 164, 165, 166, 167, 168, 169, 170, 171, 172, 173, 174, 175, 176, 177, 178, 179, 180, 181, 182, 183, 184, 185, 186, 187, 188, 189, 190, 191, 192, 193, 194, 195]) (by kernel_rfl) t ht))
                have hR := hS.done (fun c hc => hall c (show c < 73 by simp at hc <;> omega))
                clear inv hd hsz hall hS
                obtain ⟨tmps, defers⟩ := a'
                obtain rfl : defers = [] := hdf
                replace e : tmps = _ := e
                replace hk72 : tmps.getD 195 undef = (.bool false) := hk72
                generalize tmps.getD 123 undef = x123 at *
                generalize tmps.getD 124 undef = x124 at *
                generalize tmps.getD 125 undef = x125 at *
                generalize tmps.getD 126 undef = x126 at *
                generalize tmps.getD 127 undef = x127 at *
                generalize tmps.getD 128 undef = x128 at *
                generalize tmps.getD 129 undef = x129 at *
                generalize tmps.getD 130 undef = x130 at *
                generalize tmps.getD 131 undef = x131 at *
                generalize tmps.getD 132 undef = x132 at *
                generalize tmps.getD 133 undef = x133 at *
                generalize tmps.getD 134 undef = x134 at *
                generalize tmps.getD 135 undef = x135 at *
                generalize tmps.getD 136 undef = x136 at *
                generalize tmps.getD 137 undef = x137 at *
                generalize tmps.getD 138 undef = x138 at *
                generalize tmps.getD 139 undef = x139 at *
                generalize tmps.getD 140 undef = x140 at *
                generalize tmps.getD 141 undef = x141 at *
                generalize tmps.getD 142 undef = x142 at *
                generalize tmps.getD 143 undef = x143 at *
                generalize tmps.getD 144 undef = x144 at *
                generalize tmps.getD 145 undef = x145 at *
                generalize tmps.getD 146 undef = x146 at *
                generalize tmps.getD 147 undef = x147 at *
                generalize tmps.getD 148 undef = x148 at *
                generalize tmps.getD 149 undef = x149 at *
                generalize tmps.getD 150 undef = x150 at *
                generalize tmps.getD 151 undef = x151 at *
                generalize tmps.getD 152 undef = x152 at *
                generalize tmps.getD 153 undef = x153 at *
                generalize tmps.getD 154 undef = x154 at *
                generalize tmps.getD 155 undef = x155 at *
                generalize tmps.getD 156 undef = x156 at *
                generalize tmps.getD 157 undef = x157 at *
                generalize tmps.getD 158 undef = x158 at *
                generalize tmps.getD 159 undef = x159 at *
                generalize tmps.getD 160 undef = x160 at *
                generalize tmps.getD 161 undef = x161 at *
                generalize tmps.getD 162 undef = x162 at *
                generalize tmps.getD 163 undef = x163 at *
                generalize tmps.getD 164 undef = x164 at *
                generalize tmps.getD 165 undef = x165 at *
                generalize tmps.getD 166 undef = x166 at *
                generalize tmps.getD 167 undef = x167 at *
                generalize tmps.getD 168 undef = x168 at *
                generalize tmps.getD 169 undef = x169 at *
                generalize tmps.getD 170 undef = x170 at *
                generalize tmps.getD 171 undef = x171 at *
                generalize tmps.getD 172 undef = x172 at *
                generalize tmps.getD 173 undef = x173 at *
                generalize tmps.getD 174 undef = x174 at *
                generalize tmps.getD 175 undef = x175 at *
                generalize tmps.getD 176 undef = x176 at *
                generalize tmps.getD 177 undef = x177 at *
                generalize tmps.getD 178 undef = x178 at *
                generalize tmps.getD 179 undef = x179 at *
                generalize tmps.getD 180 undef = x180 at *
                generalize tmps.getD 181 undef = x181 at *
                generalize tmps.getD 182 undef = x182 at *
                generalize tmps.getD 183 undef = x183 at *
                generalize tmps.getD 184 undef = x184 at *
                generalize tmps.getD 185 undef = x185 at *
                generalize tmps.getD 186 undef = x186 at *
                generalize tmps.getD 187 undef = x187 at *
                generalize tmps.getD 188 undef = x188 at *
                generalize tmps.getD 189 undef = x189 at *
                generalize tmps.getD 190 undef = x190 at *
                generalize tmps.getD 191 undef = x191 at *
                generalize tmps.getD 192 undef = x192 at *
                generalize tmps.getD 193 undef = x193 at *
                generalize tmps.getD 194 undef = x194 at *
                generalize tmps.getD 195 undef = x195 at *
                simp only [Array.getD_eq_getD_getElem?, List.getElem?_toArray, List.getElem?_cons_succ, List.getElem?_cons_zero, Option.getD_some] at e
                subst e
                subst hk72
                have GZ : Hid (Pr2 B w9 p q m x c d dc L ls ss L ls ss ∧ Below B w w9) := G7.out w9 (ho.below (Nat.le_refl _) (by simp))
                clear ho hR G7
                go_wp2_with fail
                refine ⟨⟨(-1) + 1, rfl, by omega, by omega, GZ⟩, ?_⟩
                simp only [intOf]
                omega
            by_cases hbb : z = (nl : Int) + 1
            · subst hbb
              have HG : Hid (decide ((0 : Int) ≤ (nl : Int) + 1) = true) := decide_eq_true (by omega)
              have HS1 : Hid (decide ((nl : Int) + 1 < (ml : Int)) = false) := decide_eq_false (by have := HML.out; omega)
              have HS2 : Hid (decide ((nl : Int) + 1 < (nl : Int)) = false) := decide_eq_false (by omega)
              have HAT := At_none hch ((nl : Int) + 1) (.inr (by rw [HNL.out]; omega))
              obtain ⟨lq, lc, zq, zc, hdcc⟩ := dcc_cells hdc
              go_wp2_with fail
              refine HLN.out.mono ?_
              rintro e w5 ⟨rfl, hw⟩
              obtain rfl : wr = w5 := hw.symm
              clear hw
              go_wp2_with fail
              refine HAT.mono ?_
              rintro e w5 ⟨rfl, hb5⟩
              obtain ⟨w6, HW6⟩ : ∃ w6, Hid (w5.alloc (.cells #[.int .i64 0, .slice none 0 0] 44) = w6) := ⟨_, rfl⟩
              have hb6 : Below wr.heap.size wr w6 := hb5.trans ((by rw [← HW6.out]; exact below_alloc' w5 _ : Below w5.heap.size w5 w6).mono hb5.size)
              have HLK := Link_none (hch.below hb6) ((nl : Int) + 1) (.inr (by rw [HNL.out]; omega))
              obtain ⟨gd, hgd⟩ : ∃ gd, gd = w5.heap.size := ⟨_, rfl⟩
              rw [hln, HNL.out, HML.out] at hdcc
              have HDC : Hid (∀ w', Below w6.heap.size w6 w' → w'.cell? ⟨dc, 0, none⟩ = some (.slice lq nl lc) ∧ w'.cell? ⟨dc, 1, none⟩ = some (.slice zq ml zc) ∧ True) := fun w' hb => ⟨(hdcc w' (hb6.trans (hb.mono hb6.size))).1, (hdcc w' (hb6.trans (hb.mono hb6.size))).2, trivial⟩
              have G7 : Hid (∀ w', Below w6.heap.size w6 w' → Pr2 B w' p q m x c d dc L ls ss L ls ss ∧ Below B w w') := fun w' hb => ⟨GK.out.1.below (hb6.trans (hb.mono hb6.size)), GK.out.2.trans ((hb6.trans (hb.mono hb6.size)).mono GK.out.1.size)⟩
              clear HAT hb5 hb6 hdcc hch hdc hln GK
              go_wp2_with fail
              rw [HW6.out, ← hgd]
              clear HW6 hgd
              refine HLK.mono ?_
              rintro e w7 ⟨rfl, hw⟩
              obtain rfl : w6 = w7 := hw.symm
              clear hw HLK
              go_wp2_with fail
              have RB : ∀ k w w', Below w.heap.size w w' → (fun (_ : Nat) (_ : World) => True) k w → (fun (_ : Nat) (_ : World) => True) k w' := fun _ _ _ _ _ => trivial
              refine wp_region_st (pl25b dc nl ml lq zq lc zc) (fun u u' => Only [] u u') (SeqS [] (fun (_ : Nat) (_ : World) => True)) (by kernel_rfl) (only_drew _ _) (only_trans _) (pl25b_kept dc nl ml lq zq lc zc) (by kernel_rfl) (SeqS.start (trivial)) ?_ ?_
              · intro i o a' w' f hi inv hS hfi hfw hpre
                have ho : Only [] w6 w' := inv.grow
                have hlt : i < 73 := (Array.getElem?_eq_some_iff.1 hi).1
                obtain rfl|rfl|rfl|rfl|rfl|rfl|rfl|rfl|rfl|rfl|rfl|rfl|rfl|rfl|rfl|rfl|rfl|rfl|rfl|rfl|rfl|rfl|rfl|rfl|rfl|rfl|rfl|rfl|rfl|rfl|rfl|rfl|rfl|rfl|rfl|rfl|rfl|rfl|rfl|rfl|rfl|rfl|rfl|rfl|rfl|rfl|rfl|rfl|rfl|rfl|rfl|rfl|rfl|rfl|rfl|rfl|rfl|rfl|rfl|rfl|rfl|rfl|rfl|rfl|rfl|rfl|rfl|rfl|rfl|rfl|rfl|rfl|rfl : i = 0 ∨ i = 1 ∨ i = 2 ∨ i = 3 ∨ i = 4 ∨ i = 5 ∨ i = 6 ∨ i = 7 ∨ i = 8 ∨ i = 9 ∨ i = 10 ∨ i = 11 ∨ i = 12 ∨ i = 13 ∨ i = 14 ∨ i = 15 ∨ i = 16 ∨ i = 17 ∨ i = 18 ∨ i = 19 ∨ i = 20 ∨ i = 21 ∨ i = 22 ∨ i = 23 ∨ i = 24 ∨ i = 25 ∨ i = 26 ∨ i = 27 ∨ i = 28 ∨ i = 29 ∨ i = 30 ∨ i = 31 ∨ i = 32 ∨ i = 33 ∨ i = 34 ∨ i = 35 ∨ i = 36 ∨ i = 37 ∨ i = 38 ∨ i = 39 ∨ i = 40 ∨ i = 41 ∨ i = 42 ∨ i = 43 ∨ i = 44 ∨ i = 45 ∨ i = 46 ∨ i = 47 ∨ i = 48 ∨ i = 49 ∨ i = 50 ∨ i = 51 ∨ i = 52 ∨ i = 53 ∨ i = 54 ∨ i = 55 ∨ i = 56 ∨ i = 57 ∨ i = 58 ∨ i = 59 ∨ i = 60 ∨ i = 61 ∨ i = 62 ∨ i = 63 ∨ i = 64 ∨ i = 65 ∨ i = 66 ∨ i = 67 ∨ i = 68 ∨ i = 69 ∨ i = 70 ∨ i = 71 ∨ i = 72 := by omega
                · obtain rfl := Option.some.inj hi
                  exact sq_value _ rfl rfl rfl (Below.refl _ _) (by decide) hS RB (by show a'.tmps.getD 18 undef = _; rw [inv.old 18 (notDst_spec (by kernel_rfl))]; rfl)
                · obtain rfl := Option.some.inj hi
                  exact sq_value _ rfl rfl rfl (Below.refl _ _) (by decide) hS RB (by show a'.tmps.getD 16 undef = _; rw [inv.old 16 (notDst_spec (by kernel_rfl))]; rfl)
                · obtain rfl := Option.some.inj hi
                  have h0 : a'.tmps.getD 124 undef = _ := pre_of hpre 1 124 (by kernel_rfl) (by kernel_rfl)
                  exact sq_value _ rfl rfl (geqK_run 124 _ 0 rfl h0) (Below.refl _ _) (by decide) hS RB (by show Value.bool _ = _; rw [HG.out])
                · obtain rfl := Option.some.inj hi
                  have h0 := pre_of hpre 2 125 (by kernel_rfl) (by kernel_rfl)
                  exact sq_value _ rfl rfl (rfl) (Below.refl _ _) (by decide) hS RB h0
                · obtain rfl := Option.some.inj hi
                  have hgu : a'.tmps.getD 126 undef = _ := pre_of hpre 3 126 (by kernel_rfl) (by kernel_rfl)
                  exact sq_value _ rfl (wanted_of 3 126 true rfl (by kernel_rfl) hgu) rfl (Below.refl _ _) (by decide) hS RB (by show a'.tmps.getD 16 undef = _; rw [inv.old 16 (notDst_spec (by kernel_rfl))]; rfl)
                · obtain rfl := Option.some.inj hi
                  have hgu : a'.tmps.getD 126 undef = _ := pre_of hpre 3 126 (by kernel_rfl) (by kernel_rfl)
                  exact sq_value _ rfl (wanted_of 3 126 true rfl (by kernel_rfl) hgu) rfl (Below.refl _ _) (by decide) hS RB (by show a'.tmps.getD 13 undef = _; rw [inv.old 13 (notDst_spec (by kernel_rfl))]; rfl)
                · obtain rfl := Option.some.inj hi
                  have hgu : a'.tmps.getD 126 undef = _ := pre_of hpre 3 126 (by kernel_rfl) (by kernel_rfl)
                  have h0 : a'.tmps.getD 128 undef = _ := pre_of hpre 5 128 (by kernel_rfl) (by kernel_rfl)
                  exact sq_value _ rfl (wanted_of 3 126 true rfl (by kernel_rfl) hgu) (nil_run 128 _ rfl h0) (Below.refl _ _) (by decide) hS RB rfl
                · obtain rfl := Option.some.inj hi
                  have hgu : a'.tmps.getD 126 undef = _ := pre_of hpre 3 126 (by kernel_rfl) (by kernel_rfl)
                  have h0 : a'.tmps.getD 129 undef = _ := pre_of hpre 6 129 (by kernel_rfl) (by kernel_rfl)
                  exact sq_value _ rfl (wanted_of 3 126 true rfl (by kernel_rfl) hgu) (fa_run 42 1 129 dc rfl h0 (fa42_1 dc)) (Below.refl _ _) (by decide) hS RB rfl
                · obtain rfl := Option.some.inj hi
                  have hgu : a'.tmps.getD 126 undef = _ := pre_of hpre 3 126 (by kernel_rfl) (by kernel_rfl)
                  have h0 : a'.tmps.getD 130 undef = _ := pre_of hpre 7 130 (by kernel_rfl) (by kernel_rfl)
                  exact sq_value _ rfl (wanted_of 3 126 true rfl (by kernel_rfl) hgu) (load_run 22 130 dc (1) _ rfl h0 (ld22 ((HDC.out w' (ho.below (Nat.le_refl _) (by simp))).2.1))) (Below.refl _ _) (by decide) hS RB rfl
                · obtain rfl := Option.some.inj hi
                  have hgu : a'.tmps.getD 126 undef = _ := pre_of hpre 3 126 (by kernel_rfl) (by kernel_rfl)
                  have h0 : a'.tmps.getD 131 undef = _ := pre_of hpre 8 131 (by kernel_rfl) (by kernel_rfl)
                  exact sq_value _ rfl (wanted_of 3 126 true rfl (by kernel_rfl) hgu) (lenV_run 131 _ _ _ rfl h0) (Below.refl _ _) (by decide) hS RB rfl
                · obtain rfl := Option.some.inj hi
                  have hgu : a'.tmps.getD 126 undef = _ := pre_of hpre 3 126 (by kernel_rfl) (by kernel_rfl)
                  have h0 : a'.tmps.getD 127 undef = _ := pre_of hpre 4 127 (by kernel_rfl) (by kernel_rfl)
                  have h1 : a'.tmps.getD 132 undef = _ := pre_of hpre 9 132 (by kernel_rfl) (by kernel_rfl)
                  exact sq_value _ rfl (wanted_of 3 126 true rfl (by kernel_rfl) hgu) (lssN_run 127 132 _ _ rfl h0 h1) (Below.refl _ _) (by decide) hS RB (by show Value.bool _ = _; rw [HS1.out])
                · obtain rfl := Option.some.inj hi
                  have h0 : a'.tmps.getD 126 undef = _ := pre_of hpre 3 126 (by kernel_rfl) (by kernel_rfl)
                  have h1 : a'.tmps.getD 133 undef = _ := pre_of hpre 10 133 (by kernel_rfl) (by kernel_rfl)
                  exact sq_value _ rfl rfl (pick_run 126 true _ _ _ _ rfl h0 h1 rfl) (Below.refl _ _) (by decide) hS RB rfl
                · obtain rfl := Option.some.inj hi
                  have h0 : a'.tmps.getD 123 undef = _ := pre_of hpre 0 123 (by kernel_rfl) (by kernel_rfl)
                  have h1 : a'.tmps.getD 134 undef = _ := pre_of hpre 11 134 (by kernel_rfl) (by kernel_rfl)
                  exact sq_value _ rfl rfl (neqB_run 123 134 _ _ rfl h0 h1) (Below.refl _ _) (by decide) hS RB rfl
                · obtain rfl := Option.some.inj hi
                  have h0 := pre_of hpre 12 135 (by kernel_rfl) (by kernel_rfl)
                  exact sq_value _ rfl rfl (rfl) (Below.refl _ _) (by decide) hS RB h0
                · obtain rfl := Option.some.inj hi
                  have hgu : a'.tmps.getD 136 undef = _ := pre_of hpre 13 136 (by kernel_rfl) (by kernel_rfl)
                  exact sq_value _ rfl (wanted_of 13 136 false rfl (by kernel_rfl) hgu) rfl (Below.refl _ _) (by decide) hS RB (by show a'.tmps.getD 20 undef = _; rw [inv.old 20 (notDst_spec (by kernel_rfl))]; rfl)
                · obtain rfl := Option.some.inj hi
                  have hgu : a'.tmps.getD 136 undef = _ := pre_of hpre 13 136 (by kernel_rfl) (by kernel_rfl)
                  exact sq_value _ rfl (wanted_of 13 136 false rfl (by kernel_rfl) hgu) rfl (Below.refl _ _) (by decide) hS RB (by show a'.tmps.getD 16 undef = _; rw [inv.old 16 (notDst_spec (by kernel_rfl))]; rfl)
                · obtain rfl := Option.some.inj hi
                  have hgu : a'.tmps.getD 136 undef = _ := pre_of hpre 13 136 (by kernel_rfl) (by kernel_rfl)
                  have h0 : a'.tmps.getD 138 undef = _ := pre_of hpre 15 138 (by kernel_rfl) (by kernel_rfl)
                  exact sq_value _ rfl (wanted_of 13 136 false rfl (by kernel_rfl) hgu) (geqK_run 138 _ 0 rfl h0) (Below.refl _ _) (by decide) hS RB (by show Value.bool _ = _; rw [HG.out])
                · obtain rfl := Option.some.inj hi
                  have hgu : a'.tmps.getD 136 undef = _ := pre_of hpre 13 136 (by kernel_rfl) (by kernel_rfl)
                  have h0 := pre_of hpre 16 139 (by kernel_rfl) (by kernel_rfl)
                  exact sq_value _ rfl (wanted_of 13 136 false rfl (by kernel_rfl) hgu) (rfl) (Below.refl _ _) (by decide) hS RB h0
                · obtain rfl := Option.some.inj hi
                  have hgu : a'.tmps.getD 140 undef = _ := pre_of hpre 17 140 (by kernel_rfl) (by kernel_rfl)
                  exact sq_value _ rfl (wanted_of 17 140 true rfl (by kernel_rfl) hgu) rfl (Below.refl _ _) (by decide) hS RB (by show a'.tmps.getD 16 undef = _; rw [inv.old 16 (notDst_spec (by kernel_rfl))]; rfl)
                · obtain rfl := Option.some.inj hi
                  have hgu : a'.tmps.getD 140 undef = _ := pre_of hpre 17 140 (by kernel_rfl) (by kernel_rfl)
                  exact sq_value _ rfl (wanted_of 17 140 true rfl (by kernel_rfl) hgu) rfl (Below.refl _ _) (by decide) hS RB (by show a'.tmps.getD 13 undef = _; rw [inv.old 13 (notDst_spec (by kernel_rfl))]; rfl)
                · obtain rfl := Option.some.inj hi
                  have hgu : a'.tmps.getD 140 undef = _ := pre_of hpre 17 140 (by kernel_rfl) (by kernel_rfl)
                  have h0 : a'.tmps.getD 142 undef = _ := pre_of hpre 19 142 (by kernel_rfl) (by kernel_rfl)
                  exact sq_value _ rfl (wanted_of 17 140 true rfl (by kernel_rfl) hgu) (nil_run 142 _ rfl h0) (Below.refl _ _) (by decide) hS RB rfl
                · obtain rfl := Option.some.inj hi
                  have hgu : a'.tmps.getD 140 undef = _ := pre_of hpre 17 140 (by kernel_rfl) (by kernel_rfl)
                  have h0 : a'.tmps.getD 143 undef = _ := pre_of hpre 20 143 (by kernel_rfl) (by kernel_rfl)
                  exact sq_value _ rfl (wanted_of 17 140 true rfl (by kernel_rfl) hgu) (fa_run 42 0 143 dc rfl h0 (fa42_0 dc)) (Below.refl _ _) (by decide) hS RB rfl
                · obtain rfl := Option.some.inj hi
                  have hgu : a'.tmps.getD 140 undef = _ := pre_of hpre 17 140 (by kernel_rfl) (by kernel_rfl)
                  have h0 : a'.tmps.getD 144 undef = _ := pre_of hpre 21 144 (by kernel_rfl) (by kernel_rfl)
                  exact sq_value _ rfl (wanted_of 17 140 true rfl (by kernel_rfl) hgu) (load_run 22 144 dc (0) _ rfl h0 (ld22 ((HDC.out w' (ho.below (Nat.le_refl _) (by simp))).1))) (Below.refl _ _) (by decide) hS RB rfl
                · obtain rfl := Option.some.inj hi
                  have hgu : a'.tmps.getD 140 undef = _ := pre_of hpre 17 140 (by kernel_rfl) (by kernel_rfl)
                  have h0 : a'.tmps.getD 145 undef = _ := pre_of hpre 22 145 (by kernel_rfl) (by kernel_rfl)
                  exact sq_value _ rfl (wanted_of 17 140 true rfl (by kernel_rfl) hgu) (lenV_run 145 _ _ _ rfl h0) (Below.refl _ _) (by decide) hS RB rfl
                · obtain rfl := Option.some.inj hi
                  have hgu : a'.tmps.getD 140 undef = _ := pre_of hpre 17 140 (by kernel_rfl) (by kernel_rfl)
                  have h0 : a'.tmps.getD 141 undef = _ := pre_of hpre 18 141 (by kernel_rfl) (by kernel_rfl)
                  have h1 : a'.tmps.getD 146 undef = _ := pre_of hpre 23 146 (by kernel_rfl) (by kernel_rfl)
                  exact sq_value _ rfl (wanted_of 17 140 true rfl (by kernel_rfl) hgu) (lssN_run 141 146 _ _ rfl h0 h1) (Below.refl _ _) (by decide) hS RB (by show Value.bool _ = _; rw [HS2.out])
                · obtain rfl := Option.some.inj hi
                  have hgu : a'.tmps.getD 136 undef = _ := pre_of hpre 13 136 (by kernel_rfl) (by kernel_rfl)
                  have h0 : a'.tmps.getD 140 undef = _ := pre_of hpre 17 140 (by kernel_rfl) (by kernel_rfl)
                  have h1 : a'.tmps.getD 147 undef = _ := pre_of hpre 24 147 (by kernel_rfl) (by kernel_rfl)
                  exact sq_value _ rfl (wanted_of 13 136 false rfl (by kernel_rfl) hgu) (pick_run 140 true _ _ _ _ rfl h0 h1 rfl) (Below.refl _ _) (by decide) hS RB rfl
                · obtain rfl := Option.some.inj hi
                  have hgu : a'.tmps.getD 136 undef = _ := pre_of hpre 13 136 (by kernel_rfl) (by kernel_rfl)
                  have h0 : a'.tmps.getD 137 undef = _ := pre_of hpre 14 137 (by kernel_rfl) (by kernel_rfl)
                  have h1 : a'.tmps.getD 148 undef = _ := pre_of hpre 25 148 (by kernel_rfl) (by kernel_rfl)
                  exact sq_value _ rfl (wanted_of 13 136 false rfl (by kernel_rfl) hgu) (neqB_run 137 148 _ _ rfl h0 h1) (Below.refl _ _) (by decide) hS RB rfl
                · obtain rfl := Option.some.inj hi
                  have h0 : a'.tmps.getD 136 undef = _ := pre_of hpre 13 136 (by kernel_rfl) (by kernel_rfl)
                  have h1 : a'.tmps.getD 149 undef = _ := pre_of hpre 26 149 (by kernel_rfl) (by kernel_rfl)
                  exact sq_value _ rfl rfl (pick_run 136 false _ _ _ _ rfl h0 rfl h1) (Below.refl _ _) (by decide) hS RB rfl
                · obtain rfl := Option.some.inj hi
                  have h0 := pre_of hpre 27 150 (by kernel_rfl) (by kernel_rfl)
                  exact sq_value _ rfl rfl (rfl) (Below.refl _ _) (by decide) hS RB h0
                · obtain rfl := Option.some.inj hi
                  have hgu : a'.tmps.getD 151 undef = _ := pre_of hpre 28 151 (by kernel_rfl) (by kernel_rfl)
                  exact sq_value _ rfl (wanted_of 28 151 false rfl (by kernel_rfl) hgu) rfl (Below.refl _ _) (by decide) hS RB (by show a'.tmps.getD 18 undef = _; rw [inv.old 18 (notDst_spec (by kernel_rfl))]; rfl)
                · obtain rfl := Option.some.inj hi
                  have hgu : a'.tmps.getD 151 undef = _ := pre_of hpre 28 151 (by kernel_rfl) (by kernel_rfl)
                  have h0 := pre_of hpre 29 152 (by kernel_rfl) (by kernel_rfl)
                  exact sq_value _ rfl (wanted_of 28 151 false rfl (by kernel_rfl) hgu) (rfl) (Below.refl _ _) (by decide) hS RB h0
                · obtain rfl := Option.some.inj hi
                  have hgu : a'.tmps.getD 153 undef = _ := pre_of hpre 30 153 (by kernel_rfl) (by kernel_rfl)
                  exact sq_skip rfl (unwanted_of 30 153 false rfl (by kernel_rfl) hgu) (by decide) hS rfl
                · obtain rfl := Option.some.inj hi
                  have hgu : a'.tmps.getD 153 undef = _ := pre_of hpre 30 153 (by kernel_rfl) (by kernel_rfl)
                  exact sq_skip rfl (unwanted_of 30 153 false rfl (by kernel_rfl) hgu) (by decide) hS rfl
                · obtain rfl := Option.some.inj hi
                  have hgu : a'.tmps.getD 153 undef = _ := pre_of hpre 30 153 (by kernel_rfl) (by kernel_rfl)
                  exact sq_skip rfl (unwanted_of 30 153 false rfl (by kernel_rfl) hgu) (by decide) hS rfl
                · obtain rfl := Option.some.inj hi
                  have hgu : a'.tmps.getD 153 undef = _ := pre_of hpre 30 153 (by kernel_rfl) (by kernel_rfl)
                  exact sq_skip rfl (unwanted_of 30 153 false rfl (by kernel_rfl) hgu) (by decide) hS rfl
                · obtain rfl := Option.some.inj hi
                  have hgu : a'.tmps.getD 153 undef = _ := pre_of hpre 30 153 (by kernel_rfl) (by kernel_rfl)
                  exact sq_skip rfl (unwanted_of 30 153 false rfl (by kernel_rfl) hgu) (by decide) hS rfl
                · obtain rfl := Option.some.inj hi
                  have hgu : a'.tmps.getD 158 undef = _ := pre_of hpre 35 158 (by kernel_rfl) (by kernel_rfl)
                  exact sq_skip rfl (unwanted_undef 35 158 _ rfl (by kernel_rfl) hgu) (by decide) hS rfl
                · obtain rfl := Option.some.inj hi
                  have hgu : a'.tmps.getD 158 undef = _ := pre_of hpre 35 158 (by kernel_rfl) (by kernel_rfl)
                  exact sq_skip rfl (unwanted_undef 35 158 _ rfl (by kernel_rfl) hgu) (by decide) hS rfl
                · obtain rfl := Option.some.inj hi
                  have hgu : a'.tmps.getD 158 undef = _ := pre_of hpre 35 158 (by kernel_rfl) (by kernel_rfl)
                  exact sq_skip rfl (unwanted_undef 35 158 _ rfl (by kernel_rfl) hgu) (by decide) hS rfl
                · obtain rfl := Option.some.inj hi
                  have hgu : a'.tmps.getD 158 undef = _ := pre_of hpre 35 158 (by kernel_rfl) (by kernel_rfl)
                  exact sq_skip rfl (unwanted_undef 35 158 _ rfl (by kernel_rfl) hgu) (by decide) hS rfl
                · obtain rfl := Option.some.inj hi
                  have hgu : a'.tmps.getD 158 undef = _ := pre_of hpre 35 158 (by kernel_rfl) (by kernel_rfl)
                  exact sq_skip rfl (unwanted_undef 35 158 _ rfl (by kernel_rfl) hgu) (by decide) hS rfl
                · obtain rfl := Option.some.inj hi
                  have hgu : a'.tmps.getD 158 undef = _ := pre_of hpre 35 158 (by kernel_rfl) (by kernel_rfl)
                  exact sq_skip rfl (unwanted_undef 35 158 _ rfl (by kernel_rfl) hgu) (by decide) hS rfl
                · obtain rfl := Option.some.inj hi
                  have hgu : a'.tmps.getD 158 undef = _ := pre_of hpre 35 158 (by kernel_rfl) (by kernel_rfl)
                  exact sq_skip rfl (unwanted_undef 35 158 _ rfl (by kernel_rfl) hgu) (by decide) hS rfl
                · obtain rfl := Option.some.inj hi
                  have hgu : a'.tmps.getD 158 undef = _ := pre_of hpre 35 158 (by kernel_rfl) (by kernel_rfl)
                  exact sq_skip rfl (unwanted_undef 35 158 _ rfl (by kernel_rfl) hgu) (by decide) hS rfl
                · obtain rfl := Option.some.inj hi
                  have hgu : a'.tmps.getD 158 undef = _ := pre_of hpre 35 158 (by kernel_rfl) (by kernel_rfl)
                  exact sq_skip rfl (unwanted_undef 35 158 _ rfl (by kernel_rfl) hgu) (by decide) hS rfl
                · obtain rfl := Option.some.inj hi
                  have hgu : a'.tmps.getD 158 undef = _ := pre_of hpre 35 158 (by kernel_rfl) (by kernel_rfl)
                  exact sq_skip rfl (unwanted_undef 35 158 _ rfl (by kernel_rfl) hgu) (by decide) hS rfl
                · obtain rfl := Option.some.inj hi
                  have hgu : a'.tmps.getD 158 undef = _ := pre_of hpre 35 158 (by kernel_rfl) (by kernel_rfl)
                  exact sq_skip rfl (unwanted_undef 35 158 _ rfl (by kernel_rfl) hgu) (by decide) hS rfl
                · obtain rfl := Option.some.inj hi
                  have hgu : a'.tmps.getD 158 undef = _ := pre_of hpre 35 158 (by kernel_rfl) (by kernel_rfl)
                  exact sq_skip rfl (unwanted_undef 35 158 _ rfl (by kernel_rfl) hgu) (by decide) hS rfl
                · obtain rfl := Option.some.inj hi
                  have hgu : a'.tmps.getD 153 undef = _ := pre_of hpre 30 153 (by kernel_rfl) (by kernel_rfl)
                  exact sq_skip rfl (unwanted_of 30 153 false rfl (by kernel_rfl) hgu) (by decide) hS rfl
                · obtain rfl := Option.some.inj hi
                  have hgu : a'.tmps.getD 153 undef = _ := pre_of hpre 30 153 (by kernel_rfl) (by kernel_rfl)
                  exact sq_skip rfl (unwanted_of 30 153 false rfl (by kernel_rfl) hgu) (by decide) hS rfl
                · obtain rfl := Option.some.inj hi
                  have hgu : a'.tmps.getD 172 undef = _ := pre_of hpre 49 172 (by kernel_rfl) (by kernel_rfl)
                  exact sq_skip rfl (unwanted_undef 49 172 _ rfl (by kernel_rfl) hgu) (by decide) hS rfl
                · obtain rfl := Option.some.inj hi
                  have hgu : a'.tmps.getD 172 undef = _ := pre_of hpre 49 172 (by kernel_rfl) (by kernel_rfl)
                  exact sq_skip rfl (unwanted_undef 49 172 _ rfl (by kernel_rfl) hgu) (by decide) hS rfl
                · obtain rfl := Option.some.inj hi
                  have hgu : a'.tmps.getD 172 undef = _ := pre_of hpre 49 172 (by kernel_rfl) (by kernel_rfl)
                  exact sq_skip rfl (unwanted_undef 49 172 _ rfl (by kernel_rfl) hgu) (by decide) hS rfl
                · obtain rfl := Option.some.inj hi
                  have hgu : a'.tmps.getD 172 undef = _ := pre_of hpre 49 172 (by kernel_rfl) (by kernel_rfl)
                  exact sq_skip rfl (unwanted_undef 49 172 _ rfl (by kernel_rfl) hgu) (by decide) hS rfl
                · obtain rfl := Option.some.inj hi
                  have hgu : a'.tmps.getD 153 undef = _ := pre_of hpre 30 153 (by kernel_rfl) (by kernel_rfl)
                  exact sq_skip rfl (unwanted_of 30 153 false rfl (by kernel_rfl) hgu) (by decide) hS rfl
                · obtain rfl := Option.some.inj hi
                  have hgu : a'.tmps.getD 151 undef = _ := pre_of hpre 28 151 (by kernel_rfl) (by kernel_rfl)
                  have h0 : a'.tmps.getD 153 undef = _ := pre_of hpre 30 153 (by kernel_rfl) (by kernel_rfl)
                  exact sq_value _ rfl (wanted_of 28 151 false rfl (by kernel_rfl) hgu) (pick_run 153 false _ _ _ _ rfl h0 rfl rfl) (Below.refl _ _) (by decide) hS RB rfl
                · obtain rfl := Option.some.inj hi
                  have h0 : a'.tmps.getD 151 undef = _ := pre_of hpre 28 151 (by kernel_rfl) (by kernel_rfl)
                  have h1 : a'.tmps.getD 178 undef = _ := pre_of hpre 55 178 (by kernel_rfl) (by kernel_rfl)
                  exact sq_value _ rfl rfl (pick_run 151 false _ _ _ _ rfl h0 rfl h1) (Below.refl _ _) (by decide) hS RB rfl
                · obtain rfl := Option.some.inj hi
                  have h0 := pre_of hpre 56 179 (by kernel_rfl) (by kernel_rfl)
                  exact sq_value _ rfl rfl (rfl) (Below.refl _ _) (by decide) hS RB h0
                · obtain rfl := Option.some.inj hi
                  have hgu : a'.tmps.getD 180 undef = _ := pre_of hpre 57 180 (by kernel_rfl) (by kernel_rfl)
                  exact sq_value _ rfl (wanted_of 57 180 false rfl (by kernel_rfl) hgu) rfl (Below.refl _ _) (by decide) hS RB (by show a'.tmps.getD 20 undef = _; rw [inv.old 20 (notDst_spec (by kernel_rfl))]; rfl)
                · obtain rfl := Option.some.inj hi
                  have hgu : a'.tmps.getD 180 undef = _ := pre_of hpre 57 180 (by kernel_rfl) (by kernel_rfl)
                  have h0 := pre_of hpre 58 181 (by kernel_rfl) (by kernel_rfl)
                  exact sq_value _ rfl (wanted_of 57 180 false rfl (by kernel_rfl) hgu) (rfl) (Below.refl _ _) (by decide) hS RB h0
                · obtain rfl := Option.some.inj hi
                  have hgu : a'.tmps.getD 182 undef = _ := pre_of hpre 59 182 (by kernel_rfl) (by kernel_rfl)
                  exact sq_skip rfl (unwanted_of 59 182 false rfl (by kernel_rfl) hgu) (by decide) hS rfl
                · obtain rfl := Option.some.inj hi
                  have hgu : a'.tmps.getD 182 undef = _ := pre_of hpre 59 182 (by kernel_rfl) (by kernel_rfl)
                  exact sq_skip rfl (unwanted_of 59 182 false rfl (by kernel_rfl) hgu) (by decide) hS rfl
                · obtain rfl := Option.some.inj hi
                  have hgu : a'.tmps.getD 182 undef = _ := pre_of hpre 59 182 (by kernel_rfl) (by kernel_rfl)
                  exact sq_skip rfl (unwanted_of 59 182 false rfl (by kernel_rfl) hgu) (by decide) hS rfl
                · obtain rfl := Option.some.inj hi
                  have hgu : a'.tmps.getD 182 undef = _ := pre_of hpre 59 182 (by kernel_rfl) (by kernel_rfl)
                  exact sq_skip rfl (unwanted_of 59 182 false rfl (by kernel_rfl) hgu) (by decide) hS rfl
                · obtain rfl := Option.some.inj hi
                  have hgu : a'.tmps.getD 182 undef = _ := pre_of hpre 59 182 (by kernel_rfl) (by kernel_rfl)
                  exact sq_skip rfl (unwanted_of 59 182 false rfl (by kernel_rfl) hgu) (by decide) hS rfl
                · obtain rfl := Option.some.inj hi
                  have hgu : a'.tmps.getD 182 undef = _ := pre_of hpre 59 182 (by kernel_rfl) (by kernel_rfl)
                  exact sq_skip rfl (unwanted_of 59 182 false rfl (by kernel_rfl) hgu) (by decide) hS rfl
                · obtain rfl := Option.some.inj hi
                  have hgu : a'.tmps.getD 182 undef = _ := pre_of hpre 59 182 (by kernel_rfl) (by kernel_rfl)
                  exact sq_skip rfl (unwanted_of 59 182 false rfl (by kernel_rfl) hgu) (by decide) hS rfl
                · obtain rfl := Option.some.inj hi
                  have hgu : a'.tmps.getD 182 undef = _ := pre_of hpre 59 182 (by kernel_rfl) (by kernel_rfl)
                  exact sq_skip rfl (unwanted_of 59 182 false rfl (by kernel_rfl) hgu) (by decide) hS rfl
                · obtain rfl := Option.some.inj hi
                  have hgu : a'.tmps.getD 182 undef = _ := pre_of hpre 59 182 (by kernel_rfl) (by kernel_rfl)
                  exact sq_skip rfl (unwanted_of 59 182 false rfl (by kernel_rfl) hgu) (by decide) hS rfl
                · obtain rfl := Option.some.inj hi
                  have hgu : a'.tmps.getD 182 undef = _ := pre_of hpre 59 182 (by kernel_rfl) (by kernel_rfl)
                  exact sq_skip rfl (unwanted_of 59 182 false rfl (by kernel_rfl) hgu) (by decide) hS rfl
                · obtain rfl := Option.some.inj hi
                  have hgu : a'.tmps.getD 182 undef = _ := pre_of hpre 59 182 (by kernel_rfl) (by kernel_rfl)
                  exact sq_skip rfl (unwanted_of 59 182 false rfl (by kernel_rfl) hgu) (by decide) hS rfl
                · obtain rfl := Option.some.inj hi
                  have hgu : a'.tmps.getD 180 undef = _ := pre_of hpre 57 180 (by kernel_rfl) (by kernel_rfl)
                  have h0 : a'.tmps.getD 182 undef = _ := pre_of hpre 59 182 (by kernel_rfl) (by kernel_rfl)
                  exact sq_value _ rfl (wanted_of 57 180 false rfl (by kernel_rfl) hgu) (pick_run 182 false _ _ _ _ rfl h0 rfl rfl) (Below.refl _ _) (by decide) hS RB rfl
                · obtain rfl := Option.some.inj hi
                  have h0 : a'.tmps.getD 180 undef = _ := pre_of hpre 57 180 (by kernel_rfl) (by kernel_rfl)
                  have h1 : a'.tmps.getD 194 undef = _ := pre_of hpre 71 194 (by kernel_rfl) (by kernel_rfl)
                  exact sq_value _ rfl rfl (pick_run 180 false _ _ _ _ rfl h0 rfl h1) (Below.refl _ _) (by decide) hS RB rfl
              · intro a' w9 f inv hS hall hd
                have hk72 := hd 72 195 (by kernel_rfl)
                have ho : Only [] w6 w9 := inv.grow
                have hdf : a'.defers = [] := inv.defers
                have hsz : a'.tmps.size = 196 := inv.size
                have e := frame3_25 hsz (fun t ht => inv.old t (dstsIn_spec (ts := [123, 124, 125, 126, 127, 128, 129, 130, 131, 132, 133, 134, 135, 136, 137, 138, 139, 140, 141, 142, 143, 144, 145, 146, 147, 148, 149, 150, 151, 152, 153, 154, 155, 156, 157, 158, 159, 160, 161, 162, 163, 164, 165, 166, 167, 168, 169, 170, 171, 172, 173, 174, 175, 176, 177, 178, 179, 180, 181, 182, 183, 184, 185, 186, 187, 188, 189, 190, 191, 192, 193, 194, 195]) (by kernel_rfl) t ht))
                have hR := hS.done (fun c hc => hall c (show c < 73 by simp at hc <;> omega))
                clear inv hd hsz hall hS
                obtain ⟨tmps, defers⟩ := a'
                obtain rfl : defers = [] := hdf
                replace e : tmps = _ := e
                replace hk72 : tmps.getD 195 undef = (.bool false) := hk72
                generalize tmps.getD 123 undef = x123 at *
                generalize tmps.getD 124 undef = x124 at *
                generalize tmps.getD 125 undef = x125 at *
                generalize tmps.getD 126 undef = x126 at *
                generalize tmps.getD 127 undef = x127 at *
                generalize tmps.getD 128 undef = x128 at *
                generalize tmps.getD 129 undef = x129 at *
                generalize tmps.getD 130 undef = x130 at *
                generalize tmps.getD 131 undef = x131 at *
                generalize tmps.getD 132 undef = x132 at *
                generalize tmps.getD 133 undef = x133 at *
                generalize tmps.getD 134 undef = x134 at *
                generalize tmps.getD 135 undef = x135 at *
                generalize tmps.getD 136 undef = x136 at *
                generalize tmps.getD 137 undef = x137 at *
                generalize tmps.getD 138 undef = x138 at *
                generalize tmps.getD 139 undef = x139 at *
                generalize tmps.getD 140 undef = x140 at *
                generalize tmps.getD 141 undef = x141 at *
                generalize tmps.getD 142 undef = x142 at *
                generalize tmps.getD 143 undef = x143 at *
                generalize tmps.getD 144 undef = x144 at *
                generalize tmps.getD 145 undef = x145 at *
                generalize tmps.getD 146 undef = x146 at *
                generalize tmps.getD 147 undef = x147 at *
                generalize tmps.getD 148 undef = x148 at *
                generalize tmps.getD 149 undef = x149 at *
                generalize tmps.getD 150 undef = x150 at *
                generalize tmps.getD 151 undef = x151 at *
                generalize tmps.getD 152 undef = x152 at *
                generalize tmps.getD 153 undef = x153 at *
                generalize tmps.getD 154 undef = x154 at *
                generalize tmps.getD 155 undef = x155 at *
                generalize tmps.getD 156 undef = x156 at *
                generalize tmps.getD 157 undef = x157 at *
                generalize tmps.getD 158 undef = x158 at *
                generalize tmps.getD 159 undef = x159 at *
                generalize tmps.getD 160 undef = x160 at *
                generalize tmps.getD 161 undef = x161 at *
                generalize tmps.getD 162 undef = x162 at *
                generalize tmps.getD 163 undef = x163 at *
                generalize tmps.getD 164 undef = x164 at *
                generalize tmps.getD 165 undef = x165 at *
                generalize tmps.getD 166 undef = x166 at *
                generalize tmps.getD 167 undef = x167 at *
                generalize tmps.getD 168 undef = x168 at *
                generalize tmps.getD 169 undef = x169 at *
                generalize tmps.getD 170 undef = x170 at *
                generalize tmps.getD 171 undef = x171 at *
                generalize tmps.getD 172 undef = x172 at *
                generalize tmps.getD 173 undef = x173 at *
                generalize tmps.getD 174 undef = x174 at *
                generalize tmps.getD 175 undef = x175 at *
                generalize tmps.getD 176 undef = x176 at *
                generalize tmps.getD 177 undef = x177 at *
                generalize tmps.getD 178 undef = x178 at *
                generalize tmps.getD 179 undef = x179 at *
                generalize tmps.getD 180 undef = x180 at *
                generalize tmps.getD 181 undef = x181 at *
                generalize tmps.getD 182 undef = x182 at *
                generalize tmps.getD 183 undef = x183 at *
                generalize tmps.getD 184 undef = x184 at *
                generalize tmps.getD 185 undef = x185 at *
                generalize tmps.getD 186 undef = x186 at *
                generalize tmps.getD 187 undef = x187 at *
                generalize tmps.getD 188 undef = x188 at *
                generalize tmps.getD 189 undef = x189 at *
                generalize tmps.getD 190 undef = x190 at *
                generalize tmps.getD 191 undef = x191 at *
                generalize tmps.getD 192 undef = x192 at *
                generalize tmps.getD 193 undef = x193 at *
                generalize tmps.getD 194 undef = x194 at *
                generalize tmps.getD 195 undef = x195 at *
                simp only [Array.getD_eq_getD_getElem?, List.getElem?_toArray, List.getElem?_cons_succ, List.getElem?_cons_zero, Option.getD_some] at e
                subst e
                subst hk72
                have GZ : Hid (Pr2 B w9 p q m x c d dc L ls ss L ls ss ∧ Below B w w9) := G7.out w9 (ho.below (Nat.le_refl _) (by simp))
                clear ho hR G7
                go_wp2_with fail
                refine ⟨⟨((nl : Int) + 1) + 1, rfl, by omega, by omega, GZ⟩, ?_⟩
                simp only [intOf]
                omega
            obtain ⟨j, rfl⟩ : ∃ j : Nat, z = (j : Int) := ⟨z.toNat, by omega⟩
            have hjl : j ≤ nl := by omega
            obtain ⟨l, hl⟩ : ∃ l, ss[j]? = some l := ⟨_, List.getElem?_eq_getElem (by rw [hln, HNL.out]; omega)⟩
            have hl32 := HC.out.1.size hl
            have hc1 : (j : Int) ≤ (nl : Int) + 1 := by omega
            have k0 : (0 : Int) ≤ (j : Int) := by omega
            have HAT := one_at GK.out.1.one (j := j) (by rw [HNL.out]; exact hjl) hl (by omega)
            go_wp2_with fail
            refine HLN.out.mono ?_
            rintro e w5 ⟨rfl, hw⟩
            obtain rfl : wr = w5 := hw.symm
            clear hw
            go_wp2_with fail
            refine HAT.mono ?_
            rintro e w5 ⟨u, rfl, ho5, hb5⟩
            rw [hl32.1] at ho5
            obtain ⟨uq, uc, rfl⟩ := own_slice ho5
            obtain ⟨w6, HW6⟩ : ∃ w6, Hid (w5.alloc (.cells #[.int .i64 (j : Int), .slice uq 32 uc] 44) = w6) := ⟨_, rfl⟩
            have hb56 : Below w5.heap.size w5 w6 := by rw [← HW6.out]; exact below_alloc' w5 _
            have hb6 : Below wr.heap.size wr w6 := hb5.trans (hb56.mono hb5.size)
            obtain ⟨gd, hgd⟩ : ∃ gd, gd = w5.heap.size := ⟨_, rfl⟩
            have hz6 : w6.heap[gd]? = some (.cells #[.int .i64 (j : Int), .slice uq 32 uc] 44 (0, 0)) := by rw [← HW6.out, hgd]; exact heap_alloc_new w5 _
            have HD0 : Hid (∀ w', Below w6.heap.size w6 w' → w'.cell? ⟨gd, 0, none⟩ = some (.int .i64 (j : Int)) ∧ w'.cell? ⟨gd, 1, none⟩ = some (.slice uq 32 uc) ∧ w'.heap[gd]? = some (.cells #[.int .i64 (j : Int), .slice uq 32 uc] 44 (0, 0)) ∧ Src w' (.slice uq 32 uc) l) := fun w' hb => by
              have h1 : w'.heap[gd]? = some (.cells #[.int .i64 (j : Int), .slice uq 32 uc] 44 (0, 0)) := (hb.block gd (Array.getElem?_eq_some_iff.1 hz6).1).trans hz6
              exact ⟨by rw [cell_of_row _ _ _ _ _ _ h1]; rfl, by rw [cell_of_row _ _ _ _ _ _ h1]; rfl, h1, ((Src.own hl32.2 ho5).below hb56).below hb⟩
            have HCK : Hid (∀ w', Below w6.heap.size w6 w' → Calls Tryd.prog 18 #[.pointer (some ⟨c, 0, none⟩), .agg #[.int .i64 (j : Int), .slice uq 32 uc]] w' fun e w'' => e = .returned (.int .i64 0) ∧ Below w'.heap.size w' w'') := fun w' hb => one_check (GK.out.1.below (hb6.trans (hb.mono hb6.size))).one (by rw [HNL.out]; exact hjl) hl (((Src.own hl32.2 ho5).below hb56).below hb) (if_pos rfl)
            have G7 : Hid (∀ w', Below w6.heap.size w6 w' → Pr2 B w' p q m x c d dc L ls ss L ls ss ∧ Below B w w') := fun w' hb => ⟨GK.out.1.below (hb6.trans (hb.mono hb6.size)), GK.out.2.trans ((hb6.trans (hb.mono hb6.size)).mono GK.out.1.size)⟩
            have HG : Hid (decide ((0 : Int) ≤ (j : Int)) = true) := decide_eq_true (by omega)
            by_cases hnn : j = nl
            · obtain ⟨lq, lc, sgb, zc, q2, c2, hdcc⟩ := dcc_sum hdc hl
              rw [hln, HNL.out, HML.out, hl32.1] at hdcc
              have HLK := Link_none (hch.below hb6) (j : Int) (.inr (by rw [HNL.out]; omega))
              have HDC : Hid (∀ w', Below w6.heap.size w6 w' → w'.cell? ⟨dc, 0, none⟩ = some (.slice lq nl lc) ∧ w'.cell? ⟨dc, 1, none⟩ = some (.slice (some ⟨sgb, 0, none⟩) ml zc) ∧ w'.cell? ⟨sgb, 0 + j, none⟩ = some (.slice q2 32 c2) ∧ Src w' (.slice q2 32 c2) l ∧ True) := fun w' hb => by
                obtain ⟨x1, x2, x3, x4⟩ := hdcc w' (hb6.trans (hb.mono hb6.size))
                exact ⟨x1, x2, x3, x4, trivial⟩
              have HS1 : Hid (decide ((j : Int) < (ml : Int)) = true) := decide_eq_true (by have := HML.out; omega)
              have HS2 : Hid (decide ((j : Int) < (nl : Int)) = false) := decide_eq_false (by omega)
              have HJS : Hid (j < ml) := by have := HML.out; show _ < _; omega
              clear HAT ho5 hb5 hb6 hb56 hdcc hch hdc hln GK hz6 hl hl32 hnn
              go_wp2_with fail
              rw [HW6.out, ← hgd]
              clear HW6 hgd
              refine HLK.mono ?_
              rintro e w7 ⟨rfl, hw⟩
              obtain rfl : w6 = w7 := hw.symm
              clear hw HLK
              go_wp2_with fail
              have RB : ∀ k w w', Below w.heap.size w w' → (fun (_ : Nat) (_ : World) => True) k w → (fun (_ : Nat) (_ : World) => True) k w' := fun _ _ _ _ _ => trivial
              refine wp_region_st (pl25c c gd dc nl ml j sgb lq uq lc zc uc l) (fun u u' => Only [] u u') (SeqS [] (fun (_ : Nat) (_ : World) => True)) (by kernel_rfl) (only_drew _ _) (only_trans _) (pl25c_kept c gd dc nl ml j sgb lq uq lc zc uc l) (by kernel_rfl) (SeqS.start (trivial)) ?_ ?_
              · intro i o a' w' f hi inv hS hfi hfw hpre
                have ho : Only [] w6 w' := inv.grow
                have hlt : i < 73 := (Array.getElem?_eq_some_iff.1 hi).1
                obtain rfl|rfl|rfl|rfl|rfl|rfl|rfl|rfl|rfl|rfl|rfl|rfl|rfl|rfl|rfl|rfl|rfl|rfl|rfl|rfl|rfl|rfl|rfl|rfl|rfl|rfl|rfl|rfl|rfl|rfl|rfl|rfl|rfl|rfl|rfl|rfl|rfl|rfl|rfl|rfl|rfl|rfl|rfl|rfl|rfl|rfl|rfl|rfl|rfl|rfl|rfl|rfl|rfl|rfl|rfl|rfl|rfl|rfl|rfl|rfl|rfl|rfl|rfl|rfl|rfl|rfl|rfl|rfl|rfl|rfl|rfl|rfl|rfl : i = 0 ∨ i = 1 ∨ i = 2 ∨ i = 3 ∨ i = 4 ∨ i = 5 ∨ i = 6 ∨ i = 7 ∨ i = 8 ∨ i = 9 ∨ i = 10 ∨ i = 11 ∨ i = 12 ∨ i = 13 ∨ i = 14 ∨ i = 15 ∨ i = 16 ∨ i = 17 ∨ i = 18 ∨ i = 19 ∨ i = 20 ∨ i = 21 ∨ i = 22 ∨ i = 23 ∨ i = 24 ∨ i = 25 ∨ i = 26 ∨ i = 27 ∨ i = 28 ∨ i = 29 ∨ i = 30 ∨ i = 31 ∨ i = 32 ∨ i = 33 ∨ i = 34 ∨ i = 35 ∨ i = 36 ∨ i = 37 ∨ i = 38 ∨ i = 39 ∨ i = 40 ∨ i = 41 ∨ i = 42 ∨ i = 43 ∨ i = 44 ∨ i = 45 ∨ i = 46 ∨ i = 47 ∨ i = 48 ∨ i = 49 ∨ i = 50 ∨ i = 51 ∨ i = 52 ∨ i = 53 ∨ i = 54 ∨ i = 55 ∨ i = 56 ∨ i = 57 ∨ i = 58 ∨ i = 59 ∨ i = 60 ∨ i = 61 ∨ i = 62 ∨ i = 63 ∨ i = 64 ∨ i = 65 ∨ i = 66 ∨ i = 67 ∨ i = 68 ∨ i = 69 ∨ i = 70 ∨ i = 71 ∨ i = 72 := by omega
                · obtain rfl := Option.some.inj hi
                  exact sq_value _ rfl rfl rfl (Below.refl _ _) (by decide) hS RB (by show a'.tmps.getD 18 undef = _; rw [inv.old 18 (notDst_spec (by kernel_rfl))]; rfl)
                · obtain rfl := Option.some.inj hi
                  exact sq_value _ rfl rfl rfl (Below.refl _ _) (by decide) hS RB (by show a'.tmps.getD 16 undef = _; rw [inv.old 16 (notDst_spec (by kernel_rfl))]; rfl)
                · obtain rfl := Option.some.inj hi
                  have h0 : a'.tmps.getD 124 undef = _ := pre_of hpre 1 124 (by kernel_rfl) (by kernel_rfl)
                  exact sq_value _ rfl rfl (geqK_run 124 _ 0 rfl h0) (Below.refl _ _) (by decide) hS RB (by show Value.bool _ = _; rw [HG.out])
                · obtain rfl := Option.some.inj hi
                  have h0 := pre_of hpre 2 125 (by kernel_rfl) (by kernel_rfl)
                  exact sq_value _ rfl rfl (rfl) (Below.refl _ _) (by decide) hS RB h0
                · obtain rfl := Option.some.inj hi
                  have hgu : a'.tmps.getD 126 undef = _ := pre_of hpre 3 126 (by kernel_rfl) (by kernel_rfl)
                  exact sq_value _ rfl (wanted_of 3 126 true rfl (by kernel_rfl) hgu) rfl (Below.refl _ _) (by decide) hS RB (by show a'.tmps.getD 16 undef = _; rw [inv.old 16 (notDst_spec (by kernel_rfl))]; rfl)
                · obtain rfl := Option.some.inj hi
                  have hgu : a'.tmps.getD 126 undef = _ := pre_of hpre 3 126 (by kernel_rfl) (by kernel_rfl)
                  exact sq_value _ rfl (wanted_of 3 126 true rfl (by kernel_rfl) hgu) rfl (Below.refl _ _) (by decide) hS RB (by show a'.tmps.getD 13 undef = _; rw [inv.old 13 (notDst_spec (by kernel_rfl))]; rfl)
                · obtain rfl := Option.some.inj hi
                  have hgu : a'.tmps.getD 126 undef = _ := pre_of hpre 3 126 (by kernel_rfl) (by kernel_rfl)
                  have h0 : a'.tmps.getD 128 undef = _ := pre_of hpre 5 128 (by kernel_rfl) (by kernel_rfl)
                  exact sq_value _ rfl (wanted_of 3 126 true rfl (by kernel_rfl) hgu) (nil_run 128 _ rfl h0) (Below.refl _ _) (by decide) hS RB rfl
                · obtain rfl := Option.some.inj hi
                  have hgu : a'.tmps.getD 126 undef = _ := pre_of hpre 3 126 (by kernel_rfl) (by kernel_rfl)
                  have h0 : a'.tmps.getD 129 undef = _ := pre_of hpre 6 129 (by kernel_rfl) (by kernel_rfl)
                  exact sq_value _ rfl (wanted_of 3 126 true rfl (by kernel_rfl) hgu) (fa_run 42 1 129 dc rfl h0 (fa42_1 dc)) (Below.refl _ _) (by decide) hS RB rfl
                · obtain rfl := Option.some.inj hi
                  have hgu : a'.tmps.getD 126 undef = _ := pre_of hpre 3 126 (by kernel_rfl) (by kernel_rfl)
                  have h0 : a'.tmps.getD 130 undef = _ := pre_of hpre 7 130 (by kernel_rfl) (by kernel_rfl)
                  exact sq_value _ rfl (wanted_of 3 126 true rfl (by kernel_rfl) hgu) (load_run 22 130 dc (1) _ rfl h0 (ld22 ((HDC.out w' (ho.below (Nat.le_refl _) (by simp))).2.1))) (Below.refl _ _) (by decide) hS RB rfl
                · obtain rfl := Option.some.inj hi
                  have hgu : a'.tmps.getD 126 undef = _ := pre_of hpre 3 126 (by kernel_rfl) (by kernel_rfl)
                  have h0 : a'.tmps.getD 131 undef = _ := pre_of hpre 8 131 (by kernel_rfl) (by kernel_rfl)
                  exact sq_value _ rfl (wanted_of 3 126 true rfl (by kernel_rfl) hgu) (lenV_run 131 _ _ _ rfl h0) (Below.refl _ _) (by decide) hS RB rfl
                · obtain rfl := Option.some.inj hi
                  have hgu : a'.tmps.getD 126 undef = _ := pre_of hpre 3 126 (by kernel_rfl) (by kernel_rfl)
                  have h0 : a'.tmps.getD 127 undef = _ := pre_of hpre 4 127 (by kernel_rfl) (by kernel_rfl)
                  have h1 : a'.tmps.getD 132 undef = _ := pre_of hpre 9 132 (by kernel_rfl) (by kernel_rfl)
                  exact sq_value _ rfl (wanted_of 3 126 true rfl (by kernel_rfl) hgu) (lssN_run 127 132 _ _ rfl h0 h1) (Below.refl _ _) (by decide) hS RB (by show Value.bool _ = _; rw [HS1.out])
                · obtain rfl := Option.some.inj hi
                  have h0 : a'.tmps.getD 126 undef = _ := pre_of hpre 3 126 (by kernel_rfl) (by kernel_rfl)
                  have h1 : a'.tmps.getD 133 undef = _ := pre_of hpre 10 133 (by kernel_rfl) (by kernel_rfl)
                  exact sq_value _ rfl rfl (pick_run 126 true _ _ _ _ rfl h0 h1 rfl) (Below.refl _ _) (by decide) hS RB rfl
                · obtain rfl := Option.some.inj hi
                  have h0 : a'.tmps.getD 123 undef = _ := pre_of hpre 0 123 (by kernel_rfl) (by kernel_rfl)
                  have h1 : a'.tmps.getD 134 undef = _ := pre_of hpre 11 134 (by kernel_rfl) (by kernel_rfl)
                  exact sq_value _ rfl rfl (neqB_run 123 134 _ _ rfl h0 h1) (Below.refl _ _) (by decide) hS RB rfl
                · obtain rfl := Option.some.inj hi
                  have h0 := pre_of hpre 12 135 (by kernel_rfl) (by kernel_rfl)
                  exact sq_value _ rfl rfl (rfl) (Below.refl _ _) (by decide) hS RB h0
                · obtain rfl := Option.some.inj hi
                  have hgu : a'.tmps.getD 136 undef = _ := pre_of hpre 13 136 (by kernel_rfl) (by kernel_rfl)
                  exact sq_value _ rfl (wanted_of 13 136 false rfl (by kernel_rfl) hgu) rfl (Below.refl _ _) (by decide) hS RB (by show a'.tmps.getD 20 undef = _; rw [inv.old 20 (notDst_spec (by kernel_rfl))]; rfl)
                · obtain rfl := Option.some.inj hi
                  have hgu : a'.tmps.getD 136 undef = _ := pre_of hpre 13 136 (by kernel_rfl) (by kernel_rfl)
                  exact sq_value _ rfl (wanted_of 13 136 false rfl (by kernel_rfl) hgu) rfl (Below.refl _ _) (by decide) hS RB (by show a'.tmps.getD 16 undef = _; rw [inv.old 16 (notDst_spec (by kernel_rfl))]; rfl)
                · obtain rfl := Option.some.inj hi
                  have hgu : a'.tmps.getD 136 undef = _ := pre_of hpre 13 136 (by kernel_rfl) (by kernel_rfl)
                  have h0 : a'.tmps.getD 138 undef = _ := pre_of hpre 15 138 (by kernel_rfl) (by kernel_rfl)
                  exact sq_value _ rfl (wanted_of 13 136 false rfl (by kernel_rfl) hgu) (geqK_run 138 _ 0 rfl h0) (Below.refl _ _) (by decide) hS RB (by show Value.bool _ = _; rw [HG.out])
                · obtain rfl := Option.some.inj hi
                  have hgu : a'.tmps.getD 136 undef = _ := pre_of hpre 13 136 (by kernel_rfl) (by kernel_rfl)
                  have h0 := pre_of hpre 16 139 (by kernel_rfl) (by kernel_rfl)
                  exact sq_value _ rfl (wanted_of 13 136 false rfl (by kernel_rfl) hgu) (rfl) (Below.refl _ _) (by decide) hS RB h0
                · obtain rfl := Option.some.inj hi
                  have hgu : a'.tmps.getD 140 undef = _ := pre_of hpre 17 140 (by kernel_rfl) (by kernel_rfl)
                  exact sq_value _ rfl (wanted_of 17 140 true rfl (by kernel_rfl) hgu) rfl (Below.refl _ _) (by decide) hS RB (by show a'.tmps.getD 16 undef = _; rw [inv.old 16 (notDst_spec (by kernel_rfl))]; rfl)
                · obtain rfl := Option.some.inj hi
                  have hgu : a'.tmps.getD 140 undef = _ := pre_of hpre 17 140 (by kernel_rfl) (by kernel_rfl)
                  exact sq_value _ rfl (wanted_of 17 140 true rfl (by kernel_rfl) hgu) rfl (Below.refl _ _) (by decide) hS RB (by show a'.tmps.getD 13 undef = _; rw [inv.old 13 (notDst_spec (by kernel_rfl))]; rfl)
                · obtain rfl := Option.some.inj hi
                  have hgu : a'.tmps.getD 140 undef = _ := pre_of hpre 17 140 (by kernel_rfl) (by kernel_rfl)
                  have h0 : a'.tmps.getD 142 undef = _ := pre_of hpre 19 142 (by kernel_rfl) (by kernel_rfl)
                  exact sq_value _ rfl (wanted_of 17 140 true rfl (by kernel_rfl) hgu) (nil_run 142 _ rfl h0) (Below.refl _ _) (by decide) hS RB rfl
                · obtain rfl := Option.some.inj hi
                  have hgu : a'.tmps.getD 140 undef = _ := pre_of hpre 17 140 (by kernel_rfl) (by kernel_rfl)
                  have h0 : a'.tmps.getD 143 undef = _ := pre_of hpre 20 143 (by kernel_rfl) (by kernel_rfl)
                  exact sq_value _ rfl (wanted_of 17 140 true rfl (by kernel_rfl) hgu) (fa_run 42 0 143 dc rfl h0 (fa42_0 dc)) (Below.refl _ _) (by decide) hS RB rfl
                · obtain rfl := Option.some.inj hi
                  have hgu : a'.tmps.getD 140 undef = _ := pre_of hpre 17 140 (by kernel_rfl) (by kernel_rfl)
                  have h0 : a'.tmps.getD 144 undef = _ := pre_of hpre 21 144 (by kernel_rfl) (by kernel_rfl)
                  exact sq_value _ rfl (wanted_of 17 140 true rfl (by kernel_rfl) hgu) (load_run 22 144 dc (0) _ rfl h0 (ld22 ((HDC.out w' (ho.below (Nat.le_refl _) (by simp))).1))) (Below.refl _ _) (by decide) hS RB rfl
                · obtain rfl := Option.some.inj hi
                  have hgu : a'.tmps.getD 140 undef = _ := pre_of hpre 17 140 (by kernel_rfl) (by kernel_rfl)
                  have h0 : a'.tmps.getD 145 undef = _ := pre_of hpre 22 145 (by kernel_rfl) (by kernel_rfl)
                  exact sq_value _ rfl (wanted_of 17 140 true rfl (by kernel_rfl) hgu) (lenV_run 145 _ _ _ rfl h0) (Below.refl _ _) (by decide) hS RB rfl
                · obtain rfl := Option.some.inj hi
                  have hgu : a'.tmps.getD 140 undef = _ := pre_of hpre 17 140 (by kernel_rfl) (by kernel_rfl)
                  have h0 : a'.tmps.getD 141 undef = _ := pre_of hpre 18 141 (by kernel_rfl) (by kernel_rfl)
                  have h1 : a'.tmps.getD 146 undef = _ := pre_of hpre 23 146 (by kernel_rfl) (by kernel_rfl)
                  exact sq_value _ rfl (wanted_of 17 140 true rfl (by kernel_rfl) hgu) (lssN_run 141 146 _ _ rfl h0 h1) (Below.refl _ _) (by decide) hS RB (by show Value.bool _ = _; rw [HS2.out])
                · obtain rfl := Option.some.inj hi
                  have hgu : a'.tmps.getD 136 undef = _ := pre_of hpre 13 136 (by kernel_rfl) (by kernel_rfl)
                  have h0 : a'.tmps.getD 140 undef = _ := pre_of hpre 17 140 (by kernel_rfl) (by kernel_rfl)
                  have h1 : a'.tmps.getD 147 undef = _ := pre_of hpre 24 147 (by kernel_rfl) (by kernel_rfl)
                  exact sq_value _ rfl (wanted_of 13 136 false rfl (by kernel_rfl) hgu) (pick_run 140 true _ _ _ _ rfl h0 h1 rfl) (Below.refl _ _) (by decide) hS RB rfl
                · obtain rfl := Option.some.inj hi
                  have hgu : a'.tmps.getD 136 undef = _ := pre_of hpre 13 136 (by kernel_rfl) (by kernel_rfl)
                  have h0 : a'.tmps.getD 137 undef = _ := pre_of hpre 14 137 (by kernel_rfl) (by kernel_rfl)
                  have h1 : a'.tmps.getD 148 undef = _ := pre_of hpre 25 148 (by kernel_rfl) (by kernel_rfl)
                  exact sq_value _ rfl (wanted_of 13 136 false rfl (by kernel_rfl) hgu) (neqB_run 137 148 _ _ rfl h0 h1) (Below.refl _ _) (by decide) hS RB rfl
                · obtain rfl := Option.some.inj hi
                  have h0 : a'.tmps.getD 136 undef = _ := pre_of hpre 13 136 (by kernel_rfl) (by kernel_rfl)
                  have h1 : a'.tmps.getD 149 undef = _ := pre_of hpre 26 149 (by kernel_rfl) (by kernel_rfl)
                  exact sq_value _ rfl rfl (pick_run 136 false _ _ _ _ rfl h0 rfl h1) (Below.refl _ _) (by decide) hS RB rfl
                · obtain rfl := Option.some.inj hi
                  have h0 := pre_of hpre 27 150 (by kernel_rfl) (by kernel_rfl)
                  exact sq_value _ rfl rfl (rfl) (Below.refl _ _) (by decide) hS RB h0
                · obtain rfl := Option.some.inj hi
                  have hgu : a'.tmps.getD 151 undef = _ := pre_of hpre 28 151 (by kernel_rfl) (by kernel_rfl)
                  exact sq_value _ rfl (wanted_of 28 151 false rfl (by kernel_rfl) hgu) rfl (Below.refl _ _) (by decide) hS RB (by show a'.tmps.getD 18 undef = _; rw [inv.old 18 (notDst_spec (by kernel_rfl))]; rfl)
                · obtain rfl := Option.some.inj hi
                  have hgu : a'.tmps.getD 151 undef = _ := pre_of hpre 28 151 (by kernel_rfl) (by kernel_rfl)
                  have h0 := pre_of hpre 29 152 (by kernel_rfl) (by kernel_rfl)
                  exact sq_value _ rfl (wanted_of 28 151 false rfl (by kernel_rfl) hgu) (rfl) (Below.refl _ _) (by decide) hS RB h0
                · obtain rfl := Option.some.inj hi
                  have hgu : a'.tmps.getD 153 undef = _ := pre_of hpre 30 153 (by kernel_rfl) (by kernel_rfl)
                  have h0 : a'.tmps.getD 17 undef = (.pointer (some ⟨gd, 0, none⟩)) := by rw [inv.old 17 (notDst_spec (by kernel_rfl))]; rfl
                  exact sq_value _ rfl (wanted_of 30 153 true rfl (by kernel_rfl) hgu) (fa_run 44 0 17 gd rfl h0 (fa44_0 gd)) (Below.refl _ _) (by decide) hS RB rfl
                · obtain rfl := Option.some.inj hi
                  have hgu : a'.tmps.getD 153 undef = _ := pre_of hpre 30 153 (by kernel_rfl) (by kernel_rfl)
                  have h0 : a'.tmps.getD 154 undef = _ := pre_of hpre 31 154 (by kernel_rfl) (by kernel_rfl)
                  exact sq_value _ rfl (wanted_of 30 153 true rfl (by kernel_rfl) hgu) (load_run 3 154 gd (0) _ rfl h0 (ld3 ((HD0.out w' (ho.below (Nat.le_refl _) (by simp))).1))) (Below.refl _ _) (by decide) hS RB rfl
                · obtain rfl := Option.some.inj hi
                  have hgu : a'.tmps.getD 153 undef = _ := pre_of hpre 30 153 (by kernel_rfl) (by kernel_rfl)
                  exact sq_value _ rfl (wanted_of 30 153 true rfl (by kernel_rfl) hgu) rfl (Below.refl _ _) (by decide) hS RB (by show a'.tmps.getD 16 undef = _; rw [inv.old 16 (notDst_spec (by kernel_rfl))]; rfl)
                · obtain rfl := Option.some.inj hi
                  have hgu : a'.tmps.getD 153 undef = _ := pre_of hpre 30 153 (by kernel_rfl) (by kernel_rfl)
                  have h0 : a'.tmps.getD 155 undef = _ := pre_of hpre 32 155 (by kernel_rfl) (by kernel_rfl)
                  have h1 : a'.tmps.getD 156 undef = _ := pre_of hpre 33 156 (by kernel_rfl) (by kernel_rfl)
                  exact sq_value _ rfl (wanted_of 30 153 true rfl (by kernel_rfl) hgu) (neqN_run 155 156 _ _ rfl h0 h1) (Below.refl _ _) (by decide) hS RB (by show Value.bool _ = _; simp)
                · obtain rfl := Option.some.inj hi
                  have hgu : a'.tmps.getD 153 undef = _ := pre_of hpre 30 153 (by kernel_rfl) (by kernel_rfl)
                  have h0 := pre_of hpre 34 157 (by kernel_rfl) (by kernel_rfl)
                  exact sq_value _ rfl (wanted_of 30 153 true rfl (by kernel_rfl) hgu) (rfl) (Below.refl _ _) (by decide) hS RB h0
                · obtain rfl := Option.some.inj hi
                  have hgu : a'.tmps.getD 158 undef = _ := pre_of hpre 35 158 (by kernel_rfl) (by kernel_rfl)
                  have h0 : a'.tmps.getD 17 undef = (.pointer (some ⟨gd, 0, none⟩)) := by rw [inv.old 17 (notDst_spec (by kernel_rfl))]; rfl
                  exact sq_value _ rfl (wanted_of 35 158 false rfl (by kernel_rfl) hgu) (fa_run 44 1 17 gd rfl h0 (fa44_1 gd)) (Below.refl _ _) (by decide) hS RB rfl
                · obtain rfl := Option.some.inj hi
                  have hgu : a'.tmps.getD 158 undef = _ := pre_of hpre 35 158 (by kernel_rfl) (by kernel_rfl)
                  have h0 : a'.tmps.getD 159 undef = _ := pre_of hpre 36 159 (by kernel_rfl) (by kernel_rfl)
                  exact sq_value _ rfl (wanted_of 35 158 false rfl (by kernel_rfl) hgu) (load_run 23 159 gd (1) _ rfl h0 (ld23 ((HD0.out w' (ho.below (Nat.le_refl _) (by simp))).2.1))) (Below.refl _ _) (by decide) hS RB (⟨(HD0.out w' (ho.below (Nat.le_refl _) (by simp))).2.2.2, fun _ b _ hb => by cases hb⟩)
                · obtain rfl := Option.some.inj hi
                  have hgu : a'.tmps.getD 158 undef = _ := pre_of hpre 35 158 (by kernel_rfl) (by kernel_rfl)
                  have h0 := pre_of hpre 37 160 (by kernel_rfl) (by kernel_rfl)
                  exact sq_value _ rfl (wanted_of 35 158 false rfl (by kernel_rfl) hgu) (conv_run 160 rfl (h0.1)) (Below.refl _ _) (by decide) hS RB rfl
                · obtain rfl := Option.some.inj hi
                  have hgu : a'.tmps.getD 158 undef = _ := pre_of hpre 35 158 (by kernel_rfl) (by kernel_rfl)
                  exact sq_value _ rfl (wanted_of 35 158 false rfl (by kernel_rfl) hgu) rfl (Below.refl _ _) (by decide) hS RB (by show a'.tmps.getD 13 undef = _; rw [inv.old 13 (notDst_spec (by kernel_rfl))]; rfl)
                · obtain rfl := Option.some.inj hi
                  have hgu : a'.tmps.getD 158 undef = _ := pre_of hpre 35 158 (by kernel_rfl) (by kernel_rfl)
                  have h0 : a'.tmps.getD 162 undef = _ := pre_of hpre 39 162 (by kernel_rfl) (by kernel_rfl)
                  exact sq_value _ rfl (wanted_of 35 158 false rfl (by kernel_rfl) hgu) (nil_run 162 _ rfl h0) (Below.refl _ _) (by decide) hS RB rfl
                · obtain rfl := Option.some.inj hi
                  have hgu : a'.tmps.getD 158 undef = _ := pre_of hpre 35 158 (by kernel_rfl) (by kernel_rfl)
                  have h0 : a'.tmps.getD 163 undef = _ := pre_of hpre 40 163 (by kernel_rfl) (by kernel_rfl)
                  exact sq_value _ rfl (wanted_of 35 158 false rfl (by kernel_rfl) hgu) (fa_run 42 1 163 dc rfl h0 (fa42_1 dc)) (Below.refl _ _) (by decide) hS RB rfl
                · obtain rfl := Option.some.inj hi
                  have hgu : a'.tmps.getD 158 undef = _ := pre_of hpre 35 158 (by kernel_rfl) (by kernel_rfl)
                  have h0 : a'.tmps.getD 164 undef = _ := pre_of hpre 41 164 (by kernel_rfl) (by kernel_rfl)
                  exact sq_value _ rfl (wanted_of 35 158 false rfl (by kernel_rfl) hgu) (load_run 22 164 dc (1) _ rfl h0 (ld22 ((HDC.out w' (ho.below (Nat.le_refl _) (by simp))).2.1))) (Below.refl _ _) (by decide) hS RB rfl
                · obtain rfl := Option.some.inj hi
                  have hgu : a'.tmps.getD 158 undef = _ := pre_of hpre 35 158 (by kernel_rfl) (by kernel_rfl)
                  exact sq_value _ rfl (wanted_of 35 158 false rfl (by kernel_rfl) hgu) rfl (Below.refl _ _) (by decide) hS RB (by show a'.tmps.getD 16 undef = _; rw [inv.old 16 (notDst_spec (by kernel_rfl))]; rfl)
                · obtain rfl := Option.some.inj hi
                  have hgu : a'.tmps.getD 158 undef = _ := pre_of hpre 35 158 (by kernel_rfl) (by kernel_rfl)
                  have h0 : a'.tmps.getD 165 undef = _ := pre_of hpre 42 165 (by kernel_rfl) (by kernel_rfl)
                  have h1 : a'.tmps.getD 166 undef = _ := pre_of hpre 43 166 (by kernel_rfl) (by kernel_rfl)
                  exact sq_value _ rfl (wanted_of 35 158 false rfl (by kernel_rfl) hgu) (idx22_run 165 166 sgb 0 ml zc j rfl h0 h1 HJS.out) (Below.refl _ _) (by decide) hS RB rfl
                · obtain rfl := Option.some.inj hi
                  have hgu : a'.tmps.getD 158 undef = _ := pre_of hpre 35 158 (by kernel_rfl) (by kernel_rfl)
                  have h0 : a'.tmps.getD 167 undef = _ := pre_of hpre 44 167 (by kernel_rfl) (by kernel_rfl)
                  exact sq_value _ rfl (wanted_of 35 158 false rfl (by kernel_rfl) hgu) (load_run 23 167 sgb (0 + j) _ rfl h0 (ld23 ((HDC.out w' (ho.below (Nat.le_refl _) (by simp))).2.2.1))) (Below.refl _ _) (by decide) hS RB (⟨(HDC.out w' (ho.below (Nat.le_refl _) (by simp))).2.2.2.1, fun _ b _ hb => by cases hb⟩)
                · obtain rfl := Option.some.inj hi
                  have hgu : a'.tmps.getD 158 undef = _ := pre_of hpre 35 158 (by kernel_rfl) (by kernel_rfl)
                  have h0 := pre_of hpre 45 168 (by kernel_rfl) (by kernel_rfl)
                  exact sq_value _ rfl (wanted_of 35 158 false rfl (by kernel_rfl) hgu) (conv_run 168 rfl (h0.1)) (Below.refl _ _) (by decide) hS RB rfl
                · obtain rfl := Option.some.inj hi
                  have hgu : a'.tmps.getD 158 undef = _ := pre_of hpre 35 158 (by kernel_rfl) (by kernel_rfl)
                  have h0 : a'.tmps.getD 161 undef = _ := pre_of hpre 38 161 (by kernel_rfl) (by kernel_rfl)
                  have h1 : a'.tmps.getD 169 undef = _ := pre_of hpre 46 169 (by kernel_rfl) (by kernel_rfl)
                  exact sq_value _ rfl (wanted_of 35 158 false rfl (by kernel_rfl) hgu) (neqS_run 161 169 _ _ rfl h0 h1) (Below.refl _ _) (by decide) hS RB (by show Value.bool _ = _; simp)
                · obtain rfl := Option.some.inj hi
                  have hgu : a'.tmps.getD 153 undef = _ := pre_of hpre 30 153 (by kernel_rfl) (by kernel_rfl)
                  have h0 : a'.tmps.getD 158 undef = _ := pre_of hpre 35 158 (by kernel_rfl) (by kernel_rfl)
                  have h1 : a'.tmps.getD 170 undef = _ := pre_of hpre 47 170 (by kernel_rfl) (by kernel_rfl)
                  exact sq_value _ rfl (wanted_of 30 153 true rfl (by kernel_rfl) hgu) (pick_run 158 false _ _ _ _ rfl h0 rfl h1) (Below.refl _ _) (by decide) hS RB rfl
                · obtain rfl := Option.some.inj hi
                  have hgu : a'.tmps.getD 153 undef = _ := pre_of hpre 30 153 (by kernel_rfl) (by kernel_rfl)
                  have h0 := pre_of hpre 48 171 (by kernel_rfl) (by kernel_rfl)
                  exact sq_value _ rfl (wanted_of 30 153 true rfl (by kernel_rfl) hgu) (rfl) (Below.refl _ _) (by decide) hS RB h0
                · obtain rfl := Option.some.inj hi
                  have hgu : a'.tmps.getD 172 undef = _ := pre_of hpre 49 172 (by kernel_rfl) (by kernel_rfl)
                  exact sq_value _ rfl (wanted_of 49 172 false rfl (by kernel_rfl) hgu) rfl (Below.refl _ _) (by decide) hS RB (by show a'.tmps.getD 11 undef = _; rw [inv.old 11 (notDst_spec (by kernel_rfl))]; rfl)
                · obtain rfl := Option.some.inj hi
                  have hgu : a'.tmps.getD 172 undef = _ := pre_of hpre 49 172 (by kernel_rfl) (by kernel_rfl)
                  have h0 : a'.tmps.getD 17 undef = (.pointer (some ⟨gd, 0, none⟩)) := by rw [inv.old 17 (notDst_spec (by kernel_rfl))]; rfl
                  exact sq_value _ rfl (wanted_of 49 172 false rfl (by kernel_rfl) hgu) (load44_run 17 gd _ _ rfl h0 (HD0.out w' (ho.below (Nat.le_refl _) (by simp))).2.2.1) (Below.refl _ _) (by decide) hS RB rfl
                · obtain rfl := Option.some.inj hi
                  have hgu : a'.tmps.getD 172 undef = _ := pre_of hpre 49 172 (by kernel_rfl) (by kernel_rfl)
                  have h0 : a'.tmps.getD 173 undef = _ := pre_of hpre 50 173 (by kernel_rfl) (by kernel_rfl)
                  have h1 : a'.tmps.getD 174 undef = _ := pre_of hpre 51 174 (by kernel_rfl) (by kernel_rfl)
                  refine sq_quiet 18 #[a'.tmps.getD 173 undef, a'.tmps.getD 174 undef] rfl (wanted_of 49 172 false rfl (by kernel_rfl) hgu) (by kernel_rfl) (by decide) hS ?_
                  rw [h0, h1]
                  exact (HCK.out w' (ho.below (Nat.le_refl _) (by simp))).mono (by rintro e u ⟨rfl, hu⟩; exact ⟨_, rfl, Only.of_below hu _, (fun _ _ => trivial), rfl⟩)
                · obtain rfl := Option.some.inj hi
                  have hgu : a'.tmps.getD 172 undef = _ := pre_of hpre 49 172 (by kernel_rfl) (by kernel_rfl)
                  have h0 : a'.tmps.getD 175 undef = _ := pre_of hpre 52 175 (by kernel_rfl) (by kernel_rfl)
                  exact sq_value _ rfl (wanted_of 49 172 false rfl (by kernel_rfl) hgu) (neqE_run 175 _ 0 rfl h0) (Below.refl _ _) (by decide) hS RB rfl
                · obtain rfl := Option.some.inj hi
                  have hgu : a'.tmps.getD 153 undef = _ := pre_of hpre 30 153 (by kernel_rfl) (by kernel_rfl)
                  have h0 : a'.tmps.getD 172 undef = _ := pre_of hpre 49 172 (by kernel_rfl) (by kernel_rfl)
                  have h1 : a'.tmps.getD 176 undef = _ := pre_of hpre 53 176 (by kernel_rfl) (by kernel_rfl)
                  exact sq_value _ rfl (wanted_of 30 153 true rfl (by kernel_rfl) hgu) (pick_run 172 false _ _ _ _ rfl h0 rfl h1) (Below.refl _ _) (by decide) hS RB rfl
                · obtain rfl := Option.some.inj hi
                  have hgu : a'.tmps.getD 151 undef = _ := pre_of hpre 28 151 (by kernel_rfl) (by kernel_rfl)
                  have h0 : a'.tmps.getD 153 undef = _ := pre_of hpre 30 153 (by kernel_rfl) (by kernel_rfl)
                  have h1 : a'.tmps.getD 177 undef = _ := pre_of hpre 54 177 (by kernel_rfl) (by kernel_rfl)
                  exact sq_value _ rfl (wanted_of 28 151 false rfl (by kernel_rfl) hgu) (pick_run 153 true _ _ _ _ rfl h0 h1 rfl) (Below.refl _ _) (by decide) hS RB rfl
                · obtain rfl := Option.some.inj hi
                  have h0 : a'.tmps.getD 151 undef = _ := pre_of hpre 28 151 (by kernel_rfl) (by kernel_rfl)
                  have h1 : a'.tmps.getD 178 undef = _ := pre_of hpre 55 178 (by kernel_rfl) (by kernel_rfl)
                  exact sq_value _ rfl rfl (pick_run 151 false _ _ _ _ rfl h0 rfl h1) (Below.refl _ _) (by decide) hS RB rfl
                · obtain rfl := Option.some.inj hi
                  have h0 := pre_of hpre 56 179 (by kernel_rfl) (by kernel_rfl)
                  exact sq_value _ rfl rfl (rfl) (Below.refl _ _) (by decide) hS RB h0
                · obtain rfl := Option.some.inj hi
                  have hgu : a'.tmps.getD 180 undef = _ := pre_of hpre 57 180 (by kernel_rfl) (by kernel_rfl)
                  exact sq_value _ rfl (wanted_of 57 180 false rfl (by kernel_rfl) hgu) rfl (Below.refl _ _) (by decide) hS RB (by show a'.tmps.getD 20 undef = _; rw [inv.old 20 (notDst_spec (by kernel_rfl))]; rfl)
                · obtain rfl := Option.some.inj hi
                  have hgu : a'.tmps.getD 180 undef = _ := pre_of hpre 57 180 (by kernel_rfl) (by kernel_rfl)
                  have h0 := pre_of hpre 58 181 (by kernel_rfl) (by kernel_rfl)
                  exact sq_value _ rfl (wanted_of 57 180 false rfl (by kernel_rfl) hgu) (rfl) (Below.refl _ _) (by decide) hS RB h0
                · obtain rfl := Option.some.inj hi
                  have hgu : a'.tmps.getD 182 undef = _ := pre_of hpre 59 182 (by kernel_rfl) (by kernel_rfl)
                  exact sq_skip rfl (unwanted_of 59 182 false rfl (by kernel_rfl) hgu) (by decide) hS rfl
                · obtain rfl := Option.some.inj hi
                  have hgu : a'.tmps.getD 182 undef = _ := pre_of hpre 59 182 (by kernel_rfl) (by kernel_rfl)
                  exact sq_skip rfl (unwanted_of 59 182 false rfl (by kernel_rfl) hgu) (by decide) hS rfl
                · obtain rfl := Option.some.inj hi
                  have hgu : a'.tmps.getD 182 undef = _ := pre_of hpre 59 182 (by kernel_rfl) (by kernel_rfl)
                  exact sq_skip rfl (unwanted_of 59 182 false rfl (by kernel_rfl) hgu) (by decide) hS rfl
                · obtain rfl := Option.some.inj hi
                  have hgu : a'.tmps.getD 182 undef = _ := pre_of hpre 59 182 (by kernel_rfl) (by kernel_rfl)
                  exact sq_skip rfl (unwanted_of 59 182 false rfl (by kernel_rfl) hgu) (by decide) hS rfl
                · obtain rfl := Option.some.inj hi
                  have hgu : a'.tmps.getD 182 undef = _ := pre_of hpre 59 182 (by kernel_rfl) (by kernel_rfl)
                  exact sq_skip rfl (unwanted_of 59 182 false rfl (by kernel_rfl) hgu) (by decide) hS rfl
                · obtain rfl := Option.some.inj hi
                  have hgu : a'.tmps.getD 182 undef = _ := pre_of hpre 59 182 (by kernel_rfl) (by kernel_rfl)
                  exact sq_skip rfl (unwanted_of 59 182 false rfl (by kernel_rfl) hgu) (by decide) hS rfl
                · obtain rfl := Option.some.inj hi
                  have hgu : a'.tmps.getD 182 undef = _ := pre_of hpre 59 182 (by kernel_rfl) (by kernel_rfl)
                  exact sq_skip rfl (unwanted_of 59 182 false rfl (by kernel_rfl) hgu) (by decide) hS rfl
                · obtain rfl := Option.some.inj hi
                  have hgu : a'.tmps.getD 182 undef = _ := pre_of hpre 59 182 (by kernel_rfl) (by kernel_rfl)
                  exact sq_skip rfl (unwanted_of 59 182 false rfl (by kernel_rfl) hgu) (by decide) hS rfl
                · obtain rfl := Option.some.inj hi
                  have hgu : a'.tmps.getD 182 undef = _ := pre_of hpre 59 182 (by kernel_rfl) (by kernel_rfl)
                  exact sq_skip rfl (unwanted_of 59 182 false rfl (by kernel_rfl) hgu) (by decide) hS rfl
                · obtain rfl := Option.some.inj hi
                  have hgu : a'.tmps.getD 182 undef = _ := pre_of hpre 59 182 (by kernel_rfl) (by kernel_rfl)
                  exact sq_skip rfl (unwanted_of 59 182 false rfl (by kernel_rfl) hgu) (by decide) hS rfl
                · obtain rfl := Option.some.inj hi
                  have hgu : a'.tmps.getD 182 undef = _ := pre_of hpre 59 182 (by kernel_rfl) (by kernel_rfl)
                  exact sq_skip rfl (unwanted_of 59 182 false rfl (by kernel_rfl) hgu) (by decide) hS rfl
                · obtain rfl := Option.some.inj hi
                  have hgu : a'.tmps.getD 180 undef = _ := pre_of hpre 57 180 (by kernel_rfl) (by kernel_rfl)
                  have h0 : a'.tmps.getD 182 undef = _ := pre_of hpre 59 182 (by kernel_rfl) (by kernel_rfl)
                  exact sq_value _ rfl (wanted_of 57 180 false rfl (by kernel_rfl) hgu) (pick_run 182 false _ _ _ _ rfl h0 rfl rfl) (Below.refl _ _) (by decide) hS RB rfl
                · obtain rfl := Option.some.inj hi
                  have h0 : a'.tmps.getD 180 undef = _ := pre_of hpre 57 180 (by kernel_rfl) (by kernel_rfl)
                  have h1 : a'.tmps.getD 194 undef = _ := pre_of hpre 71 194 (by kernel_rfl) (by kernel_rfl)
                  exact sq_value _ rfl rfl (pick_run 180 false _ _ _ _ rfl h0 rfl h1) (Below.refl _ _) (by decide) hS RB rfl
              · intro a' w9 f inv hS hall hd
                have hk72 := hd 72 195 (by kernel_rfl)
                have ho : Only [] w6 w9 := inv.grow
                have hdf : a'.defers = [] := inv.defers
                have hsz : a'.tmps.size = 196 := inv.size
                have e := frame3_25 hsz (fun t ht => inv.old t (dstsIn_spec (ts := [123, 124, 125, 126, 127, 128, 129, 130, 131, 132, 133, 134, 135, 136, 137, 138, 139, 140, 141, 142, 143, 144, 145, 146, 147, 148, 149, 150, 151, 152, 153, 154, 155, 156, 157, 158, 159, 160, 161, 162, 163, 164, 165, 166, 167, 168, 169, 170, 171, 172, 173, 174, 175, 176, 177, 178, 179, 180, 181, 182, 183, 184, 185, 186, 187, 188, 189, 190, 191, 192, 193, 194, 195]) (by kernel_rfl) t ht))
                have hR := hS.done (fun c hc => hall c (show c < 73 by simp at hc <;> omega))
                clear inv hd hsz hall hS
                obtain ⟨tmps, defers⟩ := a'
                obtain rfl : defers = [] := hdf
                replace e : tmps = _ := e
                replace hk72 : tmps.getD 195 undef = (.bool false) := hk72
                generalize tmps.getD 123 undef = x123 at *
                generalize tmps.getD 124 undef = x124 at *
                generalize tmps.getD 125 undef = x125 at *
                generalize tmps.getD 126 undef = x126 at *
                generalize tmps.getD 127 undef = x127 at *
                generalize tmps.getD 128 undef = x128 at *
                generalize tmps.getD 129 undef = x129 at *
                generalize tmps.getD 130 undef = x130 at *
                generalize tmps.getD 131 undef = x131 at *
                generalize tmps.getD 132 undef = x132 at *
                generalize tmps.getD 133 undef = x133 at *
                generalize tmps.getD 134 undef = x134 at *
                generalize tmps.getD 135 undef = x135 at *
                generalize tmps.getD 136 undef = x136 at *
                generalize tmps.getD 137 undef = x137 at *
                generalize tmps.getD 138 undef = x138 at *
                generalize tmps.getD 139 undef = x139 at *
                generalize tmps.getD 140 undef = x140 at *
                generalize tmps.getD 141 undef = x141 at *
                generalize tmps.getD 142 undef = x142 at *
                generalize tmps.getD 143 undef = x143 at *
                generalize tmps.getD 144 undef = x144 at *
                generalize tmps.getD 145 undef = x145 at *
                generalize tmps.getD 146 undef = x146 at *
                generalize tmps.getD 147 undef = x147 at *
                generalize tmps.getD 148 undef = x148 at *
                generalize tmps.getD 149 undef = x149 at *
                generalize tmps.getD 150 undef = x150 at *
                generalize tmps.getD 151 undef = x151 at *
                generalize tmps.getD 152 undef = x152 at *
                generalize tmps.getD 153 undef = x153 at *
                generalize tmps.getD 154 undef = x154 at *
                generalize tmps.getD 155 undef = x155 at *
                generalize tmps.getD 156 undef = x156 at *
                generalize tmps.getD 157 undef = x157 at *
                generalize tmps.getD 158 undef = x158 at *
                generalize tmps.getD 159 undef = x159 at *
                generalize tmps.getD 160 undef = x160 at *
                generalize tmps.getD 161 undef = x161 at *
                generalize tmps.getD 162 undef = x162 at *
                generalize tmps.getD 163 undef = x163 at *
                generalize tmps.getD 164 undef = x164 at *
                generalize tmps.getD 165 undef = x165 at *
                generalize tmps.getD 166 undef = x166 at *
                generalize tmps.getD 167 undef = x167 at *
                generalize tmps.getD 168 undef = x168 at *
                generalize tmps.getD 169 undef = x169 at *
                generalize tmps.getD 170 undef = x170 at *
                generalize tmps.getD 171 undef = x171 at *
                generalize tmps.getD 172 undef = x172 at *
                generalize tmps.getD 173 undef = x173 at *
                generalize tmps.getD 174 undef = x174 at *
                generalize tmps.getD 175 undef = x175 at *
                generalize tmps.getD 176 undef = x176 at *
                generalize tmps.getD 177 undef = x177 at *
                generalize tmps.getD 178 undef = x178 at *
                generalize tmps.getD 179 undef = x179 at *
                generalize tmps.getD 180 undef = x180 at *
                generalize tmps.getD 181 undef = x181 at *
                generalize tmps.getD 182 undef = x182 at *
                generalize tmps.getD 183 undef = x183 at *
                generalize tmps.getD 184 undef = x184 at *
                generalize tmps.getD 185 undef = x185 at *
                generalize tmps.getD 186 undef = x186 at *
                generalize tmps.getD 187 undef = x187 at *
                generalize tmps.getD 188 undef = x188 at *
                generalize tmps.getD 189 undef = x189 at *
                generalize tmps.getD 190 undef = x190 at *
                generalize tmps.getD 191 undef = x191 at *
                generalize tmps.getD 192 undef = x192 at *
                generalize tmps.getD 193 undef = x193 at *
                generalize tmps.getD 194 undef = x194 at *
                generalize tmps.getD 195 undef = x195 at *
                simp only [Array.getD_eq_getD_getElem?, List.getElem?_toArray, List.getElem?_cons_succ, List.getElem?_cons_zero, Option.getD_some] at e
                subst e
                subst hk72
                have GZ : Hid (Pr2 B w9 p q m x c d dc L ls ss L ls ss ∧ Below B w w9) := G7.out w9 (ho.below (Nat.le_refl _) (by simp))
                clear ho hR G7
                go_wp2_with fail
                refine ⟨⟨(j : Int) + 1, rfl, by omega, by omega, GZ⟩, ?_⟩
                simp only [intOf]
                omega
            · obtain ⟨bl, hbl⟩ : ∃ bl, ls[j]? = some bl := ⟨_, List.getElem?_eq_getElem (by rw [HNL.out]; omega)⟩
              have hbl3 : bl.length ≤ 300 := HC.out.2.2.2 bl (List.mem_of_getElem? hbl)
              obtain ⟨lgb, lc, sgb, zc, q2, c2, q3, c3, hdcc⟩ := dcc_link hdc hl hbl
              rw [hln, HNL.out, HML.out, hl32.1] at hdcc
              have HLK := one_link (GK.out.1.below hb6).one hbl (by omega)
              have HSB : Hid (∀ y ∈ bl, y < 256) := by
                show ∀ y ∈ bl, y < 256
                exact (hdcc wr (Below.refl _ _)).2.2.2.2.2.small
              obtain ⟨bn, HBN⟩ : ∃ bn, Hid (bl.length = bn) := ⟨_, rfl⟩
              rw [HBN.out] at hdcc HLK
              have HDC : Hid (∀ w', Below w6.heap.size w6 w' → w'.cell? ⟨dc, 0, none⟩ = some (.slice (some ⟨lgb, 0, none⟩) nl lc) ∧ w'.cell? ⟨dc, 1, none⟩ = some (.slice (some ⟨sgb, 0, none⟩) ml zc) ∧ w'.cell? ⟨sgb, 0 + j, none⟩ = some (.slice q2 32 c2) ∧ Src w' (.slice q2 32 c2) l ∧ w'.cell? ⟨lgb, 0 + j, none⟩ = some (.slice q3 bn c3) ∧ Src w' (.slice q3 bn c3) bl) := fun w' hb => hdcc w' (hb6.trans (hb.mono hb6.size))
              have HS1 : Hid (decide ((j : Int) < (ml : Int)) = true) := decide_eq_true (by have := HML.out; omega)
              have HS2 : Hid (decide ((j : Int) < (nl : Int)) = true) := decide_eq_true (by omega)
              have HJS : Hid (j < ml) := by have := HML.out; show _ < _; omega
              have HJL : Hid (j < nl) := by show _ < _; omega
              clear HAT ho5 hb5 hb6 hb56 hdcc hch hdc hln GK hz6 hl hl32 hnn hbl hbl3
              go_wp2_with fail
              rw [HW6.out, ← hgd]
              clear HW6 hgd
              refine HLK.mono ?_
              rintro e w7 ⟨u7, rfl, ho7, hb7⟩
              obtain ⟨bq, bc, rfl⟩ := own_slice ho7
              have HBL : Hid (∀ w', Below w7.heap.size w7 w' → Src w' (.slice bq bn bc) bl) := fun w' hb => (Src.own HSB.out ho7).below hb
              have HD0' : Hid (∀ w', Below w7.heap.size w7 w' → w'.cell? ⟨gd, 0, none⟩ = some (.int .i64 (j : Int)) ∧ w'.cell? ⟨gd, 1, none⟩ = some (.slice uq 32 uc) ∧ w'.heap[gd]? = some (.cells #[.int .i64 (j : Int), .slice uq 32 uc] 44 (0, 0)) ∧ Src w' (.slice uq 32 uc) l) := fun w' hb => HD0.out w' (hb7.trans (hb.mono hb7.size))
              have HDC' : Hid (∀ w', Below w7.heap.size w7 w' → w'.cell? ⟨dc, 0, none⟩ = some (.slice (some ⟨lgb, 0, none⟩) nl lc) ∧ w'.cell? ⟨dc, 1, none⟩ = some (.slice (some ⟨sgb, 0, none⟩) ml zc) ∧ w'.cell? ⟨sgb, 0 + j, none⟩ = some (.slice q2 32 c2) ∧ Src w' (.slice q2 32 c2) l ∧ w'.cell? ⟨lgb, 0 + j, none⟩ = some (.slice q3 bn c3) ∧ Src w' (.slice q3 bn c3) bl) := fun w' hb => HDC.out w' (hb7.trans (hb.mono hb7.size))
              have HCK' : Hid (∀ w', Below w7.heap.size w7 w' → Calls Tryd.prog 18 #[.pointer (some ⟨c, 0, none⟩), .agg #[.int .i64 (j : Int), .slice uq 32 uc]] w' fun e w'' => e = .returned (.int .i64 0) ∧ Below w'.heap.size w' w'') := fun w' hb => HCK.out w' (hb7.trans (hb.mono hb7.size))
              have G7' : Hid (∀ w', Below w7.heap.size w7 w' → Pr2 B w' p q m x c d dc L ls ss L ls ss ∧ Below B w w') := fun w' hb => G7.out w' (hb7.trans (hb.mono hb7.size))
              clear HLK ho7 hb7 HD0 HDC HCK G7 HSB HBN
              have HD0 := HD0'
              have HDC := HDC'
              have HCK := HCK'
              have G7 := G7'
              clear HD0' HDC' HCK' G7'
              go_wp2_with fail
              have RB : ∀ k w w', Below w.heap.size w w' → (fun (_ : Nat) (_ : World) => True) k w → (fun (_ : Nat) (_ : World) => True) k w' := fun _ _ _ _ _ => trivial
              refine wp_region_st (pl25d c gd dc nl ml j sgb lgb uq lc zc uc l bl) (fun u u' => Only [] u u') (SeqS [] (fun (_ : Nat) (_ : World) => True)) (by kernel_rfl) (only_drew _ _) (only_trans _) (pl25d_kept c gd dc nl ml j sgb lgb uq lc zc uc l bl) (by kernel_rfl) (SeqS.start (trivial)) ?_ ?_
              · intro i o a' w' f hi inv hS hfi hfw hpre
                have ho : Only [] w7 w' := inv.grow
                have hlt : i < 73 := (Array.getElem?_eq_some_iff.1 hi).1
                obtain rfl|rfl|rfl|rfl|rfl|rfl|rfl|rfl|rfl|rfl|rfl|rfl|rfl|rfl|rfl|rfl|rfl|rfl|rfl|rfl|rfl|rfl|rfl|rfl|rfl|rfl|rfl|rfl|rfl|rfl|rfl|rfl|rfl|rfl|rfl|rfl|rfl|rfl|rfl|rfl|rfl|rfl|rfl|rfl|rfl|rfl|rfl|rfl|rfl|rfl|rfl|rfl|rfl|rfl|rfl|rfl|rfl|rfl|rfl|rfl|rfl|rfl|rfl|rfl|rfl|rfl|rfl|rfl|rfl|rfl|rfl|rfl|rfl : i = 0 ∨ i = 1 ∨ i = 2 ∨ i = 3 ∨ i = 4 ∨ i = 5 ∨ i = 6 ∨ i = 7 ∨ i = 8 ∨ i = 9 ∨ i = 10 ∨ i = 11 ∨ i = 12 ∨ i = 13 ∨ i = 14 ∨ i = 15 ∨ i = 16 ∨ i = 17 ∨ i = 18 ∨ i = 19 ∨ i = 20 ∨ i = 21 ∨ i = 22 ∨ i = 23 ∨ i = 24 ∨ i = 25 ∨ i = 26 ∨ i = 27 ∨ i = 28 ∨ i = 29 ∨ i = 30 ∨ i = 31 ∨ i = 32 ∨ i = 33 ∨ i = 34 ∨ i = 35 ∨ i = 36 ∨ i = 37 ∨ i = 38 ∨ i = 39 ∨ i = 40 ∨ i = 41 ∨ i = 42 ∨ i = 43 ∨ i = 44 ∨ i = 45 ∨ i = 46 ∨ i = 47 ∨ i = 48 ∨ i = 49 ∨ i = 50 ∨ i = 51 ∨ i = 52 ∨ i = 53 ∨ i = 54 ∨ i = 55 ∨ i = 56 ∨ i = 57 ∨ i = 58 ∨ i = 59 ∨ i = 60 ∨ i = 61 ∨ i = 62 ∨ i = 63 ∨ i = 64 ∨ i = 65 ∨ i = 66 ∨ i = 67 ∨ i = 68 ∨ i = 69 ∨ i = 70 ∨ i = 71 ∨ i = 72 := by omega
                · obtain rfl := Option.some.inj hi
                  exact sq_value _ rfl rfl rfl (Below.refl _ _) (by decide) hS RB (by show a'.tmps.getD 18 undef = _; rw [inv.old 18 (notDst_spec (by kernel_rfl))]; rfl)
                · obtain rfl := Option.some.inj hi
                  exact sq_value _ rfl rfl rfl (Below.refl _ _) (by decide) hS RB (by show a'.tmps.getD 16 undef = _; rw [inv.old 16 (notDst_spec (by kernel_rfl))]; rfl)
                · obtain rfl := Option.some.inj hi
                  have h0 : a'.tmps.getD 124 undef = _ := pre_of hpre 1 124 (by kernel_rfl) (by kernel_rfl)
                  exact sq_value _ rfl rfl (geqK_run 124 _ 0 rfl h0) (Below.refl _ _) (by decide) hS RB (by show Value.bool _ = _; rw [HG.out])
                · obtain rfl := Option.some.inj hi
                  have h0 := pre_of hpre 2 125 (by kernel_rfl) (by kernel_rfl)
                  exact sq_value _ rfl rfl (rfl) (Below.refl _ _) (by decide) hS RB h0
                · obtain rfl := Option.some.inj hi
                  have hgu : a'.tmps.getD 126 undef = _ := pre_of hpre 3 126 (by kernel_rfl) (by kernel_rfl)
                  exact sq_value _ rfl (wanted_of 3 126 true rfl (by kernel_rfl) hgu) rfl (Below.refl _ _) (by decide) hS RB (by show a'.tmps.getD 16 undef = _; rw [inv.old 16 (notDst_spec (by kernel_rfl))]; rfl)
                · obtain rfl := Option.some.inj hi
                  have hgu : a'.tmps.getD 126 undef = _ := pre_of hpre 3 126 (by kernel_rfl) (by kernel_rfl)
                  exact sq_value _ rfl (wanted_of 3 126 true rfl (by kernel_rfl) hgu) rfl (Below.refl _ _) (by decide) hS RB (by show a'.tmps.getD 13 undef = _; rw [inv.old 13 (notDst_spec (by kernel_rfl))]; rfl)
                · obtain rfl := Option.some.inj hi
                  have hgu : a'.tmps.getD 126 undef = _ := pre_of hpre 3 126 (by kernel_rfl) (by kernel_rfl)
                  have h0 : a'.tmps.getD 128 undef = _ := pre_of hpre 5 128 (by kernel_rfl) (by kernel_rfl)
                  exact sq_value _ rfl (wanted_of 3 126 true rfl (by kernel_rfl) hgu) (nil_run 128 _ rfl h0) (Below.refl _ _) (by decide) hS RB rfl
                · obtain rfl := Option.some.inj hi
                  have hgu : a'.tmps.getD 126 undef = _ := pre_of hpre 3 126 (by kernel_rfl) (by kernel_rfl)
                  have h0 : a'.tmps.getD 129 undef = _ := pre_of hpre 6 129 (by kernel_rfl) (by kernel_rfl)
                  exact sq_value _ rfl (wanted_of 3 126 true rfl (by kernel_rfl) hgu) (fa_run 42 1 129 dc rfl h0 (fa42_1 dc)) (Below.refl _ _) (by decide) hS RB rfl
                · obtain rfl := Option.some.inj hi
                  have hgu : a'.tmps.getD 126 undef = _ := pre_of hpre 3 126 (by kernel_rfl) (by kernel_rfl)
                  have h0 : a'.tmps.getD 130 undef = _ := pre_of hpre 7 130 (by kernel_rfl) (by kernel_rfl)
                  exact sq_value _ rfl (wanted_of 3 126 true rfl (by kernel_rfl) hgu) (load_run 22 130 dc (1) _ rfl h0 (ld22 ((HDC.out w' (ho.below (Nat.le_refl _) (by simp))).2.1))) (Below.refl _ _) (by decide) hS RB rfl
                · obtain rfl := Option.some.inj hi
                  have hgu : a'.tmps.getD 126 undef = _ := pre_of hpre 3 126 (by kernel_rfl) (by kernel_rfl)
                  have h0 : a'.tmps.getD 131 undef = _ := pre_of hpre 8 131 (by kernel_rfl) (by kernel_rfl)
                  exact sq_value _ rfl (wanted_of 3 126 true rfl (by kernel_rfl) hgu) (lenV_run 131 _ _ _ rfl h0) (Below.refl _ _) (by decide) hS RB rfl
                · obtain rfl := Option.some.inj hi
                  have hgu : a'.tmps.getD 126 undef = _ := pre_of hpre 3 126 (by kernel_rfl) (by kernel_rfl)
                  have h0 : a'.tmps.getD 127 undef = _ := pre_of hpre 4 127 (by kernel_rfl) (by kernel_rfl)
                  have h1 : a'.tmps.getD 132 undef = _ := pre_of hpre 9 132 (by kernel_rfl) (by kernel_rfl)
                  exact sq_value _ rfl (wanted_of 3 126 true rfl (by kernel_rfl) hgu) (lssN_run 127 132 _ _ rfl h0 h1) (Below.refl _ _) (by decide) hS RB (by show Value.bool _ = _; rw [HS1.out])
                · obtain rfl := Option.some.inj hi
                  have h0 : a'.tmps.getD 126 undef = _ := pre_of hpre 3 126 (by kernel_rfl) (by kernel_rfl)
                  have h1 : a'.tmps.getD 133 undef = _ := pre_of hpre 10 133 (by kernel_rfl) (by kernel_rfl)
                  exact sq_value _ rfl rfl (pick_run 126 true _ _ _ _ rfl h0 h1 rfl) (Below.refl _ _) (by decide) hS RB rfl
                · obtain rfl := Option.some.inj hi
                  have h0 : a'.tmps.getD 123 undef = _ := pre_of hpre 0 123 (by kernel_rfl) (by kernel_rfl)
                  have h1 : a'.tmps.getD 134 undef = _ := pre_of hpre 11 134 (by kernel_rfl) (by kernel_rfl)
                  exact sq_value _ rfl rfl (neqB_run 123 134 _ _ rfl h0 h1) (Below.refl _ _) (by decide) hS RB rfl
                · obtain rfl := Option.some.inj hi
                  have h0 := pre_of hpre 12 135 (by kernel_rfl) (by kernel_rfl)
                  exact sq_value _ rfl rfl (rfl) (Below.refl _ _) (by decide) hS RB h0
                · obtain rfl := Option.some.inj hi
                  have hgu : a'.tmps.getD 136 undef = _ := pre_of hpre 13 136 (by kernel_rfl) (by kernel_rfl)
                  exact sq_value _ rfl (wanted_of 13 136 false rfl (by kernel_rfl) hgu) rfl (Below.refl _ _) (by decide) hS RB (by show a'.tmps.getD 20 undef = _; rw [inv.old 20 (notDst_spec (by kernel_rfl))]; rfl)
                · obtain rfl := Option.some.inj hi
                  have hgu : a'.tmps.getD 136 undef = _ := pre_of hpre 13 136 (by kernel_rfl) (by kernel_rfl)
                  exact sq_value _ rfl (wanted_of 13 136 false rfl (by kernel_rfl) hgu) rfl (Below.refl _ _) (by decide) hS RB (by show a'.tmps.getD 16 undef = _; rw [inv.old 16 (notDst_spec (by kernel_rfl))]; rfl)
                · obtain rfl := Option.some.inj hi
                  have hgu : a'.tmps.getD 136 undef = _ := pre_of hpre 13 136 (by kernel_rfl) (by kernel_rfl)
                  have h0 : a'.tmps.getD 138 undef = _ := pre_of hpre 15 138 (by kernel_rfl) (by kernel_rfl)
                  exact sq_value _ rfl (wanted_of 13 136 false rfl (by kernel_rfl) hgu) (geqK_run 138 _ 0 rfl h0) (Below.refl _ _) (by decide) hS RB (by show Value.bool _ = _; rw [HG.out])
                · obtain rfl := Option.some.inj hi
                  have hgu : a'.tmps.getD 136 undef = _ := pre_of hpre 13 136 (by kernel_rfl) (by kernel_rfl)
                  have h0 := pre_of hpre 16 139 (by kernel_rfl) (by kernel_rfl)
                  exact sq_value _ rfl (wanted_of 13 136 false rfl (by kernel_rfl) hgu) (rfl) (Below.refl _ _) (by decide) hS RB h0
                · obtain rfl := Option.some.inj hi
                  have hgu : a'.tmps.getD 140 undef = _ := pre_of hpre 17 140 (by kernel_rfl) (by kernel_rfl)
                  exact sq_value _ rfl (wanted_of 17 140 true rfl (by kernel_rfl) hgu) rfl (Below.refl _ _) (by decide) hS RB (by show a'.tmps.getD 16 undef = _; rw [inv.old 16 (notDst_spec (by kernel_rfl))]; rfl)
                · obtain rfl := Option.some.inj hi
                  have hgu : a'.tmps.getD 140 undef = _ := pre_of hpre 17 140 (by kernel_rfl) (by kernel_rfl)
                  exact sq_value _ rfl (wanted_of 17 140 true rfl (by kernel_rfl) hgu) rfl (Below.refl _ _) (by decide) hS RB (by show a'.tmps.getD 13 undef = _; rw [inv.old 13 (notDst_spec (by kernel_rfl))]; rfl)
                · obtain rfl := Option.some.inj hi
                  have hgu : a'.tmps.getD 140 undef = _ := pre_of hpre 17 140 (by kernel_rfl) (by kernel_rfl)
                  have h0 : a'.tmps.getD 142 undef = _ := pre_of hpre 19 142 (by kernel_rfl) (by kernel_rfl)
                  exact sq_value _ rfl (wanted_of 17 140 true rfl (by kernel_rfl) hgu) (nil_run 142 _ rfl h0) (Below.refl _ _) (by decide) hS RB rfl
                · obtain rfl := Option.some.inj hi
                  have hgu : a'.tmps.getD 140 undef = _ := pre_of hpre 17 140 (by kernel_rfl) (by kernel_rfl)
                  have h0 : a'.tmps.getD 143 undef = _ := pre_of hpre 20 143 (by kernel_rfl) (by kernel_rfl)
                  exact sq_value _ rfl (wanted_of 17 140 true rfl (by kernel_rfl) hgu) (fa_run 42 0 143 dc rfl h0 (fa42_0 dc)) (Below.refl _ _) (by decide) hS RB rfl
                · obtain rfl := Option.some.inj hi
                  have hgu : a'.tmps.getD 140 undef = _ := pre_of hpre 17 140 (by kernel_rfl) (by kernel_rfl)
                  have h0 : a'.tmps.getD 144 undef = _ := pre_of hpre 21 144 (by kernel_rfl) (by kernel_rfl)
                  exact sq_value _ rfl (wanted_of 17 140 true rfl (by kernel_rfl) hgu) (load_run 22 144 dc (0) _ rfl h0 (ld22 ((HDC.out w' (ho.below (Nat.le_refl _) (by simp))).1))) (Below.refl _ _) (by decide) hS RB rfl
                · obtain rfl := Option.some.inj hi
                  have hgu : a'.tmps.getD 140 undef = _ := pre_of hpre 17 140 (by kernel_rfl) (by kernel_rfl)
                  have h0 : a'.tmps.getD 145 undef = _ := pre_of hpre 22 145 (by kernel_rfl) (by kernel_rfl)
                  exact sq_value _ rfl (wanted_of 17 140 true rfl (by kernel_rfl) hgu) (lenV_run 145 _ _ _ rfl h0) (Below.refl _ _) (by decide) hS RB rfl
                · obtain rfl := Option.some.inj hi
                  have hgu : a'.tmps.getD 140 undef = _ := pre_of hpre 17 140 (by kernel_rfl) (by kernel_rfl)
                  have h0 : a'.tmps.getD 141 undef = _ := pre_of hpre 18 141 (by kernel_rfl) (by kernel_rfl)
                  have h1 : a'.tmps.getD 146 undef = _ := pre_of hpre 23 146 (by kernel_rfl) (by kernel_rfl)
                  exact sq_value _ rfl (wanted_of 17 140 true rfl (by kernel_rfl) hgu) (lssN_run 141 146 _ _ rfl h0 h1) (Below.refl _ _) (by decide) hS RB (by show Value.bool _ = _; rw [HS2.out])
                · obtain rfl := Option.some.inj hi
                  have hgu : a'.tmps.getD 136 undef = _ := pre_of hpre 13 136 (by kernel_rfl) (by kernel_rfl)
                  have h0 : a'.tmps.getD 140 undef = _ := pre_of hpre 17 140 (by kernel_rfl) (by kernel_rfl)
                  have h1 : a'.tmps.getD 147 undef = _ := pre_of hpre 24 147 (by kernel_rfl) (by kernel_rfl)
                  exact sq_value _ rfl (wanted_of 13 136 false rfl (by kernel_rfl) hgu) (pick_run 140 true _ _ _ _ rfl h0 h1 rfl) (Below.refl _ _) (by decide) hS RB rfl
                · obtain rfl := Option.some.inj hi
                  have hgu : a'.tmps.getD 136 undef = _ := pre_of hpre 13 136 (by kernel_rfl) (by kernel_rfl)
                  have h0 : a'.tmps.getD 137 undef = _ := pre_of hpre 14 137 (by kernel_rfl) (by kernel_rfl)
                  have h1 : a'.tmps.getD 148 undef = _ := pre_of hpre 25 148 (by kernel_rfl) (by kernel_rfl)
                  exact sq_value _ rfl (wanted_of 13 136 false rfl (by kernel_rfl) hgu) (neqB_run 137 148 _ _ rfl h0 h1) (Below.refl _ _) (by decide) hS RB rfl
                · obtain rfl := Option.some.inj hi
                  have h0 : a'.tmps.getD 136 undef = _ := pre_of hpre 13 136 (by kernel_rfl) (by kernel_rfl)
                  have h1 : a'.tmps.getD 149 undef = _ := pre_of hpre 26 149 (by kernel_rfl) (by kernel_rfl)
                  exact sq_value _ rfl rfl (pick_run 136 false _ _ _ _ rfl h0 rfl h1) (Below.refl _ _) (by decide) hS RB rfl
                · obtain rfl := Option.some.inj hi
                  have h0 := pre_of hpre 27 150 (by kernel_rfl) (by kernel_rfl)
                  exact sq_value _ rfl rfl (rfl) (Below.refl _ _) (by decide) hS RB h0
                · obtain rfl := Option.some.inj hi
                  have hgu : a'.tmps.getD 151 undef = _ := pre_of hpre 28 151 (by kernel_rfl) (by kernel_rfl)
                  exact sq_value _ rfl (wanted_of 28 151 false rfl (by kernel_rfl) hgu) rfl (Below.refl _ _) (by decide) hS RB (by show a'.tmps.getD 18 undef = _; rw [inv.old 18 (notDst_spec (by kernel_rfl))]; rfl)
                · obtain rfl := Option.some.inj hi
                  have hgu : a'.tmps.getD 151 undef = _ := pre_of hpre 28 151 (by kernel_rfl) (by kernel_rfl)
                  have h0 := pre_of hpre 29 152 (by kernel_rfl) (by kernel_rfl)
                  exact sq_value _ rfl (wanted_of 28 151 false rfl (by kernel_rfl) hgu) (rfl) (Below.refl _ _) (by decide) hS RB h0
                · obtain rfl := Option.some.inj hi
                  have hgu : a'.tmps.getD 153 undef = _ := pre_of hpre 30 153 (by kernel_rfl) (by kernel_rfl)
                  have h0 : a'.tmps.getD 17 undef = (.pointer (some ⟨gd, 0, none⟩)) := by rw [inv.old 17 (notDst_spec (by kernel_rfl))]; rfl
                  exact sq_value _ rfl (wanted_of 30 153 true rfl (by kernel_rfl) hgu) (fa_run 44 0 17 gd rfl h0 (fa44_0 gd)) (Below.refl _ _) (by decide) hS RB rfl
                · obtain rfl := Option.some.inj hi
                  have hgu : a'.tmps.getD 153 undef = _ := pre_of hpre 30 153 (by kernel_rfl) (by kernel_rfl)
                  have h0 : a'.tmps.getD 154 undef = _ := pre_of hpre 31 154 (by kernel_rfl) (by kernel_rfl)
                  exact sq_value _ rfl (wanted_of 30 153 true rfl (by kernel_rfl) hgu) (load_run 3 154 gd (0) _ rfl h0 (ld3 ((HD0.out w' (ho.below (Nat.le_refl _) (by simp))).1))) (Below.refl _ _) (by decide) hS RB rfl
                · obtain rfl := Option.some.inj hi
                  have hgu : a'.tmps.getD 153 undef = _ := pre_of hpre 30 153 (by kernel_rfl) (by kernel_rfl)
                  exact sq_value _ rfl (wanted_of 30 153 true rfl (by kernel_rfl) hgu) rfl (Below.refl _ _) (by decide) hS RB (by show a'.tmps.getD 16 undef = _; rw [inv.old 16 (notDst_spec (by kernel_rfl))]; rfl)
                · obtain rfl := Option.some.inj hi
                  have hgu : a'.tmps.getD 153 undef = _ := pre_of hpre 30 153 (by kernel_rfl) (by kernel_rfl)
                  have h0 : a'.tmps.getD 155 undef = _ := pre_of hpre 32 155 (by kernel_rfl) (by kernel_rfl)
                  have h1 : a'.tmps.getD 156 undef = _ := pre_of hpre 33 156 (by kernel_rfl) (by kernel_rfl)
                  exact sq_value _ rfl (wanted_of 30 153 true rfl (by kernel_rfl) hgu) (neqN_run 155 156 _ _ rfl h0 h1) (Below.refl _ _) (by decide) hS RB (by show Value.bool _ = _; simp)
                · obtain rfl := Option.some.inj hi
                  have hgu : a'.tmps.getD 153 undef = _ := pre_of hpre 30 153 (by kernel_rfl) (by kernel_rfl)
                  have h0 := pre_of hpre 34 157 (by kernel_rfl) (by kernel_rfl)
                  exact sq_value _ rfl (wanted_of 30 153 true rfl (by kernel_rfl) hgu) (rfl) (Below.refl _ _) (by decide) hS RB h0
                · obtain rfl := Option.some.inj hi
                  have hgu : a'.tmps.getD 158 undef = _ := pre_of hpre 35 158 (by kernel_rfl) (by kernel_rfl)
                  have h0 : a'.tmps.getD 17 undef = (.pointer (some ⟨gd, 0, none⟩)) := by rw [inv.old 17 (notDst_spec (by kernel_rfl))]; rfl
                  exact sq_value _ rfl (wanted_of 35 158 false rfl (by kernel_rfl) hgu) (fa_run 44 1 17 gd rfl h0 (fa44_1 gd)) (Below.refl _ _) (by decide) hS RB rfl
                · obtain rfl := Option.some.inj hi
                  have hgu : a'.tmps.getD 158 undef = _ := pre_of hpre 35 158 (by kernel_rfl) (by kernel_rfl)
                  have h0 : a'.tmps.getD 159 undef = _ := pre_of hpre 36 159 (by kernel_rfl) (by kernel_rfl)
                  exact sq_value _ rfl (wanted_of 35 158 false rfl (by kernel_rfl) hgu) (load_run 23 159 gd (1) _ rfl h0 (ld23 ((HD0.out w' (ho.below (Nat.le_refl _) (by simp))).2.1))) (Below.refl _ _) (by decide) hS RB (⟨(HD0.out w' (ho.below (Nat.le_refl _) (by simp))).2.2.2, fun _ b _ hb => by cases hb⟩)
                · obtain rfl := Option.some.inj hi
                  have hgu : a'.tmps.getD 158 undef = _ := pre_of hpre 35 158 (by kernel_rfl) (by kernel_rfl)
                  have h0 := pre_of hpre 37 160 (by kernel_rfl) (by kernel_rfl)
                  exact sq_value _ rfl (wanted_of 35 158 false rfl (by kernel_rfl) hgu) (conv_run 160 rfl (h0.1)) (Below.refl _ _) (by decide) hS RB rfl
                · obtain rfl := Option.some.inj hi
                  have hgu : a'.tmps.getD 158 undef = _ := pre_of hpre 35 158 (by kernel_rfl) (by kernel_rfl)
                  exact sq_value _ rfl (wanted_of 35 158 false rfl (by kernel_rfl) hgu) rfl (Below.refl _ _) (by decide) hS RB (by show a'.tmps.getD 13 undef = _; rw [inv.old 13 (notDst_spec (by kernel_rfl))]; rfl)
                · obtain rfl := Option.some.inj hi
                  have hgu : a'.tmps.getD 158 undef = _ := pre_of hpre 35 158 (by kernel_rfl) (by kernel_rfl)
                  have h0 : a'.tmps.getD 162 undef = _ := pre_of hpre 39 162 (by kernel_rfl) (by kernel_rfl)
                  exact sq_value _ rfl (wanted_of 35 158 false rfl (by kernel_rfl) hgu) (nil_run 162 _ rfl h0) (Below.refl _ _) (by decide) hS RB rfl
                · obtain rfl := Option.some.inj hi
                  have hgu : a'.tmps.getD 158 undef = _ := pre_of hpre 35 158 (by kernel_rfl) (by kernel_rfl)
                  have h0 : a'.tmps.getD 163 undef = _ := pre_of hpre 40 163 (by kernel_rfl) (by kernel_rfl)
                  exact sq_value _ rfl (wanted_of 35 158 false rfl (by kernel_rfl) hgu) (fa_run 42 1 163 dc rfl h0 (fa42_1 dc)) (Below.refl _ _) (by decide) hS RB rfl
                · obtain rfl := Option.some.inj hi
                  have hgu : a'.tmps.getD 158 undef = _ := pre_of hpre 35 158 (by kernel_rfl) (by kernel_rfl)
                  have h0 : a'.tmps.getD 164 undef = _ := pre_of hpre 41 164 (by kernel_rfl) (by kernel_rfl)
                  exact sq_value _ rfl (wanted_of 35 158 false rfl (by kernel_rfl) hgu) (load_run 22 164 dc (1) _ rfl h0 (ld22 ((HDC.out w' (ho.below (Nat.le_refl _) (by simp))).2.1))) (Below.refl _ _) (by decide) hS RB rfl
                · obtain rfl := Option.some.inj hi
                  have hgu : a'.tmps.getD 158 undef = _ := pre_of hpre 35 158 (by kernel_rfl) (by kernel_rfl)
                  exact sq_value _ rfl (wanted_of 35 158 false rfl (by kernel_rfl) hgu) rfl (Below.refl _ _) (by decide) hS RB (by show a'.tmps.getD 16 undef = _; rw [inv.old 16 (notDst_spec (by kernel_rfl))]; rfl)
                · obtain rfl := Option.some.inj hi
                  have hgu : a'.tmps.getD 158 undef = _ := pre_of hpre 35 158 (by kernel_rfl) (by kernel_rfl)
                  have h0 : a'.tmps.getD 165 undef = _ := pre_of hpre 42 165 (by kernel_rfl) (by kernel_rfl)
                  have h1 : a'.tmps.getD 166 undef = _ := pre_of hpre 43 166 (by kernel_rfl) (by kernel_rfl)
                  exact sq_value _ rfl (wanted_of 35 158 false rfl (by kernel_rfl) hgu) (idx22_run 165 166 sgb 0 ml zc j rfl h0 h1 HJS.out) (Below.refl _ _) (by decide) hS RB rfl
                · obtain rfl := Option.some.inj hi
                  have hgu : a'.tmps.getD 158 undef = _ := pre_of hpre 35 158 (by kernel_rfl) (by kernel_rfl)
                  have h0 : a'.tmps.getD 167 undef = _ := pre_of hpre 44 167 (by kernel_rfl) (by kernel_rfl)
                  exact sq_value _ rfl (wanted_of 35 158 false rfl (by kernel_rfl) hgu) (load_run 23 167 sgb (0 + j) _ rfl h0 (ld23 ((HDC.out w' (ho.below (Nat.le_refl _) (by simp))).2.2.1))) (Below.refl _ _) (by decide) hS RB (⟨(HDC.out w' (ho.below (Nat.le_refl _) (by simp))).2.2.2.1, fun _ b _ hb => by cases hb⟩)
                · obtain rfl := Option.some.inj hi
                  have hgu : a'.tmps.getD 158 undef = _ := pre_of hpre 35 158 (by kernel_rfl) (by kernel_rfl)
                  have h0 := pre_of hpre 45 168 (by kernel_rfl) (by kernel_rfl)
                  exact sq_value _ rfl (wanted_of 35 158 false rfl (by kernel_rfl) hgu) (conv_run 168 rfl (h0.1)) (Below.refl _ _) (by decide) hS RB rfl
                · obtain rfl := Option.some.inj hi
                  have hgu : a'.tmps.getD 158 undef = _ := pre_of hpre 35 158 (by kernel_rfl) (by kernel_rfl)
                  have h0 : a'.tmps.getD 161 undef = _ := pre_of hpre 38 161 (by kernel_rfl) (by kernel_rfl)
                  have h1 : a'.tmps.getD 169 undef = _ := pre_of hpre 46 169 (by kernel_rfl) (by kernel_rfl)
                  exact sq_value _ rfl (wanted_of 35 158 false rfl (by kernel_rfl) hgu) (neqS_run 161 169 _ _ rfl h0 h1) (Below.refl _ _) (by decide) hS RB (by show Value.bool _ = _; simp)
                · obtain rfl := Option.some.inj hi
                  have hgu : a'.tmps.getD 153 undef = _ := pre_of hpre 30 153 (by kernel_rfl) (by kernel_rfl)
                  have h0 : a'.tmps.getD 158 undef = _ := pre_of hpre 35 158 (by kernel_rfl) (by kernel_rfl)
                  have h1 : a'.tmps.getD 170 undef = _ := pre_of hpre 47 170 (by kernel_rfl) (by kernel_rfl)
                  exact sq_value _ rfl (wanted_of 30 153 true rfl (by kernel_rfl) hgu) (pick_run 158 false _ _ _ _ rfl h0 rfl h1) (Below.refl _ _) (by decide) hS RB rfl
                · obtain rfl := Option.some.inj hi
                  have hgu : a'.tmps.getD 153 undef = _ := pre_of hpre 30 153 (by kernel_rfl) (by kernel_rfl)
                  have h0 := pre_of hpre 48 171 (by kernel_rfl) (by kernel_rfl)
                  exact sq_value _ rfl (wanted_of 30 153 true rfl (by kernel_rfl) hgu) (rfl) (Below.refl _ _) (by decide) hS RB h0
                · obtain rfl := Option.some.inj hi
                  have hgu : a'.tmps.getD 172 undef = _ := pre_of hpre 49 172 (by kernel_rfl) (by kernel_rfl)
                  exact sq_value _ rfl (wanted_of 49 172 false rfl (by kernel_rfl) hgu) rfl (Below.refl _ _) (by decide) hS RB (by show a'.tmps.getD 11 undef = _; rw [inv.old 11 (notDst_spec (by kernel_rfl))]; rfl)
                · obtain rfl := Option.some.inj hi
                  have hgu : a'.tmps.getD 172 undef = _ := pre_of hpre 49 172 (by kernel_rfl) (by kernel_rfl)
                  have h0 : a'.tmps.getD 17 undef = (.pointer (some ⟨gd, 0, none⟩)) := by rw [inv.old 17 (notDst_spec (by kernel_rfl))]; rfl
                  exact sq_value _ rfl (wanted_of 49 172 false rfl (by kernel_rfl) hgu) (load44_run 17 gd _ _ rfl h0 (HD0.out w' (ho.below (Nat.le_refl _) (by simp))).2.2.1) (Below.refl _ _) (by decide) hS RB rfl
                · obtain rfl := Option.some.inj hi
                  have hgu : a'.tmps.getD 172 undef = _ := pre_of hpre 49 172 (by kernel_rfl) (by kernel_rfl)
                  have h0 : a'.tmps.getD 173 undef = _ := pre_of hpre 50 173 (by kernel_rfl) (by kernel_rfl)
                  have h1 : a'.tmps.getD 174 undef = _ := pre_of hpre 51 174 (by kernel_rfl) (by kernel_rfl)
                  refine sq_quiet 18 #[a'.tmps.getD 173 undef, a'.tmps.getD 174 undef] rfl (wanted_of 49 172 false rfl (by kernel_rfl) hgu) (by kernel_rfl) (by decide) hS ?_
                  rw [h0, h1]
                  exact (HCK.out w' (ho.below (Nat.le_refl _) (by simp))).mono (by rintro e u ⟨rfl, hu⟩; exact ⟨_, rfl, Only.of_below hu _, (fun _ _ => trivial), rfl⟩)
                · obtain rfl := Option.some.inj hi
                  have hgu : a'.tmps.getD 172 undef = _ := pre_of hpre 49 172 (by kernel_rfl) (by kernel_rfl)
                  have h0 : a'.tmps.getD 175 undef = _ := pre_of hpre 52 175 (by kernel_rfl) (by kernel_rfl)
                  exact sq_value _ rfl (wanted_of 49 172 false rfl (by kernel_rfl) hgu) (neqE_run 175 _ 0 rfl h0) (Below.refl _ _) (by decide) hS RB rfl
                · obtain rfl := Option.some.inj hi
                  have hgu : a'.tmps.getD 153 undef = _ := pre_of hpre 30 153 (by kernel_rfl) (by kernel_rfl)
                  have h0 : a'.tmps.getD 172 undef = _ := pre_of hpre 49 172 (by kernel_rfl) (by kernel_rfl)
                  have h1 : a'.tmps.getD 176 undef = _ := pre_of hpre 53 176 (by kernel_rfl) (by kernel_rfl)
                  exact sq_value _ rfl (wanted_of 30 153 true rfl (by kernel_rfl) hgu) (pick_run 172 false _ _ _ _ rfl h0 rfl h1) (Below.refl _ _) (by decide) hS RB rfl
                · obtain rfl := Option.some.inj hi
                  have hgu : a'.tmps.getD 151 undef = _ := pre_of hpre 28 151 (by kernel_rfl) (by kernel_rfl)
                  have h0 : a'.tmps.getD 153 undef = _ := pre_of hpre 30 153 (by kernel_rfl) (by kernel_rfl)
                  have h1 : a'.tmps.getD 177 undef = _ := pre_of hpre 54 177 (by kernel_rfl) (by kernel_rfl)
                  exact sq_value _ rfl (wanted_of 28 151 false rfl (by kernel_rfl) hgu) (pick_run 153 true _ _ _ _ rfl h0 h1 rfl) (Below.refl _ _) (by decide) hS RB rfl
                · obtain rfl := Option.some.inj hi
                  have h0 : a'.tmps.getD 151 undef = _ := pre_of hpre 28 151 (by kernel_rfl) (by kernel_rfl)
                  have h1 : a'.tmps.getD 178 undef = _ := pre_of hpre 55 178 (by kernel_rfl) (by kernel_rfl)
                  exact sq_value _ rfl rfl (pick_run 151 false _ _ _ _ rfl h0 rfl h1) (Below.refl _ _) (by decide) hS RB rfl
                · obtain rfl := Option.some.inj hi
                  have h0 := pre_of hpre 56 179 (by kernel_rfl) (by kernel_rfl)
                  exact sq_value _ rfl rfl (rfl) (Below.refl _ _) (by decide) hS RB h0
                · obtain rfl := Option.some.inj hi
                  have hgu : a'.tmps.getD 180 undef = _ := pre_of hpre 57 180 (by kernel_rfl) (by kernel_rfl)
                  exact sq_value _ rfl (wanted_of 57 180 false rfl (by kernel_rfl) hgu) rfl (Below.refl _ _) (by decide) hS RB (by show a'.tmps.getD 20 undef = _; rw [inv.old 20 (notDst_spec (by kernel_rfl))]; rfl)
                · obtain rfl := Option.some.inj hi
                  have hgu : a'.tmps.getD 180 undef = _ := pre_of hpre 57 180 (by kernel_rfl) (by kernel_rfl)
                  have h0 := pre_of hpre 58 181 (by kernel_rfl) (by kernel_rfl)
                  exact sq_value _ rfl (wanted_of 57 180 false rfl (by kernel_rfl) hgu) (rfl) (Below.refl _ _) (by decide) hS RB h0
                · obtain rfl := Option.some.inj hi
                  have hgu : a'.tmps.getD 182 undef = _ := pre_of hpre 59 182 (by kernel_rfl) (by kernel_rfl)
                  exact sq_value _ rfl (wanted_of 59 182 true rfl (by kernel_rfl) hgu) rfl (Below.refl _ _) (by decide) hS RB (by show SrcV _ _ (a'.tmps.getD 19 undef) _; rw [inv.old 19 (notDst_spec (by kernel_rfl))]; exact ⟨HBL.out w' (ho.below (Nat.le_refl _) (by simp)), fun _ b _ hb => by cases hb⟩)
                · obtain rfl := Option.some.inj hi
                  have hgu : a'.tmps.getD 182 undef = _ := pre_of hpre 59 182 (by kernel_rfl) (by kernel_rfl)
                  have h0 := pre_of hpre 60 183 (by kernel_rfl) (by kernel_rfl)
                  exact sq_value _ rfl (wanted_of 59 182 true rfl (by kernel_rfl) hgu) (conv_run 183 rfl (h0.1)) (Below.refl _ _) (by decide) hS RB rfl
                · obtain rfl := Option.some.inj hi
                  have hgu : a'.tmps.getD 182 undef = _ := pre_of hpre 59 182 (by kernel_rfl) (by kernel_rfl)
                  exact sq_value _ rfl (wanted_of 59 182 true rfl (by kernel_rfl) hgu) rfl (Below.refl _ _) (by decide) hS RB (by show a'.tmps.getD 13 undef = _; rw [inv.old 13 (notDst_spec (by kernel_rfl))]; rfl)
                · obtain rfl := Option.some.inj hi
                  have hgu : a'.tmps.getD 182 undef = _ := pre_of hpre 59 182 (by kernel_rfl) (by kernel_rfl)
                  have h0 : a'.tmps.getD 185 undef = _ := pre_of hpre 62 185 (by kernel_rfl) (by kernel_rfl)
                  exact sq_value _ rfl (wanted_of 59 182 true rfl (by kernel_rfl) hgu) (nil_run 185 _ rfl h0) (Below.refl _ _) (by decide) hS RB rfl
                · obtain rfl := Option.some.inj hi
                  have hgu : a'.tmps.getD 182 undef = _ := pre_of hpre 59 182 (by kernel_rfl) (by kernel_rfl)
                  have h0 : a'.tmps.getD 186 undef = _ := pre_of hpre 63 186 (by kernel_rfl) (by kernel_rfl)
                  exact sq_value _ rfl (wanted_of 59 182 true rfl (by kernel_rfl) hgu) (fa_run 42 0 186 dc rfl h0 (fa42_0 dc)) (Below.refl _ _) (by decide) hS RB rfl
                · obtain rfl := Option.some.inj hi
                  have hgu : a'.tmps.getD 182 undef = _ := pre_of hpre 59 182 (by kernel_rfl) (by kernel_rfl)
                  have h0 : a'.tmps.getD 187 undef = _ := pre_of hpre 64 187 (by kernel_rfl) (by kernel_rfl)
                  exact sq_value _ rfl (wanted_of 59 182 true rfl (by kernel_rfl) hgu) (load_run 22 187 dc (0) _ rfl h0 (ld22 ((HDC.out w' (ho.below (Nat.le_refl _) (by simp))).1))) (Below.refl _ _) (by decide) hS RB rfl
                · obtain rfl := Option.some.inj hi
                  have hgu : a'.tmps.getD 182 undef = _ := pre_of hpre 59 182 (by kernel_rfl) (by kernel_rfl)
                  exact sq_value _ rfl (wanted_of 59 182 true rfl (by kernel_rfl) hgu) rfl (Below.refl _ _) (by decide) hS RB (by show a'.tmps.getD 16 undef = _; rw [inv.old 16 (notDst_spec (by kernel_rfl))]; rfl)
                · obtain rfl := Option.some.inj hi
                  have hgu : a'.tmps.getD 182 undef = _ := pre_of hpre 59 182 (by kernel_rfl) (by kernel_rfl)
                  have h0 : a'.tmps.getD 188 undef = _ := pre_of hpre 65 188 (by kernel_rfl) (by kernel_rfl)
                  have h1 : a'.tmps.getD 189 undef = _ := pre_of hpre 66 189 (by kernel_rfl) (by kernel_rfl)
                  exact sq_value _ rfl (wanted_of 59 182 true rfl (by kernel_rfl) hgu) (idx22_run 188 189 lgb 0 nl lc j rfl h0 h1 HJL.out) (Below.refl _ _) (by decide) hS RB rfl
                · obtain rfl := Option.some.inj hi
                  have hgu : a'.tmps.getD 182 undef = _ := pre_of hpre 59 182 (by kernel_rfl) (by kernel_rfl)
                  have h0 : a'.tmps.getD 190 undef = _ := pre_of hpre 67 190 (by kernel_rfl) (by kernel_rfl)
                  exact sq_value _ rfl (wanted_of 59 182 true rfl (by kernel_rfl) hgu) (load_run 23 190 lgb (0 + j) _ rfl h0 (ld23 ((HDC.out w' (ho.below (Nat.le_refl _) (by simp))).2.2.2.2.1))) (Below.refl _ _) (by decide) hS RB (⟨(HDC.out w' (ho.below (Nat.le_refl _) (by simp))).2.2.2.2.2, fun _ b _ hb => by cases hb⟩)
                · obtain rfl := Option.some.inj hi
                  have hgu : a'.tmps.getD 182 undef = _ := pre_of hpre 59 182 (by kernel_rfl) (by kernel_rfl)
                  have h0 := pre_of hpre 68 191 (by kernel_rfl) (by kernel_rfl)
                  exact sq_value _ rfl (wanted_of 59 182 true rfl (by kernel_rfl) hgu) (conv_run 191 rfl (h0.1)) (Below.refl _ _) (by decide) hS RB rfl
                · obtain rfl := Option.some.inj hi
                  have hgu : a'.tmps.getD 182 undef = _ := pre_of hpre 59 182 (by kernel_rfl) (by kernel_rfl)
                  have h0 : a'.tmps.getD 184 undef = _ := pre_of hpre 61 184 (by kernel_rfl) (by kernel_rfl)
                  have h1 : a'.tmps.getD 192 undef = _ := pre_of hpre 69 192 (by kernel_rfl) (by kernel_rfl)
                  exact sq_value _ rfl (wanted_of 59 182 true rfl (by kernel_rfl) hgu) (neqS_run 184 192 _ _ rfl h0 h1) (Below.refl _ _) (by decide) hS RB (by show Value.bool _ = _; simp)
                · obtain rfl := Option.some.inj hi
                  have hgu : a'.tmps.getD 180 undef = _ := pre_of hpre 57 180 (by kernel_rfl) (by kernel_rfl)
                  have h0 : a'.tmps.getD 182 undef = _ := pre_of hpre 59 182 (by kernel_rfl) (by kernel_rfl)
                  have h1 : a'.tmps.getD 193 undef = _ := pre_of hpre 70 193 (by kernel_rfl) (by kernel_rfl)
                  exact sq_value _ rfl (wanted_of 57 180 false rfl (by kernel_rfl) hgu) (pick_run 182 true _ _ _ _ rfl h0 h1 rfl) (Below.refl _ _) (by decide) hS RB rfl
                · obtain rfl := Option.some.inj hi
                  have h0 : a'.tmps.getD 180 undef = _ := pre_of hpre 57 180 (by kernel_rfl) (by kernel_rfl)
                  have h1 : a'.tmps.getD 194 undef = _ := pre_of hpre 71 194 (by kernel_rfl) (by kernel_rfl)
                  exact sq_value _ rfl rfl (pick_run 180 false _ _ _ _ rfl h0 rfl h1) (Below.refl _ _) (by decide) hS RB rfl
              · intro a' w9 f inv hS hall hd
                have hk72 := hd 72 195 (by kernel_rfl)
                have ho : Only [] w7 w9 := inv.grow
                have hdf : a'.defers = [] := inv.defers
                have hsz : a'.tmps.size = 196 := inv.size
                have e := frame3_25 hsz (fun t ht => inv.old t (dstsIn_spec (ts := [123, 124, 125, 126, 127, 128, 129, 130, 131, 132, 133, 134, 135, 136, 137, 138, 139, 140, 141, 142, 143, 144, 145, 146, 147, 148, 149, 150, 151, 152, 153, 154, 155, 156, 157, 158, 159, 160, 161, 162, 163, 164, 165, 166, 167, 168, 169, 170, 171, 172, 173, 174, 175, 176, 177, 178, 179, 180, 181, 182, 183, 184, 185, 186, 187, 188, 189, 190, 191, 192, 193, 194, 195]) (by kernel_rfl) t ht))
                have hR := hS.done (fun c hc => hall c (show c < 73 by simp at hc <;> omega))
                clear inv hd hsz hall hS
                obtain ⟨tmps, defers⟩ := a'
                obtain rfl : defers = [] := hdf
                replace e : tmps = _ := e
                replace hk72 : tmps.getD 195 undef = (.bool false) := hk72
                generalize tmps.getD 123 undef = x123 at *
                generalize tmps.getD 124 undef = x124 at *
                generalize tmps.getD 125 undef = x125 at *
                generalize tmps.getD 126 undef = x126 at *
                generalize tmps.getD 127 undef = x127 at *
                generalize tmps.getD 128 undef = x128 at *
                generalize tmps.getD 129 undef = x129 at *
                generalize tmps.getD 130 undef = x130 at *
                generalize tmps.getD 131 undef = x131 at *
                generalize tmps.getD 132 undef = x132 at *
                generalize tmps.getD 133 undef = x133 at *
                generalize tmps.getD 134 undef = x134 at *
                generalize tmps.getD 135 undef = x135 at *
                generalize tmps.getD 136 undef = x136 at *
                generalize tmps.getD 137 undef = x137 at *
                generalize tmps.getD 138 undef = x138 at *
                generalize tmps.getD 139 undef = x139 at *
                generalize tmps.getD 140 undef = x140 at *
                generalize tmps.getD 141 undef = x141 at *
                generalize tmps.getD 142 undef = x142 at *
                generalize tmps.getD 143 undef = x143 at *
                generalize tmps.getD 144 undef = x144 at *
                generalize tmps.getD 145 undef = x145 at *
                generalize tmps.getD 146 undef = x146 at *
                generalize tmps.getD 147 undef = x147 at *
                generalize tmps.getD 148 undef = x148 at *
                generalize tmps.getD 149 undef = x149 at *
                generalize tmps.getD 150 undef = x150 at *
                generalize tmps.getD 151 undef = x151 at *
                generalize tmps.getD 152 undef = x152 at *
                generalize tmps.getD 153 undef = x153 at *
                generalize tmps.getD 154 undef = x154 at *
                generalize tmps.getD 155 undef = x155 at *
                generalize tmps.getD 156 undef = x156 at *
                generalize tmps.getD 157 undef = x157 at *
                generalize tmps.getD 158 undef = x158 at *
                generalize tmps.getD 159 undef = x159 at *
                generalize tmps.getD 160 undef = x160 at *
                generalize tmps.getD 161 undef = x161 at *
                generalize tmps.getD 162 undef = x162 at *
                generalize tmps.getD 163 undef = x163 at *
                generalize tmps.getD 164 undef = x164 at *
                generalize tmps.getD 165 undef = x165 at *
                generalize tmps.getD 166 undef = x166 at *
                generalize tmps.getD 167 undef = x167 at *
                generalize tmps.getD 168 undef = x168 at *
                generalize tmps.getD 169 undef = x169 at *
                generalize tmps.getD 170 undef = x170 at *
                generalize tmps.getD 171 undef = x171 at *
                generalize tmps.getD 172 undef = x172 at *
                generalize tmps.getD 173 undef = x173 at *
                generalize tmps.getD 174 undef = x174 at *
                generalize tmps.getD 175 undef = x175 at *
                generalize tmps.getD 176 undef = x176 at *
                generalize tmps.getD 177 undef = x177 at *
                generalize tmps.getD 178 undef = x178 at *
                generalize tmps.getD 179 undef = x179 at *
                generalize tmps.getD 180 undef = x180 at *
                generalize tmps.getD 181 undef = x181 at *
                generalize tmps.getD 182 undef = x182 at *
                generalize tmps.getD 183 undef = x183 at *
                generalize tmps.getD 184 undef = x184 at *
                generalize tmps.getD 185 undef = x185 at *
                generalize tmps.getD 186 undef = x186 at *
                generalize tmps.getD 187 undef = x187 at *
                generalize tmps.getD 188 undef = x188 at *
                generalize tmps.getD 189 undef = x189 at *
                generalize tmps.getD 190 undef = x190 at *
                generalize tmps.getD 191 undef = x191 at *
                generalize tmps.getD 192 undef = x192 at *
                generalize tmps.getD 193 undef = x193 at *
                generalize tmps.getD 194 undef = x194 at *
                generalize tmps.getD 195 undef = x195 at *
                simp only [Array.getD_eq_getD_getElem?, List.getElem?_toArray, List.getElem?_cons_succ, List.getElem?_cons_zero, Option.getD_some] at e
                subst e
                subst hk72
                have GZ : Hid (Pr2 B w9 p q m x c d dc L ls ss L ls ss ∧ Below B w w9) := G7.out w9 (ho.below (Nat.le_refl _) (by simp))
                clear ho hR G7
                go_wp2_with fail
                refine ⟨⟨(j : Int) + 1, rfl, by omega, by omega, GZ⟩, ?_⟩
                simp only [intOf]
                omega
          · have hc1 : ¬ z ≤ (nl : Int) + 1 := hz
            clear hch hdc hln
            go_wp2_with fail
            refine HLN.out.mono ?_
            rintro e w5 ⟨rfl, hw⟩
            obtain rfl : wr = w5 := hw.symm
            clear hw
            go_wp2_with fail
            go_ret
            exact ⟨rfl, GK.out.2⟩
end Go.Proofs.YtkiohhkmlpgdoaaDoor.S7
