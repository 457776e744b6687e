/- Seal, whatever the suite: the box is one's own. -/
import Derived.Test.YtfjdaafckiefdaaGreatDoorS15Seal
namespace Go.Proofs.YtfjdaafckiefdaaGreatDoor.S15
open Go.RowKit C8 E9
open S7 (Fr Kx By)
set_option maxHeartbeats 8000000 in
set_option maxRecDepth 10000 in
theorem seal_own {bs : List Nat} {ts : List (Option TypeId)} {B : Nat} {w : World} {J : World → Prop} {K : Value → World → Prop} {mk bx : List Nat} (sp sv : Value) (kq : Option Addr) (kc : Nat) (r : Rec) (q : Option Addr) (c : Nat) (e : En) (ve : Value) (he : EnIs w ve e) (hr : right e = true) (hw : e.writer = r.writer) (hn : rnum r = true) (hB : B ≤ w.heap.size) (h5 : some 5 ∉ ts) (hR : some 24 ∉ ts) (hmk : mk.length = 32 ∧ ∀ x ∈ mk, x < 256) (hbx : ∀ x ∈ bx, x < 256)
    (hmark : ∀ w1 bv, Below w.heap.size w w1 → By B w1 bv (E9.bytes e) → Calls Tryz.prog 63 #[sp, sv, .agg (RecV r q c), bv] w1 fun x w' => ∃ u, x = .returned u ∧ w'.ownsRow w1.heap.size 5 1 u 32 (ints .u8 mk) ∧ J w' ∧ Fr bs ts B w1 w')
    (hJ : ∀ w1 w2, J w1 → Below w1.heap.size w1 w2 → J w2)
    (hseal : ∀ w1 nv fv pv, J w1 → Fr bs ts B w w1 → By B w1 nv (S7.non r.writer.toNat r.count.toNat) → By B w1 fv (rfront r) → By B w1 pv (padL (twoL (E9.bytes e) mk)) → Calls Tryz.prog 30 #[sp, .slice kq 32 kc, nv, fv, pv] w1 fun x w' => ∃ v, x = .returned (.tuple #[v, .int .i64 0]) ∧ w'.ownsRow w1.heap.size 5 1 v bx.length (ints .u8 bx) ∧ K v w' ∧ Fr bs ts B w1 w')
    (hK : ∀ v w1 w2, K v w1 → Kx [some 24] B w1 w2 → K v w2) :
    Calls Tryz.prog 22 #[sp, sv, .slice kq 32 kc, .agg (RecV r q c), ve] w fun x w' => ∃ q' c', x = .returned (.tuple #[.agg (RecV (r.with bx) q' c'), .int .i64 0]) ∧ By B w' (.slice q' bx.length c') bx ∧ K (.slice q' bx.length c') w' ∧ Fr bs ts B w w' := by
  obtain ⟨np, nc, vp, vc, wq, wc, rfl, hA⟩ := he
  have hsm := bytes_small (EnIs.small ⟨np, nc, vp, vc, wq, wc, rfl, hA⟩)
  have hbl := (bytes_length hr).1
  have HE : Hid (Calls Tryz.prog 59 #[.agg (EnV e np nc vp vc wq wc)] (((w.alloc (.cells (RecV r q c) 24)).alloc (.cells (EnV e np nc vp vc wq wc) 49)).alloc (.cells z5 24)) fun x w' => ∃ bq bc, x = .returned (.tuple #[.slice bq (E9.bytes e).length bc, .int .i64 0]) ∧ Sb w w' (RecV r q c) (EnV e np nc vp vc wq wc) ∧ By B w' (.slice bq (E9.bytes e).length bc) (E9.bytes e)) := by
    have hS := Sb.start w (RecV r q c) (EnV e np nc vp vc wq wc)
    refine (Encode_any e _ _ ⟨np, nc, vp, vc, wq, wc, rfl, hA.below hS.bel⟩).mono ?_
    rintro x w' ⟨h1, ⟨_, v, rfl, h2⟩ | ⟨h2, _⟩⟩
    · obtain ⟨bq, bc, rfl⟩ := own_slice h2
      exact ⟨bq, bc, rfl, hS.below h1, By.own hsm h2⟩
    · rw [hr] at h2; cases h2
  have HM : Hid (∀ w1 bq bc, Sb w w1 (RecV r q c) (EnV e np nc vp vc wq wc) → By B w1 (.slice bq (E9.bytes e).length bc) (E9.bytes e) → Calls Tryz.prog 60 #[.slice kq 32 kc, .agg (RecV r q c), .int .i64 r.writer, .slice bq (E9.bytes e).length bc] w1 fun x w' => x = .returned (.int .i64 0) ∧ Sb w w' (RecV r q c) (EnV e np nc vp vc wq wc) ∧ By B w' (.slice bq (E9.bytes e).length bc) (E9.bytes e)) := fun w1 bq bc h1 h2 => by
    refine (may_ok r q c kq kc _ (E9.bytes e) w1 hn h2.src (by omega)).mono ?_
    rintro x w' ⟨rfl, h3⟩
    exact ⟨rfl, h1.below h3, h2.below h3⟩
  have HK2 : Hid (∀ w1 bq bc, Sb w w1 (RecV r q c) (EnV e np nc vp vc wq wc) → By B w1 (.slice bq (E9.bytes e).length bc) (E9.bytes e) → Calls Tryz.prog 63 #[sp, sv, .agg (RecV r q c), .slice bq (E9.bytes e).length bc] w1 fun x w' => ∃ uq uc, x = .returned (.slice uq 32 uc) ∧ By B w' (.slice uq 32 uc) mk ∧ J w' ∧ Fr bs ts B w w' ∧ w'.heap[w.heap.size]? = some (.cells (RecV r q c) 24 (0, 0)) ∧ w'.heap[w.heap.size + 2]? = some (.cells z5 24 (0, 0)) ∧ By B w' (.slice bq (E9.bytes e).length bc) (E9.bytes e)) := fun w1 bq bc h1 h2 => by
    refine (hmark w1 _ h1.bel h2).mono ?_
    rintro x w' ⟨u, rfl, k1, k2, k3⟩
    obtain ⟨uq, uc, rfl⟩ := S7.own_slice k1
    exact ⟨uq, uc, rfl, By.own hmk.2 k1, k2, (Fr.of_below h1.bel hB).trans k3, k3.kx.row _ _ h1.rc hR, k3.kx.row _ _ h1.zc hR, h2.kx k3.kx h5⟩
  have HT : Hid (∀ w1 bq bc uq uc, By B w1 (.slice bq (E9.bytes e).length bc) (E9.bytes e) → By B w1 (.slice uq 32 uc) mk → Calls Tryz.prog 62 #[.slice bq (E9.bytes e).length bc, .slice uq 32 uc] w1 fun x w' => ∃ tq tc, x = .returned (.slice tq ((E9.bytes e).length + 36) tc) ∧ Src w' (.slice tq ((E9.bytes e).length + 36) tc) (twoL (E9.bytes e) mk) ∧ Below w1.heap.size w1 w') := fun w1 bq bc uq uc h1 h2 => by
    refine (two_any (E9.bytes e) mk _ _ w1 h1.src h2.src (by omega) (by omega)).mono ?_
    rintro x w' ⟨t, rfl, k1, k2⟩
    have hs := Src.own (twoL_small hsm hmk.2) k1
    obtain ⟨tq, tc, rfl⟩ := own_slice k1
    rw [hmk.1] at hs ⊢
    exact ⟨tq, tc, rfl, hs, k2⟩
  have HP : Hid (∀ w1 tq tc, Src w1 (.slice tq ((E9.bytes e).length + 36) tc) (twoL (E9.bytes e) mk) → Calls Tryz.prog 61 #[.slice tq ((E9.bytes e).length + 36) tc] w1 fun x w' => ∃ pq pn pc, x = .returned (.tuple #[.slice pq pn pc, .int .i64 0]) ∧ By B w' (.slice pq pn pc) (padL (twoL (E9.bytes e) mk)) ∧ Below w1.heap.size w1 w') := fun w1 tq tc h1 => by
    have hl : (twoL (E9.bytes e) mk).length = (E9.bytes e).length + 36 := by rw [twoL_length, hmk.1]
    refine (Pad_ok tq _ tc w1 h1 hl (by omega)).mono ?_
    rintro x w' ⟨rfl, k1, k2⟩
    exact ⟨_, _, _, rfl, By.own (padL_lt (by omega) (twoL_small hsm hmk.2)) k1, k2⟩
  have HN : Hid (∀ w1, Calls Tryz.prog 64 #[.agg (RecV r q c)] w1 fun x w' => ∃ nq nc, x = .returned (.slice nq 12 nc) ∧ By B w' (.slice nq 12 nc) (S7.non r.writer.toNat r.count.toNat) ∧ Below w1.heap.size w1 w') := fun w1 => by
    refine (nonce_any r q c w1 hn).mono ?_
    rintro x w' ⟨v, rfl, k1, k2⟩
    obtain ⟨nq, nc, rfl⟩ := S7.own_slice k1
    exact ⟨nq, nc, rfl, By.own (S7.non_small _ _) k1, k2⟩
  have HF : Hid (∀ w1, Calls Tryz.prog 65 #[.agg (RecV r q c)] w1 fun x w' => ∃ fq fc, x = .returned (.slice fq 24 fc) ∧ By B w' (.slice fq 24 fc) (rfront r) ∧ Below w1.heap.size w1 w') := fun w1 => by
    refine (front_any r q c w1 hn).mono ?_
    rintro x w' ⟨v, rfl, k1, k2⟩
    obtain ⟨nq, nc, rfl⟩ := S7.own_slice k1
    exact ⟨nq, nc, rfl, By.own (rfront_small _) k1, k2⟩
  have HS := hid hseal
  have HX : Hid ((∀ w1 w2, J w1 → Below w1.heap.size w1 w2 → J w2) ∧ (∀ v w1 w2, K v w1 → Kx [some 24] B w1 w2 → K v w2) ∧ B ≤ w.heap.size ∧ some 5 ∉ ts ∧ some 24 ∉ ts ∧ ∀ x ∈ bx, x < 256) := ⟨hJ, hK, hB, h5, hR, hbx⟩
  have hwr : (e.writer == r.writer) = true := by rw [hw]; exact beq_self_eq_true _
  clear hA hr hmark hsm hbl hseal hJ hK hB h5 hR hbx hmk hn
  unfold RecV EnV z5 at *
  generalize r.box.length = n5 at *
  generalize e.name.length = n1 at *
  generalize e.value.length = n2 at *
  generalize e.wraps.length = n3 at *
  generalize E9.bytes e = by_ at *
  obtain ⟨bl, HBL⟩ : ∃ bl, Hid (by_.length = bl) := ⟨_, rfl⟩
  rw [HBL.out] at HE HM HK2 HT HP
  rw [hw] at HE HM HK2
  show Calls Tryz.prog _ _ w _
  go_enter Tryz.func22, Tryz.ntmps22
  rw [hw]
  clear hw hwr
  generalize e.kind = e1 at *
  generalize e.seq = e3 at *
  generalize e.who = e6 at *
  generalize e.rights = e7 at *
  generalize e.epoch = e8 at *
  go_wp2_with fail
  refine HE.out.mono ?_
  rintro x w1 ⟨bq, bc, rfl, h1, h2⟩
  obtain ⟨a0, a1, a2, a3, a4, af⟩ := rec_cells h1.rc
  have b1 := en_cell1 h1.ec
  obtain ⟨z0, z1, z2, z3, z4, zf⟩ := z5_cells h1.zc
  have HM1 := hid (HM.out w1 bq bc h1 h2)
  clear h1 h2 HE HM
  go_wp2_with fail
  refine HM1.out.mono ?_
  rintro x w2 ⟨rfl, h1, h2⟩
  clear a0 a1 a2 a3 a4 af b1 z0 z1 z2 z3 z4 zf HM1
  obtain ⟨a0, a1, a2, a3, a4, af⟩ := rec_cells h1.rc
  have b1 := en_cell1 h1.ec
  obtain ⟨z0, z1, z2, z3, z4, zf⟩ := z5_cells h1.zc
  have HM1 := hid (HK2.out w2 bq bc h1 h2)
  clear h1 h2 HK2
  go_wp2_with fail
  refine HM1.out.mono ?_
  rintro x w3 ⟨uq, uc, rfl, h1, h2, h3, h4, h6, h7⟩
  clear a0 a1 a2 a3 a4 af b1 z0 z1 z2 z3 z4 zf HM1
  have HM1 := hid (HT.out w3 bq bc uq uc h7 h1)
  have G3 := hid (And.intro h2 (And.intro h3 (And.intro h4 h6)))
  clear h1 h2 h3 h4 h6 h7 HT
  go_wp2_with fail
  refine HM1.out.mono ?_
  rintro x w4 ⟨tq, tc, rfl, h1, h2⟩
  clear HM1
  have HM1 := hid (HP.out w4 tq tc h1)
  have G4 : Hid (J w4 ∧ Fr _ _ B w w4 ∧ w4.heap[w.heap.size]? = _ ∧ w4.heap[w.heap.size + 2]? = _) := ⟨HX.out.1 _ _ G3.out.1 h2, G3.out.2.1.trans (Fr.of_below h2 (Nat.le_trans HX.out.2.2.1 G3.out.2.1.size)), (h2.block _ (Array.getElem?_eq_some_iff.1 G3.out.2.2.1).1).trans G3.out.2.2.1, (h2.block _ (Array.getElem?_eq_some_iff.1 G3.out.2.2.2).1).trans G3.out.2.2.2⟩
  clear h1 h2 HP G3
  go_wp2_with fail
  refine HM1.out.mono ?_
  rintro x w5 ⟨pq, pn, pc, rfl, h1, h2⟩
  clear HM1
  have G5 : Hid (J w5 ∧ Fr _ _ B w w5 ∧ w5.heap[w.heap.size]? = _ ∧ w5.heap[w.heap.size + 2]? = _ ∧ By B w5 (.slice pq pn pc) _) := ⟨HX.out.1 _ _ G4.out.1 h2, G4.out.2.1.trans (Fr.of_below h2 (Nat.le_trans HX.out.2.2.1 G4.out.2.1.size)), (h2.block _ (Array.getElem?_eq_some_iff.1 G4.out.2.2.1).1).trans G4.out.2.2.1, (h2.block _ (Array.getElem?_eq_some_iff.1 G4.out.2.2.2).1).trans G4.out.2.2.2, h1⟩
  obtain ⟨a0, a1, a2, a3, a4, af⟩ := rec_cells G5.out.2.2.1
  clear h1 h2 G4
  have HROW : Hid (∀ W', Below w5.heap.size w5 W' → W'.heap[w.heap.size]? = some (.cells #[.int .i64 r.coll, .int .i64 r.epoch, .int .i64 r.writer, .int .i64 r.count, .slice q n5 c] 24 (0, 0))) := fun W' hb => (hb.block _ (Array.getElem?_eq_some_iff.1 G5.out.2.2.1).1).trans G5.out.2.2.1
  obtain ⟨xl, HXL⟩ : ∃ xl, Hid (bx.length = xl) := ⟨_, rfl⟩
  have HSL : Hid (∀ W' nq nc fq fc, Below w5.heap.size w5 W' → By B W' (.slice nq 12 nc) (S7.non r.writer.toNat r.count.toNat) → By B W' (.slice fq 24 fc) (rfront r) → Calls Tryz.prog 30 #[sp, .slice kq 32 kc, .slice nq 12 nc, .slice fq 24 fc, .slice pq pn pc] W' fun x w' => ∃ vq vc, x = .returned (.tuple #[.slice vq xl vc, .int .i64 0]) ∧ Hid (By B w' (.slice vq xl vc) bx ∧ K (.slice vq xl vc) w' ∧ Fr bs ts B w w' ∧ w'.heap[w.heap.size]? = some (.cells #[.int .i64 r.coll, .int .i64 r.epoch, .int .i64 r.writer, .int .i64 r.count, .slice q n5 c] 24 (0, 0)) ∧ w'.heap[w.heap.size + 2]? = some (.cells #[.int .i64 0, .int .i64 0, .int .i64 0, .int .i64 0, .slice none 0 0] 24 (0, 0)))) := fun W' nq nc fq fc hb k1 k2 => by
    have hB5 : B ≤ w5.heap.size := Nat.le_trans HX.out.2.2.1 G5.out.2.1.size
    have hfr : Fr bs ts B w W' := G5.out.2.1.trans (Fr.of_below hb hB5)
    refine (HS.out W' _ _ _ (HX.out.1 _ _ G5.out.1 hb) hfr k1 k2 (G5.out.2.2.2.2.below hb)).mono ?_
    rintro x w' ⟨v, rfl, j1, j2, j3⟩
    obtain ⟨vq, vc, rfl⟩ := S7.own_slice j1
    have hby : By B w' (.slice vq bx.length vc) bx := By.own HX.out.2.2.2.2.2 j1
    rw [HXL.out] at hby j2 ⊢
    exact ⟨vq, vc, rfl, hby, j2, hfr.trans j3, j3.kx.row _ _ (HROW.out W' hb) HX.out.2.2.2.2.1, j3.kx.row _ _ ((hb.block _ (Array.getElem?_eq_some_iff.1 G5.out.2.2.2.1).1).trans G5.out.2.2.2.1) HX.out.2.2.2.2.1⟩
  clear HS G5
  go_upto_region 8 with fail
  go_region_with (first
    | (go_at_call 64; refine (HN.out _).mono ?_; rintro x wn ⟨nq, nc2, rfl, N1, N2⟩; have hbn : Hid (Below w5.heap.size w5 wn) := (S7.below_drewN 1 w5 _).trans N2; obtain ⟨d0, d1, d2, d3, d4, df⟩ := rec_cells (HROW.out wn hbn.out); have N3 := hid N1; clear N1 N2)
    | (go_at_call 65; refine (HF.out _).mono ?_; rintro x wf ⟨fq, fc, rfl, F1, F2⟩; have hbf : Hid (Below w5.heap.size w5 wf) := hbn.out.trans (F2.mono hbn.out.size); obtain ⟨g0, g1, g2, g3, g4, gf⟩ := rec_cells (HROW.out wf hbf.out); have N4 := hid (N3.out.below F2); have F3 := hid F1; clear F1 F2)
    | (go_at_call 30; refine (HSL.out _ _ _ _ _ hbf.out N4.out F3.out).mono ?_; rintro x ws ⟨vq, vc2, rfl, S1⟩; obtain ⟨k0, k1, k2, k3, k4, kf⟩ := rec_cells S1.out.2.2.2.1; have kf4 := kf 4))
  all_goals
    have hst : Hid (By B (ws.setCell ⟨w.heap.size, 4, none⟩ (.slice vq xl vc2)) (.slice vq xl vc2) bx ∧ K (.slice vq xl vc2) (ws.setCell ⟨w.heap.size, 4, none⟩ (.slice vq xl vc2)) ∧ Fr bs ts B w (ws.setCell ⟨w.heap.size, 4, none⟩ (.slice vq xl vc2)) ∧ (ws.setCell ⟨w.heap.size, 4, none⟩ (.slice vq xl vc2)).heap[w.heap.size]? = some (.cells #[.int .i64 r.coll, .int .i64 r.epoch, .int .i64 r.writer, .int .i64 r.count, .slice vq xl vc2] 24 (0, 0)) ∧ (ws.setCell ⟨w.heap.size, 4, none⟩ (.slice vq xl vc2)).heap[w.heap.size + 2]? = some (.cells #[.int .i64 0, .int .i64 0, .int .i64 0, .int .i64 0, .slice none 0 0] 24 (0, 0))) := by
      obtain ⟨j1, j2, j3, j4, j5⟩ := S1.out
      have ho := S7.Only.setCell (bs := [w.heap.size]) ws ⟨w.heap.size, 4, none⟩ (.slice vq xl vc2) (by simp)
      have hk : Kx [some 24] B ws (ws.setCell ⟨w.heap.size, 4, none⟩ (.slice vq xl vc2)) := Kx.of_only ho (Nat.le_trans HX.out.2.2.1 j3.size) (fun y hy => by
        rw [List.mem_singleton.1 hy]
        exact ⟨HX.out.2.2.1, fun o ho => by rw [j4] at ho; cases ho; simp [S7.tyOf]⟩)
      exact ⟨j1.kx hk (by decide), HX.out.2.1 _ _ _ j2 hk, Fr.fresh j3 ho (Nat.le_refl _) HX.out.2.2.1, heap_setCell_same _ _ 4 _ _ _ j4, (ho.block _ (Array.getElem?_eq_some_iff.1 j5).1 (by simp)).trans j5⟩
    clear S1 k0 k1 k2 k3 k4 kf kf4
    generalize ws.setCell ⟨w.heap.size, 4, none⟩ (.slice vq xl vc2) = w6 at *
    obtain ⟨k0, k1, k2, k3, k4, kf⟩ := rec_cells hst.out.2.2.2.1
    obtain ⟨y0, y1, y2, y3, y4, yf⟩ := rec_cells hst.out.2.2.2.2
    go_wp2_with fail
    refine bodyPost_ret (results_row2 rfl _ _ (w.heap.size + 2) 24 _ (0, 0) _ rfl (row5 hst.out.2.2.2.2 _ _ _ _ _) Tryz.underlying24 rfl (by kernel_rfl)) rfl ?_
    obtain ⟨j1, j2, j3, j4, j5⟩ := hst.out
    have ho := only5 w6 (w.heap.size + 2) (.int .i64 r.coll) (.int .i64 r.epoch) (.int .i64 r.writer) (.int .i64 r.count) (.slice vq xl vc2)
    have hk := Kx.of_only (ts := [some 24]) ho (Nat.le_trans HX.out.2.2.1 j3.size) (fun y hy => by
      rw [List.mem_singleton.1 hy]
      exact ⟨by have := HX.out.2.2.1; omega, fun o ho => by rw [j5] at ho; cases ho; simp [S7.tyOf]⟩)
    rw [HXL.out]
    exact ⟨vq, vc2, by (show _ = Ending.returned (.tuple #[.agg #[.int .i64 r.coll, .int .i64 r.epoch, .int .i64 r.writer, .int .i64 r.count, .slice vq bx.length vc2], .int .i64 0])); rw [HXL.out]; rfl, j1.kx hk (by decide), HX.out.2.1 _ _ _ j2 hk, Fr.fresh j3 ho (by omega) HX.out.2.2.1⟩
end Go.Proofs.YtfjdaafckiefdaaGreatDoor.S15
