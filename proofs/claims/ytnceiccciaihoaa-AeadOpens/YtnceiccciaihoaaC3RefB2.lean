/- The document's answer: Block. -/
import Derived.Test.YtnceiccciaihoaaC3RefB
namespace Go.Proofs.Ytnceiccciaihoaa.C3
open Go.RowKit
theorem below_size {w w' : World} {B : Nat} (h : Below B w w') : w.heap.size ≤ w'.heap.size := h.size
set_option maxRecDepth 8000 in
set_option maxHeartbeats 8000000 in
theorem rblock_any (key nonce : List Nat) (bk ok ck bn on cn c : Nat) (w : World) (hk : key.length = 32) (hn : nonce.length = 12) (hK : SliceIs w bk ok key) (hN : SliceIs w bn on nonce) (hc : c < 4294967296) :
    Calls Try.prog 34 #[.slice (some ⟨bk, ok, none⟩) 32 ck, .int .i64 c, .slice (some ⟨bn, on, none⟩) 12 cn] w fun e w' => ∃ g cp, e = .returned (.slice (some ⟨g, 0, none⟩) 64 cp) ∧ w.heap.size ≤ g ∧ 64 ≤ cp ∧ w'.rangeAt g 0 (ints .u8 (Ch.blockOf key c nonce)) ∧ Below w.heap.size w w' := by
  have HK : Hid (SliceIs w bk ok key) := hK
  have HN : Hid (SliceIs w bn on nonce) := hN
  have HKL : Hid (key.length = 32) := hk
  have HNL : Hid (nonce.length = 12) := hn
  have HSO : Hid (Ch.Ok (Ch.start key c nonce)) := Ch.start_ok hK.1 hN.1 hc
  obtain ⟨BL, hBL⟩ : ∃ B, Ch.blockOf key c nonce = B := ⟨_, rfl⟩
  rw [hBL]
  have HBL : Hid (BL = Ch.block (Ch.start key c nonce)) := hBL.symm
  clear hk hn hK hN hBL
  go_enter Try.func34, Try.ntmps34
  go_wp2_with fail
  go_loopw [7, 8] (fun sl i wr => ∃ k : Nat, k ≤ 8 ∧ i = .int .i64 ((4 * k : Nat) : Int) ∧ Hid (wr.ownsRow w.heap.size 3 1 sl (4 + k) (ints .i64 (c4 ++ Ch.words key k))) ∧ Hid (Below w.heap.size w wr)) (fun _ i _ => 32 - (intOf i).toNat)
  case atStart => exact ⟨0, by omega, rfl, own_new w .i64 3 c4 (by decide), (Below.refl _ _).alloc (Nat.le_refl _) _⟩
  case round =>
    obtain ⟨k, hk, rfl, HO, HB⟩ := hrel
    obtain ⟨q, cq, rfl⟩ := own_slice HO.out
    obtain ⟨A, hA⟩ : ∃ A, 4 * k = A := ⟨_, rfl⟩
    by_cases hlt : k < 8
    · have hX := HK.out.below HB.out
      have HC : Hid (Calls Try.prog 43 #[.slice (some ⟨bk, ok, none⟩) 32 ck, .int .i64 A] wr fun e w' => e = .returned (.int .i64 (Ch.word key A : Nat)) ∧ ∃ n, w' = wr.drewN n) := word32 key bk ok ck A wr hX.1 hX.2 HKL.out (by omega)
      have HWS : Hid (c4 ++ Ch.words key (k + 1) = c4 ++ Ch.words key k ++ [Ch.word key A]) := by
        show _ = _
        rw [Ch.words_succ key k, hA, ← List.append_assoc]
      rw [hA]
      have k1 : (A : Int) < 32 := by omega
      have HA : Hid (4 * k = A) := hA
      clear hA hX
      generalize Ch.word key A = x at *
      go_wp2_with fail
      refine HC.out.mono ?_
      rintro e w2 ⟨rfl, n2, rfl⟩
      have hs2 : w.heap.size ≤ wr.heap.size := HB.out.size
      have hbA : Below wr.heap.size wr ((wr.drewN n2).alloc (Obj.cells (arr .i64 [x]) 3)) := (below_drewN (Below.refl _ _) n2).alloc (Nat.le_refl _) _
      have HO2 : Hid (((wr.drewN n2).alloc (Obj.cells (arr .i64 [x]) 3)).ownsRow w.heap.size 3 1 (.slice q (4 + k) cq) (4 + k) (ints .i64 (c4 ++ Ch.words key k))) := own_below HO.out hbA
      have HB2 : Hid (Below w.heap.size w ((wr.drewN n2).alloc (Obj.cells (arr .i64 [x]) 3))) := HB.out.trans (hbA.mono hs2)
      have HR2 : Hid (((wr.drewN n2).alloc (Obj.cells (arr .i64 [x]) 3)).rangeAt wr.heap.size 0 (ints .i64 [x])) := rangeAt_of_row (heap_alloc_new (wr.drewN n2) _)
      clear hbA HO HB HC
      go_wp2_with (first | with_reducible (refine stop_builtin .append ?_))
      refine Stop.go ?_
      rw [show (Obj.cells #[Value.int .i64 ((x : Nat) : Int)] 3 : Obj) = Obj.cells (arr .i64 [x]) 3 from rfl]
      with_reducible refine law_append_ints w.heap.size (.slice q (4 + k) cq) (4 + k) (c4 ++ Ch.words key k) wr.heap.size 1 1 [x] ?asv8 ?axv8 rfl HO2.out HR2.out (by omega) HB2.out.size ?ak8
      case asv8 => exact rfl
      case axv8 => exact rfl
      intro v6 w6 hown6 hg6
      have HO6 : Hid (w6.ownsRow w.heap.size 3 1 v6 (4 + (k + 1)) (ints .i64 (c4 ++ Ch.words key (k + 1)))) := by
        rw [HWS.out]
        exact hown6
      have HB6 : Hid (Below w.heap.size w w6) := below_grown' HB2.out hg6 HO2.out HB2.out.size (Nat.le_refl _)
      clear hown6 hg6 HO2 HB2 HR2 HWS
      go_wp2_with fail
      go_roundw
      case rel => exact ⟨k + 1, by omega, by have := HA.out; go_num, HO6.out, HB6.out⟩
      case measure => have := HA.out; simp [intOf]; omega
    · obtain rfl : k = 8 := by omega
      clear hA
      have hs2 : w.heap.size ≤ wr.heap.size := HB.out.size
      have hbA : Below wr.heap.size wr (wr.alloc (Obj.cells (arr .i64 [c]) 3)) := (Below.refl _ _).alloc (Nat.le_refl _) _
      have HO2 : Hid ((wr.alloc (Obj.cells (arr .i64 [c]) 3)).ownsRow w.heap.size 3 1 (.slice q (4 + 8) cq) (4 + 8) (ints .i64 (c4 ++ Ch.words key 8))) := own_below HO.out hbA
      have HB2 : Hid (Below w.heap.size w (wr.alloc (Obj.cells (arr .i64 [c]) 3))) := HB.out.trans (hbA.mono hs2)
      have HR2 : Hid ((wr.alloc (Obj.cells (arr .i64 [c]) 3)).rangeAt wr.heap.size 0 (ints .i64 [c])) := rangeAt_of_row (heap_alloc_new wr _)
      clear hbA HO HB
      go_wp2_with (first | with_reducible (refine stop_builtin .append ?_))
      refine Stop.go ?_
      rw [show (Obj.cells #[Value.int .i64 ((c : Nat) : Int)] 3 : Obj) = Obj.cells (arr .i64 [c]) 3 from rfl]
      with_reducible refine law_append_ints w.heap.size (.slice q (4 + 8) cq) (4 + 8) (c4 ++ Ch.words key 8) wr.heap.size 1 1 [c] ?bsv ?bxv rfl HO2.out HR2.out (by omega) HB2.out.size ?bk
      case bsv => exact rfl
      case bxv => exact rfl
      intro v6 w6 hown6 hg6
      have HO6 : Hid (w6.ownsRow w.heap.size 3 1 v6 13 (ints .i64 (c4 ++ Ch.words key 8 ++ [c]))) := hown6
      have HB6 : Hid (Below w.heap.size w w6) := below_grown' HB2.out hg6 HO2.out HB2.out.size (Nat.le_refl _)
      clear hown6 hg6 HO2 HB2 HR2
      obtain ⟨q6, c6, rfl⟩ := own_slice HO6.out
      go_wp2_with fail
      go_loopw [7, 9] (fun sl i wr => ∃ k : Nat, k ≤ 3 ∧ i = .int .i64 ((4 * k : Nat) : Int) ∧ Hid (wr.ownsRow w.heap.size 3 1 sl (13 + k) (ints .i64 (c4 ++ Ch.words key 8 ++ [c] ++ Ch.words nonce k))) ∧ Hid (Below w.heap.size w wr)) (fun _ i _ => 12 - (intOf i).toNat)
      case atStart => exact ⟨0, by omega, rfl, by rw [show Ch.words nonce 0 = [] from rfl, List.append_nil]; exact HO6.out, HB6.out⟩
      case round =>
        clear HO6 HB6
        obtain ⟨k, hk, rfl, HO, HB⟩ := hrel
        obtain ⟨q, cq, rfl⟩ := own_slice HO.out
        obtain ⟨A, hA⟩ : ∃ A, 4 * k = A := ⟨_, rfl⟩
        by_cases hlt : k < 3
        · have hX := HN.out.below HB.out
          have HC : Hid (Calls Try.prog 43 #[.slice (some ⟨bn, on, none⟩) 12 cn, .int .i64 A] wr fun e w' => e = .returned (.int .i64 (Ch.word nonce A : Nat)) ∧ ∃ n, w' = wr.drewN n) := word12 nonce bn on cn A wr hX.1 hX.2 HNL.out (by omega)
          have HWS : Hid (c4 ++ Ch.words key 8 ++ [c] ++ Ch.words nonce (k + 1) = c4 ++ Ch.words key 8 ++ [c] ++ Ch.words nonce k ++ [Ch.word nonce A]) := by
            show _ = _
            rw [Ch.words_succ nonce k, hA, ← List.append_assoc]
          rw [hA]
          have k1 : (A : Int) < 12 := by omega
          have HA : Hid (4 * k = A) := hA
          clear hA hX
          generalize Ch.word nonce A = x at *
          go_wp2_with fail
          refine HC.out.mono ?_
          rintro e w2 ⟨rfl, n2, rfl⟩
          have hs2 : w.heap.size ≤ wr.heap.size := HB.out.size
          have hbA : Below wr.heap.size wr ((wr.drewN n2).alloc (Obj.cells (arr .i64 [x]) 3)) := (below_drewN (Below.refl _ _) n2).alloc (Nat.le_refl _) _
          have HO2 : Hid (((wr.drewN n2).alloc (Obj.cells (arr .i64 [x]) 3)).ownsRow w.heap.size 3 1 (.slice q (13 + k) cq) (13 + k) (ints .i64 (c4 ++ Ch.words key 8 ++ [c] ++ Ch.words nonce k))) := own_below HO.out hbA
          have HB2 : Hid (Below w.heap.size w ((wr.drewN n2).alloc (Obj.cells (arr .i64 [x]) 3))) := HB.out.trans (hbA.mono hs2)
          have HR2 : Hid (((wr.drewN n2).alloc (Obj.cells (arr .i64 [x]) 3)).rangeAt wr.heap.size 0 (ints .i64 [x])) := rangeAt_of_row (heap_alloc_new (wr.drewN n2) _)
          clear hbA HO HB HC
          go_wp2_with (first | with_reducible (refine stop_builtin .append ?_))
          refine Stop.go ?_
          rw [show (Obj.cells #[Value.int .i64 ((x : Nat) : Int)] 3 : Obj) = Obj.cells (arr .i64 [x]) 3 from rfl]
          with_reducible refine law_append_ints w.heap.size (.slice q (13 + k) cq) (13 + k) (c4 ++ Ch.words key 8 ++ [c] ++ Ch.words nonce k) wr.heap.size 1 1 [x] ?asv9 ?axv9 rfl HO2.out HR2.out (by omega) HB2.out.size ?ak9
          case asv9 => exact rfl
          case axv9 => exact rfl
          intro v6 w6 hown6 hg6
          have HO6 : Hid (w6.ownsRow w.heap.size 3 1 v6 (13 + (k + 1)) (ints .i64 (c4 ++ Ch.words key 8 ++ [c] ++ Ch.words nonce (k + 1)))) := by
            rw [HWS.out]
            exact hown6
          have HB6 : Hid (Below w.heap.size w w6) := below_grown' HB2.out hg6 HO2.out HB2.out.size (Nat.le_refl _)
          clear hown6 hg6 HO2 HB2 HR2 HWS
          go_wp2_with fail
          go_roundw
          case rel => exact ⟨k + 1, by omega, by have := HA.out; go_num, HO6.out, HB6.out⟩
          case measure => have := HA.out; simp [intOf]; omega
        · obtain rfl : k = 3 := by omega
          clear hA
          have hO := HO.out
          rw [start_c4] at hO
          obtain ⟨gs, cs, tls, hE, hgs, _, hrs⟩ := own_row hO (by decide)
          obtain ⟨rfl, rfl⟩ : q = some ⟨gs, 0, none⟩ ∧ cq = cs := by cases hE; exact ⟨rfl, rfl⟩
          have HRS : Hid (RowT wr gs (Ch.start key c nonce) tls) := hrs
          generalize Ch.start key c nonce = S at *
          have hs2 : w.heap.size ≤ wr.heap.size := HB.out.size
          have hbA : Below wr.heap.size wr (wr.alloc (Obj.cells (arr .i64 []) 3)) := (Below.refl _ _).alloc (Nat.le_refl _) _
          have HO2 : Hid ((wr.alloc (Obj.cells (arr .i64 []) 3)).ownsRow wr.heap.size 3 1 (.slice (some ⟨wr.heap.size, 0, none⟩) 0 0) 0 (ints .i64 [])) := own_new wr .i64 3 [] (by decide)
          have HB2 : Hid (Below w.heap.size w (wr.alloc (Obj.cells (arr .i64 []) 3))) := HB.out.trans (hbA.mono hs2)
          have HRS2 : Hid (RowT (wr.alloc (Obj.cells (arr .i64 []) 3)) gs S tls) := HRS.out.below hbA HRS.out.lt
          have hgl := HRS.out.lt
          clear hO hE hrs hbA HO HB HRS
          go_wp2_with (first | with_reducible (refine stop_builtin .append ?_))
          refine Stop.go ?_
          rw [show (Obj.cells #[] 3 : Obj) = Obj.cells (arr .i64 []) 3 from rfl]
          have hsl : S.length = 16 := HSO.out.1
          have hrr : (wr.alloc (Obj.cells (arr .i64 []) 3)).rangeAt gs 0 (ints .i64 S) := HRS2.out.range
          have hbs : wr.heap.size ≤ (wr.alloc (Obj.cells (arr .i64 []) 3)).heap.size := by simp
          with_reducible refine law_append_ints wr.heap.size (.slice (some ⟨wr.heap.size, 0, none⟩) 0 0) 0 [] gs cq 16 S ?dsv ?dxv hsl HO2.out hrr (by decide) hbs ?dk
          case dsv => exact rfl
          case dxv => exact rfl
          intro v7 w7 hown7 hg7
          have hg7' : World.grownBy (wr.alloc (Obj.cells (arr .i64 []) 3)) w7 (some wr.heap.size) := hg7
          rw [List.nil_append] at hown7
          obtain ⟨gt, ct, tlt, rfl, hgt, _, hrt⟩ := own_row hown7 (by decide)
          have HRT : Hid (RowT w7 gt S tlt) := hrt
          have HRS7 : Hid (RowT w7 gs S tls) := HRS2.out.grown hg7' (by omega)
          have HB7 : Hid (Below w.heap.size w w7) := below_grown HB2.out hg7' hs2
          have hne : gs ≠ gt := by omega
          have hgt2 : w.heap.size ≤ gt := by omega
          clear hown7 hg7 hg7' hrt HO2 HB2 HRS2 hrr hbs hgt hgl
          generalize wr.heap.size = W8 at *
          go_wp2_with fail
          go_loopw [11] (fun i wr => ∃ k : Nat, k ≤ 10 ∧ i = .int .i64 k ∧ Hid (RowT wr gt (Ch.rounds S k) tlt) ∧ Hid (w7.grownBy wr (some gt))) (fun i _ => 10 - (intOf i).toNat)
          case atStart => exact ⟨0, by omega, rfl, HRT.out, grownBy_refl _ _⟩
          case round =>
            clear HRT
            obtain ⟨k, hk, rfl, H0, G0⟩ := hrel
            by_cases hlt : k < 10
            · have k1 : (k : Int) < 10 := by omega
              have HOK : Hid (Ch.Ok (Ch.rounds S k)) := Ch.rounds_ok HSO.out k
              have HP : Hid (∀ w8, RowT w8 gt (Ch.round (Ch.rounds S k)) tlt → RowT w8 gt (Ch.rounds S (k + 1)) tlt) := fun _ h => h
              generalize Ch.rounds S k = R at *
              go_wp2_with fail
              refine (rq_0_4 R tlt gt ct _ HOK.out H0.out).mono ?_
              rintro e x1 ⟨rfl, h1, g1⟩
              have H1 : Hid (RowT x1 gt (Ch.quarter R 0 4 8 12) tlt) := h1
              have G1 : Hid (w7.grownBy x1 (some gt)) := grownBy_trans G0.out g1
              clear h1 g1 H0 G0
              go_wp2_with fail
              refine (rq_1_5 (Ch.quarter R 0 4 8 12) tlt gt ct _ (Ch.quarter_ok HOK.out 0 4 8 12) H1.out).mono ?_
              rintro e x2 ⟨rfl, h1, g1⟩
              have H2 : Hid (RowT x2 gt (Ch.quarter (Ch.quarter R 0 4 8 12) 1 5 9 13) tlt) := h1
              have G2 : Hid (w7.grownBy x2 (some gt)) := grownBy_trans G1.out g1
              clear h1 g1 H1 G1
              go_wp2_with fail
              refine (rq_2_6 (Ch.quarter (Ch.quarter R 0 4 8 12) 1 5 9 13) tlt gt ct _ (Ch.quarter_ok (Ch.quarter_ok HOK.out 0 4 8 12) 1 5 9 13) H2.out).mono ?_
              rintro e x3 ⟨rfl, h1, g1⟩
              have H3 : Hid (RowT x3 gt (Ch.quarter (Ch.quarter (Ch.quarter R 0 4 8 12) 1 5 9 13) 2 6 10 14) tlt) := h1
              have G3 : Hid (w7.grownBy x3 (some gt)) := grownBy_trans G2.out g1
              clear h1 g1 H2 G2
              go_wp2_with fail
              refine (rq_3_7 (Ch.quarter (Ch.quarter (Ch.quarter R 0 4 8 12) 1 5 9 13) 2 6 10 14) tlt gt ct _ (Ch.quarter_ok (Ch.quarter_ok (Ch.quarter_ok HOK.out 0 4 8 12) 1 5 9 13) 2 6 10 14) H3.out).mono ?_
              rintro e x4 ⟨rfl, h1, g1⟩
              have H4 : Hid (RowT x4 gt (Ch.quarter (Ch.quarter (Ch.quarter (Ch.quarter R 0 4 8 12) 1 5 9 13) 2 6 10 14) 3 7 11 15) tlt) := h1
              have G4 : Hid (w7.grownBy x4 (some gt)) := grownBy_trans G3.out g1
              clear h1 g1 H3 G3
              go_wp2_with fail
              refine (rq_0_5 (Ch.quarter (Ch.quarter (Ch.quarter (Ch.quarter R 0 4 8 12) 1 5 9 13) 2 6 10 14) 3 7 11 15) tlt gt ct _ (Ch.quarter_ok (Ch.quarter_ok (Ch.quarter_ok (Ch.quarter_ok HOK.out 0 4 8 12) 1 5 9 13) 2 6 10 14) 3 7 11 15) H4.out).mono ?_
              rintro e x5 ⟨rfl, h1, g1⟩
              have H5 : Hid (RowT x5 gt (Ch.quarter (Ch.quarter (Ch.quarter (Ch.quarter (Ch.quarter R 0 4 8 12) 1 5 9 13) 2 6 10 14) 3 7 11 15) 0 5 10 15) tlt) := h1
              have G5 : Hid (w7.grownBy x5 (some gt)) := grownBy_trans G4.out g1
              clear h1 g1 H4 G4
              go_wp2_with fail
              refine (rq_1_6 (Ch.quarter (Ch.quarter (Ch.quarter (Ch.quarter (Ch.quarter R 0 4 8 12) 1 5 9 13) 2 6 10 14) 3 7 11 15) 0 5 10 15) tlt gt ct _ (Ch.quarter_ok (Ch.quarter_ok (Ch.quarter_ok (Ch.quarter_ok (Ch.quarter_ok HOK.out 0 4 8 12) 1 5 9 13) 2 6 10 14) 3 7 11 15) 0 5 10 15) H5.out).mono ?_
              rintro e x6 ⟨rfl, h1, g1⟩
              have H6 : Hid (RowT x6 gt (Ch.quarter (Ch.quarter (Ch.quarter (Ch.quarter (Ch.quarter (Ch.quarter R 0 4 8 12) 1 5 9 13) 2 6 10 14) 3 7 11 15) 0 5 10 15) 1 6 11 12) tlt) := h1
              have G6 : Hid (w7.grownBy x6 (some gt)) := grownBy_trans G5.out g1
              clear h1 g1 H5 G5
              go_wp2_with fail
              refine (rq_2_7 (Ch.quarter (Ch.quarter (Ch.quarter (Ch.quarter (Ch.quarter (Ch.quarter R 0 4 8 12) 1 5 9 13) 2 6 10 14) 3 7 11 15) 0 5 10 15) 1 6 11 12) tlt gt ct _ (Ch.quarter_ok (Ch.quarter_ok (Ch.quarter_ok (Ch.quarter_ok (Ch.quarter_ok (Ch.quarter_ok HOK.out 0 4 8 12) 1 5 9 13) 2 6 10 14) 3 7 11 15) 0 5 10 15) 1 6 11 12) H6.out).mono ?_
              rintro e x7 ⟨rfl, h1, g1⟩
              have H7 : Hid (RowT x7 gt (Ch.quarter (Ch.quarter (Ch.quarter (Ch.quarter (Ch.quarter (Ch.quarter (Ch.quarter R 0 4 8 12) 1 5 9 13) 2 6 10 14) 3 7 11 15) 0 5 10 15) 1 6 11 12) 2 7 8 13) tlt) := h1
              have G7 : Hid (w7.grownBy x7 (some gt)) := grownBy_trans G6.out g1
              clear h1 g1 H6 G6
              go_wp2_with fail
              refine (rq_3_4 (Ch.quarter (Ch.quarter (Ch.quarter (Ch.quarter (Ch.quarter (Ch.quarter (Ch.quarter R 0 4 8 12) 1 5 9 13) 2 6 10 14) 3 7 11 15) 0 5 10 15) 1 6 11 12) 2 7 8 13) tlt gt ct _ (Ch.quarter_ok (Ch.quarter_ok (Ch.quarter_ok (Ch.quarter_ok (Ch.quarter_ok (Ch.quarter_ok (Ch.quarter_ok HOK.out 0 4 8 12) 1 5 9 13) 2 6 10 14) 3 7 11 15) 0 5 10 15) 1 6 11 12) 2 7 8 13) H7.out).mono ?_
              rintro e x8 ⟨rfl, h1, g1⟩
              have H8 : Hid (RowT x8 gt (Ch.quarter (Ch.quarter (Ch.quarter (Ch.quarter (Ch.quarter (Ch.quarter (Ch.quarter (Ch.quarter R 0 4 8 12) 1 5 9 13) 2 6 10 14) 3 7 11 15) 0 5 10 15) 1 6 11 12) 2 7 8 13) 3 4 9 14) tlt) := h1
              have G8 : Hid (w7.grownBy x8 (some gt)) := grownBy_trans G7.out g1
              clear h1 g1 H7 G7
              have HF : Hid (RowT x8 gt (Ch.rounds S (k + 1)) tlt) := HP.out _ H8.out
              clear H8 HP HOK
              go_wp2_with fail
              go_roundw
              case rel => exact ⟨k + 1, by omega, by go_num, HF.out, G8.out⟩
              case measure => simp [intOf]; omega
            · obtain rfl : k = 10 := by omega
              have HRO : Hid (Ch.Ok (Ch.rounds S 10)) := Ch.rounds_ok HSO.out 10
              have HOT : Hid (∀ k, Ch.outTo S (Ch.rounds S 10) (k + 1) = Ch.outTo S (Ch.rounds S 10) k ++ Ch.le4 ((Sp.nth (Ch.rounds S 10) k + Sp.nth S k) % 4294967296)) := Ch.outTo_succ S _
              have HFN : Hid (Ch.outTo S (Ch.rounds S 10) 16 = BL) := HBL.out.symm
              have HRS8 : Hid (RowT wr gs S tls) := HRS7.out.grown G0.out hne
              have HB8 : Hid (Below w.heap.size w wr) := below_grown HB7.out G0.out hgt2
              clear HBL HRS7 HB7 G0
              generalize Ch.rounds S 10 = R at *
              have hsz : w.heap.size ≤ wr.heap.size := HB8.out.size
              go_wp2_with fail
              generalize hW9 : wr = W9 at *
              go_loopw [12, 13] (fun sl i wr => ∃ k : Nat, k ≤ 16 ∧ i = .int .i64 k ∧ Hid (wr.ownsRow W9.heap.size 5 1 sl (4 * k) (ints .u8 (Ch.outTo S R k))) ∧ Hid (Below W9.heap.size W9 wr)) (fun _ i _ => 16 - (intOf i).toNat)
              case atStart => exact ⟨0, by omega, rfl, own_none _ _ _ _, Below.refl _ _⟩
              case round =>
                obtain ⟨k, hk, rfl, HO, HB⟩ := hrel
                obtain ⟨q, cq2, rfl⟩ := own_slice HO.out
                by_cases hlt : k < 16
                · have e1 := (H0.out.below HB.out H0.out.lt).cell k (by rw [HRO.out.1]; exact hlt)
                  have e2 := (HRS8.out.below HB.out HRS8.out.lt).cell k (by rw [HSO.out.1]; exact hlt)
                  have x1 := HRO.out.lt k
                  have x2 := HSO.out.lt k
                  have HOK := HOT.out k
                  generalize Sp.nth R k = y1 at *
                  generalize Sp.nth S k = y2 at *
                  have HO1 : Hid (Ch.outTo S R (k + 1) = Ch.outTo S R k ++ Ch.le4 ((y1 + y2) % 4294967296)) := HOK
                  clear HOK
                  have k0 : (0 : Int) ≤ (k : Int) := by omega
                  have k1 : (k : Int) < 16 := by omega
                  go_wp2_with fail
                  go_quiet (fail)
                  obtain ⟨z, hz⟩ : ∃ z, (y1 + y2) % 4294967296 = z := ⟨_, rfl⟩
                  have hzi : ((y1 : Int) + (y2 : Int)) % 4294967296 = (z : Int) := by omega
                  have hz32 : z < 4294967296 := by omega
                  rw [hzi]
                  rw [hz] at HO1
                  clear hz hzi e1 e2 x1 x2
                  have hbA : Below wr.heap.size wr ((wr.drewN nq).alloc (Obj.cells (arr .u8 (Ch.le4 z)) 5)) := (below_drewN (Below.refl _ _) nq).alloc (Nat.le_refl _) _
                  have HO2 : Hid (((wr.drewN nq).alloc (Obj.cells (arr .u8 (Ch.le4 z)) 5)).ownsRow W9.heap.size 5 1 (.slice q (4 * k) cq2) (4 * k) (ints .u8 (Ch.outTo S R k))) := own_below HO.out hbA
                  have HB2 : Hid (Below W9.heap.size W9 ((wr.drewN nq).alloc (Obj.cells (arr .u8 (Ch.le4 z)) 5))) := HB.out.trans (hbA.mono HB.out.size)
                  have HR2 : Hid (((wr.drewN nq).alloc (Obj.cells (arr .u8 (Ch.le4 z)) 5)).rangeAt wr.heap.size 0 (ints .u8 (Ch.le4 z))) := rangeAt_of_row (heap_alloc_new (wr.drewN nq) _)
                  have hcells : #[Value.int .u8 ((z : Int) % 256), Value.int .u8 ((z : Int) / 256 % 256), Value.int .u8 ((z : Int) / 65536 % 256), Value.int .u8 ((z : Int) / 16777216)] = arr .u8 (Ch.le4 z) := by
                    unfold arr ints Ch.le4
                    simp
                  have z0 : (0 : Int) ≤ (z : Int) := by omega
                  have z1 : (z : Int) ≤ 4294967295 := by omega
                  clear hbA HO HB
                  go_wp2_with (first | with_reducible (refine stop_builtin .append ?_))
                  refine Stop.go ?_
                  with_reducible refine law_append_bytes W9.heap.size (.slice q (4 * k) cq2) (4 * k) (Ch.outTo S R k) wr.heap.size 4 4 (Ch.le4 z) ?esv ?exv rfl HO2.out HR2.out (by omega) HB2.out.size ?ek
                  case esv => exact rfl
                  case exv => exact rfl
                  intro v6 w6 hown6 hg6
                  have HO6 : Hid (w6.ownsRow W9.heap.size 5 1 v6 (4 * (k + 1)) (ints .u8 (Ch.outTo S R (k + 1)))) := by
                    rw [HO1.out]
                    exact hown6
                  have HB6 : Hid (Below W9.heap.size W9 w6) := below_grown' HB2.out hg6 HO2.out HB2.out.size (Nat.le_refl _)
                  clear hown6 hg6 HO2 HB2 HR2 HO1 hcells
                  go_wp2_with fail
                  go_roundw
                  case rel =>
                    (repeat apply Exists.intro)
                    exact ⟨⟨k + 1, by omega, by go_num, HO6.out, HB6.out⟩, rfl⟩
                  case measure => simp [intOf]; omega
                · obtain rfl : k = 16 := by omega
                  have hO := HO.out
                  rw [HFN.out] at hO
                  obtain ⟨go, co, hE, hgo, _, hco, hro⟩ := own_cell hO (by decide)
                  obtain ⟨rfl, rfl⟩ : q = some ⟨go, 0, none⟩ ∧ cq2 = co := by cases hE; exact ⟨rfl, rfl⟩
                  have HRO2 : Hid (wr.rangeAt go 0 (ints .u8 BL)) := hro
                  have HBF : Hid (Below w.heap.size w wr) := HB8.out.trans (HB.out.mono hsz)
                  clear hO hE hro HO HB H0 HRO HOT HFN HRS8 HB8
                  go_wp2_with fail
                  go_ret
                  exact ⟨go, cq2, rfl, by omega, by omega, HRO2.out, HBF.out⟩
end Go.Proofs.Ytnceiccciaihoaa.C3
