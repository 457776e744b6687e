/- The contract of XOR. -/
import Derived.Test.YtnceiccciaihoaaC3Check
namespace Go.Proofs.Ytnceiccciaihoaa.C3
open Go.RowKit
theorem info5e : ∃ i, Try.prog.info? 5 = some i ∧ i.size = 1 ∧ i.bytes = 1 ∧ i.zero = some (.int .u8 0) := info_of (by kernel_rfl)
theorem make_bytes (l c : Nat) (k : IntKind) (hlc : l ≤ c) (hc : c ≤ 281474976710656) (w : World) :
    (Instr.makeSlice 22 (.int k (l : Int)) (.int k (c : Int))).run Try.prog w = .ok (.slice (some ⟨w.heap.size, 0, none⟩) l c) (w.alloc (.cells (arr .u8 (List.replicate c 0)) 5)) := by
  obtain ⟨i, hi, hs, hb, hz⟩ := info5e
  have := run_make (P := Try.prog) w 22 5 i _ Try.underlying22 hi hz k k (l : Int) (c : Int) (by omega) (by omega) (by rw [hb]; omega) (by omega)
  rw [this, hs, ← made_zeros]
  simp [Value.cells]
/-- A row of bytes in a block of its own. -/
def BRow (w : World) (g : Nat) (l : List Nat) : Prop := w.heap[g]? = some (.cells (arr .u8 l) 5 (0, 0))
section
variable {w : World} {g : Nat} {l : List Nat}
theorem BRow.set (h : BRow w g l) (i x : Nat) : BRow (w.setCell ⟨g, i, none⟩ (.int .u8 (x : Nat))) g (l.set i x) := by
  have := heap_setCell_same w g i (arr .u8 l) 5 (.int .u8 (x : Nat)) h
  unfold BRow
  rw [this]
  congr 2
  apply Array.ext'
  simp [arr, ints]
theorem BRow.cell (h : BRow w g l) (i : Nat) (hi : i < l.length) : w.cell? ⟨g, i, none⟩ = some (.int .u8 (Sp.nth l i : Nat)) := by
  rw [cell_of_row _ _ _ _ _ _ h]; exact arr_get _ _ _ hi
theorem BRow.may (h : BRow w g l) (i : Nat) : w.frozen? ⟨g, i, none⟩ = false := frozen_of_row _ _ _ _ _ h
theorem BRow.grown {w' : World} {g' : Nat} (h : BRow w g l) (hg : w.grownBy w' (some g')) (hne : g ≠ g') : BRow w' g l := by
  have := hg.block g (Array.getElem?_eq_some_iff.1 h).1 (by simpa using hne)
  exact this.trans h
theorem BRow.below {w' : World} {B : Nat} (h : BRow w g l) (hb : Below B w w') (hg : g < B) : BRow w' g l := (hb.block g hg).trans h
theorem BRow.lt (h : BRow w g l) : g < w.heap.size := (Array.getElem?_eq_some_iff.1 h).1
end
theorem StAt.lt {w : World} {g : Nat} {l : List Nat} (h : StAt w g l) : g < w.heap.size := (Array.getElem?_eq_some_iff.1 h).1
theorem ArAt.lt {w : World} {g : Nat} {l : List Nat} (h : ArAt w g l) : g < w.heap.size := (Array.getElem?_eq_some_iff.1 h).1
theorem put_set (a : List Nat) (n x : Nat) (h : a.length < n) : (a ++ List.replicate (n - a.length) 0).set a.length x = a ++ [x] ++ List.replicate (n - (a.length + 1)) 0 := by
  rw [show n - a.length = (n - (a.length + 1)) + 1 from by omega, List.replicate_succ, List.set_append_right _ _ (Nat.le_refl _)]
  simp
set_option maxHeartbeats 400000 in
theorem XOR_bad (p q r : Option Addr) (n c m d l f : Nat) (z e : Int) (w : World) (h : Bad n m z e) :
    Calls Try.prog 14 #[.slice p n c, .int .i64 z, .slice q m d, .slice r l f] w fun e' w' => e' = .returned (.tuple #[.slice none 0 0, .int .i64 e]) ∧ w' = w := by
  have h0 := h.ne
  have HB : Hid (Bad n m z e) := h
  clear h
  go_enter Try.func14, Try.ntmps14
  go_wp2_with fail
  refine (check_bad p q n c m d z e w HB.out).mono ?_
  rintro e' w' ⟨rfl, rfl⟩
  go_wp2_with fail
  refine bodyPost_ret (results_tmp2 rfl _ _ _) rfl ?_
  exact ⟨rfl, rfl⟩
/-- The bytes that any slice stands for. -/
def TextIs (w : World) (p : Option Addr) (l : List Nat) : Prop := (∀ x ∈ l, x < 256) ∧ (l ≠ [] → ∃ b o, p = some ⟨b, o, none⟩ ∧ w.rangeAt b o (ints .u8 l))
set_option maxHeartbeats 1000000 in
theorem XOR_ok (key nonce text : List Nat) (bk ok ck bn on cn c n ct : Nat) (pt : Option Addr) (w : World) (hk : key.length = 32) (hn : nonce.length = 12) (hK : SliceIs w bk ok key) (hN : SliceIs w bn on nonce) (hc : c < 4294967296) (hck : 32 ≤ ck) (hcn : 12 ≤ cn)
    (hT : TextIs w pt text) (htl : text.length = n) (hnl : n ≤ 1000000) :
    Calls Try.prog 14 #[.slice (some ⟨bk, ok, none⟩) 32 ck, .int .i64 c, .slice (some ⟨bn, on, none⟩) 12 cn, .slice pt n ct] w fun e w' => ∃ g, e = .returned (.tuple #[.slice (some ⟨g, 0, none⟩) n n, .int .i64 0]) ∧ w.heap.size ≤ g ∧ BRow w' g (Ch.xor key c nonce text) ∧ Below w.heap.size w w' := by
  have HC : Hid (∀ w', w' = w → Calls Try.prog 23 #[.slice (some ⟨bk, ok, none⟩) 32 ck, .int .i64 c, .slice (some ⟨bn, on, none⟩) 12 cn] w' fun e w' => e = .returned (.agg (arr .u32 (Ch.start key c nonce))) ∧ Below w.heap.size w w') := fun w' hw => by
    subst hw
    exact begin_any key nonce bk ok ck bn on cn c w' hk hn hK hN hc hck hcn
  have HS : Hid (∀ d, d < 4294967296 → Ch.Ok (Ch.start key d nonce)) := fun d hd => Ch.start_ok hK.1 hN.1 hd
  have HT : Hid (TextIs w pt text) := hT
  have HTL : Hid (text.length = n) := htl
  clear hk hn hK hN hT htl
  have n0 : (n : Int) ≤ 1000000 := by omega
  have hmk := fun w => make_bytes n n .i64 (Nat.le_refl _) (by omega) w
  go_enter Try.func14, Try.ntmps14
  go_wp2_with fail
  refine (check_ok _ _ ck cn c w hc).mono ?_
  rintro e' w' ⟨rfl, rfl⟩
  go_wp2_with fail
  refine (HC.out _ rfl).mono ?_
  rintro e' w1 ⟨rfl, hb1⟩
  have HB1 : Hid (Below w'.heap.size w' w1) := hb1
  clear hb1 HC
  have HSL : Hid ((Ch.start key c nonce).length = 16) := (HS.out c hc).1
  go_wp2_with (first | with_reducible (refine stop_store 45 ?_))
  rw [zeros16_eq]
  refine Stop.go ?_
  with_reducible refine law_store w1.heap.size 0 (arr .u32 (Ch.start key c nonce)) ?sx ?sy ?st ?si (ints_one _ _) ?sk
  case sx => exact rfl
  case sy => exact rfl
  case st => rw [arr_size, HSL.out]; exact there41 w1
  case si => rw [arr_size, HSL.out]; exact info41
  obtain ⟨h1, h2, h3⟩ := new41 w1 _ HSL.out
  have H1 : Hid (StAt (World.setCells (w1.alloc (Obj.cells zeros16 45)) w1.heap.size 0 (arr .u32 (Ch.start key c nonce)).toList) w1.heap.size (Ch.start key c nonce)) := h1
  have HB2 : Hid (Below w'.heap.size w' (World.setCells (w1.alloc (Obj.cells zeros16 45)) w1.heap.size 0 (arr .u32 (Ch.start key c nonce)).toList)) := HB1.out.trans (h2.mono HB1.out.size)
  have hs1 := HB1.out.size
  clear h1 h2 HB1 HSL
  generalize World.setCells (w1.alloc (Obj.cells zeros16 45)) w1.heap.size 0 (arr .u32 (Ch.start key c nonce)).toList = w2 at *
  generalize w1.heap.size = gs at *
  go_wp2_with fail
  have HO0 : Hid (BRow (w2.alloc (Obj.cells (arr .u8 (List.replicate n 0)) 5)) (gs + 1) (List.replicate n 0)) := by
    have := heap_alloc_new w2 (Obj.cells (arr .u8 (List.replicate n 0)) 5)
    rw [h3] at this
    exact this
  have HS0 : Hid (StAt (w2.alloc (Obj.cells (arr .u8 (List.replicate n 0)) 5)) gs (Ch.start key c nonce)) := H1.out.grown (grownBy_alloc w2 _ (some (gs + 1))) (by omega)
  have HB3 : Hid (Below w'.heap.size w' (w2.alloc (Obj.cells (arr .u8 (List.replicate n 0)) 5))) := HB2.out.alloc HB2.out.size _
  clear H1 HB2 h3 hmk
  generalize w2.alloc (Obj.cells (arr .u8 (List.replicate n 0)) 5) = W0 at *
  go_loopw [13] (fun i wr => ∃ k : Nat, 64 * k < n + 64 ∧ i = .int .i64 ((64 * k : Nat) : Int) ∧ Hid (BRow wr (gs + 1) (Ch.xorTo key c nonce text (min (64 * k) n) ++ List.replicate (n - min (64 * k) n) 0)) ∧ Hid (StAt wr gs (Ch.start key ((c + k) % 4294967296) nonce)) ∧ Hid (Below w'.heap.size w' wr)) (fun i _ => n - (intOf i).toNat)
  case atStart =>
    refine ⟨0, by omega, rfl, ?_, ?_, HB3.out⟩
    · have := HO0.out
      rw [show min (64 * 0) n = 0 from by omega]
      exact this
    · rw [show (c + 0) % 4294967296 = c from by omega]
      exact HS0.out
  case round =>
    clear HO0 HS0 HB3
    obtain ⟨k, hk, rfl, HO, HST, HB⟩ := hrel
    by_cases hlt : 64 * k < n
    · obtain ⟨A, hA⟩ : ∃ A, 64 * k = A := ⟨_, rfl⟩
      rw [hA] at hlt hk HO
      rw [hA]
      rw [show min A n = A from by omega] at HO
      obtain ⟨bt, ot, rfl, hrt⟩ := HT.out.2 (by intro e; have := HTL.out; rw [e] at this; simp at this; omega)
      have hbt : bt < w'.heap.size := by
        have := hrt 0 _ (ints_get .u8 text 0 (by rw [HTL.out]; omega))
        exact World.block_lt_of_cell? w' _ this
      have HRT : Hid (w'.rangeAt bt ot (ints .u8 text)) := hrt
      have HTS : Hid (∀ x ∈ text, x < 256) := HT.out.1
      clear hrt HT
      have hd : (c + k) % 4294967296 < 4294967296 := Nat.mod_lt _ (by decide)
      have hok := HS.out _ hd
      have HSL : Hid ((Ch.start key ((c + k) % 4294967296) nonce).length = 16) := hok.1
      have HCB : Hid (∀ w, Calls Try.prog 24 #[.agg (arr .u32 (Ch.start key ((c + k) % 4294967296) nonce))] w fun e w' => e = .returned (.agg (arr .u8 (Ch.blockOf key ((c + k) % 4294967296) nonce))) ∧ Below w.heap.size w w') := fun w => block_any _ w hok
      have HBL : Hid ((Ch.blockOf key ((c + k) % 4294967296) nonce).length = 64) := Ch.block_length _
      have HBS : Hid (∀ x ∈ Ch.blockOf key ((c + k) % 4294967296) nonce, x < 256) := Ch.block_lt _
      have HNX : Hid ((Ch.start key ((c + k) % 4294967296) nonce).set 12 (((c + k) % 4294967296 + 1) % 4294967296) = Ch.start key ((c + (k + 1)) % 4294967296) nonce) := by
        rw [show ((c + k) % 4294967296 + 1) % 4294967296 = (c + (k + 1)) % 4294967296 from by omega]
        rfl
      have HNT : Hid (Sp.nth (Ch.start key ((c + k) % 4294967296) nonce) 12 = (c + k) % 4294967296) := rfl
      have HBY : Hid (∀ j, j < 64 → Ch.byteAt key c nonce (A + j) = Sp.nth (Ch.blockOf key ((c + k) % 4294967296) nonce) j) := fun j hj => by
        unfold Ch.byteAt
        rw [show (A + j) / 64 = k from by omega, show (A + j) % 64 = j from by omega]
      clear hok hd
      generalize Ch.blockOf key ((c + k) % 4294967296) nonce = B at *
      generalize Ch.start key ((c + k) % 4294967296) nonce = S at *
      have a0 : (A : Int) < (n : Int) := by omega
      go_wp2_with (first | with_reducible (refine stop_load 45 ?_))
      refine Stop.go ?_
      with_reducible refine law_load_arr gs 0 .u32 S _ ?lx ?lc under41 rfl ?li ?lk
      case lx => exact rfl
      case lc => exact rangeAt_of_row HST.out
      case li => rw [HSL.out]; exact info41
      go_wp2_with fail
      refine (HCB.out _).mono ?_
      rintro e' w3 ⟨rfl, hb3⟩
      have hgo := HO.out.lt
      have HO3 : Hid (BRow w3 (gs + 1) (Ch.xorTo key c nonce text A ++ List.replicate (n - A) 0)) := HO.out.below hb3 HO.out.lt
      have HST3 : Hid (StAt w3 gs S) := HST.out.below hb3 HST.out.lt
      have hsb := HB.out.size
      have HB3 : Hid (Below w'.heap.size w' w3) := HB.out.trans (hb3.mono hsb)
      have hs3 := hb3.size
      clear hb3 HO HST HB HCB
      go_wp2_with (first | with_reducible (refine stop_store 47 ?_))
      rw [zeros64_eq]
      refine Stop.go ?_
      with_reducible refine law_store w3.heap.size 0 (arr .u8 B) ?tx ?ty ?tt ?ti (ints_one _ _) ?tk
      case tx => exact rfl
      case ty => exact rfl
      case tt => rw [arr_size, HBL.out]; exact there38 w3
      case ti => rw [arr_size, HBL.out]; exact info38
      obtain ⟨h1, h2, h3⟩ := new38 w3 B HBL.out
      have HA4 : Hid (ArAt (World.setCells (w3.alloc (Obj.cells zeros64 47)) w3.heap.size 0 (arr .u8 B).toList) w3.heap.size B) := h1
      have HO4 : Hid (BRow (World.setCells (w3.alloc (Obj.cells zeros64 47)) w3.heap.size 0 (arr .u8 B).toList) (gs + 1) (Ch.xorTo key c nonce text A ++ List.replicate (n - A) 0)) := HO3.out.below h2 HO3.out.lt
      have HST4 : Hid (StAt (World.setCells (w3.alloc (Obj.cells zeros64 47)) w3.heap.size 0 (arr .u8 B).toList) gs S) := HST3.out.below h2 HST3.out.lt
      have HB4 : Hid (Below w'.heap.size w' (World.setCells (w3.alloc (Obj.cells zeros64 47)) w3.heap.size 0 (arr .u8 B).toList)) := HB3.out.trans (h2.mono HB3.out.size)
      clear h1 h2 h3 HO3 HST3 HB3
      generalize World.setCells (w3.alloc (Obj.cells zeros64 47)) w3.heap.size 0 (arr .u8 B).toList = W4 at *
      have g4 : gs + 1 < w3.heap.size := by omega
      generalize w3.heap.size = gb at *
      clear hgo hsb hs3
      by_cases h64 : 64 ≤ n - A
      · have h64' : (64 : Int) ≤ (n : Int) - (A : Int) := by omega
        go_wp2_with fail
        go_loopw [43] (fun i wr => ∃ j : Nat, j ≤ 64 ∧ i = .int .i64 j ∧ Hid (BRow wr (gs + 1) (Ch.xorTo key c nonce text (A + j) ++ List.replicate (n - (A + j)) 0)) ∧ Hid (W4.grownBy wr (some (gs + 1)))) (fun i _ => 64 - (intOf i).toNat)
        case atStart => exact ⟨0, by omega, rfl, HO4.out, grownBy_refl _ _⟩
        case round =>
          clear HO4
          obtain ⟨j, hj, rfl, HO5, HG5⟩ := hrel
          by_cases hjl : j < 64
          · have hr5 := rangeAt_grown (rangeAt_below HB4.out HRT.out) HG5.out (show bt ≠ gs + 1 by omega)
            have ct1 := range_cell hr5 (A + j) (by rw [HTL.out]; omega)
            have ca1 := (HA4.out.grown HG5.out (by omega)).cell j (by rw [HBL.out]; omega)
            have hol : (Ch.xorTo key c nonce text (A + j)).length = A + j := Ch.xorTo_length _ _ _ _ _
            have co1 := HO5.out.cell (A + j) (by rw [List.length_append, hol, List.length_replicate]; omega)
            have fo1 := HO5.out.may (A + j)
            have x1 : Sp.nth text (A + j) < 256 := Sp.nth_lt (by decide) HTS.out _
            have x2 : Sp.nth B j < 256 := Sp.nth_lt (by decide) HBS.out _
            have hx := u8_xor_nat _ _ x1 x2
            have hy := HBY.out j (by omega)
            have HN : Hid (BRow ((wr.setCell ⟨gs + 1, A + j, none⟩ (.int .u8 ((Sp.nth text (A + j) ^^^ Sp.nth B j : Nat) : Int))).drewN 1) (gs + 1) (Ch.xorTo key c nonce text (A + (j + 1)) ++ List.replicate (n - (A + (j + 1))) 0)) := by
              have e := put_set (Ch.xorTo key c nonce text (A + j)) n (Sp.nth text (A + j) ^^^ Sp.nth B j) (by rw [hol]; omega)
              rw [hol] at e
              show BRow _ _ (Ch.xorTo key c nonce text (A + j + 1) ++ List.replicate (n - (A + j + 1)) 0)
              rw [Ch.xorTo_succ, hy, ← e]
              exact HO5.out.set (A + j) _
            have HGN : Hid (W4.grownBy ((wr.setCell ⟨gs + 1, A + j, none⟩ (.int .u8 ((Sp.nth text (A + j) ^^^ Sp.nth B j : Nat) : Int))).drewN 1) (some (gs + 1))) := grownBy_drewN (grownBy_set HG5.out _ _) 1
            generalize Sp.nth (Ch.xorTo key c nonce text (A + j) ++ List.replicate (n - (A + j)) 0) (A + j) = old at *
            generalize Sp.nth text (A + j) = y1 at *
            generalize Sp.nth B j = y2 at *
            clear hr5 hol hy HO5 HG5 x1 x2
            have j0 : (0 : Int) ≤ (j : Int) := by omega
            have j1 : (j : Int) < 64 := by omega
            have j2 : (j : Int) < 64 := by omega
            have q0 : (0 : Int) ≤ (A : Int) + (j : Int) := by omega
            have q1 : (A : Int) + (j : Int) < (n : Int) := by omega
            have q2 : ((A : Int) + (j : Int)).toNat = A + j := by omega
            have v1 : IntKind.i64.wrap ((A : Int) + (j : Int)) = (A : Int) + (j : Int) := i64_id _ (by omega)
            have ne1 : gs + 1 ≠ bt := by omega
            have ne2 : gs + 1 ≠ gb := by omega
            go_wp2
            go_region
            go_wp2
            go_roundw
            case rel => exact ⟨j + 1, by omega, by go_num, HN.out, HGN.out⟩
            case measure => simp [intOf]; omega
          · obtain rfl : j = 64 := by omega
            have H6 : Hid (StAt wr gs S) := HST4.out.grown HG5.out (by omega)
            have HB6 : Hid (Below w'.heap.size w' wr) := below_grown HB4.out HG5.out (by omega)
            have c12 := H6.out.cell 12 (by rw [HSL.out]; decide)
            have f12 := H6.out.may 12
            rw [HNT.out] at c12
            have HS7 : Hid (StAt (wr.setCell ⟨gs, 12, none⟩ (.int .u32 ((((c + k) % 4294967296 + 1) % 4294967296 : Nat) : Int))) gs (Ch.start key ((c + (k + 1)) % 4294967296) nonce)) := by
              rw [← HNX.out]
              exact H6.out.set 12 _
            have HB7 : Hid (Below w'.heap.size w' (wr.setCell ⟨gs, 12, none⟩ (.int .u32 ((((c + k) % 4294967296 + 1) % 4294967296 : Nat) : Int)))) := HB6.out.setCell hs1 _
            have HO7 : Hid (BRow (wr.setCell ⟨gs, 12, none⟩ (.int .u32 ((((c + k) % 4294967296 + 1) % 4294967296 : Nat) : Int))) (gs + 1) (Ch.xorTo key c nonce text (A + 64) ++ List.replicate (n - (A + 64)) 0)) :=
              HO5.out.grown (grownBy_set (grownBy_refl wr (some gs)) 12 _) (by omega)
            have ei : ((((c + k) % 4294967296 + 1) % 4294967296 : Nat) : Int) = (((c + k) % 4294967296 : Nat) + 1 : Int) % 4294967296 := by omega
            rw [ei] at HS7 HB7 HO7
            clear H6 HB6 HO5 HG5 HNX HNT HST4 HB4 HBY ei
            generalize (c + k) % 4294967296 = z at *
            have hzz : ((z : Nat) : Int) + 1 = (z : Int) + 1 := rfl
            go_wp2_with fail
            go_roundw
            case rel =>
              refine ⟨k + 1, by omega, by go_num, ?_, HS7.out, HB7.out⟩
              rw [show min (64 * (k + 1)) n = A + 64 from by omega]
              exact HO7.out
            case measure => simp [intOf]; omega
      · have h64' : ¬ (64 : Int) ≤ (n : Int) - (A : Int) := by omega
        obtain ⟨m, hm⟩ : ∃ m, n - A = m := ⟨_, rfl⟩
        have hm' : (n : Int) - (A : Int) = (m : Int) := by omega
        go_wp2_with fail
        go_loopw [43] (fun i wr => ∃ j : Nat, j ≤ m ∧ i = .int .i64 j ∧ Hid (BRow wr (gs + 1) (Ch.xorTo key c nonce text (A + j) ++ List.replicate (n - (A + j)) 0)) ∧ Hid (W4.grownBy wr (some (gs + 1)))) (fun i _ => m - (intOf i).toNat)
        case atStart => exact ⟨0, by omega, rfl, HO4.out, grownBy_refl _ _⟩
        case round =>
          clear HO4
          obtain ⟨j, hj, rfl, HO5, HG5⟩ := hrel
          by_cases hjl : j < m
          · have hr5 := rangeAt_grown (rangeAt_below HB4.out HRT.out) HG5.out (show bt ≠ gs + 1 by omega)
            have ct1 := range_cell hr5 (A + j) (by rw [HTL.out]; omega)
            have ca1 := (HA4.out.grown HG5.out (by omega)).cell j (by rw [HBL.out]; omega)
            have hol : (Ch.xorTo key c nonce text (A + j)).length = A + j := Ch.xorTo_length _ _ _ _ _
            have co1 := HO5.out.cell (A + j) (by rw [List.length_append, hol, List.length_replicate]; omega)
            have fo1 := HO5.out.may (A + j)
            have x1 : Sp.nth text (A + j) < 256 := Sp.nth_lt (by decide) HTS.out _
            have x2 : Sp.nth B j < 256 := Sp.nth_lt (by decide) HBS.out _
            have hx := u8_xor_nat _ _ x1 x2
            have hy := HBY.out j (by omega)
            have HN : Hid (BRow ((wr.setCell ⟨gs + 1, A + j, none⟩ (.int .u8 ((Sp.nth text (A + j) ^^^ Sp.nth B j : Nat) : Int))).drewN 1) (gs + 1) (Ch.xorTo key c nonce text (A + (j + 1)) ++ List.replicate (n - (A + (j + 1))) 0)) := by
              have e := put_set (Ch.xorTo key c nonce text (A + j)) n (Sp.nth text (A + j) ^^^ Sp.nth B j) (by rw [hol]; omega)
              rw [hol] at e
              show BRow _ _ (Ch.xorTo key c nonce text (A + j + 1) ++ List.replicate (n - (A + j + 1)) 0)
              rw [Ch.xorTo_succ, hy, ← e]
              exact HO5.out.set (A + j) _
            have HGN : Hid (W4.grownBy ((wr.setCell ⟨gs + 1, A + j, none⟩ (.int .u8 ((Sp.nth text (A + j) ^^^ Sp.nth B j : Nat) : Int))).drewN 1) (some (gs + 1))) := grownBy_drewN (grownBy_set HG5.out _ _) 1
            generalize Sp.nth (Ch.xorTo key c nonce text (A + j) ++ List.replicate (n - (A + j)) 0) (A + j) = old at *
            generalize Sp.nth text (A + j) = y1 at *
            generalize Sp.nth B j = y2 at *
            clear hr5 hol hy HO5 HG5 x1 x2
            have j0 : (0 : Int) ≤ (j : Int) := by omega
            have j1 : (j : Int) < 64 := by omega
            have j2 : (j : Int) < (m : Int) := by omega
            have q0 : (0 : Int) ≤ (A : Int) + (j : Int) := by omega
            have q1 : (A : Int) + (j : Int) < (n : Int) := by omega
            have q2 : ((A : Int) + (j : Int)).toNat = A + j := by omega
            have v1 : IntKind.i64.wrap ((A : Int) + (j : Int)) = (A : Int) + (j : Int) := i64_id _ (by omega)
            have ne1 : gs + 1 ≠ bt := by omega
            have ne2 : gs + 1 ≠ gb := by omega
            go_wp2
            go_region
            go_wp2
            go_roundw
            case rel => exact ⟨j + 1, by omega, by go_num, HN.out, HGN.out⟩
            case measure => simp [intOf]; omega
          · obtain rfl : j = m := by omega
            have H6 : Hid (StAt wr gs S) := HST4.out.grown HG5.out (by omega)
            have HB6 : Hid (Below w'.heap.size w' wr) := below_grown HB4.out HG5.out (by omega)
            have c12 := H6.out.cell 12 (by rw [HSL.out]; decide)
            have f12 := H6.out.may 12
            rw [HNT.out] at c12
            have HS7 : Hid (StAt (wr.setCell ⟨gs, 12, none⟩ (.int .u32 ((((c + k) % 4294967296 + 1) % 4294967296 : Nat) : Int))) gs (Ch.start key ((c + (k + 1)) % 4294967296) nonce)) := by
              rw [← HNX.out]
              exact H6.out.set 12 _
            have HB7 : Hid (Below w'.heap.size w' (wr.setCell ⟨gs, 12, none⟩ (.int .u32 ((((c + k) % 4294967296 + 1) % 4294967296 : Nat) : Int)))) := HB6.out.setCell hs1 _
            have HO7 : Hid (BRow (wr.setCell ⟨gs, 12, none⟩ (.int .u32 ((((c + k) % 4294967296 + 1) % 4294967296 : Nat) : Int))) (gs + 1) (Ch.xorTo key c nonce text (A + j) ++ List.replicate (n - (A + j)) 0)) :=
              HO5.out.grown (grownBy_set (grownBy_refl wr (some gs)) 12 _) (by omega)
            have ei : ((((c + k) % 4294967296 + 1) % 4294967296 : Nat) : Int) = (((c + k) % 4294967296 : Nat) + 1 : Int) % 4294967296 := by omega
            rw [ei] at HS7 HB7 HO7
            clear H6 HB6 HO5 HG5 HNX HNT HST4 HB4 HBY ei
            generalize (c + k) % 4294967296 = z at *
            have hzz : ((z : Nat) : Int) + 1 = (z : Int) + 1 := rfl
            go_wp2_with fail
            go_roundw
            case rel =>
              refine ⟨k + 1, by omega, by go_num, ?_, HS7.out, HB7.out⟩
              rw [show min (64 * (k + 1)) n = A + j from by omega]
              exact HO7.out
            case measure => simp [intOf]; omega
    · have hO := HO.out
      rw [show min (64 * k) n = n from by omega, Nat.sub_self, List.replicate_zero, List.append_nil] at hO
      have hE : Ch.xorTo key c nonce text n = Ch.xor key c nonce text := by rw [Ch.xor, HTL.out]
      rw [hE] at hO
      have H9 : Hid (BRow wr (gs + 1) (Ch.xor key c nonce text)) := hO
      have l0 : ¬ (((64 * k : Nat) : Int) < (n : Int)) := by omega
      clear hO hE HO HST HS
      generalize ((64 * k : Nat) : Int) = zA at *
      go_wp2_with fail
      refine bodyPost_ret (results_tmp2 rfl _ _ _) rfl ?_
      exact ⟨gs + 1, rfl, by omega, H9.out, HB.out⟩
end Go.Proofs.Ytnceiccciaihoaa.C3
