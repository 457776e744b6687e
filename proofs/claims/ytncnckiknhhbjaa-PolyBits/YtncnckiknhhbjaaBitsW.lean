/- The walk of PolyBits. -/
import Derived.Test.YtncnckiknhhbjaaSteps
namespace Go.Proofs.Ytncnckiknhhbjaa
open Go.RowKit
/-- A byte of the other key. -/
def turned (i x t : Nat) : Nat := if i % 4 = 3 then x ^^^ (t &&& 240) else if i % 4 = 0 ∧ 0 < i then x ^^^ (t &&& 3) else x
def turnTo (key turn : List Nat) : Nat → List Nat
  | 0 => key
  | i + 1 => (turnTo key turn i).set i (turned i (Sp.nth key i) (Sp.nth turn i))
theorem turnTo_length (key turn : List Nat) : ∀ i, (turnTo key turn i).length = key.length
  | 0 => rfl
  | i + 1 => by rw [turnTo, List.length_set, turnTo_length key turn i]
theorem nth_set_ne {l : List Nat} {i j x : Nat} (h : i ≠ j) : Sp.nth (l.set i x) j = Sp.nth l j := by simp [Sp.nth, h]
theorem nth_set_eq {l : List Nat} {i x : Nat} (h : i < l.length) : Sp.nth (l.set i x) i = x := by simp [Sp.nth, h]
theorem turnTo_nth (key turn : List Nat) : ∀ i j, i ≤ key.length → Sp.nth (turnTo key turn i) j = if j < i then turned j (Sp.nth key j) (Sp.nth turn j) else Sp.nth key j
  | 0, j, _ => by simp [turnTo]
  | i + 1, j, h => by
    rw [turnTo]
    by_cases hj : j = i
    · subst hj
      rw [nth_set_eq (by rw [turnTo_length]; omega), if_pos (by omega)]
    · rw [nth_set_ne (Ne.symm hj), turnTo_nth key turn i j (by omega)]
      by_cases h2 : j < i
      · rw [if_pos h2, if_pos (by omega)]
      · rw [if_neg h2, if_neg (by omega)]
theorem turned_lt {i x t : Nat} (hx : x < 256) (ht : t < 256) : turned i x t < 256 := by
  unfold turned
  have h1 : t &&& 240 < 2 ^ 8 := Nat.lt_of_le_of_lt Nat.and_le_left ht
  have h2 : t &&& 3 < 2 ^ 8 := Nat.lt_of_le_of_lt Nat.and_le_left ht
  split
  · exact Nat.xor_lt_two_pow (n := 8) hx h1
  · split
    · exact Nat.xor_lt_two_pow (n := 8) hx h2
    · exact hx
theorem turnTo_lt {key turn : List Nat} (hk : ∀ x ∈ key, x < 256) (ht : ∀ x ∈ turn, x < 256) : ∀ i, ∀ x ∈ turnTo key turn i, x < 256
  | 0 => hk
  | i + 1 => fun x hx => by
    rcases List.mem_or_eq_of_mem_set hx with h | rfl
    · exact turnTo_lt hk ht i x h
    · exact turned_lt (Sp.nth_lt (by decide) hk i) (Sp.nth_lt (by decide) ht i)
theorem cl_turned (i x t : Nat) : Po.cl i (turned i x t) = Po.cl i x := by
  unfold Po.cl turned
  by_cases h3 : i % 4 = 3
  · rw [if_pos h3, if_pos h3, if_pos h3]
    have e1 : (x ^^^ (t &&& 240)) % 2 ^ 4 = (x % 2 ^ 4) ^^^ ((t &&& 240) % 2 ^ 4) := Nat.xor_mod_two_pow
    have e2 : (t &&& 240) % 2 ^ 4 = (t % 2 ^ 4) &&& (240 % 2 ^ 4) := Nat.and_mod_two_pow
    rw [e2, show 240 % 2 ^ 4 = 0 from rfl, Nat.and_zero, Nat.xor_zero] at e1
    exact e1
  · rw [if_neg h3, if_neg h3, if_neg h3]
    by_cases h0 : i % 4 = 0 ∧ 0 < i
    · rw [if_pos h0, if_pos h0, if_pos h0]
      have e1 : (x ^^^ (t &&& 3)) / 2 ^ 2 = (x / 2 ^ 2) ^^^ ((t &&& 3) / 2 ^ 2) := Nat.xor_div_two_pow
      have e2 : (t &&& 3) / 2 ^ 2 = (t / 2 ^ 2) &&& (3 / 2 ^ 2) := Nat.and_div_two_pow
      rw [e2, show 3 / 2 ^ 2 = 0 from rfl, Nat.and_zero, Nat.xor_zero] at e1
      have e3 : (x ^^^ (t &&& 3)) / 4 = x / 4 := e1
      rw [e3]
    · rw [if_neg h0, if_neg h0, if_neg h0]
theorem turn_tag {key turn : List Nat} (hk : key.length = 32) (text : List Nat) : Po.tag (turnTo key turn 16) text = Po.tag key text := by
  have h1 : Po.clamp (turnTo key turn 16) = Po.clamp key := by
    unfold Po.clamp
    apply List.map_congr_left
    intro i hi
    have hi' := List.mem_range.1 hi
    rw [turnTo_nth key turn 16 i (by omega), if_pos hi', cl_turned]
  have h2 : (turnTo key turn 16).drop 16 = key.drop 16 := by
    have : ∀ i, i ≤ 16 → (turnTo key turn i).drop 16 = key.drop 16 := by
      intro i
      induction i with
      | zero => intro _; rfl
      | succ i ih => intro h; rw [turnTo, List.drop_set_of_lt (by omega), ih (by omega)]
    exact this 16 (by omega)
  unfold Po.tag Po.tagN Po.rOf Po.sOf
  rw [h1, h2]
theorem xor240 {x t : Nat} (hx : x < 256) (ht : t < 256) : bits BinOp.xor .u8 (x : Int) (bits BinOp.and .u8 (t : Int) 240) = ((x ^^^ (t &&& 240) : Nat) : Int) := by
  have e := u8_and_nat t 240 ht (by decide)
  rw [show ((240 : Nat) : Int) = 240 from rfl] at e
  rw [e, u8_xor_nat _ _ hx (Nat.lt_of_le_of_lt Nat.and_le_left ht)]
theorem xor3 {x t : Nat} (hx : x < 256) (ht : t < 256) : bits BinOp.xor .u8 (x : Int) (bits BinOp.and .u8 (t : Int) 3) = ((x ^^^ (t &&& 3) : Nat) : Int) := by
  have e := u8_and_nat t 3 ht (by decide)
  rw [show ((3 : Nat) : Int) = 3 from rfl] at e
  rw [e, u8_xor_nat _ _ hx (Nat.lt_of_le_of_lt Nat.and_le_left ht)]
theorem info32 : (Try.prog.info? 32).map (·.size) = some 32 := by kernel_rfl
def zeros32 : Array Value := arr .u8 (List.replicate 32 0)
theorem zeros32_eq : #[Value.int IntKind.u8 0, Value.int IntKind.u8 0, Value.int IntKind.u8 0, Value.int IntKind.u8 0, Value.int IntKind.u8 0, Value.int IntKind.u8 0, Value.int IntKind.u8 0, Value.int IntKind.u8 0, Value.int IntKind.u8 0, Value.int IntKind.u8 0, Value.int IntKind.u8 0, Value.int IntKind.u8 0, Value.int IntKind.u8 0, Value.int IntKind.u8 0, Value.int IntKind.u8 0, Value.int IntKind.u8 0, Value.int IntKind.u8 0, Value.int IntKind.u8 0, Value.int IntKind.u8 0, Value.int IntKind.u8 0, Value.int IntKind.u8 0, Value.int IntKind.u8 0, Value.int IntKind.u8 0, Value.int IntKind.u8 0, Value.int IntKind.u8 0, Value.int IntKind.u8 0, Value.int IntKind.u8 0, Value.int IntKind.u8 0, Value.int IntKind.u8 0, Value.int IntKind.u8 0, Value.int IntKind.u8 0, Value.int IntKind.u8 0] = zeros32 := rfl
def bitW (w : World) (key turn : List Nat) : World := (w.alloc (Obj.cells (arr .u8 key) 32)).alloc (Obj.cells (arr .u8 turn) 30)
theorem bitW_0 (w : World) (key turn : List Nat) : RAt 32 (bitW w key turn) w.heap.size key := by
  show ((w.heap.push _).push _)[_]? = _
  rw [Array.getElem?_push_lt (by simp), Array.getElem_push_eq]
theorem bitW_1 (w : World) (key turn : List Nat) : RAt 30 (bitW w key turn) (w.heap.size + 1) turn := by
  show ((w.heap.push _).push _)[_]? = _
  rw [Array.getElem?_push, if_pos (by simp)]
theorem bitW_below (w : World) (key turn : List Nat) : Below w.heap.size w (bitW w key turn) := ((Below.refl _ _).alloc (Nat.le_refl _) _).alloc (by simp) _
theorem bitW_size (w : World) (key turn : List Nat) : (bitW w key turn).heap.size = w.heap.size + 2 := by simp [bitW]
set_option maxHeartbeats 1000000 in
theorem bits_early (key turn : List Nat) (pt : Option Addr) (n ct : Nat) (w : World) (h : 300 < n) :
    Calls Try.prog 6 #[.agg (arr .u8 key), .agg (arr .u8 turn), .slice pt n ct] w fun e w' => e = .returned (.bool true) ∧ Below w.heap.size w w' := by
  have h' : (300 : Int) < (n : Int) := by omega
  go_enter Try.func6, Try.ntmps6
  go_wp2_with fail
  refine (anchor_any _).mono ?_
  rintro e w1 ⟨rfl, hb1⟩
  have HB1 : Hid (Below w.heap.size w w1) := (bitW_below w key turn).trans (hb1.mono (bitW_below w key turn).size)
  clear hb1
  go_wp2_with fail
  go_ret
  exact ⟨rfl, HB1.out⟩
set_option maxHeartbeats 1000000 in
theorem bits_any (key turn text : List Nat) (pt : Option Addr) (n ct : Nat) (w : World) (hk : key.length = 32) (hkb : ∀ x ∈ key, x < 256) (ht : turn.length = 16) (htb : ∀ x ∈ turn, x < 256) (hT : TextIs w pt text) (htl : text.length = n) (hn : n ≤ 300) (hct : n ≤ ct) :
    Calls Try.prog 6 #[.agg (arr .u8 key), .agg (arr .u8 turn), .slice pt n ct] w fun e w' => e = .returned (.bool true) ∧ Below w.heap.size w w' := by
  have HKL : Hid (key.length = 32) := hk
  have HKB : Hid (∀ x ∈ key, x < 256) := hkb
  have HUL : Hid (turn.length = 16) := ht
  have HUB : Hid (∀ x ∈ turn, x < 256) := htb
  have HT : Hid (TextIs w pt text) := hT
  have HTL : Hid (text.length = n) := htl
  clear hk hkb ht htb hT htl
  have h' : (n : Int) ≤ 300 := by omega
  go_enter Try.func6, Try.ntmps6
  go_wp2_with fail
  rw [show (w.alloc (Obj.cells (arr .u8 key) 32)).alloc (Obj.cells (arr .u8 turn) 30) = bitW w key turn from rfl]
  refine (anchor_any _).mono ?_
  rintro e w1 ⟨rfl, hb1⟩
  have hsz := bitW_size w key turn
  have HB1 : Hid (Below w.heap.size w w1) := (bitW_below w key turn).trans (hb1.mono (bitW_below w key turn).size)
  have HK1 : Hid (RAt 32 w1 w.heap.size key) := (bitW_0 w key turn).below hb1 (by omega)
  have HU1 : Hid (RAt 30 w1 (w.heap.size + 1) turn) := (bitW_1 w key turn).below hb1 (by omega)
  clear hb1 hsz
  go_wp2_with (first | with_reducible (refine stop_load 32 ?_))
  refine Stop.go ?_
  with_reducible refine law_load_arr w.heap.size 0 .u8 key _ ?lx ?lc under32 rfl ?li ?lk
  case lx => exact rfl
  case lc => exact rangeAt_of_row HK1.out
  case li => rw [HKL.out]; exact info32
  go_wp2_with (first | with_reducible (refine stop_store 32 ?_))
  refine Stop.go ?_
  rw [zeros32_eq]
  have hz0 : RAt 32 (w1.alloc (Obj.cells zeros32 32)) w1.heap.size (List.replicate 32 0) := heap_alloc_new w1 _
  with_reducible refine law_store w1.heap.size 0 (arr .u8 key) ?sx ?sy ?st ?si (ints_one _ _) ?sk
  case sx => exact rfl
  case sy => exact rfl
  case st => rw [arr_size, HKL.out]; exact there_of_row hz0 32 (by simp [arr_size])
  case si => rw [arr_size, HKL.out]; exact info32
  have hgr : w1.grownBy (World.setCells (w1.alloc (Obj.cells zeros32 32)) w1.heap.size 0 (arr .u8 key).toList) (some w1.heap.size) := grownBy_setCells _ _ (grownBy_alloc w1 _ _)
  have H2 : Hid (RAt 32 (World.setCells (w1.alloc (Obj.cells zeros32 32)) w1.heap.size 0 (arr .u8 key).toList) w1.heap.size key) := by
    have := heap_setCells w1.heap.size 32 (ints .u8 key) 0 (w1.alloc (Obj.cells zeros32 32)) (ints .u8 (List.replicate 32 0)) hz0 (by rw [ints_length, ints_length, HKL.out]; simp)
    show _ = _
    rw [arr_list]
    refine Eq.trans this ?_
    rw [ints_length, HKL.out]
    simp [arr, ints]
  have hk1 := HK1.out.lt
  have hu1 := HU1.out.lt
  have HK2 : Hid (RAt 32 (World.setCells (w1.alloc (Obj.cells zeros32 32)) w1.heap.size 0 (arr .u8 key).toList) w.heap.size key) := HK1.out.grown hgr (by omega)
  have HU2 : Hid (RAt 30 (World.setCells (w1.alloc (Obj.cells zeros32 32)) w1.heap.size 0 (arr .u8 key).toList) (w.heap.size + 1) turn) := HU1.out.grown hgr (by omega)
  have HB2 : Hid (Below w.heap.size w (World.setCells (w1.alloc (Obj.cells zeros32 32)) w1.heap.size 0 (arr .u8 key).toList)) := below_grown HB1.out hgr (by omega)
  clear hgr hz0 HK1 HU1 HB1
  generalize World.setCells (w1.alloc (Obj.cells zeros32 32)) w1.heap.size 0 (arr .u8 key).toList = W4 at *
  go_wp2_with fail
  go_loopw [19] (fun u wr => ∃ i : Nat, i ≤ 16 ∧ u = .int .i64 i ∧ Hid (RAt 32 wr w1.heap.size (turnTo key turn i)) ∧ Hid (W4.grownBy wr (some w1.heap.size))) (fun u _ => 16 - (intOf u).toNat)
  case atStart => exact ⟨0, by omega, rfl, H2.out, grownBy_refl _ _⟩
  case round =>
    clear H2
    obtain ⟨i, hi, rfl, H4, G4⟩ := hrel
    by_cases hlt : i < 16
    · have hl4 : i < (turnTo key turn i).length := by rw [turnTo_length, HKL.out]; omega
      have ck := H4.out.cell i hl4
      rw [turnTo_nth key turn i i (by rw [HKL.out]; omega), if_neg (by omega)] at ck
      have fk := H4.out.may i
      have cu := (HU2.out.grown G4.out (by omega)).cell i (by rw [HUL.out]; exact hlt)
      have xk : Sp.nth key i < 256 := Sp.nth_lt (by decide) HKB.out i
      have xt : Sp.nth turn i < 256 := Sp.nth_lt (by decide) HUB.out i
      have i0 : (0 : Int) ≤ (i : Int) := by omega
      have i1 : (i : Int) < 16 := by omega
      have i2 : (i : Int) < 32 := by omega
      have ne1 : w1.heap.size ≠ w.heap.size + 1 := by omega
      clear hl4
      by_cases h3 : i % 4 = 3
      · have HTU : Hid (turned i (Sp.nth key i) (Sp.nth turn i) = Sp.nth key i ^^^ (Sp.nth turn i &&& 240)) := by
          show _ = _
          unfold turned
          rw [if_pos h3]
        have hxx := xor240 xk xt
        have HS : Hid (RAt 32 ((wr.setCell ⟨w1.heap.size, i, none⟩ (.int .u8 ((Sp.nth key i ^^^ (Sp.nth turn i &&& 240) : Nat) : Int))).drew) w1.heap.size (turnTo key turn (i + 1))) := by
          rw [turnTo, HTU.out]
          exact H4.out.set i _
        have HG : Hid (W4.grownBy ((wr.setCell ⟨w1.heap.size, i, none⟩ (.int .u8 ((Sp.nth key i ^^^ (Sp.nth turn i &&& 240) : Nat) : Int))).drew) (some w1.heap.size)) := grownBy_drewN (grownBy_set G4.out i _) 1
        generalize Sp.nth key i ^^^ (Sp.nth turn i &&& 240) = z at *
        generalize Sp.nth key i = x at *
        generalize Sp.nth turn i = t at *
        clear H4 G4 HTU
        have hm : (i : Int).tmod 4 = 3 := by rw [Int.tmod_eq_emod_of_nonneg i0]; omega
        go_wp2_with fail
        go_region
        go_wp2_with fail
        go_roundw
        case rel => exact ⟨i + 1, by omega, by go_num, HS.out, HG.out⟩
        case measure => simp [intOf]; omega
      · by_cases h0 : i % 4 = 0 ∧ 0 < i
        · have HTU : Hid (turned i (Sp.nth key i) (Sp.nth turn i) = Sp.nth key i ^^^ (Sp.nth turn i &&& 3)) := by
            show _ = _
            unfold turned
            rw [if_neg h3, if_pos h0]
          have hxx := xor3 xk xt
          have HS : Hid (RAt 32 ((wr.setCell ⟨w1.heap.size, i, none⟩ (.int .u8 ((Sp.nth key i ^^^ (Sp.nth turn i &&& 3) : Nat) : Int))).drew) w1.heap.size (turnTo key turn (i + 1))) := by
            rw [turnTo, HTU.out]
            exact H4.out.set i _
          have HG : Hid (W4.grownBy ((wr.setCell ⟨w1.heap.size, i, none⟩ (.int .u8 ((Sp.nth key i ^^^ (Sp.nth turn i &&& 3) : Nat) : Int))).drew) (some w1.heap.size)) := grownBy_drewN (grownBy_set G4.out i _) 1
          generalize Sp.nth key i ^^^ (Sp.nth turn i &&& 3) = z at *
          generalize Sp.nth key i = x at *
          generalize Sp.nth turn i = t at *
          clear H4 G4 HTU
          have hm : (i : Int).tmod 4 = 0 := by rw [Int.tmod_eq_emod_of_nonneg i0]; omega
          have hp : (0 : Int) < (i : Int) := by omega
          go_wp2_with fail
          go_region
          go_wp2_with fail
          go_roundw
          case rel => exact ⟨i + 1, by omega, by go_num, HS.out, HG.out⟩
          case measure => simp [intOf]; omega
        · have HTU : Hid (turned i (Sp.nth key i) (Sp.nth turn i) = Sp.nth key i) := by
            show _ = _
            unfold turned
            rw [if_neg h3, if_neg h0]
          have HS : Hid (RAt 32 wr w1.heap.size (turnTo key turn (i + 1))) := by
            have e : turnTo key turn (i + 1) = turnTo key turn i := by
              rw [turnTo, HTU.out]
              have h1 := turnTo_nth key turn i i (by rw [HKL.out]; omega)
              rw [if_neg (by omega)] at h1
              rw [← h1]
              apply List.ext_getElem (by simp)
              intro j h2 h3
              by_cases hj : j = i
              · subst hj; simp [Sp.nth, h3]
              · simp [Ne.symm hj]
            rw [e]
            exact H4.out
          clear H4 HTU ck fk cu xk xt
          by_cases hz : i = 0
          · subst hz
            go_wp2_with fail
            go_roundw
            case rel => exact ⟨1, by omega, by go_num, HS.out, G4.out⟩
            case measure => simp [intOf]
          · have hm3 : ¬ (i : Int).tmod 4 = 3 := by rw [Int.tmod_eq_emod_of_nonneg i0]; omega
            have hm0 : ¬ (i : Int).tmod 4 = 0 := by rw [Int.tmod_eq_emod_of_nonneg i0]; omega
            go_wp2_with fail
            go_roundw
            case rel => exact ⟨i + 1, by omega, by go_num, HS.out, G4.out⟩
            case measure => simp [intOf]; omega
    · obtain rfl : i = 16 := by omega
      have HB5 : Hid (Below w.heap.size w wr) := below_grown HB2.out G4.out (by omega)
      have HK5 : Hid (RAt 32 wr w.heap.size key) := HK2.out.grown G4.out (by omega)
      have HT5 : Hid (TextIs wr pt text) := HT.out.below HB5.out
      clear G4 HK2 HU2 HB2 HT
      go_wp2_with fail
      refine (tag_ok key text w.heap.size 0 32 n ct pt wr HKL.out HKB.out (rangeAt_of_row HK5.out) (by decide) HT5.out HTL.out (by omega) hct).mono ?_
      rintro e w6 ⟨v6, rfl, ho6, hb6⟩
      obtain ⟨g6, c6, rfl, _, hl6, _, hr6⟩ := own_cell ho6 (by decide)
      have HR6 : Hid (w6.rangeAt g6 0 (ints .u8 (Po.tag key text))) := hr6
      have HB6 : Hid (Below w.heap.size w w6) := HB5.out.trans (hb6.mono HB5.out.size)
      have HO6 : Hid (RAt 32 w6 w1.heap.size (turnTo key turn 16)) := H4.out.below hb6 H4.out.lt
      have HT6 : Hid (TextIs w6 pt text) := HT5.out.below hb6
      clear ho6 hb6 hl6 hr6 H4 HB5 HK5 HT5
      go_wp2_with fail
      refine (tag_ok (turnTo key turn 16) text w1.heap.size 0 32 n ct pt w6 (by rw [turnTo_length]; exact HKL.out) (turnTo_lt HKB.out HUB.out 16) (rangeAt_of_row HO6.out) (by decide) HT6.out HTL.out (by omega) hct).mono ?_
      rintro e w7 ⟨v7, rfl, ho7, hb7⟩
      obtain ⟨g7, c7, rfl, _, hl7, _, hr7⟩ := own_cell ho7 (by decide)
      rw [turn_tag HKL.out] at hr7
      have hr8 := rangeAt_below hb7 HR6.out
      have HB7 : Hid (Below w.heap.size w w7) := HB6.out.trans (hb7.mono HB6.out.size)
      have hcv1 := conv_of c6 (Po.tag_length key text) hr8
      have hcv2 := conv_of c7 (Po.tag_length key text) hr7
      clear ho7 hb7 hl7 hr7 hr8 HB6 HO6 HT6 HR6
      generalize Po.tag key text = T at *
      go_wp2_with fail
      go_ret
      exact ⟨rfl, HB7.out⟩
end Go.Proofs.Ytncnckiknhhbjaa
