/- The contracts of multiplier and closed. -/
import Derived.Test.YtnceiccciaihoaaP4Bytes
namespace Go.Proofs.Ytnceiccciaihoaa.P4
open Go.RowKit
/-- At block g lie the bytes of an array. -/
def RAt (t : TypeId) (w : World) (g : Nat) (s : List Nat) : Prop := w.heap[g]? = some (.cells (arr .u8 s) t (0, 0))
section
variable {w : World} {g : Nat} {s : List Nat} {t : TypeId}
theorem RAt.cell (h : RAt t w g s) (i : Nat) (hi : i < s.length) : w.cell? ⟨g, i, none⟩ = some (.int .u8 (Sp.nth s i : Nat)) := by
  rw [cell_of_row _ _ _ _ _ _ h]; exact arr_get _ _ _ hi
theorem RAt.may (h : RAt t w g s) (i : Nat) : w.frozen? ⟨g, i, none⟩ = false := frozen_of_row _ _ _ _ _ h
theorem RAt.set (h : RAt t w g s) (i x : Nat) : RAt t (w.setCell ⟨g, i, none⟩ (.int .u8 (x : Nat))) g (s.set i x) := by
  have := heap_setCell_same w g i (arr .u8 s) t (.int .u8 (x : Nat)) h
  unfold RAt
  rw [this]
  congr 2
  apply Array.ext'
  simp [arr, ints]
theorem RAt.lt (h : RAt t w g s) : g < w.heap.size := (Array.getElem?_eq_some_iff.1 h).1
theorem RAt.grown {w' : World} {g' : Nat} (h : RAt t w g s) (hg : w.grownBy w' (some g')) (hne : g ≠ g') : RAt t w' g s := by
  have := hg.block g h.lt (by simpa using hne)
  exact this.trans h
theorem RAt.below {w' : World} {K : Nat} (h : RAt t w g s) (hb : Below K w w') (hg : g < K) : RAt t w' g s := (hb.block g hg).trans h
end
def m1 (l : List Nat) : Nat → List Nat
  | 0 => l
  | k + 1 => (m1 l k).set (4 * k + 3) (Sp.nth (m1 l k) (4 * k + 3) % 16)
def m2 (l : List Nat) : Nat → List Nat
  | 0 => l
  | k + 1 => (m2 l k).set (4 * k + 4) (Sp.nth (m2 l k) (4 * k + 4) / 4 * 4)
theorem m1_length (l : List Nat) : ∀ k, (m1 l k).length = l.length
  | 0 => rfl
  | k + 1 => by rw [m1, List.length_set, m1_length l k]
theorem m2_length (l : List Nat) : ∀ k, (m2 l k).length = l.length
  | 0 => rfl
  | k + 1 => by rw [m2, List.length_set, m2_length l k]
theorem m1_lt {l : List Nat} (h : ∀ x ∈ l, x < 256) : ∀ k, ∀ x ∈ m1 l k, x < 256
  | 0 => h
  | k + 1 => fun x hx => by
    rcases List.mem_or_eq_of_mem_set hx with h1 | rfl
    · exact m1_lt h k x h1
    · have := Sp.nth_lt (by decide) (m1_lt h k) (4 * k + 3); omega
theorem m2_lt {l : List Nat} (h : ∀ x ∈ l, x < 256) : ∀ k, ∀ x ∈ m2 l k, x < 256
  | 0 => h
  | k + 1 => fun x hx => by
    rcases List.mem_or_eq_of_mem_set hx with h1 | rfl
    · exact m2_lt h k x h1
    · have := Sp.nth_lt (by decide) (m2_lt h k) (4 * k + 4); omega
theorem cons_nat {n : Nat} : ∀ (l : List Nat), l.length = n + 1 → ∃ x l', l = x :: l' ∧ l'.length = n
  | x :: l', h => ⟨x, l', rfl, by simpa using h⟩
theorem masks (l : List Nat) (h : l.length = 16) : m2 (m1 l 4) 3 = Po.clamp l := by
  obtain ⟨a0, l0, rfl, h0⟩ := cons_nat l h
  obtain ⟨a1, l1, rfl, h1⟩ := cons_nat l0 h0
  obtain ⟨a2, l2, rfl, h2⟩ := cons_nat l1 h1
  obtain ⟨a3, l3, rfl, h3⟩ := cons_nat l2 h2
  obtain ⟨a4, l4, rfl, h4⟩ := cons_nat l3 h3
  obtain ⟨a5, l5, rfl, h5⟩ := cons_nat l4 h4
  obtain ⟨a6, l6, rfl, h6⟩ := cons_nat l5 h5
  obtain ⟨a7, l7, rfl, h7⟩ := cons_nat l6 h6
  obtain ⟨a8, l8, rfl, h8⟩ := cons_nat l7 h7
  obtain ⟨a9, l9, rfl, h9⟩ := cons_nat l8 h8
  obtain ⟨a10, l10, rfl, h10⟩ := cons_nat l9 h9
  obtain ⟨a11, l11, rfl, h11⟩ := cons_nat l10 h10
  obtain ⟨a12, l12, rfl, h12⟩ := cons_nat l11 h11
  obtain ⟨a13, l13, rfl, h13⟩ := cons_nat l12 h12
  obtain ⟨a14, l14, rfl, h14⟩ := cons_nat l13 h13
  obtain ⟨a15, l15, rfl, h15⟩ := cons_nat l14 h14
  obtain rfl := List.eq_nil_of_length_eq_zero h15
  rfl
theorem and15 (x : Nat) (h : x < 256) : bits BinOp.and .u8 (x : Int) 15 = ((x % 16 : Nat) : Int) := by
  have := u8_and_nat x 15 h (by decide)
  rw [show ((15 : Nat) : Int) = 15 from rfl] at this
  rw [this]
  congr 1
  exact Nat.and_two_pow_sub_one_eq_mod x 4
theorem and252' : ∀ x : Fin 256, x.1 &&& 252 = x.1 / 4 * 4 := by decide +kernel
theorem and252 (x : Nat) (h : x < 256) : bits BinOp.and .u8 (x : Int) 252 = ((x / 4 * 4 : Nat) : Int) := by
  have := u8_and_nat x 252 h (by decide)
  rw [show ((252 : Nat) : Int) = 252 from rfl] at this
  rw [this]
  congr 1
  exact and252' ⟨x, h⟩
def zeros16 : Array Value := arr .u8 (List.replicate 16 0)
theorem zeros16_eq : #[Value.int IntKind.u8 0, Value.int IntKind.u8 0, Value.int IntKind.u8 0, Value.int IntKind.u8 0, Value.int IntKind.u8 0, Value.int IntKind.u8 0, Value.int IntKind.u8 0, Value.int IntKind.u8 0, Value.int IntKind.u8 0, Value.int IntKind.u8 0, Value.int IntKind.u8 0, Value.int IntKind.u8 0, Value.int IntKind.u8 0, Value.int IntKind.u8 0, Value.int IntKind.u8 0, Value.int IntKind.u8 0] = zeros16 := rfl
theorem info5 : (Try.prog.info? 5).map (·.size) = some 1 := by kernel_rfl
def mulW (w : World) : World := (w.alloc (Obj.cells zeros5 51)).alloc (Obj.cells zeros16 64)
theorem mulW_0 (w : World) : WAt (mulW w) w.heap.size (List.replicate 5 0) := by
  show ((w.heap.push _).push _)[_]? = _
  rw [Array.getElem?_push_lt (by simp), Array.getElem_push_eq]
  rfl
theorem mulW_1 (w : World) : RAt 64 (mulW w) (w.heap.size + 1) (List.replicate 16 0) := by
  show ((w.heap.push _).push _)[_]? = _
  rw [Array.getElem?_push, if_pos (by simp)]
  rfl
theorem mulW_below (w : World) : Below w.heap.size w (mulW w) := ((Below.refl _ _).alloc (Nat.le_refl _) _).alloc (by simp) _
theorem mulW_below1 (w : World) : Below (w.heap.size + 1) (mulW w) (mulW w) := Below.refl _ _
theorem pow16 : 256 ^ 16 < Po.B ^ 5 := by decide
set_option maxHeartbeats 1000000 in
theorem multiplier_any (l : List Nat) (b o c : Nat) (w : World) (hl : l.length = 16) (hb : ∀ x ∈ l, x < 256) (hr : w.rangeAt b o (ints .u8 l)) :
    Calls Try.prog 25 #[.slice (some ⟨b, o, none⟩) 16 c] w fun e w' => ∃ d, e = .returned (.agg (arr .u64 d)) ∧ Wide d ∧ Po.pos Po.B d = Po.pos 256 (Po.clamp l) ∧ Below w.heap.size w w' := by
  have HL : Hid (l.length = 16) := hl
  have HB : Hid (∀ x ∈ l, x < 256) := hb
  have HR : Hid (w.rangeAt b o (ints .u8 l)) := hr
  have HMK : Hid (m2 (m1 l 4) 3 = Po.clamp l) := masks l hl
  have HCL : Hid ((Po.clamp l).length = 16) := Po.clamp_length l
  have HCB : Hid (∀ x ∈ Po.clamp l, x < 256) := Po.clamp_lt hb
  clear hl hb hr
  generalize Po.clamp l = CL at *
  go_enter Try.func25, Try.ntmps25
  go_wp2_with (first | with_reducible (refine stop_builtin .copy ?_))
  refine Stop.go ?_
  rw [zeros5_eq, zeros16_eq, show ((w.alloc (Obj.cells zeros5 51)).alloc (Obj.cells zeros16 64)) = mulW w from rfl]
  have H0 : Hid (WAt (mulW w) w.heap.size (List.replicate 5 0)) := mulW_0 w
  have H1 : Hid (RAt 64 (mulW w) (w.heap.size + 1) (List.replicate 16 0)) := mulW_1 w
  have HW : Hid (Below w.heap.size w (mulW w)) := mulW_below w
  generalize mulW w = W at *
  have hs0 : W.heap[w.heap.size + 1]? = some (.cells (ints .u8 (List.replicate 16 0)).toArray 64 (0, 0)) := H1.out
  have hsrc : 0 < (ints .u8 l).length → some (⟨w.heap.size + 1, 0, none⟩ : Addr) = some ⟨w.heap.size + 1, 0, none⟩ ∧ ∃ ad : Addr, ((some ⟨b, o, none⟩) : Option Addr) = some ad ∧ ∀ (j : Nat) (v : Value), (ints .u8 l)[j]? = some v → W.cell? (ad.add j) = some v := fun _ =>
    ⟨rfl, ⟨b, o, none⟩, rfl, fun j v hv => by rw [Addr.add_mid]; exact rangeAt_below HW.out HR.out j v hv⟩
  with_reducible refine wpList_copy_splice rfl (.tmp 6) (.tmp 7) 22 22 rfl 5 Try.underlying22 info5 (some ⟨w.heap.size + 1, 0, none⟩) (some ⟨b, o, none⟩) 16 16 16 c ?cd ?cs (w.heap.size + 1) 0 (ints .u8 (List.replicate 16 0)) 64 hs0 (ints .u8 l) ?cn hsrc ?cf ?c1 (w.heap.size + 1) W (Below.refl _ _) (Nat.le_refl _) ?ck
  case cd => exact rfl
  case cs => exact rfl
  case cn => rw [ints_length, HL.out]; rfl
  case cf => rw [ints_length, ints_length, HL.out, List.length_replicate]; omega
  case c1 => exact fun v hv => by obtain ⟨q, _, rfl⟩ := List.mem_map.1 hv; rfl
  intro w2 hk2 hb2
  have H2 : Hid (RAt 64 w2 (w.heap.size + 1) l) := by
    show _ = _
    rw [hk2.out]
    congr 2
    simp [splice, HL.out, arr, ints]
  have HZ2 : Hid (WAt w2 w.heap.size (List.replicate 5 0)) := H0.out.below hb2 (by omega)
  have HB2 : Hid (Below w.heap.size w w2) := HW.out.trans (hb2.mono (by omega))
  clear hk2 hb2 hsrc hs0 H0 H1 HW HR
  rw [show goInt (ints .u8 l).length = .int .i64 16 from by rw [ints_length, HL.out]; rfl]
  go_wp2_with fail
  go_loopw [4] (fun i wr => ∃ k : Nat, k ≤ 4 ∧ i = .int .i64 ((4 * k + 3 : Nat) : Int) ∧ Hid (RAt 64 wr (w.heap.size + 1) (m1 l k)) ∧ Hid (w2.grownBy wr (some (w.heap.size + 1)))) (fun i _ => 20 - (intOf i).toNat)
  case atStart => exact ⟨0, by omega, rfl, H2.out, grownBy_refl _ _⟩
  case round =>
    clear H2
    obtain ⟨k, hk, rfl, H3, G3⟩ := hrel
    by_cases hlt : k < 4
    · have ck := H3.out.cell (4 * k + 3) (by rw [m1_length, HL.out]; omega)
      have fk := H3.out.may (4 * k + 3)
      have xk : Sp.nth (m1 l k) (4 * k + 3) < 256 := Sp.nth_lt (by decide) (m1_lt HB.out k) _
      have hm := and15 _ xk
      have HS : Hid (RAt 64 (wr.setCell ⟨w.heap.size + 1, 4 * k + 3, none⟩ (.int .u8 ((Sp.nth (m1 l k) (4 * k + 3) % 16 : Nat) : Int))) (w.heap.size + 1) (m1 l (k + 1))) := H3.out.set _ _
      have HG : Hid (w2.grownBy (wr.setCell ⟨w.heap.size + 1, 4 * k + 3, none⟩ (.int .u8 ((Sp.nth (m1 l k) (4 * k + 3) % 16 : Nat) : Int))) (some (w.heap.size + 1))) := grownBy_set G3.out _ _
      clear H3 G3
      generalize Sp.nth (m1 l k) (4 * k + 3) = y at *
      have i0 : ((y % 16 : Nat) : Int) = (y : Int) % 16 := by omega
      rw [i0] at HS HG
      obtain ⟨j, hj⟩ : ∃ j, 4 * k + 3 = j := ⟨_, rfl⟩
      rw [hj] at ck fk HS HG ⊢
      have j0 : (0 : Int) ≤ (j : Int) := by omega
      have j1 : (j : Int) < 16 := by omega
      have HJ : Hid (4 * k + 3 = j) := hj
      clear hj
      go_wp2_with fail
      go_roundw
      case rel => exact ⟨k + 1, by omega, by have := HJ.out; go_num, HS.out, HG.out⟩
      case measure => have := HJ.out; simp [intOf]; omega
    · obtain rfl : k = 4 := by omega
      have HM1 : Hid (∀ x ∈ m1 l 4, x < 256) := m1_lt HB.out 4
      have HML : Hid ((m1 l 4).length = 16) := by show _ = _; rw [m1_length]; exact HL.out
      have HZ3 : Hid (WAt wr w.heap.size (List.replicate 5 0)) := HZ2.out.grown G3.out (by omega)
      have HB3 : Hid (Below w.heap.size w wr) := below_grown HB2.out G3.out (by omega)
      clear G3 HZ2 HB2
      generalize m1 l 4 = L1 at *
      generalize hw3 : wr = w3 at *
      clear hw3
      go_wp2_with fail
      go_loopw [5] (fun i wr2 => ∃ k : Nat, k ≤ 3 ∧ i = .int .i64 ((4 * k + 4 : Nat) : Int) ∧ Hid (RAt 64 wr2 (w.heap.size + 1) (m2 L1 k)) ∧ Hid (w3.grownBy wr2 (some (w.heap.size + 1)))) (fun i _ => 20 - (intOf i).toNat)
      case atStart => exact ⟨0, by omega, rfl, H3.out, grownBy_refl _ _⟩
      case round =>
        clear H3
        obtain ⟨k, hk, rfl, H3, G3⟩ := hrel
        by_cases hlt : k < 3
        · have ck := H3.out.cell (4 * k + 4) (by rw [m2_length, HML.out]; omega)
          have fk := H3.out.may (4 * k + 4)
          have xk : Sp.nth (m2 L1 k) (4 * k + 4) < 256 := Sp.nth_lt (by decide) (m2_lt HM1.out k) _
          have hm := and252 _ xk
          have HS : Hid (RAt 64 (wr.setCell ⟨w.heap.size + 1, 4 * k + 4, none⟩ (.int .u8 ((Sp.nth (m2 L1 k) (4 * k + 4) / 4 * 4 : Nat) : Int))) (w.heap.size + 1) (m2 L1 (k + 1))) := H3.out.set _ _
          have HG : Hid (w3.grownBy (wr.setCell ⟨w.heap.size + 1, 4 * k + 4, none⟩ (.int .u8 ((Sp.nth (m2 L1 k) (4 * k + 4) / 4 * 4 : Nat) : Int))) (some (w.heap.size + 1))) := grownBy_set G3.out _ _
          clear H3 G3
          generalize Sp.nth (m2 L1 k) (4 * k + 4) = y at *
          have i0 : ((y / 4 * 4 : Nat) : Int) = (y : Int) / 4 * 4 := by omega
          rw [i0] at HS HG
          obtain ⟨j, hj⟩ : ∃ j, 4 * k + 4 = j := ⟨_, rfl⟩
          rw [hj] at ck fk HS HG ⊢
          have j0 : (0 : Int) ≤ (j : Int) := by omega
          have j1 : (j : Int) < 16 := by omega
          have HJ : Hid (4 * k + 4 = j) := hj
          clear hj
          go_wp2_with fail
          go_roundw
          case rel => exact ⟨k + 1, by omega, by have := HJ.out; go_num, HS.out, HG.out⟩
          case measure => have := HJ.out; simp [intOf]; omega
        · obtain rfl : k = 3 := by omega
          have h3 := H3.out
          rw [HMK.out] at h3
          have H4 : Hid (RAt 64 wr (w.heap.size + 1) CL) := h3
          have HZ4 : Hid (WAt wr w.heap.size (List.replicate 5 0)) := HZ3.out.grown G3.out (by omega)
          have HB4 : Hid (Below w.heap.size w wr) := below_grown HB3.out G3.out (by omega)
          have hlt4 : w.heap.size < wr.heap.size := HZ4.out.lt
          clear h3 H3 G3 HZ3 HB3 HMK HM1 HML
          go_wp2_with fail
          refine (number_any CL 16 (w.heap.size + 1) 0 16 wr HCL.out (by omega) (by omega) HCB.out ?_ (rangeAt_of_row H4.out)).mono ?_
          · have := Po.pos_lt (b := 256) (by decide) HCB.out
            rw [HCL.out] at this
            exact Nat.lt_trans this pow16
          rintro e w5 ⟨d, rfl, hwd, hpd, hb5⟩
          have HD : Hid (Wide d) := hwd
          have HDL : Hid (d.length = 5) := hwd.1
          have HPD : Hid (Po.pos Po.B d = Po.pos 256 CL) := hpd
          have HZ5 : Hid (WAt w5 w.heap.size (List.replicate 5 0)) := HZ4.out.below hb5 hlt4
          have HB5 : Hid (Below w.heap.size w w5) := HB4.out.trans (hb5.mono (by omega))
          clear hwd hpd hb5 HZ4 HB4 H4
          go_wp2_with (first | with_reducible (refine stop_store 51 ?_))
          refine Stop.go ?_
          with_reducible refine law_store w.heap.size 0 (arr .u64 d) ?tx ?ty ?tt ?ti (ints_one _ _) ?tk
          case tx => exact rfl
          case ty => exact rfl
          case tt => rw [arr_size, HDL.out]; exact there_of_row HZ5.out 5 (by simp [arr_size])
          case ti => rw [arr_size, HDL.out]; exact info38
          go_wp2_with fail
          refine bodyPost_ret (v := .agg (arr .u64 d)) (results_row rfl _ _ w.heap.size 0 (ints .u64 d) _ rfl ?_ under38 rfl ?_) rfl ⟨d, rfl, HD.out, HPD.out, ?_⟩
          · exact World.rangeAt_setCells_same _ _ _ _ (by rw [arr_list, ints_length, HDL.out]; exact there_of_row HZ5.out 5 (by simp [arr_size]))
          · rw [ints_length, HDL.out]; exact info38
          · exact Below.setCells _ _ _ HB5.out (Nat.le_refl _)
end Go.Proofs.Ytnceiccciaihoaa.P4
