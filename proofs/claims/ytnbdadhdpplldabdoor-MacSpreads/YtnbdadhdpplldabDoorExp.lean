/- mac: Expand. -/
import Derived.Test.YtnbdadhdpplldabDoorCodesW
import Derived.OwnWalk
namespace Go.Proofs.YtnbdadhdpplldabDoor
open Go.RowKit
namespace Mk
/-- The blocks of what is spread. -/
def bl (key info : List Nat) : Nat → List Nat
  | 0 => []
  | i + 1 => code key (bl key info i ++ (info ++ [i + 1]))
def row (key info : List Nat) : Nat → List Nat
  | 0 => []
  | i + 1 => row key info i ++ bl key info (i + 1)
def spread (key info : List Nat) (n : Nat) : List Nat := (row key info ((n + 31) / 32)).take n
theorem bl_small (key info : List Nat) : ∀ i, ∀ x ∈ bl key info i, x < 256
  | 0 => by simp [bl]
  | i + 1 => code_small _ _
theorem bl_length (key info : List Nat) (i : Nat) : (bl key info (i + 1)).length = 32 := code_length _ _
theorem bl_le (key info : List Nat) : ∀ i, (bl key info i).length ≤ 32
  | 0 => by simp [bl]
  | i + 1 => by rw [bl_length]; exact Nat.le_refl _
theorem row_length (key info : List Nat) : ∀ i, (row key info i).length = 32 * i
  | 0 => rfl
  | i + 1 => by rw [row, List.length_append, row_length key info i, bl_length]; omega
theorem row_small (key info : List Nat) : ∀ i, ∀ x ∈ row key info i, x < 256
  | 0 => by simp [row]
  | i + 1 => fun x hx => by
    rcases List.mem_append.1 hx with h | h
    · exact row_small key info i x h
    · exact bl_small key info (i + 1) x h
theorem row_next (key info : List Nat) (i n : Nat) (h : 32 * i ≤ n) : (row key info (i + 1)).take n = row key info i ++ (bl key info (i + 1)).take (n - 32 * i) := by
  rw [row, List.take_append, row_length, List.take_of_length_le (by rw [row_length]; exact h)]
theorem row_all (key info : List Nat) (i n : Nat) (h : 32 * i ≤ n) : (row key info i).take n = row key info i := List.take_of_length_le (by rw [row_length]; exact h)
theorem spread_length (key info : List Nat) (n : Nat) : (spread key info n).length = n := by
  rw [spread, List.length_take, row_length]
  omega
theorem spread_small (key info : List Nat) (n : Nat) : ∀ x ∈ spread key info n, x < 256 := fun x hx => row_small key info _ x (List.mem_of_mem_take hx)
end Mk
/-- The code of three parts, in a block of its own. -/
theorem code3_row {w' : World} {kv x y : Value} {key l1 l2 l3 : List Nat} {g g3 : Nat} (hT : Tab w') (hk : BytesAt w' kv key) (hp : w'.rangeAt g 0 [x, y, .slice (some ⟨g3, 0, none⟩) 1 1]) (h1 : BytesAt w' x l1) (h2 : BytesAt w' y l2) (h3 : BytesAt w' (.slice (some ⟨g3, 0, none⟩) 1 1) l3)
    (hkn : key.length ≤ 100000) (hln : (l1 ++ (l2 ++ l3)).length ≤ 1000000) :
    Calls Tryd.prog 11 #[kv, .slice (some ⟨g, 0, none⟩) 3 3] w' fun e w2 => ∃ b, e = .returned (.slice (some ⟨b, 0, none⟩) 32 32) ∧ w'.heap.size ≤ b ∧ w2.heap[b]? = some (.cells (arr .u8 (Mk.code key (l1 ++ (l2 ++ l3)))) 5 (0, 0)) ∧ Below w'.heap.size w' w2 := by
  obtain ⟨p, c, rfl⟩ := bytesAt_slice hk
  have h := code_any key [l1, l2, l3] p key.length c g 0 3 [x, y, .slice (some ⟨g3, 0, none⟩) 1 1] w' hk hT (by omega) hp (fun i l hl => by
    match i with
    | 0 => simp at hl; subst hl; exact ⟨_, rfl, h1⟩
    | 1 => simp at hl; subst hl; exact ⟨_, rfl, h2⟩
    | 2 => simp at hl; subst hl; exact ⟨_, rfl, h3⟩
    | i + 3 => simp at hl) (by simp) (by simp at hln ⊢; omega)
  simpa using h
set_option maxHeartbeats 1000000 in
theorem expand_any (key info : List Nat) (p q : Option Addr) (n c m d N : Nat) (w : World) (hT : Tab w) (hK : BytesAt w (.slice p n c) key) (hI : BytesAt w (.slice q m d) info) (hn : n ≤ 1000) (hm : m ≤ 1000) (hN : N ≤ 8160) :
    Calls Tryd.prog 13 #[.slice p n c, .slice q m d, .int .i64 (N : Nat)] w fun e w' => ∃ v, e = .returned (.tuple #[v, .int .i64 0]) ∧ w'.ownsRow w.heap.size 5 1 v N (ints .u8 (Mk.spread key info N)) ∧ Below w.heap.size w w' := by
  have HT : Hid (Tab w) := hT
  have HK : Hid (BytesAt w (.slice p n c) key) := hK
  have HI : Hid (BytesAt w (.slice q m d) info) := hI
  have HKL : Hid (key.length = n) := (bytesAt_src hK).1
  have HIL : Hid (info.length = m) := (bytesAt_src hI).1
  clear hT hK hI
  have k1 : ¬ ((N : Nat) : Int) < 0 := by omega
  have k2 : ¬ (8160 : Int) < ((N : Nat) : Int) := by omega
  obtain ⟨i5, hi5, hs5, hb5, hz5⟩ := info5e
  have H5 : Hid (Tryd.prog.info? 5 = some i5 ∧ i5.size = 1 ∧ i5.bytes = 1 ∧ i5.zero = some (.int .u8 0)) := ⟨hi5, hs5, hb5, hz5⟩
  clear hi5 hs5 hb5 hz5
  go_enter Tryd.func13, Tryd.ntmps13
  go_wp2_with (first | (at_make; refine wpList_make_own w rfl _ _ 22 rfl w.heap.size 5 i5 (.int .u8 0) 1 Tryd.underlying22 H5.out.1 H5.out.2.2.2 H5.out.2.1 .i64 .i64 (N : Nat) N rfl rfl rfl (by rw [H5.out.2.2.1]; omega) (by unfold maxLen; omega) (Nat.le_refl _) ?_; intro w1 ho1 hg1))
  have HO1 : Hid (w1.ownsRow w.heap.size 5 1 (.slice (some ⟨w.heap.size, 0, none⟩) 0 N) 0 (ints .u8 [])) := ho1
  have HB1 : Hid (Below w.heap.size w w1) := below_grown' (v := .slice none 0 0) (Below.refl _ _) hg1 (own_none w w.heap.size 5 1) (Nat.le_refl _) (Nat.le_refl _)
  clear ho1 hg1
  obtain ⟨K, hKd⟩ : ∃ K, K = (N + 31) / 32 := ⟨_, rfl⟩
  go_loopw [8, 9, 10] (fun sl bv i wr => ∃ k : Nat, k ≤ K ∧ i = .int .i64 ((k + 1 : Nat) : Int) ∧ Hid (wr.ownsRow w.heap.size 5 1 sl (min (32 * k) N) (ints .u8 ((Mk.row key info k).take N))) ∧ Hid (BytesAt wr bv (Mk.bl key info k)) ∧ Hid (Below w.heap.size w wr)) (fun _ _ i _ => K + 1 - (intOf i).toNat)
  case atStart => exact ⟨0, by omega, rfl, by show World.ownsRow _ _ _ _ _ _ _; simpa [Mk.row] using HO1.out, bytesAt_none _ _ _, HB1.out⟩
  case round =>
    obtain ⟨k, hk, rfl, HO, HBl, HB⟩ := hrel
    by_cases hlt : 32 * k < N
    · have hkK : k < K := by omega
      have hmin : min (32 * k) N = 32 * k := by omega
      rw [hmin] at HO
      have HO2 : Hid (wr.ownsRow w.heap.size 5 1 u8 (32 * k) (ints .u8 (Mk.row key info k))) := by
        have h := HO.out
        rw [Mk.row_all key info k N (by omega)] at h
        exact h
      clear HO
      obtain ⟨qo, co, rfl⟩ := own_slice HO2.out
      obtain ⟨pb, cb, rfl⟩ := bytesAt_slice HBl.out
      have j1 : ((32 * k : Nat) : Int) < ((N : Nat) : Int) := by omega
      have j2 : k + 1 ≤ 255 := by omega
      go_wp2_with fail
      have hkl : Hid (key.length ≤ 100000) := by show _ ≤ _; rw [HKL.out]; omega
      have hil : Hid ((Mk.bl key info k ++ (info ++ [k + 1])).length ≤ 1000000) := by
        have h1 := Mk.bl_le key info k
        have h2 := HIL.out
        show _ ≤ _
        simp only [List.length_append, List.length_cons, List.length_nil]
        omega
      have hbA : Below wr.heap.size wr (wr.alloc (Obj.cells #[.int .u8 ((k : Int) + 1)] 5)) := (Below.refl _ _).alloc (Nat.le_refl _) _
      have hszA : (wr.alloc (Obj.cells #[.int .u8 ((k : Int) + 1)] 5)).heap.size = wr.heap.size + 1 := by simp
      have h3A : BytesAt (wr.alloc (Obj.cells #[.int .u8 ((k : Int) + 1)] 5)) (.slice (some ⟨wr.heap.size, 0, none⟩) 1 1) [k + 1] :=
        ⟨by simp; omega, .inr ⟨wr.heap.size, 0, 1, rfl, Nat.le_refl _, rangeAt_of_row (heap_alloc_new wr _)⟩⟩
      generalize wr.alloc (Obj.cells #[.int .u8 ((k : Int) + 1)] 5) = A1 at *
      have hbB : Below A1.heap.size A1 (A1.alloc (Obj.cells #[.slice pb (Mk.bl key info k).length cb, .slice q m d, .slice (some ⟨wr.heap.size, 0, none⟩) 1 1] 22)) := (Below.refl _ _).alloc (Nat.le_refl _) _
      have hrB := heap_alloc_new A1 (Obj.cells #[.slice pb (Mk.bl key info k).length cb, .slice q m d, .slice (some ⟨wr.heap.size, 0, none⟩) 1 1] 22)
      rw [hszA] at hrB
      have hszB : (A1.alloc (Obj.cells #[.slice pb (Mk.bl key info k).length cb, .slice q m d, .slice (some ⟨wr.heap.size, 0, none⟩) 1 1] 22)).heap.size = A1.heap.size + 1 := by simp
      generalize A1.alloc (Obj.cells #[.slice pb (Mk.bl key info k).length cb, .slice q m d, .slice (some ⟨wr.heap.size, 0, none⟩) 1 1] 22) = A2 at *
      have hb2 : Below wr.heap.size wr A2 := hbA.trans (hbB.mono (by omega))
      have hbw : Below w.heap.size w A2 := HB.out.trans (hb2.mono HB.out.size)
      refine (code3_row (l1 := Mk.bl key info k) (l2 := info) (l3 := [k + 1]) (g3 := wr.heap.size) (tab_below HT.out hbw) (bytesAt_below HK.out hbw) (rangeAt_of_row hrB) (bytesAt_below HBl.out hb2) (bytesAt_below HI.out hbw) (bytesAt_below h3A hbB) hkl.out hil.out).mono ?_
      rintro e w5 ⟨b, rfl, hbge, hrow, hb5⟩
      have hb25 : Below wr.heap.size wr w5 := hb2.trans (hb5.mono (by omega))
      have HR5 : Hid (w5.heap[b]? = some (.cells (arr .u8 (Mk.bl key info (k + 1))) 5 (0, 0))) := hrow
      have HB5 : Hid (Below w.heap.size w w5) := HB.out.trans (hb25.mono HB.out.size)
      have HO5 : Hid (w5.ownsRow w.heap.size 5 1 (.slice qo (32 * k) co) (32 * k) (ints .u8 (Mk.row key info k))) := own_below HO2.out hb25
      have HLT := (HO2.out.lt)
      have HNE : Hid (∀ g, (Value.slice qo (32 * k) co).ownBlock = some g → g ≠ b) := fun g hg e => by have := (HLT g hg).2; omega
      clear hbA hszA h3A hbB hrB hszB hb2 hbw hbge hrow hb5 hb25 HLT HO2 HBl hkl hil
      have HSM : Hid (∀ x ∈ Mk.bl key info (k + 1), x < 256) := Mk.bl_small key info (k + 1)
      have HCL : Hid ((Mk.bl key info (k + 1)).length = 32) := Mk.bl_length key info k
      have HNX : Hid ((Mk.row key info (k + 1)).take N = Mk.row key info k ++ (Mk.bl key info (k + 1)).take (N - 32 * k)) := Mk.row_next key info k N (by omega)
      generalize hC : Mk.bl key info (k + 1) = C at *
      by_cases h32 : 32 ≤ N - 32 * k
      · have j3 : (32 : Int) ≤ (N : Int) - 32 * (k : Int) := by omega
        have HSRC : Hid (SrcIs w5 (.slice (some ⟨b, 0, none⟩) 32 32) C) := .inr ⟨⟨b, 0, none⟩, 32, by rw [HCL.out], fun j u hu => by rw [Addr.add_mid]; exact rangeAt_of_row HR5.out j u hu⟩
        have HLN : Hid (C.length = 32) := HCL.out
        go_wp2_with (first | with_reducible (refine stop_builtin .append ?_))
        refine Stop.go ?_
        with_reducible refine law_append w.heap.size (.slice qo (32 * k) co) (32 * k) (ints .u8 (Mk.row key info k)) (.slice (some ⟨b, 0, none⟩) 32 32) C ?svA ?xvA HO5.out HSRC.out (by rw [HLN.out]; omega) HB5.out.size ?kA
        case svA => exact rfl
        case xvA => exact rfl
        intro v6 w6 ho6 hg6
        rw [← ints_append, HLN.out] at ho6
        have HO6 : Hid (w6.ownsRow w.heap.size 5 1 v6 (min (32 * (k + 1)) N) (ints .u8 ((Mk.row key info (k + 1)).take N))) := by
          rw [HNX.out, show min (32 * (k + 1)) N = 32 * k + 32 by omega]
          rw [List.take_of_length_le (by rw [HCL.out]; exact h32)]
          exact ho6
        have HR6 : Hid (BytesAt w6 (.slice (some ⟨b, 0, none⟩) 32 32) (Mk.bl key info (k + 1))) := by
          rw [hC]
          refine code_bytes HSM.out HCL.out ?_
          rw [hg6.block b (Array.getElem?_eq_some_iff.1 HR5.out).1 (fun e => HNE.out b e.symm rfl)]
          exact HR5.out
        have HB6 : Hid (Below w.heap.size w w6) := below_grown' HB5.out hg6 HO5.out HB5.out.size (Nat.le_refl _)
        clear ho6 hg6 HO5 HR5 HB5 HNE HSRC HLN HNX HSM HCL HB
        go_wp2_with fail
        go_roundw
        case rel => exact ⟨k + 1, by omega, by go_num, HO6, HR6, HB6⟩
        case measure => simp [intOf]; omega
      · have j3 : ¬ (32 : Int) ≤ (N : Int) - 32 * (k : Int) := by omega
        have HLN : Hid ((C.take (N - 32 * k)).length = N - 32 * k) := by
          show _ = _
          rw [List.length_take, HCL.out]
          omega
        have HSRC : Hid (SrcIs w5 (.slice (some ⟨b, 0, none⟩) (N - 32 * k) 32) (C.take (N - 32 * k))) := .inr ⟨⟨b, 0, none⟩, 32, by rw [HLN.out], fun j u hu => by
          rw [Addr.add_mid]
          refine rangeAt_of_row HR5.out j u ?_
          rw [ints, List.map_take, List.getElem?_take] at hu
          split at hu
          · exact hu
          · cases hu⟩
        go_wp2_with (first | with_reducible (refine stop_builtin .append ?_))
        refine Stop.go ?_
        with_reducible refine law_append w.heap.size (.slice qo (32 * k) co) (32 * k) (ints .u8 (Mk.row key info k)) (.slice (some ⟨b, 0, none⟩) (N - 32 * k) 32) (C.take (N - 32 * k)) ?svB ?xvB HO5.out HSRC.out (by rw [HLN.out]; omega) HB5.out.size ?kB
        case svB => exact rfl
        case xvB => exact rfl
        intro v6 w6 ho6 hg6
        rw [← ints_append, HLN.out] at ho6
        have HO6 : Hid (w6.ownsRow w.heap.size 5 1 v6 (min (32 * (k + 1)) N) (ints .u8 ((Mk.row key info (k + 1)).take N))) := by
          rw [HNX.out, show min (32 * (k + 1)) N = 32 * k + (N - 32 * k) by omega]
          exact ho6
        have HR6 : Hid (BytesAt w6 (.slice (some ⟨b, 0, none⟩) 32 32) (Mk.bl key info (k + 1))) := by
          rw [hC]
          refine code_bytes HSM.out HCL.out ?_
          rw [hg6.block b (Array.getElem?_eq_some_iff.1 HR5.out).1 (fun e => HNE.out b e.symm rfl)]
          exact HR5.out
        have HB6 : Hid (Below w.heap.size w w6) := below_grown' HB5.out hg6 HO5.out HB5.out.size (Nat.le_refl _)
        clear ho6 hg6 HO5 HR5 HB5 HNE HSRC HLN HNX HSM HCL HB
        go_wp2_with fail
        go_roundw
        case rel => exact ⟨k + 1, by omega, by go_num, HO6, HR6, HB6⟩
        case measure => simp [intOf]; omega
    · have hmin : min (32 * k) N = N := by omega
      rw [hmin] at HO
      obtain rfl : k = K := by omega
      obtain ⟨qo, co, rfl⟩ := own_slice HO.out
      have HO2 : Hid (wr.ownsRow w.heap.size 5 1 (.slice qo N co) N (ints .u8 (Mk.spread key info N))) := by
        have h := HO.out
        rw [hKd] at h
        exact h
      clear HO HBl
      go_wp2_with fail
      go_ret2
      exact ⟨_, rfl, HO2.out, HB.out⟩
end Go.Proofs.YtnbdadhdpplldabDoor
