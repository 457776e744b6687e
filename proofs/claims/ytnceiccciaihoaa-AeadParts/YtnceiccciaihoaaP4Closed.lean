/- The contract of closed. -/
import Derived.Test.YtnceiccciaihoaaP4Parts
namespace Go.Proofs.Ytnceiccciaihoaa.P4
open Go.RowKit
def zeros17 : Array Value := arr .u8 (List.replicate 17 0)
theorem zeros17_eq : #[Value.int IntKind.u8 0, Value.int IntKind.u8 0, Value.int IntKind.u8 0, Value.int IntKind.u8 0, Value.int IntKind.u8 0, Value.int IntKind.u8 0, Value.int IntKind.u8 0, Value.int IntKind.u8 0, Value.int IntKind.u8 0, Value.int IntKind.u8 0, Value.int IntKind.u8 0, Value.int IntKind.u8 0, Value.int IntKind.u8 0, Value.int IntKind.u8 0, Value.int IntKind.u8 0, Value.int IntKind.u8 0, Value.int IntKind.u8 0] = zeros17 := rfl
def cloW (w : World) : World := (w.alloc (Obj.cells zeros5 51)).alloc (Obj.cells zeros17 65)
theorem cloW_0 (w : World) : WAt (cloW w) w.heap.size (List.replicate 5 0) := by
  show ((w.heap.push _).push _)[_]? = _
  rw [Array.getElem?_push_lt (by simp), Array.getElem_push_eq]
  rfl
theorem cloW_1 (w : World) : RAt 65 (cloW w) (w.heap.size + 1) (List.replicate 17 0) := by
  show ((w.heap.push _).push _)[_]? = _
  rw [Array.getElem?_push, if_pos (by simp)]
  rfl
theorem cloW_below (w : World) : Below w.heap.size w (cloW w) := ((Below.refl _ _).alloc (Nat.le_refl _) _).alloc (by simp) _
theorem pos_zeros (b : Nat) : ∀ n, Po.pos b (List.replicate n 0) = 0
  | 0 => rfl
  | n + 1 => by rw [List.replicate_succ, Po.pos, pos_zeros b n]; simp
theorem pos_pad (b : Nat) (l : List Nat) (x n : Nat) : Po.pos b (l ++ x :: List.replicate n 0) = Po.pos b (l ++ [x]) := by
  rw [Po.pos_append, Po.pos_append, Po.pos, pos_zeros]
  simp [Po.pos]
theorem closed_lt {l : List Nat} (hb : ∀ x ∈ l, x < 256) (hl : l.length ≤ 16) : Po.pos 256 (l ++ [1]) < Po.B ^ 5 := by
  have h1 := Po.pos_lt (b := 256) (by decide) hb
  have h2 : 256 ^ l.length ≤ 256 ^ 16 := Nat.pow_le_pow_right (by decide) hl
  have h3 : 2 * 256 ^ 16 < Po.B ^ 5 := by decide
  rw [Po.pos_snoc, Nat.mul_one]
  omega
theorem clo_splice (l : List Nat) (m : Nat) (h : l.length = m) (hm : m ≤ 16) : splice (ints .u8 (List.replicate 17 0)) 0 (ints .u8 l) = ints .u8 (l ++ 0 :: List.replicate (16 - m) 0) := by
  subst h
  have e : List.drop l.length (List.replicate 17 (Value.int .u8 ((0 : Nat) : Int))) = List.replicate (16 - l.length + 1) (Value.int .u8 ((0 : Nat) : Int)) := by
    rw [List.drop_replicate]
    congr 1
    omega
  unfold splice
  rw [ints_append]
  simp only [ints, List.map_replicate, List.length_map, List.take_zero, List.nil_append, Nat.zero_add, ← List.replicate_succ]
  rw [e]
set_option maxHeartbeats 1000000 in
theorem closed_any (l : List Nat) (m b o c : Nat) (w : World) (hl : l.length = m) (hm : m ≤ 16) (hb : ∀ x ∈ l, x < 256) (hr : w.rangeAt b o (ints .u8 l)) :
    Calls Try.prog 26 #[.slice (some ⟨b, o, none⟩) m c] w fun e w' => ∃ d, e = .returned (.agg (arr .u64 d)) ∧ Wide d ∧ Po.pos Po.B d = Po.pos 256 (l ++ [1]) ∧ Below w.heap.size w w' := by
  have HL : Hid (l.length = m) := hl
  have HB : Hid (∀ x ∈ l, x < 256) := hb
  have HR : Hid (w.rangeAt b o (ints .u8 l)) := hr
  have HV : Hid (Po.pos 256 (l ++ 1 :: List.replicate (16 - m) 0) = Po.pos 256 (l ++ [1]) ∧ Po.pos 256 (l ++ [1]) < Po.B ^ 5) := ⟨pos_pad _ _ _ _, closed_lt hb (by omega)⟩
  clear hl hb hr
  generalize Po.pos 256 (l ++ [1]) = V at *
  go_enter Try.func26, Try.ntmps26
  go_wp2_with (first | with_reducible (refine stop_builtin .copy ?_))
  refine Stop.go ?_
  rw [zeros5_eq, zeros17_eq, show ((w.alloc (Obj.cells zeros5 51)).alloc (Obj.cells zeros17 65)) = cloW w from rfl]
  have H0 : Hid (WAt (cloW w) w.heap.size (List.replicate 5 0)) := cloW_0 w
  have H1 : Hid (RAt 65 (cloW w) (w.heap.size + 1) (List.replicate 17 0)) := cloW_1 w
  have HW : Hid (Below w.heap.size w (cloW w)) := cloW_below w
  generalize cloW w = W at *
  have hs0 : W.heap[w.heap.size + 1]? = some (.cells (ints .u8 (List.replicate 17 0)).toArray 65 (0, 0)) := H1.out
  have hsrc : 0 < (ints .u8 l).length → some (⟨w.heap.size + 1, 0, none⟩ : Addr) = some ⟨w.heap.size + 1, 0, none⟩ ∧ ∃ ad : Addr, ((some ⟨b, o, none⟩) : Option Addr) = some ad ∧ ∀ (j : Nat) (v : Value), (ints .u8 l)[j]? = some v → W.cell? (ad.add j) = some v := fun _ =>
    ⟨rfl, ⟨b, o, none⟩, rfl, fun j v hv => by rw [Addr.add_mid]; exact rangeAt_below HW.out HR.out j v hv⟩
  with_reducible refine wpList_copy_splice rfl (.tmp 4) (.tmp 5) 22 22 rfl 5 Try.underlying22 info5 (some ⟨w.heap.size + 1, 0, none⟩) (some ⟨b, o, none⟩) 17 17 m c ?cd ?cs (w.heap.size + 1) 0 (ints .u8 (List.replicate 17 0)) 65 hs0 (ints .u8 l) ?cn hsrc ?cf ?c1 (w.heap.size + 1) W (Below.refl _ _) (Nat.le_refl _) ?ck
  case cd => exact rfl
  case cs => exact rfl
  case cn => rw [ints_length, HL.out]; exact (Nat.min_eq_left (by omega)).symm
  case cf => rw [ints_length, ints_length, HL.out, List.length_replicate]; omega
  case c1 => exact fun v hv => by obtain ⟨q, _, rfl⟩ := List.mem_map.1 hv; rfl
  intro w2 hk2 hb2
  have h2 : RAt 65 w2 (w.heap.size + 1) (l ++ 0 :: List.replicate (16 - m) 0) := by
    show _ = _
    rw [hk2.out, clo_splice l m HL.out hm]
    rfl
  have HZ2 : Hid (WAt w2 w.heap.size (List.replicate 5 0)) := H0.out.below hb2 (by omega)
  have HB2 : Hid (Below w.heap.size w w2) := HW.out.trans (hb2.mono (by omega))
  clear hk2 hb2 hsrc hs0 H0 H1 HW HR
  rw [show goInt (ints .u8 l).length = .int .i64 m from by rw [ints_length, HL.out]; rfl]
  have cm := h2.cell m (by simp [HL.out])
  have fm := h2.may m
  have h3 := h2.set m 1
  rw [set_snoc _ _ _ _ m HL.out] at h3
  have H3 : Hid (RAt 65 (w2.setCell ⟨w.heap.size + 1, m, none⟩ (.int .u8 ((1 : Nat) : Int))) (w.heap.size + 1) (l ++ 1 :: List.replicate (16 - m) 0)) := h3
  have hg : w2.grownBy (w2.setCell ⟨w.heap.size + 1, m, none⟩ (.int .u8 ((1 : Nat) : Int))) (some (w.heap.size + 1)) := grownBy_set (grownBy_refl _ _) _ _
  have HZ3 : Hid (WAt (w2.setCell ⟨w.heap.size + 1, m, none⟩ (.int .u8 ((1 : Nat) : Int))) w.heap.size (List.replicate 5 0)) := HZ2.out.grown hg (by omega)
  have HB3 : Hid (Below w.heap.size w (w2.setCell ⟨w.heap.size + 1, m, none⟩ (.int .u8 ((1 : Nat) : Int)))) := below_grown HB2.out hg (by omega)
  clear h2 h3 hg HZ2 HB2
  have HCB : Hid (∀ x ∈ l ++ 1 :: List.replicate (16 - m) 0, x < 256) := fun x hx => by
    rcases List.mem_append.1 hx with h | h
    · exact HB.out x h
    · rcases List.mem_cons.1 h with rfl | h
      · decide
      · rw [List.eq_of_mem_replicate h]; decide
  have HCL : Hid ((l ++ 1 :: List.replicate (16 - m) 0).length = 17) := by
    show _ = _
    simp [HL.out]
    omega
  generalize l ++ 1 :: List.replicate (16 - m) 0 = CL at *
  rw [show (((1 : Nat) : Int)) = 1 from rfl] at H3 HZ3 HB3
  generalize Sp.nth (l ++ 0 :: List.replicate (16 - m) 0) m = old at *
  have m0 : (0 : Int) ≤ (m : Int) := by omega
  have m1 : (m : Int) < 17 := by omega
  go_wp2_with fail
  generalize w2.setCell ⟨w.heap.size + 1, m, none⟩ (.int .u8 1) = W3 at *
  have hlt4 : w.heap.size < W3.heap.size := HZ3.out.lt
  refine (number_any CL 17 (w.heap.size + 1) 0 17 W3 HCL.out (by omega) (by omega) HCB.out (by rw [HV.out.1]; exact HV.out.2) (rangeAt_of_row H3.out)).mono ?_
  rintro e w5 ⟨d, rfl, hwd, hpd, hb5⟩
  have HD : Hid (Wide d) := hwd
  have HDL : Hid (d.length = 5) := hwd.1
  have HPD : Hid (Po.pos Po.B d = V) := hpd.trans HV.out.1
  have HZ5 : Hid (WAt w5 w.heap.size (List.replicate 5 0)) := HZ3.out.below hb5 hlt4
  have HB5 : Hid (Below w.heap.size w w5) := HB3.out.trans (hb5.mono (by omega))
  clear hwd hpd hb5 HZ3 HB3 H3 HV HCB HCL cm fm
  go_wp2_with (first | with_reducible (refine stop_store 51 ?_))
  refine Stop.go ?_
  with_reducible refine law_store w.heap.size 0 (arr .u64 d) ?tx ?ty ?tt ?ti (ints_one _ _) ?tk
  case tx => exact rfl
  case ty => exact rfl
  case tt => rw [arr_size, HDL.out]; exact there_of_row HZ5.out 5 (by simp [arr_size])
  case ti => rw [arr_size, HDL.out]; exact info38
  go_wp2_with fail
  refine bodyPost_ret (v := .agg (arr .u64 d)) (results_row rfl _ _ w.heap.size 0 (ints .u64 d) _ rfl ?_ under38 rfl ?_) rfl ⟨d, rfl, HD.out, HPD.out, ?_⟩
  · exact World.rangeAt_setCells_same _ _ _ _ (by rw [arr_list, ints_length, HDL.out]; exact there_of_row HZ5.out 5 (by simp [arr_size]))
  · rw [ints_length, HDL.out]; exact info38
  · exact Below.setCells _ _ _ HB5.out (Nat.le_refl _)
end Go.Proofs.Ytnceiccciaihoaa.P4
