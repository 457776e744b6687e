/- The document's answer: number. -/
import Derived.Test.YtnceiccciaihoaaP4RHigh
namespace Go.Proofs.Ytnceiccciaihoaa.P4
open Go.RowKit
set_option maxHeartbeats 1000000 in
theorem rnumber_any (l : List Nat) (p : Option Addr) (n c : Nat) (w : World) (hT : TextIs w p l) (hl : l.length = n) (hn : n ≤ 1000) :
    Calls Try.prog 45 #[.slice p n c] w fun e w' => ∃ v, e = .returned v ∧ w'.ownsRow w.heap.size 3 1 v n (ints .i64 l) ∧ Below w.heap.size w w' := by
  have HT : Hid (TextIs w p l) := hT
  have HL : Hid (l.length = n) := hl
  clear hT hl
  go_enter Try.func45, Try.ntmps45
  go_wp2_with fail
  go_loopw [3, 4] (fun sl u wr => ∃ i : Nat, i ≤ n ∧ u = .int .i64 i ∧ Hid (wr.ownsRow w.heap.size 3 1 sl i (ints .i64 (l.take i))) ∧ Hid (Below w.heap.size w wr)) (fun _ u _ => n - (intOf u).toNat)
  case atStart => exact ⟨0, by omega, rfl, own_none _ _ _ _, Below.refl _ _⟩
  case round =>
    obtain ⟨i, hi, rfl, HO, HW⟩ := hrel
    obtain ⟨q, cq, rfl⟩ := own_slice HO.out
    have hbn := HW.out.size
    by_cases hlt : i < n
    · obtain ⟨b, o, rfl, hr⟩ := HT.out.2 (by intro e; have := HL.out; rw [e] at this; simp at this; omega)
      have c1 := range_cell (rangeAt_below HW.out hr) i (by rw [HL.out]; exact hlt)
      have x1 : Sp.nth l i < 256 := Sp.nth_lt (by decide) HT.out.1 i
      have HTS : Hid (l.take (i + 1) = l.take i ++ [Sp.nth l i]) := Po.take_succ_nth (by rw [HL.out]; exact hlt)
      have g1 : (i : Int) < (n : Int) := by omega
      have i0 : (0 : Int) ≤ (i : Int) := by omega
      clear hr
      generalize Sp.nth l i = y at *
      go_wp2_with (first | with_reducible (refine stop_builtin .append ?_))
      refine Stop.go ?_
      have HO2 : Hid ((wr.alloc (Obj.cells #[.int .i64 (y : Int)] 3)).ownsRow w.heap.size 3 1 (.slice q i cq) i (ints .i64 (l.take i))) := ownsRow_alloc HO.out _
      have HW2 : Hid (Below w.heap.size w (wr.alloc (Obj.cells #[.int .i64 (y : Int)] 3))) := HW.out.alloc hbn _
      refine law_append_ints w.heap.size (.slice q i cq) i (l.take i) wr.heap.size 1 1 [y] rfl rfl rfl HO2.out (rangeAt_of_row (heap_alloc_new wr _)) (by omega) (by simp; omega) ?_
      intro v' w' hown' hg'
      have HO3 : Hid (w'.ownsRow w.heap.size 3 1 v' (i + 1) (ints .i64 (l.take (i + 1)))) := by
        rw [HTS.out]
        exact hown'
      have HW3 : Hid (Below w.heap.size w w') := below_grown' HW2.out hg' HO2.out (by simp; omega) (Nat.le_refl _)
      clear hown' hg' HO HW HO2 HW2 HTS
      go_wp2_with fail
      go_roundw
      case rel =>
        first
          | exact ⟨i + 1, by omega, by go_num, HO3.out, HW3.out⟩
          | ((repeat apply Exists.intro)
             refine ⟨⟨i + 1, by omega, ?_, HO3.out, HW3.out⟩, rfl⟩
             go_num)
      case measure => simp [intOf]; omega
    · obtain rfl : i = n := by omega
      have h1 := HO.out
      rw [List.take_of_length_le (by rw [HL.out]; exact Nat.le_refl _)] at h1
      have HO1 : Hid (wr.ownsRow w.heap.size 3 1 (.slice q i cq) i (ints .i64 l)) := h1
      clear h1 HO
      go_wp2_with fail
      go_ret
      exact ⟨_, rfl, HO1.out, HW.out⟩
/-- The number that a slice of ints holds. -/
def posSl (v : Value) (w : World) : Nat := match v with
  | .slice (some a) n _ => Po.pos 256 ((List.range n).map fun i => match w.cell? (a.add i) with
    | some u => (intOf u).toNat
    | none => 0)
  | _ => 0
theorem posSl_of {w : World} {v : Value} {l : List Nat} (h : NumIs w v l) : posSl v w = Po.pos 256 l := by
  obtain ⟨p, c, rfl, _, h1⟩ := h
  by_cases h0 : l = []
  · subst h0
    cases p <;> rfl
  · obtain ⟨b, o, rfl, hr⟩ := h1 h0
    show Po.pos 256 _ = _
    congr 1
    apply List.ext_getElem (by simp)
    intro i h2 h3
    have hc := range_cell hr i h3
    have e : (⟨b, o, none⟩ : Addr).add i = ⟨b, o + i, none⟩ := Addr.add_mid _ _ _
    simp only [List.getElem_map, List.getElem_range, e, hc]
    simp [intOf, Sp.nth, h3]
/-- A number without its last two bits, byte by byte. -/
def shr2 : List Nat → List Nat
  | [] => []
  | [x] => [x / 4]
  | x :: y :: l => (x / 4 + y % 4 * 64) :: shr2 (y :: l)
theorem shr2_length : ∀ l, (shr2 l).length = l.length
  | [] => rfl
  | [_] => rfl
  | x :: y :: l => by rw [shr2, List.length_cons, shr2_length (y :: l)]; rfl
theorem shr2_lt : ∀ {l : List Nat}, (∀ x ∈ l, x < 256) → ∀ x ∈ shr2 l, x < 256
  | [], _, x, h => by simp [shr2] at h
  | [y], h, x, hx => by
    have := h y (by simp)
    simp [shr2] at hx
    omega
  | y :: z :: l, h, x, hx => by
    rw [shr2] at hx
    rcases List.mem_cons.1 hx with rfl | hx
    · have := h y (by simp)
      omega
    · exact shr2_lt (fun u hu => h u (List.mem_cons_of_mem _ hu)) x hx
theorem shr2_pos : ∀ l x, 4 * Po.pos 256 (shr2 (x :: l)) + x % 4 = Po.pos 256 (x :: l)
  | [], x => by simp [shr2, Po.pos]; omega
  | y :: l, x => by
    have ih := shr2_pos l y
    rw [shr2, Po.pos, Po.pos, ← ih]
    omega
theorem shr2_nth : ∀ (l : List Nat) (i : Nat), i < l.length → Sp.nth (shr2 l) i = Sp.nth l i / 4 + Sp.nth l (i + 1) % 4 * 64
  | [], i, h => by simp at h
  | [x], 0, _ => by simp [shr2, Sp.nth]
  | [x], i + 1, h => by simp at h
  | x :: y :: l, 0, _ => by simp [shr2, Sp.nth]
  | x :: y :: l, i + 1, h => by
    have := shr2_nth (y :: l) i (by simpa using h)
    exact this
theorem split16 {a : List Nat} (hl : 16 < a.length) : Po.pos 256 a = Po.pos 256 (a.take 16 ++ [Sp.nth a 16 % 4]) + Po.B ^ 5 * Po.pos 256 (shr2 (a.drop 16)) := by
  have h1 := Po.pos_append 256 (a.drop 16) (a.take 16)
  rw [List.take_append_drop] at h1
  have hd : a.drop 16 = Sp.nth a 16 :: a.drop 17 := drop_nth hl
  have h2 := shr2_pos (a.drop 17) (Sp.nth a 16)
  rw [← hd] at h2
  have h3 : (a.take 16).length = 16 := by rw [List.length_take]; omega
  have h4 : Po.B ^ 5 = 256 ^ 16 * 4 := by decide
  rw [Po.pos_snoc, h1, h3, ← h2, h4, Nat.mul_add, Nat.mul_assoc]
  omega
end Go.Proofs.Ytnceiccciaihoaa.P4
