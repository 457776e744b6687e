/- The document's answer: times. -/
import Derived.Test.YtncnckiknhhbjaaRAdd
namespace Go.Proofs.Ytncnckiknhhbjaa
open Go.RowKit
theorem make_ints (l : Nat) (hc : l ≤ 1000000) (w : World) :
    (Instr.makeSlice 44 (.int .i64 (l : Int)) (.int .i64 (l : Int))).run Try.prog w = .ok (.slice (some ⟨w.heap.size, 0, none⟩) l l) (w.alloc (.cells (arr .i64 (List.replicate l 0)) 3)) := by
  obtain ⟨i, hi, hs, hb, hz⟩ := info3e
  have := run_make (P := Try.prog) w 44 3 i _ Try.underlying44 hi hz .i64 .i64 (l : Int) (l : Int) (by omega) (by omega) (by rw [hb]; omega) (by omega)
  rw [this, hs, ← made_zeros]
  simp [Value.cells]
/-- A row of numbers in a block of its own. -/
def RowOf (w : World) (g : Nat) (l : List Nat) : Prop := w.heap[g]? = some (.cells (arr .i64 l) 3 (0, 0))
theorem RowOf.cell {w : World} {g : Nat} {l : List Nat} (h : RowOf w g l) (i : Nat) (hi : i < l.length) : w.cell? ⟨g, i, none⟩ = some (.int .i64 (Sp.nth l i : Nat)) := by
  rw [cell_of_row _ _ _ _ _ _ h]; exact arr_get _ _ _ hi
theorem RowOf.may {w : World} {g : Nat} {l : List Nat} (h : RowOf w g l) (i : Nat) : w.frozen? ⟨g, i, none⟩ = false := frozen_of_row _ _ _ _ _ h
theorem RowOf.set {w : World} {g : Nat} {l : List Nat} (h : RowOf w g l) (i x : Nat) : RowOf (w.setCell ⟨g, i, none⟩ (.int .i64 (x : Nat))) g (l.set i x) := by
  have := heap_setCell_same w g i (arr .i64 l) 3 (.int .i64 (x : Nat)) h
  unfold RowOf
  rw [this]
  congr 2
  apply Array.ext'
  simp [arr, ints]
theorem RowOf.drewN {w : World} {g : Nat} {l : List Nat} (h : RowOf w g l) (n : Nat) : RowOf (w.drewN n) g l := h
theorem RowOf.num {w : World} {g n : Nat} {l : List Nat} (h : RowOf w g l) (hl : l.length = n) : NumIs w (.slice (some ⟨g, 0, none⟩) n n) l := ⟨_, n, by rw [hl], by omega, fun _ => ⟨g, 0, rfl, rangeAt_of_row h⟩⟩
theorem nth_set' {l : List Nat} {i j x : Nat} : Sp.nth (l.set i x) j = if i = j ∧ i < l.length then x else Sp.nth l j := by
  unfold Sp.nth
  rw [List.getD_eq_getElem?_getD, List.getD_eq_getElem?_getD, List.getElem?_set]
  by_cases h : i = j
  · subst h
    by_cases h2 : i < l.length
    · simp [h2]
    · simp [h2]
  · simp [h]
theorem set_bound {o : List Nat} {v Z D : Nat} (h : ∀ j, Sp.nth o j ≤ Z) (hv : v ≤ D) (p j : Nat) : Sp.nth (o.set p (Sp.nth o p + v)) j ≤ Z + D := by
  rw [nth_set']
  have h1 := h j
  have h2 := h p
  split <;> omega
theorem mul_part {a b o : List Nat} {i k : Nat} (hk : k < b.length) (hl : i + k < o.length)
    (h : Po.pos 256 o = Po.pos 256 (a.take i) * Po.pos 256 b + 256 ^ i * Sp.nth a i * Po.pos 256 (b.take k)) :
    Po.pos 256 (o.set (i + k) (Sp.nth o (i + k) + Sp.nth a i * Sp.nth b k)) = Po.pos 256 (a.take i) * Po.pos 256 b + 256 ^ i * Sp.nth a i * Po.pos 256 (b.take (k + 1)) := by
  rw [Po.pos_set _ _ _ _ hl, Po.pos_take _ hk, Nat.mul_add, h, ← Nat.add_assoc]
  congr 1
  rw [Nat.pow_add, Nat.mul_assoc, Nat.mul_assoc]
  congr 1
  rw [← Nat.mul_assoc, ← Nat.mul_assoc, Nat.mul_comm (256 ^ k)]
theorem set_nth {l : List Nat} {i : Nat} : l.set i (Sp.nth l i) = l := by
  apply List.ext_getElem (by simp)
  intro j h1 h2
  by_cases hj : j = i
  · subst hj; simp [Sp.nth, h2]
  · simp [Ne.symm hj]
theorem nth_set_here {l : List Nat} {i x : Nat} (h : i < l.length) : Sp.nth (l.set i x) i = x := by simp [Sp.nth, h]
theorem pos_lower {b : Nat} {l : List Nat} {i u d : Nat} (hi : i < l.length) (h : Sp.nth l i = u + d) : Po.pos b (l.set i u) + b ^ i * d = Po.pos b l := by
  have h1 := Po.pos_set b (l.set i u) i d (by simpa using hi)
  rw [nth_set_here hi, List.set_set, ← h, set_nth] at h1
  exact h1.symm
/-- One step of the carrying. -/
theorem carry_part {o : List Nat} {i : Nat} (hl : i + 1 < o.length) :
    Po.pos 256 ((o.set (i + 1) (Sp.nth o (i + 1) + Sp.nth o i / 256)).set i (Sp.nth o i % 256)) = Po.pos 256 o := by
  have h1 := Po.pos_set 256 o (i + 1) (Sp.nth o i / 256) hl
  have h2 := pos_lower (b := 256) (l := o.set (i + 1) (Sp.nth o (i + 1) + Sp.nth o i / 256)) (i := i) (u := Sp.nth o i % 256) (d := 256 * (Sp.nth o i / 256)) (by simp; omega) (by
    rw [nth_set', if_neg (by omega)]
    have := Nat.mod_add_div (Sp.nth o i) 256
    omega)
  rw [h1, Nat.pow_succ, Nat.mul_assoc] at h2
  omega
structure Carrying (o : List Nat) (V N i : Nat) : Prop where
  len : o.length = N
  val : Po.pos 256 o = V
  done : ∀ j, j < i → Sp.nth o j < 256
  here : Sp.nth o i ≤ 14000000000
  more : ∀ j, i < j → Sp.nth o j ≤ 6600000000
theorem Carrying.step {o : List Nat} {V N i : Nat} (c : Carrying o V N i) (h : i + 1 < N) : Carrying ((o.set (i + 1) (Sp.nth o (i + 1) + Sp.nth o i / 256)).set i (Sp.nth o i % 256)) V N (i + 1) where
  len := by rw [List.length_set, List.length_set]; exact c.len
  val := by rw [carry_part (by rw [c.len]; exact h)]; exact c.val
  done := fun j hj => by
    rw [nth_set']
    split
    · exact Nat.mod_lt _ (by decide)
    · rw [nth_set', if_neg (by omega)]
      have : j ≠ i := fun e => by subst e; simp [c.len] at *; omega
      exact c.done j (by omega)
  here := by
    rw [nth_set', if_neg (by omega), nth_set', if_pos ⟨rfl, by rw [c.len]; exact h⟩]
    have := c.here
    have := c.more (i + 1) (by omega)
    omega
  more := fun j hj => by
    rw [nth_set', if_neg (by omega), nth_set', if_neg (by omega)]
    exact c.more j (by omega)
theorem nth_last {b : Nat} : ∀ {l : List Nat} {n : Nat}, n < l.length → b ^ n * Sp.nth l n ≤ Po.pos b l
  | [], n, h => by simp at h
  | x :: l, 0, _ => by simp [Po.pos, Sp.nth]
  | x :: l, n + 1, h => by
    have := nth_last (b := b) (l := l) (n := n) (by simpa using h)
    rw [Po.pos, Nat.pow_succ, show Sp.nth (x :: l) (n + 1) = Sp.nth l n from rfl, Nat.mul_comm (b ^ n) b, Nat.mul_assoc]
    have : b * (b ^ n * Sp.nth l n) ≤ b * Po.pos b l := Nat.mul_le_mul_left _ this
    omega
theorem Carrying.all {o : List Nat} {V n : Nat} (c : Carrying o V (n + 1) n) (hV : V < 256 ^ n) : ∀ x ∈ o, x < 256 := fun x hx => by
  obtain ⟨j, hj, rfl⟩ := List.getElem_of_mem hx
  have e : o[j] = Sp.nth o j := by simp [Sp.nth, hj]
  rw [e]
  rw [c.len] at hj
  by_cases h : j < n
  · exact c.done j h
  · obtain rfl : j = n := by omega
    have h1 := nth_last (b := 256) (l := o) (n := j) (by rw [c.len]; omega)
    rw [c.val] at h1
    rcases Nat.eq_zero_or_pos (Sp.nth o j) with h2 | h2
    · omega
    · have : 256 ^ j * 1 ≤ 256 ^ j * Sp.nth o j := Nat.mul_le_mul_left _ h2
      omega
theorem mul_bytes {x y : Nat} (hx : x < 256) (hy : y < 256) : x * y ≤ 65025 := by
  have := Nat.mul_le_mul (Nat.le_of_lt_succ hx) (Nat.le_of_lt_succ hy)
  omega
set_option maxHeartbeats 1000000 in
theorem rtimes_any (a b : List Nat) (va vb : Value) (w : World) (hva : NumIs w va a) (hvb : NumIs w vb b) (ha : ∀ x ∈ a, x < 256) (hb : ∀ x ∈ b, x < 256) (hal : a.length ≤ 1000) (hbl : b.length ≤ 100) :
    Calls Try.prog 22 #[va, vb] w fun e w' => ∃ v out, e = .returned v ∧ NumIs w' v out ∧ out.length = a.length + b.length + 1 ∧ (∀ x ∈ out, x < 256) ∧ Po.pos 256 out = Po.pos 256 a * Po.pos 256 b ∧ Below w.heap.size w w' := by
  have HV : Hid (Po.pos 256 a * Po.pos 256 b < 256 ^ (a.length + b.length)) := by
    have h1 := Po.pos_lt (b := 256) (by decide) ha
    have h2 := Po.pos_lt (b := 256) (by decide) hb
    show _ < _
    rw [Nat.pow_add]
    exact Nat.mul_lt_mul'' h1 h2
  obtain ⟨pa, ca, rfl, hca, hra⟩ := hva
  obtain ⟨pb, cb, rfl, hcb, hrb⟩ := hvb
  have HRA : Hid (a ≠ [] → ∃ b o, pa = some ⟨b, o, none⟩ ∧ w.rangeAt b o (ints .i64 a)) := hra
  have HRB : Hid (b ≠ [] → ∃ b' o, pb = some ⟨b', o, none⟩ ∧ w.rangeAt b' o (ints .i64 b)) := hrb
  have HA : Hid (∀ x ∈ a, x < 256) := ha
  have HB : Hid (∀ x ∈ b, x < 256) := hb
  obtain ⟨la, hla⟩ : ∃ la, a.length = la := ⟨_, rfl⟩
  obtain ⟨lb, hlb⟩ : ∃ lb, b.length = lb := ⟨_, rfl⟩
  have HLA : Hid (a.length = la) := hla
  have HLB : Hid (b.length = lb) := hlb
  rw [hla] at hal hca HV ⊢
  rw [hlb] at hbl hcb HV ⊢
  clear hra hrb ha hb hla hlb
  obtain ⟨V, hV⟩ : ∃ V, Po.pos 256 a * Po.pos 256 b = V := ⟨_, rfl⟩
  rw [hV] at HV ⊢
  have HVE : Hid (Po.pos 256 a * Po.pos 256 b = V) := hV
  clear hV
  have hmk : ∀ w, (Instr.makeSlice 44 (.int .i64 ((la : Int) + (lb : Int) + 1)) (.int .i64 ((la : Int) + (lb : Int) + 1))).run Try.prog w = .ok (.slice (some ⟨w.heap.size, 0, none⟩) (la + lb + 1) (la + lb + 1)) (w.alloc (.cells (arr .i64 (List.replicate (la + lb + 1) 0)) 3)) := fun w => by
    have := make_ints (la + lb + 1) (by omega) w
    rw [show ((la + lb + 1 : Nat) : Int) = (la : Int) + (lb : Int) + 1 from by omega] at this
    exact this
  go_enter Try.func22, Try.ntmps22
  go_wp2_with fail
  have H0 : Hid (RowOf (w.alloc (.cells (arr .i64 (List.replicate (la + lb + 1) 0)) 3)) w.heap.size (List.replicate (la + lb + 1) 0)) := heap_alloc_new w _
  have HW0 : Hid (Below w.heap.size w (w.alloc (.cells (arr .i64 (List.replicate (la + lb + 1) 0)) 3))) := (Below.refl _ _).alloc (Nat.le_refl _) _
  clear hmk
  generalize w.alloc (.cells (arr .i64 (List.replicate (la + lb + 1) 0)) 3) = W at *
  obtain ⟨N, hN⟩ : ∃ N, la + lb + 1 = N := ⟨_, rfl⟩
  rw [hN] at H0 ⊢
  have HN : Hid (la + lb + 1 = N) := hN
  have hN2 : N ≤ 1101 := by omega
  have hN3 : la + lb < N := by omega
  clear hN
  go_loopw [6] (fun u wr => ∃ (i : Nat) (o : List Nat), i ≤ la ∧ u = .int .i64 i ∧ Hid (RowOf wr w.heap.size o) ∧ Hid (Below w.heap.size w wr) ∧ Hid (o.length = N) ∧ Hid (∀ j, Sp.nth o j ≤ 100 * i * 65025) ∧ Hid (Po.pos 256 o = Po.pos 256 (a.take i) * Po.pos 256 b)) (fun u _ => la - (intOf u).toNat)
  case atStart =>
    refine ⟨0, _, by omega, rfl, H0.out, HW0.out, by show _ = _; simp, fun j => ?_, by show _ = _; rw [pos_nought]; simp [Po.pos]⟩
    have : Sp.nth (List.replicate N 0) j < 1 := Sp.nth_lt (by decide) (fun x hx => by rw [List.eq_of_mem_replicate hx]; decide) j
    omega
  case round =>
    clear H0 HW0
    obtain ⟨i, o, hi, rfl, HO, HW, HOL, HM, HP⟩ := hrel
    by_cases hlt : i < la
    · have i0 : (0 : Int) ≤ (i : Int) := by omega
      have i1 : (i : Int) < (la : Int) := by omega
      obtain ⟨ba, oa, rfl, hr1⟩ := HRA.out (by intro e; have := HLA.out; rw [e] at this; simp at this; omega)
      have HR1 : Hid (w.rangeAt ba oa (ints .i64 a)) := hr1
      clear hr1
      go_wp2_with fail
      go_loopw [7] (fun u wr => ∃ (k : Nat) (o : List Nat), k ≤ lb ∧ u = .int .i64 k ∧ Hid (RowOf wr w.heap.size o) ∧ Hid (Below w.heap.size w wr) ∧ Hid (o.length = N) ∧ Hid (∀ j, Sp.nth o j ≤ (100 * i + k) * 65025) ∧ Hid (Po.pos 256 o = Po.pos 256 (a.take i) * Po.pos 256 b + 256 ^ i * Sp.nth a i * Po.pos 256 (b.take k))) (fun u _ => lb - (intOf u).toNat)
      case atStart => exact ⟨0, o, by omega, rfl, HO.out, HW.out, HOL.out, HM.out, by show _ = _; rw [HP.out]; simp [Po.pos]⟩
      case round =>
        clear HO HW HOL HM HP
        obtain ⟨k, o, hk, rfl, HO, HW, HOL, HM, HP⟩ := hrel
        by_cases hkl : k < lb
        · obtain ⟨bb, ob, rfl, hr2⟩ := HRB.out (by intro e; have := HLB.out; rw [e] at this; simp at this; omega)
          have c1 := range_cell (rangeAt_below HW.out HR1.out) i (by rw [HLA.out]; exact hlt)
          have c2 := range_cell (rangeAt_below HW.out hr2) k (by rw [HLB.out]; exact hkl)
          have co := HO.out.cell (i + k) (by rw [HOL.out]; omega)
          have cf := HO.out.may (i + k)
          have x1 : Sp.nth a i < 256 := Sp.nth_lt (by decide) HA.out i
          have x2 : Sp.nth b k < 256 := Sp.nth_lt (by decide) HB.out k
          have hv := mul_bytes x1 x2
          have bz := HM.out (i + k)
          have HO2 : Hid (RowOf ((wr.setCell ⟨w.heap.size, i + k, none⟩ (.int .i64 ((Sp.nth o (i + k) + Sp.nth a i * Sp.nth b k : Nat) : Int))).drew) w.heap.size (o.set (i + k) (Sp.nth o (i + k) + Sp.nth a i * Sp.nth b k))) := HO.out.set _ _
          have HW2 : Hid (Below w.heap.size w ((wr.setCell ⟨w.heap.size, i + k, none⟩ (.int .i64 ((Sp.nth o (i + k) + Sp.nth a i * Sp.nth b k : Nat) : Int))).drew)) := below_drewN (HW.out.setCell (Nat.le_refl _) _) 1
          have HOL2 : Hid ((o.set (i + k) (Sp.nth o (i + k) + Sp.nth a i * Sp.nth b k)).length = N) := by show _ = _; rw [List.length_set]; exact HOL.out
          have HM2 : Hid (∀ j, Sp.nth (o.set (i + k) (Sp.nth o (i + k) + Sp.nth a i * Sp.nth b k)) j ≤ (100 * i + (k + 1)) * 65025) := fun j => Nat.le_trans (set_bound HM.out hv (i + k) j) (Nat.le_of_eq (Nat.succ_mul (100 * i + k) 65025).symm)
          have HP2 : Hid (Po.pos 256 (o.set (i + k) (Sp.nth o (i + k) + Sp.nth a i * Sp.nth b k)) = Po.pos 256 (a.take i) * Po.pos 256 b + 256 ^ i * Sp.nth a i * Po.pos 256 (b.take (k + 1))) := mul_part (by rw [HLB.out]; exact hkl) (by rw [HOL.out]; omega) HP.out
          have e1 : ((Sp.nth a i : Nat) : Int) * ((Sp.nth b k : Nat) : Int) = ((Sp.nth a i * Sp.nth b k : Nat) : Int) := by simp
          clear hr2 HO HW HOL HM HP
          generalize o.set (i + k) (Sp.nth o (i + k) + Sp.nth a i * Sp.nth b k) = o2 at *
          generalize Sp.nth a i * Sp.nth b k = v at *
          generalize Sp.nth o (i + k) = old at *
          generalize hy : Sp.nth a i = y at c1 x1 e1 ⊢
          have HY : Hid (Sp.nth a i = y) := hy
          clear hy
          generalize Sp.nth b k = z at c2 x2 e1
          have e2 : ((old + v : Nat) : Int) = (old : Int) + (v : Int) := by omega
          rw [e2] at HO2 HW2
          have k0 : (0 : Int) ≤ (k : Int) := by omega
          have k1 : (k : Int) < (lb : Int) := by omega
          have q0 : (0 : Int) ≤ (i : Int) + (k : Int) := by omega
          have q1 : (i : Int) + (k : Int) < (N : Int) := by omega
          have q2 : ((i : Int) + (k : Int)).toNat = i + k := by omega
          have ob1 : (old : Int) ≤ 6600000000 := by omega
          have vb1 : (v : Int) ≤ 65025 := by omega
          go_wp2_with fail
          go_region
          go_wp2_with fail
          go_roundw
          case rel => exact ⟨k + 1, o2, by omega, by go_num, HO2.out, HW2.out, HOL2.out, HM2.out, by show _ = _; rw [← HY.out]; exact HP2.out⟩
          case measure => simp [intOf]; omega
        · obtain rfl : k = lb := by omega
          have HP6 : Hid (Po.pos 256 o = Po.pos 256 (a.take (i + 1)) * Po.pos 256 b) := by
            show _ = _
            rw [HP.out, List.take_of_length_le (l := b) (by rw [HLB.out]; exact Nat.le_refl _), Po.pos_take _ (by rw [HLA.out]; exact hlt), Nat.add_mul]
          have HM6 : Hid (∀ j, Sp.nth o j ≤ 100 * (i + 1) * 65025) := fun j => Nat.le_trans (HM.out j) (Nat.mul_le_mul_right _ (by omega))
          clear HP HM
          go_wp2_with fail
          go_roundw
          case rel => exact ⟨i + 1, o, by omega, by go_num, HO.out, HW.out, HOL.out, HM6.out, HP6.out⟩
          case measure => simp [intOf]; omega
    · obtain rfl : i = la := by omega
      have hp := HP.out
      rw [List.take_of_length_le (by rw [HLA.out]; exact Nat.le_refl _), HVE.out] at hp
      have HC : Hid (Carrying o V N 0) := ⟨HOL.out, hp, fun j hj => by omega, by have := HM.out 0; omega, fun j _ => by have := HM.out j; omega⟩
      clear hp HP HM HOL HRA HRB
      generalize hwr : wr = w3 at *
      clear hwr
      go_wp2_with fail
      go_loopw [8] (fun u wr => ∃ (j : Nat) (o : List Nat), j + 1 ≤ N ∧ u = .int .i64 j ∧ Hid (RowOf wr w.heap.size o) ∧ Hid (Below w.heap.size w wr) ∧ Hid (Carrying o V N j)) (fun u _ => N - (intOf u).toNat)
      case atStart => exact ⟨0, o, by omega, rfl, HO.out, HW.out, HC.out⟩
      case round =>
        clear HO HW HC
        obtain ⟨j, o, hj, rfl, HO, HW, HC⟩ := hrel
        by_cases hjl : j + 1 < N
        · have hlen := HC.out.len
          have cj := HO.out.cell j (by omega)
          have cj1 := HO.out.cell (j + 1) (by omega)
          have fj1 := HO.out.may (j + 1)
          have b1 := HC.out.here
          have b2 := HC.out.more (j + 1) (by omega)
          have HCN : Hid (Carrying ((o.set (j + 1) (Sp.nth o (j + 1) + Sp.nth o j / 256)).set j (Sp.nth o j % 256)) V N (j + 1)) := HC.out.step hjl
          have HO1 : Hid (RowOf ((wr.setCell ⟨w.heap.size, j + 1, none⟩ (.int .i64 ((Sp.nth o (j + 1) + Sp.nth o j / 256 : Nat) : Int))).drew) w.heap.size (o.set (j + 1) (Sp.nth o (j + 1) + Sp.nth o j / 256))) := HO.out.set _ _
          have HW1 : Hid (Below w.heap.size w ((wr.setCell ⟨w.heap.size, j + 1, none⟩ (.int .i64 ((Sp.nth o (j + 1) + Sp.nth o j / 256 : Nat) : Int))).drew)) := below_drewN (HW.out.setCell (Nat.le_refl _) _) 1
          have cj' := HO1.out.cell j (by simp; omega)
          rw [nth_set', if_neg (by omega)] at cj'
          have fj := HO1.out.may j
          have HO2 : Hid (RowOf (((wr.setCell ⟨w.heap.size, j + 1, none⟩ (.int .i64 ((Sp.nth o (j + 1) + Sp.nth o j / 256 : Nat) : Int))).drew).setCell ⟨w.heap.size, j, none⟩ (.int .i64 ((Sp.nth o j % 256 : Nat) : Int))) w.heap.size ((o.set (j + 1) (Sp.nth o (j + 1) + Sp.nth o j / 256)).set j (Sp.nth o j % 256))) := HO1.out.set _ _
          have HW2 : Hid (Below w.heap.size w (((wr.setCell ⟨w.heap.size, j + 1, none⟩ (.int .i64 ((Sp.nth o (j + 1) + Sp.nth o j / 256 : Nat) : Int))).drew).setCell ⟨w.heap.size, j, none⟩ (.int .i64 ((Sp.nth o j % 256 : Nat) : Int)))) := HW1.out.setCell (Nat.le_refl _) _
          clear HO HW HC hlen HO1 HW1
          generalize (o.set (j + 1) (Sp.nth o (j + 1) + Sp.nth o j / 256)).set j (Sp.nth o j % 256) = o2 at *
          generalize Sp.nth o (j + 1) = y at *
          generalize Sp.nth o j = x at *
          have d1 : (x : Int).tdiv 256 = ((x / 256 : Nat) : Int) := by rw [Int.tdiv_eq_ediv_of_nonneg (by omega)]; omega
          have m1 : (x : Int).tmod 256 = ((x % 256 : Nat) : Int) := by rw [Int.tmod_eq_emod_of_nonneg (by omega)]; omega
          have e2 : ((y + x / 256 : Nat) : Int) = (y : Int) + ((x / 256 : Nat) : Int) := by omega
          rw [e2] at HO2 HW2 cj' fj
          have j0 : (0 : Int) ≤ (j : Int) := by omega
          have j1 : (j : Int) + 1 < (N : Int) := by omega
          have j2 : (j : Int) < (N : Int) := by omega
          have xq : ((x / 256 : Nat) : Int) ≤ 100000000 := by omega
          have xq0 : (0 : Int) ≤ ((x / 256 : Nat) : Int) := by omega
          have j3 : ((j : Int) + 1).toNat = j + 1 := by omega
          generalize x / 256 = xd at *
          generalize x % 256 = xm at *
          go_wp2_with fail
          go_region
          generalize (wr.setCell ⟨w.heap.size, j + 1, none⟩ (.int .i64 ((y : Int) + (xd : Int)))).drew = wr1 at *
          clear cj cj1 fj1
          go_wp2_with fail
          go_roundw
          case rel => exact ⟨j + 1, o2, by omega, by go_num, HO2.out, HW2.out, HCN.out⟩
          case measure => simp [intOf]; omega
        · have hjn : j + 1 = N := by omega
          have j1 : ¬ (j : Int) + 1 < (N : Int) := by omega
          have hn := HN.out
          have hjl2 : j = i + lb := by omega
          have hv := HV.out
          rw [← hjl2] at hv
          have hc := HC.out
          rw [← hjn] at hc
          have hall := hc.all hv
          have HF : Hid (NumIs wr (.slice (some ⟨w.heap.size, 0, none⟩) N N) o ∧ o.length = i + lb + 1 ∧ (∀ x ∈ o, x < 256) ∧ Po.pos 256 o = V) := ⟨HO.out.num HC.out.len, by rw [HC.out.len, hn], hall, HC.out.val⟩
          clear hn hjl2 hv hc hall HC hjn HO
          go_wp2_with fail
          go_ret
          exact ⟨_, rfl, o, HF.out.1, HF.out.2.1, HF.out.2.2.1, HF.out.2.2.2, HW.out⟩
end Go.Proofs.Ytncnckiknhhbjaa
