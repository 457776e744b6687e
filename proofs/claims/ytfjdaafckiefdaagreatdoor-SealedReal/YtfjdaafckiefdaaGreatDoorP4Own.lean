/- The plain mathematics of Poly1305, over natural numbers: numbers of digits in any base, and the tag. -/
import Derived.Test.YtfjdaafckiefdaaGreatDoorMgL
import Derived.Test.YtfjdaafckiefdaaGreatDoorProg
import Derived.BigRegion
import Derived.Deep.RegionHeld3
import Derived.WalkMore
import Derived.ScopeJumps
import Derived.Laws.AppendOwn
import Derived.Test.YtfjdaafckiefdaaGreatDoorLast
import Derived.WideKeyArr2
import Derived.OpenShut
import Derived.Test.YtfjdaafckiefdaaGreatDoorUse
namespace Go.Proofs.YtfjdaafckiefdaaGreatDoor.P4
open Sp
namespace Po
/-- The number of digits in a base, the lowest first. -/
def pos (b : Nat) : List Nat → Nat
  | [] => 0
  | x :: l => x + b * pos b l
theorem pos_append (b : Nat) (m : List Nat) : ∀ l : List Nat, pos b (l ++ m) = pos b l + b ^ l.length * pos b m
  | [] => by simp [pos]
  | x :: l => by
    rw [List.cons_append, pos, pos, pos_append b m l, List.length_cons, Nat.pow_succ, Nat.mul_add, Nat.mul_comm (b ^ l.length) b, Nat.mul_assoc, Nat.add_assoc]
theorem pos_snoc (b : Nat) (l : List Nat) (x : Nat) : pos b (l ++ [x]) = pos b l + b ^ l.length * x := by rw [pos_append]; simp [pos]
theorem take_succ_nth {l : List Nat} {k : Nat} (h : k < l.length) : l.take (k + 1) = l.take k ++ [nth l k] := by
  rw [List.take_add_one]
  simp [nth, h]
theorem pos_take (b : Nat) {l : List Nat} {k : Nat} (h : k < l.length) : pos b (l.take (k + 1)) = pos b (l.take k) + b ^ k * nth l k := by
  rw [take_succ_nth h, pos_snoc, List.length_take, Nat.min_eq_left (by omega)]
theorem pos_set (b : Nat) : ∀ (l : List Nat) (k y : Nat), k < l.length → pos b (l.set k (nth l k + y)) = pos b l + b ^ k * y
  | [], k, y, h => by simp at h
  | x :: l, 0, y, _ => by simp [pos, nth]; omega
  | x :: l, k + 1, y, h => by
    have := pos_set b l k y (by simpa using h)
    have e : nth (x :: l) (k + 1) = nth l k := rfl
    rw [List.set_cons_succ, pos, pos, e, this, Nat.pow_succ, Nat.mul_add, Nat.mul_comm (b ^ k) b, Nat.mul_assoc, Nat.add_assoc]
theorem pos_lt {b : Nat} (hb : 0 < b) : ∀ {l : List Nat}, (∀ x ∈ l, x < b) → pos b l < b ^ l.length
  | [], _ => by simp [pos]
  | x :: l, h => by
    have h1 := pos_lt hb (l := l) (fun y hy => h y (List.mem_cons_of_mem _ hy))
    have h2 := h x (List.mem_cons_self)
    rw [pos, List.length_cons, Nat.pow_succ, Nat.mul_comm _ b]
    have : b * (pos b l + 1) ≤ b * b ^ l.length := Nat.mul_le_mul_left _ h1
    rw [Nat.mul_add] at this
    omega
/-- The digits of a number, some of them. -/
def digs (b : Nat) : Nat → Nat → List Nat
  | 0, _ => []
  | n + 1, v => v % b :: digs b n (v / b)
theorem digs_length (b : Nat) : ∀ n v, (digs b n v).length = n
  | 0, _ => rfl
  | n + 1, v => by rw [digs, List.length_cons, digs_length b n]
theorem digs_lt {b : Nat} (hb : 0 < b) : ∀ n v, ∀ x ∈ digs b n v, x < b
  | 0, _, x, h => by simp [digs] at h
  | n + 1, v, x, h => by
    rcases List.mem_cons.1 h with rfl | h
    · exact Nat.mod_lt _ hb
    · exact digs_lt hb n _ x h
theorem digs_pos {b : Nat} (hb : 0 < b) : ∀ {l : List Nat}, (∀ x ∈ l, x < b) → ∀ y, digs b l.length (pos b l + b ^ l.length * y) = l
  | [], _, _ => rfl
  | x :: l, h, y => by
    have h2 := h x (List.mem_cons_self)
    rw [List.length_cons, digs, pos, Nat.pow_succ, Nat.mul_comm _ b, Nat.mul_assoc, Nat.add_assoc, ← Nat.mul_add]
    rw [Nat.add_mul_mod_self_left, Nat.mod_eq_of_lt h2, Nat.add_mul_div_left _ _ hb, Nat.div_eq_of_lt h2, Nat.zero_add, digs_pos hb (fun y hy => h y (List.mem_cons_of_mem _ hy))]
theorem pos_digs {b : Nat} (hb : 0 < b) : ∀ n v, pos b (digs b n v) = v % b ^ n
  | 0, v => by simp [digs, pos, Nat.mod_one]
  | n + 1, v => by
    rw [digs, pos, pos_digs hb n, Nat.pow_succ, Nat.mul_comm (b ^ n) b, Nat.mod_mul]
theorem digs_mod {b : Nat} (hb : 0 < b) (n v : Nat) : digs b n (v % b ^ n) = digs b n v := by
  have h := digs_pos hb (digs_lt hb n v) (v / b ^ n)
  have h' := digs_pos hb (digs_lt hb n v) 0
  rw [pos_digs hb, digs_length] at h h'
  rw [Nat.mul_zero, Nat.add_zero] at h'
  rw [h']
/-- Digits of one number, as many, are the same. -/
theorem digs_of {b : Nat} (hb : 0 < b) {l : List Nat} {n v : Nat} (h : ∀ x ∈ l, x < b) (hl : l.length = n) (hv : pos b l = v % b ^ n) : l = digs b n v := by
  have := digs_pos hb h 0
  rw [Nat.mul_zero, Nat.add_zero, hv, hl, digs_mod hb] at this
  exact this.symm

abbrev B : Nat := 67108864
abbrev P : Nat := 1361129467683753853853498429727072845819
/-- A byte of the first half, without what r leaves out. -/
def cl (i x : Nat) : Nat := if i % 4 = 3 then x % 16 else if i % 4 = 0 ∧ 0 < i then x / 4 * 4 else x
def clamp (l : List Nat) : List Nat := (List.range 16).map fun i => cl i (nth l i)
def rOf (key : List Nat) : Nat := pos 256 (clamp key)
def sOf (key : List Nat) : Nat := pos 256 (key.drop 16)
/-- A part of a text, with a byte 1 behind it. -/
def part (text : List Nat) (k : Nat) : Nat := pos 256 ((text.drop (16 * k)).take 16 ++ [1])
def acc (r : Nat) (text : List Nat) : Nat → Nat
  | 0 => 0
  | k + 1 => (acc r text k + part text k) * r % P
def parts (text : List Nat) : Nat := (text.length + 15) / 16
def tagN (key text : List Nat) : Nat := acc (rOf key) text (parts text) + sOf key
/-- The tag of a text. -/
def tag (key text : List Nat) : List Nat := digs 256 16 (tagN key text)
theorem tag_length (key text : List Nat) : (tag key text).length = 16 := digs_length _ _ _
theorem tag_lt (key text : List Nat) : ∀ x ∈ tag key text, x < 256 := digs_lt (by decide) _ _
theorem clamp_length (l : List Nat) : (clamp l).length = 16 := by simp [clamp]
theorem cl_lt {x : Nat} (i : Nat) (h : x < 256) : cl i x < 256 := by unfold cl; split <;> (try split) <;> omega
theorem clamp_lt {l : List Nat} (h : ∀ x ∈ l, x < 256) : ∀ x ∈ clamp l, x < 256 := fun x hx => by
  obtain ⟨i, _, rfl⟩ := List.mem_map.1 hx
  exact cl_lt i (nth_lt (by decide) h _)
theorem B5 : B ^ 5 = P + 5 := by decide
/-- What goes over counts five times. -/
theorem fold_mod (x y : Nat) : (x + y * B ^ 5) % P = (x + 5 * y) % P := by
  rw [B5, show x + y * (P + 5) = x + 5 * y + P * y from by rw [Nat.mul_add, Nat.mul_comm y P, Nat.mul_comm y 5]; omega, Nat.add_mul_mod_self_left]
/-- A product's part of i and j. -/
theorem place_mod (x k : Nat) (hk : 5 ≤ k) : (B ^ (k - 5) * (5 * x)) % P = (B ^ k * x) % P := by
  have e : B ^ k * x = 0 + (B ^ (k - 5) * x) * B ^ 5 := by
    rw [Nat.zero_add, Nat.mul_assoc, Nat.mul_comm x, ← Nat.mul_assoc, ← Nat.pow_add, Nat.sub_add_cancel hk]
  rw [e, fold_mod, Nat.zero_add, Nat.mul_left_comm]
end Po
end Go.Proofs.YtfjdaafckiefdaaGreatDoor.P4
/- The contract of carry. -/
namespace Go.Proofs.YtfjdaafckiefdaaGreatDoor.P4
open Go.RowKit
/-- At block g lies a wide number. -/
def WAt (w : World) (g : Nat) (s : List Nat) : Prop := w.heap[g]? = some (.cells (arr .u64 s) 190 (0, 0))
section
variable {w : World} {g : Nat} {s : List Nat}
theorem WAt.cell (h : WAt w g s) (i : Nat) (hi : i < s.length) : w.cell? ⟨g, i, none⟩ = some (.int .u64 (Sp.nth s i : Nat)) := by
  rw [cell_of_row _ _ _ _ _ _ h]; exact arr_get _ _ _ hi
theorem WAt.may (h : WAt w g s) (i : Nat) : w.frozen? ⟨g, i, none⟩ = false := frozen_of_row _ _ _ _ _ h
theorem WAt.set (h : WAt w g s) (i x : Nat) : WAt (w.setCell ⟨g, i, none⟩ (.int .u64 (x : Nat))) g (s.set i x) := by
  have := heap_setCell_same w g i (arr .u64 s) 190 (.int .u64 (x : Nat)) h
  unfold WAt
  rw [this]
  congr 2
  apply Array.ext'
  simp [arr, ints]
theorem WAt.drewN (h : WAt w g s) (n : Nat) : WAt (w.drewN n) g s := h
theorem WAt.lt (h : WAt w g s) : g < w.heap.size := (Array.getElem?_eq_some_iff.1 h).1
theorem WAt.grown {w' : World} {g' : Nat} (h : WAt w g s) (hg : w.grownBy w' (some g')) (hne : g ≠ g') : WAt w' g s := by
  have := hg.block g h.lt (by simpa using hne)
  exact this.trans h
theorem WAt.below {w' : World} {K : Nat} (h : WAt w g s) (hb : Below K w w') (hg : g < K) : WAt w' g s := (hb.block g hg).trans h
end
theorem nth_snoc (D : List Nat) (x : Nat) (l : List Nat) (k : Nat) (hk : D.length = k) : Sp.nth (D ++ x :: l) k = x := by
  subst hk
  simp [Sp.nth]
theorem set_snoc (D : List Nat) (x y : Nat) (l : List Nat) (k : Nat) (hk : D.length = k) : (D ++ x :: l).set k y = D ++ y :: l := by
  subst hk
  rw [List.set_append_right _ _ (Nat.le_refl _)]
  simp
theorem drop_nth {l : List Nat} {k : Nat} (h : k < l.length) : l.drop k = Sp.nth l k :: l.drop (k + 1) := by
  rw [List.drop_eq_getElem_cons h]
  simp [Sp.nth, h]
theorem mask26 (x : Nat) (hx : x < 18446744073709551616) : bits BinOp.and .u64 (x : Int) 67108863 = ((x % 67108864 : Nat) : Int) := by
  have := u64_and_nat x 67108863 hx (by decide)
  rw [show ((67108863 : Nat) : Int) = 67108863 from rfl] at this
  rw [this]
  congr 1
  exact Nat.and_two_pow_sub_one_eq_mod x 26
/-- What carry leaves. -/
def Carried (n d : List Nat) (o : Nat) : Prop := d.length = 5 ∧ (∀ x ∈ d, x < Po.B) ∧ Po.pos Po.B d + Po.B ^ 5 * o = Po.pos Po.B n ∧ o < 274877906944
set_option maxHeartbeats 1000000 in
theorem carry_any (n : List Nat) (g : Nat) (w : World) (hg : WAt w g n) (hl : n.length = 5) (hn : ∀ x ∈ n, x < 9223372036854775808) :
    Calls Tryz.prog 151 #[.pointer (some ⟨g, 0, none⟩)] w fun e w' => ∃ d o, e = .returned (.int .u64 (o : Nat)) ∧ Carried n d o ∧ WAt w' g d ∧ w.grownBy w' (some g) := by
  have HG : Hid (WAt w g n) := hg
  have HL : Hid (n.length = 5) := hl
  have HN : Hid (∀ x ∈ n, x < 9223372036854775808) := hn
  clear hg hl hn
  go_enter Tryz.func151, Tryz.ntmps151
  go_wp2
  go_loopw [3, 5] (fun ov i wr => ∃ (k o : Nat) (D : List Nat), k ≤ 5 ∧ i = .int .i64 k ∧ ov = .int .u64 o ∧ o < 274877906944 ∧ Hid (WAt wr g (D ++ n.drop k)) ∧ Hid (w.grownBy wr (some g)) ∧ Hid (D.length = k) ∧ Hid (∀ x ∈ D, x < Po.B) ∧ Hid (Po.pos Po.B D + Po.B ^ k * o = Po.pos Po.B (n.take k))) (fun _ i _ => 5 - (intOf i).toNat)
  case atStart => exact ⟨0, 0, [], by omega, rfl, rfl, by omega, HG.out, grownBy_refl _ _, rfl, fun x hx => by simp at hx, by show _ = _; simp [Po.pos]⟩
  case round =>
    clear HG
    obtain ⟨k, o, D, hk, rfl, rfl, ho, H1, G1, HD, HB, HP⟩ := hrel
    by_cases hlt : k < 5
    · have hdr := drop_nth (l := n) (k := k) (by rw [HL.out]; exact hlt)
      have h1 := H1.out
      rw [hdr] at h1
      have hlen : (D ++ Sp.nth n k :: n.drop (k + 1)).length = 5 := by simp [HD.out, HL.out]; omega
      have ck := h1.cell k (by omega)
      rw [nth_snoc D _ _ k HD.out] at ck
      have fk := h1.may k
      have xk : Sp.nth n k < 9223372036854775808 := Sp.nth_lt (by decide) HN.out k
      have HS1 : Hid (WAt ((wr.setCell ⟨g, k, none⟩ (.int .u64 ((Sp.nth n k + o : Nat) : Int))).drew) g (D ++ (Sp.nth n k + o) :: n.drop (k + 1))) := by
        have := h1.set k (Sp.nth n k + o)
        rw [set_snoc D _ _ _ k HD.out] at this
        exact this
      have HG1 : Hid (w.grownBy ((wr.setCell ⟨g, k, none⟩ (.int .u64 ((Sp.nth n k + o : Nat) : Int))).drew) (some g)) := grownBy_drewN (grownBy_set G1.out k _) 1
      have HE : Hid (Po.pos Po.B (n.take (k + 1)) = Po.pos Po.B (n.take k) + Po.B ^ k * Sp.nth n k) := Po.pos_take _ (by rw [HL.out]; exact hlt)
      clear hdr h1 hlen H1 G1
      generalize Sp.nth n k = y at *
      have k0 : (0 : Int) ≤ (k : Int) := by omega
      have k1 : (k : Int) < 5 := by omega
      have e1 : ((y + o : Nat) : Int) = (y : Int) + (o : Int) := by omega
      rw [e1] at HS1 HG1
      go_wp2
      go_region
      go_wp2
      generalize (wr.setCell ⟨g, k, none⟩ (.int .u64 ((y : Int) + (o : Int)))).drew = w1 at *
      clear ck fk
      obtain ⟨z, hz⟩ : ∃ z, y + o = z := ⟨_, rfl⟩
      have hz' : (y : Int) + (o : Int) = (z : Int) := by omega
      rw [hz] at HS1
      rw [hz'] at *
      have ck := HS1.out.cell k (by simp [HD.out])
      rw [nth_snoc D _ _ k HD.out] at ck
      have fk := HS1.out.may k
      have hz1 : z < 18446744073709551616 := by omega
      have hm := mask26 z hz1
      have HS2 : Hid (WAt ((w1.setCell ⟨g, k, none⟩ (.int .u64 ((z % 67108864 : Nat) : Int))).drew) g ((D ++ [z % 67108864]) ++ n.drop (k + 1))) := by
        have := HS1.out.set k (z % 67108864)
        rw [set_snoc D _ _ _ k HD.out] at this
        rw [List.append_assoc]
        exact this
      have HG2 : Hid (w.grownBy ((w1.setCell ⟨g, k, none⟩ (.int .u64 ((z % 67108864 : Nat) : Int))).drew) (some g)) := grownBy_drewN (grownBy_set HG1.out k _) 1
      have HD2 : Hid ((D ++ [z % 67108864]).length = k + 1) := by show _ = _; simp [HD.out]
      have HB2 : Hid (∀ x ∈ D ++ [z % 67108864], x < Po.B) := fun x hx => by
        rcases List.mem_append.1 hx with h | h
        · exact HB.out x h
        · rw [List.mem_singleton.1 h]; exact Nat.mod_lt _ (by decide)
      have HP2 : Hid (Po.pos Po.B (D ++ [z % 67108864]) + Po.B ^ (k + 1) * (z / 67108864) = Po.pos Po.B (n.take (k + 1))) := by
        show _ = _
        rw [HE.out, ← HP.out, Po.pos_snoc, HD.out, Nat.pow_succ, Nat.mul_assoc, Nat.add_assoc, ← Nat.mul_add, Nat.add_assoc, ← Nat.mul_add]
        congr 2
        have := Nat.mod_add_div z 67108864
        show z % 67108864 + 67108864 * (z / 67108864) = _
        omega
      have o2 : z / 67108864 < 274877906944 := by omega
      clear HS1 HG1 HD HB HP HE hz hz' e1
      have i0 : ((z % 67108864 : Nat) : Int) = (z : Int) % 67108864 := by omega
      rw [i0] at HS2 HG2
      go_region
      go_wp2
      go_roundw
      case rel => exact ⟨k + 1, z / 67108864, D ++ [z % 67108864], by omega, by go_num, by go_num, o2, HS2.out, HG2.out, HD2.out, HB2.out, HP2.out⟩
      case measure => simp [intOf]; omega
    · obtain rfl : k = 5 := by omega
      have h5 : n.drop 5 = [] := List.drop_eq_nil_of_le (by rw [HL.out]; exact Nat.le_refl _)
      have h6 : n.take 5 = n := List.take_of_length_le (by rw [HL.out]; exact Nat.le_refl _)
      have h1 := H1.out
      rw [h5, List.append_nil] at h1
      have hp := HP.out
      rw [h6] at hp
      go_wp2
      go_ret
      exact ⟨D, o, rfl, ⟨HD.out, HB.out, hp, ho⟩, h1, G1.out⟩
end Go.Proofs.YtfjdaafckiefdaaGreatDoor.P4
/- The contract of plus. -/
namespace Go.Proofs.YtfjdaafckiefdaaGreatDoor.P4
open Go.RowKit
def zeros5 : Array Value := arr .u64 (List.replicate 5 0)
theorem zeros5_eq : #[Value.int IntKind.u64 0, Value.int IntKind.u64 0, Value.int IntKind.u64 0, Value.int IntKind.u64 0, Value.int IntKind.u64 0] = zeros5 := rfl
theorem info38 : (Tryz.prog.info? 190).map (·.size) = some 5 := by kernel_rfl
theorem under38 : Tryz.prog.underlying 190 = some (.array 5 144) := by kernel_rfl
/-- The first k sums of two numbers' digits. -/
def sumTo (n m : List Nat) (k : Nat) : List Nat := (List.range k).map fun i => Sp.nth n i + Sp.nth m i
theorem sumTo_length (n m : List Nat) (k : Nat) : (sumTo n m k).length = k := by simp [sumTo]
theorem sumTo_succ (n m : List Nat) (k : Nat) : sumTo n m (k + 1) = sumTo n m k ++ [Sp.nth n k + Sp.nth m k] := by simp [sumTo, List.range_succ]
theorem sumTo_pos (n m : List Nat) (hn : n.length = 5) (hm : m.length = 5) : ∀ k, k ≤ 5 → Po.pos Po.B (sumTo n m k) = Po.pos Po.B (n.take k) + Po.pos Po.B (m.take k)
  | 0, _ => by simp [sumTo, Po.pos]
  | k + 1, h => by
    rw [sumTo_succ, Po.pos_snoc, sumTo_length, sumTo_pos n m hn hm k (by omega), Po.pos_take _ (by omega), Po.pos_take _ (by omega), Nat.mul_add]
    omega
theorem sum_pos (n m : List Nat) (hn : n.length = 5) (hm : m.length = 5) : Po.pos Po.B (sumTo n m 5) = Po.pos Po.B n + Po.pos Po.B m := by
  have h1 : n.take 5 = n := List.take_of_length_le (by omega)
  have h2 : m.take 5 = m := List.take_of_length_le (by omega)
  rw [sumTo_pos n m hn hm 5 (by omega), h1, h2]
theorem sum_lt {n m : List Nat} {a b : Nat} (ha : 0 < a) (hb : 0 < b) (hn : ∀ x ∈ n, x < a) (hm : ∀ x ∈ m, x < b) : ∀ x ∈ sumTo n m 5, x < a + b := fun x hx => by
  obtain ⟨i, _, rfl⟩ := List.mem_map.1 hx
  have := Sp.nth_lt ha hn i
  have := Sp.nth_lt hb hm i
  show Sp.nth n i + Sp.nth m i < _
  omega
def threeW (w : World) (n m : List Nat) : World := ((w.alloc (Obj.cells (arr .u64 n) 190)).alloc (Obj.cells (arr .u64 m) 190)).alloc (Obj.cells zeros5 190)
theorem threeW_0 (w : World) (n m : List Nat) : WAt (threeW w n m) w.heap.size n := by
  show (((w.heap.push _).push _).push _)[_]? = _
  rw [Array.getElem?_push_lt (by simp; omega), Array.getElem_push_lt (by simp), Array.getElem_push_eq]
theorem threeW_1 (w : World) (n m : List Nat) : WAt (threeW w n m) (w.heap.size + 1) m := by
  show (((w.heap.push _).push _).push _)[_]? = _
  rw [Array.getElem?_push_lt (by simp), Array.getElem_push, dif_neg (by simp)]
theorem threeW_2 (w : World) (n m : List Nat) : WAt (threeW w n m) (w.heap.size + 2) (List.replicate 5 0) := by
  show (((w.heap.push _).push _).push _)[_]? = _
  rw [Array.getElem?_push, if_pos (by simp)]
  rfl
theorem threeW_size (w : World) (n m : List Nat) : (threeW w n m).heap.size = w.heap.size + 3 := by simp [threeW]
theorem threeW_below (w : World) (n m : List Nat) : Below w.heap.size w (threeW w n m) := (((Below.refl _ _).alloc (Nat.le_refl _) _).alloc (by simp) _).alloc (by simp; omega) _
theorem below_grown {w w1 w2 : World} {g : Nat} (hb : Below w.heap.size w w1) (hg : w1.grownBy w2 (some g)) (hk : w.heap.size ≤ g) : Below w.heap.size w w2 :=
  ⟨hg.os.trans hb.os, hg.tape.trans hb.tape, hg.output.trans hb.output, Nat.le_trans hb.size hg.size, fun k hk' => (hg.block k (Nat.lt_of_lt_of_le hk' hb.size) (by simp; omega)).trans (hb.block k hk')⟩
set_option maxHeartbeats 1000000 in
theorem plus_any (n m : List Nat) (w : World) (hln : n.length = 5) (hlm : m.length = 5) (hn : ∀ x ∈ n, x < 4611686018427387904) (hm : ∀ x ∈ m, x < 4611686018427387904) :
    Calls Tryz.prog 147 #[.agg (arr .u64 n), .agg (arr .u64 m)] w fun e w' => e = .returned (.agg (arr .u64 (sumTo n m 5))) ∧ Below w.heap.size w w' := by
  have HLN : Hid (n.length = 5) := hln
  have HLM : Hid (m.length = 5) := hlm
  have HN : Hid (∀ x ∈ n, x < 4611686018427387904) := hn
  have HM : Hid (∀ x ∈ m, x < 4611686018427387904) := hm
  clear hln hlm hn hm
  obtain ⟨R, hR⟩ : ∃ R, sumTo n m 5 = R := ⟨_, rfl⟩
  rw [hR]
  have HR : Hid (sumTo n m 5 = R) := hR
  clear hR
  go_enter Tryz.func147, Tryz.ntmps147
  go_wp2_with fail
  rw [zeros5_eq, show ((w.alloc (Obj.cells (arr .u64 n) 190)).alloc (Obj.cells (arr .u64 m) 190)).alloc (Obj.cells zeros5 190) = threeW w n m from rfl]
  have H0 : Hid (WAt (threeW w n m) w.heap.size n) := threeW_0 w n m
  have H1 : Hid (WAt (threeW w n m) (w.heap.size + 1) m) := threeW_1 w n m
  have H2 : Hid (WAt (threeW w n m) (w.heap.size + 2) (List.replicate 5 0)) := threeW_2 w n m
  have HB : Hid (Below w.heap.size w (threeW w n m)) := threeW_below w n m
  generalize threeW w n m = W at *
  go_loopw [6] (fun i wr => ∃ k : Nat, k ≤ 5 ∧ i = .int .i64 k ∧ Hid (WAt wr w.heap.size (sumTo n m k ++ n.drop k)) ∧ Hid (W.grownBy wr (some w.heap.size))) (fun i _ => 5 - (intOf i).toNat)
  case atStart => exact ⟨0, by omega, rfl, H0.out, grownBy_refl _ _⟩
  case round =>
    clear H0
    obtain ⟨k, hk, rfl, H3, G3⟩ := hrel
    by_cases hlt : k < 5
    · have h1 := H3.out
      rw [drop_nth (l := n) (k := k) (by rw [HLN.out]; exact hlt)] at h1
      have ck := h1.cell k (by simp [sumTo_length])
      rw [nth_snoc _ _ _ k (sumTo_length _ _ _)] at ck
      have fk := h1.may k
      have cm := (H1.out.grown G3.out (by omega)).cell k (by rw [HLM.out]; exact hlt)
      have x1 : Sp.nth n k < 4611686018427387904 := Sp.nth_lt (by decide) HN.out k
      have x2 : Sp.nth m k < 4611686018427387904 := Sp.nth_lt (by decide) HM.out k
      have HS : Hid (WAt ((wr.setCell ⟨w.heap.size, k, none⟩ (.int .u64 ((Sp.nth n k + Sp.nth m k : Nat) : Int))).drew) w.heap.size (sumTo n m (k + 1) ++ n.drop (k + 1))) := by
        have := h1.set k (Sp.nth n k + Sp.nth m k)
        rw [set_snoc _ _ _ _ k (sumTo_length _ _ _)] at this
        rw [sumTo_succ, List.append_assoc]
        exact this
      have HG : Hid (W.grownBy ((wr.setCell ⟨w.heap.size, k, none⟩ (.int .u64 ((Sp.nth n k + Sp.nth m k : Nat) : Int))).drew) (some w.heap.size)) := grownBy_drewN (grownBy_set G3.out k _) 1
      clear h1 H3 G3
      generalize Sp.nth n k = y at *
      generalize Sp.nth m k = z at *
      have k0 : (0 : Int) ≤ (k : Int) := by omega
      have k1 : (k : Int) < 5 := by omega
      have e1 : ((y + z : Nat) : Int) = (y : Int) + (z : Int) := by omega
      rw [e1] at HS HG
      go_wp2
      go_region
      go_wp2
      go_roundw
      case rel => exact ⟨k + 1, by omega, by go_num, HS.out, HG.out⟩
      case measure => simp [intOf]; omega
    · obtain rfl : k = 5 := by omega
      have h5 : n.drop 5 = [] := List.drop_eq_nil_of_le (by rw [HLN.out]; exact Nat.le_refl _)
      have h1 := H3.out
      rw [h5, List.append_nil, HR.out] at h1
      have H5 : Hid (WAt wr w.heap.size R) := h1
      have H6 : Hid (WAt wr (w.heap.size + 2) (List.replicate 5 0)) := H2.out.grown G3.out (by omega)
      have HB6 : Hid (Below w.heap.size w wr) := below_grown HB.out G3.out (Nat.le_refl _)
      have HSL : Hid (R.length = 5) := by show _ = _; rw [← HR.out]; exact sumTo_length _ _ _
      clear h1 h5 H3 G3 H1 H2 HB HN HM HR
      go_wp2_with (first | with_reducible (refine stop_load 190 ?_))
      refine Stop.go ?_
      with_reducible refine law_load_arr w.heap.size 0 .u64 R _ ?ux ?uc under38 rfl ?ui ?uk
      case ux => exact rfl
      case uc => exact rangeAt_of_row H5.out
      case ui => rw [HSL.out]; exact info38
      go_wp2_with (first | with_reducible (refine stop_store 190 ?_))
      refine Stop.go ?_
      with_reducible refine law_store (w.heap.size + 2) 0 (arr .u64 R) ?tx ?ty ?tt ?ti (ints_one _ _) ?tk
      case tx => exact rfl
      case ty => exact rfl
      case tt => rw [arr_size, HSL.out]; exact there_of_row H6.out 5 (by simp [arr_size])
      case ti => rw [arr_size, HSL.out]; exact info38
      go_wp2_with fail
      refine bodyPost_ret (v := .agg (arr .u64 R)) (results_row rfl _ _ (w.heap.size + 2) 0 (ints .u64 R) _ rfl ?_ under38 rfl ?_) rfl ⟨rfl, ?_⟩
      · exact World.rangeAt_setCells_same _ _ _ _ (by rw [arr_list, ints_length, HSL.out]; exact there_of_row H6.out 5 (by simp [arr_size]))
      · rw [ints_length, HSL.out]; exact info38
      · exact Below.setCells _ _ _ HB6.out (by omega)
end Go.Proofs.YtfjdaafckiefdaaGreatDoor.P4
/- The contract of number. -/
namespace Go.Proofs.YtfjdaafckiefdaaGreatDoor.P4
open Go.RowKit
/-- Five digits. -/
def Wide (d : List Nat) : Prop := d.length = 5 ∧ ∀ x ∈ d, x < Po.B
theorem range_cell {w : World} {g o : Nat} {k : IntKind} {l : List Nat} (h : w.rangeAt g o (ints k l)) (i : Nat) (hi : i < l.length) : w.cell? ⟨g, o + i, none⟩ = some (.int k (Sp.nth l i : Nat)) := h i _ (ints_get k l i hi)
theorem rangeAt_grown {w w' : World} {b o g : Nat} {cs : List Value} (h : w.rangeAt b o cs) (hg : w.grownBy w' (some g)) (hb : b ≠ g) : w'.rangeAt b o cs := fun j v hv => by
  have hc := h j v hv
  have hlt := World.block_lt_of_cell? w _ hc
  have := hg.block b hlt (by simpa using hb)
  rw [← hc]
  unfold World.cell?
  rw [this]
theorem range_lt {w : World} {b o : Nat} {k : IntKind} {l : List Nat} (h : w.rangeAt b o (ints k l)) (hl : 0 < l.length) : b < w.heap.size := by
  have := h 0 _ (ints_get k l 0 hl)
  exact World.block_lt_of_cell? w _ this
def twoW (w : World) : World := (w.alloc (Obj.cells zeros5 190)).alloc (Obj.cells zeros5 190)
theorem twoW_0 (w : World) : WAt (twoW w) w.heap.size (List.replicate 5 0) := by
  show ((w.heap.push _).push _)[_]? = _
  rw [Array.getElem?_push_lt (by simp), Array.getElem_push_eq]
  rfl
theorem twoW_1 (w : World) : WAt (twoW w) (w.heap.size + 1) (List.replicate 5 0) := by
  show ((w.heap.push _).push _)[_]? = _
  rw [Array.getElem?_push, if_pos (by simp)]
  rfl
theorem twoW_below (w : World) : Below w.heap.size w (twoW w) := ((Below.refl _ _).alloc (Nat.le_refl _) _).alloc (by simp) _
theorem set_le {l : List Nat} {k y a b : Nat} (h : ∀ x ∈ l, x ≤ a) (hy : y ≤ b) : ∀ x ∈ l.set k (Sp.nth l k + y), x ≤ a + b := fun x hx => by
  rcases List.mem_or_eq_of_mem_set hx with h1 | rfl
  · have := h x h1; omega
  · have : Sp.nth l k < a + 1 := Sp.nth_lt (by omega) (fun x hx => by have := h x hx; omega) k
    omega
theorem pow8 (k q s : Nat) (h : 26 * q + s = 8 * k) : Po.B ^ q * 2 ^ s = 256 ^ k := by
  rw [show Po.B = 2 ^ 26 from rfl, show (256 : Nat) = 2 ^ 8 from rfl, ← Nat.pow_mul, ← Nat.pow_mul, ← Nat.pow_add, h]
theorem shl_lt (y s : Nat) (hy : y < 256) (hs : s < 26) : y * 2 ^ s ≤ 17179869184 := by
  have h1 : 2 ^ s ≤ 2 ^ 26 := Nat.pow_le_pow_right (by decide) (by omega)
  have h2 : y * 2 ^ s ≤ 256 * 2 ^ 26 := Nat.mul_le_mul (by omega) h1
  exact h2
set_option maxHeartbeats 1000000 in
theorem number_any (l : List Nat) (L b o c : Nat) (w : World) (hl : l.length = L) (hL : L ≤ 17) (h0 : 0 < L) (hb : ∀ x ∈ l, x < 256) (hv : Po.pos 256 l < Po.B ^ 5) (hr : w.rangeAt b o (ints .u8 l)) :
    Calls Tryz.prog 150 #[.slice (some ⟨b, o, none⟩) L c] w fun e w' => ∃ d, e = .returned (.agg (arr .u64 d)) ∧ Wide d ∧ Po.pos Po.B d = Po.pos 256 l ∧ Below w.heap.size w w' := by
  have HL : Hid (l.length = L) := hl
  have HB : Hid (∀ x ∈ l, x < 256) := hb
  have HV : Hid (Po.pos 256 l < Po.B ^ 5) := hv
  have HR : Hid (w.rangeAt b o (ints .u8 l)) := hr
  have hbw : b < w.heap.size := range_lt hr (by omega)
  clear hl hb hv hr
  go_enter Tryz.func150, Tryz.ntmps150
  go_wp2_with fail
  rw [zeros5_eq, show ((w.alloc (Obj.cells zeros5 190)).alloc (Obj.cells zeros5 190)) = twoW w from rfl]
  have H0 : Hid (WAt (twoW w) w.heap.size (List.replicate 5 0)) := twoW_0 w
  have H1 : Hid (WAt (twoW w) (w.heap.size + 1) (List.replicate 5 0)) := twoW_1 w
  have HW : Hid (Below w.heap.size w (twoW w)) := twoW_below w
  generalize twoW w = W at *
  go_loopw [8] (fun i wr => ∃ (k : Nat) (st : List Nat), k ≤ L ∧ i = .int .i64 k ∧ Hid (WAt wr (w.heap.size + 1) st) ∧ Hid (W.grownBy wr (some (w.heap.size + 1))) ∧ Hid (st.length = 5) ∧ Hid (∀ x ∈ st, x ≤ k * 17179869184) ∧ Hid (Po.pos Po.B st = Po.pos 256 (l.take k))) (fun i _ => L - (intOf i).toNat)
  case atStart => exact ⟨0, _, by omega, rfl, H1.out, grownBy_refl _ _, by show _ = _; simp, fun x hx => by simp at hx; omega, by show _ = _; simp [Po.pos, List.replicate]⟩
  case round =>
    clear H1
    obtain ⟨k, st, hk, rfl, HS, HG, HSL, HSB, HP⟩ := hrel
    by_cases hlt : k < L
    · have ck := range_cell (rangeAt_grown (rangeAt_below HW.out HR.out) HG.out (by omega)) k (by rw [HL.out]; exact hlt)
      obtain ⟨q, hq⟩ : ∃ q, 8 * k / 26 = q := ⟨_, rfl⟩
      obtain ⟨s, hs⟩ : ∃ s, 8 * k % 26 = s := ⟨_, rfl⟩
      have hqs : 26 * q + s = 8 * k := by omega
      have hq5 : q < 5 := by omega
      have hs26 : s < 26 := by omega
      have d1 : (8 * (k : Int)).tdiv 26 = (q : Int) := by rw [Int.tdiv_eq_ediv_of_nonneg (by omega)]; omega
      have d2 : (8 * (k : Int)).tmod 26 = (s : Int) := by rw [Int.tmod_eq_emod_of_nonneg (by omega)]; omega
      have cq := HS.out.cell q (by rw [HSL.out]; exact hq5)
      have fq := HS.out.may q
      have xk : Sp.nth l k < 256 := Sp.nth_lt (by decide) HB.out k
      have hsh := shl_lt _ s xk hs26
      have HE : Hid (Po.pos 256 (l.take (k + 1)) = Po.pos 256 (l.take k) + 256 ^ k * Sp.nth l k) := Po.pos_take _ (by rw [HL.out]; exact hlt)
      have hst : Sp.nth st q < k * 17179869184 + 1 := Sp.nth_lt (by omega) (fun x hx => by have := HSB.out x hx; omega) q
      have HS2 : Hid (WAt ((wr.setCell ⟨w.heap.size + 1, q, none⟩ (.int .u64 ((Sp.nth st q + Sp.nth l k * 2 ^ s : Nat) : Int))).drew) (w.heap.size + 1) (st.set q (Sp.nth st q + Sp.nth l k * 2 ^ s))) := HS.out.set q _
      have HG2 : Hid (W.grownBy ((wr.setCell ⟨w.heap.size + 1, q, none⟩ (.int .u64 ((Sp.nth st q + Sp.nth l k * 2 ^ s : Nat) : Int))).drew) (some (w.heap.size + 1))) := grownBy_drewN (grownBy_set HG.out q _) 1
      have HSL2 : Hid ((st.set q (Sp.nth st q + Sp.nth l k * 2 ^ s)).length = 5) := by show _ = _; rw [List.length_set]; exact HSL.out
      have HSB2 : Hid (∀ x ∈ st.set q (Sp.nth st q + Sp.nth l k * 2 ^ s), x ≤ (k + 1) * 17179869184) := fun x hx => by
        have := set_le HSB.out hsh x hx
        omega
      have HP2 : Hid (Po.pos Po.B (st.set q (Sp.nth st q + Sp.nth l k * 2 ^ s)) = Po.pos 256 (l.take (k + 1))) := by
        show _ = _
        rw [Po.pos_set _ _ _ _ (by rw [HSL.out]; exact hq5), HE.out, HP.out, ← pow8 k q s hqs, Nat.mul_assoc, Nat.mul_comm (2 ^ s)]
      have e1 : (Sp.nth l k : Int) * 2 ^ s = ((Sp.nth l k * 2 ^ s : Nat) : Int) := by simp
      clear HS HG HSL HSB HP HE
      generalize st.set q (Sp.nth st q + Sp.nth l k * 2 ^ s) = st2 at *
      generalize Sp.nth l k * 2 ^ s = v at *
      generalize Sp.nth l k = y at *
      generalize Sp.nth st q = old at *
      have e2 : ((old + v : Nat) : Int) = (old : Int) + (v : Int) := by omega
      rw [e2] at HS2 HG2
      have k0 : (0 : Int) ≤ (k : Int) := by omega
      have k1 : (k : Int) < (L : Int) := by omega
      have q0 : (0 : Int) ≤ (q : Int) := by omega
      have q1 : (q : Int) < 5 := by omega
      have s0 : (0 : Int) ≤ (s : Int) := by omega
      have s1 : (s : Int) < 26 := by omega
      have m1 : min s 64 = s := by omega
      clear hq hs hqs
      go_wp2
      go_region
      go_wp2
      go_roundw
      case rel => exact ⟨k + 1, st2, by omega, by go_num, HS2.out, HG2.out, HSL2.out, HSB2.out, HP2.out⟩
      case measure => simp [intOf]; omega
    · obtain rfl : k = L := by omega
      have h6 : l.take k = l := List.take_of_length_le (by rw [HL.out]; exact Nat.le_refl _)
      have hp := HP.out
      rw [h6] at hp
      have HP6 : Hid (Po.pos Po.B st = Po.pos 256 l) := hp
      have H6 : Hid (WAt wr w.heap.size (List.replicate 5 0)) := H0.out.grown HG.out (by omega)
      have HB6 : Hid (Below w.heap.size w wr) := below_grown HW.out HG.out (by omega)
      have HC := carry_any st (w.heap.size + 1) wr HS.out HSL.out (fun x hx => by have := HSB.out x hx; omega)
      clear hp h6 HP HS HG HSB HW H0
      go_wp2_with fail
      refine HC.mono ?_
      rintro e w1 ⟨d, ov, rfl, hcd, hw1, hg1⟩
      clear HC
      have HD : Hid (Carried st d ov) := hcd
      have HDL : Hid (d.length = 5) := hcd.1
      have H7 : Hid (WAt w1 (w.heap.size + 1) d) := hw1
      have H8 : Hid (WAt w1 w.heap.size (List.replicate 5 0)) := H6.out.grown hg1 (by omega)
      have HB8 : Hid (Below w.heap.size w w1) := below_grown HB6.out hg1 (by omega)
      clear hcd hw1 hg1 H6 HB6
      go_wp2_with (first | with_reducible (refine stop_load 190 ?_))
      refine Stop.go ?_
      with_reducible refine law_load_arr (w.heap.size + 1) 0 .u64 d _ ?ux ?uc under38 rfl ?ui ?uk
      case ux => exact rfl
      case uc => exact rangeAt_of_row H7.out
      case ui => rw [HDL.out]; exact info38
      go_wp2_with (first | with_reducible (refine stop_store 190 ?_))
      refine Stop.go ?_
      with_reducible refine law_store w.heap.size 0 (arr .u64 d) ?tx ?ty ?tt ?ti (ints_one _ _) ?tk
      case tx => exact rfl
      case ty => exact rfl
      case tt => rw [arr_size, HDL.out]; exact there_of_row H8.out 5 (by simp [arr_size])
      case ti => rw [arr_size, HDL.out]; exact info38
      go_wp2_with fail
      refine bodyPost_ret (v := .agg (arr .u64 d)) (results_row rfl _ _ w.heap.size 0 (ints .u64 d) _ rfl ?_ under38 rfl ?_) rfl ⟨d, rfl, ⟨HD.out.1, HD.out.2.1⟩, ?_, ?_⟩
      · exact World.rangeAt_setCells_same _ _ _ _ (by rw [arr_list, ints_length, HDL.out]; exact there_of_row H8.out 5 (by simp [arr_size]))
      · rw [ints_length, HDL.out]; exact info38
      · have h1 := HD.out.2.2.1
        have h2 := HV.out
        rw [HP6.out] at h1
        rw [← h1] at h2
        have h0 : ov = 0 := by
          rcases Nat.eq_zero_or_pos ov with h | h
          · exact h
          · have : Po.B ^ 5 * 1 ≤ Po.B ^ 5 * ov := Nat.mul_le_mul_left _ h
            omega
        rw [h0, Nat.mul_zero, Nat.add_zero] at h1
        exact h1
      · exact Below.setCells _ _ _ HB8.out (by omega)
end Go.Proofs.YtfjdaafckiefdaaGreatDoor.P4
/- The contract of fold: what goes over is carried down until nothing does, by goto. -/
namespace Go.Proofs.YtfjdaafckiefdaaGreatDoor.P4
open Go.RowKit
/-- The number that lies at a block. -/
def posAt (g : Nat) (w : World) : Nat := match w.heap[g]? with
  | some (.cells cs _ _) => Po.pos Po.B (cs.toList.map fun v => (intOf v).toNat)
  | _ => 0
theorem posAt_of {w : World} {g : Nat} {n : List Nat} (h : WAt w g n) : posAt g w = Po.pos Po.B n := by
  unfold posAt
  rw [h]
  show Po.pos Po.B ((arr .u64 n).toList.map fun v => (intOf v).toNat) = _
  rw [arr_list, ints, List.map_map]
  congr 1
  rw [show ((fun v => (intOf v).toNat) ∘ fun (n : Nat) => Value.int IntKind.u64 (n : Int)) = id from by funext x; simp [intOf]]
  exact List.map_id n
theorem cons_of {n : Nat} : ∀ (l : List Value), l.length = n + 1 → ∃ x l', l = x :: l' ∧ l'.length = n
  | x :: l', h => ⟨x, l', rfl, by simpa using h⟩
structure FoldAt (w : World) (g : Nat) (n0 n : List Nat) (w' : World) : Prop where
  at_ : WAt w' g n
  len : n.length = 5
  bound : ∀ x ∈ n, x < 9223372036854775808
  same : Po.pos Po.B n % Po.P = Po.pos Po.B n0 % Po.P
  less : Po.pos Po.B n < Po.pos Po.B n0
  gr : w.grownBy w' (some g)
def foldJ (w : World) (g : Nat) (n0 : List Nat) (a' : Act) (w' : World) : Prop :=
  ∃ (n : List Nat) (l : List Value), FoldAt w g n0 n w' ∧ l.length = 15 ∧ a' = { tmps := (.pointer (some ⟨g, 0, none⟩) :: l).toArray, defers := [] }
def foldMu (g : Nat) (_ : Act) (w' : World) : Nat := posAt g w'
theorem fold_step {n d : List Nat} {ov : Nat} (h : Carried n d ov) (h0 : 0 < ov) :
    (d.set 0 (Sp.nth d 0 + 5 * ov)).length = 5 ∧ (∀ x ∈ d.set 0 (Sp.nth d 0 + 5 * ov), x < 9223372036854775808) ∧ Po.pos Po.B (d.set 0 (Sp.nth d 0 + 5 * ov)) % Po.P = Po.pos Po.B n % Po.P ∧ Po.pos Po.B (d.set 0 (Sp.nth d 0 + 5 * ov)) < Po.pos Po.B n := by
  obtain ⟨h1, h2, h3, hv⟩ := h
  have e := Po.pos_set Po.B d 0 (5 * ov) (by omega)
  rw [Nat.pow_zero, Nat.one_mul] at e
  refine ⟨by rw [List.length_set]; exact h1, fun x hx => ?_, ?_, ?_⟩
  · have := set_le (a := 67108864) (fun y hy => Nat.le_of_lt (h2 y hy)) (Nat.le_refl (5 * ov)) x hx
    omega
  · rw [e, ← h3, Nat.mul_comm (Po.B ^ 5) ov, Po.fold_mod]
  · rw [e, ← h3, Po.B5]
    have : (Po.P + 5) * ov = Po.P * ov + 5 * ov := Nat.add_mul _ _ _
    have : Po.P * 1 ≤ Po.P * ov := Nat.mul_le_mul_left _ h0
    have : 0 < Po.P := by decide
    omega
set_option maxHeartbeats 1000000 in
theorem fold_any (n : List Nat) (g : Nat) (w : World) (hg : WAt w g n) (hl : n.length = 5) (hn : ∀ x ∈ n, x < 9223372036854775808) :
    Calls Tryz.prog 158 #[.pointer (some ⟨g, 0, none⟩)] w fun e w' => e = .returned (.tuple #[]) ∧ ∃ d, Wide d ∧ Po.pos Po.B d % Po.P = Po.pos Po.B n % Po.P ∧ WAt w' g d ∧ w.grownBy w' (some g) := by
  have HC : Hid (Calls Tryz.prog 151 #[.pointer (some ⟨g, 0, none⟩)] w fun e w' => ∃ d o, e = .returned (.int .u64 (o : Nat)) ∧ Carried n d o ∧ WAt w' g d ∧ w.grownBy w' (some g)) := carry_any n g w hg hl hn
  clear hg hl hn
  go_enter Tryz.func158, Tryz.ntmps158
  refine wp_scope_jumps 0 (foldJ w g n) (foldMu g) rfl ?_ ?_
  · go_wp2_with fail
    go_step3
    go_wp2_with fail
    refine HC.out.mono ?_
    rintro e w1 ⟨d, ov, rfl, hcd, hw1, hg1⟩
    clear HC
    have HD : Hid (Carried n d ov) := hcd
    have H1 : Hid (WAt w1 g d) := hw1
    have G1 : Hid (w.grownBy w1 (some g)) := hg1
    have hv : ov < 274877906944 := hcd.2.2.2
    by_cases h0 : 0 < ov
    · have c0 := hw1.cell 0 (by rw [hcd.1]; decide)
      have f0 := hw1.may 0
      have x0 : Sp.nth d 0 < 67108864 := Sp.nth_lt (by decide) hcd.2.1 0
      obtain ⟨s1, s2, s3, s4⟩ := fold_step hcd h0
      have HF : Hid (FoldAt w g n (d.set 0 (Sp.nth d 0 + 5 * ov)) ((w1.setCell ⟨g, 0, none⟩ (.int .u64 ((Sp.nth d 0 + 5 * ov : Nat) : Int))).drew)) := ⟨hw1.set 0 _, s1, s2, s3, s4, grownBy_drewN (grownBy_set hg1 0 _) 1⟩
      clear s1 s2 s3 s4 hcd hw1 hg1 HD H1 G1
      generalize d.set 0 (Sp.nth d 0 + 5 * ov) = d2 at *
      generalize Sp.nth d 0 = y at *
      have e1 : ((y + 5 * ov : Nat) : Int) = (y : Int) + 5 * (ov : Int) := by omega
      rw [e1] at HF
      have o0 : (0 : Int) < (ov : Int) := by omega
      go_wp2_with fail
      go_region
      go_wp2_with fail
      go_step3
      exact ⟨rfl, d2, _, HF.out, rfl, rfl⟩
    · have h0' : ¬ (0 : Int) < (ov : Int) := by omega
      clear hcd hw1 hg1
      go_wp2_with fail
      simp only [Exit.jump]
      refine bodyPost_end (results_none rfl _ _ _) rfl ?_
      obtain rfl : ov = 0 := by omega
      obtain ⟨q1, q2, q3, _⟩ := HD.out
      rw [Nat.mul_zero, Nat.add_zero] at q3
      exact ⟨rfl, d, ⟨q1, q2⟩, by rw [q3], H1.out, G1.out⟩
  · rintro a' w' ⟨n1, l, hF, hll, rfl⟩
    obtain ⟨u1, l1, rfl, h1⟩ := cons_of l hll; clear hll
    obtain ⟨u2, l2, rfl, h2⟩ := cons_of l1 h1; clear h1
    obtain ⟨u3, l3, rfl, h3⟩ := cons_of l2 h2; clear h2
    obtain ⟨u4, l4, rfl, h4⟩ := cons_of l3 h3; clear h3
    obtain ⟨u5, l5, rfl, h5⟩ := cons_of l4 h4; clear h4
    obtain ⟨u6, l6, rfl, h6⟩ := cons_of l5 h5; clear h5
    obtain ⟨u7, l7, rfl, h7⟩ := cons_of l6 h6; clear h6
    obtain ⟨u8, l8, rfl, h8⟩ := cons_of l7 h7; clear h7
    obtain ⟨u9, l9, rfl, h9⟩ := cons_of l8 h8; clear h8
    obtain ⟨u10, l10, rfl, h10⟩ := cons_of l9 h9; clear h9
    obtain ⟨u11, l11, rfl, h11⟩ := cons_of l10 h10; clear h10
    obtain ⟨u12, l12, rfl, h12⟩ := cons_of l11 h11; clear h11
    obtain ⟨u13, l13, rfl, h13⟩ := cons_of l12 h12; clear h12
    obtain ⟨u14, l14, rfl, h14⟩ := cons_of l13 h13; clear h13
    obtain ⟨u15, l15, rfl, h15⟩ := cons_of l14 h14; clear h14
    obtain rfl := List.eq_nil_of_length_eq_zero h15; clear h15
    have HM : Hid (foldMu g { tmps := (.pointer (some ⟨g, 0, none⟩) :: [u1, u2, u3, u4, u5, u6, u7, u8, u9, u10, u11, u12, u13, u14, u15]).toArray, defers := [] } w' = Po.pos Po.B n1) := posAt_of hF.at_
    have HF0 : Hid (FoldAt w g n n1 w') := hF
    have HC : Hid (Calls Tryz.prog 151 #[.pointer (some ⟨g, 0, none⟩)] w' fun e w'' => ∃ d o, e = .returned (.int .u64 (o : Nat)) ∧ Carried n1 d o ∧ WAt w'' g d ∧ w'.grownBy w'' (some g)) := carry_any n1 g w' hF.at_ hF.len hF.bound
    clear hF
    rw [HM.out]
    clear HM
    go_wp2_with fail
    refine HC.out.mono ?_
    rintro e w1 ⟨d, ov, rfl, hcd, hw1, hg1⟩
    clear HC
    have HD : Hid (Carried n1 d ov) := hcd
    have H1 : Hid (WAt w1 g d) := hw1
    have G1 : Hid (w.grownBy w1 (some g)) := grownBy_trans HF0.out.gr hg1
    have hv : ov < 274877906944 := hcd.2.2.2
    by_cases h0 : 0 < ov
    · have c0 := hw1.cell 0 (by rw [hcd.1]; decide)
      have f0 := hw1.may 0
      have x0 : Sp.nth d 0 < 67108864 := Sp.nth_lt (by decide) hcd.2.1 0
      obtain ⟨s1, s2, s3, s4⟩ := fold_step hcd h0
      have HF : Hid (FoldAt w g n (d.set 0 (Sp.nth d 0 + 5 * ov)) ((w1.setCell ⟨g, 0, none⟩ (.int .u64 ((Sp.nth d 0 + 5 * ov : Nat) : Int))).drew)) := ⟨hw1.set 0 _, s1, s2, s3.trans HF0.out.same, Nat.lt_trans s4 HF0.out.less, grownBy_drewN (grownBy_set G1.out 0 _) 1⟩
      have HLT : Hid (Po.pos Po.B (d.set 0 (Sp.nth d 0 + 5 * ov)) < Po.pos Po.B n1) := s4
      clear s1 s2 s3 s4 hcd hw1 hg1 HD H1 G1 HF0
      generalize d.set 0 (Sp.nth d 0 + 5 * ov) = d2 at *
      generalize Sp.nth d 0 = y at *
      have e1 : ((y + 5 * ov : Nat) : Int) = (y : Int) + 5 * (ov : Int) := by omega
      rw [e1] at HF
      have o0 : (0 : Int) < (ov : Int) := by omega
      go_wp2_with fail
      go_region
      go_wp2_with fail
      go_step3
      refine ⟨rfl, ⟨d2, _, HF.out, rfl, rfl⟩, ?_⟩
      show posAt g _ < Po.pos Po.B n1
      rw [posAt_of HF.out.at_]
      exact HLT.out
    · have h0' : ¬ (0 : Int) < (ov : Int) := by omega
      clear hcd hw1 hg1
      go_wp2_with fail
      simp only [Exit.jump]
      refine bodyPost_end (results_none rfl _ _ _) rfl ?_
      obtain rfl : ov = 0 := by omega
      obtain ⟨q1, q2, q3, _⟩ := HD.out
      rw [Nat.mul_zero, Nat.add_zero] at q3
      exact ⟨rfl, d, ⟨q1, q2⟩, by rw [q3]; exact HF0.out.same, H1.out, G1.out⟩
end Go.Proofs.YtfjdaafckiefdaaGreatDoor.P4
/- The contract of times. -/
namespace Go.Proofs.YtfjdaafckiefdaaGreatDoor.P4
open Go.RowKit
def fourW (w : World) (n m : List Nat) : World := (threeW w n m).alloc (Obj.cells zeros5 190)
theorem fourW_old (w : World) (n m : List Nat) {g : Nat} {s : List Nat} (h : WAt (threeW w n m) g s) : WAt (fourW w n m) g s := by
  have h' := h
  unfold WAt at h ⊢
  rw [← h]
  show ((threeW w n m).heap.push _)[g]? = _
  rw [Array.getElem?_push, if_neg (Nat.ne_of_lt h'.lt)]
theorem fourW_3 (w : World) (n m : List Nat) : WAt (fourW w n m) (w.heap.size + 3) (List.replicate 5 0) := by
  show ((threeW w n m).heap.push _)[_]? = _
  rw [Array.getElem?_push, if_pos (by rw [threeW_size])]
  rfl
theorem fourW_below (w : World) (n m : List Nat) : Below w.heap.size w (fourW w n m) := (threeW_below w n m).alloc (by rw [threeW_size]; omega) _
/-- One part of a product is added at its place. -/
theorem part_low {n m pr : List Nat} {i j : Nat} (hl : pr.length = 5) (hj : j < m.length) (hp : i + j < 5)
    (h : Po.pos Po.B pr % Po.P = (Po.pos Po.B (n.take i) * Po.pos Po.B m + Po.B ^ i * Sp.nth n i * Po.pos Po.B (m.take j)) % Po.P) :
    Po.pos Po.B (pr.set (i + j) (Sp.nth pr (i + j) + Sp.nth n i * Sp.nth m j)) % Po.P = (Po.pos Po.B (n.take i) * Po.pos Po.B m + Po.B ^ i * Sp.nth n i * Po.pos Po.B (m.take (j + 1))) % Po.P := by
  rw [Po.pos_set _ _ _ _ (by omega), Po.pos_take _ hj, Nat.mul_add, ← Nat.add_assoc, Nat.add_mod, h, ← Nat.add_mod]
  congr 2
  rw [Nat.pow_add, Nat.mul_assoc, Nat.mul_assoc]
  congr 1
  rw [← Nat.mul_assoc, ← Nat.mul_assoc, Nat.mul_comm (Po.B ^ j)]
theorem part_high {n m pr : List Nat} {i j p : Nat} (hl : pr.length = 5) (hj : j < m.length) (hp : i + j = p + 5) (hp5 : p < 5)
    (h : Po.pos Po.B pr % Po.P = (Po.pos Po.B (n.take i) * Po.pos Po.B m + Po.B ^ i * Sp.nth n i * Po.pos Po.B (m.take j)) % Po.P) :
    Po.pos Po.B (pr.set p (Sp.nth pr p + 5 * (Sp.nth n i * Sp.nth m j))) % Po.P = (Po.pos Po.B (n.take i) * Po.pos Po.B m + Po.B ^ i * Sp.nth n i * Po.pos Po.B (m.take (j + 1))) % Po.P := by
  have e := Po.place_mod (Sp.nth n i * Sp.nth m j) (i + j) (by omega)
  rw [show i + j - 5 = p from by omega] at e
  have e2 : Po.B ^ (i + j) * (Sp.nth n i * Sp.nth m j) = Po.B ^ i * Sp.nth n i * (Po.B ^ j * Sp.nth m j) := by
    rw [Nat.pow_add, Nat.mul_assoc, Nat.mul_assoc]
    congr 1
    rw [← Nat.mul_assoc, ← Nat.mul_assoc, Nat.mul_comm (Po.B ^ j)]
  rw [Po.pos_set _ _ _ _ (by omega), Po.pos_take _ hj, Nat.mul_add, ← Nat.add_assoc, Nat.add_mod, h, e, ← Nat.add_mod, e2]
theorem mul_le_53 {y z : Nat} (hy : y < 134217728) (hz : z < 67108864) : y * z ≤ 9007199254740992 := by
  have := Nat.mul_le_mul (Nat.le_of_lt hy) (Nat.le_of_lt hz)
  omega
set_option maxHeartbeats 1000000 in
theorem times_any (n m : List Nat) (w : World) (hln : n.length = 5) (hlm : m.length = 5) (hn : ∀ x ∈ n, x < 134217728) (hm : ∀ x ∈ m, x < 67108864) :
    Calls Tryz.prog 148 #[.agg (arr .u64 n), .agg (arr .u64 m)] w fun e w' => ∃ d, e = .returned (.agg (arr .u64 d)) ∧ Wide d ∧ Po.pos Po.B d % Po.P = (Po.pos Po.B n * Po.pos Po.B m) % Po.P ∧ Below w.heap.size w w' := by
  have HLN : Hid (n.length = 5) := hln
  have HLM : Hid (m.length = 5) := hlm
  have HN : Hid (∀ x ∈ n, x < 134217728) := hn
  have HM : Hid (∀ x ∈ m, x < 67108864) := hm
  clear hln hlm hn hm
  go_enter Tryz.func148, Tryz.ntmps148
  go_wp2_with fail
  rw [zeros5_eq, show (((w.alloc (Obj.cells (arr .u64 n) 190)).alloc (Obj.cells (arr .u64 m) 190)).alloc (Obj.cells zeros5 190)).alloc (Obj.cells zeros5 190) = fourW w n m from rfl]
  have H0 : Hid (WAt (fourW w n m) w.heap.size n) := fourW_old w n m (threeW_0 w n m)
  have H1 : Hid (WAt (fourW w n m) (w.heap.size + 1) m) := fourW_old w n m (threeW_1 w n m)
  have H2 : Hid (WAt (fourW w n m) (w.heap.size + 2) (List.replicate 5 0)) := fourW_old w n m (threeW_2 w n m)
  have H3 : Hid (WAt (fourW w n m) (w.heap.size + 3) (List.replicate 5 0)) := fourW_3 w n m
  have HB : Hid (Below w.heap.size w (fourW w n m)) := fourW_below w n m
  generalize fourW w n m = W at *
  go_loopw [10] (fun u wr => ∃ (i : Nat) (pr : List Nat), i ≤ 5 ∧ u = .int .i64 i ∧ Hid (WAt wr (w.heap.size + 3) pr) ∧ Hid (W.grownBy wr (some (w.heap.size + 3))) ∧ Hid (pr.length = 5) ∧ Hid (∀ x ∈ pr, x ≤ 5 * i * 45035996273704960) ∧ Hid (Po.pos Po.B pr % Po.P = (Po.pos Po.B (n.take i) * Po.pos Po.B m) % Po.P)) (fun u _ => 5 - (intOf u).toNat)
  case atStart => exact ⟨0, _, by omega, rfl, H3.out, grownBy_refl _ _, by show _ = _; simp, fun x hx => by simp at hx; omega, by show _ = _; simp [Po.pos, List.replicate]⟩
  case round =>
    clear H3
    obtain ⟨i, pr, hi, rfl, HS, HG, HSL, HSB, HP⟩ := hrel
    by_cases hlt : i < 5
    · have i0 : (0 : Int) ≤ (i : Int) := by omega
      have i1 : (i : Int) < 5 := by omega
      go_wp2_with fail
      go_loopw [13] (fun u wr => ∃ (j : Nat) (pr : List Nat), j ≤ 5 ∧ u = .int .i64 j ∧ Hid (WAt wr (w.heap.size + 3) pr) ∧ Hid (W.grownBy wr (some (w.heap.size + 3))) ∧ Hid (pr.length = 5) ∧ Hid (∀ x ∈ pr, x ≤ (5 * i + j) * 45035996273704960) ∧ Hid (Po.pos Po.B pr % Po.P = (Po.pos Po.B (n.take i) * Po.pos Po.B m + Po.B ^ i * Sp.nth n i * Po.pos Po.B (m.take j)) % Po.P)) (fun u _ => 5 - (intOf u).toNat)
      case atStart => exact ⟨0, pr, by omega, rfl, HS.out, HG.out, HSL.out, HSB.out, by show _ = _; rw [HP.out]; simp [Po.pos]⟩
      case round =>
        clear HS HG HSL HSB HP
        obtain ⟨j, pr, hj, rfl, HS, HG, HSL, HSB, HP⟩ := hrel
        by_cases hjl : j < 5
        · have cn := (H0.out.grown HG.out (by omega)).cell i (by rw [HLN.out]; exact hlt)
          have cm := (H1.out.grown HG.out (by omega)).cell j (by rw [HLM.out]; exact hjl)
          have xn : Sp.nth n i < 134217728 := Sp.nth_lt (by decide) HN.out i
          have xm : Sp.nth m j < 67108864 := Sp.nth_lt (by decide) HM.out j
          have hv := mul_le_53 xn xm
          have e1 : ((Sp.nth n i : Nat) : Int) * ((Sp.nth m j : Nat) : Int) = ((Sp.nth n i * Sp.nth m j : Nat) : Int) := by simp
          have j0 : (0 : Int) ≤ (j : Int) := by omega
          have j1 : (j : Int) < 5 := by omega
          by_cases h5 : i + j < 5
          · have hnp : Sp.nth pr (i + j) < (5 * i + j) * 45035996273704960 + 1 := Sp.nth_lt (by omega) (fun x hx => by have := HSB.out x hx; omega) (i + j)
            have cp := HS.out.cell (i + j) (by rw [HSL.out]; exact h5)
            have fp := HS.out.may (i + j)
            have HS2 : Hid (WAt (((wr.drewN 1).setCell ⟨w.heap.size + 3, i + j, none⟩ (.int .u64 ((Sp.nth pr (i + j) + Sp.nth n i * Sp.nth m j : Nat) : Int)))) (w.heap.size + 3) (pr.set (i + j) (Sp.nth pr (i + j) + Sp.nth n i * Sp.nth m j))) := (HS.out.drewN 1).set _ _
            have HG2 : Hid (W.grownBy ((wr.drewN 1).setCell ⟨w.heap.size + 3, i + j, none⟩ (.int .u64 ((Sp.nth pr (i + j) + Sp.nth n i * Sp.nth m j : Nat) : Int))) (some (w.heap.size + 3))) := grownBy_set (grownBy_drewN HG.out 1) _ _
            have HSL2 : Hid ((pr.set (i + j) (Sp.nth pr (i + j) + Sp.nth n i * Sp.nth m j)).length = 5) := by show _ = _; rw [List.length_set]; exact HSL.out
            have HSB2 : Hid (∀ x ∈ pr.set (i + j) (Sp.nth pr (i + j) + Sp.nth n i * Sp.nth m j), x ≤ (5 * i + (j + 1)) * 45035996273704960) := fun x hx => by
              have := set_le HSB.out hv x hx
              omega
            have HP2 : Hid (Po.pos Po.B (pr.set (i + j) (Sp.nth pr (i + j) + Sp.nth n i * Sp.nth m j)) % Po.P = (Po.pos Po.B (n.take i) * Po.pos Po.B m + Po.B ^ i * Sp.nth n i * Po.pos Po.B (m.take (j + 1))) % Po.P) := part_low HSL.out (by rw [HLM.out]; exact hjl) h5 HP.out
            clear HS HG HSL HSB HP
            generalize pr.set (i + j) (Sp.nth pr (i + j) + Sp.nth n i * Sp.nth m j) = pr2 at *
            generalize Sp.nth n i * Sp.nth m j = v at *
            generalize Sp.nth pr (i + j) = old at *
            generalize hy : Sp.nth n i = y at cn xn e1
            generalize Sp.nth m j = z at cm xm e1
            have HY : Hid (Sp.nth n i = y) := hy
            clear hy
            have e2 : ((old + v : Nat) : Int) = (old : Int) + (v : Int) := by omega
            rw [e2] at HS2 HG2
            have p1 : (i : Int) + (j : Int) < 5 := by omega
            have p2 : ((i : Int) + (j : Int)).toNat = i + j := by omega
            have p3 : ¬ 5 ≤ (i : Int) + (j : Int) := by omega
            go_wp2_with fail
            go_region
            go_wp2_with fail
            go_roundw
            case rel => exact ⟨j + 1, pr2, by omega, by go_num, HS2.out, HG2.out, HSL2.out, HSB2.out, by show _ = _; rw [← HY.out]; exact HP2.out⟩
            case measure => simp [intOf]; omega
          · obtain ⟨p, hpp⟩ : ∃ p, i + j - 5 = p := ⟨_, rfl⟩
            have hp : i + j = p + 5 := by omega
            have hp5 : p < 5 := by omega
            clear hpp
            have hnp : Sp.nth pr p < (5 * i + j) * 45035996273704960 + 1 := Sp.nth_lt (by omega) (fun x hx => by have := HSB.out x hx; omega) p
            have cp := HS.out.cell p (by rw [HSL.out]; exact hp5)
            have fp := HS.out.may p
            have HS2 : Hid (WAt (((wr.drewN 1).setCell ⟨w.heap.size + 3, p, none⟩ (.int .u64 ((Sp.nth pr p + 5 * (Sp.nth n i * Sp.nth m j) : Nat) : Int)))) (w.heap.size + 3) (pr.set p (Sp.nth pr p + 5 * (Sp.nth n i * Sp.nth m j)))) := (HS.out.drewN 1).set _ _
            have HG2 : Hid (W.grownBy ((wr.drewN 1).setCell ⟨w.heap.size + 3, p, none⟩ (.int .u64 ((Sp.nth pr p + 5 * (Sp.nth n i * Sp.nth m j) : Nat) : Int))) (some (w.heap.size + 3))) := grownBy_set (grownBy_drewN HG.out 1) _ _
            have HSL2 : Hid ((pr.set p (Sp.nth pr p + 5 * (Sp.nth n i * Sp.nth m j))).length = 5) := by show _ = _; rw [List.length_set]; exact HSL.out
            have HSB2 : Hid (∀ x ∈ pr.set p (Sp.nth pr p + 5 * (Sp.nth n i * Sp.nth m j)), x ≤ (5 * i + (j + 1)) * 45035996273704960) := fun x hx => by
              have := set_le HSB.out (show 5 * (Sp.nth n i * Sp.nth m j) ≤ 45035996273704960 by omega) x hx
              omega
            have HP2 : Hid (Po.pos Po.B (pr.set p (Sp.nth pr p + 5 * (Sp.nth n i * Sp.nth m j))) % Po.P = (Po.pos Po.B (n.take i) * Po.pos Po.B m + Po.B ^ i * Sp.nth n i * Po.pos Po.B (m.take (j + 1))) % Po.P) := part_high HSL.out (by rw [HLM.out]; exact hjl) hp hp5 HP.out
            clear HS HG HSL HSB HP
            generalize pr.set p (Sp.nth pr p + 5 * (Sp.nth n i * Sp.nth m j)) = pr2 at *
            generalize Sp.nth n i * Sp.nth m j = v at *
            generalize Sp.nth pr p = old at *
            generalize hy : Sp.nth n i = y at cn xn e1
            generalize Sp.nth m j = z at cm xm e1
            have HY : Hid (Sp.nth n i = y) := hy
            clear hy
            have e2 : ((old + 5 * v : Nat) : Int) = (old : Int) + (v : Int) * 5 := by omega
            rw [e2] at HS2 HG2
            have p1 : (i : Int) + (j : Int) - 5 = (p : Int) := by omega
            have p2 : (0 : Int) ≤ (p : Int) := by omega
            have p3 : 5 ≤ (i : Int) + (j : Int) := by omega
            have p4 : (p : Int) < 5 := by omega
            clear hp h5
            go_wp2_with fail
            go_region
            go_wp2_with fail
            go_roundw
            case rel => exact ⟨j + 1, pr2, by omega, by go_num, HS2.out, HG2.out, HSL2.out, HSB2.out, by show _ = _; rw [← HY.out]; exact HP2.out⟩
            case measure => simp [intOf]; omega
        · obtain rfl : j = 5 := by omega
          have h6 : m.take 5 = m := List.take_of_length_le (by rw [HLM.out]; exact Nat.le_refl _)
          have HP6 : Hid (Po.pos Po.B pr % Po.P = (Po.pos Po.B (n.take (i + 1)) * Po.pos Po.B m) % Po.P) := by
            show _ = _
            rw [HP.out, h6, Po.pos_take _ (by rw [HLN.out]; exact hlt), Nat.add_mul]
          have HSB6 : Hid (∀ x ∈ pr, x ≤ 5 * (i + 1) * 45035996273704960) := fun x hx => by
            have := HSB.out x hx
            omega
          clear HP h6 HSB
          go_wp2_with fail
          go_roundw
          case rel => exact ⟨i + 1, pr, by omega, by go_num, HS.out, HG.out, HSL.out, HSB6.out, HP6.out⟩
          case measure => simp [intOf]; omega
    · obtain rfl : i = 5 := by omega
      have h6 : n.take 5 = n := List.take_of_length_le (by rw [HLN.out]; exact Nat.le_refl _)
      have hp := HP.out
      rw [h6] at hp
      have HP6 : Hid (Po.pos Po.B pr % Po.P = (Po.pos Po.B n * Po.pos Po.B m) % Po.P) := hp
      have H6 : Hid (WAt wr (w.heap.size + 2) (List.replicate 5 0)) := H2.out.grown HG.out (by omega)
      have HB6 : Hid (Below w.heap.size w wr) := below_grown HB.out HG.out (by omega)
      have HC := fold_any pr (w.heap.size + 3) wr HS.out HSL.out (fun x hx => by have := HSB.out x hx; omega)
      clear hp h6 HP HS HG HSB HB H0 H1 H2 HN HM
      go_wp2_with fail
      refine HC.mono ?_
      rintro e w1 ⟨rfl, d, hwd, hpd, hw1, hg1⟩
      clear HC
      have HD : Hid (Wide d) := hwd
      have HPD : Hid (Po.pos Po.B d % Po.P = (Po.pos Po.B n * Po.pos Po.B m) % Po.P) := hpd.trans HP6.out
      have HDL : Hid (d.length = 5) := hwd.1
      have H7 : Hid (WAt w1 (w.heap.size + 3) d) := hw1
      have H8 : Hid (WAt w1 (w.heap.size + 2) (List.replicate 5 0)) := H6.out.grown hg1 (by omega)
      have HB8 : Hid (Below w.heap.size w w1) := below_grown HB6.out hg1 (by omega)
      clear hwd hpd hw1 hg1 H6 HB6 HP6
      go_wp2_with (first | with_reducible (refine stop_load 190 ?_))
      refine Stop.go ?_
      with_reducible refine law_load_arr (w.heap.size + 3) 0 .u64 d _ ?ux ?uc under38 rfl ?ui ?uk
      case ux => exact rfl
      case uc => exact rangeAt_of_row H7.out
      case ui => rw [HDL.out]; exact info38
      go_wp2_with (first | with_reducible (refine stop_store 190 ?_))
      refine Stop.go ?_
      with_reducible refine law_store (w.heap.size + 2) 0 (arr .u64 d) ?tx ?ty ?tt ?ti (ints_one _ _) ?tk
      case tx => exact rfl
      case ty => exact rfl
      case tt => rw [arr_size, HDL.out]; exact there_of_row H8.out 5 (by simp [arr_size])
      case ti => rw [arr_size, HDL.out]; exact info38
      go_wp2_with fail
      refine bodyPost_ret (v := .agg (arr .u64 d)) (results_row rfl _ _ (w.heap.size + 2) 0 (ints .u64 d) _ rfl ?_ under38 rfl ?_) rfl ⟨d, rfl, HD.out, HPD.out, ?_⟩
      · exact World.rangeAt_setCells_same _ _ _ _ (by rw [arr_list, ints_length, HDL.out]; exact there_of_row H8.out 5 (by simp [arr_size]))
      · rw [ints_length, HDL.out]; exact info38
      · exact Below.setCells _ _ _ HB8.out (by omega)
end Go.Proofs.YtfjdaafckiefdaaGreatDoor.P4
/- The contract of least. -/
namespace Go.Proofs.YtfjdaafckiefdaaGreatDoor.P4
open Go.RowKit
theorem wide_lt {d : List Nat} (h : Wide d) : Po.pos Po.B d < Po.B ^ 5 := by
  have := Po.pos_lt (b := Po.B) (by decide) h.2
  rw [h.1] at this
  exact this
def lstW (w : World) (n : List Nat) : World := (w.alloc (Obj.cells (arr .u64 n) 190)).alloc (Obj.cells zeros5 190)
theorem lstW_0 (w : World) (s : List Nat) : WAt (lstW w s) w.heap.size s := by
  show ((w.heap.push _).push _)[_]? = _
  rw [Array.getElem?_push_lt (by simp), Array.getElem_push_eq]
theorem lstW_1 (w : World) (s : List Nat) : WAt (lstW w s) (w.heap.size + 1) (List.replicate 5 0) := by
  show ((w.heap.push _).push _)[_]? = _
  rw [Array.getElem?_push, if_pos (by simp)]
  rfl
theorem lstW_below (w : World) (s : List Nat) : Below w.heap.size w (lstW w s) := ((Below.refl _ _).alloc (Nat.le_refl _) _).alloc (by simp) _
theorem lstW_size (w : World) (s : List Nat) : (lstW w s).heap.size = w.heap.size + 2 := by simp [lstW]
/-- A new variable that a number is stored in. -/
theorem new38 (w : World) (d : List Nat) (hd : d.length = 5) : WAt (World.setCells (w.alloc (Obj.cells zeros5 190)) w.heap.size 0 (arr .u64 d).toList) w.heap.size d ∧ Below w.heap.size w (World.setCells (w.alloc (Obj.cells zeros5 190)) w.heap.size 0 (arr .u64 d).toList) ∧ (World.setCells (w.alloc (Obj.cells zeros5 190)) w.heap.size 0 (arr .u64 d).toList).heap.size = w.heap.size + 1 := by
  have hz0 : WAt (w.alloc (Obj.cells zeros5 190)) w.heap.size (List.replicate 5 0) := heap_alloc_new w _
  refine ⟨?_, Below.setCells _ _ _ ((Below.refl _ _).alloc (Nat.le_refl _) _) (Nat.le_refl _), ?_⟩
  · have := heap_setCells w.heap.size 190 (ints .u64 d) 0 (w.alloc (Obj.cells zeros5 190)) (ints .u64 (List.replicate 5 0)) hz0 (by rw [ints_length, ints_length, hd]; simp)
    show _ = _
    rw [arr_list]
    refine Eq.trans this ?_
    rw [ints_length, hd]
    simp [arr, ints]
  · have : ∀ (vs : List Value) (o : Nat) (w : World) (g : Nat), (w.setCells g o vs).heap.size = w.heap.size := by
      intro vs
      induction vs with
      | nil => intros; rfl
      | cons v vs ih => intro o w g; rw [World.setCells, ih]; simp [World.setCell]
    rw [this]; simp
theorem there38 (w : World) : (w.alloc (Obj.cells zeros5 190)).there w.heap.size 0 5 := there_of_row (heap_alloc_new w _) 5 (by simp [zeros5, arr_size])
theorem mod_once {v : Nat} (h : v < Po.B ^ 5) (h' : Po.B ^ 5 ≤ v + 5) : v + 5 - Po.B ^ 5 = v % Po.P := by
  have e := Po.B5
  rw [e] at h h' ⊢
  have : v % Po.P = v - Po.P := by
    rw [Nat.mod_eq_sub_mod (by omega), Nat.mod_eq_of_lt]
    have : Po.P = 1361129467683753853853498429727072845819 := rfl
    omega
  omega
set_option maxHeartbeats 1000000 in
theorem least_any (n : List Nat) (w : World) (hn : Wide n) :
    Calls Tryz.prog 149 #[.agg (arr .u64 n)] w fun e w' => ∃ d, e = .returned (.agg (arr .u64 d)) ∧ Wide d ∧ Po.pos Po.B d = Po.pos Po.B n % Po.P ∧ Below w.heap.size w w' := by
  have HN : Hid (Wide n) := hn
  have HNL : Hid (n.length = 5) := hn.1
  clear hn
  go_enter Tryz.func149, Tryz.ntmps149
  go_wp2_with (first | with_reducible (refine stop_load 190 ?_))
  rw [zeros5_eq]
  refine Stop.go ?_
  rw [show (w.alloc (Obj.cells (arr .u64 n) 190)).alloc (Obj.cells zeros5 190) = lstW w n from rfl]
  have H0 : Hid (WAt (lstW w n) w.heap.size n) := lstW_0 w n
  have H1 : Hid (WAt (lstW w n) (w.heap.size + 1) (List.replicate 5 0)) := lstW_1 w n
  have HB : Hid (Below w.heap.size w (lstW w n)) := lstW_below w n
  have HSZ : Hid ((lstW w n).heap.size = w.heap.size + 2) := lstW_size w n
  generalize lstW w n = W at *
  with_reducible refine law_load_arr w.heap.size 0 .u64 n _ ?lx ?lc under38 rfl ?li ?lk
  case lx => exact rfl
  case lc => exact rangeAt_of_row H0.out
  case li => rw [HNL.out]; exact info38
  go_wp2_with (first | with_reducible (refine stop_store 190 ?_))
  rw [zeros5_eq]
  refine Stop.go ?_
  with_reducible refine law_store W.heap.size 0 (arr .u64 n) ?sx ?sy ?st ?si (ints_one _ _) ?sk
  case sx => exact rfl
  case sy => exact rfl
  case st => rw [arr_size, HNL.out]; exact there38 W
  case si => rw [arr_size, HNL.out]; exact info38
  obtain ⟨h1, h2, h3⟩ := new38 W n HNL.out
  have H2 : Hid (WAt (World.setCells (W.alloc (Obj.cells zeros5 190)) W.heap.size 0 (arr .u64 n).toList) W.heap.size n) := h1
  have H3 : Hid (WAt (World.setCells (W.alloc (Obj.cells zeros5 190)) W.heap.size 0 (arr .u64 n).toList) w.heap.size n) := H0.out.below h2 H0.out.lt
  have H4 : Hid (WAt (World.setCells (W.alloc (Obj.cells zeros5 190)) W.heap.size 0 (arr .u64 n).toList) (w.heap.size + 1) (List.replicate 5 0)) := H1.out.below h2 H1.out.lt
  have HB2 : Hid (Below w.heap.size w (World.setCells (W.alloc (Obj.cells zeros5 190)) W.heap.size 0 (arr .u64 n).toList)) := HB.out.trans (h2.mono (by have := HSZ.out; omega))
  clear h1 h2 h3 H0 H1 HB
  generalize World.setCells (W.alloc (Obj.cells zeros5 190)) W.heap.size 0 (arr .u64 n).toList = W2 at *
  have hsz := HSZ.out
  clear HSZ
  generalize W.heap.size = g3 at *
  subst hsz
  have c0 := H2.out.cell 0 (by rw [HNL.out]; decide)
  have f0 := H2.out.may 0
  have x0 : Sp.nth n 0 < 67108864 := Sp.nth_lt (by decide) HN.out.2 0
  have HS : Hid (WAt (W2.setCell ⟨w.heap.size + 2, 0, none⟩ (.int .u64 ((Sp.nth n 0 + 5 : Nat) : Int))) (w.heap.size + 2) (n.set 0 (Sp.nth n 0 + 5))) := H2.out.set 0 _
  have hgr : W2.grownBy (W2.setCell ⟨w.heap.size + 2, 0, none⟩ (.int .u64 ((Sp.nth n 0 + 5 : Nat) : Int))) (some (w.heap.size + 2)) := grownBy_set (grownBy_refl _ _) _ _
  have H5 : Hid (WAt (W2.setCell ⟨w.heap.size + 2, 0, none⟩ (.int .u64 ((Sp.nth n 0 + 5 : Nat) : Int))) w.heap.size n) := H3.out.grown hgr (by omega)
  have H6 : Hid (WAt (W2.setCell ⟨w.heap.size + 2, 0, none⟩ (.int .u64 ((Sp.nth n 0 + 5 : Nat) : Int))) (w.heap.size + 1) (List.replicate 5 0)) := H4.out.grown hgr (by omega)
  have HB3 : Hid (Below w.heap.size w (W2.setCell ⟨w.heap.size + 2, 0, none⟩ (.int .u64 ((Sp.nth n 0 + 5 : Nat) : Int)))) := below_grown HB2.out hgr (by omega)
  have HPS : Hid (Po.pos Po.B (n.set 0 (Sp.nth n 0 + 5)) = Po.pos Po.B n + 5) := by
    have := Po.pos_set Po.B n 0 5 (by rw [HNL.out]; decide)
    rw [Nat.pow_zero, Nat.one_mul] at this
    exact this
  have HSL : Hid ((n.set 0 (Sp.nth n 0 + 5)).length = 5) := by show _ = _; rw [List.length_set]; exact HNL.out
  have HSB : Hid (∀ x ∈ n.set 0 (Sp.nth n 0 + 5), x < 9223372036854775808) := fun x hx => by
    have := set_le (a := 67108864) (fun y hy => Nat.le_of_lt (HN.out.2 y hy)) (Nat.le_refl 5) x hx
    omega
  clear hgr H2 H3 H4 HB2
  generalize n.set 0 (Sp.nth n 0 + 5) = n5 at *
  generalize Sp.nth n 0 = y at *
  have e1 : ((y + 5 : Nat) : Int) = (y : Int) + 5 := by omega
  rw [e1] at HS H5 H6 HB3
  go_wp2_with fail
  generalize W2.setCell ⟨w.heap.size + 2, 0, none⟩ (.int .u64 ((y : Int) + 5)) = W3 at *
  clear c0 f0
  refine (carry_any n5 (w.heap.size + 2) W3 HS.out HSL.out HSB.out).mono ?_
  rintro e w1 ⟨d, ov, rfl, hcd, hw1, hg1⟩
  have HD : Hid (Carried n5 d ov) := hcd
  have HDL : Hid (d.length = 5) := hcd.1
  have H7 : Hid (WAt w1 (w.heap.size + 2) d) := hw1
  have H8 : Hid (WAt w1 w.heap.size n) := H5.out.grown hg1 (by omega)
  have H9 : Hid (WAt w1 (w.heap.size + 1) (List.replicate 5 0)) := H6.out.grown hg1 (by omega)
  have HB9 : Hid (Below w.heap.size w w1) := below_grown HB3.out hg1 (by omega)
  have hv : ov < 274877906944 := hcd.2.2.2
  clear hcd hw1 hg1 HS H5 H6 HB3
  by_cases h0 : 0 < ov
  · have o0 : (0 : Int) < (ov : Int) := by omega
    go_wp2_with (first | with_reducible (refine stop_load 190 ?_))
    refine Stop.go ?_
    with_reducible refine law_load_arr (w.heap.size + 2) 0 .u64 d _ ?ux ?uc under38 rfl ?ui ?uk
    case ux => exact rfl
    case uc => exact rangeAt_of_row H7.out
    case ui => rw [HDL.out]; exact info38
    go_wp2_with (first | with_reducible (refine stop_store 190 ?_))
    refine Stop.go ?_
    with_reducible refine law_store (w.heap.size + 1) 0 (arr .u64 d) ?tx ?ty ?tt ?ti (ints_one _ _) ?tk
    case tx => exact rfl
    case ty => exact rfl
    case tt => rw [arr_size, HDL.out]; exact there_of_row H9.out 5 (by simp [arr_size])
    case ti => rw [arr_size, HDL.out]; exact info38
    go_wp2_with fail
    refine bodyPost_ret (v := .agg (arr .u64 d)) (results_row rfl _ _ (w.heap.size + 1) 0 (ints .u64 d) _ rfl ?_ under38 rfl ?_) rfl ⟨d, rfl, ⟨HD.out.1, HD.out.2.1⟩, ?_, ?_⟩
    · exact World.rangeAt_setCells_same _ _ _ _ (by rw [arr_list, ints_length, HDL.out]; exact there_of_row H9.out 5 (by simp [arr_size]))
    · rw [ints_length, HDL.out]; exact info38
    · have h1 := HD.out.2.2.1
      rw [HPS.out] at h1
      have h2 := wide_lt HN.out
      have h3 : ov = 1 := by
        have h5 : Po.B ^ 5 = 1361129467683753853853498429727072845824 := by decide
        rw [h5] at h1 h2
        omega
      rw [h3, Nat.mul_one] at h1
      rw [← mod_once h2 (by omega)]
      omega
    · exact Below.setCells _ _ _ HB9.out (by omega)
  · have o0 : ¬ (0 : Int) < (ov : Int) := by omega
    go_wp2_with (first | with_reducible (refine stop_load 190 ?_))
    refine Stop.go ?_
    with_reducible refine law_load_arr w.heap.size 0 .u64 n _ ?vx ?vc under38 rfl ?vi ?vk
    case vx => exact rfl
    case vc => exact rangeAt_of_row H8.out
    case vi => rw [HNL.out]; exact info38
    go_wp2_with (first | with_reducible (refine stop_store 190 ?_))
    refine Stop.go ?_
    with_reducible refine law_store (w.heap.size + 1) 0 (arr .u64 n) ?rx ?ry ?rt ?ri (ints_one _ _) ?rk
    case rx => exact rfl
    case ry => exact rfl
    case rt => rw [arr_size, HNL.out]; exact there_of_row H9.out 5 (by simp [arr_size])
    case ri => rw [arr_size, HNL.out]; exact info38
    go_wp2_with fail
    refine bodyPost_ret (v := .agg (arr .u64 n)) (results_row rfl _ _ (w.heap.size + 1) 0 (ints .u64 n) _ rfl ?_ under38 rfl ?_) rfl ⟨n, rfl, HN.out, ?_, ?_⟩
    · exact World.rangeAt_setCells_same _ _ _ _ (by rw [arr_list, ints_length, HNL.out]; exact there_of_row H9.out 5 (by simp [arr_size]))
    · rw [ints_length, HNL.out]; exact info38
    · have h1 := HD.out.2.2.1
      rw [HPS.out] at h1
      have h3 : ov = 0 := by omega
      rw [h3, Nat.mul_zero, Nat.add_zero] at h1
      have h2 := wide_lt (d := d) ⟨HD.out.1, HD.out.2.1⟩
      rw [Po.B5] at h2
      exact (Nat.mod_eq_of_lt (by omega)).symm
    · exact Below.setCells _ _ _ HB9.out (by omega)
end Go.Proofs.YtfjdaafckiefdaaGreatDoor.P4
/- append to a row of one's own: bytes and numbers. -/
namespace Go.Proofs.YtfjdaafckiefdaaGreatDoor.P4
open Go.RowKit
theorem own_slice {w : World} {base e size : Nat} {v : Value} {n : Nat} {xs : List Value} (h : w.ownsRow base e size v n xs) : ∃ q c, v = .slice q n c := by
  obtain ⟨_, ⟨rfl, rfl⟩ | ⟨g, cap, cur, rfl, _⟩⟩ := h
  · exact ⟨none, 0, rfl⟩
  · exact ⟨_, cap, rfl⟩
theorem own_none (w : World) (base e size : Nat) : w.ownsRow base e size (.slice none 0 0) 0 [] := ⟨by simp, .inl ⟨rfl, rfl⟩⟩
theorem own_below {w w' : World} {base e size : Nat} {v : Value} {n : Nat} {xs : List Value} (h : w.ownsRow base e size v n xs) (hb : Below w.heap.size w w') : w'.ownsRow base e size v n xs :=
  h.kept (row := none) ⟨hb.os, hb.tape, hb.output, hb.size, fun k hk _ => hb.block k hk⟩ (by cases hv : v.ownBlock <;> simp)
theorem own_cell {w : World} {base : Nat} {v : Value} {k : IntKind} {e n : Nat} {l : List Nat} (h : w.ownsRow base e 1 v n (ints k l)) (hn : 0 < n) : ∃ g c, v = .slice (some ⟨g, 0, none⟩) n c ∧ base ≤ g ∧ g < w.heap.size ∧ n ≤ c ∧ w.rangeAt g 0 (ints k l) := by
  obtain ⟨hl, ⟨rfl, h0⟩ | ⟨g, cap, cur, rfl, hg, hh, hn, hm, hc, ht⟩⟩ := h
  · omega
  · refine ⟨g, cap, rfl, hg, (Array.getElem?_eq_some_iff.1 hh).1, hn, fun j u hu => ?_⟩
    rw [cell_of_row _ _ _ _ _ _ hh, Nat.zero_add]
    have hj := (List.getElem?_eq_some_iff.1 hu).1
    rw [← ht, Nat.mul_one, List.getElem?_take_of_lt (by rw [hl] at hj; omega)] at hu
    simpa using hu
theorem below_grown' {B base : Nat} {a w w' : World} {v : Value} {e size n : Nat} {xs : List Value} (h : Below B a w) (hg : w.grownBy w' v.ownBlock) (hown : w.ownsRow base e size v n xs) (hB : B ≤ w.heap.size) (hb : B ≤ base) : Below B a w' :=
  h.grown hg hB (fun k hk => Nat.le_trans hb (hown.lt k hk).1)
theorem info5e : ∃ i, Tryz.prog.info? 5 = some i ∧ i.size = 1 ∧ i.bytes = 1 ∧ i.zero = some (.int .u8 0) := info_of (by kernel_rfl)
theorem law_append_bytes {ops : Array Oper} {rest : List Oper} {dst : Option Tmp} {T : TypeId} {pos : String} {after : Array Edge} {a : Act} {w : World} {Q : Exit → Act → World → Prop} {st xt : Tmp}
    (base : Nat) (v : Value) (n : Nat) (l : List Nat) (g c : Nat) (m : Nat) (news : List Nat) (hs : a.eval (.tmp st) = v) (hx : a.eval (.tmp xt) = .slice (some ⟨g, 0, none⟩) m c) (hm : news.length = m) (hown : w.ownsRow base 5 1 v n (ints .u8 l)) (hr : w.rangeAt g 0 (ints .u8 news))
    (hn : n + m ≤ 100000) (hbase : base ≤ w.heap.size)
    (h : ∀ v' w', w'.ownsRow base 5 1 v' (n + m) (ints .u8 (l ++ news)) → w.grownBy w' v.ownBlock → wpList Tryz.prog ops Q rest (a.put dst v') w') :
    wpList Tryz.prog ops Q ({ dst := dst, op := .call { callee := .builtin .append, args := #[.tmp st, .tmp xt], argTypes := #[22, 22] }, type := T, pos := pos, after := after, guard := none } :: rest) a w := by
  obtain ⟨i, hi, hsz, hby, hz⟩ := info5e
  refine wpList_append_own _ rfl (.tmp st) (.tmp xt) 22 rfl base 5 i _ 1 1 Tryz.underlying22 hi hz hsz hby rfl (by decide) v n (ints .u8 l) hs hown ⟨g, 0, none⟩ m c (ints .u8 news) hx (by rw [ints_length]; omega) (fun j u hu => by rw [Addr.add_mid]; exact hr j u hu) (fun u hu => by obtain ⟨q, _, rfl⟩ := List.mem_map.1 hu; rfl) (by unfold maxLen; omega) (by omega) hbase (fun v' w' h1 h2 _ => h v' w' (by rw [ints_append]; exact h1) h2)
end Go.Proofs.YtfjdaafckiefdaaGreatDoor.P4
/- The contract of bytes: a number's sixteen bytes. -/
namespace Go.Proofs.YtfjdaafckiefdaaGreatDoor.P4
open Go.RowKit
theorem or_put {h d b : Nat} (hh : h < 2 ^ b) (hb : b < 8) (hd : d < 67108864) : bits BinOp.or .u64 (h : Int) ((d * 2 ^ b : Nat) : Int) = ((h + d * 2 ^ b : Nat) : Int) := by
  have h1 : 2 ^ b ≤ 2 ^ 8 := Nat.pow_le_pow_right (by decide) (by omega)
  have h2 : d * 2 ^ b ≤ 67108864 * 2 ^ 8 := Nat.mul_le_mul (by omega) h1
  rw [u64_or_nat _ _ (by omega) (by omega)]
  congr 1
  rw [Nat.or_comm, Nat.mul_comm, Nat.add_comm]
  exact (Nat.two_pow_add_eq_or_of_lt hh d).symm
theorem put_lt {h d b : Nat} (hh : h < 2 ^ b) (hd : d < 67108864) : h + d * 2 ^ b < 2 ^ (b + 26) := by
  have : (d + 1) * 2 ^ b ≤ 67108864 * 2 ^ b := Nat.mul_le_mul_right _ hd
  rw [Nat.add_mul] at this
  rw [Nat.pow_add, Nat.mul_comm (2 ^ b)]
  show _ < 67108864 * 2 ^ b
  omega
theorem pow_bits (L b k : Nat) (h : 8 * L + b = 26 * k) : 256 ^ L * 2 ^ b = Po.B ^ k := by
  rw [show Po.B = 2 ^ 26 from rfl, show (256 : Nat) = 2 ^ 8 from rfl, ← Nat.pow_mul, ← Nat.pow_mul, ← Nat.pow_add, h]
theorem pow_small {b : Nat} (h : b ≤ 33) : 2 ^ b ≤ 8589934592 := Nat.pow_le_pow_right (n := 2) (j := 33) (by decide) h
/-- What is told so far, and what is held. -/
structure Told (n : List Nat) (k : Nat) (out : List Nat) (L h b : Nat) : Prop where
  len : out.length = L
  small : ∀ x ∈ out, x < 256
  bits : 8 * L + b = 26 * k
  held : h < 2 ^ b
  val : Po.pos 256 out + 256 ^ L * h = Po.pos Po.B (n.take k)
theorem Told.put {n out : List Nat} {k L h b : Nat} (t : Told n k out L h b) (hk : k < n.length) (hn : ∀ x ∈ n, x < 67108864) : Told n (k + 1) out L (h + Sp.nth n k * 2 ^ b) (b + 26) where
  len := t.len
  small := t.small
  bits := by have := t.bits; omega
  held := put_lt t.held (Sp.nth_lt (by decide) hn k)
  val := by
    rw [Po.pos_take _ hk, ← t.val, ← pow_bits L b k t.bits, Nat.mul_add, Nat.add_assoc]
    congr 2
    rw [Nat.mul_assoc, Nat.mul_comm (2 ^ b)]
theorem Told.tell {n out : List Nat} {k L h b : Nat} (t : Told n k out L h b) (hb : 8 ≤ b) : Told n k (out ++ [h % 256]) (L + 1) (h / 256) (b - 8) where
  len := by simp [t.len]
  small := fun x hx => by
    rcases List.mem_append.1 hx with h1 | h1
    · exact t.small x h1
    · rw [List.mem_singleton.1 h1]; exact Nat.mod_lt _ (by decide)
  bits := by have := t.bits; omega
  held := by
    have h1 := t.held
    rw [show b = (b - 8) + 8 from by omega, Nat.pow_add] at h1
    exact Nat.div_lt_of_lt_mul (by rw [Nat.mul_comm]; exact h1)
  val := by
    rw [← t.val, Po.pos_snoc, t.len, Nat.pow_succ, Nat.mul_assoc, Nat.add_assoc, ← Nat.mul_add]
    congr 2
    have := Nat.mod_add_div h 256
    omega
theorem Told.done {n out : List Nat} {L h b : Nat} (t : Told n 5 out L h b) (hb : b < 8) (hn : n.length = 5) : L = 16 ∧ out = Po.digs 256 16 (Po.pos Po.B n) := by
  have hL : L = 16 := by have := t.bits; omega
  refine ⟨hL, Po.digs_of (by decide) t.small (t.len.trans hL) ?_⟩
  have h1 := t.val
  rw [List.take_of_length_le (by omega), hL] at h1
  rw [← h1, Nat.add_mul_mod_self_left, Nat.mod_eq_of_lt]
  have := Po.pos_lt (b := 256) (by decide) t.small
  rw [t.len, hL] at this
  exact this
set_option maxHeartbeats 1000000 in
theorem bytes_any (n : List Nat) (w : World) (hn : Wide n) :
    Calls Tryz.prog 152 #[.agg (arr .u64 n)] w fun e w' => ∃ v, e = .returned v ∧ w'.ownsRow w.heap.size 5 1 v 16 (ints .u8 (Po.digs 256 16 (Po.pos Po.B n))) ∧ Below w.heap.size w w' := by
  have HN : Hid (∀ x ∈ n, x < 67108864) := hn.2
  have HNL : Hid (n.length = 5) := hn.1
  have HI : Hid (∀ k, k < 5 → ∀ w, (Instr.index 190 (.agg (arr .u64 n)) (.int .i64 (k : Nat))).run Tryz.prog w = .ok (.int .u64 (Sp.nth n k : Nat)) w) := fun k hk w => run_index_arr 190 144 5 .u64 n k under38 (by kernel_rfl) (by kernel_rfl) hn.1 hk w
  clear hn
  obtain ⟨R, hR⟩ : ∃ R, Po.digs 256 16 (Po.pos Po.B n) = R := ⟨_, rfl⟩
  rw [hR]
  have HR : Hid (Po.digs 256 16 (Po.pos Po.B n) = R) := hR
  clear hR
  obtain ⟨i5, hi5, hs5, hb5, hz5⟩ := info5e
  have H5 : Hid (Tryz.prog.info? 5 = some i5 ∧ i5.size = 1 ∧ i5.bytes = 1 ∧ i5.zero = some (.int .u8 0)) := ⟨hi5, hs5, hb5, hz5⟩
  clear hi5 hs5 hb5 hz5
  go_enter Tryz.func152, Tryz.ntmps152
  go_wp2_with (first | (at_make; refine wpList_make_own (w.alloc (Obj.cells (arr .u64 n) 190)) rfl _ _ 22 rfl w.heap.size 5 i5 (.int .u8 0) 1 Tryz.underlying22 H5.out.1 H5.out.2.2.2 H5.out.2.1 .i64 .i64 16 16 rfl rfl rfl (by rw [H5.out.2.2.1]; decide) (by unfold maxLen; decide) (by simp) ?_; intro w1 ho1 hg1) | with_reducible (refine stop_load 190 ?_))
  have hb0 : Below w.heap.size w (w.alloc (Obj.cells (arr .u64 n) 190)) := (Below.refl _ _).alloc (Nat.le_refl _) _
  have HO1 : Hid (w1.ownsRow w.heap.size 5 1 (.slice (some ⟨w.heap.size + 1, 0, none⟩) 0 16) 0 (ints .u8 [])) := by
    have := ho1
    show World.ownsRow _ _ _ _ _ _ _
    simpa [ints] using this
  have HB1 : Hid (Below w.heap.size w w1) := below_grown' (v := .slice none 0 0) hb0 hg1 (own_none _ w.heap.size 5 1) (by simp) (Nat.le_refl _)
  have HW1 : Hid (WAt w1 w.heap.size n) := by
    have h0 : WAt (w.alloc (Obj.cells (arr .u64 n) 190)) w.heap.size n := heap_alloc_new w _
    exact (hg1.block _ h0.lt (by simp)).trans h0
  clear ho1 hg1 hb0
  refine Stop.go ?_
  with_reducible refine law_load_arr w.heap.size 0 .u64 n _ ?lx ?lc under38 rfl ?li ?lk
  case lx => exact rfl
  case lc => exact rangeAt_of_row HW1.out
  case li => rw [HNL.out]; exact info38
  clear HW1
  go_wp2_with fail
  go_loopw [3, 4, 5, 10] (fun sl hv bv i wr => ∃ (k L h b : Nat) (out : List Nat), k ≤ 5 ∧ i = .int .i64 k ∧ hv = .int .u64 h ∧ bv = .int .i64 b ∧ b < 8 ∧ Hid (Told n k out L h b) ∧ Hid (wr.ownsRow w.heap.size 5 1 sl L (ints .u8 out)) ∧ Hid (Below w.heap.size w wr)) (fun _ _ _ i _ => 5 - (intOf i).toNat)
  case atStart => exact ⟨0, 0, 0, 0, [], by omega, rfl, rfl, rfl, by omega, ⟨rfl, fun x hx => by simp at hx, rfl, by decide, by simp [Po.pos]⟩, HO1.out, HB1.out⟩
  case round =>
    clear HO1 HB1
    obtain ⟨k, L, h, b, out, hk, rfl, rfl, rfl, hb, HT, HO, HB⟩ := hrel
    obtain ⟨q, cq, rfl⟩ := own_slice HO.out
    by_cases hlt : k < 5
    · have hix := HI.out k hlt
      have xk : Sp.nth n k < 67108864 := Sp.nth_lt (by decide) HN.out k
      have hor := or_put HT.out.held hb xk
      have HT2 : Hid (Told n (k + 1) out L (h + Sp.nth n k * 2 ^ b) (b + 26)) := HT.out.put (by rw [HNL.out]; exact hlt) HN.out
      have e1 : ((Sp.nth n k : Nat) : Int) * 2 ^ b = ((Sp.nth n k * 2 ^ b : Nat) : Int) := by simp
      have hv : Sp.nth n k * 2 ^ b < 18446744073709551616 := by
        have h1 : 2 ^ b ≤ 2 ^ 8 := Nat.pow_le_pow_right (by decide) (by omega)
        have h2 : Sp.nth n k * 2 ^ b ≤ 67108864 * 2 ^ 8 := Nat.mul_le_mul (by omega) h1
        omega
      generalize Sp.nth n k * 2 ^ b = v at *
      generalize Sp.nth n k = y at *
      have b0 : (0 : Int) ≤ (b : Int) := by omega
      have b1 : (b : Int) < 8 := by omega
      have k0 : (0 : Int) ≤ (k : Int) := by omega
      have k1 : (k : Int) < 5 := by omega
      clear HT
      go_wp2_with fail
      have e2 : (h : Int) + (v : Int) = ((h + v : Nat) : Int) := by omega
      have e3 : (b : Int) + 26 = ((b + 26 : Nat) : Int) := by omega
      rw [e2, e3]
      clear e2 e3 e1 hor hix
      go_loopw [3, 4, 5] (fun sl hv bv wr => ∃ (L h b : Nat) (out : List Nat), hv = .int .u64 h ∧ bv = .int .i64 b ∧ b ≤ 33 ∧ Hid (Told n (k + 1) out L h b) ∧ Hid (wr.ownsRow w.heap.size 5 1 sl L (ints .u8 out)) ∧ Hid (Below w.heap.size w wr)) (fun _ _ b _ => (intOf b).toNat)
      case atStart => exact ⟨L, h + v, b + 26, out, rfl, rfl, by omega, HT2.out, HO.out, HB.out⟩
      case round =>
        clear HT2 HO HB hb b0 b1 hv
        obtain ⟨L, h, b, out, rfl, rfl, hb, HT, HO, HB⟩ := hrel
        obtain ⟨q, cq, rfl⟩ := own_slice HO.out
        have hL : L ≤ 16 := by have := HT.out.bits; omega
        have hh : h < 8589934592 := Nat.lt_of_lt_of_le HT.out.held (pow_small hb)
        by_cases h8 : 8 ≤ b
        · have h8' : (8 : Int) ≤ (b : Int) := by omega
          have hb' : (b : Int) ≤ 33 := by omega
          have hbn := HB.out.size
          go_wp2_with (first | with_reducible (refine stop_builtin .append ?_))
          refine Stop.go ?_
          have e4 : (h : Int) % 256 = ((h % 256 : Nat) : Int) := by omega
          rw [e4]
          have HO2 : Hid ((wr.alloc (Obj.cells #[.int .u8 ((h % 256 : Nat) : Int)] 5)).ownsRow w.heap.size 5 1 (.slice q L cq) L (ints .u8 out)) := ownsRow_alloc HO.out _
          have HB2 : Hid (Below w.heap.size w (wr.alloc (Obj.cells #[.int .u8 ((h % 256 : Nat) : Int)] 5))) := HB.out.alloc hbn _
          refine law_append_bytes w.heap.size (.slice q L cq) L out wr.heap.size 1 1 [h % 256] rfl rfl rfl HO2.out (rangeAt_of_row (heap_alloc_new wr _)) (by omega) (by simp; omega) ?_
          intro v' w' hown' hg'
          have HO3 : Hid (w'.ownsRow w.heap.size 5 1 v' (L + 1) (ints .u8 (out ++ [h % 256]))) := hown'
          have HB3 : Hid (Below w.heap.size w w') := below_grown' HB2.out hg' HO2.out (by simp; omega) (Nat.le_refl _)
          have HT3 : Hid (Told n (k + 1) (out ++ [h % 256]) (L + 1) (h / 256) (b - 8)) := HT.out.tell h8
          clear hown' hg' HO HB HO2 HB2 HT e4
          go_wp2_with fail
          go_roundw
          case rel =>
            (repeat apply Exists.intro)
            refine ⟨⟨L + 1, h / 256, b - 8, out ++ [h % 256], ?_, ?_, by omega, HT3.out, HO3.out, HB3.out⟩, rfl⟩
            · go_num
            · go_num
          case measure => simp [intOf]; omega
        · have h8' : ¬ (8 : Int) ≤ (b : Int) := by omega
          go_wp2_with fail
          go_roundw
          case rel => exact ⟨k + 1, L, h, b, out, by omega, by go_num, rfl, rfl, by omega, HT.out, HO.out, HB.out⟩
          case measure => simp [intOf]; omega
    · obtain rfl : k = 5 := by omega
      obtain ⟨hL, ho⟩ := HT.out.done hb HNL.out
      subst hL
      have h1 := HO.out
      rw [ho, HR.out] at h1
      have HO1 : Hid (wr.ownsRow w.heap.size 5 1 (.slice q 16 cq) 16 (ints .u8 R)) := h1
      clear h1 ho HT HO HI HN HR
      go_wp2_with fail
      go_ret
      exact ⟨_, rfl, HO1.out, HB.out⟩
end Go.Proofs.YtfjdaafckiefdaaGreatDoor.P4
/- The contracts of multiplier and closed. -/
namespace Go.Proofs.YtfjdaafckiefdaaGreatDoor.P4
open Go.RowKit
/-- At block g lie the bytes of an array. -/
def RAt (t : TypeId) (w : World) (g : Nat) (s : List Nat) : Prop := w.heap[g]? = some (.cells (arr .u8 s) t (0, 0))
section
variable {w : World} {g : Nat} {s : List Nat} {t : TypeId}
theorem RAt.cell (h : RAt t w g s) (i : Nat) (hi : i < s.length) : w.cell? ⟨g, i, none⟩ = some (.int .u8 (Sp.nth s i : Nat)) := by
  rw [cell_of_row _ _ _ _ _ _ h]; exact arr_get _ _ _ hi
theorem RAt.may (h : RAt t w g s) (i : Nat) : w.frozen? ⟨g, i, none⟩ = false := frozen_of_row _ _ _ _ _ h
theorem RAt.set (h : RAt t w g s) (i x : Nat) : RAt t (w.setCell ⟨g, i, none⟩ (.int .u8 (x : Nat))) g (s.set i x) := by
  have := heap_setCell_same w g i (arr .u8 s) t (.int .u8 (x : Nat)) h
  unfold RAt
  rw [this]
  congr 2
  apply Array.ext'
  simp [arr, ints]
theorem RAt.lt (h : RAt t w g s) : g < w.heap.size := (Array.getElem?_eq_some_iff.1 h).1
theorem RAt.grown {w' : World} {g' : Nat} (h : RAt t w g s) (hg : w.grownBy w' (some g')) (hne : g ≠ g') : RAt t w' g s := by
  have := hg.block g h.lt (by simpa using hne)
  exact this.trans h
theorem RAt.below {w' : World} {K : Nat} (h : RAt t w g s) (hb : Below K w w') (hg : g < K) : RAt t w' g s := (hb.block g hg).trans h
end
def m1 (l : List Nat) : Nat → List Nat
  | 0 => l
  | k + 1 => (m1 l k).set (4 * k + 3) (Sp.nth (m1 l k) (4 * k + 3) % 16)
def m2 (l : List Nat) : Nat → List Nat
  | 0 => l
  | k + 1 => (m2 l k).set (4 * k + 4) (Sp.nth (m2 l k) (4 * k + 4) / 4 * 4)
theorem m1_length (l : List Nat) : ∀ k, (m1 l k).length = l.length
  | 0 => rfl
  | k + 1 => by rw [m1, List.length_set, m1_length l k]
theorem m2_length (l : List Nat) : ∀ k, (m2 l k).length = l.length
  | 0 => rfl
  | k + 1 => by rw [m2, List.length_set, m2_length l k]
theorem m1_lt {l : List Nat} (h : ∀ x ∈ l, x < 256) : ∀ k, ∀ x ∈ m1 l k, x < 256
  | 0 => h
  | k + 1 => fun x hx => by
    rcases List.mem_or_eq_of_mem_set hx with h1 | rfl
    · exact m1_lt h k x h1
    · have := Sp.nth_lt (by decide) (m1_lt h k) (4 * k + 3); omega
theorem m2_lt {l : List Nat} (h : ∀ x ∈ l, x < 256) : ∀ k, ∀ x ∈ m2 l k, x < 256
  | 0 => h
  | k + 1 => fun x hx => by
    rcases List.mem_or_eq_of_mem_set hx with h1 | rfl
    · exact m2_lt h k x h1
    · have := Sp.nth_lt (by decide) (m2_lt h k) (4 * k + 4); omega
theorem cons_nat {n : Nat} : ∀ (l : List Nat), l.length = n + 1 → ∃ x l', l = x :: l' ∧ l'.length = n
  | x :: l', h => ⟨x, l', rfl, by simpa using h⟩
theorem masks (l : List Nat) (h : l.length = 16) : m2 (m1 l 4) 3 = Po.clamp l := by
  obtain ⟨a0, l0, rfl, h0⟩ := cons_nat l h
  obtain ⟨a1, l1, rfl, h1⟩ := cons_nat l0 h0
  obtain ⟨a2, l2, rfl, h2⟩ := cons_nat l1 h1
  obtain ⟨a3, l3, rfl, h3⟩ := cons_nat l2 h2
  obtain ⟨a4, l4, rfl, h4⟩ := cons_nat l3 h3
  obtain ⟨a5, l5, rfl, h5⟩ := cons_nat l4 h4
  obtain ⟨a6, l6, rfl, h6⟩ := cons_nat l5 h5
  obtain ⟨a7, l7, rfl, h7⟩ := cons_nat l6 h6
  obtain ⟨a8, l8, rfl, h8⟩ := cons_nat l7 h7
  obtain ⟨a9, l9, rfl, h9⟩ := cons_nat l8 h8
  obtain ⟨a10, l10, rfl, h10⟩ := cons_nat l9 h9
  obtain ⟨a11, l11, rfl, h11⟩ := cons_nat l10 h10
  obtain ⟨a12, l12, rfl, h12⟩ := cons_nat l11 h11
  obtain ⟨a13, l13, rfl, h13⟩ := cons_nat l12 h12
  obtain ⟨a14, l14, rfl, h14⟩ := cons_nat l13 h13
  obtain ⟨a15, l15, rfl, h15⟩ := cons_nat l14 h14
  obtain rfl := List.eq_nil_of_length_eq_zero h15
  rfl
theorem and15 (x : Nat) (h : x < 256) : bits BinOp.and .u8 (x : Int) 15 = ((x % 16 : Nat) : Int) := by
  have := u8_and_nat x 15 h (by decide)
  rw [show ((15 : Nat) : Int) = 15 from rfl] at this
  rw [this]
  congr 1
  exact Nat.and_two_pow_sub_one_eq_mod x 4
theorem and252' : ∀ x : Fin 256, x.1 &&& 252 = x.1 / 4 * 4 := by decide +kernel
theorem and252 (x : Nat) (h : x < 256) : bits BinOp.and .u8 (x : Int) 252 = ((x / 4 * 4 : Nat) : Int) := by
  have := u8_and_nat x 252 h (by decide)
  rw [show ((252 : Nat) : Int) = 252 from rfl] at this
  rw [this]
  congr 1
  exact and252' ⟨x, h⟩
def zeros16 : Array Value := arr .u8 (List.replicate 16 0)
theorem zeros16_eq : #[Value.int IntKind.u8 0, Value.int IntKind.u8 0, Value.int IntKind.u8 0, Value.int IntKind.u8 0, Value.int IntKind.u8 0, Value.int IntKind.u8 0, Value.int IntKind.u8 0, Value.int IntKind.u8 0, Value.int IntKind.u8 0, Value.int IntKind.u8 0, Value.int IntKind.u8 0, Value.int IntKind.u8 0, Value.int IntKind.u8 0, Value.int IntKind.u8 0, Value.int IntKind.u8 0, Value.int IntKind.u8 0] = zeros16 := rfl
theorem info5 : (Tryz.prog.info? 5).map (·.size) = some 1 := by kernel_rfl
def mulW (w : World) : World := (w.alloc (Obj.cells zeros5 190)).alloc (Obj.cells zeros16 198)
theorem mulW_0 (w : World) : WAt (mulW w) w.heap.size (List.replicate 5 0) := by
  show ((w.heap.push _).push _)[_]? = _
  rw [Array.getElem?_push_lt (by simp), Array.getElem_push_eq]
  rfl
theorem mulW_1 (w : World) : RAt 198 (mulW w) (w.heap.size + 1) (List.replicate 16 0) := by
  show ((w.heap.push _).push _)[_]? = _
  rw [Array.getElem?_push, if_pos (by simp)]
  rfl
theorem mulW_below (w : World) : Below w.heap.size w (mulW w) := ((Below.refl _ _).alloc (Nat.le_refl _) _).alloc (by simp) _
theorem pow16 : 256 ^ 16 < Po.B ^ 5 := by decide
set_option maxHeartbeats 1000000 in
theorem multiplier_any (l : List Nat) (b o c : Nat) (w : World) (hl : l.length = 16) (hb : ∀ x ∈ l, x < 256) (hr : w.rangeAt b o (ints .u8 l)) :
    Calls Tryz.prog 145 #[.slice (some ⟨b, o, none⟩) 16 c] w fun e w' => ∃ d, e = .returned (.agg (arr .u64 d)) ∧ Wide d ∧ Po.pos Po.B d = Po.pos 256 (Po.clamp l) ∧ Below w.heap.size w w' := by
  have HL : Hid (l.length = 16) := hl
  have HB : Hid (∀ x ∈ l, x < 256) := hb
  have HR : Hid (w.rangeAt b o (ints .u8 l)) := hr
  have HMK : Hid (m2 (m1 l 4) 3 = Po.clamp l) := masks l hl
  have HCL : Hid ((Po.clamp l).length = 16) := Po.clamp_length l
  have HCB : Hid (∀ x ∈ Po.clamp l, x < 256) := Po.clamp_lt hb
  clear hl hb hr
  generalize Po.clamp l = CL at *
  go_enter Tryz.func145, Tryz.ntmps145
  go_wp2_with (first | with_reducible (refine stop_builtin .copy ?_))
  refine Stop.go ?_
  rw [zeros5_eq, zeros16_eq, show ((w.alloc (Obj.cells zeros5 190)).alloc (Obj.cells zeros16 198)) = mulW w from rfl]
  have H0 : Hid (WAt (mulW w) w.heap.size (List.replicate 5 0)) := mulW_0 w
  have H1 : Hid (RAt 198 (mulW w) (w.heap.size + 1) (List.replicate 16 0)) := mulW_1 w
  have HW : Hid (Below w.heap.size w (mulW w)) := mulW_below w
  generalize mulW w = W at *
  have hs0 : W.heap[w.heap.size + 1]? = some (.cells (ints .u8 (List.replicate 16 0)).toArray 198 (0, 0)) := H1.out
  have hsrc : 0 < (ints .u8 l).length → some (⟨w.heap.size + 1, 0, none⟩ : Addr) = some ⟨w.heap.size + 1, 0, none⟩ ∧ ∃ ad : Addr, ((some ⟨b, o, none⟩) : Option Addr) = some ad ∧ ∀ (j : Nat) (v : Value), (ints .u8 l)[j]? = some v → W.cell? (ad.add j) = some v := fun _ =>
    ⟨rfl, ⟨b, o, none⟩, rfl, fun j v hv => by rw [Addr.add_mid]; exact rangeAt_below HW.out HR.out j v hv⟩
  with_reducible refine wpList_copy_splice rfl (.tmp 6) (.tmp 7) 22 22 rfl 5 Tryz.underlying22 info5 (some ⟨w.heap.size + 1, 0, none⟩) (some ⟨b, o, none⟩) 16 16 16 c ?cd ?cs (w.heap.size + 1) 0 (ints .u8 (List.replicate 16 0)) 198 hs0 (ints .u8 l) ?cn hsrc ?cf ?c1 (w.heap.size + 1) W (Below.refl _ _) (Nat.le_refl _) ?ck
  case cd => exact rfl
  case cs => exact rfl
  case cn => rw [ints_length, HL.out]; rfl
  case cf => rw [ints_length, ints_length, HL.out, List.length_replicate]; omega
  case c1 => exact fun v hv => by obtain ⟨q, _, rfl⟩ := List.mem_map.1 hv; rfl
  intro w2 hk2 hb2
  have H2 : Hid (RAt 198 w2 (w.heap.size + 1) l) := by
    show _ = _
    rw [hk2.out]
    congr 2
    simp [splice, HL.out, arr, ints]
  have HZ2 : Hid (WAt w2 w.heap.size (List.replicate 5 0)) := H0.out.below hb2 (by omega)
  have HB2 : Hid (Below w.heap.size w w2) := HW.out.trans (hb2.mono (by omega))
  clear hk2 hb2 hsrc hs0 H0 H1 HW HR
  rw [show goInt (ints .u8 l).length = .int .i64 16 from by rw [ints_length, HL.out]; rfl]
  go_wp2_with fail
  go_loopw [4] (fun i wr => ∃ k : Nat, k ≤ 4 ∧ i = .int .i64 ((4 * k + 3 : Nat) : Int) ∧ Hid (RAt 198 wr (w.heap.size + 1) (m1 l k)) ∧ Hid (w2.grownBy wr (some (w.heap.size + 1)))) (fun i _ => 20 - (intOf i).toNat)
  case atStart => exact ⟨0, by omega, rfl, H2.out, grownBy_refl _ _⟩
  case round =>
    clear H2
    obtain ⟨k, hk, rfl, H3, G3⟩ := hrel
    by_cases hlt : k < 4
    · have ck := H3.out.cell (4 * k + 3) (by rw [m1_length, HL.out]; omega)
      have fk := H3.out.may (4 * k + 3)
      have xk : Sp.nth (m1 l k) (4 * k + 3) < 256 := Sp.nth_lt (by decide) (m1_lt HB.out k) _
      have hm := and15 _ xk
      have HS : Hid (RAt 198 (wr.setCell ⟨w.heap.size + 1, 4 * k + 3, none⟩ (.int .u8 ((Sp.nth (m1 l k) (4 * k + 3) % 16 : Nat) : Int))) (w.heap.size + 1) (m1 l (k + 1))) := H3.out.set _ _
      have HG : Hid (w2.grownBy (wr.setCell ⟨w.heap.size + 1, 4 * k + 3, none⟩ (.int .u8 ((Sp.nth (m1 l k) (4 * k + 3) % 16 : Nat) : Int))) (some (w.heap.size + 1))) := grownBy_set G3.out _ _
      clear H3 G3
      generalize Sp.nth (m1 l k) (4 * k + 3) = y at *
      have i0 : ((y % 16 : Nat) : Int) = (y : Int) % 16 := by omega
      rw [i0] at HS HG
      obtain ⟨j, hj⟩ : ∃ j, 4 * k + 3 = j := ⟨_, rfl⟩
      rw [hj] at ck fk HS HG ⊢
      have j0 : (0 : Int) ≤ (j : Int) := by omega
      have j1 : (j : Int) < 16 := by omega
      have HJ : Hid (4 * k + 3 = j) := hj
      clear hj
      go_wp2_with fail
      go_roundw
      case rel => exact ⟨k + 1, by omega, by have := HJ.out; go_num, HS.out, HG.out⟩
      case measure => have := HJ.out; simp [intOf]; omega
    · obtain rfl : k = 4 := by omega
      have HM1 : Hid (∀ x ∈ m1 l 4, x < 256) := m1_lt HB.out 4
      have HML : Hid ((m1 l 4).length = 16) := by show _ = _; rw [m1_length]; exact HL.out
      have HZ3 : Hid (WAt wr w.heap.size (List.replicate 5 0)) := HZ2.out.grown G3.out (by omega)
      have HB3 : Hid (Below w.heap.size w wr) := below_grown HB2.out G3.out (by omega)
      clear G3 HZ2 HB2
      generalize m1 l 4 = L1 at *
      generalize hw3 : wr = w3 at *
      clear hw3
      go_wp2_with fail
      go_loopw [5] (fun i wr2 => ∃ k : Nat, k ≤ 3 ∧ i = .int .i64 ((4 * k + 4 : Nat) : Int) ∧ Hid (RAt 198 wr2 (w.heap.size + 1) (m2 L1 k)) ∧ Hid (w3.grownBy wr2 (some (w.heap.size + 1)))) (fun i _ => 20 - (intOf i).toNat)
      case atStart => exact ⟨0, by omega, rfl, H3.out, grownBy_refl _ _⟩
      case round =>
        clear H3
        obtain ⟨k, hk, rfl, H3, G3⟩ := hrel
        by_cases hlt : k < 3
        · have ck := H3.out.cell (4 * k + 4) (by rw [m2_length, HML.out]; omega)
          have fk := H3.out.may (4 * k + 4)
          have xk : Sp.nth (m2 L1 k) (4 * k + 4) < 256 := Sp.nth_lt (by decide) (m2_lt HM1.out k) _
          have hm := and252 _ xk
          have HS : Hid (RAt 198 (wr.setCell ⟨w.heap.size + 1, 4 * k + 4, none⟩ (.int .u8 ((Sp.nth (m2 L1 k) (4 * k + 4) / 4 * 4 : Nat) : Int))) (w.heap.size + 1) (m2 L1 (k + 1))) := H3.out.set _ _
          have HG : Hid (w3.grownBy (wr.setCell ⟨w.heap.size + 1, 4 * k + 4, none⟩ (.int .u8 ((Sp.nth (m2 L1 k) (4 * k + 4) / 4 * 4 : Nat) : Int))) (some (w.heap.size + 1))) := grownBy_set G3.out _ _
          clear H3 G3
          generalize Sp.nth (m2 L1 k) (4 * k + 4) = y at *
          have i0 : ((y / 4 * 4 : Nat) : Int) = (y : Int) / 4 * 4 := by omega
          rw [i0] at HS HG
          obtain ⟨j, hj⟩ : ∃ j, 4 * k + 4 = j := ⟨_, rfl⟩
          rw [hj] at ck fk HS HG ⊢
          have j0 : (0 : Int) ≤ (j : Int) := by omega
          have j1 : (j : Int) < 16 := by omega
          have HJ : Hid (4 * k + 4 = j) := hj
          clear hj
          go_wp2_with fail
          go_roundw
          case rel => exact ⟨k + 1, by omega, by have := HJ.out; go_num, HS.out, HG.out⟩
          case measure => have := HJ.out; simp [intOf]; omega
        · obtain rfl : k = 3 := by omega
          have h3 := H3.out
          rw [HMK.out] at h3
          have H4 : Hid (RAt 198 wr (w.heap.size + 1) CL) := h3
          have HZ4 : Hid (WAt wr w.heap.size (List.replicate 5 0)) := HZ3.out.grown G3.out (by omega)
          have HB4 : Hid (Below w.heap.size w wr) := below_grown HB3.out G3.out (by omega)
          have hlt4 : w.heap.size < wr.heap.size := HZ4.out.lt
          clear h3 H3 G3 HZ3 HB3 HMK HM1 HML
          go_wp2_with fail
          refine (number_any CL 16 (w.heap.size + 1) 0 16 wr HCL.out (by omega) (by omega) HCB.out ?_ (rangeAt_of_row H4.out)).mono ?_
          · have := Po.pos_lt (b := 256) (by decide) HCB.out
            rw [HCL.out] at this
            exact Nat.lt_trans this pow16
          rintro e w5 ⟨d, rfl, hwd, hpd, hb5⟩
          have HD : Hid (Wide d) := hwd
          have HDL : Hid (d.length = 5) := hwd.1
          have HPD : Hid (Po.pos Po.B d = Po.pos 256 CL) := hpd
          have HZ5 : Hid (WAt w5 w.heap.size (List.replicate 5 0)) := HZ4.out.below hb5 hlt4
          have HB5 : Hid (Below w.heap.size w w5) := HB4.out.trans (hb5.mono (by omega))
          clear hwd hpd hb5 HZ4 HB4 H4
          go_wp2_with (first | with_reducible (refine stop_store 190 ?_))
          refine Stop.go ?_
          with_reducible refine law_store w.heap.size 0 (arr .u64 d) ?tx ?ty ?tt ?ti (ints_one _ _) ?tk
          case tx => exact rfl
          case ty => exact rfl
          case tt => rw [arr_size, HDL.out]; exact there_of_row HZ5.out 5 (by simp [arr_size])
          case ti => rw [arr_size, HDL.out]; exact info38
          go_wp2_with fail
          refine bodyPost_ret (v := .agg (arr .u64 d)) (results_row rfl _ _ w.heap.size 0 (ints .u64 d) _ rfl ?_ under38 rfl ?_) rfl ⟨d, rfl, HD.out, HPD.out, ?_⟩
          · exact World.rangeAt_setCells_same _ _ _ _ (by rw [arr_list, ints_length, HDL.out]; exact there_of_row HZ5.out 5 (by simp [arr_size]))
          · rw [ints_length, HDL.out]; exact info38
          · exact Below.setCells _ _ _ HB5.out (Nat.le_refl _)
end Go.Proofs.YtfjdaafckiefdaaGreatDoor.P4
/- The contract of closed. -/
namespace Go.Proofs.YtfjdaafckiefdaaGreatDoor.P4
open Go.RowKit
def zeros17 : Array Value := arr .u8 (List.replicate 17 0)
theorem zeros17_eq : #[Value.int IntKind.u8 0, Value.int IntKind.u8 0, Value.int IntKind.u8 0, Value.int IntKind.u8 0, Value.int IntKind.u8 0, Value.int IntKind.u8 0, Value.int IntKind.u8 0, Value.int IntKind.u8 0, Value.int IntKind.u8 0, Value.int IntKind.u8 0, Value.int IntKind.u8 0, Value.int IntKind.u8 0, Value.int IntKind.u8 0, Value.int IntKind.u8 0, Value.int IntKind.u8 0, Value.int IntKind.u8 0, Value.int IntKind.u8 0] = zeros17 := rfl
def cloW (w : World) : World := (w.alloc (Obj.cells zeros5 190)).alloc (Obj.cells zeros17 199)
theorem cloW_0 (w : World) : WAt (cloW w) w.heap.size (List.replicate 5 0) := by
  show ((w.heap.push _).push _)[_]? = _
  rw [Array.getElem?_push_lt (by simp), Array.getElem_push_eq]
  rfl
theorem cloW_1 (w : World) : RAt 199 (cloW w) (w.heap.size + 1) (List.replicate 17 0) := by
  show ((w.heap.push _).push _)[_]? = _
  rw [Array.getElem?_push, if_pos (by simp)]
  rfl
theorem cloW_below (w : World) : Below w.heap.size w (cloW w) := ((Below.refl _ _).alloc (Nat.le_refl _) _).alloc (by simp) _
theorem pos_zeros (b : Nat) : ∀ n, Po.pos b (List.replicate n 0) = 0
  | 0 => rfl
  | n + 1 => by rw [List.replicate_succ, Po.pos, pos_zeros b n]; simp
theorem pos_pad (b : Nat) (l : List Nat) (x n : Nat) : Po.pos b (l ++ x :: List.replicate n 0) = Po.pos b (l ++ [x]) := by
  rw [Po.pos_append, Po.pos_append, Po.pos, pos_zeros]
  simp [Po.pos]
theorem closed_lt {l : List Nat} (hb : ∀ x ∈ l, x < 256) (hl : l.length ≤ 16) : Po.pos 256 (l ++ [1]) < Po.B ^ 5 := by
  have h1 := Po.pos_lt (b := 256) (by decide) hb
  have h2 : 256 ^ l.length ≤ 256 ^ 16 := Nat.pow_le_pow_right (by decide) hl
  have h3 : 2 * 256 ^ 16 < Po.B ^ 5 := by decide
  rw [Po.pos_snoc, Nat.mul_one]
  omega
theorem clo_splice (l : List Nat) (m : Nat) (h : l.length = m) (hm : m ≤ 16) : splice (ints .u8 (List.replicate 17 0)) 0 (ints .u8 l) = ints .u8 (l ++ 0 :: List.replicate (16 - m) 0) := by
  subst h
  have e : List.drop l.length (List.replicate 17 (Value.int .u8 ((0 : Nat) : Int))) = List.replicate (16 - l.length + 1) (Value.int .u8 ((0 : Nat) : Int)) := by
    rw [List.drop_replicate]
    congr 1
    omega
  unfold splice
  rw [ints_append]
  simp only [ints, List.map_replicate, List.length_map, List.take_zero, List.nil_append, Nat.zero_add, ← List.replicate_succ]
  rw [e]
set_option maxHeartbeats 1000000 in
theorem closed_any (l : List Nat) (m b o c : Nat) (w : World) (hl : l.length = m) (hm : m ≤ 16) (hb : ∀ x ∈ l, x < 256) (hr : w.rangeAt b o (ints .u8 l)) :
    Calls Tryz.prog 146 #[.slice (some ⟨b, o, none⟩) m c] w fun e w' => ∃ d, e = .returned (.agg (arr .u64 d)) ∧ Wide d ∧ Po.pos Po.B d = Po.pos 256 (l ++ [1]) ∧ Below w.heap.size w w' := by
  have HL : Hid (l.length = m) := hl
  have HB : Hid (∀ x ∈ l, x < 256) := hb
  have HR : Hid (w.rangeAt b o (ints .u8 l)) := hr
  have HV : Hid (Po.pos 256 (l ++ 1 :: List.replicate (16 - m) 0) = Po.pos 256 (l ++ [1]) ∧ Po.pos 256 (l ++ [1]) < Po.B ^ 5) := ⟨pos_pad _ _ _ _, closed_lt hb (by omega)⟩
  clear hl hb hr
  generalize Po.pos 256 (l ++ [1]) = V at *
  go_enter Tryz.func146, Tryz.ntmps146
  go_wp2_with (first | with_reducible (refine stop_builtin .copy ?_))
  refine Stop.go ?_
  rw [zeros5_eq, zeros17_eq, show ((w.alloc (Obj.cells zeros5 190)).alloc (Obj.cells zeros17 199)) = cloW w from rfl]
  have H0 : Hid (WAt (cloW w) w.heap.size (List.replicate 5 0)) := cloW_0 w
  have H1 : Hid (RAt 199 (cloW w) (w.heap.size + 1) (List.replicate 17 0)) := cloW_1 w
  have HW : Hid (Below w.heap.size w (cloW w)) := cloW_below w
  generalize cloW w = W at *
  have hs0 : W.heap[w.heap.size + 1]? = some (.cells (ints .u8 (List.replicate 17 0)).toArray 199 (0, 0)) := H1.out
  have hsrc : 0 < (ints .u8 l).length → some (⟨w.heap.size + 1, 0, none⟩ : Addr) = some ⟨w.heap.size + 1, 0, none⟩ ∧ ∃ ad : Addr, ((some ⟨b, o, none⟩) : Option Addr) = some ad ∧ ∀ (j : Nat) (v : Value), (ints .u8 l)[j]? = some v → W.cell? (ad.add j) = some v := fun _ =>
    ⟨rfl, ⟨b, o, none⟩, rfl, fun j v hv => by rw [Addr.add_mid]; exact rangeAt_below HW.out HR.out j v hv⟩
  with_reducible refine wpList_copy_splice rfl (.tmp 4) (.tmp 5) 22 22 rfl 5 Tryz.underlying22 info5 (some ⟨w.heap.size + 1, 0, none⟩) (some ⟨b, o, none⟩) 17 17 m c ?cd ?cs (w.heap.size + 1) 0 (ints .u8 (List.replicate 17 0)) 199 hs0 (ints .u8 l) ?cn hsrc ?cf ?c1 (w.heap.size + 1) W (Below.refl _ _) (Nat.le_refl _) ?ck
  case cd => exact rfl
  case cs => exact rfl
  case cn => rw [ints_length, HL.out]; exact (Nat.min_eq_left (by omega)).symm
  case cf => rw [ints_length, ints_length, HL.out, List.length_replicate]; omega
  case c1 => exact fun v hv => by obtain ⟨q, _, rfl⟩ := List.mem_map.1 hv; rfl
  intro w2 hk2 hb2
  have h2 : RAt 199 w2 (w.heap.size + 1) (l ++ 0 :: List.replicate (16 - m) 0) := by
    show _ = _
    rw [hk2.out, clo_splice l m HL.out hm]
    rfl
  have HZ2 : Hid (WAt w2 w.heap.size (List.replicate 5 0)) := H0.out.below hb2 (by omega)
  have HB2 : Hid (Below w.heap.size w w2) := HW.out.trans (hb2.mono (by omega))
  clear hk2 hb2 hsrc hs0 H0 H1 HW HR
  rw [show goInt (ints .u8 l).length = .int .i64 m from by rw [ints_length, HL.out]; rfl]
  have cm := h2.cell m (by simp [HL.out])
  have fm := h2.may m
  have h3 := h2.set m 1
  rw [set_snoc _ _ _ _ m HL.out] at h3
  have H3 : Hid (RAt 199 (w2.setCell ⟨w.heap.size + 1, m, none⟩ (.int .u8 ((1 : Nat) : Int))) (w.heap.size + 1) (l ++ 1 :: List.replicate (16 - m) 0)) := h3
  have hg : w2.grownBy (w2.setCell ⟨w.heap.size + 1, m, none⟩ (.int .u8 ((1 : Nat) : Int))) (some (w.heap.size + 1)) := grownBy_set (grownBy_refl _ _) _ _
  have HZ3 : Hid (WAt (w2.setCell ⟨w.heap.size + 1, m, none⟩ (.int .u8 ((1 : Nat) : Int))) w.heap.size (List.replicate 5 0)) := HZ2.out.grown hg (by omega)
  have HB3 : Hid (Below w.heap.size w (w2.setCell ⟨w.heap.size + 1, m, none⟩ (.int .u8 ((1 : Nat) : Int)))) := below_grown HB2.out hg (by omega)
  clear h2 h3 hg HZ2 HB2
  have HCB : Hid (∀ x ∈ l ++ 1 :: List.replicate (16 - m) 0, x < 256) := fun x hx => by
    rcases List.mem_append.1 hx with h | h
    · exact HB.out x h
    · rcases List.mem_cons.1 h with rfl | h
      · decide
      · rw [List.eq_of_mem_replicate h]; decide
  have HCL : Hid ((l ++ 1 :: List.replicate (16 - m) 0).length = 17) := by
    show _ = _
    simp [HL.out]
    omega
  generalize l ++ 1 :: List.replicate (16 - m) 0 = CL at *
  rw [show (((1 : Nat) : Int)) = 1 from rfl] at H3 HZ3 HB3
  generalize Sp.nth (l ++ 0 :: List.replicate (16 - m) 0) m = old at *
  have m0 : (0 : Int) ≤ (m : Int) := by omega
  have m1 : (m : Int) < 17 := by omega
  go_wp2_with fail
  generalize w2.setCell ⟨w.heap.size + 1, m, none⟩ (.int .u8 1) = W3 at *
  have hlt4 : w.heap.size < W3.heap.size := HZ3.out.lt
  refine (number_any CL 17 (w.heap.size + 1) 0 17 W3 HCL.out (by omega) (by omega) HCB.out (by rw [HV.out.1]; exact HV.out.2) (rangeAt_of_row H3.out)).mono ?_
  rintro e w5 ⟨d, rfl, hwd, hpd, hb5⟩
  have HD : Hid (Wide d) := hwd
  have HDL : Hid (d.length = 5) := hwd.1
  have HPD : Hid (Po.pos Po.B d = V) := hpd.trans HV.out.1
  have HZ5 : Hid (WAt w5 w.heap.size (List.replicate 5 0)) := HZ3.out.below hb5 hlt4
  have HB5 : Hid (Below w.heap.size w w5) := HB3.out.trans (hb5.mono (by omega))
  clear hwd hpd hb5 HZ3 HB3 H3 HV HCB HCL cm fm
  go_wp2_with (first | with_reducible (refine stop_store 190 ?_))
  refine Stop.go ?_
  with_reducible refine law_store w.heap.size 0 (arr .u64 d) ?tx ?ty ?tt ?ti (ints_one _ _) ?tk
  case tx => exact rfl
  case ty => exact rfl
  case tt => rw [arr_size, HDL.out]; exact there_of_row HZ5.out 5 (by simp [arr_size])
  case ti => rw [arr_size, HDL.out]; exact info38
  go_wp2_with fail
  refine bodyPost_ret (v := .agg (arr .u64 d)) (results_row rfl _ _ w.heap.size 0 (ints .u64 d) _ rfl ?_ under38 rfl ?_) rfl ⟨d, rfl, HD.out, HPD.out, ?_⟩
  · exact World.rangeAt_setCells_same _ _ _ _ (by rw [arr_list, ints_length, HDL.out]; exact there_of_row HZ5.out 5 (by simp [arr_size]))
  · rw [ints_length, HDL.out]; exact info38
  · exact Below.setCells _ _ _ HB5.out (Nat.le_refl _)
end Go.Proofs.YtfjdaafckiefdaaGreatDoor.P4
/- The contract of Tag. -/
namespace Go.Proofs.YtfjdaafckiefdaaGreatDoor.P4
open Go.RowKit
/-- Bytes that a slice's pointer leads to. -/
def TextIs (w : World) (p : Option Addr) (l : List Nat) : Prop := (∀ x ∈ l, x < 256) ∧ (l ≠ [] → ∃ b o, p = some ⟨b, o, none⟩ ∧ w.rangeAt b o (ints .u8 l))
theorem TextIs.below {w w' : World} {p : Option Addr} {l : List Nat} (h : TextIs w p l) (hb : Below w.heap.size w w') : TextIs w' p l :=
  ⟨h.1, fun hne => by obtain ⟨b, o, e, hr⟩ := h.2 hne; exact ⟨b, o, e, rangeAt_below hb hr⟩⟩
theorem range_take {w : World} {b o : Nat} {l : List Nat} (h : w.rangeAt b o (ints .u8 l)) (n : Nat) : w.rangeAt b o (ints .u8 (l.take n)) := fun j v hv => by
  apply h j v
  have hj := (List.getElem?_eq_some_iff.1 hv).1
  simp only [ints, List.length_map, List.length_take] at hj
  simp only [ints, List.map_take] at hv ⊢
  rw [List.getElem?_take_of_lt (by omega)] at hv
  exact hv
theorem range_drop {w : World} {b o : Nat} {l : List Nat} (h : w.rangeAt b o (ints .u8 l)) (n : Nat) : w.rangeAt b (o + n) (ints .u8 (l.drop n)) := fun j v hv => by
  have := h (n + j) v
  rw [← Nat.add_assoc] at this
  apply this
  simp only [ints, List.map_drop, List.getElem?_drop] at hv ⊢
  exact hv
theorem lt_take {l : List Nat} (h : ∀ x ∈ l, x < 256) (n : Nat) : ∀ x ∈ l.take n, x < 256 := fun x hx => h x (List.mem_of_mem_take hx)
theorem lt_drop {l : List Nat} (h : ∀ x ∈ l, x < 256) (n : Nat) : ∀ x ∈ l.drop n, x < 256 := fun x hx => h x (List.mem_of_mem_drop hx)
theorem law_store38 {ops : Array Oper} {rest : List Oper} {dst : Option Tmp} {T : TypeId} {pos : String} {after : Array Edge} {a : Act} {w : World} {Q : Exit → Act → World → Prop} {xt yt : Tmp} (d : List Nat) (hd : d.length = 5)
    (hx : a.eval (.tmp xt) = .pointer (some ⟨w.heap.size, 0, none⟩)) (hy : a.eval (.tmp yt) = .agg (arr .u64 d))
    (h : ∀ w', WAt w' w.heap.size d → Below w.heap.size w w' → w'.heap.size = w.heap.size + 1 → wpList Tryz.prog ops Q rest (a.put dst undef) w') :
    wpList Tryz.prog ops Q ({ dst := dst, op := .store 190 (.tmp xt) (.tmp yt), type := T, pos := pos, after := after, guard := none } :: rest) a (w.alloc (Obj.cells zeros5 190)) := by
  obtain ⟨h1, h2, h3⟩ := new38 w d hd
  refine law_store w.heap.size 0 (arr .u64 d) hx hy ?_ ?_ (ints_one _ _) (h _ h1 h2 h3)
  · rw [arr_size, hd]; exact there38 w
  · rw [arr_size, hd]; exact info38
theorem frame46 {A F : Array Value} (hs : A.size = 46) (h : ∀ t, ¬ (32 ≤ t ∧ t ≤ 36) → A.getD t undef = F.getD t undef) : A = #[F.getD 0 undef, F.getD 1 undef, F.getD 2 undef, F.getD 3 undef, F.getD 4 undef, F.getD 5 undef, F.getD 6 undef, F.getD 7 undef, F.getD 8 undef, F.getD 9 undef, F.getD 10 undef, F.getD 11 undef, F.getD 12 undef, F.getD 13 undef, F.getD 14 undef, F.getD 15 undef, F.getD 16 undef, F.getD 17 undef, F.getD 18 undef, F.getD 19 undef, F.getD 20 undef, F.getD 21 undef, F.getD 22 undef, F.getD 23 undef, F.getD 24 undef, F.getD 25 undef, F.getD 26 undef, F.getD 27 undef, F.getD 28 undef, F.getD 29 undef, F.getD 30 undef, F.getD 31 undef, A.getD 32 undef, A.getD 33 undef, A.getD 34 undef, A.getD 35 undef, A.getD 36 undef, F.getD 37 undef, F.getD 38 undef, F.getD 39 undef, F.getD 40 undef, F.getD 41 undef, F.getD 42 undef, F.getD 43 undef, F.getD 44 undef, F.getD 45 undef] := by
  rw [← h 0 (by decide), ← h 1 (by decide), ← h 2 (by decide), ← h 3 (by decide), ← h 4 (by decide), ← h 5 (by decide), ← h 6 (by decide), ← h 7 (by decide), ← h 8 (by decide), ← h 9 (by decide), ← h 10 (by decide), ← h 11 (by decide), ← h 12 (by decide), ← h 13 (by decide), ← h 14 (by decide), ← h 15 (by decide), ← h 16 (by decide), ← h 17 (by decide), ← h 18 (by decide), ← h 19 (by decide), ← h 20 (by decide), ← h 21 (by decide), ← h 22 (by decide), ← h 23 (by decide), ← h 24 (by decide), ← h 25 (by decide), ← h 26 (by decide), ← h 27 (by decide), ← h 28 (by decide), ← h 29 (by decide), ← h 30 (by decide), ← h 31 (by decide), ← h 37 (by decide), ← h 38 (by decide), ← h 39 (by decide), ← h 40 (by decide), ← h 41 (by decide), ← h 42 (by decide), ← h 43 (by decide), ← h 44 (by decide), ← h 45 (by decide)]
  refine Array.ext (by simp [hs]) (fun i h1 h2 => ?_)
  have e : A[i] = A.getD i undef := by simp [h1]
  rw [e]
  rw [hs] at h1
  clear e h hs
  match i, h1 with
  | 0, _ => rfl
  | 1, _ => rfl
  | 2, _ => rfl
  | 3, _ => rfl
  | 4, _ => rfl
  | 5, _ => rfl
  | 6, _ => rfl
  | 7, _ => rfl
  | 8, _ => rfl
  | 9, _ => rfl
  | 10, _ => rfl
  | 11, _ => rfl
  | 12, _ => rfl
  | 13, _ => rfl
  | 14, _ => rfl
  | 15, _ => rfl
  | 16, _ => rfl
  | 17, _ => rfl
  | 18, _ => rfl
  | 19, _ => rfl
  | 20, _ => rfl
  | 21, _ => rfl
  | 22, _ => rfl
  | 23, _ => rfl
  | 24, _ => rfl
  | 25, _ => rfl
  | 26, _ => rfl
  | 27, _ => rfl
  | 28, _ => rfl
  | 29, _ => rfl
  | 30, _ => rfl
  | 31, _ => rfl
  | 32, _ => rfl
  | 33, _ => rfl
  | 34, _ => rfl
  | 35, _ => rfl
  | 36, _ => rfl
  | 37, _ => rfl
  | 38, _ => rfl
  | 39, _ => rfl
  | 40, _ => rfl
  | 41, _ => rfl
  | 42, _ => rfl
  | 43, _ => rfl
  | 44, _ => rfl
  | 45, _ => rfl
  | i + 46, h => omega
theorem dst_within {ops : Array Oper} {lo up : Nat} (h : (ops.toList.all fun o => match o.dst with | some d => decide (lo ≤ d) && decide (up ≥ d) | none => true) = true) (t : Nat) (ht : ¬ (lo ≤ t ∧ t ≤ up)) (i : Nat) : (ops[i]?).bind (·.dst) ≠ some t := fun e => by
  obtain ⟨o, ho, hd⟩ := Option.bind_eq_some_iff.1 e
  have h1 := List.all_eq_true.1 h o (by obtain ⟨hi, rfl⟩ := Array.getElem?_eq_some_iff.1 ho; simp)
  simp only [hd, Bool.and_eq_true, decide_eq_true_eq] at h1
  omega
theorem clamp_take (key : List Nat) : Po.clamp (key.take 16) = Po.clamp key := by
  unfold Po.clamp
  apply List.map_congr_left
  intro i hi
  rw [Sp.nth_take (List.mem_range.1 hi)]
/-- A product modulo P, of numbers that are known modulo P. -/
theorem step_mod {a b r A : Nat} (h : a % Po.P = A) : ((a + b) * r) % Po.P = ((A + b) * r) % Po.P := by
  subst h
  rw [Nat.mul_mod, Nat.add_mod, Nat.mul_mod ((a % Po.P) + b), Nat.add_mod (a % Po.P) b, Nat.mod_mod]
def accV (a blk r : List Nat) : Nat → Value → World → Prop
  | 0 => IsV (.agg (arr .u64 a))
  | 1 => IsV (.agg (arr .u64 blk))
  | 2 => IsV (.agg (arr .u64 (sumTo a blk 5)))
  | 3 => IsV (.agg (arr .u64 r))
  | 4 => fun v _ => ∃ d, v = .agg (arr .u64 d) ∧ Wide d ∧ Po.pos Po.B d % Po.P = ((Po.pos Po.B a + Po.pos Po.B blk) * Po.pos Po.B r) % Po.P
  | _ => fun _ _ => True
theorem accV_kept (a blk r : List Nat) : ∀ i v w w', accV a blk r i v w → Below w.heap.size w w' → accV a blk r i v w'
  | 0, _, _, _, h, _ => h
  | 1, _, _, _, h, _ => h
  | 2, _, _, _, h, _ => h
  | 3, _, _, _, h, _ => h
  | 4, _, _, _, h, _ => h
  | _ + 5, _, _, _, _, _ => trivial
theorem st_load38 {ops : Array Oper} {Q : Exit → Act → World → Prop} {V : Nat → Value → World → Prop} {i : Nat} {o : Oper} {a' : Act} {w' : World} (t : Tmp) (g : Nat) (l : List Nat) (hl : l.length = 5) (hi : ops[i]? = some o) (hg : o.guard = none)
    (ho : o.op = .load 190 (.tmp t)) (hx : a'.tmps.getD t undef = .pointer (some ⟨g, 0, none⟩)) (h : WAt w' g l) (hv : V i (.agg (arr .u64 l)) w') : wpOp Tryz.prog ops Q i (fun a'' w2 => Below w'.heap.size w' w2 ∧ ∃ v, a'' = a'.put o.dst v ∧ V i v w2) a' w' :=
  wpOp_load 190 (.tmp t) g 0 (ints .u64 l) _ hi (wanted_none hg) ho hx (rangeAt_of_row h) under38 rfl (by rw [ints_length, hl]; exact info38) ⟨Below.refl _ _, _, rfl, hv⟩
theorem frame46b {A F : Array Value} (hs : A.size = 46) (h : ∀ t, ¬ (t = 10 ∨ 37 ≤ t ∧ t ≤ 42) → A.getD t undef = F.getD t undef) : A = #[F.getD 0 undef, F.getD 1 undef, F.getD 2 undef, F.getD 3 undef, F.getD 4 undef, F.getD 5 undef, F.getD 6 undef, F.getD 7 undef, F.getD 8 undef, F.getD 9 undef, A.getD 10 undef, F.getD 11 undef, F.getD 12 undef, F.getD 13 undef, F.getD 14 undef, F.getD 15 undef, F.getD 16 undef, F.getD 17 undef, F.getD 18 undef, F.getD 19 undef, F.getD 20 undef, F.getD 21 undef, F.getD 22 undef, F.getD 23 undef, F.getD 24 undef, F.getD 25 undef, F.getD 26 undef, F.getD 27 undef, F.getD 28 undef, F.getD 29 undef, F.getD 30 undef, F.getD 31 undef, F.getD 32 undef, F.getD 33 undef, F.getD 34 undef, F.getD 35 undef, F.getD 36 undef, A.getD 37 undef, A.getD 38 undef, A.getD 39 undef, A.getD 40 undef, A.getD 41 undef, A.getD 42 undef, F.getD 43 undef, F.getD 44 undef, F.getD 45 undef] := by
  rw [← h 0 (by decide), ← h 1 (by decide), ← h 2 (by decide), ← h 3 (by decide), ← h 4 (by decide), ← h 5 (by decide), ← h 6 (by decide), ← h 7 (by decide), ← h 8 (by decide), ← h 9 (by decide), ← h 11 (by decide), ← h 12 (by decide), ← h 13 (by decide), ← h 14 (by decide), ← h 15 (by decide), ← h 16 (by decide), ← h 17 (by decide), ← h 18 (by decide), ← h 19 (by decide), ← h 20 (by decide), ← h 21 (by decide), ← h 22 (by decide), ← h 23 (by decide), ← h 24 (by decide), ← h 25 (by decide), ← h 26 (by decide), ← h 27 (by decide), ← h 28 (by decide), ← h 29 (by decide), ← h 30 (by decide), ← h 31 (by decide), ← h 32 (by decide), ← h 33 (by decide), ← h 34 (by decide), ← h 35 (by decide), ← h 36 (by decide), ← h 43 (by decide), ← h 44 (by decide), ← h 45 (by decide)]
  refine Array.ext (by simp [hs]) (fun i h1 h2 => ?_)
  have e : A[i] = A.getD i undef := by simp [h1]
  rw [e]
  rw [hs] at h1
  clear e h hs
  match i, h1 with
  | 0, _ => rfl
  | 1, _ => rfl
  | 2, _ => rfl
  | 3, _ => rfl
  | 4, _ => rfl
  | 5, _ => rfl
  | 6, _ => rfl
  | 7, _ => rfl
  | 8, _ => rfl
  | 9, _ => rfl
  | 10, _ => rfl
  | 11, _ => rfl
  | 12, _ => rfl
  | 13, _ => rfl
  | 14, _ => rfl
  | 15, _ => rfl
  | 16, _ => rfl
  | 17, _ => rfl
  | 18, _ => rfl
  | 19, _ => rfl
  | 20, _ => rfl
  | 21, _ => rfl
  | 22, _ => rfl
  | 23, _ => rfl
  | 24, _ => rfl
  | 25, _ => rfl
  | 26, _ => rfl
  | 27, _ => rfl
  | 28, _ => rfl
  | 29, _ => rfl
  | 30, _ => rfl
  | 31, _ => rfl
  | 32, _ => rfl
  | 33, _ => rfl
  | 34, _ => rfl
  | 35, _ => rfl
  | 36, _ => rfl
  | 37, _ => rfl
  | 38, _ => rfl
  | 39, _ => rfl
  | 40, _ => rfl
  | 41, _ => rfl
  | 42, _ => rfl
  | 43, _ => rfl
  | 44, _ => rfl
  | 45, _ => rfl
  | i + 46, h => omega
theorem dst_within2 {ops : Array Oper} {x lo up : Nat} (h : (ops.toList.all fun o => match o.dst with | some d => decide (x = d) || (decide (lo ≤ d) && decide (up ≥ d)) | none => true) = true) (t : Nat) (ht : ¬ (t = x ∨ lo ≤ t ∧ t ≤ up)) (i : Nat) : (ops[i]?).bind (·.dst) ≠ some t := fun e => by
  obtain ⟨o, ho, hd⟩ := Option.bind_eq_some_iff.1 e
  have h1 := List.all_eq_true.1 h o (by obtain ⟨hi, rfl⟩ := Array.getElem?_eq_some_iff.1 ho; simp)
  simp only [hd, Bool.or_eq_true, Bool.and_eq_true, decide_eq_true_eq] at h1
  omega
theorem elem22 : Tryz.prog.elem 22 = 5 := by kernel_rfl
set_option maxRecDepth 100000 in
theorem slice16_run {o : Oper} {a' : Act} {w' : World} {b of c : Nat} (t : Tmp) (ho : o.op = .slice 22 (.tmp t) (some (.const (.int .i64 16))) none none) (h0 : a'.tmps.getD t undef = .slice (some ⟨b, of, none⟩) 32 c) (hc : 32 ≤ c) :
    (execOp a'.eval o).run Tryz.prog w' = .ok (.value (.slice (some ⟨b, of + 16, none⟩) 16 (c - 16))) w' := by
  have e0 : a'.eval (.tmp t) = .slice (some ⟨b, of, none⟩) 32 c := h0
  have e1 : a'.eval (.const (.int .i64 16)) = .int .i64 16 := rfl
  obtain ⟨i, hi, hsz, _, _⟩ := info5e
  have hne : c ≠ 16 := by omega
  have hrun := run_slice_l (P := Tryz.prog) w' 22 (some ⟨b, of, none⟩) 32 c (by rw [elem22]; exact Tryz.underlying22) .i64 16 (by omega) (by omega)
  rw [elem22] at hrun
  unfold execOp
  simp only [ho]
  generalize a'.eval = r at *
  simp [e0, e1, run_sliceAt_slice (P := Tryz.prog) (h := Tryz.underlying22), hrun, sizeOf, typeInfo, hi, hsz, sliced, hne, Addr.add_lit]
def sumV (a : List Nat) (k0 k1 : Value) (S base : Nat) : Nat → Value → World → Prop
  | 0 => IsV (.agg (arr .u64 a))
  | 1 => fun v _ => ∃ d, v = .agg (arr .u64 d) ∧ Wide d ∧ Po.pos Po.B d = Po.pos Po.B a % Po.P
  | 2 => IsV k0
  | 3 => IsV k1
  | 4 => fun v _ => ∃ d, v = .agg (arr .u64 d) ∧ Wide d ∧ Po.pos Po.B d = S
  | 5 => fun v _ => ∃ d, v = .agg (arr .u64 d) ∧ d.length = 5 ∧ (∀ x ∈ d, x < 134217728) ∧ Po.pos Po.B d = Po.pos Po.B a % Po.P + S
  | 6 => fun v w => ∃ g, v = .pointer (some ⟨g, 0, none⟩) ∧ base ≤ g ∧ WAt w g (List.replicate 5 0)
  | _ => fun _ _ => True
theorem sumV_kept (a : List Nat) (k0 k1 : Value) (S base : Nat) : ∀ i v w w', sumV a k0 k1 S base i v w → Below w.heap.size w w' → sumV a k0 k1 S base i v w'
  | 0, _, _, _, h, _ => h
  | 1, _, _, _, h, _ => h
  | 2, _, _, _, h, _ => h
  | 3, _, _, _, h, _ => h
  | 4, _, _, _, h, _ => h
  | 5, _, _, _, h, _ => h
  | 6, _, _, _, ⟨g, h1, h3, h2⟩, hb => ⟨g, h1, h3, h2.below hb h2.lt⟩
  | _ + 7, _, _, _, _, _ => trivial
theorem own_base {w : World} {base base' e size : Nat} {v : Value} {n : Nat} {xs : List Value} (h : w.ownsRow base e size v n xs) (hb : base' ≤ base) : w.ownsRow base' e size v n xs := by
  obtain ⟨h1, h2 | ⟨g, cap, cur, hv, hg, hr⟩⟩ := h
  · exact ⟨h1, .inl h2⟩
  · exact ⟨h1, .inr ⟨g, cap, cur, hv, Nat.le_trans hb hg, hr⟩⟩
set_option maxHeartbeats 1000000 in
theorem tag_ok (key text : List Nat) (bk ok ck n ct : Nat) (pt : Option Addr) (w : World) (hk : key.length = 32) (hkb : ∀ x ∈ key, x < 256) (hkr : w.rangeAt bk ok (ints .u8 key)) (hck : 32 ≤ ck)
    (hT : TextIs w pt text) (htl : text.length = n) (hnl : n < 4611686018427387904) (hct : n ≤ ct) :
    Calls Tryz.prog 135 #[.slice (some ⟨bk, ok, none⟩) 32 ck, .slice pt n ct] w fun e w' => ∃ v, e = .returned (.tuple #[v, .int .i64 0]) ∧ w'.ownsRow w.heap.size 5 1 v 16 (ints .u8 (Po.tag key text)) ∧ Below w.heap.size w w' := by
  have HKL : Hid (key.length = 32) := hk
  have HKB : Hid (∀ x ∈ key, x < 256) := hkb
  have HKR : Hid (w.rangeAt bk ok (ints .u8 key)) := hkr
  have HT : Hid (TextIs w pt text) := hT
  have HTL : Hid (text.length = n) := htl
  clear hk hkb hkr hT htl
  have hck1 : (16 : Int) ≤ (ck : Int) := by omega
  have hck2 : ¬ ck = 16 := by omega
  go_enter Tryz.func135, Tryz.ntmps135
  go_wp2_with fail
  refine (multiplier_any (key.take 16) bk ok ck w (by rw [List.length_take, HKL.out]; rfl) (lt_take HKB.out 16) (range_take HKR.out 16)).mono ?_
  rintro e w1 ⟨r, rfl, hwr, hpr, hb1⟩
  have HRW : Hid (Wide r) := hwr
  have HRL : Hid (r.length = 5) := hwr.1
  have HPR : Hid (Po.pos Po.B r = Po.pos 256 (Po.clamp (key.take 16))) := hpr
  have HB1 : Hid (Below w.heap.size w w1) := hb1
  clear hwr hpr hb1
  go_wp2_with (first | with_reducible (refine stop_store 190 ?_))
  rw [zeros5_eq]
  refine Stop.go ?_
  with_reducible refine law_store38 r HRL.out ?sx ?sy ?sk
  case sx => exact rfl
  case sy => exact rfl
  intro w2 h2 hb2 hs2
  have HR2 : Hid (WAt w2 w1.heap.size r) := h2
  have HB2 : Hid (Below w.heap.size w w2) := HB1.out.trans (hb2.mono HB1.out.size)
  have HS2 : Hid (w2.heap.size = w1.heap.size + 1) := hs2
  have hle := HB1.out.size
  clear h2 hb2 hs2 HB1
  go_wp2_with fail
  rw [zeros5_eq]
  have HZ : Hid (WAt (w2.alloc (Obj.cells zeros5 190)) w2.heap.size (List.replicate 5 0)) := heap_alloc_new w2 _
  have hbz : Below w2.heap.size w2 (w2.alloc (Obj.cells zeros5 190)) := (Below.refl _ _).alloc (Nat.le_refl _) _
  have HR3 : Hid (WAt (w2.alloc (Obj.cells zeros5 190)) w1.heap.size r) := HR2.out.below hbz HR2.out.lt
  have HB3 : Hid (Below w.heap.size w (w2.alloc (Obj.cells zeros5 190))) := HB2.out.trans (hbz.mono HB2.out.size)
  have hs2 := HS2.out
  clear hbz HR2 HB2 HS2
  generalize w2.alloc (Obj.cells zeros5 190) = W3 at *
  generalize w2.heap.size = ga at *
  subst hs2
  generalize w1.heap.size = gr at *
  obtain ⟨R, hR⟩ : ∃ R, Po.pos Po.B r = R := ⟨_, rfl⟩
  have HRR : Hid (R = Po.rOf key) := by
    show _ = _
    rw [← hR, HPR.out, clamp_take]
    rfl
  have HRP : Hid (Po.pos Po.B r = R) := hR
  clear hR HPR
  go_loopw [8] (fun i wr => ∃ (k : Nat) (a : List Nat), 16 * k < n + 16 ∧ i = .int .i64 ((16 * k : Nat) : Int) ∧ Hid (WAt wr (gr + 1) a) ∧ Hid (WAt wr gr r) ∧ Hid (Wide a) ∧ Hid (Po.pos Po.B a % Po.P = Po.acc R text k) ∧ Hid (Below w.heap.size w wr)) (fun i _ => n + 16 - (intOf i).toNat)
  case atStart => exact ⟨0, _, by omega, rfl, HZ.out, HR3.out, ⟨by simp, fun x hx => by simp at hx; rw [hx]; decide⟩, by show _ = _; simp [Po.pos, List.replicate, Po.acc], HB3.out⟩
  case round =>
    clear HZ HR3 HB3
    obtain ⟨k, a, hk, rfl, HA, HR, HAW, HP, HB⟩ := hrel
    by_cases hlt : 16 * k < n
    · obtain ⟨A, hA⟩ : ∃ A, 16 * k = A := ⟨_, rfl⟩
      rw [hA] at hlt hk ⊢
      obtain ⟨bt, ot, rfl, hrt⟩ := HT.out.2 (by intro e; have := HTL.out; rw [e] at this; simp at this; omega)
      have hrt2 : wr.rangeAt bt (ot + A) (ints .u8 ((text.drop A).take 16)) := range_take (range_drop (rangeAt_below HB.out hrt) A) 16
      have HRT : Hid (wr.rangeAt bt (ot + A) (ints .u8 ((text.drop A).take 16))) := hrt2
      obtain ⟨m, hm⟩ : ∃ m, min (A + 16) n - A = m := ⟨_, rfl⟩
      obtain ⟨E, hE⟩ : ∃ E, min (A + 16) n = E := ⟨_, rfl⟩
      have hEA : E - A = m := by omega
      have HML : Hid (((text.drop A).take 16).length = m) := by
        show _ = _
        rw [List.length_take, List.length_drop, HTL.out]; omega
      have HMB : Hid (∀ x ∈ (text.drop A).take 16, x < 256) := lt_take (lt_drop HT.out.1 A) 16
      have HPT : Hid (Po.pos 256 ((text.drop A).take 16 ++ [1]) = Po.part text k) := by
        show _ = _
        rw [← hA]; rfl
      have hE' : min ((A : Int) + 16) (n : Int) = (E : Int) := by omega
      have v1 : IntKind.i64.wrap ((A : Int) + 16) = (A : Int) + 16 := i64_id _ (by omega)
      have a0 : (A : Int) < (n : Int) := by omega
      have a1 : (A : Int) ≤ (E : Int) := by omega
      have a2 : (E : Int) ≤ (ct : Int) := by omega
      have a3 : ¬ ct = A := by omega
      have hm16 : m ≤ 16 := by omega
      have HAK : Hid (16 * k = A) := hA
      have HEE : Hid (min (A + 16) n = E) := hE
      have HLT : Hid (A < n) := hlt
      clear hrt hrt2 hm hE hA HT
      generalize (text.drop A).take 16 = blkt at *
      go_wp2_with fail
      all_goals
        (first | rw [show ((A : Int) + 16).toNat - A = m from by omega] | rw [show n - A = m from by omega]
         refine (closed_any blkt m bt (ot + A) (ct - A) wr HML.out hm16 HMB.out HRT.out).mono ?_
         rintro e w4 ⟨blk, rfl, hwb, hpb, hb4⟩
         have HBW : Hid (Wide blk) := hwb
         have HBL : Hid (blk.length = 5) := hwb.1
         have HPB : Hid (Po.pos Po.B blk = Po.part text k) := hpb.trans HPT.out
         have HA4 : Hid (WAt w4 (gr + 1) a) := HA.out.below hb4 HA.out.lt
         have HR4 : Hid (WAt w4 gr r) := HR.out.below hb4 HR.out.lt
         have hsb := HB.out.size
         have HB4 : Hid (Below w.heap.size w w4) := HB.out.trans (hb4.mono hsb)
         clear hwb hpb hb4 HA HR HB HML HMB HRT HPT hE' v1
         go_wp2_with (first | with_reducible (refine stop_store 190 ?_))
         rw [zeros5_eq]
         refine Stop.go ?_
         with_reducible refine law_store38 blk HBL.out rfl rfl ?_
         intro w5 h5 hb5 hs5
         have HK5 : Hid (WAt w5 w4.heap.size blk) := h5
         have HA5 : Hid (WAt w5 (gr + 1) a) := HA4.out.below hb5 HA4.out.lt
         have HR5 : Hid (WAt w5 gr r) := HR4.out.below hb5 HR4.out.lt
         have HB5 : Hid (Below w.heap.size w w5) := HB4.out.trans (hb5.mono HB4.out.size)
         have HGL : Hid (gr + 1 < w4.heap.size) := HA4.out.lt
         clear h5 hb5 hs5 HA4 HR4 HB4
         generalize w4.heap.size = gk at *
         go_wp2_with fail
         refine wp_region_last 5 (accV a blk r) (fun u u' => Below u.heap.size u u') (by kernel_rfl) ((Below.refl _ _).drew) below_trans' (accV_kept a blk r) (by kernel_rfl) (by kernel_rfl) ?_ ?_
         · intro i o a' w' hi5 hi inv hpre
           have hb : Below w5.heap.size w5 w' := inv.grow
           obtain rfl|rfl|rfl|rfl|rfl : i = 0 ∨ i = 1 ∨ i = 2 ∨ i = 3 ∨ i = 4 := by omega
           · obtain rfl := Option.some.inj hi
             exact st_load38 7 (gr + 1) a HAW.out.1 rfl rfl rfl (by rw [inv.old 7 (notDst_spec (by kernel_rfl))]; rfl) (HA5.out.below hb HA5.out.lt) rfl
           · obtain rfl := Option.some.inj hi
             exact st_load38 9 gk blk HBL.out rfl rfl rfl (by rw [inv.old 9 (notDst_spec (by kernel_rfl))]; rfl) (HK5.out.below hb HK5.out.lt) rfl
           · obtain rfl := Option.some.inj hi
             have h0 : a'.tmps.getD 32 undef = _ := pre_of hpre 0 32 (by kernel_rfl) (by kernel_rfl)
             have h1 : a'.tmps.getD 33 undef = _ := pre_of hpre 1 33 (by kernel_rfl) (by kernel_rfl)
             refine st_call 147 #[a'.tmps.getD 32 undef, a'.tmps.getD 33 undef] rfl rfl (by kernel_rfl) ?_
             rw [h0, h1]
             refine (plus_any a blk w' HAW.out.1 HBL.out (fun x hx => Nat.lt_trans (HAW.out.2 x hx) (by decide)) (fun x hx => Nat.lt_trans (HBW.out.2 x hx) (by decide))).mono ?_
             rintro e w6 ⟨rfl, hb6⟩
             exact ⟨_, rfl, hb6, rfl⟩
           · obtain rfl := Option.some.inj hi
             exact st_load38 6 gr r HRL.out rfl rfl rfl (by rw [inv.old 6 (notDst_spec (by kernel_rfl))]; rfl) (HR5.out.below hb HR5.out.lt) rfl
           · obtain rfl := Option.some.inj hi
             have h0 : a'.tmps.getD 34 undef = _ := pre_of hpre 2 34 (by kernel_rfl) (by kernel_rfl)
             have h1 : a'.tmps.getD 35 undef = _ := pre_of hpre 3 35 (by kernel_rfl) (by kernel_rfl)
             refine st_call 148 #[a'.tmps.getD 34 undef, a'.tmps.getD 35 undef] rfl rfl (by kernel_rfl) ?_
             rw [h0, h1]
             refine (times_any (sumTo a blk 5) r w' (sumTo_length _ _ _) HRL.out (sum_lt (by decide) (by decide) HAW.out.2 HBW.out.2) HRW.out.2).mono ?_
             rintro e w6 ⟨d, rfl, hd1, hd2, hb6⟩
             refine ⟨_, rfl, hb6, d, rfl, hd1, ?_⟩
             rw [hd2, sum_pos _ _ HAW.out.1 HBL.out]
         · intro a' w' inv hd
           obtain ⟨d, h36, hdw, hdp⟩ := hd 4 36 (by decide) (by kernel_rfl)
           have hb : Below w5.heap.size w5 w' := inv.grow
           have hA6 : WAt w' (gr + 1) a := HA5.out.below hb HA5.out.lt
           have hR6 : WAt w' gr r := HR5.out.below hb HR5.out.lt
           have hB6 : Below w.heap.size w w' := HB5.out.trans (hb.mono HB5.out.size)
           have hdf : a'.defers = [] := inv.defers
           have hsz : a'.tmps.size = 46 := inv.size
           have h7 : a'.tmps.getD 7 undef = .pointer (some ⟨gr + 1, 0, none⟩) := by rw [inv.old 7 (notDst_spec (by kernel_rfl))]; rfl
           have e := frame46 hsz (fun t ht => inv.old t (dst_within (lo := 32) (up := 36) (by kernel_rfl) t ht))
           refine wpOp_store 190 (.tmp 7) (.tmp 36) (gr + 1) 0 (arr .u64 d) rfl rfl rfl h7 h36 (by rw [arr_size, hdw.1]; exact there_of_row hA6 5 (by rw [arr_size, HAW.out.1]; exact Nat.le_refl _)) (by rw [arr_size, hdw.1]; exact info38) (ints_one _ _) ?_
           have HA7 : Hid (WAt (w'.setCells (gr + 1) 0 (arr .u64 d).toList) (gr + 1) d) := by
             have := heap_setCells (gr + 1) 190 (ints .u64 d) 0 w' (ints .u64 a) hA6 (by rw [ints_length, ints_length, hdw.1, HAW.out.1]; exact Nat.le_refl _)
             show _ = _
             rw [arr_list]
             refine Eq.trans this ?_
             rw [ints_length, hdw.1, List.drop_eq_nil_of_le (by rw [ints_length, HAW.out.1]; exact Nat.le_refl _)]
             simp [arr]
           have hgr : w'.grownBy (w'.setCells (gr + 1) 0 (arr .u64 d).toList) (some (gr + 1)) := grownBy_setCells _ _ (grownBy_refl _ _)
           have HR7 : Hid (WAt (w'.setCells (gr + 1) 0 (arr .u64 d).toList) gr r) := hR6.grown hgr (by omega)
           have HB7 : Hid (Below w.heap.size w (w'.setCells (gr + 1) 0 (arr .u64 d).toList)) := below_grown hB6 hgr (by have := hle; omega)
           have HDW : Hid (Wide d) := hdw
           have HDP : Hid (Po.pos Po.B d % Po.P = Po.acc R text (k + 1)) := by
             show _ = _
             rw [hdp, HPB.out, HRP.out, step_mod HP.out]
             rfl
           clear hd hb hA6 hR6 hB6 hsz h7 hgr hdw hdp inv h36 HA5 HR5 HB5 HK5
           generalize w'.setCells (gr + 1) 0 (arr .u64 d).toList = W7 at *
           obtain ⟨tmps, defers⟩ := a'
           obtain rfl : defers = [] := hdf
           replace e : tmps = _ := e
           generalize tmps.getD 32 undef = x32 at e
           generalize tmps.getD 33 undef = x33 at e
           generalize tmps.getD 34 undef = x34 at e
           generalize tmps.getD 35 undef = x35 at e
           generalize tmps.getD 36 undef = x36 at e
           simp only [Array.getD_eq_getD_getElem?] at e
           subst e
           go_wp2_with fail
           go_roundw
           case rel => exact ⟨k + 1, d, (by have := HAK.out; omega), (by have := HAK.out; go_num), HA7.out, HR7.out, HDW.out, HDP.out, HB7.out⟩
           case measure => have := HAK.out; have := HLT.out; simp [intOf]; omega)
    · have hkp : k = Po.parts text := by
        unfold Po.parts
        rw [HTL.out]
        omega
      have hl0 : ¬ ((16 * k : Nat) : Int) < (n : Int) := by omega
      have HPA : Hid (Po.pos Po.B a % Po.P + Po.pos 256 (key.drop 16) = Po.tagN key text) := by
        show _ = _
        rw [HP.out, hkp, HRR.out]
        rfl
      have hkr := range_drop (rangeAt_below HB.out HKR.out) 16
      have HKD : Hid (wr.rangeAt bk (ok + 16) (ints .u8 (key.drop 16))) := hkr
      have HDL : Hid ((key.drop 16).length = 16) := by
        show _ = _
        rw [List.length_drop, HKL.out]
      have HDB : Hid (∀ x ∈ key.drop 16, x < 256) := lt_drop HKB.out 16
      clear hkr HP HRR HRP HR HKR HT
      generalize ((16 * k : Nat) : Int) = zA at *
      clear hkp hk hlt
      go_wp2_with fail
      generalize key.drop 16 = K2 at *
      refine wp_region_last 7 (sumV a (.slice (some ⟨bk, ok, none⟩) 32 ck) (.slice (some ⟨bk, ok + 16, none⟩) 16 (ck - 16)) (Po.pos 256 K2) w.heap.size) (fun u u' => Below u.heap.size u u') (by kernel_rfl) ((Below.refl _ _).drew) below_trans' (sumV_kept _ _ _ _ _) (by kernel_rfl) (by kernel_rfl) ?_ ?_
      · intro i o a' w' hi5 hi inv hpre
        have hb : Below wr.heap.size wr w' := inv.grow
        obtain rfl|rfl|rfl|rfl|rfl|rfl|rfl : i = 0 ∨ i = 1 ∨ i = 2 ∨ i = 3 ∨ i = 4 ∨ i = 5 ∨ i = 6 := by omega
        · obtain rfl := Option.some.inj hi
          exact st_load38 7 (gr + 1) a HAW.out.1 rfl rfl rfl (by rw [inv.old 7 (notDst_spec (by kernel_rfl))]; rfl) (HA.out.below hb HA.out.lt) rfl
        · obtain rfl := Option.some.inj hi
          have h0 : a'.tmps.getD 37 undef = _ := pre_of hpre 0 37 (by kernel_rfl) (by kernel_rfl)
          refine st_call 149 #[a'.tmps.getD 37 undef] rfl rfl (by kernel_rfl) ?_
          rw [h0]
          refine (least_any a w' HAW.out).mono ?_
          rintro e w6 ⟨d, rfl, hd1, hd2, hb6⟩
          exact ⟨_, rfl, hb6, d, rfl, hd1, hd2⟩
        · obtain rfl := Option.some.inj hi
          exact st_value _ rfl rfl rfl (Below.refl _ _) (by show a'.tmps.getD 0 undef = _; rw [inv.old 0 (notDst_spec (by kernel_rfl))]; rfl)
        · obtain rfl := Option.some.inj hi
          have h0 : a'.tmps.getD 39 undef = _ := pre_of hpre 2 39 (by kernel_rfl) (by kernel_rfl)
          exact st_value (.slice (some ⟨bk, ok + 16, none⟩) 16 (ck - 16)) rfl rfl (slice16_run 39 rfl h0 hck) (Below.refl _ _) rfl
        · obtain rfl := Option.some.inj hi
          have h0 : a'.tmps.getD 40 undef = _ := pre_of hpre 3 40 (by kernel_rfl) (by kernel_rfl)
          refine st_call 150 #[a'.tmps.getD 40 undef] rfl rfl (by kernel_rfl) ?_
          rw [h0]
          refine (number_any K2 16 bk (ok + 16) (ck - 16) w' HDL.out (by omega) (by omega) HDB.out ?_ (rangeAt_below hb HKD.out)).mono ?_
          · have := Po.pos_lt (b := 256) (by decide) HDB.out
            rw [HDL.out] at this
            exact Nat.lt_trans this pow16
          rintro e w6 ⟨d, rfl, hd1, hd2, hb6⟩
          exact ⟨_, rfl, hb6, d, rfl, hd1, hd2⟩
        · obtain rfl := Option.some.inj hi
          obtain ⟨d1, h0, hw1, hp1⟩ := pre_of hpre 1 38 (by kernel_rfl) (by kernel_rfl)
          obtain ⟨d2, h1, hw2, hp2⟩ := pre_of hpre 4 41 (by kernel_rfl) (by kernel_rfl)
          refine st_call 147 #[a'.tmps.getD 38 undef, a'.tmps.getD 41 undef] rfl rfl (by kernel_rfl) ?_
          rw [h0, h1]
          refine (plus_any d1 d2 w' hw1.1 hw2.1 (fun x hx => Nat.lt_trans (hw1.2 x hx) (by decide)) (fun x hx => Nat.lt_trans (hw2.2 x hx) (by decide))).mono ?_
          rintro e w6 ⟨rfl, hb6⟩
          exact ⟨_, rfl, hb6, _, rfl, sumTo_length _ _ _, sum_lt (by decide) (by decide) hw1.2 hw2.2, by rw [sum_pos _ _ hw1.1 hw2.1, hp1, hp2]⟩
        · obtain rfl := Option.some.inj hi
          refine st_value (.pointer (some ⟨w'.heap.size, 0, none⟩)) (w'' := w'.alloc (Obj.cells zeros5 190)) rfl rfl (by kernel_rfl) ((Below.refl _ _).alloc (Nat.le_refl _) _) ⟨_, rfl, Nat.le_trans HB.out.size hb.size, heap_alloc_new w' _⟩
      · intro a' w' inv hd
        obtain ⟨d, h42, hdl, hdb, hdp⟩ := hd 5 42 (by decide) (by kernel_rfl)
        obtain ⟨g, h10, hgb, hg⟩ := hd 6 10 (by decide) (by kernel_rfl)
        have hb : Below wr.heap.size wr w' := inv.grow
        have hB6 : Below w.heap.size w w' := HB.out.trans (hb.mono HB.out.size)
        have hdf : a'.defers = [] := inv.defers
        have hsz : a'.tmps.size = 46 := inv.size
        have e := frame46b hsz (fun t ht => inv.old t (dst_within2 (x := 10) (lo := 37) (up := 42) (by kernel_rfl) t ht))
        rw [h10] at e
        refine wpOp_store 190 (.tmp 10) (.tmp 42) g 0 (arr .u64 d) rfl rfl rfl h10 h42 (by rw [arr_size, hdl]; exact there_of_row hg 5 (by simp [arr_size])) (by rw [arr_size, hdl]; exact info38) (ints_one _ _) ?_
        have HA7 : Hid (WAt (w'.setCells g 0 (arr .u64 d).toList) g d) := by
          have := heap_setCells g 190 (ints .u64 d) 0 w' (ints .u64 (List.replicate 5 0)) hg (by rw [ints_length, ints_length, hdl]; simp)
          show _ = _
          rw [arr_list]
          refine Eq.trans this ?_
          rw [ints_length, hdl]
          simp [arr, ints]
        have hgr : w'.grownBy (w'.setCells g 0 (arr .u64 d).toList) (some g) := grownBy_setCells _ _ (grownBy_refl _ _)
        have HB7 : Hid (Below w.heap.size w (w'.setCells g 0 (arr .u64 d).toList)) := below_grown hB6 hgr hgb
        have HDL7 : Hid (d.length = 5) := hdl
        have HDB7 : Hid (∀ x ∈ d, x < 134217728) := hdb
        have HDP : Hid (Po.pos Po.B d = Po.tagN key text) := hdp.trans HPA.out
        have HGB : Hid (w.heap.size ≤ g) := hgb
        clear hd hb hB6 hsz hgr hdl hdb hdp inv h42 h10 hg hgb HA HAW HPA HKD HDL HDB HKL HKB
        generalize w'.setCells g 0 (arr .u64 d).toList = W7 at *
        obtain ⟨tmps, defers⟩ := a'
        obtain rfl : defers = [] := hdf
        replace e : tmps = _ := e
        generalize tmps.getD 37 undef = x37 at e
        generalize tmps.getD 38 undef = x38 at e
        generalize tmps.getD 39 undef = x39 at e
        generalize tmps.getD 40 undef = x40 at e
        generalize tmps.getD 41 undef = x41 at e
        generalize tmps.getD 42 undef = x42 at e
        simp only [Array.getD_eq_getD_getElem?] at e
        subst e
        go_wp2_with fail
        refine (carry_any d g W7 HA7.out HDL7.out (fun x hx => Nat.lt_trans (HDB7.out x hx) (by decide))).mono ?_
        rintro e w8 ⟨c5, ov, rfl, hcd, hw8, hg8⟩
        have HC8 : Hid (Carried d c5 ov) := hcd
        have HCL : Hid (c5.length = 5) := hcd.1
        have H8 : Hid (WAt w8 g c5) := hw8
        have HB8 : Hid (Below w.heap.size w w8) := below_grown HB7.out hg8 HGB.out
        clear hcd hw8 hg8 HA7 HB7
        go_wp2_with (first | with_reducible (refine stop_load 190 ?_))
        refine Stop.go ?_
        with_reducible refine law_load_arr g 0 .u64 c5 _ ?lx ?lc under38 rfl ?li ?lk
        case lx => exact rfl
        case lc => exact rangeAt_of_row H8.out
        case li => rw [HCL.out]; exact info38
        go_wp2_with fail
        refine (bytes_any c5 w8 ⟨HC8.out.1, HC8.out.2.1⟩).mono ?_
        rintro e w9 ⟨v, rfl, ho9, hb9⟩
        have HO9 : Hid (w9.ownsRow w.heap.size 5 1 v 16 (ints .u8 (Po.tag key text))) := by
          have e1 : Po.digs 256 16 (Po.pos Po.B c5) = Po.tag key text := by
            unfold Po.tag
            rw [← HDP.out, ← HC8.out.2.2.1, ← Po.digs_mod (by decide) 16 (Po.pos Po.B c5), ← Po.digs_mod (by decide) 16 (Po.pos Po.B c5 + Po.B ^ 5 * ov)]
            congr 1
            rw [show Po.B ^ 5 * ov = 256 ^ 16 * (4 * ov) from by rw [← Nat.mul_assoc]; congr 1, Nat.add_mul_mod_self_left]
          rw [e1] at ho9
          exact own_base ho9 HB8.out.size
        have HB9 : Hid (Below w.heap.size w w9) := HB8.out.trans (hb9.mono HB8.out.size)
        clear ho9 hb9
        go_wp2_with fail
        refine bodyPost_ret (results_tmp2 rfl _ _ _) rfl ?_
        exact ⟨v, rfl, HO9.out, HB9.out⟩
end Go.Proofs.YtfjdaafckiefdaaGreatDoor.P4
/- Bytes as a string, and literals of bytes. -/
namespace Go.Proofs.YtfjdaafckiefdaaGreatDoor.P4
open Go.RowKit
def strB (l : List Nat) : ByteArray := (l.map (fun (n : Nat) => (n : Int))).foldl (fun r n => r.push (UInt8.ofNat n.toNat)) ByteArray.empty
theorem run_conv (w : World) (b o c : Nat) (l : List Nat) (h : w.rangeAt b o (ints .u8 l)) : (convert 22 9 (.slice (some ⟨b, o, none⟩) l.length c)).run Tryz.prog w = .ok (.string (strB l)) w := by
  rw [run_convert_bytes_string w 22 9 5 _ _ _ Tryz.underlying22 Tryz.underlying5 Tryz.underlying9]
  have hl : (loadCells ⟨b, o, none⟩ (ints .u8 l).length).run Tryz.prog w = .ok (ints .u8 l).toArray w :=
    run_loadCells_list (P := Tryz.prog) w ⟨b, o, none⟩ (ints .u8 l) (fun j v hv => by rw [Addr.add_mid]; exact h j v hv)
  rw [ints_length] at hl
  have e : (ints .u8 l) = (l.map (fun (n : Nat) => (n : Int))).map (Value.int .u8) := by simp [ints]
  rw [e] at hl
  exact run_bytesToString w ⟨b, o, none⟩ l.length c _ hl
end Go.Proofs.YtfjdaafckiefdaaGreatDoor.P4
/- What the statements need of the tag's mathematics. -/
namespace Go.Proofs.YtfjdaafckiefdaaGreatDoor.P4
open Sp
end Go.Proofs.YtfjdaafckiefdaaGreatDoor.P4
/- Slices and arrays of bytes that came in, as the walks want them. -/
namespace Go.Proofs.YtfjdaafckiefdaaGreatDoor.P4
open Go.RowKit
/-- A slice of bytes that came in: it is empty with no room; or it leads to a row of bytes. -/
def RowIs (w : World) (a : Option Addr) (len cap : Nat) : Prop :=
  (len = 0 ∧ cap = 0) ∨ ∃ b o l, a = some ⟨b, o, none⟩ ∧ l.length = len ∧ len ≤ cap ∧ cap ≤ 9223372036854775807 ∧ (∀ x ∈ l, x < 256) ∧ w.rangeAt b o (ints .u8 l) ∧ b < w.heap.size
theorem rowIs_nil (w : World) (a : Option Addr) : RowIs w a 0 0 := .inl ⟨rfl, rfl⟩
theorem rowIs_of {w : World} {x : Addr} {len cap : Nat} {zs : List Int} (hl : len ≤ cap) (hm : cap ≤ maxLen) (hz : zs.length = cap)
    (hcell : ∀ i, i < zs.length → w.cell? (x.add i) = some (.int .u8 (zs.getD i 0))) (hwz : ∀ n ∈ zs, (Lit.int .u8 n).wf = true) : RowIs w (some x) len cap := by
  by_cases hc : cap = 0
  · exact .inl ⟨by omega, hc⟩
  · have h0 := hcell 0 (by omega)
    have hx0 : x.add 0 = x := by obtain ⟨b, o, s⟩ := x; unfold Addr.add; split <;> simp_all
    have hsp : x.spot = none := by
      rw [hx0] at h0
      cases hs : x.spot with
      | none => rfl
      | some q =>
        unfold World.cell? at h0
        split at h0
        · simp [hs] at h0
        · cases h0
    obtain ⟨b, o, s⟩ := x
    simp only at hsp
    subst hsp
    have hbd : ∀ n ∈ zs, 0 ≤ n ∧ n ≤ 255 := fun n hn => by
      have := hwz n hn
      simp [Lit.wf, IntKind.min, IntKind.max, IntKind.bits, IntKind.signed] at this
      omega
    refine .inr ⟨b, o, (zs.take len).map Int.toNat, rfl, by simp; omega, hl, by unfold maxLen at hm; omega, fun y hy => ?_, fun j v hv => ?_, ?_⟩
    · obtain ⟨n, hn, rfl⟩ := List.mem_map.1 hy
      have := hbd n (List.mem_of_mem_take hn)
      omega
    · have hj : j < len := by
        have := (List.getElem?_eq_some_iff.1 hv).1
        simp [ints] at this
        omega
      have hj' : j < zs.length := by omega
      have h1 := hcell j hj'
      rw [Addr.add_mid] at h1
      rw [h1, ← hv]
      have := hbd zs[j] (List.getElem_mem hj')
      simp [ints, hj, hj']
      omega
    · have := World.block_lt_of_cell? w _ (by rw [hx0] at h0; exact h0)
      exact this
theorem Tryz.wf_i64 {n : Int} (h : (Lit.int .i64 n).wf = true) : -9223372036854775808 ≤ n ∧ n ≤ 9223372036854775807 := by
  simp [Lit.wf, IntKind.min, IntKind.max, IntKind.bits, IntKind.signed] at h
  omega
theorem RowIs.max {w : World} {a : Option Addr} {len cap : Nat} (h : RowIs w a len cap) : len ≤ 9223372036854775807 := by
  rcases h with ⟨rfl, rfl⟩ | ⟨b, o, l, rfl, hl, hc, hm, hs, hr, hb⟩ <;> omega
theorem RowIs.text {w : World} {a : Option Addr} {len cap : Nat} (h : RowIs w a len cap) : len ≤ cap ∧ ∃ l, l.length = len ∧ TextIs w a l := by
  rcases h with ⟨rfl, rfl⟩ | ⟨b, o, l, rfl, hl, hc, hm, hs, hr, hb⟩
  · exact ⟨Nat.le_refl _, [], rfl, fun x hx => by simp at hx, fun h => absurd rfl h⟩
  · exact ⟨hc, l, hl, hs, fun _ => ⟨b, o, rfl, hr⟩⟩
section
variable {H : Type} {enc : TypeId × Value → H} {P : Program} {k e : TypeId} {n : Nat} {W : World} {base : Nat} {sp : Nat → Bool} {held : Bool}
end
end Go.Proofs.YtfjdaafckiefdaaGreatDoor.P4
/- Steps of drawn regions: bytes and strings that their operations leave behind; makes, slices of arrays, appends, tags. -/
namespace Go.Proofs.YtfjdaafckiefdaaGreatDoor.P4
open Go.RowKit
/-- A slice that reads as these bytes. -/
def RowV (l : List Nat) (v : Value) (w : World) : Prop := (∃ b o c, v = .slice (some ⟨b, o, none⟩) l.length c ∧ w.rangeAt b o (ints .u8 l)) ∨ ∃ p c, v = .slice p 0 c ∧ l = []
theorem RowV.kept {l : List Nat} {v : Value} {w w' : World} (h : RowV l v w) (hb : Below w.heap.size w w') : RowV l v w' := by
  rcases h with ⟨b, o, c, rfl, h1⟩ | ⟨p, c, rfl, rfl⟩
  · exact .inl ⟨b, o, c, rfl, rangeAt_below hb h1⟩
  · exact .inr ⟨p, c, rfl, rfl⟩
theorem conv_empty (w : World) (p : Option Addr) (c : Nat) : (convert 22 9 (.slice p 0 c)).run Tryz.prog w = .ok (.string (strB [])) w := by
  rw [run_convert_bytes_string w 22 9 5 _ _ _ Tryz.underlying22 Tryz.underlying5 Tryz.underlying9]
  cases p with
  | none => rfl
  | some a => exact run_bytesToString w a 0 c [] (by rfl)
theorem conv_run {o : Oper} {a' : Act} {w' : World} {l : List Nat} (t : Tmp) (ho : o.op = .convert 22 9 (.tmp t)) (h : RowV l (a'.tmps.getD t undef) w') :
    (execOp a'.eval o).run Tryz.prog w' = .ok (.value (.string (strB l))) w' := by
  rcases h with ⟨b, of, c, hv, hr⟩ | ⟨p, c, hv, rfl⟩
  · have hc := run_conv w' b of c l hr
    unfold execOp
    simp only [ho, Act.eval, hv, Sem.run_bind, hc, Result.andThen_ok, Sem.run_pure]
  · have hc := conv_empty w' p c
    unfold execOp
    simp only [ho, Act.eval, hv, Sem.run_bind, hc, Result.andThen_ok, Sem.run_pure]
theorem make_bytes (l c : Nat) (k : IntKind) (hlc : l ≤ c) (hc : c ≤ 281474976710656) (w : World) :
    (Instr.makeSlice 22 (.int k (l : Int)) (.int k (c : Int))).run Tryz.prog w = .ok (.slice (some ⟨w.heap.size, 0, none⟩) l c) (w.alloc (.cells (arr .u8 (List.replicate c 0)) 5)) := by
  obtain ⟨i, hi, hs, hb, hz⟩ := info5e
  have := run_make (P := Tryz.prog) w 22 5 i _ Tryz.underlying22 hi hz k k (l : Int) (c : Int) (by omega) (by omega) (by rw [hb]; omega) (by omega)
  rw [this, hs, ← made_zeros]
  simp [Value.cells]
/-- What Tag leaves: the bytes of a tag. -/
def TagV (T : List Nat) (v : Value) (w : World) : Prop := ∃ b c, v = .slice (some ⟨b, 0, none⟩) 16 c ∧ w.rangeAt b 0 (ints .u8 T)
def PairV (T : List Nat) (v : Value) (w : World) : Prop := ∃ t, v = .tuple #[t, .int .i64 0] ∧ TagV T t w
theorem TagV.kept {T : List Nat} {v : Value} {w w' : World} (h : TagV T v w) (hb : Below w.heap.size w w') : TagV T v w' := by
  obtain ⟨b, c, rfl, h1⟩ := h
  exact ⟨b, c, rfl, rangeAt_below hb h1⟩
theorem PairV.kept {T : List Nat} {v : Value} {w w' : World} (h : PairV T v w) (hb : Below w.heap.size w w') : PairV T v w' := by
  obtain ⟨t, rfl, h1⟩ := h
  exact ⟨t, rfl, h1.kept hb⟩
/-- A key of 32 bytes that a slice leads to. -/
def KeyV (key : List Nat) (v : Value) (w : World) : Prop := ∃ b of c, v = .slice (some ⟨b, of, none⟩) 32 c ∧ 32 ≤ c ∧ w.rangeAt b of (ints .u8 key)
theorem KeyV.kept {T : List Nat} {v : Value} {w w' : World} (h : KeyV T v w) (hb : Below w.heap.size w w') : KeyV T v w' := by
  obtain ⟨b, o, c, rfl, hc, h1⟩ := h
  exact ⟨b, o, c, rfl, hc, rangeAt_below hb h1⟩
/-- Appends write above the base alone. -/
theorem below_append {base : Nat} {w w' : World} {v : Value} {n : Nat} {xs : List Value} (hown : w.ownsRow base 5 1 v n xs) (hg : w.grownBy w' v.ownBlock) (hb : base ≤ w.heap.size) : Below base w w' :=
  below_grown' (Below.refl _ _) hg hown hb (Nat.le_refl _)
end Go.Proofs.YtfjdaafckiefdaaGreatDoor.P4
/- append of a number of noughts to a row of one's own; appends from the middle of a row; literals of bytes. -/
namespace Go.Proofs.YtfjdaafckiefdaaGreatDoor.P4
open Go.RowKit
end Go.Proofs.YtfjdaafckiefdaaGreatDoor.P4
