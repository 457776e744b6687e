/- A ring in memory: has, Key, Learn, Newest, New. -/
import Derived.Test.YtagdlpodpokmmaaDoorR14Key
import Derived.WalkSpells
namespace Go.Proofs.YtagdlpodpokmmaaDoor.S7
open Go.RowKit
/-- A ring: its own block of seventeen cells, and what keys it has. -/
structure RgIs (B : Nat) (w : World) (r : Nat) (xs : List Value) (ks : Nat → Option (List Nat)) : Prop where
  low : B ≤ r
  box : w.heap[r]? = some (.cells xs.toArray 70 (0, 0))
  len : xs.length = 17
  no : ∀ i, i < 17 → ks i = none → xs[i]? = some (.slice none 0 0)
  yes : ∀ i l, i < 17 → ks i = some l → l.length = 32 ∧ ∃ ad c, xs[i]? = some (.slice (some ad) 32 c) ∧ By B w (.slice (some ad) 32 c) l
section
variable {B : Nat} {w w' : World} {r : Nat} {xs : List Value} {ks : Nat → Option (List Nat)} {ts : List (Option TypeId)}
theorem RgIs.lt (h : RgIs B w r xs ks) : r < w.heap.size := (Array.getElem?_eq_some_iff.1 h.box).1
theorem RgIs.cell (h : RgIs B w r xs ks) (i : Nat) : w.cell? ⟨r, i, none⟩ = xs[i]? := by
  rw [cell_of_row _ _ _ _ _ _ h.box]
  simp
theorem RgIs.froz (h : RgIs B w r xs ks) (i : Nat) : w.frozen? ⟨r, i, none⟩ = false := frozen_of_row _ _ _ _ _ h.box
theorem RgIs.below (h : RgIs B w r xs ks) (hb : Below w.heap.size w w') : RgIs B w' r xs ks :=
  ⟨h.low, (hb.block r h.lt).trans h.box, h.len, h.no, fun i l h1 h2 => by
    obtain ⟨h3, ad, c, h4, h5⟩ := h.yes i l h1 h2
    exact ⟨h3, ad, c, h4, h5.below hb⟩⟩
theorem RgIs.kx (h : RgIs B w r xs ks) (hk : Kx ts B w w') (h5 : some 5 ∉ ts) (hr : some 70 ∉ ts) : RgIs B w' r xs ks :=
  ⟨h.low, hk.row r _ h.box hr, h.len, h.no, fun i l h1 h2 => by
    obtain ⟨h3, ad, c, h4, h6⟩ := h.yes i l h1 h2
    exact ⟨h3, ad, c, h4, h6.kx hk h5⟩⟩
set_option maxHeartbeats 1000000 in
theorem has_out (w : World) (rp : Value) (i : Int) (hi : i < 0 ∨ 17 ≤ i) : Calls Tryd.prog 38 #[rp, .int .i64 i] w fun e w' => e = .returned (.bool false) ∧ w' = w := by
  by_cases h1 : 0 ≤ i
  · have h2 : ¬ i < 17 := by omega
    clear hi
    go_enter Tryd.func38, Tryd.ntmps38
    go_wp2_with fail
    go_ret
    exact ⟨rfl, rfl⟩
  · clear hi
    go_enter Tryd.func38, Tryd.ntmps38
    go_wp2_with fail
    go_ret
    exact ⟨rfl, rfl⟩
set_option maxHeartbeats 1000000 in
theorem has_no (h : RgIs B w r xs ks) (j : Nat) (hj : j < 17) (hk : ks j = none) : Calls Tryd.prog 38 #[.pointer (some ⟨r, 0, none⟩), .int .i64 (j : Int)] w fun e w' => e = .returned (.bool false) ∧ w' = w := by
  have hc : w.cell? ⟨r, j, none⟩ = some (.slice none 0 0) := (h.cell j).trans (h.no j hj hk)
  have hnil : (binOp .neq 22 (.slice none 0 0) (.slice none 0 0)).run Tryd.prog w = .ok (.bool false) w := run_neq_slice_nil_any w 22 5 none 0 0 0 0 Tryd.underlying22
  have h1 : (0 : Int) ≤ (j : Int) := by omega
  have h2 : (j : Int) < 17 := by omega
  clear h hk
  go_enter Tryd.func38, Tryd.ntmps38
  go_wp2_with fail
  go_ret
  exact ⟨rfl, rfl⟩
set_option maxHeartbeats 1000000 in
theorem has_yes (h : RgIs B w r xs ks) (j : Nat) (hj : j < 17) {l : List Nat} (hk : ks j = some l) : Calls Tryd.prog 38 #[.pointer (some ⟨r, 0, none⟩), .int .i64 (j : Int)] w fun e w' => e = .returned (.bool true) ∧ w' = w := by
  obtain ⟨_, ad, c, hx, _⟩ := h.yes j l hj hk
  have hc : w.cell? ⟨r, j, none⟩ = some (.slice (some ad) 32 c) := (h.cell j).trans hx
  have hnil : (binOp .neq 22 (.slice (some ad) 32 c) (.slice none 0 0)).run Tryd.prog w = .ok (.bool true) w := run_neq_slice_nil_any w 22 5 (some ad) 32 c 0 0 Tryd.underlying22
  have h1 : (0 : Int) ≤ (j : Int) := by omega
  have h2 : (j : Int) < 17 := by omega
  clear h hk hx
  go_enter Tryd.func38, Tryd.ntmps38
  go_wp2_with fail
  go_ret
  exact ⟨rfl, rfl⟩
theorem has_any (h : RgIs B w r xs ks) (j : Nat) (hj : j < 17) : Calls Tryd.prog 38 #[.pointer (some ⟨r, 0, none⟩), .int .i64 (j : Int)] w fun e w' => e = .returned (.bool (ks j).isSome) ∧ w' = w := by
  cases hk : ks j with
  | none => exact has_no h j hj hk
  | some l => exact has_yes h j hj hk
/-- The greatest with a key, of so many. -/
def nw (ks : Nat → Option (List Nat)) : Nat → Nat
  | 0 => 0
  | j + 1 => if (ks j).isSome = true then j else nw ks j
theorem nw_le (ks : Nat → Option (List Nat)) : ∀ j, nw ks j ≤ j
  | 0 => Nat.le_refl _
  | j + 1 => by
    unfold nw
    split
    · omega
    · exact Nat.le_trans (nw_le ks j) (Nat.le_succ _)
set_option maxHeartbeats 1000000 in
theorem Newest_any (h : RgIs B w r xs ks) : Calls Tryd.prog 22 #[.pointer (some ⟨r, 0, none⟩)] w fun e w' => e = .returned (.int .i64 (nw ks 17 : Int)) ∧ w' = w := by
  have HH : Hid (∀ j : Nat, j < 17 → Calls Tryd.prog 38 #[.pointer (some ⟨r, 0, none⟩), .int .i64 (j : Int)] w fun e w' => e = .returned (.bool (ks j).isSome) ∧ w' = w) := fun j hj => has_any h j hj
  clear h
  go_enter Tryd.func22, Tryd.ntmps22
  go_wp2_with fail
  go_loopw [3, 5] (fun v i wr => ∃ j : Nat, j ≤ 17 ∧ i = .int .i64 j ∧ v = .int .i64 (nw ks j : Int) ∧ Hid (wr = w)) (fun _ i _ => 17 - (intOf i).toNat)
  case atStart => exact ⟨0, by omega, rfl, rfl, rfl⟩
  case round =>
    obtain ⟨j, hj, rfl, rfl, hw⟩ := hrel
    obtain rfl : w = wr := hw.out.symm
    clear hw
    have j0 : (0 : Int) ≤ (j : Int) := by omega
    by_cases hlt : j < 17
    · have j1 : (j : Int) < 17 := by omega
      have HN : Hid (nw ks (j + 1) = if (ks j).isSome = true then j else nw ks j) := rfl
      go_wp2_with fail
      refine (HH.out j hlt).mono ?_
      rintro e w1 ⟨rfl, hw⟩
      obtain rfl : w = w1 := hw.symm
      clear hw
      cases hb : (ks j).isSome with
      | true =>
        rw [hb, if_pos rfl] at HN
        clear hb
        go_wp2_with fail
        refine ⟨⟨j + 1, by omega, by simp, by rw [HN.out], trivial⟩, ?_⟩
        simp only [intOf]
        omega
      | false =>
        rw [hb, if_neg (by decide)] at HN
        clear hb
        go_wp2_with fail
        refine ⟨⟨j + 1, by omega, by simp, by rw [HN.out], trivial⟩, ?_⟩
        simp only [intOf]
        omega
    · obtain rfl : j = 17 := by omega
      clear HH
      go_wp2_with fail
      go_ret
      exact ⟨rfl, rfl⟩
theorem Key_out (w : World) (r : Nat) (i : Int) (hh : Calls Tryd.prog 38 #[.pointer (some ⟨r, 0, none⟩), .int .i64 i] w fun e w' => e = .returned (.bool false) ∧ w' = w) : Calls Tryd.prog 21 #[.pointer (some ⟨r, 0, none⟩), .int .i64 i] w fun e w' => e = .returned (.tuple #[.slice none 0 0, .bool false]) ∧ w' = w := by
  have HH : Hid (Calls Tryd.prog 38 #[.pointer (some ⟨r, 0, none⟩), .int .i64 i] w fun e w' => e = .returned (.bool false) ∧ w' = w) := hh
  clear hh
  go_enter Tryd.func21, Tryd.ntmps21
  go_wp2_with fail
  refine HH.out.mono ?_
  rintro e w1 ⟨rfl, hw⟩
  obtain rfl : w = w1 := hw.symm
  clear hw
  go_wp2_with fail
  go_ret2
  exact ⟨rfl, rfl⟩
set_option maxHeartbeats 1000000 in
theorem Key_yes (h : RgIs B w r xs ks) (j : Nat) (hj : j < 17) {l : List Nat} (hk : ks j = some l) : Calls Tryd.prog 21 #[.pointer (some ⟨r, 0, none⟩), .int .i64 (j : Int)] w fun e w' => ∃ u, e = .returned (.tuple #[u, .bool true]) ∧ w'.ownsRow w.heap.size 5 1 u 32 (ints .u8 l) ∧ Below w.heap.size w w' := by
  have HH : Hid (Calls Tryd.prog 38 #[.pointer (some ⟨r, 0, none⟩), .int .i64 (j : Int)] w fun e w' => e = .returned (.bool true) ∧ w' = w) := has_yes h j hj hk
  obtain ⟨h32, ad, c, hx, hby⟩ := h.yes j l hj hk
  have hc : w.cell? ⟨r, j, none⟩ = some (.slice (some ad) 32 c) := (h.cell j).trans hx
  have HC : Hid (Calls Tryd.prog 23 #[.slice (some ad) 32 c] w fun e w' => ∃ u, e = .returned u ∧ w'.ownsRow w.heap.size 5 1 u 32 (ints .u8 l) ∧ Below w.heap.size w w') := by
    have := clone_any _ w hby.src (by omega)
    rw [h32] at this
    exact this
  have h1 : (0 : Int) ≤ (j : Int) := by omega
  have h2 : (j : Int) < 17 := by omega
  clear h hk hx hby h32
  go_enter Tryd.func21, Tryd.ntmps21
  go_wp2_with fail
  refine HH.out.mono ?_
  rintro e w1 ⟨rfl, hw⟩
  obtain rfl : w = w1 := hw.symm
  clear hw
  go_wp2_with fail
  refine HC.out.mono ?_
  rintro e w1 ⟨u, rfl, h3, h4⟩
  have HZ : Hid (w1.ownsRow w.heap.size 5 1 u 32 (ints .u8 l) ∧ Below w.heap.size w w1) := ⟨h3, h4⟩
  clear h3 h4 HC HH
  go_wp2_with fail
  go_ret2
  exact ⟨_, rfl, HZ.out⟩
/-- What keys there are behind one more. -/
def lrn (ks : Nat → Option (List Nat)) (j : Nat) (l : List Nat) : Nat → Option (List Nat) := fun i => if i = j then some l else ks i
theorem RgIs.put (h : RgIs B w r xs ks) {j : Nat} (hj : j < 17) {ad : Addr} {c : Nat} {l : List Nat} (hl : l.length = 32) (hb : By B w (.slice (some ad) 32 c) l) (hB : B ≤ w.heap.size) :
    RgIs B (w.setCell ⟨r, j, none⟩ (.slice (some ad) 32 c)) r (xs.set j (.slice (some ad) 32 c)) (lrn ks j l) ∧ Kx [some 70] B w (w.setCell ⟨r, j, none⟩ (.slice (some ad) 32 c)) ∧ Only [r] w (w.setCell ⟨r, j, none⟩ (.slice (some ad) 32 c)) := by
  have ho : Only [r] w (w.setCell ⟨r, j, none⟩ (.slice (some ad) 32 c)) := Only.setCell _ _ _ (by simp)
  have hk : Kx [some 70] B w (w.setCell ⟨r, j, none⟩ (.slice (some ad) 32 c)) := Kx.of_only ho hB (fun y hy => by
    rw [List.mem_singleton.1 hy]
    exact ⟨h.low, fun o ho => by rw [h.box] at ho; cases ho; simp [tyOf]⟩)
  refine ⟨⟨h.low, ?_, by rw [List.length_set]; exact h.len, fun i hi hn => ?_, fun i m hi hm => ?_⟩, hk, ho⟩
  · have := heap_setCell_same w r j xs.toArray 70 (.slice (some ad) 32 c) h.box
    rw [this]
    simp
  · unfold lrn at hn
    by_cases e : i = j
    · rw [if_pos e] at hn; cases hn
    · rw [if_neg e] at hn
      rw [List.getElem?_set_ne (Ne.symm e)]
      exact h.no i hi hn
  · unfold lrn at hm
    by_cases e : i = j
    · rw [if_pos e] at hm
      cases hm
      subst e
      exact ⟨hl, ad, c, by rw [List.getElem?_set_self (by rw [h.len]; exact hj)], hb.kx hk (by decide)⟩
    · rw [if_neg e] at hm
      obtain ⟨h3, ad', c', h4, h6⟩ := h.yes i m hi hm
      exact ⟨h3, ad', c', by rw [List.getElem?_set_ne (Ne.symm e)]; exact h4, h6.kx hk (by decide)⟩
theorem Learn_range (w : World) (rp tv : Value) (i : Int) (h : ¬ (1 ≤ i ∧ i ≤ 16)) : Calls Tryd.prog 20 #[rp, .int .i64 i, tv] w fun e w' => e = .returned (.int .i64 12) ∧ w' = w := by
  have HL : Hid (Calls Tryd.prog 26 #[.int .i64 i] w fun e w' => e = .returned (.bool false) ∧ w' = w) := isLater_no w i h
  clear h
  go_enter Tryd.func20, Tryd.ntmps20
  go_wp2_with fail
  refine HL.out.mono ?_
  rintro e w1 ⟨rfl, hw⟩
  obtain rfl : w = w1 := hw.symm
  clear hw
  go_wp2_with fail
  go_ret
  exact ⟨rfl, rfl⟩
theorem Learn_size (w : World) (rp : Value) (i : Int) (h : 1 ≤ i ∧ i ≤ 16) (q : Option Addr) (n c : Nat) (hn : n ≠ 32) : Calls Tryd.prog 20 #[rp, .int .i64 i, .slice q n c] w fun e w' => e = .returned (.int .i64 11) ∧ w' = w := by
  have HL : Hid (Calls Tryd.prog 26 #[.int .i64 i] w fun e w' => e = .returned (.bool true) ∧ w' = w) := isLater_yes w i h
  have h1 : ((n : Int) == 32) = false := by rw [beq_eq_false_iff_ne]; omega
  clear h hn
  go_enter Tryd.func20, Tryd.ntmps20
  go_wp2_with fail
  refine HL.out.mono ?_
  rintro e w1 ⟨rfl, hw⟩
  obtain rfl : w = w1 := hw.symm
  clear hw
  go_wp2_with fail
  go_ret
  exact ⟨rfl, rfl⟩
theorem Learn_twice (h : RgIs B w r xs ks) (j : Nat) (hj : 1 ≤ j ∧ j ≤ 16) {l : List Nat} (hk : ks j = some l) (q : Option Addr) (c : Nat) : Calls Tryd.prog 20 #[.pointer (some ⟨r, 0, none⟩), .int .i64 (j : Int), .slice q 32 c] w fun e w' => e = .returned (.int .i64 31) ∧ w' = w := by
  have HL : Hid (Calls Tryd.prog 26 #[.int .i64 (j : Int)] w fun e w' => e = .returned (.bool true) ∧ w' = w) := isLater_yes w j (by omega)
  have HH : Hid (Calls Tryd.prog 38 #[.pointer (some ⟨r, 0, none⟩), .int .i64 (j : Int)] w fun e w' => e = .returned (.bool true) ∧ w' = w) := has_yes h j (by omega) hk
  clear h hk hj
  go_enter Tryd.func20, Tryd.ntmps20
  go_wp2_with fail
  refine HL.out.mono ?_
  rintro e w1 ⟨rfl, hw⟩
  obtain rfl : w = w1 := hw.symm
  clear hw
  go_wp2_with fail
  refine HH.out.mono ?_
  rintro e w1 ⟨rfl, hw⟩
  obtain rfl : w = w1 := hw.symm
  clear hw
  go_wp2_with fail
  go_ret
  exact ⟨rfl, rfl⟩
set_option maxHeartbeats 2000000 in
theorem Learn_ok (h : RgIs B w r xs ks) (j : Nat) (hj : 1 ≤ j ∧ j ≤ 16) (hk : ks j = none) (q : Option Addr) (c : Nat) (l : List Nat) (hl : Src w (.slice q 32 c) l) (hB : B ≤ w.heap.size) : Calls Tryd.prog 20 #[.pointer (some ⟨r, 0, none⟩), .int .i64 (j : Int), .slice q 32 c] w fun e w' => e = .returned (.int .i64 0) ∧ (∃ xs', RgIs B w' r xs' (lrn ks j l)) ∧ Kx [some 70] B w w' ∧ Only [r] w w' := by
  have HL : Hid (Calls Tryd.prog 26 #[.int .i64 (j : Int)] w fun e w' => e = .returned (.bool true) ∧ w' = w) := isLater_yes w j (by omega)
  have HH : Hid (Calls Tryd.prog 38 #[.pointer (some ⟨r, 0, none⟩), .int .i64 (j : Int)] w fun e w' => e = .returned (.bool false) ∧ w' = w) := has_no h j (by omega) hk
  have hll : l.length = 32 := by
    obtain ⟨p', c', e, _⟩ := hl.slice
    simp only [Value.slice.injEq] at e
    exact e.2.1.symm
  have HC : Hid (∀ n, Calls Tryd.prog 23 #[.slice q 32 c] (w.drewN n) fun e w1 => ∃ ad cc, e = .returned (.slice (some ad) 32 cc) ∧ w1.cell? ⟨r, j, none⟩ = some (.slice none 0 0) ∧ w1.frozen? ⟨r, j, none⟩ = false ∧ (∃ xs', RgIs B (w1.setCell ⟨r, j, none⟩ (.slice (some ad) 32 cc)) r xs' (lrn ks j l)) ∧ Kx [some 70] B w (w1.setCell ⟨r, j, none⟩ (.slice (some ad) 32 cc)) ∧ Only [r] w (w1.setCell ⟨r, j, none⟩ (.slice (some ad) 32 cc))) := fun n => by
    have hb0 := below_drewN n w w.heap.size
    refine (clone_any _ (w.drewN n) (hl.below hb0) (by omega)).mono ?_
    rintro e w1 ⟨u, rfl, ho, hb⟩
    rw [hll] at ho
    obtain ⟨gg, cc, rfl, _⟩ := own_cell ho (by decide)
    have hb1 : Below w.heap.size w w1 := hb0.trans hb
    have h1 := h.below hb1
    have hB1 : B ≤ w1.heap.size := Nat.le_trans hB hb1.size
    obtain ⟨k1, k2, k3⟩ := h1.put (j := j) (by omega) hll (By.own (B := B) hl.small ho) hB1
    exact ⟨_, cc, rfl, (h1.cell j).trans (h1.no j (by omega) hk), h1.froz j, ⟨_, k1⟩, (Kx.of_below hb1 hB).trans k2, (Only.of_below hb1 _).trans k3⟩
  have h1 : (0 : Int) ≤ (j : Int) := by omega
  have h2 : (j : Int) < 17 := by omega
  clear h hk hj hl hB hll
  go_enter Tryd.func20, Tryd.ntmps20
  go_wp2_with fail
  refine HL.out.mono ?_
  rintro e w1 ⟨rfl, hw⟩
  obtain rfl : w = w1 := hw.symm
  clear hw
  go_wp2_with fail
  refine HH.out.mono ?_
  rintro e w1 ⟨rfl, hw⟩
  obtain rfl : w = w1 := hw.symm
  clear hw
  go_wp2_with fail
  go_region_with ((go_at_call 23; refine (HC.out 1).mono ?_; rintro e w1 ⟨ad, cc, rfl, e1, e2, e3, e4, e5⟩; have HZ : Hid ((∃ xs', RgIs B (w1.setCell ⟨r, j, none⟩ (.slice (some ad) 32 cc)) r xs' (lrn ks j l)) ∧ Kx [some 70] B w (w1.setCell ⟨r, j, none⟩ (.slice (some ad) 32 cc)) ∧ Only [r] w (w1.setCell ⟨r, j, none⟩ (.slice (some ad) 32 cc))) := ⟨e3, e4, e5⟩; clear e3 e4 e5))
  all_goals
    go_wp2_with fail
    go_ret
    exact ⟨rfl, HZ.out⟩
end
def nil17 : List Value := List.replicate 17 (.slice none 0 0)
section
variable {bs : List Nat} {ts : List (Option TypeId)} {B : Nat} {w : World} {I : World → Prop} {l : List Nat} {sp kv : Value}
set_option maxHeartbeats 2000000 in
theorem New_any (hB : B ≤ w.heap.size) (h5 : some 5 ∉ ts) (hrg : some 70 ∉ ts) (hl : l.length = 32) (hs : ∀ x ∈ l, x < 256)
    (hk : ∀ w1, Below w.heap.size w w1 → Calls Tryd.prog 37 #[sp, kv, .string (strB epoB), .int .i64 0] w1 fun e w' => ∃ u, e = .returned u ∧ w'.ownsRow w1.heap.size 5 1 u 32 (ints .u8 l) ∧ I w' ∧ Fr bs ts B w1 w')
    (hI : ∀ w1 w2 r, I w1 → w.heap.size ≤ r → Only [r] w1 w2 → I w2) :
    Calls Tryd.prog 19 #[sp, kv] w fun e w' => ∃ r xs, e = .returned (.pointer (some ⟨r, 0, none⟩)) ∧ w.heap.size ≤ r ∧ RgIs B w' r xs (lrn (fun _ => none) 0 l) ∧ I w' ∧ Only bs w w' ∧ Kx (some 70 :: ts) B w w' := by
  have HK : Hid (∀ n, Calls Tryd.prog 37 #[sp, kv, .string ⟨#[101, 112, 111, 99, 104]⟩, .int .i64 0] ((w.alloc (.cells nil17.toArray 70)).drewN n) fun e w1 => ∃ ad cc, e = .returned (.slice (some ad) 32 cc) ∧ w1.cell? ⟨w.heap.size, 0, none⟩ = some (.slice none 0 0) ∧ w1.frozen? ⟨w.heap.size, 0, none⟩ = false ∧ (∃ xs', RgIs B (w1.setCell ⟨w.heap.size, 0, none⟩ (.slice (some ad) 32 cc)) w.heap.size xs' (lrn (fun _ => none) 0 l)) ∧ I (w1.setCell ⟨w.heap.size, 0, none⟩ (.slice (some ad) 32 cc)) ∧ Only bs w (w1.setCell ⟨w.heap.size, 0, none⟩ (.slice (some ad) 32 cc)) ∧ Kx (some 70 :: ts) B w (w1.setCell ⟨w.heap.size, 0, none⟩ (.slice (some ad) 32 cc))) := fun n => by
    have hb0 : Below w.heap.size w ((w.alloc (.cells nil17.toArray 70)).drewN n) := (below_alloc' w _).trans (below_drewN n _ _)
    have hr0 : RgIs B ((w.alloc (.cells nil17.toArray 70)).drewN n) w.heap.size nil17 (fun _ => none) := ⟨hB, heap_alloc_new w _, rfl, fun i hi _ => by unfold nil17; rw [List.getElem?_replicate, if_pos hi], fun i m _ hm => by cases hm⟩
    rw [epoS]
    refine (hk _ hb0).mono ?_
    rintro e w1 ⟨u, rfl, ho, hi, hf⟩
    obtain ⟨gg, cc, rfl, _⟩ := own_cell ho (by decide)
    have h1 := hr0.kx hf.kx h5 hrg
    have hB1 : B ≤ w1.heap.size := Nat.le_trans hB (Nat.le_trans hb0.size hf.size)
    obtain ⟨k1, k2, k3⟩ := h1.put (j := 0) (by omega) hl (By.own (B := B) hs ho) hB1
    refine ⟨_, cc, rfl, (h1.cell 0).trans (h1.no 0 (by omega) rfl), h1.froz 0, ⟨_, k1⟩, hI w1 _ _ hi (Nat.le_refl _) k3, ?_, ?_⟩
    · have ho1 : Only bs w w1 := (Only.of_below hb0 bs).trans hf.only
      exact ⟨k3.os.trans ho1.os, k3.tape.trans ho1.tape, k3.output.trans ho1.output, Nat.le_trans ho1.size k3.size, fun k hk hn => (k3.block k (Nat.lt_of_lt_of_le hk ho1.size) (fun e => by have := List.mem_singleton.1 e; omega)).trans (ho1.block k hk hn)⟩
    · exact (((Kx.of_below hb0 hB).trans hf.kx).mono (fun t ht => List.mem_cons_of_mem _ ht)).trans (k2.mono (fun t ht => by rw [List.mem_singleton.1 ht]; exact List.mem_cons_self))
  clear hB h5 hrg hl hs hk hI
  have HNL : Hid (nil17.toArray = #[.slice none 0 0, .slice none 0 0, .slice none 0 0, .slice none 0 0, .slice none 0 0, .slice none 0 0, .slice none 0 0, .slice none 0 0, .slice none 0 0, .slice none 0 0, .slice none 0 0, .slice none 0 0, .slice none 0 0, .slice none 0 0, .slice none 0 0, .slice none 0 0, .slice none 0 0]) := rfl
  rw [HNL.out] at HK
  clear HNL
  go_enter Tryd.func19, Tryd.ntmps19
  go_wp2_with fail
  go_region_with ((go_at_call 37; refine (HK.out 1).mono ?_; rintro e w1 ⟨ad, cc, rfl, e1, e2, e3, e4, e5, e6⟩; have HZ : Hid ((∃ xs', RgIs B (w1.setCell ⟨w.heap.size, 0, none⟩ (.slice (some ad) 32 cc)) w.heap.size xs' (lrn (fun _ => none) 0 l)) ∧ I (w1.setCell ⟨w.heap.size, 0, none⟩ (.slice (some ad) 32 cc)) ∧ Only bs w (w1.setCell ⟨w.heap.size, 0, none⟩ (.slice (some ad) 32 cc)) ∧ Kx (some 70 :: ts) B w (w1.setCell ⟨w.heap.size, 0, none⟩ (.slice (some ad) 32 cc))) := ⟨e3, e4, e5, e6⟩; clear e3 e4 e5 e6))
  all_goals
    go_wp2_with fail
    go_ret
    obtain ⟨xs', hx⟩ := HZ.out.1
    exact ⟨_, xs', rfl, Nat.le_refl _, hx, HZ.out.2⟩
end
end Go.Proofs.YtagdlpodpokmmaaDoor.S7
