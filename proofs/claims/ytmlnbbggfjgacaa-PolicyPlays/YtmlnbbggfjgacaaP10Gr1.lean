/- The walk of PolicyGrants. -/
import Derived.Test.YtmlnbbggfjgacaaP10Gr0
import Derived.BigRegion
namespace Go.Proofs.Ytmlnbbggfjgacaa.P10
open Go.RowKit C8 E9
/-- The policy in its box, what is wanted in another. -/
structure GS (w W : World) (b5 b7 : Nat) (f e : Int) (q : Option Addr) (nn c : Nat) (R : Int → Int) : Prop where
  bel : Below w.heap.size w W
  lo5 : w.heap.size ≤ b5
  lo7 : w.heap.size ≤ b7
  ne : b5 ≠ b7
  box : W.heap[b5]? = some (.cells #[.int .i64 f, .int .i64 e, .slice q nn c] 26 (0, 0))
  told : Told3 0 W f e q nn c R
  want : ∃ C : Array Value, W.heap[b7]? = some (.cells C 30 (0, 0)) ∧ C.size = 17 ∧ ∀ k : Nat, 1 ≤ k → k ≤ 16 → C[k]? = some (.int .i64 (R k))
section
variable {w W W' : World} {b5 b7 : Nat} {f e : Int} {q : Option Addr} {nn c : Nat} {R : Int → Int}
theorem GS.step (h : GS w W b5 b7 f e q nn c R) (hb : Below W.heap.size W W') : GS w W' b5 b7 f e q nn c R := by
  obtain ⟨C, k1, k2⟩ := h.want
  exact ⟨h.bel.trans (bel_le hb h.bel.size), h.lo5, h.lo7, h.ne, (hb.block _ (Array.getElem?_eq_some_iff.1 h.box).1).trans h.box, h.told.below hb, C, (hb.block _ (Array.getElem?_eq_some_iff.1 k1).1).trans k1, k2⟩
theorem GS.lt (h : GS w W b5 b7 f e q nn c R) : b5 < W.heap.size ∧ b7 < W.heap.size := by
  obtain ⟨C, k1, k2⟩ := h.want
  exact ⟨(Array.getElem?_eq_some_iff.1 h.box).1, (Array.getElem?_eq_some_iff.1 k1).1⟩
theorem GS.cells (h : GS w W b5 b7 f e q nn c R) : W.cell? ⟨b5, 0, none⟩ = some (.int .i64 f) ∧ W.cell? ⟨b5, 1, none⟩ = some (.int .i64 e) ∧ W.cell? ⟨b5, 2, none⟩ = some (.slice q nn c) ∧ W.frozen? ⟨b5, 0, none⟩ = false ∧ W.frozen? ⟨b5, 1, none⟩ = false ∧ W.frozen? ⟨b5, 2, none⟩ = false :=
  ⟨by rw [cell_of_row _ _ _ _ _ _ h.box]; rfl, by rw [cell_of_row _ _ _ _ _ _ h.box]; rfl, by rw [cell_of_row _ _ _ _ _ _ h.box]; rfl, frozen_of_row _ _ _ _ _ h.box, frozen_of_row _ _ _ _ _ h.box, frozen_of_row _ _ _ _ _ h.box⟩
theorem GS.at (h : GS w W b5 b7 f e q nn c R) (k : Nat) (h1 : 1 ≤ k) (h2 : k ≤ 16) : W.cell? ⟨b7, k, none⟩ = some (.int .i64 (R k)) ∧ W.frozen? ⟨b7, k, none⟩ = false := by
  obtain ⟨C, k1, k2, k3⟩ := h.want
  refine ⟨?_, frozen_of_row _ _ _ _ _ k1⟩
  rw [cell_of_row _ _ _ _ _ _ k1]
  exact k3 k h1 h2
theorem GS.put (h : GS w W b5 b7 f e q nn c R) {e1 : Int} {q1 : Option Addr} {n1 c1 : Nat} {R1 : Int → Int} {B : Nat} {x : Nat} {y : Int} (hx : 1 ≤ x ∧ x ≤ 16) (hT : Told3 B W 1 e1 q1 n1 c1 R1) (hB : b5 < B ∧ b7 < B) (hR : ∀ z : Nat, R1 z = if z = x then y else R z) :
    GS w ((((W.setCell ⟨b5, 0, none⟩ (.int .i64 1)).setCell ⟨b5, 1, none⟩ (.int .i64 e1)).setCell ⟨b5, 2, none⟩ (.slice q1 n1 c1)).setCell ⟨b7, x, none⟩ (.int .i64 y)) b5 b7 1 e1 q1 n1 c1 R1 := by
  obtain ⟨C, k1, k2, k3⟩ := h.want
  have o3 := only3 W b5 (.int .i64 1) (.int .i64 e1) (.slice q1 n1 c1)
  have r3 := row3 h.box (.int .i64 1) (.int .i64 e1) (.slice q1 n1 c1)
  have a3 := (o3.block b7 (Array.getElem?_eq_some_iff.1 k1).1 (by have := h.ne; simp; omega)).trans k1
  generalize ((W.setCell ⟨b5, 0, none⟩ (.int .i64 1)).setCell ⟨b5, 1, none⟩ (.int .i64 e1)).setCell ⟨b5, 2, none⟩ (.slice q1 n1 c1) = W3 at *
  have o4 : Only [b7] W3 (W3.setCell ⟨b7, x, none⟩ (.int .i64 y)) := Only.setCell _ _ _ (by simp)
  have ho : Only [b5, b7] W (W3.setCell ⟨b7, x, none⟩ (.int .i64 y)) := (o3.more (by simp)).trans (o4.more (by simp))
  refine ⟨h.bel.trans (ho.below h.bel.size (by have := h.lo5; have := h.lo7; intro z hz; simp at hz; omega)), h.lo5, h.lo7, h.ne, (o4.block b5 (Array.getElem?_eq_some_iff.1 r3).1 (by have := h.ne; simp; omega)).trans r3, (hT.only ho (by intro z hz; simp at hz; omega)).old (Nat.zero_le _), _, heap_setCell_same _ b7 x _ 30 _ a3, by simpa using k2, fun k h1 h2 => ?_⟩
  rw [hR]
  by_cases e : k = x
  · subst e
    rw [if_pos rfl, Array.getElem?_setIfInBounds, if_pos rfl, if_pos (by omega)]
  · rw [if_neg e]
    rw [Array.getElem?_setIfInBounds_ne (Ne.symm e)]
    exact k3 k h1 h2
end
theorem told_start (w w1 : World) (q : Option Addr) (c : Nat) (hb : Below w.heap.size w w1) (hT : Told3 0 w1 1 0 q 1 c (fun x => if 1 = x then 7 else 0)) : GS w ((w1.alloc (.cells #[.int .i64 1, .int .i64 0, .slice q 1 c] 26)).alloc (.cells #[.int .i64 0, .int .i64 7, .int .i64 0, .int .i64 0, .int .i64 0, .int .i64 0, .int .i64 0, .int .i64 0, .int .i64 0, .int .i64 0, .int .i64 0, .int .i64 0, .int .i64 0, .int .i64 0, .int .i64 0, .int .i64 0, .int .i64 0] 30)) w1.heap.size (w1.heap.size + 1) 1 0 q 1 c (fun x => if 1 = x then 7 else 0) := by
  have hb2 : Below w1.heap.size w1 ((w1.alloc (.cells #[.int .i64 1, .int .i64 0, .slice q 1 c] 26)).alloc (.cells #[.int .i64 0, .int .i64 7, .int .i64 0, .int .i64 0, .int .i64 0, .int .i64 0, .int .i64 0, .int .i64 0, .int .i64 0, .int .i64 0, .int .i64 0, .int .i64 0, .int .i64 0, .int .i64 0, .int .i64 0, .int .i64 0, .int .i64 0] 30)) := (bel_alloc (Nat.le_refl _) _).trans (bel_alloc (by simp) _)
  refine ⟨hb.trans (bel_le hb2 hb.size), hb.size, by have := hb.size; omega, by omega, heap_alloc2_old w1 _ _, hT.below hb2, _, heap_alloc2_new w1 _ _, rfl, fun k h1 h2 => ?_⟩
  obtain rfl|rfl|rfl|rfl|rfl|rfl|rfl|rfl|rfl|rfl|rfl|rfl|rfl|rfl|rfl|rfl : k = 1 ∨ k = 2 ∨ k = 3 ∨ k = 4 ∨ k = 5 ∨ k = 6 ∨ k = 7 ∨ k = 8 ∨ k = 9 ∨ k = 10 ∨ k = 11 ∨ k = 12 ∨ k = 13 ∨ k = 14 ∨ k = 15 ∨ k = 16 := by omega
  all_goals rfl
set_option maxHeartbeats 4000000 in
theorem gr_many (w : World) (a1 : Option Addr) (n c1 : Nat) (a2 : Option Addr) (m c2 : Nat) (hn : n ≤ 9223372036854775807) (hm : m ≤ 9223372036854775807) (h : 30 < n ∨ 30 < m) : Calls Try.prog 7 #[.slice a1 n c1, .slice a2 m c2] w fun x w' => x = .returned (.bool true) ∧ Below w.heap.size w w' := by
  have HC9 : ∀ W, W = w → Calls Try.prog 9 #[] W fun x w' => x = .returned (.bool true) ∧ Hid (Below w.heap.size w w') := by rintro W rfl; exact anchor_any W
  by_cases h1 : 30 < n
  · have k1 : (30 : Int) < (n : Int) := by omega
    clear h
    go_enter Try.func7, Try.ntmps7
    go_wp2_with (first | (go_at_call 9; refine (HC9 _ rfl).mono ?_; rintro x w1 ⟨rfl, B1⟩))
    go_ret
    exact ⟨rfl, B1.out⟩
  · have k1 : ¬ (30 : Int) < (n : Int) := by omega
    have k2 : (30 : Int) < (m : Int) := by omega
    clear h
    go_enter Try.func7, Try.ntmps7
    go_wp2_with (first | (go_at_call 9; refine (HC9 _ rfl).mono ?_; rintro x w1 ⟨rfl, B1⟩))
    go_ret
    exact ⟨rfl, B1.out⟩
theorem ms_of {a b : List (Int × Int)} (ha : mok 0 a = true) (hb : mok 0 b = true) (hR : ∀ z, rts a z = rts b z) : a = b := by
  have na := rise_nodup (mok_rise ha)
  have nb := rise_nodup (mok_rise hb)
  have sub : ∀ {a b : List (Int × Int)}, mok 0 a = true → (a.map (·.1)).Nodup → (b.map (·.1)).Nodup → (∀ z, rts a z = rts b z) → ∀ x ∈ a, x ∈ b := by
    intro a b ha na nb hR x hx
    have h1 := rts_mem na x hx
    rw [hR] at h1
    have hb := mok_at ha x hx
    apply Classical.byContradiction
    intro hn
    by_cases he : ∃ y ∈ b, y.1 = x.1
    · obtain ⟨y, hy, e⟩ := he
      have h2 := rts_mem nb y hy
      rw [e, h1] at h2
      exact hn (by rw [show x = y from Prod.ext e.symm h2]; exact hy)
    · rw [rts_none (fun y hy e => he ⟨y, hy, e⟩)] at h1
      omega
  have hsub := sub ha na nb hR
  have hsub' := sub hb nb na (fun z => (hR z).symm)
  have nd : ∀ {a : List (Int × Int)}, mok 0 a = true → a.Nodup := by
    intro a ha
    rw [List.nodup_iff_pairwise_ne, List.pairwise_iff_getElem]
    intro i j hi hj hij e
    have := mok_rise ha i j hij hj hi
    rw [e] at this
    omega
  have hda : a.Nodup := nd ha
  have hdb : b.Nodup := nd hb
  have hp : a.Perm b := (List.perm_ext_iff_of_nodup hda hdb).2 (fun x => ⟨hsub x, hsub' x⟩)
  exact rise_same (mok_rise hb) hp (fun i j hij hj hi => by have := mok_rise ha i j hij hj hi; omega)
theorem rdrs_of {p p' : Pol} (h : pright p = true) (h' : pright p' = true) (hR : ∀ z, rts p.ms z = rts p'.ms z) : rdrs p.ms = rdrs p'.ms := by
  obtain ⟨_, _, hm, _, _⟩ := pright_of h
  obtain ⟨_, _, hm', _, _⟩ := pright_of h'
  have e : p.ms = p'.ms := ms_of hm hm' hR
  rw [e]
theorem may_revoke {p : Pol} {s who : Int} (hp : pright p = true) (h1 : rts p.ms 1 = 7) (hs : 1 ≤ s ∧ s ≤ 1099511627776) (hw : 1 ≤ who ∧ who ≤ 16) (hne : who ≠ p.f) : may p ⟨4, 1, s, [], [], who, 0, 0, []⟩ = 0 := by
  unfold may
  rw [if_pos ⟨hp, right_revoke hs hw⟩]
  have : allows p ⟨4, 1, s, [], [], who, 0, 0, []⟩ = true := by
    unfold allows
    simp [h1, hne]
  rw [if_pos this]
  simp
theorem ia30_run {o : Oper} {a' : Act} {w' : World} (s u : Tmp) (b k : Nat) (ho : o.op = .indexAddr 30 (.tmp s) (.tmp u)) (h0 : a'.tmps.getD s undef = .pointer (some ⟨b, 0, none⟩)) (h1 : a'.tmps.getD u undef = .int .i64 (k : Int)) (hk : (k : Int) < 17) : (execOp a'.eval o).run Try.prog w' = .ok (.value (.pointer (some ⟨b, k, none⟩))) w' := by
  have he : a'.eval (.tmp s) = .pointer (some ⟨b, 0, none⟩) := h0
  have hf : a'.eval (.tmp u) = .int .i64 (k : Int) := h1
  unfold execOp
  simp only [ho]
  rw [he, hf]
  simp [go_sem, hk]
theorem neqN_run {o : Oper} {a' : Act} {w' : World} (s t : Tmp) (x y : Int) (ho : o.op = .binOp .neq 3 (.tmp s) (.tmp t) 3) (h0 : a'.tmps.getD s undef = .int .i64 x) (h1 : a'.tmps.getD t undef = .int .i64 y) : (execOp a'.eval o).run Try.prog w' = .ok (.value (.bool (x != y))) w' := by
  have he : a'.eval (.tmp s) = .int .i64 x := h0
  have hf : a'.eval (.tmp t) = .int .i64 y := h1
  unfold execOp
  simp only [ho]
  rw [he, hf]
  simp [go_sem]
def gr25 (CP : Array Value) (b7 k : Nat) (r : Int) : Nat → Value → World → Prop
  | 0 => IsV (.agg CP)
  | 1 => IsV (.int .i64 (k : Int))
  | 2 => IsV (.int .i64 r)
  | 3 => IsV (.int .i64 (k : Int))
  | 4 => IsV (.pointer (some ⟨b7, k, none⟩))
  | 5 => IsV (.int .i64 r)
  | 6 => IsV (.bool false)
  | _ => fun _ _ => True
theorem gr25_kept (CP : Array Value) (b7 k : Nat) (r : Int) : ∀ i v w w', gr25 CP b7 k r i v w → Only [] w w' → gr25 CP b7 k r i v w'
  | 0, _, _, _, h, _ => h
  | 1, _, _, _, h, _ => h
  | 2, _, _, _, h, _ => h
  | 3, _, _, _, h, _ => h
  | 4, _, _, _, h, _ => h
  | 5, _, _, _, h, _ => h
  | 6, _, _, _, h, _ => h
  | _ + 7, _, _, _, _, _ => trivial
set_option maxHeartbeats 4000000 in
set_option maxRecDepth 20000 in
theorem frame7_25 {A F : Array Value} (hs : A.size = 122) (h : ∀ t, [99, 100, 101, 102, 103, 104, 105].contains t = false → A.getD t undef = F.getD t undef) : A = #[F.getD 0 undef, F.getD 1 undef, F.getD 2 undef, F.getD 3 undef, F.getD 4 undef, F.getD 5 undef, F.getD 6 undef, F.getD 7 undef, F.getD 8 undef, F.getD 9 undef, F.getD 10 undef, F.getD 11 undef, F.getD 12 undef, F.getD 13 undef, F.getD 14 undef, F.getD 15 undef, F.getD 16 undef, F.getD 17 undef, F.getD 18 undef, F.getD 19 undef, F.getD 20 undef, F.getD 21 undef, F.getD 22 undef, F.getD 23 undef, F.getD 24 undef, F.getD 25 undef, F.getD 26 undef, F.getD 27 undef, F.getD 28 undef, F.getD 29 undef, F.getD 30 undef, F.getD 31 undef, F.getD 32 undef, F.getD 33 undef, F.getD 34 undef, F.getD 35 undef, F.getD 36 undef, F.getD 37 undef, F.getD 38 undef, F.getD 39 undef, F.getD 40 undef, F.getD 41 undef, F.getD 42 undef, F.getD 43 undef, F.getD 44 undef, F.getD 45 undef, F.getD 46 undef, F.getD 47 undef, F.getD 48 undef, F.getD 49 undef, F.getD 50 undef, F.getD 51 undef, F.getD 52 undef, F.getD 53 undef, F.getD 54 undef, F.getD 55 undef, F.getD 56 undef, F.getD 57 undef, F.getD 58 undef, F.getD 59 undef, F.getD 60 undef, F.getD 61 undef, F.getD 62 undef, F.getD 63 undef, F.getD 64 undef, F.getD 65 undef, F.getD 66 undef, F.getD 67 undef, F.getD 68 undef, F.getD 69 undef, F.getD 70 undef, F.getD 71 undef, F.getD 72 undef, F.getD 73 undef, F.getD 74 undef, F.getD 75 undef, F.getD 76 undef, F.getD 77 undef, F.getD 78 undef, F.getD 79 undef, F.getD 80 undef, F.getD 81 undef, F.getD 82 undef, F.getD 83 undef, F.getD 84 undef, F.getD 85 undef, F.getD 86 undef, F.getD 87 undef, F.getD 88 undef, F.getD 89 undef, F.getD 90 undef, F.getD 91 undef, F.getD 92 undef, F.getD 93 undef, F.getD 94 undef, F.getD 95 undef, F.getD 96 undef, F.getD 97 undef, F.getD 98 undef, A.getD 99 undef, A.getD 100 undef, A.getD 101 undef, A.getD 102 undef, A.getD 103 undef, A.getD 104 undef, A.getD 105 undef, F.getD 106 undef, F.getD 107 undef, F.getD 108 undef, F.getD 109 undef, F.getD 110 undef, F.getD 111 undef, F.getD 112 undef, F.getD 113 undef, F.getD 114 undef, F.getD 115 undef, F.getD 116 undef, F.getD 117 undef, F.getD 118 undef, F.getD 119 undef, F.getD 120 undef, F.getD 121 undef] := by
  rw [← h 0 (by decide), ← h 1 (by decide), ← h 2 (by decide), ← h 3 (by decide), ← h 4 (by decide), ← h 5 (by decide), ← h 6 (by decide), ← h 7 (by decide), ← h 8 (by decide), ← h 9 (by decide), ← h 10 (by decide), ← h 11 (by decide), ← h 12 (by decide), ← h 13 (by decide), ← h 14 (by decide), ← h 15 (by decide), ← h 16 (by decide), ← h 17 (by decide), ← h 18 (by decide), ← h 19 (by decide), ← h 20 (by decide), ← h 21 (by decide), ← h 22 (by decide), ← h 23 (by decide), ← h 24 (by decide), ← h 25 (by decide), ← h 26 (by decide), ← h 27 (by decide), ← h 28 (by decide), ← h 29 (by decide), ← h 30 (by decide), ← h 31 (by decide), ← h 32 (by decide), ← h 33 (by decide), ← h 34 (by decide), ← h 35 (by decide), ← h 36 (by decide), ← h 37 (by decide), ← h 38 (by decide), ← h 39 (by decide), ← h 40 (by decide), ← h 41 (by decide), ← h 42 (by decide), ← h 43 (by decide), ← h 44 (by decide), ← h 45 (by decide), ← h 46 (by decide), ← h 47 (by decide), ← h 48 (by decide), ← h 49 (by decide), ← h 50 (by decide), ← h 51 (by decide), ← h 52 (by decide), ← h 53 (by decide), ← h 54 (by decide), ← h 55 (by decide), ← h 56 (by decide), ← h 57 (by decide), ← h 58 (by decide), ← h 59 (by decide), ← h 60 (by decide), ← h 61 (by decide), ← h 62 (by decide), ← h 63 (by decide), ← h 64 (by decide), ← h 65 (by decide), ← h 66 (by decide), ← h 67 (by decide), ← h 68 (by decide), ← h 69 (by decide), ← h 70 (by decide), ← h 71 (by decide), ← h 72 (by decide), ← h 73 (by decide), ← h 74 (by decide), ← h 75 (by decide), ← h 76 (by decide), ← h 77 (by decide), ← h 78 (by decide), ← h 79 (by decide), ← h 80 (by decide), ← h 81 (by decide), ← h 82 (by decide), ← h 83 (by decide), ← h 84 (by decide), ← h 85 (by decide), ← h 86 (by decide), ← h 87 (by decide), ← h 88 (by decide), ← h 89 (by decide), ← h 90 (by decide), ← h 91 (by decide), ← h 92 (by decide), ← h 93 (by decide), ← h 94 (by decide), ← h 95 (by decide), ← h 96 (by decide), ← h 97 (by decide), ← h 98 (by decide), ← h 106 (by decide), ← h 107 (by decide), ← h 108 (by decide), ← h 109 (by decide), ← h 110 (by decide), ← h 111 (by decide), ← h 112 (by decide), ← h 113 (by decide), ← h 114 (by decide), ← h 115 (by decide), ← h 116 (by decide), ← h 117 (by decide), ← h 118 (by decide), ← h 119 (by decide), ← h 120 (by decide), ← h 121 (by decide)]
  refine Array.ext (by simp [hs]) (fun i h1 h2 => ?_)
  have e : A[i] = A.getD i undef := by simp [h1]
  rw [e]
  rw [hs] at h1
  clear e h hs
  match i, h1 with
  | 0, _ => rfl
  | 1, _ => rfl
  | 2, _ => rfl
  | 3, _ => rfl
  | 4, _ => rfl
  | 5, _ => rfl
  | 6, _ => rfl
  | 7, _ => rfl
  | 8, _ => rfl
  | 9, _ => rfl
  | 10, _ => rfl
  | 11, _ => rfl
  | 12, _ => rfl
  | 13, _ => rfl
  | 14, _ => rfl
  | 15, _ => rfl
  | 16, _ => rfl
  | 17, _ => rfl
  | 18, _ => rfl
  | 19, _ => rfl
  | 20, _ => rfl
  | 21, _ => rfl
  | 22, _ => rfl
  | 23, _ => rfl
  | 24, _ => rfl
  | 25, _ => rfl
  | 26, _ => rfl
  | 27, _ => rfl
  | 28, _ => rfl
  | 29, _ => rfl
  | 30, _ => rfl
  | 31, _ => rfl
  | 32, _ => rfl
  | 33, _ => rfl
  | 34, _ => rfl
  | 35, _ => rfl
  | 36, _ => rfl
  | 37, _ => rfl
  | 38, _ => rfl
  | 39, _ => rfl
  | 40, _ => rfl
  | 41, _ => rfl
  | 42, _ => rfl
  | 43, _ => rfl
  | 44, _ => rfl
  | 45, _ => rfl
  | 46, _ => rfl
  | 47, _ => rfl
  | 48, _ => rfl
  | 49, _ => rfl
  | 50, _ => rfl
  | 51, _ => rfl
  | 52, _ => rfl
  | 53, _ => rfl
  | 54, _ => rfl
  | 55, _ => rfl
  | 56, _ => rfl
  | 57, _ => rfl
  | 58, _ => rfl
  | 59, _ => rfl
  | 60, _ => rfl
  | 61, _ => rfl
  | 62, _ => rfl
  | 63, _ => rfl
  | 64, _ => rfl
  | 65, _ => rfl
  | 66, _ => rfl
  | 67, _ => rfl
  | 68, _ => rfl
  | 69, _ => rfl
  | 70, _ => rfl
  | 71, _ => rfl
  | 72, _ => rfl
  | 73, _ => rfl
  | 74, _ => rfl
  | 75, _ => rfl
  | 76, _ => rfl
  | 77, _ => rfl
  | 78, _ => rfl
  | 79, _ => rfl
  | 80, _ => rfl
  | 81, _ => rfl
  | 82, _ => rfl
  | 83, _ => rfl
  | 84, _ => rfl
  | 85, _ => rfl
  | 86, _ => rfl
  | 87, _ => rfl
  | 88, _ => rfl
  | 89, _ => rfl
  | 90, _ => rfl
  | 91, _ => rfl
  | 92, _ => rfl
  | 93, _ => rfl
  | 94, _ => rfl
  | 95, _ => rfl
  | 96, _ => rfl
  | 97, _ => rfl
  | 98, _ => rfl
  | 99, _ => rfl
  | 100, _ => rfl
  | 101, _ => rfl
  | 102, _ => rfl
  | 103, _ => rfl
  | 104, _ => rfl
  | 105, _ => rfl
  | 106, _ => rfl
  | 107, _ => rfl
  | 108, _ => rfl
  | 109, _ => rfl
  | 110, _ => rfl
  | 111, _ => rfl
  | 112, _ => rfl
  | 113, _ => rfl
  | 114, _ => rfl
  | 115, _ => rfl
  | 116, _ => rfl
  | 117, _ => rfl
  | 118, _ => rfl
  | 119, _ => rfl
  | 120, _ => rfl
  | 121, _ => rfl
  | _ + 122, h => exact absurd h (by omega)
set_option maxHeartbeats 16000000 in
set_option maxRecDepth 20000 in
theorem gr_main (w : World) (a1 : Option Addr) (l : List Int) (c1 : Nat) (a2 : Option Addr) (rs : List Int) (c2 : Nat) (h1 : IntR w a1 l) (h2 : IntR w a2 rs) (hn : l.length ≤ 30) (hm : rs.length ≤ 30) : Calls Try.prog 7 #[.slice a1 l.length c1, .slice a2 rs.length c2] w fun x w' => x = .returned (.bool true) ∧ Below w.heap.size w w' := by
  have HC9 : ∀ W, W = w → Calls Try.prog 9 #[] W fun x w' => x = .returned (.bool true) ∧ Hid (Below w.heap.size w w') := by rintro W rfl; exact anchor_any W
  have HC10 : ∀ W, Hid (Below w.heap.size w W) → Calls Try.prog 10 #[.int .i64 1] W fun x w' => ∃ q c, x = .returned (.tuple #[.agg #[.int .i64 1, .int .i64 0, .slice q 1 c], .int .i64 0]) ∧ Hid (Told3 0 w' 1 0 q 1 c (fun x => if 1 = x then 7 else 0) ∧ Below w.heap.size w w') := fun W hW => (first_own W).mono (by
    rintro x w' ⟨q, c, rfl, k1, k2⟩
    exact ⟨q, c, rfl, k1.old (Nat.zero_le _), hW.out.trans (bel_le k2 hW.out.size)⟩)
  have HA : Hid (∀ W, Below w.heap.size w W → IntR W a1 l ∧ IntR W a2 rs) := fun W hW => ⟨h1.below hW, h2.below hW⟩
  clear h1 h2
  obtain ⟨n, HN⟩ : ∃ n, Hid (l.length = n) := ⟨_, rfl⟩
  obtain ⟨m, HM⟩ : ∃ m, Hid (rs.length = m) := ⟨_, rfl⟩
  rw [HN.out] at hn ⊢
  rw [HM.out] at hm ⊢
  have n1 : (n : Int) ≤ 30 := by omega
  have m1 : (m : Int) ≤ 30 := by omega
  go_enter Try.func7, Try.ntmps7
  go_wp2_with (first | (go_at_call 9; refine (HC9 _ rfl).mono ?_; rintro x w1 ⟨rfl, B1⟩))
  refine (HC10 _ B1).mono ?_
  rintro x w2 ⟨q0, c0, rfl, T2⟩
  clear HC9 HC10 B1
  have G0 : Hid (GS w ((w2.alloc (.cells #[.int .i64 1, .int .i64 0, .slice q0 1 c0] 26)).alloc (.cells #[.int .i64 0, .int .i64 7, .int .i64 0, .int .i64 0, .int .i64 0, .int .i64 0, .int .i64 0, .int .i64 0, .int .i64 0, .int .i64 0, .int .i64 0, .int .i64 0, .int .i64 0, .int .i64 0, .int .i64 0, .int .i64 0, .int .i64 0] 30)) w2.heap.size (w2.heap.size + 1) 1 0 q0 1 c0 (fun x => if 1 = x then 7 else 0)) := told_start w w2 q0 c0 T2.out.2 T2.out.1
  clear T2
  go_wp2_with fail
  generalize (w2.alloc (.cells #[.int .i64 1, .int .i64 0, .slice q0 1 c0] 26)).alloc (.cells #[.int .i64 0, .int .i64 7, .int .i64 0, .int .i64 0, .int .i64 0, .int .i64 0, .int .i64 0, .int .i64 0, .int .i64 0, .int .i64 0, .int .i64 0, .int .i64 0, .int .i64 0, .int .i64 0, .int .i64 0, .int .i64 0, .int .i64 0] 30) = W0 at *
  generalize w2.heap.size = b5 at *
  obtain ⟨b7, HB7⟩ : ∃ b7, Hid (b5 + 1 = b7) := ⟨_, rfl⟩
  rw [HB7.out] at G0 ⊢
  go_loopw [35] (fun i wr => ∃ (j : Nat) (f e : Int) (q : Option Addr) (nn c : Nat) (R : Int → Int), j ≤ n ∧ i = .int .i64 j ∧ Hid (GS w wr b5 b7 f e q nn c R)) (fun i _ => n - (intOf i).toNat)
  case atStart => exact ⟨0, 1, 0, q0, 1, c0, _, by omega, rfl, G0⟩
  case round =>
    obtain ⟨j, f, e, q, nn, c, R, hj, rfl, GJ⟩ := hrel
    clear G0
    have j0 : (0 : Int) ≤ (j : Int) := by omega
    by_cases hlt : j < n
    · have j1 : (j : Int) < (n : Int) := by omega
      obtain ⟨ba, oa, rfl, k2, k3⟩ := (HA.out wr GJ.out.bel).1 j (by rw [HN.out]; exact hlt)
      generalize hx : l[j]'(by rw [HN.out]; exact hlt) = x at *
      by_cases hm1 : m ≤ j
      · have i1 : (m : Int) ≤ (j : Int) := by omega
        go_wp2_with fail
        go_ret
        exact ⟨rfl, GJ.out.bel⟩
      · have i1 : ¬ (m : Int) ≤ (j : Int) := by omega
        have i1' : (j : Int) < (m : Int) := by omega
        obtain ⟨bb, ob, rfl, k4, k5⟩ := (HA.out wr GJ.out.bel).2 j (by rw [HM.out]; omega)
        generalize hy : rs[j]'(by rw [HM.out]; omega) = y at *
        by_cases hx1 : x < 2
        · go_wp2_with fail
          go_ret
          exact ⟨rfl, GJ.out.bel⟩
        · by_cases hx2 : 16 < x
          · go_wp2_with fail
            go_ret
            exact ⟨rfl, GJ.out.bel⟩
          · by_cases hy1 : y < 0
            · go_wp2_with fail
              go_ret
              exact ⟨rfl, GJ.out.bel⟩
            · by_cases hy2 : 7 < y
              · go_wp2_with fail
                go_ret
                exact ⟨rfl, GJ.out.bel⟩
              · obtain ⟨xn, HXN⟩ : ∃ xn : Nat, x = (xn : Int) := ⟨x.toNat, by omega⟩
                subst HXN
                have hxn : 2 ≤ xn ∧ xn ≤ 16 := by omega
                have g0 : ∀ o, (wr.alloc o).cell? ⟨b5, 0, none⟩ = some (.int .i64 f) := fun o => (GJ.out.step (bel_alloc (Nat.le_refl _) o)).cells.1
                have g1 : ∀ o, (wr.alloc o).cell? ⟨b5, 1, none⟩ = some (.int .i64 e) := fun o => (GJ.out.step (bel_alloc (Nat.le_refl _) o)).cells.2.1
                have g2 : ∀ o, (wr.alloc o).cell? ⟨b5, 2, none⟩ = some (.slice q nn c) := fun o => (GJ.out.step (bel_alloc (Nat.le_refl _) o)).cells.2.2.1
                have g3 : ∀ o, (wr.alloc o).cell? ⟨bb, ob + j, none⟩ = some (.int .i64 y) := fun o => ((bel_alloc (Nat.le_refl _) o : Below wr.heap.size wr _).cell (p := ⟨bb, ob + j, none⟩) k4).trans k5
                have HBB : Hid (bb < w.heap.size) := by
                  obtain ⟨bb', ob', e', k4', _⟩ := (HA.out w (Below.refl _ _)).2 j (by rw [HM.out]; omega)
                  cases e'
                  exact k4'
                have HSV : Hid (∀ W' : World, Below wr.heap.size wr W' → GS w W' b5 b7 f e q nn c R) := fun W' hb => GJ.out.step hb
                have HRC : Hid (∀ W' : World, Below wr.heap.size wr W' → W'.cell? ⟨bb, ob + j, none⟩ = some (.int .i64 y)) := fun W' hb => (hb.cell (p := ⟨bb, ob + j, none⟩) k4).trans k5
                by_cases hy0 : y = 0
                · subst hy0
                  have H14 : Calls Try.prog 14 #[.agg #[.int .i64 f, .int .i64 e, .slice q nn c], .agg #[.int .i64 4, .int .i64 1, .int .i64 ((j : Int) + 1), .slice none 0 0, .slice none 0 0, .int .i64 (xn : Int), .int .i64 0, .int .i64 0, .slice none 0 0]] (wr.alloc (.cells #[.int .i64 4, .int .i64 1, .int .i64 ((j : Int) + 1), .slice none 0 0, .slice none 0 0, .int .i64 (xn : Int), .int .i64 0, .int .i64 0, .slice none 0 0] 38)) fun z w' => ∃ e1 q1 n1 c1, z = .returned (.tuple #[.agg #[.int .i64 1, .int .i64 e1, .slice q1 n1 c1], .int .i64 0]) ∧ Hid (GS w (w'.alloc (.cells #[.int .i64 1, .int .i64 e1, .slice q1 n1 c1] 26)) b5 b7 f e q nn c R ∧ Told3 (wr.heap.size + 1) (w'.alloc (.cells #[.int .i64 1, .int .i64 e1, .slice q1 n1 c1] 26)) 1 e1 q1 n1 c1 (fun z => if z = (xn : Int) then 0 else R z)) ∧ (w'.alloc (.cells #[.int .i64 1, .int .i64 e1, .slice q1 n1 c1] 26)).cell? ⟨b5, 0, none⟩ = some (.int .i64 f) ∧ (w'.alloc (.cells #[.int .i64 1, .int .i64 e1, .slice q1 n1 c1] 26)).cell? ⟨b5, 1, none⟩ = some (.int .i64 e) ∧ (w'.alloc (.cells #[.int .i64 1, .int .i64 e1, .slice q1 n1 c1] 26)).cell? ⟨b5, 2, none⟩ = some (.slice q nn c) ∧ (w'.alloc (.cells #[.int .i64 1, .int .i64 e1, .slice q1 n1 c1] 26)).frozen? ⟨b5, 0, none⟩ = false ∧ (w'.alloc (.cells #[.int .i64 1, .int .i64 e1, .slice q1 n1 c1] 26)).frozen? ⟨b5, 1, none⟩ = false ∧ (w'.alloc (.cells #[.int .i64 1, .int .i64 e1, .slice q1 n1 c1] 26)).frozen? ⟨b5, 2, none⟩ = false ∧ (w'.alloc (.cells #[.int .i64 1, .int .i64 e1, .slice q1 n1 c1] 26)).cell? ⟨b7, xn, none⟩ = some (.int .i64 (R xn)) ∧ (w'.alloc (.cells #[.int .i64 1, .int .i64 e1, .slice q1 n1 c1] 26)).frozen? ⟨b7, xn, none⟩ = false ∧ (w'.alloc (.cells #[.int .i64 1, .int .i64 e1, .slice q1 n1 c1] 26)).cell? ⟨bb, ob + j, none⟩ = some (.int .i64 0) := by
                    refine (change_own ⟨4, 1, (j : Int) + 1, [], [], (xn : Int), 0, 0, []⟩ _ f e q nn c 0 R _ (HSV.out _ (bel_alloc (Nat.le_refl _) _)).told ⟨none, 0, none, 0, none, 0, rfl, Src.nil _, Src.nil _, WrRow.nil _ _, by simp, by simp, by simp⟩ (fun p h1 h2 h3 _ _ => may_revoke h1 h3 (by omega) (by omega) (by omega))).mono ?_
                    rintro z w' ⟨e1, q1, n1, c1', rfl, -, hT, hb⟩
                    have hal : Below w'.heap.size w' (w'.alloc (.cells #[.int .i64 1, .int .i64 e1, .slice q1 n1 c1'] 26)) := bel_alloc (Nat.le_refl _) _
                    have hb0 : Below wr.heap.size wr (wr.alloc (.cells #[.int .i64 4, .int .i64 1, .int .i64 ((j : Int) + 1), .slice none 0 0, .slice none 0 0, .int .i64 (xn : Int), .int .i64 0, .int .i64 0, .slice none 0 0] 38)) := bel_alloc (Nat.le_refl _) _
                    have hbb : Below wr.heap.size wr (w'.alloc (.cells #[.int .i64 1, .int .i64 e1, .slice q1 n1 c1'] 26)) := (hb0.trans (bel_le hb hb0.size)).trans (bel_le hal (Nat.le_trans hb0.size hb.size))
                    have hg := HSV.out _ hbb
                    refine ⟨e1, q1, n1, c1', rfl, ⟨hg, ?_⟩, hg.cells.1, hg.cells.2.1, hg.cells.2.2.1, hg.cells.2.2.2.1, hg.cells.2.2.2.2.1, hg.cells.2.2.2.2.2, (hg.at xn (by omega) (by omega)).1, (hg.at xn (by omega) (by omega)).2, HRC.out _ hbb⟩
                    have hT2 := hT.below hal
                    simp only [show (wr.alloc (.cells #[.int .i64 4, .int .i64 1, .int .i64 ((j : Int) + 1), .slice none 0 0, .slice none 0 0, .int .i64 (xn : Int), .int .i64 0, .int .i64 0, .slice none 0 0] 38)).heap.size = wr.heap.size + 1 from by simp] at hT2
                    simpa using hT2
                  go_wp2_with fail
                  refine H14.mono ?_
                  rintro z w5 ⟨e1, q1, n1, c1', rfl, G5, r0, r1, r2, s0, s1, s2, r3, s3, r4⟩
                  clear H14 g0 g1 g2 g3
                  have hne1 : ¬ b7 = b5 := fun e => G5.out.1.ne e.symm
                  have hne2 : ¬ b5 = b7 := G5.out.1.ne
                  have x17 : (xn : Int) < 17 := by omega
                  have x00 : (0 : Int) ≤ (xn : Int) := by omega
                  have r5 : ∀ v0 v1 v2, (((((w5.alloc (.cells #[.int .i64 1, .int .i64 e1, .slice q1 n1 c1'] 26)).setCell ⟨b5, 0, none⟩ v0).setCell ⟨b5, 1, none⟩ v1).setCell ⟨b5, 2, none⟩ v2).drew).cell? ⟨b7, xn, none⟩ = some (.int .i64 (R xn)) := fun v0 v1 v2 => by
                    obtain ⟨C, k1, _⟩ := G5.out.1.want
                    have hk := (only3 (w5.alloc (.cells #[.int .i64 1, .int .i64 e1, .slice q1 n1 c1'] 26)) b5 v0 v1 v2).block b7 (Array.getElem?_eq_some_iff.1 k1).1 (by simpa using hne1)
                    exact (World.cell?_of_block (a := ⟨b7, xn, none⟩) hk).trans r3
                  have s5 : ∀ v0 v1 v2, (((((w5.alloc (.cells #[.int .i64 1, .int .i64 e1, .slice q1 n1 c1'] 26)).setCell ⟨b5, 0, none⟩ v0).setCell ⟨b5, 1, none⟩ v1).setCell ⟨b5, 2, none⟩ v2).drew).frozen? ⟨b7, xn, none⟩ = false := fun v0 v1 v2 => by
                    obtain ⟨C, k1, _⟩ := G5.out.1.want
                    have hk := (only3 (w5.alloc (.cells #[.int .i64 1, .int .i64 e1, .slice q1 n1 c1'] 26)) b5 v0 v1 v2).block b7 (Array.getElem?_eq_some_iff.1 k1).1 (by simpa using hne1)
                    exact frozen_of_row _ _ _ _ _ (hk.trans k1)
                  have hbb5 : ¬ bb = b5 := by have := HBB.out; have := G5.out.1.lo5; omega
                  have r6 : ∀ v0 v1 v2, (((((w5.alloc (.cells #[.int .i64 1, .int .i64 e1, .slice q1 n1 c1'] 26)).setCell ⟨b5, 0, none⟩ v0).setCell ⟨b5, 1, none⟩ v1).setCell ⟨b5, 2, none⟩ v2).drew).cell? ⟨bb, ob + j, none⟩ = some (.int .i64 0) := fun v0 v1 v2 => by
                    have hk := (only3 (w5.alloc (.cells #[.int .i64 1, .int .i64 e1, .slice q1 n1 c1'] 26)) b5 v0 v1 v2).block bb (by have := HBB.out; have := G5.out.1.bel.size; omega) (by simpa using hbb5)
                    exact (World.cell?_of_block (a := ⟨bb, ob + j, none⟩) hk).trans r4
                  go_wp2_with fail
                  go_region
                  have G7 : Hid (GS w (((((w5.alloc (.cells #[.int .i64 1, .int .i64 e1, .slice q1 n1 c1'] 26)).setCell ⟨b5, 0, none⟩ (.int .i64 1)).setCell ⟨b5, 1, none⟩ (.int .i64 e1)).setCell ⟨b5, 2, none⟩ (.slice q1 n1 c1')).setCell ⟨b7, xn, none⟩ (.int .i64 0)).drew b5 b7 1 e1 q1 n1 c1' (fun z => if z = (xn : Int) then 0 else R z)) := (G5.out.1.put (x := xn) (y := 0) (by omega) G5.out.2 (by have := GJ.out.lt; omega) (fun z => by
                    show (if (z : Int) = (xn : Int) then 0 else R z) = _
                    by_cases hz : z = xn
                    · rw [if_pos (by omega), if_pos hz]
                    · rw [if_neg (by omega), if_neg hz])).step ⟨rfl, rfl, rfl, Nat.le_refl _, fun _ _ => rfl⟩
                  obtain ⟨R1, HR1⟩ : ∃ R1 : Int → Int, Hid ((fun z => if z = (xn : Int) then 0 else R z) = R1) := ⟨_, rfl⟩
                  rw [HR1.out] at G7
                  generalize (((((w5.alloc (.cells #[.int .i64 1, .int .i64 e1, .slice q1 n1 c1'] 26)).setCell ⟨b5, 0, none⟩ (.int .i64 1)).setCell ⟨b5, 1, none⟩ (.int .i64 e1)).setCell ⟨b5, 2, none⟩ (.slice q1 n1 c1')).setCell ⟨b7, xn, none⟩ (.int .i64 0)).drew = w7 at *
                  clear G5 r0 r1 r2 s0 s1 s2 r3 s3 r4 r5 s5 r6 hne1 hne2 hbb5 HSV HRC HBB GJ HR1
                  go_wp2_with fail
                  go_loopw [13] (fun i wr => ∃ k : Nat, 1 ≤ k ∧ k ≤ 17 ∧ i = .int .i64 k ∧ Hid (GS w wr b5 b7 1 e1 q1 n1 c1' R1)) (fun i _ => 17 - (intOf i).toNat)
                  case atStart => exact ⟨1, by omega, by omega, rfl, G7⟩
                  case round =>
                    obtain ⟨k, hk1, hk2, rfl, GK⟩ := hrel
                    clear G7
                    have k0 : (0 : Int) ≤ (k : Int) := by omega
                    by_cases hk3 : k ≤ 16
                    · have k1 : (k : Int) ≤ 16 := by omega
                      have k17 : (k : Int) < 17 := by omega
                      obtain ⟨CP, HCP⟩ : ∃ CP : Array Value, Hid (#[.int .i64 1, .int .i64 e1, .slice q1 n1 c1'] = CP) := ⟨_, rfl⟩
                      obtain ⟨r, HRR⟩ : ∃ r, Hid (R1 k = r) := ⟨_, rfl⟩
                      have HBK : Hid (∀ w', Only [] wr w' → Below wr.heap.size wr w') := fun w' ho => ho.below (Nat.le_refl _) (by simp)
                      have HR5 : Hid (∀ w', Only [] wr w' → w'.heap[b5]? = some (.cells CP 26 (0, 0)) ∧ CP.size = 3) := by
                        rw [← HCP.out]
                        exact fun w' ho => ⟨(GK.out.step (HBK.out w' ho)).box, rfl⟩
                      have HR7 : Hid (∀ w', Only [] wr w' → w'.cell? ⟨b7, k, none⟩ = some (.int .i64 r)) := by
                        rw [← HRR.out]
                        exact fun w' ho => ((GK.out.step (HBK.out w' ho)).at k hk1 hk3).1
                      have HC21 : Hid (∀ w', Only [] wr w' → Calls Try.prog 21 #[.agg CP, .int .i64 (k : Int)] w' fun z u => z = .returned (.int .i64 r) ∧ Below w'.heap.size w' u) := by
                        rw [← HCP.out, ← HRR.out]
                        intro w' ho
                        obtain ⟨p, h1, h2, h3, h4, h5⟩ := (GK.out.step (HBK.out w' ho)).told.is
                        have h := Rights_any p _ (k : Int) w' h1
                        rw [h5] at h
                        exact h
                      have HKP : Hid (∀ w', Only [] wr w' → GS w w' b5 b7 1 e1 q1 n1 c1' R1) := fun w' ho => GK.out.step (HBK.out w' ho)
                      clear GK HBK HCP HRR
                      go_wp2_with fail
                      have RB : ∀ k w w', Below w.heap.size w w' → (fun (_ : Nat) (_ : World) => True) k w → (fun (_ : Nat) (_ : World) => True) k w' := fun _ _ _ _ _ => trivial
                      refine wp_region_st (gr25 CP b7 k r) (fun u u' => Only [] u u') (SeqS [] (fun (_ : Nat) (_ : World) => True)) (by kernel_rfl) (only_drew _ _) (only_trans _) (gr25_kept CP b7 k r) (by kernel_rfl) (SeqS.start (trivial)) ?_ ?_
                      · intro i o a' w' f hi inv hS hfi hfw hpre
                        have ho : Only [] wr w' := inv.grow
                        have hlt : i < 7 := (Array.getElem?_eq_some_iff.1 hi).1
                        obtain rfl|rfl|rfl|rfl|rfl|rfl|rfl : i = 0 ∨ i = 1 ∨ i = 2 ∨ i = 3 ∨ i = 4 ∨ i = 5 ∨ i = 6 := by omega
                        · obtain rfl := Option.some.inj hi
                          have h0 : a'.tmps.getD 5 undef = (.pointer (some ⟨b5, 0, none⟩)) := by rw [inv.old 5 (notDst_spec (by kernel_rfl))]; rfl
                          exact sq_value _ rfl rfl (load_run 26 5 b5 (0) _ rfl h0 (ld26 (HR5.out w' ho))) (Below.refl _ _) (by decide) hS RB rfl
                        · obtain rfl := Option.some.inj hi
                          exact sq_value _ rfl rfl rfl (Below.refl _ _) (by decide) hS RB (by show a'.tmps.getD 13 undef = _; rw [inv.old 13 (notDst_spec (by kernel_rfl))]; rfl)
                        · obtain rfl := Option.some.inj hi
                          have h0 : a'.tmps.getD 99 undef = _ := pre_of hpre 0 99 (by kernel_rfl) (by kernel_rfl)
                          have h1 : a'.tmps.getD 100 undef = _ := pre_of hpre 1 100 (by kernel_rfl) (by kernel_rfl)
                          refine sq_quiet 21 #[a'.tmps.getD 99 undef, a'.tmps.getD 100 undef] rfl rfl (by kernel_rfl) (by decide) hS ?_
                          rw [h0, h1]
                          exact (HC21.out w' ho).mono (by rintro z u ⟨rfl, h2⟩; exact ⟨_, rfl, Only.of_below h2 _, (fun _ h => h), rfl⟩)
                        · obtain rfl := Option.some.inj hi
                          exact sq_value _ rfl rfl rfl (Below.refl _ _) (by decide) hS RB (by show a'.tmps.getD 13 undef = _; rw [inv.old 13 (notDst_spec (by kernel_rfl))]; rfl)
                        · obtain rfl := Option.some.inj hi
                          have h0 : a'.tmps.getD 7 undef = (.pointer (some ⟨b7, 0, none⟩)) := by rw [inv.old 7 (notDst_spec (by kernel_rfl))]; rfl
                          have h1 : a'.tmps.getD 102 undef = _ := pre_of hpre 3 102 (by kernel_rfl) (by kernel_rfl)
                          exact sq_value _ rfl rfl (ia30_run 7 102 b7 k rfl h0 h1 (by omega)) (Below.refl _ _) (by decide) hS RB rfl
                        · obtain rfl := Option.some.inj hi
                          have h0 : a'.tmps.getD 103 undef = _ := pre_of hpre 4 103 (by kernel_rfl) (by kernel_rfl)
                          exact sq_value _ rfl rfl (load_run 3 103 b7 (k) _ rfl h0 (ld3 (HR7.out w' ho))) (Below.refl _ _) (by decide) hS RB rfl
                        · obtain rfl := Option.some.inj hi
                          have h0 : a'.tmps.getD 101 undef = _ := pre_of hpre 2 101 (by kernel_rfl) (by kernel_rfl)
                          have h1 : a'.tmps.getD 104 undef = _ := pre_of hpre 5 104 (by kernel_rfl) (by kernel_rfl)
                          exact sq_value _ rfl rfl (neqN_run 101 104 _ _ rfl h0 h1) (Below.refl _ _) (by decide) hS RB (by show Value.bool _ = _; simp)
                      · intro a' w9 f inv hS hall hd
                        have hk6 := hd 6 105 (by kernel_rfl)
                        have ho : Only [] wr w9 := inv.grow
                        have hdf : a'.defers = [] := inv.defers
                        have hsz : a'.tmps.size = 122 := inv.size
                        have e := frame7_25 hsz (fun t ht => inv.old t (dstsIn_spec (ts := [99, 100, 101, 102, 103, 104, 105]) (by kernel_rfl) t ht))
                        have hR := hS.done (fun c hc => hall c (show c < 7 by simp at hc <;> omega))
                        clear inv hd hsz hall hS
                        obtain ⟨tmps, defers⟩ := a'
                        obtain rfl : defers = [] := hdf
                        replace e : tmps = _ := e
                        replace hk6 : tmps.getD 105 undef = (.bool false) := hk6
                        generalize tmps.getD 99 undef = x99 at *
                        generalize tmps.getD 100 undef = x100 at *
                        generalize tmps.getD 101 undef = x101 at *
                        generalize tmps.getD 102 undef = x102 at *
                        generalize tmps.getD 103 undef = x103 at *
                        generalize tmps.getD 104 undef = x104 at *
                        generalize tmps.getD 105 undef = x105 at *
                        simp only [Array.getD_eq_getD_getElem?, List.getElem?_toArray, List.getElem?_cons_succ, List.getElem?_cons_zero, Option.getD_some] at e
                        subst e
                        subst hk6
                        go_wp2_with fail
                        refine ⟨⟨k + 1, by omega, by omega, by simp, HKP.out _ ho⟩, ?_⟩
                        simp only [intOf]
                        omega
                    · have k1 : ¬ (k : Int) ≤ 16 := by omega
                      go_wp2_with fail
                      refine ⟨⟨j + 1, 1, e1, q1, n1, c1', R1, by omega, by simp, GK⟩, ?_⟩
                      simp only [intOf]
                      omega
                · have hy3 : (y == 0) = false := by simp [hy0]
                  have H14 : Calls Try.prog 14 #[.agg #[.int .i64 f, .int .i64 e, .slice q nn c], .agg #[.int .i64 3, .int .i64 1, .int .i64 ((j : Int) + 1), .slice none 0 0, .slice none 0 0, .int .i64 (xn : Int), .int .i64 y, .int .i64 0, .slice none 0 0]] (wr.alloc (.cells #[.int .i64 3, .int .i64 1, .int .i64 ((j : Int) + 1), .slice none 0 0, .slice none 0 0, .int .i64 (xn : Int), .int .i64 y, .int .i64 0, .slice none 0 0] 38)) fun z w' => ∃ e1 q1 n1 c1, z = .returned (.tuple #[.agg #[.int .i64 1, .int .i64 e1, .slice q1 n1 c1], .int .i64 0]) ∧ Hid (GS w (w'.alloc (.cells #[.int .i64 1, .int .i64 e1, .slice q1 n1 c1] 26)) b5 b7 f e q nn c R ∧ Told3 (wr.heap.size + 1) (w'.alloc (.cells #[.int .i64 1, .int .i64 e1, .slice q1 n1 c1] 26)) 1 e1 q1 n1 c1 (fun z => if z = (xn : Int) then y else R z)) ∧ (w'.alloc (.cells #[.int .i64 1, .int .i64 e1, .slice q1 n1 c1] 26)).cell? ⟨b5, 0, none⟩ = some (.int .i64 f) ∧ (w'.alloc (.cells #[.int .i64 1, .int .i64 e1, .slice q1 n1 c1] 26)).cell? ⟨b5, 1, none⟩ = some (.int .i64 e) ∧ (w'.alloc (.cells #[.int .i64 1, .int .i64 e1, .slice q1 n1 c1] 26)).cell? ⟨b5, 2, none⟩ = some (.slice q nn c) ∧ (w'.alloc (.cells #[.int .i64 1, .int .i64 e1, .slice q1 n1 c1] 26)).frozen? ⟨b5, 0, none⟩ = false ∧ (w'.alloc (.cells #[.int .i64 1, .int .i64 e1, .slice q1 n1 c1] 26)).frozen? ⟨b5, 1, none⟩ = false ∧ (w'.alloc (.cells #[.int .i64 1, .int .i64 e1, .slice q1 n1 c1] 26)).frozen? ⟨b5, 2, none⟩ = false ∧ (w'.alloc (.cells #[.int .i64 1, .int .i64 e1, .slice q1 n1 c1] 26)).cell? ⟨b7, xn, none⟩ = some (.int .i64 (R xn)) ∧ (w'.alloc (.cells #[.int .i64 1, .int .i64 e1, .slice q1 n1 c1] 26)).frozen? ⟨b7, xn, none⟩ = false ∧ (w'.alloc (.cells #[.int .i64 1, .int .i64 e1, .slice q1 n1 c1] 26)).cell? ⟨bb, ob + j, none⟩ = some (.int .i64 y) := by
                    refine (change_own ⟨3, 1, (j : Int) + 1, [], [], (xn : Int), y, 0, []⟩ _ f e q nn c 0 R _ (HSV.out _ (bel_alloc (Nat.le_refl _) _)).told (en_grant _ _ _ _) (fun p h1 h2 h3 _ _ => may_grant h1 h3 (by omega) (by omega) (by omega) (by omega))).mono ?_
                    rintro z w' ⟨e1, q1, n1, c1', rfl, -, hT, hb⟩
                    have hal : Below w'.heap.size w' (w'.alloc (.cells #[.int .i64 1, .int .i64 e1, .slice q1 n1 c1'] 26)) := bel_alloc (Nat.le_refl _) _
                    have hb0 : Below wr.heap.size wr (wr.alloc (.cells #[.int .i64 3, .int .i64 1, .int .i64 ((j : Int) + 1), .slice none 0 0, .slice none 0 0, .int .i64 (xn : Int), .int .i64 y, .int .i64 0, .slice none 0 0] 38)) := bel_alloc (Nat.le_refl _) _
                    have hbb : Below wr.heap.size wr (w'.alloc (.cells #[.int .i64 1, .int .i64 e1, .slice q1 n1 c1'] 26)) := (hb0.trans (bel_le hb hb0.size)).trans (bel_le hal (Nat.le_trans hb0.size hb.size))
                    have hg := HSV.out _ hbb
                    refine ⟨e1, q1, n1, c1', rfl, ⟨hg, ?_⟩, hg.cells.1, hg.cells.2.1, hg.cells.2.2.1, hg.cells.2.2.2.1, hg.cells.2.2.2.2.1, hg.cells.2.2.2.2.2, (hg.at xn (by omega) (by omega)).1, (hg.at xn (by omega) (by omega)).2, HRC.out _ hbb⟩
                    have hT2 := hT.below hal
                    simp only [show (wr.alloc (.cells #[.int .i64 3, .int .i64 1, .int .i64 ((j : Int) + 1), .slice none 0 0, .slice none 0 0, .int .i64 (xn : Int), .int .i64 y, .int .i64 0, .slice none 0 0] 38)).heap.size = wr.heap.size + 1 from by simp] at hT2
                    simpa using hT2
                  go_wp2_with fail
                  refine H14.mono ?_
                  rintro z w5 ⟨e1, q1, n1, c1', rfl, G5, r0, r1, r2, s0, s1, s2, r3, s3, r4⟩
                  clear H14 g0 g1 g2 g3
                  have hne1 : ¬ b7 = b5 := fun e => G5.out.1.ne e.symm
                  have hne2 : ¬ b5 = b7 := G5.out.1.ne
                  have x17 : (xn : Int) < 17 := by omega
                  have x00 : (0 : Int) ≤ (xn : Int) := by omega
                  have r5 : ∀ v0 v1 v2, (((((w5.alloc (.cells #[.int .i64 1, .int .i64 e1, .slice q1 n1 c1'] 26)).setCell ⟨b5, 0, none⟩ v0).setCell ⟨b5, 1, none⟩ v1).setCell ⟨b5, 2, none⟩ v2).drew).cell? ⟨b7, xn, none⟩ = some (.int .i64 (R xn)) := fun v0 v1 v2 => by
                    obtain ⟨C, k1, _⟩ := G5.out.1.want
                    have hk := (only3 (w5.alloc (.cells #[.int .i64 1, .int .i64 e1, .slice q1 n1 c1'] 26)) b5 v0 v1 v2).block b7 (Array.getElem?_eq_some_iff.1 k1).1 (by simpa using hne1)
                    exact (World.cell?_of_block (a := ⟨b7, xn, none⟩) hk).trans r3
                  have s5 : ∀ v0 v1 v2, (((((w5.alloc (.cells #[.int .i64 1, .int .i64 e1, .slice q1 n1 c1'] 26)).setCell ⟨b5, 0, none⟩ v0).setCell ⟨b5, 1, none⟩ v1).setCell ⟨b5, 2, none⟩ v2).drew).frozen? ⟨b7, xn, none⟩ = false := fun v0 v1 v2 => by
                    obtain ⟨C, k1, _⟩ := G5.out.1.want
                    have hk := (only3 (w5.alloc (.cells #[.int .i64 1, .int .i64 e1, .slice q1 n1 c1'] 26)) b5 v0 v1 v2).block b7 (Array.getElem?_eq_some_iff.1 k1).1 (by simpa using hne1)
                    exact frozen_of_row _ _ _ _ _ (hk.trans k1)
                  have hbb5 : ¬ bb = b5 := by have := HBB.out; have := G5.out.1.lo5; omega
                  have r6 : ∀ v0 v1 v2, (((((w5.alloc (.cells #[.int .i64 1, .int .i64 e1, .slice q1 n1 c1'] 26)).setCell ⟨b5, 0, none⟩ v0).setCell ⟨b5, 1, none⟩ v1).setCell ⟨b5, 2, none⟩ v2).drew).cell? ⟨bb, ob + j, none⟩ = some (.int .i64 y) := fun v0 v1 v2 => by
                    have hk := (only3 (w5.alloc (.cells #[.int .i64 1, .int .i64 e1, .slice q1 n1 c1'] 26)) b5 v0 v1 v2).block bb (by have := HBB.out; have := G5.out.1.bel.size; omega) (by simpa using hbb5)
                    exact (World.cell?_of_block (a := ⟨bb, ob + j, none⟩) hk).trans r4
                  go_wp2_with fail
                  go_region
                  have G7 : Hid (GS w (((((w5.alloc (.cells #[.int .i64 1, .int .i64 e1, .slice q1 n1 c1'] 26)).setCell ⟨b5, 0, none⟩ (.int .i64 1)).setCell ⟨b5, 1, none⟩ (.int .i64 e1)).setCell ⟨b5, 2, none⟩ (.slice q1 n1 c1')).setCell ⟨b7, xn, none⟩ (.int .i64 y)).drew b5 b7 1 e1 q1 n1 c1' (fun z => if z = (xn : Int) then y else R z)) := (G5.out.1.put (x := xn) (y := y) (by omega) G5.out.2 (by have := GJ.out.lt; omega) (fun z => by
                    show (if (z : Int) = (xn : Int) then y else R z) = _
                    by_cases hz : z = xn
                    · rw [if_pos (by omega), if_pos hz]
                    · rw [if_neg (by omega), if_neg hz])).step ⟨rfl, rfl, rfl, Nat.le_refl _, fun _ _ => rfl⟩
                  obtain ⟨R1, HR1⟩ : ∃ R1 : Int → Int, Hid ((fun z => if z = (xn : Int) then y else R z) = R1) := ⟨_, rfl⟩
                  rw [HR1.out] at G7
                  generalize (((((w5.alloc (.cells #[.int .i64 1, .int .i64 e1, .slice q1 n1 c1'] 26)).setCell ⟨b5, 0, none⟩ (.int .i64 1)).setCell ⟨b5, 1, none⟩ (.int .i64 e1)).setCell ⟨b5, 2, none⟩ (.slice q1 n1 c1')).setCell ⟨b7, xn, none⟩ (.int .i64 y)).drew = w7 at *
                  clear G5 r0 r1 r2 s0 s1 s2 r3 s3 r4 r5 s5 r6 hne1 hne2 hbb5 HSV HRC HBB GJ HR1
                  go_wp2_with fail
                  go_loopw [13] (fun i wr => ∃ k : Nat, 1 ≤ k ∧ k ≤ 17 ∧ i = .int .i64 k ∧ Hid (GS w wr b5 b7 1 e1 q1 n1 c1' R1)) (fun i _ => 17 - (intOf i).toNat)
                  case atStart => exact ⟨1, by omega, by omega, rfl, G7⟩
                  case round =>
                    obtain ⟨k, hk1, hk2, rfl, GK⟩ := hrel
                    clear G7
                    have k0 : (0 : Int) ≤ (k : Int) := by omega
                    by_cases hk3 : k ≤ 16
                    · have k1 : (k : Int) ≤ 16 := by omega
                      have k17 : (k : Int) < 17 := by omega
                      obtain ⟨CP, HCP⟩ : ∃ CP : Array Value, Hid (#[.int .i64 1, .int .i64 e1, .slice q1 n1 c1'] = CP) := ⟨_, rfl⟩
                      obtain ⟨r, HRR⟩ : ∃ r, Hid (R1 k = r) := ⟨_, rfl⟩
                      have HBK : Hid (∀ w', Only [] wr w' → Below wr.heap.size wr w') := fun w' ho => ho.below (Nat.le_refl _) (by simp)
                      have HR5 : Hid (∀ w', Only [] wr w' → w'.heap[b5]? = some (.cells CP 26 (0, 0)) ∧ CP.size = 3) := by
                        rw [← HCP.out]
                        exact fun w' ho => ⟨(GK.out.step (HBK.out w' ho)).box, rfl⟩
                      have HR7 : Hid (∀ w', Only [] wr w' → w'.cell? ⟨b7, k, none⟩ = some (.int .i64 r)) := by
                        rw [← HRR.out]
                        exact fun w' ho => ((GK.out.step (HBK.out w' ho)).at k hk1 hk3).1
                      have HC21 : Hid (∀ w', Only [] wr w' → Calls Try.prog 21 #[.agg CP, .int .i64 (k : Int)] w' fun z u => z = .returned (.int .i64 r) ∧ Below w'.heap.size w' u) := by
                        rw [← HCP.out, ← HRR.out]
                        intro w' ho
                        obtain ⟨p, h1, h2, h3, h4, h5⟩ := (GK.out.step (HBK.out w' ho)).told.is
                        have h := Rights_any p _ (k : Int) w' h1
                        rw [h5] at h
                        exact h
                      have HKP : Hid (∀ w', Only [] wr w' → GS w w' b5 b7 1 e1 q1 n1 c1' R1) := fun w' ho => GK.out.step (HBK.out w' ho)
                      clear GK HBK HCP HRR
                      go_wp2_with fail
                      have RB : ∀ k w w', Below w.heap.size w w' → (fun (_ : Nat) (_ : World) => True) k w → (fun (_ : Nat) (_ : World) => True) k w' := fun _ _ _ _ _ => trivial
                      refine wp_region_st (gr25 CP b7 k r) (fun u u' => Only [] u u') (SeqS [] (fun (_ : Nat) (_ : World) => True)) (by kernel_rfl) (only_drew _ _) (only_trans _) (gr25_kept CP b7 k r) (by kernel_rfl) (SeqS.start (trivial)) ?_ ?_
                      · intro i o a' w' f hi inv hS hfi hfw hpre
                        have ho : Only [] wr w' := inv.grow
                        have hlt : i < 7 := (Array.getElem?_eq_some_iff.1 hi).1
                        obtain rfl|rfl|rfl|rfl|rfl|rfl|rfl : i = 0 ∨ i = 1 ∨ i = 2 ∨ i = 3 ∨ i = 4 ∨ i = 5 ∨ i = 6 := by omega
                        · obtain rfl := Option.some.inj hi
                          have h0 : a'.tmps.getD 5 undef = (.pointer (some ⟨b5, 0, none⟩)) := by rw [inv.old 5 (notDst_spec (by kernel_rfl))]; rfl
                          exact sq_value _ rfl rfl (load_run 26 5 b5 (0) _ rfl h0 (ld26 (HR5.out w' ho))) (Below.refl _ _) (by decide) hS RB rfl
                        · obtain rfl := Option.some.inj hi
                          exact sq_value _ rfl rfl rfl (Below.refl _ _) (by decide) hS RB (by show a'.tmps.getD 13 undef = _; rw [inv.old 13 (notDst_spec (by kernel_rfl))]; rfl)
                        · obtain rfl := Option.some.inj hi
                          have h0 : a'.tmps.getD 99 undef = _ := pre_of hpre 0 99 (by kernel_rfl) (by kernel_rfl)
                          have h1 : a'.tmps.getD 100 undef = _ := pre_of hpre 1 100 (by kernel_rfl) (by kernel_rfl)
                          refine sq_quiet 21 #[a'.tmps.getD 99 undef, a'.tmps.getD 100 undef] rfl rfl (by kernel_rfl) (by decide) hS ?_
                          rw [h0, h1]
                          exact (HC21.out w' ho).mono (by rintro z u ⟨rfl, h2⟩; exact ⟨_, rfl, Only.of_below h2 _, (fun _ h => h), rfl⟩)
                        · obtain rfl := Option.some.inj hi
                          exact sq_value _ rfl rfl rfl (Below.refl _ _) (by decide) hS RB (by show a'.tmps.getD 13 undef = _; rw [inv.old 13 (notDst_spec (by kernel_rfl))]; rfl)
                        · obtain rfl := Option.some.inj hi
                          have h0 : a'.tmps.getD 7 undef = (.pointer (some ⟨b7, 0, none⟩)) := by rw [inv.old 7 (notDst_spec (by kernel_rfl))]; rfl
                          have h1 : a'.tmps.getD 102 undef = _ := pre_of hpre 3 102 (by kernel_rfl) (by kernel_rfl)
                          exact sq_value _ rfl rfl (ia30_run 7 102 b7 k rfl h0 h1 (by omega)) (Below.refl _ _) (by decide) hS RB rfl
                        · obtain rfl := Option.some.inj hi
                          have h0 : a'.tmps.getD 103 undef = _ := pre_of hpre 4 103 (by kernel_rfl) (by kernel_rfl)
                          exact sq_value _ rfl rfl (load_run 3 103 b7 (k) _ rfl h0 (ld3 (HR7.out w' ho))) (Below.refl _ _) (by decide) hS RB rfl
                        · obtain rfl := Option.some.inj hi
                          have h0 : a'.tmps.getD 101 undef = _ := pre_of hpre 2 101 (by kernel_rfl) (by kernel_rfl)
                          have h1 : a'.tmps.getD 104 undef = _ := pre_of hpre 5 104 (by kernel_rfl) (by kernel_rfl)
                          exact sq_value _ rfl rfl (neqN_run 101 104 _ _ rfl h0 h1) (Below.refl _ _) (by decide) hS RB (by show Value.bool _ = _; simp)
                      · intro a' w9 f inv hS hall hd
                        have hk6 := hd 6 105 (by kernel_rfl)
                        have ho : Only [] wr w9 := inv.grow
                        have hdf : a'.defers = [] := inv.defers
                        have hsz : a'.tmps.size = 122 := inv.size
                        have e := frame7_25 hsz (fun t ht => inv.old t (dstsIn_spec (ts := [99, 100, 101, 102, 103, 104, 105]) (by kernel_rfl) t ht))
                        have hR := hS.done (fun c hc => hall c (show c < 7 by simp at hc <;> omega))
                        clear inv hd hsz hall hS
                        obtain ⟨tmps, defers⟩ := a'
                        obtain rfl : defers = [] := hdf
                        replace e : tmps = _ := e
                        replace hk6 : tmps.getD 105 undef = (.bool false) := hk6
                        generalize tmps.getD 99 undef = x99 at *
                        generalize tmps.getD 100 undef = x100 at *
                        generalize tmps.getD 101 undef = x101 at *
                        generalize tmps.getD 102 undef = x102 at *
                        generalize tmps.getD 103 undef = x103 at *
                        generalize tmps.getD 104 undef = x104 at *
                        generalize tmps.getD 105 undef = x105 at *
                        simp only [Array.getD_eq_getD_getElem?, List.getElem?_toArray, List.getElem?_cons_succ, List.getElem?_cons_zero, Option.getD_some] at e
                        subst e
                        subst hk6
                        go_wp2_with fail
                        refine ⟨⟨k + 1, by omega, by omega, by simp, HKP.out _ ho⟩, ?_⟩
                        simp only [intOf]
                        omega
                    · have k1 : ¬ (k : Int) ≤ 16 := by omega
                      go_wp2_with fail
                      refine ⟨⟨j + 1, 1, e1, q1, n1, c1', R1, by omega, by simp, GK⟩, ?_⟩
                      simp only [intOf]
                      omega
    · obtain rfl : j = n := by omega
      have j1 : ¬ (j : Int) < (j : Int) := by omega
      obtain ⟨p, hpf, hpe, hpn, hpo, hpr, -, hpR⟩ := GJ.out.told
      obtain ⟨_, _, hmk, _, hnem⟩ := pright_of hpr
      have hnd := rise_nodup (mok_rise hmk)
      have hat := mok_at hmk
      have HCN : Hid (∀ k : Nat, (cntL p.ms ((k : Int) + 1) : Int) = cntL p.ms k + R ((k : Int) + 1) % 2) := fun k => by rw [← hpR]; exact cntL_succ hnd (fun m hm => by have := hat m hm; omega) k
      have HC0 : Hid (cntL p.ms 0 = 0) := cntL_zero (fun m hm => (hat m hm).1)
      have HCA : Hid (cntL p.ms 16 = (rdrs p.ms).length) := cntL_all (fun m hm => (hat m hm).2.1)
      have HLE : Hid (∀ z, cntL p.ms z ≤ 16) := fun z => Nat.le_trans (List.length_filter_le _ _) (by have := mok_len (by decide) hmk; omega)
      have HRT : Hid (∀ z, 0 ≤ R z ∧ R z ≤ 7) := fun z => GJ.out.told.rts z
      have H22 : Hid (∀ W, GS w W b5 b7 f e q nn c R → Calls Try.prog 22 #[.agg #[.int .i64 f, .int .i64 e, .slice q nn c]] W fun z w' => ∃ q9 c9, z = .returned (.slice q9 (rdrs p.ms).length c9) ∧ Hid (Below w.heap.size w w')) := fun W hW => by
        obtain ⟨p2, ⟨q2, c2', ev, hmb, hl2⟩, hp2, hf2, he2, hR2⟩ := hW.told.is
        have hrd : rdrs p2.ms = rdrs p.ms := rdrs_of hp2 hpr (fun z => by rw [hR2, hpR])
        obtain ⟨_, _, hmk2, _, hnem2⟩ := pright_of hp2
        have h := Readers_any p2 _ W ⟨q2, c2', ev, hmb, hl2⟩ hmk2 hnem2
        rw [hrd] at h
        refine h.mono ?_
        rintro z w' ⟨v, rfl, m1, m2⟩
        obtain ⟨q9, c9, rfl⟩ := own_slice m1
        exact ⟨q9, c9, rfl, hW.bel.trans (bel_le m2 hW.bel.size)⟩
      clear hpf hpe hpn hpo hpr hpR hmk hnem hnd hat
      generalize hrl : (rdrs p.ms).length = rl at *
      have rl16 : (rl : Int) ≤ 16 := by have h1 := HLE.out 16; rw [HCA.out] at h1; omega
      clear hrl
      go_wp2_with fail
      go_loopw [14, 15] (fun s i wr => ∃ k : Nat, k ≤ 16 ∧ i = .int .i64 ((k : Int) + 1) ∧ s = .int .i64 (cntL p.ms k : Int) ∧ Hid (GS w wr b5 b7 f e q nn c R)) (fun _ i _ => 17 - (intOf i).toNat)
      case atStart => exact ⟨0, by omega, rfl, by show _ = Value.int .i64 ((cntL p.ms 0 : Nat) : Int); rw [HC0.out]; rfl, GJ⟩
      case round =>
        obtain ⟨k, hk, rfl, rfl, GK⟩ := hrel
        clear GJ
        by_cases hk3 : k < 16
        · have k1 : (k : Int) + 1 ≤ 16 := by omega
          have k17 : (k : Int) + 1 < 17 := by omega
          have k0 : (0 : Int) ≤ (k : Int) + 1 := by omega
          have e0 : ((k : Int) + 1).toNat = k + 1 := by omega
          have r7 := (GK.out.at (k + 1) (by omega) (by omega)).1
          have hrt := HRT.out ((k : Int) + 1)
          have hcn := HCN.out k
          have hle := HLE.out (k : Int)
          rw [show ((k + 1 : Nat) : Int) = (k : Int) + 1 from by omega] at r7
          generalize R ((k : Int) + 1) = r at *
          have hr1 : r.tmod 2 = r % 2 := Int.tmod_eq_emod_of_nonneg hrt.1
          obtain ⟨r2, hr2⟩ : ∃ r2, r % 2 = r2 := ⟨_, rfl⟩
          rw [hr2] at hr1 hcn
          have hb2 : 0 ≤ r2 ∧ r2 ≤ 1 := by omega
          have HCN2 : Hid ((cntL p.ms ((k : Int) + 1) : Int) = cntL p.ms k + r2) := hcn
          clear hcn
          generalize hc1 : cntL p.ms (k : Int) = c1n at *
          have c16 : (c1n : Int) ≤ 16 := by omega
          have c00 : (0 : Int) ≤ (c1n : Int) := by omega
          clear hc1
          go_wp2_with fail
          refine ⟨⟨k + 1, by omega, by simp, by rw [show ((k + 1 : Nat) : Int) = (k : Int) + 1 from by omega, HCN2.out], GK⟩, ?_⟩
          simp only [intOf]
          omega
        · obtain rfl : k = 16 := by omega
          have H22' := H22.out wr GK.out
          obtain ⟨g0, g1, g2, -, -, -⟩ := GK.out.cells
          have hca : cntL p.ms ((16 : Nat) : Int) = rl := HCA.out
          rw [hca]
          clear H22 HCA HCN HC0 hca
          go_wp2_with fail
          refine H22'.mono ?_
          rintro z w9 ⟨q9, c9, rfl, B9⟩
          go_wp2_with fail
          go_ret
          exact ⟨by simp, B9.out⟩
end Go.Proofs.Ytmlnbbggfjgacaa.P10
