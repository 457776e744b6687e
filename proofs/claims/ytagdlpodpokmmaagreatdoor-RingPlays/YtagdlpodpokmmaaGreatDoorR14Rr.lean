/- The document's ring in memory: New, Learn, Newest. -/
import Derived.Test.YtagdlpodpokmmaaGreatDoorMgR
namespace Go.Proofs.YtagdlpodpokmmaaGreatDoor.S7
open Go.RowKit
/-- A ring: its own block of seventeen cells, and what keys it has. -/
structure RgD (B : Nat) (w : World) (r : Nat) (xs : List Value) (ks : Nat → Option (List Nat)) : Prop where
  low : B ≤ r
  box : w.heap[r]? = some (.cells xs.toArray 51 (0, 0))
  len : xs.length = 17
  no : ∀ i, i < 17 → ks i = none → xs[i]? = some (.slice none 0 0)
  yes : ∀ i l, i < 17 → ks i = some l → l.length = 32 ∧ ∃ ad c, xs[i]? = some (.slice (some ad) 32 c) ∧ By B w (.slice (some ad) 32 c) l
section
variable {B : Nat} {w w' : World} {r : Nat} {xs : List Value} {ks : Nat → Option (List Nat)} {ts : List (Option TypeId)}
theorem RgD.lt (h : RgD B w r xs ks) : r < w.heap.size := (Array.getElem?_eq_some_iff.1 h.box).1
theorem RgD.cell (h : RgD B w r xs ks) (i : Nat) : w.cell? ⟨r, i, none⟩ = xs[i]? := by
  rw [cell_of_row _ _ _ _ _ _ h.box]
  simp
theorem RgD.froz (h : RgD B w r xs ks) (i : Nat) : w.frozen? ⟨r, i, none⟩ = false := frozen_of_row _ _ _ _ _ h.box
theorem RgD.below (h : RgD B w r xs ks) (hb : Below w.heap.size w w') : RgD B w' r xs ks :=
  ⟨h.low, (hb.block r h.lt).trans h.box, h.len, h.no, fun i l h1 h2 => by
    obtain ⟨h3, ad, c, h4, h5⟩ := h.yes i l h1 h2
    exact ⟨h3, ad, c, h4, h5.below hb⟩⟩
theorem RgD.kx (h : RgD B w r xs ks) (hk : Kx ts B w w') (h5 : some 5 ∉ ts) (hr : some 51 ∉ ts) : RgD B w' r xs ks :=
  ⟨h.low, hk.row r _ h.box hr, h.len, h.no, fun i l h1 h2 => by
    obtain ⟨h3, ad, c, h4, h6⟩ := h.yes i l h1 h2
    exact ⟨h3, ad, c, h4, h6.kx hk h5⟩⟩
theorem RgD.put (h : RgD B w r xs ks) {j : Nat} (hj : j < 17) {ad : Addr} {c : Nat} {l : List Nat} (hl : l.length = 32) (hb : By B w (.slice (some ad) 32 c) l) (hB : B ≤ w.heap.size) :
    RgD B (w.setCell ⟨r, j, none⟩ (.slice (some ad) 32 c)) r (xs.set j (.slice (some ad) 32 c)) (lrn ks j l) ∧ Kx [some 51] B w (w.setCell ⟨r, j, none⟩ (.slice (some ad) 32 c)) ∧ Only [r] w (w.setCell ⟨r, j, none⟩ (.slice (some ad) 32 c)) := by
  have ho : Only [r] w (w.setCell ⟨r, j, none⟩ (.slice (some ad) 32 c)) := Only.setCell _ _ _ (by simp)
  have hk : Kx [some 51] B w (w.setCell ⟨r, j, none⟩ (.slice (some ad) 32 c)) := Kx.of_only ho hB (fun y hy => by
    rw [List.mem_singleton.1 hy]
    exact ⟨h.low, fun o ho => by rw [h.box] at ho; cases ho; simp [tyOf]⟩)
  refine ⟨⟨h.low, ?_, by rw [List.length_set]; exact h.len, fun i hi hn => ?_, fun i m hi hm => ?_⟩, hk, ho⟩
  · have := heap_setCell_same w r j xs.toArray 51 (.slice (some ad) 32 c) h.box
    rw [this]
    simp
  · unfold lrn at hn
    by_cases e : i = j
    · rw [if_pos e] at hn; cases hn
    · rw [if_neg e] at hn
      rw [List.getElem?_set_ne (Ne.symm e)]
      exact h.no i hi hn
  · unfold lrn at hm
    by_cases e : i = j
    · rw [if_pos e] at hm
      cases hm
      subst e
      exact ⟨hl, ad, c, by rw [List.getElem?_set_self (by rw [h.len]; exact hj)], hb.kx hk (by decide)⟩
    · rw [if_neg e] at hm
      obtain ⟨h3, ad', c', h4, h6⟩ := h.yes i m hi hm
      exact ⟨h3, ad', c', by rw [List.getElem?_set_ne (Ne.symm e)]; exact h4, h6.kx hk (by decide)⟩

set_option maxHeartbeats 1000000 in
theorem rNewest_any (h : RgD B w r xs ks) : Calls Tryz.prog 21 #[.pointer (some ⟨r, 0, none⟩)] w fun e w' => e = .returned (.int .i64 (nw ks 17 : Int)) ∧ w' = w := by
  have HH : Hid (∀ j : Nat, j < 17 → (ks j = none ∧ w.cell? ⟨r, j, none⟩ = some (.slice none 0 0)) ∨ (∃ l ad c, ks j = some l ∧ w.cell? ⟨r, j, none⟩ = some (.slice (some ad) 32 c))) := fun j hj => by
    cases hk : ks j with
    | none => exact .inl ⟨rfl, (h.cell j).trans (h.no j hj hk)⟩
    | some l =>
      obtain ⟨_, ad, c, hx, _⟩ := h.yes j l hj hk
      exact .inr ⟨l, ad, c, rfl, (h.cell j).trans hx⟩
  clear h
  go_enter Tryz.func21, Tryz.ntmps21
  go_wp2_with fail
  go_loopw [3, 4] (fun v i wr => ∃ j : Nat, j ≤ 17 ∧ i = .int .i64 j ∧ v = .int .i64 (nw ks j : Int) ∧ Hid (wr = w)) (fun _ i _ => 17 - (intOf i).toNat)
  case atStart => exact ⟨0, by omega, rfl, rfl, rfl⟩
  case round =>
    obtain ⟨j, hj, rfl, rfl, hw⟩ := hrel
    obtain rfl : w = wr := hw.out.symm
    clear hw
    have j0 : (0 : Int) ≤ (j : Int) := by omega
    by_cases hlt : j < 17
    · have j1 : (j : Int) < 17 := by omega
      have j2 : (j : Int) ≤ 16 := by omega
      have HN : Hid (nw ks (j + 1) = if (ks j).isSome = true then j else nw ks j) := rfl
      rcases HH.out j hlt with ⟨hk, hc⟩ | ⟨l, ad, c, hk, hc⟩
      · rw [hk, if_neg (by decide)] at HN
        clear hk
        go_wp2_with fail
        refine ⟨⟨j + 1, by omega, by simp, by rw [HN.out], trivial⟩, ?_⟩
        simp only [intOf]
        omega
      · rw [hk, if_pos (show (some l).isSome = true from rfl)] at HN
        clear hk
        go_wp2_with fail
        refine ⟨⟨j + 1, by omega, by simp, by rw [HN.out], trivial⟩, ?_⟩
        simp only [intOf]
        omega
    · obtain rfl : j = 17 := by omega
      clear HH
      go_wp2_with fail
      go_ret
      exact ⟨rfl, rfl⟩
theorem rLearn_range (w : World) (rp tv : Value) (i : Int) (h : ¬ (1 ≤ i ∧ i ≤ 16)) : Calls Tryz.prog 16 #[rp, .int .i64 i, tv] w fun e w' => e = .returned (.int .i64 12) ∧ w' = w := by
  by_cases h1 : i < 1
  · clear h
    go_enter Tryz.func16, Tryz.ntmps16
    go_wp2_with fail
    go_ret
    exact ⟨rfl, rfl⟩
  · have h2 : 16 < i := by omega
    clear h
    go_enter Tryz.func16, Tryz.ntmps16
    go_wp2_with fail
    go_ret
    exact ⟨rfl, rfl⟩
theorem rLearn_size (w : World) (rp : Value) (i : Int) (h : 1 ≤ i ∧ i ≤ 16) (q : Option Addr) (n c : Nat) (hn : n ≠ 32) : Calls Tryz.prog 16 #[rp, .int .i64 i, .slice q n c] w fun e w' => e = .returned (.int .i64 11) ∧ w' = w := by
  have h1 : ((n : Int) == 32) = false := by rw [beq_eq_false_iff_ne]; omega
  have h2 : ¬ (n : Int) = 32 := by omega
  have h3 : ¬ i < 1 := by omega
  have h4 : ¬ 16 < i := by omega
  clear h hn
  go_enter Tryz.func16, Tryz.ntmps16
  go_wp2_with fail
  go_ret
  exact ⟨rfl, rfl⟩
set_option maxHeartbeats 1000000 in
theorem rLearn_twice (h : RgD B w r xs ks) (j : Nat) (hj : 1 ≤ j ∧ j ≤ 16) {l : List Nat} (hk : ks j = some l) (q : Option Addr) (c : Nat) : Calls Tryz.prog 16 #[.pointer (some ⟨r, 0, none⟩), .int .i64 (j : Int), .slice q 32 c] w fun e w' => e = .returned (.int .i64 31) ∧ w' = w := by
  obtain ⟨_, ad, c', hx, _⟩ := h.yes j l (by omega) hk
  have hc : w.cell? ⟨r, j, none⟩ = some (.slice (some ad) 32 c') := (h.cell j).trans hx
  have h3 : ¬ (j : Int) < 1 := by omega
  have h4 : ¬ 16 < (j : Int) := by omega
  have h5 : (0 : Int) ≤ (j : Int) := by omega
  have h6 : (j : Int) < 17 := by omega
  clear h hk hj hx
  go_enter Tryz.func16, Tryz.ntmps16
  go_wp2_with fail
  go_ret
  exact ⟨rfl, rfl⟩
set_option maxHeartbeats 1000000 in
theorem rLearn_ok (h : RgD B w r xs ks) (j : Nat) (hj : 1 ≤ j ∧ j ≤ 16) (hk : ks j = none) (ad : Addr) (c : Nat) (l : List Nat) (hl : By B w (.slice (some ad) 32 c) l) (hll : l.length = 32) (hB : B ≤ w.heap.size) : Calls Tryz.prog 16 #[.pointer (some ⟨r, 0, none⟩), .int .i64 (j : Int), .slice (some ad) 32 c] w fun e w' => e = .returned (.int .i64 0) ∧ (∃ xs', RgD B w' r xs' (lrn ks j l)) ∧ Kx [some 51] B w w' := by
  have hc : w.cell? ⟨r, j, none⟩ = some (.slice none 0 0) := (h.cell j).trans (h.no j (by omega) hk)
  have hf : w.frozen? ⟨r, j, none⟩ = false := h.froz j
  obtain ⟨k1, k2, _⟩ := h.put (j := j) (by omega) hll hl hB
  have HZ : Hid ((∃ xs', RgD B (w.setCell ⟨r, j, none⟩ (.slice (some ad) 32 c)) r xs' (lrn ks j l)) ∧ Kx [some 51] B w (w.setCell ⟨r, j, none⟩ (.slice (some ad) 32 c))) := ⟨⟨_, k1⟩, k2⟩
  have h3 : ¬ (j : Int) < 1 := by omega
  have h4 : ¬ 16 < (j : Int) := by omega
  have h5 : (0 : Int) ≤ (j : Int) := by omega
  have h6 : (j : Int) < 17 := by omega
  clear h hk hj hl hll hB k1 k2
  go_enter Tryz.func16, Tryz.ntmps16
  go_wp2_with fail
  go_ret
  exact ⟨rfl, HZ.out⟩
end
set_option maxHeartbeats 1000000 in
theorem rNew_any {B d : Nat} {L : List Su.Thing} {w : World} {kv : Value} {k : List Nat} (h : Doc B w d L) (hL : L.length < 900000) (hB : B ≤ w.heap.size) (hk : By B w kv k) :
    Calls Tryz.prog 7 #[.pointer (some ⟨d, 0, none⟩), kv] w fun e w' => ∃ r xs, e = .returned (.pointer (some ⟨r, 0, none⟩)) ∧ RgD B w' r xs (lrn (fun _ => none) 0 (mk L k epoB 0)) ∧ Doc B w' d (adk L k epoB 0) ∧ Kx (some 51 :: TD) B w w' := by
  have HK : Hid (∀ n, Calls Tryz.prog 10 #[.pointer (some ⟨d, 0, none⟩), kv, .string ⟨#[101, 112, 111, 99, 104]⟩, .int .i64 0] ((w.alloc (.cells nil17.toArray 51)).drewN n) fun e w1 => ∃ ad cc, e = .returned (.slice (some ad) 32 cc) ∧ w1.cell? ⟨w.heap.size, 0, none⟩ = some (.slice none 0 0) ∧ w1.frozen? ⟨w.heap.size, 0, none⟩ = false ∧ (∃ xs', RgD B (w1.setCell ⟨w.heap.size, 0, none⟩ (.slice (some ad) 32 cc)) w.heap.size xs' (lrn (fun _ => none) 0 (mk L k epoB 0))) ∧ Doc B (w1.setCell ⟨w.heap.size, 0, none⟩ (.slice (some ad) 32 cc)) d (adk L k epoB 0) ∧ Kx (some 51 :: TD) B w (w1.setCell ⟨w.heap.size, 0, none⟩ (.slice (some ad) 32 cc))) := fun n => by
    have hb0 : Below w.heap.size w ((w.alloc (.cells nil17.toArray 51)).drewN n) := (below_alloc' w _).trans (below_drewN n _ _)
    have hr0 : RgD B ((w.alloc (.cells nil17.toArray 51)).drewN n) w.heap.size nil17 (fun _ => none) := ⟨hB, heap_alloc_new w _, rfl, fun i hi _ => by unfold nil17; rw [List.getElem?_replicate, if_pos hi], fun i m _ hm => by cases hm⟩
    rw [epoS]
    refine (rDerived_any (h.below hb0) (by omega) (Nat.le_trans hB hb0.size) (hk.below hb0) epoB epo_ok.1 epo_ok.2 0 (by omega)).mono ?_
    rintro e w1 ⟨u, rfl, ho, hi, hf⟩
    obtain ⟨gg, cc, rfl, _⟩ := own_cell ho (by decide)
    have h1 := hr0.kx hf (by decide) (by decide)
    have hB1 : B ≤ w1.heap.size := Nat.le_trans hB (Nat.le_trans hb0.size hf.low.size)
    obtain ⟨k1, k2, k3⟩ := h1.put (j := 0) (by omega) (mk_length _ _ _ _) (By.own (B := B) (mk_small _ _ _ _) ho) hB1
    refine ⟨_, cc, rfl, (h1.cell 0).trans (h1.no 0 (by omega) rfl), h1.froz 0, ⟨_, k1⟩, hi.kx k2 (by decide) (by decide) (by decide), ?_⟩
    exact (((Kx.of_below hb0 hB).trans hf).mono (fun t ht => List.mem_cons_of_mem _ ht)).trans (k2.mono (fun t ht => by rw [List.mem_singleton.1 ht]; exact List.mem_cons_self))
  clear hB hk h hL
  have HNL : Hid (nil17.toArray = #[.slice none 0 0, .slice none 0 0, .slice none 0 0, .slice none 0 0, .slice none 0 0, .slice none 0 0, .slice none 0 0, .slice none 0 0, .slice none 0 0, .slice none 0 0, .slice none 0 0, .slice none 0 0, .slice none 0 0, .slice none 0 0, .slice none 0 0, .slice none 0 0, .slice none 0 0]) := rfl
  rw [HNL.out] at HK
  clear HNL
  go_enter Tryz.func7, Tryz.ntmps7
  go_wp2_with fail
  go_region_with ((go_at_call 10; refine (HK.out 1).mono ?_; rintro e w1 ⟨ad, cc, rfl, e1, e2, e3, e4, e6⟩; have HZ : Hid ((∃ xs', RgD B (w1.setCell ⟨w.heap.size, 0, none⟩ (.slice (some ad) 32 cc)) w.heap.size xs' (lrn (fun _ => none) 0 (mk L k epoB 0))) ∧ Doc B (w1.setCell ⟨w.heap.size, 0, none⟩ (.slice (some ad) 32 cc)) d (adk L k epoB 0) ∧ Kx (some 51 :: TD) B w (w1.setCell ⟨w.heap.size, 0, none⟩ (.slice (some ad) 32 cc))) := ⟨e3, e4, e6⟩; clear e3 e4 e6))
  all_goals
    go_wp2_with fail
    go_ret
    obtain ⟨xs', hx⟩ := HZ.out.1
    exact ⟨_, xs', rfl, hx, HZ.out.2⟩
end Go.Proofs.YtagdlpodpokmmaaGreatDoor.S7
