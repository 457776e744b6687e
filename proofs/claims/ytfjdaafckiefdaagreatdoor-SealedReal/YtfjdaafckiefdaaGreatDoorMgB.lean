/- Rows of one's own: made, set, kept; the contract of Clone. -/
import Derived.Test.YtfjdaafckiefdaaGreatDoorMgF
import Derived.Test.YtfjdaafckiefdaaGreatDoorMgC
import Derived.Lib.SmallJoins
import Derived.Laws.CopyOwn
namespace Go.Proofs.YtfjdaafckiefdaaGreatDoor.C8
open Go.RowKit
/-- A row of one's own whose bytes are turned. -/
def OwnB (w : World) (base n : Nat) (v : Value) : Prop := ∃ L : List Nat, (∀ x ∈ L, x < 256) ∧ w.ownsRow base 5 1 v n (ints .u8 L)
theorem OwnB.set {w : World} {base g n c i y : Nat} (h : OwnB w base n (.slice (some ⟨g, 0, none⟩) n c)) (hy : y < 256) : OwnB (w.setCell ⟨g, i, none⟩ (.int .u8 (y : Nat))) base n (.slice (some ⟨g, 0, none⟩) n c) := by
  obtain ⟨L, hL, ho⟩ := h
  obtain ⟨h1, ⟨e, _⟩ | ⟨g', cap, cur, e, hb, hh, hn, hm, hs, ht⟩⟩ := ho
  · cases e
  · cases e
    have hset := heap_setCell_same w g i cur 5 (.int .u8 (y : Nat)) hh
    refine ⟨L.set i y, fun x hx => ?_, by simpa [ints] using h1, .inr ⟨g, c, cur.setIfInBounds i (.int .u8 (y : Nat)), rfl, hb, hset, hn, hm, by simpa using hs, ?_⟩⟩
    · rcases List.mem_or_eq_of_mem_set hx with h | h
      · exact hL x h
      · rw [h]; exact hy
    · rw [Array.toList_setIfInBounds, List.take_set, ht]
      simp [ints]
theorem OwnB.at {w : World} {base n : Nat} {v : Value} (h : OwnB w base n v) (i : Nat) (hi : i < n) : ∃ g c a, v = .slice (some ⟨g, 0, none⟩) n c ∧ g < w.heap.size ∧ a < 256 ∧ w.cell? ⟨g, i, none⟩ = some (.int .u8 (a : Nat)) ∧ w.frozen? ⟨g, i, none⟩ = false := by
  obtain ⟨L, hL, ho⟩ := h
  have hl : L.length = n := by have := ho.1; rw [ints_length] at this; omega
  obtain ⟨g, c, rfl, _, hg, _, hr⟩ := own_cell ho (by omega)
  have := hr i _ (ints_get .u8 L i (by omega))
  rw [Nat.zero_add] at this
  refine ⟨g, c, Sp.nth L i, rfl, hg, Sp.nth_lt (by decide) hL i, this, ?_⟩
  obtain ⟨_, ⟨e, _⟩ | ⟨g', cap, cur, e, _, hh, _⟩⟩ := ho
  · cases e
  · cases e
    exact frozen_of_row _ _ _ _ _ hh
theorem OwnB.slice {w : World} {base n : Nat} {v : Value} (h : OwnB w base n v) : ∃ q c, v = .slice q n c := by
  obtain ⟨L, _, ho⟩ := h
  exact own_slice ho
theorem OwnB.lt {w : World} {base n : Nat} {v : Value} (h : OwnB w base n v) : ∀ b, v.ownBlock = some b → base ≤ b ∧ b < w.heap.size := by
  obtain ⟨L, _, ho⟩ := h
  exact fun b hb => ho.lt b hb
theorem OwnB.kept {w w' : World} {base n : Nat} {v : Value} {row : Option Nat} (h : OwnB w base n v) (hg : w.grownBy w' row) (hr : ∀ b, v.ownBlock = some b → row ≠ some b) : OwnB w' base n v := by
  obtain ⟨L, hL, ho⟩ := h
  exact ⟨L, hL, own_only (bs := row.toList) ho (Only.of_grown hg (fun x hx => by rw [hx]; simp)) (fun b hb hm => by simp only [Option.mem_toList] at hm; exact hr b hb hm)⟩
theorem clone_any {l : List Nat} (v : Value) (w : World) (hv : Src w v l) (hl : l.length ≤ 50000) :
    Calls Tryz.prog 90 #[v] w fun e w' => ∃ u, e = .returned u ∧ w'.ownsRow w.heap.size 5 1 u l.length (ints .u8 l) ∧ Below w.heap.size w w' := by
  have HV : Hid (Src w v l) := hv
  have HL : Hid (l.length ≤ 50000) := hl
  have key : ∀ ad n c, v = .slice (some ad) n c → Calls Tryz.prog 90 #[v] w fun e w' => ∃ u, e = .returned u ∧ w'.ownsRow w.heap.size 5 1 u l.length (ints .u8 l) ∧ Below w.heap.size w w' := by
    intro ad n c e
    subst e
    clear hv hl
    have hnil : (binOp .eql 22 (.slice (some ad) n c) (.slice none 0 0)).run Tryz.prog w = .ok (.bool false) w := Lib.run_eql_slice_nil w 22 5 (some ad) n c 0 0 Tryz.underlying22
    go_enter Tryz.func90, Tryz.ntmps90
    go_wp2_with (first | with_reducible (refine stop_builtin .append ?_))
    refine Stop.go ?_
    have hb5 : Below w.heap.size w (w.alloc (.cells #[] 5)) := (Below.refl _ _).alloc (Nat.le_refl _) _
    have he : (w.alloc (.cells #[] 5)).ownsRow w.heap.size 5 1 (.slice (some ⟨w.heap.size, 0, none⟩) 0 0) 0 (ints .u8 []) :=
      ⟨rfl, .inr ⟨w.heap.size, 0, #[], rfl, Nat.le_refl _, heap_alloc_new w _, Nat.le_refl _, by unfold maxLen; decide, rfl, rfl⟩⟩
    refine law_append_src w.heap.size _ 0 [] _ l rfl rfl he (HV.out.below hb5) (by have := HL.out; omega) (by simp) ?_
    intro u w1 ho hg
    have HB : Hid (Below w.heap.size w w1) := hb5.trans (below_append he hg (by simp))
    have HO : Hid (w1.ownsRow w.heap.size 5 1 u (0 + l.length) (ints .u8 ([] ++ l))) := ho
    clear ho hg hb5 he
    go_wp2_with fail
    go_ret
    exact ⟨_, rfl, by have := HO.out; rw [Nat.zero_add] at this; exact this, HB.out⟩
  rcases hv.2 with ⟨rfl, rfl⟩ | ⟨ad, c, rfl, rfl⟩ | ⟨b, o, c, rfl, _⟩
  · clear key hv hl
    have hnil : (binOp .eql 22 (.slice none 0 0) (.slice none 0 0)).run Tryz.prog w = .ok (.bool true) w := Lib.run_eql_slice_nil w 22 5 none 0 0 0 0 Tryz.underlying22
    go_enter Tryz.func90, Tryz.ntmps90
    go_wp2_with fail
    go_ret
    exact ⟨_, rfl, own_none _ _ _ _, Below.refl _ _⟩
  · exact key _ _ _ rfl
  · exact key _ _ _ rfl
end Go.Proofs.YtfjdaafckiefdaaGreatDoor.C8
/- The plain mathematics of buckets. -/
namespace Go.Proofs.YtfjdaafckiefdaaGreatDoor.C8
open Sp (nth)
/-- The bucket of a text of so many bytes; 0: there is none. -/
def bsz (n : Nat) : Nat := if n ≤ 62 then 64 else if n ≤ 126 then 128 else if n ≤ 254 then 256 else if n ≤ 510 then 512 else if n ≤ 1022 then 1024 else if n ≤ 2046 then 2048 else 0
theorem bsz_le {n : Nat} (h : n ≤ 2046) : n + 2 ≤ bsz n ∧ bsz n ≤ 2048 ∧ 64 ≤ bsz n ∧ bsz n < 2 * n + 66 := by
  unfold bsz
  repeat' split
  all_goals omega
theorem bsz_none {n : Nat} (h : 2046 < n) : bsz n = 0 := by
  unfold bsz
  repeat' split
  all_goals omega
/-- A bucket that is being looked for. -/
def BAt (n s : Nat) : Prop := (s = 64) ∨ (s = 128 ∧ 62 < n) ∨ (s = 256 ∧ 126 < n) ∨ (s = 512 ∧ 254 < n) ∨ (s = 1024 ∧ 510 < n) ∨ (s = 2048 ∧ 1022 < n)
theorem BAt.end {n s : Nat} (h : BAt n s) (hn : n + 2 ≤ s) : s = bsz n := by
  unfold BAt at h
  unfold bsz
  repeat' split
  all_goals omega
theorem BAt.next {n s : Nat} (h : BAt n s) (hm : n ≤ 2046) (hn : s < n + 2) : BAt n (s * 2) := by
  unfold BAt at *
  omega
theorem BAt.le {n s : Nat} (h : BAt n s) : 64 ≤ s ∧ s ≤ 2048 := by
  unfold BAt at h
  omega
/-- A text in its bucket. -/
def padL (l : List Nat) : List Nat := l.length / 256 :: l.length % 256 :: (l ++ List.replicate (bsz l.length - 2 - l.length) 0)
theorem padL_length {l : List Nat} (h : l.length ≤ 2046) : (padL l).length = bsz l.length := by
  have := bsz_le h
  simp [padL]
  omega
theorem padL_lt {l : List Nat} (h : l.length ≤ 2046) (hs : ∀ x ∈ l, x < 256) : ∀ x ∈ padL l, x < 256 := fun x hx => by
  simp only [padL, List.mem_cons, List.mem_append, List.mem_replicate] at hx
  rcases hx with rfl | rfl | h1 | ⟨_, rfl⟩
  · omega
  · omega
  · exact hs x h1
  · omega
/-- What the first two bytes tell. -/
def cnt (b : List Nat) : Nat := nth b 0 * 256 + nth b 1
theorem cnt_pad (l : List Nat) : cnt (padL l) = l.length := by
  simp [cnt, padL, nth]
  omega
/-- The text that the bytes tell, whether or not they are right. -/
def txtL (b : List Nat) : List Nat := (b.drop 2).take (cnt b)
def tailL (b : List Nat) : List Nat := b.drop (2 + cnt b)
def Right (b : List Nat) : Prop := 2 ≤ b.length ∧ bsz (cnt b) = b.length ∧ ∀ x ∈ tailL b, x = 0
theorem txt_pad (l : List Nat) : txtL (padL l) = l := by
  unfold txtL
  rw [cnt_pad]
  simp [padL]
theorem right_pad {l : List Nat} (h : l.length ≤ 2046) : Right (padL l) := by
  have := bsz_le h
  refine ⟨by rw [padL_length h]; omega, by rw [cnt_pad, padL_length h], fun x hx => ?_⟩
  unfold tailL at hx
  rw [cnt_pad] at hx
  have e : (padL l).drop (2 + l.length) = List.replicate (bsz l.length - 2 - l.length) 0 := by
    rw [Nat.add_comm]
    simp [padL]
  rw [e] at hx
  exact (List.mem_replicate.1 hx).2
theorem right_cnt {b : List Nat} (h : Right b) : cnt b ≤ 2046 ∧ cnt b + 2 ≤ b.length ∧ 64 ≤ b.length ∧ b.length ≤ 2048 := by
  obtain ⟨h1, h2, _⟩ := h
  by_cases hc : cnt b ≤ 2046
  · have := bsz_le hc
    omega
  · rw [bsz_none (by omega)] at h2
    omega
end Go.Proofs.YtfjdaafckiefdaaGreatDoor.C8
/- The contracts of Size, of the document's Size, and of noughts. -/
namespace Go.Proofs.YtfjdaafckiefdaaGreatDoor.C8
open Go.RowKit
theorem Size_bad (i : Int) (w : World) (h : i < 0 ∨ 2046 < i) : Calls Tryz.prog 104 #[.int .i64 i] w fun e w' => e = .returned (.tuple #[.int .i64 0, .int .i64 11]) ∧ w' = w := by
  by_cases h0 : i < 0
  · clear h
    go_enter Tryz.func104, Tryz.ntmps104
    go_wp2_with fail
    refine wp_scope_jumps 0 (fun _ _ => False) (fun _ _ => 0) rfl ?_ (fun _ _ h => h.elim)
    go_wp2_with fail
    simp only [Exit.jump]
    go_ret2
    exact ⟨rfl, rfl⟩
  · have h1 : 2046 < i := by omega
    clear h
    go_enter Tryz.func104, Tryz.ntmps104
    go_wp2_with fail
    refine wp_scope_jumps 0 (fun _ _ => False) (fun _ _ => 0) rfl ?_ (fun _ _ h => h.elim)
    go_wp2_with fail
    simp only [Exit.jump]
    go_ret2
    exact ⟨rfl, rfl⟩
def sizeJ (n : Nat) (w : World) (a' : Act) (w' : World) : Prop :=
  ∃ (s : Nat) (u1 u2 u3 : Value) (l : List Value), BAt n s ∧ 64 < s ∧ w' = w ∧ l.length = 13 ∧ a' = { tmps := (.int .i64 n :: u1 :: u2 :: u3 :: .int .i64 s :: l).toArray, defers := [] }
def sizeMu (a' : Act) (_ : World) : Nat := 4096 - (intOf (a'.tmps.getD 4 undef)).toNat
set_option maxHeartbeats 1000000 in
theorem Size_ok (n : Nat) (w : World) (h : n ≤ 2046) : Calls Tryz.prog 104 #[.int .i64 n] w fun e w' => e = .returned (.tuple #[.int .i64 (bsz n : Nat), .int .i64 0]) ∧ w' = w := by
  obtain ⟨R, hR⟩ : ∃ R, bsz n = R := ⟨_, rfl⟩
  rw [hR]
  have HR : Hid (∀ s, BAt n s → n + 2 ≤ s → s = R) := fun s h1 h2 => hR ▸ h1.end h2
  clear hR
  have n0 : (0 : Int) ≤ (n : Int) := by omega
  have n1 : (n : Int) ≤ 2046 := by omega
  have HN : Hid (n ≤ 2046) := h
  clear h
  go_enter Tryz.func104, Tryz.ntmps104
  go_wp2_with fail
  refine wp_scope_jumps 0 (sizeJ n w) sizeMu rfl ?_ ?_
  · go_wp2_with fail
    go_step3
    by_cases h1 : 64 < 2 + n
    · have h2 : (64 : Int) < 2 + (n : Int) := by omega
      go_wp2_with fail
      go_step3
      refine ⟨rfl, 128, _, _, _, _, ?_, by omega, rfl, rfl, rfl⟩
      exact .inr (.inl ⟨rfl, by omega⟩)
    · have h2 : ¬ (64 : Int) < 2 + (n : Int) := by omega
      go_wp2_with fail
      simp only [Exit.jump]
      go_ret2
      have := HR.out 64 (.inl rfl) (by omega)
      exact ⟨by rw [← this]; rfl, rfl⟩
  · rintro a' w' ⟨s, u1, u2, u3, l0, hb, hs, rfl, h0, rfl⟩
    obtain ⟨x1, l1, rfl, h1⟩ := cons_of l0 h0
    obtain ⟨x2, l2, rfl, h2⟩ := cons_of l1 h1
    obtain ⟨x3, l3, rfl, h3⟩ := cons_of l2 h2
    obtain ⟨x4, l4, rfl, h4⟩ := cons_of l3 h3
    obtain ⟨x5, l5, rfl, h5⟩ := cons_of l4 h4
    obtain ⟨x6, l6, rfl, h6⟩ := cons_of l5 h5
    obtain ⟨x7, l7, rfl, h7⟩ := cons_of l6 h6
    obtain ⟨x8, l8, rfl, h8⟩ := cons_of l7 h7
    obtain ⟨x9, l9, rfl, h9⟩ := cons_of l8 h8
    obtain ⟨x10, l10, rfl, h10⟩ := cons_of l9 h9
    obtain ⟨x11, l11, rfl, h11⟩ := cons_of l10 h10
    obtain ⟨x12, l12, rfl, h12⟩ := cons_of l11 h11
    obtain ⟨x13, l13, rfl, h13⟩ := cons_of l12 h12
    obtain rfl := List.eq_nil_of_length_eq_zero h13
    clear h0 h1 h2 h3 h4 h5 h6 h7 h8 h9 h10 h11 h12 h13
    have HB : Hid (BAt n s) := hb
    have hle := hb.le
    have s1 : (64 : Int) ≤ (s : Int) := by omega
    have s2 : (s : Int) ≤ 2048 := by omega
    have HM : Hid (sizeMu { tmps := (.int .i64 n :: u1 :: u2 :: u3 :: .int .i64 s :: [x1, x2, x3, x4, x5, x6, x7, x8, x9, x10, x11, x12, x13]).toArray, defers := [] } w' = 4096 - s) := by
      show 4096 - (intOf (Value.int .i64 s)).toNat = _
      simp [intOf]
    rw [HM.out]
    have HS : Hid (64 < s ∧ s ≤ 2048) := ⟨hs, hle.2⟩
    clear HM hb hle hs
    by_cases h1 : s < 2 + n
    · have h2 : (s : Int) < 2 + (n : Int) := by omega
      go_wp2_with fail
      go_step3
      have e2 : (s : Int) * 2 = ((s * 2 : Nat) : Int) := by omega
      rw [e2]
      refine ⟨rfl, ⟨s * 2, u1, u2, u3, [x1, x2, x3, x4, x5, x6, .int .i64 (s : Int), .int .i64 (n : Int), .int .i64 (2 + (n : Int)), .bool true, .int .i64 (s : Int), .int .i64 ((s * 2 : Nat) : Int), x13], HB.out.next HN.out (by omega), by have := HS.out; omega, rfl, rfl, rfl⟩, ?_⟩
      · show 4096 - (intOf (Value.int .i64 ((s * 2 : Nat) : Int))).toNat < _
        have := HS.out
        simp [intOf]
        omega
    · have h2 : ¬ (s : Int) < 2 + (n : Int) := by omega
      go_wp2_with fail
      simp only [Exit.jump]
      go_ret2
      have := HR.out s HB.out (by omega)
      exact ⟨by rw [← this]; rfl, rfl⟩
/-- Are all of them noughts? -/
def allN (l : List Nat) : Bool := l.all (fun x => x == 0)
theorem allN_iff {l : List Nat} : allN l = true ↔ ∀ x ∈ l, x = 0 := by simp [allN]
def nought (l : List Nat) (k : Nat) : Prop := ∀ i, i < k → Sp.nth l i = 0
theorem Src.get {w : World} {v : Value} {l : List Nat} (h : Src w v l) (i : Nat) (hi : i < l.length) : ∃ b o c, v = .slice (some ⟨b, o, none⟩) l.length c ∧ w.cell? ⟨b, o + i, none⟩ = some (.int .u8 (Sp.nth l i : Nat)) := by
  obtain ⟨_, ⟨rfl, rfl⟩ | ⟨ad, c, rfl, rfl⟩ | ⟨b, o, c, rfl, hc, hr⟩⟩ := h
  · simp at hi
  · simp at hi
  · exact ⟨b, o, c, rfl, hr i _ (ints_get .u8 l i hi)⟩
set_option maxHeartbeats 1000000 in
theorem noughts_any {l : List Nat} (v : Value) (w : World) (hv : Src w v l) (hl : l.length ≤ 100000) :
    Calls Tryz.prog 130 #[v] w fun e w' => e = .returned (.bool (allN l)) ∧ w' = w := by
  obtain ⟨R, hR⟩ : ∃ R, allN l = R := ⟨_, rfl⟩
  rw [hR]
  have HT : Hid (nought l l.length → R = true) := fun h => by
    rw [← hR, allN_iff]
    intro x hx
    obtain ⟨i, hi, rfl⟩ := List.mem_iff_getElem.1 hx
    have := h i hi
    simpa [Sp.nth, hi] using this
  have HF : Hid (∀ i, i < l.length → Sp.nth l i ≠ 0 → R = false) := fun i hi h => by
    rw [← hR, Bool.eq_false_iff, Ne, allN_iff]
    intro h2
    apply h
    simp only [Sp.nth, List.getD_eq_getElem?_getD, List.getElem?_eq_getElem hi, Option.getD_some]
    exact h2 _ (List.getElem_mem hi)
  obtain ⟨p, c, rfl, -⟩ := hv.slice
  have HV : Hid (∀ i, i < l.length → ∃ b o, p = some ⟨b, o, none⟩ ∧ w.cell? ⟨b, o + i, none⟩ = some (.int .u8 (Sp.nth l i : Nat))) := fun i hi => by
    obtain ⟨b, o, c', e, h⟩ := hv.get i hi
    cases e
    exact ⟨b, o, rfl, h⟩
  have HS : Hid (∀ i, Sp.nth l i < 256) := fun i => Sp.nth_lt (by decide) hv.small i
  obtain ⟨n, HN⟩ : ∃ n, Hid (l.length = n) := ⟨_, rfl⟩
  rw [HN.out] at HT HF HV hl ⊢
  have n1 : (n : Int) ≤ 100000 := by omega
  clear hv hl hR
  go_enter Tryz.func130, Tryz.ntmps130
  go_wp2_with fail
  go_loopw [7] (fun i wr => ∃ j : Nat, j ≤ n ∧ i = .int .i64 j ∧ Hid (nought l j) ∧ wr = w) (fun i _ => n - (intOf i).toNat)
  case atStart => exact ⟨0, by omega, rfl, fun i hi => by omega, rfl⟩
  case round =>
    obtain ⟨j, hj, rfl, HO, rfl⟩ := hrel
    by_cases hlt : j < n
    · obtain ⟨b, o, rfl, hc⟩ := HV.out j hlt
      have hx := HS.out j
      obtain ⟨x, HX⟩ : ∃ x, Hid (Sp.nth l j = x) := ⟨_, rfl⟩
      rw [HX.out] at hc hx
      have j1 : (j : Int) < (n : Int) := by omega
      have j0 : (0 : Int) ≤ (j : Int) := by omega
      by_cases hz : x = 0
      · subst hz
        have HO2 : Hid (nought l (j + 1)) := fun i hi => by
          by_cases h : i < j
          · exact HO.out i h
          · rw [show i = j by omega]; exact HX.out
        clear HO HX
        go_wp2_with fail
        go_roundw
        case rel => exact ⟨j + 1, by omega, by go_num, HO2.out, trivial⟩
        case measure => simp [intOf]; omega
      · have hz2 : ¬ (x : Int) = 0 := by omega
        have := HF.out j hlt (by rw [HX.out]; exact hz)
        subst this
        clear HO HX
        go_wp2_with fail
        go_ret
        exact ⟨rfl, rfl⟩
    · obtain rfl : j = n := by omega
      have := HT.out HO.out
      subst this
      have j1 : ¬ (j : Int) < (j : Int) := by omega
      clear HO
      go_wp2_with fail
      go_ret
      exact ⟨rfl, rfl⟩
end Go.Proofs.YtfjdaafckiefdaaGreatDoor.C8
/- The contract of Strip. -/
namespace Go.Proofs.YtfjdaafckiefdaaGreatDoor.C8
open Go.RowKit
theorem or_cnt {y0 y1 : Nat} (h0 : y0 < 256) (h1 : y1 < 256) : bits .or .i64 ((y0 : Int) * 256) (y1 : Int) = ((y0 * 256 + y1 : Nat) : Int) := by
  have h := i64_or_nat (y0 * 256) y1 (by omega) (by omega)
  have e : ((y0 * 256 : Nat) : Int) = (y0 : Int) * 256 := by omega
  rw [e] at h
  rw [h, Nat.mul_comm y0 256]
  have := Nat.two_pow_add_eq_or_of_lt (i := 8) (b := y1) (by omega) y0
  rw [show (256 : Nat) = 2 ^ 8 from rfl, ← this]
section
variable {w w' : World} {b o n c : Nat} {l : List Nat}
theorem Src.tail {k : Nat} (h : Src w (.slice (some ⟨b, o, none⟩) n c) l) (hl : l.length = n) (hk : k ≤ n) : Src w (.slice (some ⟨b, o + k, none⟩) (n - k) (c - k)) (l.drop k) := by
  subst hl
  refine ⟨fun x hx => h.1 x (List.mem_of_mem_drop hx), ?_⟩
  obtain ⟨_, ⟨e, _⟩ | ⟨ad, c', e, rfl⟩ | ⟨b', o', c', e, hc, hr⟩⟩ := h
  · cases e
  · exact .inr (.inl ⟨⟨b, o + k, none⟩, c - k, by simp, by simp⟩)
  · cases e
    refine .inr (.inr ⟨b, o + k, c - k, by simp, by simp; omega, fun j v hv => ?_⟩)
    have hv2 : (ints .u8 l)[k + j]? = some v := by
      rw [← hv]
      simp [ints]
    have := hr _ _ hv2
    rw [← Nat.add_assoc] at this
    exact this
theorem Src.nothing {k : Nat} (h : ∀ x ∈ l, x < 256) (hl : l.length = n) (hk : n = k) (ad : Addr) (cc : Nat) : Src w (.slice (some ad) 0 cc) (l.drop k) :=
  ⟨fun x hx => h x (List.mem_of_mem_drop hx), .inr (.inl ⟨ad, cc, rfl, List.drop_eq_nil_of_le (by omega)⟩)⟩
theorem Src.mid {k m cc : Nat} (h : Src w (.slice (some ⟨b, o, none⟩) n c) l) (hl : l.length = n) (hk : k + m ≤ n) (hcc : m ≤ cc) : Src w (.slice (some ⟨b, o + k, none⟩) m cc) ((l.drop k).take m) := by
  have ht := h.tail hl (show k ≤ n by omega)
  have e1 : ((l.drop k).take m).length = m := by simp; omega
  refine ⟨fun x hx => ht.1 x (List.mem_of_mem_take hx), ?_⟩
  obtain ⟨_, ⟨e, _⟩ | ⟨ad, c', e, e2⟩ | ⟨b', o', c', e, hc, hr⟩⟩ := ht
  · cases e
  · have : m = 0 := by rw [← e1, e2]; simp
    exact .inr (.inl ⟨⟨b, o + k, none⟩, cc, by rw [this], by rw [e2]; simp⟩)
  · simp at e
    obtain ⟨⟨rfl, rfl⟩, -, rfl⟩ := e
    refine .inr (.inr ⟨b, o + k, cc, by rw [e1], by rw [e1]; exact hcc, fun j v hv => hr j v ?_⟩)
    rw [← hv]
    have hj : j < m := by
      have := (List.getElem?_eq_some_iff.1 hv).1
      rw [ints_length, e1] at this
      exact this
    simp [ints, hj]
end
theorem Strip_short {l : List Nat} (v : Value) (w : World) (hv : Src w v l) (hl : l.length < 2) : Calls Tryz.prog 110 #[v] w fun e w' => e = .returned (.tuple #[.slice none 0 0, .int .i64 10]) ∧ Below w.heap.size w w' := by
  obtain ⟨p, c, rfl, -⟩ := hv.slice
  generalize l.length = n at *
  have n1 : (n : Int) < 2 := by omega
  clear hv hl
  go_enter Tryz.func110, Tryz.ntmps110
  go_wp2_with fail
  go_ret2
  exact ⟨rfl, Below.refl _ _⟩
set_option maxHeartbeats 1000000 in
theorem Strip_bad {l : List Nat} (v : Value) (w : World) (hv : Src w v l) (h2 : 2 ≤ l.length) (hl : l.length ≤ 50000) (hr : ¬ Right l) : Calls Tryz.prog 110 #[v] w fun e w' => e = .returned (.tuple #[.slice none 0 0, .int .i64 10]) ∧ Below w.heap.size w w' := by
  obtain ⟨b, o, c, rfl, k0⟩ := hv.get 0 (by omega)
  obtain ⟨b', o', c', e', k1⟩ := hv.get 1 (by omega)
  cases e'
  have hcap := hv.slice
  have x0 := Sp.nth_lt (by decide) hv.small 0
  have x1 := Sp.nth_lt (by decide) hv.small 1
  obtain ⟨m, HM⟩ : ∃ m, Hid (cnt l = m) := ⟨_, rfl⟩
  have HOR : bits .or .i64 ((Sp.nth l 0 : Int) * 256) (Sp.nth l 1 : Int) = (m : Int) := by
    rw [or_cnt x0 x1, ← HM.out]
    rfl
  generalize Sp.nth l 0 = y0 at *
  generalize Sp.nth l 1 = y1 at *
  obtain ⟨n, HN⟩ : ∃ n, Hid (l.length = n) := ⟨_, rfl⟩
  have HV : Hid (Src w (.slice (some ⟨b, o, none⟩) n c) l) := HN.out ▸ hv
  obtain ⟨cn1, HCN⟩ : ∃ k, Hid (k = c ∧ n ≤ c) := by
    obtain ⟨p, c', e, hle⟩ := hcap
    cases e
    exact ⟨c, rfl, by rw [← HN.out]; exact hle⟩
  rw [HN.out] at h2 hl ⊢
  have n2 : (2 : Int) ≤ (n : Int) := by omega
  have n3 : (n : Int) ≤ 50000 := by omega
  have n4 : (1 : Int) < (n : Int) := by omega
  have n5 : (0 : Int) < (n : Int) := by omega
  have n6 : 1 < n := by omega
  have n7 : 0 < n := by omega
  have n8 : ¬ (n : Int) < 2 := by omega
  rw [Nat.add_zero] at k0
  have k0' : w.drew.cell? ⟨b, o, none⟩ = some (.int .u8 (y0 : Int)) := k0
  have k1' : w.drew.cell? ⟨b, o + 1, none⟩ = some (.int .u8 (y1 : Int)) := k1
  have m0 : (0 : Int) ≤ (m : Int) := by omega
  have nc : n ≤ c := HCN.out.2
  have HR : Hid (bsz m = n → allN (l.drop (2 + m)) = false) := fun h => by
    rw [Bool.eq_false_iff, Ne, allN_iff]
    intro h3
    exact hr ⟨by rw [HN.out]; omega, by rw [HM.out, HN.out, h], by unfold tailL; rw [HM.out]; exact h3⟩
  clear hv hr h2 hcap HCN
  by_cases hm : m ≤ 2046
  · have hb := bsz_le hm
    have HC : Hid (∀ (n' : Int) (W : World), n' = (m : Int) → Calls Tryz.prog 104 #[.int .i64 n'] W fun e w' => e = .returned (.tuple #[.int .i64 (bsz m : Nat), .int .i64 0]) ∧ w' = W) := fun n' W e => e ▸ Size_ok m W hm
    generalize bsz m = s at *
    have m1 : (m : Int) ≤ 2046 := by omega
    by_cases hs : s = n
    · subst hs
      have HA : Hid (allN (l.drop (2 + m)) = false) := HR.out rfl
      have e2 : 2 + m ≤ s := by omega
      have e3 : (2 : Int) + (m : Int) ≤ (s : Int) := by omega
      have HK : Hid (∀ (ad : Addr) (k cc : Nat), (k = 0 ∧ s = 2 + m) ∨ (ad = ⟨b, o + (2 + m), none⟩ ∧ k = s - (2 + m) ∧ cc = c - (2 + m)) → Calls Tryz.prog 130 #[.slice (some ad) k cc] w.drew fun e w' => e = .returned (.bool false) ∧ w' = w.drew) := fun ad k cc h => by
        have hsr : Src w.drew (.slice (some ad) k cc) (l.drop (2 + m)) := by
          rcases h with ⟨rfl, h⟩ | ⟨rfl, rfl, rfl⟩
          · exact Src.nothing HV.out.small HN.out h ad cc
          · exact Src.tail (HV.out.below (below_drewN 1 _ _)) HN.out e2
        have := noughts_any _ w.drew hsr (by simp [HN.out]; omega)
        rwa [HA.out] at this
      clear HR HA k0 k1
      by_cases hc : c = 2 + m
      · go_enter Tryz.func110, Tryz.ntmps110
        go_wp2_with fail
        go_region
        try simp only [HOR]
        go_wp2_with fail
        refine (HC.out _ _ rfl).mono ?_
        rintro e w0 ⟨rfl, hw0⟩
        rw [hw0]
        clear hw0 w0
        go_wp2_with fail
        refine (HK.out _ _ _ (.inl ⟨by omega, by omega⟩)).mono ?_
        rintro e w0 ⟨rfl, hw0⟩
        rw [hw0]
        clear hw0 w0
        go_wp2_with fail
        go_ret2
        exact ⟨rfl, below_drewN 1 _ _⟩
      · go_enter Tryz.func110, Tryz.ntmps110
        go_wp2_with fail
        go_region
        try simp only [HOR]
        go_wp2_with fail
        refine (HC.out _ _ rfl).mono ?_
        rintro e w0 ⟨rfl, hw0⟩
        rw [hw0]
        clear hw0 w0
        go_wp2_with fail
        refine (HK.out _ _ _ (.inr ⟨rfl, rfl, rfl⟩)).mono ?_
        rintro e w0 ⟨rfl, hw0⟩
        rw [hw0]
        clear hw0 w0
        go_wp2_with fail
        go_ret2
        exact ⟨rfl, below_drewN 1 _ _⟩
    · have hs2 : ¬ (s : Int) = (n : Int) := by omega
      clear HR k0 k1
      go_enter Tryz.func110, Tryz.ntmps110
      go_wp2_with fail
      go_region
      try simp only [HOR]
      go_wp2_with fail
      refine (HC.out _ _ rfl).mono ?_
      rintro e w0 ⟨rfl, hw0⟩
      rw [hw0]
      clear hw0 w0
      go_wp2_with fail
      go_ret2
      exact ⟨rfl, below_drewN 1 _ _⟩
  · have HC : Hid (∀ (n' : Int) (W : World), n' = (m : Int) → Calls Tryz.prog 104 #[.int .i64 n'] W fun e w' => e = .returned (.tuple #[.int .i64 0, .int .i64 11]) ∧ w' = W) := fun n' W e => Size_bad n' W (.inr (by omega))
    have m1 : 2046 < (m : Int) := by omega
    clear HR k0 k1
    go_enter Tryz.func110, Tryz.ntmps110
    go_wp2_with fail
    go_region
    try simp only [HOR]
    go_wp2_with fail
    refine (HC.out _ _ rfl).mono ?_
    rintro e w0 ⟨rfl, hw0⟩
    rw [hw0]
    clear hw0 w0
    go_wp2_with fail
    go_ret2
    exact ⟨rfl, below_drewN 1 _ _⟩
set_option maxHeartbeats 1000000 in
theorem Strip_ok {l : List Nat} (v : Value) (w : World) (hv : Src w v l) (hr : Right l) : Calls Tryz.prog 110 #[v] w fun e w' => ∃ u, e = .returned (.tuple #[u, .int .i64 0]) ∧ w'.ownsRow w.heap.size 5 1 u (cnt l) (ints .u8 (txtL l)) ∧ Below w.heap.size w w' := by
  obtain ⟨q1, q2, q3, q4⟩ := right_cnt hr
  have h2 : 2 ≤ l.length := by omega
  have hl : l.length ≤ 50000 := by omega
  obtain ⟨b, o, c, rfl, k0⟩ := hv.get 0 (by omega)
  obtain ⟨b', o', c', e', k1⟩ := hv.get 1 (by omega)
  cases e'
  have hcap := hv.slice
  have x0 := Sp.nth_lt (by decide) hv.small 0
  have x1 := Sp.nth_lt (by decide) hv.small 1
  obtain ⟨m, HM⟩ : ∃ m, Hid (cnt l = m) := ⟨_, rfl⟩
  have HOR : bits .or .i64 ((Sp.nth l 0 : Int) * 256) (Sp.nth l 1 : Int) = (m : Int) := by
    rw [or_cnt x0 x1, ← HM.out]
    rfl
  generalize Sp.nth l 0 = y0 at *
  generalize Sp.nth l 1 = y1 at *
  obtain ⟨n, HN⟩ : ∃ n, Hid (l.length = n) := ⟨_, rfl⟩
  have HV : Hid (Src w (.slice (some ⟨b, o, none⟩) n c) l) := HN.out ▸ hv
  obtain ⟨cn1, HCN⟩ : ∃ k, Hid (k = c ∧ n ≤ c) := by
    obtain ⟨p, c', e, hle⟩ := hcap
    cases e
    exact ⟨c, rfl, by rw [← HN.out]; exact hle⟩
  rw [HN.out] at h2 hl ⊢
  have n2 : (2 : Int) ≤ (n : Int) := by omega
  have n3 : (n : Int) ≤ 50000 := by omega
  have n4 : (1 : Int) < (n : Int) := by omega
  have n5 : (0 : Int) < (n : Int) := by omega
  have n6 : 1 < n := by omega
  have n7 : 0 < n := by omega
  have n8 : ¬ (n : Int) < 2 := by omega
  rw [Nat.add_zero] at k0
  have k0' : w.drew.cell? ⟨b, o, none⟩ = some (.int .u8 (y0 : Int)) := k0
  have k1' : w.drew.cell? ⟨b, o + 1, none⟩ = some (.int .u8 (y1 : Int)) := k1
  have m0 : (0 : Int) ≤ (m : Int) := by omega
  have nc : n ≤ c := HCN.out.2
  have HA : Hid (allN (l.drop (2 + m)) = true) := by
    show _ = _
    rw [allN_iff]
    have := hr.2.2
    unfold tailL at this
    rw [HM.out] at this
    exact this
  have HT : Hid (txtL l = (l.drop 2).take m) := by
    show _ = _
    unfold txtL
    rw [HM.out]
  have hs : bsz m = n := by rw [← HM.out, ← HN.out]; exact hr.2.1
  rw [HM.out] at q1 q2 ⊢
  rw [HT.out]
  rw [HN.out] at q2 q3 q4
  have HC : Hid (∀ (n' : Int) (W : World), n' = (m : Int) → Calls Tryz.prog 104 #[.int .i64 n'] W fun e w' => e = .returned (.tuple #[.int .i64 (n : Int), .int .i64 0]) ∧ w' = W) := fun n' W e => by
    have := Size_ok m W q1
    rw [hs] at this
    exact e ▸ this
  clear hv hr h2 hcap HCN hs
  have m1 : (m : Int) ≤ 2046 := by omega
  have e2 : 2 + m ≤ n := by omega
  have e3 : (2 : Int) + (m : Int) ≤ (n : Int) := by omega
  have c2 : ¬ c = 2 := by omega
  have e4 : (2 : Int) ≤ 2 + (m : Int) := by omega
  have HK : Hid (∀ (ad : Addr) (k cc : Nat), (k = 0 ∧ n = 2 + m) ∨ (ad = ⟨b, o + (2 + m), none⟩ ∧ k = n - (2 + m) ∧ cc = c - (2 + m)) → Calls Tryz.prog 130 #[.slice (some ad) k cc] w.drew fun e w' => e = .returned (.bool true) ∧ w' = w.drew) := fun ad k cc h => by
    have hsr : Src w.drew (.slice (some ad) k cc) (l.drop (2 + m)) := by
      rcases h with ⟨rfl, h⟩ | ⟨rfl, rfl, rfl⟩
      · exact Src.nothing HV.out.small HN.out h ad cc
      · exact Src.tail (HV.out.below (below_drewN 1 _ _)) HN.out e2
    have := noughts_any _ w.drew hsr (by simp [HN.out]; omega)
    rwa [HA.out] at this
  have HE : Hid (((l.drop 2).take m).length = m) := by
    show _ = _
    simp [HN.out]
    omega
  have HCl : Hid (∀ k cc, k = m → m ≤ cc → Calls Tryz.prog 90 #[.slice (some ⟨b, o + 2, none⟩) k cc] w.drew fun e w' => ∃ u, e = .returned u ∧ w'.ownsRow w.heap.size 5 1 u m (ints .u8 ((l.drop 2).take m)) ∧ Below w.heap.size w.drew w') := fun k cc hk hcc => by
    rw [hk]
    have := clone_any _ w.drew (Src.mid (k := 2) (m := m) (HV.out.below (below_drewN 1 _ _)) HN.out e2 hcc) (by rw [HE.out]; omega)
    rw [HE.out] at this
    exact this
  clear k0 k1 HA
  by_cases hc : c = 2 + m
  · go_enter Tryz.func110, Tryz.ntmps110
    go_wp2_with fail
    go_region
    try simp only [HOR]
    go_wp2_with fail
    refine (HC.out _ _ rfl).mono ?_
    rintro e w0 ⟨rfl, hw0⟩
    rw [hw0]
    clear hw0 w0
    go_wp2_with fail
    refine (HK.out _ _ _ (.inl ⟨by omega, by omega⟩)).mono ?_
    rintro e w0 ⟨rfl, hw0⟩
    rw [hw0]
    clear hw0 w0
    go_wp2_with fail
    refine (HCl.out _ _ (by omega) (by omega)).mono ?_
    rintro e w5 ⟨u, rfl, ho5, hb5⟩
    have HO5 : Hid (w5.ownsRow w.heap.size 5 1 u m (ints .u8 ((l.drop 2).take m))) := ho5
    have HB5 : Hid (Below w.heap.size w.drew w5) := hb5
    clear ho5 hb5
    go_wp2_with fail
    go_ret2
    exact ⟨_, rfl, HO5.out, (below_drewN 1 w _).trans HB5.out⟩
  · go_enter Tryz.func110, Tryz.ntmps110
    go_wp2_with fail
    go_region
    try simp only [HOR]
    go_wp2_with fail
    refine (HC.out _ _ rfl).mono ?_
    rintro e w0 ⟨rfl, hw0⟩
    rw [hw0]
    clear hw0 w0
    go_wp2_with fail
    refine (HK.out _ _ _ (.inr ⟨rfl, rfl, rfl⟩)).mono ?_
    rintro e w0 ⟨rfl, hw0⟩
    rw [hw0]
    clear hw0 w0
    go_wp2_with fail
    refine (HCl.out _ _ (by omega) (by omega)).mono ?_
    rintro e w5 ⟨u, rfl, ho5, hb5⟩
    have HO5 : Hid (w5.ownsRow w.heap.size 5 1 u m (ints .u8 ((l.drop 2).take m))) := ho5
    have HB5 : Hid (Below w.heap.size w.drew w5) := hb5
    clear ho5 hb5
    go_wp2_with fail
    go_ret2
    exact ⟨_, rfl, HO5.out, (below_drewN 1 w _).trans HB5.out⟩
end Go.Proofs.YtfjdaafckiefdaaGreatDoor.C8
