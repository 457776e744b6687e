/- The walk of PolyOne. -/
import Derived.Test.YtncnckiknhhbjaaZeros
import Derived.Test.YtncnckiknhhbjaaUse2
namespace Go.Proofs.Ytncnckiknhhbjaa
open Go.RowKit
theorem frame71 {A F : Array Value} (hs : A.size = 71) (h : ∀ t, t ∉ ([5, 6, 20, 21, 22, 23, 24, 25, 26, 27, 28] : List Nat) → A.getD t undef = F.getD t undef) : A = #[F.getD 0 undef, F.getD 1 undef, F.getD 2 undef, F.getD 3 undef, F.getD 4 undef, A.getD 5 undef, A.getD 6 undef, F.getD 7 undef, F.getD 8 undef, F.getD 9 undef, F.getD 10 undef, F.getD 11 undef, F.getD 12 undef, F.getD 13 undef, F.getD 14 undef, F.getD 15 undef, F.getD 16 undef, F.getD 17 undef, F.getD 18 undef, F.getD 19 undef, A.getD 20 undef, A.getD 21 undef, A.getD 22 undef, A.getD 23 undef, A.getD 24 undef, A.getD 25 undef, A.getD 26 undef, A.getD 27 undef, A.getD 28 undef, F.getD 29 undef, F.getD 30 undef, F.getD 31 undef, F.getD 32 undef, F.getD 33 undef, F.getD 34 undef, F.getD 35 undef, F.getD 36 undef, F.getD 37 undef, F.getD 38 undef, F.getD 39 undef, F.getD 40 undef, F.getD 41 undef, F.getD 42 undef, F.getD 43 undef, F.getD 44 undef, F.getD 45 undef, F.getD 46 undef, F.getD 47 undef, F.getD 48 undef, F.getD 49 undef, F.getD 50 undef, F.getD 51 undef, F.getD 52 undef, F.getD 53 undef, F.getD 54 undef, F.getD 55 undef, F.getD 56 undef, F.getD 57 undef, F.getD 58 undef, F.getD 59 undef, F.getD 60 undef, F.getD 61 undef, F.getD 62 undef, F.getD 63 undef, F.getD 64 undef, F.getD 65 undef, F.getD 66 undef, F.getD 67 undef, F.getD 68 undef, F.getD 69 undef, F.getD 70 undef] := by
  rw [← h 0 (by decide), ← h 1 (by decide), ← h 2 (by decide), ← h 3 (by decide), ← h 4 (by decide), ← h 7 (by decide), ← h 8 (by decide), ← h 9 (by decide), ← h 10 (by decide), ← h 11 (by decide), ← h 12 (by decide), ← h 13 (by decide), ← h 14 (by decide), ← h 15 (by decide), ← h 16 (by decide), ← h 17 (by decide), ← h 18 (by decide), ← h 19 (by decide), ← h 29 (by decide), ← h 30 (by decide), ← h 31 (by decide), ← h 32 (by decide), ← h 33 (by decide), ← h 34 (by decide), ← h 35 (by decide), ← h 36 (by decide), ← h 37 (by decide), ← h 38 (by decide), ← h 39 (by decide), ← h 40 (by decide), ← h 41 (by decide), ← h 42 (by decide), ← h 43 (by decide), ← h 44 (by decide), ← h 45 (by decide), ← h 46 (by decide), ← h 47 (by decide), ← h 48 (by decide), ← h 49 (by decide), ← h 50 (by decide), ← h 51 (by decide), ← h 52 (by decide), ← h 53 (by decide), ← h 54 (by decide), ← h 55 (by decide), ← h 56 (by decide), ← h 57 (by decide), ← h 58 (by decide), ← h 59 (by decide), ← h 60 (by decide), ← h 61 (by decide), ← h 62 (by decide), ← h 63 (by decide), ← h 64 (by decide), ← h 65 (by decide), ← h 66 (by decide), ← h 67 (by decide), ← h 68 (by decide), ← h 69 (by decide), ← h 70 (by decide)]
  refine Array.ext (by simp [hs]) (fun i h1 h2 => ?_)
  have e : A[i] = A.getD i undef := by simp [h1]
  rw [e]
  rw [hs] at h1
  clear e h hs
  match i, h1 with
  | 0, _ => rfl
  | 1, _ => rfl
  | 2, _ => rfl
  | 3, _ => rfl
  | 4, _ => rfl
  | 5, _ => rfl
  | 6, _ => rfl
  | 7, _ => rfl
  | 8, _ => rfl
  | 9, _ => rfl
  | 10, _ => rfl
  | 11, _ => rfl
  | 12, _ => rfl
  | 13, _ => rfl
  | 14, _ => rfl
  | 15, _ => rfl
  | 16, _ => rfl
  | 17, _ => rfl
  | 18, _ => rfl
  | 19, _ => rfl
  | 20, _ => rfl
  | 21, _ => rfl
  | 22, _ => rfl
  | 23, _ => rfl
  | 24, _ => rfl
  | 25, _ => rfl
  | 26, _ => rfl
  | 27, _ => rfl
  | 28, _ => rfl
  | 29, _ => rfl
  | 30, _ => rfl
  | 31, _ => rfl
  | 32, _ => rfl
  | 33, _ => rfl
  | 34, _ => rfl
  | 35, _ => rfl
  | 36, _ => rfl
  | 37, _ => rfl
  | 38, _ => rfl
  | 39, _ => rfl
  | 40, _ => rfl
  | 41, _ => rfl
  | 42, _ => rfl
  | 43, _ => rfl
  | 44, _ => rfl
  | 45, _ => rfl
  | 46, _ => rfl
  | 47, _ => rfl
  | 48, _ => rfl
  | 49, _ => rfl
  | 50, _ => rfl
  | 51, _ => rfl
  | 52, _ => rfl
  | 53, _ => rfl
  | 54, _ => rfl
  | 55, _ => rfl
  | 56, _ => rfl
  | 57, _ => rfl
  | 58, _ => rfl
  | 59, _ => rfl
  | 60, _ => rfl
  | 61, _ => rfl
  | 62, _ => rfl
  | 63, _ => rfl
  | 64, _ => rfl
  | 65, _ => rfl
  | 66, _ => rfl
  | 67, _ => rfl
  | 68, _ => rfl
  | 69, _ => rfl
  | 70, _ => rfl
  | i + 71, h => omega
theorem dst_one {ops : Array Oper} {l : List Nat} (h : (ops.toList.all fun o => match o.dst with | some d => l.contains d | none => true) = true) (t : Nat) (ht : t ∉ l) (i : Nat) : (ops[i]?).bind (·.dst) ≠ some t := fun e => by
  obtain ⟨o, ho, hd⟩ := Option.bind_eq_some_iff.1 e
  have h1 := List.all_eq_true.1 h o (by obtain ⟨hi, rfl⟩ := Array.getElem?_eq_some_iff.1 ho; simp)
  simp only [hd, List.contains_iff_mem] at h1
  exact ht h1
def oneV (base g : Nat) (tv : Value) (s T : List Nat) : Nat → Value → World → Prop
  | 0 => fun v w => w.ownsRow base 5 1 v 1 (ints .u8 [1])
  | 1 => fun v w => w.ownsRow base 5 1 v 16 (ints .u8 (1 :: List.replicate 15 0))
  | 2 => IsV (.slice (some ⟨g, 0, none⟩) 16 16)
  | 3 => KeyV ((1 :: List.replicate 15 0) ++ s)
  | 4 => IsV tv
  | 5 => PairV T
  | 6 => PairV T
  | 7 => TagV T
  | 8 => IsV (.int .i64 0)
  | 9 => TagV T
  | 10 => IsV (.int .i64 0)
  | _ => fun _ _ => True
def oneC : Nat → Option Nat
  | 0 => some 1
  | 1 => some 3
  | _ => none
def oneA (i j : Nat) : Bool := (j == 1 && ([3, 5, 6, 7, 8, 9, 10] : List Nat).contains i) || (j == 3 && ([5, 6, 7, 8, 9, 10] : List Nat).contains i)
def oneS (base j : Nat) (x y : World) : Prop := if j = 1 ∨ j = 3 then Below base x y ∧ x.heap.size ≤ y.heap.size else Below x.heap.size x y
theorem oneV_kept (base g : Nat) (tv : Value) (s T : List Nat) (i j : Nat) (v : Value) (x y : World) (hi : i < 11) (hj : j < 11) (hij : i ≠ j) (hc : oneC i ≠ some j) (ha : oneA i j = false) (hcc : ∀ c, c < 11 → oneC i = some c → oneA j c = false) (h : oneV base g tv s T i v x) (hs : oneS base j x y) : oneV base g tv s T i v y := by
  by_cases h2 : j = 1 ∨ j = 3
  · rcases h2 with rfl | rfl
    · obtain rfl|rfl|rfl|rfl|rfl|rfl|rfl|rfl|rfl|rfl|rfl : i = 0 ∨ i = 1 ∨ i = 2 ∨ i = 3 ∨ i = 4 ∨ i = 5 ∨ i = 6 ∨ i = 7 ∨ i = 8 ∨ i = 9 ∨ i = 10 := by omega
      · exact absurd rfl hc
      · exact absurd rfl hij
      · exact h
      · exact absurd ha (by decide)
      · exact h
      · exact absurd ha (by decide)
      · exact absurd ha (by decide)
      · exact absurd ha (by decide)
      · exact absurd ha (by decide)
      · exact absurd ha (by decide)
      · exact absurd ha (by decide)
    · obtain rfl|rfl|rfl|rfl|rfl|rfl|rfl|rfl|rfl|rfl|rfl : i = 0 ∨ i = 1 ∨ i = 2 ∨ i = 3 ∨ i = 4 ∨ i = 5 ∨ i = 6 ∨ i = 7 ∨ i = 8 ∨ i = 9 ∨ i = 10 := by omega
      · exact absurd (hcc 1 (by decide) rfl) (by decide)
      · exact absurd rfl hc
      · exact h
      · exact absurd rfl hij
      · exact h
      · exact absurd ha (by decide)
      · exact absurd ha (by decide)
      · exact absurd ha (by decide)
      · exact absurd ha (by decide)
      · exact absurd ha (by decide)
      · exact absurd ha (by decide)
  · have hb : Below x.heap.size x y := by
      have := hs
      unfold oneS at this
      rwa [if_neg h2] at this
    obtain rfl|rfl|rfl|rfl|rfl|rfl|rfl|rfl|rfl|rfl|rfl : i = 0 ∨ i = 1 ∨ i = 2 ∨ i = 3 ∨ i = 4 ∨ i = 5 ∨ i = 6 ∨ i = 7 ∨ i = 8 ∨ i = 9 ∨ i = 10 := by omega
    · exact own_below h hb
    · exact own_below h hb
    · exact h
    · exact KeyV.kept h hb
    · exact h
    · exact PairV.kept h hb
    · exact PairV.kept h hb
    · exact TagV.kept h hb
    · exact h
    · exact TagV.kept h hb
    · exact h
set_option maxHeartbeats 1000000 in
theorem one_early (s : List Nat) (pt : Option Addr) (n ct : Nat) (w : World) (h : n < 1 ∨ 15 < n) :
    Calls Try.prog 8 #[.agg (arr .u8 s), .slice pt n ct] w fun e w' => e = .returned (.bool true) ∧ Below w.heap.size w w' := by
  have HH : Hid (n < 1 ∨ 15 < n) := h
  clear h
  go_enter Try.func8, Try.ntmps8
  go_wp2_with fail
  have hbA : Below w.heap.size w (w.alloc (Obj.cells (arr .u8 s) 30)) := (Below.refl _ _).alloc (Nat.le_refl _) _
  refine (anchor_any _).mono ?_
  rintro e w1 ⟨rfl, hb1⟩
  have HB1 : Hid (Below w.heap.size w w1) := hbA.trans (hb1.mono hbA.size)
  clear hb1 hbA
  go_wp2_with fail
  all_goals first | (exfalso; have := HH.out; omega) | (go_ret; exact ⟨rfl, HB1.out⟩)
set_option maxHeartbeats 1000000 in
theorem one_any (s text : List Nat) (pt : Option Addr) (n ct : Nat) (w : World) (hs : s.length = 16) (hsb : ∀ x ∈ s, x < 256) (hT : TextIs w pt text) (htl : text.length = n) (hn1 : 1 ≤ n) (hn : n ≤ 15) (hct : n ≤ ct) :
    Calls Try.prog 8 #[.agg (arr .u8 s), .slice pt n ct] w fun e w' => e = .returned (.bool true) ∧ Below w.heap.size w w' := by
  have HSL : Hid (s.length = 16) := hs
  have HSB : Hid (∀ x ∈ s, x < 256) := hsb
  have HT : Hid (TextIs w pt text) := hT
  have HTL : Hid (text.length = n) := htl
  have HTN : Hid (Po.tagN ((1 :: List.replicate 15 0) ++ s) text = Po.pos 256 (text ++ [1]) + Po.pos 256 s) := tag_one s text (by omega) (by omega) hT.1
  clear hs hsb hT htl
  have h1' : ¬ (n : Int) < 1 := by omega
  have h2' : ¬ (15 : Int) < (n : Int) := by omega
  go_enter Try.func8, Try.ntmps8
  go_wp2_with fail
  have hbA : Below w.heap.size w (w.alloc (Obj.cells (arr .u8 s) 30)) := (Below.refl _ _).alloc (Nat.le_refl _) _
  have hR : RAt 30 (w.alloc (Obj.cells (arr .u8 s) 30)) w.heap.size s := heap_alloc_new w _
  refine (anchor_any _).mono ?_
  rintro e w1 ⟨rfl, hb1⟩
  have HB1 : Hid (Below w.heap.size w w1) := hbA.trans (hb1.mono hbA.size)
  have HR1 : Hid (RAt 30 w1 w.heap.size s) := hR.below hb1 (by simp)
  have HT1 : Hid (TextIs w1 pt text) := HT.out.below HB1.out
  clear hb1 hbA hR HT
  go_wp2_with fail
  refine wp_region_use2 oneC oneA (oneV w1.heap.size w.heap.size (.slice pt n ct) s (Po.tag ((1 :: List.replicate 15 0) ++ s) text)) (oneS w1.heap.size) (fun u u' => Below w1.heap.size u u' ∧ u.heap.size ≤ u'.heap.size) (by kernel_rfl) ⟨(Below.refl _ _).drew, Nat.le_refl _⟩ (fun x y z h1 h2 => ⟨h1.1.trans h2.1, Nat.le_trans h1.2 h2.2⟩) (fun j x y hx h => ?_) (fun i j v x y hi hj => oneV_kept _ _ _ _ _ i j v x y hi hj) (by kernel_rfl) (by kernel_rfl) ?_ ?_
  · unfold oneS at h
    split at h
    · exact h
    · exact ⟨h.mono hx.2, h.size⟩
  · intro i o a' w' hi inv hpre
    have hb : Below w1.heap.size w1 w' := inv.grow.1
    have hsz : w1.heap.size ≤ w'.heap.size := inv.grow.2
    have hlt : i < 11 := (Array.getElem?_eq_some_iff.1 hi).1
    obtain rfl|rfl|rfl|rfl|rfl|rfl|rfl|rfl|rfl|rfl|rfl : i = 0 ∨ i = 1 ∨ i = 2 ∨ i = 3 ∨ i = 4 ∨ i = 5 ∨ i = 6 ∨ i = 7 ∨ i = 8 ∨ i = 9 ∨ i = 10 := by omega
    · obtain rfl := Option.some.inj hi
      exact su_value _ rfl rfl (build1_run rfl) ((Below.refl _ _).alloc (Nat.le_refl _) _) (own_lit [1] hsz (by decide))
    · obtain rfl := Option.some.inj hi
      have h0 : w'.ownsRow w1.heap.size 5 1 (a'.tmps.getD 21 undef) 1 (ints .u8 [1]) := pre_use hpre 0 21 (by kernel_rfl) (by kernel_rfl) (.inr rfl)
      exact su_noughts 21 15 rfl rfl rfl w1.heap.size _ 1 (ints .u8 [1]) rfl h0 (by decide) hsz (fun v' w'' ho hg => ⟨⟨below_append h0 hg hsz, hg.size⟩, ho⟩)
    · obtain rfl := Option.some.inj hi
      exact su_value _ rfl rfl (slice30_run 2 rfl (by rw [inv.old 2 (notDst_spec (by kernel_rfl))]; rfl)) (Below.refl _ _) rfl
    · obtain rfl := Option.some.inj hi
      have h0 : w'.ownsRow w1.heap.size 5 1 (a'.tmps.getD 22 undef) 16 (ints .u8 (1 :: List.replicate 15 0)) := pre_use hpre 1 22 (by kernel_rfl) (by kernel_rfl) (.inr rfl)
      have h1 : a'.tmps.getD 23 undef = _ := pre_use hpre 2 23 (by kernel_rfl) (by kernel_rfl) (.inl rfl)
      exact su_append 22 23 rfl rfl rfl w1.heap.size _ 16 (1 :: List.replicate 15 0) w.heap.size 0 16 16 s rfl h1 HSL.out h0 (rangeAt_of_row (HR1.out.below hb (by have := HR1.out.lt; omega))) (by decide) hsz (fun v' w'' ho hg => ⟨⟨below_append h0 hg hsz, hg.size⟩, own_key ho⟩)
    · obtain rfl := Option.some.inj hi
      exact su_value _ rfl rfl rfl (Below.refl _ _) (by show a'.tmps.getD 1 undef = _; rw [inv.old 1 (notDst_spec (by kernel_rfl))]; rfl)
    · obtain rfl := Option.some.inj hi
      have h0 : KeyV ((1 :: List.replicate 15 0) ++ s) (a'.tmps.getD 24 undef) w' := pre_use hpre 3 24 (by kernel_rfl) (by kernel_rfl) (.inl rfl)
      have h1 : a'.tmps.getD 25 undef = _ := pre_use hpre 4 25 (by kernel_rfl) (by kernel_rfl) (.inl rfl)
      refine su_call 10 #[a'.tmps.getD 24 undef, a'.tmps.getD 25 undef] rfl rfl (by kernel_rfl) ?_
      rw [h1]
      exact tag_call h0 (by simp [HSL.out]) (fun x hx => by
        rcases List.mem_append.1 hx with h | h
        · rcases List.mem_cons.1 h with rfl | h
          · decide
          · rw [List.eq_of_mem_replicate h]; decide
        · exact HSB.out x h) (HT1.out.below hb) HTL.out (by omega) hct
    · obtain rfl := Option.some.inj hi
      have h0 : PairV (Po.tag ((1 :: List.replicate 15 0) ++ s) text) (a'.tmps.getD 26 undef) w' := pre_use hpre 5 26 (by kernel_rfl) (by kernel_rfl) (.inl rfl)
      exact su_value _ rfl rfl rfl (Below.refl _ _) h0
    · obtain rfl := Option.some.inj hi
      have h0 : PairV (Po.tag ((1 :: List.replicate 15 0) ++ s) text) (a'.tmps.getD 20 undef) w' := pre_use hpre 6 20 (by kernel_rfl) (by kernel_rfl) (.inl rfl)
      obtain ⟨t, ht, hT⟩ := h0
      exact su_value _ rfl rfl (extract_run 20 0 rfl ht (by simp)) (Below.refl _ _) hT
    · obtain rfl := Option.some.inj hi
      have h0 : PairV (Po.tag ((1 :: List.replicate 15 0) ++ s) text) (a'.tmps.getD 20 undef) w' := pre_use hpre 6 20 (by kernel_rfl) (by kernel_rfl) (.inl rfl)
      obtain ⟨t, ht, hT⟩ := h0
      exact su_value _ rfl rfl (extract_run 20 1 rfl ht (by simp)) (Below.refl _ _) rfl
    · obtain rfl := Option.some.inj hi
      have h0 : TagV (Po.tag ((1 :: List.replicate 15 0) ++ s) text) (a'.tmps.getD 27 undef) w' := pre_use hpre 7 27 (by kernel_rfl) (by kernel_rfl) (.inl rfl)
      exact su_value _ rfl rfl rfl (Below.refl _ _) h0
    · obtain rfl := Option.some.inj hi
      have h0 : a'.tmps.getD 28 undef = _ := pre_use hpre 8 28 (by kernel_rfl) (by kernel_rfl) (.inl rfl)
      exact su_value _ rfl rfl rfl (Below.refl _ _) h0
  · intro a' w' inv hd
    obtain ⟨b, c, h5, hr⟩ := hd 9 5 rfl (by kernel_rfl)
    have h6 : a'.tmps.getD 6 undef = .int .i64 0 := hd 10 6 rfl (by kernel_rfl)
    have hb : Below w1.heap.size w1 w' := inv.grow.1
    have HBF : Hid (Below w.heap.size w w') := HB1.out.trans (hb.mono HB1.out.size)
    have HR2 : Hid (RAt 30 w' w.heap.size s) := HR1.out.below hb HR1.out.lt
    have HT2 : Hid (TextIs w' pt text) := HT1.out.below hb
    have HRT : Hid (w'.rangeAt b 0 (ints .u8 (Po.tag ((1 :: List.replicate 15 0) ++ s) text))) := hr
    have hdf : a'.defers = [] := inv.defers
    have hsz : a'.tmps.size = 71 := inv.size
    have e := frame71 hsz (fun t ht => inv.old t (dst_one (l := [5, 6, 20, 21, 22, 23, 24, 25, 26, 27, 28]) (by kernel_rfl) t ht))
    rw [h5, h6] at e
    clear inv hd h5 h6 hsz hb hr HB1 HR1 HT1
    obtain ⟨tmps, defers⟩ := a'
    obtain rfl : defers = [] := hdf
    replace e : tmps = _ := e
    generalize tmps.getD 20 undef = x20 at e
    generalize tmps.getD 21 undef = x21 at e
    generalize tmps.getD 22 undef = x22 at e
    generalize tmps.getD 23 undef = x23 at e
    generalize tmps.getD 24 undef = x24 at e
    generalize tmps.getD 25 undef = x25 at e
    generalize tmps.getD 26 undef = x26 at e
    generalize tmps.getD 27 undef = x27 at e
    generalize tmps.getD 28 undef = x28 at e
    simp only [Array.getD_eq_getD_getElem?, List.getElem?_toArray, List.getElem?_cons_succ, List.getElem?_cons_zero, Option.getD_some] at e
    subst e
    obtain ⟨bt, ot, rfl, hrt⟩ := HT2.out.2 (by intro e; have := HTL.out; rw [e] at this; simp at this; omega)
    have HTR : Hid (w'.rangeAt bt ot (ints .u8 text)) := hrt
    have HTB : Hid (∀ x ∈ text, x < 256) := HT2.out.1
    clear hrt HT2
    go_wp2_with (first | with_reducible (refine stop_builtin .append ?_))
    refine Stop.go ?_
    have hbE : Below w'.heap.size w' (w'.alloc (Obj.cells #[] 5)) := (Below.refl _ _).alloc (Nat.le_refl _) _
    have hO0 : (w'.alloc (Obj.cells #[] 5)).ownsRow w'.heap.size 5 1 (.slice (some ⟨w'.heap.size, 0, none⟩) 0 0) 0 (ints .u8 []) := own_lit [] (Nat.le_refl _) (by decide)
    refine law_append_from w'.heap.size (.slice (some ⟨w'.heap.size, 0, none⟩) 0 0) 0 [] bt ot ct n text rfl rfl HTL.out hO0 (rangeAt_below hbE HTR.out) (by omega) (by simp) ?_
    intro v2 w2 ho2 hg2
    have hb2 : Below w'.heap.size w' w2 := hbE.trans (below_append hO0 hg2 (by simp))
    rw [Nat.zero_add, List.nil_append] at ho2
    have HO2 : Hid (w2.ownsRow w'.heap.size 5 1 v2 n (ints .u8 text)) := ho2
    have HB2 : Hid (Below w'.heap.size w' w2) := hb2
    have hs2 := hb2.size
    clear ho2 hg2 hb2 hO0 hbE
    obtain ⟨q2, c2, rfl⟩ := own_slice HO2.out
    go_wp2_with (first | with_reducible (refine stop_builtin .append ?_))
    refine Stop.go ?_
    have hO3 : (w2.alloc (Obj.cells (arr .u8 [1]) 5)).ownsRow w'.heap.size 5 1 (.slice q2 n c2) n (ints .u8 text) := ownsRow_alloc HO2.out _
    refine law_append_from w'.heap.size (.slice q2 n c2) n text w2.heap.size 0 1 1 [1] rfl rfl rfl hO3 (rangeAt_of_row (heap_alloc_new w2 _)) (by omega) (by simp; omega) ?_
    intro v3 w3 ho3 hg3
    have hb3 : Below w'.heap.size w' w3 := (HB2.out.alloc hs2 _).trans (below_append hO3 hg3 (by simp; omega))
    have HO3 : Hid (w3.ownsRow w'.heap.size 5 1 v3 (n + 1) (ints .u8 (text ++ [1]))) := ho3
    have HB3 : Hid (Below w'.heap.size w' w3) := hb3
    clear ho3 hg3 hb3 hO3 HO2 HB2 hs2
    obtain ⟨gl, cl, rfl, _, _, _, hrl⟩ := own_cell HO3.out (by omega)
    have HRA : Hid (w3.rangeAt gl 0 (ints .u8 (text ++ [1]))) := hrl
    have HAL : Hid ((text ++ [1]).length = n + 1) := by show _ = _; simp [HTL.out]
    have HAB : Hid (∀ x ∈ text ++ [1], x < 256) := fun x hx => by
      rcases List.mem_append.1 hx with h | h
      · exact HTB.out x h
      · rw [List.mem_singleton.1 h]; decide
    have HR3 : Hid (RAt 30 w3 w.heap.size s) := HR2.out.below HB3.out HR2.out.lt
    have HRT3 : Hid (w3.rangeAt b 0 (ints .u8 (Po.tag ((1 :: List.replicate 15 0) ++ s) text))) := rangeAt_below HB3.out HRT.out
    have HBF3 : Hid (Below w.heap.size w w3) := HBF.out.trans (HB3.out.mono HBF.out.size)
    have HTI : Hid (∀ i, i < 16 → Sp.nth (Po.tag ((1 :: List.replicate 15 0) ++ s) text) i = (car (text ++ [1]) s i + Sp.nth (text ++ [1]) i + Sp.nth s i) % 256) := fun i hi => by
      rw [tag_byte _ _ _ hi, HTN.out, sum_byte]
    have HTGL : Hid (((Po.tag ((1 :: List.replicate 15 0) ++ s) text)).length = 16) := Po.tag_length _ _
    clear hrl HO3 HB3 HR2 HRT HBF HTN HTR HTB
    generalize (Po.tag ((1 :: List.replicate 15 0) ++ s) text) = TG at *
    have HCS : Hid (∀ i, car (text ++ [1]) s (i + 1) = (car (text ++ [1]) s i + Sp.nth (text ++ [1]) i + Sp.nth s i) / 256) := car_succ _ _
    have HC0 : Hid (car (text ++ [1]) s 0 = 0) := by show _ = _; simp [car, Po.pos]
    have HCL : Hid (∀ i, car (text ++ [1]) s i ≤ 1) := fun i => car_le HAB.out HSB.out i
    generalize text ++ [1] = all at *
    go_wp2_with fail
    go_loopw [8, 41] (fun cv u wr => ∃ i : Nat, i ≤ 16 ∧ u = .int .i64 i ∧ cv = .int .i64 (car all s i : Nat) ∧ wr = w3) (fun _ u _ => 16 - (intOf u).toNat)
    case atStart => exact ⟨0, by omega, rfl, by rw [HC0.out]; rfl, rfl⟩
    case round =>
      obtain ⟨i, hi, rfl, rfl, rfl⟩ := hrel
      by_cases hlt : i < 16
      · have cs := HR3.out.cell i (by rw [HSL.out]; exact hlt)
        have ct := range_cell HRT3.out i (by rw [HTGL.out]; exact hlt)
        rw [Nat.zero_add] at ct
        have hti := HTI.out i hlt
        have hcs := HCS.out i
        have hcl := HCL.out i
        have xs : Sp.nth s i < 256 := Sp.nth_lt (by decide) HSB.out i
        have xa : Sp.nth all i < 256 := Sp.nth_lt (by decide) HAB.out i
        have i0 : (0 : Int) ≤ (i : Int) := by omega
        have i1 : (i : Int) < 16 := by omega
        by_cases hia : i < n + 1
        · have ca := range_cell HRA.out i (by rw [HAL.out]; exact hia)
          rw [Nat.zero_add] at ca
          have HCI : Hid (car all s (i + 1) = (car all s i + Sp.nth all i + Sp.nth s i) / 256) := hcs
          have hti' : ((Sp.nth TG i : Nat) : Int) = ((car all s i : Nat) + (Sp.nth s i : Nat) + (Sp.nth all i : Nat) : Int) % 256 := by omega
          have i2 : (i : Int) < (n : Int) + 1 := by omega
          clear hcs hti
          generalize car all s i = cc at *
          generalize Sp.nth TG i = tt at *
          generalize Sp.nth s i = ss at *
          generalize Sp.nth all i = aa at *
          go_wp2_with fail
          go_roundw
          case rel => exact ⟨i + 1, by omega, by go_num, (by have := HCI.out; rw [this]; go_num), trivial⟩
          case measure => simp [intOf]; omega
        · have hz : Sp.nth all i = 0 := nth_beyond (by rw [HAL.out]; omega)
          rw [hz] at hcs hti
          have HCI : Hid (car all s (i + 1) = (car all s i + 0 + Sp.nth s i) / 256) := hcs
          have hti' : ((Sp.nth TG i : Nat) : Int) = ((car all s i : Nat) + (Sp.nth s i : Nat) : Int) % 256 := by omega
          have i2 : ¬ (i : Int) < (n : Int) + 1 := by omega
          clear hcs hti hz xa
          generalize car all s i = cc at *
          generalize Sp.nth TG i = tt at *
          generalize Sp.nth s i = ss at *
          go_wp2_with fail
          go_roundw
          case rel => exact ⟨i + 1, by omega, by go_num, (by have := HCI.out; rw [this]; go_num), trivial⟩
          case measure => simp [intOf]; omega
      · obtain rfl : i = 16 := by omega
        go_wp2_with fail
        go_ret
        exact ⟨rfl, HBF3.out⟩
end Go.Proofs.Ytncnckiknhhbjaa
