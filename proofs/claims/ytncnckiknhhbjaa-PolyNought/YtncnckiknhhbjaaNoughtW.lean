/- The walk of PolyNought. -/
import Derived.Test.YtncnckiknhhbjaaSteps
namespace Go.Proofs.Ytncnckiknhhbjaa
open Go.RowKit
theorem frame29 {A F : Array Value} (hs : A.size = 29) (h : ∀ t, t ∉ ([5, 6, 12, 13, 14, 15, 16, 17, 18, 19] : List Nat) → A.getD t undef = F.getD t undef) : A = #[F.getD 0 undef, F.getD 1 undef, F.getD 2 undef, F.getD 3 undef, F.getD 4 undef, A.getD 5 undef, A.getD 6 undef, F.getD 7 undef, F.getD 8 undef, F.getD 9 undef, F.getD 10 undef, F.getD 11 undef, A.getD 12 undef, A.getD 13 undef, A.getD 14 undef, A.getD 15 undef, A.getD 16 undef, A.getD 17 undef, A.getD 18 undef, A.getD 19 undef, F.getD 20 undef, F.getD 21 undef, F.getD 22 undef, F.getD 23 undef, F.getD 24 undef, F.getD 25 undef, F.getD 26 undef, F.getD 27 undef, F.getD 28 undef] := by
  rw [← h 0 (by decide), ← h 1 (by decide), ← h 2 (by decide), ← h 3 (by decide), ← h 4 (by decide), ← h 7 (by decide), ← h 8 (by decide), ← h 9 (by decide), ← h 10 (by decide), ← h 11 (by decide), ← h 20 (by decide), ← h 21 (by decide), ← h 22 (by decide), ← h 23 (by decide), ← h 24 (by decide), ← h 25 (by decide), ← h 26 (by decide), ← h 27 (by decide), ← h 28 (by decide)]
  refine Array.ext (by simp [hs]) (fun i h1 h2 => ?_)
  have e : A[i] = A.getD i undef := by simp [h1]
  rw [e]
  rw [hs] at h1
  clear e h hs
  match i, h1 with
  | 0, _ => rfl
  | 1, _ => rfl
  | 2, _ => rfl
  | 3, _ => rfl
  | 4, _ => rfl
  | 5, _ => rfl
  | 6, _ => rfl
  | 7, _ => rfl
  | 8, _ => rfl
  | 9, _ => rfl
  | 10, _ => rfl
  | 11, _ => rfl
  | 12, _ => rfl
  | 13, _ => rfl
  | 14, _ => rfl
  | 15, _ => rfl
  | 16, _ => rfl
  | 17, _ => rfl
  | 18, _ => rfl
  | 19, _ => rfl
  | 20, _ => rfl
  | 21, _ => rfl
  | 22, _ => rfl
  | 23, _ => rfl
  | 24, _ => rfl
  | 25, _ => rfl
  | 26, _ => rfl
  | 27, _ => rfl
  | 28, _ => rfl
  | i + 29, h => omega
theorem dst_in {ops : Array Oper} {l : List Nat} (h : (ops.toList.all fun o => match o.dst with | some d => l.contains d | none => true) = true) (t : Nat) (ht : t ∉ l) (i : Nat) : (ops[i]?).bind (·.dst) ≠ some t := fun e => by
  obtain ⟨o, ho, hd⟩ := Option.bind_eq_some_iff.1 e
  have h1 := List.all_eq_true.1 h o (by obtain ⟨hi, rfl⟩ := Array.getElem?_eq_some_iff.1 ho; simp)
  simp only [hd, List.contains_iff_mem] at h1
  exact ht h1
def noughtV (base g : Nat) (tv : Value) (s T : List Nat) : Nat → Value → World → Prop
  | 0 => fun v w => w.ownsRow base 5 1 v 16 (ints .u8 (List.replicate 16 0))
  | 1 => IsV (.slice (some ⟨g, 0, none⟩) 16 16)
  | 2 => KeyV (List.replicate 16 0 ++ s)
  | 3 => IsV tv
  | 4 => PairV T
  | 5 => PairV T
  | 6 => TagV T
  | 7 => IsV (.int .i64 0)
  | 8 => TagV T
  | 9 => IsV (.int .i64 0)
  | _ => fun _ _ => True
def noughtC : Nat → Option Nat
  | 0 => some 2
  | _ => none
/-- Behind the append come the call and what it leaves. -/
def noughtA (i j : Nat) : Bool := j == 2 && decide (4 ≤ i) && decide (i < 10)
def noughtS (base j : Nat) (x y : World) : Prop := if j = 2 then Below base x y ∧ x.heap.size ≤ y.heap.size else Below x.heap.size x y
theorem noughtV_kept (base g : Nat) (tv : Value) (s T : List Nat) (i j : Nat) (v : Value) (x y : World) (hi : i < 10) (hj : j < 10) (hij : i ≠ j) (hc : noughtC i ≠ some j) (ha : noughtA i j = false) (h : noughtV base g tv s T i v x) (hs : noughtS base j x y) : noughtV base g tv s T i v y := by
  by_cases h2 : j = 2
  · subst h2
    have : i < 4 := by
      apply Decidable.byContradiction
      intro h4
      have h5 : 4 ≤ i := by omega
      simp [noughtA, hi, h5] at ha
    obtain rfl|rfl|rfl|rfl : i = 0 ∨ i = 1 ∨ i = 2 ∨ i = 3 := by omega
    · exact absurd rfl hc
    · exact h
    · exact absurd rfl hij
    · exact h
  · have hb : Below x.heap.size x y := by
      have := hs
      unfold noughtS at this
      rwa [if_neg h2] at this
    obtain rfl|rfl|rfl|rfl|rfl|rfl|rfl|rfl|rfl|rfl : i = 0 ∨ i = 1 ∨ i = 2 ∨ i = 3 ∨ i = 4 ∨ i = 5 ∨ i = 6 ∨ i = 7 ∨ i = 8 ∨ i = 9 := by omega
    · exact own_below h hb
    · exact h
    · exact KeyV.kept h hb
    · exact h
    · exact PairV.kept h hb
    · exact PairV.kept h hb
    · exact TagV.kept h hb
    · exact h
    · exact TagV.kept h hb
    · exact h
set_option maxHeartbeats 1000000 in
theorem nought_early (s : List Nat) (pt : Option Addr) (n ct : Nat) (w : World) (h : 300 < n) :
    Calls Try.prog 7 #[.agg (arr .u8 s), .slice pt n ct] w fun e w' => e = .returned (.bool true) ∧ Below w.heap.size w w' := by
  have h' : (300 : Int) < (n : Int) := by omega
  go_enter Try.func7, Try.ntmps7
  go_wp2_with fail
  have hbA : Below w.heap.size w (w.alloc (Obj.cells (arr .u8 s) 30)) := (Below.refl _ _).alloc (Nat.le_refl _) _
  refine (anchor_any _).mono ?_
  rintro e w1 ⟨rfl, hb1⟩
  have HB1 : Hid (Below w.heap.size w w1) := hbA.trans (hb1.mono hbA.size)
  clear hb1 hbA
  go_wp2_with fail
  go_ret
  exact ⟨rfl, HB1.out⟩
set_option maxHeartbeats 1000000 in
theorem nought_any (s text : List Nat) (pt : Option Addr) (n ct : Nat) (w : World) (hs : s.length = 16) (hsb : ∀ x ∈ s, x < 256) (hT : TextIs w pt text) (htl : text.length = n) (hn : n ≤ 300) (hct : n ≤ ct) :
    Calls Try.prog 7 #[.agg (arr .u8 s), .slice pt n ct] w fun e w' => e = .returned (.bool true) ∧ Below w.heap.size w w' := by
  have HSL : Hid (s.length = 16) := hs
  have HSB : Hid (∀ x ∈ s, x < 256) := hsb
  have HT : Hid (TextIs w pt text) := hT
  have HTL : Hid (text.length = n) := htl
  have HTG : Hid (Po.tag (List.replicate 16 0 ++ s) text = s) := tag_nought s text hs hsb
  clear hs hsb hT htl
  have h' : (n : Int) ≤ 300 := by omega
  go_enter Try.func7, Try.ntmps7
  go_wp2_with fail
  have hbA : Below w.heap.size w (w.alloc (Obj.cells (arr .u8 s) 30)) := (Below.refl _ _).alloc (Nat.le_refl _) _
  have hR : RAt 30 (w.alloc (Obj.cells (arr .u8 s) 30)) w.heap.size s := heap_alloc_new w _
  refine (anchor_any _).mono ?_
  rintro e w1 ⟨rfl, hb1⟩
  have HB1 : Hid (Below w.heap.size w w1) := hbA.trans (hb1.mono hbA.size)
  have HR1 : Hid (RAt 30 w1 w.heap.size s) := hR.below hb1 (by simp)
  have HT1 : Hid (TextIs w1 pt text) := HT.out.below HB1.out
  clear hb1 hbA hR HT
  go_wp2_with fail
  refine wp_region_use noughtC noughtA (noughtV w1.heap.size w.heap.size (.slice pt n ct) s (Po.tag (List.replicate 16 0 ++ s) text)) (noughtS w1.heap.size) (fun u u' => Below w1.heap.size u u' ∧ u.heap.size ≤ u'.heap.size) (by kernel_rfl) ⟨(Below.refl _ _).drew, Nat.le_refl _⟩ (fun x y z h1 h2 => ⟨h1.1.trans h2.1, Nat.le_trans h1.2 h2.2⟩) (fun j x y hx h => ?_) (fun i j v x y hi hj => noughtV_kept _ _ _ _ _ i j v x y hi hj) (by kernel_rfl) (by kernel_rfl) ?_ ?_
  · unfold noughtS at h
    split at h
    · exact h
    · exact ⟨h.mono hx.2, h.size⟩
  · intro i o a' w' hi inv hpre
    have hb : Below w1.heap.size w1 w' := inv.grow.1
    have hsz : w1.heap.size ≤ w'.heap.size := inv.grow.2
    have hlt : i < 10 := (Array.getElem?_eq_some_iff.1 hi).1
    obtain rfl|rfl|rfl|rfl|rfl|rfl|rfl|rfl|rfl|rfl : i = 0 ∨ i = 1 ∨ i = 2 ∨ i = 3 ∨ i = 4 ∨ i = 5 ∨ i = 6 ∨ i = 7 ∨ i = 8 ∨ i = 9 := by omega
    · obtain rfl := Option.some.inj hi
      exact su_value _ rfl rfl (make16_run rfl) ((Below.refl _ _).alloc (Nat.le_refl _) _) (own_made hsz (by decide))
    · obtain rfl := Option.some.inj hi
      exact su_value _ rfl rfl (slice30_run 2 rfl (by rw [inv.old 2 (notDst_spec (by kernel_rfl))]; rfl)) (Below.refl _ _) rfl
    · obtain rfl := Option.some.inj hi
      have h0 : w'.ownsRow w1.heap.size 5 1 (a'.tmps.getD 13 undef) 16 (ints .u8 (List.replicate 16 0)) := pre_use hpre 0 13 (by kernel_rfl) (by kernel_rfl) (.inr rfl)
      have h1 : a'.tmps.getD 14 undef = _ := pre_use hpre 1 14 (by kernel_rfl) (by kernel_rfl) (.inl rfl)
      exact su_append 13 14 rfl rfl rfl w1.heap.size _ 16 (List.replicate 16 0) w.heap.size 0 16 16 s rfl h1 HSL.out h0 (rangeAt_of_row (HR1.out.below hb (by have := HR1.out.lt; omega))) (by decide) hsz (fun v' w'' ho hg => ⟨⟨below_append h0 hg hsz, hg.size⟩, own_key ho⟩)
    · obtain rfl := Option.some.inj hi
      exact su_value _ rfl rfl rfl (Below.refl _ _) (by show a'.tmps.getD 1 undef = _; rw [inv.old 1 (notDst_spec (by kernel_rfl))]; rfl)
    · obtain rfl := Option.some.inj hi
      have h0 : KeyV (List.replicate 16 0 ++ s) (a'.tmps.getD 15 undef) w' := pre_use hpre 2 15 (by kernel_rfl) (by kernel_rfl) (.inl rfl)
      have h1 : a'.tmps.getD 16 undef = _ := pre_use hpre 3 16 (by kernel_rfl) (by kernel_rfl) (.inl rfl)
      refine su_call 10 #[a'.tmps.getD 15 undef, a'.tmps.getD 16 undef] rfl rfl (by kernel_rfl) ?_
      rw [h1]
      exact tag_call h0 (by simp [HSL.out]) (fun x hx => by
        rcases List.mem_append.1 hx with h | h
        · rw [List.eq_of_mem_replicate h]; decide
        · exact HSB.out x h) (HT1.out.below hb) HTL.out (by omega) hct
    · obtain rfl := Option.some.inj hi
      have h0 : PairV (Po.tag (List.replicate 16 0 ++ s) text) (a'.tmps.getD 17 undef) w' := pre_use hpre 4 17 (by kernel_rfl) (by kernel_rfl) (.inl rfl)
      exact su_value _ rfl rfl rfl (Below.refl _ _) h0
    · obtain rfl := Option.some.inj hi
      have h0 : PairV (Po.tag (List.replicate 16 0 ++ s) text) (a'.tmps.getD 12 undef) w' := pre_use hpre 5 12 (by kernel_rfl) (by kernel_rfl) (.inl rfl)
      obtain ⟨t, ht, hT⟩ := h0
      exact su_value _ rfl rfl (extract_run 12 0 rfl ht (by simp)) (Below.refl _ _) hT
    · obtain rfl := Option.some.inj hi
      have h0 : PairV (Po.tag (List.replicate 16 0 ++ s) text) (a'.tmps.getD 12 undef) w' := pre_use hpre 5 12 (by kernel_rfl) (by kernel_rfl) (.inl rfl)
      obtain ⟨t, ht, hT⟩ := h0
      exact su_value _ rfl rfl (extract_run 12 1 rfl ht (by simp)) (Below.refl _ _) rfl
    · obtain rfl := Option.some.inj hi
      have h0 : TagV (Po.tag (List.replicate 16 0 ++ s) text) (a'.tmps.getD 18 undef) w' := pre_use hpre 6 18 (by kernel_rfl) (by kernel_rfl) (.inl rfl)
      exact su_value _ rfl rfl rfl (Below.refl _ _) h0
    · obtain rfl := Option.some.inj hi
      have h0 : a'.tmps.getD 19 undef = _ := pre_use hpre 7 19 (by kernel_rfl) (by kernel_rfl) (.inl rfl)
      exact su_value _ rfl rfl rfl (Below.refl _ _) h0
  · intro a' w' inv hd
    obtain ⟨b, c, h5, hr⟩ := hd 8 5 rfl (by kernel_rfl)
    have h6 : a'.tmps.getD 6 undef = .int .i64 0 := hd 9 6 rfl (by kernel_rfl)
    rw [HTG.out] at hr
    have hb : Below w1.heap.size w1 w' := inv.grow.1
    have HBF : Hid (Below w.heap.size w w') := HB1.out.trans (hb.mono HB1.out.size)
    have hR2 : RAt 30 w' w.heap.size s := HR1.out.below hb HR1.out.lt
    have hdf : a'.defers = [] := inv.defers
    have hsz : a'.tmps.size = 29 := inv.size
    have e := frame29 hsz (fun t ht => inv.old t (dst_in (l := [5, 6, 12, 13, 14, 15, 16, 17, 18, 19]) (by kernel_rfl) t ht))
    rw [h5, h6] at e
    have hcv1 : ∀ m, (convert 22 9 (.slice (some ⟨b, 0, none⟩) 16 c)).run Try.prog (w'.drewN m) = .ok (.string (strB s)) (w'.drewN m) := fun m => conv_of c HSL.out (w := w'.drewN m) hr
    have hcv2 : ∀ m, (convert 22 9 (.slice (some ⟨w.heap.size, 0, none⟩) 16 16)).run Try.prog (w'.drewN m) = .ok (.string (strB s)) (w'.drewN m) := fun m => conv_of 16 HSL.out (w := w'.drewN m) (rangeAt_of_row hR2)
    clear inv hd h5 h6 hsz hb hr hR2 HB1 HR1 HT1 HTG HTL HSB HSL
    obtain ⟨tmps, defers⟩ := a'
    obtain rfl : defers = [] := hdf
    replace e : tmps = _ := e
    generalize tmps.getD 12 undef = x12 at e
    generalize tmps.getD 13 undef = x13 at e
    generalize tmps.getD 14 undef = x14 at e
    generalize tmps.getD 15 undef = x15 at e
    generalize tmps.getD 16 undef = x16 at e
    generalize tmps.getD 17 undef = x17 at e
    generalize tmps.getD 18 undef = x18 at e
    generalize tmps.getD 19 undef = x19 at e
    simp only [Array.getD_eq_getD_getElem?, List.getElem?_toArray, List.getElem?_cons_succ, List.getElem?_cons_zero, Option.getD_some] at e
    subst e
    go_wp2_with fail
    go_quiet (fail)
    go_wp2_with fail
    go_ret
    exact ⟨rfl, below_drewN HBF.out nq⟩
end Go.Proofs.Ytncnckiknhhbjaa
