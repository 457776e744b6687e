/- The contracts of CompactFunc over members that rise, of Clone and of Readers. -/
import Derived.Test.YtmlnbbggfjgacaaP10Sort2
import Derived.Test.YtmlnbbggfjgacaaP10Right
namespace Go.Proofs.Ytmlnbbggfjgacaa.P10
open Go.RowKit C8 E9 Go.Sort Go.Shelf Go.Lib
theorem bel_grow (w : World) (n : Nat) (os : Array Obj) : Below w.heap.size w (grow (w.drewN n) os) := by
  refine ⟨rfl, rfl, rfl, ?_, fun k hk => ?_⟩
  · simp [grow]
  · simp only [grow]
    rw [Array.getElem?_append_left (by simpa using hk)]
    rfl
set_option maxHeartbeats 4000000 in
theorem compact_any (q : Option Addr) (c : Nat) (ms : List (Int × Int)) (w : World) (h : Mb w q ms) (hr : Rise ms) (hl : ms.length ≤ 1000) :
    Calls Try.prog 36 #[.slice q ms.length c, .func (.func 37) #[] #[]] w fun e w' => e = .returned (.slice q ms.length c) ∧ Below w.heap.size w w' := by
  have eg : ∀ args w, (callFunc 37 args).run Try.prog w = .ok (.enter 37 args) w := enters_of Try.func37 (by kernel_rfl) rfl
  have HA : Hid (Mb w q ms) := h
  have HRI : Hid (Rise ms) := hr
  obtain ⟨n, HN⟩ : ∃ n, Hid (ms.length = n) := ⟨_, rfl⟩
  rw [HN.out] at hl
  rw [HN.out]
  clear h hr
  have l1 : (n : Int) ≤ 1000 := by omega
  by_cases h2 : n < 2
  · have n2 : (n : Int) < 2 := by omega
    go_enter Try.func36, Try.ntmps36
    go_wp2_with fail
    go_ret
    exact ⟨rfl, Below.refl _ _⟩
  · have n2 : ¬ (n : Int) < 2 := by omega
    go_enter Try.func36, Try.ntmps36
    go_wp2_with fail
    go_loopw [5] (fun i wr => ∃ j : Nat, 1 ≤ j ∧ j ≤ n ∧ i = .int .i64 j ∧ Hid (Below w.heap.size w wr)) (fun i _ => n - (intOf i).toNat)
    case atStart => exact ⟨1, by omega, by omega, rfl, Below.refl _ _⟩
    case round =>
      obtain ⟨j, h1, hj, rfl, HB⟩ := hrel
      by_cases hlt : j < n
      · obtain ⟨jp, rfl⟩ : ∃ jp, j = jp + 1 := ⟨j - 1, by omega⟩
        have ja : jp + 1 < ms.length := by rw [HN.out]; exact hlt
        have jb : jp < ms.length := by omega
        obtain ⟨b, o, rfl, k2, k3, k4⟩ := HA.out (jp + 1) ja
        obtain ⟨b', o', e, k2', k3', k4'⟩ := HA.out jp jb
        cases e
        have hne : ms[jp + 1].1 ≠ ms[jp].1 := by have := HRI.out jp (jp + 1) (by omega) ja jb; omega
        have kb : b < wr.heap.size := Nat.lt_of_lt_of_le k2 HB.out.size
        have d0 := cell_grown (a := ⟨b, o + (jp + 1) * 2, none⟩) kb ((HB.out.cell (p := ⟨b, o + (jp + 1) * 2, none⟩) k2).trans k3)
        have d1 := cell_grown (a := ⟨b, o + (jp + 1) * 2 + 1, none⟩) kb ((HB.out.cell (p := ⟨b, o + (jp + 1) * 2 + 1, none⟩) k2).trans k4)
        have d2 := cell_grown (a := ⟨b, o + jp * 2, none⟩) kb ((HB.out.cell (p := ⟨b, o + jp * 2, none⟩) k2).trans k3')
        have d3 := cell_grown (a := ⟨b, o + jp * 2 + 1, none⟩) kb ((HB.out.cell (p := ⟨b, o + jp * 2 + 1, none⟩) k2).trans k4')
        have hcg : ∀ n' os', Calls Try.prog 37 #[.agg #[.int .i64 ms[jp + 1].1, .int .i64 ms[jp + 1].2], .agg #[.int .i64 ms[jp].1, .int .i64 ms[jp].2]] (grow (wr.drewN n') os') fun e w' => e = .returned (.bool false) ∧ ∃ q os'', w' = grow ((grow (wr.drewN n') os').drewN q) os'' := fun n' os' => sameWho_no _ _ _ hne
        have j0 : (0 : Int) ≤ (jp : Int) + 1 := by omega
        have j1 : (jp : Int) + 1 < (n : Int) := by omega
        have j2 : (jp : Int) < (n : Int) := by omega
        have e0 : ((jp : Int) + 1).toNat = jp + 1 := by omega
        have HBG : Hid (∀ n' os', Below w.heap.size w (grow (wr.drewN n') os')) := fun n' os' => HB.out.trans (bel_le (bel_grow wr n' os') HB.out.size)
        have mixed : Try.prog.follows Departure.mixedOrders = true := by kernel_rfl
        have hwp : IntKind.i64.wrap (jp : Int) = (jp : Int) := by rw [IntKind.wrap_i64]; omega
        generalize ms[jp + 1] = x at *
        generalize ms[jp] = y at *
        clear k3 k4 k3' k4' ja jb hne
        obtain ⟨x1, x2⟩ := x
        obtain ⟨y1, y2⟩ := y
        simp only at d0 d1 d2 d3 hcg
        go_wp2_with fail
        go_quiet_grown (first | (go_at_fn 37; refine Calls.grown_of (hcg _ _)))
        have HB2 : Hid (Below w.heap.size w (grow (wr.drewN nq) osq)) := HBG.out _ _
        clear d0 d1 d2 d3 hcg HBG
        go_wp2_with fail
        refine ⟨⟨jp + 2, by omega, by omega, by simp; omega, HB2⟩, ?_⟩
        simp only [intOf]
        omega
      · obtain rfl : j = n := by omega
        have j1 : ¬ (j : Int) < (j : Int) := by omega
        go_wp2_with fail
        go_ret
        exact ⟨rfl, HB.out⟩
theorem info50e : ∃ i, Try.prog.info? 50 = some i ∧ i.size = 2 ∧ i.bytes = 16 ∧ i.zero = some (.agg #[.int .i64 0, .int .i64 0]) := info_of (by kernel_rfl)
theorem clone_any (q : Option Addr) (c : Nat) (ms : List (Int × Int)) (w : World) (h : Mb w q ms) (h0 : ms ≠ []) (hl : ms.length ≤ 1000) :
    Calls Try.prog 25 #[.slice q ms.length c] w fun e w' => ∃ v, e = .returned v ∧ w'.ownsRow w.heap.size 50 2 v ms.length (flatM ms) ∧ Below w.heap.size w w' := by
  have hpos : 0 < ms.length := List.length_pos_iff.2 h0
  obtain ⟨b, o, rfl, k2, -, -⟩ := h 0 hpos
  obtain ⟨i0, hi0, hz1, hz2, hz0⟩ := info50e
  have hcon := AnyE.slices_Clone Try.cloneMb i0 _ 2 16 hi0 hz0 hz1 hz2 rfl (by decide) Try.sizeOf50 b o ms.length c (flatM ms) w (flatM_len ms) (by unfold maxLen; omega) (by omega) (fun t u hu => by
    have ht := (List.getElem?_eq_some_iff.1 hu).1
    rw [flatM_len] at ht
    obtain ⟨b', o', e, _, c1, c2⟩ := h (t / 2) (by omega)
    cases e
    have hf := flatM_at ms (t / 2) (by omega)
    rcases Nat.mod_two_eq_zero_or_one t with h0 | h0
    · rw [show t / 2 * 2 = t from by omega] at hf c1
      rw [c1, ← hf.1, hu]
    · rw [show t / 2 * 2 + 1 = t from by omega] at hf
      rw [show o + t / 2 * 2 + 1 = o + t from by omega] at c2
      rw [c2, ← hf.2, hu]) (by
    intro u hu
    have : ∀ ms : List (Int × Int), ∀ u ∈ flatM ms, u.oneCell' = true := by
      intro ms
      induction ms with
      | nil => intro u hu; cases hu
      | cons m r ih =>
        intro u hu
        rw [flatM] at hu
        rcases List.mem_cons.1 hu with rfl | hu
        · rfl
        · rcases List.mem_cons.1 hu with rfl | hu
          · rfl
          · exact ih u hu
    exact this ms u hu)
  refine Calls.mono (show Calls Try.prog 25 _ _ _ from hcon) ?_
  rintro e w' ⟨v, rfl, h1, _, h2⟩
  exact ⟨v, rfl, h1, h2⟩
end Go.Proofs.Ytmlnbbggfjgacaa.P10
