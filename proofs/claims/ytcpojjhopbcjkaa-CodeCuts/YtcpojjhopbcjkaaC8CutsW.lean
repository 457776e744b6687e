/- The walk of CodeCuts. -/
import Derived.Test.YtcpojjhopbcjkaaC8CutsE
namespace Go.Proofs.Ytcpojjhopbcjkaa.C8
open Go.RowKit
section
variable {P : Program} {ops : Array Oper} {rest : List Oper} {dst : Option Tmp} {T : TypeId} {pos : String} {after : Array Edge} {a : Act} {w : World} {Q : Exit → Act → World → Prop}
theorem stop_builtin_g (b : Builtin) {args : Array Operand} {argTypes : Array TypeId} {g : Nat × Bool} (h : Stop (wpList P ops Q ({ dst := dst, op := .call { callee := .builtin b, args := args, argTypes := argTypes }, type := T, pos := pos, after := after, guard := some g } :: rest) a w)) :
    wpList P ops Q ({ dst := dst, op := .call { callee := .builtin b, args := args, argTypes := argTypes }, type := T, pos := pos, after := after, guard := some g } :: rest) a w := h
/-- An operation whose guard says yes. -/
theorem unguard {op : Op} {g : Nat × Bool} (hw : Region.wanted { dst := dst, op := op, type := T, pos := pos, after := after, guard := some g } (yielded ops a.tmps) = true) (h : wpList P ops Q ({ dst := dst, op := op, type := T, pos := pos, after := after, guard := none } :: rest) a w) :
    wpList P ops Q ({ dst := dst, op := op, type := T, pos := pos, after := after, guard := some g } :: rest) a w := by
  simp only [wpList] at h ⊢
  rw [if_pos hw]
  rw [if_pos (show Region.wanted { dst := dst, op := op, type := T, pos := pos, after := after, guard := none } (yielded ops a.tmps) = true from by simp [Region.wanted])] at h
  exact h
end
set_option maxHeartbeats 4000000 in
theorem cuts_main (ps : List Pt) (a : Option Addr) (n c : Nat) (cut : Int) (ma : Option Addr) (mn mc : Nat) (w : World) (hn : ps.length = n) (gn : n ≤ 9223372036854775807) (hp : PartRow w a ps) (hs : sm ps = true) (h8 : n ≤ 8) (h0 : 0 ≤ cut) (lm : List Nat) (hlm : lm.length = mn) (hm : mn ≤ 100) (hsm : Src w (.slice ma mn mc) lm) :
    Calls Try.prog 5 #[.slice a n c, .int .i64 cut, .slice ma mn mc] w fun e w' => e = .returned (.bool true) ∧ Below w.heap.size w w' := by
  have HP : Hid (PartRow w a ps) := hp
  have hA : Below w.heap.size w (w.alloc (Obj.cells #[.slice a n c] 22)) := (Below.refl _ w).alloc (Nat.le_refl _) _
  have hbx : (w.alloc (Obj.cells #[.slice a n c] 22)).cell? ⟨w.heap.size, 0, none⟩ = some (.slice a n c) := by rw [cell_of_row _ _ _ _ _ _ (heap_alloc_new w _)]; rfl
  have HC9 : ∀ W, W = w.alloc (Obj.cells #[.slice a n c] 22) → Calls Try.prog 9 #[] W fun e w' => e = .returned (.bool true) ∧ Hid (Below w.heap.size w w') ∧ Hid (w.heap.size < w'.heap.size) ∧ w'.cell? ⟨w.heap.size, 0, none⟩ = some (.slice a n c) := by
    rintro W rfl
    refine (anchor_any _).mono ?_
    rintro e w' ⟨rfl, b⟩
    have hz : w.heap.size < (w.alloc (Obj.cells #[.slice a n c] 22)).heap.size := by simp
    exact ⟨rfl, hA.trans (bel_le b (Nat.le_of_lt hz)), Nat.lt_of_lt_of_le hz b.size, (b.cell (p := ⟨w.heap.size, 0, none⟩) hz).trans hbx⟩
  have HCS : ∀ W, Hid (Below w.heap.size w W) → Hid (w.heap.size < W.heap.size) → W.cell? ⟨w.heap.size, 0, none⟩ = some (.slice a n c) → Calls Try.prog 10 #[.slice a n c] W fun e w' => e = .returned (.bool (sm ps)) ∧ Hid (Below w.heap.size w w') ∧ Hid (w.heap.size < w'.heap.size) ∧ w'.cell? ⟨w.heap.size, 0, none⟩ = some (.slice a n c) := by
    intro W h1 h2 h3
    refine (small_any ps a n c W hn gn (hp.moved h1.out)).mono ?_
    rintro e w' ⟨rfl, b⟩
    exact ⟨rfl, h1.out.trans (bel_le b h1.out.size), Nat.lt_of_lt_of_le h2.out b.size, (b.cell (p := ⟨w.heap.size, 0, none⟩) h2.out).trans h3⟩
  have HN : Hid (ps.length = n) := hn
  have i8 : (n : Int) ≤ 8 := by omega
  have i9 : (mn : Int) ≤ 100 := by omega
  have HSM : Hid (Old w.heap.size w (.slice ma mn mc) lm) := Old.of hsm
  have HLM : Hid (lm.length = mn) := hlm
  have HSX : Hid (∀ y ∈ Cd.enc ps, y < 256) := Cd.enc_lt (fun p hp => by
    obtain ⟨k, hk, rfl⟩ := List.getElem_of_mem hp
    obtain ⟨_, _, _, _, _, _, _, _, h6, _⟩ := HP.out k hk
    exact h6.1.small)
  have HPT : ∀ W, Hid (Below w.heap.size w W) → Calls Try.prog 11 #[.slice a n c] W fun e w' => PutSays W.heap.size ps e W w' := fun W h1 => put_any ps a n c W hn (by omega) (hp.moved h1.out)
  clear hA hbx hp hn gn hsm hlm
  go_enter Try.func5, Try.ntmps5
  go_wp2_with (first | (go_at_call 9; refine (HC9 _ rfl).mono ?_; rintro e w0 ⟨rfl, B0, Z0, x0⟩))
  refine (HCS _ B0 Z0 x0).mono ?_
  rintro e w1 ⟨rfl, B1, Z1, x1⟩
  clear HC9 HCS x0 B0 Z0
  rw [hs]
  go_wp2_with fail
  refine (HPT _ B1).mono ?_
  intro e w2 h2
  have B2 : Hid (Below w.heap.size w w2) := B1.out.trans (bel_le h2.1 B1.out.size)
  have Z2 : Hid (w.heap.size < w2.heap.size) := Nat.lt_of_lt_of_le Z1.out h2.1.size
  have x2 : w2.cell? ⟨w.heap.size, 0, none⟩ = some (.slice a n c) := (h2.1.cell (p := ⟨w.heap.size, 0, none⟩) Z1.out).trans x1
  by_cases he : Cd.err ps = 0
  · obtain ⟨bv, rfl, ho2, b2⟩ := h2.ok he
    have HBV : Hid (w2.ownsRow w1.heap.size 5 1 bv (Cd.enc ps).length (ints .u8 (Cd.enc ps))) := ho2
    obtain ⟨qb, cb, rfl⟩ := own_slice ho2
    have HE : Hid (Cd.err ps = 0) := he
    obtain ⟨lb, HLB⟩ : ∃ lb, Hid ((Cd.enc ps).length = lb) := ⟨_, rfl⟩
    rw [HLB.out] at HBV ⊢
    have hlb : lb ≤ 90000 := by
      have h1 := Cd.enc_length_le (Cd.wrong_of_err he)
      have := HN.out
      have := HLB.out
      omega
    clear h2 ho2 b2 x1 Z1 HPT he
    by_cases hz : lb = 0
    · subst hz
      go_wp2_with fail
      go_ret
      exact ⟨rfl, B2.out⟩
    · have hz1 : ¬ (lb : Int) = 0 := by omega
      have hz2 : (0 : Int) < (lb : Int) := by omega
      by_cases h3 : 3000 < lb
      · have h4 : (3000 : Int) < (lb : Int) := by omega
        go_wp2_with fail
        go_ret
        exact ⟨rfl, B2.out⟩
      · have h4 : (lb : Int) ≤ 3000 := by omega
        have hz3 : ((lb : Int) == 0) = false := by simp; omega
        obtain ⟨k, HK⟩ : ∃ k : Nat, Hid (cut % (lb : Int) = (k : Int)) := ⟨(cut % (lb : Int)).toNat, by show _ = _; have := Int.emod_nonneg cut hz1; omega⟩
        have hk1 : cut % (lb : Int) = (k : Int) := HK.out
        have hk2 : cut.tmod (lb : Int) = (k : Int) := by rw [Int.tmod_eq_emod_of_nonneg h0]; exact HK.out
        have hk3 : (k : Int) < (lb : Int) := by rw [← hk1]; exact Int.emod_lt_of_pos cut hz2
        obtain ⟨gb, cb', eb, _, _, hcb, hrb⟩ := own_cell HBV.out (by omega)
        cases eb
        have hk4 : (k : Int) ≤ (cb : Int) := by omega
        have HRB : Hid (w2.rangeAt gb 0 (ints .u8 (Cd.enc ps))) := hrb
        clear hrb HK
        have hkn : k < lb := by omega
        go_wp2_with fail
        clear hk1 hk2
        refine (read_cut ps a n c w.heap.size _ w w2 HN.out (by omega) HP.out B2.out HE.out x2 k ?hs (by rw [HLB.out]; exact hkn)).mono ?_
        case hs =>
          refine Src.row (fun x hx => HSX.out x (List.mem_of_mem_take hx)) ?_ (range_take HRB.out k) ?_
          · rw [List.length_take]; omega
          · rw [List.length_take, HLB.out]; omega
        rintro e w3 ⟨rfl, b3⟩
        have B3 : Hid (Below w.heap.size w w3) := B2.out.trans (bel_le b3 B2.out.size)
        have Z3 : Hid (w.heap.size < w3.heap.size) := Nat.lt_of_lt_of_le Z2.out b3.size
        have x3 : w3.cell? ⟨w.heap.size, 0, none⟩ = some (.slice a n c) := (b3.cell (p := ⟨w.heap.size, 0, none⟩) Z2.out).trans x2
        have HS3 : Hid (Src w3 (.slice (some ⟨gb, 0, none⟩) lb cb) (Cd.enc ps)) := (Src.own HSX.out HBV.out).below b3
        clear b3 x2 Z2 B2 HBV HRB hk3 hk4
        go_wp2_with (first | with_reducible (refine stop_builtin_g .append ?_))
        refine Stop.go ?_
        refine unguard rfl ?_
        have hs4 : Src (w3.alloc (.cells #[] 5)) (.slice (some ⟨gb, 0, none⟩) lb cb) (Cd.enc ps) := HS3.out.below ((Below.refl _ w3).alloc (Nat.le_refl _) _)
        refine law_append_grow w3.heap.size (.slice (some ⟨w3.heap.size, 0, none⟩) 0 0) 0 [] _ (Cd.enc ps) rfl rfl (own_built w3) hs4 (by rw [HLB.out]; omega) (by simp) ?_
        intro v5 w5 h5 g5
        have HV5 : Hid (w5.ownsRow w3.heap.size 5 1 v5 lb (ints .u8 (Cd.enc ps))) := by
          rw [Nat.zero_add, HLB.out] at h5
          exact h5
        have b5 : Below w3.heap.size w3 w5 := ((Below.refl _ w3).alloc (Nat.le_refl _) _).trans (g5.below (own_built w3) (by simp))
        have HB5 : Hid (Below w3.heap.size w3 w5) := b5
        clear h5 g5 b5 hs4 HS3
        go_wp2_with (first | with_reducible (refine stop_builtin_g .append ?_))
        refine Stop.go ?_
        refine unguard rfl ?_
        have hs6 : Src w5 (.slice ma mn mc) lm := (HSM.out.keep (B3.out.trans (bel_le HB5.out B3.out.size))).1
        refine law_append_grow w3.heap.size v5 lb (Cd.enc ps) _ lm rfl rfl HV5.out hs6 (by rw [HLM.out]; omega) HB5.out.size ?_
        intro v6 w6 h6 g6
        have b6 : Below w3.heap.size w3 w6 := HB5.out.trans (g6.below HV5.out HB5.out.size)
        have B6 : Hid (Below w.heap.size w w6) := B3.out.trans (bel_le b6 B3.out.size)
        have x6 : w6.cell? ⟨w.heap.size, 0, none⟩ = some (.slice a n c) := (b6.cell (p := ⟨w.heap.size, 0, none⟩) Z3.out).trans x3
        have HS6 : Hid (Src w6 v6 (Cd.enc ps ++ lm)) := Src.own (fun x hx => by
          rcases List.mem_append.1 hx with hx | hx
          · exact HSX.out x hx
          · exact HSM.out.1.small x hx) h6
        have HRO : ∀ W, W = w6 → Calls Try.prog 22 #[v6, .pointer (some ⟨w.heap.size, 0, none⟩)] W fun e w' => e = .returned (.bool (decide (mn = 0))) ∧ Hid (Below w.heap.size w w') := by
          rintro W rfl
          have h7 := read_ok ps a n c w.heap.size v6 w W HN.out (by omega) HP.out B6.out HE.out x6 lm HS6.out (by rw [HLM.out]; omega)
          rw [HLM.out] at h7
          refine h7.mono ?_
          rintro e w' ⟨rfl, b7⟩
          exact ⟨rfl, B6.out.trans (bel_le b7 B6.out.size)⟩
        clear h6 g6 b6 hs6 x3 x6 Z3 B3 HV5 HB5 HS6 B6
        by_cases hm0 : mn = 0
        · subst hm0
          go_wp2_with fail
          refine (HRO _ rfl).mono ?_
          rintro e w7 ⟨rfl, B7⟩
          go_wp2_with fail
          go_ret
          exact ⟨rfl, B7.out⟩
        · have hm1 : ((mn : Int) == 0) = false := by simp; omega
          have hm2 : decide (mn = 0) = false := by simpa using hm0
          rw [hm2] at HRO
          go_wp2_with fail
          refine (HRO _ rfl).mono ?_
          rintro e w7 ⟨rfl, B7⟩
          go_wp2_with fail
          go_ret
          exact ⟨rfl, B7.out⟩
  · obtain ⟨rfl, b2⟩ := h2.bad he
    have hz : ¬ ((Cd.err ps : Nat) : Int) = 0 := by omega
    clear h2 b2 HPT he
    generalize Cd.err ps = er at *
    go_wp2_with fail
    go_ret
    exact ⟨rfl, B2.out⟩
theorem cuts_any (a : Option Addr) (n c : Nat) (cut : Int) (ma : Option Addr) (mn mc : Nat) (w : World) (h : n ≤ 9223372036854775807 ∧ ∃ ps : List Pt, ps.length = n ∧ PartRow w a ps) (h2 : RowIs w ma mn mc) :
    Calls Try.prog 5 #[.slice a n c, .int .i64 cut, .slice ma mn mc] w fun e w' => e = .returned (.bool true) ∧ Below w.heap.size w w' := by
  obtain ⟨gn, ps, hn, hp⟩ := h
  cases hs : sm ps with
  | false => exact cuts_e1 ps a n c cut ma mn mc w hn gn hp hs
  | true =>
    by_cases h8 : 8 < n
    · exact cuts_e2 ps a n c cut ma mn mc w hn gn hp hs h8
    · by_cases h0 : cut < 0
      · exact cuts_e3 ps a n c cut ma mn mc w hn gn hp hs (by omega) h0
      · by_cases hm : 100 < mn
        · exact cuts_e4 ps a n c cut ma mn mc w hn gn hp hs (by omega) h0 hm h2.max
        · obtain ⟨lm, hlm, hsm⟩ := Src.of h2
          exact cuts_main ps a n c cut ma mn mc w hn gn hp hs (by omega) (by omega) lm hlm (by omega) hsm
end Go.Proofs.Ytcpojjhopbcjkaa.C8
