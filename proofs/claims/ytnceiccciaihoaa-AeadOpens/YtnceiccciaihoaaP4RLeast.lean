/- The document's answer: least. -/
import Derived.Test.YtnceiccciaihoaaP4RLess
namespace Go.Proofs.Ytnceiccciaihoaa.P4
open Go.RowKit
theorem own_there {w : World} {base n : Nat} {g c : Nat} {k : IntKind} {e : TypeId} {l : List Nat} (h : w.ownsRow base e 1 (.slice (some ⟨g, 0, none⟩) n c) n (ints k l)) : w.there g 0 n ∧ base ≤ g := by
  obtain ⟨hl, ⟨h0, _⟩ | ⟨g', cap, cur, hv, hg, hh, hn, hm, hc, ht⟩⟩ := h
  · cases h0
  · cases hv
    exact ⟨there_of_row hh n (by omega), hg⟩
theorem b16_four {b : List Nat} (hb : ∀ x ∈ b, x < 256) (h1 : Po.B ^ 5 ≤ Po.pos 256 b) (h2 : Po.pos 256 b < Po.B ^ 5 + 5) : 4 ≤ Sp.nth b 16 ∧ 16 < b.length := by
  have hz : ∀ i, 17 ≤ i → Sp.nth b i = 0 := fun i hi => by
    rcases Nat.eq_zero_or_pos (Sp.nth b i) with h | h
    · exact h
    · have hl : i < b.length := by
        apply Decidable.byContradiction
        intro hn
        rw [nth_beyond (by omega)] at h
        omega
      have := high_at hi hl h
      have := big17
      omega
  have h4 : 4 ≤ Sp.nth b 16 := by
    apply Decidable.byContradiction
    intro hn
    have := low_of hb hz (by omega)
    omega
  refine ⟨h4, ?_⟩
  apply Decidable.byContradiction
  intro hn
  rw [nth_beyond (by omega)] at h4
  omega
structure Leasted (a out : List Nat) : Prop where
  small : ∀ x ∈ out, x < 256
  val : Po.pos 256 out = Po.pos 256 a % Po.P
  len : out.length ≤ max a.length 18 + 1
set_option maxHeartbeats 1000000 in
theorem rleast_any (a : List Nat) (va : Value) (w : World) (hva : NumIs w va a) (ha : ∀ x ∈ a, x < 256) (hal : a.length ≤ 900) :
    Calls Try.prog 46 #[va] w fun e w' => ∃ v out, e = .returned v ∧ NumIs w' v out ∧ Leasted a out ∧ Below w.heap.size w w' := by
  have HC := less_any a va w hva ha hal
  clear hva ha
  go_enter Try.func46, Try.ntmps46
  go_wp2_with fail
  refine HC.mono ?_
  rintro e w1 ⟨v1, a1, rfl, hn1, hl1, hs1, hb1⟩
  clear HC
  have HN1 : Hid (NumIs w1 v1 a1) := hn1
  have HL1 : Hid (Lessed a a1) := hl1
  have HS1 : Hid (Po.pos 256 a1 < Po.B ^ 5) := hs1
  have HB1 : Hid (Below w.heap.size w w1) := hb1
  have hlen := hl1.len
  clear hn1 hl1 hs1 hb1
  go_wp2_with fail
  have hb5 : Below w1.heap.size w1 (w1.alloc (Obj.cells (arr .i64 [5]) 3)) := (Below.refl _ _).alloc (Nat.le_refl _) _
  have h5N : NumIs (w1.alloc (Obj.cells (arr .i64 [5]) 3)) (.slice (some ⟨w1.heap.size, 0, none⟩) 1 1) [5] := own_num (own_int_lit (base := 0) [5] (by omega) (by decide))
  refine (add_any a1 [5] v1 _ _ (HN1.out.below hb5) h5N HL1.out.small (by decide) (by omega) (by decide)).mono ?_
  rintro e w2 ⟨v2, b, rfl, hadd, ho2, hb2⟩
  have hbb : Below w1.heap.size w1 w2 := hb5.trans (hb2.mono hb5.size)
  have HN2 : Hid (NumIs w2 v1 a1) := HN1.out.below hbb
  have HB2 : Hid (Below w.heap.size w w2) := HB1.out.trans (hbb.mono HB1.out.size)
  have HAD : Hid (Added a1 [5] b) := hadd
  have hs12 := HB1.out.size
  have ho2' : w2.ownsRow w.heap.size 3 1 v2 b.length (ints .i64 b) := own_base ho2 (by simp; omega)
  have HO2 : Hid (w2.ownsRow w.heap.size 3 1 v2 b.length (ints .i64 b)) := ho2'
  have hbl : b.length ≤ max a.length 18 + 1 := by
    have h1 := hadd.up
    have h2 : ([5] : List Nat).length = 1 := rfl
    rw [h2] at h1
    omega
  have hbv : Po.pos 256 b = Po.pos 256 a1 + 5 := by
    have h1 := hadd.val
    have h2 : Po.pos 256 [5] = 5 := by decide
    rw [h2] at h1
    exact h1
  have HBV : Hid (Po.pos 256 b = Po.pos 256 a1 + 5) := hbv
  have hhi := high_any b v2 w2 (own_num ho2') hadd.small (by omega)
  clear hb5 h5N hadd ho2 hb2 hbb HN1 HB1 hbv ho2'
  go_wp2_with fail
  refine hhi.mono ?_
  rintro e w3 ⟨hs, rfl⟩
  clear hhi
  rcases hs with ⟨rfl, hbig⟩ | ⟨rfl, hsmall⟩
  · obtain ⟨h4, h16⟩ := b16_four HAD.out.small hbig (by have := HBV.out; have := HS1.out; omega)
    obtain ⟨g, c, rfl, hgb, hgl, hcl, hr⟩ := own_cell HO2.out (by omega)
    obtain ⟨hth, _⟩ := own_there HO2.out
    have c16 := range_cell hr 16 h16
    rw [Nat.zero_add] at c16
    have f16 := (hth 16 h16).2
    rw [Nat.zero_add] at f16
    have HRN : Hid ((w3.setCell ⟨g, 16, none⟩ (.int .i64 ((Sp.nth b 16 - 4 : Nat) : Int))).rangeAt g 0 (ints .i64 (b.set 16 (Sp.nth b 16 - 4)))) := rangeAt_set hr hth 16 _ h16
    have HBN : Hid (Below w.heap.size w (w3.setCell ⟨g, 16, none⟩ (.int .i64 ((Sp.nth b 16 - 4 : Nat) : Int)))) := HB2.out.setCell hgb _
    have x16 : Sp.nth b 16 < 256 := Sp.nth_lt (by decide) HAD.out.small 16
    have HLE : Hid (Leasted a (b.set 16 (Sp.nth b 16 - 4))) := by
      refine ⟨fun x hx => ?_, ?_, by rw [List.length_set]; exact hbl⟩
      · rcases List.mem_or_eq_of_mem_set hx with h | rfl
        · exact HAD.out.small x h
        · omega
      · have h1 := pos_lower (b := 256) (l := b) (i := 16) (u := Sp.nth b 16 - 4) (d := 4) h16 (by omega)
        have h2 := HBV.out
        have h3 := HS1.out
        have h5 : Po.B ^ 5 = 256 ^ 16 * 4 := by decide
        have h6 := mod_once h3 (by rw [← h2]; exact hbig)
        rw [← HL1.out.same, ← h6, h5]
        omega
    have HBLN : Hid ((b.set 16 (Sp.nth b 16 - 4)).length = b.length) := List.length_set
    clear hr hth hgl HAD HBV HO2
    generalize b.set 16 (Sp.nth b 16 - 4) = out at *
    have e1 : ((Sp.nth b 16 - 4 : Nat) : Int) = ((Sp.nth b 16 : Nat) : Int) - 4 := by omega
    rw [e1] at HRN HBN
    generalize Sp.nth b 16 = y at *
    generalize b.length = lb at *
    have k16 : (16 : Int) < (lb : Int) := by omega
    clear e1
    go_wp2_with fail
    go_ret
    have hN : NumIs (w3.setCell ⟨g, 16, none⟩ (.int .i64 ((y : Int) - 4))) (.slice (some ⟨g, 0, none⟩) lb c) out := ⟨_, c, by rw [HBLN.out], by rw [HBLN.out]; omega, fun _ => ⟨g, 0, rfl, HRN.out⟩⟩
    first
      | exact ⟨_, rfl, out, hN, HLE.out, HBN.out⟩
      | exact ⟨_, out, rfl, hN, HLE.out, HBN.out⟩
  · have HLE : Hid (Leasted a a1) := by
      refine ⟨HL1.out.small, ?_, by omega⟩
      rw [← HL1.out.same]
      have h2 := HBV.out
      rw [h2, Po.B5] at hsmall
      exact (Nat.mod_eq_of_lt (by omega)).symm
    clear hsmall HAD HBV HO2
    go_wp2_with fail
    go_ret
    first
      | exact ⟨_, rfl, a1, HN2.out, HLE.out, HB2.out⟩
      | exact ⟨_, a1, rfl, HN2.out, HLE.out, HB2.out⟩
end Go.Proofs.Ytnceiccciaihoaa.P4
