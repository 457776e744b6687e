/- The statement on bytes that are read as records. -/
import Derived.Test.YtfjdaafckiefdaaGreatDoorS15Same
import Derived.Test.YtfjdaafckiefdaaGreatDoorS15Anc
import Derived.Test.YtfjdaafckiefdaaGreatDoorMgC
namespace Go.Proofs.YtfjdaafckiefdaaGreatDoor.S15
open Go.RowKit C8 E9
theorem box5 (W : World) (t : TypeId) (x0 x1 x2 x3 x4 v0 v1 v2 v3 v4 : Value) :
    ((((((W.alloc (.cells #[x0, x1, x2, x3, x4] t)).setCell ⟨W.heap.size, 0, none⟩ v0).setCell ⟨W.heap.size, 1, none⟩ v1).setCell ⟨W.heap.size, 2, none⟩ v2).setCell ⟨W.heap.size, 3, none⟩ v3).setCell ⟨W.heap.size, 4, none⟩ v4).heap[W.heap.size]? = some (.cells #[v0, v1, v2, v3, v4] t (0, 0)) ∧
    Below W.heap.size W ((((((W.alloc (.cells #[x0, x1, x2, x3, x4] t)).setCell ⟨W.heap.size, 0, none⟩ v0).setCell ⟨W.heap.size, 1, none⟩ v1).setCell ⟨W.heap.size, 2, none⟩ v2).setCell ⟨W.heap.size, 3, none⟩ v3).setCell ⟨W.heap.size, 4, none⟩ v4) :=
  ⟨row5 (heap_alloc_new W _) _ _ _ _ _, bel5 (S7.below_alloc' W _) (Nat.le_refl _) _ _ _ _ _⟩
set_option maxHeartbeats 1000000 in
set_option maxRecDepth 10000 in
theorem decodes_main (l : List Nat) (q : Option Addr) (n c : Nat) (w : World) (hl : l.length = n) (hs : Src w (.slice q n c) l) (hm : n ≤ 9223372036854775807) (ho : l ≠ [] → ∀ k, (Value.slice q n c).ownBlock = some k → k < w.heap.size) :
    Calls Tryz.prog 4 #[.slice q n c] w fun e w' => e = .returned (.bool true) ∧ Below w.heap.size w w' := by
  have HL := hid hl
  have HS := hid hs
  have HO : Hid (l ≠ [] → ∀ k, (Value.slice q n c).ownBlock = some k → k < w.heap.size) := ho
  clear hl hs ho
  have n9 : (n : Int) ≤ 9223372036854775807 := by omega
  go_enter Tryz.func4, Tryz.ntmps4
  go_wp2_with fail
  refine (anchor_any _).mono ?_
  rintro e w1 ⟨rfl, h1⟩
  have B1 := hid h1
  clear h1
  by_cases hn : 2500 < (n : Int)
  · clear HL HS HO
    go_wp2_with fail
    go_ret
    exact ⟨rfl, B1.out⟩
  go_wp2_with fail
  refine (Decode_any _ l w1 (HS.out.below B1.out) (by have := HL.out; omega)).mono ?_
  rintro e w2 ⟨h1, h2⟩
  have B2 : Hid (Below w.heap.size w w2) := B1.out.trans (h1.mono B1.out.size)
  have Z1 : Hid (w.heap.size ≤ w1.heap.size) := B1.out.size
  clear h1 B1
  have HB := hid (rdec_both HS.out.small)
  cases hd : rdec false l with
  | none =>
    rw [hd] at h2 HB
    simp only at h2
    subst h2
    clear hd
    unfold z5
    go_wp2_with fail
    obtain ⟨r3, b3⟩ := (⟨heap_alloc_new w2 _, S7.below_alloc' w2 _⟩ : (w2.alloc (.cells #[.int .i64 0, .int .i64 0, .int .i64 0, .int .i64 0, .slice none 0 0] 24)).heap[w2.heap.size]? = some (.cells #[.int .i64 0, .int .i64 0, .int .i64 0, .int .i64 0, .slice none 0 0] 24 (0, 0)) ∧ Below w2.heap.size w2 (w2.alloc (.cells #[.int .i64 0, .int .i64 0, .int .i64 0, .int .i64 0, .slice none 0 0] 24)))
    have B3 : Hid (Below w.heap.size w (w2.alloc (.cells #[.int .i64 0, .int .i64 0, .int .i64 0, .int .i64 0, .slice none 0 0] 24))) := B2.out.trans (b3.mono B2.out.size)
    have Q3 := hid r3
    clear r3 b3 B2
    generalize w2.alloc (.cells #[.int .i64 0, .int .i64 0, .int .i64 0, .int .i64 0, .slice none 0 0] 24) = W3 at *
    generalize w2.heap.size = b3 at *
    refine (Read_any _ l W3 (HS.out.below B3.out) (by have := HL.out; omega) (fun hne k hk => Nat.lt_of_lt_of_le (HO.out hne k hk) B3.out.size)).mono ?_
    rintro e w4 ⟨h1, h2⟩
    rw [HB.out] at h2
    simp only at h2
    subst h2
    clear HB HL HS HO
    unfold z5
    have Q4 : Hid (w4.heap[b3]? = some (.cells #[.int .i64 0, .int .i64 0, .int .i64 0, .int .i64 0, .slice none 0 0] 24 (0, 0))) := (h1.block _ (Array.getElem?_eq_some_iff.1 Q3.out).1).trans Q3.out
    have B4 := hid (B3.out.trans (h1.mono B3.out.size))
    clear h1 B3 Q3
    have b5 := S7.below_alloc' w4 (.cells #[.int .i64 0, .int .i64 0, .int .i64 0, .int .i64 0, .slice none 0 0] 26)
    have Q5 : Hid ((w4.alloc (.cells #[.int .i64 0, .int .i64 0, .int .i64 0, .int .i64 0, .slice none 0 0] 26)).heap[b3]? = some (.cells #[.int .i64 0, .int .i64 0, .int .i64 0, .int .i64 0, .slice none 0 0] 24 (0, 0))) := (b5.block _ (Array.getElem?_eq_some_iff.1 Q4.out).1).trans Q4.out
    have B5 := hid (B4.out.trans (b5.mono B4.out.size))
    have HSM : Hid (∀ W, Calls Tryz.prog 15 #[.agg #[.int .i64 0, .int .i64 0, .int .i64 0, .int .i64 0, .slice none 0 0], .agg #[.int .i64 0, .int .i64 0, .int .i64 0, .int .i64 0, .slice none 0 0]] W fun e w' => e = .returned (.bool true) ∧ Below W.heap.size W w') := fun W => rsame_any W ⟨0, 0, 0, 0, []⟩ ⟨0, 0, 0, 0, []⟩ none none 0 0 (Src.nil _) (Src.nil _)
    obtain ⟨a0, a1, a2, a3, a4, af⟩ := rec_cells Q5.out
    obtain ⟨y0, y1, y2, y3, y4, yf⟩ := rrec_cells (heap_alloc_new w4 (.cells #[.int .i64 0, .int .i64 0, .int .i64 0, .int .i64 0, .slice none 0 0] 26))
    clear b5 B4 Q4
    go_wp2_with fail
    refine (HSM.out _).mono ?_
    rintro e w6 ⟨rfl, h1⟩
    have Q6 : Hid (w6.heap[b3]? = some (.cells #[.int .i64 0, .int .i64 0, .int .i64 0, .int .i64 0, .slice none 0 0] 24 (0, 0))) := (h1.block _ (Array.getElem?_eq_some_iff.1 Q5.out).1).trans Q5.out
    have B6 := hid (B5.out.trans (h1.mono B5.out.size))
    clear h1 B5 Q5 a0 a1 a2 a3 a4 af y0 y1 y2 y3 y4 yf HSM
    obtain ⟨a0, a1, a2, a3, a4, af⟩ := rec_cells Q6.out
    go_wp2_with fail
    refine (Encode_any ⟨0, 0, 0, 0, []⟩ none 0 w6 (Src.nil _)).mono ?_
    rintro e w7 ⟨h1, ⟨h2, _⟩ | ⟨_, rfl⟩⟩
    · exact absurd h2 (by decide)
    have B7 := hid (B6.out.trans (h1.mono B6.out.size))
    clear h1 B6 Q6 a0 a1 a2 a3 a4 af
    go_wp2_with fail
    go_ret
    exact ⟨rfl, B7.out⟩
  | some r =>
    rw [hd] at h2 HB
    obtain ⟨vq, vc, rfl, hf⟩ := h2
    obtain ⟨hr, hbs⟩ := (rdec_iff false HS.out.small r).1 hd
    have HR := hid hr
    have HBS := hid hbs
    clear hd hr hbs
    have HV : Hid (∀ W, Below w2.heap.size w2 W → Src W (.slice vq r.box.length vc) r.box) := fun W hW => (hf.below hW).src
    have HSM : Hid (∀ W uq uc, Below w2.heap.size w2 W → Src W (.slice uq r.box.length uc) r.box → Calls Tryz.prog 15 #[.agg (RecV r vq vc), .agg (RecV r uq uc)] W fun e w' => e = .returned (.bool true) ∧ Below W.heap.size W w') := fun W uq uc hW hu => (rsame_any W r r vq uq vc uc (HV.out W hW) hu).mono (by
      rintro e w' ⟨rfl, h⟩
      rw [(rsame_iff r r).2 rfl]
      exact ⟨rfl, h⟩)
    have HEN : Hid (∀ W, Below w2.heap.size w2 W → Calls Tryz.prog 10 #[.agg (RecV r vq vc)] W fun e w' => ∃ v, e = .returned (.tuple #[v, .int .i64 0]) ∧ w'.ownsRow W.heap.size 5 1 v l.length (ints .u8 l) ∧ Below W.heap.size W w') := fun W hW => (Encode_any r vq vc W (HV.out W hW)).mono (by
      rintro e w' ⟨h1, ⟨_, v, rfl, h3⟩ | ⟨h2, _⟩⟩
      · rw [← HBS.out] at h3
        exact ⟨v, rfl, h3, h1⟩
      · rw [HR.out] at h2; cases h2)
    clear hf HV HR HBS Z1
    have HRD : Hid (∀ W, Below w2.heap.size w2 W → Calls Tryz.prog 16 #[.slice q n c] W fun e w' => ∃ uq uc, e = .returned (.tuple #[.agg (RecV r uq uc), .bool true]) ∧ Src w' (.slice uq r.box.length uc) r.box ∧ Below W.heap.size W w') := fun W hW => (Read_any _ l W (HS.out.below (B2.out.trans (hW.mono B2.out.size))) (by have := HL.out; omega) (fun hne k hk => Nat.lt_of_lt_of_le (HO.out hne k hk) (Nat.le_trans B2.out.size hW.size))).mono (by
      rintro e w' ⟨h1, h2⟩
      rw [HB.out] at h2
      obtain ⟨uq, uc, rfl, h3⟩ := h2
      exact ⟨uq, uc, rfl, h3, h1⟩)
    clear HB HO
    obtain ⟨n1, n2, n3, n4, bx⟩ := r
    simp only [RecV] at *
    generalize bx.length = bl at *
    go_wp2_with fail
    have b3 := S7.below_alloc' w2 (.cells #[.int .i64 n1, .int .i64 n2, .int .i64 n3, .int .i64 n4, .slice vq bl vc] 24)
    have Q3 := hid (heap_alloc_new w2 (.cells #[.int .i64 n1, .int .i64 n2, .int .i64 n3, .int .i64 n4, .slice vq bl vc] 24))
    have B3 := hid b3
    clear b3
    generalize w2.alloc (.cells #[.int .i64 n1, .int .i64 n2, .int .i64 n3, .int .i64 n4, .slice vq bl vc] 24) = W3 at *
    refine (HRD.out W3 B3.out).mono ?_
    rintro e w4 ⟨uq, uc, rfl, hu, h1⟩
    have Q4 : Hid (w4.heap[w2.heap.size]? = some (.cells #[.int .i64 n1, .int .i64 n2, .int .i64 n3, .int .i64 n4, .slice vq bl vc] 24 (0, 0))) := (h1.block _ (Array.getElem?_eq_some_iff.1 Q3.out).1).trans Q3.out
    have B4 := hid (B3.out.trans (h1.mono B3.out.size))
    have HU := hid hu
    clear hu h1 B3 Q3 HRD
    have b5 := S7.below_alloc' w4 (.cells #[.int .i64 n1, .int .i64 n2, .int .i64 n3, .int .i64 n4, .slice uq bl uc] 26)
    have Q5 : Hid ((w4.alloc (.cells #[.int .i64 n1, .int .i64 n2, .int .i64 n3, .int .i64 n4, .slice uq bl uc] 26)).heap[w2.heap.size]? = some (.cells #[.int .i64 n1, .int .i64 n2, .int .i64 n3, .int .i64 n4, .slice vq bl vc] 24 (0, 0))) := (b5.block _ (Array.getElem?_eq_some_iff.1 Q4.out).1).trans Q4.out
    have B5 := hid (B4.out.trans (b5.mono B4.out.size))
    have HU5 := hid (HU.out.below b5)
    obtain ⟨a0, a1, a2, a3, a4, af⟩ := rec_cells Q5.out
    obtain ⟨y0, y1, y2, y3, y4, yf⟩ := rrec_cells (heap_alloc_new w4 (.cells #[.int .i64 n1, .int .i64 n2, .int .i64 n3, .int .i64 n4, .slice uq bl uc] 26))
    clear b5 B4 Q4 HU
    go_wp2_with fail
    refine (HSM.out _ uq uc B5.out HU5.out).mono ?_
    rintro e w6 ⟨rfl, h1⟩
    have Q6 : Hid (w6.heap[w2.heap.size]? = some (.cells #[.int .i64 n1, .int .i64 n2, .int .i64 n3, .int .i64 n4, .slice vq bl vc] 24 (0, 0))) := (h1.block _ (Array.getElem?_eq_some_iff.1 Q5.out).1).trans Q5.out
    have B6 := hid (B5.out.trans (h1.mono B5.out.size))
    clear h1 B5 Q5 HU5 a0 a1 a2 a3 a4 af y0 y1 y2 y3 y4 yf HSM
    obtain ⟨a0, a1, a2, a3, a4, af⟩ := rec_cells Q6.out
    go_wp2_with fail
    refine (HEN.out w6 B6.out).mono ?_
    rintro e w7 ⟨v, rfl, h1, h2⟩
    have hsm := HS.out.small
    have B7 := hid (B2.out.trans ((B6.out.trans (h2.mono B6.out.size)).mono B2.out.size))
    have cv1 : (convert 22 9 v).run Tryz.prog w7 = .ok (.string (strB l)) w7 := conv_src (Src.own hsm h1)
    have cv2 : (convert 22 9 (.slice q n c)).run Tryz.prog w7 = .ok (.string (strB l)) w7 := conv_src (HS.out.below B7.out)
    obtain ⟨zq, zc, rfl⟩ := S7.own_slice h1
    have hbe : ((strB l).toList == (strB l).toList) = true := beq_self_eq_true _
    clear h1 h2 hsm B6 B2 Q6 a0 a1 a2 a3 a4 af HEN HS
    generalize strB l = st at *
    generalize l.length = ln at *
    go_wp2_with fail
    go_ret
    exact ⟨rfl, B7.out⟩
theorem decodes_law (W : World) (a : Option Addr) (n c : Nat) (w0 : RowIs W a n c) :
    Calls Tryz.prog 4 #[.slice a n c] W fun e w' => e = .returned (.bool true) ∧ Below W.heap.size W w' := by
  obtain ⟨l, hl, hs⟩ := Src.of w0
  refine decodes_main l a n c W hl hs w0.max (fun hne k hk => ?_)
  rcases w0 with ⟨rfl, rfl⟩ | ⟨b, o, m, rfl, _, _, _, _, _, hb⟩
  · exact absurd (List.length_eq_zero_iff.1 hl) hne
  · cases hk
    exact hb
end Go.Proofs.YtfjdaafckiefdaaGreatDoor.S15
