/- The contract of Apply. -/
import Derived.Test.YtigfiopmochliaaD11Leaf
import Derived.Test.YtigfiopmochliaaE9Right
import Derived.RegionTactic
import Derived.BigRegion
namespace Go.Proofs.Ytigfiopmochliaa.D11
open Go.RowKit C8 E9
theorem DcIs.drew {w : World} {p b : Nat} {L : Col} (h : DcIs w p b L) : DcIs w.drew p b L := ⟨h.blk, h.own.drew, h.ok, h.few⟩
theorem after_wrong (L : Col) {a : En} (h : right a = false) : after L a = (L, 10) := by simp [after, h]
theorem after_put (L : Col) {a : En} (h : right a = true) (k : a.kind = 1) : after L a = (ins a.name a.value L, 0) := by simp [after, h, k]
theorem after_drop (L : Col) {a : En} (h : right a = true) (k : a.kind = 2) (g : (get a.name L).isSome = true) : after L a = (del a.name L, 0) := by simp [after, h, k, g]
theorem after_none (L : Col) {a : En} (h : right a = true) (k : a.kind = 2) (g : (get a.name L).isSome = false) : after L a = (L, 32) := by simp [after, h, k, g]
theorem after_other (L : Col) {a : En} (h : right a = true) (k : ¬ a.kind = 1) (k2 : ¬ a.kind = 2) : after L a = (L, 0) := by simp [after, h, k, k2]
/-- What a call of Apply leaves. -/
def ApSays (w : World) (p b : Nat) (L : Col) (a : En) (e : Ending) (w' : World) : Prop := e = .returned (.int .i64 (after L a).2) ∧ DcIs w' p b (after L a).1 ∧ Only [b] w w'
theorem apSays_of {w w' : World} {p b : Nat} {L M : Col} {a : En} {e : Ending} {n : Int} (h : after L a = (M, n)) (h1 : e = .returned (.int .i64 n)) (h2 : DcIs w' p b M) (h3 : Only [b] w w') : ApSays w p b L a e w' := by
  unfold ApSays
  rw [h]
  exact ⟨h1, h2, h3⟩
set_option maxHeartbeats 4000000 in
theorem apply_wrong (w : World) (p b : Nat) (L : Col) (a : En) (va : Value) (h : DcIs w p b L) (ha : EnIs w va a) (hr : right a = false)  :
    Calls Try.prog 11 #[.pointer (some ⟨p, 0, none⟩), va] w fun e w' => ApSays w p b L a e w' := by
  have hA := ha
  obtain ⟨np, nc, vp, vc, q, c, rfl, ha⟩ := ha
  have e0 : EnV a np nc vp vc q c = enC a.kind a.writer a.seq np a.name.length nc vp a.value.length vc a.who a.rights a.epoch q a.wraps.length c := rfl
  rw [e0] at hA ⊢
  obtain ⟨W, HW⟩ : ∃ W, Hid (w.alloc (.cells (enC a.kind a.writer a.seq np a.name.length nc vp a.value.length vc a.who a.rights a.epoch q a.wraps.length c) 30) = W) := ⟨_, rfl⟩
  have HB : Hid (Below w.heap.size w W) := by rw [← HW.out]; exact bel_alloc (Nat.le_refl _) _
  have hsz : W.heap.size = w.heap.size + 1 := by rw [← HW.out]; simp
  have HCC : Hid (W.heap[w.heap.size]? = some (.cells (enC a.kind a.writer a.seq np a.name.length nc vp a.value.length vc a.who a.rights a.epoch q a.wraps.length c) 30 (0, 0))) := by rw [← HW.out]; exact heap_alloc_new w _
  have HX : Calls Try.prog 25 #[.agg (enC a.kind a.writer a.seq np a.name.length nc vp a.value.length vc a.who a.rights a.epoch q a.wraps.length c)] W fun e w' => e = .returned (.bool false) ∧ Below W.heap.size W w' := by rw [← hr]; exact Right_any a _ W (hA.below HB.out)
  have HR : Hid (∀ e w', (e = .returned (.int .i64 10)) → DcIs w' p b L → Only [b] w w' → ApSays w p b L a e w') := fun e w' h1 h2 h3 => apSays_of (after_wrong L hr) h1 h2 h3
  have HD : Hid (∀ w', Below W.heap.size W w' → DcIs w' p b L) := fun w' hb => (h.below HB.out).below hb
  have HENC : Hid (∀ w', Below W.heap.size W w' → w'.heap[w.heap.size]? = some (.cells (enC a.kind a.writer a.seq np a.name.length nc vp a.value.length vc a.who a.rights a.epoch q a.wraps.length c) 30 (0, 0))) := fun w' hb => (hb.block _ (by omega)).trans HCC.out
  have HLT : Hid (W.heap.size = w.heap.size + 1) := hsz
  generalize a.kind = ki at *
  generalize a.name.length = n4 at *
  generalize a.value.length = n5 at *
  generalize a.wraps.length = n9 at *
  unfold enC at *
  have HW0 : Hid (w.alloc (.cells #[.int .i64 ki, .int .i64 a.writer, .int .i64 a.seq, .slice np n4 nc, .slice vp n5 vc, .int .i64 a.who, .int .i64 a.rights, .int .i64 a.epoch, .slice q n9 c] 30) = W) := HW
  have HC0 : Hid (∀ w', Below W.heap.size W w' → w'.cell? ⟨w.heap.size, 0, none⟩ = some (.int .i64 ki)) := fun w' hb => by rw [cell_of_row _ _ _ _ _ _ (HENC.out w' hb)]; rfl
  have HC3 : Hid (∀ w', Below W.heap.size W w' → w'.cell? ⟨w.heap.size, 3, none⟩ = some (.slice np n4 nc)) := fun w' hb => by rw [cell_of_row _ _ _ _ _ _ (HENC.out w' hb)]; rfl
  have HC4 : Hid (∀ w', Below W.heap.size W w' → w'.cell? ⟨w.heap.size, 4, none⟩ = some (.slice vp n5 vc)) := fun w' hb => by rw [cell_of_row _ _ _ _ _ _ (HENC.out w' hb)]; rfl
  clear hA ha h hr e0 HCC HW HENC
  go_enter Try.func11, Try.ntmps11
  go_wp2_with (first | (go_at_call 25; rw [HW0.out]; with_reducible refine HX.mono ?_; rintro e w1 ⟨rfl, HB1⟩))
  go_ret
  exact HR.out _ _ rfl (HD.out _ HB1) (Only.of_below (HB.out.trans (bel_le HB1 (by omega))) _)
set_option maxHeartbeats 4000000 in
theorem apply_put (w : World) (p b : Nat) (L : Col) (a : En) (va : Value) (h : DcIs w p b L) (ha : EnIs w va a) (hf : L.length < 1000000) (hr : right a = true) (hk : a.kind = 1) :
    Calls Try.prog 11 #[.pointer (some ⟨p, 0, none⟩), va] w fun e w' => ApSays w p b L a e w' := by
  have hA := ha
  obtain ⟨np, nc, vp, vc, q, c, rfl, ha⟩ := ha
  have e0 : EnV a np nc vp vc q c = enC a.kind a.writer a.seq np a.name.length nc vp a.value.length vc a.who a.rights a.epoch q a.wraps.length c := rfl
  rw [e0] at hA ⊢
  obtain ⟨W, HW⟩ : ∃ W, Hid (w.alloc (.cells (enC a.kind a.writer a.seq np a.name.length nc vp a.value.length vc a.who a.rights a.epoch q a.wraps.length c) 30) = W) := ⟨_, rfl⟩
  have HB : Hid (Below w.heap.size w W) := by rw [← HW.out]; exact bel_alloc (Nat.le_refl _) _
  have hsz : W.heap.size = w.heap.size + 1 := by rw [← HW.out]; simp
  have HCC : Hid (W.heap[w.heap.size]? = some (.cells (enC a.kind a.writer a.seq np a.name.length nc vp a.value.length vc a.who a.rights a.epoch q a.wraps.length c) 30 (0, 0))) := by rw [← HW.out]; exact heap_alloc_new w _
  have HX : Calls Try.prog 25 #[.agg (enC a.kind a.writer a.seq np a.name.length nc vp a.value.length vc a.who a.rights a.epoch q a.wraps.length c)] W fun e w' => e = .returned (.bool true) ∧ Below W.heap.size W w' := by rw [← hr]; exact Right_any a _ W (hA.below HB.out)
  have HR : Hid (∀ e w', (e = .returned (.int .i64 0)) → DcIs w' p b (ins a.name a.value L) → Only [b] w w' → ApSays w p b L a e w') := fun e w' h1 h2 h3 => apSays_of (after_put L hr hk) h1 h2 h3
  have HN : Hid (∀ w', Below W.heap.size W w' → Src w' (.slice np a.name.length nc) a.name) := fun w' hb => (ha.name.below HB.out).below hb
  have HV : Hid (∀ w', Below W.heap.size W w' → Src w' (.slice vp a.value.length vc) a.value) := fun w' hb => (ha.value.below HB.out).below hb
  have HD : Hid (∀ w', Below W.heap.size W w' → DcIs w' p b L) := fun w' hb => (h.below HB.out).below hb
  have HPK : Hid (a.kind = 1 → Pok (a.name, a.value)) := fun hk => by
    rcases ((right_iff a).1 hr).2.2 with ⟨_, h1, h2, _⟩ | h1 | h1 | h1 | h1
    · exact ⟨ha.name.small, ha.value.small, h1.2, h2⟩
    all_goals (have := h1.1; omega)
  have HNL : Hid (∀ x ∈ a.name, x < 256) := ha.name.small
  have hnl : a.name.length ≤ 9223372036854775807 := ha.ln
  have HF : Hid (L.length < 1000000) := hf
  have HPK1 : Hid (Pok (a.name, a.value)) := HPK.out hk
  clear HPK hf
  have HENC : Hid (∀ w', Below W.heap.size W w' → w'.heap[w.heap.size]? = some (.cells (enC a.kind a.writer a.seq np a.name.length nc vp a.value.length vc a.who a.rights a.epoch q a.wraps.length c) 30 (0, 0))) := fun w' hb => (hb.block _ (by omega)).trans HCC.out
  have HLT : Hid (W.heap.size = w.heap.size + 1) := hsz
  rw [hk] at *
  clear hk
  generalize a.name.length = n4 at *
  generalize a.value.length = n5 at *
  generalize a.wraps.length = n9 at *
  unfold enC at *
  have HW0 : Hid (w.alloc (.cells #[.int .i64 1, .int .i64 a.writer, .int .i64 a.seq, .slice np n4 nc, .slice vp n5 vc, .int .i64 a.who, .int .i64 a.rights, .int .i64 a.epoch, .slice q n9 c] 30) = W) := HW
  have HC0 : Hid (∀ w', Below W.heap.size W w' → w'.cell? ⟨w.heap.size, 0, none⟩ = some (.int .i64 1)) := fun w' hb => by rw [cell_of_row _ _ _ _ _ _ (HENC.out w' hb)]; rfl
  have HC3 : Hid (∀ w', Below W.heap.size W w' → w'.cell? ⟨w.heap.size, 3, none⟩ = some (.slice np n4 nc)) := fun w' hb => by rw [cell_of_row _ _ _ _ _ _ (HENC.out w' hb)]; rfl
  have HC4 : Hid (∀ w', Below W.heap.size W w' → w'.cell? ⟨w.heap.size, 4, none⟩ = some (.slice vp n5 vc)) := fun w' hb => by rw [cell_of_row _ _ _ _ _ _ (HENC.out w' hb)]; rfl
  clear hA ha h hr e0 HCC HW HENC
  go_enter Try.func11, Try.ntmps11
  go_wp2_with (first | (go_at_call 25; rw [HW0.out]; with_reducible refine HX.mono ?_; rintro e w1 ⟨rfl, HH⟩; have hc0 := HC0.out w1 HH; have hc3 := HC3.out w1 HH; have hc4 := HC4.out w1 HH; have hn := conv_src (HN.out w1 HH)))
  have HD1 := HD.out w1 HH
  have hcp := HD1.cell
  have hv := conv_src (w := w1.drew) (HV.out w1 HH)
  obtain ⟨w2, hu, hd2, ho2⟩ := HD1.drew.put HPK1.out HF.out
  have HD2 : Hid (DcIs w2 p b (ins a.name a.value L)) := hd2
  have HO2 : Hid (Only [b] w1.drew w2) := ho2
  clear HD1 hd2 ho2
  go_region
  go_wp2
  go_ret
  exact HR.out _ _ rfl HD2.out ((Only.of_below (HB.out.trans (bel_le HH (by have := HLT.out; omega))) _).trans ((Only.drewN 1 w1 [b]).trans HO2.out))
set_option maxHeartbeats 4000000 in
theorem apply_none (w : World) (p b : Nat) (L : Col) (a : En) (va : Value) (h : DcIs w p b L) (ha : EnIs w va a) (hr : right a = true) (hk : a.kind = 2) (hg : (get a.name L).isSome = false) :
    Calls Try.prog 11 #[.pointer (some ⟨p, 0, none⟩), va] w fun e w' => ApSays w p b L a e w' := by
  have hA := ha
  obtain ⟨np, nc, vp, vc, q, c, rfl, ha⟩ := ha
  have e0 : EnV a np nc vp vc q c = enC a.kind a.writer a.seq np a.name.length nc vp a.value.length vc a.who a.rights a.epoch q a.wraps.length c := rfl
  rw [e0] at hA ⊢
  obtain ⟨W, HW⟩ : ∃ W, Hid (w.alloc (.cells (enC a.kind a.writer a.seq np a.name.length nc vp a.value.length vc a.who a.rights a.epoch q a.wraps.length c) 30) = W) := ⟨_, rfl⟩
  have HB : Hid (Below w.heap.size w W) := by rw [← HW.out]; exact bel_alloc (Nat.le_refl _) _
  have hsz : W.heap.size = w.heap.size + 1 := by rw [← HW.out]; simp
  have HCC : Hid (W.heap[w.heap.size]? = some (.cells (enC a.kind a.writer a.seq np a.name.length nc vp a.value.length vc a.who a.rights a.epoch q a.wraps.length c) 30 (0, 0))) := by rw [← HW.out]; exact heap_alloc_new w _
  have HX : Calls Try.prog 25 #[.agg (enC a.kind a.writer a.seq np a.name.length nc vp a.value.length vc a.who a.rights a.epoch q a.wraps.length c)] W fun e w' => e = .returned (.bool true) ∧ Below W.heap.size W w' := by rw [← hr]; exact Right_any a _ W (hA.below HB.out)
  have HR : Hid (∀ e w', (e = .returned (.int .i64 32)) → DcIs w' p b L → Only [b] w w' → ApSays w p b L a e w') := fun e w' h1 h2 h3 => apSays_of (after_none L hr hk hg) h1 h2 h3
  have HN : Hid (∀ w', Below W.heap.size W w' → Src w' (.slice np a.name.length nc) a.name) := fun w' hb => (ha.name.below HB.out).below hb
  have HV : Hid (∀ w', Below W.heap.size W w' → Src w' (.slice vp a.value.length vc) a.value) := fun w' hb => (ha.value.below HB.out).below hb
  have HD : Hid (∀ w', Below W.heap.size W w' → DcIs w' p b L) := fun w' hb => (h.below HB.out).below hb
  have HPK : Hid (a.kind = 1 → Pok (a.name, a.value)) := fun hk => by
    rcases ((right_iff a).1 hr).2.2 with ⟨_, h1, h2, _⟩ | h1 | h1 | h1 | h1
    · exact ⟨ha.name.small, ha.value.small, h1.2, h2⟩
    all_goals (have := h1.1; omega)
  have HNL : Hid (∀ x ∈ a.name, x < 256) := ha.name.small
  have hnl : a.name.length ≤ 9223372036854775807 := ha.ln
  have hmx : a.name.length ≤ maxLen := by unfold maxLen; exact hnl
  have HLK : Hid (∀ w', Below W.heap.size W w' → (Instr.lookup 62 (.map (some b)) (.string (strB a.name)) true).run Try.prog w' = .ok (.tuple #[.agg #[.string (strB ((get a.name L).getD []))], .bool false]) w') := fun w' hb => by have hx := (HD.out w' hb).look HNL.out hmx; rw [hg] at hx; exact hx
  have HDEL : Hid (∀ w', DcIs w' p b L → ∀ ty, ∃ w'', (Builtin.delete_ #[62, 9] ty #[.map (some b), .string (strB a.name)]).run Try.prog w' = .ok (.tuple #[]) w'' ∧ DcIs w'' p b (del a.name L) ∧ Only [b] w' w'') := fun w' hd ty => hd.drop HNL.out hmx ty
  clear HPK hg hmx hnl
  have HENC : Hid (∀ w', Below W.heap.size W w' → w'.heap[w.heap.size]? = some (.cells (enC a.kind a.writer a.seq np a.name.length nc vp a.value.length vc a.who a.rights a.epoch q a.wraps.length c) 30 (0, 0))) := fun w' hb => (hb.block _ (by omega)).trans HCC.out
  have HLT : Hid (W.heap.size = w.heap.size + 1) := hsz
  rw [hk] at *
  clear hk
  generalize a.name.length = n4 at *
  generalize a.value.length = n5 at *
  generalize a.wraps.length = n9 at *
  unfold enC at *
  have HW0 : Hid (w.alloc (.cells #[.int .i64 2, .int .i64 a.writer, .int .i64 a.seq, .slice np n4 nc, .slice vp n5 vc, .int .i64 a.who, .int .i64 a.rights, .int .i64 a.epoch, .slice q n9 c] 30) = W) := HW
  have HC0 : Hid (∀ w', Below W.heap.size W w' → w'.cell? ⟨w.heap.size, 0, none⟩ = some (.int .i64 2)) := fun w' hb => by rw [cell_of_row _ _ _ _ _ _ (HENC.out w' hb)]; rfl
  have HC3 : Hid (∀ w', Below W.heap.size W w' → w'.cell? ⟨w.heap.size, 3, none⟩ = some (.slice np n4 nc)) := fun w' hb => by rw [cell_of_row _ _ _ _ _ _ (HENC.out w' hb)]; rfl
  have HC4 : Hid (∀ w', Below W.heap.size W w' → w'.cell? ⟨w.heap.size, 4, none⟩ = some (.slice vp n5 vc)) := fun w' hb => by rw [cell_of_row _ _ _ _ _ _ (HENC.out w' hb)]; rfl
  clear hA ha h hr e0 HCC HW HENC
  go_enter Try.func11, Try.ntmps11
  go_wp2_with (first | (go_at_call 25; rw [HW0.out]; with_reducible refine HX.mono ?_; rintro e w1 ⟨rfl, HH⟩; have hc0 := HC0.out w1 HH; have hc3 := HC3.out w1 HH; have hc4 := HC4.out w1 HH; have hn := conv_src (HN.out w1 HH); have hlk := HLK.out w1 HH; have hcp := (HD.out w1 HH).cell; have hpl := (HD.out w1 HH).ltp; have hcp2 : ∀ o, (w1.alloc o).cell? ⟨p, 0, none⟩ = some (.map (some b)) := fun o => ((HD.out w1 HH).below (bel_alloc (Nat.le_refl _) o)).cell))
  go_ret
  exact HR.out _ _ rfl ((HD.out w1 HH).below (bel_alloc (Nat.le_refl _) _)) (Only.of_below ((HB.out.trans (bel_le HH (by have := HLT.out; omega))).trans (bel_alloc (by have := HLT.out; have := HH.size; omega) _)) _)
set_option maxRecDepth 10000 in
set_option maxHeartbeats 4000000 in
theorem apply_drop (w : World) (p b : Nat) (L : Col) (a : En) (va : Value) (h : DcIs w p b L) (ha : EnIs w va a) (hr : right a = true) (hk : a.kind = 2) (hg : (get a.name L).isSome = true) :
    Calls Try.prog 11 #[.pointer (some ⟨p, 0, none⟩), va] w fun e w' => ApSays w p b L a e w' := by
  have hA := ha
  obtain ⟨np, nc, vp, vc, q, c, rfl, ha⟩ := ha
  have e0 : EnV a np nc vp vc q c = enC a.kind a.writer a.seq np a.name.length nc vp a.value.length vc a.who a.rights a.epoch q a.wraps.length c := rfl
  rw [e0] at hA ⊢
  obtain ⟨W, HW⟩ : ∃ W, Hid (w.alloc (.cells (enC a.kind a.writer a.seq np a.name.length nc vp a.value.length vc a.who a.rights a.epoch q a.wraps.length c) 30) = W) := ⟨_, rfl⟩
  have HB : Hid (Below w.heap.size w W) := by rw [← HW.out]; exact bel_alloc (Nat.le_refl _) _
  have hsz : W.heap.size = w.heap.size + 1 := by rw [← HW.out]; simp
  have HCC : Hid (W.heap[w.heap.size]? = some (.cells (enC a.kind a.writer a.seq np a.name.length nc vp a.value.length vc a.who a.rights a.epoch q a.wraps.length c) 30 (0, 0))) := by rw [← HW.out]; exact heap_alloc_new w _
  have HX : Calls Try.prog 25 #[.agg (enC a.kind a.writer a.seq np a.name.length nc vp a.value.length vc a.who a.rights a.epoch q a.wraps.length c)] W fun e w' => e = .returned (.bool true) ∧ Below W.heap.size W w' := by rw [← hr]; exact Right_any a _ W (hA.below HB.out)
  have HR : Hid (∀ e w', (e = .returned (.int .i64 0)) → DcIs w' p b (del a.name L) → Only [b] w w' → ApSays w p b L a e w') := fun e w' h1 h2 h3 => apSays_of (after_drop L hr hk hg) h1 h2 h3
  have HN : Hid (∀ w', Below W.heap.size W w' → Src w' (.slice np a.name.length nc) a.name) := fun w' hb => (ha.name.below HB.out).below hb
  have HV : Hid (∀ w', Below W.heap.size W w' → Src w' (.slice vp a.value.length vc) a.value) := fun w' hb => (ha.value.below HB.out).below hb
  have HD : Hid (∀ w', Below W.heap.size W w' → DcIs w' p b L) := fun w' hb => (h.below HB.out).below hb
  have HPK : Hid (a.kind = 1 → Pok (a.name, a.value)) := fun hk => by
    rcases ((right_iff a).1 hr).2.2 with ⟨_, h1, h2, _⟩ | h1 | h1 | h1 | h1
    · exact ⟨ha.name.small, ha.value.small, h1.2, h2⟩
    all_goals (have := h1.1; omega)
  have HNL : Hid (∀ x ∈ a.name, x < 256) := ha.name.small
  have hnl : a.name.length ≤ 9223372036854775807 := ha.ln
  have hmx : a.name.length ≤ maxLen := by unfold maxLen; exact hnl
  have HLK : Hid (∀ w', Below W.heap.size W w' → (Instr.lookup 62 (.map (some b)) (.string (strB a.name)) true).run Try.prog w' = .ok (.tuple #[.agg #[.string (strB ((get a.name L).getD []))], .bool true]) w') := fun w' hb => by have hx := (HD.out w' hb).look HNL.out hmx; rw [hg] at hx; exact hx
  have HDEL : Hid (∀ w', DcIs w' p b L → ∀ ty, ∃ w'', (Builtin.delete_ #[62, 9] ty #[.map (some b), .string (strB a.name)]).run Try.prog w' = .ok (.tuple #[]) w'' ∧ DcIs w'' p b (del a.name L) ∧ Only [b] w' w'') := fun w' hd ty => hd.drop HNL.out hmx ty
  have HKY : Hid (keyOf Try.prog 9 (.string (strB a.name)) = some (.string (u a.name))) := keyIs a.name hmx
  clear HPK hg hmx hnl
  have HENC : Hid (∀ w', Below W.heap.size W w' → w'.heap[w.heap.size]? = some (.cells (enC a.kind a.writer a.seq np a.name.length nc vp a.value.length vc a.who a.rights a.epoch q a.wraps.length c) 30 (0, 0))) := fun w' hb => (hb.block _ (by omega)).trans HCC.out
  have HLT : Hid (W.heap.size = w.heap.size + 1) := hsz
  rw [hk] at *
  clear hk
  generalize a.name.length = n4 at *
  generalize a.value.length = n5 at *
  generalize a.wraps.length = n9 at *
  unfold enC at *
  have HW0 : Hid (w.alloc (.cells #[.int .i64 2, .int .i64 a.writer, .int .i64 a.seq, .slice np n4 nc, .slice vp n5 vc, .int .i64 a.who, .int .i64 a.rights, .int .i64 a.epoch, .slice q n9 c] 30) = W) := HW
  have HC0 : Hid (∀ w', Below W.heap.size W w' → w'.cell? ⟨w.heap.size, 0, none⟩ = some (.int .i64 2)) := fun w' hb => by rw [cell_of_row _ _ _ _ _ _ (HENC.out w' hb)]; rfl
  have HC3 : Hid (∀ w', Below W.heap.size W w' → w'.cell? ⟨w.heap.size, 3, none⟩ = some (.slice np n4 nc)) := fun w' hb => by rw [cell_of_row _ _ _ _ _ _ (HENC.out w' hb)]; rfl
  have HC4 : Hid (∀ w', Below W.heap.size W w' → w'.cell? ⟨w.heap.size, 4, none⟩ = some (.slice vp n5 vc)) := fun w' hb => by rw [cell_of_row _ _ _ _ _ _ (HENC.out w' hb)]; rfl
  clear hA ha h hr e0 HCC HW HENC
  go_enter Try.func11, Try.ntmps11
  go_wp2_with (first | (go_at_call 25; rw [HW0.out]; with_reducible refine HX.mono ?_; rintro e w1 ⟨rfl, HH⟩; have hc0 := HC0.out w1 HH; have hc3 := HC3.out w1 HH; have hc4 := HC4.out w1 HH; have hn := conv_src (HN.out w1 HH); have hlk := HLK.out w1 HH; have hcp := (HD.out w1 HH).cell; have hpl := (HD.out w1 HH).ltp; have hcp2 : ∀ o, (w1.alloc o).cell? ⟨p, 0, none⟩ = some (.map (some b)) := fun o => ((HD.out w1 HH).below (bel_alloc (Nat.le_refl _) o)).cell) | (at_delete; refine wpList_delete_own _ rfl _ _ 62 9 rfl 68 law Try.underlying62 elV b L.length (dat L) rfl ((HD.out w1 HH).own.alloc _) _ _ rfl HKY.out ?_; intro w3 hown3 hturn3))
  go_ret
  have hd1 := (HD.out w1 HH).below (bel_alloc (Nat.le_refl _) (.cells #[.string (strB ((get a.name L).getD []))] 68))
  have ho3 : Only [b] _ w3 := Only.of_grown hturn3.grown (fun x hx => by cases hx; simp)
  rw [dat_del hd1.ok HNL.out] at hown3
  have hle := length_del_le a.name L
  have hfw := hd1.few
  exact HR.out _ _ rfl ⟨(ho3.block p hd1.ltp (by simpa using hd1.ne)).trans hd1.blk, own_len hown3, ok_del hd1.ok _, by omega⟩ ((Only.of_below ((HB.out.trans (bel_le HH (by have := HLT.out; omega))).trans (bel_alloc (by have := HLT.out; have := HH.size; omega) _)) _).trans ho3)
set_option maxHeartbeats 4000000 in
theorem apply_other (w : World) (p b : Nat) (L : Col) (a : En) (va : Value) (h : DcIs w p b L) (ha : EnIs w va a) (hr : right a = true) (hk : ¬ a.kind = 1) (hk2 : ¬ a.kind = 2) :
    Calls Try.prog 11 #[.pointer (some ⟨p, 0, none⟩), va] w fun e w' => ApSays w p b L a e w' := by
  have hA := ha
  obtain ⟨np, nc, vp, vc, q, c, rfl, ha⟩ := ha
  have e0 : EnV a np nc vp vc q c = enC a.kind a.writer a.seq np a.name.length nc vp a.value.length vc a.who a.rights a.epoch q a.wraps.length c := rfl
  rw [e0] at hA ⊢
  obtain ⟨W, HW⟩ : ∃ W, Hid (w.alloc (.cells (enC a.kind a.writer a.seq np a.name.length nc vp a.value.length vc a.who a.rights a.epoch q a.wraps.length c) 30) = W) := ⟨_, rfl⟩
  have HB : Hid (Below w.heap.size w W) := by rw [← HW.out]; exact bel_alloc (Nat.le_refl _) _
  have hsz : W.heap.size = w.heap.size + 1 := by rw [← HW.out]; simp
  have HCC : Hid (W.heap[w.heap.size]? = some (.cells (enC a.kind a.writer a.seq np a.name.length nc vp a.value.length vc a.who a.rights a.epoch q a.wraps.length c) 30 (0, 0))) := by rw [← HW.out]; exact heap_alloc_new w _
  have HX : Calls Try.prog 25 #[.agg (enC a.kind a.writer a.seq np a.name.length nc vp a.value.length vc a.who a.rights a.epoch q a.wraps.length c)] W fun e w' => e = .returned (.bool true) ∧ Below W.heap.size W w' := by rw [← hr]; exact Right_any a _ W (hA.below HB.out)
  have HR : Hid (∀ e w', (e = .returned (.int .i64 0)) → DcIs w' p b L → Only [b] w w' → ApSays w p b L a e w') := fun e w' h1 h2 h3 => apSays_of (after_other L hr hk hk2) h1 h2 h3
  have HN : Hid (∀ w', Below W.heap.size W w' → Src w' (.slice np a.name.length nc) a.name) := fun w' hb => (ha.name.below HB.out).below hb
  have HV : Hid (∀ w', Below W.heap.size W w' → Src w' (.slice vp a.value.length vc) a.value) := fun w' hb => (ha.value.below HB.out).below hb
  have HD : Hid (∀ w', Below W.heap.size W w' → DcIs w' p b L) := fun w' hb => (h.below HB.out).below hb
  have HPK : Hid (a.kind = 1 → Pok (a.name, a.value)) := fun hk => by
    rcases ((right_iff a).1 hr).2.2 with ⟨_, h1, h2, _⟩ | h1 | h1 | h1 | h1
    · exact ⟨ha.name.small, ha.value.small, h1.2, h2⟩
    all_goals (have := h1.1; omega)
  have HNL : Hid (∀ x ∈ a.name, x < 256) := ha.name.small
  have hnl : a.name.length ≤ 9223372036854775807 := ha.ln
  have hk1' : (a.kind == 1) = false := by simp [hk]
  have hk2' : (a.kind == 2) = false := by simp [hk2]
  have HENC : Hid (∀ w', Below W.heap.size W w' → w'.heap[w.heap.size]? = some (.cells (enC a.kind a.writer a.seq np a.name.length nc vp a.value.length vc a.who a.rights a.epoch q a.wraps.length c) 30 (0, 0))) := fun w' hb => (hb.block _ (by omega)).trans HCC.out
  have HLT : Hid (W.heap.size = w.heap.size + 1) := hsz
  generalize a.kind = ki at *
  generalize a.name.length = n4 at *
  generalize a.value.length = n5 at *
  generalize a.wraps.length = n9 at *
  unfold enC at *
  have HW0 : Hid (w.alloc (.cells #[.int .i64 ki, .int .i64 a.writer, .int .i64 a.seq, .slice np n4 nc, .slice vp n5 vc, .int .i64 a.who, .int .i64 a.rights, .int .i64 a.epoch, .slice q n9 c] 30) = W) := HW
  have HC0 : Hid (∀ w', Below W.heap.size W w' → w'.cell? ⟨w.heap.size, 0, none⟩ = some (.int .i64 ki)) := fun w' hb => by rw [cell_of_row _ _ _ _ _ _ (HENC.out w' hb)]; rfl
  have HC3 : Hid (∀ w', Below W.heap.size W w' → w'.cell? ⟨w.heap.size, 3, none⟩ = some (.slice np n4 nc)) := fun w' hb => by rw [cell_of_row _ _ _ _ _ _ (HENC.out w' hb)]; rfl
  have HC4 : Hid (∀ w', Below W.heap.size W w' → w'.cell? ⟨w.heap.size, 4, none⟩ = some (.slice vp n5 vc)) := fun w' hb => by rw [cell_of_row _ _ _ _ _ _ (HENC.out w' hb)]; rfl
  clear hA ha h hr e0 HCC HW HENC
  go_enter Try.func11, Try.ntmps11
  go_wp2_with (first | (go_at_call 25; rw [HW0.out]; with_reducible refine HX.mono ?_; rintro e w1 ⟨rfl, HH⟩; have hc0 := HC0.out w1 HH; have hc3 := HC3.out w1 HH; have hc4 := HC4.out w1 HH; have hn := conv_src (HN.out w1 HH)))
  go_ret
  exact HR.out _ _ rfl (HD.out w1 HH) (Only.of_below (HB.out.trans (bel_le HH (by have := HLT.out; omega))) _)
end Go.Proofs.Ytigfiopmochliaa.D11
