/- The walk of DocsOthers. -/
import Derived.Test.YtigfiopmochliaaD11Base
namespace Go.Proofs.Ytigfiopmochliaa.D11
open Go.RowKit C8 E9 P10
set_option maxHeartbeats 8000000 in
set_option maxRecDepth 20000 in
theorem ot_many (w : World) (a1 : Option Addr) (n c1 : Nat) (va : Value) (a : En) (ha : EnIs w va a) (hn : 20 < n) :
    Calls Try.prog 7 #[.slice a1 n c1, va] w fun e w' => e = .returned (.bool true) ∧ Below w.heap.size w w' := by
  obtain ⟨ep, ec, fp, fc, gq, gc, rfl, hat⟩ := ha
  have HE : Hid (∀ w', Below w.heap.size w w' → EnIs w' (.agg #[.int .i64 a.kind, .int .i64 a.writer, .int .i64 a.seq, .slice ep a.name.length ec, .slice fp a.value.length fc, .int .i64 a.who, .int .i64 a.rights, .int .i64 a.epoch, .slice gq a.wraps.length gc]) a) := fun w' hb => ⟨ep, ec, fp, fc, gq, gc, rfl, hat.below hb⟩
  have e0 : EnV a ep ec fp fc gq gc = #[.int .i64 a.kind, .int .i64 a.writer, .int .i64 a.seq, .slice ep a.name.length ec, .slice fp a.value.length fc, .int .i64 a.who, .int .i64 a.rights, .int .i64 a.epoch, .slice gq a.wraps.length gc] := rfl
  rw [e0]
  clear hat e0
  generalize a.name.length = m4 at *
  generalize a.value.length = m5 at *
  generalize a.wraps.length = m9 at *
  obtain ⟨W, HW⟩ : ∃ W, Hid (w.alloc (.cells #[.int .i64 a.kind, .int .i64 a.writer, .int .i64 a.seq, .slice ep m4 ec, .slice fp m5 fc, .int .i64 a.who, .int .i64 a.rights, .int .i64 a.epoch, .slice gq m9 gc] 30) = W) := ⟨_, rfl⟩
  have HB0 : Hid (Below w.heap.size w W) := by rw [← HW.out]; exact bel_alloc (Nat.le_refl _) _
  have hsz : W.heap.size = w.heap.size + 1 := by rw [← HW.out]; simp
  have HSZ : Hid (W.heap.size = w.heap.size + 1) := hsz
  have hcc : W.heap[w.heap.size]? = some (.cells #[.int .i64 a.kind, .int .i64 a.writer, .int .i64 a.seq, .slice ep m4 ec, .slice fp m5 fc, .int .i64 a.who, .int .i64 a.rights, .int .i64 a.epoch, .slice gq m9 gc] 30 (0, 0)) := by rw [← HW.out]; exact heap_alloc_new w _
  have HCC : Hid (∀ w', Below W.heap.size W w' → w'.heap[w.heap.size]? = some (.cells #[.int .i64 a.kind, .int .i64 a.writer, .int .i64 a.seq, .slice ep m4 ec, .slice fp m5 fc, .int .i64 a.who, .int .i64 a.rights, .int .i64 a.epoch, .slice gq m9 gc] 30 (0, 0))) := fun w' hb => (hb.block _ (by omega)).trans hcc
  clear hsz hcc
  have k1 : (20 : Int) < (n : Int) := by omega
  go_enter Try.func7, Try.ntmps7
  go_wp2_with fail
  rw [HW.out]
  refine (anchor_any W).mono ?_
  rintro e w1 ⟨rfl, hb1⟩
  have HB1 : Hid (Below W.heap.size W w1) := hb1
  clear hb1
  obtain ⟨c0, c1', c2, c3, c4, c5, c6, c7, c8⟩ := cells9 (HCC.out w1 HB1.out)
  go_wp2_with fail
  go_ret
  exact ⟨rfl, HB0.out.trans (bel_le HB1.out HB0.out.size)⟩
set_option maxHeartbeats 8000000 in
set_option maxRecDepth 20000 in
theorem ot_big (w : World) (a1 : Option Addr) (n c1 : Nat) (va : Value) (a : En) (ha : EnIs w va a) (hn : n ≤ 20) (hs : small a = false) :
    Calls Try.prog 7 #[.slice a1 n c1, va] w fun e w' => e = .returned (.bool true) ∧ Below w.heap.size w w' := by
  obtain ⟨ep, ec, fp, fc, gq, gc, rfl, hat⟩ := ha
  have HE : Hid (∀ w', Below w.heap.size w w' → EnIs w' (.agg #[.int .i64 a.kind, .int .i64 a.writer, .int .i64 a.seq, .slice ep a.name.length ec, .slice fp a.value.length fc, .int .i64 a.who, .int .i64 a.rights, .int .i64 a.epoch, .slice gq a.wraps.length gc]) a) := fun w' hb => ⟨ep, ec, fp, fc, gq, gc, rfl, hat.below hb⟩
  have e0 : EnV a ep ec fp fc gq gc = #[.int .i64 a.kind, .int .i64 a.writer, .int .i64 a.seq, .slice ep a.name.length ec, .slice fp a.value.length fc, .int .i64 a.who, .int .i64 a.rights, .int .i64 a.epoch, .slice gq a.wraps.length gc] := rfl
  rw [e0]
  clear hat e0
  generalize a.name.length = m4 at *
  generalize a.value.length = m5 at *
  generalize a.wraps.length = m9 at *
  obtain ⟨W, HW⟩ : ∃ W, Hid (w.alloc (.cells #[.int .i64 a.kind, .int .i64 a.writer, .int .i64 a.seq, .slice ep m4 ec, .slice fp m5 fc, .int .i64 a.who, .int .i64 a.rights, .int .i64 a.epoch, .slice gq m9 gc] 30) = W) := ⟨_, rfl⟩
  have HB0 : Hid (Below w.heap.size w W) := by rw [← HW.out]; exact bel_alloc (Nat.le_refl _) _
  have hsz : W.heap.size = w.heap.size + 1 := by rw [← HW.out]; simp
  have HSZ : Hid (W.heap.size = w.heap.size + 1) := hsz
  have hcc : W.heap[w.heap.size]? = some (.cells #[.int .i64 a.kind, .int .i64 a.writer, .int .i64 a.seq, .slice ep m4 ec, .slice fp m5 fc, .int .i64 a.who, .int .i64 a.rights, .int .i64 a.epoch, .slice gq m9 gc] 30 (0, 0)) := by rw [← HW.out]; exact heap_alloc_new w _
  have HCC : Hid (∀ w', Below W.heap.size W w' → w'.heap[w.heap.size]? = some (.cells #[.int .i64 a.kind, .int .i64 a.writer, .int .i64 a.seq, .slice ep m4 ec, .slice fp m5 fc, .int .i64 a.who, .int .i64 a.rights, .int .i64 a.epoch, .slice gq m9 gc] 30 (0, 0))) := fun w' hb => (hb.block _ (by omega)).trans hcc
  clear hsz hcc
  have k1 : ¬ (20 : Int) < (n : Int) := by omega
  go_enter Try.func7, Try.ntmps7
  go_wp2_with fail
  rw [HW.out]
  refine (anchor_any W).mono ?_
  rintro e w1 ⟨rfl, hb1⟩
  have HB1 : Hid (Below W.heap.size W w1) := hb1
  clear hb1
  obtain ⟨c0, c1', c2, c3, c4, c5, c6, c7, c8⟩ := cells9 (HCC.out w1 HB1.out)
  go_wp2_with fail
  refine (small_eq (HE.out w1 (HB0.out.trans (bel_le HB1.out HB0.out.size))) hs).mono ?_
  rintro e w2 ⟨rfl, hx⟩
  have HB2 : Hid (Below W.heap.size W w2) := HB1.out.trans (bel_le hx HB1.out.size)
  clear hx c0 c1' c2 c3 c4 c5 c6 c7 c8
  obtain ⟨c0, c1', c2, c3, c4, c5, c6, c7, c8⟩ := cells9 (HCC.out w2 HB2.out)
  go_wp2_with fail
  go_ret
  exact ⟨rfl, HB0.out.trans (bel_le HB2.out HB0.out.size)⟩
set_option maxHeartbeats 8000000 in
set_option maxRecDepth 20000 in
theorem ot_wrong (w : World) (a1 : Option Addr) (n c1 : Nat) (va : Value) (a : En) (ha : EnIs w va a) (hn : n ≤ 20) (hs : small a = true) (hr : right a = false) :
    Calls Try.prog 7 #[.slice a1 n c1, va] w fun e w' => e = .returned (.bool true) ∧ Below w.heap.size w w' := by
  obtain ⟨ep, ec, fp, fc, gq, gc, rfl, hat⟩ := ha
  have HE : Hid (∀ w', Below w.heap.size w w' → EnIs w' (.agg #[.int .i64 a.kind, .int .i64 a.writer, .int .i64 a.seq, .slice ep a.name.length ec, .slice fp a.value.length fc, .int .i64 a.who, .int .i64 a.rights, .int .i64 a.epoch, .slice gq a.wraps.length gc]) a) := fun w' hb => ⟨ep, ec, fp, fc, gq, gc, rfl, hat.below hb⟩
  have e0 : EnV a ep ec fp fc gq gc = #[.int .i64 a.kind, .int .i64 a.writer, .int .i64 a.seq, .slice ep a.name.length ec, .slice fp a.value.length fc, .int .i64 a.who, .int .i64 a.rights, .int .i64 a.epoch, .slice gq a.wraps.length gc] := rfl
  rw [e0]
  clear hat e0
  generalize a.name.length = m4 at *
  generalize a.value.length = m5 at *
  generalize a.wraps.length = m9 at *
  obtain ⟨W, HW⟩ : ∃ W, Hid (w.alloc (.cells #[.int .i64 a.kind, .int .i64 a.writer, .int .i64 a.seq, .slice ep m4 ec, .slice fp m5 fc, .int .i64 a.who, .int .i64 a.rights, .int .i64 a.epoch, .slice gq m9 gc] 30) = W) := ⟨_, rfl⟩
  have HB0 : Hid (Below w.heap.size w W) := by rw [← HW.out]; exact bel_alloc (Nat.le_refl _) _
  have hsz : W.heap.size = w.heap.size + 1 := by rw [← HW.out]; simp
  have HSZ : Hid (W.heap.size = w.heap.size + 1) := hsz
  have hcc : W.heap[w.heap.size]? = some (.cells #[.int .i64 a.kind, .int .i64 a.writer, .int .i64 a.seq, .slice ep m4 ec, .slice fp m5 fc, .int .i64 a.who, .int .i64 a.rights, .int .i64 a.epoch, .slice gq m9 gc] 30 (0, 0)) := by rw [← HW.out]; exact heap_alloc_new w _
  have HCC : Hid (∀ w', Below W.heap.size W w' → w'.heap[w.heap.size]? = some (.cells #[.int .i64 a.kind, .int .i64 a.writer, .int .i64 a.seq, .slice ep m4 ec, .slice fp m5 fc, .int .i64 a.who, .int .i64 a.rights, .int .i64 a.epoch, .slice gq m9 gc] 30 (0, 0))) := fun w' hb => (hb.block _ (by omega)).trans hcc
  clear hsz hcc
  have k1 : ¬ (20 : Int) < (n : Int) := by omega
  go_enter Try.func7, Try.ntmps7
  go_wp2_with fail
  rw [HW.out]
  refine (anchor_any W).mono ?_
  rintro e w1 ⟨rfl, hb1⟩
  have HB1 : Hid (Below W.heap.size W w1) := hb1
  clear hb1
  obtain ⟨c0, c1', c2, c3, c4, c5, c6, c7, c8⟩ := cells9 (HCC.out w1 HB1.out)
  go_wp2_with fail
  refine (small_eq (HE.out w1 (HB0.out.trans (bel_le HB1.out HB0.out.size))) hs).mono ?_
  rintro e w2 ⟨rfl, hx⟩
  have HB2 : Hid (Below W.heap.size W w2) := HB1.out.trans (bel_le hx HB1.out.size)
  clear hx c0 c1' c2 c3 c4 c5 c6 c7 c8
  obtain ⟨c0, c1', c2, c3, c4, c5, c6, c7, c8⟩ := cells9 (HCC.out w2 HB2.out)
  go_wp2_with fail
  refine (right_eq (HE.out w2 (HB0.out.trans (bel_le HB2.out HB0.out.size))) hr).mono ?_
  rintro e w3 ⟨rfl, hx⟩
  have HB3 : Hid (Below W.heap.size W w3) := HB2.out.trans (bel_le hx HB2.out.size)
  clear hx c0 c1' c2 c3 c4 c5 c6 c7 c8
  obtain ⟨c0, c1', c2, c3, c4, c5, c6, c7, c8⟩ := cells9 (HCC.out w3 HB3.out)
  go_wp2_with fail
  go_ret
  exact ⟨rfl, HB0.out.trans (bel_le HB3.out HB0.out.size)⟩
set_option maxHeartbeats 8000000 in
set_option maxRecDepth 20000 in
theorem ot_kind (w : World) (a1 : Option Addr) (n c1 : Nat) (va : Value) (a : En) (ha : EnIs w va a) (hn : n ≤ 20) (hs : small a = true) (hr : right a = true) (hk : a.kind < 3) :
    Calls Try.prog 7 #[.slice a1 n c1, va] w fun e w' => e = .returned (.bool true) ∧ Below w.heap.size w w' := by
  obtain ⟨ep, ec, fp, fc, gq, gc, rfl, hat⟩ := ha
  have HE : Hid (∀ w', Below w.heap.size w w' → EnIs w' (.agg #[.int .i64 a.kind, .int .i64 a.writer, .int .i64 a.seq, .slice ep a.name.length ec, .slice fp a.value.length fc, .int .i64 a.who, .int .i64 a.rights, .int .i64 a.epoch, .slice gq a.wraps.length gc]) a) := fun w' hb => ⟨ep, ec, fp, fc, gq, gc, rfl, hat.below hb⟩
  have e0 : EnV a ep ec fp fc gq gc = #[.int .i64 a.kind, .int .i64 a.writer, .int .i64 a.seq, .slice ep a.name.length ec, .slice fp a.value.length fc, .int .i64 a.who, .int .i64 a.rights, .int .i64 a.epoch, .slice gq a.wraps.length gc] := rfl
  rw [e0]
  clear hat e0
  generalize a.name.length = m4 at *
  generalize a.value.length = m5 at *
  generalize a.wraps.length = m9 at *
  obtain ⟨W, HW⟩ : ∃ W, Hid (w.alloc (.cells #[.int .i64 a.kind, .int .i64 a.writer, .int .i64 a.seq, .slice ep m4 ec, .slice fp m5 fc, .int .i64 a.who, .int .i64 a.rights, .int .i64 a.epoch, .slice gq m9 gc] 30) = W) := ⟨_, rfl⟩
  have HB0 : Hid (Below w.heap.size w W) := by rw [← HW.out]; exact bel_alloc (Nat.le_refl _) _
  have hsz : W.heap.size = w.heap.size + 1 := by rw [← HW.out]; simp
  have HSZ : Hid (W.heap.size = w.heap.size + 1) := hsz
  have hcc : W.heap[w.heap.size]? = some (.cells #[.int .i64 a.kind, .int .i64 a.writer, .int .i64 a.seq, .slice ep m4 ec, .slice fp m5 fc, .int .i64 a.who, .int .i64 a.rights, .int .i64 a.epoch, .slice gq m9 gc] 30 (0, 0)) := by rw [← HW.out]; exact heap_alloc_new w _
  have HCC : Hid (∀ w', Below W.heap.size W w' → w'.heap[w.heap.size]? = some (.cells #[.int .i64 a.kind, .int .i64 a.writer, .int .i64 a.seq, .slice ep m4 ec, .slice fp m5 fc, .int .i64 a.who, .int .i64 a.rights, .int .i64 a.epoch, .slice gq m9 gc] 30 (0, 0))) := fun w' hb => (hb.block _ (by omega)).trans hcc
  clear hsz hcc
  have k1 : ¬ (20 : Int) < (n : Int) := by omega
  go_enter Try.func7, Try.ntmps7
  go_wp2_with fail
  rw [HW.out]
  refine (anchor_any W).mono ?_
  rintro e w1 ⟨rfl, hb1⟩
  have HB1 : Hid (Below W.heap.size W w1) := hb1
  clear hb1
  obtain ⟨c0, c1', c2, c3, c4, c5, c6, c7, c8⟩ := cells9 (HCC.out w1 HB1.out)
  go_wp2_with fail
  refine (small_eq (HE.out w1 (HB0.out.trans (bel_le HB1.out HB0.out.size))) hs).mono ?_
  rintro e w2 ⟨rfl, hx⟩
  have HB2 : Hid (Below W.heap.size W w2) := HB1.out.trans (bel_le hx HB1.out.size)
  clear hx c0 c1' c2 c3 c4 c5 c6 c7 c8
  obtain ⟨c0, c1', c2, c3, c4, c5, c6, c7, c8⟩ := cells9 (HCC.out w2 HB2.out)
  go_wp2_with fail
  refine (right_eq (HE.out w2 (HB0.out.trans (bel_le HB2.out HB0.out.size))) hr).mono ?_
  rintro e w3 ⟨rfl, hx⟩
  have HB3 : Hid (Below W.heap.size W w3) := HB2.out.trans (bel_le hx HB2.out.size)
  clear hx c0 c1' c2 c3 c4 c5 c6 c7 c8
  obtain ⟨c0, c1', c2, c3, c4, c5, c6, c7, c8⟩ := cells9 (HCC.out w3 HB3.out)
  go_wp2_with fail
  go_ret
  exact ⟨rfl, HB0.out.trans (bel_le HB3.out HB0.out.size)⟩
set_option maxHeartbeats 8000000 in
set_option maxRecDepth 20000 in
theorem ot_main (w : World) (a1 : Option Addr) (n c1 : Nat) (va : Value) (a : En) (ha : EnIs w va a) (es : List En) (hl : es.length = n) (hr1 : EnRow w a1 es) (hn : n ≤ 20) (hs : small a = true) (hr : right a = true) (hk : ¬ a.kind < 3) :
    Calls Try.prog 7 #[.slice a1 n c1, va] w fun e w' => e = .returned (.bool true) ∧ Below w.heap.size w w' := by
  obtain ⟨ep, ec, fp, fc, gq, gc, rfl, hat⟩ := ha
  have HE : Hid (∀ w', Below w.heap.size w w' → EnIs w' (.agg #[.int .i64 a.kind, .int .i64 a.writer, .int .i64 a.seq, .slice ep a.name.length ec, .slice fp a.value.length fc, .int .i64 a.who, .int .i64 a.rights, .int .i64 a.epoch, .slice gq a.wraps.length gc]) a) := fun w' hb => ⟨ep, ec, fp, fc, gq, gc, rfl, hat.below hb⟩
  have e0 : EnV a ep ec fp fc gq gc = #[.int .i64 a.kind, .int .i64 a.writer, .int .i64 a.seq, .slice ep a.name.length ec, .slice fp a.value.length fc, .int .i64 a.who, .int .i64 a.rights, .int .i64 a.epoch, .slice gq a.wraps.length gc] := rfl
  rw [e0]
  clear hat e0
  generalize a.name.length = m4 at *
  generalize a.value.length = m5 at *
  generalize a.wraps.length = m9 at *
  obtain ⟨W, HW⟩ : ∃ W, Hid (w.alloc (.cells #[.int .i64 a.kind, .int .i64 a.writer, .int .i64 a.seq, .slice ep m4 ec, .slice fp m5 fc, .int .i64 a.who, .int .i64 a.rights, .int .i64 a.epoch, .slice gq m9 gc] 30) = W) := ⟨_, rfl⟩
  have HB0 : Hid (Below w.heap.size w W) := by rw [← HW.out]; exact bel_alloc (Nat.le_refl _) _
  have hsz : W.heap.size = w.heap.size + 1 := by rw [← HW.out]; simp
  have HSZ : Hid (W.heap.size = w.heap.size + 1) := hsz
  have hcc : W.heap[w.heap.size]? = some (.cells #[.int .i64 a.kind, .int .i64 a.writer, .int .i64 a.seq, .slice ep m4 ec, .slice fp m5 fc, .int .i64 a.who, .int .i64 a.rights, .int .i64 a.epoch, .slice gq m9 gc] 30 (0, 0)) := by rw [← HW.out]; exact heap_alloc_new w _
  have HCC : Hid (∀ w', Below W.heap.size W w' → w'.heap[w.heap.size]? = some (.cells #[.int .i64 a.kind, .int .i64 a.writer, .int .i64 a.seq, .slice ep m4 ec, .slice fp m5 fc, .int .i64 a.who, .int .i64 a.rights, .int .i64 a.epoch, .slice gq m9 gc] 30 (0, 0))) := fun w' hb => (hb.block _ (by omega)).trans hcc
  clear hsz hcc
  have k1 : ¬ (20 : Int) < (n : Int) := by omega
  have HR : Hid (EnRow W a1 es) := hr1.below HB0.out
  have HN : Hid (es.length = n) := hl
  have HKD : Hid (right a = true ∧ ¬ a.kind = 1 ∧ ¬ a.kind = 2) := ⟨hr, by omega, by omega⟩
  have hnb : (n : Int) ≤ 20 := by omega
  have hn0 : (0 : Int) ≤ (n : Int) := by omega
  clear hl hr1
  go_enter Try.func7, Try.ntmps7
  go_wp2_with fail
  rw [HW.out]
  refine (anchor_any W).mono ?_
  rintro e w1 ⟨rfl, hb1⟩
  have HB1 : Hid (Below W.heap.size W w1) := hb1
  clear hb1
  obtain ⟨c0, c1', c2, c3, c4, c5, c6, c7, c8⟩ := cells9 (HCC.out w1 HB1.out)
  go_wp2_with fail
  refine (small_eq (HE.out w1 (HB0.out.trans (bel_le HB1.out HB0.out.size))) hs).mono ?_
  rintro e w2 ⟨rfl, hx⟩
  have HB2 : Hid (Below W.heap.size W w2) := HB1.out.trans (bel_le hx HB1.out.size)
  clear hx c0 c1' c2 c3 c4 c5 c6 c7 c8
  obtain ⟨c0, c1', c2, c3, c4, c5, c6, c7, c8⟩ := cells9 (HCC.out w2 HB2.out)
  go_wp2_with fail
  refine (right_eq (HE.out w2 (HB0.out.trans (bel_le HB2.out HB0.out.size))) hr).mono ?_
  rintro e w3 ⟨rfl, hx⟩
  have HB3 : Hid (Below W.heap.size W w3) := HB2.out.trans (bel_le hx HB2.out.size)
  clear hx c0 c1' c2 c3 c4 c5 c6 c7 c8
  obtain ⟨c0, c1', c2, c3, c4, c5, c6, c7, c8⟩ := cells9 (HCC.out w3 HB3.out)
  clear hs hr
  go_wp2_with fail
  refine (New_any w3).mono ?_
  rintro e w4 ⟨p, b, rfl, hd, hp, hb, hb4⟩
  have G0 : Hid (Pl W w4 p b []) := Pl.new HB3.out hd hp hb hb4
  clear hd hp hb hb4 c0 c1' c2 c3 c4 c5 c6 c7 c8
  go_wp2_with fail
  go_loopw [32] (fun i wr => ∃ (j : Nat) (L : Col), j ≤ n ∧ i = .int .i64 j ∧ Hid (Pl W wr p b L) ∧ Hid (L.length ≤ j)) (fun i _ => n - (intOf i).toNat)
  case atStart => exact ⟨0, [], by omega, rfl, G0.out, Nat.le_refl _⟩
  case round =>
    obtain ⟨j, L, hj, rfl, GJ, HJ⟩ := hrel
    clear G0
    have j0 : (0 : Int) ≤ (j : Int) := by omega
    by_cases hlt : j < n
    · have j1 : (j : Int) < (n : Int) := by omega
      obtain ⟨bb, ob, np, nc, vp, vc, wq, wc, rfl, k2, k3, k4⟩ := HR.out j (by rw [HN.out]; exact hlt)
      generalize es[j]'(by rw [HN.out]; exact hlt) = en at *
      have HEN : Hid (∀ w', Below W.heap.size W w' → EnIs w' (.agg #[.int .i64 en.kind, .int .i64 en.writer, .int .i64 en.seq, .slice np en.name.length nc, .slice vp en.value.length vc, .int .i64 en.who, .int .i64 en.rights, .int .i64 en.epoch, .slice wq en.wraps.length wc]) en) := fun w' hb => k4.below hb
      have k5 : ∀ i x, (#[.int .i64 en.kind, .int .i64 en.writer, .int .i64 en.seq, .slice np en.name.length nc, .slice vp en.value.length vc, .int .i64 en.who, .int .i64 en.rights, .int .i64 en.epoch, .slice wq en.wraps.length wc] : Array Value)[i]? = some x → wr.cell? ⟨bb, ob + j * 9 + i, none⟩ = some x := fun i x hx => (GJ.out.bel.cell (p := ⟨bb, ob + j * 9 + i, none⟩) k2).trans (k3 i x hx)
      clear k3 k4
      generalize en.name.length = n4 at *
      generalize en.value.length = n5 at *
      generalize en.wraps.length = n9 at *
      have d0 : wr.cell? ⟨bb, ob + j * 9, none⟩ = some (.int .i64 en.kind) := k5 0 _ rfl
      have d1 : wr.cell? ⟨bb, ob + j * 9 + 1, none⟩ = some (.int .i64 en.writer) := k5 1 _ rfl
      have d2 : wr.cell? ⟨bb, ob + j * 9 + 2, none⟩ = some (.int .i64 en.seq) := k5 2 _ rfl
      have d3 : wr.cell? ⟨bb, ob + j * 9 + 3, none⟩ = some (.slice np n4 nc) := k5 3 _ rfl
      have d4 : wr.cell? ⟨bb, ob + j * 9 + 4, none⟩ = some (.slice vp n5 vc) := k5 4 _ rfl
      have d5 : wr.cell? ⟨bb, ob + j * 9 + 5, none⟩ = some (.int .i64 en.who) := k5 5 _ rfl
      have d6 : wr.cell? ⟨bb, ob + j * 9 + 6, none⟩ = some (.int .i64 en.rights) := k5 6 _ rfl
      have d7 : wr.cell? ⟨bb, ob + j * 9 + 7, none⟩ = some (.int .i64 en.epoch) := k5 7 _ rfl
      have d8 : wr.cell? ⟨bb, ob + j * 9 + 8, none⟩ = some (.slice wq n9 wc) := k5 8 _ rfl
      clear k5
      obtain ⟨wa, HWA⟩ : ∃ wa, Hid (wr.alloc (.cells #[.int .i64 en.kind, .int .i64 en.writer, .int .i64 en.seq, .slice np n4 nc, .slice vp n5 vc, .int .i64 en.who, .int .i64 en.rights, .int .i64 en.epoch, .slice wq n9 wc] 30) = wa) := ⟨_, rfl⟩
      have GA : Hid (Pl W wa p b L ∧ Below wr.heap.size wr wa) := by rw [← HWA.out]; exact ⟨GJ.out.step (bel_alloc (Nat.le_refl _) _), bel_alloc (Nat.le_refl _) _⟩
      have HCA : Hid (wa.heap[wr.heap.size]? = some (.cells #[.int .i64 en.kind, .int .i64 en.writer, .int .i64 en.seq, .slice np n4 nc, .slice vp n5 vc, .int .i64 en.who, .int .i64 en.rights, .int .i64 en.epoch, .slice wq n9 wc] 30 (0, 0))) := by rw [← HWA.out]; exact heap_alloc_new wr _
      go_wp2_with fail
      rw [HWA.out]
      cases hs : small en with
      | false =>
        refine (small_eq (HEN.out wa GA.out.1.bel) hs).mono ?_
        rintro e w2' ⟨rfl, hx⟩
        have G2 : Hid (Pl W w2' p b L ∧ w2'.heap[wr.heap.size]? = some (.cells #[.int .i64 en.kind, .int .i64 en.writer, .int .i64 en.seq, .slice np n4 nc, .slice vp n5 vc, .int .i64 en.who, .int .i64 en.rights, .int .i64 en.epoch, .slice wq n9 wc] 30 (0, 0))) := ⟨GA.out.1.step hx, (hx.block _ (Array.getElem?_eq_some_iff.1 HCA.out).1).trans HCA.out⟩
        clear hx d0 d1 d2 d3 d4 d5 d6 d7 d8 HWA HCA GA hs
        obtain ⟨c0, c1', c2, c3, c4, c5, c6, c7, c8⟩ := cells9 G2.out.2
        go_wp2_with fail
        go_ret
        exact ⟨rfl, HB0.out.trans (bel_le G2.out.1.bel HB0.out.size)⟩
      | true =>
        refine (small_eq (HEN.out wa GA.out.1.bel) hs).mono ?_
        rintro e w2' ⟨rfl, hx⟩
        have G2 : Hid (Pl W w2' p b L ∧ w2'.heap[wr.heap.size]? = some (.cells #[.int .i64 en.kind, .int .i64 en.writer, .int .i64 en.seq, .slice np n4 nc, .slice vp n5 vc, .int .i64 en.who, .int .i64 en.rights, .int .i64 en.epoch, .slice wq n9 wc] 30 (0, 0))) := ⟨GA.out.1.step hx, (hx.block _ (Array.getElem?_eq_some_iff.1 HCA.out).1).trans HCA.out⟩
        clear hx d0 d1 d2 d3 d4 d5 d6 d7 d8 HWA HCA GA hs
        obtain ⟨c0, c1', c2, c3, c4, c5, c6, c7, c8⟩ := cells9 G2.out.2
        go_wp2_with fail
        refine (Apply_any w2' p b L en _ G2.out.1.dc (HEN.out w2' G2.out.1.bel) (by have := HJ.out; omega)).mono ?_
        rintro e w3' ⟨rfl, hd3, ho3⟩
        have G3 : Hid (Pl W w3' p b (after L en).1) := G2.out.1.turn hd3 ho3
        have HJ3 : Hid ((after L en).1.length ≤ j + 1) := Nat.le_trans (after_len L en) (Nat.succ_le_succ HJ.out)
        clear hd3 ho3 c0 c1' c2 c3 c4 c5 c6 c7 c8
        generalize (after L en).1 = M at *
        generalize (after L en).2 = x at *
        go_wp2_with fail
        refine ⟨⟨j + 1, M, by omega, by simp, G3, HJ3⟩, ?_⟩
        simp only [intOf]
        omega
    · obtain rfl : j = n := by omega
      have j1 : ¬ (j : Int) < (j : Int) := by omega
      have HLB : Hid (L.length ≤ 1000000 ∧ L.length < 1000000) := ⟨by have := HJ.out; omega, by have := HJ.out; omega⟩
      obtain ⟨ln, HLN⟩ : ∃ ln, Hid (L.length = ln) := ⟨_, rfl⟩
      go_wp2_with fail
      refine (All_any wr p b L GJ.out.dc).mono ?_
      intro e w5 hx
      obtain ⟨q5, c5', rfl, hr5, hb5⟩ := hx.row
      clear hx
      have G5 : Hid (Pl W w5 p b L) := GJ.out.step hb5
      have R5 : Hid (DkRow w5 q5 L) := hr5
      clear hb5 hr5
      rw [HLN.out]
      go_wp2_with fail
      refine (madeDocs_any w5 q5 ln c5' L R5.out HLN.out (by rw [← HLN.out]; exact HLB.out.1)).mono ?_
      rintro e w6 ⟨q6, c6', rfl, hr6, hb6⟩
      have G6 : Hid (Pl W w6 p b L) := G5.out.step hb6
      have R6 : Hid (DkRow w6 q6 L) := hr6
      clear hb6 hr6 G5 R5
      obtain ⟨c0, c1', c2, c3, c4, c5, c6, c7, c8⟩ := cells9 (HCC.out w6 G6.out.bel)
      go_wp2_with fail
      refine (apply_eq G6.out.dc (HE.out w6 (HB0.out.trans (bel_le G6.out.bel HB0.out.size))) HLB.out.2 (after_other L HKD.out.1 HKD.out.2.1 HKD.out.2.2)).mono ?_
      rintro e w7 ⟨rfl, hd7, ho7⟩
      have G7 : Hid (Pl W w7 p b L) := G6.out.turn hd7 ho7
      have R7 : Hid (DkRow w7 q6 L) := R6.out.map ho7 G6.out.dc.isMap
      clear hd7 ho7 G6 R6 c0 c1' c2 c3 c4 c5 c6 c7 c8
      go_wp2_with fail
      refine (All_any w7 p b L G7.out.dc).mono ?_
      intro e w8 hx
      obtain ⟨q8, c8', rfl, hr8, hb8⟩ := hx.row
      clear hx
      have G8 : Hid (Pl W w8 p b L) := G7.out.step hb8
      have R8 : Hid (DkRow w8 q8 L ∧ DkRow w8 q6 L) := ⟨hr8, R7.out.below hb8⟩
      clear hb8 hr8 G7 R7
      rw [HLN.out]
      go_wp2_with fail
      refine (madeDocs_any w8 q8 ln c8' L R8.out.1 HLN.out (by rw [← HLN.out]; exact HLB.out.1)).mono ?_
      rintro e w9 ⟨q9, c9', rfl, hr9, hb9⟩
      have G9 : Hid (Pl W w9 p b L) := G8.out.step hb9
      have R9 : Hid (DkRow w9 q9 L ∧ DkRow w9 q6 L) := ⟨hr9, R8.out.2.below hb9⟩
      clear hb9 hr9 G8 R8
      go_wp2_with fail
      have hsm := rSame_any w9 q9 q6 ln ln c9' c6' L L R9.out.1 R9.out.2 HLN.out HLN.out (by rw [← HLN.out]; exact HLB.out.1) (by rw [← HLN.out]; exact HLB.out.1)
      unfold RsSays at hsm
      rw [decide_eq_true rfl] at hsm
      refine hsm.mono ?_
      rintro e w10 ⟨rfl, hb10⟩
      have G10 : Hid (Pl W w10 p b L) := G9.out.step hb10
      clear hb10 hsm
      go_wp2_with fail
      go_ret
      exact ⟨rfl, HB0.out.trans (bel_le G10.out.bel HB0.out.size)⟩
theorem others_any (w : World) (a1 : Option Addr) (n c1 : Nat) (va : Value) (h1 : n ≤ 9223372036854775807 ∧ ∃ es : List En, es.length = n ∧ EnRow w a1 es) (h2 : ∃ a, EnIs w va a) :
    Calls Try.prog 7 #[.slice a1 n c1, va] w fun e w' => e = .returned (.bool true) ∧ Below w.heap.size w w' := by
  obtain ⟨_, es, hl, hr⟩ := h1
  obtain ⟨a, ha⟩ := h2
  by_cases hn : n ≤ 20
  · cases hs : small a with
    | false => exact ot_big w a1 n c1 va a ha hn hs
    | true =>
      cases hr1 : right a with
      | false => exact ot_wrong w a1 n c1 va a ha hn hs hr1
      | true =>
        by_cases hk : a.kind < 3
        · exact ot_kind w a1 n c1 va a ha hn hs hr1 hk
        · exact ot_main w a1 n c1 va a ha es hl hr hn hs hr1 hk
  · exact ot_many w a1 n c1 va a ha (by omega)
end Go.Proofs.Ytigfiopmochliaa.D11
