/- The contract of Apply. -/
import Derived.Test.YtmlnbbggfjgacaaP10Ap4
namespace Go.Proofs.Ytmlnbbggfjgacaa.P10
open Go.RowKit C8 E9 Go.Sort
/-- The boxes of Apply: the policy, the entry, the answer. -/
structure B3 (w W : World) (P E : Array Value) : Prop where
  bel : Below w.heap.size w W
  box : W.heap[w.heap.size]? = some (.cells P 26 (0, 0))
  boe : W.heap[w.heap.size + 1]? = some (.cells E 38 (0, 0))
  boz : W.heap[w.heap.size + 2]? = some (.cells #[.int .i64 0, .int .i64 0, .slice none 0 0] 26 (0, 0))
section
variable {w W W' : World} {P E : Array Value}
theorem B3.lt (h : B3 w W P E) : w.heap.size + 3 ≤ W.heap.size := (Array.getElem?_eq_some_iff.1 h.boz).1
theorem B3.step' (h : B3 w W P E) (hb : Below (w.heap.size + 3) W W') : B3 w W' P E :=
  ⟨h.bel.trans (bel_le hb (by omega)), (hb.block _ (by omega)).trans h.box, (hb.block _ (by omega)).trans h.boe, (hb.block _ (by omega)).trans h.boz⟩
theorem B3.step (h : B3 w W P E) (hb : Below W.heap.size W W') : B3 w W' P E := h.step' (bel_le hb h.lt)
theorem B3.start (w : World) (P E : Array Value) : B3 w (((w.alloc (.cells P 26)).alloc (.cells E 38)).alloc (.cells #[.int .i64 0, .int .i64 0, .slice none 0 0] 26)) P E := by
  have h := B2.start w P E
  have hs : ((w.alloc (.cells P 26)).alloc (.cells E 38)).heap.size = w.heap.size + 2 := by simp
  have hb : Below ((w.alloc (.cells P 26)).alloc (.cells E 38)).heap.size ((w.alloc (.cells P 26)).alloc (.cells E 38)) (((w.alloc (.cells P 26)).alloc (.cells E 38)).alloc (.cells #[.int .i64 0, .int .i64 0, .slice none 0 0] 26)) := bel_alloc (Nat.le_refl _) _
  have h2 := h.step hb
  have hz := heap_alloc_new ((w.alloc (.cells P 26)).alloc (.cells E 38)) (.cells #[.int .i64 0, .int .i64 0, .slice none 0 0] 26)
  rw [hs] at hz
  exact ⟨h2.bel, h2.box, h2.boe, hz⟩
theorem B3.pcells {x0 x1 x2 : Value} (h : B3 w W #[x0, x1, x2] E) : W.cell? ⟨w.heap.size, 0, none⟩ = some (x0) ∧ W.cell? ⟨w.heap.size, 1, none⟩ = some (x1) ∧ W.cell? ⟨w.heap.size, 2, none⟩ = some (x2) := by
  refine ⟨?_, ?_, ?_⟩ <;> (rw [cell_of_row _ _ _ _ _ _ h.box]; rfl)
theorem B3.ecells {x0 x1 x2 x3 x4 x5 x6 x7 x8 : Value} (h : B3 w W P #[x0, x1, x2, x3, x4, x5, x6, x7, x8]) : W.cell? ⟨(w.heap.size + 1), 0, none⟩ = some (x0) ∧ W.cell? ⟨(w.heap.size + 1), 1, none⟩ = some (x1) ∧ W.cell? ⟨(w.heap.size + 1), 2, none⟩ = some (x2) ∧ W.cell? ⟨(w.heap.size + 1), 3, none⟩ = some (x3) ∧ W.cell? ⟨(w.heap.size + 1), 4, none⟩ = some (x4) ∧ W.cell? ⟨(w.heap.size + 1), 5, none⟩ = some (x5) ∧ W.cell? ⟨(w.heap.size + 1), 6, none⟩ = some (x6) ∧ W.cell? ⟨(w.heap.size + 1), 7, none⟩ = some (x7) ∧ W.cell? ⟨(w.heap.size + 1), 8, none⟩ = some (x8) := by
  refine ⟨?_, ?_, ?_, ?_, ?_, ?_, ?_, ?_, ?_⟩ <;> (rw [cell_of_row _ _ _ _ _ _ h.boe]; rfl)
theorem B3.zcells (h : B3 w W P E) : W.cell? ⟨(w.heap.size + 2), 0, none⟩ = some (.int .i64 0) ∧ W.cell? ⟨(w.heap.size + 2), 1, none⟩ = some (.int .i64 0) ∧ W.cell? ⟨(w.heap.size + 2), 2, none⟩ = some (.slice none 0 0) ∧ W.frozen? ⟨(w.heap.size + 2), 0, none⟩ = false ∧ W.frozen? ⟨(w.heap.size + 2), 1, none⟩ = false ∧ W.frozen? ⟨(w.heap.size + 2), 2, none⟩ = false :=
  ⟨by rw [cell_of_row _ _ _ _ _ _ h.boz]; rfl, by rw [cell_of_row _ _ _ _ _ _ h.boz]; rfl, by rw [cell_of_row _ _ _ _ _ _ h.boz]; rfl, frozen_of_row _ _ _ _ _ h.boz, frozen_of_row _ _ _ _ _ h.boz, frozen_of_row _ _ _ _ _ h.boz⟩
end
set_option maxHeartbeats 4000000 in
theorem Apply_no (p : Pol) (e : En) (vp0 ve0 : Value) (w : World) (hp : PolIs w vp0 p) (hE : EnIs w ve0 e) (r : Int) (hr : may p e = r) (h0 : r ≠ 0) : Calls Try.prog 14 #[vp0, ve0] w fun x w' => x = .returned (.tuple #[.agg z3, .int .i64 r]) ∧ Below w.heap.size w w' := by
  have hP := hp
  obtain ⟨mq, mc, rfl, -, -⟩ := hp
  have hEE := hE
  obtain ⟨np, nc, vp, vc, q, c, rfl, -⟩ := hE
  have HC18 : ∀ W, Hid (B3 w W (PolV p mq mc) (EnV e np nc vp vc q c)) → Calls Try.prog 18 #[.agg (PolV p mq mc), .agg (EnV e np nc vp vc q c)] W fun x w' => x = .returned (.int .i64 (may p e)) ∧ Hid (B3 w w' (PolV p mq mc) (EnV e np nc vp vc q c)) ∧ w'.cell? ⟨w.heap.size, 0, none⟩ = some (.int .i64 p.f) ∧ w'.cell? ⟨w.heap.size, 1, none⟩ = some (.int .i64 p.e) ∧ w'.cell? ⟨w.heap.size, 2, none⟩ = some (.slice mq p.ms.length mc) ∧ w'.cell? ⟨(w.heap.size + 1), 0, none⟩ = some (.int .i64 e.kind) ∧ w'.cell? ⟨(w.heap.size + 1), 1, none⟩ = some (.int .i64 e.writer) ∧ w'.cell? ⟨(w.heap.size + 1), 2, none⟩ = some (.int .i64 e.seq) ∧ w'.cell? ⟨(w.heap.size + 1), 3, none⟩ = some (.slice np e.name.length nc) ∧ w'.cell? ⟨(w.heap.size + 1), 4, none⟩ = some (.slice vp e.value.length vc) ∧ w'.cell? ⟨(w.heap.size + 1), 5, none⟩ = some (.int .i64 e.who) ∧ w'.cell? ⟨(w.heap.size + 1), 6, none⟩ = some (.int .i64 e.rights) ∧ w'.cell? ⟨(w.heap.size + 1), 7, none⟩ = some (.int .i64 e.epoch) ∧ w'.cell? ⟨(w.heap.size + 1), 8, none⟩ = some (.slice q e.wraps.length c) ∧ w'.cell? ⟨(w.heap.size + 2), 0, none⟩ = some (.int .i64 0) ∧ w'.cell? ⟨(w.heap.size + 2), 1, none⟩ = some (.int .i64 0) ∧ w'.cell? ⟨(w.heap.size + 2), 2, none⟩ = some (.slice none 0 0) ∧ w'.frozen? ⟨(w.heap.size + 2), 0, none⟩ = false ∧ w'.frozen? ⟨(w.heap.size + 2), 1, none⟩ = false ∧ w'.frozen? ⟨(w.heap.size + 2), 2, none⟩ = false := fun W h => (May_any p e _ _ W (hP.below h.out.bel) (hEE.below h.out.bel)).mono (by rintro x w' ⟨rfl, hb⟩; have k := h.out.step hb; exact ⟨rfl, k, k.pcells.1, k.pcells.2.1, k.pcells.2.2, k.ecells.1, k.ecells.2.1, k.ecells.2.2.1, k.ecells.2.2.2.1, k.ecells.2.2.2.2.1, k.ecells.2.2.2.2.2.1, k.ecells.2.2.2.2.2.2.1, k.ecells.2.2.2.2.2.2.2.1, k.ecells.2.2.2.2.2.2.2.2, k.zcells⟩)
  rw [hr] at HC18
  have HS0 : Hid (B3 w (((w.alloc (.cells (PolV p mq mc) 26)).alloc (.cells (EnV e np nc vp vc q c) 38)).alloc (.cells #[.int .i64 0, .int .i64 0, .slice none 0 0] 26)) (PolV p mq mc) (EnV e np nc vp vc q c)) := B3.start w _ _
  have hr0 : (r != 0) = true := by simp [h0]
  clear hP hEE hr h0
  obtain ⟨pf, pe, ms⟩ := p
  obtain ⟨e1, e2, e3, e4, e5, e6, e7, e8, e9⟩ := e
  simp only [PolV, EnV] at *
  generalize ms.length = ml at *
  generalize e4.length = l4 at *
  generalize e5.length = l5 at *
  generalize e9.length = l9 at *
  go_enter Try.func14, Try.ntmps14
  go_wp2_with (first | (go_at_call 18; refine (HC18 _ HS0).mono ?_; rintro x w1 ⟨rfl, S1, d0, d1, d2, f0, f1, f2, f3, f4, f5, f6, f7, f8, z0, z1, z2, y0, y1, y2⟩))
  exact bodyPost_ret (results_row2 rfl _ _ (w.heap.size + 2) 26 _ (0, 0) _ rfl (row3 S1.out.boz _ _ _) Try.underlying26 rfl (by kernel_rfl)) rfl ⟨rfl, bel3c S1.out.bel (by omega) _ _ _⟩
theorem holds_block {w w2 : World} {g : Nat} {ds : Array (Int × Int)} (h : HoldsK encM 2 w g 0 ds) (hk : w2.heap[g]? = w.heap[g]?) : HoldsK encM 2 w2 g 0 ds := fun j hj => by
  obtain ⟨h1, h2⟩ := h j hj
  refine ⟨(World.cell?_of_block (a := ⟨g, 0 + j, none⟩) hk).trans h1, ?_⟩
  rw [← h2]
  unfold World.frozen?
  rw [hk]
theorem MbOwn.only {B : Nat} {w w2 : World} {v : Value} {ms : List (Int × Int)} {bs : List Nat} (h : MbOwn B w v ms) (ho : Only bs w w2) (hb : ∀ x ∈ bs, x < B) : MbOwn B w2 v ms := by
  obtain ⟨q, c, rfl, h1 | ⟨g, rfl, hg, hl, hh⟩⟩ := h
  · exact ⟨q, c, rfl, .inl h1⟩
  · exact ⟨_, c, rfl, .inr ⟨g, rfl, hg, Nat.lt_of_lt_of_le hl ho.size, holds_block hh (ho.block g hl (fun e => by have := hb g e; omega))⟩⟩
theorem MbOwn.old {A B : Nat} {w : World} {v : Value} {ms : List (Int × Int)} (h : MbOwn B w v ms) (hb : A ≤ B) : MbOwn A w v ms := by
  obtain ⟨q, c, rfl, h1 | ⟨g, rfl, hg, hl, hh⟩⟩ := h
  · exact ⟨q, c, rfl, .inl h1⟩
  · exact ⟨_, c, rfl, .inr ⟨g, rfl, Nat.le_trans hb hg, hl, hh⟩⟩
/-- What an entry makes of a policy. -/
def ApOk (p : Pol) (e : En) (p' : Pol) : Prop :=
  p'.f = p.f ∧ (if e.kind = 3 then p'.e = p.e ∧ p'.ms.Perm (wout p.ms e.who ++ [(e.who, e.rights)]) ∧ ∀ i j, i < j → (hj : j < p'.ms.length) → (hi : i < p'.ms.length) → p'.ms[i].1 ≤ p'.ms[j].1 else if e.kind = 4 then p'.e = p.e ∧ p'.ms = wout p.ms e.who else if e.kind = 5 then p'.e = e.epoch ∧ p'.ms = p.ms else p'.e = p.e ∧ p'.ms = p.ms)
/-- What Apply tells of an entry that may be. -/
def ApSays (p : Pol) (e : En) (w : World) (x : Ending) (w' : World) : Prop :=
  Below w.heap.size w w' ∧ ∃ p' q c, x = .returned (.tuple #[.agg (PolV p' q c), .int .i64 0]) ∧ MbOwn w.heap.size w' (.slice q p'.ms.length c) p'.ms ∧ ApOk p e p'
set_option maxHeartbeats 8000000 in
theorem Apply_yes (p : Pol) (e : En) (vp0 ve0 : Value) (w : World) (hp : PolIs w vp0 p) (hE : EnIs w ve0 e) (h0 : may p e = 0) : Calls Try.prog 14 #[vp0, ve0] w fun x w' => ApSays p e w x w' := by
  have hpr : pright p = true ∧ right e = true := by
    unfold may at h0
    by_cases h : pright p = true ∧ right e = true
    · exact h
    · rw [if_neg h] at h0; cases h0
  obtain ⟨_, _, hm, _, hne⟩ := pright_of hpr.1
  have hlen : p.ms.length ≤ 16 := by have := mok_len (by decide) hm; omega
  have hP := hp
  obtain ⟨mq, mc, rfl, -, -⟩ := hp
  have hEE := hE
  obtain ⟨np, nc, vp, vc, q, c, rfl, -⟩ := hE
  have HC18 : ∀ W, Hid (B3 w W (PolV p mq mc) (EnV e np nc vp vc q c)) → Calls Try.prog 18 #[.agg (PolV p mq mc), .agg (EnV e np nc vp vc q c)] W fun x w' => x = .returned (.int .i64 0) ∧ Hid (B3 w w' (PolV p mq mc) (EnV e np nc vp vc q c)) ∧ w'.cell? ⟨w.heap.size, 0, none⟩ = some (.int .i64 p.f) ∧ w'.cell? ⟨w.heap.size, 1, none⟩ = some (.int .i64 p.e) ∧ w'.cell? ⟨w.heap.size, 2, none⟩ = some (.slice mq p.ms.length mc) ∧ w'.cell? ⟨(w.heap.size + 1), 0, none⟩ = some (.int .i64 e.kind) ∧ w'.cell? ⟨(w.heap.size + 1), 1, none⟩ = some (.int .i64 e.writer) ∧ w'.cell? ⟨(w.heap.size + 1), 2, none⟩ = some (.int .i64 e.seq) ∧ w'.cell? ⟨(w.heap.size + 1), 3, none⟩ = some (.slice np e.name.length nc) ∧ w'.cell? ⟨(w.heap.size + 1), 4, none⟩ = some (.slice vp e.value.length vc) ∧ w'.cell? ⟨(w.heap.size + 1), 5, none⟩ = some (.int .i64 e.who) ∧ w'.cell? ⟨(w.heap.size + 1), 6, none⟩ = some (.int .i64 e.rights) ∧ w'.cell? ⟨(w.heap.size + 1), 7, none⟩ = some (.int .i64 e.epoch) ∧ w'.cell? ⟨(w.heap.size + 1), 8, none⟩ = some (.slice q e.wraps.length c) ∧ w'.cell? ⟨(w.heap.size + 2), 0, none⟩ = some (.int .i64 0) ∧ w'.cell? ⟨(w.heap.size + 2), 1, none⟩ = some (.int .i64 0) ∧ w'.cell? ⟨(w.heap.size + 2), 2, none⟩ = some (.slice none 0 0) ∧ w'.frozen? ⟨(w.heap.size + 2), 0, none⟩ = false ∧ w'.frozen? ⟨(w.heap.size + 2), 1, none⟩ = false ∧ w'.frozen? ⟨(w.heap.size + 2), 2, none⟩ = false := fun W h => (May_any p e _ _ W (hP.below h.out.bel) (hEE.below h.out.bel)).mono (by rintro x w' ⟨rfl, hb⟩; have k := h.out.step hb; exact ⟨by rw [h0], k, k.pcells.1, k.pcells.2.1, k.pcells.2.2, k.ecells.1, k.ecells.2.1, k.ecells.2.2.1, k.ecells.2.2.2.1, k.ecells.2.2.2.2.1, k.ecells.2.2.2.2.2.1, k.ecells.2.2.2.2.2.2.1, k.ecells.2.2.2.2.2.2.2.1, k.ecells.2.2.2.2.2.2.2.2, k.zcells⟩)
  have HMB : Hid (∀ W, Below w.heap.size w W → Mb W mq p.ms) := fun W hW => by
    obtain ⟨q', c', e', h1, _⟩ := hP.below hW
    have e9 : Value.slice mq p.ms.length mc = Value.slice q' p.ms.length c' := by
      have := congrArg (fun x => match x with | .agg a => a[2]? | _ => none) e'
      simpa [PolV] using this
    cases e9
    exact h1
  have HC25 : Hid (∀ W, Below w.heap.size w W → Calls Try.prog 25 #[.slice mq p.ms.length mc] W fun x u => ∃ v, x = .returned v ∧ u.ownsRow W.heap.size 50 2 v p.ms.length (flatM p.ms) ∧ Below W.heap.size W u) := fun W hW => clone_any mq mc p.ms W (HMB.out W hW) hne (by omega)
  have HC26 : Hid (∀ W, Below w.heap.size w W → Calls Try.prog 26 #[.slice mq p.ms.length mc, .int .i64 e.who] W fun x u => ∃ v, x = .returned v ∧ u.ownsRow W.heap.size 50 2 v (wout p.ms e.who).length (flatM (wout p.ms e.who)) ∧ Below W.heap.size W u) := fun W hW => without_any p.ms mq mc e.who W (HMB.out W hW) (by omega)
  have HS0 : Hid (B3 w (((w.alloc (.cells (PolV p mq mc) 26)).alloc (.cells (EnV e np nc vp vc q c) 38)).alloc (.cells #[.int .i64 0, .int .i64 0, .slice none 0 0] 26)) (PolV p mq mc) (EnV e np nc vp vc q c)) := B3.start w _ _
  have HWL : Hid ((wout p.ms e.who).length ≤ 16) := Nat.le_trans (wout_le _ _) hlen
  have HNE : Hid (p.ms ≠ []) := hne
  clear hP hEE h0 hpr hm hne HMB
  obtain ⟨SP, HSS⟩ : ∃ SP, Hid (ApSays p e w = SP) := ⟨_, rfl⟩
  rw [HSS.out]
  obtain ⟨pf, pe, ms⟩ := p
  obtain ⟨e1, e2, e3, e4, e5, e6, e7, e8, e9⟩ := e
  simp only [PolV, EnV] at *
  obtain ⟨ml, HML⟩ : ∃ ml, Hid (ms.length = ml) := ⟨_, rfl⟩
  rw [HML.out] at HC18 HC25 HC26 HS0 hlen ⊢
  generalize e4.length = l4 at *
  generalize e5.length = l5 at *
  generalize e9.length = l9 at *
  go_enter Try.func14, Try.ntmps14
  go_wp2_with (first | (go_at_call 18; refine (HC18 _ HS0).mono ?_; rintro x w1 ⟨rfl, S1, d0, d1, d2, f0, f1, f2, f3, f4, f5, f6, f7, f8, z0, z1, z2, y0, y1, y2⟩))
  obtain ⟨B, HBB⟩ : ∃ B, Hid (w1.heap.size = B) := ⟨_, rfl⟩
  obtain ⟨p2, HP2⟩ : ∃ p2, Hid (w.heap.size = p2) := ⟨_, rfl⟩
  have HBX : Hid (∀ w', Below B w1 w' → B3 w w' #[.int .i64 pf, .int .i64 pe, .slice mq ml mc] #[.int .i64 e1, .int .i64 e2, .int .i64 e3, .slice np l4 nc, .slice vp l5 vc, .int .i64 e6, .int .i64 e7, .int .i64 e8, .slice q l9 c]) := by rw [← HBB.out]; exact fun w' hb => S1.out.step hb
  have HX : Hid (∀ w', Below B w1 w' → w'.cell? ⟨p2, 0, none⟩ = some (.int .i64 pf) ∧ w'.cell? ⟨p2, 1, none⟩ = some (.int .i64 pe) ∧ w'.cell? ⟨p2, 2, none⟩ = some (.slice mq ml mc)) := by rw [← HP2.out]; exact fun w' hb => (HBX.out w' hb).pcells
  have HCL : Hid (∀ w', Below B w1 w' → Calls Try.prog 25 #[.slice mq ml mc] w' fun x u => ∃ v, x = .returned v ∧ u.ownsRow w'.heap.size 50 2 v ml (flatM ms) ∧ Below w'.heap.size w' u) := fun w' hb => HC25.out w' (HBX.out w' hb).bel
  have HB3 : Hid (w.heap.size + 3 ≤ B) := by have := S1.out.lt; rw [HBB.out] at this; exact this
  have HBW : Hid (∀ w', Below B w1 w' → B ≤ w'.heap.size) := fun w' hb => by have := hb.size; rw [HBB.out] at this; exact this
  clear HC18 HC25 HS0 S1 d0 d1 d2 f0 f1 f2 f3 f4 f5 f6 f7 f8 z0 z1 z2 y0 y1 y2
  rw [HP2.out]
  refine wp_region_sa (V4 p2 ml mc mq pf pe) (fun u u' => Below B u u') (S4 B ml (flatM ms) pf pe) (by kernel_rfl) (bel_drew _ _) (fun _ _ _ h k => h.trans k) (V4_kept p2 ml mc mq pf pe B) (by kernel_rfl) (S4.start _ _) ?_ ?_
  · intro i o a' w' f hi inv hS hfi hfw hpre
    have ho : Below B w1 w' := inv.grow
    have hsz : a'.tmps.size = 57 := inv.size
    have hlt : i < 10 := (Array.getElem?_eq_some_iff.1 hi).1
    obtain rfl|rfl|rfl|rfl|rfl|rfl|rfl|rfl|rfl|rfl : i = 0 ∨ i = 1 ∨ i = 2 ∨ i = 3 ∨ i = 4 ∨ i = 5 ∨ i = 6 ∨ i = 7 ∨ i = 8 ∨ i = 9 := by omega
    · obtain rfl := Option.some.inj hi
      have h0 : a'.tmps.getD 2 undef = .pointer (some ⟨p2, 0, none⟩) := by rw [inv.old 2 (notDst_spec (by kernel_rfl))]; rfl
      exact wpOp_value _ rfl rfl (fa_run 26 0 2 p2 rfl h0 (fa26_0 p2)) ⟨Below.refl _ _, S4.quiet hS hfi (by decide) 15 (by decide) _, _, rfl, rfl⟩
    · obtain rfl := Option.some.inj hi
      have h0 : a'.tmps.getD 15 undef = _ := pre_of hpre 0 15 (by kernel_rfl) (by kernel_rfl)
      exact wpOp_value _ rfl rfl (load_run 3 15 p2 0 _ rfl h0 (ld3 (HX.out w' ho).1)) ⟨Below.refl _ _, S4.quiet hS hfi (by decide) 16 (by decide) _, _, rfl, rfl⟩
    · obtain rfl := Option.some.inj hi
      have h0 : a'.tmps.getD 2 undef = .pointer (some ⟨p2, 0, none⟩) := by rw [inv.old 2 (notDst_spec (by kernel_rfl))]; rfl
      exact wpOp_value _ rfl rfl (fa_run 26 1 2 p2 rfl h0 (fa26_1 p2)) ⟨Below.refl _ _, S4.quiet hS hfi (by decide) 17 (by decide) _, _, rfl, rfl⟩
    · obtain rfl := Option.some.inj hi
      have h0 : a'.tmps.getD 17 undef = _ := pre_of hpre 2 17 (by kernel_rfl) (by kernel_rfl)
      exact wpOp_value _ rfl rfl (load_run 3 17 p2 1 _ rfl h0 (ld3 (HX.out w' ho).2.1)) ⟨Below.refl _ _, S4.quiet hS hfi (by decide) 18 (by decide) _, _, rfl, rfl⟩
    · obtain rfl := Option.some.inj hi
      have h0 : a'.tmps.getD 2 undef = .pointer (some ⟨p2, 0, none⟩) := by rw [inv.old 2 (notDst_spec (by kernel_rfl))]; rfl
      exact wpOp_value _ rfl rfl (fa_run 26 2 2 p2 rfl h0 (fa26_2 p2)) ⟨Below.refl _ _, S4.quiet hS hfi (by decide) 19 (by decide) _, _, rfl, rfl⟩
    · obtain rfl := Option.some.inj hi
      have h0 : a'.tmps.getD 19 undef = _ := pre_of hpre 4 19 (by kernel_rfl) (by kernel_rfl)
      exact wpOp_value _ rfl rfl (load_run 24 19 p2 2 _ rfl h0 (ld24 (HX.out w' ho).2.2)) ⟨Below.refl _ _, S4.quiet hS hfi (by decide) 20 (by decide) _, _, rfl, rfl⟩
    · obtain rfl := Option.some.inj hi
      have h0 : a'.tmps.getD 20 undef = _ := pre_of hpre 5 20 (by kernel_rfl) (by kernel_rfl)
      have h7 : f 7 = false := by
        cases h : f 7 with
        | false => rfl
        | true => exact absurd (hS.seven h) (by rw [hfi]; decide)
      refine wpOp_call 25 #[a'.tmps.getD 20 undef] rfl rfl (by kernel_rfl) ?_
      rw [h0]
      refine (HCL.out w' ho).mono ?_
      rintro x u ⟨v, rfl, h1, h2⟩
      obtain ⟨q1, c1, rfl⟩ := own_slice h1
      exact ⟨_, rfl, bel_le h2 (HBW.out w' ho), S4.call hS hfi h7 q1 c1 (by omega) h1 h2 (HBW.out w' ho), _, rfl, trivial⟩
    · obtain rfl := Option.some.inj hi
      have h0 : a'.tmps.getD 16 undef = _ := pre_of hpre 1 16 (by kernel_rfl) (by kernel_rfl)
      have h1 : a'.tmps.getD 18 undef = _ := pre_of hpre 3 18 (by kernel_rfl) (by kernel_rfl)
      have h6 := been_of hfw 6 (by kernel_rfl)
      obtain ⟨q1, c1, k1, k2⟩ := hS.row h6 (hS.not hfi (by decide))
      exact wpOp_value _ rfl rfl (bl26_run 16 18 21 _ _ q1 ml c1 rfl h0 h1 k1) ⟨Below.refl _ _, S4.build hS hfi h6 (by omega) q1 c1 k1, _, rfl, trivial⟩
    · obtain rfl := Option.some.inj hi
      exact wpOp_value _ rfl rfl (al26_run rfl) ⟨bel_alloc (HBW.out w' ho) _, S4.alloc hS hfi (by omega) (HBW.out w' ho), _, rfl, trivial⟩
    · obtain rfl := Option.some.inj hi
      have h6 := been_of hfw 6 (by kernel_rfl)
      have h7 := been_of hfw 7 (by kernel_rfl)
      have h8 := been_of hfw 8 (by kernel_rfl)
      obtain ⟨q1, c1, k1, k2⟩ := hS.row h6 hfi
      obtain ⟨q2, c2, j1, j2⟩ := hS.bld h7 hfi
      rw [k1] at j1
      cases j1
      obtain ⟨pp, m1, m2, m3, m4⟩ := hS.box h8 hfi
      refine wpOp_skipp rfl rfl (st26_run 7 22 pp pf pe q1 ml c1 rfl m1 j2 m3) ⟨bel3c (Below.refl _ _) m2 _ _ _, ⟨?_, ?_, ?_, ?_, ?_, ?_⟩, undef, rfl, trivial⟩
      · intro _ j hj
        have hall : f j = true := by
          obtain rfl|rfl|rfl|rfl|rfl|rfl|rfl|rfl|rfl : j = 0 ∨ j = 1 ∨ j = 2 ∨ j = 3 ∨ j = 4 ∨ j = 5 ∨ j = 6 ∨ j = 7 ∨ j = 8 := by omega
          all_goals exact been_of hfw _ (by kernel_rfl)
        show (if j = 9 then true else f j) = true
        rw [if_neg (by omega)]
        exact hall
      · intro _; rw [if_neg (by decide)]; exact h6
      · intro _ h; simp at h
      · intro _ h; simp at h
      · intro _ h; simp at h
      · intro _
        refine ⟨pp, q1, c1, m1, row3 m3 _ _ _, m2, own_only k2 (only3 _ pp _ _ _) (fun b hb hmem => ?_), fun g hg => ?_⟩
        · rw [k1] at m4
          exact m4 h6 b hb (by simpa using hmem)
        · rw [k1] at m4
          exact m4 h6 g hg
  · intro a' w4 f inv hS hall _
    have hdf : a'.defers = [] := inv.defers
    have hsz : a'.tmps.size = 57 := inv.size
    have ho : Below B w1 w4 := inv.grow
    have e := frame14_4 hsz (fun t ht => inv.old t (dstsIn_spec (ts := [7, 15, 16, 17, 18, 19, 20, 21, 22]) (by kernel_rfl) t ht))
    obtain ⟨p7, q7, c7, k1, k2, k3, k4, k5⟩ := hS.fin (hall 9 (by decide))
    clear inv hsz hall hS
    obtain ⟨tmps, defers⟩ := a'
    obtain rfl : defers = [] := hdf
    replace e : tmps = _ := e
    replace k1 : tmps.getD 7 undef = .pointer (some ⟨p7, 0, none⟩) := k1
    generalize tmps.getD 7 undef = x7 at *
    generalize tmps.getD 15 undef = x15 at *
    generalize tmps.getD 16 undef = x16 at *
    generalize tmps.getD 17 undef = x17 at *
    generalize tmps.getD 18 undef = x18 at *
    generalize tmps.getD 19 undef = x19 at *
    generalize tmps.getD 20 undef = x20 at *
    generalize tmps.getD 21 undef = x21 at *
    generalize tmps.getD 22 undef = x22 at *
    simp only [Array.getD_eq_getD_getElem?, List.getElem?_toArray, List.getElem?_cons_succ, List.getElem?_cons_zero, Option.getD_some] at e
    subst e
    subst k1
    have e2 : w.heap.size = p2 := HP2.out
    subst e2
    have H4 : Hid (B3 w w4 #[.int .i64 pf, .int .i64 pe, .slice mq ml mc] #[.int .i64 e1, .int .i64 e2, .int .i64 e3, .slice np l4 nc, .slice vp l5 vc, .int .i64 e6, .int .i64 e7, .int .i64 e8, .slice q l9 c]) := HBX.out w4 ho
    have K2 : Hid (w4.heap[p7]? = some (.cells #[.int .i64 pf, .int .i64 pe, .slice q7 ml c7] 26 (0, 0))) := k2
    have K4 : Hid (w4.ownsRow B 50 2 (.slice q7 ml c7) ml (flatM ms)) := k4
    have K3 : Hid (w.heap.size + 3 ≤ p7 ∧ p7 < w4.heap.size) := ⟨Nat.le_trans HB3.out k3, (Array.getElem?_eq_some_iff.1 k2).1⟩
    obtain ⟨d0, d1, d2⟩ := H4.out.pcells
    obtain ⟨f0, f1, f2, f3, f4, f5, f6, f7, f8⟩ := H4.out.ecells
    obtain ⟨z0, z1, z2, y0, y1, y2⟩ := H4.out.zcells
    have g0 : w4.cell? ⟨p7, 0, none⟩ = some (.int .i64 pf) := by rw [cell_of_row _ _ _ _ _ _ k2]; rfl
    have g1 : w4.cell? ⟨p7, 1, none⟩ = some (.int .i64 pe) := by rw [cell_of_row _ _ _ _ _ _ k2]; rfl
    have g2 : w4.cell? ⟨p7, 2, none⟩ = some (.slice q7 ml c7) := by rw [cell_of_row _ _ _ _ _ _ k2]; rfl
    have gf1 : w4.frozen? ⟨p7, 1, none⟩ = false := frozen_of_row _ _ _ _ _ k2
    have gf2 : w4.frozen? ⟨p7, 2, none⟩ = false := frozen_of_row _ _ _ _ _ k2
    have HK5 : Hid (∀ g, (Value.slice q7 ml c7).ownBlock = some g → g ≠ p7) := k5
    clear ho k2 k3 k4 k5 HX HCL HBX HBB HBW
    by_cases h3 : e1 = 3
    · have n3 : (e1 == 3) = true := by simp [h3]
      have HB1 : Hid (p7 < w4.heap.size ∧ w.heap.size + 3 ≤ p7) := ⟨K3.out.2, K3.out.1⟩
      go_wp2_with fail
      obtain ⟨B1, HBB⟩ : ∃ B1, Hid (w4.heap.size = B1) := ⟨_, rfl⟩
      obtain ⟨p2, HP2⟩ : ∃ p2, Hid (w.heap.size = p2) := ⟨_, rfl⟩
      obtain ⟨p3, HP3⟩ : ∃ p3, Hid (w.heap.size + 1 = p3) := ⟨_, rfl⟩
      obtain ⟨B0, HB0⟩ : ∃ B0, Hid (w.heap.size + 3 = B0) := ⟨_, rfl⟩
      have HBX : Hid (∀ w', Below B0 w4 w' → B3 w w' #[.int .i64 pf, .int .i64 pe, .slice mq ml mc] #[.int .i64 e1, .int .i64 e2, .int .i64 e3, .slice np l4 nc, .slice vp l5 vc, .int .i64 e6, .int .i64 e7, .int .i64 e8, .slice q l9 c]) := by rw [← HB0.out]; exact fun w' hb => H4.out.step' hb
      have HX : Hid (∀ w', Below B0 w4 w' → w'.cell? ⟨p2, 2, none⟩ = some (.slice mq ml mc) ∧ w'.cell? ⟨p3, 5, none⟩ = some (.int .i64 e6) ∧ w'.cell? ⟨p3, 6, none⟩ = some (.int .i64 e7)) := by
        rw [← HP2.out, ← HP3.out]
        exact fun w' hb => ⟨(HBX.out w' hb).pcells.2.2, (HBX.out w' hb).ecells.2.2.2.2.2.1, (HBX.out w' hb).ecells.2.2.2.2.2.2.1⟩
      have HCW : Hid (∀ w', Below B0 w4 w' → Calls Try.prog 26 #[.slice mq ml mc, .int .i64 e6] w' fun x u => ∃ v, x = .returned v ∧ u.ownsRow w'.heap.size 50 2 v (wout ms e6).length (flatM (wout ms e6)) ∧ Below w'.heap.size w' u) := fun w' hb => HC26.out w' (HBX.out w' hb).bel
      have HBW : Hid (∀ w', Below B0 w4 w' → B1 ≤ w'.heap.size) := fun w' hb => by have := hb.size; rw [HBB.out] at this; exact this
      have HL1 : Hid (p7 < B1 ∧ B0 ≤ p7 ∧ B0 ≤ B1) := by have := HB1.out; rw [HBB.out, HB0.out] at this; exact ⟨this.1, this.2, by omega⟩
      clear HC26 d0 d1 d2 f0 f1 f2 f3 f4 f5 f6 f7 f8 z0 z1 z2 y0 y1 y2 g0 g1 g2 gf1 gf2 K4
      generalize hmm : (wout ms e6).length = mm at *
      have HMM : Hid ((wout ms e6).length = mm) := hmm
      clear hmm
      rw [HP3.out, HP2.out]
      refine wp_region_sa (V7 p2 p3 p7 ml mc mq e6 e7) (fun u u' => Below B0 u u') (S7 B1 mm p7 (flatM (wout ms e6)) pf pe e6 e7 (.slice q7 ml c7)) (by kernel_rfl) (bel_drew _ _) (fun _ _ _ h k => h.trans k) (V7_kept p2 p3 p7 ml mc mq e6 e7 B0) (by kernel_rfl) (S7.start _ _ K2.out) ?_ ?_
      · intro i o a' w' f hi inv hS hfi hfw hpre
        have ho : Below B0 w4 w' := inv.grow
        have hsz : a'.tmps.size = 57 := inv.size
        have hlt : i < 14 := (Array.getElem?_eq_some_iff.1 hi).1
        obtain rfl|rfl|rfl|rfl|rfl|rfl|rfl|rfl|rfl|rfl|rfl|rfl|rfl|rfl : i = 0 ∨ i = 1 ∨ i = 2 ∨ i = 3 ∨ i = 4 ∨ i = 5 ∨ i = 6 ∨ i = 7 ∨ i = 8 ∨ i = 9 ∨ i = 10 ∨ i = 11 ∨ i = 12 ∨ i = 13 := by omega
        · obtain rfl := Option.some.inj hi
          have h0 : a'.tmps.getD 2 undef = .pointer (some ⟨p2, 0, none⟩) := by rw [inv.old 2 (notDst_spec (by kernel_rfl))]; rfl
          exact wpOp_value _ rfl rfl (fa_run 26 2 2 p2 rfl h0 (fa26_2 p2)) ⟨Below.refl _ _, S7.quiet hS hfi (by decide) 27 (by decide) _, _, rfl, rfl⟩
        · obtain rfl := Option.some.inj hi
          have h0 : a'.tmps.getD 27 undef = _ := pre_of hpre 0 27 (by kernel_rfl) (by kernel_rfl)
          exact wpOp_value _ rfl rfl (load_run 24 27 p2 2 _ rfl h0 (ld24 (HX.out w' ho).1)) ⟨Below.refl _ _, S7.quiet hS hfi (by decide) 28 (by decide) _, _, rfl, rfl⟩
        · obtain rfl := Option.some.inj hi
          have h0 : a'.tmps.getD 3 undef = .pointer (some ⟨p3, 0, none⟩) := by rw [inv.old 3 (notDst_spec (by kernel_rfl))]; rfl
          exact wpOp_value _ rfl rfl (fa_run 38 5 3 p3 rfl h0 (fa38_5 p3)) ⟨Below.refl _ _, S7.quiet hS hfi (by decide) 29 (by decide) _, _, rfl, rfl⟩
        · obtain rfl := Option.some.inj hi
          have h0 : a'.tmps.getD 29 undef = _ := pre_of hpre 2 29 (by kernel_rfl) (by kernel_rfl)
          exact wpOp_value _ rfl rfl (load_run 3 29 p3 5 _ rfl h0 (ld3 (HX.out w' ho).2.1)) ⟨Below.refl _ _, S7.quiet hS hfi (by decide) 30 (by decide) _, _, rfl, rfl⟩
        · obtain rfl := Option.some.inj hi
          have h0 : a'.tmps.getD 28 undef = _ := pre_of hpre 1 28 (by kernel_rfl) (by kernel_rfl)
          have h1 : a'.tmps.getD 30 undef = _ := pre_of hpre 3 30 (by kernel_rfl) (by kernel_rfl)
          have h11 : f 11 = false := by
            cases h : f 11 with
            | false => rfl
            | true => exact absurd (hS.eleven h).1 (by rw [hfi]; decide)
          refine wpOp_call 26 #[a'.tmps.getD 28 undef, a'.tmps.getD 30 undef] rfl rfl (by kernel_rfl) ?_
          rw [h0, h1]
          refine (HCW.out w' ho).mono ?_
          rintro x u ⟨v, rfl, k1, k2⟩
          obtain ⟨q1, c1, rfl⟩ := own_slice k1
          exact ⟨_, rfl, bel_le k2 (Nat.le_trans HL1.out.2.2 (HBW.out w' ho)), S7.call hS hfi h11 q1 c1 (by omega) k1 k2 (HBW.out w' ho), _, rfl, trivial⟩
        · obtain rfl := Option.some.inj hi
          have h0 : a'.tmps.getD 3 undef = .pointer (some ⟨p3, 0, none⟩) := by rw [inv.old 3 (notDst_spec (by kernel_rfl))]; rfl
          exact wpOp_value _ rfl rfl (fa_run 38 5 3 p3 rfl h0 (fa38_5 p3)) ⟨Below.refl _ _, S7.quiet hS hfi (by decide) 32 (by decide) _, _, rfl, rfl⟩
        · obtain rfl := Option.some.inj hi
          have h0 : a'.tmps.getD 32 undef = _ := pre_of hpre 5 32 (by kernel_rfl) (by kernel_rfl)
          exact wpOp_value _ rfl rfl (load_run 3 32 p3 5 _ rfl h0 (ld3 (HX.out w' ho).2.1)) ⟨Below.refl _ _, S7.quiet hS hfi (by decide) 33 (by decide) _, _, rfl, rfl⟩
        · obtain rfl := Option.some.inj hi
          have h0 : a'.tmps.getD 3 undef = .pointer (some ⟨p3, 0, none⟩) := by rw [inv.old 3 (notDst_spec (by kernel_rfl))]; rfl
          exact wpOp_value _ rfl rfl (fa_run 38 6 3 p3 rfl h0 (fa38_6 p3)) ⟨Below.refl _ _, S7.quiet hS hfi (by decide) 34 (by decide) _, _, rfl, rfl⟩
        · obtain rfl := Option.some.inj hi
          have h0 : a'.tmps.getD 34 undef = _ := pre_of hpre 7 34 (by kernel_rfl) (by kernel_rfl)
          exact wpOp_value _ rfl rfl (load_run 3 34 p3 6 _ rfl h0 (ld3 (HX.out w' ho).2.2)) ⟨Below.refl _ _, S7.quiet hS hfi (by decide) 35 (by decide) _, _, rfl, rfl⟩
        · obtain rfl := Option.some.inj hi
          have h0 : a'.tmps.getD 33 undef = _ := pre_of hpre 6 33 (by kernel_rfl) (by kernel_rfl)
          have h1 : a'.tmps.getD 35 undef = _ := pre_of hpre 8 35 (by kernel_rfl) (by kernel_rfl)
          exact wpOp_value _ rfl rfl (bl50_run 33 35 _ _ rfl h0 h1) ⟨Below.refl _ _, S7.quiet hS hfi (by decide) 36 (by decide) _, _, rfl, rfl⟩
        · obtain rfl := Option.some.inj hi
          have h0 : a'.tmps.getD 36 undef = _ := pre_of hpre 9 36 (by kernel_rfl) (by kernel_rfl)
          have h11 : f 11 = false := by
            cases h : f 11 with
            | false => rfl
            | true => exact absurd (hS.eleven h).2 (by rw [hfi]; decide)
          exact wpOp_value _ rfl rfl (bs24_run 36 _ _ rfl h0) ⟨bel_alloc (Nat.le_trans HL1.out.2.2 (HBW.out w' ho)) _, S7.lay hS hfi h11 (by omega), _, rfl, trivial⟩
        · have hop : o.op = .call { callee := .builtin .append, args := #[.tmp 31, .tmp 37], argTypes := #[24, 24] } := by rw [← Option.some.inj hi]; rfl
          have hwd : ∀ y, Region.wanted o y = true := by intro y; rw [← Option.some.inj hi]; rfl
          have hdst : o.dst = some 38 := by rw [← Option.some.inj hi]; rfl
          rw [← Option.some.inj hi] at hfw
          have h4 := been_of hfw 4 (by kernel_rfl)
          have h10 := been_of hfw 10 (by kernel_rfl)
          obtain ⟨q1, c1, k1, k2⟩ := hS.row h4 hfi
          obtain ⟨g, j1, j2⟩ := hS.one h10 hfi
          obtain ⟨v, w'', hr, m1, m2⟩ := ap24_run 31 37 B1 mm _ _ g e6 e7 hop k1 j1 k2 j2 (by have := HWL.out; omega) (HBW.out w' ho)
          obtain ⟨q2, c2, rfl⟩ := own_slice m1
          have hbl := below_append k2 m2 (HBW.out w' ho)
          refine wpOp_value _ hi (hwd _) hr ⟨bel_le hbl HL1.out.2.2, ?_, _, rfl, trivial⟩
          rw [hdst]
          exact S7.app hS hfi h4 h10 q2 c2 (by omega) m1 hbl HL1.out.1
        · obtain rfl := Option.some.inj hi
          have h0 : a'.tmps.getD 7 undef = .pointer (some ⟨p7, 0, none⟩) := by rw [inv.old 7 (notDst_spec (by kernel_rfl))]; rfl
          exact wpOp_value _ rfl rfl (fa_run 26 2 7 p7 rfl h0 (fa26_2 p7)) ⟨Below.refl _ _, S7.quiet hS hfi (by decide) 39 (by decide) _, _, rfl, rfl⟩
        · obtain rfl := Option.some.inj hi
          have h0 : a'.tmps.getD 39 undef = _ := pre_of hpre 12 39 (by kernel_rfl) (by kernel_rfl)
          have h11 := been_of hfw 11 (by kernel_rfl)
          obtain ⟨q1, c1, k1, k2⟩ := hS.all h11 hfi
          have hb := hS.box hfi
          refine wpOp_skipp rfl rfl (st24_run 39 38 p7 2 q1 (mm + 1) c1 _ rfl h0 k1 (by rw [cell_of_row _ _ _ _ _ _ hb]; rfl) (frozen_of_row _ _ _ _ _ hb)) ⟨(Below.refl _ _).setCell (p := ⟨p7, 2, none⟩) HL1.out.2.1 _, ⟨?_, ?_, ?_, ?_, ?_, ?_, ?_⟩, undef, rfl, trivial⟩
          · intro _ j hj
            have hall : f j = true := by
              obtain rfl|rfl|rfl|rfl|rfl|rfl|rfl|rfl|rfl|rfl|rfl|rfl|rfl : j = 0 ∨ j = 1 ∨ j = 2 ∨ j = 3 ∨ j = 4 ∨ j = 5 ∨ j = 6 ∨ j = 7 ∨ j = 8 ∨ j = 9 ∨ j = 10 ∨ j = 11 ∨ j = 12 := by omega
              all_goals exact been_of hfw _ (by kernel_rfl)
            show (if j = 13 then true else f j) = true
            rw [if_neg (by omega)]
            exact hall
          · intro h; simp at h
          · intro h; rw [if_neg (by decide)] at h; rw [if_neg (by decide), if_neg (by decide)]; exact hS.eleven h
          · intro _ h; rw [if_neg (by decide), h11] at h; cases h
          · intro _ h; rw [if_neg (by decide), h11] at h; cases h
          · intro _ h; simp at h
          · intro _
            exact ⟨q1, c1, heap_setCell_same _ p7 2 _ 26 _ hb, own_only k2 (Only.setCell (bs := [p7]) _ ⟨p7, 2, none⟩ _ (by simp)) (own_off k2 (by have := HL1.out; simp; omega))⟩
      · intro a' w5 f inv hS hall _
        have hdf : a'.defers = [] := inv.defers
        have hsz : a'.tmps.size = 57 := inv.size
        have ho : Below B0 w4 w5 := inv.grow
        have e := frame14_7 hsz (fun t ht => inv.old t (dstsIn_spec (ts := [27, 28, 29, 30, 31, 32, 33, 34, 35, 36, 37, 38, 39]) (by kernel_rfl) t ht))
        obtain ⟨q5, c5, k5, k6⟩ := hS.fin (hall 13 (by decide))
        clear inv hsz hall hS
        obtain ⟨tmps, defers⟩ := a'
        obtain rfl : defers = [] := hdf
        replace e : tmps = _ := e
        generalize tmps.getD 27 undef = x27 at *
        generalize tmps.getD 28 undef = x28 at *
        generalize tmps.getD 29 undef = x29 at *
        generalize tmps.getD 30 undef = x30 at *
        generalize tmps.getD 31 undef = x31 at *
        generalize tmps.getD 32 undef = x32 at *
        generalize tmps.getD 33 undef = x33 at *
        generalize tmps.getD 34 undef = x34 at *
        generalize tmps.getD 35 undef = x35 at *
        generalize tmps.getD 36 undef = x36 at *
        generalize tmps.getD 37 undef = x37 at *
        generalize tmps.getD 38 undef = x38 at *
        generalize tmps.getD 39 undef = x39 at *
        simp only [Array.getD_eq_getD_getElem?, List.getElem?_toArray, List.getElem?_cons_succ, List.getElem?_cons_zero, Option.getD_some] at e
        subst e
        have e2 : w.heap.size = p2 := HP2.out
        subst e2
        have e3' : w.heap.size + 1 = p3 := HP3.out
        subst e3'
        have H5 : Hid (B3 w w5 #[.int .i64 pf, .int .i64 pe, .slice mq ml mc] #[.int .i64 e1, .int .i64 e2, .int .i64 e3, .slice np l4 nc, .slice vp l5 vc, .int .i64 e6, .int .i64 e7, .int .i64 e8, .slice q l9 c]) := HBX.out w5 ho
        have O5 : Hid (MbOwn B1 w5 (.slice q5 (mm + 1) c5) (wout ms e6 ++ [(e6, e7)])) := MbOwn.of_own (by rw [flatM_append]; exact k6) (by rw [List.length_append, HMM.out]; rfl)
        have HC27 : Calls Try.prog 27 #[.slice q5 (mm + 1) c5, .func (.func 28) #[] #[]] w5 fun x w6 => x = .returned (.tuple #[]) ∧ ∃ ms', Hid (MbOwn B1 w6 (.slice q5 (mm + 1) c5) ms' ∧ ms'.Perm (wout ms e6 ++ [(e6, e7)]) ∧ (∀ i j, i < j → (hj : j < ms'.length) → (hi : i < ms'.length) → ms'[i].1 ≤ ms'[j].1) ∧ Below B1 w5 w6) := (sort_any B1 q5 (mm + 1) c5 _ w5 O5.out (by simp) (by rw [List.length_append, HMM.out]; have := HWL.out; simp; omega)).mono (by
          rintro x w6 ⟨rfl, ms', g, rfl, m1, m2, m3, m4, m5⟩
          exact ⟨rfl, ms', m1, m2, m3, m4.below (HBW.out w5 ho) (by simp; omega)⟩)
        have K5 : Hid (w5.heap[p7]? = some (.cells #[.int .i64 pf, .int .i64 pe, .slice q5 (mm + 1) c5] 26 (0, 0))) := k5
        have u2 : w5.cell? ⟨p7, 2, none⟩ = some (.slice q5 (mm + 1) c5) := by rw [cell_of_row _ _ _ _ _ _ k5]; rfl
        obtain ⟨f0, f1, f2, f3, f4, f5, f6, f7, f8⟩ := H5.out.ecells
        clear k5 k6 ho HX HCW HBX HBW O5
        go_wp2_with fail
        refine HC27.mono ?_
        rintro x w6 ⟨rfl, ms', R6⟩
        have H6 : Hid (B3 w w6 #[.int .i64 pf, .int .i64 pe, .slice mq ml mc] #[.int .i64 e1, .int .i64 e2, .int .i64 e3, .slice np l4 nc, .slice vp l5 vc, .int .i64 e6, .int .i64 e7, .int .i64 e8, .slice q l9 c]) := H5.out.step' (bel_le R6.out.2.2.2 (by have := HL1.out; rw [HB0.out]; omega))
        have k6 : w6.heap[p7]? = some (.cells #[.int .i64 pf, .int .i64 pe, .slice q5 (mm + 1) c5] 26 (0, 0)) := (R6.out.2.2.2.block _ HL1.out.1).trans K5.out
        have t0 : w6.cell? ⟨p7, 0, none⟩ = some (.int .i64 pf) := by rw [cell_of_row _ _ _ _ _ _ k6]; rfl
        have t1 : w6.cell? ⟨p7, 1, none⟩ = some (.int .i64 pe) := by rw [cell_of_row _ _ _ _ _ _ k6]; rfl
        have t2 : w6.cell? ⟨p7, 2, none⟩ = some (.slice q5 (mm + 1) c5) := by rw [cell_of_row _ _ _ _ _ _ k6]; rfl
        obtain ⟨z0, z1, z2, y0, y1, y2⟩ := H6.out.zcells
        have HLN : Hid (ms'.length = mm + 1) := by have := R6.out.2.1.length_eq; rw [List.length_append, HMM.out] at this; exact this
        have HBQ : Hid (w.heap.size + 3 ≤ B1) := by have := HL1.out; rw [HB0.out]; exact this.2.2
        clear HC27 H5 K5 u2 k6
        go_wp2_with fail
        refine bodyPost_ret (results_row2 rfl _ _ (w.heap.size + 2) 26 _ (0, 0) _ rfl (row3 H6.out.boz _ _ _) Try.underlying26 rfl (by kernel_rfl)) rfl ?_
        rw [← HSS.out]
        refine ⟨bel3c H6.out.bel (by omega) _ _ _, ⟨pf, pe, ms'⟩, q5, c5, by simp only [PolV, HLN.out]; rfl, ?_, rfl, ?_⟩
        · simp only [HLN.out]
          exact ((R6.out.1.old HBQ.out).only (only3 _ (w.heap.size + 2) _ _ _) (by simp)).old (by omega)
        · rw [if_pos h3]
          exact ⟨rfl, R6.out.2.1, R6.out.2.2.1⟩
    · have n3 : (e1 == 3) = false := by simp [h3]
      by_cases h4 : e1 = 4
      · have n4 : (e1 == 4) = true := by simp [h4]
        go_wp2_with fail
        refine (HC26.out w4 H4.out.bel).mono ?_
        rintro x w5 ⟨v, rfl, h1, h2⟩
        obtain ⟨q5, c5, rfl⟩ := own_slice h1
        have H5 : Hid (B3 w w5 #[.int .i64 pf, .int .i64 pe, .slice mq ml mc] #[.int .i64 e1, .int .i64 e2, .int .i64 e3, .slice np l4 nc, .slice vp l5 vc, .int .i64 e6, .int .i64 e7, .int .i64 e8, .slice q l9 c]) := H4.out.step h2
        have k5 : w5.heap[p7]? = some (.cells #[.int .i64 pf, .int .i64 pe, .slice q7 ml c7] 26 (0, 0)) := (h2.block _ K3.out.2).trans K2.out
        have O5 : Hid (w5.ownsRow w4.heap.size 50 2 (.slice q5 (wout ms e6).length c5) (wout ms e6).length (flatM (wout ms e6))) := h1
        have u0 : w5.cell? ⟨p7, 0, none⟩ = some (.int .i64 pf) := by rw [cell_of_row _ _ _ _ _ _ k5]; rfl
        have u1 : w5.cell? ⟨p7, 1, none⟩ = some (.int .i64 pe) := by rw [cell_of_row _ _ _ _ _ _ k5]; rfl
        have u2 : w5.cell? ⟨p7, 2, none⟩ = some (.slice q7 ml c7) := by rw [cell_of_row _ _ _ _ _ _ k5]; rfl
        have uf : w5.frozen? ⟨p7, 2, none⟩ = false := frozen_of_row _ _ _ _ _ k5
        clear h1 h2 z0 z1 z2 y0 y1 y2 g0 g1 g2 gf1 gf2
        generalize hmm : (wout ms e6).length = mm at *
        have HMM : Hid ((wout ms e6).length = mm) := hmm
        clear hmm
        have on6 : Only [p7] w5 (w5.setCell ⟨p7, 2, none⟩ (.slice q5 mm c5)) := Only.setCell _ _ _ (by simp)
        have k6 : (w5.setCell ⟨p7, 2, none⟩ (.slice q5 mm c5)).heap[p7]? = some (.cells #[.int .i64 pf, .int .i64 pe, .slice q5 mm c5] 26 (0, 0)) := heap_setCell_same _ p7 2 _ 26 _ k5
        have H6 : Hid (B3 w (w5.setCell ⟨p7, 2, none⟩ (.slice q5 mm c5)) #[.int .i64 pf, .int .i64 pe, .slice mq ml mc] #[.int .i64 e1, .int .i64 e2, .int .i64 e3, .slice np l4 nc, .slice vp l5 vc, .int .i64 e6, .int .i64 e7, .int .i64 e8, .slice q l9 c]) := H5.out.step' (on6.below H5.out.lt (by have := K3.out; simp; omega))
        have O6 : Hid (MbOwn (w.heap.size + 3) (w5.setCell ⟨p7, 2, none⟩ (.slice q5 mm c5)) (.slice q5 mm c5) (wout ms e6)) := (MbOwn.of_own (own_only O5.out on6 (own_off O5.out (by have := K3.out; simp; omega))) HMM.out).old (by have := K3.out; omega)
        have t0 : (w5.setCell ⟨p7, 2, none⟩ (.slice q5 mm c5)).cell? ⟨p7, 0, none⟩ = some (.int .i64 pf) := by rw [cell_of_row _ _ _ _ _ _ k6]; rfl
        have t1 : (w5.setCell ⟨p7, 2, none⟩ (.slice q5 mm c5)).cell? ⟨p7, 1, none⟩ = some (.int .i64 pe) := by rw [cell_of_row _ _ _ _ _ _ k6]; rfl
        have t2 : (w5.setCell ⟨p7, 2, none⟩ (.slice q5 mm c5)).cell? ⟨p7, 2, none⟩ = some (.slice q5 mm c5) := by rw [cell_of_row _ _ _ _ _ _ k6]; rfl
        obtain ⟨z0, z1, z2, y0, y1, y2⟩ := H6.out.zcells
        clear k6 on6
        go_wp2_with fail
        refine bodyPost_ret (results_row2 rfl _ _ (w.heap.size + 2) 26 _ (0, 0) _ rfl (row3 H6.out.boz _ _ _) Try.underlying26 rfl (by kernel_rfl)) rfl ?_
        rw [← HSS.out]
        exact ⟨bel3c H6.out.bel (by omega) _ _ _, ⟨pf, pe, wout ms e6⟩, q5, c5, by rw [← HMM.out]; rfl, by rw [HMM.out]; exact (O6.out.only (only3 _ (w.heap.size + 2) _ _ _) (by simp)).old (by omega), rfl, by simp [h4]⟩
      · have n4 : (e1 == 4) = false := by simp [h4]
        by_cases h5 : e1 = 5
        · have n5 : (e1 == 5) = true := by simp [h5]
          have on6 : Only [p7] w4 (w4.setCell ⟨p7, 1, none⟩ (.int .i64 e8)) := Only.setCell _ _ _ (by simp)
          have k6 : (w4.setCell ⟨p7, 1, none⟩ (.int .i64 e8)).heap[p7]? = some (.cells #[.int .i64 pf, .int .i64 e8, .slice q7 ml c7] 26 (0, 0)) := heap_setCell_same _ p7 1 _ 26 _ K2.out
          have H6 : Hid (B3 w (w4.setCell ⟨p7, 1, none⟩ (.int .i64 e8)) #[.int .i64 pf, .int .i64 pe, .slice mq ml mc] #[.int .i64 e1, .int .i64 e2, .int .i64 e3, .slice np l4 nc, .slice vp l5 vc, .int .i64 e6, .int .i64 e7, .int .i64 e8, .slice q l9 c]) := H4.out.step' (on6.below H4.out.lt (by have := K3.out; simp; omega))
          have O6 : Hid (MbOwn (w.heap.size + 3) (w4.setCell ⟨p7, 1, none⟩ (.int .i64 e8)) (.slice q7 ml c7) ms) := (MbOwn.of_own (own_only K4.out on6 (fun b hb hmem => HK5.out b hb (by simpa using hmem))) HML.out).old HB3.out
          have t0 : (w4.setCell ⟨p7, 1, none⟩ (.int .i64 e8)).cell? ⟨p7, 0, none⟩ = some (.int .i64 pf) := by rw [cell_of_row _ _ _ _ _ _ k6]; rfl
          have t1 : (w4.setCell ⟨p7, 1, none⟩ (.int .i64 e8)).cell? ⟨p7, 1, none⟩ = some (.int .i64 e8) := by rw [cell_of_row _ _ _ _ _ _ k6]; rfl
          have t2 : (w4.setCell ⟨p7, 1, none⟩ (.int .i64 e8)).cell? ⟨p7, 2, none⟩ = some (.slice q7 ml c7) := by rw [cell_of_row _ _ _ _ _ _ k6]; rfl
          clear z0 z1 z2 y0 y1 y2
          obtain ⟨z0, z1, z2, y0, y1, y2⟩ := H6.out.zcells
          clear HC26 k6 on6
          go_wp2_with fail
          refine bodyPost_ret (results_row2 rfl _ _ (w.heap.size + 2) 26 _ (0, 0) _ rfl (row3 H6.out.boz _ _ _) Try.underlying26 rfl (by kernel_rfl)) rfl ?_
          rw [← HSS.out]
          exact ⟨bel3c H6.out.bel (by omega) _ _ _, ⟨pf, e8, ms⟩, q7, c7, by rw [← HML.out]; rfl, by rw [HML.out]; exact (O6.out.only (only3 _ (w.heap.size + 2) _ _ _) (by simp)).old (by omega), rfl, by simp [h5]⟩
        · have n5 : (e1 == 5) = false := by simp [h5]
          have O6 : Hid (MbOwn (w.heap.size + 3) w4 (.slice q7 ml c7) ms) := (MbOwn.of_own K4.out HML.out).old HB3.out
          clear HC26
          go_wp2_with fail
          refine bodyPost_ret (results_row2 rfl _ _ (w.heap.size + 2) 26 _ (0, 0) _ rfl (row3 H4.out.boz _ _ _) Try.underlying26 rfl (by kernel_rfl)) rfl ?_
          rw [← HSS.out]
          exact ⟨bel3c H4.out.bel (by omega) _ _ _, ⟨pf, pe, ms⟩, q7, c7, by rw [← HML.out]; rfl, by rw [HML.out]; exact (O6.out.only (only3 _ (w.heap.size + 2) _ _ _) (by simp)).old (by omega), rfl, by simp [h3, h4, h5]⟩
end Go.Proofs.Ytmlnbbggfjgacaa.P10
