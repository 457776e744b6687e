/- Encode and Decode of records. -/
import Derived.Test.YtfjdaafckiefdaaGreatDoorS15Rg
import Derived.Test.YtfjdaafckiefdaaGreatDoorS15Seal
namespace Go.Proofs.YtfjdaafckiefdaaGreatDoor.S15
open Go.RowKit C8 E9
open S7 (Fr Kx By)
set_option maxHeartbeats 1000000 in
theorem Encode_any (r : Rec) (q : Option Addr) (c : Nat) (w : World) (hv : Src w (.slice q r.box.length c) r.box) : Calls Tryz.prog 10 #[.agg (RecV r q c)] w fun e w' => Below w.heap.size w w' ∧ ((rright r = true ∧ ∃ v, e = .returned (.tuple #[v, .int .i64 0]) ∧ w'.ownsRow w.heap.size 5 1 v (rbytes r).length (ints .u8 (rbytes r))) ∨ (rright r = false ∧ e = .returned (.tuple #[.slice none 0 0, .int .i64 10]))) := by
  have hb0 := S7.below_alloc' w (.cells (RecV r q c) 24)
  obtain ⟨R, HR⟩ : ∃ R, Hid (rright r = R) := ⟨_, rfl⟩
  have HRT : Hid (Calls Tryz.prog 11 #[.agg (RecV r q c)] (w.alloc (.cells (RecV r q c) 24)) fun x w' => x = .returned (.bool R) ∧ Below w.heap.size w w' ∧ w'.heap[w.heap.size]? = some (.cells (RecV r q c) 24 (0, 0))) := (rright_any r q c _).mono (by
    rintro x w' ⟨rfl, h1⟩
    exact ⟨by rw [HR.out], hb0.trans (h1.mono hb0.size), (h1.block _ (by simp)).trans (heap_alloc_new w _)⟩)
  have HPT : Hid (∀ w1, Below w.heap.size w w1 → rright r = true → Calls Tryz.prog 43 #[.slice (some ⟨w1.heap.size, 0, none⟩) 5 5] (w1.alloc (.cells #[.iface 3 (.int .i64 r.coll), .iface 3 (.int .i64 r.epoch), .iface 3 (.int .i64 r.writer), .iface 3 (.int .i64 r.count), .iface 22 (.slice q r.box.length c)] 20)) fun e w' => ∃ v, e = .returned (.tuple #[v, .int .i64 0]) ∧ w'.ownsRow w.heap.size 5 1 v (rbytes r).length (ints .u8 (rbytes r)) ∧ Below w.heap.size w w') := fun w1 h1 h2 => (put5 w1 r _ (hv.below h1) h2).mono (by
    rintro e w' ⟨v, rfl, k1, k2⟩
    exact ⟨v, rfl, S7.own_older k1 h1.size, h1.trans (k2.mono h1.size)⟩)
  rw [HR.out]
  clear hv hb0
  unfold RecV at *
  generalize r.box.length = n5 at *
  go_enter Tryz.func10, Tryz.ntmps10
  go_wp2_with fail
  refine HRT.out.mono ?_
  rintro x w1 ⟨rfl, h1, h2⟩
  obtain ⟨a0, a1, a2, a3, a4, af⟩ := rec_cells h2
  have HB := hid h1
  clear h1 h2 HRT
  cases R with
  | false =>
    clear HPT
    go_wp2_with fail
    go_ret2
    exact ⟨HB.out, rfl⟩
  | true =>
    have HP := hid (HPT.out w1 HB.out HR.out)
    clear HPT
    go_wp2_with fail
    refine HP.out.mono ?_
    rintro e w2 ⟨v, rfl, k1, k2⟩
    have HZ := hid (And.intro k2 k1)
    clear k1 k2 HP
    go_wp2_with fail
    go_ret2
    exact ⟨HZ.out.1, _, rfl, HZ.out.2⟩
/-- The reader at p, its place, the result's place. -/
structure D5 (w W : World) (p B : Nat) (s : Sta) : Prop where
  rd : RdS W p (w.heap.size + 1) B s
  at4 : W.heap[B]? = some (.cells #[.pointer (some ⟨p, 0, none⟩)] 81 (0, 0))
  at2 : W.heap[w.heap.size]? = some (.cells z5 24 (0, 0))
  bel : Below w.heap.size w W
  lo : w.heap.size + 1 ≤ p
  hi : p < B
section
variable {w W W' : World} {p B : Nat} {s s' : Sta}
theorem D5.lt (h : D5 w W p B s) : B < W.heap.size := (Array.getElem?_eq_some_iff.1 h.at4).1
theorem D5.read (h : D5 w W p B s) (hr : RdS W' p (w.heap.size + 1) B s') (ho : Only [p] W W') : D5 w W' p B s' :=
  ⟨hr, (ho.block B h.lt (by have := h.hi; simp; omega)).trans h.at4, (ho.block _ (Nat.lt_of_lt_of_le (Nat.lt_trans h.lo h.hi) (Nat.le_of_lt h.lt)) (by have := h.lo; simp; omega)).trans h.at2, h.bel.trans (ho.below h.bel.size (by have := h.lo; simp; omega)), h.lo, h.hi⟩
theorem D5.up (h : D5 w W p B s) (hb : Below (B + 1) W W') : D5 w W' p B s :=
  ⟨h.rd.below (bel_le hb (Nat.le_succ _)), (hb.block B (Nat.lt_succ_self _)).trans h.at4, (hb.block _ (by have := h.lo; have := h.hi; omega)).trans h.at2, h.bel.trans (bel_le hb (by have := h.lo; have := h.hi; omega)), h.lo, h.hi⟩
theorem D5.c4 (h : D5 w W p B s) : W.cell? ⟨B, 0, none⟩ = some (.pointer (some ⟨p, 0, none⟩)) := by rw [cell_of_row _ _ _ _ _ _ h.at4]; rfl
theorem D5.start {w1 : World} (h0 : Below (w.alloc (.cells z5 24)).heap.size (w.alloc (.cells z5 24)) w1) (hr : RdS w1 p (w.alloc (.cells z5 24)).heap.size w1.heap.size s) (h1 : (w.alloc (.cells z5 24)).heap.size ≤ p) (h2 : p < w1.heap.size) :
    D5 w (w1.alloc (.cells #[.pointer (some ⟨p, 0, none⟩)] 81)) p w1.heap.size s := by
  have hz : (w.alloc (.cells z5 24)).heap.size = w.heap.size + 1 := by simp
  have hb1 : Below w.heap.size w w1 := (S7.below_alloc' w _).trans (bel_le h0 (by omega))
  have ha := S7.below_alloc' w1 (.cells #[.pointer (some ⟨p, 0, none⟩)] 81)
  rw [hz] at hr h1
  exact ⟨hr.below ha, heap_alloc_new w1 _, (ha.block _ (by omega)).trans ((h0.block _ (by rw [hz]; omega)).trans (heap_alloc_new w _)), hb1.trans (ha.mono hb1.size), h1, h2⟩
end
/-- What is below a bound, but the reader, stays. -/
def Gd (p BB : Nat) (u u' : World) : Prop := u.heap.size ≤ u'.heap.size ∧ ∀ k, k ≤ BB → k < u.heap.size → k ≠ p → u'.heap[k]? = u.heap[k]?
theorem Gd.trans {p BB : Nat} (x y z : World) (h : Gd p BB x y) (k : Gd p BB y z) : Gd p BB x z := ⟨Nat.le_trans h.1 k.1, fun i h1 h2 h3 => (k.2 i h1 (Nat.lt_of_lt_of_le h2 h.1) h3).trans (h.2 i h1 h2 h3)⟩
theorem Gd.refl (p BB : Nat) (x : World) : Gd p BB x x := ⟨Nat.le_refl _, fun _ _ _ _ => rfl⟩
theorem Gd.only {p BB b : Nat} {x y : World} (h : Only [b] x y) (hb : b = p ∨ BB < b) : Gd p BB x y := ⟨h.size, fun k h1 h2 h3 => h.block k h2 (by simp; omega)⟩
theorem Gd.below {p BB : Nat} {x y : World} (h : Below x.heap.size x y) : Gd p BB x y := ⟨h.size, fun k _ h2 _ => h.block k h2⟩
theorem Tx.gd {p A BB : Nat} {v : Value} {t : List Nat} {x y : World} (h : Tx x p A BB v t) (hg : Gd p BB x y) : Tx y p A BB v t := by
  refine ⟨?_, h.2⟩
  by_cases h0 : t = []
  · subst h0
    exact h.1.empty y
  · obtain ⟨g, hg1, hA, hB, hp⟩ := h.2 h0
    obtain ⟨hs, ⟨rfl, rfl⟩ | ⟨_, _, rfl, rfl⟩ | ⟨b, o, c, rfl, hc, hr⟩⟩ := h.1
    · exact absurd rfl h0
    · exact absurd rfl h0
    · cases hg1
      exact ⟨hs, .inr (.inr ⟨b, o, c, rfl, hc, range_kept hr (hg.2 b (Nat.le_of_lt hB) (range_lt hr (ints_ne h0)) hp)⟩)⟩
def TxV (p A BB : Nat) (t : List Nat) (v : Value) (w : World) : Prop := ∃ tp tc, v = .slice tp t.length tc ∧ Tx w p A BB v t
def AgV (p A BB : Nat) (n1 n2 n3 n4 : Int) (t : List Nat) (v : Value) (w : World) : Prop := ∃ tp tc, v = .agg #[.int .i64 n1, .int .i64 n2, .int .i64 n3, .int .i64 n4, .slice tp t.length tc] ∧ Tx w p A BB (.slice tp t.length tc) t
def PtV (v : Value) (_ : World) : Prop := ∃ b, v = .pointer (some ⟨b, 0, none⟩)
def rgD (clo : Value) (p A BB : Nat) (n1 n2 n3 n4 : Int) (t : List Nat) : Nat → Value → World → Prop
  | 0 => IsV clo
  | 1 => IsV (.int .i64 n1)
  | 2 => IsV clo
  | 3 => IsV (.int .i64 n2)
  | 4 => IsV clo
  | 5 => IsV (.int .i64 n3)
  | 6 => IsV clo
  | 7 => IsV (.int .i64 n4)
  | 8 => IsV (.pointer (some ⟨p, 0, none⟩))
  | 9 => TxV p A BB t
  | 10 => AgV p A BB n1 n2 n3 n4 t
  | 11 => PtV
  | _ => fun _ _ => True
theorem rgD_kept (clo : Value) (p A BB : Nat) (n1 n2 n3 n4 : Int) (t : List Nat) : ∀ i v w w', rgD clo p A BB n1 n2 n3 n4 t i v w → Gd p BB w w' → rgD clo p A BB n1 n2 n3 n4 t i v w'
  | 0, _, _, _, h, _ => h
  | 1, _, _, _, h, _ => h
  | 2, _, _, _, h, _ => h
  | 3, _, _, _, h, _ => h
  | 4, _, _, _, h, _ => h
  | 5, _, _, _, h, _ => h
  | 6, _, _, _, h, _ => h
  | 7, _, _, _, h, _ => h
  | 8, _, _, _, h, _ => h
  | 9, _, _, _, h, ho => by obtain ⟨tp, tc, h1, h2⟩ := h; exact ⟨tp, tc, h1, Tx.gd h2 ho⟩
  | 10, _, _, _, h, ho => by obtain ⟨tp, tc, h1, h2⟩ := h; exact ⟨tp, tc, h1, Tx.gd h2 ho⟩
  | 11, _, _, _, h, _ => h
  | _ + 12, _, _, _, _, _ => trivial
theorem clo_run {o : Oper} {a' : Act} {w' : World} (t : Tmp) (b : Nat) (ho : o.op = .call { callee := .value (.tmp t), args := #[], argTypes := #[] }) (h0 : a'.tmps.getD t undef = .func (.func 47) #[] #[.pointer (some ⟨b, 0, none⟩)]) : (execOp a'.eval o).run Tryz.prog w' = .ok (.enter 47 #[.pointer (some ⟨b, 0, none⟩)]) w' := by
  have he : a'.eval (.tmp t) = .func (.func 47) #[] #[.pointer (some ⟨b, 0, none⟩)] := h0
  unfold execOp
  simp only [ho]
  generalize a'.eval = r at *
  simp [he, go_sem]
end Go.Proofs.YtfjdaafckiefdaaGreatDoor.S15
