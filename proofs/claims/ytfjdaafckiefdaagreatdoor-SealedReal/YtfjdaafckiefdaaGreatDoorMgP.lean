/- Numbers in a list that grows: what is there stays, and two things have two numbers. -/
import Derived.Test.YtfjdaafckiefdaaGreatDoorMgS
import Derived.Test.YtfjdaafckiefdaaGreatDoorMgY
import Derived.Test.YtfjdaafckiefdaaGreatDoorMgO
namespace Go.Proofs.YtfjdaafckiefdaaGreatDoor.S7.Su
theorem pos_append (s : Nat) (k t : List Nat) : ∀ (n : Nat) (L M : List Thing), pos s k t n (L ++ M) = (pos s k t n L).or (pos s k t (n + L.length) M)
  | _, [], _ => by simp [pos]
  | n, u :: r, M => by
    simp only [List.cons_append, pos, List.length_cons]
    split
    · rfl
    · rw [pos_append s k t (n + 1) r M, show n + 1 + r.length = n + (r.length + 1) from by omega]
theorem add_eq (L : List Thing) (s : Nat) (k t : List Nat) : ∃ M, add L s k t = L ++ M := by
  unfold add
  cases pos s k t 0 L with
  | none => exact ⟨_, rfl⟩
  | some i => exact ⟨[], by simp⟩
theorem pos_stays {L M : List Thing} {s i : Nat} {k t : List Nat} (h : pos s k t 0 L = some i) : pos s k t 0 (L ++ M) = some i := by
  rw [pos_append, h]; rfl
theorem pos_add (L : List Thing) (s : Nat) (k t : List Nat) : pos s k t 0 (add L s k t) = some (num L s k t) := by
  unfold add num
  cases h : pos s k t 0 L with
  | some i => simp [h]
  | none =>
    simp only [Option.getD_none]
    rw [pos_append, h]
    simp [pos]
theorem num_of {L : List Thing} {s i : Nat} {k t : List Nat} (h : pos s k t 0 L = some i) : num L s k t = i ∧ add L s k t = L := by
  unfold num add
  rw [h]
  exact ⟨rfl, rfl⟩
end Go.Proofs.YtfjdaafckiefdaaGreatDoor.S7.Su
/- Ring by signs: contracts. -/
namespace Go.Proofs.YtfjdaafckiefdaaGreatDoor.S7
open Go.RowKit
/-- The types whose blocks a suite of signs turns. -/
abbrev TU : List (Option TypeId) := [none, some 93]
/-- A suite of signs above a bound. -/
structure Sw (B : Nat) (w : World) (p q m x : Nat) (L : List Su.Thing) : Prop where
  su : SuIs w p q m x L
  lo : B ≤ p ∧ B ≤ q ∧ B ≤ m ∧ B ≤ x
def mk (L : List Su.Thing) (k s : List Nat) (n : Nat) : List Nat := Su.sign 77 (Su.num L 77 k (s ++ six n))
def adk (L : List Su.Thing) (k s : List Nat) (n : Nat) : List Su.Thing := Su.add L 77 k (s ++ six n)
theorem mk_small (L : List Su.Thing) (k s : List Nat) (n : Nat) : ∀ x ∈ mk L k s n, x < 256 := Su.sign_lt (by omega) _
theorem adk_length (L : List Su.Thing) (k s : List Nat) (n : Nat) : (adk L k s n).length ≤ L.length + 1 := (Su.add_length L 77 k _).2
/-- No text is too long. -/
def Shr (L : List Su.Thing) : Prop := ∀ u ∈ L, u.2.2.2.2.length ≤ 50000
theorem Shr.nil : Shr [] := fun u hu => by simp at hu
theorem Shr.snoc {L : List Su.Thing} {t : Su.Thing} (h : Shr L) (ht : t.2.2.2.2.length ≤ 50000) : Shr (L ++ [t]) := fun u hu => by
  rcases List.mem_append.1 hu with e | e
  · exact h u e
  · rw [List.mem_singleton.1 e]; exact ht
theorem Shr.adk {L : List Su.Thing} (h : Shr L) (k s : List Nat) (n : Nat) (hs : s.length ≤ 100) : Shr (adk L k s n) := by
  unfold S7.adk Su.add
  split
  · exact h
  · exact h.snoc (by show (s ++ six n).length ≤ 50000; rw [List.length_append, six_length]; omega)
section
variable {B : Nat} {w w' : World} {p q m x : Nat} {L : List Su.Thing} {bs : List Nat}
theorem Sw.below (h : Sw B w p q m x L) (hb : Below w.heap.size w w') : Sw B w' p q m x L := ⟨h.su.below hb, h.lo⟩
theorem Sw.ty (h : Sw B w p q m x L) : ∀ y ∈ [p, m, x], B ≤ y ∧ ∀ o, w.heap[y]? = some o → tyOf o ∈ TU := fun y hy => by
  obtain ⟨es, k, hm, _⟩ := h.su.nums
  obtain ⟨es', k', hx, _⟩ := h.su.boxes
  have hlo := h.lo
  simp only [List.mem_cons, List.not_mem_nil, or_false] at hy
  rcases hy with rfl | rfl | rfl
  · exact ⟨hlo.1, fun o ho => by rw [h.su.box] at ho; cases ho; simp [TU, tyOf]⟩
  · exact ⟨hlo.2.2.1, fun o ho => by rw [hm] at ho; cases ho; simp [TU, tyOf]⟩
  · exact ⟨hlo.2.2.2, fun o ho => by rw [hx] at ho; cases ho; simp [TU, tyOf]⟩
theorem Sw.fr (h : Sw B w p q m x L) (ho : Only bs w w') (hs : ∀ y ∈ bs, y ∈ [p, m, x]) (hB : B ≤ w.heap.size) : Fr [p, m, x] TU B w w' := by
  have ho' : Only [p, m, x] w w' := ho.more hs
  exact ⟨ho', Kx.of_only ho' hB h.ty⟩
theorem Sw.off (h : Sw B w p q m x L) {r : Nat} (ho : Only [r] w w') (hr : r ≠ p ∧ r ≠ q ∧ r ≠ m ∧ r ≠ x) : Sw B w' p q m x L :=
  ⟨h.su.only ho ⟨by simp; exact fun e => hr.1 e.symm, by simp; exact fun e => hr.2.1 e.symm, by simp; exact fun e => hr.2.2.1 e.symm, by simp; exact fun e => hr.2.2.2 e.symm⟩, h.lo⟩
theorem Sw.kx (h : Sw B w p q m x L) {ts : List (Option TypeId)} (hk : Kx ts B w w') (h1 : none ∉ ts) (h2 : some 93 ∉ ts) (h3 : some 91 ∉ ts) : Sw B w' p q m x L := by
  obtain ⟨es, k, hm, _⟩ := h.su.nums
  obtain ⟨es', k', hx, _⟩ := h.su.boxes
  refine ⟨h.su.kept (fun k hk' => ?_), h.lo⟩
  rcases hk' with rfl | rfl | rfl | rfl
  · exact (hk.row _ _ h.su.box h2).trans h.su.box.symm
  · exact (hk.row _ _ h.su.signs h3).trans h.su.signs.symm
  · exact (hk.row _ _ hm h1).trans hm.symm
  · exact (hk.row _ _ hx h1).trans hx.symm
theorem sub_pm {p m x : Nat} : ∀ y ∈ [p, m], y ∈ [p, m, x] := fun y hy => by simp only [List.mem_cons, List.not_mem_nil, or_false] at hy ⊢; omega
theorem sub_px {p m x : Nat} : ∀ y ∈ [p, x], y ∈ [p, m, x] := fun y hy => by simp only [List.mem_cons, List.not_mem_nil, or_false] at hy ⊢; omega
theorem Signs_sw (hB : B ≤ w.heap.size) : Calls Tryz.prog 17 #[] w fun e w' => ∃ p q m x, e = .returned (.pointer (some ⟨p, 0, none⟩)) ∧ Sw B w' p q m x [] ∧ Below w.heap.size w w' :=
  (Signs_new w).mono (fun _ _ ⟨p, q, m, x, h1, h2, h3, h4⟩ => ⟨p, q, m, x, h1, ⟨h2, by omega⟩, h3⟩)
theorem Key_s (h : Sw B w p q m x L) (hL : L.length < 1000000) (hB : B ≤ w.heap.size) : Calls Tryz.prog 18 #[.pointer (some ⟨p, 0, none⟩)] w fun e w' => ∃ v, e = .returned v ∧ w'.ownsRow w.heap.size 5 1 v 32 (ints .u8 (Su.sign 75 (L.length + 1))) ∧ Sw B w' p q m x (L ++ [(75, [], [], [], [])]) ∧ Fr [p, m, x] TU B w w' := by
  refine (Key_signs p q m x L w h.su hL).mono ?_
  rintro e w' ⟨v, rfl, h1, h2, h3⟩
  exact ⟨v, rfl, h1, ⟨h2, h.lo⟩, h.fr h3 (fun y hy => by rw [List.mem_singleton.1 hy]; simp) hB⟩
theorem keyOf_s {kv : Value} {k : List Nat} (h : Sw B w p q m x L) (hL : L.length < 1000000) (hB : B ≤ w.heap.size) (hk : By B w kv k) (s : List Nat) (hs : ∀ y ∈ s, y < 256) (hsl : s.length ≤ 100) (n : Nat) (hn : n ≤ 1099511627776) :
    Calls Tryz.prog 141 #[.pointer (some ⟨p, 0, none⟩), kv, .string (strB s), .int .i64 (n : Int)] w fun e w' => ∃ u, e = .returned u ∧ w'.ownsRow w.heap.size 5 1 u 32 (ints .u8 (mk L k s n)) ∧ Sw B w' p q m x (adk L k s n) ∧ Fr [p, m, x] TU B w w' := by
  refine keyOf_any s n hB hn hs (fun w1 g a1 a2 h1 h2 h3 h4 h5 => ?_)
  have hw1 := h.below h5
  refine (Code_two k s (six n) g 0 2 kv a1 a2 p q m x L w1 hw1.su (hk.below h5).src h3 h4 h1 h2 (by omega) (by omega) (by rw [six_length]; omega) hL).mono ?_
  rintro e w' ⟨v, rfl, k1, k2, k3⟩
  exact ⟨v, rfl, k1, ⟨k2, h.lo⟩, hw1.fr k3 sub_pm (Nat.le_trans hB h5.size)⟩
theorem wri_ok : (∀ y ∈ wriB, y < 256) ∧ wriB.length ≤ 100 := by decide
end
/-- A text that stands in the program. -/
theorem lit_by (B : Nat) (w : World) (l : List Nat) (cs : Array Value) (fr : Nat × Nat) {n : Nat} (hn : l.length = n) (hs : ∀ x ∈ l, x < 256) (hc : cs.toList = ints .u8 l) : By B (w.alloc (.cells cs 5 fr)) (.slice (some ⟨w.heap.size, 0, none⟩) n n) l := by
  have h0 : (w.alloc (.cells cs 5 fr)).heap[w.heap.size]? = some (.cells cs 5 fr) := heap_alloc_new w _
  have hr := rangeAt_of_row (t := 5) (fr := fr) h0
  rw [hc] at hr
  subst hn
  exact ⟨hs, .inr (.inr ⟨w.heap.size, 0, _, rfl, Nat.le_refl _, hr, .inr ⟨_, _, h0⟩⟩)⟩
end Go.Proofs.YtfjdaafckiefdaaGreatDoor.S7
