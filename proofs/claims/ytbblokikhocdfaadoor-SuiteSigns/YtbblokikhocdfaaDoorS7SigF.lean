/- A suite of signs and the document's list side by side: each call, and what stays. -/
import Derived.Test.YtbblokikhocdfaaDoorS7SigS
import Derived.Test.YtbblokikhocdfaaDoorS7Code
import Derived.Test.YtbblokikhocdfaaDoorS7OpenC
namespace Go.Proofs.YtbblokikhocdfaaDoor.S7
open Go.RowKit
section
variable {B p q m x d : Nat} {w w' : World} {L M : List Su.Thing}
theorem SuIs.ty (h : SuIs w p q m x L) : (∀ o, w.heap[p]? = some o → tyOf o = some 63) ∧ (∀ o, w.heap[q]? = some o → tyOf o = some 61) ∧ (∀ o, w.heap[m]? = some o → tyOf o = none) ∧ (∀ o, w.heap[x]? = some o → tyOf o = none) := by
  obtain ⟨es, c, hm, _⟩ := h.nums
  obtain ⟨es', c', hx, _⟩ := h.boxes
  exact ⟨fun o ho => by rw [h.box] at ho; cases ho; rfl, fun o ho => by rw [h.signs] at ho; cases ho; rfl, fun o ho => by rw [hm] at ho; cases ho; rfl, fun o ho => by rw [hx] at ho; cases ho; rfl⟩
theorem SuIs.kx {ts : List (Option TypeId)} (h : SuIs w p q m x L) (hk : Kx ts B w w') (h1 : some 63 ∉ ts) (h2 : some 61 ∉ ts) (h3 : none ∉ ts) : SuIs w' p q m x L := by
  have ht := h.ty
  have hl := h.lt
  have st : ∀ k, k < w.heap.size → (∀ o, w.heap[k]? = some o → tyOf o ∉ ts) → w'.heap[k]? = w.heap[k]? := fun k hk' hn => by
    have e : w.heap[k]? = some w.heap[k] := Array.getElem?_eq_getElem hk'
    rw [e]
    exact hk.row k _ e (hn _ e)
  refine h.kept (fun k hk' => ?_)
  rcases hk' with rfl | rfl | rfl | rfl
  · exact st _ hl.1 (fun o ho => by rw [ht.1 o ho]; exact h1)
  · exact st _ hl.2.1 (fun o ho => by rw [ht.2.1 o ho]; exact h2)
  · exact st _ hl.2.2.1 (fun o ho => by rw [ht.2.2.1 o ho]; exact h3)
  · exact st _ hl.2.2.2 (fun o ho => by rw [ht.2.2.2 o ho]; exact h3)
theorem SuIs.turned {bs : List Nat} (h : SuIs w p q m x L) (ho : Only bs w w') (hs : ∀ y ∈ bs, y = p ∨ y = m ∨ y = x) (hB : B ≤ w.heap.size) (lp : B ≤ p) (lm : B ≤ m) (lx : B ≤ x) : Kx [some 63, none] B w w' := by
  have ht := h.ty
  refine Kx.of_only ho hB (fun y hy => ?_)
  rcases hs y hy with rfl | rfl | rfl
  · exact ⟨lp, fun o hh => by rw [ht.1 o hh]; decide⟩
  · exact ⟨lm, fun o hh => by rw [ht.2.2.1 o hh]; decide⟩
  · exact ⟨lx, fun o hh => by rw [ht.2.2.2 o hh]; decide⟩
/-- The suite with its list, the document's with its own, all of it above a bound. -/
structure Pr (B : Nat) (w : World) (p q m x d : Nat) (L M : List Su.Thing) : Prop where
  su : SuIs w p q m x L
  doc : Doc B w d M
  lp : B ≤ p
  lm : B ≤ m
  lx : B ≤ x
  size : B ≤ w.heap.size
theorem Pr.below (h : Pr B w p q m x d L M) (hb : Below w.heap.size w w') : Pr B w' p q m x d L M := ⟨h.su.below hb, h.doc.below hb, h.lp, h.lm, h.lx, Nat.le_trans h.size hb.size⟩
theorem Pr.su_turn {bs : List Nat} {L' : List Su.Thing} (h : Pr B w p q m x d L M) (ho : Only bs w w') (hs : ∀ y ∈ bs, y = p ∨ y = m ∨ y = x) (h' : SuIs w' p q m x L') : Pr B w' p q m x d L' M ∧ Kx [some 63, none, some 30, some 71] B w w' := by
  have hk := h.su.turned ho hs h.size h.lp h.lm h.lx
  exact ⟨⟨h', h.doc.kx hk (by decide) (by decide) (by decide), h.lp, h.lm, h.lx, Nat.le_trans h.size ho.size⟩, hk.mono (fun t ht => by simp at ht ⊢; rcases ht with rfl | rfl <;> simp)⟩
theorem Pr.doc_turn {M' : List Su.Thing} (h : Pr B w p q m x d L M) (hk : Kx [some 30, some 71] B w w') (h' : Doc B w' d M') : Pr B w' p q m x d L M' ∧ Kx [some 63, none, some 30, some 71] B w w' :=
  ⟨⟨h.su.kx hk (by decide) (by decide) (by decide), h', h.lp, h.lm, h.lx, Nat.le_trans h.size hk.low.size⟩, hk.mono (fun t ht => by simp at ht ⊢; rcases ht with rfl | rfl <;> simp)⟩
theorem Pr.drew (h : Pr B w p q m x d L M) : Pr B { w with drawn := w.drawn + 1 } p q m x d L M := h.below (below_drewN 1 w _)
end
section
variable {B p q m x d : Nat} {w : World} {L M : List Su.Thing}
theorem pSum (l : List Nat) (g : Nat) (c : Nat) (v : Value) (h : Pr B w p q m x d L M) (hc : w.cell? ⟨g, 0, none⟩ = some v) (hv : By B w v l) (hl : l.length ≤ 50000) (hL : L.length < 1000000) :
    Calls Tryd.prog 13 #[.pointer (some ⟨p, 0, none⟩), .slice (some ⟨g, 0, none⟩) 1 c] w fun e w' => ∃ v, e = .returned v ∧ Kx [some 63, none, some 30, some 71] B w w' ∧ Pr B w' p q m x d (Su.add L 72 [] l) M ∧ w'.ownsRow w.heap.size 5 1 v 32 (ints .u8 (Su.sign 72 (Su.num L 72 [] l))) :=
  (Sum_one l g 0 c v p q m x L w h.su hc hv.src hl hL).mono (by
    rintro e w' ⟨u, rfl, ho, hs, hn⟩
    have ht := h.su_turn hn (by simp) hs
    exact ⟨u, rfl, ht.2, ht.1, ho⟩)
theorem pRSum (l : List Nat) (v : Value) (h : Pr B w p q m x d L M) (hv : By B w v l) (hL : M.length < 1000000) :
    Calls Tryd.prog 14 #[.pointer (some ⟨d, 0, none⟩), v] w fun e w' => ∃ v, e = .returned v ∧ Kx [some 63, none, some 30, some 71] B w w' ∧ Pr B w' p q m x d L (Su.add M 72 [] l) ∧ w'.ownsRow w.heap.size 5 1 v 32 (ints .u8 (Su.sign 72 (Su.num M 72 [] l))) :=
  (rSum_any v l B d M w h.doc hv h.size hL).mono (by
    rintro e w' ⟨u, rfl, ho, hs, hn⟩
    have ht := h.doc_turn hn hs
    exact ⟨u, rfl, ht.2, ht.1, ho⟩)
theorem pCode (k l : List Nat) (g : Nat) (c : Nat) (kv v : Value) (h : Pr B w p q m x d L M) (hk : By B w kv k) (hc : w.cell? ⟨g, 0, none⟩ = some v) (hv : By B w v l) (hl : l.length ≤ 50000) (hL : L.length < 1000000) :
    Calls Tryd.prog 15 #[.pointer (some ⟨p, 0, none⟩), kv, .slice (some ⟨g, 0, none⟩) 1 c] w fun e w' => ∃ v, e = .returned v ∧ Kx [some 63, none, some 30, some 71] B w w' ∧ Pr B w' p q m x d (Su.add L 77 k l) M ∧ w'.ownsRow w.heap.size 5 1 v 32 (ints .u8 (Su.sign 77 (Su.num L 77 k l))) :=
  (Code_one k l g 0 c kv v p q m x L w h.su hk.src hc hv.src hl hL).mono (by
    rintro e w' ⟨u, rfl, ho, hs, hn⟩
    have ht := h.su_turn hn (by simp) hs
    exact ⟨u, rfl, ht.2, ht.1, ho⟩)
theorem pRCode (k l : List Nat) (kv v : Value) (h : Pr B w p q m x d L M) (hk : By B w kv k) (hv : By B w v l) (hL : M.length < 1000000) :
    Calls Tryd.prog 16 #[.pointer (some ⟨d, 0, none⟩), kv, v] w fun e w' => ∃ v, e = .returned v ∧ Kx [some 63, none, some 30, some 71] B w w' ∧ Pr B w' p q m x d L (Su.add M 77 k l) ∧ w'.ownsRow w.heap.size 5 1 v 32 (ints .u8 (Su.sign 77 (Su.num M 77 k l))) :=
  (rCode_any kv k v l B d M w h.doc hk hv h.size hL).mono (by
    rintro e w' ⟨u, rfl, ho, hs, hn⟩
    have ht := h.doc_turn hn hs
    exact ⟨u, rfl, ht.2, ht.1, ho⟩)
theorem pKey (h : Pr B w p q m x d L M) (hL : L.length < 1000000) :
    Calls Tryd.prog 17 #[.pointer (some ⟨p, 0, none⟩)] w fun e w' => ∃ v, e = .returned v ∧ Kx [some 63, none, some 30, some 71] B w w' ∧ Pr B w' p q m x d (L ++ [(75, [], [], [], [])]) M ∧ w'.ownsRow w.heap.size 5 1 v 32 (ints .u8 (Su.sign 75 (L.length + 1))) :=
  (Key_signs p q m x L w h.su hL).mono (by
    rintro e w' ⟨u, rfl, ho, hs, hn⟩
    have ht := h.su_turn hn (by simp) hs
    exact ⟨u, rfl, ht.2, ht.1, ho⟩)
theorem pRKey (h : Pr B w p q m x d L M) (hL : M.length < 1000000) :
    Calls Tryd.prog 18 #[.pointer (some ⟨d, 0, none⟩)] w fun e w' => ∃ v, e = .returned v ∧ Kx [some 63, none, some 30, some 71] B w w' ∧ Pr B w' p q m x d L (M ++ [(75, [], [], [], [])]) ∧ w'.ownsRow w.heap.size 5 1 v 32 (ints .u8 (Su.sign 75 (M.length + 1))) :=
  (rKey_any B d M w h.doc h.size hL).mono (by
    rintro e w' ⟨u, rfl, ho, hs, hn⟩
    have ht := h.doc_turn hn hs
    exact ⟨u, rfl, ht.2, ht.1, ho⟩)
theorem pSeal (k n o t : List Nat) (kv nv ov tv : Value) (h : Pr B w p q m x d L M) (hk : By B w kv k) (hn : By B w nv n) (ho : By B w ov o) (ht : By B w tv t) (lk : k.length = 32) (ln : n.length = 12) (lt : t.length ≤ 50000) (hL : L.length < 1000000) :
    Calls Tryd.prog 19 #[.pointer (some ⟨p, 0, none⟩), kv, nv, ov, tv] w fun e w' => ∃ v, e = .returned (.tuple #[v, .int .i64 0]) ∧ Kx [some 63, none, some 30, some 71] B w w' ∧ Pr B w' p q m x d (L ++ [(66, k, n, o, t)]) M ∧ w'.ownsRow w.heap.size 5 1 v (t.length + 16) (ints .u8 (Su.box (L.length + 1) t.length)) := by
  have st : ∀ (v : Value) (l : List Nat), By B w v l → ∀ w1, Only [p, x] w w1 → Src w1 v l := fun v l hv w1 h1 => (hv.kx (h.su.turned h1 (by simp) h.size h.lp h.lm h.lx) (by decide)).src
  exact (Seal_ok k n o t kv nv ov tv p q m x L w h.su (st kv k hk) (st nv n hn) (st ov o ho) (st tv t ht) lk ln lt hL).mono (by
    rintro e w' ⟨u, rfl, ho, hs, hn⟩
    have ht := h.su_turn hn (by simp) hs
    exact ⟨u, rfl, ht.2, ht.1, ho⟩)
theorem pRSeal (k n o t : List Nat) (kv nv ov tv : Value) (h : Pr B w p q m x d L M) (hk : By B w kv k) (hn : By B w nv n) (ho : By B w ov o) (ht : By B w tv t) (lk : k.length = 32) (ln : n.length = 12) (lt : t.length ≤ 50000) (hL : M.length < 1000000) :
    Calls Tryd.prog 20 #[.pointer (some ⟨d, 0, none⟩), kv, nv, ov, tv] w fun e w' => ∃ v, e = .returned (.tuple #[v, .int .i64 0]) ∧ Kx [some 63, none, some 30, some 71] B w w' ∧ Pr B w' p q m x d L (M ++ [(66, k, n, o, t)]) ∧ w'.ownsRow w.heap.size 5 1 v (t.length + 16) (ints .u8 (Su.box (M.length + 1) t.length)) :=
  (rSeal_ok k n o t kv nv ov tv B d M w h.doc hk hn ho ht lk ln lt h.size hL).mono (by
    rintro e w' ⟨u, rfl, ho, hs, hn⟩
    have ht := h.doc_turn hn hs
    exact ⟨u, rfl, ht.2, ht.1, ho⟩)
end
end Go.Proofs.YtbblokikhocdfaaDoor.S7
