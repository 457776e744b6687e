/- The contract of parts. -/
import Derived.Test.YtchoiioeeepoaaaE9Named
import Derived.Test.YtchoiioeeepoaaaE9Leaf
namespace Go.Proofs.Ytchoiioeeepoaaa.E9
open Go.RowKit C8
theorem part_keep {w w' : World} {base : Nat} {u : Value} {p : Pt} (h : PartIs w base u p) (hb : Below base w w') : PartIs w' base u p := by
  obtain ⟨h0, h1 | ⟨h1, h2, ⟨s, h3, h4⟩ | h3⟩⟩ := h
  · exact ⟨h0, .inl h1⟩
  · exact ⟨h0, .inr ⟨h1, h2, .inl ⟨s, h3, h4.keep hb⟩⟩⟩
  · exact ⟨h0, .inr ⟨h1, h2, .inr h3⟩⟩
theorem part_up {w : World} {base base' : Nat} {u : Value} {p : Pt} (h : PartIs w base u p) (hb : base ≤ base') : PartIs w base' u p := by
  obtain ⟨h0, h1 | ⟨h1, h2, ⟨s, h3, h4⟩ | h3⟩⟩ := h
  · exact ⟨h0, .inl h1⟩
  · exact ⟨h0, .inr ⟨h1, h2, .inl ⟨s, h3, h4.up hb⟩⟩⟩
  · exact ⟨h0, .inr ⟨h1, h2, .inr h3⟩⟩
/-- Values that are parts, one by one. -/
def AreP (w : World) (base : Nat) : List Value → List Pt → Prop
  | [], [] => True
  | u :: xs, p :: ps => PartIs w base u p ∧ AreP w base xs ps
  | [], _ :: _ => False
  | _ :: _, [] => False
theorem AreP.keep {w w' : World} {base : Nat} (hb : Below base w w') : ∀ {xs : List Value} {ps : List Pt}, AreP w base xs ps → AreP w' base xs ps
  | [], [], _ => trivial
  | _ :: _, _ :: _, h => ⟨part_keep h.1 hb, AreP.keep hb h.2⟩
theorem AreP.append {w : World} {base : Nat} : ∀ {xs : List Value} {ps : List Pt} {ys : List Value} {qs : List Pt}, AreP w base xs ps → AreP w base ys qs → AreP w base (xs ++ ys) (ps ++ qs)
  | [], [], _, _, _, h => h
  | _ :: _, _ :: _, _, _, h, k => ⟨h.1, AreP.append h.2 k⟩
theorem AreP.length {w : World} {base : Nat} : ∀ {xs : List Value} {ps : List Pt}, AreP w base xs ps → xs.length = ps.length
  | [], [], _ => rfl
  | _ :: _, _ :: _, h => by simp [AreP.length h.2]
theorem AreP.at {w : World} {base : Nat} : ∀ {xs : List Value} {ps : List Pt}, AreP w base xs ps → ∀ j (hj : j < ps.length), ∃ u, xs[j]? = some u ∧ PartIs w base u ps[j]
  | [], [], _, j, hj => absurd hj (by simp)
  | u :: _, _ :: _, h, 0, _ => ⟨u, rfl, h.1⟩
  | _ :: _, _ :: _, h, j + 1, hj => by
    obtain ⟨u, h1, h2⟩ := AreP.at h.2 j (by simpa using hj)
    exact ⟨u, by simpa using h1, by simpa using h2⟩
theorem AreP.row {w : World} {base b0 : Nat} {xs : List Value} {ps : List Pt} {q : Option Addr} {n c : Nat} (h : AreP w base xs ps) (hown : w.ownsRow b0 20 1 (.slice q n c) n xs) (hb : base ≤ w.heap.size) : PartsIs w w.heap.size q ps := fun j hj => by
  obtain ⟨u, h1, h2⟩ := h.at j hj
  obtain ⟨hl, ⟨e, h0⟩ | ⟨g, cap, cur, e, hg, hh, hn, hm, hc, ht⟩⟩ := hown
  · have hj' := (List.getElem?_eq_some_iff.1 h1).1
    omega
  · cases e
    refine ⟨g, 0, u, rfl, (Array.getElem?_eq_some_iff.1 hh).1, ?_, part_up h2 hb⟩
    rw [cell_of_row _ _ _ _ _ _ hh, Nat.zero_add]
    have hj' := (List.getElem?_eq_some_iff.1 h1).1
    rw [← ht, Nat.mul_one, List.getElem?_take_of_lt (by rw [hl] at hj'; omega)] at h1
    simpa using h1
theorem own_len {base e n : Nat} {w : World} {v : Value} {xs : List Value} (h : w.ownsRow base e 1 v n xs) : xs.length = n := by have := h.1; omega
theorem info20e : ∃ i, Try.prog.info? 20 = some i ∧ i.size = 1 ∧ i.bytes = 16 ∧ i.zero = some .nilIface := info_of (by kernel_rfl)
theorem law_append_any {ops : Array Oper} {rest : List Oper} {dst : Option Tmp} {T : TypeId} {pos : String} {after : Array Edge} {a : Act} {w : World} {Q : Exit → Act → World → Prop} {so xo : Operand}
    (base : Nat) (v : Value) (n : Nat) (xs : List Value) (g m : Nat) (news : List Value) (hs : a.eval so = v) (hx : a.eval xo = .slice (some ⟨g, 0, none⟩) m m) (hl : news.length = m) (hown : w.ownsRow base 20 1 v n xs) (hc : w.rangeAt g 0 news) (hu : ∀ y ∈ news, y.oneCell' = true)
    (hn : n + m ≤ 1000) (hbase : base ≤ w.heap.size)
    (h : ∀ v' w', w'.ownsRow base 20 1 v' (n + m) (xs ++ news) → w.grownBy w' v.ownBlock → wpList Try.prog ops Q rest (a.put dst v') w') :
    wpList Try.prog ops Q ({ dst := dst, op := .call { callee := .builtin .append, args := #[so, xo], argTypes := #[90, 90] }, type := T, pos := pos, after := after, guard := none } :: rest) a w := by
  obtain ⟨i, hi, hsz, hby, hz⟩ := info20e
  refine wpList_append_own_at _ rfl so xo 90 rfl base 20 i _ 1 16 Try.underlying90 hi hz hsz hby rfl (by decide) v n xs hs hown ⟨g, 0, none⟩ m m news hx (by omega) (fun j y hy => ?_) hu (by unfold maxLen; omega) (by omega) hbase (fun v' w' h1 h2 _ _ => h v' w' h1 h2)
  rw [Addr.add_mid]
  exact hc j y hy
theorem num_is (w : World) (base : Nat) (n : Int) : PartIs w base (.iface 3 (.int .i64 n)) (num n) := ⟨(fun x hx => by cases hx), .inl ⟨rfl, rfl⟩⟩
theorem txt_is {w : World} {base : Nat} {v : Value} {l : List Nat} (h : Old base w v l) (hl : l.length ≤ 9223372036854775807) : PartIs w base (.iface 32 v) (txt l) := ⟨h.1.small, .inr ⟨rfl, hl, .inl ⟨v, rfl, h⟩⟩⟩
theorem own3 (w : World) (A C : Obj) (x y z : Value) : (((w.alloc A).alloc (.cells #[x, y, z] 20)).alloc C).ownsRow w.heap.size 20 1 (.slice (some ⟨w.heap.size + 1, 0, none⟩) 3 3) 3 [x, y, z] :=
  ⟨rfl, .inr ⟨w.heap.size + 1, 3, #[x, y, z], rfl, by omega, mid3 w _ _ _, Nat.le_refl _, by unfold maxLen; omega, rfl, rfl⟩⟩
theorem last3 (w : World) (A B : Obj) (cs : Array Value) (t : TypeId) : (((w.alloc A).alloc B).alloc (.cells cs t)).heap[w.heap.size + 2]? = some (.cells cs t (0, 0)) := by
  have h := heap_alloc_new ((w.alloc A).alloc B) (.cells cs t)
  have e : ((w.alloc A).alloc B).heap.size = w.heap.size + 2 := by simp
  rwa [e] at h
theorem range3 (w : World) (A B : Obj) (l : List Value) (t : TypeId) : (((w.alloc A).alloc B).alloc (.cells l.toArray t)).rangeAt (w.heap.size + 2) 0 l :=
  fun j u hu => by rw [cell_of_row _ _ _ _ _ _ (last3 w A B l.toArray t), Nat.zero_add]; simpa using hu
/-- What parts tells. -/
def PaSays (ps : List Pt) (w : World) (e : Ending) (w' : World) : Prop := ∃ q c, e = .returned (.slice q ps.length c) ∧ PartsIs w' w'.heap.size q ps ∧ Below w.heap.size w w'
theorem PaSays.of {w w1 w' : World} {ps : List Pt} {xs : List Value} {v v0 : Value} {n n0 : Nat} {xs0 : List Value} (hb : Below w.heap.size w w1) (h0 : w1.ownsRow w.heap.size 20 1 v0 n0 xs0) (ho : w'.ownsRow w.heap.size 20 1 v n xs) (hg : w1.grownBy w' v0.ownBlock) (hp : AreP w1 w.heap.size xs ps) (hn : n = ps.length) : PaSays ps w (.returned v) w' := by
  obtain ⟨q, c, rfl⟩ := own_slice ho
  have hb2 := below_append h0 hg hb.size
  subst hn
  exact ⟨q, c, rfl, (hp.keep hb2).row ho (Nat.le_trans hb.size hb2.size), hb.trans hb2⟩
theorem range_of (w : World) (cs : List Value) (t : TypeId) : (w.alloc (.cells cs.toArray t)).rangeAt w.heap.size 0 cs :=
  fun j u hu => by rw [cell_of_row _ _ _ _ _ _ (heap_alloc_new w _), Nat.zero_add]; simpa using hu
end Go.Proofs.Ytchoiioeeepoaaa.E9
