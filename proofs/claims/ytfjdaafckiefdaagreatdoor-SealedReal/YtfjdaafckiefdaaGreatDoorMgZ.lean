/- The contract of parts. -/
import Derived.Test.YtfjdaafckiefdaaGreatDoorMgE
namespace Go.Proofs.YtfjdaafckiefdaaGreatDoor.E9
open Go.RowKit C8
theorem part_keep {w w' : World} {base : Nat} {u : Value} {p : Pt} (h : PartIs w base u p) (hb : Below base w w') : PartIs w' base u p := by
  obtain ⟨h0, h1 | ⟨h1, h2, ⟨s, h3, h4⟩ | h3⟩⟩ := h
  · exact ⟨h0, .inl h1⟩
  · exact ⟨h0, .inr ⟨h1, h2, .inl ⟨s, h3, h4.keep hb⟩⟩⟩
  · exact ⟨h0, .inr ⟨h1, h2, .inr h3⟩⟩
theorem part_up {w : World} {base base' : Nat} {u : Value} {p : Pt} (h : PartIs w base u p) (hb : base ≤ base') : PartIs w base' u p := by
  obtain ⟨h0, h1 | ⟨h1, h2, ⟨s, h3, h4⟩ | h3⟩⟩ := h
  · exact ⟨h0, .inl h1⟩
  · exact ⟨h0, .inr ⟨h1, h2, .inl ⟨s, h3, h4.up hb⟩⟩⟩
  · exact ⟨h0, .inr ⟨h1, h2, .inr h3⟩⟩
/-- Values that are parts, one by one. -/
def AreP (w : World) (base : Nat) : List Value → List Pt → Prop
  | [], [] => True
  | u :: xs, p :: ps => PartIs w base u p ∧ AreP w base xs ps
  | [], _ :: _ => False
  | _ :: _, [] => False
theorem AreP.keep {w w' : World} {base : Nat} (hb : Below base w w') : ∀ {xs : List Value} {ps : List Pt}, AreP w base xs ps → AreP w' base xs ps
  | [], [], _ => trivial
  | _ :: _, _ :: _, h => ⟨part_keep h.1 hb, AreP.keep hb h.2⟩
theorem AreP.append {w : World} {base : Nat} : ∀ {xs : List Value} {ps : List Pt} {ys : List Value} {qs : List Pt}, AreP w base xs ps → AreP w base ys qs → AreP w base (xs ++ ys) (ps ++ qs)
  | [], [], _, _, _, h => h
  | _ :: _, _ :: _, _, _, h, k => ⟨h.1, AreP.append h.2 k⟩
theorem AreP.length {w : World} {base : Nat} : ∀ {xs : List Value} {ps : List Pt}, AreP w base xs ps → xs.length = ps.length
  | [], [], _ => rfl
  | _ :: _, _ :: _, h => by simp [AreP.length h.2]
theorem AreP.at {w : World} {base : Nat} : ∀ {xs : List Value} {ps : List Pt}, AreP w base xs ps → ∀ j (hj : j < ps.length), ∃ u, xs[j]? = some u ∧ PartIs w base u ps[j]
  | [], [], _, j, hj => absurd hj (by simp)
  | u :: _, _ :: _, h, 0, _ => ⟨u, rfl, h.1⟩
  | _ :: _, _ :: _, h, j + 1, hj => by
    obtain ⟨u, h1, h2⟩ := AreP.at h.2 j (by simpa using hj)
    exact ⟨u, by simpa using h1, by simpa using h2⟩
theorem AreP.row {w : World} {base b0 : Nat} {xs : List Value} {ps : List Pt} {q : Option Addr} {n c : Nat} (h : AreP w base xs ps) (hown : w.ownsRow b0 20 1 (.slice q n c) n xs) (hb : base ≤ w.heap.size) : PartsIs w w.heap.size q ps := fun j hj => by
  obtain ⟨u, h1, h2⟩ := h.at j hj
  obtain ⟨hl, ⟨e, h0⟩ | ⟨g, cap, cur, e, hg, hh, hn, hm, hc, ht⟩⟩ := hown
  · have hj' := (List.getElem?_eq_some_iff.1 h1).1
    omega
  · cases e
    refine ⟨g, 0, u, rfl, (Array.getElem?_eq_some_iff.1 hh).1, ?_, part_up h2 hb⟩
    rw [cell_of_row _ _ _ _ _ _ hh, Nat.zero_add]
    have hj' := (List.getElem?_eq_some_iff.1 h1).1
    rw [← ht, Nat.mul_one, List.getElem?_take_of_lt (by rw [hl] at hj'; omega)] at h1
    simpa using h1
theorem info20e : ∃ i, Tryz.prog.info? 20 = some i ∧ i.size = 1 ∧ i.bytes = 16 ∧ i.zero = some .nilIface := info_of (by kernel_rfl)
theorem law_append_any {ops : Array Oper} {rest : List Oper} {dst : Option Tmp} {T : TypeId} {pos : String} {after : Array Edge} {a : Act} {w : World} {Q : Exit → Act → World → Prop} {so xo : Operand}
    (base : Nat) (v : Value) (n : Nat) (xs : List Value) (g m : Nat) (news : List Value) (hs : a.eval so = v) (hx : a.eval xo = .slice (some ⟨g, 0, none⟩) m m) (hl : news.length = m) (hown : w.ownsRow base 20 1 v n xs) (hc : w.rangeAt g 0 news) (hu : ∀ y ∈ news, y.oneCell' = true)
    (hn : n + m ≤ 1000) (hbase : base ≤ w.heap.size)
    (h : ∀ v' w', w'.ownsRow base 20 1 v' (n + m) (xs ++ news) → w.grownBy w' v.ownBlock → wpList Tryz.prog ops Q rest (a.put dst v') w') :
    wpList Tryz.prog ops Q ({ dst := dst, op := .call { callee := .builtin .append, args := #[so, xo], argTypes := #[131, 131] }, type := T, pos := pos, after := after, guard := none } :: rest) a w := by
  obtain ⟨i, hi, hsz, hby, hz⟩ := info20e
  refine wpList_append_own_at _ rfl so xo 131 rfl base 20 i _ 1 16 Tryz.underlying131 hi hz hsz hby rfl (by decide) v n xs hs hown ⟨g, 0, none⟩ m m news hx (by omega) (fun j y hy => ?_) hu (by unfold maxLen; omega) (by omega) hbase (fun v' w' h1 h2 _ _ => h v' w' h1 h2)
  rw [Addr.add_mid]
  exact hc j y hy
theorem num_is (w : World) (base : Nat) (n : Int) : PartIs w base (.iface 3 (.int .i64 n)) (num n) := ⟨(fun x hx => by cases hx), .inl ⟨rfl, rfl⟩⟩
theorem txt_is {w : World} {base : Nat} {v : Value} {l : List Nat} (h : Old base w v l) (hl : l.length ≤ 9223372036854775807) : PartIs w base (.iface 22 v) (txt l) := ⟨h.1.small, .inr ⟨rfl, hl, .inl ⟨v, rfl, h⟩⟩⟩
theorem own3 (w : World) (A C : Obj) (x y z : Value) : (((w.alloc A).alloc (.cells #[x, y, z] 20)).alloc C).ownsRow w.heap.size 20 1 (.slice (some ⟨w.heap.size + 1, 0, none⟩) 3 3) 3 [x, y, z] :=
  ⟨rfl, .inr ⟨w.heap.size + 1, 3, #[x, y, z], rfl, by omega, mid3 w _ _ _, Nat.le_refl _, by unfold maxLen; omega, rfl, rfl⟩⟩
theorem last3 (w : World) (A B : Obj) (cs : Array Value) (t : TypeId) : (((w.alloc A).alloc B).alloc (.cells cs t)).heap[w.heap.size + 2]? = some (.cells cs t (0, 0)) := by
  have h := heap_alloc_new ((w.alloc A).alloc B) (.cells cs t)
  have e : ((w.alloc A).alloc B).heap.size = w.heap.size + 2 := by simp
  rwa [e] at h
theorem range3 (w : World) (A B : Obj) (l : List Value) (t : TypeId) : (((w.alloc A).alloc B).alloc (.cells l.toArray t)).rangeAt (w.heap.size + 2) 0 l :=
  fun j u hu => by rw [cell_of_row _ _ _ _ _ _ (last3 w A B l.toArray t), Nat.zero_add]; simpa using hu
/-- What parts tells. -/
def PaSays (ps : List Pt) (w : World) (e : Ending) (w' : World) : Prop := ∃ q c, e = .returned (.slice q ps.length c) ∧ PartsIs w' w'.heap.size q ps ∧ Below w.heap.size w w'
theorem PaSays.of {w w1 w' : World} {ps : List Pt} {xs : List Value} {v v0 : Value} {n n0 : Nat} {xs0 : List Value} (hb : Below w.heap.size w w1) (h0 : w1.ownsRow w.heap.size 20 1 v0 n0 xs0) (ho : w'.ownsRow w.heap.size 20 1 v n xs) (hg : w1.grownBy w' v0.ownBlock) (hp : AreP w1 w.heap.size xs ps) (hn : n = ps.length) : PaSays ps w (.returned v) w' := by
  obtain ⟨q, c, rfl⟩ := own_slice ho
  have hb2 := below_append h0 hg hb.size
  subst hn
  exact ⟨q, c, rfl, (hp.keep hb2).row ho (Nat.le_trans hb.size hb2.size), hb.trans hb2⟩
set_option maxHeartbeats 2000000 in
theorem pa1 (a : En) (np : Option Addr) (nc : Nat) (vp : Option Addr) (vc : Nat) (q : Option Addr) (c : Nat) (w : World) (ha : EnAt w a np nc vp vc q) (hk : a.kind = 1) :
    Calls Tryz.prog 103 #[.agg (EnV a np nc vp vc q c)] w fun e w' => PaSays (pts a) w e w' := by
  have hp : pts a = [num a.kind, num a.writer, num a.seq] ++ [txt a.name, txt a.value] := by unfold pts tailP; rw [hk]; rfl
  rw [hp]
  have HP : Hid (∀ W, Below w.heap.size w W → AreP W w.heap.size ([.iface 3 (.int .i64 a.kind), .iface 3 (.int .i64 a.writer), .iface 3 (.int .i64 a.seq)] ++ [.iface 22 (.slice np a.name.length nc), .iface 22 (.slice vp a.value.length vc)]) ([num a.kind, num a.writer, num a.seq] ++ [txt a.name, txt a.value])) := fun W hW => by
    refine AreP.append ⟨num_is _ _ _, num_is _ _ _, num_is _ _ _, trivial⟩ ⟨txt_is ((Old.of ha.name).keep hW) ha.ln, txt_is ((Old.of ha.value).keep hW) ha.lv, trivial⟩
  clear hp ha
  obtain ⟨psl, HPS⟩ : ∃ psl, Hid ([num a.kind, num a.writer, num a.seq] ++ [txt a.name, txt a.value] = psl) := ⟨_, rfl⟩
  have HLEN : Hid (5 = psl.length) := by show _ = _; rw [← HPS.out]; rfl
  rw [HPS.out] at HP ⊢
  clear HPS
  obtain ⟨a1, a2, a3, a4, a5, a6, a7, a8, a9⟩ := a
  simp only [EnV] at HP hk ⊢
  subst hk
  generalize a4.length = n4 at *
  generalize a5.length = n5 at *
  generalize a9.length = n9 at *
  go_enter Tryz.func103, Tryz.ntmps103
  go_wp2_with (first | with_reducible (refine stop_builtin .append ?_))
  refine Stop.go ?_
  refine law_append_any w.heap.size (.slice (some ⟨w.heap.size + 1, 0, none⟩) 3 3) 3 _ (w.heap.size + 2) 2 _ rfl rfl rfl (own3 w _ _ _ _ _) (range3 w _ _ _ _) (by simp; first | exact ⟨rfl, rfl⟩ | rfl) (by omega) (bel3 w _ _ _).size ?_
  intro v' w' h1 h2
  have HF : Hid (PaSays psl w (.returned v') w') := PaSays.of (bel3 w _ _ _) (own3 w _ _ _ _ _) h1 h2 (HP.out _ (bel3 w _ _ _)) HLEN.out
  clear h1 h2 HP HLEN
  go_wp2_with fail
  go_ret
  exact HF.out
set_option maxHeartbeats 2000000 in
theorem pa2 (a : En) (np : Option Addr) (nc : Nat) (vp : Option Addr) (vc : Nat) (q : Option Addr) (c : Nat) (w : World) (ha : EnAt w a np nc vp vc q) (hk : a.kind = 2) :
    Calls Tryz.prog 103 #[.agg (EnV a np nc vp vc q c)] w fun e w' => PaSays (pts a) w e w' := by
  have hp : pts a = [num a.kind, num a.writer, num a.seq] ++ [txt a.name] := by unfold pts tailP; rw [hk]; rfl
  rw [hp]
  have HP : Hid (∀ W, Below w.heap.size w W → AreP W w.heap.size ([.iface 3 (.int .i64 a.kind), .iface 3 (.int .i64 a.writer), .iface 3 (.int .i64 a.seq)] ++ [.iface 22 (.slice np a.name.length nc)]) ([num a.kind, num a.writer, num a.seq] ++ [txt a.name])) := fun W hW => by
    refine AreP.append ⟨num_is _ _ _, num_is _ _ _, num_is _ _ _, trivial⟩ ⟨txt_is ((Old.of ha.name).keep hW) ha.ln, trivial⟩
  clear hp ha
  obtain ⟨psl, HPS⟩ : ∃ psl, Hid ([num a.kind, num a.writer, num a.seq] ++ [txt a.name] = psl) := ⟨_, rfl⟩
  have HLEN : Hid (4 = psl.length) := by show _ = _; rw [← HPS.out]; rfl
  rw [HPS.out] at HP ⊢
  clear HPS
  obtain ⟨a1, a2, a3, a4, a5, a6, a7, a8, a9⟩ := a
  simp only [EnV] at HP hk ⊢
  subst hk
  generalize a4.length = n4 at *
  generalize a5.length = n5 at *
  generalize a9.length = n9 at *
  go_enter Tryz.func103, Tryz.ntmps103
  go_wp2_with (first | with_reducible (refine stop_builtin .append ?_))
  refine Stop.go ?_
  refine law_append_any w.heap.size (.slice (some ⟨w.heap.size + 1, 0, none⟩) 3 3) 3 _ (w.heap.size + 2) 1 _ rfl rfl rfl (own3 w _ _ _ _ _) (range3 w _ _ _ _) (by simp; first | exact ⟨rfl, rfl⟩ | rfl) (by omega) (bel3 w _ _ _).size ?_
  intro v' w' h1 h2
  have HF : Hid (PaSays psl w (.returned v') w') := PaSays.of (bel3 w _ _ _) (own3 w _ _ _ _ _) h1 h2 (HP.out _ (bel3 w _ _ _)) HLEN.out
  clear h1 h2 HP HLEN
  go_wp2_with fail
  go_ret
  exact HF.out
set_option maxHeartbeats 2000000 in
theorem pa3 (a : En) (np : Option Addr) (nc : Nat) (vp : Option Addr) (vc : Nat) (q : Option Addr) (c : Nat) (w : World) (hk : a.kind = 3) :
    Calls Tryz.prog 103 #[.agg (EnV a np nc vp vc q c)] w fun e w' => PaSays (pts a) w e w' := by
  have hp : pts a = [num a.kind, num a.writer, num a.seq] ++ [num a.who, num a.rights] := by unfold pts tailP; rw [hk]; rfl
  rw [hp]
  have HP : Hid (∀ W, Below w.heap.size w W → AreP W w.heap.size ([.iface 3 (.int .i64 a.kind), .iface 3 (.int .i64 a.writer), .iface 3 (.int .i64 a.seq)] ++ [.iface 3 (.int .i64 a.who), .iface 3 (.int .i64 a.rights)]) ([num a.kind, num a.writer, num a.seq] ++ [num a.who, num a.rights])) := fun W _ => by
    refine AreP.append ⟨num_is _ _ _, num_is _ _ _, num_is _ _ _, trivial⟩ ⟨num_is _ _ _, num_is _ _ _, trivial⟩
  clear hp
  obtain ⟨psl, HPS⟩ : ∃ psl, Hid ([num a.kind, num a.writer, num a.seq] ++ [num a.who, num a.rights] = psl) := ⟨_, rfl⟩
  have HLEN : Hid (5 = psl.length) := by show _ = _; rw [← HPS.out]; rfl
  rw [HPS.out] at HP ⊢
  clear HPS
  obtain ⟨a1, a2, a3, a4, a5, a6, a7, a8, a9⟩ := a
  simp only [EnV] at HP hk ⊢
  subst hk
  generalize a4.length = n4 at *
  generalize a5.length = n5 at *
  generalize a9.length = n9 at *
  go_enter Tryz.func103, Tryz.ntmps103
  go_wp2_with (first | with_reducible (refine stop_builtin .append ?_))
  refine Stop.go ?_
  refine law_append_any w.heap.size (.slice (some ⟨w.heap.size + 1, 0, none⟩) 3 3) 3 _ (w.heap.size + 2) 2 _ rfl rfl rfl (own3 w _ _ _ _ _) (range3 w _ _ _ _) (by simp; first | exact ⟨rfl, rfl⟩ | rfl) (by omega) (bel3 w _ _ _).size ?_
  intro v' w' h1 h2
  have HF : Hid (PaSays psl w (.returned v') w') := PaSays.of (bel3 w _ _ _) (own3 w _ _ _ _ _) h1 h2 (HP.out _ (bel3 w _ _ _)) HLEN.out
  clear h1 h2 HP HLEN
  go_wp2_with fail
  go_ret
  exact HF.out
set_option maxHeartbeats 2000000 in
theorem pa4 (a : En) (np : Option Addr) (nc : Nat) (vp : Option Addr) (vc : Nat) (q : Option Addr) (c : Nat) (w : World) (hk : a.kind = 4) :
    Calls Tryz.prog 103 #[.agg (EnV a np nc vp vc q c)] w fun e w' => PaSays (pts a) w e w' := by
  have hp : pts a = [num a.kind, num a.writer, num a.seq] ++ [num a.who] := by unfold pts tailP; rw [hk]; rfl
  rw [hp]
  have HP : Hid (∀ W, Below w.heap.size w W → AreP W w.heap.size ([.iface 3 (.int .i64 a.kind), .iface 3 (.int .i64 a.writer), .iface 3 (.int .i64 a.seq)] ++ [.iface 3 (.int .i64 a.who)]) ([num a.kind, num a.writer, num a.seq] ++ [num a.who])) := fun W _ => by
    refine AreP.append ⟨num_is _ _ _, num_is _ _ _, num_is _ _ _, trivial⟩ ⟨num_is _ _ _, trivial⟩
  clear hp
  obtain ⟨psl, HPS⟩ : ∃ psl, Hid ([num a.kind, num a.writer, num a.seq] ++ [num a.who] = psl) := ⟨_, rfl⟩
  have HLEN : Hid (4 = psl.length) := by show _ = _; rw [← HPS.out]; rfl
  rw [HPS.out] at HP ⊢
  clear HPS
  obtain ⟨a1, a2, a3, a4, a5, a6, a7, a8, a9⟩ := a
  simp only [EnV] at HP hk ⊢
  subst hk
  generalize a4.length = n4 at *
  generalize a5.length = n5 at *
  generalize a9.length = n9 at *
  go_enter Tryz.func103, Tryz.ntmps103
  go_wp2_with (first | with_reducible (refine stop_builtin .append ?_))
  refine Stop.go ?_
  refine law_append_any w.heap.size (.slice (some ⟨w.heap.size + 1, 0, none⟩) 3 3) 3 _ (w.heap.size + 2) 1 _ rfl rfl rfl (own3 w _ _ _ _ _) (range3 w _ _ _ _) (by simp; first | exact ⟨rfl, rfl⟩ | rfl) (by omega) (bel3 w _ _ _).size ?_
  intro v' w' h1 h2
  have HF : Hid (PaSays psl w (.returned v') w') := PaSays.of (bel3 w _ _ _) (own3 w _ _ _ _ _) h1 h2 (HP.out _ (bel3 w _ _ _)) HLEN.out
  clear h1 h2 HP HLEN
  go_wp2_with fail
  go_ret
  exact HF.out
theorem range_of (w : World) (cs : List Value) (t : TypeId) : (w.alloc (.cells cs.toArray t)).rangeAt w.heap.size 0 cs :=
  fun j u hu => by rw [cell_of_row _ _ _ _ _ _ (heap_alloc_new w _), Nat.zero_add]; simpa using hu
set_option maxHeartbeats 4000000 in
theorem pa5 (a : En) (np : Option Addr) (nc : Nat) (vp : Option Addr) (vc : Nat) (q : Option Addr) (c : Nat) (w : World) (ha : EnAt w a np nc vp vc q) (hk : a.kind = 5) (hl : a.wraps.length ≤ 16) :
    Calls Tryz.prog 103 #[.agg (EnV a np nc vp vc q c)] w fun e w' => PaSays (pts a) w e w' := by
  have hp : pts a = [num a.kind, num a.writer, num a.seq] ++ [num a.epoch, num (a.wraps.length : Int)] ++ wpts a.wraps := by unfold pts tailP; rw [hk]; rfl
  rw [hp]
  have HP : Hid (∀ W, Below w.heap.size w W → AreP W w.heap.size ([.iface 3 (.int .i64 a.kind), .iface 3 (.int .i64 a.writer), .iface 3 (.int .i64 a.seq)] ++ [.iface 3 (.int .i64 a.epoch), .iface 3 (.int .i64 (a.wraps.length : Int))]) ([num a.kind, num a.writer, num a.seq] ++ [num a.epoch, num (a.wraps.length : Int)])) := fun W _ => by
    refine AreP.append ⟨num_is _ _ _, num_is _ _ _, num_is _ _ _, trivial⟩ ⟨num_is _ _ _, num_is _ _ _, trivial⟩
  have HWR : Hid (WrRow w q a.wraps) := ha.wraps
  clear hp ha
  obtain ⟨psl, HPS⟩ : ∃ psl, Hid ([num a.kind, num a.writer, num a.seq] ++ [num a.epoch, num (a.wraps.length : Int)] = psl) := ⟨_, rfl⟩
  have HLEN : Hid (psl.length = 5) := by show _ = _; rw [← HPS.out]; rfl
  rw [HPS.out] at HP ⊢
  clear HPS
  obtain ⟨a1, a2, a3, a4, a5, a6, a7, a8, ws⟩ := a
  simp only [EnV] at HP hk hl HWR ⊢
  subst hk
  obtain ⟨n, HN⟩ : ∃ n, Hid (ws.length = n) := ⟨_, rfl⟩
  rw [HN.out] at HP hl ⊢
  generalize a4.length = n4 at *
  generalize a5.length = n5 at *
  have l1 : (n : Int) ≤ 16 := by omega
  go_enter Tryz.func103, Tryz.ntmps103
  go_wp2_with (first | with_reducible (refine stop_builtin .append ?_))
  refine Stop.go ?_
  refine law_append_any w.heap.size (.slice (some ⟨w.heap.size + 1, 0, none⟩) 3 3) 3 _ (w.heap.size + 2) 2 _ rfl rfl rfl (own3 w _ _ _ _ _) (range3 w _ _ _ _) (by simp; exact ⟨rfl, rfl⟩) (by omega) (bel3 w _ _ _).size ?_
  intro v' w' h1 h2
  have hb1 : Below w.heap.size w w' := (bel3 w _ _ _).trans (below_append (own3 w _ _ _ _ _) h2 (bel3 w _ _ _).size)
  have HA : Hid (∃ xs, w'.ownsRow w.heap.size 20 1 v' 5 xs ∧ AreP w' w.heap.size xs psl) := ⟨_, h1, HP.out _ hb1⟩
  have HB : Hid (Below w.heap.size w w') := hb1
  have hcell := (below_append (own3 w _ _ _ _ _) h2 (bel3 w _ _ _).size).size
  have HE : w'.heap[w.heap.size]? = some (.cells #[.int .i64 5, .int .i64 a2, .int .i64 a3, .slice np n4 nc, .slice vp n5 vc, .int .i64 a6, .int .i64 a7, .int .i64 a8, .slice q n c] 49 (0, 0)) := by
    rw [h2.block w.heap.size (by simp; omega) (by simp [Value.ownBlock])]
    rw [Below.heap_alloc _ _ _ (by simp; omega)]
    exact heap_alloc2_old w _ _
  have d8 : w'.cell? ⟨w.heap.size, 8, none⟩ = some (.slice q n c) := by rw [cell_of_row _ _ _ _ _ _ HE]; rfl
  clear h1 h2 HP hb1 hcell HE
  go_wp2_with fail
  go_loopw [3, 71] (fun sl i wr => ∃ j : Nat, j ≤ n ∧ i = .int .i64 j ∧ Hid (Below w.heap.size w wr) ∧ Hid (∃ xs, wr.ownsRow w.heap.size 20 1 sl (5 + 2 * j) xs ∧ AreP wr w.heap.size xs (psl ++ wpts (ws.take j)))) (fun _ i _ => n - (intOf i).toNat)
  case atStart => exact ⟨0, by omega, rfl, HB, by obtain ⟨xs, h1, h2⟩ := HA.out; exact ⟨xs, h1, by simpa [wpts] using h2⟩⟩
  case round =>
    obtain ⟨j, hj, rfl, HB1, HA1⟩ := hrel
    by_cases hlt : j < n
    · have ja : j < ws.length := by rw [HN.out]; exact hlt
      obtain ⟨b, o, bp, bc, rfl, k2, k3, k4, k5, k6⟩ := HWR.out j ja
      have d0 := (HB1.out.cell (p := ⟨b, o + j * 2, none⟩) k2).trans k3
      have d1 := (HB1.out.cell (p := ⟨b, o + j * 2 + 1, none⟩) k2).trans k4
      have j1 : (j : Int) < (n : Int) := by omega
      have j0 : (0 : Int) ≤ (j : Int) := by omega
      obtain ⟨xs, HO, HX⟩ : ∃ xs, Hid (wr.ownsRow w.heap.size 20 1 u3 (5 + 2 * j) xs) ∧ Hid (AreP wr w.heap.size xs (psl ++ wpts (ws.take j))) := HA1.out
      have HT : Hid (psl ++ wpts (ws.take (j + 1)) = (psl ++ wpts (ws.take j)) ++ [num ws[j].1, txt ws[j].2]) := by
        show _ = _
        rw [List.take_succ_eq_append_getElem ja, wpts_append, List.append_assoc]
        rfl
      have HPW : Hid (∀ W, Below w.heap.size w W → AreP W w.heap.size [.iface 3 (.int .i64 ws[j].1), .iface 22 (.slice bp ws[j].2.length bc)] [num ws[j].1, txt ws[j].2]) := fun W hW => ⟨num_is _ _ _, txt_is ((Old.of k5).keep hW) k6, trivial⟩
      clear k3 k4 k5 k6 HA1
      generalize ws[j] = x at *
      obtain ⟨x1, x2⟩ := x
      simp only at d0 d1 HPW HT
      generalize x2.length = xl at *
      clear ja
      go_wp2_with (first | with_reducible (refine stop_builtin .append ?_))
      refine Stop.go ?_
      have hA : ∀ o1 o2, Below wr.heap.size wr ((wr.alloc o1).alloc o2) := fun o1 o2 => (bel_alloc (Nat.le_refl _) o1).trans (bel_alloc (by simp) o2)
      refine law_append_any w.heap.size u3 (5 + 2 * j) xs (wr.heap.size + 1) 2 [.iface 3 (.int .i64 x1), .iface 22 (.slice bp xl bc)] rfl rfl rfl (own_below HO.out (hA _ _)) ?hr (by simp; exact ⟨rfl, rfl⟩) (by omega) (Nat.le_trans HB1.out.size (hA _ _).size) ?_
      case hr =>
        have hr0 := range_of (wr.alloc (.cells #[.int .i64 x1, .slice bp xl bc] 100)) [.iface 3 (.int .i64 x1), .iface 22 (.slice bp xl bc)] 20
        rw [show (wr.alloc (.cells #[.int .i64 x1, .slice bp xl bc] 100)).heap.size = wr.heap.size + 1 from by simp] at hr0
        exact hr0
      intro v2 w2 h1 h2
      have hb2 := below_append (own_below HO.out (hA _ _)) h2 (Nat.le_trans HB1.out.size (hA _ _).size)
      have hb3 : Below w.heap.size wr w2 := (bel_le (hA _ _) HB1.out.size).trans hb2
      have HB2 : Hid (Below w.heap.size w w2) := HB1.out.trans hb3
      have HA2 : Hid (∃ xs, w2.ownsRow w.heap.size 20 1 v2 (5 + 2 * (j + 1)) xs ∧ AreP w2 w.heap.size xs (psl ++ wpts (ws.take (j + 1)))) := ⟨_, by rw [show 5 + 2 * (j + 1) = 5 + 2 * j + 2 from by omega]; exact h1, by rw [HT.out]; exact AreP.append (AreP.keep hb3 HX.out) (HPW.out _ HB2.out)⟩
      clear h1 h2 hA hb2 hb3 HO HX HT HPW
      go_wp2_with fail
      refine ⟨⟨j + 1, by omega, by simp, HB2, HA2⟩, ?_⟩
      simp only [intOf]
      omega
    · obtain rfl : j = n := by omega
      have j1 : ¬ (j : Int) < (j : Int) := by omega
      have HF : Hid (PaSays (psl ++ wpts ws) w (.returned u3) wr) := by
        obtain ⟨xs, h1, h2⟩ := HA1.out
        rw [List.take_of_length_le (by rw [HN.out]; omega)] at h2
        obtain ⟨q2, c2, rfl⟩ := own_slice h1
        have hlen : (psl ++ wpts ws).length = 5 + 2 * j := by rw [List.length_append, wpts_length, HLEN.out, HN.out]
        exact ⟨q2, c2, by rw [hlen], h2.row h1 HB1.out.size, HB1.out⟩
      clear HA1 HA
      go_wp2_with fail
      go_ret
      exact HF.out
theorem parts_any (a : En) (va : Value) (w : World) (ha : EnIs w va a) (hr : right a = true) :
    Calls Tryz.prog 103 #[va] w fun e w' => PaSays (pts a) w e w' := by
  obtain ⟨np, nc, vp, vc, q, c, rfl, ha⟩ := ha
  obtain ⟨_, _, ⟨k, _⟩ | ⟨k, _⟩ | ⟨k, _⟩ | ⟨k, _⟩ | ⟨k, _, _, _, _, _, h⟩⟩ := (right_iff a).1 hr
  · exact pa1 a np nc vp vc q c w ha k
  · exact pa2 a np nc vp vc q c w ha k
  · exact pa3 a np nc vp vc q c w k
  · exact pa4 a np nc vp vc q c w k
  · exact pa5 a np nc vp vc q c w ha k (wok_le h)
end Go.Proofs.YtfjdaafckiefdaaGreatDoor.E9
/- The contracts of Put, for right parts, and of Encode. -/
namespace Go.Proofs.YtfjdaafckiefdaaGreatDoor.E9
open Go.RowKit C8
theorem own_older {base base' e size n : Nat} {w : World} {v : Value} {xs : List Value} (h : w.ownsRow base e size v n xs) (hb : base' ≤ base) : w.ownsRow base' e size v n xs := by
  obtain ⟨hl, h1 | ⟨g, cap, cur, rfl, hg, hr⟩⟩ := h
  · exact ⟨hl, .inl h1⟩
  · exact ⟨hl, .inr ⟨g, cap, cur, rfl, Nat.le_trans hb hg, hr⟩⟩
theorem enc_sub (ps : List Pt) (j : Nat) : (Cd.enc (ps.take j)).length ≤ (Cd.enc ps).length := by
  conv => rhs; rw [← List.take_append_drop j ps, Cd.enc_append, List.length_append]
  omega
set_option maxHeartbeats 2000000 in
theorem Put_ok (ps : List Pt) (q : Option Addr) (c : Nat) (w : World) (hl : ps.length ≤ 64) (he : Cd.err ps = 0) (hz : (Cd.enc ps).length ≤ 80000) (hp : PartsIs w w.heap.size q ps) :
    Calls Tryz.prog 43 #[.slice q ps.length c] w fun e w' => ∃ v, e = .returned (.tuple #[v, .int .i64 0]) ∧ w'.ownsRow w.heap.size 5 1 v (Cd.enc ps).length (ints .u8 (Cd.enc ps)) ∧ Below w.heap.size w w' := by
  have HP : Hid (PartsIs w w.heap.size q ps) := hp
  have HE0 : Hid (Cd.err ps = 0) := he
  have HZ : Hid ((Cd.enc ps).length ≤ 80000) := hz
  obtain ⟨n, HN⟩ : ∃ n, Hid (ps.length = n) := ⟨_, rfl⟩
  rw [HN.out] at hl ⊢
  clear hp he hz
  have l1 : (n : Int) ≤ 64 := by omega
  go_enter Tryz.func43, Tryz.ntmps43
  go_wp2_with fail
  go_loopw [4, 10] (fun sl i wr => ∃ j : Nat, j ≤ n ∧ i = .int .i64 j ∧ Hid (wr.ownsRow w.heap.size 5 1 sl (Cd.enc (ps.take j)).length (ints .u8 (Cd.enc (ps.take j)))) ∧ Hid (Below w.heap.size w wr)) (fun _ i _ => n - (intOf i).toNat)
  case atStart => exact ⟨0, by omega, rfl, own_none _ _ _ _, Below.refl _ _⟩
  case round =>
    obtain ⟨j, hj, rfl, HO, HB⟩ := hrel
    by_cases hlt : j < n
    · have hjp : j < ps.length := by rw [HN.out]; exact hlt
      obtain ⟨b, o, u, rfl, hb, hc, hpart⟩ := HP.out j hjp
      have d1 := (HB.out.cell (p := ⟨b, o + j, none⟩) hb).trans hc
      have HPT : Hid (PartIs wr w.heap.size u ps[j]) := hpart.below HB.out
      have j1 : (j : Int) < (n : Int) := by omega
      have j0 : (0 : Int) ≤ (j : Int) := by omega
      have HL : Hid ((Cd.enc (ps.take j)).length ≤ 80000) := Nat.le_trans (enc_sub ps j) HZ.out
      have HS : Hid (w.heap.size ≤ wr.heap.size) := HB.out.size
      clear hc hpart
      have hw : Cd.wrong ps[j] = 0 := Cd.wrong_of_err HE0.out _ (List.getElem_mem hjp)
      have HC2 : Hid (Cd.enc (ps.take (j + 1)) = Cd.enc (ps.take j) ++ Cd.one ps[j]) := by
        show _ = _
        rw [List.take_succ_eq_append_getElem hjp, Cd.enc_snoc]
      have HC : ∀ W, W = wr → Calls Tryz.prog 91 #[u4, u] W fun e w' => ∃ v', e = .returned (.tuple #[v', .int .i64 0]) ∧ Hid (w'.ownsRow w.heap.size 5 1 v' (Cd.enc (ps.take (j + 1))).length (ints .u8 (Cd.enc (ps.take (j + 1))))) ∧ Hid (Below w.heap.size w w') := by
        rintro W rfl
        refine (addPart_ok _ u4 _ w.heap.size u ps[j] W HO.out HL.out HS.out HPT.out hw).mono ?_
        rintro e w' ⟨v', rfl, h1, h2⟩
        refine ⟨v', rfl, ?_, HB.out.trans h2⟩
        show World.ownsRow _ _ _ _ _ _ _
        rw [HC2.out, List.length_append]
        exact h1
      clear hw HC2 HL HPT HO hjp
      go_wp2_with (first | (go_at_call 91; refine (HC _ rfl).mono ?_; rintro e w1 ⟨v1, rfl, HO1, HB1⟩))
      refine ⟨⟨j + 1, by omega, by simp, HO1, HB1⟩, ?_⟩
      simp only [intOf]
      omega
    · obtain rfl : j = n := by omega
      have j1 : ¬ (j : Int) < (j : Int) := by omega
      have HO0 : Hid (wr.ownsRow w.heap.size 5 1 u4 (Cd.enc ps).length (ints .u8 (Cd.enc ps))) := by have := HO.out; rwa [List.take_of_length_le (by rw [HN.out]; omega)] at this
      clear HO
      go_wp2_with fail
      go_ret2
      exact ⟨_, rfl, HO0.out, HB.out⟩
/-- What Encode tells. -/
def EncSays (a : En) (w : World) (e : Ending) (w' : World) : Prop :=
  Below w.heap.size w w' ∧ ((right a = true ∧ ∃ v, e = .returned (.tuple #[v, .int .i64 0]) ∧ w'.ownsRow w.heap.size 5 1 v (bytes a).length (ints .u8 (bytes a))) ∨ (right a = false ∧ e = .returned (.tuple #[.slice none 0 0, .int .i64 10])))
set_option maxHeartbeats 4000000 in
theorem Encode_any (a : En) (va : Value) (w : World) (ha : EnIs w va a) :
    Calls Tryz.prog 59 #[va] w fun e w' => EncSays a w e w' := by
  have hA := ha
  obtain ⟨np, nc, vp, vc, q, c, rfl, -⟩ := ha
  have HRT : ∀ W, Below w.heap.size w W → Calls Tryz.prog 37 #[.agg (EnV a np nc vp vc q c)] W fun e w' => e = .returned (.bool (right a)) ∧ Below W.heap.size W w' := fun W hW => Right_any a _ W (hA.below hW)
  have HPA : right a = true → ∀ W, Below w.heap.size w W → Calls Tryz.prog 103 #[.agg (EnV a np nc vp vc q c)] W fun e w' => ∃ q2 c2 n2, e = .returned (.slice q2 n2 c2) ∧ Hid (n2 = (pts a).length ∧ PartsIs w' w'.heap.size q2 (pts a)) ∧ Hid (Below w.heap.size w w') := fun hr W hW => (parts_any a _ W (hA.below hW) hr).mono (by
    rintro e w' ⟨q2, c2, rfl, h1, h2⟩
    exact ⟨q2, c2, _, rfl, ⟨rfl, h1⟩, hW.trans (bel_le h2 hW.size)⟩)
  have HPU : right a = true → ∀ W q2 n2 c2, Hid (n2 = (pts a).length ∧ PartsIs W W.heap.size q2 (pts a)) → Hid (Below w.heap.size w W) → Calls Tryz.prog 43 #[.slice q2 n2 c2] W fun e w' => ∃ v, e = .returned (.tuple #[v, .int .i64 0]) ∧ Hid (EncSays a w (.returned (.tuple #[v, .int .i64 0])) w') := fun hr W q2 n2 c2 h1 h2 => by
    obtain ⟨rfl, h1p⟩ := h1.out
    refine (Put_ok (pts a) q2 c2 W (Nat.le_trans (pts_length hr) (by omega)) (right_err hr) (Nat.le_trans (bytes_length hr).1 (by omega)) h1p).mono ?_
    rintro e w' ⟨v, rfl, h3, h4⟩
    exact ⟨v, rfl, h2.out.trans (bel_le h4 h2.out.size), .inl ⟨hr, v, rfl, own_older h3 h2.out.size⟩⟩
  have HNO : Hid (right a = false → ∀ W, Below w.heap.size w W → EncSays a w (.returned (.tuple #[.slice none 0 0, .int .i64 10])) W) := fun hr W h => ⟨h, .inr ⟨hr, rfl⟩⟩
  clear hA
  obtain ⟨S, HS⟩ : ∃ S, Hid (EncSays a w = S) := ⟨_, rfl⟩
  rw [HS.out] at HPU HNO ⊢
  clear HS
  cases hr : right a with
  | true =>
    rw [hr] at HRT
    replace HPA := HPA hr
    replace HPU := HPU hr
    generalize (pts a) = ps at *
    clear HNO hr
    obtain ⟨a1, a2, a3, a4, a5, a6, a7, a8, a9⟩ := a
    simp only [EnV] at HRT HPA ⊢
    generalize a4.length = n4 at *
    generalize a5.length = n5 at *
    generalize a9.length = n9 at *
    have hb1 : Below w.heap.size w (w.alloc (.cells #[.int .i64 a1, .int .i64 a2, .int .i64 a3, .slice np n4 nc, .slice vp n5 vc, .int .i64 a6, .int .i64 a7, .int .i64 a8, .slice q n9 c] 49)) := bel_alloc (Nat.le_refl _) _
    have HR1 : ∀ W, W = w.alloc (.cells #[.int .i64 a1, .int .i64 a2, .int .i64 a3, .slice np n4 nc, .slice vp n5 vc, .int .i64 a6, .int .i64 a7, .int .i64 a8, .slice q n9 c] 49) → Calls Tryz.prog 37 #[.agg #[.int .i64 a1, .int .i64 a2, .int .i64 a3, .slice np n4 nc, .slice vp n5 vc, .int .i64 a6, .int .i64 a7, .int .i64 a8, .slice q n9 c]] W fun e w' => e = .returned (.bool true) ∧ Hid (Below w.heap.size w w') ∧ w'.cell? ⟨w.heap.size, 0, none⟩ = some (.int .i64 a1) ∧ w'.cell? ⟨w.heap.size, 1, none⟩ = some (.int .i64 a2) ∧ w'.cell? ⟨w.heap.size, 2, none⟩ = some (.int .i64 a3) ∧ w'.cell? ⟨w.heap.size, 3, none⟩ = some (.slice np n4 nc) ∧ w'.cell? ⟨w.heap.size, 4, none⟩ = some (.slice vp n5 vc) ∧ w'.cell? ⟨w.heap.size, 5, none⟩ = some (.int .i64 a6) ∧ w'.cell? ⟨w.heap.size, 6, none⟩ = some (.int .i64 a7) ∧ w'.cell? ⟨w.heap.size, 7, none⟩ = some (.int .i64 a8) ∧ w'.cell? ⟨w.heap.size, 8, none⟩ = some (.slice q n9 c) := by
      rintro W rfl
      refine (HRT _ hb1).mono ?_
      rintro e w' ⟨rfl, h2⟩
      have hh := (h2.block w.heap.size (by simp)).trans (heap_alloc_new w (.cells #[.int .i64 a1, .int .i64 a2, .int .i64 a3, .slice np n4 nc, .slice vp n5 vc, .int .i64 a6, .int .i64 a7, .int .i64 a8, .slice q n9 c] 49))
      refine ⟨rfl, hb1.trans (bel_le h2 hb1.size), ?_, ?_, ?_, ?_, ?_, ?_, ?_, ?_, ?_⟩ <;> (rw [cell_of_row _ _ _ _ _ _ hh]; rfl)
    clear HRT hb1
    go_enter Tryz.func59, Tryz.ntmps59
    go_wp2_with (first | (go_at_call 37; refine (HR1 _ rfl).mono ?_; rintro e w1 ⟨rfl, HB1, d0, d1, d2, d3, d4, d5, d6, d7, d8⟩) | (go_at_call 103; refine (HPA _ HB1.out).mono ?_; rintro e w2 ⟨q2, c2, n2, rfl, HP2, HB2⟩) | (go_at_call 43; refine (HPU _ _ _ _ HP2 HB2).mono ?_; rintro e w3 ⟨v3, rfl, HF⟩))
    exact HF.out
  | false =>
    rw [hr] at HRT
    replace HNO : Hid (∀ W, Below w.heap.size w W → S (.returned (.tuple #[.slice none 0 0, .int .i64 10])) W) := HNO.out hr
    clear HPA HPU hr
    obtain ⟨a1, a2, a3, a4, a5, a6, a7, a8, a9⟩ := a
    simp only [EnV] at HRT ⊢
    generalize a4.length = n4 at *
    generalize a5.length = n5 at *
    generalize a9.length = n9 at *
    have HB0 : Hid (Below w.heap.size w (w.alloc (.cells #[.int .i64 a1, .int .i64 a2, .int .i64 a3, .slice np n4 nc, .slice vp n5 vc, .int .i64 a6, .int .i64 a7, .int .i64 a8, .slice q n9 c] 49))) := bel_alloc (Nat.le_refl _) _
    have HR1 : ∀ W, W = w.alloc (.cells #[.int .i64 a1, .int .i64 a2, .int .i64 a3, .slice np n4 nc, .slice vp n5 vc, .int .i64 a6, .int .i64 a7, .int .i64 a8, .slice q n9 c] 49) → Calls Tryz.prog 37 #[.agg #[.int .i64 a1, .int .i64 a2, .int .i64 a3, .slice np n4 nc, .slice vp n5 vc, .int .i64 a6, .int .i64 a7, .int .i64 a8, .slice q n9 c]] W fun e w' => e = .returned (.bool false) ∧ Hid (Below w.heap.size w w') := by
      rintro W rfl
      refine (HRT _ HB0.out).mono ?_
      rintro e w' ⟨rfl, h2⟩
      exact ⟨rfl, HB0.out.trans (bel_le h2 HB0.out.size)⟩
    clear HRT
    go_enter Tryz.func59, Tryz.ntmps59
    go_wp2_with (first | (go_at_call 37; refine (HR1 _ rfl).mono ?_; rintro e w1 ⟨rfl, HB1⟩))
    exact HNO.out _ HB1.out
end Go.Proofs.YtfjdaafckiefdaaGreatDoor.E9
