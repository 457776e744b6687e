/- The walk of ShaEmpty. -/
import Derived.Test.YtnbdadhdpplldaaDoorSumsW
import Derived.Test.YtnbdadhdpplldaaDoorParts
namespace Go.Proofs.YtnbdadhdpplldaaDoor
open Go.RowKit
def NewV (v : Value) (w : World) : Prop := ∃ g, v = .pointer (some ⟨g, 0, none⟩) ∧ HashAt w g []
theorem NewV.kept {v : Value} {w w' : World} (h : NewV v w) (hb : Below w.heap.size w w') : NewV v w' := by
  obtain ⟨g, rfl, st, blk, h1, h2⟩ := h
  exact ⟨g, rfl, st, blk, h1, (hb.block g (Array.getElem?_eq_some_iff.1 h2).1).trans h2⟩
theorem new_step (w' : World) : Calls Tryd.prog 12 #[] w' fun e w2 => ∃ v, e = .returned v ∧ Below w'.heap.size w' w2 ∧ NewV v w2 := by
  refine (new_any w').mono ?_
  rintro e w2 ⟨rfl, rfl⟩
  exact ⟨_, rfl, (Below.refl _ _).alloc (Nat.le_refl _) _, _, rfl, hashAt_new w'⟩
theorem hnew_step {w' : World} {v : Value} (hT : Tab w') (h : NewV v w') : Calls Tryd.prog 14 #[v] w' fun e w2 => ∃ v, e = .returned v ∧ Below w'.heap.size w' w2 ∧ SumV [] v w2 := by
  obtain ⟨g, rfl, hh⟩ := h
  exact hsum_step hh hT (by decide) (Below.refl _ _)
theorem build_nil {o : Oper} {a' : Act} {w' : World} (ho : o.op = .buildSlice 27 1 #[(0, .const (.slice none 0 0))]) :
    (execOp a'.eval o).run Tryd.prog w' = .ok (.value (.slice (some ⟨w'.heap.size, 0, none⟩) 1 1)) (w'.alloc (.cells #[.slice none 0 0] 22)) := by
  unfold execOp
  simp only [ho]
  have he : a'.eval (.const (.slice none 0 0)) = .slice none 0 0 := rfl
  generalize a'.eval = r at *
  simp [he, go_sem]
theorem info22e : ∃ i, Tryd.prog.info? 22 = some i ∧ i.size = 1 ∧ i.bytes = 24 ∧ i.zero = some (.slice none 0 0) := info_of (by kernel_rfl)
theorem law_append_parts {ops : Array Oper} {rest : List Oper} {dst : Option Tmp} {T : TypeId} {pos : String} {after : Array Edge} {a : Act} {w : World} {Q : Exit → Act → World → Prop} {st xt : Tmp}
    (base : Nat) (v : Value) (n : Nat) (xs : List Value) (g c : Nat) (m : Nat) (news : List Value) (hs : a.eval (.tmp st) = v) (hx : a.eval (.tmp xt) = .slice (some ⟨g, 0, none⟩) m c) (hm : news.length = m) (hown : w.ownsRow base 22 1 v n xs) (hr : w.rangeAt g 0 news) (h1 : ∀ u ∈ news, u.oneCell' = true)
    (hn : n + m ≤ 100000) (hbase : base ≤ w.heap.size)
    (h : ∀ v' w', w'.ownsRow base 22 1 v' (n + m) (xs ++ news) → w.grownBy w' v.ownBlock → wpList Tryd.prog ops Q rest (a.put dst v') w') :
    wpList Tryd.prog ops Q ({ dst := dst, op := .call { callee := .builtin .append, args := #[.tmp st, .tmp xt], argTypes := #[27, 27] }, type := T, pos := pos, after := after, guard := none } :: rest) a w := by
  obtain ⟨i, hi, hsz, hby, hz⟩ := info22e
  exact wpList_append_own _ rfl (.tmp st) (.tmp xt) 27 rfl base 22 i _ 1 24 Tryd.underlying27 hi hz hsz hby rfl (by decide) v n xs hs hown ⟨g, 0, none⟩ m c news hx (by omega) (fun j u hu => by rw [Addr.add_mid]; exact hr j u hu) h1 (by unfold maxLen; omega) (by omega) hbase (fun v' w' h1 h2 _ => h v' w' h1 h2)
/-- Each part with nothing ahead and behind. -/
def tripled (ls : List (List Nat)) : List (List Nat) := ls.flatMap fun l => [[], l, []]
theorem tripled_length (ls : List (List Nat)) : (tripled ls).length = 3 * ls.length := by
  induction ls with
  | nil => rfl
  | cons l ls ih => simp only [tripled, List.flatMap_cons, List.length_append] at ih ⊢; simp at ih ⊢; omega
theorem tripled_flatten (ls : List (List Nat)) : (tripled ls).flatten = ls.flatten := by
  induction ls with
  | nil => rfl
  | cons l ls ih => simp only [tripled, List.flatMap_cons, List.flatten_append] at ih ⊢; rw [ih]; simp
theorem tripled_succ (ls : List (List Nat)) (k : Nat) (l : List Nat) (h : ls[k]? = some l) : tripled (ls.take (k + 1)) = tripled (ls.take k) ++ [[], l, []] := by
  rw [List.take_add_one, h]
  simp [tripled]
/-- Values that stand for parts, each in the world w. -/
def Stand (w : World) (vs : List Value) (ls : List (List Nat)) : Prop := vs.length = ls.length ∧ ∀ (i : Nat) (l : List Nat), ls[i]? = some l → ∃ u, vs[i]? = some u ∧ BytesAt w u l
theorem Stand.append {w : World} {vs us : List Value} {ls ms : List (List Nat)} (h : Stand w vs ls) (k : Stand w us ms) : Stand w (vs ++ us) (ls ++ ms) := by
  refine ⟨by rw [List.length_append, List.length_append, h.1, k.1], fun i l hl => ?_⟩
  by_cases hi : i < ls.length
  · rw [List.getElem?_append_left hi] at hl
    rw [List.getElem?_append_left (by rw [h.1]; exact hi)]
    exact h.2 i l hl
  · rw [List.getElem?_append_right (by omega)] at hl
    rw [List.getElem?_append_right (by rw [h.1]; omega), h.1]
    exact k.2 _ l hl
theorem Stand.at {w w' : World} {base : Nat} {v : Value} {vs : List Value} {ls : List (List Nat)} (h : Stand w vs ls) (hb : Below w.heap.size w w') (ho : w'.ownsRow base 22 1 v ls.length vs) : PartsAt w' v ls := by
  obtain ⟨hl, ⟨rfl, h0⟩ | ⟨g, cap, cur, rfl, hg, hh, hn, hm, hc, ht⟩⟩ := ho
  · exact .inl ⟨none, 0, rfl, List.eq_nil_of_length_eq_zero h0⟩
  · refine .inr ⟨g, 0, cap, vs, rfl, by unfold maxLen at hm; omega, fun j u hu => ?_, fun i l hi => ?_⟩
    · rw [cell_of_row _ _ _ _ _ _ hh, Nat.zero_add]
      have hj := (List.getElem?_eq_some_iff.1 hu).1
      rw [h.1] at hj
      rw [← ht, Nat.mul_one, List.getElem?_take_of_lt hj] at hu
      simpa using hu
    · obtain ⟨u, h1, h2⟩ := h.2 i l hi
      exact ⟨u, h1, bytesAt_below h2 hb⟩
def emptyV (x : Value) (y : Value) (l : List Nat) : Nat → Value → World → Prop
  | 0 => IsV y
  | 1 => SumV l
  | 2 => StrV l
  | 3 => IsV x
  | 4 => SumV l
  | 5 => StrV l
  | 6 => IsV (.bool true)
  | 7 => IsV (.bool true)
  | 8 => SumV []
  | 9 => StrV []
  | 10 => RsV []
  | 11 => StrV []
  | 12 => IsV (.bool true)
  | 13 => IsV (.bool true)
  | 14 => IsV (.bool true)
  | 15 => NewV
  | 16 => SumV []
  | 17 => StrV []
  | 18 => PartV (.slice none 0 0)
  | 19 => SumV []
  | 20 => StrV []
  | 21 => IsV (.bool true)
  | 22 => IsV (.bool true)
  | 23 => IsV (.bool true)
  | _ => fun _ _ => True
theorem emptyV_kept (x : Value) (y : Value) (l : List Nat) : ∀ i v w w', emptyV x y l i v w → Below w.heap.size w w' → emptyV x y l i v w'
  | 0, _, _, _, h, _ => h
  | 1, _, _, _, h, hb => SumV.kept h hb
  | 2, _, _, _, h, _ => h
  | 3, _, _, _, h, _ => h
  | 4, _, _, _, h, hb => SumV.kept h hb
  | 5, _, _, _, h, _ => h
  | 6, _, _, _, h, _ => h
  | 7, _, _, _, h, _ => h
  | 8, _, _, _, h, hb => SumV.kept h hb
  | 9, _, _, _, h, _ => h
  | 10, _, _, _, h, hb => RsV.kept h hb
  | 11, _, _, _, h, _ => h
  | 12, _, _, _, h, _ => h
  | 13, _, _, _, h, _ => h
  | 14, _, _, _, h, _ => h
  | 15, _, _, _, h, hb => NewV.kept h hb
  | 16, _, _, _, h, hb => SumV.kept h hb
  | 17, _, _, _, h, _ => h
  | 18, _, _, _, h, hb => PartV.kept h hb
  | 19, _, _, _, h, hb => SumV.kept h hb
  | 20, _, _, _, h, _ => h
  | 21, _, _, _, h, _ => h
  | 22, _, _, _, h, _ => h
  | 23, _, _, _, h, _ => h
  | _ + 24, _, _, _, _, _ => trivial
set_option maxHeartbeats 1000000 in
theorem shaEmpty_any (pp : Option Addr) (cp : Nat) (ls : List (List Nat)) (w : World) (hP : PartsIs w (.slice pp ls.length cp) ls) (hn : ls.length ≤ 20) (hT : Tab w) :
    Calls Tryd.prog 8 #[.slice pp ls.length cp] w fun e w' => e = .returned (.bool true) ∧ Below w.heap.size w w' := by
  have HT : Hid (Tab w) := hT
  have HE : Hid (PartsIs w (.slice pp ls.length cp) ls) := hP
  clear hT hP
  have n1 : ¬ (20 : Int) < (ls.length : Int) := by omega
  go_enter Tryd.func8, Tryd.ntmps8
  go_wp2_with fail
  refine (anchor_any w HT.out).mono ?_
  rintro e w1 ⟨rfl, hb1⟩
  have HB1 : Hid (Below w.heap.size w w1) := hb1
  have hs1 := hb1.size
  clear hb1
  go_wp2_with fail
  go_loopw [3, 13] (fun sl i wr => ∃ k : Nat, k ≤ ls.length ∧ i = .int .i64 k ∧ Hid (∃ vs, wr.ownsRow w1.heap.size 22 1 sl (3 * k) vs ∧ Stand w vs (tripled (ls.take k))) ∧ Hid (Below w.heap.size w wr) ∧ Hid (w1.heap.size ≤ wr.heap.size) ∧ Hid ((ls.take k).flatten.length ≤ 100 * k)) (fun _ i _ => ls.length - (intOf i).toNat)
  case atStart => exact ⟨0, by omega, rfl, ⟨[], own_none _ _ _ _, rfl, fun i l hl => by simp [tripled] at hl⟩, HB1.out, Nat.le_refl _, (by show _ ≤ _; simp)⟩
  case round =>
    clear HB1
    obtain ⟨k, hk, rfl, HV, HB, HW, HF⟩ := hrel
    by_cases hlt : k < ls.length
    · obtain ⟨l, hl⟩ : ∃ l, ls[k]? = some l := ⟨_, List.getElem?_eq_getElem hlt⟩
      obtain ⟨p', c', he, hmx, hcs0⟩ := HE.out
      obtain ⟨b, o, hp', hcells⟩ := hcs0 (by intro h0; rw [h0] at hlt; simp at hlt)
      obtain ⟨rfl, rfl⟩ : pp = p' ∧ cp = c' := by cases he; exact ⟨rfl, rfl⟩
      subst hp'
      obtain ⟨pl, cl, hcell, hlm, hsrc, hby⟩ := hcells k l hl
      have hcell' : wr.cell? ⟨b, o + k, none⟩ = some (.slice pl l.length cl) := by
        rw [HB.out.cell (World.block_lt_of_cell? w _ hcell)]; exact hcell
      have HFL : Hid ((ls.take (k + 1)).flatten = (ls.take k).flatten ++ l) := flatten_take ls k l hl
      have HTR : Hid (tripled (ls.take (k + 1)) = tripled (ls.take k) ++ [[], l, []]) := tripled_succ ls k l hl
      have HBY : Hid (BytesAt w (.slice pl l.length cl) l) := hby
      clear hcell hsrc hby hl hcells he hcs0
      by_cases h100 : 100 < l.length
      · have h100' : (100 : Int) < (l.length : Int) := by omega
        go_wp2_with fail
        go_ret
        exact ⟨rfl, HB.out⟩
      · have h100' : ¬ (100 : Int) < (l.length : Int) := by omega
        obtain ⟨vs, hov, hst⟩ := HV.out
        obtain ⟨q, cq, rfl⟩ := own_slice hov
        have HO : Hid (wr.ownsRow w1.heap.size 22 1 (.slice q (3 * k) cq) (3 * k) vs) := hov
        have HST : Hid (Stand w vs (tripled (ls.take k))) := hst
        clear hov hst HV
        have hsB := HB.out.size
        have hsW := HW.out
        go_wp2_with (first | with_reducible (refine stop_builtin .append ?_))
        refine Stop.go ?_
        have hbA : Below wr.heap.size wr ((wr.alloc (Obj.cells #[] 5)).alloc (Obj.cells #[.slice none 0 0, .slice pl l.length cl, .slice (some ⟨wr.heap.size, 0, none⟩) 0 0] 22)) := ((Below.refl _ _).alloc (Nat.le_refl _) _).alloc (by simp) _
        have hrg : ((wr.alloc (Obj.cells #[] 5)).alloc (Obj.cells #[.slice none 0 0, .slice pl l.length cl, .slice (some ⟨wr.heap.size, 0, none⟩) 0 0] 22)).rangeAt (wr.heap.size + 1) 0 [.slice none 0 0, .slice pl l.length cl, .slice (some ⟨wr.heap.size, 0, none⟩) 0 0] :=
          rangeAt_of_row (by have := heap_alloc_new (wr.alloc (Obj.cells #[] 5)) (Obj.cells #[.slice none 0 0, .slice pl l.length cl, .slice (some ⟨wr.heap.size, 0, none⟩) 0 0] 22); simpa using this)
        with_reducible refine law_append_parts w1.heap.size (.slice q (3 * k) cq) (3 * k) vs (wr.heap.size + 1) 3 3 [.slice none 0 0, .slice pl l.length cl, .slice (some ⟨wr.heap.size, 0, none⟩) 0 0] ?asv ?axv rfl (own_below HO.out hbA) hrg (fun u hu => by simp at hu; rcases hu with rfl | rfl | rfl <;> simp [Value.oneCell']) (by omega) (by simp; omega) ?ak
        case asv => exact rfl
        case axv => exact rfl
        intro v3 w3 hown3 hg3
        have hb3 : Below w.heap.size w w3 := below_grown' (HB.out.trans (hbA.mono hsB)) hg3 (own_below HO.out hbA) (by simp; omega) hs1
        have hs3 : w1.heap.size ≤ w3.heap.size := by have := hg3.size; simp at this; omega
        have hst3 : Stand w [.slice none 0 0, .slice pl l.length cl, .slice (some ⟨wr.heap.size, 0, none⟩) 0 0] [[], l, []] := ⟨rfl, fun i x hx => by
          match i with
          | 0 => simp at hx; subst hx; exact ⟨_, rfl, bytesAt_none _ _ _⟩
          | 1 => simp at hx; subst hx; exact ⟨_, rfl, HBY.out⟩
          | 2 => simp at hx; subst hx; exact ⟨_, rfl, bytesAt_none _ _ _⟩
          | i + 3 => simp at hx⟩
        have HV3 : Hid (∃ vs, w3.ownsRow w1.heap.size 22 1 v3 (3 * (k + 1)) vs ∧ Stand w vs (tripled (ls.take (k + 1)))) := ⟨_, hown3, by rw [HTR.out]; exact HST.out.append hst3⟩
        have HB3 : Hid (Below w.heap.size w w3) := hb3
        have HF3 : Hid ((ls.take (k + 1)).flatten.length ≤ 100 * (k + 1)) := by
          show _ ≤ _
          have := HF.out
          rw [HFL.out, List.length_append]
          omega
        clear hown3 hg3 hb3 hst3 hbA hrg HO HST HB
        go_wp2_with fail
        go_roundw
        case rel => exact ⟨k + 1, by omega, by go_num, HV3.out, HB3.out, hs3, HF3.out⟩
        case measure => simp [intOf]; omega
    · obtain rfl : k = ls.length := by omega
      obtain ⟨vs, hov, hst⟩ := HV.out
      obtain ⟨q, cq, rfl⟩ := own_slice hov
      rw [List.take_of_length_le (Nat.le_refl _)] at hst
      have hfl := HF.out
      rw [List.take_of_length_le (Nat.le_refl _)] at hfl
      have hPA : PartsAt wr (.slice q (3 * ls.length) cq) (tripled ls) := hst.at HB.out (by rw [tripled_length]; exact hov)
      have hT1 := tab_below HT.out HB.out
      have HS1 : Hid (∀ w', Below wr.heap.size wr w' → Calls Tryd.prog 10 #[.slice q (3 * ls.length) cq] w' fun e w2 => ∃ v, e = .returned v ∧ Below w'.heap.size w' w2 ∧ SumV ls.flatten v w2) := fun w' hb => by
        have := sums_step hPA hT1 (by rw [tripled_flatten]; omega) hb
        rw [tripled_flatten] at this
        exact this
      have HS2 : Hid (∀ w', Below wr.heap.size wr w' → Calls Tryd.prog 10 #[.slice pp ls.length cp] w' fun e w2 => ∃ v, e = .returned v ∧ Below w'.heap.size w' w2 ∧ SumV ls.flatten v w2) := fun w' hb =>
        sums_step HE.out.at HT.out (by omega) (HB.out.trans (hb.mono HB.out.size))
      have HS3 : Hid (∀ w', Below wr.heap.size wr w' → Calls Tryd.prog 10 #[.slice none 0 0] w' fun e w2 => ∃ v, e = .returned v ∧ Below w'.heap.size w' w2 ∧ SumV [] v w2) := fun w' hb =>
        sums_step (ls := []) (.inl ⟨none, 0, rfl, rfl⟩) hT1 (by decide) hb
      have HS4 : Hid (∀ w', Below wr.heap.size wr w' → Calls Tryd.prog 11 #[.slice none 0 0] w' fun e w2 => ∃ v, e = .returned v ∧ Below w'.heap.size w' w2 ∧ RsV [] v w2) := fun w' hb =>
        rsum_step (m := []) (p := none) (cp := 0) (.inl ⟨rfl, rfl⟩) (fun x hx => by simp at hx) (by decide) hb
      have HT1 : Hid (Tab wr) := hT1
      clear hov hst HV hfl hPA hT1
      go_wp2_with fail
      have hT1 := HT1.out
      refine wp_region_inv (emptyV (.slice pp ls.length cp) (.slice q (3 * ls.length) cq) ls.flatten) (fun u u' => Below u.heap.size u u') (by kernel_rfl) ((Below.refl _ _).drew) below_trans' (emptyV_kept _ _ _) (by kernel_rfl) ?_ ?_
      · intro i o a' w' hi inv hpre
        have hb : Below wr.heap.size wr w' := inv.grow
        have hlt : i < 24 := (Array.getElem?_eq_some_iff.1 hi).1
        obtain rfl|rfl|rfl|rfl|rfl|rfl|rfl|rfl|rfl|rfl|rfl|rfl|rfl|rfl|rfl|rfl|rfl|rfl|rfl|rfl|rfl|rfl|rfl|rfl : i = 0 ∨ i = 1 ∨ i = 2 ∨ i = 3 ∨ i = 4 ∨ i = 5 ∨ i = 6 ∨ i = 7 ∨ i = 8 ∨ i = 9 ∨ i = 10 ∨ i = 11 ∨ i = 12 ∨ i = 13 ∨ i = 14 ∨ i = 15 ∨ i = 16 ∨ i = 17 ∨ i = 18 ∨ i = 19 ∨ i = 20 ∨ i = 21 ∨ i = 22 ∨ i = 23 := by omega
        · obtain rfl := Option.some.inj hi
          exact st_value _ rfl rfl rfl (Below.refl _ _) (by show a'.tmps.getD 3 undef = _; rw [inv.old 3 (notDst_spec (by kernel_rfl))]; rfl)
        · obtain rfl := Option.some.inj hi
          have h0 : a'.tmps.getD 26 undef = _ := pre_of hpre 0 26 (by kernel_rfl) (by kernel_rfl)
          refine st_call 10 #[a'.tmps.getD 26 undef] rfl rfl (by kernel_rfl) ?_
          rw [h0]
          exact HS1.out _ hb
        · obtain rfl := Option.some.inj hi
          have h0 := pre_of hpre 1 27 (by kernel_rfl) (by kernel_rfl)
          exact st_value _ rfl rfl (conv_run 27 rfl h0) (Below.refl _ _) rfl
        · obtain rfl := Option.some.inj hi
          exact st_value _ rfl rfl rfl (Below.refl _ _) (by show a'.tmps.getD 0 undef = _; rw [inv.old 0 (notDst_spec (by kernel_rfl))]; rfl)
        · obtain rfl := Option.some.inj hi
          have h0 : a'.tmps.getD 29 undef = _ := pre_of hpre 3 29 (by kernel_rfl) (by kernel_rfl)
          refine st_call 10 #[a'.tmps.getD 29 undef] rfl rfl (by kernel_rfl) ?_
          rw [h0]
          exact HS2.out _ hb
        · obtain rfl := Option.some.inj hi
          have h0 := pre_of hpre 4 30 (by kernel_rfl) (by kernel_rfl)
          exact st_value _ rfl rfl (conv_run 30 rfl h0) (Below.refl _ _) rfl
        · obtain rfl := Option.some.inj hi
          have h0 : a'.tmps.getD 28 undef = _ := pre_of hpre 2 28 (by kernel_rfl) (by kernel_rfl)
          have h1 : a'.tmps.getD 31 undef = _ := pre_of hpre 5 31 (by kernel_rfl) (by kernel_rfl)
          exact st_value (.bool true) rfl rfl (eq_run 28 31 rfl h0 h1) (Below.refl _ _) rfl
        · obtain rfl := Option.some.inj hi
          have h0 : a'.tmps.getD 32 undef = _ := pre_of hpre 6 32 (by kernel_rfl) (by kernel_rfl)
          exact st_value _ rfl rfl rfl (Below.refl _ _) h0
        · obtain rfl := Option.some.inj hi
          have hgu : a'.tmps.getD 33 undef = _ := pre_of hpre 7 33 (by kernel_rfl) (by kernel_rfl)
          refine st_call 10 #[.slice none 0 0] rfl (wanted_of 7 33 rfl (by kernel_rfl) hgu) (by kernel_rfl) ?_
          exact HS3.out _ hb
        · obtain rfl := Option.some.inj hi
          have hgu : a'.tmps.getD 33 undef = _ := pre_of hpre 7 33 (by kernel_rfl) (by kernel_rfl)
          have h0 := pre_of hpre 8 34 (by kernel_rfl) (by kernel_rfl)
          exact st_value _ rfl (wanted_of 7 33 rfl (by kernel_rfl) hgu) (conv_run 34 rfl h0) (Below.refl _ _) rfl
        · obtain rfl := Option.some.inj hi
          have hgu : a'.tmps.getD 33 undef = _ := pre_of hpre 7 33 (by kernel_rfl) (by kernel_rfl)
          refine st_call 11 #[.slice none 0 0] rfl (wanted_of 7 33 rfl (by kernel_rfl) hgu) (by kernel_rfl) ?_
          exact HS4.out _ hb
        · obtain rfl := Option.some.inj hi
          have hgu : a'.tmps.getD 33 undef = _ := pre_of hpre 7 33 (by kernel_rfl) (by kernel_rfl)
          have h0 := pre_of hpre 10 36 (by kernel_rfl) (by kernel_rfl)
          exact st_value _ rfl (wanted_of 7 33 rfl (by kernel_rfl) hgu) (rconv_run 36 rfl h0) (Below.refl _ _) rfl
        · obtain rfl := Option.some.inj hi
          have hgu : a'.tmps.getD 33 undef = _ := pre_of hpre 7 33 (by kernel_rfl) (by kernel_rfl)
          have h0 : a'.tmps.getD 35 undef = _ := pre_of hpre 9 35 (by kernel_rfl) (by kernel_rfl)
          have h1 : a'.tmps.getD 37 undef = _ := pre_of hpre 11 37 (by kernel_rfl) (by kernel_rfl)
          exact st_value (.bool true) rfl (wanted_of 7 33 rfl (by kernel_rfl) hgu) (eq_run 35 37 rfl h0 h1) (Below.refl _ _) rfl
        · obtain rfl := Option.some.inj hi
          have h0 : a'.tmps.getD 33 undef = _ := pre_of hpre 7 33 (by kernel_rfl) (by kernel_rfl)
          have h1 : a'.tmps.getD 38 undef = _ := pre_of hpre 12 38 (by kernel_rfl) (by kernel_rfl)
          exact st_value (.bool true) rfl rfl (pick_step h0 h1 rfl) (Below.refl _ _) rfl
        · obtain rfl := Option.some.inj hi
          have h0 : a'.tmps.getD 39 undef = _ := pre_of hpre 13 39 (by kernel_rfl) (by kernel_rfl)
          exact st_value _ rfl rfl rfl (Below.refl _ _) h0
        · obtain rfl := Option.some.inj hi
          have hgu : a'.tmps.getD 40 undef = _ := pre_of hpre 14 40 (by kernel_rfl) (by kernel_rfl)
          refine st_call 12 #[] rfl (wanted_of 14 40 rfl (by kernel_rfl) hgu) (by kernel_rfl) ?_
          exact new_step w'
        · obtain rfl := Option.some.inj hi
          have hgu : a'.tmps.getD 40 undef = _ := pre_of hpre 14 40 (by kernel_rfl) (by kernel_rfl)
          have h0 := pre_of hpre 15 41 (by kernel_rfl) (by kernel_rfl)
          refine st_call 14 #[a'.tmps.getD 41 undef] rfl (wanted_of 14 40 rfl (by kernel_rfl) hgu) (by kernel_rfl) ?_
          exact hnew_step (tab_below hT1 hb) h0
        · obtain rfl := Option.some.inj hi
          have hgu : a'.tmps.getD 40 undef = _ := pre_of hpre 14 40 (by kernel_rfl) (by kernel_rfl)
          have h0 := pre_of hpre 16 42 (by kernel_rfl) (by kernel_rfl)
          exact st_value _ rfl (wanted_of 14 40 rfl (by kernel_rfl) hgu) (conv_run 42 rfl h0) (Below.refl _ _) rfl
        · obtain rfl := Option.some.inj hi
          have hgu : a'.tmps.getD 40 undef = _ := pre_of hpre 14 40 (by kernel_rfl) (by kernel_rfl)
          refine st_value (.slice (some ⟨w'.heap.size, 0, none⟩) 1 1) rfl (wanted_of 14 40 rfl (by kernel_rfl) hgu) (build_nil rfl) ((Below.refl _ _).alloc (Nat.le_refl _) _) ?_
          exact ⟨_, rfl, by rw [cell_of_row _ _ _ _ _ _ (heap_alloc_new w' _)]; rfl⟩
        · obtain rfl := Option.some.inj hi
          have hgu : a'.tmps.getD 40 undef = _ := pre_of hpre 14 40 (by kernel_rfl) (by kernel_rfl)
          have h0 := pre_of hpre 18 44 (by kernel_rfl) (by kernel_rfl)
          refine st_call 10 #[a'.tmps.getD 44 undef] rfl (wanted_of 14 40 rfl (by kernel_rfl) hgu) (by kernel_rfl) ?_
          exact sum1_step (bytesAt_none wr none 0) hT1 (by decide) hb h0
        · obtain rfl := Option.some.inj hi
          have hgu : a'.tmps.getD 40 undef = _ := pre_of hpre 14 40 (by kernel_rfl) (by kernel_rfl)
          have h0 := pre_of hpre 19 45 (by kernel_rfl) (by kernel_rfl)
          exact st_value _ rfl (wanted_of 14 40 rfl (by kernel_rfl) hgu) (conv_run 45 rfl h0) (Below.refl _ _) rfl
        · obtain rfl := Option.some.inj hi
          have hgu : a'.tmps.getD 40 undef = _ := pre_of hpre 14 40 (by kernel_rfl) (by kernel_rfl)
          have h0 : a'.tmps.getD 43 undef = _ := pre_of hpre 17 43 (by kernel_rfl) (by kernel_rfl)
          have h1 : a'.tmps.getD 46 undef = _ := pre_of hpre 20 46 (by kernel_rfl) (by kernel_rfl)
          exact st_value (.bool true) rfl (wanted_of 14 40 rfl (by kernel_rfl) hgu) (eq_run 43 46 rfl h0 h1) (Below.refl _ _) rfl
        · obtain rfl := Option.some.inj hi
          have h0 : a'.tmps.getD 40 undef = _ := pre_of hpre 14 40 (by kernel_rfl) (by kernel_rfl)
          have h1 : a'.tmps.getD 47 undef = _ := pre_of hpre 21 47 (by kernel_rfl) (by kernel_rfl)
          exact st_value (.bool true) rfl rfl (pick_step h0 h1 rfl) (Below.refl _ _) rfl
        · obtain rfl := Option.some.inj hi
          have h0 : a'.tmps.getD 48 undef = _ := pre_of hpre 22 48 (by kernel_rfl) (by kernel_rfl)
          exact st_value _ rfl rfl rfl (Below.refl _ _) h0
      · intro a' w' inv hd
        have h0 : a'.tmps.getD 2 undef = _ := hd 23 2 (by kernel_rfl)
        have hb : Below wr.heap.size wr w' := inv.grow
        have hb7 : Below w.heap.size w w' := HB.out.trans (hb.mono HB.out.size)
        have hdf : a'.defers = [] := inv.defers
        clear inv hd hb
        go_wp2
        exact ⟨hdf, _, results_tmp rfl _ _ _, by rw [h0], hb7⟩
set_option maxHeartbeats 400000 in
theorem shaEmpty_early (p : Option Addr) (n c : Nat) (w : World) (hT : Tab w) (h : 20 < n) (_hn : n ≤ 9223372036854775807) :
    Calls Tryd.prog 8 #[.slice p n c] w fun e w' => e = .returned (.bool true) ∧ Below w.heap.size w w' := by
  have HT : Hid (Tab w) := hT
  clear hT
  have n200 : (20 : Int) < (n : Int) := by omega
  go_enter Tryd.func8, Tryd.ntmps8
  go_wp2_with fail
  refine (anchor_any w HT.out).mono ?_
  rintro e w1 ⟨rfl, hb1⟩
  have HB1 : Hid (Below w.heap.size w w1) := hb1
  clear hb1
  go_wp2_with fail
  go_ret
  exact ⟨rfl, HB1.out⟩
end Go.Proofs.YtnbdadhdpplldaaDoor
