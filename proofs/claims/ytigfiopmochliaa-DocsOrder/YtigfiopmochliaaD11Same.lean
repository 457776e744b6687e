/- The contracts of maps.Equal at this map, and of Same. -/
import Derived.Test.YtigfiopmochliaaD11All
import Derived.Laws.StructEq
import Derived.Maps.Ext
import Derived.Maps.RangeWalk
import Derived.Lib.SlMapEqual
import Derived.Laws.IdiomRangeMap
import Derived.Deep.LoopGhost
import Derived.Deep.RegionWith
namespace Go.Proofs.Ytigfiopmochliaa.D11
open Go.RowKit C8 E9
theorem under68 : Try.prog.underlying 68 = some (.struct (Try.prog.fieldsOf 68)) := by kernel_rfl
theorem fields68' : (Try.prog.fieldsOf 68).toList.map (fun f => (f.name, f.type, f.offset)) = [("text", 9, 0)] := by kernel_rfl
theorem fields68 : ∃ f : Field, (Try.prog.fieldsOf 68).toList = [f] ∧ f.name = "text" ∧ f.type = 9 ∧ f.offset = 0 := by
  have h := fields68'
  match hl : (Try.prog.fieldsOf 68).toList with
  | [] => rw [hl] at h; simp at h
  | [f] =>
    rw [hl] at h
    simp only [List.map_cons, List.map_nil, List.cons.injEq, Prod.mk.injEq, and_true] at h
    obtain ⟨a1, a2, a3⟩ := h
    exact ⟨f, rfl, a1, a2, a3⟩
  | _ :: _ :: _ => rw [hl] at h; simp at h
theorem held68 : Try.prog.stoodInHeld 68 = false := by kernel_rfl
theorem eq68 (a b : ByteArray) (w : World) : (Op.equal 68 (.agg #[.string a]) (.agg #[.string b])).run Try.prog w = .ok (a.toList == b.toList) w := by
  unfold Op.equal Op.maxDepth
  rw [show (10000 : Nat) = 9999 + 1 from rfl]
  obtain ⟨f, hl, f1, f2, f3⟩ := fields68
  rw [run_equalIn_struct w 9999 68 _ _ under68 held68, hl]
  have h9 : Try.prog.underlying 9 = some .string := Try.underlying9
  have e2 : ∀ a b : ByteArray, (Op.equalIn 9999 9 (.string a) (.string b)).run Try.prog w = .ok (a.toList == b.toList) w := fun a b => run_equalIn_string w 9998 9 a b h9
  simp only [Op.eqFields]
  simp [part, isAgg, run_underlying h9, e2, f1, f2, f3]
  by_cases a1 : a.toList = b.toList <;> simp [a1]
theorem neq68 (a b : ByteArray) (w : World) : (binOp .neq 68 (.agg #[.string a]) (.agg #[.string b])).run Try.prog w = .ok (.bool (!(a.toList == b.toList))) w := by
  simp only [binOp]
  simp [eq68, Result.andThen]
theorem grd68 (a b : ByteArray) (w : World) (x y : Operand) : (eqGuard .neq 68 x y (.agg #[.string a]) (.agg #[.string b])).run Try.prog w = .ok () w := by
  simp [eqGuard, go_sem]
/-- Of two collections as long as each other, one whose pairs are all the other one's is the other one. -/
theorem sub_le {L M : Col} (hL : Ok L) (hM : Ok M) (h : ∀ p ∈ L, p ∈ M) : L.length ≤ M.length := by
  induction M generalizing L with
  | nil =>
    cases L with
    | nil => simp
    | cons p r => cases h p (by simp)
  | cons q s ih =>
    cases L with
    | nil => simp
    | cons p r =>
      have hp := List.pairwise_cons.1 hL.2
      have hq := List.pairwise_cons.1 hM.2
      rcases List.mem_cons.1 (h p (by simp)) with e | e
      · have : r.length ≤ s.length := ih hL.tail hM.tail (fun x hx => by
          rcases List.mem_cons.1 (h x (List.mem_cons_of_mem _ hx)) with e2 | e2
          · have := hp.1 x hx
            rw [e2, e] at this
            exact absurd this (lt_irr _)
          · exact e2)
        simp only [List.length_cons]
        omega
      · have hqp := hq.1 p e
        have : (p :: r).length ≤ s.length := ih hL hM.tail (fun x hx => by
          rcases List.mem_cons.1 (h x hx) with e2 | e2
          · rw [e2] at hx
            rcases List.mem_cons.1 hx with e3 | e3
            · rw [e3] at hqp
              exact absurd hqp (lt_irr _)
            · exact absurd (lt_tr (hp.1 q e3) hqp) (lt_irr _)
          · exact e2)
        simp only [List.length_cons] at this ⊢
        omega
theorem sub_eq {L M : Col} (hL : Ok L) (hM : Ok M) (h : ∀ p ∈ L, p ∈ M) (hl : L.length = M.length) : L = M := by
  induction M generalizing L with
  | nil => exact List.eq_nil_of_length_eq_zero hl
  | cons q s ih =>
    cases L with
    | nil => cases hl
    | cons p r =>
      have hp := List.pairwise_cons.1 hL.2
      have hq := List.pairwise_cons.1 hM.2
      have hpq : p = q := by
        rcases List.mem_cons.1 (h p (by simp)) with e | e
        · exact e
        · exfalso
          have hqp := hq.1 p e
          have : (p :: r).length ≤ s.length := sub_le hL hM.tail (fun x hx => by
            rcases List.mem_cons.1 (h x hx) with e2 | e2
            · rw [e2] at hx
              rcases List.mem_cons.1 hx with e3 | e3
              · rw [e3] at hqp
                exact absurd hqp (lt_irr _)
              · exact absurd (lt_tr (hp.1 q e3) hqp) (lt_irr _)
            · exact e2)
          simp only [List.length_cons] at this hl
          omega
      subst hpq
      refine congrArg (p :: ·) (ih hL.tail hM.tail (fun x hx => ?_) (by simpa using hl))
      rcases List.mem_cons.1 (h x (List.mem_cons_of_mem _ hx)) with e2 | e2
      · have := hp.1 x hx
        rw [e2] at this
        exact absurd this (lt_irr _)
      · exact e2
theorem mem_get {L : Col} (h : Ok L) {p : List Nat × List Nat} (hp : p ∈ L) : get p.1 L = some p.2 := by
  obtain ⟨j, hj, rfl⟩ := List.getElem_of_mem hp
  exact get_at h hj
theorem own_look {w : World} {b n : Nat} {L : Col} (h : w.ownsMap Try.prog 9 elV b n (dat L)) (hok : Ok L) {k : List Nat} (hk : ∀ x ∈ k, x < 256) (hl : k.length ≤ maxLen) :
    (Instr.lookup 62 (.map (some b)) (.string (strB k)) true).run Try.prog w = .ok (.tuple #[.agg #[.string (strB ((get k L).getD []))], .bool (get k L).isSome]) w := by
  obtain ⟨v, ps, hrun, hv⟩ := h.look_ok law Try.underlying62 (zero68 w) (zd := .lit (.string (u []))) (zp := []) (elV_mk [] (by simp)) (keyIs k hl)
  rw [hrun, dat_has hok hk]
  rw [dat_at hok hk] at hv
  have e : v = .agg #[.string (strB ((get k L).getD []))] := by
    refine elV_is (ps := ps) ?_
    rw [hv]
    cases get k L <;> rfl
  rw [e]
/-- The entry that has come is one of the collection's pairs. -/
theorem came {L : Col} {w : World} {b n : Nat} {x c : ByteArray} {kl : Lit} {y : DataW Unit × List MemPlace} (h : w.ownsMap Try.prog 9 elV b n (dat L)) (hkey : keyOf Try.prog 9 (.string x) = some kl) (hv : elV (.agg #[.string c]) = some y) (hat : ∀ zd, (dat L).atKey kl zd = y.1) :
    ∃ p ∈ L, kl = .string (u p.1) ∧ x = strB p.1 ∧ c = strB p.2 := by
  obtain ⟨es1, e, hap, hkeys⟩ := h.entries law
  have e1 : ents L = es1 := by unfold dat at e; exact DataW.map.inj e
  subst e1
  have hm := Maps.came_mem hap hkeys hat
  obtain ⟨p, hp, e2⟩ := List.mem_map.1 hm
  simp only [Prod.mk.injEq] at e2
  refine ⟨p, hp, e2.1.symm, ?_, ?_⟩
  · obtain ⟨x', hx', hk', _⟩ := Maps.keyOf_str Try.underlying9 hkey
    rw [← e2.1] at hk'
    simp only [Lit.string.injEq] at hk'
    refine bytes_eq ?_
    have hx2 : (Value.string x) = .string ⟨x'.toArray⟩ := hx'
    simp only [Value.string.injEq] at hx2
    rw [hx2, hk']
  · obtain ⟨s, hs, hz⟩ := elV_inv hv
    simp only [Value.agg.injEq] at hs
    have hs' : c = s := by simpa using hs
    rw [hz] at e2
    have := e2.2
    simp only [DataW.lit.injEq, Lit.string.injEq] at this
    rw [hs']
    exact bytes_eq this.symm
theorem strB_list_eq {a b : List Nat} (ha : ∀ x ∈ a, x < 256) (hb : ∀ x ∈ b, x < 256) : ((strB a).toList == (strB b).toList) = decide (a = b) := strB_beqL ha hb
set_option maxHeartbeats 4000000 in
set_option maxRecDepth 100000 in
theorem Equal_any (w : World) (b1 b2 : Nat) (L M : Col) (h1 : w.ownsMap Try.prog 9 elV b1 L.length (dat L)) (h2 : w.ownsMap Try.prog 9 elV b2 M.length (dat M)) (hL : Ok L) (hM : Ok M) :
    Calls Try.prog 31 #[.map (some b1), .map (some b2)] w fun e w' => e = .returned (.bool (decide (L = M))) ∧ Below w.heap.size w w' := by
  have l1 : ∀ ty, (Builtin.len_ #[62] ty #[.map (some b1)]).run Try.prog w = .ok (.int .i64 L.length) w := fun ty => by rw [h1.len Try.underlying62 ty, dat_size]
  have l2 : ∀ ty, (Builtin.len_ #[62] ty #[.map (some b2)]).run Try.prog w = .ok (.int .i64 M.length) w := fun ty => by rw [h2.len Try.underlying62 ty, dat_size]
  have HL : Hid (Ok L ∧ Ok M) := ⟨hL, hM⟩
  have hb2 := h2.lt
  obtain ⟨rs, HR⟩ : ∃ rs : Bool, Hid (rs = decide (L = M)) := ⟨_, rfl⟩
  rw [← HR.out]
  by_cases hsz : L.length = M.length
  · have HSZ : Hid (L.length = M.length) := hsz
    rw [hsz] at l1
    obtain ⟨m, hm⟩ : ∃ m, m = M.length := ⟨_, rfl⟩
    rw [← hm] at l1 l2
    clear hsz hm hL hM
    go_enter Try.func31, Try.ntmps31
    go_wp2_with (first
      | (at_range; refine wpList_range_own _ rfl _ 62 rfl 9 68 law Try.underlying62 elV b1 L.length _ rfl h1 ?_; intro w0 hrg0 hg0 hs0)
      | go_in)
    go_frame
    go_loopw [18] (fun _ wr => ∃ (left : Lit → Bool) (cnt : Nat), wr.ranges Try.prog 9 elV b1 w.heap.size L.length (dat L) left cnt ∧ wr.ownsMap Try.prog 9 elV b2 M.length (dat M) ∧ w.grownBy wr none ∧ Hid (∀ p ∈ L, left (.string (u p.1)) = false → get p.1 M = some p.2))
      (fun _ wr => wr.rangeLeft b1 w.heap.size)
    case atStart => exact ⟨_, _, hrg0, h2.kept hg0 (by simp), hg0, fun p hp hl => by
        rw [dat_has HL.out.1 (HL.out.1.1 p hp).1, mem_get HL.out.1 hp] at hl
        cases hl⟩
    case round =>
      obtain ⟨left, cnt, hrg, h2r, hgw, G⟩ := hrel
      go_wp2_with (first
        | (at_next; refine wpList_next_ranges _ rfl _ rfl 9 law elV (fun s : ByteArray => Value.string s) (fun s : ByteArray => Value.agg #[.string s]) (fun key kl hk => by obtain ⟨x, hx, _⟩ := Maps.keyOf_str Try.underlying9 hk; exact ⟨_, hx⟩) (fun v z hz => by obtain ⟨s, hs, _⟩ := elV_inv hz; exact ⟨s, hs⟩) b1 w.heap.size L.length _ _ _ rfl hrg ?_ ?_)
        | go_in)
      · intro _ hl0
        go_wp2
        go_ret
        refine ⟨?_, (Below.refl _ w).grown hgw (Nat.le_refl _) (fun j hj => by cases hj)⟩
        have : L = M := sub_eq HL.out.1 HL.out.2 (fun p hp => get_mem (G.out p hp (hl0 _))) HSZ.out
        rw [HR.out, decide_eq_true this]
        rfl
      · intro x c kl yd yp w1 cnt1 hkey hlx hv hat hrg1 hlt hg1 hs1 hen
        obtain ⟨p, hp, rfl, rfl, rfl⟩ := came hrg1.owns hkey hv hat
        have hpk := HL.out.1.1 p hp
        have hgw1 : w.grownBy w1 none := hgw.andThen hg1 (fun j hj => by cases hj; exact Or.inl (Nat.le_refl _))
        have h2w1 := h2r.kept hg1 (fun e => by have := Option.some.inj e; omega)
        have hbl1 := hrg1.owns.lt
        have HG1 : Hid (∀ o1 o2, w.grownBy ((w1.alloc o1).alloc o2) none) := fun o1 o2 => (hgw1.andThen (World.grownBy_alloc w1 o1 none) (fun j hj => by cases hj)).andThen (World.grownBy_alloc _ o2 none) (fun j hj => by cases hj)
        have HW1 : Hid (∀ o1 o2, ((w1.alloc o1).alloc o2).ranges Try.prog 9 elV b1 w.heap.size L.length (dat L) (fun z => left z && !z.sameKey (.string (u p.1))) cnt1) := fun o1 o2 => (hrg1.kept (World.grownBy_alloc w1 o1 none) (by simp) (by simp)).kept (World.grownBy_alloc _ o2 none) (by simp) (by simp)
        have HM1 : Hid (∀ o1 o2, ((w1.alloc o1).alloc o2).ownsMap Try.prog 9 elV b2 M.length (dat M)) := fun o1 o2 => (h2w1.alloc o1).alloc o2
        have hlk := own_look (h2w1.alloc (.cells #[.string (strB p.2)] 68)) HL.out.2 hpk.1 (Nat.le_trans hpk.2.2.1 (by unfold maxLen; omega))
        have HMS : Hid (wr.rangeLeft b1 w.heap.size = cnt ∧ cnt1 < cnt) := ⟨hrg.left_eq, hlt⟩
        clear hs1 hgw1 h2w1 hrg1 hg1 hat hv hkey hlx h2r hgw hrg hlt h1 h2
        cases hgm : get p.1 M with
        | none =>
          have HF : Hid (rs = false) := by
            rw [HR.out]
            refine decide_eq_false (fun e => ?_)
            rw [← e, mem_get HL.out.1 hp] at hgm
            cases hgm
          rw [hgm] at hlk
          simp only [Option.isSome_none, Option.getD_none] at hlk
          clear hgm hpk hp G HR
          generalize strB p.1 = s1 at *
          generalize strB p.2 = s2 at *
          generalize strB [] = s3 at *
          go_wp2
          go_ret
          exact ⟨by rw [HF.out]; rfl, (Below.refl _ w).grown (HG1.out _ _) (Nat.le_refl _) (fun j hj => by cases hj)⟩
        | some v =>
          rw [hgm] at hlk
          simp only [Option.isSome_some, Option.getD_some] at hlk
          have hq : ∀ W, (binOp .neq 68 (.agg #[.string (strB p.2)]) (.agg #[.string (strB v)])).run Try.prog W = .ok (.bool (!decide (p.2 = v))) W := fun W => by
            rw [neq68, strB_beqL hpk.2.1 (HL.out.2.1 _ (get_mem hgm)).2.1]
          have hgd : ∀ W x y, (eqGuard .neq 68 x y (.agg #[.string (strB p.2)]) (.agg #[.string (strB v)])).run Try.prog W = .ok () W := fun W x y => grd68 _ _ W x y
          by_cases he : p.2 = v
          · have HS : Hid (∀ q ∈ L, (left (.string (u q.1)) && !(Lit.string (u q.1)).sameKey (.string (u p.1))) = false → get q.1 M = some q.2) := fun q hq' hl => by
              rw [same_u (HL.out.1.1 q hq').1 hpk.1] at hl
              by_cases e : q.1 = p.1
              · have e2 := mem_get HL.out.1 hq'
                rw [e, mem_get HL.out.1 hp] at e2
                rw [e, hgm, ← he]
                exact e2
              · simp [e] at hl
                exact G.out q hq' hl
            rw [decide_eq_true he] at hq
            clear hgm hpk hp G HR he
            generalize strB p.1 = s1 at *
            generalize strB p.2 = s2 at *
            generalize strB v = s3 at *
            go_wp2
            go_roundw
            case rel => exact ⟨_, cnt1, HW1.out _ _, HM1.out _ _, HG1.out _ _, HS⟩
            case measure => rw [(HW1.out _ _).left_eq, HMS.out.1]; exact HMS.out.2
          · have HF : Hid (rs = false) := by
              rw [HR.out]
              refine decide_eq_false (fun e => ?_)
              rw [← e, mem_get HL.out.1 hp] at hgm
              exact he (Option.some.inj hgm)
            rw [decide_eq_false he] at hq
            clear hgm hpk hp G HR he
            generalize strB p.1 = s1 at *
            generalize strB p.2 = s2 at *
            generalize strB v = s3 at *
            go_wp2
            go_ret
            exact ⟨by rw [HF.out]; rfl, (Below.refl _ w).grown (HG1.out _ _) (Nat.le_refl _) (fun j hj => by cases hj)⟩
  · have hne : ¬ ((L.length : Int) = (M.length : Int)) := fun e => hsz (by exact_mod_cast e)
    have HX : Hid (rs = false) := by rw [HR.out]; exact decide_eq_false (fun e => hsz (by rw [e]))
    clear HR
    generalize L.length = ln at *
    generalize M.length = mn at *
    go_enter Try.func31, Try.ntmps31
    go_wp2
    go_ret
    exact ⟨by rw [HX.out]; rfl, Below.refl _ _⟩
set_option maxHeartbeats 4000000 in
theorem Same_any (w : World) (p b p' b' : Nat) (L M : Col) (h : DcIs w p b L) (h' : DcIs w p' b' M) : Calls Try.prog 24 #[.pointer (some ⟨p, 0, none⟩), .pointer (some ⟨p', 0, none⟩)] w fun e w' => e = .returned (.bool (decide (L = M))) ∧ Below w.heap.size w w' := by
  have hc := h.cell
  have hc' := h'.cell
  have HC : Calls Try.prog 31 #[.map (some b), .map (some b')] w.drew fun e w' => e = .returned (.bool (decide (L = M))) ∧ Below w.heap.size w w' := (Equal_any w.drew b b' L M h.own.drew h'.own.drew h.ok h'.ok).mono (fun e w' hx => ⟨hx.1, (C8.below_drewN 1 w w.heap.size).trans hx.2⟩)
  obtain ⟨rs, HR⟩ : ∃ rs : Bool, Hid (rs = decide (L = M)) := ⟨_, rfl⟩
  rw [← HR.out] at HC ⊢
  clear h h' HR
  go_enter Try.func24, Try.ntmps24
  go_wp2_with fail
  go_region_with (go_at_call 31; refine HC.mono ?_; rintro e w1 ⟨rfl, HB1⟩)
  all_goals go_wp2_with fail
  all_goals go_ret
  all_goals exact ⟨rfl, HB1⟩
end Go.Proofs.Ytigfiopmochliaa.D11
