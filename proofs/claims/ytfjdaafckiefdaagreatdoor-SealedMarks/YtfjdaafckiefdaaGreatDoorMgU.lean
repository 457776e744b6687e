/- The contract of the statements' own Entry: an entry as the document has it. -/
import Derived.Test.YtfjdaafckiefdaaGreatDoorMgR
import Derived.Test.YtfjdaafckiefdaaGreatDoorMgE
import Derived.Test.YtfjdaafckiefdaaGreatDoorMgP
namespace Go.Proofs.YtfjdaafckiefdaaGreatDoor.E9
open Go.RowKit C8
/-- Cells that are wraps, two each. -/
def AreS (w : World) : List Value → List (Int × List Nat) → Prop
  | [], [] => True
  | c1 :: c2 :: xs, x :: ws => (c1 = .int .i64 x.1 ∧ (∃ tp tc, c2 = .slice tp x.2.length tc ∧ Src w c2 x.2) ∧ x.2.length ≤ 9223372036854775807) ∧ AreS w xs ws
  | [], _ :: _ => False
  | [_], _ => False
  | _ :: _ :: _, [] => False
section
variable {w w' : World}
theorem AreS.turn (ht : ∀ v t, Src w v t → Src w' v t) : ∀ {xs : List Value} {ws : List (Int × List Nat)}, AreS w xs ws → AreS w' xs ws
  | [], [], _ => trivial
  | _ :: _ :: _, _ :: _, ⟨⟨h1, ⟨tp, tc, h2, h3⟩, h4⟩, h5⟩ => ⟨⟨h1, ⟨tp, tc, h2, ht _ _ h3⟩, h4⟩, AreS.turn ht h5⟩
theorem AreS.snoc : ∀ {xs : List Value} {ws : List (Int × List Nat)}, AreS w xs ws → ∀ {n : Int} {t : List Nat} {tp : Option Addr} {tc : Nat}, Src w (.slice tp t.length tc) t → t.length ≤ 9223372036854775807 → AreS w (xs ++ [.int .i64 n, .slice tp t.length tc]) (ws ++ [(n, t)])
  | [], [], _, _, _, tp, tc, h, hl => ⟨⟨rfl, ⟨tp, tc, rfl, h⟩, hl⟩, trivial⟩
  | _ :: _ :: _, _ :: _, h, _, _, _, _, hT, hl => ⟨h.1, AreS.snoc h.2 hT hl⟩
theorem AreS.at : ∀ {xs : List Value} {ws : List (Int × List Nat)}, AreS w xs ws → ∀ j (hj : j < ws.length), ∃ tp tc, xs[j * 2]? = some (.int .i64 ws[j].1) ∧ xs[j * 2 + 1]? = some (.slice tp ws[j].2.length tc) ∧ Src w (.slice tp ws[j].2.length tc) ws[j].2 ∧ ws[j].2.length ≤ 9223372036854775807
  | [], [], _, j, hj => absurd hj (by simp)
  | _ :: _ :: _, _ :: _, ⟨⟨h1, ⟨tp, tc, h2, h3⟩, h4⟩, _⟩, 0, _ => ⟨tp, tc, by simp [h1], by simp [h2], by subst h2; exact h3, h4⟩
  | _ :: _ :: _, _ :: ws, ⟨_, h5⟩, j + 1, hj => by
    obtain ⟨tp, tc, k1, k2, k3, k4⟩ := AreS.at h5 j (by simpa using hj)
    refine ⟨tp, tc, ?_, ?_, by simpa using k3, by simpa using k4⟩
    · rw [show (j + 1) * 2 = j * 2 + 1 + 1 from by omega]
      simpa using k1
    · rw [show (j + 1) * 2 + 1 = j * 2 + 1 + 1 + 1 from by omega]
      simpa using k2
theorem AreS.row {xs : List Value} {ws : List (Int × List Nat)} {base n c e : Nat} {q : Option Addr} (h : AreS w xs ws) (hown : w.ownsRow base e 2 (.slice q n c) n xs) (hn : ws.length = n) : WrRow w q ws := fun j hj => by
  obtain ⟨tp, tc, k1, k2, k3, k4⟩ := h.at j hj
  obtain ⟨hl, ⟨e, h0⟩ | ⟨g, cap, cur, e, hg, hh, hnc, hm, hc, ht⟩⟩ := hown
  · have hj' := (List.getElem?_eq_some_iff.1 k1).1
    omega
  · cases e
    refine ⟨g, 0, tp, tc, rfl, (Array.getElem?_eq_some_iff.1 hh).1, ?_, ?_, k3, k4⟩
    · rw [cell_of_row _ _ _ _ _ _ hh, Nat.zero_add]
      rw [← ht, List.getElem?_take_of_lt (by omega)] at k1
      simpa using k1
    · rw [cell_of_row _ _ _ _ _ _ hh, Nat.zero_add]
      rw [← ht, List.getElem?_take_of_lt (by omega)] at k2
      simpa using k2
end
theorem law_append_m {ops : Array Oper} {rest : List Oper} {dst : Option Tmp} {T : TypeId} {pos : String} {after : Array Edge} {a : Act} {w : World} {Q : Exit → Act → World → Prop} {so xo : Operand}
    (base : Nat) (v : Value) (n : Nat) (xs : List Value) (g : Nat) (news : List Value) (hs : a.eval so = v) (hx : a.eval xo = .slice (some ⟨g, 0, none⟩) 1 1) (hl : news.length = 2) (hown : w.ownsRow base 107 2 v n xs) (hc : w.rangeAt g 0 news) (hu : ∀ y ∈ news, y.oneCell' = true)
    (hn : n ≤ 1000000) (hbase : base ≤ w.heap.size)
    (h : ∀ v' w', w'.ownsRow base 107 2 v' (n + 1) (xs ++ news) → w.grownBy w' v.ownBlock → wpList Tryz.prog ops Q rest (a.put dst v') w') :
    wpList Tryz.prog ops Q ({ dst := dst, op := .call { callee := .builtin .append, args := #[so, xo], argTypes := #[57, 57] }, type := T, pos := pos, after := after, guard := none } :: rest) a w := by
  obtain ⟨i, hi, hsz, hby, hz⟩ := info47e
  refine wpList_append_own_at _ rfl so xo 57 rfl base 107 i _ 2 32 Tryz.underlying57 hi hz hsz hby rfl (by decide) v n xs hs hown ⟨g, 0, none⟩ 1 1 news hx (by omega) (fun j y hy => ?_) hu (by unfold maxLen; omega) (by omega) hbase (fun v' w' h1 h2 _ _ => h v' w' h1 h2)
  rw [Addr.add_mid]
  exact hc j y hy
theorem range_last (w : World) (l : List Value) (t : TypeId) : (w.alloc (.cells l.toArray t)).rangeAt w.heap.size 0 l :=
  fun j u hu => by rw [cell_of_row _ _ _ _ _ _ (heap_alloc_new w _), Nat.zero_add]; simpa using hu
end Go.Proofs.YtfjdaafckiefdaaGreatDoor.E9
/- The statements' own Entry: where the memory of what it makes lies. -/
namespace Go.Proofs.YtfjdaafckiefdaaGreatDoor.E9
open Go.RowKit C8
set_option maxHeartbeats 4000000 in
theorem made2_any (Wz : World) (a : En) (np : Option Addr) (nc : Nat) (vp : Option Addr) (vc : Nat) (q : Option Addr) (c : Nat) (w : World) (hb0 : Below Wz.heap.size Wz w) (ha : WrRow Wz q a.wraps) (hl : a.wraps.length ≤ 100000) :
    Calls Tryz.prog 24 #[.agg (EnV a np nc vp vc q c)] w fun e w' => ∃ q2 c2 xs, e = .returned (.agg (EnV a np nc vp vc q2 c2)) ∧ w'.ownsRow w.heap.size 107 2 (.slice q2 a.wraps.length c2) a.wraps.length xs ∧ AreS Wz xs a.wraps ∧ Below w.heap.size w w' := by
  have HA : Hid (WrRow Wz q a.wraps) := ha
  have HBW : Hid (Below Wz.heap.size Wz w) := hb0
  clear ha hb0
  obtain ⟨a1, a2, a3, a4, a5, a6, a7, a8, ws⟩ := a
  simp only [EnV] at HA hl ⊢
  obtain ⟨n9, HN⟩ : ∃ n, Hid (ws.length = n) := ⟨_, rfl⟩
  rw [HN.out] at hl ⊢
  obtain ⟨n4, HN4⟩ : ∃ n, Hid (a4.length = n) := ⟨_, rfl⟩
  obtain ⟨n5, HN5⟩ : ∃ n, Hid (a5.length = n) := ⟨_, rfl⟩
  rw [HN4.out, HN5.out]
  have l1 : (n9 : Int) ≤ 100000 := by omega
  have HB0 : Hid (Below w.heap.size w (((w.alloc (.cells #[.int .i64 a1, .int .i64 a2, .int .i64 a3, .slice np n4 nc, .slice vp n5 vc, .int .i64 a6, .int .i64 a7, .int .i64 a8, .slice q n9 c] 49)).alloc (.cells #[.int .i64 0, .int .i64 0, .int .i64 0, .slice none 0 0, .slice none 0 0, .int .i64 0, .int .i64 0, .int .i64 0, .slice none 0 0] 59)).alloc (.cells #[.int .i64 a1, .int .i64 a2, .int .i64 a3, .slice np n4 nc, .slice vp n5 vc, .int .i64 a6, .int .i64 a7, .int .i64 a8, .slice none 0 0] 59))) := bel3 w _ _ _
  have HM0 : Hid ((((w.alloc (.cells #[.int .i64 a1, .int .i64 a2, .int .i64 a3, .slice np n4 nc, .slice vp n5 vc, .int .i64 a6, .int .i64 a7, .int .i64 a8, .slice q n9 c] 49)).alloc (.cells #[.int .i64 0, .int .i64 0, .int .i64 0, .slice none 0 0, .slice none 0 0, .int .i64 0, .int .i64 0, .int .i64 0, .slice none 0 0] 59)).alloc (.cells #[.int .i64 a1, .int .i64 a2, .int .i64 a3, .slice np n4 nc, .slice vp n5 vc, .int .i64 a6, .int .i64 a7, .int .i64 a8, .slice none 0 0] 59)).heap[w.heap.size + 1]? = some (.cells #[.int .i64 0, .int .i64 0, .int .i64 0, .slice none 0 0, .slice none 0 0, .int .i64 0, .int .i64 0, .int .i64 0, .slice none 0 0] 59 (0, 0))) := mid3 w _ _ _
  have HL0 : Hid ((((w.alloc (.cells #[.int .i64 a1, .int .i64 a2, .int .i64 a3, .slice np n4 nc, .slice vp n5 vc, .int .i64 a6, .int .i64 a7, .int .i64 a8, .slice q n9 c] 49)).alloc (.cells #[.int .i64 0, .int .i64 0, .int .i64 0, .slice none 0 0, .slice none 0 0, .int .i64 0, .int .i64 0, .int .i64 0, .slice none 0 0] 59)).alloc (.cells #[.int .i64 a1, .int .i64 a2, .int .i64 a3, .slice np n4 nc, .slice vp n5 vc, .int .i64 a6, .int .i64 a7, .int .i64 a8, .slice none 0 0] 59)).heap[w.heap.size + 2]? = some (.cells #[.int .i64 a1, .int .i64 a2, .int .i64 a3, .slice np n4 nc, .slice vp n5 vc, .int .i64 a6, .int .i64 a7, .int .i64 a8, .slice none 0 0] 59 (0, 0))) := by
    have h := heap_alloc_new ((w.alloc (.cells #[.int .i64 a1, .int .i64 a2, .int .i64 a3, .slice np n4 nc, .slice vp n5 vc, .int .i64 a6, .int .i64 a7, .int .i64 a8, .slice q n9 c] 49)).alloc (.cells #[.int .i64 0, .int .i64 0, .int .i64 0, .slice none 0 0, .slice none 0 0, .int .i64 0, .int .i64 0, .int .i64 0, .slice none 0 0] 59)) (.cells #[.int .i64 a1, .int .i64 a2, .int .i64 a3, .slice np n4 nc, .slice vp n5 vc, .int .i64 a6, .int .i64 a7, .int .i64 a8, .slice none 0 0] 59)
    rw [show ((w.alloc (.cells #[.int .i64 a1, .int .i64 a2, .int .i64 a3, .slice np n4 nc, .slice vp n5 vc, .int .i64 a6, .int .i64 a7, .int .i64 a8, .slice q n9 c] 49)).alloc (.cells #[.int .i64 0, .int .i64 0, .int .i64 0, .slice none 0 0, .slice none 0 0, .int .i64 0, .int .i64 0, .int .i64 0, .slice none 0 0] 59)).heap.size = w.heap.size + 2 from by simp] at h
    exact h
  have HZ0 : Hid ((((w.alloc (.cells #[.int .i64 a1, .int .i64 a2, .int .i64 a3, .slice np n4 nc, .slice vp n5 vc, .int .i64 a6, .int .i64 a7, .int .i64 a8, .slice q n9 c] 49)).alloc (.cells #[.int .i64 0, .int .i64 0, .int .i64 0, .slice none 0 0, .slice none 0 0, .int .i64 0, .int .i64 0, .int .i64 0, .slice none 0 0] 59)).alloc (.cells #[.int .i64 a1, .int .i64 a2, .int .i64 a3, .slice np n4 nc, .slice vp n5 vc, .int .i64 a6, .int .i64 a7, .int .i64 a8, .slice none 0 0] 59)).heap.size = w.heap.size + 3) := by show _ = _; simp
  go_enter Tryz.func24, Tryz.ntmps24
  go_wp2_with fail
  obtain ⟨W0, HW0⟩ : ∃ W0, Hid ((((w.alloc (.cells #[.int .i64 a1, .int .i64 a2, .int .i64 a3, .slice np n4 nc, .slice vp n5 vc, .int .i64 a6, .int .i64 a7, .int .i64 a8, .slice q n9 c] 49)).alloc (.cells #[.int .i64 0, .int .i64 0, .int .i64 0, .slice none 0 0, .slice none 0 0, .int .i64 0, .int .i64 0, .int .i64 0, .slice none 0 0] 59)).alloc (.cells #[.int .i64 a1, .int .i64 a2, .int .i64 a3, .slice np n4 nc, .slice vp n5 vc, .int .i64 a6, .int .i64 a7, .int .i64 a8, .slice none 0 0] 59)) = W0) := ⟨_, rfl⟩
  rw [HW0.out] at HB0 HM0 HL0 HZ0 ⊢
  clear HW0
  go_loopw [26] (fun i wr => ∃ j : Nat, j ≤ n9 ∧ i = .int .i64 j ∧ Hid (Below (w.heap.size + 2) W0 wr) ∧ Hid (∃ sl xs, wr.heap[w.heap.size + 2]? = some (.cells #[.int .i64 a1, .int .i64 a2, .int .i64 a3, .slice np n4 nc, .slice vp n5 vc, .int .i64 a6, .int .i64 a7, .int .i64 a8, sl] 59 (0, 0)) ∧ wr.ownsRow (w.heap.size + 3) 107 2 sl j xs ∧ AreS Wz xs (ws.take j))) (fun i _ => n9 - (intOf i).toNat)
  case atStart => exact ⟨0, by omega, rfl, Below.refl _ _, ⟨_, [], HL0.out, own_none _ _ _ _, trivial⟩⟩
  case round =>
    obtain ⟨j, hj, rfl, HB1, HI⟩ := hrel
    have HB : Hid (Below w.heap.size w wr) := HB0.out.trans (bel_le HB1.out (by omega))
    have HZ : Hid (w.heap.size + 3 ≤ wr.heap.size) := by have := HB1.out.size; rw [HZ0.out] at this; exact this
    obtain ⟨sl, xs, EX, OX, AX⟩ := HI.out
    obtain ⟨sq, sc, rfl⟩ := own_slice OX
    by_cases hlt : j < n9
    · have ja : j < ws.length := by rw [HN.out]; exact hlt
      obtain ⟨b, o, bp, bc, rfl, k2, k3, k4, k5, k6⟩ := HA.out j ja
      have d0 := ((HBW.out.trans (HB.out.mono HBW.out.size)).cell (p := ⟨b, o + j * 2, none⟩) k2).trans k3
      have d1 := ((HBW.out.trans (HB.out.mono HBW.out.size)).cell (p := ⟨b, o + j * 2 + 1, none⟩) k2).trans k4
      have j1 : (j : Int) < (n9 : Int) := by omega
      have j0 : (0 : Int) ≤ (j : Int) := by omega
      have f8 : ∀ ob, (wr.alloc ob).cell? ⟨w.heap.size + 2, 8, none⟩ = some (.slice sq j sc) := fun ob => by
        rw [cell_of_row _ _ _ _ _ _ (((bel_alloc (Nat.le_refl _) ob).block (w.heap.size + 2) (by have := HZ.out; omega)).trans EX)]
        rfl
      have HX1 : Hid (wr.heap[w.heap.size + 2]? = some (.cells #[.int .i64 a1, .int .i64 a2, .int .i64 a3, .slice np n4 nc, .slice vp n5 vc, .int .i64 a6, .int .i64 a7, .int .i64 a8, .slice sq j sc] 59 (0, 0))) := EX
      have HO1 : Hid (wr.ownsRow (w.heap.size + 3) 107 2 (.slice sq j sc) j xs) := OX
      have HT : Hid (AreS Wz (xs ++ [.int .i64 ws[j].1, .slice bp ws[j].2.length bc]) (ws.take (j + 1))) := by
        rw [List.take_succ_eq_append_getElem ja]
        exact AX.snoc k5 k6
      clear k3 k4 k5 k6 EX OX AX HI
      generalize ws[j] = x at *
      obtain ⟨x1, x2⟩ := x
      simp only at d0 d1 HT
      generalize x2.length = xl at *
      clear ja
      go_wp2_with (first | with_reducible (refine stop_builtin .append ?_))
      refine Stop.go ?_
      have hA : ∀ o1 o2, Below wr.heap.size wr ((wr.alloc o1).alloc o2) := fun o1 o2 => (bel_alloc (Nat.le_refl _) o1).trans (bel_alloc (by simp) o2)
      refine law_append_m (w.heap.size + 3) (.slice sq j sc) j xs (wr.heap.size + 1) [.int .i64 x1, .slice bp xl bc] rfl rfl rfl (own_below HO1.out (hA _ _)) ?hr (by simp; exact ⟨rfl, rfl⟩) (by omega) (Nat.le_trans HZ.out (hA _ _).size) ?_
      case hr =>
        have hr0 := range_last (wr.alloc (.cells #[.int .i64 x1, .slice bp xl bc] 100)) [.int .i64 x1, .slice bp xl bc] 107
        rw [show (wr.alloc (.cells #[.int .i64 x1, .slice bp xl bc] 100)).heap.size = wr.heap.size + 1 from by simp] at hr0
        exact hr0
      intro v2 w2 h1 h2
      have hb2 := below_append (own_below HO1.out (hA _ _)) h2 (Nat.le_trans HZ.out (hA _ _).size)
      have hb3 : Below (w.heap.size + 3) wr w2 := (bel_le (hA _ _) HZ.out).trans hb2
      have HX2 : w2.heap[w.heap.size + 2]? = some (.cells #[.int .i64 a1, .int .i64 a2, .int .i64 a3, .slice np n4 nc, .slice vp n5 vc, .int .i64 a6, .int .i64 a7, .int .i64 a8, .slice sq j sc] 59 (0, 0)) := (hb3.block _ (by omega)).trans HX1.out
      have e8 : w2.cell? ⟨w.heap.size + 2, 8, none⟩ = some (.slice sq j sc) := by rw [cell_of_row _ _ _ _ _ _ HX2]; rfl
      have g8 : w2.frozen? ⟨w.heap.size + 2, 8, none⟩ = false := frozen_of_row _ _ _ _ _ HX2
      obtain ⟨q2, c2, rfl⟩ := own_slice h1
      have hs3 : Below (w.heap.size + 2) w2 (w2.setCell ⟨w.heap.size + 2, 8, none⟩ (.slice q2 (j + 1) c2)) := (Below.refl _ _).setCell (p := ⟨w.heap.size + 2, 8, none⟩) (Nat.le_refl _) _
      have hb4 : Below (w.heap.size + 2) wr (w2.setCell ⟨w.heap.size + 2, 8, none⟩ (.slice q2 (j + 1) c2)) := (bel_le hb3 (by omega)).trans hs3
      have hon : Only [w.heap.size + 2] w2 (w2.setCell ⟨w.heap.size + 2, 8, none⟩ (.slice q2 (j + 1) c2)) := Only.setCell _ _ _ (by simp)
      have HB2 : Hid (Below (w.heap.size + 2) W0 (w2.setCell ⟨w.heap.size + 2, 8, none⟩ (.slice q2 (j + 1) c2))) := HB1.out.trans hb4
      have HI2 : Hid (∃ sl xs, (w2.setCell ⟨w.heap.size + 2, 8, none⟩ (.slice q2 (j + 1) c2)).heap[w.heap.size + 2]? = some (.cells #[.int .i64 a1, .int .i64 a2, .int .i64 a3, .slice np n4 nc, .slice vp n5 vc, .int .i64 a6, .int .i64 a7, .int .i64 a8, sl] 59 (0, 0)) ∧ (w2.setCell ⟨w.heap.size + 2, 8, none⟩ (.slice q2 (j + 1) c2)).ownsRow (w.heap.size + 3) 107 2 sl (j + 1) xs ∧ AreS Wz xs (ws.take (j + 1))) :=
        ⟨.slice q2 (j + 1) c2, _, heap_setCell_same _ (w.heap.size + 2) 8 _ 59 _ HX2, own_only h1 hon (own_off h1 (by simp)), HT.out⟩
      clear h1 h2 hA hb2 hb3 hb4 hs3 hon HX2 HO1 HX1 HT f8
      go_wp2_with fail
      refine ⟨⟨j + 1, by omega, by simp, HB2, HI2⟩, ?_⟩
      simp only [intOf]
      omega
    · obtain rfl : j = n9 := by omega
      have j1 : ¬ (j : Int) < (j : Int) := by omega
      rw [List.take_of_length_le (by rw [HN.out]; omega)] at AX
      have HM1 : wr.heap[w.heap.size + 1]? = some (.cells #[.int .i64 0, .int .i64 0, .int .i64 0, .slice none 0 0, .slice none 0 0, .int .i64 0, .int .i64 0, .int .i64 0, .slice none 0 0] 59 (0, 0)) := (HB1.out.block _ (by omega)).trans HM0.out
      have HMH : Hid (wr.heap[w.heap.size + 1]? = some (.cells #[.int .i64 0, .int .i64 0, .int .i64 0, .slice none 0 0, .slice none 0 0, .int .i64 0, .int .i64 0, .int .i64 0, .slice none 0 0] 59 (0, 0))) := HM1
      have x0 : wr.cell? ⟨w.heap.size + 1, 0, none⟩ = some (.int .i64 0) := by rw [cell_of_row _ _ _ _ _ _ HM1]; rfl
      have y0 : wr.frozen? ⟨w.heap.size + 1, 0, none⟩ = false := frozen_of_row _ _ _ _ _ HM1
      have x1 : wr.cell? ⟨w.heap.size + 1, 1, none⟩ = some (.int .i64 0) := by rw [cell_of_row _ _ _ _ _ _ HM1]; rfl
      have y1 : wr.frozen? ⟨w.heap.size + 1, 1, none⟩ = false := frozen_of_row _ _ _ _ _ HM1
      have x2 : wr.cell? ⟨w.heap.size + 1, 2, none⟩ = some (.int .i64 0) := by rw [cell_of_row _ _ _ _ _ _ HM1]; rfl
      have y2 : wr.frozen? ⟨w.heap.size + 1, 2, none⟩ = false := frozen_of_row _ _ _ _ _ HM1
      have x3 : wr.cell? ⟨w.heap.size + 1, 3, none⟩ = some (.slice none 0 0) := by rw [cell_of_row _ _ _ _ _ _ HM1]; rfl
      have y3 : wr.frozen? ⟨w.heap.size + 1, 3, none⟩ = false := frozen_of_row _ _ _ _ _ HM1
      have x4 : wr.cell? ⟨w.heap.size + 1, 4, none⟩ = some (.slice none 0 0) := by rw [cell_of_row _ _ _ _ _ _ HM1]; rfl
      have y4 : wr.frozen? ⟨w.heap.size + 1, 4, none⟩ = false := frozen_of_row _ _ _ _ _ HM1
      have x5 : wr.cell? ⟨w.heap.size + 1, 5, none⟩ = some (.int .i64 0) := by rw [cell_of_row _ _ _ _ _ _ HM1]; rfl
      have y5 : wr.frozen? ⟨w.heap.size + 1, 5, none⟩ = false := frozen_of_row _ _ _ _ _ HM1
      have x6 : wr.cell? ⟨w.heap.size + 1, 6, none⟩ = some (.int .i64 0) := by rw [cell_of_row _ _ _ _ _ _ HM1]; rfl
      have y6 : wr.frozen? ⟨w.heap.size + 1, 6, none⟩ = false := frozen_of_row _ _ _ _ _ HM1
      have x7 : wr.cell? ⟨w.heap.size + 1, 7, none⟩ = some (.int .i64 0) := by rw [cell_of_row _ _ _ _ _ _ HM1]; rfl
      have y7 : wr.frozen? ⟨w.heap.size + 1, 7, none⟩ = false := frozen_of_row _ _ _ _ _ HM1
      have x8 : wr.cell? ⟨w.heap.size + 1, 8, none⟩ = some (.slice none 0 0) := by rw [cell_of_row _ _ _ _ _ _ HM1]; rfl
      have y8 : wr.frozen? ⟨w.heap.size + 1, 8, none⟩ = false := frozen_of_row _ _ _ _ _ HM1
      have e0 : wr.cell? ⟨w.heap.size + 2, 0, none⟩ = some (.int .i64 a1) := by rw [cell_of_row _ _ _ _ _ _ EX]; rfl
      have e1 : wr.cell? ⟨w.heap.size + 2, 1, none⟩ = some (.int .i64 a2) := by rw [cell_of_row _ _ _ _ _ _ EX]; rfl
      have e2 : wr.cell? ⟨w.heap.size + 2, 2, none⟩ = some (.int .i64 a3) := by rw [cell_of_row _ _ _ _ _ _ EX]; rfl
      have e3 : wr.cell? ⟨w.heap.size + 2, 3, none⟩ = some (.slice np n4 nc) := by rw [cell_of_row _ _ _ _ _ _ EX]; rfl
      have e4 : wr.cell? ⟨w.heap.size + 2, 4, none⟩ = some (.slice vp n5 vc) := by rw [cell_of_row _ _ _ _ _ _ EX]; rfl
      have e5 : wr.cell? ⟨w.heap.size + 2, 5, none⟩ = some (.int .i64 a6) := by rw [cell_of_row _ _ _ _ _ _ EX]; rfl
      have e6 : wr.cell? ⟨w.heap.size + 2, 6, none⟩ = some (.int .i64 a7) := by rw [cell_of_row _ _ _ _ _ _ EX]; rfl
      have e7 : wr.cell? ⟨w.heap.size + 2, 7, none⟩ = some (.int .i64 a8) := by rw [cell_of_row _ _ _ _ _ _ EX]; rfl
      have e8 : wr.cell? ⟨w.heap.size + 2, 8, none⟩ = some (.slice sq j sc) := by rw [cell_of_row _ _ _ _ _ _ EX]; rfl
      have HEN : Hid (∀ W, Agree (w.heap.size + 2) wr W → W.ownsRow w.heap.size 107 2 (.slice sq j sc) j xs) := fun W hag => by
        obtain ⟨hl, h1 | ⟨g, cap, cur, e, hg, hh, hr⟩⟩ := OX
        · exact ⟨hl, .inl h1⟩
        · exact ⟨hl, .inr ⟨g, cap, cur, e, by omega, (hag.1 g (by omega) (Array.getElem?_eq_some_iff.1 hh).1).trans hh, hr⟩⟩
      have HAX : Hid (AreS Wz xs ws) := AX
      clear HI AX OX EX HM1
      go_wp2_with fail
      (try simp only [Exit.inBlock, Exit.then])
      refine bodyPost_ret (results_cell_row rfl _ _ (w.heap.size + 1) 59 _ (0, 0) _ rfl (row9 HMH.out _ _ _ _ _ _ _ _ _) Tryz.underlying59 rfl (by kernel_rfl)) rfl ⟨sq, sc, rfl, xs, HEN.out _ ⟨fun k hk hl => ?_, ?_⟩, HAX.out, bel9 HB.out (by omega) _ _ _ _ _ _ _ _ _⟩
      · exact (only9 wr (w.heap.size + 1) _ _ _ _ _ _ _ _ _).block k hl (by simp; omega)
      · exact (only9 wr (w.heap.size + 1) _ _ _ _ _ _ _ _ _).size
/-- An entry made out of what stood in a world: its texts lie there, its wraps in a row of their own. -/
def EnOf (W0 : World) (B : Nat) (w : World) (v : Value) (a : En) : Prop := ∃ np nc vp vc q c xs, v = .agg (EnV a np nc vp vc q c) ∧ Src W0 (.slice np a.name.length nc) a.name ∧ Src W0 (.slice vp a.value.length vc) a.value ∧ w.ownsRow B 107 2 (.slice q a.wraps.length c) a.wraps.length xs ∧ AreS W0 xs a.wraps ∧ a.name.length ≤ 9223372036854775807 ∧ a.value.length ≤ 9223372036854775807 ∧ a.wraps.length ≤ 100000
theorem EnOf.is {W0 w : World} {B : Nat} {v : Value} {a : En} (h : EnOf W0 B w v a) (hb : Below W0.heap.size W0 w) : EnIs w v a := by
  obtain ⟨np, nc, vp, vc, q, c, xs, rfl, h1, h2, h3, h4, h5, h6, h7⟩ := h
  exact ⟨np, nc, vp, vc, q, c, rfl, h1.below hb, h2.below hb, (h4.turn (fun v t h => h.below hb)).row h3 rfl, h5, h6, by omega⟩
theorem EnOf.kx {W0 w w' : World} {B B' : Nat} {ts : List (Option TypeId)} {v : Value} {a : En} (h : EnOf W0 B w v a) (hk : S7.Kx ts B' w w') (h1 : some 107 ∉ ts) : EnOf W0 B w' v a := by
  obtain ⟨np, nc, vp, vc, q, c, xs, rfl, k1, k2, k3, k4⟩ := h
  refine ⟨np, nc, vp, vc, q, c, xs, rfl, k1, k2, ?_, k4⟩
  obtain ⟨hl, h2 | ⟨g, cap, cur, e, hg, hh, hr⟩⟩ := k3
  · exact ⟨hl, .inl h2⟩
  · exact ⟨hl, .inr ⟨g, cap, cur, e, hg, hk.row _ _ hh h1, hr⟩⟩
theorem EnOf.below {W0 w w' : World} {B : Nat} {v : Value} {a : En} (h : EnOf W0 B w v a) (hk : Below w.heap.size w w') : EnOf W0 B w' v a := by
  obtain ⟨np, nc, vp, vc, q, c, xs, rfl, k1, k2, k3, k4⟩ := h
  exact ⟨np, nc, vp, vc, q, c, xs, rfl, k1, k2, own_only k3 (Only.of_below hk []) (fun _ _ e => by simp at e), k4⟩
/-- The statements' own Entry, of an entry that stood in a world. -/
theorem made3_any (W0 : World) (B : Nat) (a : En) (va : Value) (w : World) (hB : B ≤ w.heap.size) (hb0 : Below W0.heap.size W0 w) (ha : EnIs W0 va a) (hl : a.wraps.length ≤ 100000) :
    Calls Tryz.prog 24 #[va] w fun e w' => ∃ v, e = .returned v ∧ EnOf W0 B w' v a ∧ Below w.heap.size w w' := by
  obtain ⟨np, nc, vp, vc, q, c, rfl, h⟩ := ha
  refine (made2_any W0 a np nc vp vc q c w hb0 h.wraps hl).mono ?_
  rintro e w' ⟨q2, c2, xs, rfl, h1, h2, h3⟩
  exact ⟨_, rfl, ⟨np, nc, vp, vc, q2, c2, xs, rfl, h.name, h.value, S7.own_older h1 hB, h2, h.ln, h.lv, hl⟩, h3⟩
end Go.Proofs.YtfjdaafckiefdaaGreatDoor.E9
