/- The walk of PolicyRotates. -/
import Derived.Test.YtmlnbbggfjgacaaP10Ro0
import Derived.Laws.CopyOwn
import Derived.Deep.AppendLies
import Derived.Deep.RegionLaw
import Derived.Deep.DrawnRows
namespace Go.Proofs.Ytmlnbbggfjgacaa.P10
open Go.RowKit C8 E9
attribute [local go_sem] Go.wp_at_zero Go.wp_at_succ
theorem info5x : ∃ i, Try.prog.info? 5 = some i ∧ i.size = 1 ∧ i.bytes = 1 ∧ i.zero = some (.int .u8 0) := info_of (by kernel_rfl)
theorem make48 (u : World) : (Instr.makeSlice 35 (.int .i64 48) (.int .i64 48)).run Try.prog u = .ok (.slice (some ⟨u.heap.size, 0, none⟩) 48 48) (u.alloc (.cells z48 5)) := by
  obtain ⟨i, hi, hsz, hby, hz⟩ := info5x
  have hr := run_make (P := Try.prog) u 35 5 i _ Try.underlying35 hi hz .i64 .i64 ((48 : Nat) : Int) ((48 : Nat) : Int) (by omega) (by omega) (by rw [hby]; omega) (by omega)
  simp only [Int.toNat_natCast, hsz, Nat.mul_one] at hr
  have e : (Value.int IntKind.u8 0).cells = #[.int .u8 0] := rfl
  rw [e, made_zeros] at hr
  exact hr
set_option maxHeartbeats 4000000 in
theorem ro_many (w : World) (a1 : Option Addr) (n c1 : Nat) (ep : Int) (a2 : Option Addr) (m c2 : Nat) (hn : n ≤ 9223372036854775807) (hm : m ≤ 9223372036854775807) (h : 8 < n ∨ 10 < m ∨ ep < 1 ∨ 16 < ep) : Calls Try.prog 8 #[.slice a1 n c1, .int .i64 ep, .slice a2 m c2] w fun x w' => x = .returned (.bool true) ∧ Below w.heap.size w w' := by
  have HC9 : ∀ W, W = w → Calls Try.prog 9 #[] W fun x w' => x = .returned (.bool true) ∧ Hid (Below w.heap.size w w') := by rintro W rfl; exact anchor_any W
  by_cases h1 : 8 < n
  · have k1 : (8 : Int) < (n : Int) := by omega
    clear h
    go_enter Try.func8, Try.ntmps8
    go_wp2_with (first | (go_at_call 9; refine (HC9 _ rfl).mono ?_; rintro x w1 ⟨rfl, B1⟩))
    go_ret
    exact ⟨rfl, B1.out⟩
  · have k1 : ¬ (8 : Int) < (n : Int) := by omega
    by_cases h2 : 10 < m
    · have k2 : (10 : Int) < (m : Int) := by omega
      clear h
      go_enter Try.func8, Try.ntmps8
      go_wp2_with (first | (go_at_call 9; refine (HC9 _ rfl).mono ?_; rintro x w1 ⟨rfl, B1⟩))
      go_ret
      exact ⟨rfl, B1.out⟩
    · have k2 : ¬ (10 : Int) < (m : Int) := by omega
      by_cases h3 : ep < 1
      · clear h
        go_enter Try.func8, Try.ntmps8
        go_wp2_with (first | (go_at_call 9; refine (HC9 _ rfl).mono ?_; rintro x w1 ⟨rfl, B1⟩))
        go_ret
        exact ⟨rfl, B1.out⟩
      · have k4 : 16 < ep := by omega
        clear h
        go_enter Try.func8, Try.ntmps8
        go_wp2_with (first | (go_at_call 9; refine (HC9 _ rfl).mono ?_; rintro x w1 ⟨rfl, B1⟩))
        go_ret
        exact ⟨rfl, B1.out⟩
/-- What May tells of a rotate of the founder's. -/
theorem may_rot {p : Pol} {ep : Int} {ws : List (Int × List Nat)} (hp : pright p = true) (h1 : rts p.ms 1 = 7) (he : p.e = 0) : may p ⟨5, 1, 1, [], [], 0, 0, ep, ws⟩ = if right ⟨5, 1, 1, [], [], 0, 0, ep, ws⟩ = true then (if ep = 1 ∧ ws.map (·.1) = rdrs p.ms then 0 else 34) else 10 := by
  unfold may
  by_cases hr : right ⟨5, 1, 1, [], [], 0, 0, ep, ws⟩ = true
  · rw [if_pos ⟨hp, hr⟩, if_pos hr]
    have ha : allows p ⟨5, 1, 1, [], [], 0, 0, ep, ws⟩ = true := by unfold allows; simp [h1]
    rw [if_pos ha]
    unfold fits
    simp only [he]
    by_cases h2 : ep = 1 ∧ ws.map (·.1) = rdrs p.ms
    · rw [if_pos h2, if_neg]
      rintro ⟨_, h3⟩
      rw [decide_eq_true (by omega), decide_eq_true h2.2] at h3
      cases h3
    · rw [if_neg h2, if_pos]
      refine ⟨trivial, ?_⟩
      by_cases h3 : ep = 1
      · rw [decide_eq_false (fun e => h2 ⟨h3, e⟩), Bool.and_false]
      · rw [decide_eq_false (by omega), Bool.false_and]
  · rw [if_neg (fun h => hr h.2), if_neg hr]
set_option maxHeartbeats 16000000 in
set_option maxRecDepth 20000 in
theorem ro_main (w : World) (a1 : Option Addr) (l : List Int) (c1 : Nat) (ep : Int) (a2 : Option Addr) (ws : List Int) (c2 : Nat) (h1 : IntR w a1 l) (h2 : IntR w a2 ws) (hn : l.length ≤ 8) (hm : ws.length ≤ 10) (h16 : 1 ≤ ep ∧ ep ≤ 16) : Calls Try.prog 8 #[.slice a1 l.length c1, .int .i64 ep, .slice a2 ws.length c2] w fun x w' => x = .returned (.bool true) ∧ Below w.heap.size w w' := by
  have HC9 : ∀ W, W = w → Calls Try.prog 9 #[] W fun x w' => x = .returned (.bool true) ∧ Hid (Below w.heap.size w w') := by rintro W rfl; exact anchor_any W
  have HC10 : ∀ W, Hid (Below w.heap.size w W) → Calls Try.prog 10 #[.int .i64 1] W fun x w' => ∃ q c, x = .returned (.tuple #[.agg #[.int .i64 1, .int .i64 0, .slice q 1 c], .int .i64 0]) ∧ Hid (PS w (w'.alloc (.cells #[.int .i64 1, .int .i64 0, .slice q 1 c] 26)) w'.heap.size 1 0 q 1 c (fun x => if 1 = x then 7 else 0)) := fun W hW => (first_own W).mono (by
    rintro x w' ⟨q, c, rfl, k1, k2⟩
    exact ⟨q, c, rfl, PS.start (hW.out.trans (bel_le k2 hW.out.size)) (k1.old (Nat.zero_le _))⟩)
  have HA : Hid (∀ W, Below w.heap.size w W → IntR W a1 l ∧ IntR W a2 ws) := fun W hW => ⟨h1.below hW, h2.below hW⟩
  have HA0 : Hid (IntR w a2 ws) := h2
  clear h1 h2
  obtain ⟨n, HN⟩ : ∃ n, Hid (l.length = n) := ⟨_, rfl⟩
  obtain ⟨m, HM⟩ : ∃ m, Hid (ws.length = m) := ⟨_, rfl⟩
  rw [HN.out] at hn ⊢
  rw [HM.out] at hm ⊢
  have n1 : (n : Int) ≤ 8 := by omega
  have m1 : (m : Int) ≤ 10 := by omega
  have e1' : ¬ ep < 1 := by omega
  have e2' : ¬ 16 < ep := by omega
  have H16 : Hid (1 ≤ ep ∧ ep ≤ 16) := h16
  clear h16
  go_enter Try.func8, Try.ntmps8
  go_wp2_with (first | (go_at_call 9; refine (HC9 _ rfl).mono ?_; rintro x w1 ⟨rfl, B1⟩))
  refine (HC10 _ B1).mono ?_
  rintro x w2 ⟨q0, c0, rfl, G0⟩
  clear HC9 HC10 B1
  go_wp2_with fail
  generalize w2.alloc (.cells #[.int .i64 1, .int .i64 0, .slice q0 1 c0] 26) = W0 at *
  generalize w2.heap.size = b at *
  go_loopw [8, 44] (fun er i wr => ∃ (j : Nat) (q : Option Addr) (nn c : Nat) (R : Int → Int), j ≤ n ∧ i = .int .i64 j ∧ er = .int .i64 0 ∧ Hid (PS w wr b 1 0 q nn c R)) (fun _ i _ => n - (intOf i).toNat)
  case atStart => exact ⟨0, q0, 1, c0, _, by omega, rfl, rfl, G0⟩
  case round =>
    obtain ⟨j, q, nn, c, R, hj, rfl, rfl, GJ⟩ := hrel
    clear G0
    have j0 : (0 : Int) ≤ (j : Int) := by omega
    by_cases hlt : j < n
    · have j1 : (j : Int) < (n : Int) := by omega
      obtain ⟨ba, oa, rfl, k2, k3⟩ := (HA.out wr GJ.out.bel).1 j (by rw [HN.out]; exact hlt)
      generalize hx : l[j]'(by rw [HN.out]; exact hlt) = y at *
      by_cases hy1 : y < 1
      · go_wp2_with fail
        go_ret
        exact ⟨rfl, GJ.out.bel⟩
      · by_cases hy2 : 7 < y
        · go_wp2_with fail
          go_ret
          exact ⟨rfl, GJ.out.bel⟩
        · obtain ⟨g0, g1, g2, -, -, -⟩ := GJ.out.cells
          have H14 : Calls Try.prog 14 #[.agg #[.int .i64 1, .int .i64 0, .slice q nn c], .agg #[.int .i64 3, .int .i64 1, .int .i64 1, .slice none 0 0, .slice none 0 0, .int .i64 ((j : Int) + 2), .int .i64 y, .int .i64 0, .slice none 0 0]] wr fun z w' => ∃ q1 n1 c1', z = .returned (.tuple #[.agg #[.int .i64 1, .int .i64 0, .slice q1 n1 c1'], .int .i64 0]) ∧ Hid (PS w w' b 1 0 q nn c R ∧ Told3 wr.heap.size w' 1 0 q1 n1 c1' (fun z => if z = (j : Int) + 2 then y else R z)) ∧ w'.cell? ⟨b, 0, none⟩ = some (.int .i64 1) ∧ w'.cell? ⟨b, 1, none⟩ = some (.int .i64 0) ∧ w'.cell? ⟨b, 2, none⟩ = some (.slice q nn c) ∧ w'.frozen? ⟨b, 0, none⟩ = false ∧ w'.frozen? ⟨b, 1, none⟩ = false ∧ w'.frozen? ⟨b, 2, none⟩ = false := by
            refine (change_own ⟨3, 1, 1, [], [], (j : Int) + 2, y, 0, []⟩ _ 1 0 q nn c 0 R _ GJ.out.told (en_grant _ _ _ _) (fun p h1 h2 h3 _ _ => may_grant h1 h3 (by omega) (by omega) (by omega) (by omega))).mono ?_
            rintro z w' ⟨e1, q1, n1', c1', rfl, he1, hT, hb⟩
            have he0 : e1 = 0 := by rw [he1]; rfl
            subst he0
            have hg := GJ.out.step hb
            exact ⟨q1, n1', c1', rfl, ⟨hg, by simpa using hT⟩, hg.cells⟩
          go_wp2_with fail
          refine H14.mono ?_
          rintro z w5 ⟨q1, n1', c1', rfl, G5, r0, r1, r2, s0, s1, s2⟩
          have G6 : Hid (PS w (((w5.setCell ⟨b, 0, none⟩ (.int .i64 1)).setCell ⟨b, 1, none⟩ (.int .i64 0)).setCell ⟨b, 2, none⟩ (.slice q1 n1' c1')) b 1 0 q1 n1' c1' (fun z => if z = (j : Int) + 2 then y else R z)) := G5.out.1.put G5.out.2 GJ.out.lt
          clear H14 g0 g1 g2 G5
          go_wp2_with fail
          refine ⟨⟨j + 1, q1, n1', c1', _, by omega, by simp, rfl, G6⟩, ?_⟩
          simp only [intOf]
          omega
    · obtain rfl : j = n := by omega
      have j1 : ¬ (j : Int) < (j : Int) := by omega
      have HPT : Hid (∃ p : Pol, pright p = true ∧ p.e = 0 ∧ rts p.ms 1 = 7 ∧ (∀ W, PS w W b 1 0 q nn c R → PolIs W (.agg #[.int .i64 1, .int .i64 0, .slice q nn c]) p)) := by
        obtain ⟨p, h1, h2, h3, h4, h5⟩ := GJ.out.told.is
        refine ⟨p, h2, h4, by have := (pright_of h2).2.2.2.1; rw [h3] at this; exact this, fun W hW => ?_⟩
        obtain ⟨p2, k1, k2, k3, k4, k5⟩ := hW.told.is
        have e : p2 = p := by
          have em := ms_of (pright_of k2).2.2.1 (pright_of h2).2.2.1 (fun z => by rw [k5, h5])
          obtain ⟨f1, e1, m1⟩ := p
          obtain ⟨f2, e2, m2⟩ := p2
          simp only at em k3 k4 h3 h4
          rw [em, k3, k4, h3, h4]
        rw [← e]
        exact k1
      obtain ⟨p, hpr, hpe, hp1, hPI⟩ := HPT.out
      clear HPT
      obtain ⟨_, _, hmk, _, hnem⟩ := pright_of hpr
      obtain ⟨rd, HRD⟩ : ∃ rd, Hid (rdrs p.ms = rd) := ⟨_, rfl⟩
      obtain ⟨rl, HRL⟩ : ∃ rl, Hid (rd.length = rl) := ⟨_, rfl⟩
      have HRL16 : rl ≤ 16 := by
        rw [← HRL.out, ← HRD.out]
        exact Nat.le_trans (rdrs_le _) (by have := mok_len (by decide) hmk; omega)
      have rl1 : (rl : Int) ≤ 16 := by omega
      have g0 : ∀ o, (wr.alloc o).cell? ⟨b, 0, none⟩ = some (.int .i64 1) := fun o => (GJ.out.step (bel_alloc (Nat.le_refl _) o)).cells.1
      have g1 : ∀ o, (wr.alloc o).cell? ⟨b, 1, none⟩ = some (.int .i64 0) := fun o => (GJ.out.step (bel_alloc (Nat.le_refl _) o)).cells.2.1
      have g2 : ∀ o, (wr.alloc o).cell? ⟨b, 2, none⟩ = some (.slice q nn c) := fun o => (GJ.out.step (bel_alloc (Nat.le_refl _) o)).cells.2.2.1
      have H22 : Calls Try.prog 22 #[.agg #[.int .i64 1, .int .i64 0, .slice q nn c]] (wr.alloc (.cells #[.int .i64 5, .int .i64 1, .int .i64 1, .slice none 0 0, .slice none 0 0, .int .i64 0, .int .i64 0, .int .i64 ep, .slice none 0 0] 38)) fun z w' => ∃ q9 c9, z = .returned (.slice q9 rl c9) ∧ Hid (w'.ownsRow (wr.alloc (.cells #[.int .i64 5, .int .i64 1, .int .i64 1, .slice none 0 0, .slice none 0 0, .int .i64 0, .int .i64 0, .int .i64 ep, .slice none 0 0] 38)).heap.size 3 1 (.slice q9 rl c9) rl (intV rd) ∧ Below (wr.alloc (.cells #[.int .i64 5, .int .i64 1, .int .i64 1, .slice none 0 0, .slice none 0 0, .int .i64 0, .int .i64 0, .int .i64 ep, .slice none 0 0] 38)).heap.size (wr.alloc (.cells #[.int .i64 5, .int .i64 1, .int .i64 1, .slice none 0 0, .slice none 0 0, .int .i64 0, .int .i64 0, .int .i64 ep, .slice none 0 0] 38)) w') := by
        have h := Readers_any p _ (wr.alloc (.cells #[.int .i64 5, .int .i64 1, .int .i64 1, .slice none 0 0, .slice none 0 0, .int .i64 0, .int .i64 0, .int .i64 ep, .slice none 0 0] 38)) (hPI _ (GJ.out.step (bel_alloc (Nat.le_refl _) _))) hmk hnem
        rw [HRD.out, HRL.out] at h
        refine h.mono ?_
        rintro z w' ⟨v, rfl, k1, k2⟩
        obtain ⟨q9, c9, rfl⟩ := own_slice k1
        exact ⟨q9, c9, rfl, k1, k2⟩
      have HPI : Hid (∀ W, PS w W b 1 0 q nn c R → PolIs W (.agg #[.int .i64 1, .int .i64 0, .slice q nn c]) p) := hPI
      have HMAY : Hid (∀ us : List (Int × List Nat), may p ⟨5, 1, 1, [], [], 0, 0, ep, us⟩ = if right ⟨5, 1, 1, [], [], 0, 0, ep, us⟩ = true then (if ep = 1 ∧ us.map (·.1) = rd then 0 else 34) else 10) := fun us => by rw [← HRD.out]; exact may_rot hpr hp1 hpe
      clear hpr hpe hp1 hPI hmk hnem HRD
      go_wp2_with fail
      refine H22.mono ?_
      rintro z w3 ⟨q9, c9, rfl, R3⟩
      have AL : Below wr.heap.size wr (wr.alloc (.cells #[.int .i64 5, .int .i64 1, .int .i64 1, .slice none 0 0, .slice none 0 0, .int .i64 0, .int .i64 0, .int .i64 ep, .slice none 0 0] 38)) := bel_alloc (Nat.le_refl _) _
      have B3 : Hid (Below wr.heap.size wr w3) := AL.trans (bel_le R3.out.2 AL.size)
      have X3 : Hid (w3.heap[wr.heap.size]? = some (.cells #[.int .i64 5, .int .i64 1, .int .i64 1, .slice none 0 0, .slice none 0 0, .int .i64 0, .int .i64 0, .int .i64 ep, .slice none 0 0] 38 (0, 0))) := (R3.out.2.block _ (by simp)).trans (heap_alloc_new wr _)
      have R9 : Hid (w3.ownsRow (wr.heap.size + 1) 3 1 (.slice q9 rl c9) rl (intV rd)) := by have := R3.out.1; rwa [show (wr.alloc (.cells #[.int .i64 5, .int .i64 1, .int .i64 1, .slice none 0 0, .slice none 0 0, .int .i64 0, .int .i64 0, .int .i64 ep, .slice none 0 0] 38)).heap.size = wr.heap.size + 1 from by simp] at this
      have HPS : Hid (∀ W, Below wr.heap.size w3 W → PS w W b 1 0 q nn c R) := fun W hb => GJ.out.step (B3.out.trans hb)
      have L4 : Hid (wr.heap.size < w3.heap.size) := (Array.getElem?_eq_some_iff.1 X3.out).1
      have L3 : Hid (w.heap.size ≤ wr.heap.size ∧ b < wr.heap.size) := ⟨GJ.out.bel.size, GJ.out.lt⟩
      clear H22 AL R3 B3 GJ g0 g1 g2
      generalize wr.heap.size = bx at *
      go_wp2_with fail
      obtain ⟨s0, HS0⟩ : ∃ s0 : Bool, Hid (((m : Int) == (rl : Int)) = s0) := ⟨_, rfl⟩
      rw [HS0.out]
      go_loopw [13, 78] (fun sm i wr => ∃ (j : Nat) (sb : Bool) (qx : Option Addr) (cx : Nat) (xs : List Value), j ≤ m ∧ i = .int .i64 j ∧ sm = .bool sb ∧ Hid (Only [bx] w3 wr ∧ wr.heap[bx]? = some (.cells #[.int .i64 5, .int .i64 1, .int .i64 1, .slice none 0 0, .slice none 0 0, .int .i64 0, .int .i64 0, .int .i64 ep, .slice qx j cx] 38 (0, 0)) ∧ wr.ownsRow w3.heap.size 57 2 (.slice qx j cx) j xs ∧ AreZ wr xs (ws.take j) ∧ sb = decide (m = rl ∧ ws.take j = rd.take j))) (fun _ i _ => m - (intOf i).toNat)
      case atStart => exact ⟨0, s0, none, 0, [], by omega, rfl, rfl, ⟨rfl, rfl, rfl, Nat.le_refl _, fun _ _ _ => rfl⟩, X3.out, own_none _ _ _ _, trivial, by rw [← HS0.out]; by_cases hmr : m = rl <;> simp [hmr]; omega⟩
      case round =>
        obtain ⟨j, sb, qx, cx, xs, hj, rfl, rfl, HJ⟩ := hrel
        clear X3 HS0
        have j0 : (0 : Int) ≤ (j : Int) := by omega
        by_cases hlt : j < m
        · have j1 : (j : Int) < (m : Int) := by omega
          obtain ⟨bb, ob, eA, k4, k5⟩ := HA0.out j (by rw [HM.out]; exact hlt)
          subst eA
          have HOB : Hid (Below bx w3 wr) := HJ.out.1.below (Nat.le_of_lt L4.out) (by simp)
          have d0 : wr.cell? ⟨bb, ob + j, none⟩ = some (.int .i64 (ws[j]'(by rw [HM.out]; exact hlt))) := by
            have hb := (HPS.out wr HOB.out).bel
            exact (hb.cell (p := ⟨bb, ob + j, none⟩) k4).trans k5
          have HTK : Hid (ws.take (j + 1) = ws.take j ++ [ws[j]'(by rw [HM.out]; exact hlt)]) := List.take_succ_eq_append_getElem (by rw [HM.out]; exact hlt)
          have HSB : Hid (∀ hr : j < rd.length, (ws.take (j + 1) = rd.take (j + 1)) = (ws.take j = rd.take j ∧ ws[j]'(by rw [HM.out]; exact hlt) = rd[j])) := fun hr => by
            show _ = _
            rw [List.take_succ_eq_append_getElem (by rw [HM.out]; exact hlt), List.take_succ_eq_append_getElem hr]
            apply propext
            constructor
            · intro h
              have h5 := List.append_inj' h rfl
              exact ⟨h5.1, by simpa using h5.2⟩
            · rintro ⟨h5, h6⟩
              rw [h5, h6]
          clear k5
          generalize hx : ws[j]'(by rw [HM.out]; exact hlt) = x at *
          have hc0 : wr.cell? ⟨bx, 8, none⟩ = some (.slice qx j cx) := by rw [cell_of_row _ _ _ _ _ _ HJ.out.2.1]; rfl
          have fd : wr.frozen? ⟨bx, 8, none⟩ = false := frozen_of_row _ _ _ _ _ HJ.out.2.1
          have nd := World.new_ne wr ⟨bx, 8, none⟩ hc0
          have av : (Value.slice qx j cx).ownBlock ≠ some bx := fun e => by have := (HJ.out.2.2.1.lt bx e).1; have := L4.out; omega
          have ld : bx < wr.heap.size := World.block_lt_of_cell? wr _ hc0
          obtain ⟨i0, hi0, hz1, hz2, hz0⟩ := info57e
          have hmk := make48
          have hca : ∀ c t c' t', ((wr.alloc (.cells c t)).alloc (.cells c' t')).drew.cell? ⟨bx, 8, none⟩ = some (.slice qx j cx) := fun c t c' t' => (((bel_alloc (Nat.le_refl _) (.cells c t) : Below wr.heap.size wr _).trans (bel_alloc (by simp) (.cells c' t'))).cell (p := ⟨bx, 8, none⟩) ld).trans hc0
          have hca1 : ∀ c t, (wr.alloc (.cells c t)).drew.cell? ⟨bx, 8, none⟩ = some (.slice qx j cx) := fun c t => ((bel_alloc (Nat.le_refl _) (.cells c t) : Below wr.heap.size wr _).cell (p := ⟨bx, 8, none⟩) ld).trans hc0
          have fda : ∀ c t c' t', ((wr.alloc (.cells c t)).alloc (.cells c' t')).drew.frozen? ⟨bx, 8, none⟩ = false := fun c t c' t' => (frozen?_alloc_cells (wr.alloc (.cells c t)) c' t' _).trans ((frozen?_alloc_cells wr c t _).trans fd)
          have hB1 : w3.heap.size ≤ wr.heap.size := HJ.out.1.size
          have hm1 : j + 1 ≤ maxLen := by unfold maxLen; omega
          have hm2 : (j + 1) * 32 ≤ 140737488355328 := by omega
          have HOWN : Hid (wr.ownsRow w3.heap.size 57 2 (.slice qx j cx) j xs) := HJ.out.2.2.1
          have HFIN : Hid (∀ gg cap w2, w2.ownsRow w3.heap.size 57 2 (.slice (some ⟨gg, 0, none⟩) (j + 1) cap) (j + 1) (xs ++ [.int .i64 x, .slice (some ⟨wr.heap.size, 0, none⟩) 48 48]) → ((wr.alloc (.cells z48 5)).alloc (.cells #[.int .i64 x, .slice (some ⟨wr.heap.size, 0, none⟩) 48 48] 57)).drew.grownBy w2 (Value.slice qx j cx).ownBlock → Only [bx] w3 (w2.setCell ⟨bx, 8, none⟩ (.slice (some ⟨gg, 0, none⟩) (j + 1) cap)) ∧ (w2.setCell ⟨bx, 8, none⟩ (.slice (some ⟨gg, 0, none⟩) (j + 1) cap)).heap[bx]? = some (.cells #[.int .i64 5, .int .i64 1, .int .i64 1, .slice none 0 0, .slice none 0 0, .int .i64 0, .int .i64 0, .int .i64 ep, .slice (some ⟨gg, 0, none⟩) (j + 1) cap] 38 (0, 0)) ∧ (w2.setCell ⟨bx, 8, none⟩ (.slice (some ⟨gg, 0, none⟩) (j + 1) cap)).ownsRow w3.heap.size 57 2 (.slice (some ⟨gg, 0, none⟩) (j + 1) cap) (j + 1) (xs ++ [.int .i64 x, .slice (some ⟨wr.heap.size, 0, none⟩) 48 48]) ∧ AreZ (w2.setCell ⟨bx, 8, none⟩ (.slice (some ⟨gg, 0, none⟩) (j + 1) cap)) (xs ++ [.int .i64 x, .slice (some ⟨wr.heap.size, 0, none⟩) 48 48]) (ws.take (j + 1))) := by
            intro gg cap w2 ho hg
            have hb : Below wr.heap.size wr ((wr.alloc (.cells z48 5)).alloc (.cells #[.int .i64 x, .slice (some ⟨wr.heap.size, 0, none⟩) 48 48] 57)).drew := ((bel_alloc (Nat.le_refl _) _).trans (bel_alloc (by simp) _)).trans ⟨rfl, rfl, rfl, Nat.le_refl _, fun _ _ => rfl⟩
            have hrow : ∀ g, (Value.slice qx j cx).ownBlock = some g → w3.heap.size ≤ g ∧ ∃ cur, wr.heap[g]? = some (.cells cur 57 (0, 0)) := fun g hg' => by
              refine ⟨(HOWN.out.lt g hg').1, ?_⟩
              obtain ⟨_, ⟨e, _⟩ | ⟨g', cap', cur, e, _, hh, _⟩⟩ := HOWN.out
              · cases e; cases hg'
              · cases e; cases hg'; exact ⟨cur, hh⟩
            have hk : ∀ k, k < wr.heap.size → (∀ g, (Value.slice qx j cx).ownBlock = some g → k ≠ g) → w2.heap[k]? = wr.heap[k]? := fun k hk hne => (hg.block k (Nat.lt_of_lt_of_le hk hb.size) (fun e => hne k e.symm rfl)).trans (hb.block k hk)
            have hxb : w2.heap[bx]? = some (.cells #[.int .i64 5, .int .i64 1, .int .i64 1, .slice none 0 0, .slice none 0 0, .int .i64 0, .int .i64 0, .int .i64 ep, .slice qx j cx] 38 (0, 0)) := (hk bx ld (fun g hg' e => av (by rw [hg', e]))).trans HJ.out.2.1
            have on5 : Only [bx] w2 (w2.setCell ⟨bx, 8, none⟩ (.slice (some ⟨gg, 0, none⟩) (j + 1) cap)) := Only.setCell _ _ _ (by simp)
            have hbox : ((wr.alloc (.cells z48 5)).alloc (.cells #[.int .i64 x, .slice (some ⟨wr.heap.size, 0, none⟩) 48 48] 57)).drew.heap[wr.heap.size]? = some (.cells z48 5 (0, 0)) := heap_alloc2_old wr _ _
            have hbx2 : w2.heap[wr.heap.size]? = some (.cells z48 5 (0, 0)) := (hg.block _ (Array.getElem?_eq_some_iff.1 hbox).1 (fun e => by have := (HOWN.out.lt wr.heap.size e.symm).2; omega)).trans hbox
            have hk5 : K5 wr (w2.setCell ⟨bx, 8, none⟩ (.slice (some ⟨gg, 0, none⟩) (j + 1) cap)) := fun g C fr h5 => by
              have hgl := (Array.getElem?_eq_some_iff.1 h5).1
              have hgb : g ≠ bx := fun e => by rw [e, HJ.out.2.1] at h5; cases h5
              have h6 := (hk g hgl (fun g' hg' e => by obtain ⟨_, cur, hcur⟩ := hrow g' hg'; rw [← e, h5] at hcur; cases hcur)).trans h5
              exact (on5.block g (Array.getElem?_eq_some_iff.1 h6).1 (by simpa using hgb)).trans h6
            refine ⟨?_, heap_setCell_same _ bx 8 _ 38 _ hxb, own_only ho on5 (own_off ho (by have := L4.out; simp; omega)), ?_⟩
            · refine ⟨on5.os.trans (hg.os.trans (hb.os.trans HJ.out.1.os)), on5.tape.trans (hg.tape.trans (hb.tape.trans HJ.out.1.tape)), on5.output.trans (hg.output.trans (hb.output.trans HJ.out.1.output)), Nat.le_trans HJ.out.1.size (Nat.le_trans hb.size (Nat.le_trans hg.size on5.size)), fun k hkl hn => ?_⟩
              have hk' : k < wr.heap.size := Nat.lt_of_lt_of_le hkl hB1
              have h7 := hk k hk' (fun g hg' e => by have := (hrow g hg').1; omega)
              exact (on5.block k (Nat.lt_of_lt_of_le hk' (Nat.le_trans hb.size hg.size)) hn).trans (h7.trans (HJ.out.1.block k hkl hn))
            · rw [HTK.out]
              exact (HJ.out.2.2.2.1.turn hk5).snoc ((on5.block _ (Array.getElem?_eq_some_iff.1 hbx2).1 (by simp; omega)).trans hbx2)
          have HSB0 : Hid (sb = decide (m = rl ∧ ws.take j = rd.take j)) := HJ.out.2.2.2.2
          clear HJ HOB HTK
          go_wp2_with fail
          go_region_law ((refine step_append_lies _ (by rfl) _ _ _ (by rfl) w3.heap.size 57 i0 _ 2 32 Try.underlying36 hi0 hz0 hz1 hz2 rfl (by omega) (.slice qx j cx) j xs (by rfl) (((HOWN.out.alloc _).alloc _).drew) ⟨wr.heap.size + 1, 0, none⟩ 1 1 [.int .i64 x, .slice (some ⟨wr.heap.size, 0, none⟩) 48 48] (by rfl) (by rfl) (World.news_of_block (cs := #[.int .i64 x, .slice (some ⟨wr.heap.size, 0, none⟩) 48 48]) (t := 57) (fr := (0, 0)) (heap_alloc2_new wr _ _)) (by simp [Value.oneCell']) (by omega) hm1 hm2 (by simp; omega) (wr.heap.size + 2) (by simp) ?_; intro gg cap w2 hown2 hgrow hat hlt2; have hc2 : w2.cell? ⟨bx, 8, none⟩ = some (.slice qx j cx) := (hgrow.cell_far _ (by simp; omega) (Ne.symm av)).trans (hca _ _ _ _); have hf2 : w2.frozen? ⟨bx, 8, none⟩ = false := (hgrow.frozen_far _ (by simp; omega) (Ne.symm av)).trans (fda _ _ _ _)))
          all_goals
            have HZ := HFIN.out _ _ _ hown2 hgrow
            have HZ1 : Hid (Only [bx] w3 (w2.setCell ⟨bx, 8, none⟩ (.slice (some ⟨gg, 0, none⟩) (j + 1) cap)) ∧ (w2.setCell ⟨bx, 8, none⟩ (.slice (some ⟨gg, 0, none⟩) (j + 1) cap)).heap[bx]? = some (.cells #[.int .i64 5, .int .i64 1, .int .i64 1, .slice none 0 0, .slice none 0 0, .int .i64 0, .int .i64 0, .int .i64 ep, .slice (some ⟨gg, 0, none⟩) (j + 1) cap] 38 (0, 0)) ∧ (w2.setCell ⟨bx, 8, none⟩ (.slice (some ⟨gg, 0, none⟩) (j + 1) cap)).ownsRow w3.heap.size 57 2 (.slice (some ⟨gg, 0, none⟩) (j + 1) cap) (j + 1) (xs ++ [.int .i64 x, .slice (some ⟨wr.heap.size, 0, none⟩) 48 48]) ∧ AreZ (w2.setCell ⟨bx, 8, none⟩ (.slice (some ⟨gg, 0, none⟩) (j + 1) cap)) (xs ++ [.int .i64 x, .slice (some ⟨wr.heap.size, 0, none⟩) 48 48]) (ws.take (j + 1))) := HZ
            clear HZ hown2 hgrow HFIN hat fda hca hca1 hmk hc2 hf2
            cases sb with
            | false =>
              have HNF : Hid (false = decide (m = rl ∧ ws.take (j + 1) = rd.take (j + 1))) := by
                show _ = _
                symm
                apply decide_eq_false
                rintro ⟨e1, e2⟩
                have h3 := HSB0.out
                have hjr : j < rd.length := by rw [HRL.out]; omega
                rw [HSB.out hjr] at e2
                rw [decide_eq_true ⟨e1, e2.1⟩] at h3
                cases h3
              go_wp2_with fail
              refine ⟨⟨j + 1, false, some ⟨gg, 0, none⟩, cap, _, by omega, by simp, rfl, HZ1.out.1, HZ1.out.2.1, HZ1.out.2.2.1, HZ1.out.2.2.2, HNF.out⟩, ?_⟩
              simp only [intOf]
              omega
            | true =>
              have hmr : m = rl ∧ ws.take j = rd.take j := by have := HSB0.out; simpa using this
              have hjr : j < rd.length := by rw [HRL.out]; omega
              have j9 : (j : Int) < (rl : Int) := by omega
              obtain ⟨b9, o9, e9, _, c9'⟩ := (IntR.own (l := rd) (by rw [HRL.out]; exact own_only R9.out HZ1.out.1 (own_off R9.out (by simp)))) j hjr
              subst e9
              have HNF : Hid ((rd[j] == x) = decide (m = rl ∧ ws.take (j + 1) = rd.take (j + 1))) := by
                show _ = _
                have h4 := HSB.out hjr
                by_cases hxe : x = rd[j]
                · rw [decide_eq_true ⟨hmr.1, by rw [h4]; exact ⟨hmr.2, hxe⟩⟩]; simp [hxe]
                · rw [decide_eq_false (fun h => hxe (by have := h.2; rw [h4] at this; exact this.2))]; exact beq_eq_false_iff_ne.2 (fun e => hxe e.symm)
              generalize rd[j] = z at *
              clear HSB
              go_wp2_with fail
              refine ⟨⟨j + 1, (z == x), some ⟨gg, 0, none⟩, cap, _, by omega, by simp, rfl, HZ1.out.1, HZ1.out.2.1, HZ1.out.2.2.1, HZ1.out.2.2.2, HNF.out⟩, ?_⟩
              simp only [intOf]
              omega
        · obtain rfl : j = m := by omega
          have j1 : ¬ (j : Int) < (j : Int) := by omega
          have HOB : Hid (Below bx w3 wr) := HJ.out.1.below (Nat.le_of_lt L4.out) (by simp)
          have HPW : Hid (PolIs wr (.agg #[.int .i64 1, .int .i64 0, .slice q nn c]) p ∧ Below w.heap.size w wr) := ⟨HPI.out wr (HPS.out wr HOB.out), (HPS.out wr HOB.out).bel⟩
          obtain ⟨g0, g1, g2, -, -, -⟩ := (HPS.out wr HOB.out).cells
          have HBX : Hid (∀ W, Below wr.heap.size wr W → W.cell? ⟨bx, 0, none⟩ = some (.int .i64 5) ∧ W.cell? ⟨bx, 1, none⟩ = some (.int .i64 1) ∧ W.cell? ⟨bx, 2, none⟩ = some (.int .i64 1) ∧ W.cell? ⟨bx, 3, none⟩ = some (.slice none 0 0) ∧ W.cell? ⟨bx, 4, none⟩ = some (.slice none 0 0) ∧ W.cell? ⟨bx, 5, none⟩ = some (.int .i64 0) ∧ W.cell? ⟨bx, 6, none⟩ = some (.int .i64 0) ∧ W.cell? ⟨bx, 7, none⟩ = some (.int .i64 ep) ∧ W.cell? ⟨bx, 8, none⟩ = some (.slice qx j cx)) := fun W hb => by
            have k1 := (hb.block _ (Array.getElem?_eq_some_iff.1 HJ.out.2.1).1).trans HJ.out.2.1
            refine ⟨?_, ?_, ?_, ?_, ?_, ?_, ?_, ?_, ?_⟩
            all_goals (rw [cell_of_row _ _ _ _ _ _ k1]; rfl)
          have hws : ws.take j = ws := List.take_of_length_le (by rw [HM.out]; omega)
          have HEN : Hid (EnIs wr (.agg #[.int .i64 5, .int .i64 1, .int .i64 1, .slice none 0 0, .slice none 0 0, .int .i64 0, .int .i64 0, .int .i64 ep, .slice qx j cx]) ⟨5, 1, 1, [], [], 0, 0, ep, zws ws⟩) := by
            have hz : (zws ws).length = j := by unfold zws; rw [List.length_map, HM.out]
            have hA4 := HJ.out.2.2.2.1
            rw [hws] at hA4
            exact ⟨none, 0, none, 0, qx, cx, by simp only [EnV, hz]; rfl, Src.nil _, Src.nil _, hA4.row HJ.out.2.2.1 HM.out, by simp, by simp, by simp only [hz]; omega⟩
          have hsb : sb = decide (ws = rd) := by
            have h1 := HJ.out.2.2.2.2
            rw [hws] at h1
            rw [h1, decide_eq_decide]
            constructor
            · rintro ⟨e1, e2⟩
              rw [e2, List.take_of_length_le (by rw [HRL.out]; omega)]
            · intro e
              have hl : j = rl := by rw [← HM.out, ← HRL.out, e]
              exact ⟨hl, by rw [List.take_of_length_le (by rw [HRL.out]; omega)]; exact e⟩
          have HMY := HMAY.out (zws ws)
          rw [zws_fst] at HMY
          obtain ⟨f0, f1, f2, f3, f4, f5, f6, f7, f8⟩ := HBX.out wr (Below.refl _ _)
          clear HJ HOB HPI HPS HMAY hws R9 HA HA0
          cases hR : right ⟨5, 1, 1, [], [], 0, 0, ep, zws ws⟩ with
          | false =>
            rw [hR, if_neg (by simp)] at HMY
            have H14 : Calls Try.prog 14 #[.agg #[.int .i64 1, .int .i64 0, .slice q nn c], .agg #[.int .i64 5, .int .i64 1, .int .i64 1, .slice none 0 0, .slice none 0 0, .int .i64 0, .int .i64 0, .int .i64 ep, .slice qx j cx]] wr fun z w' => z = .returned (.tuple #[.agg #[.int .i64 0, .int .i64 0, .slice none 0 0], .int .i64 10]) ∧ Hid (Below wr.heap.size wr w') := Apply_no p _ _ _ wr HPW.out.1 HEN.out 10 HMY (by decide)
            have H23 : ∀ W, Hid (Below wr.heap.size wr W) → Calls Try.prog 23 #[.agg #[.int .i64 5, .int .i64 1, .int .i64 1, .slice none 0 0, .slice none 0 0, .int .i64 0, .int .i64 0, .int .i64 ep, .slice qx j cx]] W fun z w' => z = .returned (.bool false) ∧ Hid (Below wr.heap.size wr w') := fun W hW => by
              have h := Right_any _ _ W (HEN.out.below hW.out)
              rw [hR] at h
              exact h.mono (by rintro z w' ⟨rfl, hb⟩; exact ⟨rfl, hW.out.trans (bel_le hb hW.out.size)⟩)
            clear hR HMY hsb
            go_wp2_with fail
            refine H14.mono ?_
            rintro z w5 ⟨rfl, B5⟩
            have B6 : Hid (Below wr.heap.size wr (w5.alloc (.cells #[.int .i64 0, .int .i64 0, .slice none 0 0] 26))) := B5.out.trans (bel_alloc B5.out.size _)
            clear f0 f1 f2 f3 f4 f5 f6 f7 f8
            obtain ⟨f0, f1, f2, f3, f4, f5, f6, f7, f8⟩ := HBX.out _ B6.out
            go_wp2_with fail
            refine (H23 _ B6).mono ?_
            rintro z w7 ⟨rfl, B7⟩
            go_wp2_with fail
            go_ret
            exact ⟨rfl, HPW.out.2.trans (bel_le B7.out HPW.out.2.size)⟩
          | true =>
            rw [hR, if_pos rfl] at HMY
            have HRR : Hid (right ⟨5, 1, 1, [], [], 0, 0, ep, zws ws⟩ = true) := hR
            have H23 : ∀ W, Hid (Below wr.heap.size wr W) → Calls Try.prog 23 #[.agg #[.int .i64 5, .int .i64 1, .int .i64 1, .slice none 0 0, .slice none 0 0, .int .i64 0, .int .i64 0, .int .i64 ep, .slice qx j cx]] W fun z w' => z = .returned (.bool true) ∧ Hid (Below wr.heap.size wr w') := fun W hW => by
              have h := Right_any _ _ W (HEN.out.below hW.out)
              rw [hR] at h
              exact h.mono (by rintro z w' ⟨rfl, hb⟩; exact ⟨rfl, hW.out.trans (bel_le hb hW.out.size)⟩)
            by_cases hc : ep = 1 ∧ ws = rd
            · rw [if_pos hc] at HMY
              obtain rfl : sb = true := by rw [hsb, decide_eq_true hc.2]
              have hep := hc.1
              subst hep
              have H14 : Calls Try.prog 14 #[.agg #[.int .i64 1, .int .i64 0, .slice q nn c], .agg #[.int .i64 5, .int .i64 1, .int .i64 1, .slice none 0 0, .slice none 0 0, .int .i64 0, .int .i64 0, .int .i64 1, .slice qx j cx]] wr fun z w' => ∃ pf1 q1 n1 c1', z = .returned (.tuple #[.agg #[.int .i64 pf1, .int .i64 1, .slice q1 n1 c1'], .int .i64 0]) ∧ Hid (Below wr.heap.size wr w') := (Apply_yes p _ _ _ wr HPW.out.1 HEN.out HMY).mono (by
                rintro z w' ⟨hb, p', q', c', rfl, ho, ha⟩
                have h3 := (ap_after HMY ha).2.2.1
                rw [if_pos rfl] at h3
                have h3' : p'.e = 1 := h3
                exact ⟨p'.f, q', p'.ms.length, c', by rw [← h3']; rfl, hb⟩)
              clear hR HMY hsb hc
              go_wp2_with fail
              refine H14.mono ?_
              rintro z w5 ⟨pf1, q1, n1', c1', rfl, B5⟩
              have B6 : Hid (∀ o, Below wr.heap.size wr (w5.alloc o)) := fun o => B5.out.trans (bel_alloc B5.out.size o)
              have R6 : Hid ((w5.alloc (.cells #[.int .i64 pf1, .int .i64 1, .slice q1 n1' c1'] 26)).heap[w5.heap.size]? = some (.cells #[.int .i64 pf1, .int .i64 1, .slice q1 n1' c1'] 26 (0, 0))) := heap_alloc_new w5 _
              have H23' : Calls Try.prog 23 #[.agg #[.int .i64 5, .int .i64 1, .int .i64 1, .slice none 0 0, .slice none 0 0, .int .i64 0, .int .i64 0, .int .i64 1, .slice qx j cx]] (w5.alloc (.cells #[.int .i64 pf1, .int .i64 1, .slice q1 n1' c1'] 26)) fun z w' => z = .returned (.bool true) ∧ Hid (Below wr.heap.size wr w') ∧ w'.cell? ⟨w5.heap.size, 1, none⟩ = some (.int .i64 1) := by
                have h := Right_any _ _ (w5.alloc (.cells #[.int .i64 pf1, .int .i64 1, .slice q1 n1' c1'] 26)) (HEN.out.below (B6.out _))
                rw [HRR.out] at h
                refine h.mono ?_
                rintro z w' ⟨rfl, hb⟩
                refine ⟨rfl, (B6.out _).trans (bel_le hb (B6.out _).size), ?_⟩
                rw [cell_of_row _ _ _ _ _ _ ((hb.block _ (Array.getElem?_eq_some_iff.1 R6.out).1).trans R6.out)]
                rfl
              clear f0 f1 f2 f3 f4 f5 f6 f7 f8 H23
              obtain ⟨f0, f1, f2, f3, f4, f5, f6, f7, f8⟩ := HBX.out _ (B6.out (.cells #[.int .i64 pf1, .int .i64 1, .slice q1 n1' c1'] 26))
              go_wp2_with fail
              refine H23'.mono ?_
              rintro z w7 ⟨rfl, B7, u1⟩
              go_wp2_with fail
              go_ret
              exact ⟨rfl, HPW.out.2.trans (bel_le B7.out HPW.out.2.size)⟩
            · rw [if_neg hc] at HMY
              have H14 : Calls Try.prog 14 #[.agg #[.int .i64 1, .int .i64 0, .slice q nn c], .agg #[.int .i64 5, .int .i64 1, .int .i64 1, .slice none 0 0, .slice none 0 0, .int .i64 0, .int .i64 0, .int .i64 ep, .slice qx j cx]] wr fun z w' => z = .returned (.tuple #[.agg #[.int .i64 0, .int .i64 0, .slice none 0 0], .int .i64 34]) ∧ Hid (Below wr.heap.size wr w') := Apply_no p _ _ _ wr HPW.out.1 HEN.out 34 HMY (by decide)
              have hone : sb = false ∨ (sb = true ∧ (ep != 1) = true) := by
                cases sb with
                | false => exact .inl rfl
                | true =>
                  refine .inr ⟨rfl, ?_⟩
                  have : ws = rd := by simpa using hsb
                  simpa using fun e => hc ⟨e, this⟩
              clear hR HMY hsb hc
              go_wp2_with fail
              refine H14.mono ?_
              rintro z w5 ⟨rfl, B5⟩
              have B6 : Hid (Below wr.heap.size wr (w5.alloc (.cells #[.int .i64 0, .int .i64 0, .slice none 0 0] 26))) := B5.out.trans (bel_alloc B5.out.size _)
              have R6 : Hid ((w5.alloc (.cells #[.int .i64 0, .int .i64 0, .slice none 0 0] 26)).heap[w5.heap.size]? = some (.cells #[.int .i64 0, .int .i64 0, .slice none 0 0] 26 (0, 0))) := heap_alloc_new w5 _
              have H23' : Calls Try.prog 23 #[.agg #[.int .i64 5, .int .i64 1, .int .i64 1, .slice none 0 0, .slice none 0 0, .int .i64 0, .int .i64 0, .int .i64 ep, .slice qx j cx]] (w5.alloc (.cells #[.int .i64 0, .int .i64 0, .slice none 0 0] 26)) fun z w' => z = .returned (.bool true) ∧ Hid (Below wr.heap.size wr w') ∧ w'.cell? ⟨w5.heap.size, 1, none⟩ = some (.int .i64 0) := by
                have h := Right_any _ _ (w5.alloc (.cells #[.int .i64 0, .int .i64 0, .slice none 0 0] 26)) (HEN.out.below B6.out)
                rw [HRR.out] at h
                refine h.mono ?_
                rintro z w' ⟨rfl, hb⟩
                refine ⟨rfl, B6.out.trans (bel_le hb B6.out.size), ?_⟩
                rw [cell_of_row _ _ _ _ _ _ ((hb.block _ (Array.getElem?_eq_some_iff.1 R6.out).1).trans R6.out)]
                rfl
              clear f0 f1 f2 f3 f4 f5 f6 f7 f8 H23
              obtain ⟨f0, f1, f2, f3, f4, f5, f6, f7, f8⟩ := HBX.out _ B6.out
              go_wp2_with fail
              refine H23'.mono ?_
              rintro z w7 ⟨rfl, B7, u1⟩
              rcases hone with rfl | ⟨rfl, hone⟩
              · go_wp2_with fail
                go_ret
                exact ⟨rfl, HPW.out.2.trans (bel_le B7.out HPW.out.2.size)⟩
              · go_wp2_with fail
                go_ret
                exact ⟨rfl, HPW.out.2.trans (bel_le B7.out HPW.out.2.size)⟩
end Go.Proofs.Ytmlnbbggfjgacaa.P10
