/- The contract of the document's schedule. -/
import Derived.Test.YtnbdadhdpplldabDoorRefRoots
import Derived.Deep.RegionLaw
import Derived.Deep.RegionHeldLaw
namespace Go.Proofs.YtnbdadhdpplldabDoor
open Go.RowKit
set_option maxHeartbeats 400000 in
theorem topI (z : Int) (w : World) (h0 : 0 ≤ z) (h1 : z ≤ 9223372036854775807) : Calls Tryd.prog 26 #[.int .i64 z] w fun e w' => e = .returned (.int .i64 (z % 4294967296)) ∧ w' = w := by
  obtain ⟨x, rfl⟩ := Int.eq_ofNat_of_zero_le h0
  refine (top_any x w (by omega)).mono ?_
  rintro e w' ⟨rfl, rfl⟩
  exact ⟨ret_int (by omega), rfl⟩
theorem topN (A B C D n : Nat) (w : World) (hA : A < 4294967296) (hB : B < 4294967296) (hC : C < 4294967296) (hD : D < 4294967296) (hn : ((A : Int) + (B : Int) + (C : Int) + (D : Int)) % 4294967296 = (n : Int)) :
    Calls Tryd.prog 26 #[.int .i64 ((A : Int) + (B : Int) + (C : Int) + (D : Int))] w fun e w' => e = .returned (.int .i64 (n : Nat)) ∧ w' = w := by
  refine (topI _ w (by omega) (by omega)).mono ?_
  rintro e w' ⟨rfl, rfl⟩
  exact ⟨ret_int hn, rfl⟩
theorem cf26 (vs : Array Value) (w : World) : (callFunc 26 vs).run Tryd.prog w = .ok (.enter 26 vs) w := by kernel_rfl
/-- A call of a function, as one step of a region that draws. -/
theorem step_call {P : Program} {ops : Array Oper} {o : Oper} {a : Act} {w : World} {K : Act → World → Prop} {Q : Exit → Act → World → Prop} {E : Prop} (hg : o.guard = none) (f : FuncId) (hcf : ∀ vs w, (callFunc f vs).run P w = .ok (.enter f vs) w) (x : Operand) (ts : Array TypeId)
    (hop : o.op = Op.call { callee := Callee.value (Operand.func f), args := #[x], argTypes := ts }) (v : Value) (hv : a.eval x = v)
    (h : Calls P f #[v] w fun e w' => ∃ v, e = .returned v ∧ K (a.put o.dst v) w') :
    if Region.wanted o (yielded ops a.tmps) = true then Oper.wp P o a w K Q else E := by
  have hw : Region.wanted o (yielded ops a.tmps) = true := by simp [Region.wanted, hg]
  rw [if_pos hw]
  have hr : (execOp a.eval o).run P w = .ok (.enter f #[v]) w := by
    unfold execOp
    simp only [hop]
    have hf : a.eval (.func f) = .func (Fn.func f) #[] #[] := rfl
    generalize a.eval = r at *
    simp [go_sem, hcf, hv, hf]
  unfold Oper.wp
  rw [hr]
  exact h.mono (by rintro e w' ⟨v, rfl, hk⟩; exact hk)
theorem step_append_ints {ops : Array Oper} {o : Oper} {a : Act} {w : World} {K : Act → World → Prop} {Q : Exit → Act → World → Prop} {E : Prop} (hg : o.guard = none) (s x : Operand)
    (hop : o.op = Op.call { callee := Callee.builtin Builtin.append, args := #[s, x], argTypes := #[47, 47] })
    (base : Nat) (v : Value) (n : Nat) (l : List Nat) (g c : Nat) (m : Nat) (news : List Nat) (hs : a.eval s = v) (hx : a.eval x = .slice (some ⟨g, 0, none⟩) m c) (hm : news.length = m) (hown : w.ownsRow base 3 1 v n (ints .i64 l)) (hr : w.rangeAt g 0 (ints .i64 news))
    (hn : n + m ≤ 100000) (hbase : base ≤ w.heap.size)
    (hK : ∀ v' w', Hid (w'.ownsRow base 3 1 v' (n + m) (ints .i64 (l ++ news))) → Hid (w.grownBy w' v.ownBlock) → K (a.put o.dst v') w') :
    if Region.wanted o (yielded ops a.tmps) = true then Oper.wp Tryd.prog o a w K Q else E := by
  have hw : Region.wanted o (yielded ops a.tmps) = true := by simp [Region.wanted, hg]
  rw [if_pos hw]
  obtain ⟨i, hi, hsz, hby, hz⟩ := info3e
  obtain ⟨v', w', hrun, r1, r2, _⟩ := run_append_own (P := Tryd.prog) w base 47 o.type 3 i _ 1 8 Tryd.underlying47 hi hz hsz hby rfl (by decide) v n (ints .i64 l) hown ⟨g, 0, none⟩ m c (ints .i64 news) (by rw [ints_length]; omega) (fun j u hu => by rw [Addr.add_mid]; exact hr j u hu) (fun u hu => by obtain ⟨q, _, rfl⟩ := List.mem_map.1 hu; rfl) (by unfold maxLen; omega) (by omega) hbase
  rw [← ints_append] at r1
  unfold Oper.wp
  simp [execOp, hop, resolve, invoke, builtin, hs, hx, hrun, Result.andThen]
  exact hK v' w' r1 r2
theorem own_cell {w : World} {base : Nat} {v : Value} {k : IntKind} {e n : Nat} {l : List Nat} (h : w.ownsRow base e 1 v n (ints k l)) (hn : 0 < n) : ∃ g c, v = .slice (some ⟨g, 0, none⟩) n c ∧ base ≤ g ∧ g < w.heap.size ∧ w.rangeAt g 0 (ints k l) := by
  obtain ⟨hl, ⟨rfl, h0⟩ | ⟨g, cap, cur, rfl, hg, hh, hn, hm, hc, ht⟩⟩ := h
  · omega
  · refine ⟨g, cap, rfl, hg, (Array.getElem?_eq_some_iff.1 hh).1, fun j u hu => ?_⟩
    rw [cell_of_row _ _ _ _ _ _ hh, Nat.zero_add]
    have hj := (List.getElem?_eq_some_iff.1 hu).1
    rw [← ht, Nat.mul_one, List.getElem?_take_of_lt (by rw [hl] at hj; omega)] at hu
    simpa using hu
set_option maxHeartbeats 1000000 in
theorem sched_any (b : List Nat) (g o c : Nat) (w : World) (hs : ∀ x ∈ b, x < 256) (hr : w.rangeAt g o (ints .u8 b)) (hl : b.length = 64) :
    Calls Tryd.prog 25 #[.slice (some ⟨g, o, none⟩) 64 c] w fun e w' => ∃ v, e = .returned v ∧ w'.ownsRow w.heap.size 3 1 v 64 (ints .i64 (Sp.spread b)) ∧ Below w.heap.size w w' := by
  have HS : Hid (∀ x ∈ b, x < 256) := hs
  have HR : Hid (w.rangeAt g o (ints .u8 b)) := hr
  have HL : Hid (b.length = 64) := hl
  clear hs hr hl
  go_enter Tryd.func25, Tryd.ntmps25
  go_wp2
  go_loopw [3, 4] (fun sl i wr => ∃ (k : Nat), k ≤ 16 ∧ i = .int .i64 k ∧ Hid (wr.ownsRow w.heap.size 3 1 sl k (ints .i64 (Sp.firsts b k))) ∧ Hid (Below w.heap.size w wr)) (fun _ i _ => 16 - (intOf i).toNat)
  case atStart => exact ⟨0, by omega, rfl, own_none _ _ _ _, Below.refl _ _⟩
  case round =>
    obtain ⟨k, hk, rfl, HO, HB⟩ := hrel
    obtain ⟨q, cq, rfl⟩ := own_slice HO.out
    by_cases hlt : k < 16
    · go_wp2_with fail
      have hwd := word_any b g o c (4 * k) wr HS.out (rangeAt_below HB.out HR.out) (by rw [HL.out]; omega) (by rw [HL.out]; decide)
      rw [HL.out, show ((4 * k : Nat) : Int) = 4 * (k : Int) from by omega] at hwd
      refine hwd.mono ?_
      clear hwd
      rintro e w2 ⟨rfl, m, rfl⟩
      go_wp2_with (with_reducible (refine stop_builtin .append ?_))
      refine Stop.go ?_
      have hsz := HB.out.size
      have hrg : ((wr.drewN m).alloc (.cells #[.int .i64 (Sp.word b (4 * k) : Nat)] 3)).rangeAt wr.heap.size 0 (ints .i64 [Sp.word b (4 * k)]) := ints_new (wr.drewN m) [Sp.word b (4 * k)]
      have hbA : Below wr.heap.size wr ((wr.drewN m).alloc (.cells #[.int .i64 (Sp.word b (4 * k) : Nat)] 3)) := (below_drewN (Below.refl _ _) m).alloc (Nat.le_refl _) _
      with_reducible refine law_append_ints w.heap.size (.slice q k cq) k (Sp.firsts b k) wr.heap.size 1 1 [Sp.word b (4 * k)] ?asv ?axv rfl (own_below HO.out hbA) hrg (by omega) (by simp; omega) ?ak
      case asv => exact rfl
      case axv => exact rfl
      intro v3 w3 hown3 hg3
      rw [← Sp.firsts_succ] at hown3
      have hb3 : Below w.heap.size w w3 := below_grown' (HB.out.trans (hbA.mono hsz)) hg3 (own_below HO.out hbA) (by simp; omega) (Nat.le_refl _)
      have HO3 : Hid (w3.ownsRow w.heap.size 3 1 v3 (k + 1) (ints .i64 (Sp.firsts b (k + 1)))) := hown3
      have HB3 : Hid (Below w.heap.size w w3) := hb3
      clear hown3 hg3 hb3 HO HB hrg hbA
      go_wp2
      go_roundw
      case rel => exact ⟨k + 1, by omega, by go_num, HO3.out, HB3.out⟩
      case measure => simp [intOf]; omega
    · obtain rfl : k = 16 := by omega
      go_wp2
      go_loopw [3, 5] (fun sl i wr => ∃ (k : Nat), k ≤ 48 ∧ i = .int .i64 ((k + 16 : Nat) : Int) ∧ Hid (wr.ownsRow w.heap.size 3 1 sl (k + 16) (ints .i64 (Sp.spreadTo b k))) ∧ Hid (Below w.heap.size w wr)) (fun _ i _ => 64 - (intOf i).toNat)
      case atStart => exact ⟨0, by omega, rfl, HO.out, HB.out⟩
      case round =>
        clear HO HB
        obtain ⟨k, hk, rfl, HO, HB⟩ := hrel
        obtain ⟨t, ht⟩ : ∃ t, k + 16 = t := ⟨_, rfl⟩
        rw [ht] at HO
        rw [ht]
        obtain ⟨gl, cl, rfl, hgl, hgl2, hrl⟩ := own_cell HO.out (by omega)
        have hlen := Sp.spreadTo_length b k
        have hsm : ∀ x ∈ Sp.spreadTo b k, x < 4294967296 := Sp.spreadTo_lt HS.out k
        obtain ⟨l, hl⟩ : ∃ l, Sp.spreadTo b k = l := ⟨_, rfl⟩
        have HSU : Hid (Sp.spreadTo b (k + 1) = l ++ [Sp.next l]) := by rw [← hl]; rfl
        have HSL : Hid (Sp.spreadTo b k = l) := hl
        rw [hl] at hlen hsm hrl HO
        have HLL : Hid (l.length = t) := by show _ = _; omega
        have HRL : Hid (wr.rangeAt gl 0 (ints .i64 l)) := hrl
        clear hl hlen hrl
        by_cases hlt : t < 64
        · have c2 := range_cell HRL.out (t - 2) (by rw [HLL.out]; omega)
          have c7 := range_cell HRL.out (t - 7) (by rw [HLL.out]; omega)
          have c15 := range_cell HRL.out (t - 15) (by rw [HLL.out]; omega)
          have c16 := range_cell HRL.out (t - 16) (by rw [HLL.out]; omega)
          rw [Nat.zero_add] at c2 c7 c15 c16
          have x2 : Sp.nth l (t - 2) < 4294967296 := Sp.nth_lt (by decide) hsm _
          have x7 : Sp.nth l (t - 7) < 4294967296 := Sp.nth_lt (by decide) hsm _
          have x15 : Sp.nth l (t - 15) < 4294967296 := Sp.nth_lt (by decide) hsm _
          have x16 : Sp.nth l (t - 16) < 4294967296 := Sp.nth_lt (by decide) hsm _
          have s2 : Sp.shifted (Sp.nth l (t - 2)) 17 19 10 < 4294967296 := Sp.shifted_lt x2
          have s15 : Sp.shifted (Sp.nth l (t - 15)) 7 18 3 < 4294967296 := Sp.shifted_lt x15
          have HNX : Hid ((((Sp.shifted (Sp.nth l (t - 2)) 17 19 10 : Nat) : Int) + (Sp.nth l (t - 7) : Nat) + (Sp.shifted (Sp.nth l (t - 15)) 7 18 3 : Nat) + (Sp.nth l (t - 16) : Nat)) % 4294967296 = (Sp.next l : Nat)) := by
            show _ = _
            have := Sp.nextI l t HLL.out
            rw [IntKind.wrap_u32'] at this
            rw [← this]
            omega
          have e2 : Sp.shifted (Sp.nth l (t - 2)) 17 19 10 = Sp.rotr (Sp.nth l (t - 2)) 17 ^^^ Sp.rotr (Sp.nth l (t - 2)) 19 ^^^ Sp.nth l (t - 2) / 1024 := rfl
          have e15 : Sp.shifted (Sp.nth l (t - 15)) 7 18 3 = Sp.rotr (Sp.nth l (t - 15)) 7 ^^^ Sp.rotr (Sp.nth l (t - 15)) 18 ^^^ Sp.nth l (t - 15) / 8 := rfl
          have HE2 : Hid (Sp.shifted (Sp.nth l (t - 2)) 17 19 10 = Sp.rotr (Sp.nth l (t - 2)) 17 ^^^ Sp.rotr (Sp.nth l (t - 2)) 19 ^^^ Sp.nth l (t - 2) / 1024) := e2
          have HE15 : Hid (Sp.shifted (Sp.nth l (t - 15)) 7 18 3 = Sp.rotr (Sp.nth l (t - 15)) 7 ^^^ Sp.rotr (Sp.nth l (t - 15)) 18 ^^^ Sp.nth l (t - 15) / 8) := e15
          clear e2 e15 hsm
          generalize Sp.shifted (Sp.nth l (t - 2)) 17 19 10 = S2 at *
          generalize Sp.shifted (Sp.nth l (t - 15)) 7 18 3 = S15 at *
          generalize Sp.nth l (t - 2) = X2 at *
          generalize Sp.nth l (t - 7) = X7 at *
          generalize Sp.nth l (t - 15) = X15 at *
          generalize Sp.nth l (t - 16) = X16 at *
          have i2 : (0 : Int) ≤ (t : Int) - 2 := by omega
          have i7 : (0 : Int) ≤ (t : Int) - 7 := by omega
          have i15 : (0 : Int) ≤ (t : Int) - 15 := by omega
          have i16 : (0 : Int) ≤ (t : Int) - 16 := by omega
          have j2 : (t : Int) - 2 < (t : Int) := by omega
          have j7 : (t : Int) - 7 < (t : Int) := by omega
          have j15 : (t : Int) - 15 < (t : Int) := by omega
          have j16 : (t : Int) - 16 < (t : Int) := by omega
          have t2 : ((t : Int) - 2).toNat = t - 2 := by omega
          have t7 : ((t : Int) - 7).toNat = t - 7 := by omega
          have t15 : ((t : Int) - 15).toNat = t - 15 := by omega
          have t16 : ((t : Int) - 16).toNat = t - 16 := by omega
          have v7 : IntKind.i64.wrap ((t : Int) - 7) = (t : Int) - 7 := i64_id _ (by omega)
          have v16 : IntKind.i64.wrap ((t : Int) - 16) = (t : Int) - 16 := i64_id _ (by omega)
          have n1 : IntKind.i64.wrap ((S2 : Int) + (X7 : Int)) = (S2 : Int) + (X7 : Int) := i64_id _ (by omega)
          have n2 : IntKind.i64.wrap ((S2 : Int) + (X7 : Int) + (S15 : Int)) = (S2 : Int) + (X7 : Int) + (S15 : Int) := i64_id _ (by omega)
          have n3 : IntKind.i64.wrap ((S2 : Int) + (X7 : Int) + (S15 : Int) + (X16 : Int)) = (S2 : Int) + (X7 : Int) + (S15 : Int) + (X16 : Int) := i64_id _ (by omega)
          have p7 : (7 : Int) ≤ (t : Int) := by omega
          have p16 : (16 : Int) ≤ (t : Int) := by omega
          have q0 : (t : Int) < 64 := by omega
          have r7 := Sp.rotr_lt (n := 7) x15
          have r18 := Sp.rotr_lt (n := 18) x15
          have r17 := Sp.rotr_lt (n := 17) x2
          have r19 := Sp.rotr_lt (n := 19) x2
          have hS15 : bits BinOp.xor IntKind.i64 (bits BinOp.xor IntKind.i64 ((Sp.rotr X15 7 : Nat) : Int) ((Sp.rotr X15 18 : Nat) : Int)) ((X15 : Int) / 8) = (S15 : Int) := by
            rw [show (X15 : Int) / 8 = ((X15 / 8 : Nat) : Int) from by omega, i64_xor_nat _ _ r7 r18, i64_xor_nat _ _ (Sp.xor_lt r7 r18) (by omega), HE15.out]
          have hS2 : bits BinOp.xor IntKind.i64 (bits BinOp.xor IntKind.i64 ((Sp.rotr X2 17 : Nat) : Int) ((Sp.rotr X2 19 : Nat) : Int)) ((X2 : Int) / 1024) = (S2 : Int) := by
            rw [show (X2 : Int) / 1024 = ((X2 / 1024 : Nat) : Int) from by omega, i64_xor_nat _ _ r17 r19, i64_xor_nat _ _ (Sp.xor_lt r17 r19) (by omega), HE2.out]
          have hT : ∀ w, Calls Tryd.prog 26 #[.int .i64 ((S2 : Int) + (X7 : Int) + (S15 : Int) + (X16 : Int))] w fun e w' => e = .returned (.int .i64 (Sp.next l : Nat)) ∧ w' = w := fun w => topN S2 X7 S15 X16 (Sp.next l) w s2 x7 s15 x16 HNX.out
          have HS15 : Hid (bits BinOp.xor IntKind.i64 (bits BinOp.xor IntKind.i64 ((Sp.rotr X15 7 : Nat) : Int) ((Sp.rotr X15 18 : Nat) : Int)) ((X15 : Int) / 8) = (S15 : Int)) := hS15
          have HS2 : Hid (bits BinOp.xor IntKind.i64 (bits BinOp.xor IntKind.i64 ((Sp.rotr X2 17 : Nat) : Int) ((Sp.rotr X2 19 : Nat) : Int)) ((X2 : Int) / 1024) = (S2 : Int)) := hS2
          have HTOP : Hid (∀ w, Calls Tryd.prog 26 #[.int .i64 ((S2 : Int) + (X7 : Int) + (S15 : Int) + (X16 : Int))] w fun e w' => e = .returned (.int .i64 (Sp.next l : Nat)) ∧ w' = w) := hT
          clear hS15 hS2 hT HNX HE2 HE15 r7 r18 r17 r19
          have hszB := HB.out.size
          go_wp2_with fail
          refine (turn7 X15 wr x15).mono ?_
          rintro e w2 ⟨rfl, m1, rfl⟩
          go_wp2_with fail
          refine (turn18 X15 _ x15).mono ?_
          rintro e w2 ⟨rfl, m2, rfl⟩
          go_wp2_with fail
          rw [HS15.out]
          refine (turn17 X2 _ x2).mono ?_
          rintro e w2 ⟨rfl, m3, rfl⟩
          go_wp2_with fail
          refine (turn19 X2 _ x2).mono ?_
          rintro e w2 ⟨rfl, m4, rfl⟩
          go_wp2_with fail
          rw [HS2.out]
          go_region_law (first | (refine step_append_ints rfl (.tmp 51) (.tmp 68) rfl w.heap.size (.slice (some ⟨gl, 0, none⟩) t cl) t l wr.heap.size 1 1 [Sp.next l] rfl rfl rfl (own_below HO.out ((below_drewN (Below.refl _ _) _).alloc (Nat.le_refl _) _)) (ints_new (wr.drewN _) [Sp.next l]) (by omega) (by simp; omega) ?_; intro v3 w3 HO3 HG3) | (refine step_call rfl 26 cf26 (.tmp 66) #[3] rfl (.int .i64 ((S2 : Int) + (X7 : Int) + (S15 : Int) + (X16 : Int))) rfl ((HTOP.out _).mono ?_); rintro e w' ⟨rfl, rfl⟩; refine ⟨_, rfl, ?_⟩))
          all_goals
            have hb3 : Below w.heap.size w w3 := below_grown' ((below_drewN HB.out _).alloc hszB _) HG3.out (own_below HO.out ((below_drewN (Below.refl _ _) _).alloc (Nat.le_refl _) _)) (by simp; omega) (Nat.le_refl _)
            have HB3 : Hid (Below w.heap.size w w3) := hb3
            clear hb3 HG3
            go_wp2
            go_roundw
            case rel =>
              (repeat apply Exists.intro)
              refine ⟨⟨k + 1, by omega, ?_, ?_, HB3.out⟩, rfl⟩
              · rw [← ht]; go_num
              · rw [HSU.out, show k + 1 + 16 = t + 1 from by omega]; exact HO3.out
            case measure => simp [intOf]; omega
        · obtain rfl : t = 64 := by omega
          obtain rfl : k = 48 := by omega
          go_wp2
          go_ret
          refine ⟨_, rfl, ?_, HB.out⟩
          show wr.ownsRow _ _ _ _ _ (ints .i64 (Sp.spreadTo b 48))
          rw [HSL.out]
          exact HO.out
end Go.Proofs.YtnbdadhdpplldabDoor
