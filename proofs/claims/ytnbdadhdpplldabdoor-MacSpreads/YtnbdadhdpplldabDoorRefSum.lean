/- The contract of the document's Sum. -/
import Derived.Test.YtnbdadhdpplldabDoorRefSched
import Derived.Test.YtnbdadhdpplldabDoorConv
namespace Go.Proofs.YtnbdadhdpplldabDoor
open Go.RowKit
theorem srcIs_new (w : World) (l : List Nat) : SrcIs (w.alloc (.cells (arr .u8 l) 5)) (.slice (some ⟨w.heap.size, 0, none⟩) l.length l.length) l :=
  .inr ⟨⟨w.heap.size, 0, none⟩, l.length, rfl, fun j u hu => by rw [Addr.add_mid]; exact rangeAt_of_row (heap_alloc_new w _) j u hu⟩
namespace Sp
theorem be8_small (c : Nat) (h : c < 4294967296) : be8To c 8 = [0, 0, 0, 0] ++ [c / 16777216 % 256, c / 65536 % 256, c / 256 % 256, c % 256] := by
  have e : be8To c 8 = [c / 2 ^ 56 % 256, c / 2 ^ 48 % 256, c / 2 ^ 40 % 256, c / 2 ^ 32 % 256, c / 2 ^ 24 % 256, c / 2 ^ 16 % 256, c / 2 ^ 8 % 256, c / 2 ^ 0 % 256] := rfl
  have a1 : c / 2 ^ 56 % 256 = 0 := by omega
  have a2 : c / 2 ^ 48 % 256 = 0 := by omega
  have a3 : c / 2 ^ 40 % 256 = 0 := by omega
  have a4 : c / 2 ^ 32 % 256 = 0 := by omega
  rw [e, a1, a2, a3, a4]
  simp
theorem pad_list (m : List Nat) (hm : m.length * 8 < 4294967296) : m ++ [128] ++ List.replicate (marked m.length - 1) 0 ++ [0, 0, 0, 0] ++ [m.length * 8 / 16777216 % 256, m.length * 8 / 65536 % 256, m.length * 8 / 256 % 256, m.length * 8 % 256] = m ++ ending m.length := by
  unfold ending endingTo
  rw [be8_small _ hm]
  simp
end Sp
theorem own_cell2 {w : World} {base : Nat} {v : Value} {k : IntKind} {e n : Nat} {l : List Nat} (h : w.ownsRow base e 1 v n (ints k l)) (hn : 0 < n) : ∃ g c, v = .slice (some ⟨g, 0, none⟩) n c ∧ n ≤ c ∧ base ≤ g ∧ g < w.heap.size ∧ w.rangeAt g 0 (ints k l) := by
  obtain ⟨g, c, rfl, h1, h2, h3⟩ := own_cell h hn
  obtain ⟨_, ⟨h0, _⟩ | ⟨g', cap, cur, hv, hg, hh, hn, _⟩⟩ := h
  · cases h0
  · cases hv
    exact ⟨g, c, rfl, hn, h1, h2, h3⟩
theorem range_grown {w w' : World} {g o : Nat} {vs : List Value} {r : Nat} (h : w.rangeAt g o vs) (hg : w.grownBy w' (some r)) (hne : g ≠ r) : w'.rangeAt g o vs := fun j v hv => by
  have h1 := h j v hv
  have h2 := World.block_lt_of_cell? w _ h1
  rw [← h1]
  unfold World.cell?
  rw [hg.block g h2 (by intro e; exact hne (Option.some.inj e))]
theorem range_sub {w : World} {g : Nat} {k : IntKind} {l : List Nat} (h : w.rangeAt g 0 (ints k l)) (o n : Nat) : w.rangeAt g o (ints k ((l.drop o).take n)) := fun j v hv => by
  have := h (o + j) v
  rw [Nat.zero_add] at this
  apply this
  rw [← hv]
  have hj := (List.getElem?_eq_some_iff.1 hv).1
  simp [ints] at hj
  simp [ints, List.getElem?_take_of_lt (show j < n by omega), List.getElem?_drop]
theorem quiet_more2 {P : Program} {f : FuncId} {args : Array Value} {w : World} {m n : Nat} {v : Value}
    (h : Calls P f args (w.drewN (m + n)) fun e w' => e = .returned v ∧ ∃ k, w' = (w.drewN (m + n)).drewN k) : Calls P f args (w.drewN (m + n)) fun e w'' => e = .returned v ∧ ∃ k, w'' = w.drewN (m + k) :=
  h.mono fun _ _ ⟨he, k, hk⟩ => ⟨he, n + k, by rw [hk, World.drewN_drewN, Nat.add_assoc]⟩
theorem topQ (z : Int) (n : Nat) (w : World) (h0 : 0 ≤ z) (h1 : z ≤ 9223372036854775807) (hn : z % 4294967296 = (n : Int)) : Calls Tryd.prog 26 #[.int .i64 z] w fun e w' => e = .returned (.int .i64 (n : Nat)) ∧ w' = w := by
  refine (topI z w h0 h1).mono ?_
  rintro e w' ⟨rfl, rfl⟩
  exact ⟨ret_int hn, rfl⟩
theorem top5 (A B C D E n : Nat) (w : World) (hA : A < 4294967296) (hB : B < 4294967296) (hC : C < 4294967296) (hD : D < 4294967296) (hE : E < 4294967296) (hn : ((A : Int) + (B : Int) + (C : Int) + (D : Int) + (E : Int)) % 4294967296 = (n : Int)) :
    Calls Tryd.prog 26 #[.int .i64 ((A : Int) + (B : Int) + (C : Int) + (D : Int) + (E : Int))] w fun e w' => e = .returned (.int .i64 (n : Nat)) ∧ w' = w := topQ _ n w (by omega) (by omega) hn
theorem top2 (A B n : Nat) (w : World) (hA : A < 4294967296) (hB : B < 4294967296) (hn : ((A : Int) + (B : Int)) % 4294967296 = (n : Int)) :
    Calls Tryd.prog 26 #[.int .i64 ((A : Int) + (B : Int))] w fun e w' => e = .returned (.int .i64 (n : Nat)) ∧ w' = w := topQ _ n w (by omega) (by omega) hn
theorem top2' (A B : Nat) (w : World) (hA : A < 4294967296) (hB : B < 4294967296) :
    Calls Tryd.prog 26 #[.int .i64 ((A : Int) + (B : Int))] w fun e w' => e = .returned (.int .i64 ((A + B) % 4294967296 : Nat)) ∧ w' = w := top2 A B _ w hA hB (by omega)
theorem wrap2 {A B : Nat} (hA : A < 4294967296) (hB : B < 4294967296) : IntKind.i64.wrap ((A : Int) + (B : Int)) = (A : Int) + (B : Int) := i64_id _ (by omega)
theorem cell_alloc_g {w : World} {g i : Nat} {o : Obj} (h : g < w.heap.size) : (w.alloc o).cell? ⟨g, i, none⟩ = w.cell? ⟨g, i, none⟩ := ((Below.refl w.heap.size w).alloc (Nat.le_refl _) o).cell h
theorem rows_new (W : World) (T1 T2 ra rb rc rd re rf rg : Nat) : (W.alloc (.cells #[.int .i64 (((T1 : Int) + (T2 : Int)) % 4294967296), .int .i64 ra, .int .i64 rb, .int .i64 rc, .int .i64 (((rd : Int) + (T1 : Int)) % 4294967296), .int .i64 re, .int .i64 rf, .int .i64 rg] 3)).rangeAt W.heap.size 0 (ints .i64 [(T1 + T2) % 4294967296, ra, rb, rc, (rd + T1) % 4294967296, re, rf, rg]) := by
  have h := ints_new W [(T1 + T2) % 4294967296, ra, rb, rc, (rd + T1) % 4294967296, re, rf, rg]
  have e1 : (((T1 + T2) % 4294967296 : Nat) : Int) = ((T1 : Int) + (T2 : Int)) % 4294967296 := by omega
  have e2 : (((rd + T1) % 4294967296 : Nat) : Int) = ((rd : Int) + (T1 : Int)) % 4294967296 := by omega
  rw [← e1, ← e2]
  exact h
theorem own_mono {w : World} {base base' e size : Nat} {v : Value} {n : Nat} {xs : List Value} (h : w.ownsRow base e size v n xs) (hb : base' ≤ base) : w.ownsRow base' e size v n xs := by
  obtain ⟨hl, h | ⟨g, cap, cur, hv, hg, h⟩⟩ := h
  · exact ⟨hl, .inl h⟩
  · exact ⟨hl, .inr ⟨g, cap, cur, hv, Nat.le_trans hb hg, h⟩⟩
theorem bytes_new (W : World) (x : Nat) (hx : x < 4294967296) : (W.alloc (.cells #[.int .u8 (IntKind.u8.wrap (IntKind.i64.wrap ((x : Int) / 16777216))), .int .u8 (IntKind.u8.wrap ((IntKind.i64.wrap ((x : Int) / 65536)).tmod 256)), .int .u8 (IntKind.u8.wrap ((IntKind.i64.wrap ((x : Int) / 256)).tmod 256)), .int .u8 (IntKind.u8.wrap ((x : Int).tmod 256))] 5)).rangeAt W.heap.size 0 (ints .u8 (Sp.bytes4 x)) := by
  have h : (W.alloc (.cells (arr .u8 (Sp.bytes4 x)) 5)).rangeAt W.heap.size 0 (ints .u8 (Sp.bytes4 x)) := rangeAt_of_row (heap_alloc_new W _)
  have e1 : IntKind.u8.wrap (IntKind.i64.wrap ((x : Int) / 16777216)) = ((x / 16777216 % 256 : Nat) : Int) := by
    rw [i64_id _ (by omega), IntKind.wrap_u8']; omega
  have e2 : IntKind.u8.wrap ((IntKind.i64.wrap ((x : Int) / 65536)).tmod 256) = ((x / 65536 % 256 : Nat) : Int) := by
    rw [i64_id _ (by omega), Int.tmod_eq_emod_of_nonneg (by omega), IntKind.wrap_u8']; omega
  have e3 : IntKind.u8.wrap ((IntKind.i64.wrap ((x : Int) / 256)).tmod 256) = ((x / 256 % 256 : Nat) : Int) := by
    rw [i64_id _ (by omega), Int.tmod_eq_emod_of_nonneg (by omega), IntKind.wrap_u8']; omega
  have e4 : IntKind.u8.wrap ((x : Int).tmod 256) = ((x % 256 : Nat) : Int) := by
    rw [Int.tmod_eq_emod_of_nonneg (by omega), IntKind.wrap_u8']; omega
  rw [e1, e2, e3, e4]
  exact h
theorem step_append_bytes {ops : Array Oper} {o : Oper} {a : Act} {w : World} {K : Act → World → Prop} {Q : Exit → Act → World → Prop} {E : Prop} (hg : o.guard = none) (s x : Operand)
    (hop : o.op = Op.call { callee := Callee.builtin Builtin.append, args := #[s, x], argTypes := #[22, 22] })
    (base : Nat) (v : Value) (n : Nat) (l : List Nat) (g c : Nat) (m : Nat) (news : List Nat) (hs : a.eval s = v) (hx : a.eval x = .slice (some ⟨g, 0, none⟩) m c) (hm : news.length = m) (hown : w.ownsRow base 5 1 v n (ints .u8 l)) (hr : w.rangeAt g 0 (ints .u8 news))
    (hn : n + m ≤ 100000) (hbase : base ≤ w.heap.size)
    (hK : ∀ v' w', Hid (w'.ownsRow base 5 1 v' (n + m) (ints .u8 (l ++ news))) → Hid (w.grownBy w' v.ownBlock) → K (a.put o.dst v') w') :
    if Region.wanted o (yielded ops a.tmps) = true then Oper.wp Tryd.prog o a w K Q else E := by
  have hw : Region.wanted o (yielded ops a.tmps) = true := by simp [Region.wanted, hg]
  rw [if_pos hw]
  obtain ⟨i, hi, hsz, hby, hz⟩ := info5e
  obtain ⟨v', w', hrun, r1, r2, _⟩ := run_append_own (P := Tryd.prog) w base 22 o.type 5 i _ 1 1 Tryd.underlying22 hi hz hsz hby rfl (by decide) v n (ints .u8 l) hown ⟨g, 0, none⟩ m c (ints .u8 news) (by rw [ints_length]; omega) (fun j u hu => by rw [Addr.add_mid]; exact hr j u hu) (fun u hu => by obtain ⟨q, _, rfl⟩ := List.mem_map.1 hu; rfl) (by unfold maxLen; omega) (by omega) hbase
  rw [← ints_append] at r1
  unfold Oper.wp
  simp [execOp, hop, resolve, invoke, builtin, hs, hx, hrun, Result.andThen]
  exact hK v' w' r1 r2
theorem cast2 (x y : Nat) : (((x + y) % 4294967296 : Nat) : Int) = ((x : Int) + (y : Int)) % 4294967296 := by omega
theorem app_keep {base g j n : Nat} {w w' : World} {v u : Value} {xs : List Value} (hg : w.grownBy w' v.ownBlock) (hown : w.ownsRow base 5 1 v n xs) (hlt : g < base) (hsz : base ≤ w.heap.size) (hc : w.cell? ⟨g, j, none⟩ = some u) : w'.cell? ⟨g, j, none⟩ = some u := by
  have hb := below_grown' (Below.refl base w) hg hown hsz (Nat.le_refl _)
  rw [← hc]
  exact hb.cell hlt
theorem K_lt : ∀ x ∈ Sp.K, x < 4294967296 := by decide
namespace Sp
theorem not_eq (e : Nat) (h : e < 4294967296) : 4294967295 ^^^ e = 4294967295 - e := by
  have h1 := BitVec.toNat_not (x := BitVec.ofNat 32 e)
  have h2 : ~~~(BitVec.ofNat 32 e) = BitVec.allOnes 32 ^^^ BitVec.ofNat 32 e := by rw [BitVec.allOnes_xor]
  rw [h2, BitVec.toNat_xor, BitVec.toNat_allOnes, BitVec.toNat_ofNat, Nat.mod_eq_of_lt (by omega)] at h1
  omega
theorem not_int (e : Nat) (h : e < 4294967296) : (4294967295 : Int) - (e : Int) = ((4294967295 ^^^ e : Nat) : Int) := by rw [not_eq e h]; omega
theorem t1_int (s : S8) (k w : Nat) : ((s.h : Int) + (turned s.e 6 11 25 : Nat) + (ch s.e s.f s.g : Nat) + (k : Nat) + (w : Nat)) % 4294967296 = (t1 s k w : Nat) := by unfold t1 add32; omega
theorem t2_int (s : S8) : (((turned s.a 2 13 22 : Nat) : Int) + (maj s.a s.b s.c : Nat)) % 4294967296 = (t2 s : Nat) := by unfold t2 add32; omega
def plusTo (H S : List Nat) : Nat → List Nat
  | 0 => H
  | j + 1 => (plusTo H S j).set j ((nth H j + nth S j) % 4294967296)
theorem plusTo_nth (H S : List Nat) : ∀ j i, j ≤ i → nth (plusTo H S j) i = nth H i
  | 0, _, _ => rfl
  | j + 1, i, h => by rw [plusTo, (Rf.nth_set _ _ _ _).2 (by omega), plusTo_nth H S j i (by omega)]
theorem plusTo_all (s r : S8) : plusTo s.list r.list 8 = (s.plus r).list := rfl
theorem list_lt {s : S8} (h : s.ok) : ∀ x ∈ s.list, x < 4294967296 := by
  obtain ⟨h1, h2, h3, h4, h5, h6, h7, h8⟩ := h
  intro x hx
  simp [S8.list] at hx
  rcases hx with rfl | rfl | rfl | rfl | rfl | rfl | rfl | rfl <;> assumption
end Sp
/-- A row of eight numbers that may be written. -/
def HRow (w : World) (g : Nat) (l : List Nat) : Prop := ∃ cur : Array Value, w.heap[g]? = some (.cells cur 3 (0, 0)) ∧ cur.toList.take 8 = ints .i64 l ∧ l.length = 8
theorem hrow_own {w : World} {base : Nat} {g c : Nat} {l : List Nat} (h : w.ownsRow base 3 1 (.slice (some ⟨g, 0, none⟩) 8 c) 8 (ints .i64 l)) : HRow w g l := by
  obtain ⟨hl, ⟨h0, _⟩ | ⟨g', cap, cur, hv, hg, hh, hn, hm, hc, ht⟩⟩ := h
  · cases h0
  · cases hv
    exact ⟨cur, hh, ht, by rw [ints_length] at hl; omega⟩
theorem HRow.range {w : World} {g : Nat} {l : List Nat} (h : HRow w g l) : w.rangeAt g 0 (ints .i64 l) := by
  obtain ⟨cur, hh, ht, hl⟩ := h
  intro j u hu
  rw [cell_of_row _ _ _ _ _ _ hh, Nat.zero_add]
  have hj := (List.getElem?_eq_some_iff.1 hu).1
  rw [ints_length] at hj
  rw [← ht, List.getElem?_take_of_lt (by omega)] at hu
  simpa using hu
theorem HRow.may {w : World} {g : Nat} {l : List Nat} (h : HRow w g l) (i : Nat) : w.frozen? ⟨g, i, none⟩ = false := by
  obtain ⟨cur, hh, ht, hl⟩ := h
  exact frozen_of_row _ _ _ _ _ hh
theorem HRow.set {w : World} {g : Nat} {l : List Nat} (h : HRow w g l) (i x : Nat) : HRow (w.setCell ⟨g, i, none⟩ (.int .i64 (x : Nat))) g (l.set i x) := by
  obtain ⟨cur, hh, ht, hl⟩ := h
  refine ⟨_, heap_setCell_same w g i cur 3 (.int .i64 (x : Nat)) hh, ?_, by simp [hl]⟩
  rw [Array.toList_setIfInBounds, List.take_set, ht]
  simp [ints, List.map_set]
set_option maxRecDepth 8000 in
set_option maxHeartbeats 16000000 in
theorem rsum_any (m : List Nat) (p : Option Addr) (cp : Nat) (w : World) (hsrc : SrcIs w (.slice p m.length cp) m) (hsm : ∀ x ∈ m, x < 256) (hm : m.length ≤ 1000) :
    Calls Tryd.prog 16 #[.slice p m.length cp] w fun e w' => ∃ v, e = .returned v ∧ w'.ownsRow w.heap.size 5 1 v 32 (ints .u8 (Sp.sum m)) ∧ Below w.heap.size w w' := by
  have HSRC : Hid (SrcIs w (.slice p m.length cp) m) := hsrc
  have HSM : Hid (∀ x ∈ m, x < 256) := hsm
  obtain ⟨n, hn⟩ : ∃ n, m.length = n := ⟨_, rfl⟩
  have HN : Hid (m.length = n) := hn
  rw [hn] at hm HSRC
  rw [hn]
  clear hsrc hsm hn
  go_enter Tryd.func16, Tryd.ntmps16
  go_wp2_with (with_reducible (refine stop_builtin .append ?_))
  refine Stop.go ?_
  have hown0 : (w.alloc (Obj.cells #[] 5)).ownsRow w.heap.size 5 1 (.slice (some ⟨w.heap.size, 0, none⟩) 0 0) 0 (ints .u8 []) :=
    ⟨rfl, .inr ⟨w.heap.size, 0, #[], rfl, Nat.le_refl _, heap_alloc_new w (.cells #[] 5), by omega, by decide, rfl, rfl⟩⟩
  have hb0 : Below w.heap.size w (w.alloc (Obj.cells #[] 5)) := (Below.refl _ _).alloc (Nat.le_refl _) _
  with_reducible refine law_append w.heap.size (.slice (some ⟨w.heap.size, 0, none⟩) 0 0) 0 (ints .u8 []) (.slice p n cp) m ?asv ?axv hown0 (SrcIs.below HSRC.out hb0) (by rw [HN.out]; omega) (by simp) ?ak
  case asv => exact rfl
  case axv => exact rfl
  intro v1 w1 hown1 hg1
  rw [HN.out, Nat.zero_add, ← ints_append, List.nil_append] at hown1
  have hb1 : Below w.heap.size w w1 := below_grown' hb0 hg1 hown0 (by simp) (Nat.le_refl _)
  have HO1 : Hid (w1.ownsRow w.heap.size 5 1 v1 n (ints .u8 m)) := hown1
  have HB1 : Hid (Below w.heap.size w w1) := hb1
  clear hown0 hb0 hown1 hg1 hb1
  go_wp2_with (with_reducible (refine stop_builtin .append ?_))
  refine Stop.go ?_
  have hs1 := HB1.out.size
  have hsr : SrcIs (w1.alloc (.cells #[.int .u8 128] 5)) (.slice (some ⟨w1.heap.size, 0, none⟩) 1 1) [128] := srcIs_new w1 [128]
  have hownA := own_below HO1.out ((Below.refl _ _).alloc (Nat.le_refl _) (Obj.cells #[.int .u8 128] 5))
  with_reducible refine law_append w.heap.size v1 n (ints .u8 m) (.slice (some ⟨w1.heap.size, 0, none⟩) 1 1) [128] ?bsv ?bxv hownA hsr (by simp; omega) (by simp; omega) ?bk
  case bsv => exact rfl
  case bxv => exact rfl
  intro v2 w2 hown2 hg2
  rw [← ints_append] at hown2
  have hb2 : Below w.heap.size w w2 := below_grown' (HB1.out.alloc hs1 _) hg2 hownA (by simp; omega) (Nat.le_refl _)
  have HO2 : Hid (w2.ownsRow w.heap.size 5 1 v2 (n + 1) (ints .u8 (m ++ [128]))) := hown2
  have HB2 : Hid (Below w.heap.size w w2) := hb2
  clear hown2 hg2 hb2 hownA hsr HO1 HB1 hs1
  go_wp2
  go_loopw [3] (fun sl wr => ∃ (j : Nat), j ≤ Sp.marked n - 1 ∧ Hid (wr.ownsRow w.heap.size 5 1 sl (n + 1 + j) (ints .u8 (m ++ [128] ++ List.replicate j 0))) ∧ Hid (Below w.heap.size w wr)) (fun sl _ => n + 65 - lenOf sl)
  case atStart => exact ⟨0, by omega, by have := HO2.out; rw [← List.append_nil (m ++ [128])] at this; exact this, HB2.out⟩
  case round =>
    clear HO2 HB2
    obtain ⟨j, hj, HO2, HB2⟩ := hrel
    obtain ⟨q, cq, rfl⟩ := own_slice HO2.out
    have hmk := Sp.marked_pos n
    have hmd : Sp.marked n = 64 - (n + 8) % 64 := rfl
    have hs2 := HB2.out.size
    by_cases hlt : j < Sp.marked n - 1
    · have hne : ((n + 1 + j : Nat) : Int) % 64 ≠ 56 := by omega
      clear hmd
      go_wp2_with (with_reducible (refine stop_builtin .append ?_))
      refine Stop.go ?_
      have hsr : SrcIs (wr.alloc (.cells #[.int .u8 0] 5)) (.slice (some ⟨wr.heap.size, 0, none⟩) 1 1) [0] := srcIs_new wr [0]
      have hownA := own_below HO2.out ((Below.refl _ _).alloc (Nat.le_refl _) (Obj.cells #[.int .u8 0] 5))
      with_reducible refine law_append w.heap.size (.slice q (n + 1 + j) cq) (n + 1 + j) (ints .u8 (m ++ [128] ++ List.replicate j 0)) (.slice (some ⟨wr.heap.size, 0, none⟩) 1 1) [0] ?csv ?cxv hownA hsr (by simp; omega) (by simp; omega) ?ck
      case csv => exact rfl
      case cxv => exact rfl
      intro v3 w3 hown3 hg3
      rw [← ints_append, List.append_assoc _ (List.replicate j 0), ← List.replicate_succ'] at hown3
      have hb3 : Below w.heap.size w w3 := below_grown' (HB2.out.alloc hs2 _) hg3 hownA (by simp; omega) (Nat.le_refl _)
      have HO3 : Hid (w3.ownsRow w.heap.size 5 1 v3 (n + 1 + (j + 1)) (ints .u8 (m ++ [128] ++ List.replicate (j + 1) 0))) := hown3
      have HB3 : Hid (Below w.heap.size w w3) := hb3
      clear hown3 hg3 hb3 hownA hsr HO2 HB2 hs2
      obtain ⟨q3, c3, rfl⟩ := own_slice HO3.out
      go_wp2
      go_roundw
      case rel => exact ⟨j + 1, by omega, HO3.out, HB3.out⟩
      case measure => simp [lenOf]; omega
    · obtain rfl : j = Sp.marked n - 1 := by omega
      obtain ⟨d, hd⟩ : ∃ d, Sp.marked n - 1 = d := ⟨_, rfl⟩
      rw [hd]
      rw [hd] at HO2
      have heq : ((n + 1 + d : Nat) : Int) % 64 = 56 := by omega
      have hd63 : d ≤ 63 := by omega
      have HD : Hid (Sp.marked n - 1 = d) := hd
      clear hmd hmk hj hlt hd
      go_wp2_with (with_reducible (refine stop_builtin .append ?_))
      refine Stop.go ?_
      have hsr : SrcIs (wr.alloc (.cells #[.int .u8 0, .int .u8 0, .int .u8 0, .int .u8 0] 5)) (.slice (some ⟨wr.heap.size, 0, none⟩) 4 4) [0, 0, 0, 0] := srcIs_new wr [0, 0, 0, 0]
      have hownA := own_below HO2.out ((Below.refl _ _).alloc (Nat.le_refl _) (Obj.cells #[.int .u8 0, .int .u8 0, .int .u8 0, .int .u8 0] 5))
      with_reducible refine law_append w.heap.size (.slice q (n + 1 + d) cq) (n + 1 + d) (ints .u8 (m ++ [128] ++ List.replicate d 0)) (.slice (some ⟨wr.heap.size, 0, none⟩) 4 4) [0, 0, 0, 0] ?dsv ?dxv hownA hsr (by simp; omega) (by simp; omega) ?dk
      case dsv => exact rfl
      case dxv => exact rfl
      intro v3 w3 hown3 hg3
      rw [← ints_append] at hown3
      have hb3 : Below w.heap.size w w3 := below_grown' (HB2.out.alloc hs2 _) hg3 hownA (by simp; omega) (Nat.le_refl _)
      have HO3 : Hid (w3.ownsRow w.heap.size 5 1 v3 (n + 1 + d + 4) (ints .u8 (m ++ [128] ++ List.replicate d 0 ++ [0, 0, 0, 0]))) := hown3
      have HB3 : Hid (Below w.heap.size w w3) := hb3
      clear hown3 hg3 hb3 hownA hsr HO2 HB2 hs2
      have hs3 := HB3.out.size
      go_wp2_with (with_reducible (refine stop_builtin .append ?_))
      refine Stop.go ?_
      have hl4 : (#[.int .u8 (8 * (n : Int) / 16777216), .int .u8 (8 * (n : Int) / 65536 % 256), .int .u8 (8 * (n : Int) / 256 % 256), .int .u8 (8 * (n : Int) % 256)] : Array Value) = arr .u8 [n * 8 / 16777216 % 256, n * 8 / 65536 % 256, n * 8 / 256 % 256, n * 8 % 256] := by
        simp only [arr, ints, List.map_cons, List.map_nil]
        rw [show ((n * 8 / 16777216 % 256 : Nat) : Int) = 8 * (n : Int) / 16777216 from by omega, show ((n * 8 / 65536 % 256 : Nat) : Int) = 8 * (n : Int) / 65536 % 256 from by omega, show ((n * 8 / 256 % 256 : Nat) : Int) = 8 * (n : Int) / 256 % 256 from by omega, show ((n * 8 % 256 : Nat) : Int) = 8 * (n : Int) % 256 from by omega]
      rw [hl4]
      clear hl4
      have hsr : SrcIs (w3.alloc (.cells (arr .u8 [n * 8 / 16777216 % 256, n * 8 / 65536 % 256, n * 8 / 256 % 256, n * 8 % 256]) 5)) (.slice (some ⟨w3.heap.size, 0, none⟩) 4 4) [n * 8 / 16777216 % 256, n * 8 / 65536 % 256, n * 8 / 256 % 256, n * 8 % 256] := srcIs_new w3 _
      have hownA := own_below HO3.out ((Below.refl _ _).alloc (Nat.le_refl _) (Obj.cells (arr .u8 [n * 8 / 16777216 % 256, n * 8 / 65536 % 256, n * 8 / 256 % 256, n * 8 % 256]) 5))
      with_reducible refine law_append w.heap.size v3 (n + 1 + d + 4) (ints .u8 (m ++ [128] ++ List.replicate d 0 ++ [0, 0, 0, 0])) (.slice (some ⟨w3.heap.size, 0, none⟩) 4 4) [n * 8 / 16777216 % 256, n * 8 / 65536 % 256, n * 8 / 256 % 256, n * 8 % 256] ?esv ?exv hownA hsr (by simp; omega) (by simp; omega) ?ek
      case esv => exact rfl
      case exv => exact rfl
      intro v4 w4 hown4 hg4
      have hpl := Sp.pad_list m (by rw [HN.out]; omega)
      rw [HN.out, HD.out] at hpl
      rw [← ints_append, hpl] at hown4
      have hb4 : Below w.heap.size w w4 := below_grown' (HB3.out.alloc hs3 _) hg4 hownA (by simp; omega) (Nat.le_refl _)
      obtain ⟨M, hM⟩ : ∃ M, m ++ Sp.ending n = M := ⟨_, rfl⟩
      obtain ⟨L, hL⟩ : ∃ L, n + 1 + d + 8 = L := ⟨_, rfl⟩
      rw [hM] at hown4
      have hML : M.length = L := by
        have := hown4.1
        rw [ints_length] at this
        simp at this
        omega
      have HM : Hid (m ++ Sp.ending n = M) := hM
      have HML : Hid (M.length = L) := hML
      have hMs : ∀ x ∈ M, x < 256 := by
        rw [← hM]
        intro x hx
        rcases List.mem_append.1 hx with h | h
        · exact HSM.out x h
        · exact ending_small n x h
      have HMS : Hid (∀ x ∈ M, x < 256) := hMs
      obtain ⟨X, hX⟩ : ∃ X, L = 64 * X := ⟨L / 64, by omega⟩
      have hXb : X ≤ 20 := by omega
      have HX : Hid (L = 64 * X) := hX
      have hLp : 0 < L := by omega
      obtain ⟨gb, cb, rfl, hcb, hgb, hgb2, hrb⟩ := own_cell2 hown4 (show 0 < n + 1 + d + 4 + 4 by omega)
      have HRB : Hid (w4.rangeAt gb 0 (ints .u8 M)) := hrb
      have hcb' : L ≤ cb := by have h0 : n + 1 + d + 4 + 4 ≤ cb := hcb; omega
      clear hcb
      have HB4 : Hid (Below w.heap.size w w4) := hb4
      have eL : n + 1 + d + 4 + [n * 8 / 16777216 % 256, n * 8 / 65536 % 256, n * 8 / 256 % 256, n * 8 % 256].length = L := by show n + 1 + d + 4 + 4 = L; omega
      rw [eL]
      clear hown4 hg4 hb4 hownA hsr HO3 HB3 hs3 hpl hM hL hML hMs hrb hX eL HSRC HSM
      have hs4 := HB4.out.size
      go_wp2_with fail
      refine (roots_any 64 true w4 _ Rf.roots64 rfl (by decide)).mono ?_
      rintro e w5 ⟨v5, rfl, hown5, hb5⟩
      obtain ⟨gk, ck, rfl, hgk, hgk2, hrk⟩ := own_cell hown5 (by decide)
      have hs5 := hb5.size
      have HRK : Hid (w5.rangeAt gk 0 (ints .i64 Sp.K)) := hrk
      have HB5 : Hid (Below w4.heap.size w4 w5) := hb5
      clear hown5 hb5 hrk
      go_wp2_with fail
      refine (roots_any 8 false w5 _ Rf.roots8 rfl (by decide)).mono ?_
      rintro e w6 ⟨v6, rfl, hown6, hb6⟩
      obtain ⟨gh, ch, rfl, hgh, hgh2, hrh⟩ := own_cell hown6 (by decide)
      have hs6 := hb6.size
      have HRH : Hid (HRow w6 gh Sp.init.list) := hrow_own hown6
      have HB6 : Hid (Below w5.heap.size w5 w6) := hb6
      clear hown6 hb6 hrh
      have HRB6 : Hid (w6.rangeAt gb 0 (ints .u8 M)) := rangeAt_below HB6.out (rangeAt_below HB5.out HRB.out)
      have HRK6 : Hid (w6.rangeAt gk 0 (ints .i64 Sp.K)) := rangeAt_below HB6.out HRK.out
      have HBW : Hid (Below w.heap.size w w6) := (HB4.out.trans (HB5.out.mono hs4)).trans (HB6.out.mono (Nat.le_trans hs4 hs5))
      clear HRB HRK HB5 HB6 HB4
      have nbh : gb ≠ gh := by omega
      have nkh : gk ≠ gh := by omega
      go_wp2
      go_loopw [7] (fun i wr => ∃ k : Nat, k ≤ X ∧ i = .int .i64 (64 * (k : Int)) ∧ Hid (w6.grownBy wr (some gh)) ∧ Hid (HRow wr gh (Sp.absorb M k).list)) (fun i _ => L - (intOf i).toNat)
      case atStart => exact ⟨0, by omega, rfl, grownBy_refl _ _, HRH.out⟩
      case round =>
        clear HRH
        obtain ⟨k, hk, rfl, HG, HRH⟩ := hrel
        by_cases hlt : k < X
        · have q1 : 64 * (k : Int) < (L : Int) := by have := HX.out; omega
          have q2 : 64 * (k : Int) + 64 ≤ (L : Int) := by have := HX.out; omega
          have q3 : 64 * (k : Int) + 64 ≤ (cb : Int) := by omega
          go_wp2_with fail
          have hbl : ((M.drop (64 * k)).take 64).length = 64 := by have := HX.out; simp [HML.out]; omega
          refine (sched_any ((M.drop (64 * k)).take 64) gb (64 * k) (cb - 64 * k) wr (fun x hx => HMS.out x (List.mem_of_mem_drop (List.mem_of_mem_take hx))) (range_sub (range_grown HRB6.out HG.out nbh) _ _) hbl).mono ?_
          rintro e w7 ⟨v7, rfl, hown7, hb7⟩
          obtain ⟨gw, cw, rfl, hgw, hgw2, hrw⟩ := own_cell hown7 (by decide)
          have hs7 := hb7.size
          obtain ⟨ws, hws⟩ : ∃ ws, Sp.spread ((M.drop (64 * k)).take 64) = ws := ⟨_, rfl⟩
          obtain ⟨st, hst⟩ : ∃ st, Sp.absorb M k = st := ⟨_, rfl⟩
          have hso : st.ok := by rw [← hst]; exact Sp.absorb_ok M k
          have hwl : ws.length = 64 := by rw [← hws]; exact Sp.spreadTo_length _ 48
          have hwb : ∀ x ∈ ws, x < 4294967296 := by rw [← hws]; exact Sp.spreadTo_lt (fun x hx => HMS.out x (List.mem_of_mem_drop (List.mem_of_mem_take hx))) 48
          have HAB : Hid (Sp.absorb M (k + 1) = Sp.mix st ws) := by rw [← hst, ← hws]; rfl
          rw [hws] at hrw
          rw [hst] at HRH
          have HWL : Hid (ws.length = 64) := hwl
          have HWB : Hid (∀ x ∈ ws, x < 4294967296) := hwb
          have HSO : Hid st.ok := hso
          have HRW : Hid (w7.rangeAt gw 0 (ints .i64 ws)) := hrw
          have hgl : gh < wr.heap.size := by have := HG.out.size; omega
          have HG7 : Hid (w6.grownBy w7 (some gh)) := grownBy_trans HG.out ⟨hb7.os, hb7.tape, hb7.output, hb7.size, fun q hq _ => hb7.block q hq⟩
          have HRH7 : Hid (HRow w7 gh st.list) := by
            obtain ⟨cur, h1, h2⟩ := HRH.out
            exact ⟨cur, (hb7.block gh hgl).trans h1, h2⟩
          have ngw : gw ≠ gh := by omega
          have hgh7 : gh < w7.heap.size := by omega
          have hs76 : w6.heap.size ≤ w7.heap.size := HG7.out.size
          clear hown7 hb7 hws hst hso hwl hwb hrw HG HRH hbl
          go_wp2_with (with_reducible (refine stop_builtin .append ?_))
          refine Stop.go ?_
          have hownS : (w7.alloc (Obj.cells #[] 3)).ownsRow w7.heap.size 3 1 (.slice (some ⟨w7.heap.size, 0, none⟩) 0 0) 0 (ints .i64 []) :=
            ⟨rfl, .inr ⟨w7.heap.size, 0, #[], rfl, Nat.le_refl _, heap_alloc_new w7 (.cells #[] 3), by omega, by decide, rfl, rfl⟩⟩
          have hbS : Below w7.heap.size w7 (w7.alloc (Obj.cells #[] 3)) := (Below.refl _ _).alloc (Nat.le_refl _) _
          with_reducible refine law_append_ints w7.heap.size (.slice (some ⟨w7.heap.size, 0, none⟩) 0 0) 0 [] gh ch 8 st.list ?fsv ?fxv rfl hownS (rangeAt_below hbS HRH7.out.range) (by omega) (by simp) ?fk
          case fsv => exact rfl
          case fxv => exact rfl
          intro v8 w8 hown8 hg8
          rw [List.nil_append, Nat.zero_add] at hown8
          have hb8 : Below w7.heap.size w7 w8 := below_grown' hbS hg8 hownS (by simp) (Nat.le_refl _)
          obtain ⟨gs, cs, rfl, hgs, hgs2, hrs⟩ := own_cell hown8 (by decide)
          have HRS : Hid (w8.rangeAt gs 0 (ints .i64 st.list)) := hrs
          have HG8 : Hid (w6.grownBy w8 (some gh)) := grownBy_trans HG7.out ⟨hb8.os, hb8.tape, hb8.output, hb8.size, fun q hq _ => hb8.block q hq⟩
          have HRH8 : Hid (HRow w8 gh st.list) := by
            obtain ⟨cur, h1, h2⟩ := HRH7.out
            exact ⟨cur, (hb8.block gh hgh7).trans h1, h2⟩
          have HRW8 : Hid (w8.rangeAt gw 0 (ints .i64 ws)) := rangeAt_below hb8 HRW.out
          have HRK8 : Hid (w8.rangeAt gk 0 (ints .i64 Sp.K)) := range_grown HRK6.out HG8.out nkh
          have hs8 := hb8.size
          have hgh8 : gh < w8.heap.size := by omega
          clear hown8 hg8 hb8 hrs hownS hbS HRW HG7 HRH7
          go_wp2
          go_loopw [9, 10] (fun sl i wr => ∃ (t g c : Nat), t ≤ 64 ∧ i = .int .i64 t ∧ sl = .slice (some ⟨g, 0, none⟩) 8 c ∧ Hid (wr.rangeAt g 0 (ints .i64 (Sp.rounds st ws t).list)) ∧ Hid (w7.heap.size ≤ g) ∧ Hid (Below w8.heap.size w8 wr)) (fun _ i _ => 64 - (intOf i).toNat)
          case atStart => exact ⟨0, gs, cs, by omega, rfl, rfl, HRS.out, hgs, Below.refl _ _⟩
          case round =>
            clear HRS hgs hgs2
            obtain ⟨t, g, c, ht, rfl, rfl, HRS, HGE, HB⟩ := hrel
            by_cases htt : t < 64
            · have t0 : (0 : Int) ≤ (t : Int) := by omega
              have t1 : (t : Int) < 64 := by omega
              have hro := Sp.rounds_ok HSO.out ws t
              obtain ⟨r, hr⟩ : ∃ r, Sp.rounds st ws t = r := ⟨_, rfl⟩
              rw [hr] at hro HRS
              have hkl : t < Sp.K.length := htt
              obtain ⟨kk, hkk⟩ : ∃ kk, Sp.nth Sp.K t = kk := ⟨_, rfl⟩
              obtain ⟨ww, hww⟩ : ∃ ww, Sp.nth ws t = ww := ⟨_, rfl⟩
              have HNX : Hid (Sp.rounds st ws (t + 1) = Sp.round r kk ww) := by rw [← hr, ← hkk, ← hww]; rfl
              have bk : kk < 4294967296 := by rw [← hkk]; exact Sp.nth_lt (by decide) K_lt t
              have bw : ww < 4294967296 := by rw [← hww]; exact Sp.nth_lt (by decide) HWB.out t
              have cK := range_cell (rangeAt_below HB.out HRK8.out) t hkl
              have cW := range_cell (rangeAt_below HB.out HRW8.out) t (by rw [HWL.out]; exact htt)
              rw [Nat.zero_add, hkk] at cK
              rw [Nat.zero_add, hww] at cW
              clear hkk hww hr hkl
              have c0 := range_cell HRS.out 0 (by show 0 < 8; decide)
              have c1 := range_cell HRS.out 1 (by show 1 < 8; decide)
              have c2 := range_cell HRS.out 2 (by show 2 < 8; decide)
              have c3 := range_cell HRS.out 3 (by show 3 < 8; decide)
              have c4 := range_cell HRS.out 4 (by show 4 < 8; decide)
              have c5 := range_cell HRS.out 5 (by show 5 < 8; decide)
              have c6 := range_cell HRS.out 6 (by show 6 < 8; decide)
              have c7 := range_cell HRS.out 7 (by show 7 < 8; decide)
              have hgr : g < wr.heap.size := World.block_lt_of_cell? wr _ c0
              obtain ⟨ra, rb, rc, rd, re, rf, rg, rh⟩ := r
              obtain ⟨b0, b1, b2, b3, b4, b5, b6, b7⟩ := hro
              simp only [Sp.S8.list, Sp.nth, List.getD_cons_zero, List.getD_cons_succ, Nat.zero_add] at c0 c1 c2 c3 c4 c5 c6 c7
              simp only at b0 b1 b2 b3 b4 b5 b6 b7
              obtain ⟨T1, hT1⟩ : ∃ T1, Sp.t1 ⟨ra, rb, rc, rd, re, rf, rg, rh⟩ kk ww = T1 := ⟨_, rfl⟩
              obtain ⟨T2, hT2⟩ : ∃ T2, Sp.t2 ⟨ra, rb, rc, rd, re, rf, rg, rh⟩ = T2 := ⟨_, rfl⟩
              have bT1 : T1 < 4294967296 := by rw [← hT1]; exact Sp.add32_lt _ _
              have bT2 : T2 < 4294967296 := by rw [← hT2]; exact Sp.add32_lt _ _
              have hI1 := Sp.t1_int ⟨ra, rb, rc, rd, re, rf, rg, rh⟩ kk ww
              have hI2 := Sp.t2_int ⟨ra, rb, rc, rd, re, rf, rg, rh⟩
              rw [hT1] at hI1
              rw [hT2] at hI2
              simp only at hI1 hI2
              have HNL : Hid ((Sp.round ⟨ra, rb, rc, rd, re, rf, rg, rh⟩ kk ww).list = [(T1 + T2) % 4294967296, ra, rb, rc, (rd + T1) % 4294967296, re, rf, rg]) := by
                show _ = _
                unfold Sp.round Sp.S8.list
                simp only [hT1, hT2, Sp.add32]
              have HNX' : Hid (Sp.rounds st ws (t + 1) = Sp.round ⟨ra, rb, rc, rd, re, rf, rg, rh⟩ kk ww) := HNX
              clear HNX hT1 hT2
              have r6 := Sp.rotr_lt (n := 6) b4
              have r11 := Sp.rotr_lt (n := 11) b4
              have r25 := Sp.rotr_lt (n := 25) b4
              have r2 := Sp.rotr_lt (n := 2) b0
              have r13 := Sp.rotr_lt (n := 13) b0
              have r22 := Sp.rotr_lt (n := 22) b0
              have x1 := i64_xor_nat _ _ r6 r11
              have x2 := i64_xor_nat _ _ (Sp.xor_lt r6 r11) r25
              have x3 := i64_and_nat _ _ b4 b5
              have hnot : (4294967295 : Int) - (re : Int) = ((4294967295 ^^^ re : Nat) : Int) := Sp.not_int re b4
              have hnb : 4294967295 ^^^ re < 4294967296 := Sp.xor_lt (by decide) b4
              have x4 := i64_and_nat _ _ hnb b6
              have x5 := i64_xor_nat _ _ (Sp.and_lt (b := rf) b4) (Sp.and_lt (b := rg) hnb)
              have y1 := i64_xor_nat _ _ r2 r13
              have y2 := i64_xor_nat _ _ (Sp.xor_lt r2 r13) r22
              have y3 := i64_and_nat _ _ b0 b1
              have y4 := i64_and_nat _ _ b0 b2
              have y5 := i64_and_nat _ _ b1 b2
              have y6 := i64_xor_nat _ _ (Sp.and_lt (b := rb) b0) (Sp.and_lt (b := rc) b0)
              have y7 := i64_xor_nat _ _ (Sp.xor_lt (Sp.and_lt (b := rb) b0) (Sp.and_lt (b := rc) b0)) (Sp.and_lt (b := rc) b1)
              have eC : re &&& rf ^^^ (4294967295 ^^^ re) &&& rg = Sp.ch re rf rg := rfl
              have eM : ra &&& rb ^^^ ra &&& rc ^^^ rb &&& rc = Sp.maj ra rb rc := rfl
              have eT : Sp.rotr re 6 ^^^ Sp.rotr re 11 ^^^ Sp.rotr re 25 = Sp.turned re 6 11 25 := rfl
              have eU : Sp.rotr ra 2 ^^^ Sp.rotr ra 13 ^^^ Sp.rotr ra 22 = Sp.turned ra 2 13 22 := rfl
              rw [eC] at x5
              rw [eM] at y7
              rw [eT] at x2
              rw [eU] at y2
              clear eC eM eT eU
              have bC : Sp.ch re rf rg < 4294967296 := Sp.ch_lt b4
              have bM : Sp.maj ra rb rc < 4294967296 := Sp.maj_lt b0 b1
              have bT : Sp.turned re 6 11 25 < 4294967296 := Sp.turned_lt b4
              have bU : Sp.turned ra 2 13 22 < 4294967296 := Sp.turned_lt b0
              have hTop1 : ∀ W, Calls Tryd.prog 26 #[.int .i64 ((rh : Int) + (Sp.turned re 6 11 25 : Nat) + (Sp.ch re rf rg : Nat) + (kk : Int) + (ww : Int))] W fun e w' => e = .returned (.int .i64 (T1 : Nat)) ∧ w' = W := fun W => top5 rh _ _ kk ww T1 W b7 bT bC bk bw hI1
              have hTop2 : ∀ W, Calls Tryd.prog 26 #[.int .i64 (((Sp.turned ra 2 13 22 : Nat) : Int) + (Sp.maj ra rb rc : Nat))] W fun e w' => e = .returned (.int .i64 (T2 : Nat)) ∧ w' = W := fun W => top2 _ _ T2 W bU bM hI2
              have hTop3 : ∀ W, Calls Tryd.prog 26 #[.int .i64 ((T1 : Int) + (T2 : Int))] W fun e w' => e = .returned (.int .i64 ((T1 + T2) % 4294967296 : Nat)) ∧ w' = W := fun W => top2' _ _ W bT1 bT2
              have hTop4 : ∀ W, Calls Tryd.prog 26 #[.int .i64 ((rd : Int) + (T1 : Int))] W fun e w' => e = .returned (.int .i64 ((rd + T1) % 4294967296 : Nat)) ∧ w' = W := fun W => top2' _ _ W b3 bT1
              have HT1 : Hid (∀ W, Calls Tryd.prog 26 #[.int .i64 ((rh : Int) + (Sp.turned re 6 11 25 : Nat) + (Sp.ch re rf rg : Nat) + (kk : Int) + (ww : Int))] W fun e w' => e = .returned (.int .i64 (T1 : Nat)) ∧ w' = W) := hTop1
              have HT2 : Hid (∀ W, Calls Tryd.prog 26 #[.int .i64 (((Sp.turned ra 2 13 22 : Nat) : Int) + (Sp.maj ra rb rc : Nat))] W fun e w' => e = .returned (.int .i64 (T2 : Nat)) ∧ w' = W) := hTop2
              have HT3 : Hid (∀ W, Calls Tryd.prog 26 #[.int .i64 ((T1 : Int) + (T2 : Int))] W fun e w' => e = .returned (.int .i64 ((T1 + T2) % 4294967296 : Nat)) ∧ w' = W) := hTop3
              have HT4 : Hid (∀ W, Calls Tryd.prog 26 #[.int .i64 ((rd : Int) + (T1 : Int))] W fun e w' => e = .returned (.int .i64 ((rd + T1) % 4294967296 : Nat)) ∧ w' = W) := hTop4
              clear hTop1 hTop2 hTop3 hTop4 hI1 hI2
              have n1 : IntKind.i64.wrap ((T1 : Int) + (T2 : Int)) = (T1 : Int) + (T2 : Int) := wrap2 bT1 bT2
              have n2 : IntKind.i64.wrap ((rd : Int) + (T1 : Int)) = (rd : Int) + (T1 : Int) := wrap2 b3 bT1
              go_wp2_with fail
              go_quiet ((first | (go_at_call_of 27 (Value.int IntKind.i64 6); exact Calls.quiet_of (turn6 re _ b4)) | (go_at_call_of 27 (Value.int IntKind.i64 11); exact Calls.quiet_of (turn11 re _ b4)) | (go_at_call_of 27 (Value.int IntKind.i64 25); exact Calls.quiet_of (turn25 re _ b4)) | (go_at_call 26; exact Calls.quiet_of_same (HT1.out _))))
              go_wp2_with fail
              go_quiet ((first | (go_at_call_of 27 (Value.int IntKind.i64 2); first | exact Calls.quiet_of (turn2 ra _ b0) | exact quiet_more2 (turn2 ra _ b0)) | (go_at_call_of 27 (Value.int IntKind.i64 13); first | exact Calls.quiet_of (turn13 ra _ b0) | exact quiet_more2 (turn13 ra _ b0)) | (go_at_call_of 27 (Value.int IntKind.i64 22); first | exact Calls.quiet_of (turn22 ra _ b0) | exact quiet_more2 (turn22 ra _ b0)) | (go_at_call 26; first | exact Calls.quiet_of_same (HT2.out _) | exact quiet_more (HT2.out _))))
              go_wp2_with fail
              clear x1 x2 x3 x4 x5 y1 y2 y3 y4 y5 y6 y7 r6 r11 r25 r2 r13 r22 hnot hnb
              go_region_held3 (fun w' => w'.cell? ⟨g, 0, none⟩ = some (.int .i64 (ra : Nat)) ∧ w'.cell? ⟨g, 1, none⟩ = some (.int .i64 (rb : Nat)) ∧ w'.cell? ⟨g, 2, none⟩ = some (.int .i64 (rc : Nat)) ∧ w'.cell? ⟨g, 3, none⟩ = some (.int .i64 (rd : Nat)) ∧ w'.cell? ⟨g, 4, none⟩ = some (.int .i64 (re : Nat)) ∧ w'.cell? ⟨g, 5, none⟩ = some (.int .i64 (rf : Nat)) ∧ w'.cell? ⟨g, 6, none⟩ = some (.int .i64 (rg : Nat))) (first | go_keep | (simp only [World.cell?_drewN]; refine ⟨?_, ?_, ?_, ?_, ?_, ?_, ?_⟩ <;> (rw [cell_alloc_g (by simpa using hgr)]; first | exact c0 | exact c1 | exact c2 | exact c3 | exact c4 | exact c5 | exact c6))) (first | (go_at_call_of 26 (Value.int IntKind.i64 ((T1 : Int) + (T2 : Int))); refine (HT3.out _).mono ?_; rintro e w' ⟨rfl, rfl⟩) | (go_at_call 26; refine (HT4.out _).mono ?_; rintro e w' ⟨rfl, rfl⟩))
              go_wp2
              go_roundw
              case rel => exact ⟨t + 1, wr.heap.size, 8, by omega, by go_num, rfl, by rw [HNX'.out, HNL.out]; exact rows_new (wr.drewN _) T1 T2 ra rb rc rd re rf rg, Nat.le_trans hs8 HB.out.size, (below_drewN HB.out _).alloc HB.out.size _⟩
              case measure => simp [intOf]; omega
            · obtain rfl : t = 64 := by omega
              have HRH9 : Hid (HRow wr gh st.list) := by
                obtain ⟨cur, h1, h2⟩ := HRH8.out
                exact ⟨cur, (HB.out.block gh hgh8).trans h1, h2⟩
              have HG9 : Hid (w6.grownBy wr (some gh)) := grownBy_trans HG8.out ⟨HB.out.os, HB.out.tape, HB.out.output, HB.out.size, fun q hq _ => HB.out.block q hq⟩
              have ngs : g ≠ gh := by have := HGE.out; omega
              obtain ⟨r, hr⟩ : ∃ r, Sp.rounds st ws 64 = r := ⟨_, rfl⟩
              have hro : r.ok := by rw [← hr]; exact Sp.rounds_ok HSO.out ws 64
              have HMX : Hid (Sp.absorb M (k + 1) = st.plus r) := by rw [HAB.out, Sp.mix, hr]; exact rfl
              rw [hr] at HRS
              have HRO : Hid (∀ x ∈ r.list, x < 4294967296) := Sp.list_lt hro
              have HSB : Hid (∀ x ∈ st.list, x < 4294967296) := Sp.list_lt HSO.out
              clear hr hro HAB
              go_wp2
              go_loopw [15] (fun i wr2 => ∃ j : Nat, j ≤ 8 ∧ i = .int .i64 j ∧ Hid (HRow wr2 gh (Sp.plusTo st.list r.list j)) ∧ Hid (wr.grownBy wr2 (some gh))) (fun i _ => 8 - (intOf i).toNat)
              case atStart => exact ⟨0, by omega, rfl, HRH9.out, grownBy_refl _ _⟩
              case round =>
                obtain ⟨j, hj, rfl, HR, HGJ⟩ := hrel
                by_cases hjt : j < 8
                · have j0 : (0 : Int) ≤ (j : Int) := by omega
                  have j1 : (j : Int) < 8 := by omega
                  have hln : (Sp.plusTo st.list r.list j).length = 8 := by obtain ⟨_, _, _, h⟩ := HR.out; exact h
                  have cH := range_cell HR.out.range j (by rw [hln]; exact hjt)
                  have cS := range_cell (range_grown HRS.out HGJ.out ngs) j hjt
                  have cf := HR.out.may j
                  rw [Sp.plusTo_nth _ _ j j (Nat.le_refl _)] at cH
                  rw [Nat.zero_add] at cH cS
                  have bx : Sp.nth st.list j < 4294967296 := Sp.nth_lt (by decide) HSB.out j
                  have bY : Sp.nth r.list j < 4294967296 := Sp.nth_lt (by decide) HRO.out j
                  have HPT : Hid (Sp.plusTo st.list r.list (j + 1) = (Sp.plusTo st.list r.list j).set j ((Sp.nth st.list j + Sp.nth r.list j) % 4294967296)) := rfl
                  generalize Sp.nth st.list j = x at *
                  generalize Sp.nth r.list j = y at *
                  have n1 : IntKind.i64.wrap ((x : Int) + (y : Int)) = (x : Int) + (y : Int) := wrap2 bx bY
                  have HTJ : Hid (∀ W, Calls Tryd.prog 26 #[.int .i64 ((x : Int) + (y : Int))] W fun e w' => e = .returned (.int .i64 ((x + y) % 4294967296 : Nat)) ∧ w' = W) := fun W => top2' x y W bx bY
                  clear hln
                  go_wp2_with fail
                  go_region_law (refine step_call rfl 26 cf26 (.tmp 188) #[3] rfl (.int .i64 ((x : Int) + (y : Int))) rfl ((HTJ.out _).mono ?_); rintro e w' ⟨rfl, rfl⟩; refine ⟨_, rfl, ?_⟩)
                  all_goals
                    go_wp2
                    go_roundw
                    case rel =>
                      have h1 := HR.out.set j ((x + y) % 4294967296)
                      rw [← HPT.out, cast2] at h1
                      have h2 := grownBy_set HGJ.out j (.int .i64 (((x : Int) + (y : Int)) % 4294967296))
                      (repeat apply Exists.intro)
                      refine ⟨⟨j + 1, hjt, ?_, ?_, ?_⟩, rfl⟩
                      · exact rfl
                      · exact h1
                      · exact grownBy_drewN h2 1
                    case measure => simp [intOf]; omega
                · obtain rfl : j = 8 := by omega
                  have HRX : Hid (HRow wr gh (Sp.absorb M (k + 1)).list) := by rw [HMX.out, ← Sp.plusTo_all]; exact HR.out
                  have HGX : Hid (w6.grownBy wr (some gh)) := grownBy_trans HG9.out HGJ.out
                  clear HR HGJ
                  go_wp2
                  go_roundw
                  case rel => exact ⟨k + 1, by omega, by go_num, HGX.out, HRX.out⟩
                  case measure => simp [intOf]; omega
        · obtain rfl : k = X := by omega
          have q1 : ¬ 64 * (k : Int) < (L : Int) := by have := HX.out; omega
          have HSUM : Hid (Sp.sum m = Sp.bytesTo (Sp.absorb M k).list 8) := by
            show _ = _
            unfold Sp.sum
            have h1 : m.length + (Sp.ending m.length).length = 64 * k := by
              have h2 := HML.out
              have h3 := HX.out
              rw [← HM.out, List.length_append, ← HN.out] at h2
              omega
            rw [h1, Nat.mul_div_cancel_left k (by decide), HN.out, HM.out]
          obtain ⟨H, hH⟩ : ∃ H, (Sp.absorb M k).list = H := ⟨_, rfl⟩
          have HHB : Hid (∀ x ∈ H, x < 4294967296) := by rw [← hH]; exact Sp.list_lt (Sp.absorb_ok M k)
          have HHL : Hid (H.length = 8) := by rw [← hH]; exact rfl
          rw [hH] at HRH HSUM
          have hgr : gh < wr.heap.size := by have := HG.out.size; omega
          have HBX : Hid (Below w.heap.size w wr) := below_grown HBW.out HG.out HBW.out.size (by omega)
          have hsW := HBX.out.size
          clear hH
          generalize wr = W9 at *
          go_wp2
          go_loopw [16, 17] (fun sl i wr2 => ∃ j : Nat, j ≤ 8 ∧ i = .int .i64 j ∧ Hid (wr2.ownsRow W9.heap.size 5 1 sl (4 * j) (ints .u8 (Sp.bytesTo H j))) ∧ Hid (Below W9.heap.size W9 wr2)) (fun _ i _ => 8 - (intOf i).toNat)
          case atStart => exact ⟨0, by omega, rfl, own_none _ _ _ _, Below.refl _ _⟩
          case round =>
            obtain ⟨j, hj, rfl, HO, HB⟩ := hrel
            obtain ⟨q5, c5, rfl⟩ := own_slice HO.out
            by_cases hjt : j < 8
            · have j0 : (0 : Int) ≤ (j : Int) := by omega
              have j1 : (j : Int) < 8 := by omega
              have cH := range_cell (rangeAt_below HB.out HRH.out.range) j (by rw [HHL.out]; exact hjt)
              rw [Nat.zero_add] at cH
              have bx : Sp.nth H j < 4294967296 := Sp.nth_lt (by decide) HHB.out j
              have HBT : Hid (Sp.bytesTo H (j + 1) = Sp.bytesTo H j ++ Sp.bytes4 (Sp.nth H j)) := Sp.bytesTo_succ H j (by rw [HHL.out]; exact hjt)
              generalize Sp.nth H j = x at *
              have hszB := HB.out.size
              have hgr2 : gh < wr.heap.size := by omega
              go_wp2_with fail
              go_region_held_law (fun w' => w'.cell? ⟨gh, j, none⟩ = some (.int .i64 (x : Nat))) (first | go_keep | assumption | (simp only [World.cell?_drewN]; rw [cell_alloc_g (by simpa using hgr2)]; exact cH)) ((refine step_append_bytes rfl (.tmp 195) (.tmp 222) rfl W9.heap.size (.slice q5 (4 * j) c5) (4 * j) (Sp.bytesTo H j) wr.heap.size 4 4 (Sp.bytes4 x) rfl rfl rfl (own_below HO.out ((below_drewN (Below.refl _ _) _).alloc (Nat.le_refl _) _)) (bytes_new (wr.drewN _) x bx) (by omega) (by simp; omega) ?_; intro v3 w3 HO3 HG3; have hk3 := app_keep HG3.out (own_below HO.out ((below_drewN (Below.refl _ _) _).alloc (Nat.le_refl _) _)) hgr (by simp; omega) ((cell_alloc_g (by simpa using hgr2)).trans cH)))
              have HB3 : Hid (Below W9.heap.size W9 w3) := below_grown' ((below_drewN HB.out _).alloc hszB _) HG3.out (own_below HO.out ((below_drewN (Below.refl _ _) _).alloc (Nat.le_refl _) _)) (by simp; omega) (Nat.le_refl _)
              clear HG3 hk3
              go_wp2
              go_roundw
              case rel =>
                first
                  | exact ⟨j + 1, hjt, rfl, by rw [HBT.out]; exact HO3.out, HB3.out⟩
                  | ((repeat apply Exists.intro)
                     refine ⟨⟨j + 1, hjt, ?_, ?_, HB3.out⟩, rfl⟩
                     · exact rfl
                     · rw [HBT.out]; exact HO3.out)
              case measure => simp [intOf]; omega
            · obtain rfl : j = 8 := by omega
              go_wp2
              go_ret
              exact ⟨_, rfl, by rw [HSUM.out]; exact own_mono HO.out hsW, HBX.out.trans (HB.out.mono hsW)⟩
end Go.Proofs.YtnbdadhdpplldabDoor
