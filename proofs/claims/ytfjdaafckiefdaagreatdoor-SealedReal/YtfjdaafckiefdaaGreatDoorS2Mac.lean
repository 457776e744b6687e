/- Bytes as a string, and back; steps of regions. -/
import Derived.Test.YtfjdaafckiefdaaGreatDoorS2Own
import Derived.Test.YtfjdaafckiefdaaGreatDoorInv
import Derived.OpenShut
import Derived.Laws.AppendOwnNone
import Derived.WalkMore
namespace Go.Proofs.YtfjdaafckiefdaaGreatDoor.S2
open Go.Proofs.YtfjdaafckiefdaaGreatDoor.Sp
open Go.RowKit
def strB (l : List Nat) : ByteArray := (l.map (fun (n : Nat) => (n : Int))).foldl (fun r n => r.push (UInt8.ofNat n.toNat)) ByteArray.empty
theorem run_conv (w : World) (b o c : Nat) (l : List Nat) (h : w.rangeAt b o (ints .u8 l)) : (convert 22 9 (.slice (some ⟨b, o, none⟩) l.length c)).run Tryz.prog w = .ok (.string (strB l)) w := by
  rw [run_convert_bytes_string w 22 9 5 _ _ _ Tryz.underlying22 Tryz.underlying5 Tryz.underlying9]
  have hl : (loadCells ⟨b, o, none⟩ (ints .u8 l).length).run Tryz.prog w = .ok (ints .u8 l).toArray w :=
    run_loadCells_list (P := Tryz.prog) w ⟨b, o, none⟩ (ints .u8 l) (fun j v hv => by rw [Addr.add_mid]; exact h j v hv)
  rw [ints_length] at hl
  have e : (ints .u8 l) = (l.map (fun (n : Nat) => (n : Int))).map (Value.int .u8) := by simp [ints]
  rw [e] at hl
  exact run_bytesToString w ⟨b, o, none⟩ l.length c _ hl
theorem sum_length (m : List Nat) : (Sp.sum m).length = 32 := by
  unfold Sp.sum
  rw [Sp.bytesTo_length _ 8 (by show 8 ≤ 8; omega)]
theorem partsAt_one {w : World} {v : Value} {l : List Nat} {b c : Nat} (h : BytesAt w v l) (hc : w.cell? ⟨b, 0, none⟩ = some v) : PartsAt w (.slice (some ⟨b, 0, none⟩) 1 c) [l] := by
  refine .inr ⟨b, 0, c, [v], rfl, by simp, fun j u hu => ?_, fun i l' hl => ?_⟩
  · cases j with
    | zero => simp at hu; subst hu; exact hc
    | succ j => simp at hu
  · cases i with
    | zero => simp at hl; subst hl; exact ⟨v, rfl, h⟩
    | succ i => simp at hl
section
variable {P : Program} {ops : Array Oper} {Q : Exit → Act → World → Prop} {V : Nat → Value → World → Prop} {G : World → World → Prop}
theorem st_value {i : Nat} {o : Oper} {a' : Act} {w' w'' : World} (v : Value) (hi : ops[i]? = some o) (hw : Region.wanted o (yielded ops a'.tmps) = true)
    (hr : (execOp a'.eval o).run P w' = .ok (.value v) w'') (hg : G w' w'') (hv : V i v w'') : wpOp P ops Q i (fun a'' w2 => G w' w2 ∧ ∃ v, a'' = a'.put o.dst v ∧ V i v w2) a' w' :=
  wpOp_value v hi hw hr ⟨hg, v, rfl, hv⟩
theorem st_call {i : Nat} {o : Oper} {a' : Act} {w' : World} (f : FuncId) (args : Array Value) (hi : ops[i]? = some o) (hw : Region.wanted o (yielded ops a'.tmps) = true)
    (hr : (execOp a'.eval o).run P w' = .ok (.enter f args) w') (h : Calls P f args w' fun e w2 => ∃ v, e = .returned v ∧ G w' w2 ∧ V i v w2) : wpOp P ops Q i (fun a'' w2 => G w' w2 ∧ ∃ v, a'' = a'.put o.dst v ∧ V i v w2) a' w' :=
  wpOp_call f args hi hw hr (h.mono fun _ _ ⟨v, he, hg, hv⟩ => ⟨v, he, hg, v, rfl, hv⟩)
def notDst (ops : Array Oper) (t : Tmp) : Bool := (List.range ops.size).all fun i => !((ops[i]?).bind (·.dst) == some t)
theorem notDst_spec {t : Tmp} (h : notDst ops t = true) (i : Nat) : (ops[i]?).bind (·.dst) ≠ some t := fun e => by
  have hlt : i < ops.size := by
    cases ho : ops[i]? with
    | none => simp [ho] at e
    | some oj => exact (Array.getElem?_eq_some_iff.1 ho).1
  have := List.all_eq_true.1 h i (List.mem_range.2 hlt)
  simp [e] at this
def waits (o : Oper) (j : Nat) : Bool := o.after.any fun e => Region.binds .any e && e.on == j
theorem pre_of {o : Oper} {a' : Act} {w' : World} (hpre : ∀ e ∈ o.after, Region.binds .any e = true → ∀ d, (ops[e.on]?).bind (·.dst) = some d → V e.on (a'.tmps.getD d undef) w') (j : Nat) (d : Tmp)
    (h : waits o j = true) (hd : (ops[j]?).bind (·.dst) = some d) : V j (a'.tmps.getD d undef) w' := by
  obtain ⟨e, he, hb⟩ := Array.any_eq_true'.1 h
  simp only [Bool.and_eq_true, beq_iff_eq] at hb
  obtain ⟨h1, rfl⟩ := hb
  exact hpre e he h1 d hd
theorem wanted_of {o : Oper} {a' : Act} (j : Nat) (d : Tmp) (hg : o.guard = some (j, true)) (hd : (ops[j]?).bind (·.dst) = some d) (hv : a'.tmps.getD d undef = .bool true) : Region.wanted o (yielded ops a'.tmps) = true := by
  have hsome : a'.tmps[d]? = some (.bool true) := by
    cases h : a'.tmps[d]? with
    | none => simp [h, undef] at hv
    | some x => simpa [h] using hv
  simp [Region.wanted, hg, yielded, hd, hsome]
end
/-- A slice of bytes that came in: it is empty with no room; or it leads to a row of bytes. -/
def RowIs (w : World) (a : Option Addr) (len cap : Nat) : Prop :=
  (len = 0 ∧ cap = 0) ∨ ∃ b o l, a = some ⟨b, o, none⟩ ∧ l.length = len ∧ len ≤ cap ∧ cap ≤ 9223372036854775807 ∧ (∀ x ∈ l, x < 256) ∧ w.rangeAt b o (ints .u8 l) ∧ b < w.heap.size
theorem rowIs_nil (w : World) (a : Option Addr) : RowIs w a 0 0 := .inl ⟨rfl, rfl⟩
theorem rowIs_of {w : World} {x : Addr} {len cap : Nat} {zs : List Int} (hl : len ≤ cap) (hm : cap ≤ maxLen) (hz : zs.length = cap)
    (hcell : ∀ i, i < zs.length → w.cell? (x.add i) = some (.int .u8 (zs.getD i 0))) (hwz : ∀ n ∈ zs, (Lit.int .u8 n).wf = true) : RowIs w (some x) len cap := by
  by_cases hc : cap = 0
  · exact .inl ⟨by omega, hc⟩
  · have h0 := hcell 0 (by omega)
    have hx0 : x.add 0 = x := by obtain ⟨b, o, s⟩ := x; unfold Addr.add; split <;> simp_all
    have hsp : x.spot = none := by
      rw [hx0] at h0
      cases hs : x.spot with
      | none => rfl
      | some q =>
        unfold World.cell? at h0
        split at h0
        · simp [hs] at h0
        · cases h0
    obtain ⟨b, o, s⟩ := x
    simp only at hsp
    subst hsp
    have hbd : ∀ n ∈ zs, 0 ≤ n ∧ n ≤ 255 := fun n hn => by
      have := hwz n hn
      simp [Lit.wf, IntKind.min, IntKind.max, IntKind.bits, IntKind.signed] at this
      omega
    refine .inr ⟨b, o, (zs.take len).map Int.toNat, rfl, by simp; omega, hl, by unfold maxLen at hm; omega, fun y hy => ?_, fun j v hv => ?_, ?_⟩
    · obtain ⟨n, hn, rfl⟩ := List.mem_map.1 hy
      have := hbd n (List.mem_of_mem_take hn)
      omega
    · have hj : j < len := by
        have := (List.getElem?_eq_some_iff.1 hv).1
        simp [ints] at this
        omega
      have hj' : j < zs.length := by omega
      have h1 := hcell j hj'
      rw [Addr.add_mid] at h1
      rw [h1, ← hv]
      have := hbd zs[j] (List.getElem_mem hj')
      simp [ints, hj, hj']
      omega
    · have := World.block_lt_of_cell? w _ (by rw [hx0] at h0; exact h0)
      exact this
theorem Tryz.wf_i64 {n : Int} (h : (Lit.int .i64 n).wf = true) : -9223372036854775808 ≤ n ∧ n ≤ 9223372036854775807 := by
  simp [Lit.wf, IntKind.min, IntKind.max, IntKind.bits, IntKind.signed] at h
  omega
def SrcIs (w : World) (v : Value) (l : List Nat) : Prop :=
  (v = .slice none 0 0 ∧ l = []) ∨ ∃ ad c, v = .slice (some ad) l.length c ∧ ∀ j u, (ints .u8 l)[j]? = some u → w.cell? (ad.add j) = some u
theorem SrcIs.below {w w' : World} {v : Value} {l : List Nat} (h : SrcIs w v l) (hb : Below w.heap.size w w') : SrcIs w' v l := by
  rcases h with h | ⟨ad, c, rfl, h⟩
  · exact .inl h
  · exact .inr ⟨ad, c, rfl, fun j u hu => by
      have h1 := h j u hu
      rw [← h1]
      exact hb.cell (World.block_lt_of_cell? w _ h1)⟩
end Go.Proofs.YtfjdaafckiefdaaGreatDoor.S2
/- mac: a key filled up, masked; the plain mathematics of HMAC. -/
namespace Go.Proofs.YtfjdaafckiefdaaGreatDoor.S2
open Go.Proofs.YtfjdaafckiefdaaGreatDoor.Sp
open Go.RowKit
namespace Mk
/-- A key that is longer than a block stands for its sum. -/
def short (key : List Nat) : List Nat := if 64 < key.length then Sp.sum key else key
def fill (key : List Nat) : List Nat := short key ++ List.replicate (64 - (short key).length) 0
def mask (k : List Nat) (x : Nat) : List Nat := k.map fun y => y ^^^ x
def code (key m : List Nat) : List Nat := Sp.sum (mask (fill key) 92 ++ Sp.sum (mask (fill key) 54 ++ m))
theorem short_le (key : List Nat) : (short key).length ≤ 64 := by
  unfold short
  split
  · rw [sum_length]; decide
  · omega
theorem fill_length (key : List Nat) : (fill key).length = 64 := by
  have := short_le key
  simp [fill]
  omega
theorem sum_small (m : List Nat) : ∀ x ∈ Sp.sum m, x < 256 := fun x hx => by
  unfold Sp.sum Sp.bytesTo at hx
  obtain ⟨y, _, hy⟩ := List.mem_flatMap.1 hx
  simp [Sp.bytes4] at hy
  omega
theorem short_small {key : List Nat} (h : ∀ x ∈ key, x < 256) : ∀ x ∈ short key, x < 256 := by
  unfold short
  split
  · exact sum_small key
  · exact h
theorem fill_small {key : List Nat} (h : ∀ x ∈ key, x < 256) : ∀ x ∈ fill key, x < 256 := fun x hx => by
  rcases List.mem_append.1 hx with h1 | h1
  · exact short_small h x h1
  · have := (List.mem_replicate.1 h1).2
    omega
theorem mask_length (k : List Nat) (x : Nat) : (mask k x).length = k.length := by simp [mask]
theorem mask_small {k : List Nat} (h : ∀ x ∈ k, x < 256) {x : Nat} (hx : x < 256) : ∀ y ∈ mask k x, y < 256 := fun y hy => by
  obtain ⟨z, hz, rfl⟩ := List.mem_map.1 hy
  exact Nat.xor_lt_two_pow (n := 8) (h z hz) hx
theorem mask_set (k : List Nat) (x j : Nat) (h : j < k.length) : (mask (k.take j) x ++ k.drop j).set j (Sp.nth k j ^^^ x) = mask (k.take (j + 1)) x ++ k.drop (j + 1) := by
  have e : k.drop j = Sp.nth k j :: k.drop (j + 1) := by
    rw [List.drop_eq_getElem_cons h]
    simp [Sp.nth, h]
  have e2 : k.take (j + 1) = k.take j ++ [Sp.nth k j] := by rw [List.take_add_one, Sp.nth_of h]; rfl
  rw [e, e2, List.set_append_right _ _ (by simp [mask]; omega)]
  simp [mask, Nat.min_eq_left (Nat.le_of_lt h)]
theorem code_small (key m : List Nat) : ∀ x ∈ code key m, x < 256 := sum_small _
theorem code_length (key m : List Nat) : (code key m).length = 32 := sum_length _
end Mk
theorem info39 : (Tryz.prog.info? 138).map (·.size) = some 64 := by kernel_rfl
theorem under39 : Tryz.prog.underlying 138 = some (.array 64 5) := by kernel_rfl
def zeroK : Array Value := arr .u8 (List.replicate 64 0)
theorem zeroK_eq : #[Value.int IntKind.u8 0, Value.int IntKind.u8 0, Value.int IntKind.u8 0, Value.int IntKind.u8 0, Value.int IntKind.u8 0, Value.int IntKind.u8 0, Value.int IntKind.u8 0, Value.int IntKind.u8 0, Value.int IntKind.u8 0, Value.int IntKind.u8 0, Value.int IntKind.u8 0, Value.int IntKind.u8 0, Value.int IntKind.u8 0, Value.int IntKind.u8 0, Value.int IntKind.u8 0, Value.int IntKind.u8 0, Value.int IntKind.u8 0, Value.int IntKind.u8 0, Value.int IntKind.u8 0, Value.int IntKind.u8 0, Value.int IntKind.u8 0, Value.int IntKind.u8 0, Value.int IntKind.u8 0, Value.int IntKind.u8 0, Value.int IntKind.u8 0, Value.int IntKind.u8 0, Value.int IntKind.u8 0, Value.int IntKind.u8 0, Value.int IntKind.u8 0, Value.int IntKind.u8 0, Value.int IntKind.u8 0, Value.int IntKind.u8 0, Value.int IntKind.u8 0, Value.int IntKind.u8 0, Value.int IntKind.u8 0, Value.int IntKind.u8 0, Value.int IntKind.u8 0, Value.int IntKind.u8 0, Value.int IntKind.u8 0, Value.int IntKind.u8 0, Value.int IntKind.u8 0, Value.int IntKind.u8 0, Value.int IntKind.u8 0, Value.int IntKind.u8 0, Value.int IntKind.u8 0, Value.int IntKind.u8 0, Value.int IntKind.u8 0, Value.int IntKind.u8 0, Value.int IntKind.u8 0, Value.int IntKind.u8 0, Value.int IntKind.u8 0, Value.int IntKind.u8 0, Value.int IntKind.u8 0, Value.int IntKind.u8 0, Value.int IntKind.u8 0, Value.int IntKind.u8 0, Value.int IntKind.u8 0, Value.int IntKind.u8 0, Value.int IntKind.u8 0, Value.int IntKind.u8 0, Value.int IntKind.u8 0, Value.int IntKind.u8 0, Value.int IntKind.u8 0, Value.int IntKind.u8 0] = zeroK := rfl
/-- At block g lie bytes of a block's key. -/
def KeyAt (w : World) (g : Nat) (l : List Nat) : Prop := w.heap[g]? = some (.cells (arr .u8 l) 138 (0, 0))
section
variable {w : World} {g : Nat} {l : List Nat}
theorem KeyAt.cell (h : KeyAt w g l) (i : Nat) (hi : i < l.length) : w.cell? ⟨g, i, none⟩ = some (.int .u8 (Sp.nth l i : Nat)) := by
  rw [cell_of_row _ _ _ _ _ _ h]; exact arr_get _ _ _ hi
theorem KeyAt.may (h : KeyAt w g l) (i : Nat) : w.frozen? ⟨g, i, none⟩ = false := frozen_of_row _ _ _ _ _ h
theorem KeyAt.set (h : KeyAt w g l) (i x : Nat) : KeyAt (w.setCell ⟨g, i, none⟩ (.int .u8 (x : Nat))) g (l.set i x) := by
  have := heap_setCell_same w g i (arr .u8 l) 138 (.int .u8 (x : Nat)) h
  unfold KeyAt
  rw [this]
  congr 2
  apply Array.ext'
  simp [arr, ints]
theorem KeyAt.below {w' : World} {B : Nat} (h : KeyAt w g l) (hb : Below B w w') (hg : g < B) : KeyAt w' g l := (hb.block g hg).trans h
theorem KeyAt.grown {w' : World} {g' : Nat} (h : KeyAt w g l) (hg : w.grownBy w' (some g')) (hne : g ≠ g') : KeyAt w' g l := by
  have := hg.block g (Array.getElem?_eq_some_iff.1 h).1 (by simpa using hne)
  exact this.trans h
theorem KeyAt.lt (h : KeyAt w g l) : g < w.heap.size := (Array.getElem?_eq_some_iff.1 h).1
end
theorem key_new (w : World) (l : List Nat) : KeyAt (w.alloc (.cells (arr .u8 l) 138)) w.heap.size l := heap_alloc_new w _
set_option maxHeartbeats 1000000 in
theorem masked_any (k : List Nat) (x : Nat) (w : World) (hl : k.length = 64) (hs : ∀ y ∈ k, y < 256) (hx : x < 256) :
    Calls Tryz.prog 99 #[.agg (arr .u8 k), .int .u8 x] w fun e w' => e = .returned (.slice (some ⟨w.heap.size, 0, none⟩) 64 64) ∧ KeyAt w' w.heap.size (Mk.mask k x) ∧ Below w.heap.size w w' := by
  have HL : Hid (k.length = 64) := hl
  have HS : Hid (∀ y ∈ k, y < 256) := hs
  clear hl hs
  go_enter Tryz.func99, Tryz.ntmps99
  go_wp2_with fail
  go_loopw [6] (fun i wr => ∃ j : Nat, j ≤ 64 ∧ i = .int .i64 j ∧ Hid (KeyAt wr w.heap.size (Mk.mask (k.take j) x ++ k.drop j)) ∧ Hid (Below w.heap.size w wr)) (fun i _ => 64 - (intOf i).toNat)
  case atStart => exact ⟨0, by omega, rfl, key_new w k, (Below.refl _ _).alloc (Nat.le_refl _) _⟩
  case round =>
    obtain ⟨j, hj, rfl, HR, HB⟩ := hrel
    by_cases hlt : j < 64
    · have j0 : (0 : Int) ≤ (j : Int) := by omega
      have j1 : (j : Int) < 64 := by omega
      have hc := HR.out.cell j (by rw [List.length_append, Mk.mask_length, List.length_take, List.length_drop, HL.out]; omega)
      have e1 : Sp.nth (Mk.mask (k.take j) x ++ k.drop j) j = Sp.nth k j := by
        have e := Sp.nth_append_right (l := Mk.mask (k.take j) x) (m := k.drop j) 0
        rw [Mk.mask_length, List.length_take, HL.out, Nat.min_eq_left hj, Nat.add_zero, Sp.nth_drop, Nat.add_zero] at e
        exact e
      rw [e1] at hc
      have hf := HR.out.may j
      have hy : Sp.nth k j < 256 := Sp.nth_lt (by decide) HS.out _
      have hxx := u8_xor_nat _ _ hy hx
      have HN : Hid (KeyAt (wr.setCell ⟨w.heap.size, j, none⟩ (.int .u8 ((Sp.nth k j ^^^ x : Nat) : Int))) w.heap.size (Mk.mask (k.take (j + 1)) x ++ k.drop (j + 1))) := by
        rw [← Mk.mask_set k x j (by rw [HL.out]; exact hlt)]
        exact HR.out.set j _
      have HBN : Hid (Below w.heap.size w (wr.setCell ⟨w.heap.size, j, none⟩ (.int .u8 ((Sp.nth k j ^^^ x : Nat) : Int)))) := HB.out.setCell (Nat.le_refl _) _
      clear e1 HR HB
      generalize Sp.nth k j = y at *
      go_wp2_with fail
      go_roundw
      case rel => exact ⟨j + 1, by omega, by go_num, HN.out, HBN.out⟩
      case measure => simp [intOf]; omega
    · obtain rfl : j = 64 := by omega
      have hR := HR.out
      rw [List.take_of_length_le (by rw [HL.out]; omega), List.drop_eq_nil_of_le (by rw [HL.out]; omega), List.append_nil] at hR
      have HF : Hid (KeyAt wr w.heap.size (Mk.mask k x)) := hR
      clear hR HR
      go_wp2_with fail
      go_ret
      exact ⟨rfl, HF.out, HB.out⟩
end Go.Proofs.YtfjdaafckiefdaaGreatDoor.S2
/- mac: fillUp. -/
namespace Go.Proofs.YtfjdaafckiefdaaGreatDoor.S2
open Go.Proofs.YtfjdaafckiefdaaGreatDoor.Sp
open Go.RowKit
theorem bytesAt_src {w : World} {p : Option Addr} {n c : Nat} {l : List Nat} (h : BytesAt w (.slice p n c) l) : l.length = n ∧ (l ≠ [] → ∃ b o, p = some ⟨b, o, none⟩ ∧ w.rangeAt b o (ints .u8 l)) := by
  rcases h.2 with ⟨p', c', he, rfl⟩ | ⟨b, o, c', he, hc, hr⟩
  · cases he
    exact ⟨rfl, fun h => absurd rfl h⟩
  · cases he
    exact ⟨rfl, fun _ => ⟨b, o, rfl, hr⟩⟩
theorem fill_spliceN (N : Nat) (s : List Nat) : splice (ints .u8 (List.replicate N 0)) 0 (ints .u8 s) = ints .u8 (s ++ List.replicate (N - s.length) 0) := by
  simp [splice, ints]
theorem fill_splice (s : List Nat) : splice (ints .u8 (List.replicate 64 0)) 0 (ints .u8 s) = ints .u8 (s ++ List.replicate (64 - s.length) 0) := fill_spliceN 64 s
set_option maxHeartbeats 1000000 in
theorem fillUp_any (key : List Nat) (p : Option Addr) (n c : Nat) (w : World) (hK : BytesAt w (.slice p n c) key) (hT : Tab w) (hn : n < 576460752303423488) :
    Calls Tryz.prog 96 #[.slice p n c] w fun e w' => e = .returned (.agg (arr .u8 (Mk.fill key))) ∧ Below w.heap.size w w' := by
  have HK : Hid (BytesAt w (.slice p n c) key) := hK
  have HT : Hid (Tab w) := hT
  have HKL : Hid (key.length = n) := (bytesAt_src hK).1
  have n0 : (n : Int) < 576460752303423488 := by omega
  clear hK hT
  by_cases hlong : 64 < n
  · have hl' : (64 : Int) < (n : Int) := by omega
    have HFE : Hid (Mk.fill key = Sp.sum key ++ List.replicate 32 0) := by
      show _ = _
      unfold Mk.fill Mk.short
      rw [if_pos (by rw [HKL.out]; exact hlong), sum_length]
    go_enter Tryz.func96, Tryz.ntmps96
    go_wp2_with fail
    rw [zeroK_eq]
    have hbA : Below w.heap.size w ((w.alloc (Obj.cells zeroK 138)).alloc (.cells #[.slice p n c] 22)) := ((Below.refl _ _).alloc (Nat.le_refl _) _).alloc (by simp) _
    have hcc : ((w.alloc (Obj.cells zeroK 138)).alloc (.cells #[.slice p n c] 22)).cell? ⟨w.heap.size + 1, 0, none⟩ = some (.slice p n c) := by
      have h1 := heap_alloc_new (w.alloc (Obj.cells zeroK 138)) (.cells #[.slice p n c] 22)
      rw [show (w.alloc (Obj.cells zeroK 138)).heap.size = w.heap.size + 1 from by simp] at h1
      rw [cell_of_row _ _ _ _ _ _ h1]; rfl
    have hpa := partsAt_one (c := 1) (bytesAt_below HK.out hbA) hcc
    have hz0 : KeyAt ((w.alloc (Obj.cells zeroK 138)).alloc (.cells #[.slice p n c] 22)) w.heap.size (List.replicate 64 0) := KeyAt.grown (key_new w (List.replicate 64 0)) (grownBy_alloc _ _ (some (w.heap.size + 1))) (by omega)
    refine (sum_any [key] _ _ hpa (tab_below HT.out hbA) (by simp [HKL.out]; omega)).mono ?_
    rintro e W1 ⟨b1, rfl, hb1, hr1, hbb1⟩
    simp only [List.flatten_cons, List.flatten_nil, List.append_nil] at hr1
    have HZ1 : Hid (KeyAt W1 w.heap.size (List.replicate 64 0)) := hz0.below hbb1 (by simp; omega)
    have HBW : Hid (Below w.heap.size w W1) := hbA.trans (hbb1.mono hbA.size)
    have HSRC : Hid (Sp.sum key ≠ [] → ∃ b o, some (⟨b1, 0, none⟩ : Addr) = some ⟨b, o, none⟩ ∧ W1.rangeAt b o (ints .u8 (Sp.sum key))) := fun _ => ⟨b1, 0, rfl, rangeAt_of_row hr1⟩
    have HSL : Hid ((Sp.sum key).length = 32) := sum_length key
    clear hbA hcc hpa hz0 hb1 hr1 hbb1 HK HT
    have HS0 : Hid (KeyAt (W1.alloc (Obj.cells zeroK 138)) W1.heap.size (List.replicate 64 0)) := key_new W1 _
    have HB1 : Hid (Below W1.heap.size W1 (W1.alloc (Obj.cells zeroK 138))) := (Below.refl _ _).alloc (Nat.le_refl _) _
    go_wp2_with (first | with_reducible (refine stop_builtin .copy ?_))
    refine Stop.go ?_
    rw [zeroK_eq]
    have hsrc : 0 < (ints .u8 (Sp.sum key)).length → some (⟨W1.heap.size, 0, none⟩ : Addr) = some ⟨W1.heap.size, 0, none⟩ ∧ ∃ ad : Addr, ((some ⟨b1, 0, none⟩) : Option Addr) = some ad ∧ ∀ (j : Nat) (v : Value), (ints .u8 (Sp.sum key))[j]? = some v → (W1.alloc (Obj.cells zeroK 138)).cell? (ad.add j) = some v := fun h => by
      obtain ⟨b, o, hpe, hr⟩ := HSRC.out (by intro e; rw [e] at h; simp [ints] at h)
      exact ⟨rfl, ⟨b, o, none⟩, hpe, fun j v hv => by rw [Addr.add_mid]; exact rangeAt_below HB1.out hr j v hv⟩
    have hs0 : (W1.alloc (Obj.cells zeroK 138)).heap[W1.heap.size]? = some (.cells (ints .u8 (List.replicate 64 0)).toArray 138 (0, 0)) := HS0.out
    with_reducible refine wpList_copy_splice rfl (.tmp 10) (.tmp 11) 22 22 rfl 5 Tryz.underlying22 info5 (some ⟨W1.heap.size, 0, none⟩) (some ⟨b1, 0, none⟩) 64 64 32 32 ?cdA ?csA W1.heap.size 0 (ints .u8 (List.replicate 64 0)) 138 hs0 (ints .u8 (Sp.sum key)) ?cnA hsrc ?cfA ?c1A W1.heap.size W1 HB1.out (Nat.le_refl _) ?ckA
    case cdA => exact rfl
    case csA => exact rfl
    case cnA => rw [ints_length, HSL.out]; exact (Nat.min_eq_left (by omega)).symm
    case cfA => rw [ints_length, ints_length, HSL.out, List.length_replicate]; omega
    case c1A => exact fun v hv => by obtain ⟨q, _, rfl⟩ := List.mem_map.1 hv; rfl
    intro w2 hk2 hb2
    have HK2 : Hid (KeyAt w2 W1.heap.size (Mk.fill key)) := by
      show _ = _
      rw [hk2.out, fill_splice (Sp.sum key), HSL.out, HFE.out]
      rfl
    have HZ2 : Hid (KeyAt w2 w.heap.size (List.replicate 64 0)) := HZ1.out.below hb2 HZ1.out.lt
    have HB2 : Hid (Below w.heap.size w w2) := HBW.out.trans (hb2.mono HBW.out.size)
    have hlt2 : w.heap.size < W1.heap.size := HZ1.out.lt
    clear hk2 hb2 hsrc hs0 HS0 HB1 HSRC HFE HZ1 HBW
    go_wp2_with (first | with_reducible (refine stop_load 138 ?_))
    refine Stop.go ?_
    with_reducible refine law_load_arr W1.heap.size 0 .u8 (Mk.fill key) _ ?lxA ?lcA under39 rfl ?liA ?lkA
    case lxA => exact rfl
    case lcA => exact rangeAt_of_row HK2.out
    case liA => rw [Mk.fill_length]; exact info39
    go_wp2_with (first | with_reducible (refine stop_store 138 ?_))
    refine Stop.go ?_
    with_reducible refine law_store w.heap.size 0 (arr .u8 (Mk.fill key)) ?txA ?tyA ?ttA ?tiA (ints_one _ _) ?tkA
    case txA => exact rfl
    case tyA => exact rfl
    case ttA => rw [arr_size, Mk.fill_length]; exact there_of_row HZ2.out 64 (by simp [arr_size])
    case tiA => rw [arr_size, Mk.fill_length]; exact info39
    go_wp2_with fail
    refine bodyPost_ret (v := .agg (arr .u8 (Mk.fill key))) (results_row rfl _ _ w.heap.size 0 (ints .u8 (Mk.fill key)) _ rfl ?_ under39 rfl ?_) rfl ⟨rfl, ?_⟩
    · exact World.rangeAt_setCells_same _ _ _ _ (by rw [arr_list, ints_length, Mk.fill_length]; exact there_of_row HZ2.out 64 (by simp [arr_size]))
    · rw [ints_length, Mk.fill_length]; exact info39
    · exact Below.setCells _ _ _ HB2.out (Nat.le_refl _)
  · have hl' : ¬ (64 : Int) < (n : Int) := by omega
    have HFE : Hid (Mk.fill key = key ++ List.replicate (64 - n) 0) := by
      show _ = _
      unfold Mk.fill Mk.short
      rw [if_neg (by rw [HKL.out]; exact hlong), HKL.out]
    go_enter Tryz.func96, Tryz.ntmps96
    obtain ⟨W1, hW1⟩ : ∃ W1, w.alloc (Obj.cells zeroK 138) = W1 := ⟨_, rfl⟩
    have HZ1 : Hid (KeyAt W1 w.heap.size (List.replicate 64 0)) := by
      rw [← hW1]
      exact key_new w _
    have hbA : Below w.heap.size w W1 := by
      rw [← hW1]
      exact (Below.refl _ _).alloc (Nat.le_refl _) _
    have HBW : Hid (Below w.heap.size w W1) := hbA
    have HSRC : Hid (key ≠ [] → ∃ b o, p = some ⟨b, o, none⟩ ∧ W1.rangeAt b o (ints .u8 key)) := fun h0 => by
      obtain ⟨b, o, hp, hr⟩ := (bytesAt_src HK.out).2 h0
      exact ⟨b, o, hp, rangeAt_below hbA hr⟩
    have HSL : Hid (key.length = n) := HKL.out
    have hsz : w.heap.size + 1 = W1.heap.size := by rw [← hW1]; simp
    clear hbA HK HT
    have HS0 : Hid (KeyAt (W1.alloc (Obj.cells zeroK 138)) W1.heap.size (List.replicate 64 0)) := key_new W1 _
    have HB1 : Hid (Below W1.heap.size W1 (W1.alloc (Obj.cells zeroK 138))) := (Below.refl _ _).alloc (Nat.le_refl _) _
    go_wp2_with (first | with_reducible (refine stop_builtin .copy ?_))
    refine Stop.go ?_
    rw [zeroK_eq]
    rw [hW1]
    have hsrc : 0 < (ints .u8 key).length → some (⟨W1.heap.size, 0, none⟩ : Addr) = some ⟨W1.heap.size, 0, none⟩ ∧ ∃ ad : Addr, (p : Option Addr) = some ad ∧ ∀ (j : Nat) (v : Value), (ints .u8 key)[j]? = some v → (W1.alloc (Obj.cells zeroK 138)).cell? (ad.add j) = some v := fun h => by
      obtain ⟨b, o, hpe, hr⟩ := HSRC.out (by intro e; rw [e] at h; simp [ints] at h)
      exact ⟨rfl, ⟨b, o, none⟩, hpe, fun j v hv => by rw [Addr.add_mid]; exact rangeAt_below HB1.out hr j v hv⟩
    have hs0 : (W1.alloc (Obj.cells zeroK 138)).heap[W1.heap.size]? = some (.cells (ints .u8 (List.replicate 64 0)).toArray 138 (0, 0)) := HS0.out
    with_reducible refine wpList_copy_splice rfl (.tmp 10) (.tmp 11) 22 22 rfl 5 Tryz.underlying22 info5 (some ⟨W1.heap.size, 0, none⟩) p 64 64 n c ?cdB ?csB W1.heap.size 0 (ints .u8 (List.replicate 64 0)) 138 hs0 (ints .u8 key) ?cnB hsrc ?cfB ?c1B W1.heap.size W1 HB1.out (Nat.le_refl _) ?ckB
    case cdB => exact rfl
    case csB => exact rfl
    case cnB => rw [ints_length, HSL.out]; exact (Nat.min_eq_left (by omega)).symm
    case cfB => rw [ints_length, ints_length, HSL.out, List.length_replicate]; omega
    case c1B => exact fun v hv => by obtain ⟨q, _, rfl⟩ := List.mem_map.1 hv; rfl
    intro w2 hk2 hb2
    have HK2 : Hid (KeyAt w2 W1.heap.size (Mk.fill key)) := by
      show _ = _
      rw [hk2.out, fill_splice key, HSL.out, HFE.out]
      rfl
    have HZ2 : Hid (KeyAt w2 w.heap.size (List.replicate 64 0)) := HZ1.out.below hb2 HZ1.out.lt
    have HB2 : Hid (Below w.heap.size w w2) := HBW.out.trans (hb2.mono HBW.out.size)
    have hlt2 : w.heap.size < W1.heap.size := HZ1.out.lt
    clear hk2 hb2 hsrc hs0 HS0 HB1 HSRC HFE HZ1 HBW
    go_wp2_with (first | with_reducible (refine stop_load 138 ?_))
    refine Stop.go ?_
    with_reducible refine law_load_arr W1.heap.size 0 .u8 (Mk.fill key) _ ?lxB ?lcB under39 rfl ?liB ?lkB
    case lxB => exact rfl
    case lcB => exact rangeAt_of_row HK2.out
    case liB => rw [Mk.fill_length]; exact info39
    go_wp2_with (first | with_reducible (refine stop_store 138 ?_))
    refine Stop.go ?_
    with_reducible refine law_store w.heap.size 0 (arr .u8 (Mk.fill key)) ?txB ?tyB ?ttB ?tiB (ints_one _ _) ?tkB
    case txB => exact rfl
    case tyB => exact rfl
    case ttB => rw [arr_size, Mk.fill_length]; exact there_of_row HZ2.out 64 (by simp [arr_size])
    case tiB => rw [arr_size, Mk.fill_length]; exact info39
    go_wp2_with fail
    refine bodyPost_ret (v := .agg (arr .u8 (Mk.fill key))) (results_row rfl _ _ w.heap.size 0 (ints .u8 (Mk.fill key)) _ rfl ?_ under39 rfl ?_) rfl ⟨rfl, ?_⟩
    · exact World.rangeAt_setCells_same _ _ _ _ (by rw [arr_list, ints_length, Mk.fill_length]; exact there_of_row HZ2.out 64 (by simp [arr_size]))
    · rw [ints_length, Mk.fill_length]; exact info39
    · exact Below.setCells _ _ _ HB2.out (Nat.le_refl _)
end Go.Proofs.YtfjdaafckiefdaaGreatDoor.S2
/- mac: Code. -/
namespace Go.Proofs.YtfjdaafckiefdaaGreatDoor.S2
open Go.Proofs.YtfjdaafckiefdaaGreatDoor.Sp
open Go.RowKit
theorem key_store (w : World) (K : List Nat) (h : K.length = 64) : KeyAt (World.setCells (w.alloc (Obj.cells zeroK 138)) w.heap.size 0 (arr .u8 K).toList) w.heap.size K ∧
    Below w.heap.size w (World.setCells (w.alloc (Obj.cells zeroK 138)) w.heap.size 0 (arr .u8 K).toList) := by
  refine ⟨?_, Below.setCells _ _ _ ((Below.refl _ _).alloc (Nat.le_refl _) _) (Nat.le_refl _)⟩
  have hz0 : (w.alloc (Obj.cells zeroK 138)).heap[w.heap.size]? = some (.cells (ints .u8 (List.replicate 64 0)).toArray 138 (0, 0)) := heap_alloc_new w _
  have := heap_setCells w.heap.size 138 (ints .u8 K) 0 (w.alloc (Obj.cells zeroK 138)) (ints .u8 (List.replicate 64 0)) hz0 (by rw [ints_length, ints_length, h]; simp)
  unfold KeyAt
  rw [arr_list]
  refine Eq.trans this ?_
  rw [ints_length, h]
  simp [arr, ints]
theorem key_there (w : World) : (w.alloc (Obj.cells zeroK 138)).there w.heap.size 0 64 := there_of_row (heap_alloc_new w (Obj.cells zeroK 138)) 64 (by simp [zeroK, arr_size])
theorem KeyAt.bytes {w : World} {g : Nat} {l : List Nat} (h : KeyAt w g l) (hs : ∀ x ∈ l, x < 256) {n : Nat} (hl : l.length = n) : BytesAt w (.slice (some ⟨g, 0, none⟩) n n) l :=
  ⟨hs, .inr ⟨g, 0, n, by rw [hl], by omega, rangeAt_of_row h⟩⟩
theorem hashAt_lt {w : World} {g : Nat} {m : List Nat} (h : HashAt w g m) : g < w.heap.size := by
  obtain ⟨st, blk, _, h2⟩ := h
  exact (Array.getElem?_eq_some_iff.1 h2).1
set_option maxHeartbeats 2000000 in
theorem code_any (key : List Nat) (ls : List (List Nat)) (p : Option Addr) (n c b o cp : Nat) (vs : List Value) (w : World) (hK : BytesAt w (.slice p n c) key) (hT : Tab w) (hn : n < 576460752303423488)
    (hr : w.rangeAt b o vs) (hel : ∀ (i : Nat) (l : List Nat), ls[i]? = some l → ∃ u, vs[i]? = some u ∧ BytesAt w u l) (hlm : ls.length ≤ 1000) (hln : ls.flatten.length < 500000000000000000) :
    Calls Tryz.prog 55 #[.slice p n c, .slice (some ⟨b, o, none⟩) ls.length cp] w fun e w' => ∃ g, e = .returned (.slice (some ⟨g, 0, none⟩) 32 32) ∧ w.heap.size ≤ g ∧ w'.heap[g]? = some (.cells (arr .u8 (Mk.code key ls.flatten)) 5 (0, 0)) ∧ Below w.heap.size w w' := by
  have HC : Hid (Calls Tryz.prog 96 #[.slice p n c] w fun e w' => e = .returned (.agg (arr .u8 (Mk.fill key))) ∧ Below w.heap.size w w') := fillUp_any key p n c w hK hT hn
  have HT : Hid (Tab w) := hT
  have HR : Hid (w.rangeAt b o vs) := hr
  have HE : Hid (∀ (i : Nat) (l : List Nat), ls[i]? = some l → ∃ u, vs[i]? = some u ∧ BytesAt w u l) := hel
  have HFS : Hid (∀ x ∈ Mk.fill key, x < 256) := Mk.fill_small hK.1
  have HFL : Hid ((Mk.fill key).length = 64) := Mk.fill_length key
  have hpos := tab_pos hT
  have HCD : Hid (Mk.code key ls.flatten = Sp.sum (Mk.mask (Mk.fill key) 92 ++ Sp.sum (Mk.mask (Mk.fill key) 54 ++ ls.flatten))) := rfl
  obtain ⟨CD, hCD⟩ : ∃ CD, Mk.code key ls.flatten = CD := ⟨_, rfl⟩
  rw [hCD]
  rw [hCD] at HCD
  clear hK hT hr hel hCD
  generalize Mk.fill key = K at *
  go_enter Tryz.func55, Tryz.ntmps55
  go_wp2_with fail
  refine HC.out.mono ?_
  rintro e w1 ⟨rfl, hb1⟩
  have HB1 : Hid (Below w.heap.size w w1) := hb1
  have hs1 := hb1.size
  clear hb1 HC
  go_wp2_with (first | with_reducible (refine stop_store 138 ?_))
  rw [zeroK_eq]
  refine Stop.go ?_
  with_reducible refine law_store w1.heap.size 0 (arr .u8 K) ?sx ?sy ?st ?si (ints_one _ _) ?sk
  case sx => exact rfl
  case sy => exact rfl
  case st => rw [arr_size, HFL.out]; exact key_there w1
  case si => rw [arr_size, HFL.out]; exact info39
  obtain ⟨h1, h2⟩ := key_store w1 K HFL.out
  have HK2 : Hid (KeyAt (World.setCells (w1.alloc (Obj.cells zeroK 138)) w1.heap.size 0 (arr .u8 K).toList) w1.heap.size K) := h1
  have HB2 : Hid (Below w.heap.size w (World.setCells (w1.alloc (Obj.cells zeroK 138)) w1.heap.size 0 (arr .u8 K).toList)) := HB1.out.trans (h2.mono hs1)
  clear h1 h2 HB1
  generalize World.setCells (w1.alloc (Obj.cells zeroK 138)) w1.heap.size 0 (arr .u8 K).toList = w2 at *
  generalize w1.heap.size = g5 at *
  go_wp2_with fail
  refine (new_any w2).mono ?_
  rintro e w3' ⟨rfl, hw3⟩
  have HH3 : Hid (HashAt w3' w2.heap.size []) := by rw [hw3]; exact hashAt_new w2
  have hb3 : Below w2.heap.size w2 w3' := by rw [hw3]; exact (Below.refl _ _).alloc (Nat.le_refl _) _
  have HK3 : Hid (KeyAt w3' g5 K) := HK2.out.below hb3 HK2.out.lt
  have HB3 : Hid (Below w.heap.size w w3') := HB2.out.trans (hb3.mono HB2.out.size)
  have hg56 : g5 < w2.heap.size := HK2.out.lt
  clear hw3 hb3 HK2 HB2
  generalize w2.heap.size = g6 at *
  go_wp2_with (first | with_reducible (refine stop_load 138 ?_))
  refine Stop.go ?_
  with_reducible refine law_load_arr g5 0 .u8 K _ ?lx ?lc under39 rfl ?li ?lk
  case lx => exact rfl
  case lc => exact rangeAt_of_row HK3.out
  case li => rw [HFL.out]; exact info39
  go_wp2_with fail
  refine (masked_any K 54 w3' HFL.out HFS.out (by decide)).mono ?_
  rintro e w4 ⟨rfl, hk4, hb4⟩
  have HM4 : Hid (KeyAt w4 w3'.heap.size (Mk.mask K 54)) := hk4
  have hg6 : g6 < w3'.heap.size := hashAt_lt HH3.out
  have HH4 : Hid (HashAt w4 g6 []) := hashAt_below HH3.out (hb4.block g6 hg6)
  have HK4 : Hid (KeyAt w4 g5 K) := HK3.out.below hb4 HK3.out.lt
  have HB4 : Hid (Below w.heap.size w w4) := HB3.out.trans (hb4.mono HB3.out.size)
  have hs3 := HB3.out.size
  clear hk4 hb4 HH3 HK3 HB3
  go_wp2_with fail
  refine (write_any g6 [] (Mk.mask K 54) _ w4 HH4.out (HM4.out.bytes (Mk.mask_small HFS.out (by decide)) (by rw [Mk.mask_length, HFL.out])) (fun _ => by show some w3'.heap.size ≠ some g6; intro e; have := Option.some.inj e; omega) (tab_below HT.out HB4.out) (by omega) (by rw [Mk.mask_length, HFL.out]; decide)).mono ?_
  rintro e w5 ⟨rfl, hh5, hg5⟩
  rw [List.nil_append] at hh5
  have HH5 : Hid (HashAt w5 g6 (Mk.mask K 54)) := hh5
  have HK5 : Hid (KeyAt w5 g5 K) := HK4.out.grown hg5 (by omega)
  have HB5 : Hid (Below w.heap.size w w5) := below_grown HB4.out hg5 HB4.out.size (by omega)
  have hg6w : w.heap.size ≤ g6 := by omega
  clear hh5 hg5 HH4 HK4 HM4 HB4
  go_wp2_with fail
  go_loopw [18] (fun i wr => ∃ k : Nat, k ≤ ls.length ∧ i = .int .i64 k ∧ Hid (HashAt wr g6 (Mk.mask K 54 ++ (ls.take k).flatten)) ∧ Hid (KeyAt wr g5 K) ∧ Hid (Below w.heap.size w wr)) (fun i _ => ls.length - (intOf i).toNat)
  case atStart => exact ⟨0, by omega, rfl, by rw [List.take_zero, List.flatten_nil, List.append_nil]; exact HH5.out, HK5.out, HB5.out⟩
  case round =>
    clear HH5 HK5 HB5
    obtain ⟨k, hk, rfl, HA, HK, HB⟩ := hrel
    by_cases hlt : k < ls.length
    · obtain ⟨l, hl⟩ : ∃ l, ls[k]? = some l := ⟨_, List.getElem?_eq_getElem hlt⟩
      obtain ⟨u, hu, hbu⟩ := HE.out k l hl
      have hcell := HR.out k u hu
      have hcell' : wr.cell? ⟨b, o + k, none⟩ = some u := by
        rw [HB.out.cell (World.block_lt_of_cell? w _ hcell)]; exact hcell
      have hfl := flatten_take ls k l hl
      have hle := flatten_le ls (k + 1)
      rw [hfl, List.length_append] at hle
      have HF : Hid ((ls.take (k + 1)).flatten = (ls.take k).flatten ++ l) := hfl
      have HBU : Hid (BytesAt w u l) := hbu
      have hml : (Mk.mask K 54).length = 64 := by rw [Mk.mask_length, HFL.out]
      clear hcell hfl hbu hu hl
      go_wp2_with fail
      refine (write_any g6 _ l u _ HA.out (bytesAt_below HBU.out HB.out) (fun hl => bytesAt_block HBU.out hl _ hg6w) (tab_below HT.out HB.out) (by omega) (by rw [List.length_append, hml]; omega)).mono ?_
      rintro e w6 ⟨rfl, hA6, hg6'⟩
      have HA6 : Hid (HashAt w6 g6 (Mk.mask K 54 ++ (ls.take (k + 1)).flatten)) := by
        rw [HF.out, ← List.append_assoc]
        exact hA6
      have HK6 : Hid (KeyAt w6 g5 K) := HK.out.grown hg6' (by omega)
      have HB6 : Hid (Below w.heap.size w w6) := below_grown HB.out hg6' HB.out.size hg6w
      clear hA6 hg6' HA HK HB HF HBU hml
      go_wp2_with fail
      go_roundw
      case rel => exact ⟨k + 1, by omega, by go_num, HA6.out, HK6.out, HB6.out⟩
      case measure => simp [intOf]; omega
    · obtain rfl : k = ls.length := by omega
      have hA := HA.out
      rw [List.take_of_length_le (Nat.le_refl _)] at hA
      have HA' : Hid (HashAt wr g6 (Mk.mask K 54 ++ ls.flatten)) := hA
      have hsw := HB.out.size
      clear hA HA
      go_wp2_with (first | with_reducible (refine stop_load 138 ?_))
      refine Stop.go ?_
      with_reducible refine law_load_arr g5 0 .u8 K _ ?mx ?mc under39 rfl ?mi ?mk
      case mx => exact rfl
      case mc => exact rangeAt_of_row HK.out
      case mi => rw [HFL.out]; exact info39
      go_wp2_with fail
      refine (masked_any K 92 wr HFL.out HFS.out (by decide)).mono ?_
      rintro e w7 ⟨rfl, hk7, hb7⟩
      have HM7 : Hid (BytesAt w7 (.slice (some ⟨wr.heap.size, 0, none⟩) 64 64) (Mk.mask K 92)) := hk7.bytes (Mk.mask_small HFS.out (by decide)) (by rw [Mk.mask_length, HFL.out])
      have HH7 : Hid (HashAt w7 g6 (Mk.mask K 54 ++ ls.flatten)) := hashAt_below HA'.out (hb7.block g6 (hashAt_lt HA'.out))
      have HB7 : Hid (Below w.heap.size w w7) := HB.out.trans (hb7.mono hsw)
      clear hk7 hb7 HA' HK HB
      go_wp2_with fail
      refine (hsum_any g6 _ w7 HH7.out (tab_below HT.out HB7.out) (by rw [List.length_append, Mk.mask_length, HFL.out]; omega)).mono ?_
      rintro e w8 ⟨g8, rfl, hg8, hr8, hb8⟩
      have HM8 : Hid (BytesAt w8 (.slice (some ⟨wr.heap.size, 0, none⟩) 64 64) (Mk.mask K 92)) := bytesAt_below HM7.out hb8
      have HS8 : Hid (BytesAt w8 (.slice (some ⟨g8, 0, none⟩) 32 32) (Sp.sum (Mk.mask K 54 ++ ls.flatten))) := ⟨Mk.sum_small _, .inr ⟨g8, 0, 32, by rw [sum_length], by rw [sum_length]; decide, rangeAt_of_row hr8⟩⟩
      have HB8 : Hid (Below w.heap.size w w8) := HB7.out.trans (hb8.mono HB7.out.size)
      clear hg8 hr8 hb8 HM7 HH7 HB7
      go_wp2_with fail
      have hbA : Below w8.heap.size w8 (w8.alloc (.cells #[.slice (some ⟨wr.heap.size, 0, none⟩) 64 64, .slice (some ⟨g8, 0, none⟩) 32 32] 22)) := (Below.refl _ _).alloc (Nat.le_refl _) _
      have hpa : PartsAt (w8.alloc (.cells #[.slice (some ⟨wr.heap.size, 0, none⟩) 64 64, .slice (some ⟨g8, 0, none⟩) 32 32] 22)) (.slice (some ⟨w8.heap.size, 0, none⟩) 2 2) [Mk.mask K 92, Sp.sum (Mk.mask K 54 ++ ls.flatten)] := by
        refine .inr ⟨w8.heap.size, 0, 2, [.slice (some ⟨wr.heap.size, 0, none⟩) 64 64, .slice (some ⟨g8, 0, none⟩) 32 32], rfl, by simp, rangeAt_of_row (heap_alloc_new w8 _), fun i l hl => ?_⟩
        match i with
        | 0 => simp at hl; subst hl; exact ⟨_, rfl, bytesAt_below HM8.out hbA⟩
        | 1 => simp at hl; subst hl; exact ⟨_, rfl, bytesAt_below HS8.out hbA⟩
        | i + 2 => simp at hl
      have hbB : Below w.heap.size w (w8.alloc (.cells #[.slice (some ⟨wr.heap.size, 0, none⟩) 64 64, .slice (some ⟨g8, 0, none⟩) 32 32] 22)) := HB8.out.trans (hbA.mono HB8.out.size)
      refine (sum_any _ _ _ hpa (tab_below HT.out hbB) (by simp [Mk.mask_length, HFL.out, sum_length])).mono ?_
      rintro e w9 ⟨g9, rfl, hg9, hr9, hb9⟩
      have hfe : [Mk.mask K 92, Sp.sum (Mk.mask K 54 ++ ls.flatten)].flatten = Mk.mask K 92 ++ Sp.sum (Mk.mask K 54 ++ ls.flatten) := by simp
      rw [hfe, ← HCD.out] at hr9
      have HR9 : Hid (w9.heap[g9]? = some (.cells (arr .u8 CD) 5 (0, 0))) := hr9
      have HB9 : Hid (Below w.heap.size w w9) := hbB.trans (hb9.mono hbB.size)
      have hg9' : w.heap.size ≤ g9 := Nat.le_trans hbB.size hg9
      clear hg9 hr9 hb9 hfe hpa hbA hbB HM8 HS8 HB8
      go_wp2_with fail
      go_ret
      exact ⟨g9, rfl, hg9', HR9.out, HB9.out⟩
end Go.Proofs.YtfjdaafckiefdaaGreatDoor.S2
