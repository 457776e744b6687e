/- Strings of bytes, put together. -/
import Derived.Test.YtbblokikhocdfaaDoorC3Own
import Derived.Laws.AppendOwn
import Derived.BigRegion
import Derived.Deep.DeepCutAuto
import Derived.Deep.RegionHeld3
import Derived.Test.YtbblokikhocdfaaDoorInv
import Derived.Deep.RegionLaw
namespace Go.Proofs.YtbblokikhocdfaaDoor.C3
theorem strB_fold : ∀ (l : List Nat) (r : ByteArray), ((l.map (fun (n : Nat) => (n : Int))).foldl (fun r n => r.push (UInt8.ofNat n.toNat)) r).data = r.data ++ (l.map fun n => UInt8.ofNat n).toArray
  | [], r => by simp
  | x :: l, r => by
    rw [List.map_cons, List.foldl_cons, strB_fold l]
    simp [ByteArray.push]
theorem strB_data (l : List Nat) : (strB l).data = (l.map fun n => UInt8.ofNat n).toArray := by
  unfold strB
  rw [strB_fold]
  simp
theorem strB_append (a b : List Nat) : strB (a ++ b) = strB a ++ strB b := by
  apply ByteArray.ext
  rw [strB_data, ByteArray.data_append, strB_data, strB_data]
  simp
theorem strB_size (l : List Nat) : (strB l).size = l.length := by
  show (strB l).data.size = _
  rw [strB_data]
  simp
end Go.Proofs.YtbblokikhocdfaaDoor.C3
/- append to a row of one's own: bytes and numbers. -/
namespace Go.Proofs.YtbblokikhocdfaaDoor.C3
open Go.RowKit
theorem own_slice {w : World} {base e size : Nat} {v : Value} {n : Nat} {xs : List Value} (h : w.ownsRow base e size v n xs) : ∃ q c, v = .slice q n c := by
  obtain ⟨_, ⟨rfl, rfl⟩ | ⟨g, cap, cur, rfl, _⟩⟩ := h
  · exact ⟨none, 0, rfl⟩
  · exact ⟨_, cap, rfl⟩
theorem own_none (w : World) (base e size : Nat) : w.ownsRow base e size (.slice none 0 0) 0 [] := ⟨by simp, .inl ⟨rfl, rfl⟩⟩
theorem own_below {w w' : World} {base e size : Nat} {v : Value} {n : Nat} {xs : List Value} (h : w.ownsRow base e size v n xs) (hb : Below w.heap.size w w') : w'.ownsRow base e size v n xs :=
  h.kept (row := none) ⟨hb.os, hb.tape, hb.output, hb.size, fun k hk _ => hb.block k hk⟩ (by cases hv : v.ownBlock <;> simp)
theorem own_cell {w : World} {base : Nat} {v : Value} {k : IntKind} {e n : Nat} {l : List Nat} (h : w.ownsRow base e 1 v n (ints k l)) (hn : 0 < n) : ∃ g c, v = .slice (some ⟨g, 0, none⟩) n c ∧ base ≤ g ∧ g < w.heap.size ∧ n ≤ c ∧ w.rangeAt g 0 (ints k l) := by
  obtain ⟨hl, ⟨rfl, h0⟩ | ⟨g, cap, cur, rfl, hg, hh, hn, hm, hc, ht⟩⟩ := h
  · omega
  · refine ⟨g, cap, rfl, hg, (Array.getElem?_eq_some_iff.1 hh).1, hn, fun j u hu => ?_⟩
    rw [cell_of_row _ _ _ _ _ _ hh, Nat.zero_add]
    have hj := (List.getElem?_eq_some_iff.1 hu).1
    rw [← ht, Nat.mul_one, List.getElem?_take_of_lt (by rw [hl] at hj; omega)] at hu
    simpa using hu
theorem below_grown' {B base : Nat} {a w w' : World} {v : Value} {e size n : Nat} {xs : List Value} (h : Below B a w) (hg : w.grownBy w' v.ownBlock) (hown : w.ownsRow base e size v n xs) (hB : B ≤ w.heap.size) (hb : B ≤ base) : Below B a w' :=
  h.grown hg hB (fun k hk => Nat.le_trans hb (hown.lt k hk).1)
theorem law_append_bytes {ops : Array Oper} {rest : List Oper} {dst : Option Tmp} {T : TypeId} {pos : String} {after : Array Edge} {a : Act} {w : World} {Q : Exit → Act → World → Prop} {st xt : Tmp}
    (base : Nat) (v : Value) (n : Nat) (l : List Nat) (g c : Nat) (m : Nat) (news : List Nat) (hs : a.eval (.tmp st) = v) (hx : a.eval (.tmp xt) = .slice (some ⟨g, 0, none⟩) m c) (hm : news.length = m) (hown : w.ownsRow base 5 1 v n (ints .u8 l)) (hr : w.rangeAt g 0 (ints .u8 news))
    (hn : n + m ≤ 100000) (hbase : base ≤ w.heap.size)
    (h : ∀ v' w', w'.ownsRow base 5 1 v' (n + m) (ints .u8 (l ++ news)) → w.grownBy w' v.ownBlock → wpList Tryd.prog ops Q rest (a.put dst v') w') :
    wpList Tryd.prog ops Q ({ dst := dst, op := .call { callee := .builtin .append, args := #[.tmp st, .tmp xt], argTypes := #[32, 32] }, type := T, pos := pos, after := after, guard := none } :: rest) a w := by
  obtain ⟨i, hi, hsz, hby, hz⟩ := info5e
  refine wpList_append_own _ rfl (.tmp st) (.tmp xt) 32 rfl base 5 i _ 1 1 Tryd.underlying32 hi hz hsz hby rfl (by decide) v n (ints .u8 l) hs hown ⟨g, 0, none⟩ m c (ints .u8 news) hx (by rw [ints_length]; omega) (fun j u hu => by rw [Addr.add_mid]; exact hr j u hu) (fun u hu => by obtain ⟨q, _, rfl⟩ := List.mem_map.1 hu; rfl) (by unfold maxLen; omega) (by omega) hbase (fun v' w' h1 h2 _ => h v' w' (by rw [ints_append]; exact h1) h2)
theorem info3e : ∃ i, Tryd.prog.info? 3 = some i ∧ i.size = 1 ∧ i.bytes = 8 ∧ i.zero = some (.int .i64 0) := info_of (by kernel_rfl)
theorem law_append_ints {ops : Array Oper} {rest : List Oper} {dst : Option Tmp} {T : TypeId} {pos : String} {after : Array Edge} {a : Act} {w : World} {Q : Exit → Act → World → Prop} {st xt : Tmp}
    (base : Nat) (v : Value) (n : Nat) (l : List Nat) (g c : Nat) (m : Nat) (news : List Nat) (hs : a.eval (.tmp st) = v) (hx : a.eval (.tmp xt) = .slice (some ⟨g, 0, none⟩) m c) (hm : news.length = m) (hown : w.ownsRow base 3 1 v n (ints .i64 l)) (hr : w.rangeAt g 0 (ints .i64 news))
    (hn : n + m ≤ 100000) (hbase : base ≤ w.heap.size)
    (h : ∀ v' w', w'.ownsRow base 3 1 v' (n + m) (ints .i64 (l ++ news)) → w.grownBy w' v.ownBlock → wpList Tryd.prog ops Q rest (a.put dst v') w') :
    wpList Tryd.prog ops Q ({ dst := dst, op := .call { callee := .builtin .append, args := #[.tmp st, .tmp xt], argTypes := #[83, 83] }, type := T, pos := pos, after := after, guard := none } :: rest) a w := by
  obtain ⟨i, hi, hsz, hby, hz⟩ := info3e
  refine wpList_append_own _ rfl (.tmp st) (.tmp xt) 83 rfl base 3 i _ 1 8 Tryd.underlying83 hi hz hsz hby rfl (by decide) v n (ints .i64 l) hs hown ⟨g, 0, none⟩ m c (ints .i64 news) hx (by rw [ints_length]; omega) (fun j u hu => by rw [Addr.add_mid]; exact hr j u hu) (fun u hu => by obtain ⟨q, _, rfl⟩ := List.mem_map.1 hu; rfl) (by unfold maxLen; omega) (by omega) hbase (fun v' w' h1 h2 _ => h v' w' (by rw [ints_append]; exact h1) h2)
end Go.Proofs.YtbblokikhocdfaaDoor.C3
/- The document's answer: left, quarter. -/
namespace Go.Proofs.YtbblokikhocdfaaDoor.C3
open Go.RowKit
theorem i64_xor_nat (a b : Nat) (ha : a < 4294967296) (hb : b < 4294967296) : bits .xor .i64 (a : Int) (b : Int) = ((a ^^^ b : Nat) : Int) := by
  have hx : a ^^^ b < 2 ^ 32 := Nat.xor_lt_two_pow (by omega) (by omega)
  have ea : (BitVec.ofInt 64 (a : Int)).toNat = a := by simp; omega
  have eb : (BitVec.ofInt 64 (b : Int)).toNat = b := by simp; omega
  show IntKind.i64.wrap ((BitVec.ofInt 64 (a : Int) ^^^ BitVec.ofInt 64 (b : Int)).toNat : Int) = _
  rw [BitVec.toNat_xor, ea, eb, i64_id _ (by omega)]
set_option maxHeartbeats 400000 in
theorem left16 (x : Nat) (w : World) (hx : x < 4294967296) : Calls Tryd.prog 104 #[.int .i64 x, .int .i64 16] w fun e w' => e = .returned (.int .i64 (Ch.rotl x 16 : Nat)) ∧ w' = w := by
  have h0 : (0 : Int) ≤ (x : Int) := by omega
  have h1 : (x : Int) ≤ 4294967295 := by omega
  have hE : ((Ch.rotl x 16 : Nat) : Int) = (x : Int) * 65536 % 4294967296 + (x : Int) * 65536 / 4294967296 := by
    unfold Ch.rotl
    omega
  go_enter Tryd.func104, Tryd.ntmps104
  go_wp2
  go_ret
  exact ⟨ret_int (by rw [hE]), rfl⟩
set_option maxHeartbeats 400000 in
theorem left12 (x : Nat) (w : World) (hx : x < 4294967296) : Calls Tryd.prog 104 #[.int .i64 x, .int .i64 12] w fun e w' => e = .returned (.int .i64 (Ch.rotl x 12 : Nat)) ∧ w' = w := by
  have h0 : (0 : Int) ≤ (x : Int) := by omega
  have h1 : (x : Int) ≤ 4294967295 := by omega
  have hE : ((Ch.rotl x 12 : Nat) : Int) = (x : Int) * 4096 % 4294967296 + (x : Int) * 4096 / 4294967296 := by
    unfold Ch.rotl
    omega
  go_enter Tryd.func104, Tryd.ntmps104
  go_wp2
  go_ret
  exact ⟨ret_int (by rw [hE]), rfl⟩
set_option maxHeartbeats 400000 in
theorem left8 (x : Nat) (w : World) (hx : x < 4294967296) : Calls Tryd.prog 104 #[.int .i64 x, .int .i64 8] w fun e w' => e = .returned (.int .i64 (Ch.rotl x 8 : Nat)) ∧ w' = w := by
  have h0 : (0 : Int) ≤ (x : Int) := by omega
  have h1 : (x : Int) ≤ 4294967295 := by omega
  have hE : ((Ch.rotl x 8 : Nat) : Int) = (x : Int) * 256 % 4294967296 + (x : Int) * 256 / 4294967296 := by
    unfold Ch.rotl
    omega
  go_enter Tryd.func104, Tryd.ntmps104
  go_wp2
  go_ret
  exact ⟨ret_int (by rw [hE]), rfl⟩
set_option maxHeartbeats 400000 in
theorem left7 (x : Nat) (w : World) (hx : x < 4294967296) : Calls Tryd.prog 104 #[.int .i64 x, .int .i64 7] w fun e w' => e = .returned (.int .i64 (Ch.rotl x 7 : Nat)) ∧ w' = w := by
  have h0 : (0 : Int) ≤ (x : Int) := by omega
  have h1 : (x : Int) ≤ 4294967295 := by omega
  have hE : ((Ch.rotl x 7 : Nat) : Int) = (x : Int) * 128 % 4294967296 + (x : Int) * 128 / 4294967296 := by
    unfold Ch.rotl
    omega
  go_enter Tryd.func104, Tryd.ntmps104
  go_wp2
  go_ret
  exact ⟨ret_int (by rw [hE]), rfl⟩
/-- A row of numbers: a state, and what lies behind it. -/
def RowT (w : World) (g : Nat) (s : List Nat) (tl : List Value) : Prop := w.heap[g]? = some (.cells (ints .i64 s ++ tl).toArray 3 (0, 0))
section
variable {w : World} {g : Nat} {s : List Nat} {tl : List Value}
theorem RowT.cell (h : RowT w g s tl) (i : Nat) (hi : i < s.length) : w.cell? ⟨g, i, none⟩ = some (.int .i64 (Sp.nth s i : Nat)) := by
  rw [cell_of_row _ _ _ _ _ _ h, List.getElem?_toArray, List.getElem?_append_left (by rw [ints_length]; exact hi)]
  exact ints_get _ _ _ hi
theorem RowT.may (h : RowT w g s tl) (i : Nat) : w.frozen? ⟨g, i, none⟩ = false := frozen_of_row _ _ _ _ _ h
theorem RowT.set (h : RowT w g s tl) (i x : Nat) (hi : i < s.length) : RowT (w.setCell ⟨g, i, none⟩ (.int .i64 (x : Nat))) g (s.set i x) tl := by
  have := heap_setCell_same w g i _ 3 (.int .i64 (x : Nat)) h
  unfold RowT
  rw [this]
  congr 2
  apply Array.ext'
  rw [List.setIfInBounds_toArray, List.set_append_left _ _ (by rw [ints_length]; exact hi)]
  simp [ints]
end
set_option maxHeartbeats 4000000 in
theorem rquarter_any (s : List Nat) (tl : List Value) (g cap a b c d : Nat) (w : World) (hs : Ch.Ok s) (hg : RowT w g s tl) (ha : a < 16) (hb : b < 16) (hc : c < 16) (hd : d < 16) :
    Calls Tryd.prog 85 #[.slice (some ⟨g, 0, none⟩) 16 cap, .int .i64 a, .int .i64 b, .int .i64 c, .int .i64 d] w fun e w' => e = .returned (.tuple #[]) ∧ RowT w' g (Ch.quarter s a b c d) tl ∧ w.grownBy w' (some g) := by
  have HQ : Ch.quarter s a b c d = Ch.step (Ch.step (Ch.step (Ch.step s a b d 16) c d b 12) a b d 8) c d b 7 := rfl
  obtain ⟨F, hF⟩ : ∃ F, Ch.quarter s a b c d = F := ⟨_, rfl⟩
  rw [hF]
  have HF : Hid (F = Ch.step (Ch.step (Ch.step (Ch.step s a b d 16) c d b 12) a b d 8) c d b 7) := hF.symm.trans HQ
  have HR0 : Hid (RowT w g s tl) := hg
  have HO0 : Hid (Ch.Ok s) := hs
  have HG0 : Hid (w.grownBy w (some g)) := grownBy_refl _ _
  clear hs hg HQ hF
  have a0 : (0 : Int) ≤ (a : Int) := by omega
  have a1 : (a : Int) < 16 := by omega
  have b0 : (0 : Int) ≤ (b : Int) := by omega
  have b1 : (b : Int) < 16 := by omega
  have c0 : (0 : Int) ≤ (c : Int) := by omega
  have c1 : (c : Int) < 16 := by omega
  have d0 : (0 : Int) ≤ (d : Int) := by omega
  have d1 : (d : Int) < 16 := by omega
  go_enter Tryd.func85, Tryd.ntmps85
  have ca0 := HR0.out.cell a (by rw [HO0.out.1]; exact ha)
  have cb0 := HR0.out.cell b (by rw [HO0.out.1]; exact hb)
  have fa0 := HR0.out.may a
  have xa0 := HO0.out.lt a
  have xb0 := HO0.out.lt b
  have hst : RowT ((w.setCell ⟨g, a, none⟩ (.int .i64 (((Sp.nth s a + Sp.nth s b) % 4294967296 : Nat) : Int))).drew) g (s.set a ((Sp.nth s a + Sp.nth s b) % 4294967296)) tl := HR0.out.set a _ (by rw [HO0.out.1]; exact ha)
  have HOK : Hid (Ch.Ok (s.set a ((Sp.nth s a + Sp.nth s b) % 4294967296))) := HO0.out.set a (Nat.mod_lt _ (by decide))
  have HGR : Hid (w.grownBy ((w.setCell ⟨g, a, none⟩ (.int .i64 (((Sp.nth s a + Sp.nth s b) % 4294967296 : Nat) : Int))).drew) (some g)) := grownBy_drewN (grownBy_set HG0.out a _) 1
  have HST : Hid (RowT ((w.setCell ⟨g, a, none⟩ (.int .i64 (((Sp.nth s a + Sp.nth s b) % 4294967296 : Nat) : Int))).drew) g (s.set a ((Sp.nth s a + Sp.nth s b) % 4294967296)) tl) := hst
  have HE : Hid (Ch.step s a b d 16 = (s.set a ((Sp.nth s a + Sp.nth s b) % 4294967296)).set d (Ch.rotl (Sp.nth (s.set a ((Sp.nth s a + Sp.nth s b) % 4294967296)) d ^^^ Sp.nth (s.set a ((Sp.nth s a + Sp.nth s b) % 4294967296)) a) 16)) := rfl
  have e0 : (((Sp.nth s a + Sp.nth s b) % 4294967296 : Nat) : Int) = ((Sp.nth s a : Nat) + (Sp.nth s b : Nat) : Int) % 4294967296 := by omega
  have e1 : ((Sp.nth s a : Nat) + (Sp.nth s b : Nat) : Int).tmod 4294967296 = ((Sp.nth s a : Nat) + (Sp.nth s b : Nat) : Int) % 4294967296 := Int.tmod_eq_emod_of_nonneg (by omega)
  have e2 : IntKind.i64.wrap ((Sp.nth s a : Nat) + (Sp.nth s b : Nat) : Int) = ((Sp.nth s a : Nat) + (Sp.nth s b : Nat) : Int) := i64_id _ (by omega)
  rw [e0] at HST HGR
  clear hst e0 HR0 HG0 xa0 xb0
  generalize hU : ((Sp.nth s a : Nat) + (Sp.nth s b : Nat) : Int) % 4294967296 = U at *
  clear hU
  generalize Sp.nth s a = ya at ca0 e1 e2
  generalize Sp.nth s b = yb at cb0 e1 e2
  go_wp2
  go_region
  go_wp2
  clear e1 e2 ca0 cb0 fa0
  generalize (w.setCell ⟨g, a, none⟩ (.int .i64 U)).drew = v0 at *
  generalize s.set a ((Sp.nth s a + Sp.nth s b) % 4294967296) = s1 at *
  have cd := HST.out.cell d (by rw [HOK.out.1]; exact hd)
  have ca := HST.out.cell a (by rw [HOK.out.1]; exact ha)
  have fd := HST.out.may d
  have xd : Sp.nth s1 d < 4294967296 := HOK.out.lt d
  have xa : Sp.nth s1 a < 4294967296 := HOK.out.lt a
  have hx := i64_xor_nat _ _ xd xa
  have xx : Sp.nth s1 d ^^^ Sp.nth s1 a < 4294967296 := Nat.xor_lt_two_pow (n := 32) xd xa
  have HN : Hid (RowT (v0.setCell ⟨g, d, none⟩ (.int .i64 ((Ch.rotl (Sp.nth s1 d ^^^ Sp.nth s1 a) 16 : Nat) : Int))) g (Ch.step s a b d 16) tl) := by
    rw [HE.out]
    exact HST.out.set d _ (by rw [HOK.out.1]; exact hd)
  have HGN : Hid (w.grownBy (v0.setCell ⟨g, d, none⟩ (.int .i64 ((Ch.rotl (Sp.nth s1 d ^^^ Sp.nth s1 a) 16 : Nat) : Int))) (some g)) := grownBy_set HGR.out d _
  have HO1 : Hid (Ch.Ok (Ch.step s a b d 16)) := Ch.step_ok HO0.out _ _ _ (by decide)
  clear HE xd xa HST HGR HOK HO0
  generalize Sp.nth s1 d = xd at *
  generalize Sp.nth s1 a = xa at *
  generalize Ch.step s a b d 16 = t0 at *
  go_cut [] from 23 to 35 (fun wx => RowT wx g t0 tl ∧ w.grownBy wx (some g))
  case first =>
    go_region_with ((go_at_call 104; refine (left16 _ _ xx).mono ?_; rintro e w' ⟨rfl, rfl⟩))
    all_goals (go_wp2_with fail; go_meet; exact ⟨HN.out, grownBy_drewN HGN.out 1⟩)
  case rest =>
  have HR1 : Hid (RowT wc g t0 tl) := hcut.1
  have HG1 : Hid (w.grownBy wc (some g)) := hcut.2
  clear hcut HN HGN xx cd ca fd hx
  generalize wc = w1 at *
  have ca1 := HR1.out.cell c (by rw [HO1.out.1]; exact hc)
  have cb1 := HR1.out.cell d (by rw [HO1.out.1]; exact hd)
  have fa1 := HR1.out.may c
  have xa1 := HO1.out.lt c
  have xb1 := HO1.out.lt d
  have hst : RowT ((w1.setCell ⟨g, c, none⟩ (.int .i64 (((Sp.nth t0 c + Sp.nth t0 d) % 4294967296 : Nat) : Int))).drew) g (t0.set c ((Sp.nth t0 c + Sp.nth t0 d) % 4294967296)) tl := HR1.out.set c _ (by rw [HO1.out.1]; exact hc)
  have HOK : Hid (Ch.Ok (t0.set c ((Sp.nth t0 c + Sp.nth t0 d) % 4294967296))) := HO1.out.set c (Nat.mod_lt _ (by decide))
  have HGR : Hid (w.grownBy ((w1.setCell ⟨g, c, none⟩ (.int .i64 (((Sp.nth t0 c + Sp.nth t0 d) % 4294967296 : Nat) : Int))).drew) (some g)) := grownBy_drewN (grownBy_set HG1.out c _) 1
  have HST : Hid (RowT ((w1.setCell ⟨g, c, none⟩ (.int .i64 (((Sp.nth t0 c + Sp.nth t0 d) % 4294967296 : Nat) : Int))).drew) g (t0.set c ((Sp.nth t0 c + Sp.nth t0 d) % 4294967296)) tl) := hst
  have HE : Hid (Ch.step t0 c d b 12 = (t0.set c ((Sp.nth t0 c + Sp.nth t0 d) % 4294967296)).set b (Ch.rotl (Sp.nth (t0.set c ((Sp.nth t0 c + Sp.nth t0 d) % 4294967296)) b ^^^ Sp.nth (t0.set c ((Sp.nth t0 c + Sp.nth t0 d) % 4294967296)) c) 12)) := rfl
  have e0 : (((Sp.nth t0 c + Sp.nth t0 d) % 4294967296 : Nat) : Int) = ((Sp.nth t0 c : Nat) + (Sp.nth t0 d : Nat) : Int) % 4294967296 := by omega
  have e1 : ((Sp.nth t0 c : Nat) + (Sp.nth t0 d : Nat) : Int).tmod 4294967296 = ((Sp.nth t0 c : Nat) + (Sp.nth t0 d : Nat) : Int) % 4294967296 := Int.tmod_eq_emod_of_nonneg (by omega)
  have e2 : IntKind.i64.wrap ((Sp.nth t0 c : Nat) + (Sp.nth t0 d : Nat) : Int) = ((Sp.nth t0 c : Nat) + (Sp.nth t0 d : Nat) : Int) := i64_id _ (by omega)
  rw [e0] at HST HGR
  clear hst e0 HR1 HG1 xa1 xb1
  generalize hU : ((Sp.nth t0 c : Nat) + (Sp.nth t0 d : Nat) : Int) % 4294967296 = U at *
  clear hU
  generalize Sp.nth t0 c = ya at ca1 e1 e2
  generalize Sp.nth t0 d = yb at cb1 e1 e2
  go_wp2
  go_region
  go_wp2
  clear e1 e2 ca1 cb1 fa1
  generalize (w1.setCell ⟨g, c, none⟩ (.int .i64 U)).drew = v1 at *
  generalize t0.set c ((Sp.nth t0 c + Sp.nth t0 d) % 4294967296) = s1 at *
  have cd := HST.out.cell b (by rw [HOK.out.1]; exact hb)
  have ca := HST.out.cell c (by rw [HOK.out.1]; exact hc)
  have fd := HST.out.may b
  have xd : Sp.nth s1 b < 4294967296 := HOK.out.lt b
  have xa : Sp.nth s1 c < 4294967296 := HOK.out.lt c
  have hx := i64_xor_nat _ _ xd xa
  have xx : Sp.nth s1 b ^^^ Sp.nth s1 c < 4294967296 := Nat.xor_lt_two_pow (n := 32) xd xa
  have HN : Hid (RowT (v1.setCell ⟨g, b, none⟩ (.int .i64 ((Ch.rotl (Sp.nth s1 b ^^^ Sp.nth s1 c) 12 : Nat) : Int))) g (Ch.step t0 c d b 12) tl) := by
    rw [HE.out]
    exact HST.out.set b _ (by rw [HOK.out.1]; exact hb)
  have HGN : Hid (w.grownBy (v1.setCell ⟨g, b, none⟩ (.int .i64 ((Ch.rotl (Sp.nth s1 b ^^^ Sp.nth s1 c) 12 : Nat) : Int))) (some g)) := grownBy_set HGR.out b _
  have HO2 : Hid (Ch.Ok (Ch.step t0 c d b 12)) := Ch.step_ok HO1.out _ _ _ (by decide)
  clear HE xd xa HST HGR HOK HO1
  generalize Sp.nth s1 b = xd at *
  generalize Sp.nth s1 c = xa at *
  generalize Ch.step t0 c d b 12 = t1 at *
  go_cut [] from 49 to 61 (fun wx => RowT wx g t1 tl ∧ w.grownBy wx (some g))
  case first =>
    go_region_with ((go_at_call 104; refine (left12 _ _ xx).mono ?_; rintro e w' ⟨rfl, rfl⟩))
    all_goals (go_wp2_with fail; go_meet; exact ⟨HN.out, grownBy_drewN HGN.out 1⟩)
  case rest =>
  have HR2 : Hid (RowT wc g t1 tl) := hcut.1
  have HG2 : Hid (w.grownBy wc (some g)) := hcut.2
  clear hcut HN HGN xx cd ca fd hx
  generalize wc = w2 at *
  have ca2 := HR2.out.cell a (by rw [HO2.out.1]; exact ha)
  have cb2 := HR2.out.cell b (by rw [HO2.out.1]; exact hb)
  have fa2 := HR2.out.may a
  have xa2 := HO2.out.lt a
  have xb2 := HO2.out.lt b
  have hst : RowT ((w2.setCell ⟨g, a, none⟩ (.int .i64 (((Sp.nth t1 a + Sp.nth t1 b) % 4294967296 : Nat) : Int))).drew) g (t1.set a ((Sp.nth t1 a + Sp.nth t1 b) % 4294967296)) tl := HR2.out.set a _ (by rw [HO2.out.1]; exact ha)
  have HOK : Hid (Ch.Ok (t1.set a ((Sp.nth t1 a + Sp.nth t1 b) % 4294967296))) := HO2.out.set a (Nat.mod_lt _ (by decide))
  have HGR : Hid (w.grownBy ((w2.setCell ⟨g, a, none⟩ (.int .i64 (((Sp.nth t1 a + Sp.nth t1 b) % 4294967296 : Nat) : Int))).drew) (some g)) := grownBy_drewN (grownBy_set HG2.out a _) 1
  have HST : Hid (RowT ((w2.setCell ⟨g, a, none⟩ (.int .i64 (((Sp.nth t1 a + Sp.nth t1 b) % 4294967296 : Nat) : Int))).drew) g (t1.set a ((Sp.nth t1 a + Sp.nth t1 b) % 4294967296)) tl) := hst
  have HE : Hid (Ch.step t1 a b d 8 = (t1.set a ((Sp.nth t1 a + Sp.nth t1 b) % 4294967296)).set d (Ch.rotl (Sp.nth (t1.set a ((Sp.nth t1 a + Sp.nth t1 b) % 4294967296)) d ^^^ Sp.nth (t1.set a ((Sp.nth t1 a + Sp.nth t1 b) % 4294967296)) a) 8)) := rfl
  have e0 : (((Sp.nth t1 a + Sp.nth t1 b) % 4294967296 : Nat) : Int) = ((Sp.nth t1 a : Nat) + (Sp.nth t1 b : Nat) : Int) % 4294967296 := by omega
  have e1 : ((Sp.nth t1 a : Nat) + (Sp.nth t1 b : Nat) : Int).tmod 4294967296 = ((Sp.nth t1 a : Nat) + (Sp.nth t1 b : Nat) : Int) % 4294967296 := Int.tmod_eq_emod_of_nonneg (by omega)
  have e2 : IntKind.i64.wrap ((Sp.nth t1 a : Nat) + (Sp.nth t1 b : Nat) : Int) = ((Sp.nth t1 a : Nat) + (Sp.nth t1 b : Nat) : Int) := i64_id _ (by omega)
  rw [e0] at HST HGR
  clear hst e0 HR2 HG2 xa2 xb2
  generalize hU : ((Sp.nth t1 a : Nat) + (Sp.nth t1 b : Nat) : Int) % 4294967296 = U at *
  clear hU
  generalize Sp.nth t1 a = ya at ca2 e1 e2
  generalize Sp.nth t1 b = yb at cb2 e1 e2
  go_wp2
  go_region
  go_wp2
  clear e1 e2 ca2 cb2 fa2
  generalize (w2.setCell ⟨g, a, none⟩ (.int .i64 U)).drew = v2 at *
  generalize t1.set a ((Sp.nth t1 a + Sp.nth t1 b) % 4294967296) = s1 at *
  have cd := HST.out.cell d (by rw [HOK.out.1]; exact hd)
  have ca := HST.out.cell a (by rw [HOK.out.1]; exact ha)
  have fd := HST.out.may d
  have xd : Sp.nth s1 d < 4294967296 := HOK.out.lt d
  have xa : Sp.nth s1 a < 4294967296 := HOK.out.lt a
  have hx := i64_xor_nat _ _ xd xa
  have xx : Sp.nth s1 d ^^^ Sp.nth s1 a < 4294967296 := Nat.xor_lt_two_pow (n := 32) xd xa
  have HN : Hid (RowT (v2.setCell ⟨g, d, none⟩ (.int .i64 ((Ch.rotl (Sp.nth s1 d ^^^ Sp.nth s1 a) 8 : Nat) : Int))) g (Ch.step t1 a b d 8) tl) := by
    rw [HE.out]
    exact HST.out.set d _ (by rw [HOK.out.1]; exact hd)
  have HGN : Hid (w.grownBy (v2.setCell ⟨g, d, none⟩ (.int .i64 ((Ch.rotl (Sp.nth s1 d ^^^ Sp.nth s1 a) 8 : Nat) : Int))) (some g)) := grownBy_set HGR.out d _
  have HO3 : Hid (Ch.Ok (Ch.step t1 a b d 8)) := Ch.step_ok HO2.out _ _ _ (by decide)
  clear HE xd xa HST HGR HOK HO2
  generalize Sp.nth s1 d = xd at *
  generalize Sp.nth s1 a = xa at *
  generalize Ch.step t1 a b d 8 = t2 at *
  go_cut [] from 75 to 87 (fun wx => RowT wx g t2 tl ∧ w.grownBy wx (some g))
  case first =>
    go_region_with ((go_at_call 104; refine (left8 _ _ xx).mono ?_; rintro e w' ⟨rfl, rfl⟩))
    all_goals (go_wp2_with fail; go_meet; exact ⟨HN.out, grownBy_drewN HGN.out 1⟩)
  case rest =>
  have HR3 : Hid (RowT wc g t2 tl) := hcut.1
  have HG3 : Hid (w.grownBy wc (some g)) := hcut.2
  clear hcut HN HGN xx cd ca fd hx
  generalize wc = w3 at *
  have ca3 := HR3.out.cell c (by rw [HO3.out.1]; exact hc)
  have cb3 := HR3.out.cell d (by rw [HO3.out.1]; exact hd)
  have fa3 := HR3.out.may c
  have xa3 := HO3.out.lt c
  have xb3 := HO3.out.lt d
  have hst : RowT ((w3.setCell ⟨g, c, none⟩ (.int .i64 (((Sp.nth t2 c + Sp.nth t2 d) % 4294967296 : Nat) : Int))).drew) g (t2.set c ((Sp.nth t2 c + Sp.nth t2 d) % 4294967296)) tl := HR3.out.set c _ (by rw [HO3.out.1]; exact hc)
  have HOK : Hid (Ch.Ok (t2.set c ((Sp.nth t2 c + Sp.nth t2 d) % 4294967296))) := HO3.out.set c (Nat.mod_lt _ (by decide))
  have HGR : Hid (w.grownBy ((w3.setCell ⟨g, c, none⟩ (.int .i64 (((Sp.nth t2 c + Sp.nth t2 d) % 4294967296 : Nat) : Int))).drew) (some g)) := grownBy_drewN (grownBy_set HG3.out c _) 1
  have HST : Hid (RowT ((w3.setCell ⟨g, c, none⟩ (.int .i64 (((Sp.nth t2 c + Sp.nth t2 d) % 4294967296 : Nat) : Int))).drew) g (t2.set c ((Sp.nth t2 c + Sp.nth t2 d) % 4294967296)) tl) := hst
  have HE : Hid (Ch.step t2 c d b 7 = (t2.set c ((Sp.nth t2 c + Sp.nth t2 d) % 4294967296)).set b (Ch.rotl (Sp.nth (t2.set c ((Sp.nth t2 c + Sp.nth t2 d) % 4294967296)) b ^^^ Sp.nth (t2.set c ((Sp.nth t2 c + Sp.nth t2 d) % 4294967296)) c) 7)) := rfl
  have e0 : (((Sp.nth t2 c + Sp.nth t2 d) % 4294967296 : Nat) : Int) = ((Sp.nth t2 c : Nat) + (Sp.nth t2 d : Nat) : Int) % 4294967296 := by omega
  have e1 : ((Sp.nth t2 c : Nat) + (Sp.nth t2 d : Nat) : Int).tmod 4294967296 = ((Sp.nth t2 c : Nat) + (Sp.nth t2 d : Nat) : Int) % 4294967296 := Int.tmod_eq_emod_of_nonneg (by omega)
  have e2 : IntKind.i64.wrap ((Sp.nth t2 c : Nat) + (Sp.nth t2 d : Nat) : Int) = ((Sp.nth t2 c : Nat) + (Sp.nth t2 d : Nat) : Int) := i64_id _ (by omega)
  rw [e0] at HST HGR
  clear hst e0 HR3 HG3 xa3 xb3
  generalize hU : ((Sp.nth t2 c : Nat) + (Sp.nth t2 d : Nat) : Int) % 4294967296 = U at *
  clear hU
  generalize Sp.nth t2 c = ya at ca3 e1 e2
  generalize Sp.nth t2 d = yb at cb3 e1 e2
  go_wp2
  go_region
  go_wp2
  clear e1 e2 ca3 cb3 fa3
  generalize (w3.setCell ⟨g, c, none⟩ (.int .i64 U)).drew = v3 at *
  generalize t2.set c ((Sp.nth t2 c + Sp.nth t2 d) % 4294967296) = s1 at *
  have cd := HST.out.cell b (by rw [HOK.out.1]; exact hb)
  have ca := HST.out.cell c (by rw [HOK.out.1]; exact hc)
  have fd := HST.out.may b
  have xd : Sp.nth s1 b < 4294967296 := HOK.out.lt b
  have xa : Sp.nth s1 c < 4294967296 := HOK.out.lt c
  have hx := i64_xor_nat _ _ xd xa
  have xx : Sp.nth s1 b ^^^ Sp.nth s1 c < 4294967296 := Nat.xor_lt_two_pow (n := 32) xd xa
  have HN : Hid (RowT (v3.setCell ⟨g, b, none⟩ (.int .i64 ((Ch.rotl (Sp.nth s1 b ^^^ Sp.nth s1 c) 7 : Nat) : Int))) g (Ch.step t2 c d b 7) tl) := by
    rw [HE.out]
    exact HST.out.set b _ (by rw [HOK.out.1]; exact hb)
  have HGN : Hid (w.grownBy (v3.setCell ⟨g, b, none⟩ (.int .i64 ((Ch.rotl (Sp.nth s1 b ^^^ Sp.nth s1 c) 7 : Nat) : Int))) (some g)) := grownBy_set HGR.out b _
  have HO4 : Hid (Ch.Ok (Ch.step t2 c d b 7)) := Ch.step_ok HO3.out _ _ _ (by decide)
  clear HE xd xa HST HGR HOK HO3
  generalize Sp.nth s1 b = xd at *
  generalize Sp.nth s1 c = xa at *
  generalize Ch.step t2 c d b 7 = t3 at *
  go_region_with ((go_at_call 104; refine (left7 _ _ xx).mono ?_; rintro e w' ⟨rfl, rfl⟩))
  all_goals (refine bodyPost_end (results_none rfl _ _ _) rfl ?_; exact ⟨rfl, HF.out ▸ HN.out, grownBy_drewN HGN.out 1⟩)
end Go.Proofs.YtbblokikhocdfaaDoor.C3
/- The document's answer: word, Block. -/
namespace Go.Proofs.YtbblokikhocdfaaDoor.C3
open Go.RowKit
set_option maxHeartbeats 400000 in
theorem word32 (b : List Nat) (g o c i : Nat) (w : World) (hs : ∀ x ∈ b, x < 256) (hr : w.rangeAt g o (ints .u8 b)) (hl : b.length = 32) (hi : i + 3 < 32) :
    Calls Tryd.prog 84 #[.slice (some ⟨g, o, none⟩) 32 c, .int .i64 i] w fun e w' => e = .returned (.int .i64 (Ch.word b i : Nat)) ∧ ∃ n, w' = w.drewN n := by
  have c0 := range_cell hr i (by omega)
  have c1 := range_cell hr (i + 1) (by omega)
  have c2 := range_cell hr (i + 2) (by omega)
  have c3 := range_cell hr (i + 3) (by omega)
  have s0 := Sp.nth_lt (by decide) hs i
  have s1 := Sp.nth_lt (by decide) hs (i + 1)
  have s2 := Sp.nth_lt (by decide) hs (i + 2)
  have s3 := Sp.nth_lt (by decide) hs (i + 3)
  have HE : Hid (Ch.word b i = Sp.nth b i + Sp.nth b (i + 1) * 256 + Sp.nth b (i + 2) * 65536 + Sp.nth b (i + 3) * 16777216) := rfl
  clear hr hs hl
  generalize Sp.nth b i = x0 at *
  generalize Sp.nth b (i + 1) = x1 at *
  generalize Sp.nth b (i + 2) = x2 at *
  generalize Sp.nth b (i + 3) = x3 at *
  have i0 : (0 : Int) ≤ (i : Int) := by omega
  have l3 : (i : Int) + 3 < 32 := by omega
  have l0 : (i : Int) < 32 := by omega
  have l1 : (i : Int) + 1 < 32 := by omega
  have l2 : (i : Int) + 2 < 32 := by omega
  go_enter Tryd.func84, Tryd.ntmps84
  go_wp2_with fail
  go_quiet (fail)
  go_wp2
  go_ret
  refine ⟨ret_int ?_, nq, rfl⟩
  rw [HE.out]
  omega
set_option maxHeartbeats 400000 in
theorem word12 (b : List Nat) (g o c i : Nat) (w : World) (hs : ∀ x ∈ b, x < 256) (hr : w.rangeAt g o (ints .u8 b)) (hl : b.length = 12) (hi : i + 3 < 12) :
    Calls Tryd.prog 84 #[.slice (some ⟨g, o, none⟩) 12 c, .int .i64 i] w fun e w' => e = .returned (.int .i64 (Ch.word b i : Nat)) ∧ ∃ n, w' = w.drewN n := by
  have c0 := range_cell hr i (by omega)
  have c1 := range_cell hr (i + 1) (by omega)
  have c2 := range_cell hr (i + 2) (by omega)
  have c3 := range_cell hr (i + 3) (by omega)
  have s0 := Sp.nth_lt (by decide) hs i
  have s1 := Sp.nth_lt (by decide) hs (i + 1)
  have s2 := Sp.nth_lt (by decide) hs (i + 2)
  have s3 := Sp.nth_lt (by decide) hs (i + 3)
  have HE : Hid (Ch.word b i = Sp.nth b i + Sp.nth b (i + 1) * 256 + Sp.nth b (i + 2) * 65536 + Sp.nth b (i + 3) * 16777216) := rfl
  clear hr hs hl
  generalize Sp.nth b i = x0 at *
  generalize Sp.nth b (i + 1) = x1 at *
  generalize Sp.nth b (i + 2) = x2 at *
  generalize Sp.nth b (i + 3) = x3 at *
  have i0 : (0 : Int) ≤ (i : Int) := by omega
  have l3 : (i : Int) + 3 < 12 := by omega
  have l0 : (i : Int) < 12 := by omega
  have l1 : (i : Int) + 1 < 12 := by omega
  have l2 : (i : Int) + 2 < 12 := by omega
  go_enter Tryd.func84, Tryd.ntmps84
  go_wp2_with fail
  go_quiet (fail)
  go_wp2
  go_ret
  refine ⟨ret_int ?_, nq, rfl⟩
  rw [HE.out]
  omega
def c4 : List Nat := [1634760805, 857760878, 2036477234, 1797285236]
theorem start_c4 (key nonce : List Nat) (c : Nat) : c4 ++ Ch.words key 8 ++ [c] ++ Ch.words nonce 3 = Ch.start key c nonce := rfl
theorem own_new (w : World) (k : IntKind) (e : TypeId) (l : List Nat) (hl : l.length ≤ 100000) : (w.alloc (.cells (arr k l) e)).ownsRow w.heap.size e 1 (.slice (some ⟨w.heap.size, 0, none⟩) l.length l.length) l.length (ints k l) :=
  ⟨by rw [ints_length]; omega, .inr ⟨w.heap.size, l.length, arr k l, rfl, Nat.le_refl _, heap_alloc_new w _, Nat.le_refl _, by unfold maxLen; omega, by rw [arr_size]; omega, by rw [arr_list, Nat.mul_one]; exact List.take_of_length_le (by rw [ints_length]; exact Nat.le_refl _)⟩⟩
theorem own_row {w : World} {base : Nat} {v : Value} {n : Nat} {s : List Nat} (h : w.ownsRow base 3 1 v n (ints .i64 s)) (hn : 0 < n) : ∃ g c tl, v = .slice (some ⟨g, 0, none⟩) n c ∧ base ≤ g ∧ g < w.heap.size ∧ RowT w g s tl := by
  obtain ⟨hl, ⟨rfl, h0⟩ | ⟨g, cap, cur, rfl, hg, hh, hn, hm, hc, ht⟩⟩ := h
  · omega
  · refine ⟨g, cap, cur.toList.drop (n * 1), rfl, hg, (Array.getElem?_eq_some_iff.1 hh).1, ?_⟩
    unfold RowT
    rw [hh, ← ht, List.take_append_drop]
theorem RowT.range {w : World} {g : Nat} {s : List Nat} {tl : List Value} (h : RowT w g s tl) : w.rangeAt g 0 (ints .i64 s) := fun j v hv => by
  rw [cell_of_row _ _ _ _ _ _ h, Nat.zero_add, List.getElem?_toArray, List.getElem?_append_left (List.getElem?_eq_some_iff.1 hv).1]
  exact hv
theorem RowT.grown {w w' : World} {g g' : Nat} {s : List Nat} {tl : List Value} (h : RowT w g s tl) (hg : w.grownBy w' (some g')) (hne : g ≠ g') : RowT w' g s tl := by
  have := hg.block g (Array.getElem?_eq_some_iff.1 h).1 (by simpa using hne)
  exact this.trans h
theorem RowT.below {w w' : World} {g B : Nat} {s : List Nat} {tl : List Value} (h : RowT w g s tl) (hb : Below B w w') (hg : g < B) : RowT w' g s tl := (hb.block g hg).trans h
theorem RowT.lt {w : World} {g : Nat} {s : List Nat} {tl : List Value} (h : RowT w g s tl) : g < w.heap.size := (Array.getElem?_eq_some_iff.1 h).1
theorem rq_0_4 (s : List Nat) (tl : List Value) (g cap : Nat) (w : World) (hs : Ch.Ok s) (hg : RowT w g s tl) :
    Calls Tryd.prog 85 #[.slice (some ⟨g, 0, none⟩) 16 cap, .int .i64 0, .int .i64 4, .int .i64 8, .int .i64 12] w fun e w' => e = .returned (.tuple #[]) ∧ RowT w' g (Ch.quarter s 0 4 8 12) tl ∧ w.grownBy w' (some g) :=
  rquarter_any s tl g cap 0 4 8 12 w hs hg (by decide) (by decide) (by decide) (by decide)
theorem rq_1_5 (s : List Nat) (tl : List Value) (g cap : Nat) (w : World) (hs : Ch.Ok s) (hg : RowT w g s tl) :
    Calls Tryd.prog 85 #[.slice (some ⟨g, 0, none⟩) 16 cap, .int .i64 1, .int .i64 5, .int .i64 9, .int .i64 13] w fun e w' => e = .returned (.tuple #[]) ∧ RowT w' g (Ch.quarter s 1 5 9 13) tl ∧ w.grownBy w' (some g) :=
  rquarter_any s tl g cap 1 5 9 13 w hs hg (by decide) (by decide) (by decide) (by decide)
theorem rq_2_6 (s : List Nat) (tl : List Value) (g cap : Nat) (w : World) (hs : Ch.Ok s) (hg : RowT w g s tl) :
    Calls Tryd.prog 85 #[.slice (some ⟨g, 0, none⟩) 16 cap, .int .i64 2, .int .i64 6, .int .i64 10, .int .i64 14] w fun e w' => e = .returned (.tuple #[]) ∧ RowT w' g (Ch.quarter s 2 6 10 14) tl ∧ w.grownBy w' (some g) :=
  rquarter_any s tl g cap 2 6 10 14 w hs hg (by decide) (by decide) (by decide) (by decide)
theorem rq_3_7 (s : List Nat) (tl : List Value) (g cap : Nat) (w : World) (hs : Ch.Ok s) (hg : RowT w g s tl) :
    Calls Tryd.prog 85 #[.slice (some ⟨g, 0, none⟩) 16 cap, .int .i64 3, .int .i64 7, .int .i64 11, .int .i64 15] w fun e w' => e = .returned (.tuple #[]) ∧ RowT w' g (Ch.quarter s 3 7 11 15) tl ∧ w.grownBy w' (some g) :=
  rquarter_any s tl g cap 3 7 11 15 w hs hg (by decide) (by decide) (by decide) (by decide)
theorem rq_0_5 (s : List Nat) (tl : List Value) (g cap : Nat) (w : World) (hs : Ch.Ok s) (hg : RowT w g s tl) :
    Calls Tryd.prog 85 #[.slice (some ⟨g, 0, none⟩) 16 cap, .int .i64 0, .int .i64 5, .int .i64 10, .int .i64 15] w fun e w' => e = .returned (.tuple #[]) ∧ RowT w' g (Ch.quarter s 0 5 10 15) tl ∧ w.grownBy w' (some g) :=
  rquarter_any s tl g cap 0 5 10 15 w hs hg (by decide) (by decide) (by decide) (by decide)
theorem rq_1_6 (s : List Nat) (tl : List Value) (g cap : Nat) (w : World) (hs : Ch.Ok s) (hg : RowT w g s tl) :
    Calls Tryd.prog 85 #[.slice (some ⟨g, 0, none⟩) 16 cap, .int .i64 1, .int .i64 6, .int .i64 11, .int .i64 12] w fun e w' => e = .returned (.tuple #[]) ∧ RowT w' g (Ch.quarter s 1 6 11 12) tl ∧ w.grownBy w' (some g) :=
  rquarter_any s tl g cap 1 6 11 12 w hs hg (by decide) (by decide) (by decide) (by decide)
theorem rq_2_7 (s : List Nat) (tl : List Value) (g cap : Nat) (w : World) (hs : Ch.Ok s) (hg : RowT w g s tl) :
    Calls Tryd.prog 85 #[.slice (some ⟨g, 0, none⟩) 16 cap, .int .i64 2, .int .i64 7, .int .i64 8, .int .i64 13] w fun e w' => e = .returned (.tuple #[]) ∧ RowT w' g (Ch.quarter s 2 7 8 13) tl ∧ w.grownBy w' (some g) :=
  rquarter_any s tl g cap 2 7 8 13 w hs hg (by decide) (by decide) (by decide) (by decide)
theorem rq_3_4 (s : List Nat) (tl : List Value) (g cap : Nat) (w : World) (hs : Ch.Ok s) (hg : RowT w g s tl) :
    Calls Tryd.prog 85 #[.slice (some ⟨g, 0, none⟩) 16 cap, .int .i64 3, .int .i64 4, .int .i64 9, .int .i64 14] w fun e w' => e = .returned (.tuple #[]) ∧ RowT w' g (Ch.quarter s 3 4 9 14) tl ∧ w.grownBy w' (some g) :=
  rquarter_any s tl g cap 3 4 9 14 w hs hg (by decide) (by decide) (by decide) (by decide)
end Go.Proofs.YtbblokikhocdfaaDoor.C3
/- The document's answer: Block. -/
namespace Go.Proofs.YtbblokikhocdfaaDoor.C3
open Go.RowKit
theorem below_size {w w' : World} {B : Nat} (h : Below B w w') : w.heap.size ≤ w'.heap.size := h.size
set_option maxRecDepth 8000 in
set_option maxHeartbeats 8000000 in
theorem rblock_any (key nonce : List Nat) (bk ok ck bn on cn c : Nat) (w : World) (hk : key.length = 32) (hn : nonce.length = 12) (hK : SliceIs w bk ok key) (hN : SliceIs w bn on nonce) (hc : c < 4294967296) :
    Calls Tryd.prog 67 #[.slice (some ⟨bk, ok, none⟩) 32 ck, .int .i64 c, .slice (some ⟨bn, on, none⟩) 12 cn] w fun e w' => ∃ g cp, e = .returned (.slice (some ⟨g, 0, none⟩) 64 cp) ∧ w.heap.size ≤ g ∧ 64 ≤ cp ∧ w'.rangeAt g 0 (ints .u8 (Ch.blockOf key c nonce)) ∧ Below w.heap.size w w' := by
  have HK : Hid (SliceIs w bk ok key) := hK
  have HN : Hid (SliceIs w bn on nonce) := hN
  have HKL : Hid (key.length = 32) := hk
  have HNL : Hid (nonce.length = 12) := hn
  have HSO : Hid (Ch.Ok (Ch.start key c nonce)) := Ch.start_ok hK.1 hN.1 hc
  obtain ⟨BL, hBL⟩ : ∃ B, Ch.blockOf key c nonce = B := ⟨_, rfl⟩
  rw [hBL]
  have HBL : Hid (BL = Ch.block (Ch.start key c nonce)) := hBL.symm
  clear hk hn hK hN hBL
  go_enter Tryd.func67, Tryd.ntmps67
  go_wp2_with fail
  go_loopw [7, 8] (fun sl i wr => ∃ k : Nat, k ≤ 8 ∧ i = .int .i64 ((4 * k : Nat) : Int) ∧ Hid (wr.ownsRow w.heap.size 3 1 sl (4 + k) (ints .i64 (c4 ++ Ch.words key k))) ∧ Hid (Below w.heap.size w wr)) (fun _ i _ => 32 - (intOf i).toNat)
  case atStart => exact ⟨0, by omega, rfl, own_new w .i64 3 c4 (by decide), (Below.refl _ _).alloc (Nat.le_refl _) _⟩
  case round =>
    obtain ⟨k, hk, rfl, HO, HB⟩ := hrel
    obtain ⟨q, cq, rfl⟩ := own_slice HO.out
    obtain ⟨A, hA⟩ : ∃ A, 4 * k = A := ⟨_, rfl⟩
    by_cases hlt : k < 8
    · have hX := HK.out.below HB.out
      have HC : Hid (Calls Tryd.prog 84 #[.slice (some ⟨bk, ok, none⟩) 32 ck, .int .i64 A] wr fun e w' => e = .returned (.int .i64 (Ch.word key A : Nat)) ∧ ∃ n, w' = wr.drewN n) := word32 key bk ok ck A wr hX.1 hX.2 HKL.out (by omega)
      have HWS : Hid (c4 ++ Ch.words key (k + 1) = c4 ++ Ch.words key k ++ [Ch.word key A]) := by
        show _ = _
        rw [Ch.words_succ key k, hA, ← List.append_assoc]
      rw [hA]
      have k1 : (A : Int) < 32 := by omega
      have HA : Hid (4 * k = A) := hA
      clear hA hX
      generalize Ch.word key A = x at *
      go_wp2_with fail
      refine HC.out.mono ?_
      rintro e w2 ⟨rfl, n2, rfl⟩
      have hs2 : w.heap.size ≤ wr.heap.size := HB.out.size
      have hbA : Below wr.heap.size wr ((wr.drewN n2).alloc (Obj.cells (arr .i64 [x]) 3)) := (below_drewN (Below.refl _ _) n2).alloc (Nat.le_refl _) _
      have HO2 : Hid (((wr.drewN n2).alloc (Obj.cells (arr .i64 [x]) 3)).ownsRow w.heap.size 3 1 (.slice q (4 + k) cq) (4 + k) (ints .i64 (c4 ++ Ch.words key k))) := own_below HO.out hbA
      have HB2 : Hid (Below w.heap.size w ((wr.drewN n2).alloc (Obj.cells (arr .i64 [x]) 3))) := HB.out.trans (hbA.mono hs2)
      have HR2 : Hid (((wr.drewN n2).alloc (Obj.cells (arr .i64 [x]) 3)).rangeAt wr.heap.size 0 (ints .i64 [x])) := rangeAt_of_row (heap_alloc_new (wr.drewN n2) _)
      clear hbA HO HB HC
      go_wp2_with (first | with_reducible (refine stop_builtin .append ?_))
      refine Stop.go ?_
      rw [show (Obj.cells #[Value.int .i64 ((x : Nat) : Int)] 3 : Obj) = Obj.cells (arr .i64 [x]) 3 from rfl]
      with_reducible refine law_append_ints w.heap.size (.slice q (4 + k) cq) (4 + k) (c4 ++ Ch.words key k) wr.heap.size 1 1 [x] ?asv8 ?axv8 rfl HO2.out HR2.out (by omega) HB2.out.size ?ak8
      case asv8 => exact rfl
      case axv8 => exact rfl
      intro v6 w6 hown6 hg6
      have HO6 : Hid (w6.ownsRow w.heap.size 3 1 v6 (4 + (k + 1)) (ints .i64 (c4 ++ Ch.words key (k + 1)))) := by
        rw [HWS.out]
        exact hown6
      have HB6 : Hid (Below w.heap.size w w6) := below_grown' HB2.out hg6 HO2.out HB2.out.size (Nat.le_refl _)
      clear hown6 hg6 HO2 HB2 HR2 HWS
      go_wp2_with fail
      go_roundw
      case rel => exact ⟨k + 1, by omega, by have := HA.out; go_num, HO6.out, HB6.out⟩
      case measure => have := HA.out; simp [intOf]; omega
    · obtain rfl : k = 8 := by omega
      clear hA
      have hs2 : w.heap.size ≤ wr.heap.size := HB.out.size
      have hbA : Below wr.heap.size wr (wr.alloc (Obj.cells (arr .i64 [c]) 3)) := (Below.refl _ _).alloc (Nat.le_refl _) _
      have HO2 : Hid ((wr.alloc (Obj.cells (arr .i64 [c]) 3)).ownsRow w.heap.size 3 1 (.slice q (4 + 8) cq) (4 + 8) (ints .i64 (c4 ++ Ch.words key 8))) := own_below HO.out hbA
      have HB2 : Hid (Below w.heap.size w (wr.alloc (Obj.cells (arr .i64 [c]) 3))) := HB.out.trans (hbA.mono hs2)
      have HR2 : Hid ((wr.alloc (Obj.cells (arr .i64 [c]) 3)).rangeAt wr.heap.size 0 (ints .i64 [c])) := rangeAt_of_row (heap_alloc_new wr _)
      clear hbA HO HB
      go_wp2_with (first | with_reducible (refine stop_builtin .append ?_))
      refine Stop.go ?_
      rw [show (Obj.cells #[Value.int .i64 ((c : Nat) : Int)] 3 : Obj) = Obj.cells (arr .i64 [c]) 3 from rfl]
      with_reducible refine law_append_ints w.heap.size (.slice q (4 + 8) cq) (4 + 8) (c4 ++ Ch.words key 8) wr.heap.size 1 1 [c] ?bsv ?bxv rfl HO2.out HR2.out (by omega) HB2.out.size ?bk
      case bsv => exact rfl
      case bxv => exact rfl
      intro v6 w6 hown6 hg6
      have HO6 : Hid (w6.ownsRow w.heap.size 3 1 v6 13 (ints .i64 (c4 ++ Ch.words key 8 ++ [c]))) := hown6
      have HB6 : Hid (Below w.heap.size w w6) := below_grown' HB2.out hg6 HO2.out HB2.out.size (Nat.le_refl _)
      clear hown6 hg6 HO2 HB2 HR2
      obtain ⟨q6, c6, rfl⟩ := own_slice HO6.out
      go_wp2_with fail
      go_loopw [7, 9] (fun sl i wr => ∃ k : Nat, k ≤ 3 ∧ i = .int .i64 ((4 * k : Nat) : Int) ∧ Hid (wr.ownsRow w.heap.size 3 1 sl (13 + k) (ints .i64 (c4 ++ Ch.words key 8 ++ [c] ++ Ch.words nonce k))) ∧ Hid (Below w.heap.size w wr)) (fun _ i _ => 12 - (intOf i).toNat)
      case atStart => exact ⟨0, by omega, rfl, by rw [show Ch.words nonce 0 = [] from rfl, List.append_nil]; exact HO6.out, HB6.out⟩
      case round =>
        clear HO6 HB6
        obtain ⟨k, hk, rfl, HO, HB⟩ := hrel
        obtain ⟨q, cq, rfl⟩ := own_slice HO.out
        obtain ⟨A, hA⟩ : ∃ A, 4 * k = A := ⟨_, rfl⟩
        by_cases hlt : k < 3
        · have hX := HN.out.below HB.out
          have HC : Hid (Calls Tryd.prog 84 #[.slice (some ⟨bn, on, none⟩) 12 cn, .int .i64 A] wr fun e w' => e = .returned (.int .i64 (Ch.word nonce A : Nat)) ∧ ∃ n, w' = wr.drewN n) := word12 nonce bn on cn A wr hX.1 hX.2 HNL.out (by omega)
          have HWS : Hid (c4 ++ Ch.words key 8 ++ [c] ++ Ch.words nonce (k + 1) = c4 ++ Ch.words key 8 ++ [c] ++ Ch.words nonce k ++ [Ch.word nonce A]) := by
            show _ = _
            rw [Ch.words_succ nonce k, hA, ← List.append_assoc]
          rw [hA]
          have k1 : (A : Int) < 12 := by omega
          have HA : Hid (4 * k = A) := hA
          clear hA hX
          generalize Ch.word nonce A = x at *
          go_wp2_with fail
          refine HC.out.mono ?_
          rintro e w2 ⟨rfl, n2, rfl⟩
          have hs2 : w.heap.size ≤ wr.heap.size := HB.out.size
          have hbA : Below wr.heap.size wr ((wr.drewN n2).alloc (Obj.cells (arr .i64 [x]) 3)) := (below_drewN (Below.refl _ _) n2).alloc (Nat.le_refl _) _
          have HO2 : Hid (((wr.drewN n2).alloc (Obj.cells (arr .i64 [x]) 3)).ownsRow w.heap.size 3 1 (.slice q (13 + k) cq) (13 + k) (ints .i64 (c4 ++ Ch.words key 8 ++ [c] ++ Ch.words nonce k))) := own_below HO.out hbA
          have HB2 : Hid (Below w.heap.size w ((wr.drewN n2).alloc (Obj.cells (arr .i64 [x]) 3))) := HB.out.trans (hbA.mono hs2)
          have HR2 : Hid (((wr.drewN n2).alloc (Obj.cells (arr .i64 [x]) 3)).rangeAt wr.heap.size 0 (ints .i64 [x])) := rangeAt_of_row (heap_alloc_new (wr.drewN n2) _)
          clear hbA HO HB HC
          go_wp2_with (first | with_reducible (refine stop_builtin .append ?_))
          refine Stop.go ?_
          rw [show (Obj.cells #[Value.int .i64 ((x : Nat) : Int)] 3 : Obj) = Obj.cells (arr .i64 [x]) 3 from rfl]
          with_reducible refine law_append_ints w.heap.size (.slice q (13 + k) cq) (13 + k) (c4 ++ Ch.words key 8 ++ [c] ++ Ch.words nonce k) wr.heap.size 1 1 [x] ?asv9 ?axv9 rfl HO2.out HR2.out (by omega) HB2.out.size ?ak9
          case asv9 => exact rfl
          case axv9 => exact rfl
          intro v6 w6 hown6 hg6
          have HO6 : Hid (w6.ownsRow w.heap.size 3 1 v6 (13 + (k + 1)) (ints .i64 (c4 ++ Ch.words key 8 ++ [c] ++ Ch.words nonce (k + 1)))) := by
            rw [HWS.out]
            exact hown6
          have HB6 : Hid (Below w.heap.size w w6) := below_grown' HB2.out hg6 HO2.out HB2.out.size (Nat.le_refl _)
          clear hown6 hg6 HO2 HB2 HR2 HWS
          go_wp2_with fail
          go_roundw
          case rel => exact ⟨k + 1, by omega, by have := HA.out; go_num, HO6.out, HB6.out⟩
          case measure => have := HA.out; simp [intOf]; omega
        · obtain rfl : k = 3 := by omega
          clear hA
          have hO := HO.out
          rw [start_c4] at hO
          obtain ⟨gs, cs, tls, hE, hgs, _, hrs⟩ := own_row hO (by decide)
          obtain ⟨rfl, rfl⟩ : q = some ⟨gs, 0, none⟩ ∧ cq = cs := by cases hE; exact ⟨rfl, rfl⟩
          have HRS : Hid (RowT wr gs (Ch.start key c nonce) tls) := hrs
          generalize Ch.start key c nonce = S at *
          have hs2 : w.heap.size ≤ wr.heap.size := HB.out.size
          have hbA : Below wr.heap.size wr (wr.alloc (Obj.cells (arr .i64 []) 3)) := (Below.refl _ _).alloc (Nat.le_refl _) _
          have HO2 : Hid ((wr.alloc (Obj.cells (arr .i64 []) 3)).ownsRow wr.heap.size 3 1 (.slice (some ⟨wr.heap.size, 0, none⟩) 0 0) 0 (ints .i64 [])) := own_new wr .i64 3 [] (by decide)
          have HB2 : Hid (Below w.heap.size w (wr.alloc (Obj.cells (arr .i64 []) 3))) := HB.out.trans (hbA.mono hs2)
          have HRS2 : Hid (RowT (wr.alloc (Obj.cells (arr .i64 []) 3)) gs S tls) := HRS.out.below hbA HRS.out.lt
          have hgl := HRS.out.lt
          clear hO hE hrs hbA HO HB HRS
          go_wp2_with (first | with_reducible (refine stop_builtin .append ?_))
          refine Stop.go ?_
          rw [show (Obj.cells #[] 3 : Obj) = Obj.cells (arr .i64 []) 3 from rfl]
          have hsl : S.length = 16 := HSO.out.1
          have hrr : (wr.alloc (Obj.cells (arr .i64 []) 3)).rangeAt gs 0 (ints .i64 S) := HRS2.out.range
          have hbs : wr.heap.size ≤ (wr.alloc (Obj.cells (arr .i64 []) 3)).heap.size := by simp
          with_reducible refine law_append_ints wr.heap.size (.slice (some ⟨wr.heap.size, 0, none⟩) 0 0) 0 [] gs cq 16 S ?dsv ?dxv hsl HO2.out hrr (by decide) hbs ?dk
          case dsv => exact rfl
          case dxv => exact rfl
          intro v7 w7 hown7 hg7
          have hg7' : World.grownBy (wr.alloc (Obj.cells (arr .i64 []) 3)) w7 (some wr.heap.size) := hg7
          rw [List.nil_append] at hown7
          obtain ⟨gt, ct, tlt, rfl, hgt, _, hrt⟩ := own_row hown7 (by decide)
          have HRT : Hid (RowT w7 gt S tlt) := hrt
          have HRS7 : Hid (RowT w7 gs S tls) := HRS2.out.grown hg7' (by omega)
          have HB7 : Hid (Below w.heap.size w w7) := below_grown HB2.out hg7' hs2
          have hne : gs ≠ gt := by omega
          have hgt2 : w.heap.size ≤ gt := by omega
          clear hown7 hg7 hg7' hrt HO2 HB2 HRS2 hrr hbs hgt hgl
          generalize wr.heap.size = W8 at *
          go_wp2_with fail
          go_loopw [11] (fun i wr => ∃ k : Nat, k ≤ 10 ∧ i = .int .i64 k ∧ Hid (RowT wr gt (Ch.rounds S k) tlt) ∧ Hid (w7.grownBy wr (some gt))) (fun i _ => 10 - (intOf i).toNat)
          case atStart => exact ⟨0, by omega, rfl, HRT.out, grownBy_refl _ _⟩
          case round =>
            clear HRT
            obtain ⟨k, hk, rfl, H0, G0⟩ := hrel
            by_cases hlt : k < 10
            · have k1 : (k : Int) < 10 := by omega
              have HOK : Hid (Ch.Ok (Ch.rounds S k)) := Ch.rounds_ok HSO.out k
              have HP : Hid (∀ w8, RowT w8 gt (Ch.round (Ch.rounds S k)) tlt → RowT w8 gt (Ch.rounds S (k + 1)) tlt) := fun _ h => h
              generalize Ch.rounds S k = R at *
              go_wp2_with fail
              refine (rq_0_4 R tlt gt ct _ HOK.out H0.out).mono ?_
              rintro e x1 ⟨rfl, h1, g1⟩
              have H1 : Hid (RowT x1 gt (Ch.quarter R 0 4 8 12) tlt) := h1
              have G1 : Hid (w7.grownBy x1 (some gt)) := grownBy_trans G0.out g1
              clear h1 g1 H0 G0
              go_wp2_with fail
              refine (rq_1_5 (Ch.quarter R 0 4 8 12) tlt gt ct _ (Ch.quarter_ok HOK.out 0 4 8 12) H1.out).mono ?_
              rintro e x2 ⟨rfl, h1, g1⟩
              have H2 : Hid (RowT x2 gt (Ch.quarter (Ch.quarter R 0 4 8 12) 1 5 9 13) tlt) := h1
              have G2 : Hid (w7.grownBy x2 (some gt)) := grownBy_trans G1.out g1
              clear h1 g1 H1 G1
              go_wp2_with fail
              refine (rq_2_6 (Ch.quarter (Ch.quarter R 0 4 8 12) 1 5 9 13) tlt gt ct _ (Ch.quarter_ok (Ch.quarter_ok HOK.out 0 4 8 12) 1 5 9 13) H2.out).mono ?_
              rintro e x3 ⟨rfl, h1, g1⟩
              have H3 : Hid (RowT x3 gt (Ch.quarter (Ch.quarter (Ch.quarter R 0 4 8 12) 1 5 9 13) 2 6 10 14) tlt) := h1
              have G3 : Hid (w7.grownBy x3 (some gt)) := grownBy_trans G2.out g1
              clear h1 g1 H2 G2
              go_wp2_with fail
              refine (rq_3_7 (Ch.quarter (Ch.quarter (Ch.quarter R 0 4 8 12) 1 5 9 13) 2 6 10 14) tlt gt ct _ (Ch.quarter_ok (Ch.quarter_ok (Ch.quarter_ok HOK.out 0 4 8 12) 1 5 9 13) 2 6 10 14) H3.out).mono ?_
              rintro e x4 ⟨rfl, h1, g1⟩
              have H4 : Hid (RowT x4 gt (Ch.quarter (Ch.quarter (Ch.quarter (Ch.quarter R 0 4 8 12) 1 5 9 13) 2 6 10 14) 3 7 11 15) tlt) := h1
              have G4 : Hid (w7.grownBy x4 (some gt)) := grownBy_trans G3.out g1
              clear h1 g1 H3 G3
              go_wp2_with fail
              refine (rq_0_5 (Ch.quarter (Ch.quarter (Ch.quarter (Ch.quarter R 0 4 8 12) 1 5 9 13) 2 6 10 14) 3 7 11 15) tlt gt ct _ (Ch.quarter_ok (Ch.quarter_ok (Ch.quarter_ok (Ch.quarter_ok HOK.out 0 4 8 12) 1 5 9 13) 2 6 10 14) 3 7 11 15) H4.out).mono ?_
              rintro e x5 ⟨rfl, h1, g1⟩
              have H5 : Hid (RowT x5 gt (Ch.quarter (Ch.quarter (Ch.quarter (Ch.quarter (Ch.quarter R 0 4 8 12) 1 5 9 13) 2 6 10 14) 3 7 11 15) 0 5 10 15) tlt) := h1
              have G5 : Hid (w7.grownBy x5 (some gt)) := grownBy_trans G4.out g1
              clear h1 g1 H4 G4
              go_wp2_with fail
              refine (rq_1_6 (Ch.quarter (Ch.quarter (Ch.quarter (Ch.quarter (Ch.quarter R 0 4 8 12) 1 5 9 13) 2 6 10 14) 3 7 11 15) 0 5 10 15) tlt gt ct _ (Ch.quarter_ok (Ch.quarter_ok (Ch.quarter_ok (Ch.quarter_ok (Ch.quarter_ok HOK.out 0 4 8 12) 1 5 9 13) 2 6 10 14) 3 7 11 15) 0 5 10 15) H5.out).mono ?_
              rintro e x6 ⟨rfl, h1, g1⟩
              have H6 : Hid (RowT x6 gt (Ch.quarter (Ch.quarter (Ch.quarter (Ch.quarter (Ch.quarter (Ch.quarter R 0 4 8 12) 1 5 9 13) 2 6 10 14) 3 7 11 15) 0 5 10 15) 1 6 11 12) tlt) := h1
              have G6 : Hid (w7.grownBy x6 (some gt)) := grownBy_trans G5.out g1
              clear h1 g1 H5 G5
              go_wp2_with fail
              refine (rq_2_7 (Ch.quarter (Ch.quarter (Ch.quarter (Ch.quarter (Ch.quarter (Ch.quarter R 0 4 8 12) 1 5 9 13) 2 6 10 14) 3 7 11 15) 0 5 10 15) 1 6 11 12) tlt gt ct _ (Ch.quarter_ok (Ch.quarter_ok (Ch.quarter_ok (Ch.quarter_ok (Ch.quarter_ok (Ch.quarter_ok HOK.out 0 4 8 12) 1 5 9 13) 2 6 10 14) 3 7 11 15) 0 5 10 15) 1 6 11 12) H6.out).mono ?_
              rintro e x7 ⟨rfl, h1, g1⟩
              have H7 : Hid (RowT x7 gt (Ch.quarter (Ch.quarter (Ch.quarter (Ch.quarter (Ch.quarter (Ch.quarter (Ch.quarter R 0 4 8 12) 1 5 9 13) 2 6 10 14) 3 7 11 15) 0 5 10 15) 1 6 11 12) 2 7 8 13) tlt) := h1
              have G7 : Hid (w7.grownBy x7 (some gt)) := grownBy_trans G6.out g1
              clear h1 g1 H6 G6
              go_wp2_with fail
              refine (rq_3_4 (Ch.quarter (Ch.quarter (Ch.quarter (Ch.quarter (Ch.quarter (Ch.quarter (Ch.quarter R 0 4 8 12) 1 5 9 13) 2 6 10 14) 3 7 11 15) 0 5 10 15) 1 6 11 12) 2 7 8 13) tlt gt ct _ (Ch.quarter_ok (Ch.quarter_ok (Ch.quarter_ok (Ch.quarter_ok (Ch.quarter_ok (Ch.quarter_ok (Ch.quarter_ok HOK.out 0 4 8 12) 1 5 9 13) 2 6 10 14) 3 7 11 15) 0 5 10 15) 1 6 11 12) 2 7 8 13) H7.out).mono ?_
              rintro e x8 ⟨rfl, h1, g1⟩
              have H8 : Hid (RowT x8 gt (Ch.quarter (Ch.quarter (Ch.quarter (Ch.quarter (Ch.quarter (Ch.quarter (Ch.quarter (Ch.quarter R 0 4 8 12) 1 5 9 13) 2 6 10 14) 3 7 11 15) 0 5 10 15) 1 6 11 12) 2 7 8 13) 3 4 9 14) tlt) := h1
              have G8 : Hid (w7.grownBy x8 (some gt)) := grownBy_trans G7.out g1
              clear h1 g1 H7 G7
              have HF : Hid (RowT x8 gt (Ch.rounds S (k + 1)) tlt) := HP.out _ H8.out
              clear H8 HP HOK
              go_wp2_with fail
              go_roundw
              case rel => exact ⟨k + 1, by omega, by go_num, HF.out, G8.out⟩
              case measure => simp [intOf]; omega
            · obtain rfl : k = 10 := by omega
              have HRO : Hid (Ch.Ok (Ch.rounds S 10)) := Ch.rounds_ok HSO.out 10
              have HOT : Hid (∀ k, Ch.outTo S (Ch.rounds S 10) (k + 1) = Ch.outTo S (Ch.rounds S 10) k ++ Ch.le4 ((Sp.nth (Ch.rounds S 10) k + Sp.nth S k) % 4294967296)) := Ch.outTo_succ S _
              have HFN : Hid (Ch.outTo S (Ch.rounds S 10) 16 = BL) := HBL.out.symm
              have HRS8 : Hid (RowT wr gs S tls) := HRS7.out.grown G0.out hne
              have HB8 : Hid (Below w.heap.size w wr) := below_grown HB7.out G0.out hgt2
              clear HBL HRS7 HB7 G0
              generalize Ch.rounds S 10 = R at *
              have hsz : w.heap.size ≤ wr.heap.size := HB8.out.size
              go_wp2_with fail
              generalize hW9 : wr = W9 at *
              go_loopw [12, 13] (fun sl i wr => ∃ k : Nat, k ≤ 16 ∧ i = .int .i64 k ∧ Hid (wr.ownsRow W9.heap.size 5 1 sl (4 * k) (ints .u8 (Ch.outTo S R k))) ∧ Hid (Below W9.heap.size W9 wr)) (fun _ i _ => 16 - (intOf i).toNat)
              case atStart => exact ⟨0, by omega, rfl, own_none _ _ _ _, Below.refl _ _⟩
              case round =>
                obtain ⟨k, hk, rfl, HO, HB⟩ := hrel
                obtain ⟨q, cq2, rfl⟩ := own_slice HO.out
                by_cases hlt : k < 16
                · have e1 := (H0.out.below HB.out H0.out.lt).cell k (by rw [HRO.out.1]; exact hlt)
                  have e2 := (HRS8.out.below HB.out HRS8.out.lt).cell k (by rw [HSO.out.1]; exact hlt)
                  have x1 := HRO.out.lt k
                  have x2 := HSO.out.lt k
                  have HOK := HOT.out k
                  generalize Sp.nth R k = y1 at *
                  generalize Sp.nth S k = y2 at *
                  have HO1 : Hid (Ch.outTo S R (k + 1) = Ch.outTo S R k ++ Ch.le4 ((y1 + y2) % 4294967296)) := HOK
                  clear HOK
                  have k0 : (0 : Int) ≤ (k : Int) := by omega
                  have k1 : (k : Int) < 16 := by omega
                  go_wp2_with fail
                  go_quiet (fail)
                  obtain ⟨z, hz⟩ : ∃ z, (y1 + y2) % 4294967296 = z := ⟨_, rfl⟩
                  have hzi : ((y1 : Int) + (y2 : Int)) % 4294967296 = (z : Int) := by omega
                  have hz32 : z < 4294967296 := by omega
                  rw [hzi]
                  rw [hz] at HO1
                  clear hz hzi e1 e2 x1 x2
                  have hbA : Below wr.heap.size wr ((wr.drewN nq).alloc (Obj.cells (arr .u8 (Ch.le4 z)) 5)) := (below_drewN (Below.refl _ _) nq).alloc (Nat.le_refl _) _
                  have HO2 : Hid (((wr.drewN nq).alloc (Obj.cells (arr .u8 (Ch.le4 z)) 5)).ownsRow W9.heap.size 5 1 (.slice q (4 * k) cq2) (4 * k) (ints .u8 (Ch.outTo S R k))) := own_below HO.out hbA
                  have HB2 : Hid (Below W9.heap.size W9 ((wr.drewN nq).alloc (Obj.cells (arr .u8 (Ch.le4 z)) 5))) := HB.out.trans (hbA.mono HB.out.size)
                  have HR2 : Hid (((wr.drewN nq).alloc (Obj.cells (arr .u8 (Ch.le4 z)) 5)).rangeAt wr.heap.size 0 (ints .u8 (Ch.le4 z))) := rangeAt_of_row (heap_alloc_new (wr.drewN nq) _)
                  have hcells : #[Value.int .u8 ((z : Int) % 256), Value.int .u8 ((z : Int) / 256 % 256), Value.int .u8 ((z : Int) / 65536 % 256), Value.int .u8 ((z : Int) / 16777216)] = arr .u8 (Ch.le4 z) := by
                    unfold arr ints Ch.le4
                    simp
                  have z0 : (0 : Int) ≤ (z : Int) := by omega
                  have z1 : (z : Int) ≤ 4294967295 := by omega
                  clear hbA HO HB
                  go_wp2_with (first | with_reducible (refine stop_builtin .append ?_))
                  refine Stop.go ?_
                  with_reducible refine law_append_bytes W9.heap.size (.slice q (4 * k) cq2) (4 * k) (Ch.outTo S R k) wr.heap.size 4 4 (Ch.le4 z) ?esv ?exv rfl HO2.out HR2.out (by omega) HB2.out.size ?ek
                  case esv => exact rfl
                  case exv => exact rfl
                  intro v6 w6 hown6 hg6
                  have HO6 : Hid (w6.ownsRow W9.heap.size 5 1 v6 (4 * (k + 1)) (ints .u8 (Ch.outTo S R (k + 1)))) := by
                    rw [HO1.out]
                    exact hown6
                  have HB6 : Hid (Below W9.heap.size W9 w6) := below_grown' HB2.out hg6 HO2.out HB2.out.size (Nat.le_refl _)
                  clear hown6 hg6 HO2 HB2 HR2 HO1 hcells
                  go_wp2_with fail
                  go_roundw
                  case rel =>
                    (repeat apply Exists.intro)
                    exact ⟨⟨k + 1, by omega, by go_num, HO6.out, HB6.out⟩, rfl⟩
                  case measure => simp [intOf]; omega
                · obtain rfl : k = 16 := by omega
                  have hO := HO.out
                  rw [HFN.out] at hO
                  obtain ⟨go, co, hE, hgo, _, hco, hro⟩ := own_cell hO (by decide)
                  obtain ⟨rfl, rfl⟩ : q = some ⟨go, 0, none⟩ ∧ cq2 = co := by cases hE; exact ⟨rfl, rfl⟩
                  have HRO2 : Hid (wr.rangeAt go 0 (ints .u8 BL)) := hro
                  have HBF : Hid (Below w.heap.size w wr) := HB8.out.trans (HB.out.mono hsz)
                  clear hO hE hro HO HB H0 HRO HOT HFN HRS8 HB8
                  go_wp2_with fail
                  go_ret
                  exact ⟨go, cq2, rfl, by omega, by omega, HRO2.out, HBF.out⟩
end Go.Proofs.YtbblokikhocdfaaDoor.C3
/- Steps of such a region; bytes and strings that its operations leave behind. -/
namespace Go.Proofs.YtbblokikhocdfaaDoor.C3
open Go.RowKit
section
variable {P : Program} {ops : Array Oper} {Q : Exit → Act → World → Prop} {V : Nat → Value → World → Prop} {G : World → World → Prop}
theorem st_value {i : Nat} {o : Oper} {a' : Act} {w' w'' : World} (v : Value) (hi : ops[i]? = some o) (hw : Region.wanted o (yielded ops a'.tmps) = true)
    (hr : (execOp a'.eval o).run P w' = .ok (.value v) w'') (hg : G w' w'') (hv : V i v w'') : wpOp P ops Q i (fun a'' w2 => G w' w2 ∧ ∃ v, a'' = a'.put o.dst v ∧ V i v w2) a' w' :=
  wpOp_value v hi hw hr ⟨hg, v, rfl, hv⟩
theorem st_call {i : Nat} {o : Oper} {a' : Act} {w' : World} (f : FuncId) (args : Array Value) (hi : ops[i]? = some o) (hw : Region.wanted o (yielded ops a'.tmps) = true)
    (hr : (execOp a'.eval o).run P w' = .ok (.enter f args) w') (h : Calls P f args w' fun e w2 => ∃ v, e = .returned v ∧ G w' w2 ∧ V i v w2) : wpOp P ops Q i (fun a'' w2 => G w' w2 ∧ ∃ v, a'' = a'.put o.dst v ∧ V i v w2) a' w' :=
  wpOp_call f args hi hw hr (h.mono fun _ _ ⟨v, he, hg, hv⟩ => ⟨v, he, hg, v, rfl, hv⟩)
def notDst (ops : Array Oper) (t : Tmp) : Bool := (List.range ops.size).all fun i => !((ops[i]?).bind (·.dst) == some t)
theorem notDst_spec {t : Tmp} (h : notDst ops t = true) (i : Nat) : (ops[i]?).bind (·.dst) ≠ some t := fun e => by
  have hlt : i < ops.size := by
    cases ho : ops[i]? with
    | none => simp [ho] at e
    | some oj => exact (Array.getElem?_eq_some_iff.1 ho).1
  have := List.all_eq_true.1 h i (List.mem_range.2 hlt)
  simp [e] at this
def waits (o : Oper) (j : Nat) : Bool := o.after.any fun e => Region.binds .any e && e.on == j
theorem pre_of {o : Oper} {a' : Act} {w' : World} (hpre : ∀ e ∈ o.after, Region.binds .any e = true → ∀ d, (ops[e.on]?).bind (·.dst) = some d → V e.on (a'.tmps.getD d undef) w') (j : Nat) (d : Tmp)
    (h : waits o j = true) (hd : (ops[j]?).bind (·.dst) = some d) : V j (a'.tmps.getD d undef) w' := by
  obtain ⟨e, he, hb⟩ := Array.any_eq_true'.1 h
  simp only [Bool.and_eq_true, beq_iff_eq] at hb
  obtain ⟨h1, rfl⟩ := hb
  exact hpre e he h1 d hd
theorem wanted_of {o : Oper} {a' : Act} (j : Nat) (d : Tmp) (hg : o.guard = some (j, true)) (hd : (ops[j]?).bind (·.dst) = some d) (hv : a'.tmps.getD d undef = .bool true) : Region.wanted o (yielded ops a'.tmps) = true := by
  have hsome : a'.tmps[d]? = some (.bool true) := by
    cases h : a'.tmps[d]? with
    | none => simp [h, undef] at hv
    | some x => simpa [h] using hv
  simp [Region.wanted, hg, yielded, hd, hsome]
end

def IsV (x v : Value) (_ : World) : Prop := v = x
def StrV (l : List Nat) (v : Value) (_ : World) : Prop := v = .string (strB l)
/-- A slice that reads as these bytes. -/
def RowV (l : List Nat) (v : Value) (w : World) : Prop := (∃ b o c, v = .slice (some ⟨b, o, none⟩) l.length c ∧ w.rangeAt b o (ints .u8 l)) ∨ ∃ p c, v = .slice p 0 c ∧ l = []
theorem RowV.kept {l : List Nat} {v : Value} {w w' : World} (h : RowV l v w) (hb : Below w.heap.size w w') : RowV l v w' := by
  rcases h with ⟨b, o, c, rfl, h1⟩ | ⟨p, c, rfl, rfl⟩
  · exact .inl ⟨b, o, c, rfl, rangeAt_below hb h1⟩
  · exact .inr ⟨p, c, rfl, rfl⟩
theorem BRow.rowV {w : World} {g : Nat} {l : List Nat} {n : Nat} (h : BRow w g l) (hl : l.length = n) : RowV l (.slice (some ⟨g, 0, none⟩) n n) w := .inl ⟨g, 0, n, by rw [hl], rangeAt_of_row h⟩
theorem TextIs.rowV {w : World} {p : Option Addr} {l : List Nat} {n c : Nat} (h : TextIs w p l) (hl : l.length = n) : RowV l (.slice p n c) w := by
  by_cases h0 : l = []
  · subst h0
    exact .inr ⟨p, c, by rw [← hl]; rfl, rfl⟩
  · obtain ⟨b, o, rfl, hr⟩ := h.2 h0
    exact .inl ⟨b, o, c, by rw [hl], hr⟩
theorem conv_empty (w : World) (p : Option Addr) (c : Nat) : (convert 32 9 (.slice p 0 c)).run Tryd.prog w = .ok (.string (strB [])) w := by
  rw [run_convert_bytes_string w 32 9 5 _ _ _ Tryd.underlying32 Tryd.underlying5 Tryd.underlying9]
  cases p with
  | none => rfl
  | some a => exact run_bytesToString w a 0 c [] (by rfl)
theorem conv_run {o : Oper} {a' : Act} {w' : World} {l : List Nat} (t : Tmp) (ho : o.op = .convert 32 9 (.tmp t)) (h : RowV l (a'.tmps.getD t undef) w') :
    (execOp a'.eval o).run Tryd.prog w' = .ok (.value (.string (strB l))) w' := by
  rcases h with ⟨b, of, c, hv, hr⟩ | ⟨p, c, hv, rfl⟩
  · have hc := run_conv w' b of c l hr
    unfold execOp
    simp only [ho, Act.eval, hv, Sem.run_bind, hc, Result.andThen_ok, Sem.run_pure]
  · have hc := conv_empty w' p c
    unfold execOp
    simp only [ho, Act.eval, hv, Sem.run_bind, hc, Result.andThen_ok, Sem.run_pure]
theorem eq_run {o : Oper} {a' : Act} {w' : World} {s : ByteArray} (t u : Tmp) (ho : o.op = .binOp .eql 9 (.tmp t) (.tmp u) 9) (h0 : a'.tmps.getD t undef = .string s) (h1 : a'.tmps.getD u undef = .string s) :
    (execOp a'.eval o).run Tryd.prog w' = .ok (.value (.bool true)) w' := by
  unfold execOp
  simp only [ho, Act.eval, h0, h1]
  simp [go_sem]
theorem eqe_run {o : Oper} {a' : Act} {w' : World} (t : Tmp) (ho : o.op = .binOp .eql 35 (.tmp t) (.const (.int .i64 0)) 35) (h0 : a'.tmps.getD t undef = .int .i64 0) :
    (execOp a'.eval o).run Tryd.prog w' = .ok (.value (.bool true)) w' := by
  unfold execOp
  simp only [ho, Act.eval, h0]
  simp [go_sem]
theorem pick_step {o : Oper} {a' : Act} {w' : World} {t u : Tmp} {r : Operand} (h0 : a'.tmps.getD t undef = .bool true) (h1 : a'.tmps.getD u undef = .bool true) (ho : o.op = .pick (.tmp t) (.tmp u) r) :
    (execOp a'.eval o).run Tryd.prog w' = .ok (.value (.bool true)) w' := by
  unfold execOp
  simp only [ho, Act.eval, h0, h1]
  simp [go_sem]
theorem below_trans' (x y z : World) (h : Below x.heap.size x y) (k : Below y.heap.size y z) : Below x.heap.size x z := h.trans (k.mono h.size)
end Go.Proofs.YtbblokikhocdfaaDoor.C3
/- The document's answer: XOR. -/
namespace Go.Proofs.YtbblokikhocdfaaDoor.C3
open Go.RowKit
theorem append_where {P : Program} (w : World) (base : Nat) (t ty e : TypeId) (i : TypeInfo) (z : Value) (ht : P.underlying t = some (.slice e)) (hi : P.info? e = some i) (hz : i.zero = some z) (hsize : i.size = 1) (hby : i.bytes = 1)
    (v : Value) (n : Nat) (xs : List Value) (hown : w.ownsRow base e 1 v n xs)
    (a : Addr) (m c : Nat) (news : List Value) (hl : news.length = m * 1) (hnews : ∀ j u, news[j]? = some u → w.cell? (a.add j) = some u) (h1 : ∀ u ∈ news, u.oneCell' = true)
    (h63 : n + m ≤ 100000) (hm : 0 < m) {v' : Value} {w' : World} (hrun : (Builtin.append_ #[t, t] ty #[v, .slice (some a) m c]).run P w = .ok v' w') : v'.ownBlock = v.ownBlock ∨ v'.ownBlock = some w.heap.size := by
  rcases hown.2 with ⟨rfl, rfl⟩ | ⟨g, cap, cur, rfl, hbg, hg, hnc, hcm, hcs, htake⟩
  · have hr := run_append_nil (P := P) w t ty e i z ht hi hz a m c news (by rw [hsize]; exact hl) hnews (by omega) (by omega) (by rw [hby]; omega)
    rw [hr] at hrun
    simp only [Result.ok.injEq] at hrun
    exact .inr (by rw [← hrun.1]; rfl)
  · by_cases hroom : n + m ≤ cap
    · have hr := run_append_room (P := P) w t ty e i ht hi g n cap cur hg a m c news (by rw [hsize]; exact hl) hnews h1 hroom (by rw [hsize, hl, hcs]; omega)
      rw [hr] at hrun
      simp only [Result.ok.injEq] at hrun
      exact .inl (by rw [← hrun.1]; rfl)
    · have hr := run_append_grow (P := P) w t ty e i z ht hi hz ⟨g, 0, none⟩ n cap xs (by rw [hsize]; exact hown.1) (hown.cells (g := g) rfl) a m c news (by rw [hsize]; exact hl) hnews (by omega) (by omega) (growslice_fits (by omega) (by rw [hby]; omega))
      rw [hr] at hrun
      simp only [Result.ok.injEq] at hrun
      exact .inr (by rw [← hrun.1]; rfl)
theorem step_append_bytes {ops : Array Oper} {o : Oper} {a : Act} {w : World} {K : Act → World → Prop} {Q : Exit → Act → World → Prop} {E : Prop} (hg : o.guard = none) (s x : Operand)
    (hop : o.op = Op.call { callee := Callee.builtin Builtin.append, args := #[s, x], argTypes := #[32, 32] })
    (base : Nat) (v : Value) (n : Nat) (l : List Nat) (g c : Nat) (m : Nat) (news : List Nat) (hs : a.eval s = v) (hx : a.eval x = .slice (some ⟨g, 0, none⟩) m c) (hm : news.length = m) (hown : w.ownsRow base 5 1 v n (ints .u8 l)) (hr : w.rangeAt g 0 (ints .u8 news))
    (hn : n + m ≤ 100000) (hm0 : 0 < m) (hbase : base ≤ w.heap.size)
    (hK : ∀ v' w', Hid (w'.ownsRow base 5 1 v' (n + m) (ints .u8 (l ++ news))) → Hid (w.grownBy w' v.ownBlock) → Hid (v'.ownBlock = v.ownBlock ∨ v'.ownBlock = some w.heap.size) → K (a.put o.dst v') w') :
    if Region.wanted o (yielded ops a.tmps) = true then Oper.wp Tryd.prog o a w K Q else E := by
  have hw : Region.wanted o (yielded ops a.tmps) = true := by simp [Region.wanted, hg]
  rw [if_pos hw]
  obtain ⟨i, hi, hsz, hby, hz⟩ := info5e
  have hc : ∀ j u, (ints .u8 news)[j]? = some u → w.cell? ((⟨g, 0, none⟩ : Addr).add j) = some u := fun j u hu => by rw [Addr.add_mid]; exact hr j u hu
  have ho : ∀ u ∈ ints .u8 news, u.oneCell' = true := fun u hu => by obtain ⟨q, _, rfl⟩ := List.mem_map.1 hu; rfl
  obtain ⟨v', w', hrun, r1, r2, _⟩ := run_append_own (P := Tryd.prog) w base 32 o.type 5 i _ 1 1 Tryd.underlying32 hi hz hsz hby rfl (by decide) v n (ints .u8 l) hown ⟨g, 0, none⟩ m c (ints .u8 news) (by rw [ints_length]; omega) hc ho (by unfold maxLen; omega) (by omega) hbase
  have r3 := append_where w base 32 o.type 5 i _ Tryd.underlying32 hi hz hsz hby v n (ints .u8 l) hown ⟨g, 0, none⟩ m c (ints .u8 news) (by rw [ints_length]; omega) hc ho hn hm0 hrun
  rw [← ints_append] at r1
  unfold Oper.wp
  simp [execOp, hop, resolve, invoke, builtin, hs, hx, hrun, Result.andThen]
  exact hK v' w' r1 r2 r3
theorem rangeAt_grownO {w w' : World} {b o : Nat} {row : Option Nat} {cs : List Value} (h : w.rangeAt b o cs) (hg : w.grownBy w' row) (hb : some b ≠ row) : w'.rangeAt b o cs := fun j v hv => by
  have hc := h j v hv
  have := hg.block b (World.block_lt_of_cell? w _ hc) hb
  rw [← hc]
  unfold World.cell?
  rw [this]
set_option maxRecDepth 8000 in
set_option maxHeartbeats 4000000 in
theorem rxor_any (key nonce text : List Nat) (bk ok ck bn on cn c n ct : Nat) (pt : Option Addr) (w : World) (hk : key.length = 32) (hn : nonce.length = 12) (hK : SliceIs w bk ok key) (hN : SliceIs w bn on nonce) (hc : c < 4294967296)
    (hT : TextIs w pt text) (htl : text.length = n) (hnl : n ≤ 1000) :
    Calls Tryd.prog 50 #[.slice (some ⟨bk, ok, none⟩) 32 ck, .int .i64 c, .slice (some ⟨bn, on, none⟩) 12 cn, .slice pt n ct] w fun e w' => ∃ v, e = .returned v ∧ w'.ownsRow w.heap.size 5 1 v n (ints .u8 (Ch.xor key c nonce text)) ∧ Below w.heap.size w w' := by
  have HY : Hid (∀ (w1 : World) (d : Nat), Below w.heap.size w w1 → d < 4294967296 → Calls Tryd.prog 67 #[.slice (some ⟨bk, ok, none⟩) 32 ck, .int .i64 d, .slice (some ⟨bn, on, none⟩) 12 cn] w1 fun e w' => ∃ g cp, e = .returned (.slice (some ⟨g, 0, none⟩) 64 cp) ∧ w1.heap.size ≤ g ∧ 64 ≤ cp ∧ w'.rangeAt g 0 (ints .u8 (Ch.blockOf key d nonce)) ∧ Below w1.heap.size w1 w') := fun w1 d hb hd => by
    have := rblock_any key nonce bk ok ck bn on cn d w1 hk hn (hK.below hb) (hN.below hb) hd
    exact this
  have HT : Hid (TextIs w pt text) := hT
  have HTL : Hid (text.length = n) := htl
  clear hk hn hK hN hT htl
  have n0 : (n : Int) ≤ 1000 := by omega
  go_enter Tryd.func50, Tryd.ntmps50
  go_wp2_with fail
  go_loopw [9, 10] (fun sl i wr => ∃ k : Nat, 64 * k < n + 64 ∧ i = .int .i64 ((64 * k : Nat) : Int) ∧ Hid (wr.ownsRow w.heap.size 5 1 sl (min (64 * k) n) (ints .u8 (Ch.xorTo key c nonce text (min (64 * k) n)))) ∧ Hid (Below w.heap.size w wr)) (fun _ i _ => n - (intOf i).toNat)
  case atStart => exact ⟨0, by omega, rfl, by rw [show min (64 * 0) n = 0 from by omega]; exact own_none _ _ _ _, Below.refl _ _⟩
  case round =>
    obtain ⟨k, hk, rfl, HO, HB⟩ := hrel
    by_cases hlt : 64 * k < n
    · obtain ⟨A, hA⟩ : ∃ A, 64 * k = A := ⟨_, rfl⟩
      rw [hA] at hlt hk HO
      rw [hA]
      rw [show min A n = A from by omega] at HO
      obtain ⟨q, cq, rfl⟩ := own_slice HO.out
      obtain ⟨bt, ot, rfl, hrt⟩ := HT.out.2 (by intro e; have := HTL.out; rw [e] at this; simp at this; omega)
      have HRT : Hid (w.rangeAt bt ot (ints .u8 text)) := hrt
      have HTS : Hid (∀ x ∈ text, x < 256) := HT.out.1
      clear hrt HT
      obtain ⟨d, hde⟩ : ∃ d, (c + k) % 4294967296 = d := ⟨_, rfl⟩
      have hd : d < 4294967296 := by omega
      have HC : Hid (Calls Tryd.prog 67 #[.slice (some ⟨bk, ok, none⟩) 32 ck, .int .i64 d, .slice (some ⟨bn, on, none⟩) 12 cn] wr fun e w' => ∃ g cp, e = .returned (.slice (some ⟨g, 0, none⟩) 64 cp) ∧ wr.heap.size ≤ g ∧ 64 ≤ cp ∧ w'.rangeAt g 0 (ints .u8 (Ch.blockOf key d nonce)) ∧ Below wr.heap.size wr w') := HY.out wr d HB.out hd
      have HBL : Hid ((Ch.blockOf key d nonce).length = 64) := Ch.block_length _
      have HBS : Hid (∀ x ∈ Ch.blockOf key d nonce, x < 256) := Ch.block_lt _
      have HBY : Hid (∀ j, j < 64 → Ch.byteAt key c nonce (A + j) = Sp.nth (Ch.blockOf key d nonce) j) := fun j hj => by
        unfold Ch.byteAt
        rw [show (A + j) / 64 = k from by omega, show (A + j) % 64 = j from by omega, hde]
      generalize Ch.blockOf key d nonce = B at *
      have a0 : (A : Int) < (n : Int) := by omega
      have a00 : (0 : Int) ≤ (A : Int) := by omega
      have ak : (A : Int) / 64 = (k : Int) := by omega
      have ak' : (A : Int).tdiv 64 = (k : Int) := by rw [Int.tdiv_eq_ediv_of_nonneg (by omega)]; exact ak
      have ad : ((c : Int) + (k : Int)) % 4294967296 = (d : Int) := by omega
      have ad' : ((c : Int) + (k : Int)).tmod 4294967296 = (d : Int) := by rw [Int.tmod_eq_emod_of_nonneg (by omega)]; exact ad
      have av : IntKind.i64.wrap ((c : Int) + (k : Int)) = (c : Int) + (k : Int) := i64_id _ (by omega)
      have HAK : Hid (64 * k = A) := hA
      clear hA hde
      go_wp2_with fail
      refine HC.out.mono ?_
      rintro e w2 ⟨gb, cp, rfl, hgb, hcp, hrb, hb2⟩
      have hsw := HB.out.size
      have HO2 : Hid (w2.ownsRow w.heap.size 5 1 (.slice q A cq) A (ints .u8 (Ch.xorTo key c nonce text A))) := own_below HO.out hb2
      have HB2 : Hid (Below w.heap.size w w2) := HB.out.trans (hb2.mono hsw)
      have HRB : Hid (w2.rangeAt gb 0 (ints .u8 B)) := hrb
      have hgl : gb < w2.heap.size := by
        have := hrb 0 _ (ints_get .u8 B 0 (by rw [HBL.out]; decide))
        exact World.block_lt_of_cell? w2 _ this
      have hqb : ∀ z, (Value.slice q A cq).ownBlock = some z → z ≠ gb := fun z hz => by
        have := (HO.out.lt z hz).2
        omega
      have HQB : Hid (∀ z, (Value.slice q A cq).ownBlock = some z → z ≠ gb) := hqb
      clear hgb hrb hb2 HO HB HC hqb
      obtain ⟨M, hM⟩ : ∃ M, min 64 (n - A) = M := ⟨_, rfl⟩
      have hM1 : M ≤ 64 := by omega
      have hM2 : A + M ≤ n := by omega
      have hM3 : M = 64 ∨ A + M = n := by omega
      clear hM
      go_wp2_with fail
      generalize hW2 : w2 = W2 at *
      clear hW2
      go_loopw [9, 12] (fun sl i wr => ∃ j E : Nat, j ≤ M ∧ E = A + j ∧ i = .int .i64 E ∧ Hid (wr.ownsRow w.heap.size 5 1 sl E (ints .u8 (Ch.xorTo key c nonce text E))) ∧ Hid (Below w.heap.size w wr) ∧ Hid (wr.rangeAt gb 0 (ints .u8 B)) ∧ Hid (gb < wr.heap.size) ∧ Hid (∀ z, sl.ownBlock = some z → z ≠ gb)) (fun _ i _ => n - (intOf i).toNat)
      case atStart => exact ⟨0, A, by omega, rfl, rfl, HO2.out, HB2.out, HRB.out, hgl, HQB.out⟩
      case round =>
        clear HO2 HB2 HRB hgl HQB
        obtain ⟨j, E, hj, hE, rfl, HO, HB, HRB, HGL, HQB⟩ := hrel
        obtain ⟨q2, cq2, rfl⟩ := own_slice HO.out
        have e64 : IntKind.i64.wrap ((A : Int) + 64) = (A : Int) + 64 := i64_id _ (by omega)
        by_cases hjl : j < M
        · have E1 : (E : Int) < (A : Int) + 64 := by omega
          have E2 : (E : Int) < (n : Int) := by omega
          have E3 : (E : Int) - (A : Int) = (j : Int) := by omega
          have E4 : (0 : Int) ≤ (E : Int) := by omega
          have j0 : (0 : Int) ≤ (j : Int) := by omega
          have j1 : (j : Int) < 64 := by omega
          have vj : IntKind.i64.wrap (j : Int) = (j : Int) := i64_id _ (by omega)
          have c1 := range_cell (rangeAt_below HB.out HRT.out) E (by rw [HTL.out]; omega)
          have c2 := range_cell HRB.out j (by rw [HBL.out]; omega)
          rw [Nat.zero_add] at c2
          have x1 : Sp.nth text E < 256 := Sp.nth_lt (by decide) HTS.out _
          have x2 : Sp.nth B j < 256 := Sp.nth_lt (by decide) HBS.out _
          have hx := u8_xor_nat _ _ x1 x2
          have HNX : Hid (Ch.xorTo key c nonce text (E + 1) = Ch.xorTo key c nonce text E ++ [Sp.nth text E ^^^ Sp.nth B j]) := by
            show _ = _
            rw [Ch.xorTo_succ, hE, HBY.out j (by omega)]
          generalize Sp.nth text E = y1 at *
          generalize Sp.nth B j = y2 at *
          have hbn := HB.out.size
          have HE : Hid (E = A + j) := hE
          clear hE x1 x2
          go_wp2_with fail
          go_region_law ((refine step_append_bytes rfl (.tmp 40) (.tmp 52) rfl w.heap.size (.slice q2 E cq2) E (Ch.xorTo key c nonce text E) wr.heap.size 1 1 [y1 ^^^ y2] rfl rfl rfl (own_below HO.out ((below_drewN (Below.refl _ _) _).alloc (Nat.le_refl _) _)) (rangeAt_of_row (heap_alloc_new (wr.drewN _) _)) (by omega) (by decide) (by simp; omega) ?_; intro v3 w3 HO3 HG3 HW3))
          all_goals
            (have hbA : Below wr.heap.size wr ((wr.drewN 1).alloc (Obj.cells (arr .u8 [y1 ^^^ y2]) 5)) := (below_drewN (Below.refl _ _) 1).alloc (Nat.le_refl _) _
             have hg3 : World.grownBy ((wr.drewN 1).alloc (Obj.cells (arr .u8 [y1 ^^^ y2]) 5)) w3 (Value.slice q2 E cq2).ownBlock := HG3.out
             have hob := own_below HO.out hbA
             have HB4 : Hid (Below w.heap.size w w3) := below_grown' (HB.out.trans (hbA.mono hbn)) hg3 hob (by simp; omega) (Nat.le_refl _)
             have HO4 : Hid (w3.ownsRow w.heap.size 5 1 v3 (E + 1) (ints .u8 (Ch.xorTo key c nonce text (E + 1)))) := by
               rw [HNX.out]
               exact HO3.out
             have hne : some gb ≠ (Value.slice q2 E cq2).ownBlock := fun e => HQB.out gb e.symm rfl
             have HRB4 : Hid (w3.rangeAt gb 0 (ints .u8 B)) := rangeAt_grownO (rangeAt_below hbA HRB.out) hg3 hne
             have hgl := HGL.out
             have hsz3 := hg3.size
             have hsA : ((wr.drewN 1).alloc (Obj.cells (arr .u8 [y1 ^^^ y2]) 5)).heap.size = wr.heap.size + 1 := by simp
             have HGL4 : Hid (gb < w3.heap.size) := by
               show _ < _
               omega
             have hw3 : v3.ownBlock = (Value.slice q2 E cq2).ownBlock ∨ v3.ownBlock = some (wr.heap.size + 1) := by
               have := HW3.out
               simpa using this
             have HQB4 : Hid (∀ z, v3.ownBlock = some z → z ≠ gb) := fun z hz => by
               rcases hw3 with h | h
               · exact HQB.out z (h ▸ hz)
               · rw [h] at hz
                 have := Option.some.inj hz
                 omega
             clear hbA hg3 hob HO3 HG3 HW3 hne HRB HGL HQB HB HO hgl hsz3 hsA hw3 HNX c1 c2
             go_wp2_with fail
             go_roundw
             case rel => exact ⟨j + 1, E + 1, by omega, (by have := HE.out; omega), by go_num, HO4.out, HB4.out, HRB4.out, HGL4.out, HQB4.out⟩
             case measure => simp [intOf]; omega)
        · obtain rfl : j = M := by omega
          clear HRB HGL HQB HBY HBS HBL HRT HTS
          by_cases h1 : (E : Int) < (A : Int) + 64
          · have h2 : ¬ (E : Int) < (n : Int) := by omega
            have HE : Hid (E = A + j) := hE
            clear hE
            go_wp2_with fail
            go_roundw
            case rel =>
              refine ⟨k + 1, (by have := HAK.out; omega), (by have := HAK.out; go_num), ?_, HB.out⟩
              rw [show min (64 * (k + 1)) n = E from by have := HAK.out; have := HE.out; omega]
              exact HO.out
            case measure => simp [intOf]; omega
          · have h2 : (A : Int) + 64 ≤ (E : Int) := by omega
            have HE : Hid (E = A + j) := hE
            clear hE
            go_wp2_with fail
            go_roundw
            case rel =>
              refine ⟨k + 1, (by have := HAK.out; omega), (by have := HAK.out; go_num), ?_, HB.out⟩
              rw [show min (64 * (k + 1)) n = E from by have := HAK.out; have := HE.out; omega]
              exact HO.out
            case measure => simp [intOf]; omega
    · have hO := HO.out
      rw [show min (64 * k) n = n from by omega, show Ch.xorTo key c nonce text n = Ch.xor key c nonce text from by rw [Ch.xor, HTL.out]] at hO
      have H9 : Hid (wr.ownsRow w.heap.size 5 1 u9 n (ints .u8 (Ch.xor key c nonce text))) := hO
      obtain ⟨q, cq, rfl⟩ := own_slice H9.out
      have l0 : ¬ (((64 * k : Nat) : Int) < (n : Int)) := by omega
      clear hO HO HY HT
      generalize ((64 * k : Nat) : Int) = zA at *
      go_wp2_with fail
      go_ret
      exact ⟨_, rfl, H9.out, HB.out⟩
end Go.Proofs.YtbblokikhocdfaaDoor.C3
