/- Chains of a real suite, and the document's sums: what ChainReal's walk leans on. -/
import Derived.Test.YtkiohhkmlpgdoaaDoorC12Rl
import Derived.Test.YtkiohhkmlpgdoaaDoorC12Small
import Derived.Test.YtkiohhkmlpgdoaaDoorC8RNum
import Derived.Test.YtkiohhkmlpgdoaaDoorS2RefAll
namespace Go.Proofs.YtkiohhkmlpgdoaaDoor.S7
open Go.RowKit
theorem Src.srcIs {w : World} {v : Value} {l : List Nat} (h : Src w v l) : S2.SrcIs w v l := by
  obtain ⟨_, ⟨rfl, rfl⟩ | ⟨ad, c, rfl, rfl⟩ | ⟨b, o, c, rfl, hc, hr⟩⟩ := h
  · exact .inl ⟨rfl, rfl⟩
  · exact .inr ⟨ad, c, rfl, fun j u hu => by simp [ints] at hu⟩
  · exact .inr ⟨⟨b, o, none⟩, c, rfl, fun j u hu => by rw [Addr.add_mid]; exact hr j u hu⟩
theorem rs_src {m : List Nat} {mv : Value} {w : World} (hM : Src w mv m) (hm : m.length ≤ 900) :
    Calls Tryd.prog 23 #[mv] w fun e w' => ∃ q c, e = .returned (.slice q 32 c) ∧ w'.ownsRow w.heap.size 5 1 (.slice q 32 c) 32 (ints .u8 (S2.Sp.sum m)) ∧ Below w.heap.size w w' := by
  obtain ⟨q, c, rfl, _⟩ := hM.slice
  refine (S2.rsum_any m q c w hM.srcIs hM.small (by omega)).mono ?_
  rintro e w' ⟨v, rfl, h1, h2⟩
  obtain ⟨q2, c2, rfl⟩ := own_slice h1
  exact ⟨q2, c2, rfl, h1, h2⟩
theorem run_grow {w : World} {base : Nat} {ad : Addr} {l news : List Nat} {ty : TypeId} {a : Addr} {c : Nat} (hbase : base ≤ w.heap.size) (ho : ∀ j u, (ints .u8 l)[j]? = some u → w.cell? (ad.add j) = some u) (hx : ∀ j u, (ints .u8 news)[j]? = some u → w.cell? (a.add j) = some u) (hn : l.length + news.length ≤ 100000) (h0 : 0 < news.length) :
    ∃ v' w', (Builtin.append_ #[23, 23] ty #[.slice (some ad) l.length l.length, .slice (some a) news.length c]).run Tryd.prog w = .ok v' w' ∧ w'.ownsRow base 5 1 v' (l ++ news).length (ints .u8 (l ++ news)) ∧ Below base w w' := by
  obtain ⟨i, hi, hsz, hby, hz⟩ := info5e
  have hr := run_append_grow (P := Tryd.prog) w 23 ty 5 i _ Tryd.underlying23 hi hz ad l.length l.length (ints .u8 l) (by rw [hsz, ints_length]; omega) ho a news.length c (ints .u8 news) (by rw [hsz, ints_length]; omega) hx (by omega) (by omega) (growslice_fits (by omega) (by rw [hby]; omega))
  refine ⟨_, _, hr, ?_, ?_⟩
  · have hge := grownCap_ge w (l.length + news.length) l.length 5
    have hcm : grownCap w (l.length + news.length) l.length 5 ≤ maxLen := grownCap_le_maxLen w _ _ 5 (by unfold maxLen; omega)
    rw [List.length_append]
    refine ⟨by rw [ints_length, List.length_append]; omega, .inr ⟨w.heap.size, _, _, rfl, hbase, heap_alloc_new w.drew _, hge, hcm, ?_, ?_⟩⟩
    · simp only [Array.size_append, List.size_toArray, size_zeroCells, ints_length, Value.cells, List.length_cons, List.length_nil]
      omega
    · simp only [Array.toList_append, List.append_assoc]
      rw [← List.append_assoc, ← ints_append, show (l.length + news.length) * 1 = (ints .u8 (l ++ news)).length from by rw [ints_length, List.length_append]; omega]
      exact List.take_left
  · exact ⟨rfl, rfl, rfl, by simp, fun k hk => Below.heap_alloc w.drew _ k (Nat.lt_of_lt_of_le hk hbase)⟩
theorem wpList_append_run {ops : Array Oper} {rest : List Oper} {o : Oper} {a : Act} {w : World} {Q : Exit → Act → World → Prop} (hgd : o.guard = none) (s x : Operand) (ts : Array TypeId) (ho : o.op = .call { callee := .builtin .append, args := #[s, x], argTypes := ts })
    (vs vx v' : Value) (w' : World) (hs : a.eval s = vs) (hx : a.eval x = vx) (hrun : (Builtin.append_ ts o.type #[vs, vx]).run Tryd.prog w = .ok v' w') (h : wpList Tryd.prog ops Q rest (a.put o.dst v') w') : wpList Tryd.prog ops Q (o :: rest) a w := by
  refine wpList_plain hgd fun K hK => ?_
  unfold Oper.wp
  simp [execOp, ho, resolve, invoke, builtin, hs, hx, hrun, Result.andThen]
  exact hK _ _ h
/-- What stands between two steps: a chain of a real suite. -/
def OneR (B : Nat) (w : World) (p c : Nat) (ls ss : List (List Nat)) : Prop := ∃ lv sv, Rs B w p ∧ ChIs B w c p lv sv ls ss ∧ B ≤ w.heap.size
section
variable {B : Nat} {w w' : World} {p c : Nat} {ls ss : List (List Nat)}
theorem OneR.below (h : OneR B w p c ls ss) (hb : Below w.heap.size w w') : OneR B w' p c ls ss := by
  obtain ⟨lv, sv, h1, h2, h3⟩ := h
  exact ⟨lv, sv, h1.below hb, h2.below hb, Nat.le_trans h3 hb.size⟩
theorem rl_new {n : Nat} (h : Rs B w p) (hB : B ≤ w.heap.size) (hn : 1 ≤ n ∧ n ≤ 1099511627776) :
    Calls Tryd.prog 12 #[.pointer (some ⟨p, 0, none⟩), .int .i64 (n : Int)] w fun e w' => ∃ c, e = .returned (.tuple #[.pointer (some ⟨c, 0, none⟩), .int .i64 0]) ∧ OneR B w' p c [] [S2.Sp.sum (lock6 ++ first n)] ∧ Below w.heap.size w w' := by
  refine (New_r B p w n h hB hn).mono ?_
  rintro e w' ⟨c, sv, rfl, h1, h2, h3⟩
  exact ⟨c, rfl, ⟨_, _, h2, h1, Nat.le_trans hB h3.size⟩, h3⟩
theorem rl_append (h : OneR B w p c ls ss) {bp : Option Addr} {bn bc : Nat} {b l : List Nat} (hb : By B w (.slice bp bn bc) b) (hbn : 1 ≤ bn ∧ bn ≤ 4096) (hls : ls.length < 64) (hl : ss[ls.length]? = some l) (hll : l.length ≤ 50000) (hm : ss.length ≤ 1000) :
    Calls Tryd.prog 14 #[.pointer (some ⟨c, 0, none⟩), .slice bp bn bc] w fun e w' => e = .returned (.int .i64 0) ∧ OneR B w' p c (ls ++ [b]) (ss ++ [S2.Sp.sum (l ++ b)]) ∧ Kx TS B w w' := by
  obtain ⟨lv, sv, h1, h2, h3⟩ := h
  refine (Append_r B c p lv sv ls ss w bp bn bc b l h1 h2 h3 hb hbn hls hl hll hm).mono ?_
  rintro e w' ⟨rfl, lv1, sv1, k1, k2, k3⟩
  exact ⟨rfl, ⟨lv1, sv1, k2, k1, Nat.le_trans h3 k3.size⟩, Kx.of_only k3 h3 (fun y hy => h2.fpty y hy)⟩
theorem rl_size (h : OneR B w p c ls ss) {bp : Option Addr} {bn bc : Nat} (hn : bn < 1 ∨ 4096 < bn) :
    Calls Tryd.prog 14 #[.pointer (some ⟨c, 0, none⟩), .slice bp bn bc] w fun e w' => e = .returned (.int .i64 11) ∧ w' = w := by
  obtain ⟨lv, sv, h1, h2, h3⟩ := h
  exact Append_size B c p lv sv ls ss w bp bn bc h2 hn
theorem rl_head (h : OneR B w p c ls ss) {l : List Nat} (hl : ss[ls.length]? = some l) (hm : l.length ≤ 50000) : Calls Tryd.prog 17 #[.pointer (some ⟨c, 0, none⟩)] w fun e w' => ∃ u, e = .returned (.agg #[.int .i64 (ls.length : Int), u]) ∧ w'.ownsRow w.heap.size 5 1 u l.length (ints .u8 l) ∧ Below w.heap.size w w' := by
  obtain ⟨lv, sv, h1, h2, h3⟩ := h
  exact Head_any h2 l hl hm
end
/-! the short ways -/
theorem rl_o1 (w : World) (z : Int) (a1 : Option Addr) (n1 c1 : Nat) (mx1 : n1 ≤ 9223372036854775807) (k : 4 < n1) :
    Calls Tryd.prog 4 #[.int .i64 z, .slice a1 n1 c1] w fun e w' => e = .returned (.bool true) ∧ Below w.heap.size w w' := by
  have k0 : (4 : Int) < (n1 : Int) := by omega
  have k1 : (n1 : Int) ≤ 9223372036854775807 := by omega
  clear mx1
  go_enter Tryd.func4, Tryd.ntmps4
  go_wp2_with fail
  refine (anchor_any w).mono ?_
  rintro e w1 ⟨rfl, hb1⟩
  have HB1 : Hid (Below w.heap.size w w1) := hb1
  clear hb1
  go_wp2_with fail
  go_ret
  exact ⟨rfl, HB1.out⟩
theorem rl_o2 (w : World) (z : Int) (a1 : Option Addr) (n1 c1 : Nat) (al : List (List Nat)) (h1 : RowsIs w a1 al) (hn1 : al.length = n1) (k : n1 ≤ 4) (hs1 : sml al = false) :
    Calls Tryd.prog 4 #[.int .i64 z, .slice a1 n1 c1] w fun e w' => e = .returned (.bool true) ∧ Below w.heap.size w w' := by
  have H1 : Hid (RowsIs w a1 al) := h1
  have HN1 : Hid (al.length = n1 ∧ n1 ≤ 9223372036854775807 ∧ sml al = false) := ⟨hn1, by omega, hs1⟩
  have k0 : ¬ (4 : Int) < (n1 : Int) := by omega
  clear h1 hn1 hs1
  go_enter Tryd.func4, Tryd.ntmps4
  go_wp2_with fail
  refine (anchor_any w).mono ?_
  rintro e w1 ⟨rfl, hb1⟩
  have HB1 : Hid (Below w.heap.size w w1) := hb1
  clear hb1
  go_wp2_with fail
  refine (small_any w w1 a1 n1 c1 al H1.out HB1.out HN1.out.1 HN1.out.2.1 HN1.out.2.2).mono ?_
  rintro e w9 ⟨rfl, hw9⟩
  obtain rfl : w1 = w9 := hw9.symm
  clear hw9
  go_wp2_with fail
  go_ret
  exact ⟨rfl, HB1.out⟩
theorem rl_o3 (w : World) (z : Int) (a1 : Option Addr) (n1 c1 : Nat) (al : List (List Nat)) (h1 : RowsIs w a1 al) (hn1 : al.length = n1) (k : n1 ≤ 4) (hs1 : sml al = true) (hz : z < 1 ∨ 1099511627776 < z) :
    Calls Tryd.prog 4 #[.int .i64 z, .slice a1 n1 c1] w fun e w' => e = .returned (.bool true) ∧ Below w.heap.size w w' := by
  have H1 : Hid (RowsIs w a1 al) := h1
  have HN1 : Hid (al.length = n1 ∧ n1 ≤ 9223372036854775807 ∧ sml al = true) := ⟨hn1, by omega, hs1⟩
  have k0 : ¬ (4 : Int) < (n1 : Int) := by omega
  have HNW : Hid (∀ w2 p, Calls Tryd.prog 12 #[.pointer (some ⟨p, 0, none⟩), .int .i64 z] w2 fun e w' => e = .returned (.tuple #[.pointer none, .int .i64 12]) ∧ Below w2.heap.size w2 w') := fun w2 p => by
    rcases hz with hz | hz
    · exact New_low w2 _ z hz
    · exact New_high w2 _ z hz
  have HZZ : Hid (z < 1 ∨ 1099511627776 < z) := hz
  clear h1 hn1 hs1 hz
  go_enter Tryd.func4, Tryd.ntmps4
  go_wp2_with fail
  refine (anchor_any w).mono ?_
  rintro e w1 ⟨rfl, hb1⟩
  have HB1 : Hid (Below w.heap.size w w1) := hb1
  clear hb1
  go_wp2_with fail
  refine (small_any w w1 a1 n1 c1 al H1.out HB1.out HN1.out.1 HN1.out.2.1 HN1.out.2.2).mono ?_
  rintro e w9 ⟨rfl, hw9⟩
  obtain rfl : w1 = w9 := hw9.symm
  clear hw9
  go_wp2_with fail
  refine (Real_nil w1).mono ?_
  rintro e w2 ⟨p, rfl, hp, hb2, _⟩
  have HB2 : Hid (Below w.heap.size w w2) := HB1.out.trans (hb2.mono HB1.out.size)
  clear hb2 HB1 hp
  go_wp2_with fail
  refine (HNW.out w2 p).mono ?_
  rintro e w3 ⟨rfl, hb3⟩
  have HB3 : Hid (Below w.heap.size w w3) := HB2.out.trans (hb3.mono HB2.out.size)
  clear hb3 HB2
  have hz := HZZ.out
  by_cases z1 : z < 1
  · clear hz
    go_wp2_with fail
    go_ret
    exact ⟨rfl, HB3.out⟩
  · have z2 : 1099511627776 < z := by omega
    clear hz
    go_wp2_with fail
    go_ret
    exact ⟨rfl, HB3.out⟩
end Go.Proofs.YtkiohhkmlpgdoaaDoor.S7
