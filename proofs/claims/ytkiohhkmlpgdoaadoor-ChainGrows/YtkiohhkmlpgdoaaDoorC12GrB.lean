/- Rows of heads; the walk of ChainGrows. -/
import Derived.Test.YtkiohhkmlpgdoaaDoorC12Small
namespace Go.Proofs.YtkiohhkmlpgdoaaDoor.S7
open Go.RowKit
/-- The cells of heads. -/
def hcs : List (Nat × Value) → List Value
  | [] => []
  | h :: r => .int .i64 (h.1 : Int) :: h.2 :: hcs r
theorem hcs_length (l : List (Nat × Value)) : (hcs l).length = l.length * 2 := by
  induction l with
  | nil => rfl
  | cons h r ih => simp only [hcs, List.length_cons, ih]; omega
theorem hcs_append (l r : List (Nat × Value)) : hcs (l ++ r) = hcs l ++ hcs r := by
  induction l with
  | nil => rfl
  | cons h t ih => simp only [List.cons_append, hcs, ih]
theorem hcs_at : ∀ (l : List (Nat × Value)) (i : Nat) (h : Nat × Value), l[i]? = some h → (hcs l)[i * 2]? = some (.int .i64 (h.1 : Int)) ∧ (hcs l)[i * 2 + 1]? = some h.2
  | [], i, h, e => by simp at e
  | x :: r, 0, h, e => by simp at e; subst e; exact ⟨rfl, rfl⟩
  | x :: r, i + 1, h, e => by
    have := hcs_at r i h (by simpa using e)
    refine ⟨?_, ?_⟩
    · rw [show (i + 1) * 2 = i * 2 + 1 + 1 from by omega]; simpa [hcs] using this.1
    · rw [show (i + 1) * 2 + 1 = i * 2 + 1 + 1 + 1 from by omega]; simpa [hcs] using this.2
/-- A row of one's own of heads. -/
structure HdR (B : Nat) (w : World) (v : Value) (zs : List (Nat × Value)) (ls : List (List Nat)) : Prop where
  own : w.ownsRow B 44 2 v zs.length (hcs zs)
  len : ls.length = zs.length
  all : ∀ (i : Nat) (z : Nat × Value) (l : List Nat), zs[i]? = some z → ls[i]? = some l → By B w z.2 l
section
variable {B : Nat} {w w' : World} {v : Value} {zs : List (Nat × Value)} {ls : List (List Nat)}
theorem HdR.nil (B : Nat) (w : World) : HdR B w (.slice none 0 0) [] [] := ⟨own_none _ _ _ _, rfl, fun i z l h _ => by simp at h⟩
theorem HdR.slice (h : HdR B w v zs ls) : ∃ q c, v = .slice q zs.length c := own_slice h.own
theorem HdR.kx (h : HdR B w v zs ls) (hk : Kx TS B w w') : HdR B w' v zs ls := by
  refine ⟨?_, h.len, fun i z l h1 h2 => (h.all i z l h1 h2).kx hk (by decide)⟩
  obtain ⟨hl, h1 | ⟨g, cap, cur, rfl, hg, hh, hr⟩⟩ := h.own
  · exact ⟨hl, .inl h1⟩
  · exact ⟨hl, .inr ⟨g, cap, cur, rfl, hg, hk.row g _ hh (by simp [tyOf, TS]), hr⟩⟩
theorem HdR.below (h : HdR B w v zs ls) (hb : Below w.heap.size w w') : HdR B w' v zs ls :=
  ⟨own_only h.own (Only.of_below hb []) (fun _ _ => by simp), h.len, fun i z l h1 h2 => (h.all i z l h1 h2).below hb⟩
theorem HdR.at (h : HdR B w v zs ls) {j : Nat} {z : Nat × Value} (hz : zs[j]? = some z) : ∃ g c, v = .slice (some ⟨g, 0, none⟩) zs.length c ∧ w.cell? ⟨g, j * 2, none⟩ = some (.int .i64 (z.1 : Int)) ∧ w.cell? ⟨g, j * 2 + 1, none⟩ = some z.2 := by
  have hj := get_lt hz
  obtain ⟨k1, k2⟩ := hcs_at zs j z hz
  obtain ⟨hl, ⟨e1, e0⟩ | ⟨g, cap, cur, e1, hg, hh, hn, hm, hc, ht⟩⟩ := h.own
  · omega
  · refine ⟨g, cap, e1, ?_, ?_⟩
    · rw [cell_of_row _ _ _ _ _ _ hh]
      rw [← ht, List.getElem?_take_of_lt (by omega)] at k1
      simpa using k1
    · rw [cell_of_row _ _ _ _ _ _ hh]
      rw [← ht, List.getElem?_take_of_lt (by omega)] at k2
      simpa using k2
/-- A row that has grown by a head. -/
theorem HdR.push {v' x : Value} {n : Nat} {l : List Nat} (h : HdR B w v zs ls) (ho : w'.ownsRow B 44 2 v' (zs.length + 1) (hcs zs ++ [.int .i64 (n : Int), x])) (hg : w.grownBy w' v.ownBlock) (hx : By B w x l) (hB : B ≤ w.heap.size) : HdR B w' v' (zs ++ [(n, x)]) (ls ++ [l]) := by
  have hk : Kx [some 44] B w w' := by
    obtain ⟨_, ⟨rfl, _⟩ | ⟨g, cap, cur, rfl, hgB, hh, _⟩⟩ := h.own
    · exact Kx.of_only (Only.of_grown (bs := []) hg (fun y hy => by cases hy)) hB (fun y hy => by cases hy)
    · refine Kx.of_only (Only.of_grown (bs := [g]) hg (fun y hy => by cases hy; simp)) hB (fun y hy => ?_)
      rw [List.mem_singleton.1 hy]
      exact ⟨hgB, fun o ho => by rw [hh] at ho; cases ho; simp [tyOf]⟩
  refine ⟨by rw [List.length_append, hcs_append]; exact ho, by simp [h.len], fun i z l' h1 h2 => ?_⟩
  rcases snoc_get h1 with ⟨a1, a2⟩ | ⟨a1, rfl⟩
  · rcases snoc_get h2 with ⟨b1, b2⟩ | ⟨b1, _⟩
    · exact (h.all i z l' a2 b2).kx hk (by decide)
    · rw [h.len] at b1; omega
  · rcases snoc_get h2 with ⟨b1, b2⟩ | ⟨b1, rfl⟩
    · rw [h.len] at b1; omega
    · exact hx.kx hk (by decide)
end
theorem One.far {B : Nat} {w w' : World} {p q m x c : Nat} {L : List Su.Thing} {ls ss : List (List Nat)} (h : One B w p q m x c L ls ss) (hk : Kx [some 44] B w w') : One B w' p q m x c L ls ss := by
  obtain ⟨lv, sv, hs, hc, hB⟩ := h
  obtain ⟨xs, hx⟩ := hc.links
  obtain ⟨ys, hy⟩ := hc.sums
  obtain ⟨es, k1, hm, _⟩ := hs.su.nums
  obtain ⟨es', k2, hm', _⟩ := hs.su.boxes
  refine ⟨lv, sv, ⟨hs.su.kept (fun k hk' => ?_), hs.lo⟩, hc.keep hk (by decide) ((hk.row c _ hc.box (by simp [tyOf])).trans hc.box.symm) (fun b hb => ?_) (fun b hb => ?_), Nat.le_trans hB hk.low.size⟩
  · rcases hk' with rfl | rfl | rfl | rfl
    · exact (hk.row _ _ hs.su.box (by simp [tyOf])).trans hs.su.box.symm
    · exact (hk.row _ _ hs.su.signs (by simp [tyOf])).trans hs.su.signs.symm
    · exact (hk.row _ _ hm (by simp [tyOf])).trans hm.symm
    · exact (hk.row _ _ hm' (by simp [tyOf])).trans hm'.symm
  · obtain ⟨_, cs, h3⟩ := hx.ty b hb
    exact (hk.row b _ h3 (by simp [tyOf])).trans h3.symm
  · obtain ⟨_, cs, h3⟩ := hy.ty b hb
    exact (hk.row b _ h3 (by simp [tyOf])).trans h3.symm
theorem info44e : ∃ i, Tryd.prog.info? 44 = some i ∧ i.size = 2 ∧ i.bytes = 32 ∧ i.zero = some (.agg #[.int .i64 0, .slice none 0 0]) := info_of (by kernel_rfl)
theorem law_append_h {ops : Array Oper} {rest : List Oper} {dst : Option Tmp} {T : TypeId} {pos : String} {after : Array Edge} {a : Act} {w : World} {Q : Exit → Act → World → Prop} {so xo : Operand}
    (base : Nat) (v : Value) (n : Nat) (xs : List Value) (g : Nat) (news : List Value) (hs : a.eval so = v) (hx : a.eval xo = .slice (some ⟨g, 0, none⟩) 1 1) (hl : news.length = 2) (hown : w.ownsRow base 44 2 v n xs) (hc : w.rangeAt g 0 news) (hu : ∀ y ∈ news, y.oneCell' = true)
    (hn : n ≤ 1000000) (hbase : base ≤ w.heap.size)
    (h : ∀ v' w', w'.ownsRow base 44 2 v' (n + 1) (xs ++ news) → w.grownBy w' v.ownBlock → wpList Tryd.prog ops Q rest (a.put dst v') w') :
    wpList Tryd.prog ops Q ({ dst := dst, op := .call { callee := .builtin .append, args := #[so, xo], argTypes := #[59, 59] }, type := T, pos := pos, after := after, guard := none } :: rest) a w := by
  obtain ⟨i, hi, hsz, hby, hz⟩ := info44e
  refine wpList_append_own_at _ rfl so xo 59 rfl base 44 i _ 2 32 Tryd.underlying59 hi hz hsz hby rfl (by decide) v n xs hs hown ⟨g, 0, none⟩ 1 1 news hx (by omega) (fun j y hy => ?_) hu (by unfold maxLen; omega) (by omega) hbase (fun v' w' h1 h2 _ _ => h v' w' h1 h2)
  rw [Addr.add_mid]
  exact hc j y hy
theorem below_grown {B e size n : Nat} {w w' : World} {v : Value} {xs : List Value} (hown : w.ownsRow B e size v n xs) (hg : w.grownBy w' v.ownBlock) (hB : B ≤ w.heap.size) : Below B w w' := below_append hown hg hB
set_option maxHeartbeats 4000000 in
theorem gr_o1 (w : World) (a1 : Option Addr) (n1 c1 : Nat) (al : List (List Nat)) (h1 : RowsIs w a1 al) (hn1 : al.length = n1) (mx1 : n1 ≤ 9223372036854775807) (hs1 : sml al = false) :
    Calls Tryd.prog 7 #[.slice a1 n1 c1] w fun e w' => e = .returned (.bool true) ∧ Below w.heap.size w w' := by
  have H1 : Hid (RowsIs w a1 al) := h1
  have HN1 : Hid (al.length = n1 ∧ n1 ≤ 9223372036854775807 ∧ sml al = false) := ⟨hn1, mx1, hs1⟩
  clear h1 hn1 mx1 hs1
  go_enter Tryd.func7, Tryd.ntmps7
  go_wp2_with fail
  refine (anchor_any w).mono ?_
  rintro e w1 ⟨rfl, hb1⟩
  have HB1 : Hid (Below w.heap.size w w1) := hb1
  clear hb1
  go_wp2_with fail
  refine (small_any w w1 a1 n1 c1 al H1.out HB1.out HN1.out.1 HN1.out.2.1 HN1.out.2.2).mono ?_
  rintro e w9 ⟨rfl, hw9⟩
  obtain rfl : w1 = w9 := hw9.symm
  clear hw9
  go_wp2_with fail
  go_ret
  exact ⟨rfl, HB1.out⟩
set_option maxHeartbeats 4000000 in
theorem gr_o2 (w : World) (a1 : Option Addr) (n1 c1 : Nat) (al : List (List Nat)) (h1 : RowsIs w a1 al) (hn1 : al.length = n1) (mx1 : n1 ≤ 9223372036854775807) (hs1 : sml al = true) (k : 30 < n1) :
    Calls Tryd.prog 7 #[.slice a1 n1 c1] w fun e w' => e = .returned (.bool true) ∧ Below w.heap.size w w' := by
  have H1 : Hid (RowsIs w a1 al) := h1
  have HN1 : Hid (al.length = n1 ∧ n1 ≤ 9223372036854775807 ∧ sml al = true) := ⟨hn1, mx1, hs1⟩
  have k0 : (30 : Int) < (n1 : Int) := by omega
  clear h1 hn1 mx1 hs1
  go_enter Tryd.func7, Tryd.ntmps7
  go_wp2_with fail
  refine (anchor_any w).mono ?_
  rintro e w1 ⟨rfl, hb1⟩
  have HB1 : Hid (Below w.heap.size w w1) := hb1
  clear hb1
  go_wp2_with fail
  refine (small_any w w1 a1 n1 c1 al H1.out HB1.out HN1.out.1 HN1.out.2.1 HN1.out.2.2).mono ?_
  rintro e w9 ⟨rfl, hw9⟩
  obtain rfl : w1 = w9 := hw9.symm
  clear hw9
  go_wp2_with fail
  go_ret
  exact ⟨rfl, HB1.out⟩
end Go.Proofs.YtkiohhkmlpgdoaaDoor.S7
