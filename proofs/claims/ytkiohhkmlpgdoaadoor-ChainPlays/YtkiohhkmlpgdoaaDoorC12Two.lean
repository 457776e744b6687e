/- One or two chains of a suite of signs. -/
import Derived.Test.YtkiohhkmlpgdoaaDoorC12Sg
import Derived.Lib.ConvBytes
namespace Go.Proofs.YtkiohhkmlpgdoaaDoor.S7
open Go.RowKit
theorem Signs_new (w : World) : Calls Tryd.prog 11 #[] w fun e w' => ∃ p q m x, e = .returned (.pointer (some ⟨p, 0, none⟩)) ∧ Sw w.heap.size w' p q m x [] ∧ Below w.heap.size w w' :=
  (Signs_any w).mono (fun _ _ ⟨h1, h2, h3, _⟩ => ⟨_, _, _, _, h1, ⟨h2, by omega⟩, h3⟩)
/-- A chain of a suite of signs. -/
def One (B : Nat) (w : World) (p q m x c : Nat) (L : List Su.Thing) (ls ss : List (List Nat)) : Prop := ∃ lv sv, Sw B w p q m x L ∧ ChIs B w c p lv sv ls ss ∧ B ≤ w.heap.size
/-- Two chains of a suite of signs. -/
def Two (B : Nat) (w : World) (p q m x c d : Nat) (L : List Su.Thing) (ls ss ls' ss' : List (List Nat)) : Prop := ∃ lv sv lv' sv', Sw B w p q m x L ∧ ChIs B w c p lv sv ls ss ∧ ChIs B w d p lv' sv' ls' ss' ∧ Apart c lv sv d lv' sv' ∧ B ≤ w.heap.size
section
variable {B : Nat} {w w' : World} {p q m x c d : Nat} {L : List Su.Thing} {ls ss ls' ss' : List (List Nat)}
theorem One.below (h : One B w p q m x c L ls ss) (hb : Below w.heap.size w w') : One B w' p q m x c L ls ss := by
  obtain ⟨lv, sv, h1, h2, h3⟩ := h
  exact ⟨lv, sv, h1.below hb, h2.below hb, Nat.le_trans h3 hb.size⟩
theorem One.ch (h : One B w p q m x c L ls ss) : ∃ lv sv, ChIs B w c p lv sv ls ss := by
  obtain ⟨lv, sv, h1, h2, h3⟩ := h
  exact ⟨lv, sv, h2⟩
theorem Two.below (h : Two B w p q m x c d L ls ss ls' ss') (hb : Below w.heap.size w w') : Two B w' p q m x c d L ls ss ls' ss' := by
  obtain ⟨lv, sv, lv', sv', h1, h2, h3, h4, h5⟩ := h
  exact ⟨lv, sv, lv', sv', h1.below hb, h2.below hb, h3.below hb, h4, Nat.le_trans h5 hb.size⟩
theorem Two.symm (h : Two B w p q m x c d L ls ss ls' ss') : Two B w p q m x d c L ls' ss' ls ss := by
  obtain ⟨lv, sv, lv', sv', h1, h2, h3, h4, h5⟩ := h
  exact ⟨lv', sv', lv, sv, h1, h3, h2, h4.symm, h5⟩
theorem Two.one (h : Two B w p q m x c d L ls ss ls' ss') : One B w p q m x c L ls ss := by
  obtain ⟨lv, sv, lv', sv', h1, h2, h3, h4, h5⟩ := h
  exact ⟨lv, sv, h1, h2, h5⟩
theorem Two.kx (h1 : Sw B w p q m x L) {lv sv : Value} (h2 : ChIs B w c p lv sv ls ss) (h5 : B ≤ w.heap.size) (ho : Only ([p, m] ++ fp c lv sv) w w') : Kx TS B w w' := Kx.of_only ho h5 (fun y hy => by
  rcases List.mem_append.1 hy with e | e
  · refine ⟨?_, (h1.su.ty y e).2⟩
    rcases List.mem_cons.1 e with rfl | e
    · exact h1.lo.1
    · rw [List.mem_singleton.1 e]; exact h1.lo.2.2.1
  · exact h2.fpty y e)
/-- A chain that is new. -/
theorem one_new (hs : Sw B w p q m x L) (hL : L.length < 1000000) (hB : B ≤ w.heap.size) {n : Nat} (hn : 1 ≤ n ∧ n ≤ 1099511627776) :
    Calls Tryd.prog 12 #[.pointer (some ⟨p, 0, none⟩), .int .i64 (n : Int)] w fun e w' => ∃ c, e = .returned (.tuple #[.pointer (some ⟨c, 0, none⟩), .int .i64 0]) ∧ One B w' p q m x c (ad L (lock6 ++ first n)) [] [sg L (lock6 ++ first n)] ∧ Kx TS B w w' := by
  refine (New_s B p q m x L w n hs hL hB hn).mono ?_
  rintro e w' ⟨c, sv, rfl, h1, h2, h3, h4, h5⟩
  refine ⟨c, rfl, ⟨_, sv, h2, h1, Nat.le_trans hB h3.size⟩, Kx.of_only h3 hB (fun y hy => ⟨?_, (hs.su.ty y hy).2⟩)⟩
  rcases List.mem_cons.1 hy with rfl | e
  · exact hs.lo.1
  · rw [List.mem_singleton.1 e]; exact hs.lo.2.2.1
/-- A second chain. -/
theorem two_new (h : One B w p q m x c L ls ss) (hL : L.length < 1000000) {n : Nat} (hn : 1 ≤ n ∧ n ≤ 1099511627776) :
    Calls Tryd.prog 12 #[.pointer (some ⟨p, 0, none⟩), .int .i64 (n : Int)] w fun e w' => ∃ d, e = .returned (.tuple #[.pointer (some ⟨d, 0, none⟩), .int .i64 0]) ∧ Two B w' p q m x c d (ad L (lock6 ++ first n)) ls ss [] [sg L (lock6 ++ first n)] ∧ Kx TS B w w' := by
  obtain ⟨lv, sv, hs, hc, hB⟩ := h
  refine (New_s B p q m x L w n hs hL hB hn).mono ?_
  rintro e w' ⟨d, sv', rfl, h1, h2, h3, h4, h5⟩
  have hkx : Kx TS B w w' := Two.kx hs hc hB (h3.more (fun y hy => List.mem_append_left _ hy))
  have hoff := hs.su.off hc
  have hpm : ∀ y, y ∈ fp c lv sv → y ∉ [p, m] := fun y hy e => by
    rcases List.mem_cons.1 e with rfl | e
    · exact hoff.1 hy
    · rw [List.mem_singleton.1 e] at hy
      exact hoff.2.2.1 hy
  have hc' : ChIs B w' c p lv sv ls ss := hc.keep hkx (by decide) (h3.block c hc.lt (hpm c (mem_fp.2 (.inl rfl)))) (fun b hb => h3.block b (hc.lts.1 b hb) (hpm b (mem_fp.2 (.inr (.inl hb))))) (fun b hb => h3.block b (hc.lts.2 b hb) (hpm b (mem_fp.2 (.inr (.inr hb)))))
  refine ⟨d, rfl, ⟨lv, sv, _, sv', h2, hc', h1, ⟨?_, fun b _ e => (by cases e), fun b hb e => ?_, fun b _ e => (by cases e), fun b hb e => ?_⟩, Nat.le_trans hB h3.size⟩, hkx⟩
  · have := hc.lt
    omega
  · have h6 := hc.lts.1 b hb
    have h7 := h5 b e
    omega
  · have h6 := hc.lts.2 b hb
    have h7 := h5 b e
    omega
theorem one_append (h : One B w p q m x c L ls ss) (hL : L.length < 1000000) {bp : Option Addr} {bn bc : Nat} {b l : List Nat} (hb : By B w (.slice bp bn bc) b) (hbn : 1 ≤ bn ∧ bn ≤ 4096) (hls : ls.length < 64) (hl : ss[ls.length]? = some l) (hll : l.length ≤ 50000) (hm : ss.length ≤ 1000) :
    Calls Tryd.prog 14 #[.pointer (some ⟨c, 0, none⟩), .slice bp bn bc] w fun e w' => e = .returned (.int .i64 0) ∧ One B w' p q m x c (ad L (l ++ b)) (ls ++ [b]) (ss ++ [sg L (l ++ b)]) ∧ Kx TS B w w' := by
  obtain ⟨lv, sv, hs, hc, hB⟩ := h
  refine (Append_s B c p q m x L lv sv ls ss w bp bn bc b l hs hL hc hB hb hbn hls hl hll hm).mono ?_
  rintro e w' ⟨rfl, lv1, sv1, h1, h2, h3, h4, h5⟩
  exact ⟨rfl, ⟨lv1, sv1, h2, h1, Nat.le_trans hB h3.size⟩, Two.kx hs hc hB h3⟩
theorem two_append (h : Two B w p q m x c d L ls ss ls' ss') (hL : L.length < 1000000) {bp : Option Addr} {bn bc : Nat} {b l : List Nat} (hb : By B w (.slice bp bn bc) b) (hbn : 1 ≤ bn ∧ bn ≤ 4096) (hls : ls.length < 64) (hl : ss[ls.length]? = some l) (hll : l.length ≤ 50000) (hm : ss.length ≤ 1000) :
    Calls Tryd.prog 14 #[.pointer (some ⟨c, 0, none⟩), .slice bp bn bc] w fun e w' => e = .returned (.int .i64 0) ∧ Two B w' p q m x c d (ad L (l ++ b)) (ls ++ [b]) (ss ++ [sg L (l ++ b)]) ls' ss' ∧ Kx TS B w w' := by
  obtain ⟨lv, sv, lv', sv', hs, hc, hd, ha, hB⟩ := h
  refine (Append_s B c p q m x L lv sv ls ss w bp bn bc b l hs hL hc hB hb hbn hls hl hll hm).mono ?_
  rintro e w' ⟨rfl, lv1, sv1, h1, h2, h3, h4, h5⟩
  exact ⟨rfl, ⟨lv1, sv1, lv', sv', h2, h1, hd.other hs hc h3 hB ha, ha.mv hd h5 h4, Nat.le_trans hB h3.size⟩, Two.kx hs hc hB h3⟩
theorem one_at (h : One B w p q m x c L ls ss) {j : Nat} {l : List Nat} (hj : j ≤ ls.length) (hl : ss[j]? = some l) (hm : l.length ≤ 50000) : Calls Tryd.prog 20 #[.pointer (some ⟨c, 0, none⟩), .int .i64 (j : Int)] w fun e w' => ∃ u, e = .returned (.tuple #[.agg #[.int .i64 (j : Int), u], .bool true]) ∧ w'.ownsRow w.heap.size 5 1 u l.length (ints .u8 l) ∧ Below w.heap.size w w' := by
  obtain ⟨lv, sv, hc⟩ := h.ch
  exact At_at hc j l hj hl hm
theorem one_check (h : One B w p q m x c L ls ss) {j : Nat} {l k : List Nat} {hv : Value} (hj : j ≤ ls.length) (hl : ss[j]? = some l) (hk : Src w hv k) {r : Int} (hr : (if k = l then (0 : Int) else 24) = r) : Calls Tryd.prog 18 #[.pointer (some ⟨c, 0, none⟩), .agg #[.int .i64 (j : Int), hv]] w fun e w' => e = .returned (.int .i64 r) ∧ Below w.heap.size w w' := by
  obtain ⟨lv, sv, hc⟩ := h.ch
  rw [← hr]
  exact Check_at hc j l k hv hj hl hk
theorem one_more (h : One B w p q m x c L ls ss) {i : Int} {hp : Option Addr} {hn hc : Nat} (hi : (ls.length : Int) < i) : Calls Tryd.prog 18 #[.pointer (some ⟨c, 0, none⟩), .agg #[.int .i64 i, .slice hp hn hc]] w fun e w' => e = .returned (.int .i64 14) ∧ Below w.heap.size w w' := by
  obtain ⟨lv, sv, h1⟩ := h.ch
  have := Check_out h1 i hp hn hc (.inr hi)
  rwa [if_neg (by omega)] at this
theorem one_len (h : One B w p q m x c L ls ss) : Calls Tryd.prog 16 #[.pointer (some ⟨c, 0, none⟩)] w fun e w' => e = .returned (.int .i64 (ls.length : Int)) ∧ w' = w := by
  obtain ⟨lv, sv, hc⟩ := h.ch
  exact Len_any hc
theorem one_head (h : One B w p q m x c L ls ss) {l : List Nat} (hl : ss[ls.length]? = some l) (hm : l.length ≤ 50000) : Calls Tryd.prog 17 #[.pointer (some ⟨c, 0, none⟩)] w fun e w' => ∃ u, e = .returned (.agg #[.int .i64 (ls.length : Int), u]) ∧ w'.ownsRow w.heap.size 5 1 u l.length (ints .u8 l) ∧ Below w.heap.size w w' := by
  obtain ⟨lv, sv, hc⟩ := h.ch
  exact Head_any hc l hl hm
theorem one_link (h : One B w p q m x c L ls ss) {j : Nat} {l : List Nat} (hl : ls[j]? = some l) (hm : l.length ≤ 50000) : Calls Tryd.prog 21 #[.pointer (some ⟨c, 0, none⟩), .int .i64 (j : Int)] w fun e w' => ∃ u, e = .returned (.tuple #[u, .bool true]) ∧ w'.ownsRow w.heap.size 5 1 u l.length (ints .u8 l) ∧ Below w.heap.size w w' := by
  obtain ⟨lv, sv, hc⟩ := h.ch
  exact Link_at hc j l hl hm
end
/-- Bytes of a string, in a block of bytes of their own. -/
theorem str_by (B : Nat) (w : World) (l : List Nat) (hl : ∀ y ∈ l, y < 256) : ∃ c w1, (convert 9 23 (.string (strB l))).run Tryd.prog w = .ok (.slice (some ⟨w.heap.size, 0, none⟩) l.length c) w1 ∧ By B w1 (.slice (some ⟨w.heap.size, 0, none⟩) l.length c) l ∧ Below w.heap.size w w1 := by
  have hr := Lib.run_convert_string_bytes (P := Tryd.prog) w 9 23 5 (strB l) Tryd.underlying9 Tryd.underlying23 Tryd.underlying5
  refine ⟨grownCap w (strB l).size 0 5, Lib.bytesWorld w 5 (strB l), ?_, ⟨hl, .inr (.inr ⟨w.heap.size, 0, _, rfl, ?_, ?_, .inr ⟨_, _, Lib.bytesWorld_at_new w 5 (strB l)⟩⟩)⟩, ?_⟩
  · rw [hr, strB_size]
  · have := grownCap_ge w (strB l).size 0 5
    rw [strB_size] at this ⊢
    exact this
  · intro j u hu
    have hj : j < l.length := by
      have := (List.getElem?_eq_some_iff.1 hu).1
      rwa [ints_length] at this
    rw [Nat.zero_add, Lib.bytesWorld_cell w 5 (strB l) j (by rw [strB_size]; exact hj), strB_list]
    rw [ints_get _ _ _ hj] at hu
    rw [← hu]
    have hx : l[j] < 256 := hl _ (List.getElem_mem hj)
    simp [Sp.nth, hj, Nat.mod_eq_of_lt hx]
  · exact ⟨rfl, rfl, rfl, by rw [Lib.bytesWorld_size]; omega, fun k hk => Lib.bytesWorld_at_old w 5 (strB l) k hk⟩
end Go.Proofs.YtkiohhkmlpgdoaaDoor.S7
