/- The contracts of the statements' own push and same. -/
import Derived.Test.YtchoiioeeepoaaaV19Hand
import Derived.Test.YtchoiioeeepoaaaF17RSame
import Derived.Test.YtchoiioeeepoaaaC8Put2
namespace Go.Proofs.Ytchoiioeeepoaaa.V19
open Go.RowKit C8 E9 F17
/-- The strings behind a slice. -/
def StrRow (w : World) (q : Option Addr) (ls : Ls) : Prop := ∀ j (h : j < ls.length), ∃ b o, q = some ⟨b, o, none⟩ ∧ b < w.heap.size ∧ w.cell? ⟨b, o + j, none⟩ = some (.string (strB ls[j]))
theorem StrRow.below {w w' : World} {q : Option Addr} {ls : Ls} (h : StrRow w q ls) (hb : Below w.heap.size w w') : StrRow w' q ls := fun j hj => by
  obtain ⟨b, o, h1, h2, h3⟩ := h j hj
  exact ⟨b, o, h1, Nat.lt_of_lt_of_le h2 hb.size, (hb.cell (p := ⟨b, o + j, none⟩) h2).trans h3⟩
def pf (c : Int) (ls : Ls) : Fr := ⟨1, c, 0, ls, []⟩
theorem pf_right {c : Int} {ls : Ls} (hc : 1 ≤ c ∧ c ≤ 1099511627776) (h0 : 1 ≤ ls.length) (h : LinksOk ls) : F17.right (pf c ls) = true := by
  unfold F17.right F17.lks F17.byKind pf
  simp only [Bool.and_eq_true, decide_eq_true_eq]
  refine ⟨⟨⟨hc, by omega⟩, h.1, (F17.lok_iff _).2 (fun x hx => (h.2 x hx).1)⟩, ?_⟩
  show (decide True && decide (0 < ls.length) && decide True) = true
  simp
  omega
theorem LkC.conv {w w1 : World} {g : Option Nat} {y : List Nat} {c : Nat} (hs : Src w1 (.slice (some ⟨w.heap.size, 0, none⟩) y.length c) y) (hl : y.length ≤ 1000000) (hg : ∀ k, g = some k → k < w.heap.size) : LkC w1 g (.slice (some ⟨w.heap.size, 0, none⟩) y.length c) y := by
  refine ⟨_, _, rfl, hs, hl, fun h0 b hb => ?_⟩
  cases hb
  refine ⟨fun e => ?_, (Old.of hs).2 h0 _ rfl⟩
  have := hg _ e.symm
  simp at this
theorem src_no {w w' : World} {v : Value} {l : List Nat} {m : Nat} (h : Src w v l) (ho : Only [m] w w') (hm : ∀ o z, w.cell? ⟨m, o, none⟩ ≠ some (.int .u8 z)) : Src w' v l := by
  obtain ⟨hs, h1 | h1 | ⟨b, o, c', rfl, hc, hr⟩⟩ := h
  · exact ⟨hs, .inl h1⟩
  · exact ⟨hs, .inr (.inl h1)⟩
  · cases l with
    | nil => exact ⟨hs, .inr (.inl ⟨_, _, rfl, rfl⟩)⟩
    | cons x r =>
      have hb : b ≠ m := fun e => by
        have := hr 0 (.int .u8 (x : Int)) (by simp [ints])
        rw [e] at this
        exact hm _ _ this
      exact ⟨hs, .inr (.inr ⟨b, o, c', rfl, hc, range_kept hr (ho.block b (range_lt hr (by simp [ints])) (by simpa using hb))⟩)⟩
theorem box_no {w : World} {g : Nat} {a b c : Int} {q q' : Option Addr} {n m n' m' : Nat} {t : TypeId} (h : w.heap[g]? = some (.cells #[.int .i64 a, .int .i64 b, .int .i64 c, .slice q n m, .slice q' n' m'] t (0, 0))) (o : Nat) (z : Int) : w.cell? ⟨g, o, none⟩ ≠ some (.int .u8 z) := by
  rw [cell_of_row _ _ _ _ _ _ h]
  match o with
  | 0 | 1 | 2 | 3 | 4 => simp
  | _ + 5 => simp
theorem LRow.no {w w' : World} {base n m : Nat} {v : Value} {ls : Ls} (h : LRow w base v n ls) (ho : Only [m] w w') (hm : ∀ o z, w.cell? ⟨m, o, none⟩ ≠ some (.int .u8 z)) (hb : m < base) : LRow w' base v n ls := by
  obtain ⟨e0, xs, e2, e3⟩ := h
  refine ⟨e0, xs, own_only e2 ho (own_off e2 (by simpa using hb)), fun jj u z u1 u2 => ?_⟩
  obtain ⟨bp, bc, m1, m2, m3, m4⟩ := e3 jj u z u1 u2
  exact ⟨bp, bc, m1, src_no m2 ho hm, m3, fun z0 b hb => ⟨(m4 z0 b hb).1, Nat.lt_of_lt_of_le (m4 z0 b hb).2 ho.size⟩⟩
set_option maxHeartbeats 8000000 in
set_option maxRecDepth 20000 in
theorem lpush_any (c : Int) (q : Option Addr) (cp : Nat) (ls : Ls) (w : World) (h : StrRow w q ls) (hc : 1 ≤ c ∧ c ≤ 1099511627776) (h0 : 1 ≤ ls.length) (hls : LinksOk ls) (hb : (F17.bytes (pf c ls)).length ≤ 32768) :
    Calls Try.prog 22 #[.int .i64 c, .slice q ls.length cp] w fun e w' => ∃ v, e = .returned v ∧ Src w' v (F17.bytes (pf c ls)) ∧ Below w.heap.size w w' := by
  obtain ⟨n, HN⟩ : ∃ n, Hid (ls.length = n) := ⟨_, rfl⟩
  have HA : Hid (StrRow w q ls) := h
  have HLS : Hid (LinksOk ls) := hls
  have HR : Hid (F17.right (pf c ls) = true) := pf_right hc h0 hls
  have HBY : Hid ((F17.bytes (pf c ls)).length ≤ 32768) := hb
  have hn : n ≤ 8 := by rw [← HN.out]; exact hls.1
  have l1 : (n : Int) ≤ 8 := by omega
  rw [HN.out]
  clear h hc h0 hls hb
  go_enter Try.func22, Try.ntmps22
  go_wp2_with fail
  go_loopw [14] (fun i wr => ∃ j : Nat, j ≤ n ∧ i = .int .i64 j ∧ Hid (∃ q1 c1, wr.heap[w.heap.size]? = some (.cells #[.int .i64 1, .int .i64 c, .int .i64 0, .slice q1 j c1, .slice none 0 0] 34 (0, 0)) ∧ LRow wr (w.heap.size + 1) (.slice q1 j c1) j (ls.take j)) ∧ Hid (Below w.heap.size w wr)) (fun i _ => n - (intOf i).toNat)
  case atStart =>
    refine ⟨0, by omega, rfl, ⟨none, 0, heap_alloc_new w _, ?_⟩, (Below.refl _ w).alloc (Nat.le_refl _) _⟩
    simp only [List.take_zero]
    exact LRow.nil _ _
  case round =>
    obtain ⟨j, hj, rfl, HO, HB⟩ := hrel
    obtain ⟨q1, c1, hg, hrow⟩ := HO.out
    have HG : Hid (wr.heap[w.heap.size]? = some (.cells #[.int .i64 1, .int .i64 c, .int .i64 0, .slice q1 j c1, .slice none 0 0] 34 (0, 0))) := hg
    have HRW : Hid (LRow wr (w.heap.size + 1) (.slice q1 j c1) j (ls.take j)) := hrow
    have d0 : wr.cell? ⟨w.heap.size, 0, none⟩ = some (.int .i64 1) := cell_of_row _ _ _ _ _ _ hg
    have d1 : wr.cell? ⟨w.heap.size, 1, none⟩ = some (.int .i64 c) := cell_of_row _ _ _ _ _ _ hg
    have d2 : wr.cell? ⟨w.heap.size, 2, none⟩ = some (.int .i64 0) := cell_of_row _ _ _ _ _ _ hg
    have d3 : wr.cell? ⟨w.heap.size, 3, none⟩ = some (.slice q1 j c1) := cell_of_row _ _ _ _ _ _ hg
    have d4 : wr.cell? ⟨w.heap.size, 4, none⟩ = some (.slice none 0 0) := cell_of_row _ _ _ _ _ _ hg
    clear hg hrow HO
    by_cases hlt : j < n
    · have ja : j < ls.length := by rw [HN.out]; exact hlt
      obtain ⟨bb, o, rfl, k2, k3⟩ := HA.out j ja
      have e1 := (HB.out.cell (p := ⟨bb, o + j, none⟩) k2).trans k3
      have j1 : (j : Int) < (n : Int) := by omega
      have j0 : (0 : Int) ≤ (j : Int) := by omega
      obtain ⟨y, HY⟩ : ∃ y : List Nat, Hid (ls[j] = y) := ⟨ls[j], rfl⟩
      rw [HY.out] at e1
      have hy : y ∈ ls := by rw [← HY.out]; exact List.getElem_mem _
      have HYW : Hid (y.length ≤ 4096 ∧ ∀ z ∈ y, z < 256) := ⟨(HLS.out.2 y hy).1.2, (HLS.out.2 y hy).2⟩
      have HT : Hid (ls.take (j + 1) = ls.take j ++ [y]) := by
        show _ = _
        rw [List.take_succ_eq_append_getElem ja, HY.out]
      obtain ⟨yc, w1, hrun, hs1, hb1⟩ := str_src wr y HYW.out.2
      have HRUN : Hid ((convert 9 32 (.string (strB y))).run Try.prog wr = .ok (.slice (some ⟨wr.heap.size, 0, none⟩) y.length yc) w1) := hrun
      have HS1 : Hid (Src w1 (.slice (some ⟨wr.heap.size, 0, none⟩) y.length yc) y) := hs1
      have HB1 : Hid (Below wr.heap.size wr w1) := hb1
      generalize strB y = sy at *
      clear k3 hy hrun hs1 hb1
      go_wp2_with (first | with_reducible (refine stop_convert 9 32 ?_))
      refine Stop.go ?_
      refine law_convert _ _ w1 rfl HRUN.out ?_
      go_wp2_with (first | with_reducible (refine stop_builtin .append ?_))
      refine Stop.go ?_
      have hw0 : w.heap.size + 1 ≤ wr.heap.size := (Array.getElem?_eq_some_iff.1 HG.out).1
      have hsz := HB1.out.size
      have hb2 : Below w1.heap.size w1 (w1.alloc (.cells #[.slice (some ⟨wr.heap.size, 0, none⟩) y.length yc] 32)) := (Below.refl _ w1).alloc (Nat.le_refl _) _
      have hO : LRow (w1.alloc (.cells #[.slice (some ⟨wr.heap.size, 0, none⟩) y.length yc] 32)) (w.heap.size + 1) (.slice q1 j c1) j (ls.take j) := (HRW.out.below HB1.out).below hb2
      have hk : LkC (w1.alloc (.cells #[.slice (some ⟨wr.heap.size, 0, none⟩) y.length yc] 32)) (Value.slice q1 j c1).ownBlock (.slice (some ⟨wr.heap.size, 0, none⟩) y.length yc) y := (LkC.conv HS1.out (by have := HYW.out.1; omega) (fun k hk => (HRW.out.lt k hk).2)).below hb2
      refine law_append_link (w.heap.size + 1) (.slice q1 j c1) j (ls.take j) w1.heap.size (.slice (some ⟨wr.heap.size, 0, none⟩) y.length yc) y rfl rfl hO (one32 w1 _) hk (by omega) (by simp; omega) ?_
      intro v' w3 k1 k2' _
      obtain ⟨vq, vc, rfl⟩ := k1.slice
      have hb3 : Below (w.heap.size + 1) wr w3 := (HB1.out.mono hw0).trans ((hb2.mono (by omega)).trans (hO.grown k2' (by simp; omega)))
      have hg3 := (hb3.block w.heap.size (Nat.lt_succ_self _)).trans HG.out
      have f3 : w3.frozen? ⟨w.heap.size, 3, none⟩ = false := frozen_of_row _ _ _ _ _ hg3
      have c3 : w3.cell? ⟨w.heap.size, 3, none⟩ = some (.slice q1 j c1) := cell_of_row _ _ _ _ _ _ hg3
      have HG3 : Hid (w3.heap[w.heap.size]? = some (.cells #[.int .i64 1, .int .i64 c, .int .i64 0, .slice q1 j c1, .slice none 0 0] 34 (0, 0))) := hg3
      have HK1 : Hid (LRow w3 (w.heap.size + 1) (.slice vq (j + 1) vc) (j + 1) (ls.take (j + 1))) := by
        show LRow _ _ _ _ _
        rw [HT.out]
        exact k1
      have HB3 : Hid (Below w.heap.size w w3) := HB.out.trans (hb3.mono (Nat.le_succ _))
      clear hw0 hsz hb2 hO hk k1 k2' hb3 hg3 HRUN HS1 HB1 HT HY HG HRW d0 d1 d2 d3 d4
      go_wp2_with fail
      refine ⟨⟨j + 1, by omega, by simp, ⟨vq, vc, ?_, ?_⟩, HB3.out.setCell (p := ⟨w.heap.size, 3, none⟩) (Nat.le_refl _) _⟩, ?_⟩
      · exact heap_setCell_same _ _ 3 _ 34 _ HG3.out
      · exact HK1.out.no (Only.setCell _ _ _ (by simp)) (box_no HG3.out) (Nat.lt_succ_self _)
      · simp only [intOf]
        omega
    · obtain rfl : j = n := by omega
      have j1 : ¬ (j : Int) < (j : Int) := by omega
      have hT : ls.take j = ls := List.take_of_length_le (by rw [HN.out]; omega)
      have hrow := HRW.out
      rw [hT] at hrow
      have HFR : Hid (FrIs wr (.agg #[.int .i64 1, .int .i64 c, .int .i64 0, .slice q1 j c1, .slice none 0 0]) (pf c ls)) :=
        ⟨q1, c1, none, 0, by simp only [FrV, pf, HN.out]; rfl, hrow.lk, Src.nil _, by simp only [pf, HN.out]; omega, Nat.zero_le _⟩
      have HE : ∀ W, W = wr → Calls Try.prog 40 #[.agg #[.int .i64 1, .int .i64 c, .int .i64 0, .slice q1 j c1, .slice none 0 0]] W fun e w' => ∃ v, e = .returned (.tuple #[v, .int .i64 0]) ∧ Hid (Src w' v (F17.bytes (pf c ls)) ∧ Below w.heap.size w w') := by
        rintro W rfl
        refine (Encode_any _ _ W HFR.out).mono ?_
        rintro e w3 ⟨h1, ⟨_, _, v, rfl, h2⟩ | ⟨_, h2, _⟩ | ⟨h2, _⟩⟩
        · exact ⟨v, rfl, Src.own (F17.bytes_small HFR.out.small) h2, HB.out.trans (h1.mono HB.out.size)⟩
        · have := HBY.out
          omega
        · rw [HR.out] at h2
          cases h2
      clear hT hrow
      go_wp2_with (first | (go_at_call 40; refine (HE _ rfl).mono ?_; rintro e w1 ⟨v, rfl, H1⟩))
      go_ret
      exact ⟨_, rfl, H1.out.1, H1.out.2⟩
/-- Two lists of links. -/
theorem same_any (q q' : Option Addr) (cp cp' : Nat) (ls ms : Ls) (w : World) (h : LkRow w q ls) (h' : LkRow w q' ms) (hl : ls.length ≤ 9223372036854775807) (hl' : ms.length ≤ 9223372036854775807) :
    Calls Try.prog 18 #[.slice q ls.length cp, .slice q' ms.length cp'] w fun e w' => e = .returned (.bool (decide (ls = ms))) ∧ Below w.heap.size w w' := by
  have h1 : FrIs w (.agg #[.int .i64 0, .int .i64 0, .int .i64 0, .slice q ls.length cp, .slice none 0 0]) ⟨0, 0, 0, ls, []⟩ := ⟨q, cp, none, 0, rfl, h, Src.nil _, hl, Nat.zero_le _⟩
  have h2 : FrIs w (.agg #[.int .i64 0, .int .i64 0, .int .i64 0, .slice q' ms.length cp', .slice none 0 0]) ⟨0, 0, 0, ms, []⟩ := ⟨q', cp', none, 0, rfl, h', Src.nil _, hl', Nat.zero_le _⟩
  have HC : Calls Try.prog 32 #[.agg #[.int .i64 0, .int .i64 0, .int .i64 0, .slice q ls.length cp, .slice none 0 0], .agg #[.int .i64 0, .int .i64 0, .int .i64 0, .slice q' ms.length cp', .slice none 0 0]] w fun e w' => e = .returned (.bool (decide (ls = ms))) ∧ Hid (Below w.heap.size w w') := by
    refine (rSame_any _ _ _ _ w h1 h2).mono ?_
    rintro e w' ⟨rfl, hb⟩
    have e1 : F17.same ⟨0, 0, 0, ls, []⟩ ⟨0, 0, 0, ms, []⟩ = decide (ls = ms) := by simp [F17.same]
    exact ⟨by rw [e1], hb⟩
  clear h h' hl hl' h1 h2
  generalize ls.length = n at *
  generalize ms.length = m at *
  go_enter Try.func18, Try.ntmps18
  go_wp2_with (first | (go_at_call 32; refine HC.mono ?_; rintro e w1 ⟨rfl, H1⟩))
  go_ret
  exact ⟨rfl, H1.out⟩
end Go.Proofs.Ytchoiioeeepoaaa.V19
