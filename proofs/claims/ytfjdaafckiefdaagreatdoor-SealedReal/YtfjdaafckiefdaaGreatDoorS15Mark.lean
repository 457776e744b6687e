/- An entry's mark, whatever the suite; why an entry can't be sealed; the two texts of a bucket. -/
import Derived.Test.YtfjdaafckiefdaaGreatDoorMgY
import Derived.Test.YtfjdaafckiefdaaGreatDoorMgB
import Derived.Test.YtfjdaafckiefdaaGreatDoorMgR
import Derived.Test.YtfjdaafckiefdaaGreatDoorMgE
namespace Go.Proofs.YtfjdaafckiefdaaGreatDoor.S15
open Go.RowKit C8 E9
open S7 (Fr Kx By)
theorem fr_refl (bs : List Nat) (ts : List (Option TypeId)) (B : Nat) (w : World) : Fr bs ts B w w := ⟨S7.Only.refl _ _, S7.Kx.refl _ _ _⟩
set_option maxHeartbeats 2000000 in
theorem markOf_any {bs : List Nat} {ts : List (Option TypeId)} {B : Nat} {w : World} {I J : World → Prop} {r1 r2 : List Nat} {sp kv bv : Value} {body : List Nat} (r : Rec) (q : Option Addr) (c : Nat) (hB : B ≤ w.heap.size) (h5 : some 5 ∉ ts) (hR : some 24 ∉ ts) (he : rnum r = true) (hr1 : ∀ x ∈ r1, x < 256) (hbl : body.length ≤ 4096)
    (hbv : ∀ w1, Fr bs ts B w w1 → Src w1 bv body)
    (hk : ∀ w1, Below w.heap.size w w1 → Calls Tryz.prog 141 #[sp, kv, .string (S7.strB S7.wriB), .int .i64 r.writer] w1 fun e w' => ∃ u, e = .returned u ∧ w'.ownsRow w1.heap.size 5 1 u 32 (ints .u8 r1) ∧ I w' ∧ Fr bs ts B w1 w')
    (hI : ∀ w1 w2, I w1 → Below w1.heap.size w1 w2 → I w2)
    (hc : ∀ w1 uv mv g, I w1 → By B w1 uv r1 → By B w1 mv (markL r.coll body) → w1.cell? ⟨g, 0, none⟩ = some mv → B ≤ w1.heap.size → Calls Tryz.prog 106 #[sp, uv, .slice (some ⟨g, 0, none⟩) 1 1] w1 fun e w' => ∃ u, e = .returned u ∧ w'.ownsRow w1.heap.size 5 1 u 32 (ints .u8 r2) ∧ J w' ∧ Fr bs ts B w1 w') :
    Calls Tryz.prog 63 #[sp, kv, .agg (RecV r q c), bv] w fun e w' => ∃ u, e = .returned u ∧ w'.ownsRow w.heap.size 5 1 u 32 (ints .u8 r2) ∧ J w' ∧ Fr bs ts B w w' := by
  obtain ⟨n1, n2, n3, n4⟩ := (rnum_iff r).1 he
  obtain ⟨bq, bc, hbe, -⟩ := (hbv w (fr_refl _ _ _ _)).slice
  have hb0 := S7.below_alloc' w (.cells (RecV r q c) 24)
  have hrow := heap_alloc_new w (.cells (RecV r q c) 24)
  have HW : Hid (Calls Tryz.prog 105 #[sp, kv, .int .i64 r.writer] (w.alloc (.cells (RecV r q c) 24)) fun e w' => ∃ u, e = .returned (.tuple #[u, .int .i64 0]) ∧ w'.ownsRow w.heap.size 5 1 u 32 (ints .u8 r1) ∧ I w' ∧ Fr bs ts B w w' ∧ w'.heap[w.heap.size]? = some (.cells (RecV r q c) 24 (0, 0))) :=
    S7.Writer_yes _ sp kv r.writer ⟨n3.1, n3.2⟩ (fun u w' => w'.ownsRow w.heap.size 5 1 u 32 (ints .u8 r1) ∧ I w' ∧ Fr bs ts B w w' ∧ w'.heap[w.heap.size]? = some (.cells (RecV r q c) 24 (0, 0))) ((hk _ hb0).mono (by
      rintro e w' ⟨u, rfl, h1, h2, h3⟩
      exact ⟨u, rfl, S7.own_older h1 hb0.size, h2, (Fr.of_below hb0 hB).trans h3, h3.kx.row _ _ hrow hR⟩))
  have HC := hid hc
  have HI := hid hI
  have HBV : Hid (∀ w1, Fr bs ts B w w1 → Src w1 bv body) := hbv
  have HX : Hid (B ≤ w.heap.size ∧ some 5 ∉ ts ∧ (∀ x ∈ r1, x < 256) ∧ body.length ≤ 4096 ∧ 0 ≤ r.coll ∧ r.coll ≤ 1099511627776) := ⟨hB, h5, hr1, hbl, by omega, by omega⟩
  clear hk hI hc hB h5 hR hr1 hbl hbv hrow hb0 n1 n2 n3 n4 he
  obtain ⟨bl, HBL⟩ : ∃ bl, Hid (body.length = bl) := ⟨_, rfl⟩
  rw [HBL.out] at hbe
  subst hbe
  unfold RecV at *
  generalize r.box.length = n5 at *
  go_enter Tryz.func63, Tryz.ntmps63
  go_wp2_with fail
  refine HW.out.mono ?_
  rintro e w1 ⟨u, rfl, h1, h2, h3, h4⟩
  obtain ⟨uq, uc, rfl⟩ := S7.own_slice h1
  obtain ⟨c0, -, -, -, -, -⟩ := rec_cells h4
  have G1 : Hid (w1.ownsRow w.heap.size 5 1 (.slice uq 32 uc) 32 (ints .u8 r1) ∧ I w1 ∧ Fr bs ts B w w1) := ⟨h1, h2, h3⟩
  have HP : Hid (Calls Tryz.prog 43 #[.slice (some ⟨w1.heap.size, 0, none⟩) 2 2] (w1.alloc (.cells #[.iface 3 (.int .i64 r.coll), .iface 22 (.slice bq bl bc)] 20)) fun e w' => ∃ v, e = .returned (.tuple #[v, .int .i64 0]) ∧ By B w' v (markL r.coll body) ∧ Below w1.heap.size w1 w' ∧ ∃ mq mc, v = .slice mq (body.length + 8) mc) := by
    refine (putM w1 r.coll body _ (HBV.out w1 h3) HX.out.2.2.2.2.1 HX.out.2.2.2.2.2 HX.out.2.2.2.1).mono ?_
    rintro e w' ⟨v, rfl, k1, k2⟩
    exact ⟨v, rfl, By.own (markL_small _ (HBV.out w1 h3).small) k1, k2, S7.own_slice k1⟩
  clear h1 h2 h3 h4 HW
  obtain ⟨ml, HML⟩ : ∃ ml, Hid (body.length + 8 = ml) := ⟨_, rfl⟩
  rw [HML.out] at HP
  go_wp2_with fail
  refine HP.out.mono ?_
  rintro e w2 ⟨v, rfl, k1, k2, mq, mc, rfl⟩
  have HQ : Hid (Calls Tryz.prog 106 #[sp, .slice uq 32 uc, .slice (some ⟨w2.heap.size, 0, none⟩) 1 1] (w2.alloc (.cells #[.slice mq ml mc] 22)) fun e w' => ∃ u, e = .returned u ∧ w'.ownsRow w.heap.size 5 1 u 32 (ints .u8 r2) ∧ J w' ∧ Fr bs ts B w w') := by
    have hbz := S7.below_alloc' w2 (.cells #[.slice mq ml mc] 22)
    have hb3 : Below w1.heap.size w1 (w2.alloc (.cells #[.slice mq ml mc] 22)) := k2.trans (hbz.mono k2.size)
    have hB1 : B ≤ w1.heap.size := Nat.le_trans HX.out.1 G1.out.2.2.size
    refine (HC.out _ _ _ w2.heap.size (HI.out _ _ G1.out.2.1 hb3) ((By.own HX.out.2.2.1 G1.out.1).below hb3) (k1.below hbz) (S7.cell_part w2 _) (Nat.le_trans hB1 hb3.size)).mono ?_
    rintro e w' ⟨u, rfl, j1, j2, j3⟩
    exact ⟨u, rfl, S7.own_older j1 (Nat.le_trans G1.out.2.2.size hb3.size), j2, (G1.out.2.2.trans (Fr.of_below hb3 hB1)).trans j3⟩
  clear k1 k2 HP HC HI G1 HX HBV c0
  go_wp2_with fail
  refine HQ.out.mono ?_
  rintro e w3 ⟨u, rfl, j1, j2, j3⟩
  have HZ : Hid (w3.ownsRow w.heap.size 5 1 u 32 (ints .u8 r2) ∧ J w3 ∧ Fr bs ts B w w3) := ⟨j1, j2, j3⟩
  clear j1 j2 j3 HQ
  go_wp2_with fail
  go_ret
  exact ⟨_, rfl, HZ.out⟩
set_option maxHeartbeats 1000000 in
theorem may_other (r : Rec) (q : Option Addr) (c : Nat) (kv bv : Value) (wr : Int) (w : World) (h : wr ≠ r.writer) : Calls Tryz.prog 60 #[kv, .agg (RecV r q c), .int .i64 wr, bv] w fun e w' => e = .returned (.int .i64 40) ∧ Below w.heap.size w w' := by
  have HB : Hid (∀ o1, Below w.heap.size w (w.alloc o1)) := fun o1 => S7.below_alloc' w o1
  obtain ⟨-, -, c2, -, -, -⟩ := rec_cells (heap_alloc_new w (.cells (RecV r q c) 24))
  have h1 : (wr == r.writer) = false := by rw [beq_eq_false_iff_ne]; exact h
  unfold RecV at *
  generalize r.box.length = n5 at *
  generalize r.writer = rw at *
  go_enter Tryz.func60, Tryz.ntmps60
  go_wp2_with fail
  go_ret
  exact ⟨rfl, HB.out _⟩
set_option maxHeartbeats 1000000 in
theorem may_key (r : Rec) (q : Option Addr) (c : Nat) (kq : Option Addr) (kn kc : Nat) (bv : Value) (w : World) (h : kn ≠ 32) : Calls Tryz.prog 60 #[.slice kq kn kc, .agg (RecV r q c), .int .i64 r.writer, bv] w fun e w' => e = .returned (.int .i64 21) ∧ Below w.heap.size w w' := by
  have HB : Hid (∀ o1, Below w.heap.size w (w.alloc o1)) := fun o1 => S7.below_alloc' w o1
  obtain ⟨-, -, c2, -, -, -⟩ := rec_cells (heap_alloc_new w (.cells (RecV r q c) 24))
  have h1 : ((kn : Int) == 32) = false := by rw [beq_eq_false_iff_ne]; omega
  have h2 : ¬ (kn : Int) = 32 := by omega
  clear h
  unfold RecV at *
  generalize r.box.length = n5 at *
  generalize r.writer = rw at *
  go_enter Tryz.func60, Tryz.ntmps60
  go_wp2_with fail
  go_ret
  exact ⟨rfl, HB.out _⟩
set_option maxHeartbeats 1000000 in
theorem may_range (r : Rec) (q : Option Addr) (c : Nat) (kq : Option Addr) (kc : Nat) (bv : Value) (w : World) (h : rnum r = false) : Calls Tryz.prog 60 #[.slice kq 32 kc, .agg (RecV r q c), .int .i64 r.writer, bv] w fun e w' => e = .returned (.int .i64 12) ∧ Below w.heap.size w w' := by
  have hb0 := S7.below_alloc' w (.cells (RecV r q c) 24)
  have HN : Hid (Calls Tryz.prog 44 #[.agg (RecV r q c)] (w.alloc (.cells (RecV r q c) 24)) fun e w' => e = .returned (.bool false) ∧ Below w.heap.size w w') := by
    refine (rnum_any r q c _).mono ?_
    rintro e w' ⟨rfl, hb⟩
    exact ⟨by rw [h], hb0.trans (hb.mono hb0.size)⟩
  obtain ⟨c0, c1, c2, c3, c4, -⟩ := rec_cells (heap_alloc_new w (.cells (RecV r q c) 24))
  clear h hb0
  unfold RecV at *
  generalize r.box.length = n5 at *
  generalize r.writer = rw at *
  generalize r.coll = ra at *
  generalize r.epoch = rb at *
  generalize r.count = rd at *
  go_enter Tryz.func60, Tryz.ntmps60
  go_wp2_with fail
  refine HN.out.mono ?_
  rintro e w1 ⟨rfl, hb⟩
  have HZ : Hid (Below w.heap.size w w1) := hb
  clear hb HN c0 c1 c2 c3 c4
  go_wp2_with fail
  go_ret
  exact ⟨rfl, HZ.out⟩
set_option maxHeartbeats 2000000 in
theorem may_ok (r : Rec) (q : Option Addr) (c : Nat) (kq : Option Addr) (kc : Nat) (bv : Value) (body : List Nat) (w : World) (h : rnum r = true) (hs : Src w bv body) (hl : body.length ≤ 2000) : Calls Tryz.prog 60 #[.slice kq 32 kc, .agg (RecV r q c), .int .i64 r.writer, bv] w fun e w' => e = .returned (.int .i64 0) ∧ Below w.heap.size w w' := by
  have hb0 := S7.below_alloc' w (.cells (RecV r q c) 24)
  have HN : Hid (Calls Tryz.prog 44 #[.agg (RecV r q c)] (w.alloc (.cells (RecV r q c) 24)) fun e w' => e = .returned (.bool true) ∧ Below w.heap.size w w') := by
    refine (rnum_any r q c _).mono ?_
    rintro e w' ⟨rfl, hb⟩
    exact ⟨by rw [h], hb0.trans (hb.mono hb0.size)⟩
  obtain ⟨c0, c1, c2, c3, c4, -⟩ := rec_cells (heap_alloc_new w (.cells (RecV r q c) 24))
  obtain ⟨bq, bc, rfl, -⟩ := hs.slice
  have HS : Hid (Src w (.slice bq body.length bc) body ∧ body.length ≤ 2000) := ⟨hs, hl⟩
  have HSZ : Hid (∀ (n : Int) w1, n = (body.length : Int) + 32 + 4 → Calls Tryz.prog 104 #[.int .i64 n] w1 fun e w' => (∃ m : Nat, e = .returned (.tuple #[.int .i64 (m : Int), .int .i64 0])) ∧ w' = w1) := fun n w1 e => by
    have := (Size_ok (body.length + 36) w1 (by omega)).mono (fun e w' (h : _ ∧ _) => (⟨⟨_, h.1⟩, h.2⟩ : (∃ m : Nat, e = .returned (.tuple #[.int .i64 (m : Int), .int .i64 0])) ∧ w' = w1))
    rw [e, show (body.length : Int) + 32 + 4 = ((body.length + 36 : Nat) : Int) by omega]
    exact this
  clear h hb0 hs hl
  unfold RecV at *
  generalize r.box.length = n5 at *
  generalize r.writer = rw at *
  generalize r.coll = ra at *
  generalize r.epoch = rb at *
  generalize r.count = rd at *
  obtain ⟨bl, HBL⟩ : ∃ bl, Hid (body.length = bl) := ⟨_, rfl⟩
  rw [HBL.out] at HSZ HS ⊢
  go_enter Tryz.func60, Tryz.ntmps60
  go_wp2_with fail
  refine HN.out.mono ?_
  rintro e w1 ⟨rfl, hb⟩
  have HZ : Hid (Below w.heap.size w w1) := hb
  clear hb HN c0 c1 c2 c3 c4
  go_wp2_with (first | with_reducible (refine stop_make 22 ?_))
  refine Stop.go ?_
  refine law_make w1.heap.size 32 32 rfl rfl (Nat.le_refl _) (by decide) (Nat.le_refl _) ?_
  intro w2 ho hg
  have HT : Hid (Calls Tryz.prog 62 #[.slice bq bl bc, .slice (some ⟨w1.heap.size, 0, none⟩) 32 32] w2 fun e w' => (∃ xq xc, e = .returned (.slice xq (bl + 32 + 4) xc)) ∧ Below w.heap.size w w') := by
    have hb2 : Below w1.heap.size w1 w2 := (Below.refl _ w1).grown hg (Nat.le_refl _) (fun k hk => by cases hk)
    have h1 := two_any body (List.replicate 32 0) _ _ w2 ((HS.out.1.below HZ.out).below hb2) (Src.own (fun x hx => by rw [List.eq_of_mem_replicate hx]; decide) ho) (by have := HS.out.2; have := HBL.out; omega) (by simp)
    refine h1.mono ?_
    rintro e w' ⟨x, rfl, k1, k2⟩
    obtain ⟨xq, xc, rfl⟩ := own_slice k1
    rw [HBL.out, List.length_replicate]
    exact ⟨⟨_, _, rfl⟩, (HZ.out.trans (hb2.mono HZ.out.size)).trans (k2.mono (Nat.le_trans HZ.out.size hb2.size))⟩
  clear ho hg HS
  go_wp2_with fail
  refine HT.out.mono ?_
  rintro e w3 ⟨⟨xq, xc, rfl⟩, hb3⟩
  have HZ3 : Hid (Below w.heap.size w w3) := hb3
  clear hb3 HT HZ
  go_wp2_with fail
  refine (HSZ.out _ _ (by simp)).mono ?_
  rintro e w4 ⟨⟨m, rfl⟩, hw⟩
  obtain rfl : w3 = w4 := hw.symm
  clear hw HSZ
  go_wp2_with fail
  go_ret
  exact ⟨rfl, HZ3.out⟩
end Go.Proofs.YtfjdaafckiefdaaGreatDoor.S15
