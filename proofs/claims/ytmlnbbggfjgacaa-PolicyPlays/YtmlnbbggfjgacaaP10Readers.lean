/- The contract of Readers over members that rise. -/
import Derived.Test.YtmlnbbggfjgacaaP10Read
import Derived.Test.YtmlnbbggfjgacaaE9Made
namespace Go.Proofs.Ytmlnbbggfjgacaa.P10
open Go.RowKit C8 E9
theorem own_old {w : World} {A B e s n : Nat} {v : Value} {xs : List Value} (h : w.ownsRow B e s v n xs) (hb : A ≤ B) : w.ownsRow A e s v n xs := by
  obtain ⟨hl, h1 | ⟨g, cap, cur, rfl, hg, hr⟩⟩ := h
  · exact ⟨hl, .inl h1⟩
  · exact ⟨hl, .inr ⟨g, cap, cur, rfl, Nat.le_trans hb hg, hr⟩⟩
theorem mok_at : ∀ {ms : List (Int × Int)} {last : Int}, mok last ms = true → (∀ m ∈ ms, last < m.1 ∧ m.1 ≤ 16 ∧ 1 ≤ m.2 ∧ m.2 ≤ 7)
  | [], _, _ => fun m hm => by cases hm
  | x :: r, last, h => fun m hm => by
    unfold mok at h
    simp only [Bool.and_eq_true, decide_eq_true_eq] at h
    rcases List.mem_cons.1 hm with rfl | hm
    · exact ⟨by omega, h.1.1.2, h.1.2.1, h.1.2.2⟩
    · have := mok_at h.2 m hm
      omega
theorem mok_rise : ∀ {ms : List (Int × Int)} {last : Int}, mok last ms = true → Rise ms
  | [], _, _ => fun i j _ hj _ => absurd hj (by simp)
  | x :: r, last, h => fun i j hij hj hi => by
    unfold mok at h
    simp only [Bool.and_eq_true, decide_eq_true_eq] at h
    cases j with
    | zero => omega
    | succ j =>
      cases i with
      | zero => exact (mok_at h.2 _ (List.getElem_mem (by simpa using hj))).1
      | succ i => exact mok_rise h.2 i j (by omega) (by simpa using hj) (by simpa using hi)
theorem mok_len : ∀ {ms : List (Int × Int)} {last : Int}, last ≤ 16 → mok last ms = true → (ms.length : Int) ≤ 16 - last
  | [], last, h, _ => by simp; omega
  | x :: r, last, _, h => by
    unfold mok at h
    simp only [Bool.and_eq_true, decide_eq_true_eq] at h
    have := mok_len h.1.1.2 h.2
    rw [List.length_cons]
    omega
/-- Those who may read. -/
def rdrs (ms : List (Int × Int)) : List Int := (ms.filter (fun m => decide (m.2 % 2 = 1))).map (·.1)
def intV (l : List Int) : List Value := l.map (Value.int .i64 ·)
theorem rdrs_take {ms : List (Int × Int)} {j : Nat} (h : j < ms.length) : rdrs (ms.take (j + 1)) = rdrs (ms.take j) ++ (if ms[j].2 % 2 = 1 then [ms[j].1] else []) := by
  unfold rdrs
  rw [List.take_succ_eq_append_getElem h, List.filter_append, List.map_append]
  congr 1
  by_cases h2 : ms[j].2 % 2 = 1
  · simp [h2]
  · simp [h2]
theorem rdrs_le (ms : List (Int × Int)) : (rdrs ms).length ≤ ms.length := by
  unfold rdrs
  rw [List.length_map]
  exact List.length_filter_le _ _
theorem and1 {x : Int} (h : 1 ≤ x ∧ x ≤ 7) : ∃ y, bits BinOp.and .i64 x 1 = y ∧ ((y != 0) = decide (x % 2 = 1)) := by
  obtain rfl | rfl | rfl | rfl | rfl | rfl | rfl : x = 1 ∨ x = 2 ∨ x = 3 ∨ x = 4 ∨ x = 5 ∨ x = 6 ∨ x = 7 := by omega
  all_goals exact ⟨_, rfl, by decide⟩
theorem info3e : ∃ i, Try.prog.info? 3 = some i ∧ i.size = 1 ∧ i.bytes = 8 ∧ i.zero = some (.int .i64 0) := info_of (by kernel_rfl)
theorem law_append_int {ops : Array Oper} {rest : List Oper} {dst : Option Tmp} {T : TypeId} {pos : String} {after : Array Edge} {a : Act} {w : World} {Q : Exit → Act → World → Prop} {so xo : Operand}
    (base : Nat) (v : Value) (n : Nat) (xs : List Value) (g : Nat) (news : List Value) (hs : a.eval so = v) (hx : a.eval xo = .slice (some ⟨g, 0, none⟩) 1 1) (hl : news.length = 1) (hown : w.ownsRow base 3 1 v n xs) (hc : w.rangeAt g 0 news) (hu : ∀ y ∈ news, y.oneCell' = true)
    (hn : n ≤ 1000000) (hbase : base ≤ w.heap.size)
    (h : ∀ v' w', w'.ownsRow base 3 1 v' (n + 1) (xs ++ news) → w.grownBy w' v.ownBlock → wpList Try.prog ops Q rest (a.put dst v') w') :
    wpList Try.prog ops Q ({ dst := dst, op := .call { callee := .builtin .append, args := #[so, xo], argTypes := #[53, 53] }, type := T, pos := pos, after := after, guard := none } :: rest) a w := by
  obtain ⟨i, hi, hsz, hby, hz⟩ := info3e
  refine wpList_append_own_at _ rfl so xo 53 rfl base 3 i _ 1 8 Try.underlying53 hi hz hsz hby rfl (by decide) v n xs hs hown ⟨g, 0, none⟩ 1 1 news hx (by omega) (fun j y hy => ?_) hu (by unfold maxLen; omega) (by omega) hbase (fun v' w' h1 h2 _ _ => h v' w' h1 h2)
  rw [Addr.add_mid]
  exact hc j y hy
theorem law_append_mb {ops : Array Oper} {rest : List Oper} {dst : Option Tmp} {T : TypeId} {pos : String} {after : Array Edge} {a : Act} {w : World} {Q : Exit → Act → World → Prop} {so xo : Operand}
    (base : Nat) (v : Value) (n : Nat) (xs : List Value) (g : Nat) (news : List Value) (hs : a.eval so = v) (hx : a.eval xo = .slice (some ⟨g, 0, none⟩) 1 1) (hl : news.length = 2) (hown : w.ownsRow base 50 2 v n xs) (hc : w.rangeAt g 0 news) (hu : ∀ y ∈ news, y.oneCell' = true)
    (hn : n ≤ 1000000) (hbase : base ≤ w.heap.size)
    (h : ∀ v' w', w'.ownsRow base 50 2 v' (n + 1) (xs ++ news) → w.grownBy w' v.ownBlock → wpList Try.prog ops Q rest (a.put dst v') w') :
    wpList Try.prog ops Q ({ dst := dst, op := .call { callee := .builtin .append, args := #[so, xo], argTypes := #[24, 24] }, type := T, pos := pos, after := after, guard := none } :: rest) a w := by
  obtain ⟨i, hi, hsz, hby, hz⟩ := info50e
  refine wpList_append_own_at _ rfl so xo 24 rfl base 50 i _ 2 16 Try.underlying24 hi hz hsz hby rfl (by decide) v n xs hs hown ⟨g, 0, none⟩ 1 1 news hx (by omega) (fun j y hy => ?_) hu (by unfold maxLen; omega) (by omega) hbase (fun v' w' h1 h2 _ _ => h v' w' h1 h2)
  rw [Addr.add_mid]
  exact hc j y hy
set_option maxHeartbeats 4000000 in
theorem Readers_any (p : Pol) (va : Value) (w : World) (hp : PolIs w va p) (hm : mok 0 p.ms = true) (h0 : p.ms ≠ []) :
    Calls Try.prog 22 #[va] w fun e w' => ∃ v, e = .returned v ∧ w'.ownsRow w.heap.size 3 1 v (rdrs p.ms).length (intV (rdrs p.ms)) ∧ Below w.heap.size w w' := by
  obtain ⟨q, c, rfl, h, hl⟩ := hp
  obtain ⟨pf, pe, ms⟩ := p
  simp only [PolV] at h hl hm h0 ⊢
  have hr := mok_rise hm
  have hlen : ms.length ≤ 16 := by have := mok_len (by decide) hm; omega
  have hat := mok_at hm
  have HC25 : ∀ W, Hid (Below w.heap.size w W) → Calls Try.prog 25 #[.slice q ms.length c] W fun e w' => ∃ q1 c1, e = .returned (.slice q1 ms.length c1) ∧ Hid (MbOwn w.heap.size w' (.slice q1 ms.length c1) ms ∧ Below w.heap.size w w') := fun W hW => (clone_any q c ms W (h.below hW.out) h0 (by omega)).mono (by
    rintro e w' ⟨v, rfl, h1, h2⟩
    obtain ⟨q1, c1, rfl⟩ := own_slice h1
    exact ⟨q1, c1, rfl, MbOwn.of_own (own_old h1 hW.out.size) rfl, hW.out.trans (bel_le h2 hW.out.size)⟩)
  have HC35 : ∀ W q1 c1, Hid (MbOwn w.heap.size W (.slice q1 ms.length c1) ms ∧ Below w.heap.size w W) → Calls Try.prog 35 #[.slice q1 ms.length c1, .func (.func 28) #[] #[]] W fun e w' => e = .returned (.tuple #[]) ∧ Hid (MbOwn w.heap.size w' (.slice q1 ms.length c1) ms ∧ Below w.heap.size w w') := fun W q1 c1 hW => (stable_any w.heap.size q1 ms.length c1 ms W hW.out.1 h0 hr hlen).mono (by
    rintro e w' ⟨rfl, h1, h2⟩
    exact ⟨rfl, h1, hW.out.2.trans h2⟩)
  have HC36 : ∀ W q1 c1, Hid (MbOwn w.heap.size W (.slice q1 ms.length c1) ms ∧ Below w.heap.size w W) → Calls Try.prog 36 #[.slice q1 ms.length c1, .func (.func 37) #[] #[]] W fun e w' => e = .returned (.slice q1 ms.length c1) ∧ Hid (Mb w' q1 ms ∧ Below w.heap.size w w') := fun W q1 c1 hW => (compact_any q1 c1 ms W hW.out.1.mb.2 hr (by omega)).mono (by
    rintro e w' ⟨rfl, h1⟩
    exact ⟨rfl, hW.out.1.mb.2.below h1, hW.out.2.trans (bel_le h1 hW.out.2.size)⟩)
  have HB0 : Hid (Below w.heap.size w (w.alloc (.cells #[.int .i64 pf, .int .i64 pe, .slice q ms.length c] 26))) := bel_alloc (Nat.le_refl _) _
  obtain ⟨n, HN⟩ : ∃ n, Hid (ms.length = n) := ⟨_, rfl⟩
  have HAT : Hid (∀ m ∈ ms, (0 : Int) < m.1 ∧ m.1 ≤ 16 ∧ 1 ≤ m.2 ∧ m.2 ≤ 7) := hat
  clear h hl hm h0 hr hat
  rw [HN.out] at HC25 HC35 HC36 HB0 hlen ⊢
  have l1 : (n : Int) ≤ 16 := by omega
  go_enter Try.func22, Try.ntmps22
  go_wp2_with (first | (go_at_call 25; refine (HC25 _ HB0).mono ?_; rintro e w1 ⟨q1, c1, rfl, S1⟩))
  refine (HC35 _ _ _ S1).mono ?_
  rintro e w2 ⟨rfl, S2⟩
  go_wp2_with fail
  refine (HC36 _ _ _ S2).mono ?_
  rintro e w3 ⟨rfl, S3⟩
  clear HC25 HC35 HC36 S1 S2 HB0
  go_wp2_with fail
  go_loopw [4, 16] (fun s i wr => ∃ (j : Nat) (qr : Option Addr) (nr cr : Nat), j ≤ n ∧ i = .int .i64 j ∧ s = .slice qr nr cr ∧ Hid (Below w3.heap.size w3 wr ∧ nr = (rdrs (ms.take j)).length ∧ wr.ownsRow w3.heap.size 3 1 (.slice qr nr cr) nr (intV (rdrs (ms.take j))))) (fun _ i _ => n - (intOf i).toNat)
  case atStart => exact ⟨0, none, 0, 0, by omega, rfl, rfl, Below.refl _ _, rfl, own_none _ _ _ _⟩
  case round =>
    obtain ⟨j, qr, nr, cr, hj, rfl, rfl, HJ⟩ := hrel
    by_cases hlt : j < n
    · have ja : j < ms.length := by rw [HN.out]; exact hlt
      obtain ⟨b, o, rfl, k2, k3, k4⟩ := S3.out.1 j ja
      have d0 := (HJ.out.1.cell (p := ⟨b, o + j * 2, none⟩) k2).trans k3
      have d1 := (HJ.out.1.cell (p := ⟨b, o + j * 2 + 1, none⟩) k2).trans k4
      have j1 : (j : Int) < (n : Int) := by omega
      have j0 : (0 : Int) ≤ (j : Int) := by omega
      obtain ⟨y, hy1, hy2⟩ := and1 (HAT.out _ (List.getElem_mem ja)).2.2
      have HTK : Hid (rdrs (ms.take (j + 1)) = rdrs (ms.take j) ++ (if ms[j].2 % 2 = 1 then [ms[j].1] else [])) := rdrs_take ja
      have HNR : Hid (nr ≤ 16) := by have := rdrs_le (ms.take j); have h2 := HJ.out.2.1; rw [List.length_take] at this; show nr ≤ 16; omega
      have hBA : ∀ ob, Below wr.heap.size wr (wr.alloc ob) := fun ob => bel_alloc (Nat.le_refl _) ob
      have HBA : Hid (∀ ob, Below wr.heap.size wr (wr.alloc ob)) := hBA
      clear k3 k4 hBA
      generalize ms[j] = x at *
      obtain ⟨x1, x2⟩ := x
      simp only at d0 d1 hy1 hy2 HTK
      clear ja
      by_cases hx : x2 % 2 = 1
      · rw [decide_eq_true hx] at hy2
        rw [if_pos hx] at HTK
        clear hx
        go_wp2_with (first | with_reducible (refine stop_builtin .append ?_))
        refine Stop.go ?_
        have hA : ∀ o1 o2, Below wr.heap.size wr ((wr.alloc o1).alloc o2) := fun o1 o2 => (bel_alloc (Nat.le_refl _) o1).trans (bel_alloc (by simp) o2)
        refine law_append_int w3.heap.size (.slice qr nr cr) nr (intV (rdrs (ms.take j))) (wr.heap.size + 1) [.int .i64 x1] rfl rfl rfl (own_below HJ.out.2.2 (hA _ _)) ?hr (by simp; rfl) (by have := HNR.out; omega) (Nat.le_trans HJ.out.1.size (hA _ _).size) ?_
        case hr =>
          have hr0 := range_last (wr.alloc (.cells #[.int .i64 x1, .int .i64 x2] 50)) [.int .i64 x1] 3
          rw [show (wr.alloc (.cells #[.int .i64 x1, .int .i64 x2] 50)).heap.size = wr.heap.size + 1 from by simp] at hr0
          exact hr0
        intro v2 w5 h1 h2
        obtain ⟨q5, c5, rfl⟩ := own_slice h1
        have hb5 := below_append (own_below HJ.out.2.2 (hA _ _)) h2 (Nat.le_trans HJ.out.1.size (hA _ _).size)
        have HJ2 : Hid (Below w3.heap.size w3 w5 ∧ nr + 1 = (rdrs (ms.take (j + 1))).length ∧ w5.ownsRow w3.heap.size 3 1 (.slice q5 (nr + 1) c5) (nr + 1) (intV (rdrs (ms.take (j + 1))))) := by
          refine ⟨HJ.out.1.trans ((bel_le (hA _ _) HJ.out.1.size).trans hb5), ?_, ?_⟩
          · rw [HTK.out, List.length_append, ← HJ.out.2.1]; rfl
          · rw [HTK.out, intV, List.map_append]
            exact h1
        clear h1 h2 hA hb5 HJ HTK HBA HNR
        go_wp2_with fail
        refine ⟨⟨j + 1, q5, nr + 1, c5, by omega, by simp, rfl, HJ2⟩, ?_⟩
        simp only [intOf]
        omega
      · rw [decide_eq_false hx] at hy2
        rw [if_neg hx, List.append_nil] at HTK
        clear hx
        have HJ2 : Hid (∀ ob, Below w3.heap.size w3 (wr.alloc ob) ∧ nr = (rdrs (ms.take (j + 1))).length ∧ (wr.alloc ob).ownsRow w3.heap.size 3 1 (.slice qr nr cr) nr (intV (rdrs (ms.take (j + 1))))) := fun ob => by
          rw [HTK.out]
          exact ⟨HJ.out.1.trans (bel_le (HBA.out ob) HJ.out.1.size), HJ.out.2.1, own_below HJ.out.2.2 (HBA.out ob)⟩
        clear HJ HTK HBA HNR
        go_wp2_with fail
        refine ⟨⟨j + 1, qr, nr, cr, by omega, by simp, rfl, HJ2.out _⟩, ?_⟩
        simp only [intOf]
        omega
    · obtain rfl : j = n := by omega
      have j1 : ¬ (j : Int) < (j : Int) := by omega
      have HF : Hid (∃ v, Value.slice qr nr cr = v ∧ wr.ownsRow w.heap.size 3 1 v (rdrs ms).length (intV (rdrs ms)) ∧ Below w.heap.size w wr) := by
        have h1 := HJ.out
        rw [List.take_of_length_le (by rw [HN.out]; omega)] at h1
        refine ⟨_, rfl, ?_, S3.out.2.trans (bel_le h1.1 S3.out.2.size)⟩
        rw [← h1.2.1]
        exact own_old h1.2.2 S3.out.2.size
      clear HJ S3
      go_wp2_with fail
      go_ret
      obtain ⟨v, rfl, h1, h2⟩ := HF.out
      exact ⟨_, rfl, h1, h2⟩
end Go.Proofs.Ytmlnbbggfjgacaa.P10
