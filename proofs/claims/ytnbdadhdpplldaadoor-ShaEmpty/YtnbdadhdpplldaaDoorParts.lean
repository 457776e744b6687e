/- The walk of ShaParts. -/
import Derived.Test.YtnbdadhdpplldaaDoorOwn
namespace Go.Proofs.YtnbdadhdpplldaaDoor
open Go.RowKit
/-- Parts that came in: each is a slice of bytes. -/
def PartsIs (w : World) (pv : Value) (ls : List (List Nat)) : Prop :=
  ∃ p c, pv = .slice p ls.length c ∧ ls.length ≤ 9223372036854775807 ∧ (ls ≠ [] → ∃ b o, p = some ⟨b, o, none⟩ ∧ ∀ (i : Nat) (l : List Nat), ls[i]? = some l → ∃ a d, w.cell? ⟨b, o + i, none⟩ = some (.slice a l.length d) ∧ l.length ≤ 9223372036854775807 ∧ SrcIs w (.slice a l.length d) l ∧ BytesAt w (.slice a l.length d) l)
theorem PartsIs.at {w : World} {pv : Value} {ls : List (List Nat)} (h : PartsIs w pv ls) : PartsAt w pv ls := by
  obtain ⟨p, c, rfl, hm, hh⟩ := h
  by_cases h0 : ls = []
  · subst h0
    exact .inl ⟨p, c, rfl, rfl⟩
  · obtain ⟨b, o, rfl, h⟩ := hh h0
    have hv : ∀ i, i < ls.length → ∃ u, w.cell? ⟨b, o + i, none⟩ = some u ∧ ∀ l, ls[i]? = some l → BytesAt w u l := fun i hi => by
      obtain ⟨a, d, h1, _, _, h2⟩ := h i ls[i] (List.getElem?_eq_getElem hi)
      exact ⟨_, h1, fun l hl => by rw [List.getElem?_eq_getElem hi] at hl; cases hl; exact h2⟩
    refine .inr ⟨b, o, c, (List.range ls.length).map fun i => (w.cell? ⟨b, o + i, none⟩).getD undef, rfl, hm, fun i v hi => ?_, fun i l hl => ?_⟩
    · have hlt : i < ls.length := by have := (List.getElem?_eq_some_iff.1 hi).1; simpa using this
      obtain ⟨u, hu, _⟩ := hv i hlt
      simp [hlt, hu] at hi
      rw [hu, hi]
    · have hlt := (List.getElem?_eq_some_iff.1 hl).1
      obtain ⟨u, hu, hb⟩ := hv i hlt
      exact ⟨u, by simp [hlt, hu], hb l hl⟩
theorem partsAt_below {w w' : World} {v : Value} {ls : List (List Nat)} (h : PartsAt w v ls) (hb : Below w.heap.size w w') : PartsAt w' v ls := by
  rcases h with h | ⟨b, o, c, vs, rfl, hm, hr, h⟩
  · exact .inl h
  · exact .inr ⟨b, o, c, vs, rfl, hm, rangeAt_below hb hr, fun i l hl => by obtain ⟨u, h1, h2⟩ := h i l hl; exact ⟨u, h1, bytesAt_below h2 hb⟩⟩
theorem sums_step {w w' : World} {v : Value} {ls : List (List Nat)} (hx : PartsAt w v ls) (hT : Tab w) (hn : ls.flatten.length < 576460752303423488) (hb : Below w.heap.size w w') :
    Calls Tryd.prog 10 #[v] w' fun e w2 => ∃ v, e = .returned v ∧ Below w'.heap.size w' w2 ∧ SumV ls.flatten v w2 := by
  refine (sum_any ls v w' (partsAt_below hx hb) (tab_below hT hb) hn).mono ?_
  rintro e w2 ⟨b, rfl, _, h2, h3⟩
  exact ⟨_, rfl, h3, b, rfl, h2⟩
def manyV (pv : Value) (h : Nat) (l : List Nat) (x : Value) : Nat → Value → World → Prop
  | 0 => IsV pv
  | n + 1 => twoV 0 h l l x x (n + 1)
theorem manyV_kept (pv : Value) (h : Nat) (l : List Nat) (x : Value) : ∀ i v w w', manyV pv h l x i v w → Below w.heap.size w w' → manyV pv h l x i v w'
  | 0, _, _, _, h, _ => h
  | n + 1, v, w, w', h, hb => twoV_kept _ _ _ _ _ _ (n + 1) v w w' h hb
def oneV (g : Nat) (l : List Nat) (x : Value) : Nat → Value → World → Prop
  | 7 => IsV (.bool false)
  | n => twoV g g l l x x n
theorem oneV_kept (g : Nat) (l : List Nat) (x : Value) : ∀ i v w w', oneV g l x i v w → Below w.heap.size w w' → oneV g l x i v w' := by
  intro i v w w' h hb
  by_cases hi : i = 7
  · subst hi; exact h
  · have e : oneV g l x i = twoV g g l l x x i := by
      unfold oneV
      split
      · exact absurd rfl hi
      · rfl
    rw [e] at h ⊢
    exact twoV_kept _ _ _ _ _ _ i v w w' h hb
theorem ne_run {o : Oper} {a' : Act} {w' : World} {s : ByteArray} (t u : Tmp) (ho : o.op = .binOp .neq 9 (.tmp t) (.tmp u) 9) (h0 : a'.tmps.getD t undef = .string s) (h1 : a'.tmps.getD u undef = .string s) :
    (execOp a'.eval o).run Tryd.prog w' = .ok (.value (.bool false)) w' := by
  unfold execOp
  simp only [ho, Act.eval, h0, h1]
  simp [go_sem]
theorem ownsRow_grown {w w' : World} {B n r : Nat} {v : Value} {xs : List Value} (h : w.ownsRow B 5 1 v n xs) (hg : w.grownBy w' (some r)) (hr : r < B) : w'.ownsRow B 5 1 v n xs := by
  obtain ⟨h0, h | ⟨g, cap, cur, e, hB, hh, h1⟩⟩ := h
  · exact ⟨h0, .inl h⟩
  · exact ⟨h0, .inr ⟨g, cap, cur, e, hB, (hg.block g (Array.getElem?_eq_some_iff.1 hh).1 (fun e => by have := Option.some.inj e; omega)).trans hh, h1⟩⟩
theorem ownsRow_below {w w' : World} {B n : Nat} {v : Value} {xs : List Value} (h : w.ownsRow B 5 1 v n xs) (hb : Below w.heap.size w w') : w'.ownsRow B 5 1 v n xs := by
  obtain ⟨h0, h | ⟨g, cap, cur, e, hB, hh, h1⟩⟩ := h
  · exact ⟨h0, .inl h⟩
  · exact ⟨h0, .inr ⟨g, cap, cur, e, hB, (hb.block g (Array.getElem?_eq_some_iff.1 hh).1).trans hh, h1⟩⟩
theorem getD_of_lt (xs : Array Value) (t : Nat) (h : t < xs.size) : xs.getD t undef = xs[t] := by simp [h]
theorem size_putAll (vs : List Value) : ∀ (ds : List Tmp) (a : Act) (us : List Value), (putAll a ds us).tmps.size = a.tmps.size ∧ (putAll a ds us).defers = a.defers
  | [], _, _ => ⟨rfl, rfl⟩
  | _ :: _, _, [] => ⟨rfl, rfl⟩
  | d :: ds, a, u :: us => by
    have := size_putAll vs ds (a.put (some d) u) us
    unfold putAll
    rw [this.1, this.2, size_put, defers_put]
    exact ⟨rfl, rfl⟩
theorem getD_putAll (f : Tmp → Value) (t : Tmp) : ∀ (ds : List Tmp) (a : Act), t < a.tmps.size → (putAll a ds (ds.map f)).tmps.getD t undef = if t ∈ ds then f t else a.tmps.getD t undef
  | [], a, _ => by simp [putAll]
  | d :: ds, a, ht => by
    have h1 := getD_putAll f t ds (a.put (some d) (f d)) (by rw [size_put]; exact ht)
    simp only [List.map_cons, putAll, h1]
    by_cases hd : t = d
    · subst hd
      by_cases hm : t ∈ ds
      · simp [hm]
      · rw [getD_put_same _ _ _ ht]; simp [hm]
    · rw [getD_put _ _ _ _ (fun e => hd (Option.some.inj e).symm)]
      simp [hd]
/-- Behind the region the frame is the old one with the region's temporaries set. -/
theorem RInv.put {ops : Array Oper} {V : Nat → Value → World → Prop} {G : World → World → Prop} {a a' : Act} {w w' : World} (inv : RInv ops V G a w a' w') (ds : List Tmp)
    (hds : (List.range ops.size).all (fun i => match (ops[i]?).bind (·.dst) with | none => true | some d => ds.contains d) = true) : a' = putAll a ds (ds.map fun t => a'.tmps.getD t undef) := by
  have hs := size_putAll [] ds a (ds.map fun t => a'.tmps.getD t undef)
  have ht : a'.tmps = (putAll a ds (ds.map fun t => a'.tmps.getD t undef)).tmps := by
    apply Array.ext
    · rw [hs.1, inv.size]
    · intro t h1 h2
      have hlt : t < a.tmps.size := by rw [← inv.size]; exact h1
      have h3 := getD_putAll (fun t => a'.tmps.getD t undef) t ds a hlt
      have e1 := getD_of_lt _ t h1
      have e2 := getD_of_lt _ t h2
      rw [← e1, ← e2, h3]
      by_cases hm : t ∈ ds
      · rw [if_pos hm]
      · rw [if_neg hm]
        refine inv.old t (fun i e => hm ?_)
        have hi : i < ops.size := by
          cases ho : ops[i]? with
          | none => simp [ho] at e
          | some oj => exact (Array.getElem?_eq_some_iff.1 ho).1
        have := List.all_eq_true.1 hds i (List.mem_range.2 hi)
        simpa [e] using this
  cases a' with
  | mk tm df =>
    have hd : df = a.defers := inv.defers
    generalize putAll a ds _ = x at *
    cases x with
    | mk tm' df' =>
      simp only at ht hs
      rw [ht, hd, hs.2]
theorem take_small (ls : List (List Nat)) (k : Nat) (h : ∀ i l, i < k → ls[i]? = some l → l.length ≤ 300) : (ls.take k).flatten.length ≤ 300 * k := by
  induction k with
  | zero => simp
  | succ k ih =>
    have h1 := ih (fun i l hi hl => h i l (by omega) hl)
    cases hk : ls[k]? with
    | none => rw [List.take_of_length_le (by have := List.getElem?_eq_none_iff.1 hk; omega)]; rw [List.take_of_length_le (List.getElem?_eq_none_iff.1 hk)] at h1; omega
    | some l =>
      rw [flatten_take ls k l hk, List.length_append]
      have := h k l (by omega) hk
      omega
set_option maxHeartbeats 1000000 in
theorem shaParts_any (pp : Option Addr) (cp : Nat) (ls : List (List Nat)) (w : World) (hP : PartsIs w (.slice pp ls.length cp) ls) (hn : ls.length ≤ 30) (hT : Tab w) :
    Calls Tryd.prog 4 #[.slice pp ls.length cp] w fun e w' => e = .returned (.bool true) ∧ Below w.heap.size w w' := by
  have HT : Hid (Tab w) := hT
  have HP : Hid (PartsAt w (.slice pp ls.length cp) ls) := hP.at
  have HE : Hid (PartsIs w (.slice pp ls.length cp) ls) := hP
  clear hT hP
  have n1 : ¬ (30 : Int) < (ls.length : Int) := by omega
  go_enter Tryd.func4, Tryd.ntmps4
  go_wp2_with fail
  refine (anchor_any w HT.out).mono ?_
  rintro e w1 ⟨rfl, hb1⟩
  have hsz1 := hb1.size
  have HB1 : Hid _ := hb1
  clear hb1
  go_wp2_with (first | (go_at_call 12; refine (new_any _).mono ?_; rintro e w' ⟨rfl, rfl⟩))
  go_loopw [15, 4, 6] (fun i av _ wr => ∃ (k : Nat) (M : List Nat), k ≤ ls.length ∧ i = .int .i64 k ∧ Hid (M = (ls.take k).flatten) ∧ (∃ px cx, av = .slice px M.length cx) ∧ M.length ≤ 300 * k ∧ w1.heap.size + 1 ≤ wr.heap.size ∧ Hid (HashAt wr w1.heap.size M) ∧ Hid (∀ x ∈ M, x < 256) ∧ Hid (wr.ownsRow (w1.heap.size + 1) 5 1 av M.length (ints .u8 M)) ∧ Hid (Below w.heap.size w wr)) (fun i _ _ _ => ls.length - (intOf i).toNat)
  case atStart => exact ⟨0, [], by omega, rfl, rfl, ⟨_, _, rfl⟩, by simp, by simp, hashAt_new w1, (fun x hx => absurd hx List.not_mem_nil : ∀ x ∈ ([] : List Nat), x < 256), ⟨rfl, .inl ⟨rfl, rfl⟩⟩, HB1.out.alloc hsz1 _⟩
  case round =>
    obtain ⟨k, M, hk, rfl, HM, ⟨px0, cx0, rfl⟩, hlen, hsz, HA, HS, HO, HB⟩ := hrel
    by_cases hlt : k < ls.length
    · obtain ⟨l, hl⟩ : ∃ l, ls[k]? = some l := ⟨_, List.getElem?_eq_getElem hlt⟩
      obtain ⟨p', c', he, hmx, hcs0⟩ := HE.out
      obtain ⟨b, o, hp', hcells⟩ := hcs0 (by intro h0; rw [h0] at hlt; simp at hlt)
      obtain ⟨rfl, rfl⟩ : pp = p' ∧ cp = c' := by cases he; exact ⟨rfl, rfl⟩
      subst hp'
      obtain ⟨pl, cl, hcell, hlm, hsrc, hby⟩ := hcells k l hl
      have hcell' : wr.cell? ⟨b, o + k, none⟩ = some (.slice pl l.length cl) := by
        rw [HB.out.cell (World.block_lt_of_cell? w _ hcell)]; exact hcell
      have HF : Hid ((ls.take (k + 1)).flatten = M ++ l) := by
        show _ = _
        rw [HM.out]; exact flatten_take ls k l hl
      have HSR : Hid (SrcIs w (.slice pl l.length cl) l) := hsrc
      have HBY : Hid (BytesAt w (.slice pl l.length cl) l) := hby
      clear hcell hsrc hby hl hcells he hcs0
      by_cases h300 : 300 < l.length
      · have h300' : (300 : Int) < (l.length : Int) := by omega
        go_wp2_with fail
        go_ret
        exact ⟨rfl, HB.out⟩
      · have h300' : ¬ (300 : Int) < (l.length : Int) := by omega
        go_wp2_with fail
        refine (write_any w1.heap.size M l _ _ HA.out (bytesAt_below HBY.out HB.out) (fun h => bytesAt_block HBY.out h _ hsz1) (tab_below HT.out HB.out) (by have := tab_pos HT.out; omega) (by omega)).mono ?_
        rintro e w2 ⟨rfl, hA2, hg2⟩
        have hb2 : Below w.heap.size w w2 := below_grown HB.out hg2 HB.out.size hsz1
        have ho2 := ownsRow_grown HO.out hg2 (by omega)
        have hs2 := hg2.size
        have HA2 : Hid (HashAt w2 w1.heap.size (M ++ l)) := hA2
        have HB2 : Hid (Below w.heap.size w w2) := hb2
        have HO2 : Hid (w2.ownsRow (w1.heap.size + 1) 5 1 (.slice px0 M.length cx0) M.length (ints .u8 M)) := ho2
        clear hA2 hb2 ho2 hg2 HA HB HO
        go_wp2_with (first | with_reducible (refine stop_builtin .append ?_))
        refine Stop.go ?_
        with_reducible refine law_append (w1.heap.size + 1) (.slice px0 M.length cx0) M.length (ints .u8 M) (.slice pl l.length cl) l ?asv ?axv HO2.out (SrcIs.below HSR.out HB2.out) (by omega) (by omega) ?ak
        case asv => exact rfl
        case axv => exact rfl
        intro v3 w3 hown3 hg3
        obtain ⟨L2, hL2⟩ : ∃ L2, L2 = M ++ l := ⟨_, rfl⟩
        have hl2 : L2.length = M.length + l.length := by rw [hL2, List.length_append]
        have hown4 : w3.ownsRow (w1.heap.size + 1) 5 1 v3 L2.length (ints .u8 L2) := by
          rw [hl2, hL2]
          simpa [ints] using hown3
        have hsm : ∀ x ∈ L2, x < 256 := fun x hx => by
          rw [hL2] at hx
          rcases List.mem_append.1 hx with h | h
          · exact HS.out x h
          · exact HBY.out.1 x h
        have hA3 : HashAt w3 w1.heap.size L2 := by
          rw [hL2]
          obtain ⟨st, blk, q1, q2⟩ := HA2.out
          exact ⟨st, blk, q1, (hg3.block _ (Array.getElem?_eq_some_iff.1 q2).1 (fun e => by have := (World.ownsRow.lt HO2.out _ e.symm).1; omega)).trans q2⟩
        have hb3 : Below w.heap.size w w3 := HB2.out.grown hg3 HB2.out.size (fun q hq => by have := (World.ownsRow.lt HO2.out q hq).1; omega)
        have hs3 := hg3.size
        have hX3 := bytesAt_own hsm hown4
        obtain ⟨px, cx, rfl, hmx3, _⟩ := xr_own hown4
        have HA3 : Hid (HashAt w3 w1.heap.size L2) := hA3
        have HB3 : Hid (Below w.heap.size w w3) := hb3
        have HX3 : Hid (BytesAt w3 (.slice px L2.length cx) L2) := hX3
        have HO3 : Hid (w3.ownsRow (w1.heap.size + 1) 5 1 (.slice px L2.length cx) L2.length (ints .u8 L2)) := hown4
        have HSM : Hid (∀ x ∈ L2, x < 256) := hsm
        have HL2 : Hid (L2 = M ++ l) := hL2
        have hlb : L2.length ≤ 300 * (k + 1) := by omega
        have hszw : w1.heap.size + 1 ≤ w3.heap.size := by omega
        clear hl2 hA3 hb3 hX3 hown3 hown4 hsm hg3 HA2 HB2 HO2 hL2
        go_wp2_with fail
        have hT3 := tab_below HT.out HB3.out
        have hX3 := HX3.out
        have hl3 : L2.length < 576460752303423488 := by omega
        refine wp_region_inv (oneV w1.heap.size L2 (.slice px L2.length cx)) (fun u u' => Below u.heap.size u u') (by kernel_rfl) ((Below.refl _ _).drew) below_trans' (oneV_kept _ _ _) (by kernel_rfl) ?_ ?_
        · intro i o a' w' hi inv hpre
          have hb : Below w3.heap.size w3 w' := inv.grow
          have hlt : i < 8 := (Array.getElem?_eq_some_iff.1 hi).1
          obtain rfl|rfl|rfl|rfl|rfl|rfl|rfl|rfl : i = 0 ∨ i = 1 ∨ i = 2 ∨ i = 3 ∨ i = 4 ∨ i = 5 ∨ i = 6 ∨ i = 7 := by omega
          · obtain rfl := Option.some.inj hi
            exact st_value _ rfl rfl rfl (Below.refl _ _) (by show a'.tmps.getD 3 undef = _; rw [inv.old 3 (notDst_spec (by kernel_rfl))]; rfl)
          · obtain rfl := Option.some.inj hi
            have h0 : a'.tmps.getD 28 undef = _ := pre_of hpre 0 28 (by kernel_rfl) (by kernel_rfl)
            refine st_call 14 #[a'.tmps.getD 28 undef] rfl rfl (by kernel_rfl) ?_
            rw [h0]
            exact hsum_step HA3.out hT3 hl3 hb
          · obtain rfl := Option.some.inj hi
            have h0 := pre_of hpre 1 29 (by kernel_rfl) (by kernel_rfl)
            exact st_value _ rfl rfl (conv_run 29 rfl h0) (Below.refl _ _) rfl
          · obtain rfl := Option.some.inj hi
            exact st_value _ rfl rfl rfl (Below.refl _ _) (by show a'.tmps.getD 4 undef = _; rw [inv.old 4 (notDst_spec (by kernel_rfl))]; rfl)
          · obtain rfl := Option.some.inj hi
            have h0 : a'.tmps.getD 31 undef = _ := pre_of hpre 3 31 (by kernel_rfl) (by kernel_rfl)
            refine st_value (.slice (some ⟨w'.heap.size, 0, none⟩) 1 1) rfl rfl (build_one 31 rfl h0) ((Below.refl _ _).alloc (Nat.le_refl _) _) ?_
            exact ⟨_, rfl, by rw [cell_of_row _ _ _ _ _ _ (heap_alloc_new w' _)]; rfl⟩
          · obtain rfl := Option.some.inj hi
            have h0 := pre_of hpre 4 32 (by kernel_rfl) (by kernel_rfl)
            refine st_call 10 #[a'.tmps.getD 32 undef] rfl rfl (by kernel_rfl) ?_
            exact sum1_step hX3 hT3 hl3 hb h0
          · obtain rfl := Option.some.inj hi
            have h0 := pre_of hpre 5 33 (by kernel_rfl) (by kernel_rfl)
            exact st_value _ rfl rfl (conv_run 33 rfl h0) (Below.refl _ _) rfl
          · obtain rfl := Option.some.inj hi
            have h0 : a'.tmps.getD 30 undef = _ := pre_of hpre 2 30 (by kernel_rfl) (by kernel_rfl)
            have h1 : a'.tmps.getD 34 undef = _ := pre_of hpre 6 34 (by kernel_rfl) (by kernel_rfl)
            exact st_value (.bool false) rfl rfl (ne_run 30 34 rfl h0 h1) (Below.refl _ _) rfl
        · intro a' w' inv hd
          have h0 : a'.tmps.getD 35 undef = .bool false := hd 7 35 (by kernel_rfl)
          have hb : Below w3.heap.size w3 w' := inv.grow
          have ha := inv.put [28, 29, 30, 31, 32, 33, 34, 35] (by kernel_rfl)
          simp only [List.map_cons, List.map_nil, h0] at ha
          generalize a'.tmps.getD 28 undef = y28 at ha
          generalize a'.tmps.getD 29 undef = y29 at ha
          generalize a'.tmps.getD 30 undef = y30 at ha
          generalize a'.tmps.getD 31 undef = y31 at ha
          generalize a'.tmps.getD 32 undef = y32 at ha
          generalize a'.tmps.getD 33 undef = y33 at ha
          generalize a'.tmps.getD 34 undef = y34 at ha
          clear inv hd h0
          subst ha
          have hO4 := ownsRow_below HO3.out hb
          have hA4 := hashAt_below HA3.out (hb.block _ (by omega))
          have hb4 : Below w.heap.size w w' := HB3.out.trans (hb.mono HB3.out.size)
          have hs4 := hb.size
          have HO4 : Hid (w'.ownsRow (w1.heap.size + 1) 5 1 (.slice px L2.length cx) L2.length (ints .u8 L2)) := hO4
          have HA4 : Hid (HashAt w' w1.heap.size L2) := hA4
          have HB4 : Hid (Below w.heap.size w w') := hb4
          have hsz4 : w1.heap.size + 1 ≤ w'.heap.size := by omega
          clear hO4 hA4 hb4 hb HO3 HA3 HB3 HX3 hX3 hT3
          simp only [putAll, Act.put, List.setIfInBounds_toArray, List.set_cons_succ, List.set_cons_zero]
          go_wp2_with fail
          go_roundw
          case rel => exact ⟨k + 1, L2, by omega, by go_num, HL2.out.trans HF.out.symm, ⟨_, _, rfl⟩, hlb, hsz4, HA4.out, HSM.out, HO4.out, HB4.out⟩
          case measure => simp [intOf]; omega
    · obtain rfl : k = ls.length := by omega
      have eL : M = ls.flatten := by rw [HM.out, List.take_of_length_le (Nat.le_refl _)]
      have HEL : Hid (M = ls.flatten) := eL
      clear eL
      go_wp2_with fail
      have hT6 := tab_below HT.out HB.out
      have hX := bytesAt_own HS.out HO.out
      have hl1 : M.length < 576460752303423488 := by omega
      have hPA : PartsAt wr (.slice pp ls.length cp) ls := partsAt_below HP.out HB.out
      refine wp_region_inv (manyV (.slice pp ls.length cp) w1.heap.size M (.slice px0 M.length cx0)) (fun u u' => Below u.heap.size u u') (by kernel_rfl) ((Below.refl _ _).drew) below_trans' (manyV_kept _ _ _ _) (by kernel_rfl) ?_ ?_
      · intro i o a' w' hi inv hpre
        have hb : Below wr.heap.size wr w' := inv.grow
        have hlt : i < 19 := (Array.getElem?_eq_some_iff.1 hi).1
        obtain rfl|rfl|rfl|rfl|rfl|rfl|rfl|rfl|rfl|rfl|rfl|rfl|rfl|rfl|rfl|rfl|rfl|rfl|rfl : i = 0 ∨ i = 1 ∨ i = 2 ∨ i = 3 ∨ i = 4 ∨ i = 5 ∨ i = 6 ∨ i = 7 ∨ i = 8 ∨ i = 9 ∨ i = 10 ∨ i = 11 ∨ i = 12 ∨ i = 13 ∨ i = 14 ∨ i = 15 ∨ i = 16 ∨ i = 17 ∨ i = 18 := by omega
        · obtain rfl := Option.some.inj hi
          exact st_value _ rfl rfl rfl (Below.refl _ _) (by show a'.tmps.getD 0 undef = _; rw [inv.old 0 (notDst_spec (by kernel_rfl))]; rfl)
        · obtain rfl := Option.some.inj hi
          have h0 : a'.tmps.getD 37 undef = _ := pre_of hpre 0 37 (by kernel_rfl) (by kernel_rfl)
          refine st_call 10 #[a'.tmps.getD 37 undef] rfl rfl (by kernel_rfl) ?_
          rw [h0]
          have hq := sums_step hPA hT6 (by rw [← HEL.out]; exact hl1) hb
          rw [← HEL.out] at hq
          exact hq
        · obtain rfl := Option.some.inj hi
          have h0 := pre_of hpre 1 38 (by kernel_rfl) (by kernel_rfl)
          exact st_value _ rfl rfl (conv_run 38 rfl h0) (Below.refl _ _) rfl
        · obtain rfl := Option.some.inj hi
          exact st_value _ rfl rfl rfl (Below.refl _ _) (by show a'.tmps.getD 4 undef = _; rw [inv.old 4 (notDst_spec (by kernel_rfl))]; rfl)
        · obtain rfl := Option.some.inj hi
          have h0 : a'.tmps.getD 40 undef = _ := pre_of hpre 3 40 (by kernel_rfl) (by kernel_rfl)
          refine st_value (.slice (some ⟨w'.heap.size, 0, none⟩) 1 1) rfl rfl (build_one 40 rfl h0) ((Below.refl _ _).alloc (Nat.le_refl _) _) ?_
          exact ⟨_, rfl, by rw [cell_of_row _ _ _ _ _ _ (heap_alloc_new w' _)]; rfl⟩
        · obtain rfl := Option.some.inj hi
          have h0 := pre_of hpre 4 41 (by kernel_rfl) (by kernel_rfl)
          refine st_call 10 #[a'.tmps.getD 41 undef] rfl rfl (by kernel_rfl) ?_
          exact sum1_step hX hT6 hl1 hb h0
        · obtain rfl := Option.some.inj hi
          have h0 := pre_of hpre 5 42 (by kernel_rfl) (by kernel_rfl)
          exact st_value _ rfl rfl (conv_run 42 rfl h0) (Below.refl _ _) rfl
        · obtain rfl := Option.some.inj hi
          have h0 : a'.tmps.getD 39 undef = _ := pre_of hpre 2 39 (by kernel_rfl) (by kernel_rfl)
          have h1 : a'.tmps.getD 43 undef = _ := pre_of hpre 6 43 (by kernel_rfl) (by kernel_rfl)
          exact st_value (.bool true) rfl rfl (eq_run 39 43 rfl h0 h1) (Below.refl _ _) rfl
        · obtain rfl := Option.some.inj hi
          have h0 : a'.tmps.getD 44 undef = _ := pre_of hpre 7 44 (by kernel_rfl) (by kernel_rfl)
          exact st_value _ rfl rfl rfl (Below.refl _ _) h0
        · obtain rfl := Option.some.inj hi
          have h8 : a'.tmps.getD 45 undef = _ := pre_of hpre 8 45 (by kernel_rfl) (by kernel_rfl)
          exact st_value _ rfl (wanted_of 8 45 rfl (by kernel_rfl) h8) rfl (Below.refl _ _) (by show a'.tmps.getD 3 undef = _; rw [inv.old 3 (notDst_spec (by kernel_rfl))]; rfl)
        · obtain rfl := Option.some.inj hi
          have h8 : a'.tmps.getD 45 undef = _ := pre_of hpre 8 45 (by kernel_rfl) (by kernel_rfl)
          have h0 : a'.tmps.getD 46 undef = _ := pre_of hpre 9 46 (by kernel_rfl) (by kernel_rfl)
          refine st_call 14 #[a'.tmps.getD 46 undef] rfl (wanted_of 8 45 rfl (by kernel_rfl) h8) (by kernel_rfl) ?_
          rw [h0]
          exact hsum_step HA.out hT6 hl1 hb
        · obtain rfl := Option.some.inj hi
          have h8 : a'.tmps.getD 45 undef = _ := pre_of hpre 8 45 (by kernel_rfl) (by kernel_rfl)
          have h0 := pre_of hpre 10 47 (by kernel_rfl) (by kernel_rfl)
          exact st_value _ rfl (wanted_of 8 45 rfl (by kernel_rfl) h8) (conv_run 47 rfl h0) (Below.refl _ _) rfl
        · obtain rfl := Option.some.inj hi
          have h8 : a'.tmps.getD 45 undef = _ := pre_of hpre 8 45 (by kernel_rfl) (by kernel_rfl)
          exact st_value _ rfl (wanted_of 8 45 rfl (by kernel_rfl) h8) rfl (Below.refl _ _) (by show a'.tmps.getD 4 undef = _; rw [inv.old 4 (notDst_spec (by kernel_rfl))]; rfl)
        · obtain rfl := Option.some.inj hi
          have h8 : a'.tmps.getD 45 undef = _ := pre_of hpre 8 45 (by kernel_rfl) (by kernel_rfl)
          have h0 : a'.tmps.getD 49 undef = _ := pre_of hpre 12 49 (by kernel_rfl) (by kernel_rfl)
          refine st_value (.slice (some ⟨w'.heap.size, 0, none⟩) 1 1) rfl (wanted_of 8 45 rfl (by kernel_rfl) h8) (build_one 49 rfl h0) ((Below.refl _ _).alloc (Nat.le_refl _) _) ?_
          exact ⟨_, rfl, by rw [cell_of_row _ _ _ _ _ _ (heap_alloc_new w' _)]; rfl⟩
        · obtain rfl := Option.some.inj hi
          have h8 : a'.tmps.getD 45 undef = _ := pre_of hpre 8 45 (by kernel_rfl) (by kernel_rfl)
          have h0 := pre_of hpre 13 50 (by kernel_rfl) (by kernel_rfl)
          refine st_call 10 #[a'.tmps.getD 50 undef] rfl (wanted_of 8 45 rfl (by kernel_rfl) h8) (by kernel_rfl) ?_
          exact sum1_step hX hT6 hl1 hb h0
        · obtain rfl := Option.some.inj hi
          have h8 : a'.tmps.getD 45 undef = _ := pre_of hpre 8 45 (by kernel_rfl) (by kernel_rfl)
          have h0 := pre_of hpre 14 51 (by kernel_rfl) (by kernel_rfl)
          exact st_value _ rfl (wanted_of 8 45 rfl (by kernel_rfl) h8) (conv_run 51 rfl h0) (Below.refl _ _) rfl
        · obtain rfl := Option.some.inj hi
          have h8 : a'.tmps.getD 45 undef = _ := pre_of hpre 8 45 (by kernel_rfl) (by kernel_rfl)
          have h0 : a'.tmps.getD 48 undef = _ := pre_of hpre 11 48 (by kernel_rfl) (by kernel_rfl)
          have h1 : a'.tmps.getD 52 undef = _ := pre_of hpre 15 52 (by kernel_rfl) (by kernel_rfl)
          exact st_value (.bool true) rfl (wanted_of 8 45 rfl (by kernel_rfl) h8) (eq_run 48 52 rfl h0 h1) (Below.refl _ _) rfl
        · obtain rfl := Option.some.inj hi
          have h0 : a'.tmps.getD 45 undef = _ := pre_of hpre 8 45 (by kernel_rfl) (by kernel_rfl)
          have h1 : a'.tmps.getD 53 undef = _ := pre_of hpre 16 53 (by kernel_rfl) (by kernel_rfl)
          exact st_value (.bool true) rfl rfl (pick_step h0 h1 rfl) (Below.refl _ _) rfl
        · obtain rfl := Option.some.inj hi
          have h0 : a'.tmps.getD 54 undef = _ := pre_of hpre 17 54 (by kernel_rfl) (by kernel_rfl)
          exact st_value _ rfl rfl rfl (Below.refl _ _) h0
      · intro a' w' inv hd
        have h0 : a'.tmps.getD 2 undef = _ := hd 18 2 (by kernel_rfl)
        have hb : Below wr.heap.size wr w' := inv.grow
        have hb7 : Below w.heap.size w w' := HB.out.trans (hb.mono HB.out.size)
        have hdf : a'.defers = [] := inv.defers
        clear inv hd hb
        go_wp2
        exact ⟨hdf, _, results_tmp rfl _ _ _, by rw [h0], hb7⟩
end Go.Proofs.YtnbdadhdpplldaaDoor
