/- The walk of ShaOwn. -/
import Derived.Test.YtnbdadhdpplldaaDoorBytes2
import Derived.Test.YtnbdadhdpplldaaDoorOpen
import Derived.Laws.AppendOwnNone
namespace Go.Proofs.YtnbdadhdpplldaaDoor
open Go.RowKit
/-- What an append takes: nil, or a slice whose cells hold the bytes. -/
def SrcIs (w : World) (v : Value) (l : List Nat) : Prop :=
  (v = .slice none 0 0 ∧ l = []) ∨ ∃ ad c, v = .slice (some ad) l.length c ∧ ∀ j u, (ints .u8 l)[j]? = some u → w.cell? (ad.add j) = some u
theorem SrcIs.below {w w' : World} {v : Value} {l : List Nat} (h : SrcIs w v l) (hb : Below w.heap.size w w') : SrcIs w' v l := by
  rcases h with h | ⟨ad, c, rfl, h⟩
  · exact .inl h
  · exact .inr ⟨ad, c, rfl, fun j u hu => by
      have h1 := h j u hu
      rw [← h1]
      exact hb.cell (World.block_lt_of_cell? w _ h1)⟩
theorem srcIs_of {w : World} {a : Option Addr} {len cap : Nat} (h : RowIs w a len cap) : ∃ l, l.length = len ∧ SrcIs w (.slice a len cap) l ∧ BytesAt w (.slice a len cap) l := by
  rcases h with ⟨rfl, rfl⟩ | ⟨b, o, l, rfl, rfl, hc, hm, hs, hr, hb⟩
  · refine ⟨[], rfl, ?_, bytesAt_none _ _ _⟩
    cases a with
    | none => exact .inl ⟨rfl, rfl⟩
    | some x => exact .inr ⟨x, 0, rfl, fun j u hu => by simp [ints] at hu⟩
  · exact ⟨l, rfl, .inr ⟨⟨b, o, none⟩, cap, rfl, fun j u hu => by rw [Addr.add_mid]; exact hr j u hu⟩, hs, .inr ⟨b, o, cap, rfl, hc, hr⟩⟩
theorem law_append {ops : Array Oper} {rest : List Oper} {dst : Option Tmp} {T : TypeId} {pos : String} {after : Array Edge} {a : Act} {w : World} {Q : Exit → Act → World → Prop} {st xt : Tmp}
    (base : Nat) (v : Value) (n : Nat) (xs : List Value) (sv : Value) (l : List Nat) (hs : a.eval (.tmp st) = v) (hx : a.eval (.tmp xt) = sv) (hown : w.ownsRow base 5 1 v n xs) (hsv : SrcIs w sv l)
    (hn : n + l.length ≤ 100000) (hbase : base ≤ w.heap.size)
    (h : ∀ v' w', w'.ownsRow base 5 1 v' (n + l.length) (xs ++ ints .u8 l) → w.grownBy w' v.ownBlock → wpList Tryd.prog ops Q rest (a.put dst v') w') :
    wpList Tryd.prog ops Q ({ dst := dst, op := .call { callee := .builtin .append, args := #[.tmp st, .tmp xt], argTypes := #[22, 22] }, type := T, pos := pos, after := after, guard := none } :: rest) a w := by
  obtain ⟨i, hi, hsz, hby, hz⟩ := info5e
  rcases hsv with ⟨rfl, rfl⟩ | ⟨ad, c, rfl, hc⟩
  · refine wpList_append_own_none rfl (.tmp st) (.tmp xt) 22 rfl base 5 i 1 Tryd.underlying22 hi v n xs hs hown hx (h v w ?_ (grownBy_refl _ _))
    simpa [ints] using hown
  · refine wpList_append_own _ rfl (.tmp st) (.tmp xt) 22 rfl base 5 i _ 1 1 Tryd.underlying22 hi hz hsz hby rfl (by decide) v n xs hs hown ad l.length c (ints .u8 l) hx (by rw [ints_length]; omega) hc (fun u hu => by obtain ⟨q, _, rfl⟩ := List.mem_map.1 hu; rfl) (by unfold maxLen; omega) (by omega) hbase (fun v' w' h1 h2 _ => h v' w' h1 h2)
theorem bytesAt_own {w : World} {base : Nat} {v : Value} {l : List Nat} (hs : ∀ x ∈ l, x < 256) (h : w.ownsRow base 5 1 v l.length (ints .u8 l)) : BytesAt w v l := by
  obtain ⟨_, ⟨rfl, h0⟩ | ⟨g, cap, cur, rfl, hg, hh, hn, hm, hc, ht⟩⟩ := h
  · obtain rfl := List.eq_nil_of_length_eq_zero h0
    exact bytesAt_none _ _ _
  · refine ⟨hs, .inr ⟨g, 0, cap, rfl, hn, fun j u hu => ?_⟩⟩
    rw [cell_of_row _ _ _ _ _ _ hh, Nat.zero_add]
    have hj := (List.getElem?_eq_some_iff.1 hu).1
    rw [ints_length] at hj
    rw [← ht, Nat.mul_one, List.getElem?_take_of_lt hj] at hu
    simpa using hu
/-- A row of bytes from block B on that may be written: whatever it holds. -/
def XR (B : Nat) (p : Option Addr) (n : Nat) (w : World) : Prop :=
  n = 0 ∨ ∃ g cur, p = some ⟨g, 0, none⟩ ∧ B ≤ g ∧ w.heap[g]? = some (.cells cur 5 (0, 0)) ∧ ∀ i, i < n → ∃ z : Int, cur[i]? = some (.int .u8 z)
theorem XR.get {B : Nat} {p : Option Addr} {n : Nat} {w : World} (h : XR B p n w) (k : Nat) (hk : k < n) : ∃ g z, p = some ⟨g, 0, none⟩ ∧ B ≤ g ∧ w.cell? ⟨g, k, none⟩ = some (.int .u8 z) ∧ w.frozen? ⟨g, k, none⟩ = false := by
  rcases h with h | ⟨g, cur, hp, hB, hh, hc⟩
  · omega
  · obtain ⟨z, hz⟩ := hc k hk
    exact ⟨g, z, hp, hB, by rw [cell_of_row _ _ _ _ _ _ hh]; exact hz, frozen_of_row _ _ _ _ _ hh⟩
theorem XR.set {B g : Nat} {n : Nat} {w : World} (h : XR B (some ⟨g, 0, none⟩) n w) (k : Nat) (z : Int) : XR B (some ⟨g, 0, none⟩) n (w.setCell ⟨g, k, none⟩ (.int .u8 z)) := by
  rcases h with h | ⟨g', cur, hp, hB, hh, hc⟩
  · exact .inl h
  · cases hp
    refine .inr ⟨g, _, rfl, hB, heap_setCell_same w g k cur 5 _ hh, fun i hi => ?_⟩
    obtain ⟨y, hy⟩ := hc i hi
    by_cases hik : k = i
    · subst hik
      have := (Array.getElem?_eq_some_iff.1 hy).1
      exact ⟨z, by simp [this]⟩
    · exact ⟨y, by rw [Array.getElem?_setIfInBounds_ne hik]; exact hy⟩
theorem XR.grown {B : Nat} {p : Option Addr} {n : Nat} {w w' : World} {r : Nat} (h : XR B p n w) (hg : w.grownBy w' (some r)) (hr : r < B) : XR B p n w' := by
  rcases h with h | ⟨g, cur, hp, hB, hh, hc⟩
  · exact .inl h
  · exact .inr ⟨g, cur, hp, hB, (hg.block g (Array.getElem?_eq_some_iff.1 hh).1 (fun e => by have := Option.some.inj e; omega)).trans hh, hc⟩
theorem xr_own {w : World} {base : Nat} {v : Value} {l : List Nat} (h : w.ownsRow base 5 1 v l.length (ints .u8 l)) : ∃ p c, v = .slice p l.length c ∧ l.length ≤ 9223372036854775807 ∧ XR base p l.length w := by
  obtain ⟨_, ⟨rfl, h0⟩ | ⟨g, cap, cur, rfl, hg, hh, hn, hm, hc, ht⟩⟩ := h
  · exact ⟨none, 0, by rw [h0], by omega, .inl h0⟩
  · refine ⟨_, cap, rfl, by unfold maxLen at hm; omega, .inr ⟨g, cur, rfl, hg, hh, fun i hi => ?_⟩⟩
    have h1 := ints_get .u8 l i hi
    rw [← ht, Nat.mul_one, List.getElem?_take_of_lt hi] at h1
    exact ⟨_, by simpa using h1⟩
theorem hashAt_set {w : World} {g h i : Nat} {m : List Nat} {v : Value} (hh : HashAt w g m) (hne : g ≠ h) : HashAt (w.setCell ⟨h, i, none⟩ v) g m :=
  hashAt_below hh (Below.heap_setCell _ _ _ _ hne)
set_option maxHeartbeats 1000000 in
theorem shaOwn_any (pa pb : Option Addr) (ca cb : Nat) (la lb : List Nat) (w : World) (hA : SrcIs w (.slice pa la.length ca) la) (hBa : BytesAt w (.slice pa la.length ca) la) (hBb : BytesAt w (.slice pb lb.length cb) lb)
    (h1 : la.length ≤ 300) (h2 : lb.length ≤ 300) (hT : Tab w) :
    Calls Tryd.prog 6 #[.slice pa la.length ca, .slice pb lb.length cb] w fun e w' => e = .returned (.bool true) ∧ Below w.heap.size w w' := by
  have HT : Hid (Tab w) := hT
  have HA : Hid (SrcIs w (.slice pa la.length ca) la) := hA
  have HBA : Hid (BytesAt w (.slice pa la.length ca) la) := hBa
  have HBB : Hid (BytesAt w (.slice pb lb.length cb) lb) := hBb
  clear hT hA hBa hBb
  have n1 : ¬ (300 : Int) < (la.length : Int) := by omega
  have n2 : ¬ (300 : Int) < (lb.length : Int) := by omega
  go_enter Tryd.func6, Tryd.ntmps6
  go_wp2_with fail
  refine (anchor_any w HT.out).mono ?_
  rintro e w1 ⟨rfl, hb1⟩
  have hsz1 := hb1.size
  have HB1 : Hid _ := hb1
  clear hb1
  go_wp2_with (first | (go_at_call 12; refine (new_any _).mono ?_; rintro e w' ⟨rfl, rfl⟩) | with_reducible (refine stop_builtin .append ?_))
  refine Stop.go ?_
  have hbW : Below w.heap.size w (((w1.alloc (Obj.cells hash0 47)).alloc (Obj.cells hash0 47)).alloc (Obj.cells #[] 5)) := ((HB1.out.alloc hsz1 _).alloc (by simp; omega) _).alloc (by simp; omega) _
  have hown0 : (((w1.alloc (Obj.cells hash0 47)).alloc (Obj.cells hash0 47)).alloc (Obj.cells #[] 5)).ownsRow (w1.heap.size + 1 + 1) 5 1 (.slice (some ⟨w1.heap.size + 1 + 1, 0, none⟩) 0 0) 0 [] :=
    ⟨rfl, .inr ⟨w1.heap.size + 1 + 1, 0, #[], rfl, Nat.le_refl _, by have := heap_alloc_new ((w1.alloc (Obj.cells hash0 47)).alloc (Obj.cells hash0 47)) (.cells #[] 5); simpa using this, by omega, by decide, rfl, rfl⟩⟩
  have hA0 : HashAt (((w1.alloc (Obj.cells hash0 47)).alloc (Obj.cells hash0 47)).alloc (Obj.cells #[] 5)) w1.heap.size [] :=
    hashAt_below (hashAt_below (hashAt_new w1) (Below.heap_alloc (w1.alloc (Obj.cells hash0 47)) (Obj.cells hash0 47) _ (by simp))) (Below.heap_alloc _ _ _ (by simp; omega))
  have hC0 : HashAt (((w1.alloc (Obj.cells hash0 47)).alloc (Obj.cells hash0 47)).alloc (Obj.cells #[] 5)) (w1.heap.size + 1) [] := by
    have := hashAt_new (w1.alloc (Obj.cells hash0 47))
    simp only [World.size_alloc] at this
    exact hashAt_below this (Below.heap_alloc _ _ _ (by simp))
  with_reducible refine law_append (w1.heap.size + 1 + 1) (.slice (some ⟨w1.heap.size + 1 + 1, 0, none⟩) 0 0) 0 [] (.slice pa la.length ca) la ?asv ?axv hown0 (SrcIs.below HA.out hbW) (by omega) (by simp) ?ak
  case asv => exact rfl
  case axv => exact rfl
  intro v2 w2 hown2 hg2
  rw [Nat.zero_add, List.nil_append] at hown2
  have hg2' : World.grownBy _ w2 (some (w1.heap.size + 1 + 1)) := hg2
  have hA2 := hashAt_grown hA0 hg2' (by omega)
  have hC2 := hashAt_grown hC0 hg2' (by omega)
  have hb2 : Below w.heap.size w w2 := below_grown hbW hg2' (by simp; omega) (by omega)
  have hBx := bytesAt_own HBA.out.1 hown2
  have hob : v2.ownBlock ≠ some w1.heap.size := fun e => by have := (hown2.lt _ e).1; omega
  obtain ⟨px, cx, rfl, hmx, hxr⟩ := xr_own hown2
  have HXR : Hid (XR (w1.heap.size + 1 + 1) px la.length w2) := hxr
  have HA2 : Hid _ := hA2
  have HC2 : Hid _ := hC2
  have HB2 : Hid _ := hb2
  have HBX : Hid _ := hBx
  have HOB : Hid _ := hob
  clear hbW hown0 hA0 hC0 hown2 hg2 hg2' hA2 hC2 hb2 hBx hob hxr
  go_wp2_with fail
  refine (write_any w1.heap.size [] la _ _ HA2.out HBX.out (fun _ => HOB.out) (tab_below HT.out HB2.out) (by have := tab_pos HT.out; omega) (by simp; omega)).mono ?_
  rintro e w3 ⟨rfl, hA3, hg3⟩
  rw [List.nil_append] at hA3
  have hC3 := hashAt_grown HC2.out hg3 (by omega)
  have hb3 : Below w.heap.size w w3 := below_grown HB2.out hg3 HB2.out.size (by omega)
  have hx3 := XR.grown HXR.out hg3 (by omega)
  have HA3 : Hid (HashAt w3 w1.heap.size la) := hA3
  have HC3 : Hid _ := hC3
  have HB3 : Hid _ := hb3
  have HX3 : Hid _ := hx3
  clear hA3 hC3 hb3 hg3 hx3
  go_wp2_with fail
  go_loopw [31, 8] (fun i _ wr => ∃ k : Nat, k ≤ la.length ∧ i = .int .i64 k ∧ Hid (HashAt wr w1.heap.size la) ∧ Hid (HashAt wr (w1.heap.size + 1) []) ∧ Hid (Below w.heap.size w wr) ∧ Hid (XR (w1.heap.size + 1 + 1) px la.length wr)) (fun i _ _ => la.length - (intOf i).toNat)
  case atStart => exact ⟨0, by omega, rfl, HA3.out, HC3.out, HB3.out, HX3.out⟩
  case round =>
    clear HA3 HC3 HB3 HX3 HA2 HC2 HB2 HXR HBX HOB
    obtain ⟨k, hk, rfl, HA3, HC3, HB3, HX3⟩ := hrel
    by_cases hlt : k < la.length
    · obtain ⟨gx, z, rfl, hgx, hcell, hfrz⟩ := XR.get HX3.out k hlt
      have k0 : (0 : Int) ≤ (k : Int) := by omega
      have k1 : (k : Int) < (la.length : Int) := by omega
      go_wp2_with fail
      go_roundw
      case rel => exact ⟨k + 1, by omega, by go_num, hashAt_set HA3.out (by omega), hashAt_set HC3.out (by omega), HB3.out.setCell (by show w.heap.size ≤ gx; omega) _, XR.set HX3.out k _⟩
      case measure => simp [intOf]; omega
    · obtain rfl : k = la.length := by omega
      clear hlt hk HX3
      go_wp2_with fail
      refine (write_any (w1.heap.size + 1) [] lb _ _ HC3.out (bytesAt_below HBB.out HB3.out) (fun h => bytesAt_block HBB.out h _ (by omega)) (tab_below HT.out HB3.out) (by omega) (by simp; omega)).mono ?_
      rintro e w4 ⟨rfl, hC4, hg4⟩
      rw [List.nil_append] at hC4
      have hA4 := hashAt_grown HA3.out hg4 (by omega)
      have hb4 : Below w.heap.size w w4 := below_grown HB3.out hg4 HB3.out.size (by omega)
      have HA4 : Hid (HashAt w4 w1.heap.size la) := hA4
      have HC4 : Hid (HashAt w4 (w1.heap.size + 1) lb) := hC4
      have HB4 : Hid _ := hb4
      clear hA4 hC4 hb4 hg4 HA3 HC3 HB3
      go_wp2_with fail
      refine (hsum_any w1.heap.size la _ HA4.out (tab_below HT.out HB4.out) (by omega)).mono ?_
      rintro e w5 ⟨gs, rfl, hgs, hr5, hb5⟩
      have hlg : w1.heap.size + 1 < w4.heap.size := by obtain ⟨st, blk, _, h2⟩ := HC4.out; exact (Array.getElem?_eq_some_iff.1 h2).1
      have hA5 := hashAt_below HA4.out (hb5.block _ (by omega))
      have hC5 := hashAt_below HC4.out (hb5.block _ hlg)
      have hb5' : Below w.heap.size w w5 := HB4.out.trans (hb5.mono HB4.out.size)
      have hx5 : XR (w1.heap.size + 1 + 1) (some ⟨gs, 0, none⟩) 32 w5 := .inr ⟨gs, _, rfl, by omega, hr5, fun i hi => ⟨_, arr_get _ _ i (by rw [sum_length]; exact hi)⟩⟩
      have HA5 : Hid (HashAt w5 w1.heap.size la) := hA5
      have HC5 : Hid (HashAt w5 (w1.heap.size + 1) lb) := hC5
      have HB5 : Hid (Below w.heap.size w w5) := hb5'
      have HX5 : Hid (XR (w1.heap.size + 1 + 1) (some ⟨gs, 0, none⟩) 32 w5) := hx5
      clear hA5 hC5 hb5 hb5' hx5 hr5 HA4 HC4 HB4
      go_wp2_with fail
      go_loopw [48, 10] (fun i _ wr => ∃ k : Nat, k ≤ 32 ∧ i = .int .i64 k ∧ Hid (HashAt wr w1.heap.size la) ∧ Hid (HashAt wr (w1.heap.size + 1) lb) ∧ Hid (Below w.heap.size w wr) ∧ Hid (XR (w1.heap.size + 1 + 1) (some ⟨gs, 0, none⟩) 32 wr)) (fun i _ _ => 32 - (intOf i).toNat)
      case atStart => exact ⟨0, by omega, rfl, HA5.out, HC5.out, HB5.out, HX5.out⟩
      case round =>
        clear HA5 HC5 HB5 HX5
        obtain ⟨k, hk, rfl, HA6, HC6, HB6, HX6⟩ := hrel
        by_cases hlt : k < 32
        · obtain ⟨gx, z, hpx, hgx, hcell, hfrz⟩ := XR.get HX6.out k hlt
          cases hpx
          have k0 : (0 : Int) ≤ (k : Int) := by omega
          have k1 : (k : Int) < 32 := by omega
          go_wp2_with fail
          go_roundw
          case rel => exact ⟨k + 1, by omega, by go_num, hashAt_set HA6.out (by omega), hashAt_set HC6.out (by omega), HB6.out.setCell (by show w.heap.size ≤ gs; omega) _, XR.set HX6.out k _⟩
          case measure => simp [intOf]; omega
        · obtain rfl : k = 32 := by omega
          clear HX6
          go_wp2_with fail
          have hT6 := tab_below HT.out HB6.out
          have hXa := bytesAt_below HBA.out HB6.out
          have hXb := bytesAt_below HBB.out HB6.out
          have hl1 : la.length < 576460752303423488 := by omega
          have hl2 : lb.length < 576460752303423488 := by omega
          refine wp_region_inv (twoV w1.heap.size (w1.heap.size + 1) la lb (.slice pa la.length ca) (.slice pb lb.length cb)) (fun u u' => Below u.heap.size u u') (by kernel_rfl) ((Below.refl _ _).drew) below_trans' (twoV_kept _ _ _ _ _ _) (by kernel_rfl) ?_ ?_
          · intro i o a' w' hi inv hpre
            have hb : Below wr.heap.size wr w' := inv.grow
            have hlt : i < 19 := (Array.getElem?_eq_some_iff.1 hi).1
            obtain rfl|rfl|rfl|rfl|rfl|rfl|rfl|rfl|rfl|rfl|rfl|rfl|rfl|rfl|rfl|rfl|rfl|rfl|rfl : i = 0 ∨ i = 1 ∨ i = 2 ∨ i = 3 ∨ i = 4 ∨ i = 5 ∨ i = 6 ∨ i = 7 ∨ i = 8 ∨ i = 9 ∨ i = 10 ∨ i = 11 ∨ i = 12 ∨ i = 13 ∨ i = 14 ∨ i = 15 ∨ i = 16 ∨ i = 17 ∨ i = 18 := by omega
            · obtain rfl := Option.some.inj hi
              exact st_value _ rfl rfl rfl (Below.refl _ _) (by show a'.tmps.getD 5 undef = _; rw [inv.old 5 (notDst_spec (by kernel_rfl))]; rfl)
            · obtain rfl := Option.some.inj hi
              have h0 : a'.tmps.getD 58 undef = _ := pre_of hpre 0 58 (by kernel_rfl) (by kernel_rfl)
              refine st_call 14 #[a'.tmps.getD 58 undef] rfl rfl (by kernel_rfl) ?_
              rw [h0]
              exact hsum_step HA6.out hT6 hl1 hb
            · obtain rfl := Option.some.inj hi
              have h0 := pre_of hpre 1 59 (by kernel_rfl) (by kernel_rfl)
              exact st_value _ rfl rfl (conv_run 59 rfl h0) (Below.refl _ _) rfl
            · obtain rfl := Option.some.inj hi
              exact st_value _ rfl rfl rfl (Below.refl _ _) (by show a'.tmps.getD 0 undef = _; rw [inv.old 0 (notDst_spec (by kernel_rfl))]; rfl)
            · obtain rfl := Option.some.inj hi
              have h0 : a'.tmps.getD 61 undef = _ := pre_of hpre 3 61 (by kernel_rfl) (by kernel_rfl)
              refine st_value (.slice (some ⟨w'.heap.size, 0, none⟩) 1 1) rfl rfl (build_one 61 rfl h0) ((Below.refl _ _).alloc (Nat.le_refl _) _) ?_
              exact ⟨_, rfl, by rw [cell_of_row _ _ _ _ _ _ (heap_alloc_new w' _)]; rfl⟩
            · obtain rfl := Option.some.inj hi
              have h0 := pre_of hpre 4 62 (by kernel_rfl) (by kernel_rfl)
              refine st_call 10 #[a'.tmps.getD 62 undef] rfl rfl (by kernel_rfl) ?_
              exact sum1_step hXa hT6 hl1 hb h0
            · obtain rfl := Option.some.inj hi
              have h0 := pre_of hpre 5 63 (by kernel_rfl) (by kernel_rfl)
              exact st_value _ rfl rfl (conv_run 63 rfl h0) (Below.refl _ _) rfl
            · obtain rfl := Option.some.inj hi
              have h0 : a'.tmps.getD 60 undef = _ := pre_of hpre 2 60 (by kernel_rfl) (by kernel_rfl)
              have h1 : a'.tmps.getD 64 undef = _ := pre_of hpre 6 64 (by kernel_rfl) (by kernel_rfl)
              exact st_value (.bool true) rfl rfl (eq_run 60 64 rfl h0 h1) (Below.refl _ _) rfl
            · obtain rfl := Option.some.inj hi
              have h0 : a'.tmps.getD 65 undef = _ := pre_of hpre 7 65 (by kernel_rfl) (by kernel_rfl)
              exact st_value _ rfl rfl rfl (Below.refl _ _) h0
            · obtain rfl := Option.some.inj hi
              have h8 : a'.tmps.getD 66 undef = _ := pre_of hpre 8 66 (by kernel_rfl) (by kernel_rfl)
              exact st_value _ rfl (wanted_of 8 66 rfl (by kernel_rfl) h8) rfl (Below.refl _ _) (by show a'.tmps.getD 6 undef = _; rw [inv.old 6 (notDst_spec (by kernel_rfl))]; rfl)
            · obtain rfl := Option.some.inj hi
              have h8 : a'.tmps.getD 66 undef = _ := pre_of hpre 8 66 (by kernel_rfl) (by kernel_rfl)
              have h0 : a'.tmps.getD 67 undef = _ := pre_of hpre 9 67 (by kernel_rfl) (by kernel_rfl)
              refine st_call 14 #[a'.tmps.getD 67 undef] rfl (wanted_of 8 66 rfl (by kernel_rfl) h8) (by kernel_rfl) ?_
              rw [h0]
              exact hsum_step HC6.out hT6 hl2 hb
            · obtain rfl := Option.some.inj hi
              have h8 : a'.tmps.getD 66 undef = _ := pre_of hpre 8 66 (by kernel_rfl) (by kernel_rfl)
              have h0 := pre_of hpre 10 68 (by kernel_rfl) (by kernel_rfl)
              exact st_value _ rfl (wanted_of 8 66 rfl (by kernel_rfl) h8) (conv_run 68 rfl h0) (Below.refl _ _) rfl
            · obtain rfl := Option.some.inj hi
              have h8 : a'.tmps.getD 66 undef = _ := pre_of hpre 8 66 (by kernel_rfl) (by kernel_rfl)
              exact st_value _ rfl (wanted_of 8 66 rfl (by kernel_rfl) h8) rfl (Below.refl _ _) (by show a'.tmps.getD 1 undef = _; rw [inv.old 1 (notDst_spec (by kernel_rfl))]; rfl)
            · obtain rfl := Option.some.inj hi
              have h8 : a'.tmps.getD 66 undef = _ := pre_of hpre 8 66 (by kernel_rfl) (by kernel_rfl)
              have h0 : a'.tmps.getD 70 undef = _ := pre_of hpre 12 70 (by kernel_rfl) (by kernel_rfl)
              refine st_value (.slice (some ⟨w'.heap.size, 0, none⟩) 1 1) rfl (wanted_of 8 66 rfl (by kernel_rfl) h8) (build_one 70 rfl h0) ((Below.refl _ _).alloc (Nat.le_refl _) _) ?_
              exact ⟨_, rfl, by rw [cell_of_row _ _ _ _ _ _ (heap_alloc_new w' _)]; rfl⟩
            · obtain rfl := Option.some.inj hi
              have h8 : a'.tmps.getD 66 undef = _ := pre_of hpre 8 66 (by kernel_rfl) (by kernel_rfl)
              have h0 := pre_of hpre 13 71 (by kernel_rfl) (by kernel_rfl)
              refine st_call 10 #[a'.tmps.getD 71 undef] rfl (wanted_of 8 66 rfl (by kernel_rfl) h8) (by kernel_rfl) ?_
              exact sum1_step hXb hT6 hl2 hb h0
            · obtain rfl := Option.some.inj hi
              have h8 : a'.tmps.getD 66 undef = _ := pre_of hpre 8 66 (by kernel_rfl) (by kernel_rfl)
              have h0 := pre_of hpre 14 72 (by kernel_rfl) (by kernel_rfl)
              exact st_value _ rfl (wanted_of 8 66 rfl (by kernel_rfl) h8) (conv_run 72 rfl h0) (Below.refl _ _) rfl
            · obtain rfl := Option.some.inj hi
              have h8 : a'.tmps.getD 66 undef = _ := pre_of hpre 8 66 (by kernel_rfl) (by kernel_rfl)
              have h0 : a'.tmps.getD 69 undef = _ := pre_of hpre 11 69 (by kernel_rfl) (by kernel_rfl)
              have h1 : a'.tmps.getD 73 undef = _ := pre_of hpre 15 73 (by kernel_rfl) (by kernel_rfl)
              exact st_value (.bool true) rfl (wanted_of 8 66 rfl (by kernel_rfl) h8) (eq_run 69 73 rfl h0 h1) (Below.refl _ _) rfl
            · obtain rfl := Option.some.inj hi
              have h0 : a'.tmps.getD 66 undef = _ := pre_of hpre 8 66 (by kernel_rfl) (by kernel_rfl)
              have h1 : a'.tmps.getD 74 undef = _ := pre_of hpre 16 74 (by kernel_rfl) (by kernel_rfl)
              exact st_value (.bool true) rfl rfl (pick_step h0 h1 rfl) (Below.refl _ _) rfl
            · obtain rfl := Option.some.inj hi
              have h0 : a'.tmps.getD 75 undef = _ := pre_of hpre 17 75 (by kernel_rfl) (by kernel_rfl)
              exact st_value _ rfl rfl rfl (Below.refl _ _) h0
          · intro a' w' inv hd
            have h0 : a'.tmps.getD 4 undef = _ := hd 18 4 (by kernel_rfl)
            have hb : Below wr.heap.size wr w' := inv.grow
            have hb7 : Below w.heap.size w w' := HB6.out.trans (hb.mono HB6.out.size)
            have hdf : a'.defers = [] := inv.defers
            clear inv hd hb
            go_wp2
            exact ⟨hdf, _, results_tmp rfl _ _ _, by rw [h0], hb7⟩
end Go.Proofs.YtnbdadhdpplldaaDoor
