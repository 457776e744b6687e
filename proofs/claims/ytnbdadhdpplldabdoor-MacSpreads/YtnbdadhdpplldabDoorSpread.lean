/- The contract of sha.spread: a block's numbers. -/
import Derived.Test.YtnbdadhdpplldabDoorLeaves
import Derived.Deep.RegionHeld3
namespace Go.Proofs.YtnbdadhdpplldabDoor
open Go.RowKit
theorem shifted_17 (x : Nat) (w : World) (hx : x < 4294967296) : Calls Tryd.prog 35 #[.int .u32 x, .int .i64 17, .int .i64 19, .int .i64 10] w fun e w' => e = .returned (.int .u32 (Sp.shifted x 17 19 10 : Nat)) ∧ ∃ n, w' = w.drewN n := by
  have h := shifted_any x 17 19 10 w hx (by decide) (by decide) (by decide) (by decide) (by decide) (by decide)
  simpa only [Int.cast_ofNat_Int] using h
theorem shifted_7 (x : Nat) (w : World) (hx : x < 4294967296) : Calls Tryd.prog 35 #[.int .u32 x, .int .i64 7, .int .i64 18, .int .i64 3] w fun e w' => e = .returned (.int .u32 (Sp.shifted x 7 18 3 : Nat)) ∧ ∃ n, w' = w.drewN n := by
  have h := shifted_any x 7 18 3 w hx (by decide) (by decide) (by decide) (by decide) (by decide) (by decide)
  simpa only [Int.cast_ofNat_Int] using h
def zeros64 : Array Value := #[Value.int IntKind.u32 0, Value.int IntKind.u32 0, Value.int IntKind.u32 0, Value.int IntKind.u32 0, Value.int IntKind.u32 0, Value.int IntKind.u32 0, Value.int IntKind.u32 0, Value.int IntKind.u32 0, Value.int IntKind.u32 0, Value.int IntKind.u32 0, Value.int IntKind.u32 0, Value.int IntKind.u32 0, Value.int IntKind.u32 0, Value.int IntKind.u32 0, Value.int IntKind.u32 0, Value.int IntKind.u32 0, Value.int IntKind.u32 0, Value.int IntKind.u32 0, Value.int IntKind.u32 0, Value.int IntKind.u32 0, Value.int IntKind.u32 0, Value.int IntKind.u32 0, Value.int IntKind.u32 0, Value.int IntKind.u32 0, Value.int IntKind.u32 0, Value.int IntKind.u32 0, Value.int IntKind.u32 0, Value.int IntKind.u32 0, Value.int IntKind.u32 0, Value.int IntKind.u32 0, Value.int IntKind.u32 0, Value.int IntKind.u32 0, Value.int IntKind.u32 0, Value.int IntKind.u32 0, Value.int IntKind.u32 0, Value.int IntKind.u32 0, Value.int IntKind.u32 0, Value.int IntKind.u32 0, Value.int IntKind.u32 0, Value.int IntKind.u32 0, Value.int IntKind.u32 0, Value.int IntKind.u32 0, Value.int IntKind.u32 0, Value.int IntKind.u32 0, Value.int IntKind.u32 0, Value.int IntKind.u32 0, Value.int IntKind.u32 0, Value.int IntKind.u32 0, Value.int IntKind.u32 0, Value.int IntKind.u32 0, Value.int IntKind.u32 0, Value.int IntKind.u32 0, Value.int IntKind.u32 0, Value.int IntKind.u32 0, Value.int IntKind.u32 0, Value.int IntKind.u32 0, Value.int IntKind.u32 0, Value.int IntKind.u32 0, Value.int IntKind.u32 0, Value.int IntKind.u32 0, Value.int IntKind.u32 0, Value.int IntKind.u32 0, Value.int IntKind.u32 0, Value.int IntKind.u32 0]
theorem zeros64_eq : #[Value.int IntKind.u32 0, Value.int IntKind.u32 0, Value.int IntKind.u32 0, Value.int IntKind.u32 0, Value.int IntKind.u32 0, Value.int IntKind.u32 0, Value.int IntKind.u32 0, Value.int IntKind.u32 0, Value.int IntKind.u32 0, Value.int IntKind.u32 0, Value.int IntKind.u32 0, Value.int IntKind.u32 0, Value.int IntKind.u32 0, Value.int IntKind.u32 0, Value.int IntKind.u32 0, Value.int IntKind.u32 0, Value.int IntKind.u32 0, Value.int IntKind.u32 0, Value.int IntKind.u32 0, Value.int IntKind.u32 0, Value.int IntKind.u32 0, Value.int IntKind.u32 0, Value.int IntKind.u32 0, Value.int IntKind.u32 0, Value.int IntKind.u32 0, Value.int IntKind.u32 0, Value.int IntKind.u32 0, Value.int IntKind.u32 0, Value.int IntKind.u32 0, Value.int IntKind.u32 0, Value.int IntKind.u32 0, Value.int IntKind.u32 0, Value.int IntKind.u32 0, Value.int IntKind.u32 0, Value.int IntKind.u32 0, Value.int IntKind.u32 0, Value.int IntKind.u32 0, Value.int IntKind.u32 0, Value.int IntKind.u32 0, Value.int IntKind.u32 0, Value.int IntKind.u32 0, Value.int IntKind.u32 0, Value.int IntKind.u32 0, Value.int IntKind.u32 0, Value.int IntKind.u32 0, Value.int IntKind.u32 0, Value.int IntKind.u32 0, Value.int IntKind.u32 0, Value.int IntKind.u32 0, Value.int IntKind.u32 0, Value.int IntKind.u32 0, Value.int IntKind.u32 0, Value.int IntKind.u32 0, Value.int IntKind.u32 0, Value.int IntKind.u32 0, Value.int IntKind.u32 0, Value.int IntKind.u32 0, Value.int IntKind.u32 0, Value.int IntKind.u32 0, Value.int IntKind.u32 0, Value.int IntKind.u32 0, Value.int IntKind.u32 0, Value.int IntKind.u32 0, Value.int IntKind.u32 0] = zeros64 := rfl
theorem zeros64_ints : zeros64 = (ints .u32 (List.replicate 64 0)).toArray := by kernel_rfl
def spreadW (w : World) (bs : List Nat) : World := ((w.alloc (Obj.cells (arr .u8 bs) 38)).alloc (Obj.cells zeros64 60)).alloc (Obj.cells zeros64 60)
structure SpW (w : World) (bs l tl : List Nat) (wr : World) : Prop where
  below : Below w.heap.size w wr
  blk : wr.rangeAt w.heap.size 0 (ints .u8 bs)
  words : wr.rangeAt (w.heap.size + 1 + 1) 0 (ints .u32 (l ++ tl))
  len : l.length + tl.length = 64
  may : wr.there (w.heap.size + 1 + 1) 0 64
  out : wr.there (w.heap.size + 1) 0 64
theorem spW_start (w : World) (bs : List Nat) : SpW w bs [] (List.replicate 64 0) (spreadW w bs) := by
  have h0 : (spreadW w bs).heap[w.heap.size]? = some (Obj.cells (arr .u8 bs) 38) := by
    show (((w.heap.push _).push _).push _)[_]? = _
    rw [Array.getElem?_push_lt (by simp; omega), Array.getElem_push_lt (by simp), Array.getElem_push_eq]
  have h1 : (spreadW w bs).heap[w.heap.size + 1]? = some (Obj.cells zeros64 60) := by
    show (((w.heap.push _).push _).push _)[_]? = _
    rw [Array.getElem?_push_lt (by simp), Array.getElem_push, dif_neg (by simp)]
  have h2 : (spreadW w bs).heap[w.heap.size + 1 + 1]? = some (Obj.cells zeros64 60) := by
    show (((w.heap.push _).push _).push _)[_]? = _
    rw [Array.getElem?_push, if_pos (by simp)]
  refine ⟨(((Below.refl _ _).alloc (Nat.le_refl _) _).alloc (by simp) _).alloc (by simp; omega) _, ?_, ?_, rfl, ?_, ?_⟩
  · intro j v hv
    rw [cell_of_row _ _ _ _ _ _ h0, Nat.zero_add]
    simpa [arr] using hv
  · intro j v hv
    rw [cell_of_row _ _ _ _ _ _ h2, Nat.zero_add, zeros64_ints]
    simpa using hv
  · intro j hj
    rw [cell_of_row _ _ _ _ _ _ h2, frozen_of_row _ _ _ _ _ h2, Nat.zero_add]
    exact ⟨by simp [zeros64]; omega, rfl⟩
  · intro j hj
    rw [cell_of_row _ _ _ _ _ _ h1, frozen_of_row _ _ _ _ _ h1, Nat.zero_add]
    exact ⟨by simp [zeros64]; omega, rfl⟩
section
variable {w : World} {bs l tl : List Nat} {wr : World} 
theorem SpW.drewN (h : SpW w bs l tl wr) (n : Nat) : SpW w bs l tl (wr.drewN n) :=
  ⟨below_drewN h.below n, h.blk, h.words, h.len, h.may, h.out⟩
theorem SpW.drew (h : SpW w bs l tl wr) : SpW w bs l tl wr.drew := h.drewN 1
theorem SpW.set {y : Nat} (h : SpW w bs l (y :: tl) wr) (x : Nat) : SpW w bs (l ++ [x]) tl (wr.setCell ⟨w.heap.size + 1 + 1, l.length, none⟩ (.int .u32 x)) := by
  have hlen := h.len
  simp only [List.length_cons] at hlen
  refine ⟨h.below.setCell (by simp; omega) _, ?_, ?_, by simp; omega, there_set h.may _, there_set h.out _⟩
  · exact World.rangeAt_setCells_apart h.blk (w.heap.size + 1 + 1) l.length [_] (.inl (by omega))
  · have := rangeAt_set h.words (by have := h.may; simpa [hlen, List.length_append] using this) l.length x (by simp)
    rwa [List.set_append_right _ _ (Nat.le_refl _), Nat.sub_self, List.set_cons_zero, List.append_cons] at this
theorem SpW.byte (h : SpW w bs l tl wr) (i : Nat) (hi : i < bs.length) : wr.cell? ⟨w.heap.size, i, none⟩ = some (.int .u8 (Sp.nth bs i : Nat)) := by
  have := h.blk i _ (ints_get .u8 bs i hi)
  rwa [Nat.zero_add] at this
theorem SpW.word (h : SpW w bs l tl wr) (i : Nat) (hi : i < l.length) : wr.cell? ⟨w.heap.size + 1 + 1, i, none⟩ = some (.int .u32 (Sp.nth l i : Nat)) := by
  have := h.words i _ (ints_get .u32 (l ++ tl) i (by simp; omega))
  rw [Nat.zero_add, Sp.nth_append_left hi] at this
  exact this
theorem SpW.free {y : Nat} (h : SpW w bs l (y :: tl) wr) : wr.cell? ⟨w.heap.size + 1 + 1, l.length, none⟩ = some (.int .u32 y) ∧ wr.frozen? ⟨w.heap.size + 1 + 1, l.length, none⟩ = false := by
  have hlen := h.len
  simp only [List.length_cons] at hlen
  have h1 := h.words l.length _ (ints_get .u32 (l ++ y :: tl) l.length (by simp))
  have h2 := h.may l.length (by omega)
  rw [Nat.zero_add] at h1 h2
  refine ⟨?_, h2.2⟩
  rw [h1]
  have := Sp.nth_append_right (l := l) (m := y :: tl) 0
  rw [Nat.add_zero] at this
  rw [this]
  rfl
theorem SpW.more (h : SpW w bs l tl wr) (hl : l.length < 64) : ∃ y tl', tl = y :: tl' := by
  have hlen := h.len
  cases tl with
  | nil => simp at hlen; omega
  | cons y tl' => exact ⟨y, tl', rfl⟩
end

set_option maxHeartbeats 1000000 in
theorem spread_any (bs : List Nat) (w : World) (hl : bs.length = 64) (hbs : ∀ x ∈ bs, x < 256) :
    Calls Tryd.prog 29 #[.agg (arr .u8 bs)] w fun e w' => e = .returned (.agg (arr .u32 (Sp.spread bs))) ∧ Below w.heap.size w w' := by
  have h0 := spW_start w bs
  go_enter Tryd.func29, Tryd.ntmps29
  go_wp2
  rw [zeros64_eq]
  rw [show ((w.alloc (Obj.cells (arr .u8 bs) 38)).alloc (Obj.cells zeros64 60)).alloc (Obj.cells zeros64 60) = spreadW w bs from rfl]
  go_loopw [7] (fun i wr => ∃ (k : Nat) (tl : List Nat), k ≤ 16 ∧ i = .int .i64 k ∧ SpW w bs (Sp.firsts bs k) tl wr) (fun i _ => 16 - (intOf i).toNat)
  case atStart => exact ⟨0, _, by omega, rfl, h0⟩
  case round =>
    obtain ⟨k, tl, hk, rfl, hr⟩ := hrel
    by_cases hlt : k < 16
    · have b0 := hr.byte (4 * k) (by omega)
      have b1 := hr.byte (4 * k + 1) (by omega)
      have b2 := hr.byte (4 * k + 2) (by omega)
      have b3 := hr.byte (4 * k + 3) (by omega)
      obtain ⟨y, tl, rfl⟩ := hr.more (by rw [Sp.firsts_length]; omega)
      have hf := hr.free
      rw [Sp.firsts_length] at hf
      obtain ⟨f0, f1⟩ := hf
      have i0 : (0 : Int) ≤ 4 * (k : Int) := by omega
      have i1 : 4 * (k : Int) < 64 := by omega
      have i2 : 4 * (k : Int) + 1 < 64 := by omega
      have i3 : 4 * (k : Int) + 2 < 64 := by omega
      have i4 : 4 * (k : Int) + 3 < 64 := by omega
      have i5 : (k : Int) < 64 := by omega
      have i6 : (0 : Int) ≤ (k : Int) := by omega
      have i7 : (0 : Int) ≤ 4 * (k : Int) + 1 := by omega
      have i8 : (0 : Int) ≤ 4 * (k : Int) + 2 := by omega
      have i9 : (0 : Int) ≤ 4 * (k : Int) + 3 := by omega
      have hne : w.heap.size + 1 + 1 ≠ w.heap.size := by omega
      have t0 : (4 * (k : Int)).toNat = 4 * k := by omega
      have t1 : (4 * (k : Int) + 1).toNat = 4 * k + 1 := by omega
      have t2 : (4 * (k : Int) + 2).toNat = 4 * k + 2 := by omega
      have t3 : (4 * (k : Int) + 3).toNat = 4 * k + 3 := by omega
      have v1 : IntKind.i64.wrap (4 * (k : Int) + 1) = 4 * (k : Int) + 1 := i64_id _ (by omega)
      have v2 : IntKind.i64.wrap (4 * (k : Int) + 2) = 4 * (k : Int) + 2 := i64_id _ (by omega)
      have v3 : IntKind.i64.wrap (4 * (k : Int) + 3) = 4 * (k : Int) + 3 := i64_id _ (by omega)
      go_wp2
      go_region_held3 (fun w' => w'.cell? ⟨w.heap.size, 4 * k, none⟩ = some (.int .u8 (Sp.nth bs (4 * k) : Nat)) ∧ w'.cell? ⟨w.heap.size, 4 * k + 1, none⟩ = some (.int .u8 (Sp.nth bs (4 * k + 1) : Nat)) ∧ w'.cell? ⟨w.heap.size, 4 * k + 2, none⟩ = some (.int .u8 (Sp.nth bs (4 * k + 2) : Nat)) ∧ w'.cell? ⟨w.heap.size, 4 * k + 3, none⟩ = some (.int .u8 (Sp.nth bs (4 * k + 3) : Nat))) (go_keep) (fail)
      go_wp2
      rw [Sp.wordI hbs]
      go_roundw
      case rel =>
        refine ⟨k + 1, tl, by omega, by go_num, ?_⟩
        rw [Sp.firsts_succ]
        have := hr.set (Sp.word bs (4 * k))
        rw [Sp.firsts_length] at this
        exact this.drew
      case measure => simp [intOf]; omega
    · obtain rfl : k = 16 := by omega
      clear hlt hk
      go_wp2
      go_loopw [6] (fun i w2 => ∃ (t : Nat) (tl : List Nat), 16 ≤ t ∧ t ≤ 64 ∧ i = .int .i64 t ∧ SpW w bs (Sp.spreadTo bs (t - 16)) tl w2) (fun i _ => 64 - (intOf i).toNat)
      case atStart => exact ⟨16, tl, by omega, by omega, rfl, hr⟩
      case round =>
        clear hr h0
        obtain ⟨t, tl2, ht0, ht, rfl, hr⟩ := hrel
        have hlen := Sp.spreadTo_length bs (t - 16)
        have hlen' : (Sp.spreadTo bs (t - 16)).length = t := by omega
        have HL : Hid ((Sp.spreadTo bs (t - 16)).length = t) := hlen'
        have hb := Sp.spreadTo_lt hbs (t - 16)
        have HN := Sp.nextI (Sp.spreadTo bs (t - 16)) t hlen'
        have HX : Sp.spreadTo bs (t + 1 - 16) = Sp.spreadTo bs (t - 16) ++ [Sp.next (Sp.spreadTo bs (t - 16))] := by
          rw [show t + 1 - 16 = (t - 16) + 1 from by omega]; rfl
        clear hlen hlen'
        by_cases hlt : t < 64
        · generalize Sp.spreadTo bs (t - 16) = l at *
          have c2 := hr.word (t - 2) (by rw [HL.out]; omega)
          have c7 := hr.word (t - 7) (by rw [HL.out]; omega)
          have c15 := hr.word (t - 15) (by rw [HL.out]; omega)
          have c16 := hr.word (t - 16) (by rw [HL.out]; omega)
          have x2 : Sp.nth l (t - 2) < 4294967296 := Sp.nth_lt (by decide) hb _
          have x15 : Sp.nth l (t - 15) < 4294967296 := Sp.nth_lt (by decide) hb _
          obtain ⟨y, tl2, rfl⟩ := hr.more (by rw [HL.out]; omega)
          have hf := hr.free
          rw [HL.out] at hf
          obtain ⟨f0, f1⟩ := hf
          have i2 : (0 : Int) ≤ (t : Int) - 2 := by omega
          have i7 : (0 : Int) ≤ (t : Int) - 7 := by omega
          have i15 : (0 : Int) ≤ (t : Int) - 15 := by omega
          have i16 : (0 : Int) ≤ (t : Int) - 16 := by omega
          have j2 : (t : Int) - 2 < 64 := by omega
          have j7 : (t : Int) - 7 < 64 := by omega
          have j15 : (t : Int) - 15 < 64 := by omega
          have j16 : (t : Int) - 16 < 64 := by omega
          have t2 : ((t : Int) - 2).toNat = t - 2 := by omega
          have t7 : ((t : Int) - 7).toNat = t - 7 := by omega
          have t15 : ((t : Int) - 15).toNat = t - 15 := by omega
          have t16 : ((t : Int) - 16).toNat = t - 16 := by omega
          have v2 : IntKind.i64.wrap ((t : Int) - 2) = (t : Int) - 2 := i64_id _ (by omega)
          have v7 : IntKind.i64.wrap ((t : Int) - 7) = (t : Int) - 7 := i64_id _ (by omega)
          have v15 : IntKind.i64.wrap ((t : Int) - 15) = (t : Int) - 15 := i64_id _ (by omega)
          have v16 : IntKind.i64.wrap ((t : Int) - 16) = (t : Int) - 16 := i64_id _ (by omega)
          have p2 : (2 : Int) ≤ (t : Int) := by omega
          have p7 : (7 : Int) ≤ (t : Int) := by omega
          have p15 : (15 : Int) ≤ (t : Int) := by omega
          have p16 : (16 : Int) ≤ (t : Int) := by omega
          have q0 : (t : Int) < 64 := by omega
          have n2 : t ≠ t - 2 := by omega
          have n7 : t ≠ t - 7 := by omega
          have n15 : t ≠ t - 15 := by omega
          have n16 : t ≠ t - 16 := by omega
          have HN' : Hid _ := HN
          have HX' : Hid _ := HX
          have HB : Hid _ := hb
          clear HN HX hb
          go_wp2
          go_region_held3 (fun w' => w'.cell? ⟨w.heap.size + 1 + 1, t - 2, none⟩ = some (.int .u32 (Sp.nth l (t - 2) : Nat)) ∧ w'.cell? ⟨w.heap.size + 1 + 1, t - 7, none⟩ = some (.int .u32 (Sp.nth l (t - 7) : Nat)) ∧ w'.cell? ⟨w.heap.size + 1 + 1, t - 15, none⟩ = some (.int .u32 (Sp.nth l (t - 15) : Nat)) ∧ w'.cell? ⟨w.heap.size + 1 + 1, t - 16, none⟩ = some (.int .u32 (Sp.nth l (t - 16) : Nat))) (first | go_keep | (simp only [World.cell?_drewN, cell_set_off _ _ _ _ _ n2, cell_set_off _ _ _ _ _ n7, cell_set_off _ _ _ _ _ n15, cell_set_off _ _ _ _ _ n16]; exact ⟨c2, c7, c15, c16⟩)) (first | (go_at_call_of 35 (Value.int IntKind.i64 17); refine (shifted_17 _ _ x2).mono ?_; rintro e w' ⟨rfl, m1, rfl⟩) | (go_at_call 35; refine (shifted_7 _ _ x15).mono ?_; rintro e w' ⟨rfl, m2, rfl⟩))
          go_wp2
          go_roundw
          case rel =>
            (repeat apply Exists.intro)
            refine ⟨⟨t + 1, tl2, by omega, by omega, by go_num, ?_⟩, rfl⟩
            rw [HX'.out]
            have := (hr.drewN (1 + m1 + m2)).set (Sp.next l)
            rw [HL.out] at this
            have key : ∀ v : Int, v = ((Sp.next l : Nat) : Int) → SpW w bs (l ++ [Sp.next l]) tl2 ((wr.drewN (1 + m1 + m2)).setCell ⟨w.heap.size + 1 + 1, t, none⟩ (.int .u32 v)) := fun v hv => by subst hv; exact this
            refine key _ ?_
            have hn := HN'.out
            rw [IntKind.wrap_u32'] at hn
            omega
          case measure => simp [intOf]; omega
        · obtain rfl : t = 64 := by omega
          clear HN HX hb hlt
          have HE : Hid (Sp.spreadTo bs (64 - 16) = Sp.spread bs) := rfl
          generalize Sp.spreadTo bs (64 - 16) = l at *
          have e0 : tl2 = [] := by have := hr.len; rw [HL.out] at this; exact List.eq_nil_of_length_eq_zero (by omega)
          subst e0
          have hws := hr.words
          have hot := hr.out
          have hbl := hr.below
          rw [List.append_nil] at hws
          clear hr
          go_wp2_with (first | with_reducible (refine stop_load 60 ?_) | with_reducible (refine stop_store 60 ?_))
          refine Stop.go ?_
          with_reducible refine law_load (w.heap.size + 1 + 1) 0 (ints .u32 l) (.array 64 52) ?lx hws Tryd.underlying60' rfl ?li ?lk
          case lx => exact rfl
          case li => rw [ints_length, HL.out]; exact info60
          go_wp2_with (with_reducible (refine stop_store 60 ?_))
          refine Stop.go ?_
          with_reducible refine law_store (w.heap.size + 1) 0 (arr .u32 l) ?sx ?sy ?st ?si ?s1 ?sk
          case sx => exact rfl
          case sy => exact rfl
          case st => rw [arr_size, HL.out]; exact hot
          case si => rw [arr_size, HL.out]; exact info60
          case s1 => exact ints_one _ _
          go_wp2
          rw [← HE.out]
          refine bodyPost_ret (v := .agg (arr .u32 l)) (results_row rfl _ _ (w.heap.size + 1) 0 (ints .u32 l) _ rfl ?_ Tryd.underlying60' rfl ?_) rfl ⟨rfl, ?_⟩
          · exact World.rangeAt_setCells_same _ _ _ _ (by rw [arr_list, ints_length, HL.out]; exact hot)
          · rw [ints_length, HL.out]; exact info60
          · exact Below.setCells _ _ _ hbl (by omega)
end Go.Proofs.YtnbdadhdpplldabDoor
