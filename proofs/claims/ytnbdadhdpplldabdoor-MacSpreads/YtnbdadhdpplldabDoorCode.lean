/- mac: Code. -/
import Derived.Test.YtnbdadhdpplldabDoorFillUp
namespace Go.Proofs.YtnbdadhdpplldabDoor
open Go.RowKit
theorem key_store (w : World) (K : List Nat) (h : K.length = 64) : KeyAt (World.setCells (w.alloc (Obj.cells zeroK 39)) w.heap.size 0 (arr .u8 K).toList) w.heap.size K ∧
    Below w.heap.size w (World.setCells (w.alloc (Obj.cells zeroK 39)) w.heap.size 0 (arr .u8 K).toList) := by
  refine ⟨?_, Below.setCells _ _ _ ((Below.refl _ _).alloc (Nat.le_refl _) _) (Nat.le_refl _)⟩
  have hz0 : (w.alloc (Obj.cells zeroK 39)).heap[w.heap.size]? = some (.cells (ints .u8 (List.replicate 64 0)).toArray 39 (0, 0)) := heap_alloc_new w _
  have := heap_setCells w.heap.size 39 (ints .u8 K) 0 (w.alloc (Obj.cells zeroK 39)) (ints .u8 (List.replicate 64 0)) hz0 (by rw [ints_length, ints_length, h]; simp)
  unfold KeyAt
  rw [arr_list]
  refine Eq.trans this ?_
  rw [ints_length, h]
  simp [arr, ints]
theorem key_there (w : World) : (w.alloc (Obj.cells zeroK 39)).there w.heap.size 0 64 := there_of_row (heap_alloc_new w (Obj.cells zeroK 39)) 64 (by simp [zeroK, arr_size])
theorem KeyAt.bytes {w : World} {g : Nat} {l : List Nat} (h : KeyAt w g l) (hs : ∀ x ∈ l, x < 256) {n : Nat} (hl : l.length = n) : BytesAt w (.slice (some ⟨g, 0, none⟩) n n) l :=
  ⟨hs, .inr ⟨g, 0, n, by rw [hl], by omega, rangeAt_of_row h⟩⟩
theorem hashAt_lt {w : World} {g : Nat} {m : List Nat} (h : HashAt w g m) : g < w.heap.size := by
  obtain ⟨st, blk, _, h2⟩ := h
  exact (Array.getElem?_eq_some_iff.1 h2).1
set_option maxHeartbeats 2000000 in
theorem code_any (key : List Nat) (ls : List (List Nat)) (p : Option Addr) (n c b o cp : Nat) (vs : List Value) (w : World) (hK : BytesAt w (.slice p n c) key) (hT : Tab w) (hn : n < 576460752303423488)
    (hr : w.rangeAt b o vs) (hel : ∀ (i : Nat) (l : List Nat), ls[i]? = some l → ∃ u, vs[i]? = some u ∧ BytesAt w u l) (hlm : ls.length ≤ 1000) (hln : ls.flatten.length < 500000000000000000) :
    Calls Tryd.prog 11 #[.slice p n c, .slice (some ⟨b, o, none⟩) ls.length cp] w fun e w' => ∃ g, e = .returned (.slice (some ⟨g, 0, none⟩) 32 32) ∧ w.heap.size ≤ g ∧ w'.heap[g]? = some (.cells (arr .u8 (Mk.code key ls.flatten)) 5 (0, 0)) ∧ Below w.heap.size w w' := by
  have HC : Hid (Calls Tryd.prog 18 #[.slice p n c] w fun e w' => e = .returned (.agg (arr .u8 (Mk.fill key))) ∧ Below w.heap.size w w') := fillUp_any key p n c w hK hT hn
  have HT : Hid (Tab w) := hT
  have HR : Hid (w.rangeAt b o vs) := hr
  have HE : Hid (∀ (i : Nat) (l : List Nat), ls[i]? = some l → ∃ u, vs[i]? = some u ∧ BytesAt w u l) := hel
  have HFS : Hid (∀ x ∈ Mk.fill key, x < 256) := Mk.fill_small hK.1
  have HFL : Hid ((Mk.fill key).length = 64) := Mk.fill_length key
  have hpos := tab_pos hT
  have HCD : Hid (Mk.code key ls.flatten = Sp.sum (Mk.mask (Mk.fill key) 92 ++ Sp.sum (Mk.mask (Mk.fill key) 54 ++ ls.flatten))) := rfl
  obtain ⟨CD, hCD⟩ : ∃ CD, Mk.code key ls.flatten = CD := ⟨_, rfl⟩
  rw [hCD]
  rw [hCD] at HCD
  clear hK hT hr hel hCD
  generalize Mk.fill key = K at *
  go_enter Tryd.func11, Tryd.ntmps11
  go_wp2_with fail
  refine HC.out.mono ?_
  rintro e w1 ⟨rfl, hb1⟩
  have HB1 : Hid (Below w.heap.size w w1) := hb1
  have hs1 := hb1.size
  clear hb1 HC
  go_wp2_with (first | with_reducible (refine stop_store 39 ?_))
  rw [zeroK_eq]
  refine Stop.go ?_
  with_reducible refine law_store w1.heap.size 0 (arr .u8 K) ?sx ?sy ?st ?si (ints_one _ _) ?sk
  case sx => exact rfl
  case sy => exact rfl
  case st => rw [arr_size, HFL.out]; exact key_there w1
  case si => rw [arr_size, HFL.out]; exact info39
  obtain ⟨h1, h2⟩ := key_store w1 K HFL.out
  have HK2 : Hid (KeyAt (World.setCells (w1.alloc (Obj.cells zeroK 39)) w1.heap.size 0 (arr .u8 K).toList) w1.heap.size K) := h1
  have HB2 : Hid (Below w.heap.size w (World.setCells (w1.alloc (Obj.cells zeroK 39)) w1.heap.size 0 (arr .u8 K).toList)) := HB1.out.trans (h2.mono hs1)
  clear h1 h2 HB1
  generalize World.setCells (w1.alloc (Obj.cells zeroK 39)) w1.heap.size 0 (arr .u8 K).toList = w2 at *
  generalize w1.heap.size = g5 at *
  go_wp2_with fail
  refine (new_any w2).mono ?_
  rintro e w3' ⟨rfl, hw3⟩
  have HH3 : Hid (HashAt w3' w2.heap.size []) := by rw [hw3]; exact hashAt_new w2
  have hb3 : Below w2.heap.size w2 w3' := by rw [hw3]; exact (Below.refl _ _).alloc (Nat.le_refl _) _
  have HK3 : Hid (KeyAt w3' g5 K) := HK2.out.below hb3 HK2.out.lt
  have HB3 : Hid (Below w.heap.size w w3') := HB2.out.trans (hb3.mono HB2.out.size)
  have hg56 : g5 < w2.heap.size := HK2.out.lt
  clear hw3 hb3 HK2 HB2
  generalize w2.heap.size = g6 at *
  go_wp2_with (first | with_reducible (refine stop_load 39 ?_))
  refine Stop.go ?_
  with_reducible refine law_load_arr g5 0 .u8 K _ ?lx ?lc under39 rfl ?li ?lk
  case lx => exact rfl
  case lc => exact rangeAt_of_row HK3.out
  case li => rw [HFL.out]; exact info39
  go_wp2_with fail
  refine (masked_any K 54 w3' HFL.out HFS.out (by decide)).mono ?_
  rintro e w4 ⟨rfl, hk4, hb4⟩
  have HM4 : Hid (KeyAt w4 w3'.heap.size (Mk.mask K 54)) := hk4
  have hg6 : g6 < w3'.heap.size := hashAt_lt HH3.out
  have HH4 : Hid (HashAt w4 g6 []) := hashAt_below HH3.out (hb4.block g6 hg6)
  have HK4 : Hid (KeyAt w4 g5 K) := HK3.out.below hb4 HK3.out.lt
  have HB4 : Hid (Below w.heap.size w w4) := HB3.out.trans (hb4.mono HB3.out.size)
  have hs3 := HB3.out.size
  clear hk4 hb4 HH3 HK3 HB3
  go_wp2_with fail
  refine (write_any g6 [] (Mk.mask K 54) _ w4 HH4.out (HM4.out.bytes (Mk.mask_small HFS.out (by decide)) (by rw [Mk.mask_length, HFL.out])) (fun _ => by show some w3'.heap.size ≠ some g6; intro e; have := Option.some.inj e; omega) (tab_below HT.out HB4.out) (by omega) (by rw [Mk.mask_length, HFL.out]; decide)).mono ?_
  rintro e w5 ⟨rfl, hh5, hg5⟩
  rw [List.nil_append] at hh5
  have HH5 : Hid (HashAt w5 g6 (Mk.mask K 54)) := hh5
  have HK5 : Hid (KeyAt w5 g5 K) := HK4.out.grown hg5 (by omega)
  have HB5 : Hid (Below w.heap.size w w5) := below_grown HB4.out hg5 HB4.out.size (by omega)
  have hg6w : w.heap.size ≤ g6 := by omega
  clear hh5 hg5 HH4 HK4 HM4 HB4
  go_wp2_with fail
  go_loopw [18] (fun i wr => ∃ k : Nat, k ≤ ls.length ∧ i = .int .i64 k ∧ Hid (HashAt wr g6 (Mk.mask K 54 ++ (ls.take k).flatten)) ∧ Hid (KeyAt wr g5 K) ∧ Hid (Below w.heap.size w wr)) (fun i _ => ls.length - (intOf i).toNat)
  case atStart => exact ⟨0, by omega, rfl, by rw [List.take_zero, List.flatten_nil, List.append_nil]; exact HH5.out, HK5.out, HB5.out⟩
  case round =>
    clear HH5 HK5 HB5
    obtain ⟨k, hk, rfl, HA, HK, HB⟩ := hrel
    by_cases hlt : k < ls.length
    · obtain ⟨l, hl⟩ : ∃ l, ls[k]? = some l := ⟨_, List.getElem?_eq_getElem hlt⟩
      obtain ⟨u, hu, hbu⟩ := HE.out k l hl
      have hcell := HR.out k u hu
      have hcell' : wr.cell? ⟨b, o + k, none⟩ = some u := by
        rw [HB.out.cell (World.block_lt_of_cell? w _ hcell)]; exact hcell
      have hfl := flatten_take ls k l hl
      have hle := flatten_le ls (k + 1)
      rw [hfl, List.length_append] at hle
      have HF : Hid ((ls.take (k + 1)).flatten = (ls.take k).flatten ++ l) := hfl
      have HBU : Hid (BytesAt w u l) := hbu
      have hml : (Mk.mask K 54).length = 64 := by rw [Mk.mask_length, HFL.out]
      clear hcell hfl hbu hu hl
      go_wp2_with fail
      refine (write_any g6 _ l u _ HA.out (bytesAt_below HBU.out HB.out) (fun hl => bytesAt_block HBU.out hl _ hg6w) (tab_below HT.out HB.out) (by omega) (by rw [List.length_append, hml]; omega)).mono ?_
      rintro e w6 ⟨rfl, hA6, hg6'⟩
      have HA6 : Hid (HashAt w6 g6 (Mk.mask K 54 ++ (ls.take (k + 1)).flatten)) := by
        rw [HF.out, ← List.append_assoc]
        exact hA6
      have HK6 : Hid (KeyAt w6 g5 K) := HK.out.grown hg6' (by omega)
      have HB6 : Hid (Below w.heap.size w w6) := below_grown HB.out hg6' HB.out.size hg6w
      clear hA6 hg6' HA HK HB HF HBU hml
      go_wp2_with fail
      go_roundw
      case rel => exact ⟨k + 1, by omega, by go_num, HA6.out, HK6.out, HB6.out⟩
      case measure => simp [intOf]; omega
    · obtain rfl : k = ls.length := by omega
      have hA := HA.out
      rw [List.take_of_length_le (Nat.le_refl _)] at hA
      have HA' : Hid (HashAt wr g6 (Mk.mask K 54 ++ ls.flatten)) := hA
      have hsw := HB.out.size
      clear hA HA
      go_wp2_with (first | with_reducible (refine stop_load 39 ?_))
      refine Stop.go ?_
      with_reducible refine law_load_arr g5 0 .u8 K _ ?mx ?mc under39 rfl ?mi ?mk
      case mx => exact rfl
      case mc => exact rangeAt_of_row HK.out
      case mi => rw [HFL.out]; exact info39
      go_wp2_with fail
      refine (masked_any K 92 wr HFL.out HFS.out (by decide)).mono ?_
      rintro e w7 ⟨rfl, hk7, hb7⟩
      have HM7 : Hid (BytesAt w7 (.slice (some ⟨wr.heap.size, 0, none⟩) 64 64) (Mk.mask K 92)) := hk7.bytes (Mk.mask_small HFS.out (by decide)) (by rw [Mk.mask_length, HFL.out])
      have HH7 : Hid (HashAt w7 g6 (Mk.mask K 54 ++ ls.flatten)) := hashAt_below HA'.out (hb7.block g6 (hashAt_lt HA'.out))
      have HB7 : Hid (Below w.heap.size w w7) := HB.out.trans (hb7.mono hsw)
      clear hk7 hb7 HA' HK HB
      go_wp2_with fail
      refine (hsum_any g6 _ w7 HH7.out (tab_below HT.out HB7.out) (by rw [List.length_append, Mk.mask_length, HFL.out]; omega)).mono ?_
      rintro e w8 ⟨g8, rfl, hg8, hr8, hb8⟩
      have HM8 : Hid (BytesAt w8 (.slice (some ⟨wr.heap.size, 0, none⟩) 64 64) (Mk.mask K 92)) := bytesAt_below HM7.out hb8
      have HS8 : Hid (BytesAt w8 (.slice (some ⟨g8, 0, none⟩) 32 32) (Sp.sum (Mk.mask K 54 ++ ls.flatten))) := ⟨Mk.sum_small _, .inr ⟨g8, 0, 32, by rw [sum_length], by rw [sum_length]; decide, rangeAt_of_row hr8⟩⟩
      have HB8 : Hid (Below w.heap.size w w8) := HB7.out.trans (hb8.mono HB7.out.size)
      clear hg8 hr8 hb8 HM7 HH7 HB7
      go_wp2_with fail
      have hbA : Below w8.heap.size w8 (w8.alloc (.cells #[.slice (some ⟨wr.heap.size, 0, none⟩) 64 64, .slice (some ⟨g8, 0, none⟩) 32 32] 22)) := (Below.refl _ _).alloc (Nat.le_refl _) _
      have hpa : PartsAt (w8.alloc (.cells #[.slice (some ⟨wr.heap.size, 0, none⟩) 64 64, .slice (some ⟨g8, 0, none⟩) 32 32] 22)) (.slice (some ⟨w8.heap.size, 0, none⟩) 2 2) [Mk.mask K 92, Sp.sum (Mk.mask K 54 ++ ls.flatten)] := by
        refine .inr ⟨w8.heap.size, 0, 2, [.slice (some ⟨wr.heap.size, 0, none⟩) 64 64, .slice (some ⟨g8, 0, none⟩) 32 32], rfl, by simp, rangeAt_of_row (heap_alloc_new w8 _), fun i l hl => ?_⟩
        match i with
        | 0 => simp at hl; subst hl; exact ⟨_, rfl, bytesAt_below HM8.out hbA⟩
        | 1 => simp at hl; subst hl; exact ⟨_, rfl, bytesAt_below HS8.out hbA⟩
        | i + 2 => simp at hl
      have hbB : Below w.heap.size w (w8.alloc (.cells #[.slice (some ⟨wr.heap.size, 0, none⟩) 64 64, .slice (some ⟨g8, 0, none⟩) 32 32] 22)) := HB8.out.trans (hbA.mono HB8.out.size)
      refine (sum_any _ _ _ hpa (tab_below HT.out hbB) (by simp [Mk.mask_length, HFL.out, sum_length])).mono ?_
      rintro e w9 ⟨g9, rfl, hg9, hr9, hb9⟩
      have hfe : [Mk.mask K 92, Sp.sum (Mk.mask K 54 ++ ls.flatten)].flatten = Mk.mask K 92 ++ Sp.sum (Mk.mask K 54 ++ ls.flatten) := by simp
      rw [hfe, ← HCD.out] at hr9
      have HR9 : Hid (w9.heap[g9]? = some (.cells (arr .u8 CD) 5 (0, 0))) := hr9
      have HB9 : Hid (Below w.heap.size w w9) := hbB.trans (hb9.mono hbB.size)
      have hg9' : w.heap.size ≤ g9 := Nat.le_trans hbB.size hg9
      clear hg9 hr9 hb9 hfe hpa hbA hbB HM8 HS8 HB8
      go_wp2_with fail
      go_ret
      exact ⟨g9, rfl, hg9', HR9.out, HB9.out⟩
end Go.Proofs.YtnbdadhdpplldabDoor
