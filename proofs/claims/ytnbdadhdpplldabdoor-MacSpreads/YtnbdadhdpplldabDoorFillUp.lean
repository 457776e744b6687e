/- mac: fillUp. -/
import Derived.Test.YtnbdadhdpplldabDoorFill
namespace Go.Proofs.YtnbdadhdpplldabDoor
open Go.RowKit
theorem bytesAt_src {w : World} {p : Option Addr} {n c : Nat} {l : List Nat} (h : BytesAt w (.slice p n c) l) : l.length = n ∧ (l ≠ [] → ∃ b o, p = some ⟨b, o, none⟩ ∧ w.rangeAt b o (ints .u8 l)) := by
  rcases h.2 with ⟨p', c', he, rfl⟩ | ⟨b, o, c', he, hc, hr⟩
  · cases he
    exact ⟨rfl, fun h => absurd rfl h⟩
  · cases he
    exact ⟨rfl, fun _ => ⟨b, o, rfl, hr⟩⟩
theorem fill_spliceN (N : Nat) (s : List Nat) : splice (ints .u8 (List.replicate N 0)) 0 (ints .u8 s) = ints .u8 (s ++ List.replicate (N - s.length) 0) := by
  simp [splice, ints]
theorem fill_splice (s : List Nat) : splice (ints .u8 (List.replicate 64 0)) 0 (ints .u8 s) = ints .u8 (s ++ List.replicate (64 - s.length) 0) := fill_spliceN 64 s
set_option maxHeartbeats 1000000 in
theorem fillUp_any (key : List Nat) (p : Option Addr) (n c : Nat) (w : World) (hK : BytesAt w (.slice p n c) key) (hT : Tab w) (hn : n < 576460752303423488) :
    Calls Tryd.prog 18 #[.slice p n c] w fun e w' => e = .returned (.agg (arr .u8 (Mk.fill key))) ∧ Below w.heap.size w w' := by
  have HK : Hid (BytesAt w (.slice p n c) key) := hK
  have HT : Hid (Tab w) := hT
  have HKL : Hid (key.length = n) := (bytesAt_src hK).1
  have n0 : (n : Int) < 576460752303423488 := by omega
  clear hK hT
  by_cases hlong : 64 < n
  · have hl' : (64 : Int) < (n : Int) := by omega
    have HFE : Hid (Mk.fill key = Sp.sum key ++ List.replicate 32 0) := by
      show _ = _
      unfold Mk.fill Mk.short
      rw [if_pos (by rw [HKL.out]; exact hlong), sum_length]
    go_enter Tryd.func18, Tryd.ntmps18
    go_wp2_with fail
    rw [zeroK_eq]
    have hbA : Below w.heap.size w ((w.alloc (Obj.cells zeroK 39)).alloc (.cells #[.slice p n c] 22)) := ((Below.refl _ _).alloc (Nat.le_refl _) _).alloc (by simp) _
    have hcc : ((w.alloc (Obj.cells zeroK 39)).alloc (.cells #[.slice p n c] 22)).cell? ⟨w.heap.size + 1, 0, none⟩ = some (.slice p n c) := by
      have h1 := heap_alloc_new (w.alloc (Obj.cells zeroK 39)) (.cells #[.slice p n c] 22)
      rw [show (w.alloc (Obj.cells zeroK 39)).heap.size = w.heap.size + 1 from by simp] at h1
      rw [cell_of_row _ _ _ _ _ _ h1]; rfl
    have hpa := partsAt_one (c := 1) (bytesAt_below HK.out hbA) hcc
    have hz0 : KeyAt ((w.alloc (Obj.cells zeroK 39)).alloc (.cells #[.slice p n c] 22)) w.heap.size (List.replicate 64 0) := KeyAt.grown (key_new w (List.replicate 64 0)) (grownBy_alloc _ _ (some (w.heap.size + 1))) (by omega)
    refine (sum_any [key] _ _ hpa (tab_below HT.out hbA) (by simp [HKL.out]; omega)).mono ?_
    rintro e W1 ⟨b1, rfl, hb1, hr1, hbb1⟩
    simp only [List.flatten_cons, List.flatten_nil, List.append_nil] at hr1
    have HZ1 : Hid (KeyAt W1 w.heap.size (List.replicate 64 0)) := hz0.below hbb1 (by simp; omega)
    have HBW : Hid (Below w.heap.size w W1) := hbA.trans (hbb1.mono hbA.size)
    have HSRC : Hid (Sp.sum key ≠ [] → ∃ b o, some (⟨b1, 0, none⟩ : Addr) = some ⟨b, o, none⟩ ∧ W1.rangeAt b o (ints .u8 (Sp.sum key))) := fun _ => ⟨b1, 0, rfl, rangeAt_of_row hr1⟩
    have HSL : Hid ((Sp.sum key).length = 32) := sum_length key
    clear hbA hcc hpa hz0 hb1 hr1 hbb1 HK HT
    have HS0 : Hid (KeyAt (W1.alloc (Obj.cells zeroK 39)) W1.heap.size (List.replicate 64 0)) := key_new W1 _
    have HB1 : Hid (Below W1.heap.size W1 (W1.alloc (Obj.cells zeroK 39))) := (Below.refl _ _).alloc (Nat.le_refl _) _
    go_wp2_with (first | with_reducible (refine stop_builtin .copy ?_))
    refine Stop.go ?_
    rw [zeroK_eq]
    have hsrc : 0 < (ints .u8 (Sp.sum key)).length → some (⟨W1.heap.size, 0, none⟩ : Addr) = some ⟨W1.heap.size, 0, none⟩ ∧ ∃ ad : Addr, ((some ⟨b1, 0, none⟩) : Option Addr) = some ad ∧ ∀ (j : Nat) (v : Value), (ints .u8 (Sp.sum key))[j]? = some v → (W1.alloc (Obj.cells zeroK 39)).cell? (ad.add j) = some v := fun h => by
      obtain ⟨b, o, hpe, hr⟩ := HSRC.out (by intro e; rw [e] at h; simp [ints] at h)
      exact ⟨rfl, ⟨b, o, none⟩, hpe, fun j v hv => by rw [Addr.add_mid]; exact rangeAt_below HB1.out hr j v hv⟩
    have hs0 : (W1.alloc (Obj.cells zeroK 39)).heap[W1.heap.size]? = some (.cells (ints .u8 (List.replicate 64 0)).toArray 39 (0, 0)) := HS0.out
    with_reducible refine wpList_copy_splice rfl (.tmp 10) (.tmp 11) 22 22 rfl 5 Tryd.underlying22 info5 (some ⟨W1.heap.size, 0, none⟩) (some ⟨b1, 0, none⟩) 64 64 32 32 ?cdA ?csA W1.heap.size 0 (ints .u8 (List.replicate 64 0)) 39 hs0 (ints .u8 (Sp.sum key)) ?cnA hsrc ?cfA ?c1A W1.heap.size W1 HB1.out (Nat.le_refl _) ?ckA
    case cdA => exact rfl
    case csA => exact rfl
    case cnA => rw [ints_length, HSL.out]; exact (Nat.min_eq_left (by omega)).symm
    case cfA => rw [ints_length, ints_length, HSL.out, List.length_replicate]; omega
    case c1A => exact fun v hv => by obtain ⟨q, _, rfl⟩ := List.mem_map.1 hv; rfl
    intro w2 hk2 hb2
    have HK2 : Hid (KeyAt w2 W1.heap.size (Mk.fill key)) := by
      show _ = _
      rw [hk2.out, fill_splice (Sp.sum key), HSL.out, HFE.out]
      rfl
    have HZ2 : Hid (KeyAt w2 w.heap.size (List.replicate 64 0)) := HZ1.out.below hb2 HZ1.out.lt
    have HB2 : Hid (Below w.heap.size w w2) := HBW.out.trans (hb2.mono HBW.out.size)
    have hlt2 : w.heap.size < W1.heap.size := HZ1.out.lt
    clear hk2 hb2 hsrc hs0 HS0 HB1 HSRC HFE HZ1 HBW
    go_wp2_with (first | with_reducible (refine stop_load 39 ?_))
    refine Stop.go ?_
    with_reducible refine law_load_arr W1.heap.size 0 .u8 (Mk.fill key) _ ?lxA ?lcA under39 rfl ?liA ?lkA
    case lxA => exact rfl
    case lcA => exact rangeAt_of_row HK2.out
    case liA => rw [Mk.fill_length]; exact info39
    go_wp2_with (first | with_reducible (refine stop_store 39 ?_))
    refine Stop.go ?_
    with_reducible refine law_store w.heap.size 0 (arr .u8 (Mk.fill key)) ?txA ?tyA ?ttA ?tiA (ints_one _ _) ?tkA
    case txA => exact rfl
    case tyA => exact rfl
    case ttA => rw [arr_size, Mk.fill_length]; exact there_of_row HZ2.out 64 (by simp [arr_size])
    case tiA => rw [arr_size, Mk.fill_length]; exact info39
    go_wp2_with fail
    refine bodyPost_ret (v := .agg (arr .u8 (Mk.fill key))) (results_row rfl _ _ w.heap.size 0 (ints .u8 (Mk.fill key)) _ rfl ?_ under39 rfl ?_) rfl ⟨rfl, ?_⟩
    · exact World.rangeAt_setCells_same _ _ _ _ (by rw [arr_list, ints_length, Mk.fill_length]; exact there_of_row HZ2.out 64 (by simp [arr_size]))
    · rw [ints_length, Mk.fill_length]; exact info39
    · exact Below.setCells _ _ _ HB2.out (Nat.le_refl _)
  · have hl' : ¬ (64 : Int) < (n : Int) := by omega
    have HFE : Hid (Mk.fill key = key ++ List.replicate (64 - n) 0) := by
      show _ = _
      unfold Mk.fill Mk.short
      rw [if_neg (by rw [HKL.out]; exact hlong), HKL.out]
    go_enter Tryd.func18, Tryd.ntmps18
    obtain ⟨W1, hW1⟩ : ∃ W1, w.alloc (Obj.cells zeroK 39) = W1 := ⟨_, rfl⟩
    have HZ1 : Hid (KeyAt W1 w.heap.size (List.replicate 64 0)) := by
      rw [← hW1]
      exact key_new w _
    have hbA : Below w.heap.size w W1 := by
      rw [← hW1]
      exact (Below.refl _ _).alloc (Nat.le_refl _) _
    have HBW : Hid (Below w.heap.size w W1) := hbA
    have HSRC : Hid (key ≠ [] → ∃ b o, p = some ⟨b, o, none⟩ ∧ W1.rangeAt b o (ints .u8 key)) := fun h0 => by
      obtain ⟨b, o, hp, hr⟩ := (bytesAt_src HK.out).2 h0
      exact ⟨b, o, hp, rangeAt_below hbA hr⟩
    have HSL : Hid (key.length = n) := HKL.out
    have hsz : w.heap.size + 1 = W1.heap.size := by rw [← hW1]; simp
    clear hbA HK HT
    have HS0 : Hid (KeyAt (W1.alloc (Obj.cells zeroK 39)) W1.heap.size (List.replicate 64 0)) := key_new W1 _
    have HB1 : Hid (Below W1.heap.size W1 (W1.alloc (Obj.cells zeroK 39))) := (Below.refl _ _).alloc (Nat.le_refl _) _
    go_wp2_with (first | with_reducible (refine stop_builtin .copy ?_))
    refine Stop.go ?_
    rw [zeroK_eq]
    rw [hW1]
    have hsrc : 0 < (ints .u8 key).length → some (⟨W1.heap.size, 0, none⟩ : Addr) = some ⟨W1.heap.size, 0, none⟩ ∧ ∃ ad : Addr, (p : Option Addr) = some ad ∧ ∀ (j : Nat) (v : Value), (ints .u8 key)[j]? = some v → (W1.alloc (Obj.cells zeroK 39)).cell? (ad.add j) = some v := fun h => by
      obtain ⟨b, o, hpe, hr⟩ := HSRC.out (by intro e; rw [e] at h; simp [ints] at h)
      exact ⟨rfl, ⟨b, o, none⟩, hpe, fun j v hv => by rw [Addr.add_mid]; exact rangeAt_below HB1.out hr j v hv⟩
    have hs0 : (W1.alloc (Obj.cells zeroK 39)).heap[W1.heap.size]? = some (.cells (ints .u8 (List.replicate 64 0)).toArray 39 (0, 0)) := HS0.out
    with_reducible refine wpList_copy_splice rfl (.tmp 10) (.tmp 11) 22 22 rfl 5 Tryd.underlying22 info5 (some ⟨W1.heap.size, 0, none⟩) p 64 64 n c ?cdB ?csB W1.heap.size 0 (ints .u8 (List.replicate 64 0)) 39 hs0 (ints .u8 key) ?cnB hsrc ?cfB ?c1B W1.heap.size W1 HB1.out (Nat.le_refl _) ?ckB
    case cdB => exact rfl
    case csB => exact rfl
    case cnB => rw [ints_length, HSL.out]; exact (Nat.min_eq_left (by omega)).symm
    case cfB => rw [ints_length, ints_length, HSL.out, List.length_replicate]; omega
    case c1B => exact fun v hv => by obtain ⟨q, _, rfl⟩ := List.mem_map.1 hv; rfl
    intro w2 hk2 hb2
    have HK2 : Hid (KeyAt w2 W1.heap.size (Mk.fill key)) := by
      show _ = _
      rw [hk2.out, fill_splice key, HSL.out, HFE.out]
      rfl
    have HZ2 : Hid (KeyAt w2 w.heap.size (List.replicate 64 0)) := HZ1.out.below hb2 HZ1.out.lt
    have HB2 : Hid (Below w.heap.size w w2) := HBW.out.trans (hb2.mono HBW.out.size)
    have hlt2 : w.heap.size < W1.heap.size := HZ1.out.lt
    clear hk2 hb2 hsrc hs0 HS0 HB1 HSRC HFE HZ1 HBW
    go_wp2_with (first | with_reducible (refine stop_load 39 ?_))
    refine Stop.go ?_
    with_reducible refine law_load_arr W1.heap.size 0 .u8 (Mk.fill key) _ ?lxB ?lcB under39 rfl ?liB ?lkB
    case lxB => exact rfl
    case lcB => exact rangeAt_of_row HK2.out
    case liB => rw [Mk.fill_length]; exact info39
    go_wp2_with (first | with_reducible (refine stop_store 39 ?_))
    refine Stop.go ?_
    with_reducible refine law_store w.heap.size 0 (arr .u8 (Mk.fill key)) ?txB ?tyB ?ttB ?tiB (ints_one _ _) ?tkB
    case txB => exact rfl
    case tyB => exact rfl
    case ttB => rw [arr_size, Mk.fill_length]; exact there_of_row HZ2.out 64 (by simp [arr_size])
    case tiB => rw [arr_size, Mk.fill_length]; exact info39
    go_wp2_with fail
    refine bodyPost_ret (v := .agg (arr .u8 (Mk.fill key))) (results_row rfl _ _ w.heap.size 0 (ints .u8 (Mk.fill key)) _ rfl ?_ under39 rfl ?_) rfl ⟨rfl, ?_⟩
    · exact World.rangeAt_setCells_same _ _ _ _ (by rw [arr_list, ints_length, Mk.fill_length]; exact there_of_row HZ2.out 64 (by simp [arr_size]))
    · rw [ints_length, Mk.fill_length]; exact info39
    · exact Below.setCells _ _ _ HB2.out (Nat.le_refl _)
end Go.Proofs.YtnbdadhdpplldabDoor
