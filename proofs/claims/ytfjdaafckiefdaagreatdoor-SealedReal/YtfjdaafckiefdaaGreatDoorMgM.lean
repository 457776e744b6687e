/- bytes.Join of this program, as the library's contract asks for it. -/
import Derived.Shelf.Bytes.SlJoin
import Derived.Test.YtfjdaafckiefdaaGreatDoorProg
import Derived.Test.YtfjdaafckiefdaaGreatDoorMgT
namespace Go.Proofs.YtfjdaafckiefdaaGreatDoor
open Go.Shelf
def Tryz.joinA_ren : Go.Shelf.Ren := ⟨fun | 14 => 142 | 15 => 156 | n => n, fun | 22 => 22 | 26 => 136 | n => n, fun | n => n⟩
theorem Tryz.joinA : Go.Proofs.SlLaysJ.n14 Tryz.prog Tryz.joinA_ren := {
  mixed := by kernel_rfl,
  f14 := Tryz.func142.trans (congrArg some (by kernel_rfl)),
  f15 := Tryz.func156.trans (congrArg some (by kernel_rfl)),
  t0 := Tryz.underlying0,
  a0 := Tryz.isAgg0,
  z0 := Tryz.sizeOf0,
  v0 := Tryz.zeroValue0,
  t3 := Tryz.underlying3,
  a3 := Tryz.isAgg3,
  z3 := Tryz.sizeOf3,
  v3 := Tryz.zeroValue3,
  t4 := Tryz.underlying4,
  a4 := Tryz.isAgg4,
  z4 := Tryz.sizeOf4,
  v4 := Tryz.zeroValue4,
  t9 := Tryz.underlying9,
  a9 := Tryz.isAgg9,
  z9 := Tryz.sizeOf9,
  v9 := Tryz.zeroValue9,
  t20 := Tryz.underlying20,
  a20 := Tryz.isAgg20,
  z20 := Tryz.sizeOf20,
  v20 := Tryz.zeroValue20,
  t22 := Tryz.underlying22,
  a22 := Tryz.isAgg22,
  z22 := Tryz.sizeOf22,
  v22 := Tryz.zeroValue22,
  t26 := Tryz.underlying136,
  a26 := Tryz.isAgg136,
  z26 := Tryz.sizeOf136,
  v26 := Tryz.zeroValue136,
  t5 := Tryz.underlying5,
  z5 := Tryz.sizeOf5,
  i5 := by kernel_rfl }
end Go.Proofs.YtfjdaafckiefdaaGreatDoor
/- Join of two parts, joined, Sum of two parts. -/
namespace Go.Proofs.YtfjdaafckiefdaaGreatDoor.S7
open Go.RowKit
theorem Src.holds {w : World} {v : Value} {l : List Nat} (h : Src w v l) : Lib.HoldsBytes w v (l.map UInt8.ofNat) := by
  obtain ⟨hs, ⟨rfl, rfl⟩ | ⟨ad, c, rfl, rfl⟩ | ⟨b, o, c, rfl, hc, hr⟩⟩ := h
  · exact ⟨none, 0, rfl, fun _ => rfl, fun a ha => by cases ha⟩
  · exact ⟨some ad, c, rfl, fun _ => rfl, fun a _ i x hx => by simp at hx⟩
  · refine ⟨some ⟨b, o, none⟩, c, by simp, fun e => (by cases e), fun a ha i x hx => ?_⟩
    cases ha
    rw [List.getElem?_map] at hx
    obtain ⟨y, hy, rfl⟩ := Option.map_eq_some_iff.1 hx
    have hi := (List.getElem?_eq_some_iff.1 hy).1
    have h1 := hr i (.int .u8 (y : Int)) (by rw [ints_get _ _ _ hi]; simp [Sp.nth, hy])
    rw [Addr.add_mid, h1]
    have hlt := hs y (List.mem_of_getElem? hy)
    rw [UInt8.toNat_ofNat', Nat.mod_eq_of_lt (by omega)]
theorem Src.fresh {B : Nat} {w : World} {v : Value} {l : List Nat} (hs : ∀ x ∈ l, x < 256) (h : Lib.FreshBytes B w v (l.map UInt8.ofNat)) : Src w v l := by
  obtain ⟨g, cap, zs, rfl, _, h1, _, h2, h3, h4, h5, _⟩ := h
  rw [List.length_map] at h1 h4 ⊢
  refine ⟨hs, .inr (.inr ⟨g, 0, cap, rfl, h1, fun j y hy => ?_⟩)⟩
  have hj : j < l.length := by
    have := (List.getElem?_eq_some_iff.1 hy).1
    rwa [ints_length] at this
  have hz : j < zs.length := by omega
  rw [Nat.zero_add, h5 j (by omega), ← hy, ints_get _ _ _ hj]
  have e1 := congrArg (fun m => m[j]?) h4
  simp only [Lib.bytesOf, List.getElem?_map, List.getElem?_take_of_lt hj, List.getElem?_eq_getElem hz, List.getElem?_eq_getElem hj, Option.map_some, Option.some.injEq] at e1
  have e2 := congrArg UInt8.toNat e1
  rw [UInt8.toNat_ofNat', UInt8.toNat_ofNat'] at e2
  have h6 := h3 _ (List.getElem_mem hz)
  have h7 := hs _ (List.getElem_mem hj)
  simp only [List.getD_eq_getElem?_getD, List.getElem?_eq_getElem hz, Option.getD_some, Sp.nth, List.getElem?_eq_getElem hj, Option.getD_some, Option.some.injEq, Value.int.injEq, true_and]
  omega
theorem join_two {l k : List Nat} (g o c : Nat) (v u : Value) (w : World) (hc : w.cell? ⟨g, o, none⟩ = some v) (hc2 : w.cell? ⟨g, o + 1, none⟩ = some u) (hv : Src w v l) (hu : Src w u k) (hcp : 2 ≤ c) (hl : l.length ≤ 50000) (hk : k.length ≤ 50000) :
    Calls Tryz.prog 142 #[.slice (some ⟨g, o, none⟩) 2 c, .slice none 0 0] w fun e w' => ∃ r, e = .returned r ∧ Src w' r (l ++ k) ∧ Below w.heap.size w w' := by
  have hP : Lib.PartsAt w ⟨g, o, none⟩ [v, u] [l.map UInt8.ofNat, k.map UInt8.ofNat] := by
    refine ⟨rfl, fun i x hx => ?_, fun i x m hx hm => ?_⟩
    · rw [Addr.add_mid]
      match i, hx with
      | 0, hx => cases hx; exact hc
      | 1, hx => cases hx; exact hc2
      | i + 2, hx => simp at hx
    · match i, hx, hm with
      | 0, hx, hm => cases hx; cases hm; exact hv.holds
      | 1, hx, hm => cases hx; cases hm; exact hu.holds
      | i + 2, hx, hm => simp at hx
  refine (Any.bytes_Join_many Tryz.joinA g o 2 c [v, u] [l.map UInt8.ofNat, k.map UInt8.ofNat] (.slice none 0 0) [] w rfl (Nat.le_refl _) hP hcp ⟨none, 0, rfl, fun _ => rfl, fun a ha => by cases ha⟩ (by omega) (by simp [Lib.lens]; omega)).mono ?_
  rintro e w' ⟨r, rfl, hf, hb⟩
  refine ⟨r, rfl, Src.fresh (B := w.heap.size) (fun x hx => (List.mem_append.1 hx).elim (hv.small x) (hu.small x)) ?_, hb⟩
  have e1 : Lib.join [l.map UInt8.ofNat, k.map UInt8.ofNat] [] = (l ++ k).map UInt8.ofNat := by
    rw [List.map_append]
    simp [Lib.join, List.intercalate]
  rw [← e1]
  exact hf
set_option maxHeartbeats 400000 in
theorem joined_two {l k : List Nat} (g o c : Nat) (v u : Value) (w : World) (hc : w.cell? ⟨g, o, none⟩ = some v) (hc2 : w.cell? ⟨g, o + 1, none⟩ = some u) (hv : Src w v l) (hu : Src w u k) (hcp : 2 ≤ c) (hl : l.length ≤ 50000) (hk : k.length ≤ 50000) :
    Calls Tryz.prog 128 #[.slice (some ⟨g, o, none⟩) 2 c] w fun e w' => e = .returned (.string (strB (l ++ k))) ∧ Below w.heap.size w w' := by
  have HJ : Hid (Calls Tryz.prog 142 #[.slice (some ⟨g, o, none⟩) 2 c, .slice none 0 0] w fun e w' => ∃ r, e = .returned r ∧ Src w' r (l ++ k) ∧ Below w.heap.size w w') := join_two g o c v u w hc hc2 hv hu hcp hl hk
  clear hc hc2 hv hu hl hk
  go_enter Tryz.func128, Tryz.ntmps128
  go_wp2_with fail
  refine HJ.out.mono ?_
  rintro e w1 ⟨u, rfl, ho, hb⟩
  have h1 := conv_src ho
  have HB : Hid (Below w.heap.size w w1) := hb
  obtain ⟨q, c', rfl, -⟩ := ho.slice
  clear ho hb HJ
  generalize (l ++ k).length = n at *
  go_wp2_with fail
  go_ret
  exact ⟨rfl, HB.out⟩
end Go.Proofs.YtfjdaafckiefdaaGreatDoor.S7
