/- Keys of ring, whatever the suite: keyOf, personKey, Member, Writer, lock, Wrap, Unwrap. -/
import Derived.Test.YtfjdaafckiefdaaGreatDoorR14Leaf
namespace Go.Proofs.YtfjdaafckiefdaaGreatDoor.S7
open Go.RowKit
def memB : List Nat := [109, 101, 109, 98, 101, 114]
def wriB : List Nat := [119, 114, 105, 116, 101, 114]
def epoB : List Nat := [101, 112, 111, 99, 104]
def wraB : List Nat := [119, 114, 97, 112]
theorem memS : (⟨#[109, 101, 109, 98, 101, 114]⟩ : ByteArray) = strB memB := by rfl
theorem wriS : (⟨#[119, 114, 105, 116, 101, 114]⟩ : ByteArray) = strB wriB := by rfl
theorem epoS : (⟨#[101, 112, 111, 99, 104]⟩ : ByteArray) = strB epoB := by rfl
/-- What is turned: these blocks alone, nothing below a bound, and of what was there blocks of these types alone. -/
structure Fr (bs : List Nat) (ts : List (Option TypeId)) (B : Nat) (w w' : World) : Prop where
  only : Only bs w w'
  kx : Kx ts B w w'
section
variable {bs : List Nat} {ts : List (Option TypeId)} {B : Nat} {w w' w'' : World}
theorem Fr.trans (h : Fr bs ts B w w') (k : Fr bs ts B w' w'') : Fr bs ts B w w'' := ⟨h.only.trans k.only, h.kx.trans k.kx⟩
theorem Fr.of_below (h : Below w.heap.size w w') (hB : B ≤ w.heap.size) : Fr bs ts B w w' := ⟨Only.of_below h _, Kx.of_below h hB⟩
theorem Fr.size (h : Fr bs ts B w w') : w.heap.size ≤ w'.heap.size := h.only.size
end
section
variable {bs : List Nat} {ts : List (Option TypeId)} {B : Nat} {w : World} {I : World → Prop} {r : List Nat} {p : Nat} {kv : Value}
set_option maxHeartbeats 1000000 in
theorem keyOf_any (sl : List Nat) (n : Nat) (hB : B ≤ w.heap.size) (hn : n ≤ 1099511627776) (hs : ∀ x ∈ sl, x < 256)
    (hcode : ∀ w1 g a1 a2, Src w1 a1 sl → Src w1 a2 (six n) → w1.cell? ⟨g, 0, none⟩ = some a1 → w1.cell? ⟨g, 1, none⟩ = some a2 → Below w.heap.size w w1 → Calls Tryz.prog 106 #[.pointer (some ⟨p, 0, none⟩), kv, .slice (some ⟨g, 0, none⟩) 2 2] w1 fun e w' => ∃ u, e = .returned u ∧ w'.ownsRow w1.heap.size 5 1 u 32 (ints .u8 r) ∧ I w' ∧ Fr bs ts B w1 w') :
    Calls Tryz.prog 141 #[.pointer (some ⟨p, 0, none⟩), kv, .string (strB sl), .int .i64 (n : Int)] w fun e w' => ∃ u, e = .returned u ∧ w'.ownsRow w.heap.size 5 1 u 32 (ints .u8 r) ∧ I w' ∧ Fr bs ts B w w' := by
  have HN : Hid (n ≤ 1099511627776) := hn
  have HB : Hid (B ≤ w.heap.size) := hB
  have HS : Hid (∀ x ∈ sl, x < 256) := hs
  have HC : Hid (∀ w1 g a1 a2, Src w1 a1 sl → Src w1 a2 (six n) → w1.cell? ⟨g, 0, none⟩ = some a1 → w1.cell? ⟨g, 1, none⟩ = some a2 → Below w.heap.size w w1 → Calls Tryz.prog 106 #[.pointer (some ⟨p, 0, none⟩), kv, .slice (some ⟨g, 0, none⟩) 2 2] w1 fun e w' => ∃ u, e = .returned u ∧ w'.ownsRow w1.heap.size 5 1 u 32 (ints .u8 r) ∧ I w' ∧ Fr bs ts B w1 w') := hcode
  clear hcode hn hB hs
  go_enter Tryz.func141, Tryz.ntmps141
  go_wp2_with fail
  refine (put1 w n HN.out).mono ?_
  rintro e w1 ⟨v, rfl, ho, hb⟩
  obtain ⟨vq, vc, rfl⟩ := own_slice ho
  obtain ⟨sv, w2, hcv, hs2, hb2, -⟩ := bytes_src w1 sl HS.out
  obtain ⟨sq, sc, rfl, -⟩ := hs2.slice
  have hba := below_alloc' w2 (.cells #[.slice sq sl.length sc, .slice vq 6 vc] 22)
  have hh := heap_alloc_new w2 (.cells #[.slice sq sl.length sc, .slice vq 6 vc] 22)
  have hW : Below w.heap.size w (w2.alloc (.cells #[.slice sq sl.length sc, .slice vq 6 vc] 22)) := (hb.trans (hb2.mono hb.size)).trans (hba.mono (Nat.le_trans hb.size hb2.size))
  have HCC : Hid (Calls Tryz.prog 106 #[.pointer (some ⟨p, 0, none⟩), kv, .slice (some ⟨w2.heap.size, 0, none⟩) 2 2] (w2.alloc (.cells #[.slice sq sl.length sc, .slice vq 6 vc] 22)) fun e w' => ∃ u, e = .returned u ∧ w'.ownsRow w.heap.size 5 1 u 32 (ints .u8 r) ∧ I w' ∧ Fr bs ts B w w') := by
    refine (HC.out _ w2.heap.size _ _ (hs2.below hba) (((Src.own (six_small n) ho).below hb2).below hba) (by rw [cell_of_row _ _ _ _ _ _ hh]; rfl) (by rw [cell_of_row _ _ _ _ _ _ hh]; rfl) hW).mono ?_
    rintro e w' ⟨u, rfl, h1, h2, h3⟩
    exact ⟨u, rfl, own_older h1 hW.size, h2, (Fr.of_below hW HB.out).trans h3⟩
  clear hs2 hb2 ho hb hba hh hW HC HN HB HS
  generalize sl.length = ln at *
  go_wp2_with fail
  refine HCC.out.mono ?_
  rintro e w3 ⟨u, rfl, h1, h2, h3⟩
  have HZ : Hid (w3.ownsRow w.heap.size 5 1 u 32 (ints .u8 r) ∧ I w3 ∧ Fr bs ts B w w3) := ⟨h1, h2, h3⟩
  clear h1 h2 h3 HCC hcv
  go_wp2_with fail
  go_ret
  exact ⟨_, rfl, HZ.out⟩
end
theorem personKey_no (w : World) (sp kv sv : Value) (n : Int) (h : ¬ (1 ≤ n ∧ n ≤ 16)) : Calls Tryz.prog 126 #[sp, kv, sv, .int .i64 n] w fun e w' => e = .returned (.tuple #[.slice none 0 0, .int .i64 12]) ∧ w' = w := by
  have HP : Hid (Calls Tryz.prog 140 #[.int .i64 n] w fun e w' => e = .returned (.bool false) ∧ w' = w) := isPerson_no w n h
  clear h
  go_enter Tryz.func126, Tryz.ntmps126
  go_wp2_with fail
  refine HP.out.mono ?_
  rintro e w1 ⟨rfl, hw⟩
  obtain rfl : w = w1 := hw.symm
  clear hw HP
  go_wp2_with fail
  go_ret2
  exact ⟨rfl, rfl⟩
theorem personKey_yes (w : World) (sp kv sv : Value) (n : Int) (h : 1 ≤ n ∧ n ≤ 16) (R : Value → World → Prop) (hk : Calls Tryz.prog 141 #[sp, kv, sv, .int .i64 n] w fun e w' => ∃ u, e = .returned u ∧ R u w') : Calls Tryz.prog 126 #[sp, kv, sv, .int .i64 n] w fun e w' => ∃ u, e = .returned (.tuple #[u, .int .i64 0]) ∧ R u w' := by
  have HP : Hid (Calls Tryz.prog 140 #[.int .i64 n] w fun e w' => e = .returned (.bool true) ∧ w' = w) := isPerson_yes w n h
  have HK : Hid (Calls Tryz.prog 141 #[sp, kv, sv, .int .i64 n] w fun e w' => ∃ u, e = .returned u ∧ R u w') := hk
  clear h hk
  go_enter Tryz.func126, Tryz.ntmps126
  go_wp2_with fail
  refine HP.out.mono ?_
  rintro e w1 ⟨rfl, hw⟩
  obtain rfl : w = w1 := hw.symm
  clear hw HP
  go_wp2_with fail
  refine HK.out.mono ?_
  rintro e w1 ⟨u, rfl, hr⟩
  have HR : Hid (R u w1) := hr
  clear hr HK
  go_wp2_with fail
  go_ret2
  exact ⟨_, rfl, HR.out⟩
theorem Writer_no (w : World) (sp kv : Value) (n : Int) (h : ¬ (1 ≤ n ∧ n ≤ 16)) : Calls Tryz.prog 105 #[sp, kv, .int .i64 n] w fun e w' => e = .returned (.tuple #[.slice none 0 0, .int .i64 12]) ∧ w' = w := by
  have HP : Hid (∀ sv, Calls Tryz.prog 126 #[sp, kv, sv, .int .i64 n] w fun e w' => e = .returned (.tuple #[.slice none 0 0, .int .i64 12]) ∧ w' = w) := fun sv => personKey_no w sp kv sv n h
  clear h
  go_enter Tryz.func105, Tryz.ntmps105
  go_wp2_with fail
  refine (HP.out _).mono ?_
  rintro e w1 ⟨rfl, hw⟩
  obtain rfl : w = w1 := hw.symm
  clear hw HP
  go_wp2_with fail
  go_ret2
  exact ⟨rfl, rfl⟩
theorem Writer_yes (w : World) (sp kv : Value) (n : Int) (h : 1 ≤ n ∧ n ≤ 16) (R : Value → World → Prop) (hk : Calls Tryz.prog 141 #[sp, kv, .string (strB wriB), .int .i64 n] w fun e w' => ∃ u, e = .returned u ∧ R u w') : Calls Tryz.prog 105 #[sp, kv, .int .i64 n] w fun e w' => ∃ u, e = .returned (.tuple #[u, .int .i64 0]) ∧ R u w' := by
  have HP : Hid (Calls Tryz.prog 126 #[sp, kv, .string ⟨#[119, 114, 105, 116, 101, 114]⟩, .int .i64 n] w fun e w' => ∃ u, e = .returned (.tuple #[u, .int .i64 0]) ∧ R u w') := by rw [wriS]; exact personKey_yes w sp kv _ n h R hk
  clear h hk
  go_enter Tryz.func105, Tryz.ntmps105
  go_wp2_with fail
  refine HP.out.mono ?_
  rintro e w1 ⟨u, rfl, hr⟩
  have HR : Hid (R u w1) := hr
  clear hr HP
  go_wp2_with fail
  go_ret2
  exact ⟨_, rfl, HR.out⟩
section
variable {bs : List Nat} {ts : List (Option TypeId)} {B : Nat} {w : World} {I : World → Prop} {r : List Nat} {sp kv : Value}
end
section
variable {bs : List Nat} {ts : List (Option TypeId)} {B : Nat} {w : World} {I : World → Prop} {r : List Nat} {sp kv : Value}
theorem wrap_lit (w : World) : Src (w.alloc (.cells #[.int .u8 119, .int .u8 114, .int .u8 97, .int .u8 112] 5 (4, 5))) (.slice (some ⟨w.heap.size, 0, none⟩) 4 4) wraB ∧ By w.heap.size (w.alloc (.cells #[.int .u8 119, .int .u8 114, .int .u8 97, .int .u8 112] 5 (4, 5))) (.slice (some ⟨w.heap.size, 0, none⟩) 4 4) wraB := by
  have h0 : (w.alloc (.cells #[.int .u8 119, .int .u8 114, .int .u8 97, .int .u8 112] 5 (4, 5))).heap[w.heap.size]? = some (.cells #[.int .u8 119, .int .u8 114, .int .u8 97, .int .u8 112] 5 (4, 5)) := heap_alloc_new w _
  have hr := rangeAt_of_row (t := 5) (fr := (4, 5)) h0
  exact ⟨Src.row (by decide) (by decide) hr rfl, by decide, .inr (.inr ⟨w.heap.size, 0, 4, rfl, by decide, hr, .inr ⟨_, _, h0⟩⟩)⟩
end
end Go.Proofs.YtfjdaafckiefdaaGreatDoor.S7
