/- Keys of ring, whatever the suite: keyOf, personKey, Member, Writer, lock, Wrap, Unwrap. -/
import Derived.Test.YtagdlpodpokmmaaDoorR14Leaf
namespace Go.Proofs.YtagdlpodpokmmaaDoor.S7
open Go.RowKit
def memB : List Nat := [109, 101, 109, 98, 101, 114]
def wriB : List Nat := [119, 114, 105, 116, 101, 114]
def epoB : List Nat := [101, 112, 111, 99, 104]
def wraB : List Nat := [119, 114, 97, 112]
theorem memS : (⟨#[109, 101, 109, 98, 101, 114]⟩ : ByteArray) = strB memB := by rfl
theorem wriS : (⟨#[119, 114, 105, 116, 101, 114]⟩ : ByteArray) = strB wriB := by rfl
theorem epoS : (⟨#[101, 112, 111, 99, 104]⟩ : ByteArray) = strB epoB := by rfl
/-- What is turned: these blocks alone, nothing below a bound, and of what was there blocks of these types alone. -/
structure Fr (bs : List Nat) (ts : List (Option TypeId)) (B : Nat) (w w' : World) : Prop where
  only : Only bs w w'
  kx : Kx ts B w w'
section
variable {bs : List Nat} {ts : List (Option TypeId)} {B : Nat} {w w' w'' : World}
theorem Fr.trans (h : Fr bs ts B w w') (k : Fr bs ts B w' w'') : Fr bs ts B w w'' := ⟨h.only.trans k.only, h.kx.trans k.kx⟩
theorem Fr.of_below (h : Below w.heap.size w w') (hB : B ≤ w.heap.size) : Fr bs ts B w w' := ⟨Only.of_below h _, Kx.of_below h hB⟩
theorem Fr.size (h : Fr bs ts B w w') : w.heap.size ≤ w'.heap.size := h.only.size
end
section
variable {bs : List Nat} {ts : List (Option TypeId)} {B : Nat} {w : World} {I : World → Prop} {r : List Nat} {p : Nat} {kv : Value}
set_option maxHeartbeats 1000000 in
theorem keyOf_any (sl : List Nat) (n : Nat) (hB : B ≤ w.heap.size) (hn : n ≤ 1099511627776) (hs : ∀ x ∈ sl, x < 256)
    (hcode : ∀ w1 g a1 a2, Src w1 a1 sl → Src w1 a2 (six n) → w1.cell? ⟨g, 0, none⟩ = some a1 → w1.cell? ⟨g, 1, none⟩ = some a2 → Below w.heap.size w w1 → Calls Tryd.prog 56 #[.pointer (some ⟨p, 0, none⟩), kv, .slice (some ⟨g, 0, none⟩) 2 2] w1 fun e w' => ∃ u, e = .returned u ∧ w'.ownsRow w1.heap.size 5 1 u 32 (ints .u8 r) ∧ I w' ∧ Fr bs ts B w1 w') :
    Calls Tryd.prog 37 #[.pointer (some ⟨p, 0, none⟩), kv, .string (strB sl), .int .i64 (n : Int)] w fun e w' => ∃ u, e = .returned u ∧ w'.ownsRow w.heap.size 5 1 u 32 (ints .u8 r) ∧ I w' ∧ Fr bs ts B w w' := by
  have HN : Hid (n ≤ 1099511627776) := hn
  have HB : Hid (B ≤ w.heap.size) := hB
  have HS : Hid (∀ x ∈ sl, x < 256) := hs
  have HC : Hid (∀ w1 g a1 a2, Src w1 a1 sl → Src w1 a2 (six n) → w1.cell? ⟨g, 0, none⟩ = some a1 → w1.cell? ⟨g, 1, none⟩ = some a2 → Below w.heap.size w w1 → Calls Tryd.prog 56 #[.pointer (some ⟨p, 0, none⟩), kv, .slice (some ⟨g, 0, none⟩) 2 2] w1 fun e w' => ∃ u, e = .returned u ∧ w'.ownsRow w1.heap.size 5 1 u 32 (ints .u8 r) ∧ I w' ∧ Fr bs ts B w1 w') := hcode
  clear hcode hn hB hs
  go_enter Tryd.func37, Tryd.ntmps37
  go_wp2_with fail
  refine (put1 w n HN.out).mono ?_
  rintro e w1 ⟨v, rfl, ho, hb⟩
  obtain ⟨vq, vc, rfl⟩ := own_slice ho
  obtain ⟨sv, w2, hcv, hs2, hb2, -⟩ := bytes_src w1 sl HS.out
  obtain ⟨sq, sc, rfl, -⟩ := hs2.slice
  have hba := below_alloc' w2 (.cells #[.slice sq sl.length sc, .slice vq 6 vc] 22)
  have hh := heap_alloc_new w2 (.cells #[.slice sq sl.length sc, .slice vq 6 vc] 22)
  have hW : Below w.heap.size w (w2.alloc (.cells #[.slice sq sl.length sc, .slice vq 6 vc] 22)) := (hb.trans (hb2.mono hb.size)).trans (hba.mono (Nat.le_trans hb.size hb2.size))
  have HCC : Hid (Calls Tryd.prog 56 #[.pointer (some ⟨p, 0, none⟩), kv, .slice (some ⟨w2.heap.size, 0, none⟩) 2 2] (w2.alloc (.cells #[.slice sq sl.length sc, .slice vq 6 vc] 22)) fun e w' => ∃ u, e = .returned u ∧ w'.ownsRow w.heap.size 5 1 u 32 (ints .u8 r) ∧ I w' ∧ Fr bs ts B w w') := by
    refine (HC.out _ w2.heap.size _ _ (hs2.below hba) (((Src.own (six_small n) ho).below hb2).below hba) (by rw [cell_of_row _ _ _ _ _ _ hh]; rfl) (by rw [cell_of_row _ _ _ _ _ _ hh]; rfl) hW).mono ?_
    rintro e w' ⟨u, rfl, h1, h2, h3⟩
    exact ⟨u, rfl, own_older h1 hW.size, h2, (Fr.of_below hW HB.out).trans h3⟩
  clear hs2 hb2 ho hb hba hh hW HC HN HB HS
  generalize sl.length = ln at *
  go_wp2_with fail
  refine HCC.out.mono ?_
  rintro e w3 ⟨u, rfl, h1, h2, h3⟩
  have HZ : Hid (w3.ownsRow w.heap.size 5 1 u 32 (ints .u8 r) ∧ I w3 ∧ Fr bs ts B w w3) := ⟨h1, h2, h3⟩
  clear h1 h2 h3 HCC hcv
  go_wp2_with fail
  go_ret
  exact ⟨_, rfl, HZ.out⟩
end
theorem personKey_no (w : World) (sp kv sv : Value) (n : Int) (h : ¬ (1 ≤ n ∧ n ≤ 16)) : Calls Tryd.prog 24 #[sp, kv, sv, .int .i64 n] w fun e w' => e = .returned (.tuple #[.slice none 0 0, .int .i64 12]) ∧ w' = w := by
  have HP : Hid (Calls Tryd.prog 25 #[.int .i64 n] w fun e w' => e = .returned (.bool false) ∧ w' = w) := isPerson_no w n h
  clear h
  go_enter Tryd.func24, Tryd.ntmps24
  go_wp2_with fail
  refine HP.out.mono ?_
  rintro e w1 ⟨rfl, hw⟩
  obtain rfl : w = w1 := hw.symm
  clear hw HP
  go_wp2_with fail
  go_ret2
  exact ⟨rfl, rfl⟩
theorem personKey_yes (w : World) (sp kv sv : Value) (n : Int) (h : 1 ≤ n ∧ n ≤ 16) (R : Value → World → Prop) (hk : Calls Tryd.prog 37 #[sp, kv, sv, .int .i64 n] w fun e w' => ∃ u, e = .returned u ∧ R u w') : Calls Tryd.prog 24 #[sp, kv, sv, .int .i64 n] w fun e w' => ∃ u, e = .returned (.tuple #[u, .int .i64 0]) ∧ R u w' := by
  have HP : Hid (Calls Tryd.prog 25 #[.int .i64 n] w fun e w' => e = .returned (.bool true) ∧ w' = w) := isPerson_yes w n h
  have HK : Hid (Calls Tryd.prog 37 #[sp, kv, sv, .int .i64 n] w fun e w' => ∃ u, e = .returned u ∧ R u w') := hk
  clear h hk
  go_enter Tryd.func24, Tryd.ntmps24
  go_wp2_with fail
  refine HP.out.mono ?_
  rintro e w1 ⟨rfl, hw⟩
  obtain rfl : w = w1 := hw.symm
  clear hw HP
  go_wp2_with fail
  refine HK.out.mono ?_
  rintro e w1 ⟨u, rfl, hr⟩
  have HR : Hid (R u w1) := hr
  clear hr HK
  go_wp2_with fail
  go_ret2
  exact ⟨_, rfl, HR.out⟩
theorem Member_no (w : World) (sp kv : Value) (n : Int) (h : ¬ (1 ≤ n ∧ n ≤ 16)) : Calls Tryd.prog 10 #[sp, kv, .int .i64 n] w fun e w' => e = .returned (.tuple #[.slice none 0 0, .int .i64 12]) ∧ w' = w := by
  have HP : Hid (∀ sv, Calls Tryd.prog 24 #[sp, kv, sv, .int .i64 n] w fun e w' => e = .returned (.tuple #[.slice none 0 0, .int .i64 12]) ∧ w' = w) := fun sv => personKey_no w sp kv sv n h
  clear h
  go_enter Tryd.func10, Tryd.ntmps10
  go_wp2_with fail
  refine (HP.out _).mono ?_
  rintro e w1 ⟨rfl, hw⟩
  obtain rfl : w = w1 := hw.symm
  clear hw HP
  go_wp2_with fail
  go_ret2
  exact ⟨rfl, rfl⟩
theorem Writer_no (w : World) (sp kv : Value) (n : Int) (h : ¬ (1 ≤ n ∧ n ≤ 16)) : Calls Tryd.prog 11 #[sp, kv, .int .i64 n] w fun e w' => e = .returned (.tuple #[.slice none 0 0, .int .i64 12]) ∧ w' = w := by
  have HP : Hid (∀ sv, Calls Tryd.prog 24 #[sp, kv, sv, .int .i64 n] w fun e w' => e = .returned (.tuple #[.slice none 0 0, .int .i64 12]) ∧ w' = w) := fun sv => personKey_no w sp kv sv n h
  clear h
  go_enter Tryd.func11, Tryd.ntmps11
  go_wp2_with fail
  refine (HP.out _).mono ?_
  rintro e w1 ⟨rfl, hw⟩
  obtain rfl : w = w1 := hw.symm
  clear hw HP
  go_wp2_with fail
  go_ret2
  exact ⟨rfl, rfl⟩
theorem Member_yes (w : World) (sp kv : Value) (n : Int) (h : 1 ≤ n ∧ n ≤ 16) (R : Value → World → Prop) (hk : Calls Tryd.prog 37 #[sp, kv, .string (strB memB), .int .i64 n] w fun e w' => ∃ u, e = .returned u ∧ R u w') : Calls Tryd.prog 10 #[sp, kv, .int .i64 n] w fun e w' => ∃ u, e = .returned (.tuple #[u, .int .i64 0]) ∧ R u w' := by
  have HP : Hid (Calls Tryd.prog 24 #[sp, kv, .string ⟨#[109, 101, 109, 98, 101, 114]⟩, .int .i64 n] w fun e w' => ∃ u, e = .returned (.tuple #[u, .int .i64 0]) ∧ R u w') := by rw [memS]; exact personKey_yes w sp kv _ n h R hk
  clear h hk
  go_enter Tryd.func10, Tryd.ntmps10
  go_wp2_with fail
  refine HP.out.mono ?_
  rintro e w1 ⟨u, rfl, hr⟩
  have HR : Hid (R u w1) := hr
  clear hr HP
  go_wp2_with fail
  go_ret2
  exact ⟨_, rfl, HR.out⟩
theorem Writer_yes (w : World) (sp kv : Value) (n : Int) (h : 1 ≤ n ∧ n ≤ 16) (R : Value → World → Prop) (hk : Calls Tryd.prog 37 #[sp, kv, .string (strB wriB), .int .i64 n] w fun e w' => ∃ u, e = .returned u ∧ R u w') : Calls Tryd.prog 11 #[sp, kv, .int .i64 n] w fun e w' => ∃ u, e = .returned (.tuple #[u, .int .i64 0]) ∧ R u w' := by
  have HP : Hid (Calls Tryd.prog 24 #[sp, kv, .string ⟨#[119, 114, 105, 116, 101, 114]⟩, .int .i64 n] w fun e w' => ∃ u, e = .returned (.tuple #[u, .int .i64 0]) ∧ R u w') := by rw [wriS]; exact personKey_yes w sp kv _ n h R hk
  clear h hk
  go_enter Tryd.func11, Tryd.ntmps11
  go_wp2_with fail
  refine HP.out.mono ?_
  rintro e w1 ⟨u, rfl, hr⟩
  have HR : Hid (R u w1) := hr
  clear hr HP
  go_wp2_with fail
  go_ret2
  exact ⟨_, rfl, HR.out⟩
section
variable {bs : List Nat} {ts : List (Option TypeId)} {B : Nat} {w : World} {I : World → Prop} {r : List Nat} {sp kv : Value}
set_option maxHeartbeats 1000000 in
theorem lock_any (who : Int) (ep : Nat) (hB : B ≤ w.heap.size) (h5 : some 5 ∉ ts) (hep : ep ≤ 1099511627776)
    (hk : ∀ w1, Below w.heap.size w w1 → Calls Tryd.prog 37 #[sp, kv, .string (strB memB), .int .i64 who] w1 fun e w' => ∃ u, e = .returned u ∧ w'.ownsRow w1.heap.size 5 1 u 32 (ints .u8 r) ∧ I w' ∧ Fr bs ts B w1 w') :
    Calls Tryd.prog 27 #[sp, kv, .int .i64 who, .int .i64 (ep : Int)] w fun e w' => ∃ u nv, e = .returned (.tuple #[u, nv]) ∧ w'.ownsRow w.heap.size 5 1 u 32 (ints .u8 r) ∧ By B w' nv (non 0 ep) ∧ I w' ∧ Fr bs ts B w w' := by
  have HN : Hid (Calls Tryd.prog 16 #[.int .i64 0, .int .i64 (ep : Int)] w fun e w' => ∃ v, e = .returned (.tuple #[v, .int .i64 0]) ∧ w'.ownsRow w.heap.size 5 1 v 12 (ints .u8 (non 0 ep)) ∧ Below w.heap.size w w') := Nonce_ok w 0 ep (by omega) hep
  have HB : Hid (B ≤ w.heap.size ∧ some 5 ∉ ts) := ⟨hB, h5⟩
  have HK : Hid (∀ w1, Below w.heap.size w w1 → Calls Tryd.prog 37 #[sp, kv, .string ⟨#[109, 101, 109, 98, 101, 114]⟩, .int .i64 who] w1 fun e w' => ∃ u, e = .returned u ∧ w'.ownsRow w1.heap.size 5 1 u 32 (ints .u8 r) ∧ I w' ∧ Fr bs ts B w1 w') := by rw [memS]; exact hk
  clear hB h5 hep hk
  go_enter Tryd.func27, Tryd.ntmps27
  go_wp2_with fail
  refine HN.out.mono ?_
  rintro e w1 ⟨v, rfl, ho, hb⟩
  have HO : Hid (By B w1 v (non 0 ep) ∧ Below w.heap.size w w1) := ⟨By.own (non_small 0 ep) ho, hb⟩
  clear ho hb HN
  go_wp2_with fail
  refine (HK.out w1 HO.out.2).mono ?_
  rintro e w2 ⟨u, rfl, h1, h2, h3⟩
  have HZ : Hid (w2.ownsRow w.heap.size 5 1 u 32 (ints .u8 r) ∧ By B w2 v (non 0 ep) ∧ I w2 ∧ Fr bs ts B w w2) := ⟨own_older h1 HO.out.2.size, HO.out.1.kx h3.kx HB.out.2, h2, (Fr.of_below HO.out.2 HB.out.1).trans h3⟩
  clear h1 h2 h3 HO HK HB
  go_wp2_with fail
  go_ret2
  exact ⟨_, _, rfl, HZ.out⟩
end
section
variable {bs : List Nat} {ts : List (Option TypeId)} {B : Nat} {w : World} {I : World → Prop} {r : List Nat} {sp kv : Value}
theorem Wrap_range (w : World) (sp kv tv : Value) (who ep : Int) (h : ¬ ((1 ≤ who ∧ who ≤ 16) ∧ 1 ≤ ep ∧ ep ≤ 16)) : Calls Tryd.prog 12 #[sp, kv, .int .i64 who, .int .i64 ep, tv] w fun e w' => e = .returned (.tuple #[.slice none 0 0, .int .i64 12]) ∧ w' = w := by
  by_cases h1 : 1 ≤ who ∧ who ≤ 16
  · have HP : Hid (Calls Tryd.prog 25 #[.int .i64 who] w fun e w' => e = .returned (.bool true) ∧ w' = w) := isPerson_yes w who h1
    have HL : Hid (Calls Tryd.prog 26 #[.int .i64 ep] w fun e w' => e = .returned (.bool false) ∧ w' = w) := isLater_no w ep (fun e => h ⟨h1, e⟩)
    clear h h1
    go_enter Tryd.func12, Tryd.ntmps12
    go_wp2_with fail
    refine HP.out.mono ?_
    rintro e w1 ⟨rfl, hw⟩
    obtain rfl : w = w1 := hw.symm
    clear hw
    go_wp2_with fail
    refine HL.out.mono ?_
    rintro e w1 ⟨rfl, hw⟩
    obtain rfl : w = w1 := hw.symm
    clear hw
    go_wp2_with fail
    go_ret2
    exact ⟨rfl, rfl⟩
  · have HP : Hid (Calls Tryd.prog 25 #[.int .i64 who] w fun e w' => e = .returned (.bool false) ∧ w' = w) := isPerson_no w who h1
    clear h h1
    go_enter Tryd.func12, Tryd.ntmps12
    go_wp2_with fail
    refine HP.out.mono ?_
    rintro e w1 ⟨rfl, hw⟩
    obtain rfl : w = w1 := hw.symm
    clear hw
    go_wp2_with fail
    go_ret2
    exact ⟨rfl, rfl⟩
theorem Wrap_size (w : World) (sp kv : Value) (q : Option Addr) (n c : Nat) (who ep : Int) (h : (1 ≤ who ∧ who ≤ 16) ∧ 1 ≤ ep ∧ ep ≤ 16) (hn : n ≠ 32) : Calls Tryd.prog 12 #[sp, kv, .int .i64 who, .int .i64 ep, .slice q n c] w fun e w' => e = .returned (.tuple #[.slice none 0 0, .int .i64 11]) ∧ w' = w := by
  have HP : Hid (Calls Tryd.prog 25 #[.int .i64 who] w fun e w' => e = .returned (.bool true) ∧ w' = w) := isPerson_yes w who h.1
  have HL : Hid (Calls Tryd.prog 26 #[.int .i64 ep] w fun e w' => e = .returned (.bool true) ∧ w' = w) := isLater_yes w ep h.2
  have h1 : ((n : Int) == 32) = false := by rw [beq_eq_false_iff_ne]; omega
  clear h hn
  go_enter Tryd.func12, Tryd.ntmps12
  go_wp2_with fail
  refine HP.out.mono ?_
  rintro e w1 ⟨rfl, hw⟩
  obtain rfl : w = w1 := hw.symm
  clear hw
  go_wp2_with fail
  refine HL.out.mono ?_
  rintro e w1 ⟨rfl, hw⟩
  obtain rfl : w = w1 := hw.symm
  clear hw
  go_wp2_with fail
  go_ret2
  exact ⟨rfl, rfl⟩
theorem wrap_lit (w : World) : Src (w.alloc (.cells #[.int .u8 119, .int .u8 114, .int .u8 97, .int .u8 112] 5 (4, 5))) (.slice (some ⟨w.heap.size, 0, none⟩) 4 4) wraB ∧ By w.heap.size (w.alloc (.cells #[.int .u8 119, .int .u8 114, .int .u8 97, .int .u8 112] 5 (4, 5))) (.slice (some ⟨w.heap.size, 0, none⟩) 4 4) wraB := by
  have h0 : (w.alloc (.cells #[.int .u8 119, .int .u8 114, .int .u8 97, .int .u8 112] 5 (4, 5))).heap[w.heap.size]? = some (.cells #[.int .u8 119, .int .u8 114, .int .u8 97, .int .u8 112] 5 (4, 5)) := heap_alloc_new w _
  have hr := rangeAt_of_row (t := 5) (fr := (4, 5)) h0
  exact ⟨Src.row (by decide) (by decide) hr rfl, by decide, .inr (.inr ⟨w.heap.size, 0, 4, rfl, by decide, hr, .inr ⟨_, _, h0⟩⟩)⟩
set_option maxHeartbeats 2000000 in
theorem Wrap_ok (who : Int) (ep : Nat) (q : Option Addr) (c : Nat) (t : List Nat) (hB : B ≤ w.heap.size) (h5 : some 5 ∉ ts) (hw : 1 ≤ who ∧ who ≤ 16) (hep : 1 ≤ ep ∧ ep ≤ 16) (ht : By B w (.slice q 32 c) t) (R : Value → World → Prop)
    (hk : ∀ w1, Below w.heap.size w w1 → Calls Tryd.prog 37 #[sp, kv, .string (strB memB), .int .i64 who] w1 fun e w' => ∃ u, e = .returned u ∧ w'.ownsRow w1.heap.size 5 1 u 32 (ints .u8 r) ∧ I w' ∧ Fr bs ts B w1 w')
    (hr : ∀ x ∈ r, x < 256) (hI : ∀ w1 w2, I w1 → Below w1.heap.size w1 w2 → I w2)
    (hseal : ∀ w1 u nv ov, I w1 → By B w1 u r → By B w1 nv (non 0 ep) → By B w1 ov wraB → By B w1 (.slice q 32 c) t → B ≤ w1.heap.size → Calls Tryd.prog 28 #[sp, u, nv, ov, .slice q 32 c] w1 fun e w' => ∃ v, e = .returned (.tuple #[v, .int .i64 0]) ∧ R v w' ∧ Fr bs ts B w1 w') :
    Calls Tryd.prog 12 #[sp, kv, .int .i64 who, .int .i64 (ep : Int), .slice q 32 c] w fun e w' => ∃ v, e = .returned (.tuple #[v, .int .i64 0]) ∧ R v w' ∧ Fr bs ts B w w' := by
  have HP : Hid (Calls Tryd.prog 25 #[.int .i64 who] w fun e w' => e = .returned (.bool true) ∧ w' = w) := isPerson_yes w who hw
  have HL : Hid (Calls Tryd.prog 26 #[.int .i64 (ep : Int)] w fun e w' => e = .returned (.bool true) ∧ w' = w) := isLater_yes w ep (by omega)
  have HK : Hid (Calls Tryd.prog 27 #[sp, kv, .int .i64 who, .int .i64 (ep : Int)] w fun e w' => ∃ u nv, e = .returned (.tuple #[u, nv]) ∧ w'.ownsRow w.heap.size 5 1 u 32 (ints .u8 r) ∧ By B w' nv (non 0 ep) ∧ I w' ∧ Fr bs ts B w w') := lock_any who ep hB h5 (by omega) hk
  have HT : Hid (By B w (.slice q 32 c) t ∧ some 5 ∉ ts ∧ (∀ x ∈ r, x < 256) ∧ B ≤ w.heap.size ∧ ∀ w1 w2, I w1 → Below w1.heap.size w1 w2 → I w2) := ⟨ht, h5, hr, hB, hI⟩
  have HS : Hid (∀ w1 u nv ov, I w1 → By B w1 u r → By B w1 nv (non 0 ep) → By B w1 ov wraB → By B w1 (.slice q 32 c) t → B ≤ w1.heap.size → Calls Tryd.prog 28 #[sp, u, nv, ov, .slice q 32 c] w1 fun e w' => ∃ v, e = .returned (.tuple #[v, .int .i64 0]) ∧ R v w' ∧ Fr bs ts B w1 w') := hseal
  clear hB h5 hw hep ht hk hr hI hseal
  go_enter Tryd.func12, Tryd.ntmps12
  go_wp2_with fail
  refine HP.out.mono ?_
  rintro e w1 ⟨rfl, hw⟩
  obtain rfl : w = w1 := hw.symm
  clear hw
  go_wp2_with fail
  refine HL.out.mono ?_
  rintro e w1 ⟨rfl, hw⟩
  obtain rfl : w = w1 := hw.symm
  clear hw
  go_wp2_with fail
  refine HK.out.mono ?_
  rintro e w1 ⟨u, nv, rfl, h1, h2, h3, h4⟩
  have hcv := Lib.run_convert_bytes_const (P := Tryd.prog) w1 22 5 #[.int .u8 119, .int .u8 114, .int .u8 97, .int .u8 112] 4 4 Tryd.underlying22 Tryd.underlying5
  have hb2 : Below w1.heap.size w1 (w1.alloc (.cells #[.int .u8 119, .int .u8 114, .int .u8 97, .int .u8 112] 5 (4, 5))) := below_alloc' w1 _
  have hl := (wrap_lit w1).2
  generalize hW2 : w1.alloc (.cells #[.int .u8 119, .int .u8 114, .int .u8 97, .int .u8 112] 5 (4, 5)) = w2 at hcv hb2 hl
  have hB1 : B ≤ w1.heap.size := Nat.le_trans HT.out.2.2.2.1 h4.size
  have hlB : By B w2 (.slice (some ⟨w1.heap.size, 0, none⟩) 4 4) wraB := by
    obtain ⟨hs, h | h | ⟨b, o, c, e1, e2, e3, e4 | e4⟩⟩ := hl
    · exact ⟨hs, .inl h⟩
    · exact ⟨hs, .inr (.inl h)⟩
    · cases e1; omega
    · exact ⟨hs, .inr (.inr ⟨b, o, c, e1, e2, e3, .inr e4⟩)⟩
  have HC : Hid (Calls Tryd.prog 28 #[sp, u, nv, .slice (some ⟨w1.heap.size, 0, none⟩) 4 4, .slice q 32 c] w2 fun e w' => ∃ v, e = .returned (.tuple #[v, .int .i64 0]) ∧ R v w' ∧ Fr bs ts B w w') := by
    refine (HS.out w2 u nv _ (HT.out.2.2.2.2 _ _ h3 hb2) ((By.own (B := B) HT.out.2.2.1 h1).below hb2) (h2.below hb2) hlB ((HT.out.1.kx h4.kx HT.out.2.1).below hb2) (Nat.le_trans hB1 hb2.size)).mono ?_
    rintro e w' ⟨v, rfl, k1, k2⟩
    exact ⟨v, rfl, k1, (h4.trans (Fr.of_below hb2 hB1)).trans k2⟩
  clear h1 h2 h3 h4 hb2 hl hB1 hlB hW2 HS HT HK HP HL
  go_wp2_with fail
  refine HC.out.mono ?_
  rintro e w3 ⟨v, rfl, k1, k2⟩
  have HZ : Hid (R v w3 ∧ Fr bs ts B w w3) := ⟨k1, k2⟩
  clear k1 k2 HC hcv
  go_wp2_with fail
  go_ret2
  exact ⟨_, rfl, HZ.out⟩
end
end Go.Proofs.YtagdlpodpokmmaaDoor.S7
