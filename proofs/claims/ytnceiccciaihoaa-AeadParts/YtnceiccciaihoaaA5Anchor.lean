/- The example of the statements by the kernel's own reckoning; the contract of the statements' anchor. -/
import Derived.Test.YtnceiccciaihoaaA5Open
import Derived.Test.YtnceiccciaihoaaP4Steps
namespace Go.Proofs.Ytnceiccciaihoaa.A5
open Go.RowKit P4
def zk : List Nat := List.replicate 32 0
def zn : List Nat := List.replicate 12 0
def Z32 : Array Value := arr .u8 zk
def Z12 : Array Value := arr .u8 zn
theorem ex_none : Ae.opens zk zn [121] (Ae.box zk zn [120] [97, 98, 99]) = none := by decide +kernel
theorem ex_eq : ((strB [97, 98, 99]).toList == [97, 98, 99]) = true := by kernel_rfl
theorem heap_second (w : World) (o o' : Obj) : ((w.alloc o).alloc o').drew.heap[w.heap.size + 1]? = some o' := by
  have h := heap_alloc_new (w.alloc o) o'
  have e : (w.alloc o).heap.size = w.heap.size + 1 := by simp
  rw [e] at h
  exact h
theorem lit_src {w : World} {g : Nat} {l : List Nat} {n : Nat} {fr : Nat × Nat} (h : w.heap[g]? = some (.cells (arr .u8 l) 5 fr)) (hs : ∀ x ∈ l, x < 256) (hl : l.length = n) : Src w (.slice (some ⟨g, 0, none⟩) n n) l :=
  Src.row hs (Nat.le_of_eq hl) (rangeAt_of_row (t := 5) (fr := fr) h) hl
set_option maxHeartbeats 1000000 in
set_option maxRecDepth 100000 in
theorem anchor_any (w : World) : Calls Try.prog 9 #[] w fun e w' => e = .returned (.bool true) ∧ Below w.heap.size w w' := by
  have hm1 : ∀ w, (Instr.makeSlice 22 (.int .i64 32) (.int .i64 32)).run Try.prog w = .ok (.slice (some ⟨w.heap.size, 0, none⟩) 32 32) (w.alloc (.cells Z32 5)) := fun w => make_bytes 32 32 .i64 (by decide) (by decide) w
  have hm2 : ∀ w, (Instr.makeSlice 22 (.int .i64 12) (.int .i64 12)).run Try.prog w = .ok (.slice (some ⟨w.heap.size, 0, none⟩) 12 12) (w.alloc (.cells Z12 5)) := fun w => make_bytes 12 12 .i64 (by decide) (by decide) w
  go_enter Try.func9, Try.ntmps9
  go_wp2_with fail
  go_region
  all_goals clear hm1 hm2
  · have HK1 : Hid (C3.SliceIs ((w.alloc (Obj.cells Z32 5)).alloc (Obj.cells Z12 5)).drew (w.heap.size) 0 zk) := ⟨by decide, rangeAt_of_row (t := 5) (fr := (0, 0)) ((Below.heap_alloc _ _ _ (by simp)).trans (heap_alloc_new w _))⟩
    have HN1 : Hid (C3.SliceIs ((w.alloc (Obj.cells Z32 5)).alloc (Obj.cells Z12 5)).drew (w.heap.size + 1) 0 zn) := ⟨by decide, rangeAt_of_row (t := 5) (fr := (0, 0)) (heap_second w (Obj.cells Z32 5) (Obj.cells Z12 5))⟩
    have HB1 : Hid (Below w.heap.size w ((w.alloc (Obj.cells Z32 5)).alloc (Obj.cells Z12 5)).drew) := (((Below.refl _ _).alloc (Nat.le_refl _) _).alloc (by simp) _).drew
    generalize ((w.alloc (Obj.cells Z32 5)).alloc (Obj.cells Z12 5)).drew = w1 at *
    obtain ⟨w2, hcv2, ⟨fr2, h2⟩, hb2, hs2⟩ := conv_lit w1 #[.int .u8 120]
    obtain ⟨w3, hcv3, ⟨fr3, h3⟩, hb3, hs3⟩ := conv_lit w2 #[.int .u8 97, .int .u8 98, .int .u8 99]
    have hcv2' : (convert 22 22 (.slice (some ⟨w1.heap.size, 0, none⟩) 1 1)).run Try.prog (w1.alloc (.cells #[.int .u8 120] 5)) = .ok (.slice (some ⟨w1.heap.size, 0, none⟩) 1 1) w2 := hcv2
    have hcv3' : (convert 22 22 (.slice (some ⟨w2.heap.size, 0, none⟩) 3 3)).run Try.prog (w2.alloc (.cells #[.int .u8 97, .int .u8 98, .int .u8 99] 5)) = .ok (.slice (some ⟨w2.heap.size, 0, none⟩) 3 3) w3 := hcv3
    have hb13 : Below w1.heap.size w1 w3 := hb2.trans (hb3.mono hb2.size)
    have HX3 : Hid (Src w3 (.slice (some ⟨w1.heap.size, 0, none⟩) 1 1) [120]) := (lit_src (l := [120]) (n := 1) h2 (by decide) rfl).below hb3
    have HT3 : Hid (Src w3 (.slice (some ⟨w2.heap.size, 0, none⟩) 3 3) [97, 98, 99]) := lit_src (l := [97, 98, 99]) (n := 3) h3 (by decide) rfl
    have HK3 : Hid (C3.SliceIs w3 (w.heap.size) 0 zk) := HK1.out.below hb13
    have HN3 : Hid (C3.SliceIs w3 (w.heap.size + 1) 0 zn) := HN1.out.below hb13
    have HB3 : Hid (Below w.heap.size w w3) := HB1.out.trans (hb13.mono HB1.out.size)
    clear hcv2 hcv3 h2 h3 hb2 hb3 hs2 hs3 hb13 HK1 HN1 HB1
    go_wp2_with fail
    clear hcv2' hcv3'
    refine (Seal_ok zk zn [120] [97, 98, 99] _ _ _ _ _ _ _ _ w3 rfl rfl HK3.out HN3.out (by decide) (by decide) HX3.out HT3.out (by decide) (by decide)).mono ?_
    rintro e w4 ⟨v4, rfl, ho4, hb4⟩
    have HS4 : Hid (Src w4 v4 (Ae.box zk zn [120] [97, 98, 99])) := Src.own (Ae.box_lt (by decide)) ho4
    obtain ⟨g4, c4, rfl, _, _, _, _⟩ := own_cell ho4 (by decide)
    have HK4 : Hid (C3.SliceIs w4 (w.heap.size) 0 zk) := HK3.out.below hb4
    have HN4 : Hid (C3.SliceIs w4 (w.heap.size + 1) 0 zn) := HN3.out.below hb4
    have HB4 : Hid (Below w.heap.size w w4) := HB3.out.trans (hb4.mono HB3.out.size)
    clear ho4 hb4 HK3 HN3 HB3 HX3 HT3
    obtain ⟨w5, hcv5, ⟨fr5, h5⟩, hb5, hs5⟩ := conv_lit w4 #[.int .u8 120]
    have hcv5' : (convert 22 22 (.slice (some ⟨w4.heap.size, 0, none⟩) 1 1)).run Try.prog (w4.alloc (.cells #[.int .u8 120] 5)) = .ok (.slice (some ⟨w4.heap.size, 0, none⟩) 1 1) w5 := hcv5
    have HX5 : Hid (Src w5 (.slice (some ⟨w4.heap.size, 0, none⟩) 1 1) [120]) := lit_src (l := [120]) (n := 1) h5 (by decide) rfl
    have HS5 : Hid (Src w5 (.slice (some ⟨g4, 0, none⟩) 19 c4) (Ae.box zk zn [120] [97, 98, 99])) := HS4.out.below hb5
    have HK5 : Hid (C3.SliceIs w5 (w.heap.size) 0 zk) := HK4.out.below hb5
    have HN5 : Hid (C3.SliceIs w5 (w.heap.size + 1) 0 zn) := HN4.out.below hb5
    have HB5 : Hid (Below w.heap.size w w5) := HB4.out.trans (hb5.mono HB4.out.size)
    clear hcv5 h5 hb5 hs5 HS4 HK4 HN4 HB4
    go_wp2_with fail
    clear hcv5'
    refine (Open_any zk zn [120] (Ae.box zk zn [120] [97, 98, 99]) _ _ _ _ _ _ _ _ w5 rfl rfl HK5.out HN5.out (by decide) (by decide) HX5.out HS5.out (by decide) (by rw [Ae.box_length]; decide)).mono ?_
    rintro e w6 ⟨h6, hb6⟩
    rw [Ae.opens_box] at h6
    obtain ⟨v6, rfl, ho6⟩ := h6
    obtain ⟨g6, c6, rfl, _, _, _, hr6⟩ := own_cell ho6 (by decide)
    have HR6 : Hid (w6.rangeAt g6 0 (ints .u8 [97, 98, 99])) := hr6
    have HS6 : Hid (Src w6 (.slice (some ⟨g4, 0, none⟩) 19 c4) (Ae.box zk zn [120] [97, 98, 99])) := HS5.out.below hb6
    have HK6 : Hid (C3.SliceIs w6 (w.heap.size) 0 zk) := HK5.out.below hb6
    have HN6 : Hid (C3.SliceIs w6 (w.heap.size + 1) 0 zn) := HN5.out.below hb6
    have HB6 : Hid (Below w.heap.size w w6) := HB5.out.trans (hb6.mono HB5.out.size)
    clear ho6 hr6 hb6 HS5 HK5 HN5 HB5 HX5
    obtain ⟨w7, hcv7, ⟨fr7, h7⟩, hb7, hs7⟩ := conv_lit w6 #[.int .u8 121]
    have hcv7' : (convert 22 22 (.slice (some ⟨w6.heap.size, 0, none⟩) 1 1)).run Try.prog (w6.alloc (.cells #[.int .u8 121] 5)) = .ok (.slice (some ⟨w6.heap.size, 0, none⟩) 1 1) w7 := hcv7
    have HX7 : Hid (Src w7 (.slice (some ⟨w6.heap.size, 0, none⟩) 1 1) [121]) := lit_src (l := [121]) (n := 1) h7 (by decide) rfl
    have HS7 : Hid (Src w7 (.slice (some ⟨g4, 0, none⟩) 19 c4) (Ae.box zk zn [120] [97, 98, 99])) := HS6.out.below hb7
    have HK7 : Hid (C3.SliceIs w7 (w.heap.size) 0 zk) := HK6.out.below hb7
    have HN7 : Hid (C3.SliceIs w7 (w.heap.size + 1) 0 zn) := HN6.out.below hb7
    have HR7 : Hid (w7.rangeAt g6 0 (ints .u8 [97, 98, 99])) := rangeAt_below hb7 HR6.out
    have HB7 : Hid (Below w.heap.size w w7) := HB6.out.trans (hb7.mono HB6.out.size)
    clear hcv7 h7 hb7 hs7 HS6 HK6 HN6 HB6 HR6
    go_wp2_with fail
    clear hcv7'
    refine (Open_any zk zn [121] (Ae.box zk zn [120] [97, 98, 99]) _ _ _ _ _ _ _ _ w7 rfl rfl HK7.out HN7.out (by decide) (by decide) HX7.out HS7.out (by decide) (by rw [Ae.box_length]; decide)).mono ?_
    rintro e w8 ⟨h8, hb8⟩
    rw [ex_none] at h8
    obtain rfl : e = _ := h8
    have hse := ex_eq
    have hcs := conv_of c6 (n := 3) rfl (rangeAt_below hb8 HR7.out)
    have HB8 : Hid (Below w.heap.size w w8) := HB7.out.trans (hb8.mono HB7.out.size)
    clear hb8 HS7 HK7 HN7 HB7 HR7 HX7
    go_wp2_with fail
    go_ret
    exact ⟨rfl, HB8.out⟩
  · have HK1 : Hid (C3.SliceIs ((w.alloc (Obj.cells Z12 5)).alloc (Obj.cells Z32 5)).drew (w.heap.size + 1) 0 zk) := ⟨by decide, rangeAt_of_row (t := 5) (fr := (0, 0)) (heap_second w (Obj.cells Z12 5) (Obj.cells Z32 5))⟩
    have HN1 : Hid (C3.SliceIs ((w.alloc (Obj.cells Z12 5)).alloc (Obj.cells Z32 5)).drew (w.heap.size) 0 zn) := ⟨by decide, rangeAt_of_row (t := 5) (fr := (0, 0)) ((Below.heap_alloc _ _ _ (by simp)).trans (heap_alloc_new w _))⟩
    have HB1 : Hid (Below w.heap.size w ((w.alloc (Obj.cells Z12 5)).alloc (Obj.cells Z32 5)).drew) := (((Below.refl _ _).alloc (Nat.le_refl _) _).alloc (by simp) _).drew
    generalize ((w.alloc (Obj.cells Z12 5)).alloc (Obj.cells Z32 5)).drew = w1 at *
    obtain ⟨w2, hcv2, ⟨fr2, h2⟩, hb2, hs2⟩ := conv_lit w1 #[.int .u8 120]
    obtain ⟨w3, hcv3, ⟨fr3, h3⟩, hb3, hs3⟩ := conv_lit w2 #[.int .u8 97, .int .u8 98, .int .u8 99]
    have hcv2' : (convert 22 22 (.slice (some ⟨w1.heap.size, 0, none⟩) 1 1)).run Try.prog (w1.alloc (.cells #[.int .u8 120] 5)) = .ok (.slice (some ⟨w1.heap.size, 0, none⟩) 1 1) w2 := hcv2
    have hcv3' : (convert 22 22 (.slice (some ⟨w2.heap.size, 0, none⟩) 3 3)).run Try.prog (w2.alloc (.cells #[.int .u8 97, .int .u8 98, .int .u8 99] 5)) = .ok (.slice (some ⟨w2.heap.size, 0, none⟩) 3 3) w3 := hcv3
    have hb13 : Below w1.heap.size w1 w3 := hb2.trans (hb3.mono hb2.size)
    have HX3 : Hid (Src w3 (.slice (some ⟨w1.heap.size, 0, none⟩) 1 1) [120]) := (lit_src (l := [120]) (n := 1) h2 (by decide) rfl).below hb3
    have HT3 : Hid (Src w3 (.slice (some ⟨w2.heap.size, 0, none⟩) 3 3) [97, 98, 99]) := lit_src (l := [97, 98, 99]) (n := 3) h3 (by decide) rfl
    have HK3 : Hid (C3.SliceIs w3 (w.heap.size + 1) 0 zk) := HK1.out.below hb13
    have HN3 : Hid (C3.SliceIs w3 (w.heap.size) 0 zn) := HN1.out.below hb13
    have HB3 : Hid (Below w.heap.size w w3) := HB1.out.trans (hb13.mono HB1.out.size)
    clear hcv2 hcv3 h2 h3 hb2 hb3 hs2 hs3 hb13 HK1 HN1 HB1
    go_wp2_with fail
    clear hcv2' hcv3'
    refine (Seal_ok zk zn [120] [97, 98, 99] _ _ _ _ _ _ _ _ w3 rfl rfl HK3.out HN3.out (by decide) (by decide) HX3.out HT3.out (by decide) (by decide)).mono ?_
    rintro e w4 ⟨v4, rfl, ho4, hb4⟩
    have HS4 : Hid (Src w4 v4 (Ae.box zk zn [120] [97, 98, 99])) := Src.own (Ae.box_lt (by decide)) ho4
    obtain ⟨g4, c4, rfl, _, _, _, _⟩ := own_cell ho4 (by decide)
    have HK4 : Hid (C3.SliceIs w4 (w.heap.size + 1) 0 zk) := HK3.out.below hb4
    have HN4 : Hid (C3.SliceIs w4 (w.heap.size) 0 zn) := HN3.out.below hb4
    have HB4 : Hid (Below w.heap.size w w4) := HB3.out.trans (hb4.mono HB3.out.size)
    clear ho4 hb4 HK3 HN3 HB3 HX3 HT3
    obtain ⟨w5, hcv5, ⟨fr5, h5⟩, hb5, hs5⟩ := conv_lit w4 #[.int .u8 120]
    have hcv5' : (convert 22 22 (.slice (some ⟨w4.heap.size, 0, none⟩) 1 1)).run Try.prog (w4.alloc (.cells #[.int .u8 120] 5)) = .ok (.slice (some ⟨w4.heap.size, 0, none⟩) 1 1) w5 := hcv5
    have HX5 : Hid (Src w5 (.slice (some ⟨w4.heap.size, 0, none⟩) 1 1) [120]) := lit_src (l := [120]) (n := 1) h5 (by decide) rfl
    have HS5 : Hid (Src w5 (.slice (some ⟨g4, 0, none⟩) 19 c4) (Ae.box zk zn [120] [97, 98, 99])) := HS4.out.below hb5
    have HK5 : Hid (C3.SliceIs w5 (w.heap.size + 1) 0 zk) := HK4.out.below hb5
    have HN5 : Hid (C3.SliceIs w5 (w.heap.size) 0 zn) := HN4.out.below hb5
    have HB5 : Hid (Below w.heap.size w w5) := HB4.out.trans (hb5.mono HB4.out.size)
    clear hcv5 h5 hb5 hs5 HS4 HK4 HN4 HB4
    go_wp2_with fail
    clear hcv5'
    refine (Open_any zk zn [120] (Ae.box zk zn [120] [97, 98, 99]) _ _ _ _ _ _ _ _ w5 rfl rfl HK5.out HN5.out (by decide) (by decide) HX5.out HS5.out (by decide) (by rw [Ae.box_length]; decide)).mono ?_
    rintro e w6 ⟨h6, hb6⟩
    rw [Ae.opens_box] at h6
    obtain ⟨v6, rfl, ho6⟩ := h6
    obtain ⟨g6, c6, rfl, _, _, _, hr6⟩ := own_cell ho6 (by decide)
    have HR6 : Hid (w6.rangeAt g6 0 (ints .u8 [97, 98, 99])) := hr6
    have HS6 : Hid (Src w6 (.slice (some ⟨g4, 0, none⟩) 19 c4) (Ae.box zk zn [120] [97, 98, 99])) := HS5.out.below hb6
    have HK6 : Hid (C3.SliceIs w6 (w.heap.size + 1) 0 zk) := HK5.out.below hb6
    have HN6 : Hid (C3.SliceIs w6 (w.heap.size) 0 zn) := HN5.out.below hb6
    have HB6 : Hid (Below w.heap.size w w6) := HB5.out.trans (hb6.mono HB5.out.size)
    clear ho6 hr6 hb6 HS5 HK5 HN5 HB5 HX5
    obtain ⟨w7, hcv7, ⟨fr7, h7⟩, hb7, hs7⟩ := conv_lit w6 #[.int .u8 121]
    have hcv7' : (convert 22 22 (.slice (some ⟨w6.heap.size, 0, none⟩) 1 1)).run Try.prog (w6.alloc (.cells #[.int .u8 121] 5)) = .ok (.slice (some ⟨w6.heap.size, 0, none⟩) 1 1) w7 := hcv7
    have HX7 : Hid (Src w7 (.slice (some ⟨w6.heap.size, 0, none⟩) 1 1) [121]) := lit_src (l := [121]) (n := 1) h7 (by decide) rfl
    have HS7 : Hid (Src w7 (.slice (some ⟨g4, 0, none⟩) 19 c4) (Ae.box zk zn [120] [97, 98, 99])) := HS6.out.below hb7
    have HK7 : Hid (C3.SliceIs w7 (w.heap.size + 1) 0 zk) := HK6.out.below hb7
    have HN7 : Hid (C3.SliceIs w7 (w.heap.size) 0 zn) := HN6.out.below hb7
    have HR7 : Hid (w7.rangeAt g6 0 (ints .u8 [97, 98, 99])) := rangeAt_below hb7 HR6.out
    have HB7 : Hid (Below w.heap.size w w7) := HB6.out.trans (hb7.mono HB6.out.size)
    clear hcv7 h7 hb7 hs7 HS6 HK6 HN6 HB6 HR6
    go_wp2_with fail
    clear hcv7'
    refine (Open_any zk zn [121] (Ae.box zk zn [120] [97, 98, 99]) _ _ _ _ _ _ _ _ w7 rfl rfl HK7.out HN7.out (by decide) (by decide) HX7.out HS7.out (by decide) (by rw [Ae.box_length]; decide)).mono ?_
    rintro e w8 ⟨h8, hb8⟩
    rw [ex_none] at h8
    obtain rfl : e = _ := h8
    have hse := ex_eq
    have hcs := conv_of c6 (n := 3) rfl (rangeAt_below hb8 HR7.out)
    have HB8 : Hid (Below w.heap.size w w8) := HB7.out.trans (hb8.mono HB7.out.size)
    clear hb8 HS7 HK7 HN7 HB7 HR7 HX7
    go_wp2_with fail
    go_ret
    exact ⟨rfl, HB8.out⟩
end Go.Proofs.Ytnceiccciaihoaa.A5
