/- The document's example by the kernel's own reckoning; the contract of the statements' anchor. -/
import Derived.Test.YtncnckiknhhbjaaStr
namespace Go.Proofs.Ytncnckiknhhbjaa
open Go.RowKit
def exKey : List Nat := [133, 214, 190, 120, 87, 85, 109, 51, 127, 68, 82, 254, 66, 213, 6, 168, 1, 3, 128, 138, 251, 13, 178, 253, 74, 191, 246, 175, 65, 73, 245, 27]
def exText : List Nat := [67, 114, 121, 112, 116, 111, 103, 114, 97, 112, 104, 105, 99, 32, 70, 111, 114, 117, 109, 32, 82, 101, 115, 101, 97, 114, 99, 104, 32, 71, 114, 111, 117, 112]
theorem ex_tag : Po.tag exKey exText = [168, 6, 29, 193, 48, 81, 54, 198, 194, 43, 139, 175, 12, 1, 39, 169] := by decide +kernel
theorem ex_ends : Ending.returned (.bool ((strB [168, 6, 29, 193, 48, 81, 54, 198, 194, 43, 139, 175, 12, 1, 39, 169]).toList == [168, 6, 29, 193, 48, 81, 54, 198, 194, 43, 139, 175, 12, 1, 39, 169])) = Ending.returned (.bool true) := by kernel_rfl
set_option maxHeartbeats 1000000 in
theorem anchor_any (w : World) : Calls Try.prog 9 #[] w fun e w' => e = .returned (.bool true) ∧ Below w.heap.size w w' := by
  obtain ⟨w1, hcv1, ⟨fr1, h1⟩, hb1, hsz1⟩ := conv_lit w #[.int .u8 133, .int .u8 214, .int .u8 190, .int .u8 120, .int .u8 87, .int .u8 85, .int .u8 109, .int .u8 51, .int .u8 127, .int .u8 68, .int .u8 82, .int .u8 254, .int .u8 66, .int .u8 213, .int .u8 6, .int .u8 168, .int .u8 1, .int .u8 3, .int .u8 128, .int .u8 138, .int .u8 251, .int .u8 13, .int .u8 178, .int .u8 253, .int .u8 74, .int .u8 191, .int .u8 246, .int .u8 175, .int .u8 65, .int .u8 73, .int .u8 245, .int .u8 27]
  obtain ⟨w2, hcv2, ⟨fr2, h2⟩, hb2, hsz2⟩ := conv_lit w1 #[.int .u8 67, .int .u8 114, .int .u8 121, .int .u8 112, .int .u8 116, .int .u8 111, .int .u8 103, .int .u8 114, .int .u8 97, .int .u8 112, .int .u8 104, .int .u8 105, .int .u8 99, .int .u8 32, .int .u8 70, .int .u8 111, .int .u8 114, .int .u8 117, .int .u8 109, .int .u8 32, .int .u8 82, .int .u8 101, .int .u8 115, .int .u8 101, .int .u8 97, .int .u8 114, .int .u8 99, .int .u8 104, .int .u8 32, .int .u8 71, .int .u8 114, .int .u8 111, .int .u8 117, .int .u8 112]
  have hcv1' : (convert 22 22 (.slice (some ⟨w.heap.size, 0, none⟩) 32 32)).run Try.prog (w.alloc (.cells #[.int .u8 133, .int .u8 214, .int .u8 190, .int .u8 120, .int .u8 87, .int .u8 85, .int .u8 109, .int .u8 51, .int .u8 127, .int .u8 68, .int .u8 82, .int .u8 254, .int .u8 66, .int .u8 213, .int .u8 6, .int .u8 168, .int .u8 1, .int .u8 3, .int .u8 128, .int .u8 138, .int .u8 251, .int .u8 13, .int .u8 178, .int .u8 253, .int .u8 74, .int .u8 191, .int .u8 246, .int .u8 175, .int .u8 65, .int .u8 73, .int .u8 245, .int .u8 27] 5)) = .ok (.slice (some ⟨w.heap.size, 0, none⟩) 32 32) w1 := hcv1
  have hcv2' : (convert 22 22 (.slice (some ⟨w1.heap.size, 0, none⟩) 34 34)).run Try.prog (w1.alloc (.cells #[.int .u8 67, .int .u8 114, .int .u8 121, .int .u8 112, .int .u8 116, .int .u8 111, .int .u8 103, .int .u8 114, .int .u8 97, .int .u8 112, .int .u8 104, .int .u8 105, .int .u8 99, .int .u8 32, .int .u8 70, .int .u8 111, .int .u8 114, .int .u8 117, .int .u8 109, .int .u8 32, .int .u8 82, .int .u8 101, .int .u8 115, .int .u8 101, .int .u8 97, .int .u8 114, .int .u8 99, .int .u8 104, .int .u8 32, .int .u8 71, .int .u8 114, .int .u8 111, .int .u8 117, .int .u8 112] 5)) = .ok (.slice (some ⟨w1.heap.size, 0, none⟩) 34 34) w2 := hcv2
  have HK : Hid (w2.rangeAt w.heap.size 0 (ints .u8 exKey)) := rangeAt_of_row (t := 5) (fr := fr1) (by rw [hb2.block _ (by omega)]; exact h1)
  have HT : Hid (TextIs w2 (some ⟨w1.heap.size, 0, none⟩) exText) := ⟨by decide, fun _ => ⟨_, _, rfl, rangeAt_of_row (t := 5) (fr := fr2) h2⟩⟩
  have HB : Hid (Below w.heap.size w w2) := hb1.trans (hb2.mono hb1.size)
  clear hcv1 hcv2 h1 h2 hb1 hb2 hsz1 hsz2
  go_enter Try.func9, Try.ntmps9
  go_wp2_with fail
  clear hcv1' hcv2'
  refine (tag_ok exKey exText w.heap.size 0 32 34 34 (some ⟨w1.heap.size, 0, none⟩) w2 rfl (by decide) HK.out (by decide) HT.out rfl (by decide) (by decide)).mono ?_
  rintro e w3 ⟨v, rfl, ho, hb3⟩
  rw [ex_tag] at ho
  obtain ⟨g, c, rfl, _, _, hc, hr⟩ := own_cell ho (by decide)
  have HB2 : Hid (Below w.heap.size w w3) := HB.out.trans (hb3.mono HB.out.size)
  have hcs := conv_of c (n := 16) rfl hr
  clear ho hb3 hr HK HT HB
  go_wp2_with fail
  go_ret
  exact ⟨ex_ends, HB2.out⟩
end Go.Proofs.Ytncnckiknhhbjaa
