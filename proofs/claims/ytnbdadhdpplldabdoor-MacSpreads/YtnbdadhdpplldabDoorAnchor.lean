/- The document's example, by the kernel's own reckoning; the contract of the statements' anchor. -/
import Derived.Test.YtnbdadhdpplldabDoorCode
namespace Go.Proofs.YtnbdadhdpplldabDoor
open Go.RowKit
theorem code_jefe : Mk.code [74, 101, 102, 101] [119, 104, 97, 116, 32, 100, 111, 32, 121, 97, 32, 119, 97, 110, 116, 32, 102, 111, 114, 32, 110, 111, 116, 104, 105, 110, 103, 63] = [91, 220, 193, 70, 191, 96, 117, 78, 106, 4, 36, 38, 8, 149, 117, 199, 90, 0, 63, 8, 157, 39, 57, 131, 157, 236, 88, 185, 100, 236, 56, 67] := by decide +kernel
theorem jefe_ends : Ending.returned (.bool ((strB [91, 220, 193, 70, 191, 96, 117, 78, 106, 4, 36, 38, 8, 149, 117, 199, 90, 0, 63, 8, 157, 39, 57, 131, 157, 236, 88, 185, 100, 236, 56, 67]).toList == [91, 220, 193, 70, 191, 96, 117, 78, 106, 4, 36, 38, 8, 149, 117, 199, 90, 0, 63, 8, 157, 39, 57, 131, 157, 236, 88, 185, 100, 236, 56, 67])) = Ending.returned (.bool true) := by kernel_rfl
theorem bytesAt_lit {w : World} {g : Nat} {l : List Nat} {n : Nat} {fr : Nat × Nat} (hs : ∀ x ∈ l, x < 256) (hl : l.length = n) (h : w.heap[g]? = some (.cells (arr .u8 l) 5 fr)) : BytesAt w (.slice (some ⟨g, 0, none⟩) n n) l :=
  ⟨hs, .inr ⟨g, 0, n, by rw [hl], by omega, rangeAt_of_row h⟩⟩
set_option maxHeartbeats 1000000 in
theorem anchor_any (w : World) (hT : Tab w) : Calls Tryd.prog 9 #[] w fun e w' => e = .returned (.bool true) ∧ Below w.heap.size w w' := by
  have HT : Hid (Tab w) := hT
  clear hT
  obtain ⟨w1, hcv1, ⟨fr1, h1⟩, hb1, hsz1⟩ := conv_lit w #[.int .u8 74, .int .u8 101, .int .u8 102, .int .u8 101]
  obtain ⟨w2, hcv2, ⟨fr2, h2⟩, hb2, hsz2⟩ := conv_lit w1 #[.int .u8 119, .int .u8 104, .int .u8 97, .int .u8 116, .int .u8 32, .int .u8 100, .int .u8 111, .int .u8 32, .int .u8 121, .int .u8 97, .int .u8 32]
  obtain ⟨w3, hcv3, ⟨fr3, h3⟩, hb3, hsz3⟩ := conv_lit w2 #[.int .u8 119, .int .u8 97, .int .u8 110, .int .u8 116, .int .u8 32, .int .u8 102, .int .u8 111, .int .u8 114, .int .u8 32, .int .u8 110, .int .u8 111, .int .u8 116, .int .u8 104, .int .u8 105, .int .u8 110, .int .u8 103, .int .u8 63]
  have hk3 : BytesAt w3 (.slice (some ⟨w.heap.size, 0, none⟩) 4 4) [74, 101, 102, 101] := bytesAt_lit (fr := fr1) (by decide) rfl (by rw [hb3.block _ (by omega), hb2.block _ (by omega)]; exact h1)
  have ha3 : BytesAt w3 (.slice (some ⟨w1.heap.size, 0, none⟩) 11 11) [119, 104, 97, 116, 32, 100, 111, 32, 121, 97, 32] := bytesAt_lit (fr := fr2) (by decide) rfl (by rw [hb3.block _ (by omega)]; exact h2)
  have hm3 : BytesAt w3 (.slice (some ⟨w2.heap.size, 0, none⟩) 17 17) [119, 97, 110, 116, 32, 102, 111, 114, 32, 110, 111, 116, 104, 105, 110, 103, 63] := bytesAt_lit (fr := fr3) (by decide) rfl h3
  have HB3 : Hid (Below w.heap.size w w3) := (hb1.trans (hb2.mono hb1.size)).trans (hb3.mono (Nat.le_trans hb1.size hb2.size))
  have hcv1' : (convert 22 22 (.slice (some ⟨w.heap.size, 0, none⟩) 4 4)).run Tryd.prog (w.alloc (.cells #[.int .u8 74, .int .u8 101, .int .u8 102, .int .u8 101] 5)) = .ok (.slice (some ⟨w.heap.size, 0, none⟩) 4 4) w1 := hcv1
  have hcv2' : (convert 22 22 (.slice (some ⟨w1.heap.size, 0, none⟩) 11 11)).run Tryd.prog (w1.alloc (.cells #[.int .u8 119, .int .u8 104, .int .u8 97, .int .u8 116, .int .u8 32, .int .u8 100, .int .u8 111, .int .u8 32, .int .u8 121, .int .u8 97, .int .u8 32] 5)) = .ok (.slice (some ⟨w1.heap.size, 0, none⟩) 11 11) w2 := hcv2
  have hcv3' : (convert 22 22 (.slice (some ⟨w2.heap.size, 0, none⟩) 17 17)).run Tryd.prog (w2.alloc (.cells #[.int .u8 119, .int .u8 97, .int .u8 110, .int .u8 116, .int .u8 32, .int .u8 102, .int .u8 111, .int .u8 114, .int .u8 32, .int .u8 110, .int .u8 111, .int .u8 116, .int .u8 104, .int .u8 105, .int .u8 110, .int .u8 103, .int .u8 63] 5)) = .ok (.slice (some ⟨w2.heap.size, 0, none⟩) 17 17) w3 := hcv3
  have HK3 : Hid (BytesAt w3 (.slice (some ⟨w.heap.size, 0, none⟩) 4 4) [74, 101, 102, 101]) := hk3
  have HA3 : Hid (BytesAt w3 (.slice (some ⟨w1.heap.size, 0, none⟩) 11 11) [119, 104, 97, 116, 32, 100, 111, 32, 121, 97, 32]) := ha3
  have HM3 : Hid (BytesAt w3 (.slice (some ⟨w2.heap.size, 0, none⟩) 17 17) [119, 97, 110, 116, 32, 102, 111, 114, 32, 110, 111, 116, 104, 105, 110, 103, 63]) := hm3
  clear hcv1 hcv2 hcv3 h1 h2 h3 hb1 hb2 hb3 hsz1 hsz2 hsz3 hk3 ha3 hm3
  go_enter Tryd.func9, Tryd.ntmps9
  go_wp2_with fail
  clear hcv1' hcv2' hcv3'
  have hbA : Below w3.heap.size w3 (w3.alloc (.cells #[.slice (some ⟨w1.heap.size, 0, none⟩) 11 11, .slice (some ⟨w2.heap.size, 0, none⟩) 17 17] 22)) := (Below.refl _ _).alloc (Nat.le_refl _) _
  have hbB : Below w.heap.size w (w3.alloc (.cells #[.slice (some ⟨w1.heap.size, 0, none⟩) 11 11, .slice (some ⟨w2.heap.size, 0, none⟩) 17 17] 22)) := HB3.out.trans (hbA.mono HB3.out.size)
  have hc := code_any [74, 101, 102, 101] [[119, 104, 97, 116, 32, 100, 111, 32, 121, 97, 32], [119, 97, 110, 116, 32, 102, 111, 114, 32, 110, 111, 116, 104, 105, 110, 103, 63]] (some ⟨w.heap.size, 0, none⟩) 4 4 w3.heap.size 0 2 [.slice (some ⟨w1.heap.size, 0, none⟩) 11 11, .slice (some ⟨w2.heap.size, 0, none⟩) 17 17] _ (bytesAt_below HK3.out hbA) (tab_below HT.out hbB) (by decide) (rangeAt_of_row (heap_alloc_new w3 _)) (fun i l hl => by
    match i with
    | 0 => simp at hl; subst hl; exact ⟨_, rfl, bytesAt_below HA3.out hbA⟩
    | 1 => simp at hl; subst hl; exact ⟨_, rfl, bytesAt_below HM3.out hbA⟩
    | i + 2 => simp at hl) (by decide) (by decide)
  refine hc.mono ?_
  clear hc
  rintro e w5 ⟨g5, rfl, hg5, hr5, hb5⟩
  have hfe : [[119, 104, 97, 116, 32, 100, 111, 32, 121, 97, 32], [119, 97, 110, 116, 32, 102, 111, 114, 32, 110, 111, 116, 104, 105, 110, 103, 63]].flatten = [119, 104, 97, 116, 32, 100, 111, 32, 121, 97, 32, 119, 97, 110, 116, 32, 102, 111, 114, 32, 110, 111, 116, 104, 105, 110, 103, 63] := rfl
  rw [hfe, code_jefe] at hr5
  have hcs := conv_row 32 (n := 32) rfl hr5
  have HB5 : Hid (Below w.heap.size w w5) := hbB.trans (hb5.mono hbB.size)
  clear hbA hbB hr5 hb5 hg5 hfe HK3 HA3 HM3
  go_wp2_with fail
  go_ret
  exact ⟨jefe_ends, HB5.out⟩
end Go.Proofs.YtnbdadhdpplldabDoor
