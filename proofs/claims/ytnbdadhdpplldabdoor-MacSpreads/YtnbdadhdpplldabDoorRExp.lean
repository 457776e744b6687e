/- The document's answer of layer 2: Expand. -/
import Derived.Test.YtnbdadhdpplldabDoorBlkM
namespace Go.Proofs.YtnbdadhdpplldabDoor
open Go.RowKit
set_option maxHeartbeats 2000000 in
theorem rexp_any (key info : List Nat) (p q : Option Addr) (n c m d N : Nat) (w : World) (hK : BytesAt w (.slice p n c) key) (hI : BytesAt w (.slice q m d) info) (hSI : SrcIs w (.slice q m d) info) (hn : n ≤ 200) (hm : m ≤ 200) (hN : N ≤ 1000) :
    Calls Tryd.prog 14 #[.slice p n c, .slice q m d, .int .i64 (N : Nat)] w fun e w' => ∃ v, e = .returned v ∧ Below w.heap.size w w' ∧ BV (Mk.spread key info N) v w' := by
  have HK : Hid (BytesAt w (.slice p n c) key) := hK
  have HSI : Hid (SrcIs w (.slice q m d) info) := hSI
  have HIS : Hid (∀ x ∈ info, x < 256) := hI.1
  have HIL : Hid (info.length = m) := (bytesAt_src hI).1
  clear hK hI hSI
  have k1 : ¬ ((N : Nat) : Int) < 0 := by omega
  go_enter Tryd.func14, Tryd.ntmps14
  go_wp2_with fail
  obtain ⟨K, hKd⟩ : ∃ K, K = (N + 31) / 32 := ⟨_, rfl⟩
  go_loopw [7, 8, 9] (fun sl bv i wr => ∃ k : Nat, k ≤ K ∧ i = .int .i64 ((k + 1 : Nat) : Int) ∧ Hid (wr.ownsRow w.heap.size 5 1 sl (32 * k) (ints .u8 (Mk.row key info k))) ∧ Hid (SrcIs wr bv (Mk.bl key info k)) ∧ Hid (Below w.heap.size w wr)) (fun _ _ i _ => K + 1 - (intOf i).toNat)
  case atStart => exact ⟨0, by omega, rfl, own_none _ _ _ _, .inl ⟨rfl, rfl⟩, Below.refl _ _⟩
  case round =>
    obtain ⟨k, hk, rfl, HO, HL, HB⟩ := hrel
    obtain ⟨qo, co, rfl⟩ := own_slice HO.out
    by_cases hlt : 32 * k < N
    · have hkK : k < K := by omega
      have j1 : ((32 * k : Nat) : Int) < ((N : Nat) : Int) := by omega
      have j2 : k + 1 ≤ 255 := by omega
      have hbA : Below wr.heap.size wr (wr.alloc (Obj.cells (arr .u8 []) 5)) := (Below.refl _ _).alloc (Nat.le_refl _) _
      have HO2 : Hid ((wr.alloc (Obj.cells (arr .u8 []) 5)).ownsRow wr.heap.size 5 1 (.slice (some ⟨wr.heap.size, 0, none⟩) 0 0) 0 (ints .u8 [])) :=
        ⟨by simp [ints], .inr ⟨wr.heap.size, 0, arr .u8 [], rfl, Nat.le_refl _, heap_alloc_new wr _, Nat.le_refl _, by decide, rfl, rfl⟩⟩
      have HB2 : Hid (Below wr.heap.size wr (wr.alloc (Obj.cells (arr .u8 []) 5))) := hbA
      have hsz2 : wr.heap.size ≤ (wr.alloc (Obj.cells (arr .u8 []) 5)).heap.size := by simp
      have hbl := Mk.bl_le key info k
      clear hbA
      go_wp2_with (first | with_reducible (refine stop_builtin .append ?_))
      refine Stop.go ?_
      rw [show (Obj.cells #[] 5 : Obj) = Obj.cells (arr .u8 []) 5 from rfl]
      with_reducible refine law_append wr.heap.size (.slice (some ⟨wr.heap.size, 0, none⟩) 0 0) 0 (ints .u8 []) u8 (Mk.bl key info k) ?asv ?axv HO2.out (SrcIs.below HL.out HB2.out) (by omega) hsz2 ?ak
      case asv => exact rfl
      case axv => exact rfl
      intro v3 w3 ho3 hg3
      rw [← ints_append, List.nil_append, Nat.zero_add] at ho3
      have HO3 : Hid (w3.ownsRow wr.heap.size 5 1 v3 (Mk.bl key info k).length (ints .u8 (Mk.bl key info k))) := ho3
      have HB3 : Hid (Below wr.heap.size wr w3) := below_grown' HB2.out hg3 HO2.out HB2.out.size (Nat.le_refl _)
      clear ho3 hg3 HO2 HB2 hsz2
      go_wp2_with (first | with_reducible (refine stop_builtin .append ?_))
      refine Stop.go ?_
      with_reducible refine law_append wr.heap.size v3 (Mk.bl key info k).length (ints .u8 (Mk.bl key info k)) (.slice q m d) info ?bsv ?bxv HO3.out (SrcIs.below (SrcIs.below HSI.out HB.out) HB3.out) (by rw [HIL.out]; omega) HB3.out.size ?bk
      case bsv => exact rfl
      case bxv => exact rfl
      intro v4 w4 ho4 hg4
      rw [← ints_append, HIL.out] at ho4
      have HO4 : Hid (w4.ownsRow wr.heap.size 5 1 v4 ((Mk.bl key info k).length + m) (ints .u8 (Mk.bl key info k ++ info))) := ho4
      have HB4 : Hid (Below wr.heap.size wr w4) := below_grown' HB3.out hg4 HO3.out HB3.out.size (Nat.le_refl _)
      clear ho4 hg4 HO3 HB3
      have hbA : Below w4.heap.size w4 (w4.alloc (Obj.cells (arr .u8 [k + 1]) 5)) := (Below.refl _ _).alloc (Nat.le_refl _) _
      have HO5 : Hid ((w4.alloc (Obj.cells (arr .u8 [k + 1]) 5)).ownsRow wr.heap.size 5 1 v4 ((Mk.bl key info k).length + m) (ints .u8 (Mk.bl key info k ++ info))) := own_below HO4.out hbA
      have HB5 : Hid (Below wr.heap.size wr (w4.alloc (Obj.cells (arr .u8 [k + 1]) 5))) := HB4.out.trans (hbA.mono HB4.out.size)
      have HR5 : Hid (SrcIs (w4.alloc (Obj.cells (arr .u8 [k + 1]) 5)) (.slice (some ⟨w4.heap.size, 0, none⟩) 1 1) [k + 1]) := .inr ⟨⟨w4.heap.size, 0, none⟩, 1, rfl, fun j u hu => by rw [Addr.add_mid]; exact rangeAt_of_row (heap_alloc_new w4 _) j u hu⟩
      clear hbA HO4 HB4
      go_wp2_with (first | with_reducible (refine stop_builtin .append ?_))
      refine Stop.go ?_
      rw [show (Obj.cells #[Value.int .u8 ((k : Int) + 1)] 5 : Obj) = Obj.cells (arr .u8 [k + 1]) 5 from rfl]
      with_reducible refine law_append wr.heap.size v4 ((Mk.bl key info k).length + m) (ints .u8 (Mk.bl key info k ++ info)) (.slice (some ⟨w4.heap.size, 0, none⟩) 1 1) [k + 1] ?csv ?cxv HO5.out HR5.out (by simp; omega) HB5.out.size ?ck
      case csv => exact rfl
      case cxv => exact rfl
      intro v6 w6 ho6 hg6
      rw [← ints_append, List.append_assoc] at ho6
      have HO6 : Hid (w6.ownsRow wr.heap.size 5 1 v6 ((Mk.bl key info k).length + m + 1) (ints .u8 (Mk.bl key info k ++ (info ++ [k + 1])))) := ho6
      have HB6 : Hid (Below wr.heap.size wr w6) := below_grown' HB5.out hg6 HO5.out HB5.out.size (Nat.le_refl _)
      clear ho6 hg6 HO5 HB5 HR5
      have HLM : Hid ((Mk.bl key info k ++ (info ++ [k + 1])).length = (Mk.bl key info k).length + m + 1) := by
        have h := HIL.out
        show _ = _
        simp only [List.length_append, List.length_cons, List.length_nil]
        omega
      have HSM : Hid (∀ x ∈ Mk.bl key info k ++ (info ++ [k + 1]), x < 256) := fun x hx => by
        rcases List.mem_append.1 hx with h | h
        · exact Mk.bl_small key info k x h
        · rcases List.mem_append.1 h with h | h
          · exact HIS.out x h
          · simp at h
            omega
      go_wp2_with fail
      refine (rcode_any key (Mk.bl key info k ++ (info ++ [k + 1])) p n c v6 w6 (bytesAt_below (bytesAt_below HK.out HB.out) HB6.out) (by omega) (own_src HO6.out HLM.out (by omega)) HSM.out (by rw [HLM.out]; omega)).mono ?_
      rintro e w7 ⟨v7, rfl, ho7, hb7⟩
      have HV7 : Hid (w7.ownsRow w6.heap.size 5 1 v7 32 (ints .u8 (Mk.bl key info (k + 1)))) := ho7
      have hb67 : Below wr.heap.size wr w7 := HB6.out.trans (hb7.mono HB6.out.size)
      have HO7 : Hid (w7.ownsRow w.heap.size 5 1 (.slice qo (32 * k) co) (32 * k) (ints .u8 (Mk.row key info k))) := own_below HO.out hb67
      have HB7 : Hid (Below w.heap.size w w7) := HB.out.trans (hb67.mono HB.out.size)
      have HNE : Hid (v7.ownBlock = none ∨ v7.ownBlock ≠ (Value.slice qo (32 * k) co).ownBlock) := by
        by_cases e : v7.ownBlock = none
        · exact .inl e
        · refine .inr (fun e2 => ?_)
          obtain ⟨g, hg⟩ := Option.ne_none_iff_exists'.1 e
          have h1 := (HV7.out.lt g hg).1
          have h2 := (HO.out.lt g (by rw [← e2]; exact hg)).2
          have h3 := HB6.out.size
          omega
      clear ho7 hb7 hb67 HO6 HB6 HLM HSM HL HO HB
      go_wp2_with (first | with_reducible (refine stop_builtin .append ?_))
      refine Stop.go ?_
      with_reducible refine law_append w.heap.size (.slice qo (32 * k) co) (32 * k) (ints .u8 (Mk.row key info k)) v7 (Mk.bl key info (k + 1)) ?dsv ?dxv HO7.out (own_src HV7.out (Mk.bl_length _ _ _) (by decide)) (by rw [Mk.bl_length]; omega) HB7.out.size ?dk
      case dsv => exact rfl
      case dxv => exact rfl
      intro v8 w8 ho8 hg8
      rw [← ints_append, Mk.bl_length] at ho8
      have HO8 : Hid (w8.ownsRow w.heap.size 5 1 v8 (32 * (k + 1)) (ints .u8 (Mk.row key info (k + 1)))) := ho8
      have HL8 : Hid (SrcIs w8 v7 (Mk.bl key info (k + 1))) := own_src (HV7.out.kept hg8 HNE.out) (Mk.bl_length _ _ _) (by decide)
      have HB8 : Hid (Below w.heap.size w w8) := below_grown' HB7.out hg8 HO7.out HB7.out.size (Nat.le_refl _)
      clear ho8 hg8 HO7 HB7 HV7 HNE
      go_wp2_with fail
      go_roundw
      case rel => exact ⟨k + 1, by omega, by go_num, HO8, HL8, HB8⟩
      case measure => simp [intOf]; omega
    · obtain rfl : k = K := by omega
      have j1 : ¬ ((32 * k : Nat) : Int) < ((N : Nat) : Int) := by omega
      by_cases h0 : N = 0
      · subst h0
        clear HL
        go_wp2_with fail
        go_ret
        exact ⟨_, rfl, HB.out, bytesAt_none _ _ _⟩
      · obtain ⟨g, c9, hqe, hc9, _, _, hr9⟩ := own_cell2 HO.out (by omega)
        cases hqe
        have j3 : ((N : Nat) : Int) ≤ (co : Int) := by omega
        have HF : Hid (BytesAt wr (.slice (some ⟨g, 0, none⟩) N co) (Mk.spread key info N)) := by
          have h := bytes_cut (c := co) (m := 0) (t := N) (Mk.row_small key info k) hr9 (by rw [Mk.row_length]; omega) (by omega)
          rw [Nat.sub_zero, List.drop_zero, hKd] at h
          exact h
        clear hr9 HO HL
        go_wp2_with fail
        go_ret
        exact ⟨_, rfl, HB.out, HF.out⟩
end Go.Proofs.YtnbdadhdpplldabDoor
