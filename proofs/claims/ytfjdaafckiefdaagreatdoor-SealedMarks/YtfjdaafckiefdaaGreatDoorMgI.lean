/- The document's Bytes: the kind 1. -/
import Derived.Test.YtfjdaafckiefdaaGreatDoorMgH
namespace Go.Proofs.YtfjdaafckiefdaaGreatDoor.E9
open Go.RowKit C8
set_option maxHeartbeats 8000000 in
theorem rBytes1 (w : World) (k1 k2 k3 k6 k7 k8 : Nat) (t4 t5 : List Nat) (np vp q : Option Addr) (nc vc c n9 : Nat) (hk : k1 = 1) (b2 : k2 ≤ 16) (b3 : k3 ≤ 1099511627776) (hs4 : Src w (.slice np t4.length nc) t4) (hs5 : Src w (.slice vp t5.length vc) t5) (b4 : t4.length ≤ 64) (b5 : t5.length ≤ 512) :
    Calls Tryz.prog 36 #[.agg #[.int .i64 (k1 : Int), .int .i64 (k2 : Int), .int .i64 (k3 : Int), .slice np t4.length nc, .slice vp t5.length vc, .int .i64 (k6 : Int), .int .i64 (k7 : Int), .int .i64 (k8 : Int), .slice q n9 c]] w fun e w' => ∃ v, e = .returned v ∧ Src w' v [[Cd.be 6 k1, Cd.be 6 k2, Cd.be 6 k3].flatten, (Cd.be 2 t4.length ++ t4), (Cd.be 2 t5.length ++ t5)].flatten ∧ Below w.heap.size w w' := by
  have HB : Hid (Below w.heap.size w (w.alloc (.cells #[.int .i64 (k1 : Int), .int .i64 (k2 : Int), .int .i64 (k3 : Int), .slice np t4.length nc, .slice vp t5.length vc, .int .i64 (k6 : Int), .int .i64 (k7 : Int), .int .i64 (k8 : Int), .slice q n9 c] 59))) := bel_alloc (Nat.le_refl _) _
  have HBO : Hid (∀ w', Only [] (w.alloc (.cells #[.int .i64 (k1 : Int), .int .i64 (k2 : Int), .int .i64 (k3 : Int), .slice np t4.length nc, .slice vp t5.length vc, .int .i64 (k6 : Int), .int .i64 (k7 : Int), .int .i64 (k8 : Int), .slice q n9 c] 59)) w' → Below w.heap.size (w.alloc (.cells #[.int .i64 (k1 : Int), .int .i64 (k2 : Int), .int .i64 (k3 : Int), .slice np t4.length nc, .slice vp t5.length vc, .int .i64 (k6 : Int), .int .i64 (k7 : Int), .int .i64 (k8 : Int), .slice q n9 c] 59)) w') := fun w' h => h.below (by simp) (by simp)
  have HBA : Hid (∀ w', Only [] (w.alloc (.cells #[.int .i64 (k1 : Int), .int .i64 (k2 : Int), .int .i64 (k3 : Int), .slice np t4.length nc, .slice vp t5.length vc, .int .i64 (k6 : Int), .int .i64 (k7 : Int), .int .i64 (k8 : Int), .slice q n9 c] 59)) w' → Below w.heap.size w w') := fun w' h => HB.out.trans (HBO.out w' h)
  have HE0 : Hid (∀ w', Only [] (w.alloc (.cells #[.int .i64 (k1 : Int), .int .i64 (k2 : Int), .int .i64 (k3 : Int), .slice np t4.length nc, .slice vp t5.length vc, .int .i64 (k6 : Int), .int .i64 (k7 : Int), .int .i64 (k8 : Int), .slice q n9 c] 59)) w' → w'.cell? ⟨w.heap.size, 0, none⟩ = some (.int .i64 (k1 : Int))) := fun w' h => (((h.below (B := w.heap.size + 1) (by simp) (by simp)).cell (p := ⟨w.heap.size, 0, none⟩) (Nat.lt_succ_self _)).trans (by rw [cell_of_row _ _ _ _ _ _ (heap_alloc_new w _)]; rfl))
  have HE1 : Hid (∀ w', Only [] (w.alloc (.cells #[.int .i64 (k1 : Int), .int .i64 (k2 : Int), .int .i64 (k3 : Int), .slice np t4.length nc, .slice vp t5.length vc, .int .i64 (k6 : Int), .int .i64 (k7 : Int), .int .i64 (k8 : Int), .slice q n9 c] 59)) w' → w'.cell? ⟨w.heap.size, 1, none⟩ = some (.int .i64 (k2 : Int))) := fun w' h => (((h.below (B := w.heap.size + 1) (by simp) (by simp)).cell (p := ⟨w.heap.size, 1, none⟩) (Nat.lt_succ_self _)).trans (by rw [cell_of_row _ _ _ _ _ _ (heap_alloc_new w _)]; rfl))
  have HE2 : Hid (∀ w', Only [] (w.alloc (.cells #[.int .i64 (k1 : Int), .int .i64 (k2 : Int), .int .i64 (k3 : Int), .slice np t4.length nc, .slice vp t5.length vc, .int .i64 (k6 : Int), .int .i64 (k7 : Int), .int .i64 (k8 : Int), .slice q n9 c] 59)) w' → w'.cell? ⟨w.heap.size, 2, none⟩ = some (.int .i64 (k3 : Int))) := fun w' h => (((h.below (B := w.heap.size + 1) (by simp) (by simp)).cell (p := ⟨w.heap.size, 2, none⟩) (Nat.lt_succ_self _)).trans (by rw [cell_of_row _ _ _ _ _ _ (heap_alloc_new w _)]; rfl))
  have HE3 : Hid (∀ w', Only [] (w.alloc (.cells #[.int .i64 (k1 : Int), .int .i64 (k2 : Int), .int .i64 (k3 : Int), .slice np t4.length nc, .slice vp t5.length vc, .int .i64 (k6 : Int), .int .i64 (k7 : Int), .int .i64 (k8 : Int), .slice q n9 c] 59)) w' → w'.cell? ⟨w.heap.size, 3, none⟩ = some (.slice np t4.length nc)) := fun w' h => (((h.below (B := w.heap.size + 1) (by simp) (by simp)).cell (p := ⟨w.heap.size, 3, none⟩) (Nat.lt_succ_self _)).trans (by rw [cell_of_row _ _ _ _ _ _ (heap_alloc_new w _)]; rfl))
  have HE4 : Hid (∀ w', Only [] (w.alloc (.cells #[.int .i64 (k1 : Int), .int .i64 (k2 : Int), .int .i64 (k3 : Int), .slice np t4.length nc, .slice vp t5.length vc, .int .i64 (k6 : Int), .int .i64 (k7 : Int), .int .i64 (k8 : Int), .slice q n9 c] 59)) w' → w'.cell? ⟨w.heap.size, 4, none⟩ = some (.slice vp t5.length vc)) := fun w' h => (((h.below (B := w.heap.size + 1) (by simp) (by simp)).cell (p := ⟨w.heap.size, 4, none⟩) (Nat.lt_succ_self _)).trans (by rw [cell_of_row _ _ _ _ _ _ (heap_alloc_new w _)]; rfl))
  have HE5 : Hid (∀ w', Only [] (w.alloc (.cells #[.int .i64 (k1 : Int), .int .i64 (k2 : Int), .int .i64 (k3 : Int), .slice np t4.length nc, .slice vp t5.length vc, .int .i64 (k6 : Int), .int .i64 (k7 : Int), .int .i64 (k8 : Int), .slice q n9 c] 59)) w' → w'.cell? ⟨w.heap.size, 5, none⟩ = some (.int .i64 (k6 : Int))) := fun w' h => (((h.below (B := w.heap.size + 1) (by simp) (by simp)).cell (p := ⟨w.heap.size, 5, none⟩) (Nat.lt_succ_self _)).trans (by rw [cell_of_row _ _ _ _ _ _ (heap_alloc_new w _)]; rfl))
  have HE6 : Hid (∀ w', Only [] (w.alloc (.cells #[.int .i64 (k1 : Int), .int .i64 (k2 : Int), .int .i64 (k3 : Int), .slice np t4.length nc, .slice vp t5.length vc, .int .i64 (k6 : Int), .int .i64 (k7 : Int), .int .i64 (k8 : Int), .slice q n9 c] 59)) w' → w'.cell? ⟨w.heap.size, 6, none⟩ = some (.int .i64 (k7 : Int))) := fun w' h => (((h.below (B := w.heap.size + 1) (by simp) (by simp)).cell (p := ⟨w.heap.size, 6, none⟩) (Nat.lt_succ_self _)).trans (by rw [cell_of_row _ _ _ _ _ _ (heap_alloc_new w _)]; rfl))
  have HE7 : Hid (∀ w', Only [] (w.alloc (.cells #[.int .i64 (k1 : Int), .int .i64 (k2 : Int), .int .i64 (k3 : Int), .slice np t4.length nc, .slice vp t5.length vc, .int .i64 (k6 : Int), .int .i64 (k7 : Int), .int .i64 (k8 : Int), .slice q n9 c] 59)) w' → w'.cell? ⟨w.heap.size, 7, none⟩ = some (.int .i64 (k8 : Int))) := fun w' h => (((h.below (B := w.heap.size + 1) (by simp) (by simp)).cell (p := ⟨w.heap.size, 7, none⟩) (Nat.lt_succ_self _)).trans (by rw [cell_of_row _ _ _ _ _ _ (heap_alloc_new w _)]; rfl))
  have HE8 : Hid (∀ w', Only [] (w.alloc (.cells #[.int .i64 (k1 : Int), .int .i64 (k2 : Int), .int .i64 (k3 : Int), .slice np t4.length nc, .slice vp t5.length vc, .int .i64 (k6 : Int), .int .i64 (k7 : Int), .int .i64 (k8 : Int), .slice q n9 c] 59)) w' → w'.cell? ⟨w.heap.size, 8, none⟩ = some (.slice q n9 c)) := fun w' h => (((h.below (B := w.heap.size + 1) (by simp) (by simp)).cell (p := ⟨w.heap.size, 8, none⟩) (Nat.lt_succ_self _)).trans (by rw [cell_of_row _ _ _ _ _ _ (heap_alloc_new w _)]; rfl))
  have HS3 : Hid (∀ w', Only [] (w.alloc (.cells #[.int .i64 (k1 : Int), .int .i64 (k2 : Int), .int .i64 (k3 : Int), .slice np t4.length nc, .slice vp t5.length vc, .int .i64 (k6 : Int), .int .i64 (k7 : Int), .int .i64 (k8 : Int), .slice q n9 c] 59)) w' → SrcV [] t4 (.slice np t4.length nc) w') := fun w' h => srcV_of (hs4.below (HBA.out w' h))
  have HS4 : Hid (∀ w', Only [] (w.alloc (.cells #[.int .i64 (k1 : Int), .int .i64 (k2 : Int), .int .i64 (k3 : Int), .slice np t4.length nc, .slice vp t5.length vc, .int .i64 (k6 : Int), .int .i64 (k7 : Int), .int .i64 (k8 : Int), .slice q n9 c] 59)) w' → SrcV [] t5 (.slice vp t5.length vc) w') := fun w' h => srcV_of (hs5.below (HBA.out w' h))
  have HSM : Hid (∀ x ∈ [Cd.be 6 k1, Cd.be 6 k2, Cd.be 6 k3].flatten, x < 256) := by
    show ∀ x ∈ _, _
    simp only [List.flatten_cons, List.flatten_nil, List.append_nil, List.mem_append]
    rintro x (h | h | h) <;> exact Cd.be_lt _ _ x h
  have HT4 : Hid (∀ x ∈ t4, x < 256) := hs4.small
  have HT5 : Hid (∀ x ∈ t5, x < 256) := hs5.small
  have HLB : Hid ([Cd.be 6 k1, Cd.be 6 k2, Cd.be 6 k3].flatten.length = 18) := by show _ = _; simp [Cd.be_length]
  clear hs4 hs5
  have HK : Hid (k1 = 1) := hk
  have bk : k1 ≤ 5 := by omega
  clear hk
  obtain ⟨res, HRES⟩ : ∃ res, Hid ([[Cd.be 6 k1, Cd.be 6 k2, Cd.be 6 k3].flatten, (Cd.be 2 t4.length ++ t4), (Cd.be 2 t5.length ++ t5)].flatten = res) := ⟨_, rfl⟩
  rw [HRES.out]
  go_enter Tryz.func36, Tryz.ntmps36
  go_wp2_with fail
  have RB : ∀ k w w', Below w.heap.size w w' → (fun (_ : Nat) (_ : World) => True) k w → (fun (_ : Nat) (_ : World) => True) k w' := fun _ _ _ _ _ => trivial
  refine wp_region_st (rb1 w.heap.size k1 k2 k3) (fun u u' => Only [] u u') (SeqS [] (fun (_ : Nat) (_ : World) => True)) (by kernel_rfl) (only_drew _ _) (only_trans _) (rb1_kept w.heap.size k1 k2 k3) (by kernel_rfl) (SeqS.start (trivial)) ?_ ?_
  · intro i o a' w' f hi inv hS hfi hfw hpre
    have ho : Only [] (w.alloc (.cells #[.int .i64 (k1 : Int), .int .i64 (k2 : Int), .int .i64 (k3 : Int), .slice np t4.length nc, .slice vp t5.length vc, .int .i64 (k6 : Int), .int .i64 (k7 : Int), .int .i64 (k8 : Int), .slice q n9 c] 59)) w' := inv.grow
    have hlt : i < 12 := (Array.getElem?_eq_some_iff.1 hi).1
    obtain rfl|rfl|rfl|rfl|rfl|rfl|rfl|rfl|rfl|rfl|rfl|rfl : i = 0 ∨ i = 1 ∨ i = 2 ∨ i = 3 ∨ i = 4 ∨ i = 5 ∨ i = 6 ∨ i = 7 ∨ i = 8 ∨ i = 9 ∨ i = 10 ∨ i = 11 := by omega
    · obtain rfl := Option.some.inj hi
      have h0 : a'.tmps.getD 1 undef = (.pointer (some ⟨w.heap.size, 0, none⟩)) := by rw [inv.old 1 (notDst_spec (by kernel_rfl))]; rfl
      exact sq_value _ rfl rfl (fa_run 59 0 1 w.heap.size rfl h0 (fa30_0 w.heap.size)) (Below.refl _ _) (by decide) hS RB rfl
    · obtain rfl := Option.some.inj hi
      have h0 : a'.tmps.getD 5 undef = _ := pre_of hpre 0 5 (by kernel_rfl) (by kernel_rfl)
      exact sq_value _ rfl rfl (load_run 3 5 w.heap.size (0) _ rfl h0 (ld3 (HE0.out w' ho))) (Below.refl _ _) (by decide) hS RB rfl
    · obtain rfl := Option.some.inj hi
      have h0 : a'.tmps.getD 6 undef = _ := pre_of hpre 1 6 (by kernel_rfl) (by kernel_rfl)
      refine sq_quiet 73 #[a'.tmps.getD 6 undef] rfl rfl (by kernel_rfl) (by decide) hS ?_
      rw [h0]
      exact num_q k1 w' (by omega)
    · obtain rfl := Option.some.inj hi
      have h0 : a'.tmps.getD 1 undef = (.pointer (some ⟨w.heap.size, 0, none⟩)) := by rw [inv.old 1 (notDst_spec (by kernel_rfl))]; rfl
      exact sq_value _ rfl rfl (fa_run 59 1 1 w.heap.size rfl h0 (fa30_1 w.heap.size)) (Below.refl _ _) (by decide) hS RB rfl
    · obtain rfl := Option.some.inj hi
      have h0 : a'.tmps.getD 8 undef = _ := pre_of hpre 3 8 (by kernel_rfl) (by kernel_rfl)
      exact sq_value _ rfl rfl (load_run 3 8 w.heap.size (1) _ rfl h0 (ld3 (HE1.out w' ho))) (Below.refl _ _) (by decide) hS RB rfl
    · obtain rfl := Option.some.inj hi
      have h0 : a'.tmps.getD 9 undef = _ := pre_of hpre 4 9 (by kernel_rfl) (by kernel_rfl)
      refine sq_quiet 73 #[a'.tmps.getD 9 undef] rfl rfl (by kernel_rfl) (by decide) hS ?_
      rw [h0]
      exact num_q k2 w' (by omega)
    · obtain rfl := Option.some.inj hi
      have h0 : a'.tmps.getD 1 undef = (.pointer (some ⟨w.heap.size, 0, none⟩)) := by rw [inv.old 1 (notDst_spec (by kernel_rfl))]; rfl
      exact sq_value _ rfl rfl (fa_run 59 2 1 w.heap.size rfl h0 (fa30_2 w.heap.size)) (Below.refl _ _) (by decide) hS RB rfl
    · obtain rfl := Option.some.inj hi
      have h0 : a'.tmps.getD 11 undef = _ := pre_of hpre 6 11 (by kernel_rfl) (by kernel_rfl)
      exact sq_value _ rfl rfl (load_run 3 11 w.heap.size (2) _ rfl h0 (ld3 (HE2.out w' ho))) (Below.refl _ _) (by decide) hS RB rfl
    · obtain rfl := Option.some.inj hi
      have h0 : a'.tmps.getD 12 undef = _ := pre_of hpre 7 12 (by kernel_rfl) (by kernel_rfl)
      refine sq_quiet 73 #[a'.tmps.getD 12 undef] rfl rfl (by kernel_rfl) (by decide) hS ?_
      rw [h0]
      exact num_q k3 w' (by omega)
    · obtain rfl := Option.some.inj hi
      have h0 := pre_of hpre 2 7 (by kernel_rfl) (by kernel_rfl)
      have h1 := pre_of hpre 5 10 (by kernel_rfl) (by kernel_rfl)
      have h2 := pre_of hpre 8 13 (by kernel_rfl) (by kernel_rfl)
      exact sq_value _ rfl rfl (build3_run 7 10 13 _ _ _ rfl (slc_of h0.1) (slc_of h1.1) (slc_of h2.1) rfl rfl rfl) ((Below.refl _ _).alloc (Nat.le_refl _) _) (by decide) hS RB (pcs3 _ _ _ _ _ _ _ h0.1 h1.1 h2.1)
    · obtain rfl := Option.some.inj hi
      have h0 := pre_of hpre 9 14 (by kernel_rfl) (by kernel_rfl)
      refine sq_quiet 81 #[a'.tmps.getD 14 undef] rfl rfl (by kernel_rfl) (by decide) hS ?_
      exact join_q _ [(Cd.be 6 k1), (Cd.be 6 k2), (Cd.be 6 k3)] w' h0 (by simp) (by simp [Cd.be_length] <;> omega) (HSM.out)
    · obtain rfl := Option.some.inj hi
      have h0 := pre_of hpre 10 15 (by kernel_rfl) (by kernel_rfl)
      exact sq_value _ rfl rfl (rfl) (Below.refl _ _) (by decide) hS RB h0
  · intro a' w3 f inv hS hall hd
    have hk11 := hd 11 3 (by kernel_rfl)
    have ho : Only [] (w.alloc (.cells #[.int .i64 (k1 : Int), .int .i64 (k2 : Int), .int .i64 (k3 : Int), .slice np t4.length nc, .slice vp t5.length vc, .int .i64 (k6 : Int), .int .i64 (k7 : Int), .int .i64 (k8 : Int), .slice q n9 c] 59)) w3 := inv.grow
    have hdf : a'.defers = [] := inv.defers
    have hsz : a'.tmps.size = 91 := inv.size
    have e := frame16_1 hsz (fun t ht => inv.old t (dstsIn_spec (ts := [3, 5, 6, 7, 8, 9, 10, 11, 12, 13, 14, 15]) (by kernel_rfl) t ht))
    have hR := hS.done (fun c hc => hall c (show c < 12 by simp at hc <;> omega))
    clear inv hd hsz hall hS
    obtain ⟨tmps, defers⟩ := a'
    obtain rfl : defers = [] := hdf
    replace e : tmps = _ := e
    replace hk11 : SrcV [] [(Cd.be 6 k1), (Cd.be 6 k2), (Cd.be 6 k3)].flatten (tmps.getD 3 undef) w3 := hk11
    generalize tmps.getD 3 undef = x3 at *
    generalize tmps.getD 5 undef = x5 at *
    generalize tmps.getD 6 undef = x6 at *
    generalize tmps.getD 7 undef = x7 at *
    generalize tmps.getD 8 undef = x8 at *
    generalize tmps.getD 9 undef = x9 at *
    generalize tmps.getD 10 undef = x10 at *
    generalize tmps.getD 11 undef = x11 at *
    generalize tmps.getD 12 undef = x12 at *
    generalize tmps.getD 13 undef = x13 at *
    generalize tmps.getD 14 undef = x14 at *
    generalize tmps.getD 15 undef = x15 at *
    simp only [Array.getD_eq_getD_getElem?, List.getElem?_toArray, List.getElem?_cons_succ, List.getElem?_cons_zero, Option.getD_some] at e
    subst e
    obtain ⟨hb, HHB⟩ : ∃ hb, Hid ([Cd.be 6 k1, Cd.be 6 k2, Cd.be 6 k3].flatten = hb) := ⟨_, rfl⟩
    rw [HHB.out] at hk11 HSM HLB HRES
    clear HHB hR
    replace HE0 : Hid (∀ w', Only [] w3 w' → w'.cell? ⟨w.heap.size, 0, none⟩ = some (.int .i64 (k1 : Int))) := fun w' h => HE0.out w' (only_trans _ _ _ _ ho h)
    replace HE1 : Hid (∀ w', Only [] w3 w' → w'.cell? ⟨w.heap.size, 1, none⟩ = some (.int .i64 (k2 : Int))) := fun w' h => HE1.out w' (only_trans _ _ _ _ ho h)
    replace HE2 : Hid (∀ w', Only [] w3 w' → w'.cell? ⟨w.heap.size, 2, none⟩ = some (.int .i64 (k3 : Int))) := fun w' h => HE2.out w' (only_trans _ _ _ _ ho h)
    replace HE3 : Hid (∀ w', Only [] w3 w' → w'.cell? ⟨w.heap.size, 3, none⟩ = some (.slice np t4.length nc)) := fun w' h => HE3.out w' (only_trans _ _ _ _ ho h)
    replace HE4 : Hid (∀ w', Only [] w3 w' → w'.cell? ⟨w.heap.size, 4, none⟩ = some (.slice vp t5.length vc)) := fun w' h => HE4.out w' (only_trans _ _ _ _ ho h)
    replace HE5 : Hid (∀ w', Only [] w3 w' → w'.cell? ⟨w.heap.size, 5, none⟩ = some (.int .i64 (k6 : Int))) := fun w' h => HE5.out w' (only_trans _ _ _ _ ho h)
    replace HE6 : Hid (∀ w', Only [] w3 w' → w'.cell? ⟨w.heap.size, 6, none⟩ = some (.int .i64 (k7 : Int))) := fun w' h => HE6.out w' (only_trans _ _ _ _ ho h)
    replace HE7 : Hid (∀ w', Only [] w3 w' → w'.cell? ⟨w.heap.size, 7, none⟩ = some (.int .i64 (k8 : Int))) := fun w' h => HE7.out w' (only_trans _ _ _ _ ho h)
    replace HE8 : Hid (∀ w', Only [] w3 w' → w'.cell? ⟨w.heap.size, 8, none⟩ = some (.slice q n9 c)) := fun w' h => HE8.out w' (only_trans _ _ _ _ ho h)
    replace HS3 : Hid (∀ w', Only [] w3 w' → SrcV [] t4 (.slice np t4.length nc) w') := fun w' h => HS3.out w' (only_trans _ _ _ _ ho h)
    replace HS4 : Hid (∀ w', Only [] w3 w' → SrcV [] t5 (.slice vp t5.length vc) w') := fun w' h => HS4.out w' (only_trans _ _ _ _ ho h)
    replace HBA : Hid (∀ w', Only [] w3 w' → Below w.heap.size w w') := fun w' h => HBA.out w' (only_trans _ _ _ _ ho h)
    have HH : Hid (∀ w', Only [] w3 w' → SrcV [] hb x3 w') := fun w' h => hk11.kept h
    have c0 := HE0.out w3 (Only.refl _ _)
    clear ho hk11 HB HBO
    replace HSM : Hid (∀ x ∈ [hb, (Cd.be 2 t4.length ++ t4), (Cd.be 2 t5.length ++ t5)].flatten, x < 256) := by
      show ∀ x ∈ _, _
      simp only [List.flatten_cons, List.flatten_nil, List.append_nil, List.mem_append]
      intro x h
      have := Cd.be_lt 6 k6 x
      have := Cd.be_lt 6 k7 x
      have := Cd.be_lt 2 t4.length x
      have := Cd.be_lt 2 t5.length x
      have := HT4.out x
      have := HT5.out x
      have := HSM.out x
      grind
    have hlb : hb.length = 18 := HLB.out
    have hk := HK.out
    have y1 : ((k1 : Int) == 1) = true := by simp; omega
    have z1 : (k1 : Int) = 1 := by omega
    have y2 : ((k1 : Int) == 2) = false := by simp; omega
    have z2 : ¬ (k1 : Int) = 2 := by omega
    have y3 : ((k1 : Int) == 3) = false := by simp; omega
    have z3 : ¬ (k1 : Int) = 3 := by omega
    have y4 : ((k1 : Int) == 4) = false := by simp; omega
    have z4 : ¬ (k1 : Int) = 4 := by omega
    clear hk
    go_wp2_with fail
    have RB : ∀ k w w', Below w.heap.size w w' → (fun (_ : Nat) (_ : World) => True) k w → (fun (_ : Nat) (_ : World) => True) k w' := fun _ _ _ _ _ => trivial
    refine wp_region_st (rb4 w.heap.size hb t4 t5) (fun u u' => Only [] u u') (SeqS [] (fun (_ : Nat) (_ : World) => True)) (by kernel_rfl) (only_drew _ _) (only_trans _) (rb4_kept w.heap.size hb t4 t5) (by kernel_rfl) (SeqS.start (trivial)) ?_ ?_
    · intro i o a' w' f hi inv hS hfi hfw hpre
      have ho : Only [] w3 w' := inv.grow
      have hlt : i < 10 := (Array.getElem?_eq_some_iff.1 hi).1
      obtain rfl|rfl|rfl|rfl|rfl|rfl|rfl|rfl|rfl|rfl : i = 0 ∨ i = 1 ∨ i = 2 ∨ i = 3 ∨ i = 4 ∨ i = 5 ∨ i = 6 ∨ i = 7 ∨ i = 8 ∨ i = 9 := by omega
      · obtain rfl := Option.some.inj hi
        exact sq_value _ rfl rfl rfl (Below.refl _ _) (by decide) hS RB (by show SrcV _ _ (a'.tmps.getD 3 undef) _; rw [inv.old 3 (notDst_spec (by kernel_rfl))]; exact HH.out w' ho)
      · obtain rfl := Option.some.inj hi
        have h0 : a'.tmps.getD 1 undef = (.pointer (some ⟨w.heap.size, 0, none⟩)) := by rw [inv.old 1 (notDst_spec (by kernel_rfl))]; rfl
        exact sq_value _ rfl rfl (fa_run 59 3 1 w.heap.size rfl h0 (fa30_3 w.heap.size)) (Below.refl _ _) (by decide) hS RB rfl
      · obtain rfl := Option.some.inj hi
        have h0 : a'.tmps.getD 21 undef = _ := pre_of hpre 1 21 (by kernel_rfl) (by kernel_rfl)
        exact sq_value _ rfl rfl (load_run 22 21 w.heap.size (3) _ rfl h0 (ld22 (HE3.out w' ho))) (Below.refl _ _) (by decide) hS RB (HS3.out w' ho)
      · obtain rfl := Option.some.inj hi
        have h0 := pre_of hpre 2 22 (by kernel_rfl) (by kernel_rfl)
        refine sq_quiet 38 #[a'.tmps.getD 22 undef] rfl rfl (by kernel_rfl) (by decide) hS ?_
        exact text_q _ t4 w' h0.1 (by omega)
      · obtain rfl := Option.some.inj hi
        have h0 : a'.tmps.getD 1 undef = (.pointer (some ⟨w.heap.size, 0, none⟩)) := by rw [inv.old 1 (notDst_spec (by kernel_rfl))]; rfl
        exact sq_value _ rfl rfl (fa_run 59 4 1 w.heap.size rfl h0 (fa30_4 w.heap.size)) (Below.refl _ _) (by decide) hS RB rfl
      · obtain rfl := Option.some.inj hi
        have h0 : a'.tmps.getD 24 undef = _ := pre_of hpre 4 24 (by kernel_rfl) (by kernel_rfl)
        exact sq_value _ rfl rfl (load_run 22 24 w.heap.size (4) _ rfl h0 (ld22 (HE4.out w' ho))) (Below.refl _ _) (by decide) hS RB (HS4.out w' ho)
      · obtain rfl := Option.some.inj hi
        have h0 := pre_of hpre 5 25 (by kernel_rfl) (by kernel_rfl)
        refine sq_quiet 38 #[a'.tmps.getD 25 undef] rfl rfl (by kernel_rfl) (by decide) hS ?_
        exact text_q _ t5 w' h0.1 (by omega)
      · obtain rfl := Option.some.inj hi
        have h0 := pre_of hpre 0 20 (by kernel_rfl) (by kernel_rfl)
        have h1 := pre_of hpre 3 23 (by kernel_rfl) (by kernel_rfl)
        have h2 := pre_of hpre 6 26 (by kernel_rfl) (by kernel_rfl)
        exact sq_value _ rfl rfl (build3_run 20 23 26 _ _ _ rfl (slc_of h0.1) (slc_of h1.1) (slc_of h2.1) rfl rfl rfl) ((Below.refl _ _).alloc (Nat.le_refl _) _) (by decide) hS RB (pcs3 _ _ _ _ _ _ _ h0.1 h1.1 h2.1)
      · obtain rfl := Option.some.inj hi
        have h0 := pre_of hpre 7 27 (by kernel_rfl) (by kernel_rfl)
        refine sq_quiet 81 #[a'.tmps.getD 27 undef] rfl rfl (by kernel_rfl) (by decide) hS ?_
        exact join_q _ [hb, (Cd.be 2 t4.length ++ t4), (Cd.be 2 t5.length ++ t5)] w' h0 (by simp) (by simp [Cd.be_length] <;> omega) (HSM.out)
      · obtain rfl := Option.some.inj hi
        have h0 := pre_of hpre 8 28 (by kernel_rfl) (by kernel_rfl)
        exact sq_value _ rfl rfl (rfl) (Below.refl _ _) (by decide) hS RB h0
    · intro a' w4 f inv hS hall hd
      have hk9 := hd 9 2 (by kernel_rfl)
      have ho : Only [] w3 w4 := inv.grow
      have hdf : a'.defers = [] := inv.defers
      have hsz : a'.tmps.size = 91 := inv.size
      have e := frame16_4 hsz (fun t ht => inv.old t (dstsIn_spec (ts := [2, 20, 21, 22, 23, 24, 25, 26, 27, 28]) (by kernel_rfl) t ht))
      have hR := hS.done (fun c hc => hall c (show c < 10 by simp at hc <;> omega))
      clear inv hd hsz hall hS
      obtain ⟨tmps, defers⟩ := a'
      obtain rfl : defers = [] := hdf
      replace e : tmps = _ := e
      replace hk9 : SrcV [] [hb, (Cd.be 2 t4.length ++ t4), (Cd.be 2 t5.length ++ t5)].flatten (tmps.getD 2 undef) w4 := hk9
      generalize tmps.getD 2 undef = x2 at *
      generalize tmps.getD 20 undef = x20 at *
      generalize tmps.getD 21 undef = x21 at *
      generalize tmps.getD 22 undef = x22 at *
      generalize tmps.getD 23 undef = x23 at *
      generalize tmps.getD 24 undef = x24 at *
      generalize tmps.getD 25 undef = x25 at *
      generalize tmps.getD 26 undef = x26 at *
      generalize tmps.getD 27 undef = x27 at *
      generalize tmps.getD 28 undef = x28 at *
      simp only [Array.getD_eq_getD_getElem?, List.getElem?_toArray, List.getElem?_cons_succ, List.getElem?_cons_zero, Option.getD_some] at e
      subst e
      have HF : Hid (Src w4 x2 res ∧ Below w.heap.size w w4) := ⟨HRES.out ▸ hk9.1, HBA.out _ ho⟩
      clear ho hk9 hR HBA HH HSM
      go_wp2_with fail
      go_ret
      exact ⟨_, rfl, HF.out⟩
end Go.Proofs.YtfjdaafckiefdaaGreatDoor.E9
/- The document's Bytes: the kind 2. -/
namespace Go.Proofs.YtfjdaafckiefdaaGreatDoor.E9
open Go.RowKit C8
set_option maxHeartbeats 8000000 in
theorem rBytes2 (w : World) (k1 k2 k3 k6 k7 k8 : Nat) (t4 t5 : List Nat) (np vp q : Option Addr) (nc vc c n9 : Nat) (hk : k1 = 2) (b2 : k2 ≤ 16) (b3 : k3 ≤ 1099511627776) (hs4 : Src w (.slice np t4.length nc) t4) (hs5 : Src w (.slice vp t5.length vc) t5) (b4 : t4.length ≤ 64) :
    Calls Tryz.prog 36 #[.agg #[.int .i64 (k1 : Int), .int .i64 (k2 : Int), .int .i64 (k3 : Int), .slice np t4.length nc, .slice vp t5.length vc, .int .i64 (k6 : Int), .int .i64 (k7 : Int), .int .i64 (k8 : Int), .slice q n9 c]] w fun e w' => ∃ v, e = .returned v ∧ Src w' v [[Cd.be 6 k1, Cd.be 6 k2, Cd.be 6 k3].flatten, (Cd.be 2 t4.length ++ t4)].flatten ∧ Below w.heap.size w w' := by
  have HB : Hid (Below w.heap.size w (w.alloc (.cells #[.int .i64 (k1 : Int), .int .i64 (k2 : Int), .int .i64 (k3 : Int), .slice np t4.length nc, .slice vp t5.length vc, .int .i64 (k6 : Int), .int .i64 (k7 : Int), .int .i64 (k8 : Int), .slice q n9 c] 59))) := bel_alloc (Nat.le_refl _) _
  have HBO : Hid (∀ w', Only [] (w.alloc (.cells #[.int .i64 (k1 : Int), .int .i64 (k2 : Int), .int .i64 (k3 : Int), .slice np t4.length nc, .slice vp t5.length vc, .int .i64 (k6 : Int), .int .i64 (k7 : Int), .int .i64 (k8 : Int), .slice q n9 c] 59)) w' → Below w.heap.size (w.alloc (.cells #[.int .i64 (k1 : Int), .int .i64 (k2 : Int), .int .i64 (k3 : Int), .slice np t4.length nc, .slice vp t5.length vc, .int .i64 (k6 : Int), .int .i64 (k7 : Int), .int .i64 (k8 : Int), .slice q n9 c] 59)) w') := fun w' h => h.below (by simp) (by simp)
  have HBA : Hid (∀ w', Only [] (w.alloc (.cells #[.int .i64 (k1 : Int), .int .i64 (k2 : Int), .int .i64 (k3 : Int), .slice np t4.length nc, .slice vp t5.length vc, .int .i64 (k6 : Int), .int .i64 (k7 : Int), .int .i64 (k8 : Int), .slice q n9 c] 59)) w' → Below w.heap.size w w') := fun w' h => HB.out.trans (HBO.out w' h)
  have HE0 : Hid (∀ w', Only [] (w.alloc (.cells #[.int .i64 (k1 : Int), .int .i64 (k2 : Int), .int .i64 (k3 : Int), .slice np t4.length nc, .slice vp t5.length vc, .int .i64 (k6 : Int), .int .i64 (k7 : Int), .int .i64 (k8 : Int), .slice q n9 c] 59)) w' → w'.cell? ⟨w.heap.size, 0, none⟩ = some (.int .i64 (k1 : Int))) := fun w' h => (((h.below (B := w.heap.size + 1) (by simp) (by simp)).cell (p := ⟨w.heap.size, 0, none⟩) (Nat.lt_succ_self _)).trans (by rw [cell_of_row _ _ _ _ _ _ (heap_alloc_new w _)]; rfl))
  have HE1 : Hid (∀ w', Only [] (w.alloc (.cells #[.int .i64 (k1 : Int), .int .i64 (k2 : Int), .int .i64 (k3 : Int), .slice np t4.length nc, .slice vp t5.length vc, .int .i64 (k6 : Int), .int .i64 (k7 : Int), .int .i64 (k8 : Int), .slice q n9 c] 59)) w' → w'.cell? ⟨w.heap.size, 1, none⟩ = some (.int .i64 (k2 : Int))) := fun w' h => (((h.below (B := w.heap.size + 1) (by simp) (by simp)).cell (p := ⟨w.heap.size, 1, none⟩) (Nat.lt_succ_self _)).trans (by rw [cell_of_row _ _ _ _ _ _ (heap_alloc_new w _)]; rfl))
  have HE2 : Hid (∀ w', Only [] (w.alloc (.cells #[.int .i64 (k1 : Int), .int .i64 (k2 : Int), .int .i64 (k3 : Int), .slice np t4.length nc, .slice vp t5.length vc, .int .i64 (k6 : Int), .int .i64 (k7 : Int), .int .i64 (k8 : Int), .slice q n9 c] 59)) w' → w'.cell? ⟨w.heap.size, 2, none⟩ = some (.int .i64 (k3 : Int))) := fun w' h => (((h.below (B := w.heap.size + 1) (by simp) (by simp)).cell (p := ⟨w.heap.size, 2, none⟩) (Nat.lt_succ_self _)).trans (by rw [cell_of_row _ _ _ _ _ _ (heap_alloc_new w _)]; rfl))
  have HE3 : Hid (∀ w', Only [] (w.alloc (.cells #[.int .i64 (k1 : Int), .int .i64 (k2 : Int), .int .i64 (k3 : Int), .slice np t4.length nc, .slice vp t5.length vc, .int .i64 (k6 : Int), .int .i64 (k7 : Int), .int .i64 (k8 : Int), .slice q n9 c] 59)) w' → w'.cell? ⟨w.heap.size, 3, none⟩ = some (.slice np t4.length nc)) := fun w' h => (((h.below (B := w.heap.size + 1) (by simp) (by simp)).cell (p := ⟨w.heap.size, 3, none⟩) (Nat.lt_succ_self _)).trans (by rw [cell_of_row _ _ _ _ _ _ (heap_alloc_new w _)]; rfl))
  have HE4 : Hid (∀ w', Only [] (w.alloc (.cells #[.int .i64 (k1 : Int), .int .i64 (k2 : Int), .int .i64 (k3 : Int), .slice np t4.length nc, .slice vp t5.length vc, .int .i64 (k6 : Int), .int .i64 (k7 : Int), .int .i64 (k8 : Int), .slice q n9 c] 59)) w' → w'.cell? ⟨w.heap.size, 4, none⟩ = some (.slice vp t5.length vc)) := fun w' h => (((h.below (B := w.heap.size + 1) (by simp) (by simp)).cell (p := ⟨w.heap.size, 4, none⟩) (Nat.lt_succ_self _)).trans (by rw [cell_of_row _ _ _ _ _ _ (heap_alloc_new w _)]; rfl))
  have HE5 : Hid (∀ w', Only [] (w.alloc (.cells #[.int .i64 (k1 : Int), .int .i64 (k2 : Int), .int .i64 (k3 : Int), .slice np t4.length nc, .slice vp t5.length vc, .int .i64 (k6 : Int), .int .i64 (k7 : Int), .int .i64 (k8 : Int), .slice q n9 c] 59)) w' → w'.cell? ⟨w.heap.size, 5, none⟩ = some (.int .i64 (k6 : Int))) := fun w' h => (((h.below (B := w.heap.size + 1) (by simp) (by simp)).cell (p := ⟨w.heap.size, 5, none⟩) (Nat.lt_succ_self _)).trans (by rw [cell_of_row _ _ _ _ _ _ (heap_alloc_new w _)]; rfl))
  have HE6 : Hid (∀ w', Only [] (w.alloc (.cells #[.int .i64 (k1 : Int), .int .i64 (k2 : Int), .int .i64 (k3 : Int), .slice np t4.length nc, .slice vp t5.length vc, .int .i64 (k6 : Int), .int .i64 (k7 : Int), .int .i64 (k8 : Int), .slice q n9 c] 59)) w' → w'.cell? ⟨w.heap.size, 6, none⟩ = some (.int .i64 (k7 : Int))) := fun w' h => (((h.below (B := w.heap.size + 1) (by simp) (by simp)).cell (p := ⟨w.heap.size, 6, none⟩) (Nat.lt_succ_self _)).trans (by rw [cell_of_row _ _ _ _ _ _ (heap_alloc_new w _)]; rfl))
  have HE7 : Hid (∀ w', Only [] (w.alloc (.cells #[.int .i64 (k1 : Int), .int .i64 (k2 : Int), .int .i64 (k3 : Int), .slice np t4.length nc, .slice vp t5.length vc, .int .i64 (k6 : Int), .int .i64 (k7 : Int), .int .i64 (k8 : Int), .slice q n9 c] 59)) w' → w'.cell? ⟨w.heap.size, 7, none⟩ = some (.int .i64 (k8 : Int))) := fun w' h => (((h.below (B := w.heap.size + 1) (by simp) (by simp)).cell (p := ⟨w.heap.size, 7, none⟩) (Nat.lt_succ_self _)).trans (by rw [cell_of_row _ _ _ _ _ _ (heap_alloc_new w _)]; rfl))
  have HE8 : Hid (∀ w', Only [] (w.alloc (.cells #[.int .i64 (k1 : Int), .int .i64 (k2 : Int), .int .i64 (k3 : Int), .slice np t4.length nc, .slice vp t5.length vc, .int .i64 (k6 : Int), .int .i64 (k7 : Int), .int .i64 (k8 : Int), .slice q n9 c] 59)) w' → w'.cell? ⟨w.heap.size, 8, none⟩ = some (.slice q n9 c)) := fun w' h => (((h.below (B := w.heap.size + 1) (by simp) (by simp)).cell (p := ⟨w.heap.size, 8, none⟩) (Nat.lt_succ_self _)).trans (by rw [cell_of_row _ _ _ _ _ _ (heap_alloc_new w _)]; rfl))
  have HS3 : Hid (∀ w', Only [] (w.alloc (.cells #[.int .i64 (k1 : Int), .int .i64 (k2 : Int), .int .i64 (k3 : Int), .slice np t4.length nc, .slice vp t5.length vc, .int .i64 (k6 : Int), .int .i64 (k7 : Int), .int .i64 (k8 : Int), .slice q n9 c] 59)) w' → SrcV [] t4 (.slice np t4.length nc) w') := fun w' h => srcV_of (hs4.below (HBA.out w' h))
  have HS4 : Hid (∀ w', Only [] (w.alloc (.cells #[.int .i64 (k1 : Int), .int .i64 (k2 : Int), .int .i64 (k3 : Int), .slice np t4.length nc, .slice vp t5.length vc, .int .i64 (k6 : Int), .int .i64 (k7 : Int), .int .i64 (k8 : Int), .slice q n9 c] 59)) w' → SrcV [] t5 (.slice vp t5.length vc) w') := fun w' h => srcV_of (hs5.below (HBA.out w' h))
  have HSM : Hid (∀ x ∈ [Cd.be 6 k1, Cd.be 6 k2, Cd.be 6 k3].flatten, x < 256) := by
    show ∀ x ∈ _, _
    simp only [List.flatten_cons, List.flatten_nil, List.append_nil, List.mem_append]
    rintro x (h | h | h) <;> exact Cd.be_lt _ _ x h
  have HT4 : Hid (∀ x ∈ t4, x < 256) := hs4.small
  have HT5 : Hid (∀ x ∈ t5, x < 256) := hs5.small
  have HLB : Hid ([Cd.be 6 k1, Cd.be 6 k2, Cd.be 6 k3].flatten.length = 18) := by show _ = _; simp [Cd.be_length]
  clear hs4 hs5
  have HK : Hid (k1 = 2) := hk
  have bk : k1 ≤ 5 := by omega
  clear hk
  obtain ⟨res, HRES⟩ : ∃ res, Hid ([[Cd.be 6 k1, Cd.be 6 k2, Cd.be 6 k3].flatten, (Cd.be 2 t4.length ++ t4)].flatten = res) := ⟨_, rfl⟩
  rw [HRES.out]
  go_enter Tryz.func36, Tryz.ntmps36
  go_wp2_with fail
  have RB : ∀ k w w', Below w.heap.size w w' → (fun (_ : Nat) (_ : World) => True) k w → (fun (_ : Nat) (_ : World) => True) k w' := fun _ _ _ _ _ => trivial
  refine wp_region_st (rb1 w.heap.size k1 k2 k3) (fun u u' => Only [] u u') (SeqS [] (fun (_ : Nat) (_ : World) => True)) (by kernel_rfl) (only_drew _ _) (only_trans _) (rb1_kept w.heap.size k1 k2 k3) (by kernel_rfl) (SeqS.start (trivial)) ?_ ?_
  · intro i o a' w' f hi inv hS hfi hfw hpre
    have ho : Only [] (w.alloc (.cells #[.int .i64 (k1 : Int), .int .i64 (k2 : Int), .int .i64 (k3 : Int), .slice np t4.length nc, .slice vp t5.length vc, .int .i64 (k6 : Int), .int .i64 (k7 : Int), .int .i64 (k8 : Int), .slice q n9 c] 59)) w' := inv.grow
    have hlt : i < 12 := (Array.getElem?_eq_some_iff.1 hi).1
    obtain rfl|rfl|rfl|rfl|rfl|rfl|rfl|rfl|rfl|rfl|rfl|rfl : i = 0 ∨ i = 1 ∨ i = 2 ∨ i = 3 ∨ i = 4 ∨ i = 5 ∨ i = 6 ∨ i = 7 ∨ i = 8 ∨ i = 9 ∨ i = 10 ∨ i = 11 := by omega
    · obtain rfl := Option.some.inj hi
      have h0 : a'.tmps.getD 1 undef = (.pointer (some ⟨w.heap.size, 0, none⟩)) := by rw [inv.old 1 (notDst_spec (by kernel_rfl))]; rfl
      exact sq_value _ rfl rfl (fa_run 59 0 1 w.heap.size rfl h0 (fa30_0 w.heap.size)) (Below.refl _ _) (by decide) hS RB rfl
    · obtain rfl := Option.some.inj hi
      have h0 : a'.tmps.getD 5 undef = _ := pre_of hpre 0 5 (by kernel_rfl) (by kernel_rfl)
      exact sq_value _ rfl rfl (load_run 3 5 w.heap.size (0) _ rfl h0 (ld3 (HE0.out w' ho))) (Below.refl _ _) (by decide) hS RB rfl
    · obtain rfl := Option.some.inj hi
      have h0 : a'.tmps.getD 6 undef = _ := pre_of hpre 1 6 (by kernel_rfl) (by kernel_rfl)
      refine sq_quiet 73 #[a'.tmps.getD 6 undef] rfl rfl (by kernel_rfl) (by decide) hS ?_
      rw [h0]
      exact num_q k1 w' (by omega)
    · obtain rfl := Option.some.inj hi
      have h0 : a'.tmps.getD 1 undef = (.pointer (some ⟨w.heap.size, 0, none⟩)) := by rw [inv.old 1 (notDst_spec (by kernel_rfl))]; rfl
      exact sq_value _ rfl rfl (fa_run 59 1 1 w.heap.size rfl h0 (fa30_1 w.heap.size)) (Below.refl _ _) (by decide) hS RB rfl
    · obtain rfl := Option.some.inj hi
      have h0 : a'.tmps.getD 8 undef = _ := pre_of hpre 3 8 (by kernel_rfl) (by kernel_rfl)
      exact sq_value _ rfl rfl (load_run 3 8 w.heap.size (1) _ rfl h0 (ld3 (HE1.out w' ho))) (Below.refl _ _) (by decide) hS RB rfl
    · obtain rfl := Option.some.inj hi
      have h0 : a'.tmps.getD 9 undef = _ := pre_of hpre 4 9 (by kernel_rfl) (by kernel_rfl)
      refine sq_quiet 73 #[a'.tmps.getD 9 undef] rfl rfl (by kernel_rfl) (by decide) hS ?_
      rw [h0]
      exact num_q k2 w' (by omega)
    · obtain rfl := Option.some.inj hi
      have h0 : a'.tmps.getD 1 undef = (.pointer (some ⟨w.heap.size, 0, none⟩)) := by rw [inv.old 1 (notDst_spec (by kernel_rfl))]; rfl
      exact sq_value _ rfl rfl (fa_run 59 2 1 w.heap.size rfl h0 (fa30_2 w.heap.size)) (Below.refl _ _) (by decide) hS RB rfl
    · obtain rfl := Option.some.inj hi
      have h0 : a'.tmps.getD 11 undef = _ := pre_of hpre 6 11 (by kernel_rfl) (by kernel_rfl)
      exact sq_value _ rfl rfl (load_run 3 11 w.heap.size (2) _ rfl h0 (ld3 (HE2.out w' ho))) (Below.refl _ _) (by decide) hS RB rfl
    · obtain rfl := Option.some.inj hi
      have h0 : a'.tmps.getD 12 undef = _ := pre_of hpre 7 12 (by kernel_rfl) (by kernel_rfl)
      refine sq_quiet 73 #[a'.tmps.getD 12 undef] rfl rfl (by kernel_rfl) (by decide) hS ?_
      rw [h0]
      exact num_q k3 w' (by omega)
    · obtain rfl := Option.some.inj hi
      have h0 := pre_of hpre 2 7 (by kernel_rfl) (by kernel_rfl)
      have h1 := pre_of hpre 5 10 (by kernel_rfl) (by kernel_rfl)
      have h2 := pre_of hpre 8 13 (by kernel_rfl) (by kernel_rfl)
      exact sq_value _ rfl rfl (build3_run 7 10 13 _ _ _ rfl (slc_of h0.1) (slc_of h1.1) (slc_of h2.1) rfl rfl rfl) ((Below.refl _ _).alloc (Nat.le_refl _) _) (by decide) hS RB (pcs3 _ _ _ _ _ _ _ h0.1 h1.1 h2.1)
    · obtain rfl := Option.some.inj hi
      have h0 := pre_of hpre 9 14 (by kernel_rfl) (by kernel_rfl)
      refine sq_quiet 81 #[a'.tmps.getD 14 undef] rfl rfl (by kernel_rfl) (by decide) hS ?_
      exact join_q _ [(Cd.be 6 k1), (Cd.be 6 k2), (Cd.be 6 k3)] w' h0 (by simp) (by simp [Cd.be_length] <;> omega) (HSM.out)
    · obtain rfl := Option.some.inj hi
      have h0 := pre_of hpre 10 15 (by kernel_rfl) (by kernel_rfl)
      exact sq_value _ rfl rfl (rfl) (Below.refl _ _) (by decide) hS RB h0
  · intro a' w3 f inv hS hall hd
    have hk11 := hd 11 3 (by kernel_rfl)
    have ho : Only [] (w.alloc (.cells #[.int .i64 (k1 : Int), .int .i64 (k2 : Int), .int .i64 (k3 : Int), .slice np t4.length nc, .slice vp t5.length vc, .int .i64 (k6 : Int), .int .i64 (k7 : Int), .int .i64 (k8 : Int), .slice q n9 c] 59)) w3 := inv.grow
    have hdf : a'.defers = [] := inv.defers
    have hsz : a'.tmps.size = 91 := inv.size
    have e := frame16_1 hsz (fun t ht => inv.old t (dstsIn_spec (ts := [3, 5, 6, 7, 8, 9, 10, 11, 12, 13, 14, 15]) (by kernel_rfl) t ht))
    have hR := hS.done (fun c hc => hall c (show c < 12 by simp at hc <;> omega))
    clear inv hd hsz hall hS
    obtain ⟨tmps, defers⟩ := a'
    obtain rfl : defers = [] := hdf
    replace e : tmps = _ := e
    replace hk11 : SrcV [] [(Cd.be 6 k1), (Cd.be 6 k2), (Cd.be 6 k3)].flatten (tmps.getD 3 undef) w3 := hk11
    generalize tmps.getD 3 undef = x3 at *
    generalize tmps.getD 5 undef = x5 at *
    generalize tmps.getD 6 undef = x6 at *
    generalize tmps.getD 7 undef = x7 at *
    generalize tmps.getD 8 undef = x8 at *
    generalize tmps.getD 9 undef = x9 at *
    generalize tmps.getD 10 undef = x10 at *
    generalize tmps.getD 11 undef = x11 at *
    generalize tmps.getD 12 undef = x12 at *
    generalize tmps.getD 13 undef = x13 at *
    generalize tmps.getD 14 undef = x14 at *
    generalize tmps.getD 15 undef = x15 at *
    simp only [Array.getD_eq_getD_getElem?, List.getElem?_toArray, List.getElem?_cons_succ, List.getElem?_cons_zero, Option.getD_some] at e
    subst e
    obtain ⟨hb, HHB⟩ : ∃ hb, Hid ([Cd.be 6 k1, Cd.be 6 k2, Cd.be 6 k3].flatten = hb) := ⟨_, rfl⟩
    rw [HHB.out] at hk11 HSM HLB HRES
    clear HHB hR
    replace HE0 : Hid (∀ w', Only [] w3 w' → w'.cell? ⟨w.heap.size, 0, none⟩ = some (.int .i64 (k1 : Int))) := fun w' h => HE0.out w' (only_trans _ _ _ _ ho h)
    replace HE1 : Hid (∀ w', Only [] w3 w' → w'.cell? ⟨w.heap.size, 1, none⟩ = some (.int .i64 (k2 : Int))) := fun w' h => HE1.out w' (only_trans _ _ _ _ ho h)
    replace HE2 : Hid (∀ w', Only [] w3 w' → w'.cell? ⟨w.heap.size, 2, none⟩ = some (.int .i64 (k3 : Int))) := fun w' h => HE2.out w' (only_trans _ _ _ _ ho h)
    replace HE3 : Hid (∀ w', Only [] w3 w' → w'.cell? ⟨w.heap.size, 3, none⟩ = some (.slice np t4.length nc)) := fun w' h => HE3.out w' (only_trans _ _ _ _ ho h)
    replace HE4 : Hid (∀ w', Only [] w3 w' → w'.cell? ⟨w.heap.size, 4, none⟩ = some (.slice vp t5.length vc)) := fun w' h => HE4.out w' (only_trans _ _ _ _ ho h)
    replace HE5 : Hid (∀ w', Only [] w3 w' → w'.cell? ⟨w.heap.size, 5, none⟩ = some (.int .i64 (k6 : Int))) := fun w' h => HE5.out w' (only_trans _ _ _ _ ho h)
    replace HE6 : Hid (∀ w', Only [] w3 w' → w'.cell? ⟨w.heap.size, 6, none⟩ = some (.int .i64 (k7 : Int))) := fun w' h => HE6.out w' (only_trans _ _ _ _ ho h)
    replace HE7 : Hid (∀ w', Only [] w3 w' → w'.cell? ⟨w.heap.size, 7, none⟩ = some (.int .i64 (k8 : Int))) := fun w' h => HE7.out w' (only_trans _ _ _ _ ho h)
    replace HE8 : Hid (∀ w', Only [] w3 w' → w'.cell? ⟨w.heap.size, 8, none⟩ = some (.slice q n9 c)) := fun w' h => HE8.out w' (only_trans _ _ _ _ ho h)
    replace HS3 : Hid (∀ w', Only [] w3 w' → SrcV [] t4 (.slice np t4.length nc) w') := fun w' h => HS3.out w' (only_trans _ _ _ _ ho h)
    replace HS4 : Hid (∀ w', Only [] w3 w' → SrcV [] t5 (.slice vp t5.length vc) w') := fun w' h => HS4.out w' (only_trans _ _ _ _ ho h)
    replace HBA : Hid (∀ w', Only [] w3 w' → Below w.heap.size w w') := fun w' h => HBA.out w' (only_trans _ _ _ _ ho h)
    have HH : Hid (∀ w', Only [] w3 w' → SrcV [] hb x3 w') := fun w' h => hk11.kept h
    have c0 := HE0.out w3 (Only.refl _ _)
    clear ho hk11 HB HBO
    replace HSM : Hid (∀ x ∈ [hb, (Cd.be 2 t4.length ++ t4)].flatten, x < 256) := by
      show ∀ x ∈ _, _
      simp only [List.flatten_cons, List.flatten_nil, List.append_nil, List.mem_append]
      intro x h
      have := Cd.be_lt 6 k6 x
      have := Cd.be_lt 6 k7 x
      have := Cd.be_lt 2 t4.length x
      have := Cd.be_lt 2 t5.length x
      have := HT4.out x
      have := HT5.out x
      have := HSM.out x
      grind
    have hlb : hb.length = 18 := HLB.out
    have hk := HK.out
    have y1 : ((k1 : Int) == 1) = false := by simp; omega
    have z1 : ¬ (k1 : Int) = 1 := by omega
    have y2 : ((k1 : Int) == 2) = true := by simp; omega
    have z2 : (k1 : Int) = 2 := by omega
    have y3 : ((k1 : Int) == 3) = false := by simp; omega
    have z3 : ¬ (k1 : Int) = 3 := by omega
    have y4 : ((k1 : Int) == 4) = false := by simp; omega
    have z4 : ¬ (k1 : Int) = 4 := by omega
    clear hk
    have c3 := HE3.out w3 (Only.refl _ _)
    have HC1 : ∀ W, W = w3 → Calls Tryz.prog 38 #[.slice np t4.length nc] W fun e w2 => ∃ p n c, e = .returned (.slice p n c) ∧ Hid (Only [] w3 w2) ∧ Hid (Src w2 (.slice p n c) (Cd.be 2 t4.length ++ t4)) := by
      rintro W rfl
      refine (text_q _ t4 _ (HS3.out _ (Only.refl _ _)).1 (by omega)).mono ?_
      rintro e w2 ⟨v, rfl, h1, -, h2⟩
      obtain ⟨p, n, c, rfl⟩ := slc_of h2.1
      exact ⟨p, n, c, rfl, h1, h2.1⟩
    obtain ⟨p3, n3, c3, rfl⟩ := slc_of (HH.out w3 (Only.refl _ _)).1
    have HC2 : ∀ u : World, Hid (Only [] w3 u) → ∀ p n c, Hid (Src u (.slice p n c) (Cd.be 2 t4.length ++ t4)) → Calls Tryz.prog 81 #[.slice (some ⟨u.heap.size, 0, none⟩) 2 2] (u.alloc (.cells #[.slice p3 n3 c3, .slice p n c] 22)) fun e w2 => ∃ v, e = .returned v ∧ Hid (Src w2 v res ∧ Below w.heap.size w w2) := by
      intro u hu p n c hs
      refine (join_q _ [hb, (Cd.be 2 t4.length ++ t4)] _ (pcs2 u _ _ _ _ (HH.out u hu.out).1 hs.out) (by simp) (by simp [Cd.be_length] <;> omega) HSM.out).mono ?_
      rintro e w2 ⟨v, rfl, h1, -, h2⟩
      exact ⟨v, rfl, HRES.out ▸ h2.1, HBA.out w2 (only_trans _ _ _ _ hu.out (only_trans _ _ _ _ (Only.of_below ((Below.refl _ u).alloc (Nat.le_refl _) _) _) h1))⟩
    go_wp2_with (first | (go_at_call 38; refine (HC1 _ rfl).mono ?_; rintro e w5 ⟨p5, n5, c5, rfl, HO5, HS5⟩) | (go_at_call 81; refine (HC2 _ HO5 _ _ _ HS5).mono ?_; rintro e w6 ⟨v6, rfl, HF⟩))
    go_ret
    exact ⟨_, rfl, HF.out⟩
end Go.Proofs.YtfjdaafckiefdaaGreatDoor.E9
/- The document's Bytes: the kind 3. -/
namespace Go.Proofs.YtfjdaafckiefdaaGreatDoor.E9
open Go.RowKit C8
set_option maxHeartbeats 8000000 in
theorem rBytes3 (w : World) (k1 k2 k3 k6 k7 k8 : Nat) (t4 t5 : List Nat) (np vp q : Option Addr) (nc vc c n9 : Nat) (hk : k1 = 3) (b2 : k2 ≤ 16) (b3 : k3 ≤ 1099511627776) (b6 : k6 ≤ 16) (b7 : k7 ≤ 7) (hs4 : Src w (.slice np t4.length nc) t4) (hs5 : Src w (.slice vp t5.length vc) t5) :
    Calls Tryz.prog 36 #[.agg #[.int .i64 (k1 : Int), .int .i64 (k2 : Int), .int .i64 (k3 : Int), .slice np t4.length nc, .slice vp t5.length vc, .int .i64 (k6 : Int), .int .i64 (k7 : Int), .int .i64 (k8 : Int), .slice q n9 c]] w fun e w' => ∃ v, e = .returned v ∧ Src w' v [[Cd.be 6 k1, Cd.be 6 k2, Cd.be 6 k3].flatten, (Cd.be 6 k6), (Cd.be 6 k7)].flatten ∧ Below w.heap.size w w' := by
  have HB : Hid (Below w.heap.size w (w.alloc (.cells #[.int .i64 (k1 : Int), .int .i64 (k2 : Int), .int .i64 (k3 : Int), .slice np t4.length nc, .slice vp t5.length vc, .int .i64 (k6 : Int), .int .i64 (k7 : Int), .int .i64 (k8 : Int), .slice q n9 c] 59))) := bel_alloc (Nat.le_refl _) _
  have HBO : Hid (∀ w', Only [] (w.alloc (.cells #[.int .i64 (k1 : Int), .int .i64 (k2 : Int), .int .i64 (k3 : Int), .slice np t4.length nc, .slice vp t5.length vc, .int .i64 (k6 : Int), .int .i64 (k7 : Int), .int .i64 (k8 : Int), .slice q n9 c] 59)) w' → Below w.heap.size (w.alloc (.cells #[.int .i64 (k1 : Int), .int .i64 (k2 : Int), .int .i64 (k3 : Int), .slice np t4.length nc, .slice vp t5.length vc, .int .i64 (k6 : Int), .int .i64 (k7 : Int), .int .i64 (k8 : Int), .slice q n9 c] 59)) w') := fun w' h => h.below (by simp) (by simp)
  have HBA : Hid (∀ w', Only [] (w.alloc (.cells #[.int .i64 (k1 : Int), .int .i64 (k2 : Int), .int .i64 (k3 : Int), .slice np t4.length nc, .slice vp t5.length vc, .int .i64 (k6 : Int), .int .i64 (k7 : Int), .int .i64 (k8 : Int), .slice q n9 c] 59)) w' → Below w.heap.size w w') := fun w' h => HB.out.trans (HBO.out w' h)
  have HE0 : Hid (∀ w', Only [] (w.alloc (.cells #[.int .i64 (k1 : Int), .int .i64 (k2 : Int), .int .i64 (k3 : Int), .slice np t4.length nc, .slice vp t5.length vc, .int .i64 (k6 : Int), .int .i64 (k7 : Int), .int .i64 (k8 : Int), .slice q n9 c] 59)) w' → w'.cell? ⟨w.heap.size, 0, none⟩ = some (.int .i64 (k1 : Int))) := fun w' h => (((h.below (B := w.heap.size + 1) (by simp) (by simp)).cell (p := ⟨w.heap.size, 0, none⟩) (Nat.lt_succ_self _)).trans (by rw [cell_of_row _ _ _ _ _ _ (heap_alloc_new w _)]; rfl))
  have HE1 : Hid (∀ w', Only [] (w.alloc (.cells #[.int .i64 (k1 : Int), .int .i64 (k2 : Int), .int .i64 (k3 : Int), .slice np t4.length nc, .slice vp t5.length vc, .int .i64 (k6 : Int), .int .i64 (k7 : Int), .int .i64 (k8 : Int), .slice q n9 c] 59)) w' → w'.cell? ⟨w.heap.size, 1, none⟩ = some (.int .i64 (k2 : Int))) := fun w' h => (((h.below (B := w.heap.size + 1) (by simp) (by simp)).cell (p := ⟨w.heap.size, 1, none⟩) (Nat.lt_succ_self _)).trans (by rw [cell_of_row _ _ _ _ _ _ (heap_alloc_new w _)]; rfl))
  have HE2 : Hid (∀ w', Only [] (w.alloc (.cells #[.int .i64 (k1 : Int), .int .i64 (k2 : Int), .int .i64 (k3 : Int), .slice np t4.length nc, .slice vp t5.length vc, .int .i64 (k6 : Int), .int .i64 (k7 : Int), .int .i64 (k8 : Int), .slice q n9 c] 59)) w' → w'.cell? ⟨w.heap.size, 2, none⟩ = some (.int .i64 (k3 : Int))) := fun w' h => (((h.below (B := w.heap.size + 1) (by simp) (by simp)).cell (p := ⟨w.heap.size, 2, none⟩) (Nat.lt_succ_self _)).trans (by rw [cell_of_row _ _ _ _ _ _ (heap_alloc_new w _)]; rfl))
  have HE3 : Hid (∀ w', Only [] (w.alloc (.cells #[.int .i64 (k1 : Int), .int .i64 (k2 : Int), .int .i64 (k3 : Int), .slice np t4.length nc, .slice vp t5.length vc, .int .i64 (k6 : Int), .int .i64 (k7 : Int), .int .i64 (k8 : Int), .slice q n9 c] 59)) w' → w'.cell? ⟨w.heap.size, 3, none⟩ = some (.slice np t4.length nc)) := fun w' h => (((h.below (B := w.heap.size + 1) (by simp) (by simp)).cell (p := ⟨w.heap.size, 3, none⟩) (Nat.lt_succ_self _)).trans (by rw [cell_of_row _ _ _ _ _ _ (heap_alloc_new w _)]; rfl))
  have HE4 : Hid (∀ w', Only [] (w.alloc (.cells #[.int .i64 (k1 : Int), .int .i64 (k2 : Int), .int .i64 (k3 : Int), .slice np t4.length nc, .slice vp t5.length vc, .int .i64 (k6 : Int), .int .i64 (k7 : Int), .int .i64 (k8 : Int), .slice q n9 c] 59)) w' → w'.cell? ⟨w.heap.size, 4, none⟩ = some (.slice vp t5.length vc)) := fun w' h => (((h.below (B := w.heap.size + 1) (by simp) (by simp)).cell (p := ⟨w.heap.size, 4, none⟩) (Nat.lt_succ_self _)).trans (by rw [cell_of_row _ _ _ _ _ _ (heap_alloc_new w _)]; rfl))
  have HE5 : Hid (∀ w', Only [] (w.alloc (.cells #[.int .i64 (k1 : Int), .int .i64 (k2 : Int), .int .i64 (k3 : Int), .slice np t4.length nc, .slice vp t5.length vc, .int .i64 (k6 : Int), .int .i64 (k7 : Int), .int .i64 (k8 : Int), .slice q n9 c] 59)) w' → w'.cell? ⟨w.heap.size, 5, none⟩ = some (.int .i64 (k6 : Int))) := fun w' h => (((h.below (B := w.heap.size + 1) (by simp) (by simp)).cell (p := ⟨w.heap.size, 5, none⟩) (Nat.lt_succ_self _)).trans (by rw [cell_of_row _ _ _ _ _ _ (heap_alloc_new w _)]; rfl))
  have HE6 : Hid (∀ w', Only [] (w.alloc (.cells #[.int .i64 (k1 : Int), .int .i64 (k2 : Int), .int .i64 (k3 : Int), .slice np t4.length nc, .slice vp t5.length vc, .int .i64 (k6 : Int), .int .i64 (k7 : Int), .int .i64 (k8 : Int), .slice q n9 c] 59)) w' → w'.cell? ⟨w.heap.size, 6, none⟩ = some (.int .i64 (k7 : Int))) := fun w' h => (((h.below (B := w.heap.size + 1) (by simp) (by simp)).cell (p := ⟨w.heap.size, 6, none⟩) (Nat.lt_succ_self _)).trans (by rw [cell_of_row _ _ _ _ _ _ (heap_alloc_new w _)]; rfl))
  have HE7 : Hid (∀ w', Only [] (w.alloc (.cells #[.int .i64 (k1 : Int), .int .i64 (k2 : Int), .int .i64 (k3 : Int), .slice np t4.length nc, .slice vp t5.length vc, .int .i64 (k6 : Int), .int .i64 (k7 : Int), .int .i64 (k8 : Int), .slice q n9 c] 59)) w' → w'.cell? ⟨w.heap.size, 7, none⟩ = some (.int .i64 (k8 : Int))) := fun w' h => (((h.below (B := w.heap.size + 1) (by simp) (by simp)).cell (p := ⟨w.heap.size, 7, none⟩) (Nat.lt_succ_self _)).trans (by rw [cell_of_row _ _ _ _ _ _ (heap_alloc_new w _)]; rfl))
  have HE8 : Hid (∀ w', Only [] (w.alloc (.cells #[.int .i64 (k1 : Int), .int .i64 (k2 : Int), .int .i64 (k3 : Int), .slice np t4.length nc, .slice vp t5.length vc, .int .i64 (k6 : Int), .int .i64 (k7 : Int), .int .i64 (k8 : Int), .slice q n9 c] 59)) w' → w'.cell? ⟨w.heap.size, 8, none⟩ = some (.slice q n9 c)) := fun w' h => (((h.below (B := w.heap.size + 1) (by simp) (by simp)).cell (p := ⟨w.heap.size, 8, none⟩) (Nat.lt_succ_self _)).trans (by rw [cell_of_row _ _ _ _ _ _ (heap_alloc_new w _)]; rfl))
  have HS3 : Hid (∀ w', Only [] (w.alloc (.cells #[.int .i64 (k1 : Int), .int .i64 (k2 : Int), .int .i64 (k3 : Int), .slice np t4.length nc, .slice vp t5.length vc, .int .i64 (k6 : Int), .int .i64 (k7 : Int), .int .i64 (k8 : Int), .slice q n9 c] 59)) w' → SrcV [] t4 (.slice np t4.length nc) w') := fun w' h => srcV_of (hs4.below (HBA.out w' h))
  have HS4 : Hid (∀ w', Only [] (w.alloc (.cells #[.int .i64 (k1 : Int), .int .i64 (k2 : Int), .int .i64 (k3 : Int), .slice np t4.length nc, .slice vp t5.length vc, .int .i64 (k6 : Int), .int .i64 (k7 : Int), .int .i64 (k8 : Int), .slice q n9 c] 59)) w' → SrcV [] t5 (.slice vp t5.length vc) w') := fun w' h => srcV_of (hs5.below (HBA.out w' h))
  have HSM : Hid (∀ x ∈ [Cd.be 6 k1, Cd.be 6 k2, Cd.be 6 k3].flatten, x < 256) := by
    show ∀ x ∈ _, _
    simp only [List.flatten_cons, List.flatten_nil, List.append_nil, List.mem_append]
    rintro x (h | h | h) <;> exact Cd.be_lt _ _ x h
  have HT4 : Hid (∀ x ∈ t4, x < 256) := hs4.small
  have HT5 : Hid (∀ x ∈ t5, x < 256) := hs5.small
  have HLB : Hid ([Cd.be 6 k1, Cd.be 6 k2, Cd.be 6 k3].flatten.length = 18) := by show _ = _; simp [Cd.be_length]
  clear hs4 hs5
  have HK : Hid (k1 = 3) := hk
  have bk : k1 ≤ 5 := by omega
  clear hk
  obtain ⟨res, HRES⟩ : ∃ res, Hid ([[Cd.be 6 k1, Cd.be 6 k2, Cd.be 6 k3].flatten, (Cd.be 6 k6), (Cd.be 6 k7)].flatten = res) := ⟨_, rfl⟩
  rw [HRES.out]
  go_enter Tryz.func36, Tryz.ntmps36
  go_wp2_with fail
  have RB : ∀ k w w', Below w.heap.size w w' → (fun (_ : Nat) (_ : World) => True) k w → (fun (_ : Nat) (_ : World) => True) k w' := fun _ _ _ _ _ => trivial
  refine wp_region_st (rb1 w.heap.size k1 k2 k3) (fun u u' => Only [] u u') (SeqS [] (fun (_ : Nat) (_ : World) => True)) (by kernel_rfl) (only_drew _ _) (only_trans _) (rb1_kept w.heap.size k1 k2 k3) (by kernel_rfl) (SeqS.start (trivial)) ?_ ?_
  · intro i o a' w' f hi inv hS hfi hfw hpre
    have ho : Only [] (w.alloc (.cells #[.int .i64 (k1 : Int), .int .i64 (k2 : Int), .int .i64 (k3 : Int), .slice np t4.length nc, .slice vp t5.length vc, .int .i64 (k6 : Int), .int .i64 (k7 : Int), .int .i64 (k8 : Int), .slice q n9 c] 59)) w' := inv.grow
    have hlt : i < 12 := (Array.getElem?_eq_some_iff.1 hi).1
    obtain rfl|rfl|rfl|rfl|rfl|rfl|rfl|rfl|rfl|rfl|rfl|rfl : i = 0 ∨ i = 1 ∨ i = 2 ∨ i = 3 ∨ i = 4 ∨ i = 5 ∨ i = 6 ∨ i = 7 ∨ i = 8 ∨ i = 9 ∨ i = 10 ∨ i = 11 := by omega
    · obtain rfl := Option.some.inj hi
      have h0 : a'.tmps.getD 1 undef = (.pointer (some ⟨w.heap.size, 0, none⟩)) := by rw [inv.old 1 (notDst_spec (by kernel_rfl))]; rfl
      exact sq_value _ rfl rfl (fa_run 59 0 1 w.heap.size rfl h0 (fa30_0 w.heap.size)) (Below.refl _ _) (by decide) hS RB rfl
    · obtain rfl := Option.some.inj hi
      have h0 : a'.tmps.getD 5 undef = _ := pre_of hpre 0 5 (by kernel_rfl) (by kernel_rfl)
      exact sq_value _ rfl rfl (load_run 3 5 w.heap.size (0) _ rfl h0 (ld3 (HE0.out w' ho))) (Below.refl _ _) (by decide) hS RB rfl
    · obtain rfl := Option.some.inj hi
      have h0 : a'.tmps.getD 6 undef = _ := pre_of hpre 1 6 (by kernel_rfl) (by kernel_rfl)
      refine sq_quiet 73 #[a'.tmps.getD 6 undef] rfl rfl (by kernel_rfl) (by decide) hS ?_
      rw [h0]
      exact num_q k1 w' (by omega)
    · obtain rfl := Option.some.inj hi
      have h0 : a'.tmps.getD 1 undef = (.pointer (some ⟨w.heap.size, 0, none⟩)) := by rw [inv.old 1 (notDst_spec (by kernel_rfl))]; rfl
      exact sq_value _ rfl rfl (fa_run 59 1 1 w.heap.size rfl h0 (fa30_1 w.heap.size)) (Below.refl _ _) (by decide) hS RB rfl
    · obtain rfl := Option.some.inj hi
      have h0 : a'.tmps.getD 8 undef = _ := pre_of hpre 3 8 (by kernel_rfl) (by kernel_rfl)
      exact sq_value _ rfl rfl (load_run 3 8 w.heap.size (1) _ rfl h0 (ld3 (HE1.out w' ho))) (Below.refl _ _) (by decide) hS RB rfl
    · obtain rfl := Option.some.inj hi
      have h0 : a'.tmps.getD 9 undef = _ := pre_of hpre 4 9 (by kernel_rfl) (by kernel_rfl)
      refine sq_quiet 73 #[a'.tmps.getD 9 undef] rfl rfl (by kernel_rfl) (by decide) hS ?_
      rw [h0]
      exact num_q k2 w' (by omega)
    · obtain rfl := Option.some.inj hi
      have h0 : a'.tmps.getD 1 undef = (.pointer (some ⟨w.heap.size, 0, none⟩)) := by rw [inv.old 1 (notDst_spec (by kernel_rfl))]; rfl
      exact sq_value _ rfl rfl (fa_run 59 2 1 w.heap.size rfl h0 (fa30_2 w.heap.size)) (Below.refl _ _) (by decide) hS RB rfl
    · obtain rfl := Option.some.inj hi
      have h0 : a'.tmps.getD 11 undef = _ := pre_of hpre 6 11 (by kernel_rfl) (by kernel_rfl)
      exact sq_value _ rfl rfl (load_run 3 11 w.heap.size (2) _ rfl h0 (ld3 (HE2.out w' ho))) (Below.refl _ _) (by decide) hS RB rfl
    · obtain rfl := Option.some.inj hi
      have h0 : a'.tmps.getD 12 undef = _ := pre_of hpre 7 12 (by kernel_rfl) (by kernel_rfl)
      refine sq_quiet 73 #[a'.tmps.getD 12 undef] rfl rfl (by kernel_rfl) (by decide) hS ?_
      rw [h0]
      exact num_q k3 w' (by omega)
    · obtain rfl := Option.some.inj hi
      have h0 := pre_of hpre 2 7 (by kernel_rfl) (by kernel_rfl)
      have h1 := pre_of hpre 5 10 (by kernel_rfl) (by kernel_rfl)
      have h2 := pre_of hpre 8 13 (by kernel_rfl) (by kernel_rfl)
      exact sq_value _ rfl rfl (build3_run 7 10 13 _ _ _ rfl (slc_of h0.1) (slc_of h1.1) (slc_of h2.1) rfl rfl rfl) ((Below.refl _ _).alloc (Nat.le_refl _) _) (by decide) hS RB (pcs3 _ _ _ _ _ _ _ h0.1 h1.1 h2.1)
    · obtain rfl := Option.some.inj hi
      have h0 := pre_of hpre 9 14 (by kernel_rfl) (by kernel_rfl)
      refine sq_quiet 81 #[a'.tmps.getD 14 undef] rfl rfl (by kernel_rfl) (by decide) hS ?_
      exact join_q _ [(Cd.be 6 k1), (Cd.be 6 k2), (Cd.be 6 k3)] w' h0 (by simp) (by simp [Cd.be_length] <;> omega) (HSM.out)
    · obtain rfl := Option.some.inj hi
      have h0 := pre_of hpre 10 15 (by kernel_rfl) (by kernel_rfl)
      exact sq_value _ rfl rfl (rfl) (Below.refl _ _) (by decide) hS RB h0
  · intro a' w3 f inv hS hall hd
    have hk11 := hd 11 3 (by kernel_rfl)
    have ho : Only [] (w.alloc (.cells #[.int .i64 (k1 : Int), .int .i64 (k2 : Int), .int .i64 (k3 : Int), .slice np t4.length nc, .slice vp t5.length vc, .int .i64 (k6 : Int), .int .i64 (k7 : Int), .int .i64 (k8 : Int), .slice q n9 c] 59)) w3 := inv.grow
    have hdf : a'.defers = [] := inv.defers
    have hsz : a'.tmps.size = 91 := inv.size
    have e := frame16_1 hsz (fun t ht => inv.old t (dstsIn_spec (ts := [3, 5, 6, 7, 8, 9, 10, 11, 12, 13, 14, 15]) (by kernel_rfl) t ht))
    have hR := hS.done (fun c hc => hall c (show c < 12 by simp at hc <;> omega))
    clear inv hd hsz hall hS
    obtain ⟨tmps, defers⟩ := a'
    obtain rfl : defers = [] := hdf
    replace e : tmps = _ := e
    replace hk11 : SrcV [] [(Cd.be 6 k1), (Cd.be 6 k2), (Cd.be 6 k3)].flatten (tmps.getD 3 undef) w3 := hk11
    generalize tmps.getD 3 undef = x3 at *
    generalize tmps.getD 5 undef = x5 at *
    generalize tmps.getD 6 undef = x6 at *
    generalize tmps.getD 7 undef = x7 at *
    generalize tmps.getD 8 undef = x8 at *
    generalize tmps.getD 9 undef = x9 at *
    generalize tmps.getD 10 undef = x10 at *
    generalize tmps.getD 11 undef = x11 at *
    generalize tmps.getD 12 undef = x12 at *
    generalize tmps.getD 13 undef = x13 at *
    generalize tmps.getD 14 undef = x14 at *
    generalize tmps.getD 15 undef = x15 at *
    simp only [Array.getD_eq_getD_getElem?, List.getElem?_toArray, List.getElem?_cons_succ, List.getElem?_cons_zero, Option.getD_some] at e
    subst e
    obtain ⟨hb, HHB⟩ : ∃ hb, Hid ([Cd.be 6 k1, Cd.be 6 k2, Cd.be 6 k3].flatten = hb) := ⟨_, rfl⟩
    rw [HHB.out] at hk11 HSM HLB HRES
    clear HHB hR
    replace HE0 : Hid (∀ w', Only [] w3 w' → w'.cell? ⟨w.heap.size, 0, none⟩ = some (.int .i64 (k1 : Int))) := fun w' h => HE0.out w' (only_trans _ _ _ _ ho h)
    replace HE1 : Hid (∀ w', Only [] w3 w' → w'.cell? ⟨w.heap.size, 1, none⟩ = some (.int .i64 (k2 : Int))) := fun w' h => HE1.out w' (only_trans _ _ _ _ ho h)
    replace HE2 : Hid (∀ w', Only [] w3 w' → w'.cell? ⟨w.heap.size, 2, none⟩ = some (.int .i64 (k3 : Int))) := fun w' h => HE2.out w' (only_trans _ _ _ _ ho h)
    replace HE3 : Hid (∀ w', Only [] w3 w' → w'.cell? ⟨w.heap.size, 3, none⟩ = some (.slice np t4.length nc)) := fun w' h => HE3.out w' (only_trans _ _ _ _ ho h)
    replace HE4 : Hid (∀ w', Only [] w3 w' → w'.cell? ⟨w.heap.size, 4, none⟩ = some (.slice vp t5.length vc)) := fun w' h => HE4.out w' (only_trans _ _ _ _ ho h)
    replace HE5 : Hid (∀ w', Only [] w3 w' → w'.cell? ⟨w.heap.size, 5, none⟩ = some (.int .i64 (k6 : Int))) := fun w' h => HE5.out w' (only_trans _ _ _ _ ho h)
    replace HE6 : Hid (∀ w', Only [] w3 w' → w'.cell? ⟨w.heap.size, 6, none⟩ = some (.int .i64 (k7 : Int))) := fun w' h => HE6.out w' (only_trans _ _ _ _ ho h)
    replace HE7 : Hid (∀ w', Only [] w3 w' → w'.cell? ⟨w.heap.size, 7, none⟩ = some (.int .i64 (k8 : Int))) := fun w' h => HE7.out w' (only_trans _ _ _ _ ho h)
    replace HE8 : Hid (∀ w', Only [] w3 w' → w'.cell? ⟨w.heap.size, 8, none⟩ = some (.slice q n9 c)) := fun w' h => HE8.out w' (only_trans _ _ _ _ ho h)
    replace HS3 : Hid (∀ w', Only [] w3 w' → SrcV [] t4 (.slice np t4.length nc) w') := fun w' h => HS3.out w' (only_trans _ _ _ _ ho h)
    replace HS4 : Hid (∀ w', Only [] w3 w' → SrcV [] t5 (.slice vp t5.length vc) w') := fun w' h => HS4.out w' (only_trans _ _ _ _ ho h)
    replace HBA : Hid (∀ w', Only [] w3 w' → Below w.heap.size w w') := fun w' h => HBA.out w' (only_trans _ _ _ _ ho h)
    have HH : Hid (∀ w', Only [] w3 w' → SrcV [] hb x3 w') := fun w' h => hk11.kept h
    have c0 := HE0.out w3 (Only.refl _ _)
    clear ho hk11 HB HBO
    replace HSM : Hid (∀ x ∈ [hb, (Cd.be 6 k6), (Cd.be 6 k7)].flatten, x < 256) := by
      show ∀ x ∈ _, _
      simp only [List.flatten_cons, List.flatten_nil, List.append_nil, List.mem_append]
      intro x h
      have := Cd.be_lt 6 k6 x
      have := Cd.be_lt 6 k7 x
      have := Cd.be_lt 2 t4.length x
      have := Cd.be_lt 2 t5.length x
      have := HT4.out x
      have := HT5.out x
      have := HSM.out x
      grind
    have hlb : hb.length = 18 := HLB.out
    have hk := HK.out
    have y1 : ((k1 : Int) == 1) = false := by simp; omega
    have z1 : ¬ (k1 : Int) = 1 := by omega
    have y2 : ((k1 : Int) == 2) = false := by simp; omega
    have z2 : ¬ (k1 : Int) = 2 := by omega
    have y3 : ((k1 : Int) == 3) = true := by simp; omega
    have z3 : (k1 : Int) = 3 := by omega
    have y4 : ((k1 : Int) == 4) = false := by simp; omega
    have z4 : ¬ (k1 : Int) = 4 := by omega
    clear hk
    go_wp2_with fail
    have RB : ∀ k w w', Below w.heap.size w w' → (fun (_ : Nat) (_ : World) => True) k w → (fun (_ : Nat) (_ : World) => True) k w' := fun _ _ _ _ _ => trivial
    refine wp_region_st (rb8 w.heap.size k6 k7 hb) (fun u u' => Only [] u u') (SeqS [] (fun (_ : Nat) (_ : World) => True)) (by kernel_rfl) (only_drew _ _) (only_trans _) (rb8_kept w.heap.size k6 k7 hb) (by kernel_rfl) (SeqS.start (trivial)) ?_ ?_
    · intro i o a' w' f hi inv hS hfi hfw hpre
      have ho : Only [] w3 w' := inv.grow
      have hlt : i < 10 := (Array.getElem?_eq_some_iff.1 hi).1
      obtain rfl|rfl|rfl|rfl|rfl|rfl|rfl|rfl|rfl|rfl : i = 0 ∨ i = 1 ∨ i = 2 ∨ i = 3 ∨ i = 4 ∨ i = 5 ∨ i = 6 ∨ i = 7 ∨ i = 8 ∨ i = 9 := by omega
      · obtain rfl := Option.some.inj hi
        exact sq_value _ rfl rfl rfl (Below.refl _ _) (by decide) hS RB (by show SrcV _ _ (a'.tmps.getD 3 undef) _; rw [inv.old 3 (notDst_spec (by kernel_rfl))]; exact HH.out w' ho)
      · obtain rfl := Option.some.inj hi
        have h0 : a'.tmps.getD 1 undef = (.pointer (some ⟨w.heap.size, 0, none⟩)) := by rw [inv.old 1 (notDst_spec (by kernel_rfl))]; rfl
        exact sq_value _ rfl rfl (fa_run 59 5 1 w.heap.size rfl h0 (fa30_5 w.heap.size)) (Below.refl _ _) (by decide) hS RB rfl
      · obtain rfl := Option.some.inj hi
        have h0 : a'.tmps.getD 40 undef = _ := pre_of hpre 1 40 (by kernel_rfl) (by kernel_rfl)
        exact sq_value _ rfl rfl (load_run 3 40 w.heap.size (5) _ rfl h0 (ld3 (HE5.out w' ho))) (Below.refl _ _) (by decide) hS RB rfl
      · obtain rfl := Option.some.inj hi
        have h0 : a'.tmps.getD 41 undef = _ := pre_of hpre 2 41 (by kernel_rfl) (by kernel_rfl)
        refine sq_quiet 73 #[a'.tmps.getD 41 undef] rfl rfl (by kernel_rfl) (by decide) hS ?_
        rw [h0]
        exact num_q k6 w' (by omega)
      · obtain rfl := Option.some.inj hi
        have h0 : a'.tmps.getD 1 undef = (.pointer (some ⟨w.heap.size, 0, none⟩)) := by rw [inv.old 1 (notDst_spec (by kernel_rfl))]; rfl
        exact sq_value _ rfl rfl (fa_run 59 6 1 w.heap.size rfl h0 (fa30_6 w.heap.size)) (Below.refl _ _) (by decide) hS RB rfl
      · obtain rfl := Option.some.inj hi
        have h0 : a'.tmps.getD 43 undef = _ := pre_of hpre 4 43 (by kernel_rfl) (by kernel_rfl)
        exact sq_value _ rfl rfl (load_run 3 43 w.heap.size (6) _ rfl h0 (ld3 (HE6.out w' ho))) (Below.refl _ _) (by decide) hS RB rfl
      · obtain rfl := Option.some.inj hi
        have h0 : a'.tmps.getD 44 undef = _ := pre_of hpre 5 44 (by kernel_rfl) (by kernel_rfl)
        refine sq_quiet 73 #[a'.tmps.getD 44 undef] rfl rfl (by kernel_rfl) (by decide) hS ?_
        rw [h0]
        exact num_q k7 w' (by omega)
      · obtain rfl := Option.some.inj hi
        have h0 := pre_of hpre 0 39 (by kernel_rfl) (by kernel_rfl)
        have h1 := pre_of hpre 3 42 (by kernel_rfl) (by kernel_rfl)
        have h2 := pre_of hpre 6 45 (by kernel_rfl) (by kernel_rfl)
        exact sq_value _ rfl rfl (build3_run 39 42 45 _ _ _ rfl (slc_of h0.1) (slc_of h1.1) (slc_of h2.1) rfl rfl rfl) ((Below.refl _ _).alloc (Nat.le_refl _) _) (by decide) hS RB (pcs3 _ _ _ _ _ _ _ h0.1 h1.1 h2.1)
      · obtain rfl := Option.some.inj hi
        have h0 := pre_of hpre 7 46 (by kernel_rfl) (by kernel_rfl)
        refine sq_quiet 81 #[a'.tmps.getD 46 undef] rfl rfl (by kernel_rfl) (by decide) hS ?_
        exact join_q _ [hb, (Cd.be 6 k6), (Cd.be 6 k7)] w' h0 (by simp) (by simp [Cd.be_length] <;> omega) (HSM.out)
      · obtain rfl := Option.some.inj hi
        have h0 := pre_of hpre 8 47 (by kernel_rfl) (by kernel_rfl)
        exact sq_value _ rfl rfl (rfl) (Below.refl _ _) (by decide) hS RB h0
    · intro a' w4 f inv hS hall hd
      have hk9 := hd 9 2 (by kernel_rfl)
      have ho : Only [] w3 w4 := inv.grow
      have hdf : a'.defers = [] := inv.defers
      have hsz : a'.tmps.size = 91 := inv.size
      have e := frame16_8 hsz (fun t ht => inv.old t (dstsIn_spec (ts := [2, 39, 40, 41, 42, 43, 44, 45, 46, 47]) (by kernel_rfl) t ht))
      have hR := hS.done (fun c hc => hall c (show c < 10 by simp at hc <;> omega))
      clear inv hd hsz hall hS
      obtain ⟨tmps, defers⟩ := a'
      obtain rfl : defers = [] := hdf
      replace e : tmps = _ := e
      replace hk9 : SrcV [] [hb, (Cd.be 6 k6), (Cd.be 6 k7)].flatten (tmps.getD 2 undef) w4 := hk9
      generalize tmps.getD 2 undef = x2 at *
      generalize tmps.getD 39 undef = x39 at *
      generalize tmps.getD 40 undef = x40 at *
      generalize tmps.getD 41 undef = x41 at *
      generalize tmps.getD 42 undef = x42 at *
      generalize tmps.getD 43 undef = x43 at *
      generalize tmps.getD 44 undef = x44 at *
      generalize tmps.getD 45 undef = x45 at *
      generalize tmps.getD 46 undef = x46 at *
      generalize tmps.getD 47 undef = x47 at *
      simp only [Array.getD_eq_getD_getElem?, List.getElem?_toArray, List.getElem?_cons_succ, List.getElem?_cons_zero, Option.getD_some] at e
      subst e
      have HF : Hid (Src w4 x2 res ∧ Below w.heap.size w w4) := ⟨HRES.out ▸ hk9.1, HBA.out _ ho⟩
      clear ho hk9 hR HBA HH HSM
      go_wp2_with fail
      go_ret
      exact ⟨_, rfl, HF.out⟩
end Go.Proofs.YtfjdaafckiefdaaGreatDoor.E9
/- The document's Bytes: the kind 4. -/
namespace Go.Proofs.YtfjdaafckiefdaaGreatDoor.E9
open Go.RowKit C8
set_option maxHeartbeats 8000000 in
theorem rBytes4 (w : World) (k1 k2 k3 k6 k7 k8 : Nat) (t4 t5 : List Nat) (np vp q : Option Addr) (nc vc c n9 : Nat) (hk : k1 = 4) (b2 : k2 ≤ 16) (b3 : k3 ≤ 1099511627776) (b6 : k6 ≤ 16) (hs4 : Src w (.slice np t4.length nc) t4) (hs5 : Src w (.slice vp t5.length vc) t5) :
    Calls Tryz.prog 36 #[.agg #[.int .i64 (k1 : Int), .int .i64 (k2 : Int), .int .i64 (k3 : Int), .slice np t4.length nc, .slice vp t5.length vc, .int .i64 (k6 : Int), .int .i64 (k7 : Int), .int .i64 (k8 : Int), .slice q n9 c]] w fun e w' => ∃ v, e = .returned v ∧ Src w' v [[Cd.be 6 k1, Cd.be 6 k2, Cd.be 6 k3].flatten, (Cd.be 6 k6)].flatten ∧ Below w.heap.size w w' := by
  have HB : Hid (Below w.heap.size w (w.alloc (.cells #[.int .i64 (k1 : Int), .int .i64 (k2 : Int), .int .i64 (k3 : Int), .slice np t4.length nc, .slice vp t5.length vc, .int .i64 (k6 : Int), .int .i64 (k7 : Int), .int .i64 (k8 : Int), .slice q n9 c] 59))) := bel_alloc (Nat.le_refl _) _
  have HBO : Hid (∀ w', Only [] (w.alloc (.cells #[.int .i64 (k1 : Int), .int .i64 (k2 : Int), .int .i64 (k3 : Int), .slice np t4.length nc, .slice vp t5.length vc, .int .i64 (k6 : Int), .int .i64 (k7 : Int), .int .i64 (k8 : Int), .slice q n9 c] 59)) w' → Below w.heap.size (w.alloc (.cells #[.int .i64 (k1 : Int), .int .i64 (k2 : Int), .int .i64 (k3 : Int), .slice np t4.length nc, .slice vp t5.length vc, .int .i64 (k6 : Int), .int .i64 (k7 : Int), .int .i64 (k8 : Int), .slice q n9 c] 59)) w') := fun w' h => h.below (by simp) (by simp)
  have HBA : Hid (∀ w', Only [] (w.alloc (.cells #[.int .i64 (k1 : Int), .int .i64 (k2 : Int), .int .i64 (k3 : Int), .slice np t4.length nc, .slice vp t5.length vc, .int .i64 (k6 : Int), .int .i64 (k7 : Int), .int .i64 (k8 : Int), .slice q n9 c] 59)) w' → Below w.heap.size w w') := fun w' h => HB.out.trans (HBO.out w' h)
  have HE0 : Hid (∀ w', Only [] (w.alloc (.cells #[.int .i64 (k1 : Int), .int .i64 (k2 : Int), .int .i64 (k3 : Int), .slice np t4.length nc, .slice vp t5.length vc, .int .i64 (k6 : Int), .int .i64 (k7 : Int), .int .i64 (k8 : Int), .slice q n9 c] 59)) w' → w'.cell? ⟨w.heap.size, 0, none⟩ = some (.int .i64 (k1 : Int))) := fun w' h => (((h.below (B := w.heap.size + 1) (by simp) (by simp)).cell (p := ⟨w.heap.size, 0, none⟩) (Nat.lt_succ_self _)).trans (by rw [cell_of_row _ _ _ _ _ _ (heap_alloc_new w _)]; rfl))
  have HE1 : Hid (∀ w', Only [] (w.alloc (.cells #[.int .i64 (k1 : Int), .int .i64 (k2 : Int), .int .i64 (k3 : Int), .slice np t4.length nc, .slice vp t5.length vc, .int .i64 (k6 : Int), .int .i64 (k7 : Int), .int .i64 (k8 : Int), .slice q n9 c] 59)) w' → w'.cell? ⟨w.heap.size, 1, none⟩ = some (.int .i64 (k2 : Int))) := fun w' h => (((h.below (B := w.heap.size + 1) (by simp) (by simp)).cell (p := ⟨w.heap.size, 1, none⟩) (Nat.lt_succ_self _)).trans (by rw [cell_of_row _ _ _ _ _ _ (heap_alloc_new w _)]; rfl))
  have HE2 : Hid (∀ w', Only [] (w.alloc (.cells #[.int .i64 (k1 : Int), .int .i64 (k2 : Int), .int .i64 (k3 : Int), .slice np t4.length nc, .slice vp t5.length vc, .int .i64 (k6 : Int), .int .i64 (k7 : Int), .int .i64 (k8 : Int), .slice q n9 c] 59)) w' → w'.cell? ⟨w.heap.size, 2, none⟩ = some (.int .i64 (k3 : Int))) := fun w' h => (((h.below (B := w.heap.size + 1) (by simp) (by simp)).cell (p := ⟨w.heap.size, 2, none⟩) (Nat.lt_succ_self _)).trans (by rw [cell_of_row _ _ _ _ _ _ (heap_alloc_new w _)]; rfl))
  have HE3 : Hid (∀ w', Only [] (w.alloc (.cells #[.int .i64 (k1 : Int), .int .i64 (k2 : Int), .int .i64 (k3 : Int), .slice np t4.length nc, .slice vp t5.length vc, .int .i64 (k6 : Int), .int .i64 (k7 : Int), .int .i64 (k8 : Int), .slice q n9 c] 59)) w' → w'.cell? ⟨w.heap.size, 3, none⟩ = some (.slice np t4.length nc)) := fun w' h => (((h.below (B := w.heap.size + 1) (by simp) (by simp)).cell (p := ⟨w.heap.size, 3, none⟩) (Nat.lt_succ_self _)).trans (by rw [cell_of_row _ _ _ _ _ _ (heap_alloc_new w _)]; rfl))
  have HE4 : Hid (∀ w', Only [] (w.alloc (.cells #[.int .i64 (k1 : Int), .int .i64 (k2 : Int), .int .i64 (k3 : Int), .slice np t4.length nc, .slice vp t5.length vc, .int .i64 (k6 : Int), .int .i64 (k7 : Int), .int .i64 (k8 : Int), .slice q n9 c] 59)) w' → w'.cell? ⟨w.heap.size, 4, none⟩ = some (.slice vp t5.length vc)) := fun w' h => (((h.below (B := w.heap.size + 1) (by simp) (by simp)).cell (p := ⟨w.heap.size, 4, none⟩) (Nat.lt_succ_self _)).trans (by rw [cell_of_row _ _ _ _ _ _ (heap_alloc_new w _)]; rfl))
  have HE5 : Hid (∀ w', Only [] (w.alloc (.cells #[.int .i64 (k1 : Int), .int .i64 (k2 : Int), .int .i64 (k3 : Int), .slice np t4.length nc, .slice vp t5.length vc, .int .i64 (k6 : Int), .int .i64 (k7 : Int), .int .i64 (k8 : Int), .slice q n9 c] 59)) w' → w'.cell? ⟨w.heap.size, 5, none⟩ = some (.int .i64 (k6 : Int))) := fun w' h => (((h.below (B := w.heap.size + 1) (by simp) (by simp)).cell (p := ⟨w.heap.size, 5, none⟩) (Nat.lt_succ_self _)).trans (by rw [cell_of_row _ _ _ _ _ _ (heap_alloc_new w _)]; rfl))
  have HE6 : Hid (∀ w', Only [] (w.alloc (.cells #[.int .i64 (k1 : Int), .int .i64 (k2 : Int), .int .i64 (k3 : Int), .slice np t4.length nc, .slice vp t5.length vc, .int .i64 (k6 : Int), .int .i64 (k7 : Int), .int .i64 (k8 : Int), .slice q n9 c] 59)) w' → w'.cell? ⟨w.heap.size, 6, none⟩ = some (.int .i64 (k7 : Int))) := fun w' h => (((h.below (B := w.heap.size + 1) (by simp) (by simp)).cell (p := ⟨w.heap.size, 6, none⟩) (Nat.lt_succ_self _)).trans (by rw [cell_of_row _ _ _ _ _ _ (heap_alloc_new w _)]; rfl))
  have HE7 : Hid (∀ w', Only [] (w.alloc (.cells #[.int .i64 (k1 : Int), .int .i64 (k2 : Int), .int .i64 (k3 : Int), .slice np t4.length nc, .slice vp t5.length vc, .int .i64 (k6 : Int), .int .i64 (k7 : Int), .int .i64 (k8 : Int), .slice q n9 c] 59)) w' → w'.cell? ⟨w.heap.size, 7, none⟩ = some (.int .i64 (k8 : Int))) := fun w' h => (((h.below (B := w.heap.size + 1) (by simp) (by simp)).cell (p := ⟨w.heap.size, 7, none⟩) (Nat.lt_succ_self _)).trans (by rw [cell_of_row _ _ _ _ _ _ (heap_alloc_new w _)]; rfl))
  have HE8 : Hid (∀ w', Only [] (w.alloc (.cells #[.int .i64 (k1 : Int), .int .i64 (k2 : Int), .int .i64 (k3 : Int), .slice np t4.length nc, .slice vp t5.length vc, .int .i64 (k6 : Int), .int .i64 (k7 : Int), .int .i64 (k8 : Int), .slice q n9 c] 59)) w' → w'.cell? ⟨w.heap.size, 8, none⟩ = some (.slice q n9 c)) := fun w' h => (((h.below (B := w.heap.size + 1) (by simp) (by simp)).cell (p := ⟨w.heap.size, 8, none⟩) (Nat.lt_succ_self _)).trans (by rw [cell_of_row _ _ _ _ _ _ (heap_alloc_new w _)]; rfl))
  have HS3 : Hid (∀ w', Only [] (w.alloc (.cells #[.int .i64 (k1 : Int), .int .i64 (k2 : Int), .int .i64 (k3 : Int), .slice np t4.length nc, .slice vp t5.length vc, .int .i64 (k6 : Int), .int .i64 (k7 : Int), .int .i64 (k8 : Int), .slice q n9 c] 59)) w' → SrcV [] t4 (.slice np t4.length nc) w') := fun w' h => srcV_of (hs4.below (HBA.out w' h))
  have HS4 : Hid (∀ w', Only [] (w.alloc (.cells #[.int .i64 (k1 : Int), .int .i64 (k2 : Int), .int .i64 (k3 : Int), .slice np t4.length nc, .slice vp t5.length vc, .int .i64 (k6 : Int), .int .i64 (k7 : Int), .int .i64 (k8 : Int), .slice q n9 c] 59)) w' → SrcV [] t5 (.slice vp t5.length vc) w') := fun w' h => srcV_of (hs5.below (HBA.out w' h))
  have HSM : Hid (∀ x ∈ [Cd.be 6 k1, Cd.be 6 k2, Cd.be 6 k3].flatten, x < 256) := by
    show ∀ x ∈ _, _
    simp only [List.flatten_cons, List.flatten_nil, List.append_nil, List.mem_append]
    rintro x (h | h | h) <;> exact Cd.be_lt _ _ x h
  have HT4 : Hid (∀ x ∈ t4, x < 256) := hs4.small
  have HT5 : Hid (∀ x ∈ t5, x < 256) := hs5.small
  have HLB : Hid ([Cd.be 6 k1, Cd.be 6 k2, Cd.be 6 k3].flatten.length = 18) := by show _ = _; simp [Cd.be_length]
  clear hs4 hs5
  have HK : Hid (k1 = 4) := hk
  have bk : k1 ≤ 5 := by omega
  clear hk
  obtain ⟨res, HRES⟩ : ∃ res, Hid ([[Cd.be 6 k1, Cd.be 6 k2, Cd.be 6 k3].flatten, (Cd.be 6 k6)].flatten = res) := ⟨_, rfl⟩
  rw [HRES.out]
  go_enter Tryz.func36, Tryz.ntmps36
  go_wp2_with fail
  have RB : ∀ k w w', Below w.heap.size w w' → (fun (_ : Nat) (_ : World) => True) k w → (fun (_ : Nat) (_ : World) => True) k w' := fun _ _ _ _ _ => trivial
  refine wp_region_st (rb1 w.heap.size k1 k2 k3) (fun u u' => Only [] u u') (SeqS [] (fun (_ : Nat) (_ : World) => True)) (by kernel_rfl) (only_drew _ _) (only_trans _) (rb1_kept w.heap.size k1 k2 k3) (by kernel_rfl) (SeqS.start (trivial)) ?_ ?_
  · intro i o a' w' f hi inv hS hfi hfw hpre
    have ho : Only [] (w.alloc (.cells #[.int .i64 (k1 : Int), .int .i64 (k2 : Int), .int .i64 (k3 : Int), .slice np t4.length nc, .slice vp t5.length vc, .int .i64 (k6 : Int), .int .i64 (k7 : Int), .int .i64 (k8 : Int), .slice q n9 c] 59)) w' := inv.grow
    have hlt : i < 12 := (Array.getElem?_eq_some_iff.1 hi).1
    obtain rfl|rfl|rfl|rfl|rfl|rfl|rfl|rfl|rfl|rfl|rfl|rfl : i = 0 ∨ i = 1 ∨ i = 2 ∨ i = 3 ∨ i = 4 ∨ i = 5 ∨ i = 6 ∨ i = 7 ∨ i = 8 ∨ i = 9 ∨ i = 10 ∨ i = 11 := by omega
    · obtain rfl := Option.some.inj hi
      have h0 : a'.tmps.getD 1 undef = (.pointer (some ⟨w.heap.size, 0, none⟩)) := by rw [inv.old 1 (notDst_spec (by kernel_rfl))]; rfl
      exact sq_value _ rfl rfl (fa_run 59 0 1 w.heap.size rfl h0 (fa30_0 w.heap.size)) (Below.refl _ _) (by decide) hS RB rfl
    · obtain rfl := Option.some.inj hi
      have h0 : a'.tmps.getD 5 undef = _ := pre_of hpre 0 5 (by kernel_rfl) (by kernel_rfl)
      exact sq_value _ rfl rfl (load_run 3 5 w.heap.size (0) _ rfl h0 (ld3 (HE0.out w' ho))) (Below.refl _ _) (by decide) hS RB rfl
    · obtain rfl := Option.some.inj hi
      have h0 : a'.tmps.getD 6 undef = _ := pre_of hpre 1 6 (by kernel_rfl) (by kernel_rfl)
      refine sq_quiet 73 #[a'.tmps.getD 6 undef] rfl rfl (by kernel_rfl) (by decide) hS ?_
      rw [h0]
      exact num_q k1 w' (by omega)
    · obtain rfl := Option.some.inj hi
      have h0 : a'.tmps.getD 1 undef = (.pointer (some ⟨w.heap.size, 0, none⟩)) := by rw [inv.old 1 (notDst_spec (by kernel_rfl))]; rfl
      exact sq_value _ rfl rfl (fa_run 59 1 1 w.heap.size rfl h0 (fa30_1 w.heap.size)) (Below.refl _ _) (by decide) hS RB rfl
    · obtain rfl := Option.some.inj hi
      have h0 : a'.tmps.getD 8 undef = _ := pre_of hpre 3 8 (by kernel_rfl) (by kernel_rfl)
      exact sq_value _ rfl rfl (load_run 3 8 w.heap.size (1) _ rfl h0 (ld3 (HE1.out w' ho))) (Below.refl _ _) (by decide) hS RB rfl
    · obtain rfl := Option.some.inj hi
      have h0 : a'.tmps.getD 9 undef = _ := pre_of hpre 4 9 (by kernel_rfl) (by kernel_rfl)
      refine sq_quiet 73 #[a'.tmps.getD 9 undef] rfl rfl (by kernel_rfl) (by decide) hS ?_
      rw [h0]
      exact num_q k2 w' (by omega)
    · obtain rfl := Option.some.inj hi
      have h0 : a'.tmps.getD 1 undef = (.pointer (some ⟨w.heap.size, 0, none⟩)) := by rw [inv.old 1 (notDst_spec (by kernel_rfl))]; rfl
      exact sq_value _ rfl rfl (fa_run 59 2 1 w.heap.size rfl h0 (fa30_2 w.heap.size)) (Below.refl _ _) (by decide) hS RB rfl
    · obtain rfl := Option.some.inj hi
      have h0 : a'.tmps.getD 11 undef = _ := pre_of hpre 6 11 (by kernel_rfl) (by kernel_rfl)
      exact sq_value _ rfl rfl (load_run 3 11 w.heap.size (2) _ rfl h0 (ld3 (HE2.out w' ho))) (Below.refl _ _) (by decide) hS RB rfl
    · obtain rfl := Option.some.inj hi
      have h0 : a'.tmps.getD 12 undef = _ := pre_of hpre 7 12 (by kernel_rfl) (by kernel_rfl)
      refine sq_quiet 73 #[a'.tmps.getD 12 undef] rfl rfl (by kernel_rfl) (by decide) hS ?_
      rw [h0]
      exact num_q k3 w' (by omega)
    · obtain rfl := Option.some.inj hi
      have h0 := pre_of hpre 2 7 (by kernel_rfl) (by kernel_rfl)
      have h1 := pre_of hpre 5 10 (by kernel_rfl) (by kernel_rfl)
      have h2 := pre_of hpre 8 13 (by kernel_rfl) (by kernel_rfl)
      exact sq_value _ rfl rfl (build3_run 7 10 13 _ _ _ rfl (slc_of h0.1) (slc_of h1.1) (slc_of h2.1) rfl rfl rfl) ((Below.refl _ _).alloc (Nat.le_refl _) _) (by decide) hS RB (pcs3 _ _ _ _ _ _ _ h0.1 h1.1 h2.1)
    · obtain rfl := Option.some.inj hi
      have h0 := pre_of hpre 9 14 (by kernel_rfl) (by kernel_rfl)
      refine sq_quiet 81 #[a'.tmps.getD 14 undef] rfl rfl (by kernel_rfl) (by decide) hS ?_
      exact join_q _ [(Cd.be 6 k1), (Cd.be 6 k2), (Cd.be 6 k3)] w' h0 (by simp) (by simp [Cd.be_length] <;> omega) (HSM.out)
    · obtain rfl := Option.some.inj hi
      have h0 := pre_of hpre 10 15 (by kernel_rfl) (by kernel_rfl)
      exact sq_value _ rfl rfl (rfl) (Below.refl _ _) (by decide) hS RB h0
  · intro a' w3 f inv hS hall hd
    have hk11 := hd 11 3 (by kernel_rfl)
    have ho : Only [] (w.alloc (.cells #[.int .i64 (k1 : Int), .int .i64 (k2 : Int), .int .i64 (k3 : Int), .slice np t4.length nc, .slice vp t5.length vc, .int .i64 (k6 : Int), .int .i64 (k7 : Int), .int .i64 (k8 : Int), .slice q n9 c] 59)) w3 := inv.grow
    have hdf : a'.defers = [] := inv.defers
    have hsz : a'.tmps.size = 91 := inv.size
    have e := frame16_1 hsz (fun t ht => inv.old t (dstsIn_spec (ts := [3, 5, 6, 7, 8, 9, 10, 11, 12, 13, 14, 15]) (by kernel_rfl) t ht))
    have hR := hS.done (fun c hc => hall c (show c < 12 by simp at hc <;> omega))
    clear inv hd hsz hall hS
    obtain ⟨tmps, defers⟩ := a'
    obtain rfl : defers = [] := hdf
    replace e : tmps = _ := e
    replace hk11 : SrcV [] [(Cd.be 6 k1), (Cd.be 6 k2), (Cd.be 6 k3)].flatten (tmps.getD 3 undef) w3 := hk11
    generalize tmps.getD 3 undef = x3 at *
    generalize tmps.getD 5 undef = x5 at *
    generalize tmps.getD 6 undef = x6 at *
    generalize tmps.getD 7 undef = x7 at *
    generalize tmps.getD 8 undef = x8 at *
    generalize tmps.getD 9 undef = x9 at *
    generalize tmps.getD 10 undef = x10 at *
    generalize tmps.getD 11 undef = x11 at *
    generalize tmps.getD 12 undef = x12 at *
    generalize tmps.getD 13 undef = x13 at *
    generalize tmps.getD 14 undef = x14 at *
    generalize tmps.getD 15 undef = x15 at *
    simp only [Array.getD_eq_getD_getElem?, List.getElem?_toArray, List.getElem?_cons_succ, List.getElem?_cons_zero, Option.getD_some] at e
    subst e
    obtain ⟨hb, HHB⟩ : ∃ hb, Hid ([Cd.be 6 k1, Cd.be 6 k2, Cd.be 6 k3].flatten = hb) := ⟨_, rfl⟩
    rw [HHB.out] at hk11 HSM HLB HRES
    clear HHB hR
    replace HE0 : Hid (∀ w', Only [] w3 w' → w'.cell? ⟨w.heap.size, 0, none⟩ = some (.int .i64 (k1 : Int))) := fun w' h => HE0.out w' (only_trans _ _ _ _ ho h)
    replace HE1 : Hid (∀ w', Only [] w3 w' → w'.cell? ⟨w.heap.size, 1, none⟩ = some (.int .i64 (k2 : Int))) := fun w' h => HE1.out w' (only_trans _ _ _ _ ho h)
    replace HE2 : Hid (∀ w', Only [] w3 w' → w'.cell? ⟨w.heap.size, 2, none⟩ = some (.int .i64 (k3 : Int))) := fun w' h => HE2.out w' (only_trans _ _ _ _ ho h)
    replace HE3 : Hid (∀ w', Only [] w3 w' → w'.cell? ⟨w.heap.size, 3, none⟩ = some (.slice np t4.length nc)) := fun w' h => HE3.out w' (only_trans _ _ _ _ ho h)
    replace HE4 : Hid (∀ w', Only [] w3 w' → w'.cell? ⟨w.heap.size, 4, none⟩ = some (.slice vp t5.length vc)) := fun w' h => HE4.out w' (only_trans _ _ _ _ ho h)
    replace HE5 : Hid (∀ w', Only [] w3 w' → w'.cell? ⟨w.heap.size, 5, none⟩ = some (.int .i64 (k6 : Int))) := fun w' h => HE5.out w' (only_trans _ _ _ _ ho h)
    replace HE6 : Hid (∀ w', Only [] w3 w' → w'.cell? ⟨w.heap.size, 6, none⟩ = some (.int .i64 (k7 : Int))) := fun w' h => HE6.out w' (only_trans _ _ _ _ ho h)
    replace HE7 : Hid (∀ w', Only [] w3 w' → w'.cell? ⟨w.heap.size, 7, none⟩ = some (.int .i64 (k8 : Int))) := fun w' h => HE7.out w' (only_trans _ _ _ _ ho h)
    replace HE8 : Hid (∀ w', Only [] w3 w' → w'.cell? ⟨w.heap.size, 8, none⟩ = some (.slice q n9 c)) := fun w' h => HE8.out w' (only_trans _ _ _ _ ho h)
    replace HS3 : Hid (∀ w', Only [] w3 w' → SrcV [] t4 (.slice np t4.length nc) w') := fun w' h => HS3.out w' (only_trans _ _ _ _ ho h)
    replace HS4 : Hid (∀ w', Only [] w3 w' → SrcV [] t5 (.slice vp t5.length vc) w') := fun w' h => HS4.out w' (only_trans _ _ _ _ ho h)
    replace HBA : Hid (∀ w', Only [] w3 w' → Below w.heap.size w w') := fun w' h => HBA.out w' (only_trans _ _ _ _ ho h)
    have HH : Hid (∀ w', Only [] w3 w' → SrcV [] hb x3 w') := fun w' h => hk11.kept h
    have c0 := HE0.out w3 (Only.refl _ _)
    clear ho hk11 HB HBO
    replace HSM : Hid (∀ x ∈ [hb, (Cd.be 6 k6)].flatten, x < 256) := by
      show ∀ x ∈ _, _
      simp only [List.flatten_cons, List.flatten_nil, List.append_nil, List.mem_append]
      intro x h
      have := Cd.be_lt 6 k6 x
      have := Cd.be_lt 6 k7 x
      have := Cd.be_lt 2 t4.length x
      have := Cd.be_lt 2 t5.length x
      have := HT4.out x
      have := HT5.out x
      have := HSM.out x
      grind
    have hlb : hb.length = 18 := HLB.out
    have hk := HK.out
    have y1 : ((k1 : Int) == 1) = false := by simp; omega
    have z1 : ¬ (k1 : Int) = 1 := by omega
    have y2 : ((k1 : Int) == 2) = false := by simp; omega
    have z2 : ¬ (k1 : Int) = 2 := by omega
    have y3 : ((k1 : Int) == 3) = false := by simp; omega
    have z3 : ¬ (k1 : Int) = 3 := by omega
    have y4 : ((k1 : Int) == 4) = true := by simp; omega
    have z4 : (k1 : Int) = 4 := by omega
    clear hk
    have c5 := HE5.out w3 (Only.refl _ _)
    have HC1 : ∀ W, W = w3 → Calls Tryz.prog 73 #[.int .i64 (k6 : Int)] W fun e w2 => ∃ p n c, e = .returned (.slice p n c) ∧ Hid (Only [] w3 w2) ∧ Hid (Src w2 (.slice p n c) (Cd.be 6 k6)) := by
      rintro W rfl
      refine (num_q k6 _ (by omega)).mono ?_
      rintro e w2 ⟨v, rfl, h1, -, h2⟩
      obtain ⟨p, n, c, rfl⟩ := slc_of h2.1
      exact ⟨p, n, c, rfl, h1, h2.1⟩
    obtain ⟨p3, n3, c3, rfl⟩ := slc_of (HH.out w3 (Only.refl _ _)).1
    have HC2 : ∀ u : World, Hid (Only [] w3 u) → ∀ p n c, Hid (Src u (.slice p n c) (Cd.be 6 k6)) → Calls Tryz.prog 81 #[.slice (some ⟨u.heap.size, 0, none⟩) 2 2] (u.alloc (.cells #[.slice p3 n3 c3, .slice p n c] 22)) fun e w2 => ∃ v, e = .returned v ∧ Hid (Src w2 v res ∧ Below w.heap.size w w2) := by
      intro u hu p n c hs
      refine (join_q _ [hb, (Cd.be 6 k6)] _ (pcs2 u _ _ _ _ (HH.out u hu.out).1 hs.out) (by simp) (by simp [Cd.be_length] <;> omega) HSM.out).mono ?_
      rintro e w2 ⟨v, rfl, h1, -, h2⟩
      exact ⟨v, rfl, HRES.out ▸ h2.1, HBA.out w2 (only_trans _ _ _ _ hu.out (only_trans _ _ _ _ (Only.of_below ((Below.refl _ u).alloc (Nat.le_refl _) _) _) h1))⟩
    go_wp2_with (first | (go_at_call 73; refine (HC1 _ rfl).mono ?_; rintro e w5 ⟨p5, n5, c5, rfl, HO5, HS5⟩) | (go_at_call 81; refine (HC2 _ HO5 _ _ _ HS5).mono ?_; rintro e w6 ⟨v6, rfl, HF⟩))
    go_ret
    exact ⟨_, rfl, HF.out⟩
end Go.Proofs.YtfjdaafckiefdaaGreatDoor.E9
