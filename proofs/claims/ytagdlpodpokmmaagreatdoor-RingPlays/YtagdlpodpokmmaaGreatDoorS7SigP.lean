/- The document's Open: contract. -/
import Derived.Test.YtagdlpodpokmmaaGreatDoorS7SigV
namespace Go.Proofs.YtagdlpodpokmmaaGreatDoor.S7
open Go.RowKit
def ROpenSays (B : Nat) (r : Option (List Nat)) (e : Ending) (w' : World) : Prop := match r with
  | some t => ∃ v, e = .returned (.tuple #[v, .int .i64 0]) ∧ By B w' v t
  | none => e = .returned (.tuple #[.slice none 0 0, .int .i64 20])
theorem opens_drop {k nn o bs : List Nat} {L : List Su.Thing} {j n : Nat} (hj : j < L.length) : Su.opens k nn o bs n (L.drop j) = if L[j].1 = 66 ∧ Su.box (n + 1) L[j].2.2.2.2.length = bs ∧ L[j].2.1 = k ∧ L[j].2.2.1 = nn ∧ L[j].2.2.2.1 = o then some L[j].2.2.2.2 else Su.opens k nn o bs (n + 1) (L.drop (j + 1)) := by
  rw [List.drop_eq_getElem_cons hj]
  rfl
set_option maxHeartbeats 1000000 in
theorem rOpen_bad (p : Value) (a b : Option Addr) (n c m d : Nat) (o t : Value) (w : World) (hn : n ≠ 32 ∨ m ≠ 12) :
    Calls Tryz.prog 35 #[p, .slice a n c, .slice b m d, o, t] w fun e w' => e = .returned (.tuple #[.slice none 0 0, .int .i64 11]) ∧ w' = w := by
  by_cases h1 : n = 32
  · subst h1
    have h2 : ¬ (m : Int) = 12 := by omega
    clear hn
    go_enter Tryz.func35, Tryz.ntmps35
    go_wp2_with fail
    refine bodyPost_ret (results_tmp2 rfl _ _ _) rfl ?_
    exact ⟨rfl, rfl⟩
  · have h2 : ¬ (n : Int) = 32 := by omega
    clear hn
    go_enter Tryz.func35, Tryz.ntmps35
    go_wp2_with fail
    refine bodyPost_ret (results_tmp2 rfl _ _ _) rfl ?_
    exact ⟨rfl, rfl⟩
set_option maxHeartbeats 4000000 in
set_option maxRecDepth 10000 in
theorem rOpen_any (k nn o bs : List Nat) (kv nv ov bv : Value) (B d : Nat) (L : List Su.Thing) (w : World) (h : Doc B w d L) (hk : By B w kv k) (hn : By B w nv nn) (ho : By B w ov o) (hb : By B w bv bs) (lk : k.length = 32) (ln : nn.length = 12) (hL : L.length < 1000000) (hS : ∀ u ∈ L, u.2.2.2.2.length ≤ 50000) :
    Calls Tryz.prog 35 #[.pointer (some ⟨d, 0, none⟩), kv, nv, ov, bv] w fun e w' => ROpenSays B (Su.opens k nn o bs 0 L) e w' ∧ Below w.heap.size w w' := by
  obtain ⟨v, cs, hd⟩ := h
  have HD : Hid (DocIs B w d v cs L) := hd
  have HS : Hid (∀ u ∈ L, u.2.2.2.2.length ≤ 50000) := hS
  obtain ⟨vp, vc, rfl⟩ := own_slice hd.row
  obtain ⟨n, HN⟩ : ∃ n, Hid (L.length = n) := ⟨_, rfl⟩
  rw [HN.out] at HD
  have n1 : (n : Int) < 1000000 := by have := HN.out; omega
  have n0 : (0 : Int) ≤ (n : Int) := by omega
  have HA0 : Hid (∀ w', Below w.heap.size w w' → SrcV [] k kv w' ∧ SrcV [] nn nv w' ∧ SrcV [] o ov w' ∧ SrcV [] bs bv w') := fun w' hb' => ⟨⟨hk.src.below hb', fun _ _ hm => by simp at hm⟩, ⟨hn.src.below hb', fun _ _ hm => by simp at hm⟩, ⟨ho.src.below hb', fun _ _ hm => by simp at hm⟩, ⟨hb.src.below hb', fun _ _ hm => by simp at hm⟩⟩
  have HK1 : Hid (∀ x ∈ k, x < 256) := hk.src.small
  have HK2 : Hid (∀ x ∈ nn, x < 256) := hn.src.small
  have HK3 : Hid (∀ x ∈ o, x < 256) := ho.src.small
  have HK4 : Hid (∀ x ∈ bs, x < 256) := hb.src.small
  obtain ⟨pk, ck, rfl, _⟩ := hk.src.slice
  obtain ⟨pn, cn, rfl, _⟩ := hn.src.slice
  obtain ⟨po, co, rfl, _⟩ := ho.src.slice
  obtain ⟨pb, cb, rfl, _⟩ := hb.src.slice
  rw [lk, ln] at HA0 ⊢
  clear hd hk hn ho hb hL hS
  generalize o.length = ol at *
  generalize bs.length = bl at *
  obtain ⟨R, HR⟩ : ∃ R, Hid (Su.opens k nn o bs 0 L = R) := ⟨_, rfl⟩
  rw [HR.out]
  go_enter Tryz.func35, Tryz.ntmps35
  go_wp2_with fail
  go_loopw [12] (fun i wr => ∃ j : Nat, j ≤ n ∧ i = .int .i64 (j : Int) ∧ Hid (Below w.heap.size w wr) ∧ Hid (R = Su.opens k nn o bs j (L.drop j))) (fun i _ => n - (intOf i).toNat)
  case atStart => exact ⟨0, by omega, rfl, Below.refl _ _, HR.out.symm⟩
  case round =>
    obtain ⟨j, hj, rfl, HBR, HPS⟩ := hrel
    have HDR : Hid (DocIs B wr d (.slice vp n vc) cs L) := HD.out.below HBR.out
    have hc0 : wr.cell? ⟨d, 0, none⟩ = some (.slice vp n vc) := by rw [cell_of_row _ _ _ _ _ _ HDR.out.box]; rfl
    by_cases hlt : j < n
    · have hjl : j < L.length := by rw [HN.out]; exact hlt
      obtain ⟨g, cap, c, hvv, hcap, hth, d0, d1, d2, d3, d4⟩ := HDR.out.at hjl
      rw [HN.out] at hvv
      cases hvv
      have HLJ : Hid (R = if L[j].1 = 66 ∧ Su.box (j + 1) L[j].2.2.2.2.length = bs ∧ L[j].2.1 = k ∧ L[j].2.2.1 = nn ∧ L[j].2.2.2.1 = o then some L[j].2.2.2.2 else Su.opens k nn o bs (j + 1) (L.drop (j + 1))) := HPS.out.trans (opens_drop hjl)
      have HLT : Hid (L[j].2.2.2.2.length ≤ 50000) := HS.out _ (List.getElem_mem hjl)
      have HJ1 : Hid (j < 1000000) := by show _ < _; omega
      clear HPS
      have hcap' : (n : Int) ≤ (vc : Int) := by have := HN.out; omega
      generalize L[j] = u at *
      obtain ⟨us, uk, un, uo, ut⟩ := u
      obtain ⟨c0, c1, c2, c3, c4⟩ := c
      obtain ⟨e0, hk1, hn1, ho1, ht1⟩ := hth
      simp only at e0 hk1 hn1 ho1 ht1 d0 d1 d2 d3 d4 HLJ HLT
      have S1 := hk1.src.small
      have S2 := hn1.src.small
      have S3 := ho1.src.small
      have HS1 : Hid (∀ x ∈ uk, x < 256) := S1
      have HS2 : Hid (∀ x ∈ un, x < 256) := S2
      have HS3 : Hid (∀ x ∈ uo, x < 256) := S3
      have HT : Hid (∀ w', Below wr.heap.size wr w' → SrcV [] uk c1 w' ∧ SrcV [] un c2 w' ∧ SrcV [] uo c3 w' ∧ SrcV [] ut c4 w' ∧ By B w' c4 ut) := fun w' hb' => ⟨⟨hk1.src.below hb', fun _ _ hm => by simp at hm⟩, ⟨hn1.src.below hb', fun _ _ hm => by simp at hm⟩, ⟨ho1.src.below hb', fun _ _ hm => by simp at hm⟩, ⟨ht1.src.below hb', fun _ _ hm => by simp at hm⟩, ht1.below hb'⟩
      obtain ⟨q1, r1, rfl, _⟩ := hk1.src.slice
      obtain ⟨q2, r2, rfl, _⟩ := hn1.src.slice
      obtain ⟨q3, r3, rfl, _⟩ := ho1.src.slice
      obtain ⟨q4, r4, rfl, _⟩ := ht1.src.slice
      clear hk1 hn1 ho1 ht1 e0 HDR hjl S1 S2 S3
      obtain ⟨l1, e1⟩ : ∃ l1, uk.length = l1 := ⟨_, rfl⟩
      obtain ⟨l2, e2⟩ : ∃ l2, un.length = l2 := ⟨_, rfl⟩
      obtain ⟨l3, e3⟩ : ∃ l3, uo.length = l3 := ⟨_, rfl⟩
      obtain ⟨l4, e4⟩ : ∃ l4, ut.length = l4 := ⟨_, rfl⟩
      rw [e1] at d1 HT
      rw [e2] at d2 HT
      rw [e3] at d3 HT
      rw [e4] at d4 HT
      clear e1 e2 e3 e4
      obtain ⟨pe, HPE⟩ : ∃ pe, Hid (wr.heap.size = pe) := ⟨_, rfl⟩
      have hnew := heap_alloc_new wr (.cells #[.int .i64 (us : Int), .slice q1 l1 r1, .slice q2 l2 r2, .slice q3 l3 r3, .slice q4 l4 r4] 83)
      have hba := below_alloc wr (.cells #[.int .i64 (us : Int), .slice q1 l1 r1, .slice q2 l2 r2, .slice q3 l3 r3, .slice q4 l4 r4] 83)
      have HC : Hid (∀ w', Only [] (wr.alloc (.cells #[.int .i64 (us : Int), .slice q1 l1 r1, .slice q2 l2 r2, .slice q3 l3 r3, .slice q4 l4 r4] 83)) w' → w'.cell? ⟨wr.heap.size, 0, none⟩ = some (.int .i64 (us : Int)) ∧ w'.cell? ⟨wr.heap.size, 1, none⟩ = some (.slice q1 l1 r1) ∧ w'.cell? ⟨wr.heap.size, 2, none⟩ = some (.slice q2 l2 r2) ∧ w'.cell? ⟨wr.heap.size, 3, none⟩ = some (.slice q3 l3 r3) ∧ w'.cell? ⟨wr.heap.size, 4, none⟩ = some (.slice q4 l4 r4) ∧ SrcV [] uk (.slice q1 l1 r1) w' ∧ SrcV [] un (.slice q2 l2 r2) w' ∧ SrcV [] uo (.slice q3 l3 r3) w' ∧ SrcV [] ut (.slice q4 l4 r4) w') := fun w' ho => by
        have hb' : Below wr.heap.size wr w' := hba.trans (ho.below hba.size (fun y hy => by simp at hy))
        have hW := (ho.block wr.heap.size (Array.getElem?_eq_some_iff.1 hnew).1 (by simp)).trans hnew
        have hT := HT.out w' hb'
        refine ⟨?_, ?_, ?_, ?_, ?_, hT.1, hT.2.1, hT.2.2.1, hT.2.2.2.1⟩ <;> (rw [cell_of_row _ _ _ _ _ _ hW]; rfl)
      have HB3 : Hid (Below w.heap.size w (wr.alloc (.cells #[.int .i64 (us : Int), .slice q1 l1 r1, .slice q2 l2 r2, .slice q3 l3 r3, .slice q4 l4 r4] 83))) := HBR.out.trans (hba.mono HBR.out.size)
      have HY3 : Hid (By B (wr.alloc (.cells #[.int .i64 (us : Int), .slice q1 l1 r1, .slice q2 l2 r2, .slice q3 l3 r3, .slice q4 l4 r4] 83)) (.slice q4 l4 r4) ut) := (HT.out _ hba).2.2.2.2
      have HA : Hid (∀ w', Only [] (wr.alloc (.cells #[.int .i64 (us : Int), .slice q1 l1 r1, .slice q2 l2 r2, .slice q3 l3 r3, .slice q4 l4 r4] 83)) w' → SrcV [] k (.slice pk 32 ck) w' ∧ SrcV [] nn (.slice pn 12 cn) w' ∧ SrcV [] o (.slice po ol co) w' ∧ SrcV [] bs (.slice pb bl cb) w') := fun w' ho => HA0.out w' (HB3.out.trans (ho.below HB3.out.size (fun y hy => by simp at hy)))
      clear HT hnew hba HA0
      rw [HPE.out] at HC
      have hpe : wr.heap.size = pe := HPE.out
      have j0 : (0 : Int) ≤ (j : Int) := by omega
      have j1 : (j : Int) < (n : Int) := by omega
      have sbx := Su.box_lt (j + 1) ut.length
      have HSB : Hid (∀ x ∈ Su.box (j + 1) ut.length, x < 256) := sbx
      clear sbx
      by_cases h1 : us = 66
      · have H66 : Hid (decide ((us : Int) = 66) = true) := by show _ = _; simp; omega
        by_cases h2 : Su.box (j + 1) ut.length = bs
        · have HQ1 : Hid (((strB (Su.box (j + 1) ut.length)).toList == (strB bs).toList) = true) := by show _ = _; rw [strB_beqL HSB.out HK4.out]; simp [h2]
          by_cases h3 : uk = k
          · have HQ2 : Hid (((strB uk).toList == (strB k).toList) = true) := by show _ = _; rw [strB_beqL HS1.out HK1.out]; simp [h3]
            by_cases h4 : un = nn
            · have HQ3 : Hid (((strB un).toList == (strB nn).toList) = true) := by show _ = _; rw [strB_beqL HS2.out HK2.out]; simp [h4]
              by_cases h5 : uo = o
              · have HQ4 : Hid (((strB uo).toList == (strB o).toList) = true) := by show _ = _; rw [strB_beqL HS3.out HK3.out]; simp [h5]
                have HNX : Hid (R = some ut) := by show _ = _; rw [HLJ.out]; exact if_pos ⟨h1, h2, h3, h4, h5⟩
                clear HLJ h1 h2 h3 h4 h5
                go_wp2_with fail
                generalize wr.alloc (.cells #[.int .i64 (us : Int), .slice q1 l1 r1, .slice q2 l2 r2, .slice q3 l3 r3, .slice q4 l4 r4] 83) = w3 at *
                have RB : ∀ k w w', Below w.heap.size w w' → (fun (_ : Nat) (_ : World) => True) k w → (fun (_ : Nat) (_ : World) => True) k w' := fun _ _ _ _ _ => trivial
                refine wp_region_st (op7c5 pe j us uk un uo ut k nn o bs) (fun u u' => Only [] u u') (SeqS [] (fun (_ : Nat) (_ : World) => True)) (by kernel_rfl) (only_drew _ _) (only_trans _) (op7c5_kept pe j us uk un uo ut k nn o bs) (by kernel_rfl) (SeqS.start (trivial)) ?_ ?_
                · intro i o a' w' f hi inv hS hfi hfw hpre
                  have ho : Only [] w3 w' := inv.grow
                  have hlt : i < 39 := (Array.getElem?_eq_some_iff.1 hi).1
                  obtain rfl|rfl|rfl|rfl|rfl|rfl|rfl|rfl|rfl|rfl|rfl|rfl|rfl|rfl|rfl|rfl|rfl|rfl|rfl|rfl|rfl|rfl|rfl|rfl|rfl|rfl|rfl|rfl|rfl|rfl|rfl|rfl|rfl|rfl|rfl|rfl|rfl|rfl|rfl : i = 0 ∨ i = 1 ∨ i = 2 ∨ i = 3 ∨ i = 4 ∨ i = 5 ∨ i = 6 ∨ i = 7 ∨ i = 8 ∨ i = 9 ∨ i = 10 ∨ i = 11 ∨ i = 12 ∨ i = 13 ∨ i = 14 ∨ i = 15 ∨ i = 16 ∨ i = 17 ∨ i = 18 ∨ i = 19 ∨ i = 20 ∨ i = 21 ∨ i = 22 ∨ i = 23 ∨ i = 24 ∨ i = 25 ∨ i = 26 ∨ i = 27 ∨ i = 28 ∨ i = 29 ∨ i = 30 ∨ i = 31 ∨ i = 32 ∨ i = 33 ∨ i = 34 ∨ i = 35 ∨ i = 36 ∨ i = 37 ∨ i = 38 := by omega
                  · obtain rfl := Option.some.inj hi
                    have h0 : a'.tmps.getD 13 undef = (.pointer (some ⟨pe, 0, none⟩)) := by rw [inv.old 13 (notDst_spec (by kernel_rfl))]; rfl
                    exact sq_value _ rfl rfl (fa_run 83 0 13 pe rfl h0 (fa71_0 pe)) (Below.refl _ _) (by decide) hS RB rfl
                  · obtain rfl := Option.some.inj hi
                    have h0 : a'.tmps.getD 38 undef = _ := pre_of hpre 0 38 (by kernel_rfl) (by kernel_rfl)
                    exact sq_value _ rfl rfl (load_run 3 38 pe (0) _ rfl h0 (ld3 ((HC.out w' ho).1))) (Below.refl _ _) (by decide) hS RB rfl
                  · obtain rfl := Option.some.inj hi
                    have h0 : a'.tmps.getD 39 undef = _ := pre_of hpre 1 39 (by kernel_rfl) (by kernel_rfl)
                    exact sq_value _ rfl rfl (eqlc_run 39 us rfl h0) (Below.refl _ _) (by decide) hS RB (congrArg Value.bool H66.out)
                  · obtain rfl := Option.some.inj hi
                    have h0 := pre_of hpre 2 40 (by kernel_rfl) (by kernel_rfl)
                    exact sq_value _ rfl rfl (rfl) (Below.refl _ _) (by decide) hS RB h0
                  · obtain rfl := Option.some.inj hi
                    have hgu : a'.tmps.getD 41 undef = _ := pre_of hpre 3 41 (by kernel_rfl) (by kernel_rfl)
                    exact sq_value _ rfl (wanted_of 3 41 true rfl (by kernel_rfl) hgu) rfl (Below.refl _ _) (by decide) hS RB (by show a'.tmps.getD 12 undef = _; rw [inv.old 12 (notDst_spec (by kernel_rfl))]; rfl)
                  · obtain rfl := Option.some.inj hi
                    have hgu : a'.tmps.getD 41 undef = _ := pre_of hpre 3 41 (by kernel_rfl) (by kernel_rfl)
                    have h0 : a'.tmps.getD 42 undef = _ := pre_of hpre 4 42 (by kernel_rfl) (by kernel_rfl)
                    exact sq_value _ rfl (wanted_of 3 41 true rfl (by kernel_rfl) hgu) (addc_run 42 j HJ1.out rfl h0) (Below.refl _ _) (by decide) hS RB rfl
                  · obtain rfl := Option.some.inj hi
                    have hgu : a'.tmps.getD 41 undef = _ := pre_of hpre 3 41 (by kernel_rfl) (by kernel_rfl)
                    have h0 : a'.tmps.getD 13 undef = (.pointer (some ⟨pe, 0, none⟩)) := by rw [inv.old 13 (notDst_spec (by kernel_rfl))]; rfl
                    exact sq_value _ rfl (wanted_of 3 41 true rfl (by kernel_rfl) hgu) (fa_run 83 4 13 pe rfl h0 (fa71_4 pe)) (Below.refl _ _) (by decide) hS RB rfl
                  · obtain rfl := Option.some.inj hi
                    have hgu : a'.tmps.getD 41 undef = _ := pre_of hpre 3 41 (by kernel_rfl) (by kernel_rfl)
                    have h0 : a'.tmps.getD 44 undef = _ := pre_of hpre 6 44 (by kernel_rfl) (by kernel_rfl)
                    exact sq_value _ rfl (wanted_of 3 41 true rfl (by kernel_rfl) hgu) (load_run 22 44 pe (4) _ rfl h0 (ld32 ((HC.out w' ho).2.2.2.2.1))) (Below.refl _ _) (by decide) hS RB ((HC.out w' ho).2.2.2.2.2.2.2.2)
                  · obtain rfl := Option.some.inj hi
                    have hgu : a'.tmps.getD 41 undef = _ := pre_of hpre 3 41 (by kernel_rfl) (by kernel_rfl)
                    have h0 := pre_of hpre 7 45 (by kernel_rfl) (by kernel_rfl)
                    exact sq_value _ rfl (wanted_of 3 41 true rfl (by kernel_rfl) hgu) (len_run 45 rfl h0.1) (Below.refl _ _) (by decide) hS RB rfl
                  · obtain rfl := Option.some.inj hi
                    have hgu : a'.tmps.getD 41 undef = _ := pre_of hpre 3 41 (by kernel_rfl) (by kernel_rfl)
                    have h0 : a'.tmps.getD 43 undef = _ := pre_of hpre 5 43 (by kernel_rfl) (by kernel_rfl)
                    have h1 : a'.tmps.getD 46 undef = _ := pre_of hpre 8 46 (by kernel_rfl) (by kernel_rfl)
                    refine sq_quiet 50 #[a'.tmps.getD 43 undef, a'.tmps.getD 46 undef] rfl (wanted_of 3 41 true rfl (by kernel_rfl) hgu) (by kernel_rfl) (by decide) hS ?_
                    rw [h0, h1]
                    exact (rbox_any (j + 1) ut.length w' HLT.out (by have := HJ1.out; omega)).mono (by rintro e u ⟨v, rfl, ho1, hb1⟩; exact ⟨v, rfl, Only.of_below hb1 _, (fun _ _ => trivial), Src.own (Su.box_lt _ _) ho1, fun _ _ hm => by simp at hm⟩)
                  · obtain rfl := Option.some.inj hi
                    have hgu : a'.tmps.getD 41 undef = _ := pre_of hpre 3 41 (by kernel_rfl) (by kernel_rfl)
                    have h0 := pre_of hpre 9 47 (by kernel_rfl) (by kernel_rfl)
                    exact sq_value _ rfl (wanted_of 3 41 true rfl (by kernel_rfl) hgu) (conv_run 47 _ rfl (h0.1)) (Below.refl _ _) (by decide) hS RB rfl
                  · obtain rfl := Option.some.inj hi
                    have hgu : a'.tmps.getD 41 undef = _ := pre_of hpre 3 41 (by kernel_rfl) (by kernel_rfl)
                    exact sq_value _ rfl (wanted_of 3 41 true rfl (by kernel_rfl) hgu) rfl (Below.refl _ _) (by decide) hS RB (by show SrcV _ _ (a'.tmps.getD 4 undef) _; rw [inv.old 4 (notDst_spec (by kernel_rfl))]; exact (HA.out w' ho).2.2.2)
                  · obtain rfl := Option.some.inj hi
                    have hgu : a'.tmps.getD 41 undef = _ := pre_of hpre 3 41 (by kernel_rfl) (by kernel_rfl)
                    have h0 := pre_of hpre 11 49 (by kernel_rfl) (by kernel_rfl)
                    exact sq_value _ rfl (wanted_of 3 41 true rfl (by kernel_rfl) hgu) (conv_run 49 _ rfl (h0.1)) (Below.refl _ _) (by decide) hS RB rfl
                  · obtain rfl := Option.some.inj hi
                    have hgu : a'.tmps.getD 41 undef = _ := pre_of hpre 3 41 (by kernel_rfl) (by kernel_rfl)
                    have h0 : a'.tmps.getD 48 undef = _ := pre_of hpre 10 48 (by kernel_rfl) (by kernel_rfl)
                    have h1 : a'.tmps.getD 50 undef = _ := pre_of hpre 12 50 (by kernel_rfl) (by kernel_rfl)
                    exact sq_value _ rfl (wanted_of 3 41 true rfl (by kernel_rfl) hgu) (eqlS_run 48 50 _ _ rfl h0 h1) (Below.refl _ _) (by decide) hS RB (congrArg Value.bool HQ1.out)
                  · obtain rfl := Option.some.inj hi
                    have h0 : a'.tmps.getD 41 undef = _ := pre_of hpre 3 41 (by kernel_rfl) (by kernel_rfl)
                    have h1 : a'.tmps.getD 51 undef = _ := pre_of hpre 13 51 (by kernel_rfl) (by kernel_rfl)
                    exact sq_value _ rfl rfl (pick_run 41 true _ _ _ _ rfl h0 h1 rfl) (Below.refl _ _) (by decide) hS RB rfl
                  · obtain rfl := Option.some.inj hi
                    have h0 := pre_of hpre 14 52 (by kernel_rfl) (by kernel_rfl)
                    exact sq_value _ rfl rfl (rfl) (Below.refl _ _) (by decide) hS RB h0
                  · obtain rfl := Option.some.inj hi
                    have hgu : a'.tmps.getD 53 undef = _ := pre_of hpre 15 53 (by kernel_rfl) (by kernel_rfl)
                    have h0 : a'.tmps.getD 13 undef = (.pointer (some ⟨pe, 0, none⟩)) := by rw [inv.old 13 (notDst_spec (by kernel_rfl))]; rfl
                    exact sq_value _ rfl (wanted_of 15 53 true rfl (by kernel_rfl) hgu) (fa_run 83 1 13 pe rfl h0 (fa71_1 pe)) (Below.refl _ _) (by decide) hS RB rfl
                  · obtain rfl := Option.some.inj hi
                    have hgu : a'.tmps.getD 53 undef = _ := pre_of hpre 15 53 (by kernel_rfl) (by kernel_rfl)
                    have h0 : a'.tmps.getD 54 undef = _ := pre_of hpre 16 54 (by kernel_rfl) (by kernel_rfl)
                    exact sq_value _ rfl (wanted_of 15 53 true rfl (by kernel_rfl) hgu) (load_run 22 54 pe (1) _ rfl h0 (ld32 ((HC.out w' ho).2.1))) (Below.refl _ _) (by decide) hS RB ((HC.out w' ho).2.2.2.2.2.1)
                  · obtain rfl := Option.some.inj hi
                    have hgu : a'.tmps.getD 53 undef = _ := pre_of hpre 15 53 (by kernel_rfl) (by kernel_rfl)
                    have h0 := pre_of hpre 17 55 (by kernel_rfl) (by kernel_rfl)
                    exact sq_value _ rfl (wanted_of 15 53 true rfl (by kernel_rfl) hgu) (conv_run 55 _ rfl (h0.1)) (Below.refl _ _) (by decide) hS RB rfl
                  · obtain rfl := Option.some.inj hi
                    have hgu : a'.tmps.getD 53 undef = _ := pre_of hpre 15 53 (by kernel_rfl) (by kernel_rfl)
                    exact sq_value _ rfl (wanted_of 15 53 true rfl (by kernel_rfl) hgu) rfl (Below.refl _ _) (by decide) hS RB (by show SrcV _ _ (a'.tmps.getD 1 undef) _; rw [inv.old 1 (notDst_spec (by kernel_rfl))]; exact (HA.out w' ho).1)
                  · obtain rfl := Option.some.inj hi
                    have hgu : a'.tmps.getD 53 undef = _ := pre_of hpre 15 53 (by kernel_rfl) (by kernel_rfl)
                    have h0 := pre_of hpre 19 57 (by kernel_rfl) (by kernel_rfl)
                    exact sq_value _ rfl (wanted_of 15 53 true rfl (by kernel_rfl) hgu) (conv_run 57 _ rfl (h0.1)) (Below.refl _ _) (by decide) hS RB rfl
                  · obtain rfl := Option.some.inj hi
                    have hgu : a'.tmps.getD 53 undef = _ := pre_of hpre 15 53 (by kernel_rfl) (by kernel_rfl)
                    have h0 : a'.tmps.getD 56 undef = _ := pre_of hpre 18 56 (by kernel_rfl) (by kernel_rfl)
                    have h1 : a'.tmps.getD 58 undef = _ := pre_of hpre 20 58 (by kernel_rfl) (by kernel_rfl)
                    exact sq_value _ rfl (wanted_of 15 53 true rfl (by kernel_rfl) hgu) (eqlS_run 56 58 _ _ rfl h0 h1) (Below.refl _ _) (by decide) hS RB (congrArg Value.bool HQ2.out)
                  · obtain rfl := Option.some.inj hi
                    have h0 : a'.tmps.getD 53 undef = _ := pre_of hpre 15 53 (by kernel_rfl) (by kernel_rfl)
                    have h1 : a'.tmps.getD 59 undef = _ := pre_of hpre 21 59 (by kernel_rfl) (by kernel_rfl)
                    exact sq_value _ rfl rfl (pick_run 53 true _ _ _ _ rfl h0 h1 rfl) (Below.refl _ _) (by decide) hS RB rfl
                  · obtain rfl := Option.some.inj hi
                    have h0 := pre_of hpre 22 60 (by kernel_rfl) (by kernel_rfl)
                    exact sq_value _ rfl rfl (rfl) (Below.refl _ _) (by decide) hS RB h0
                  · obtain rfl := Option.some.inj hi
                    have hgu : a'.tmps.getD 61 undef = _ := pre_of hpre 23 61 (by kernel_rfl) (by kernel_rfl)
                    have h0 : a'.tmps.getD 13 undef = (.pointer (some ⟨pe, 0, none⟩)) := by rw [inv.old 13 (notDst_spec (by kernel_rfl))]; rfl
                    exact sq_value _ rfl (wanted_of 23 61 true rfl (by kernel_rfl) hgu) (fa_run 83 2 13 pe rfl h0 (fa71_2 pe)) (Below.refl _ _) (by decide) hS RB rfl
                  · obtain rfl := Option.some.inj hi
                    have hgu : a'.tmps.getD 61 undef = _ := pre_of hpre 23 61 (by kernel_rfl) (by kernel_rfl)
                    have h0 : a'.tmps.getD 62 undef = _ := pre_of hpre 24 62 (by kernel_rfl) (by kernel_rfl)
                    exact sq_value _ rfl (wanted_of 23 61 true rfl (by kernel_rfl) hgu) (load_run 22 62 pe (2) _ rfl h0 (ld32 ((HC.out w' ho).2.2.1))) (Below.refl _ _) (by decide) hS RB ((HC.out w' ho).2.2.2.2.2.2.1)
                  · obtain rfl := Option.some.inj hi
                    have hgu : a'.tmps.getD 61 undef = _ := pre_of hpre 23 61 (by kernel_rfl) (by kernel_rfl)
                    have h0 := pre_of hpre 25 63 (by kernel_rfl) (by kernel_rfl)
                    exact sq_value _ rfl (wanted_of 23 61 true rfl (by kernel_rfl) hgu) (conv_run 63 _ rfl (h0.1)) (Below.refl _ _) (by decide) hS RB rfl
                  · obtain rfl := Option.some.inj hi
                    have hgu : a'.tmps.getD 61 undef = _ := pre_of hpre 23 61 (by kernel_rfl) (by kernel_rfl)
                    exact sq_value _ rfl (wanted_of 23 61 true rfl (by kernel_rfl) hgu) rfl (Below.refl _ _) (by decide) hS RB (by show SrcV _ _ (a'.tmps.getD 2 undef) _; rw [inv.old 2 (notDst_spec (by kernel_rfl))]; exact (HA.out w' ho).2.1)
                  · obtain rfl := Option.some.inj hi
                    have hgu : a'.tmps.getD 61 undef = _ := pre_of hpre 23 61 (by kernel_rfl) (by kernel_rfl)
                    have h0 := pre_of hpre 27 65 (by kernel_rfl) (by kernel_rfl)
                    exact sq_value _ rfl (wanted_of 23 61 true rfl (by kernel_rfl) hgu) (conv_run 65 _ rfl (h0.1)) (Below.refl _ _) (by decide) hS RB rfl
                  · obtain rfl := Option.some.inj hi
                    have hgu : a'.tmps.getD 61 undef = _ := pre_of hpre 23 61 (by kernel_rfl) (by kernel_rfl)
                    have h0 : a'.tmps.getD 64 undef = _ := pre_of hpre 26 64 (by kernel_rfl) (by kernel_rfl)
                    have h1 : a'.tmps.getD 66 undef = _ := pre_of hpre 28 66 (by kernel_rfl) (by kernel_rfl)
                    exact sq_value _ rfl (wanted_of 23 61 true rfl (by kernel_rfl) hgu) (eqlS_run 64 66 _ _ rfl h0 h1) (Below.refl _ _) (by decide) hS RB (congrArg Value.bool HQ3.out)
                  · obtain rfl := Option.some.inj hi
                    have h0 : a'.tmps.getD 61 undef = _ := pre_of hpre 23 61 (by kernel_rfl) (by kernel_rfl)
                    have h1 : a'.tmps.getD 67 undef = _ := pre_of hpre 29 67 (by kernel_rfl) (by kernel_rfl)
                    exact sq_value _ rfl rfl (pick_run 61 true _ _ _ _ rfl h0 h1 rfl) (Below.refl _ _) (by decide) hS RB rfl
                  · obtain rfl := Option.some.inj hi
                    have h0 := pre_of hpre 30 68 (by kernel_rfl) (by kernel_rfl)
                    exact sq_value _ rfl rfl (rfl) (Below.refl _ _) (by decide) hS RB h0
                  · obtain rfl := Option.some.inj hi
                    have hgu : a'.tmps.getD 69 undef = _ := pre_of hpre 31 69 (by kernel_rfl) (by kernel_rfl)
                    have h0 : a'.tmps.getD 13 undef = (.pointer (some ⟨pe, 0, none⟩)) := by rw [inv.old 13 (notDst_spec (by kernel_rfl))]; rfl
                    exact sq_value _ rfl (wanted_of 31 69 true rfl (by kernel_rfl) hgu) (fa_run 83 3 13 pe rfl h0 (fa71_3 pe)) (Below.refl _ _) (by decide) hS RB rfl
                  · obtain rfl := Option.some.inj hi
                    have hgu : a'.tmps.getD 69 undef = _ := pre_of hpre 31 69 (by kernel_rfl) (by kernel_rfl)
                    have h0 : a'.tmps.getD 70 undef = _ := pre_of hpre 32 70 (by kernel_rfl) (by kernel_rfl)
                    exact sq_value _ rfl (wanted_of 31 69 true rfl (by kernel_rfl) hgu) (load_run 22 70 pe (3) _ rfl h0 (ld32 ((HC.out w' ho).2.2.2.1))) (Below.refl _ _) (by decide) hS RB ((HC.out w' ho).2.2.2.2.2.2.2.1)
                  · obtain rfl := Option.some.inj hi
                    have hgu : a'.tmps.getD 69 undef = _ := pre_of hpre 31 69 (by kernel_rfl) (by kernel_rfl)
                    have h0 := pre_of hpre 33 71 (by kernel_rfl) (by kernel_rfl)
                    exact sq_value _ rfl (wanted_of 31 69 true rfl (by kernel_rfl) hgu) (conv_run 71 _ rfl (h0.1)) (Below.refl _ _) (by decide) hS RB rfl
                  · obtain rfl := Option.some.inj hi
                    have hgu : a'.tmps.getD 69 undef = _ := pre_of hpre 31 69 (by kernel_rfl) (by kernel_rfl)
                    exact sq_value _ rfl (wanted_of 31 69 true rfl (by kernel_rfl) hgu) rfl (Below.refl _ _) (by decide) hS RB (by show SrcV _ _ (a'.tmps.getD 3 undef) _; rw [inv.old 3 (notDst_spec (by kernel_rfl))]; exact (HA.out w' ho).2.2.1)
                  · obtain rfl := Option.some.inj hi
                    have hgu : a'.tmps.getD 69 undef = _ := pre_of hpre 31 69 (by kernel_rfl) (by kernel_rfl)
                    have h0 := pre_of hpre 35 73 (by kernel_rfl) (by kernel_rfl)
                    exact sq_value _ rfl (wanted_of 31 69 true rfl (by kernel_rfl) hgu) (conv_run 73 _ rfl (h0.1)) (Below.refl _ _) (by decide) hS RB rfl
                  · obtain rfl := Option.some.inj hi
                    have hgu : a'.tmps.getD 69 undef = _ := pre_of hpre 31 69 (by kernel_rfl) (by kernel_rfl)
                    have h0 : a'.tmps.getD 72 undef = _ := pre_of hpre 34 72 (by kernel_rfl) (by kernel_rfl)
                    have h1 : a'.tmps.getD 74 undef = _ := pre_of hpre 36 74 (by kernel_rfl) (by kernel_rfl)
                    exact sq_value _ rfl (wanted_of 31 69 true rfl (by kernel_rfl) hgu) (eqlS_run 72 74 _ _ rfl h0 h1) (Below.refl _ _) (by decide) hS RB (congrArg Value.bool HQ4.out)
                  · obtain rfl := Option.some.inj hi
                    have h0 : a'.tmps.getD 69 undef = _ := pre_of hpre 31 69 (by kernel_rfl) (by kernel_rfl)
                    have h1 : a'.tmps.getD 75 undef = _ := pre_of hpre 37 75 (by kernel_rfl) (by kernel_rfl)
                    exact sq_value _ rfl rfl (pick_run 69 true _ _ _ _ rfl h0 h1 rfl) (Below.refl _ _) (by decide) hS RB rfl
                · intro a' w5 f inv hS hall hd
                  have hk38 := hd 38 76 (by kernel_rfl)
                  have ho : Only [] w3 w5 := inv.grow
                  have hdf : a'.defers = [] := inv.defers
                  have hsz : a'.tmps.size = 79 := inv.size
                  have e := frame22_7 hsz (fun t ht => inv.old t (dstsIn_spec (ts := [38, 39, 40, 41, 42, 43, 44, 45, 46, 47, 48, 49, 50, 51, 52, 53, 54, 55, 56, 57, 58, 59, 60, 61, 62, 63, 64, 65, 66, 67, 68, 69, 70, 71, 72, 73, 74, 75, 76]) (by kernel_rfl) t ht))
                  have hR := hS.done (fun c hc => hall c (show c < 39 by simp at hc <;> omega))
                  clear inv hd hsz hall hS
                  obtain ⟨tmps, defers⟩ := a'
                  obtain rfl : defers = [] := hdf
                  replace e : tmps = _ := e
                  replace hk38 : tmps.getD 76 undef = (.bool true) := hk38
                  generalize tmps.getD 38 undef = x38 at *
                  generalize tmps.getD 39 undef = x39 at *
                  generalize tmps.getD 40 undef = x40 at *
                  generalize tmps.getD 41 undef = x41 at *
                  generalize tmps.getD 42 undef = x42 at *
                  generalize tmps.getD 43 undef = x43 at *
                  generalize tmps.getD 44 undef = x44 at *
                  generalize tmps.getD 45 undef = x45 at *
                  generalize tmps.getD 46 undef = x46 at *
                  generalize tmps.getD 47 undef = x47 at *
                  generalize tmps.getD 48 undef = x48 at *
                  generalize tmps.getD 49 undef = x49 at *
                  generalize tmps.getD 50 undef = x50 at *
                  generalize tmps.getD 51 undef = x51 at *
                  generalize tmps.getD 52 undef = x52 at *
                  generalize tmps.getD 53 undef = x53 at *
                  generalize tmps.getD 54 undef = x54 at *
                  generalize tmps.getD 55 undef = x55 at *
                  generalize tmps.getD 56 undef = x56 at *
                  generalize tmps.getD 57 undef = x57 at *
                  generalize tmps.getD 58 undef = x58 at *
                  generalize tmps.getD 59 undef = x59 at *
                  generalize tmps.getD 60 undef = x60 at *
                  generalize tmps.getD 61 undef = x61 at *
                  generalize tmps.getD 62 undef = x62 at *
                  generalize tmps.getD 63 undef = x63 at *
                  generalize tmps.getD 64 undef = x64 at *
                  generalize tmps.getD 65 undef = x65 at *
                  generalize tmps.getD 66 undef = x66 at *
                  generalize tmps.getD 67 undef = x67 at *
                  generalize tmps.getD 68 undef = x68 at *
                  generalize tmps.getD 69 undef = x69 at *
                  generalize tmps.getD 70 undef = x70 at *
                  generalize tmps.getD 71 undef = x71 at *
                  generalize tmps.getD 72 undef = x72 at *
                  generalize tmps.getD 73 undef = x73 at *
                  generalize tmps.getD 74 undef = x74 at *
                  generalize tmps.getD 75 undef = x75 at *
                  generalize tmps.getD 76 undef = x76 at *
                  simp only [Array.getD_eq_getD_getElem?, List.getElem?_toArray, List.getElem?_cons_succ, List.getElem?_cons_zero, Option.getD_some] at e
                  subst e
                  subst hk38
                  have HB5 : Hid (Below w.heap.size w w5) := HB3.out.trans (ho.below HB3.out.size (fun y hy => by simp at hy))
                  have y4 := (HC.out w5 ho).2.2.2.2.1
                  have HY : Hid (By B w5 (.slice q4 l4 r4) ut) := HY3.out.below (ho.below (Nat.le_refl _) (fun y hy => by simp at hy))
                  clear hR ho RB HC HA
                  go_wp2_with fail
                  refine bodyPost_ret (results_tmp2 rfl _ _ _) rfl ?_
                  refine ⟨?_, HB5.out⟩
                  rw [HNX.out]
                  exact ⟨_, rfl, HY.out⟩
              · have HQ4 : Hid (((strB uo).toList == (strB o).toList) = false) := by show _ = _; rw [strB_beqL HS3.out HK3.out]; simp [h5]
                have HNX : Hid (R = Su.opens k nn o bs (j + 1) (L.drop (j + 1))) := by show _ = _; rw [HLJ.out]; exact if_neg (fun h => h5 h.2.2.2.2)
                clear HLJ h1 h2 h3 h4 h5
                go_wp2_with fail
                generalize wr.alloc (.cells #[.int .i64 (us : Int), .slice q1 l1 r1, .slice q2 l2 r2, .slice q3 l3 r3, .slice q4 l4 r4] 83) = w3 at *
                have RB : ∀ k w w', Below w.heap.size w w' → (fun (_ : Nat) (_ : World) => True) k w → (fun (_ : Nat) (_ : World) => True) k w' := fun _ _ _ _ _ => trivial
                refine wp_region_st (op7c4 pe j us uk un uo ut k nn o bs) (fun u u' => Only [] u u') (SeqS [] (fun (_ : Nat) (_ : World) => True)) (by kernel_rfl) (only_drew _ _) (only_trans _) (op7c4_kept pe j us uk un uo ut k nn o bs) (by kernel_rfl) (SeqS.start (trivial)) ?_ ?_
                · intro i o a' w' f hi inv hS hfi hfw hpre
                  have ho : Only [] w3 w' := inv.grow
                  have hlt : i < 39 := (Array.getElem?_eq_some_iff.1 hi).1
                  obtain rfl|rfl|rfl|rfl|rfl|rfl|rfl|rfl|rfl|rfl|rfl|rfl|rfl|rfl|rfl|rfl|rfl|rfl|rfl|rfl|rfl|rfl|rfl|rfl|rfl|rfl|rfl|rfl|rfl|rfl|rfl|rfl|rfl|rfl|rfl|rfl|rfl|rfl|rfl : i = 0 ∨ i = 1 ∨ i = 2 ∨ i = 3 ∨ i = 4 ∨ i = 5 ∨ i = 6 ∨ i = 7 ∨ i = 8 ∨ i = 9 ∨ i = 10 ∨ i = 11 ∨ i = 12 ∨ i = 13 ∨ i = 14 ∨ i = 15 ∨ i = 16 ∨ i = 17 ∨ i = 18 ∨ i = 19 ∨ i = 20 ∨ i = 21 ∨ i = 22 ∨ i = 23 ∨ i = 24 ∨ i = 25 ∨ i = 26 ∨ i = 27 ∨ i = 28 ∨ i = 29 ∨ i = 30 ∨ i = 31 ∨ i = 32 ∨ i = 33 ∨ i = 34 ∨ i = 35 ∨ i = 36 ∨ i = 37 ∨ i = 38 := by omega
                  · obtain rfl := Option.some.inj hi
                    have h0 : a'.tmps.getD 13 undef = (.pointer (some ⟨pe, 0, none⟩)) := by rw [inv.old 13 (notDst_spec (by kernel_rfl))]; rfl
                    exact sq_value _ rfl rfl (fa_run 83 0 13 pe rfl h0 (fa71_0 pe)) (Below.refl _ _) (by decide) hS RB rfl
                  · obtain rfl := Option.some.inj hi
                    have h0 : a'.tmps.getD 38 undef = _ := pre_of hpre 0 38 (by kernel_rfl) (by kernel_rfl)
                    exact sq_value _ rfl rfl (load_run 3 38 pe (0) _ rfl h0 (ld3 ((HC.out w' ho).1))) (Below.refl _ _) (by decide) hS RB rfl
                  · obtain rfl := Option.some.inj hi
                    have h0 : a'.tmps.getD 39 undef = _ := pre_of hpre 1 39 (by kernel_rfl) (by kernel_rfl)
                    exact sq_value _ rfl rfl (eqlc_run 39 us rfl h0) (Below.refl _ _) (by decide) hS RB (congrArg Value.bool H66.out)
                  · obtain rfl := Option.some.inj hi
                    have h0 := pre_of hpre 2 40 (by kernel_rfl) (by kernel_rfl)
                    exact sq_value _ rfl rfl (rfl) (Below.refl _ _) (by decide) hS RB h0
                  · obtain rfl := Option.some.inj hi
                    have hgu : a'.tmps.getD 41 undef = _ := pre_of hpre 3 41 (by kernel_rfl) (by kernel_rfl)
                    exact sq_value _ rfl (wanted_of 3 41 true rfl (by kernel_rfl) hgu) rfl (Below.refl _ _) (by decide) hS RB (by show a'.tmps.getD 12 undef = _; rw [inv.old 12 (notDst_spec (by kernel_rfl))]; rfl)
                  · obtain rfl := Option.some.inj hi
                    have hgu : a'.tmps.getD 41 undef = _ := pre_of hpre 3 41 (by kernel_rfl) (by kernel_rfl)
                    have h0 : a'.tmps.getD 42 undef = _ := pre_of hpre 4 42 (by kernel_rfl) (by kernel_rfl)
                    exact sq_value _ rfl (wanted_of 3 41 true rfl (by kernel_rfl) hgu) (addc_run 42 j HJ1.out rfl h0) (Below.refl _ _) (by decide) hS RB rfl
                  · obtain rfl := Option.some.inj hi
                    have hgu : a'.tmps.getD 41 undef = _ := pre_of hpre 3 41 (by kernel_rfl) (by kernel_rfl)
                    have h0 : a'.tmps.getD 13 undef = (.pointer (some ⟨pe, 0, none⟩)) := by rw [inv.old 13 (notDst_spec (by kernel_rfl))]; rfl
                    exact sq_value _ rfl (wanted_of 3 41 true rfl (by kernel_rfl) hgu) (fa_run 83 4 13 pe rfl h0 (fa71_4 pe)) (Below.refl _ _) (by decide) hS RB rfl
                  · obtain rfl := Option.some.inj hi
                    have hgu : a'.tmps.getD 41 undef = _ := pre_of hpre 3 41 (by kernel_rfl) (by kernel_rfl)
                    have h0 : a'.tmps.getD 44 undef = _ := pre_of hpre 6 44 (by kernel_rfl) (by kernel_rfl)
                    exact sq_value _ rfl (wanted_of 3 41 true rfl (by kernel_rfl) hgu) (load_run 22 44 pe (4) _ rfl h0 (ld32 ((HC.out w' ho).2.2.2.2.1))) (Below.refl _ _) (by decide) hS RB ((HC.out w' ho).2.2.2.2.2.2.2.2)
                  · obtain rfl := Option.some.inj hi
                    have hgu : a'.tmps.getD 41 undef = _ := pre_of hpre 3 41 (by kernel_rfl) (by kernel_rfl)
                    have h0 := pre_of hpre 7 45 (by kernel_rfl) (by kernel_rfl)
                    exact sq_value _ rfl (wanted_of 3 41 true rfl (by kernel_rfl) hgu) (len_run 45 rfl h0.1) (Below.refl _ _) (by decide) hS RB rfl
                  · obtain rfl := Option.some.inj hi
                    have hgu : a'.tmps.getD 41 undef = _ := pre_of hpre 3 41 (by kernel_rfl) (by kernel_rfl)
                    have h0 : a'.tmps.getD 43 undef = _ := pre_of hpre 5 43 (by kernel_rfl) (by kernel_rfl)
                    have h1 : a'.tmps.getD 46 undef = _ := pre_of hpre 8 46 (by kernel_rfl) (by kernel_rfl)
                    refine sq_quiet 50 #[a'.tmps.getD 43 undef, a'.tmps.getD 46 undef] rfl (wanted_of 3 41 true rfl (by kernel_rfl) hgu) (by kernel_rfl) (by decide) hS ?_
                    rw [h0, h1]
                    exact (rbox_any (j + 1) ut.length w' HLT.out (by have := HJ1.out; omega)).mono (by rintro e u ⟨v, rfl, ho1, hb1⟩; exact ⟨v, rfl, Only.of_below hb1 _, (fun _ _ => trivial), Src.own (Su.box_lt _ _) ho1, fun _ _ hm => by simp at hm⟩)
                  · obtain rfl := Option.some.inj hi
                    have hgu : a'.tmps.getD 41 undef = _ := pre_of hpre 3 41 (by kernel_rfl) (by kernel_rfl)
                    have h0 := pre_of hpre 9 47 (by kernel_rfl) (by kernel_rfl)
                    exact sq_value _ rfl (wanted_of 3 41 true rfl (by kernel_rfl) hgu) (conv_run 47 _ rfl (h0.1)) (Below.refl _ _) (by decide) hS RB rfl
                  · obtain rfl := Option.some.inj hi
                    have hgu : a'.tmps.getD 41 undef = _ := pre_of hpre 3 41 (by kernel_rfl) (by kernel_rfl)
                    exact sq_value _ rfl (wanted_of 3 41 true rfl (by kernel_rfl) hgu) rfl (Below.refl _ _) (by decide) hS RB (by show SrcV _ _ (a'.tmps.getD 4 undef) _; rw [inv.old 4 (notDst_spec (by kernel_rfl))]; exact (HA.out w' ho).2.2.2)
                  · obtain rfl := Option.some.inj hi
                    have hgu : a'.tmps.getD 41 undef = _ := pre_of hpre 3 41 (by kernel_rfl) (by kernel_rfl)
                    have h0 := pre_of hpre 11 49 (by kernel_rfl) (by kernel_rfl)
                    exact sq_value _ rfl (wanted_of 3 41 true rfl (by kernel_rfl) hgu) (conv_run 49 _ rfl (h0.1)) (Below.refl _ _) (by decide) hS RB rfl
                  · obtain rfl := Option.some.inj hi
                    have hgu : a'.tmps.getD 41 undef = _ := pre_of hpre 3 41 (by kernel_rfl) (by kernel_rfl)
                    have h0 : a'.tmps.getD 48 undef = _ := pre_of hpre 10 48 (by kernel_rfl) (by kernel_rfl)
                    have h1 : a'.tmps.getD 50 undef = _ := pre_of hpre 12 50 (by kernel_rfl) (by kernel_rfl)
                    exact sq_value _ rfl (wanted_of 3 41 true rfl (by kernel_rfl) hgu) (eqlS_run 48 50 _ _ rfl h0 h1) (Below.refl _ _) (by decide) hS RB (congrArg Value.bool HQ1.out)
                  · obtain rfl := Option.some.inj hi
                    have h0 : a'.tmps.getD 41 undef = _ := pre_of hpre 3 41 (by kernel_rfl) (by kernel_rfl)
                    have h1 : a'.tmps.getD 51 undef = _ := pre_of hpre 13 51 (by kernel_rfl) (by kernel_rfl)
                    exact sq_value _ rfl rfl (pick_run 41 true _ _ _ _ rfl h0 h1 rfl) (Below.refl _ _) (by decide) hS RB rfl
                  · obtain rfl := Option.some.inj hi
                    have h0 := pre_of hpre 14 52 (by kernel_rfl) (by kernel_rfl)
                    exact sq_value _ rfl rfl (rfl) (Below.refl _ _) (by decide) hS RB h0
                  · obtain rfl := Option.some.inj hi
                    have hgu : a'.tmps.getD 53 undef = _ := pre_of hpre 15 53 (by kernel_rfl) (by kernel_rfl)
                    have h0 : a'.tmps.getD 13 undef = (.pointer (some ⟨pe, 0, none⟩)) := by rw [inv.old 13 (notDst_spec (by kernel_rfl))]; rfl
                    exact sq_value _ rfl (wanted_of 15 53 true rfl (by kernel_rfl) hgu) (fa_run 83 1 13 pe rfl h0 (fa71_1 pe)) (Below.refl _ _) (by decide) hS RB rfl
                  · obtain rfl := Option.some.inj hi
                    have hgu : a'.tmps.getD 53 undef = _ := pre_of hpre 15 53 (by kernel_rfl) (by kernel_rfl)
                    have h0 : a'.tmps.getD 54 undef = _ := pre_of hpre 16 54 (by kernel_rfl) (by kernel_rfl)
                    exact sq_value _ rfl (wanted_of 15 53 true rfl (by kernel_rfl) hgu) (load_run 22 54 pe (1) _ rfl h0 (ld32 ((HC.out w' ho).2.1))) (Below.refl _ _) (by decide) hS RB ((HC.out w' ho).2.2.2.2.2.1)
                  · obtain rfl := Option.some.inj hi
                    have hgu : a'.tmps.getD 53 undef = _ := pre_of hpre 15 53 (by kernel_rfl) (by kernel_rfl)
                    have h0 := pre_of hpre 17 55 (by kernel_rfl) (by kernel_rfl)
                    exact sq_value _ rfl (wanted_of 15 53 true rfl (by kernel_rfl) hgu) (conv_run 55 _ rfl (h0.1)) (Below.refl _ _) (by decide) hS RB rfl
                  · obtain rfl := Option.some.inj hi
                    have hgu : a'.tmps.getD 53 undef = _ := pre_of hpre 15 53 (by kernel_rfl) (by kernel_rfl)
                    exact sq_value _ rfl (wanted_of 15 53 true rfl (by kernel_rfl) hgu) rfl (Below.refl _ _) (by decide) hS RB (by show SrcV _ _ (a'.tmps.getD 1 undef) _; rw [inv.old 1 (notDst_spec (by kernel_rfl))]; exact (HA.out w' ho).1)
                  · obtain rfl := Option.some.inj hi
                    have hgu : a'.tmps.getD 53 undef = _ := pre_of hpre 15 53 (by kernel_rfl) (by kernel_rfl)
                    have h0 := pre_of hpre 19 57 (by kernel_rfl) (by kernel_rfl)
                    exact sq_value _ rfl (wanted_of 15 53 true rfl (by kernel_rfl) hgu) (conv_run 57 _ rfl (h0.1)) (Below.refl _ _) (by decide) hS RB rfl
                  · obtain rfl := Option.some.inj hi
                    have hgu : a'.tmps.getD 53 undef = _ := pre_of hpre 15 53 (by kernel_rfl) (by kernel_rfl)
                    have h0 : a'.tmps.getD 56 undef = _ := pre_of hpre 18 56 (by kernel_rfl) (by kernel_rfl)
                    have h1 : a'.tmps.getD 58 undef = _ := pre_of hpre 20 58 (by kernel_rfl) (by kernel_rfl)
                    exact sq_value _ rfl (wanted_of 15 53 true rfl (by kernel_rfl) hgu) (eqlS_run 56 58 _ _ rfl h0 h1) (Below.refl _ _) (by decide) hS RB (congrArg Value.bool HQ2.out)
                  · obtain rfl := Option.some.inj hi
                    have h0 : a'.tmps.getD 53 undef = _ := pre_of hpre 15 53 (by kernel_rfl) (by kernel_rfl)
                    have h1 : a'.tmps.getD 59 undef = _ := pre_of hpre 21 59 (by kernel_rfl) (by kernel_rfl)
                    exact sq_value _ rfl rfl (pick_run 53 true _ _ _ _ rfl h0 h1 rfl) (Below.refl _ _) (by decide) hS RB rfl
                  · obtain rfl := Option.some.inj hi
                    have h0 := pre_of hpre 22 60 (by kernel_rfl) (by kernel_rfl)
                    exact sq_value _ rfl rfl (rfl) (Below.refl _ _) (by decide) hS RB h0
                  · obtain rfl := Option.some.inj hi
                    have hgu : a'.tmps.getD 61 undef = _ := pre_of hpre 23 61 (by kernel_rfl) (by kernel_rfl)
                    have h0 : a'.tmps.getD 13 undef = (.pointer (some ⟨pe, 0, none⟩)) := by rw [inv.old 13 (notDst_spec (by kernel_rfl))]; rfl
                    exact sq_value _ rfl (wanted_of 23 61 true rfl (by kernel_rfl) hgu) (fa_run 83 2 13 pe rfl h0 (fa71_2 pe)) (Below.refl _ _) (by decide) hS RB rfl
                  · obtain rfl := Option.some.inj hi
                    have hgu : a'.tmps.getD 61 undef = _ := pre_of hpre 23 61 (by kernel_rfl) (by kernel_rfl)
                    have h0 : a'.tmps.getD 62 undef = _ := pre_of hpre 24 62 (by kernel_rfl) (by kernel_rfl)
                    exact sq_value _ rfl (wanted_of 23 61 true rfl (by kernel_rfl) hgu) (load_run 22 62 pe (2) _ rfl h0 (ld32 ((HC.out w' ho).2.2.1))) (Below.refl _ _) (by decide) hS RB ((HC.out w' ho).2.2.2.2.2.2.1)
                  · obtain rfl := Option.some.inj hi
                    have hgu : a'.tmps.getD 61 undef = _ := pre_of hpre 23 61 (by kernel_rfl) (by kernel_rfl)
                    have h0 := pre_of hpre 25 63 (by kernel_rfl) (by kernel_rfl)
                    exact sq_value _ rfl (wanted_of 23 61 true rfl (by kernel_rfl) hgu) (conv_run 63 _ rfl (h0.1)) (Below.refl _ _) (by decide) hS RB rfl
                  · obtain rfl := Option.some.inj hi
                    have hgu : a'.tmps.getD 61 undef = _ := pre_of hpre 23 61 (by kernel_rfl) (by kernel_rfl)
                    exact sq_value _ rfl (wanted_of 23 61 true rfl (by kernel_rfl) hgu) rfl (Below.refl _ _) (by decide) hS RB (by show SrcV _ _ (a'.tmps.getD 2 undef) _; rw [inv.old 2 (notDst_spec (by kernel_rfl))]; exact (HA.out w' ho).2.1)
                  · obtain rfl := Option.some.inj hi
                    have hgu : a'.tmps.getD 61 undef = _ := pre_of hpre 23 61 (by kernel_rfl) (by kernel_rfl)
                    have h0 := pre_of hpre 27 65 (by kernel_rfl) (by kernel_rfl)
                    exact sq_value _ rfl (wanted_of 23 61 true rfl (by kernel_rfl) hgu) (conv_run 65 _ rfl (h0.1)) (Below.refl _ _) (by decide) hS RB rfl
                  · obtain rfl := Option.some.inj hi
                    have hgu : a'.tmps.getD 61 undef = _ := pre_of hpre 23 61 (by kernel_rfl) (by kernel_rfl)
                    have h0 : a'.tmps.getD 64 undef = _ := pre_of hpre 26 64 (by kernel_rfl) (by kernel_rfl)
                    have h1 : a'.tmps.getD 66 undef = _ := pre_of hpre 28 66 (by kernel_rfl) (by kernel_rfl)
                    exact sq_value _ rfl (wanted_of 23 61 true rfl (by kernel_rfl) hgu) (eqlS_run 64 66 _ _ rfl h0 h1) (Below.refl _ _) (by decide) hS RB (congrArg Value.bool HQ3.out)
                  · obtain rfl := Option.some.inj hi
                    have h0 : a'.tmps.getD 61 undef = _ := pre_of hpre 23 61 (by kernel_rfl) (by kernel_rfl)
                    have h1 : a'.tmps.getD 67 undef = _ := pre_of hpre 29 67 (by kernel_rfl) (by kernel_rfl)
                    exact sq_value _ rfl rfl (pick_run 61 true _ _ _ _ rfl h0 h1 rfl) (Below.refl _ _) (by decide) hS RB rfl
                  · obtain rfl := Option.some.inj hi
                    have h0 := pre_of hpre 30 68 (by kernel_rfl) (by kernel_rfl)
                    exact sq_value _ rfl rfl (rfl) (Below.refl _ _) (by decide) hS RB h0
                  · obtain rfl := Option.some.inj hi
                    have hgu : a'.tmps.getD 69 undef = _ := pre_of hpre 31 69 (by kernel_rfl) (by kernel_rfl)
                    have h0 : a'.tmps.getD 13 undef = (.pointer (some ⟨pe, 0, none⟩)) := by rw [inv.old 13 (notDst_spec (by kernel_rfl))]; rfl
                    exact sq_value _ rfl (wanted_of 31 69 true rfl (by kernel_rfl) hgu) (fa_run 83 3 13 pe rfl h0 (fa71_3 pe)) (Below.refl _ _) (by decide) hS RB rfl
                  · obtain rfl := Option.some.inj hi
                    have hgu : a'.tmps.getD 69 undef = _ := pre_of hpre 31 69 (by kernel_rfl) (by kernel_rfl)
                    have h0 : a'.tmps.getD 70 undef = _ := pre_of hpre 32 70 (by kernel_rfl) (by kernel_rfl)
                    exact sq_value _ rfl (wanted_of 31 69 true rfl (by kernel_rfl) hgu) (load_run 22 70 pe (3) _ rfl h0 (ld32 ((HC.out w' ho).2.2.2.1))) (Below.refl _ _) (by decide) hS RB ((HC.out w' ho).2.2.2.2.2.2.2.1)
                  · obtain rfl := Option.some.inj hi
                    have hgu : a'.tmps.getD 69 undef = _ := pre_of hpre 31 69 (by kernel_rfl) (by kernel_rfl)
                    have h0 := pre_of hpre 33 71 (by kernel_rfl) (by kernel_rfl)
                    exact sq_value _ rfl (wanted_of 31 69 true rfl (by kernel_rfl) hgu) (conv_run 71 _ rfl (h0.1)) (Below.refl _ _) (by decide) hS RB rfl
                  · obtain rfl := Option.some.inj hi
                    have hgu : a'.tmps.getD 69 undef = _ := pre_of hpre 31 69 (by kernel_rfl) (by kernel_rfl)
                    exact sq_value _ rfl (wanted_of 31 69 true rfl (by kernel_rfl) hgu) rfl (Below.refl _ _) (by decide) hS RB (by show SrcV _ _ (a'.tmps.getD 3 undef) _; rw [inv.old 3 (notDst_spec (by kernel_rfl))]; exact (HA.out w' ho).2.2.1)
                  · obtain rfl := Option.some.inj hi
                    have hgu : a'.tmps.getD 69 undef = _ := pre_of hpre 31 69 (by kernel_rfl) (by kernel_rfl)
                    have h0 := pre_of hpre 35 73 (by kernel_rfl) (by kernel_rfl)
                    exact sq_value _ rfl (wanted_of 31 69 true rfl (by kernel_rfl) hgu) (conv_run 73 _ rfl (h0.1)) (Below.refl _ _) (by decide) hS RB rfl
                  · obtain rfl := Option.some.inj hi
                    have hgu : a'.tmps.getD 69 undef = _ := pre_of hpre 31 69 (by kernel_rfl) (by kernel_rfl)
                    have h0 : a'.tmps.getD 72 undef = _ := pre_of hpre 34 72 (by kernel_rfl) (by kernel_rfl)
                    have h1 : a'.tmps.getD 74 undef = _ := pre_of hpre 36 74 (by kernel_rfl) (by kernel_rfl)
                    exact sq_value _ rfl (wanted_of 31 69 true rfl (by kernel_rfl) hgu) (eqlS_run 72 74 _ _ rfl h0 h1) (Below.refl _ _) (by decide) hS RB (congrArg Value.bool HQ4.out)
                  · obtain rfl := Option.some.inj hi
                    have h0 : a'.tmps.getD 69 undef = _ := pre_of hpre 31 69 (by kernel_rfl) (by kernel_rfl)
                    have h1 : a'.tmps.getD 75 undef = _ := pre_of hpre 37 75 (by kernel_rfl) (by kernel_rfl)
                    exact sq_value _ rfl rfl (pick_run 69 true _ _ _ _ rfl h0 h1 rfl) (Below.refl _ _) (by decide) hS RB rfl
                · intro a' w5 f inv hS hall hd
                  have hk38 := hd 38 76 (by kernel_rfl)
                  have ho : Only [] w3 w5 := inv.grow
                  have hdf : a'.defers = [] := inv.defers
                  have hsz : a'.tmps.size = 79 := inv.size
                  have e := frame22_7 hsz (fun t ht => inv.old t (dstsIn_spec (ts := [38, 39, 40, 41, 42, 43, 44, 45, 46, 47, 48, 49, 50, 51, 52, 53, 54, 55, 56, 57, 58, 59, 60, 61, 62, 63, 64, 65, 66, 67, 68, 69, 70, 71, 72, 73, 74, 75, 76]) (by kernel_rfl) t ht))
                  have hR := hS.done (fun c hc => hall c (show c < 39 by simp at hc <;> omega))
                  clear inv hd hsz hall hS
                  obtain ⟨tmps, defers⟩ := a'
                  obtain rfl : defers = [] := hdf
                  replace e : tmps = _ := e
                  replace hk38 : tmps.getD 76 undef = (.bool false) := hk38
                  generalize tmps.getD 38 undef = x38 at *
                  generalize tmps.getD 39 undef = x39 at *
                  generalize tmps.getD 40 undef = x40 at *
                  generalize tmps.getD 41 undef = x41 at *
                  generalize tmps.getD 42 undef = x42 at *
                  generalize tmps.getD 43 undef = x43 at *
                  generalize tmps.getD 44 undef = x44 at *
                  generalize tmps.getD 45 undef = x45 at *
                  generalize tmps.getD 46 undef = x46 at *
                  generalize tmps.getD 47 undef = x47 at *
                  generalize tmps.getD 48 undef = x48 at *
                  generalize tmps.getD 49 undef = x49 at *
                  generalize tmps.getD 50 undef = x50 at *
                  generalize tmps.getD 51 undef = x51 at *
                  generalize tmps.getD 52 undef = x52 at *
                  generalize tmps.getD 53 undef = x53 at *
                  generalize tmps.getD 54 undef = x54 at *
                  generalize tmps.getD 55 undef = x55 at *
                  generalize tmps.getD 56 undef = x56 at *
                  generalize tmps.getD 57 undef = x57 at *
                  generalize tmps.getD 58 undef = x58 at *
                  generalize tmps.getD 59 undef = x59 at *
                  generalize tmps.getD 60 undef = x60 at *
                  generalize tmps.getD 61 undef = x61 at *
                  generalize tmps.getD 62 undef = x62 at *
                  generalize tmps.getD 63 undef = x63 at *
                  generalize tmps.getD 64 undef = x64 at *
                  generalize tmps.getD 65 undef = x65 at *
                  generalize tmps.getD 66 undef = x66 at *
                  generalize tmps.getD 67 undef = x67 at *
                  generalize tmps.getD 68 undef = x68 at *
                  generalize tmps.getD 69 undef = x69 at *
                  generalize tmps.getD 70 undef = x70 at *
                  generalize tmps.getD 71 undef = x71 at *
                  generalize tmps.getD 72 undef = x72 at *
                  generalize tmps.getD 73 undef = x73 at *
                  generalize tmps.getD 74 undef = x74 at *
                  generalize tmps.getD 75 undef = x75 at *
                  generalize tmps.getD 76 undef = x76 at *
                  simp only [Array.getD_eq_getD_getElem?, List.getElem?_toArray, List.getElem?_cons_succ, List.getElem?_cons_zero, Option.getD_some] at e
                  subst e
                  subst hk38
                  have HB5 : Hid (Below w.heap.size w w5) := HB3.out.trans (ho.below HB3.out.size (fun y hy => by simp at hy))
                  clear hR ho RB HC HA
                  go_wp2_with fail
                  first
                    | (refine ⟨⟨j + 1, by omega, by simp, HB5.out, HNX⟩, ?_⟩; simp only [intOf]; omega)
                    | (go_roundw; (case rel => exact ⟨j + 1, by omega, by simp, HB5.out, HNX⟩); (case measure => simp only [intOf]; omega))
            · have HQ3 : Hid (((strB un).toList == (strB nn).toList) = false) := by show _ = _; rw [strB_beqL HS2.out HK2.out]; simp [h4]
              have HNX : Hid (R = Su.opens k nn o bs (j + 1) (L.drop (j + 1))) := by show _ = _; rw [HLJ.out]; exact if_neg (fun h => h4 h.2.2.2.1)
              clear HLJ h1 h2 h3 h4
              go_wp2_with fail
              generalize wr.alloc (.cells #[.int .i64 (us : Int), .slice q1 l1 r1, .slice q2 l2 r2, .slice q3 l3 r3, .slice q4 l4 r4] 83) = w3 at *
              have RB : ∀ k w w', Below w.heap.size w w' → (fun (_ : Nat) (_ : World) => True) k w → (fun (_ : Nat) (_ : World) => True) k w' := fun _ _ _ _ _ => trivial
              refine wp_region_st (op7c3 pe j us uk un ut k nn bs) (fun u u' => Only [] u u') (SeqS [] (fun (_ : Nat) (_ : World) => True)) (by kernel_rfl) (only_drew _ _) (only_trans _) (op7c3_kept pe j us uk un ut k nn bs) (by kernel_rfl) (SeqS.start (trivial)) ?_ ?_
              · intro i o a' w' f hi inv hS hfi hfw hpre
                have ho : Only [] w3 w' := inv.grow
                have hlt : i < 39 := (Array.getElem?_eq_some_iff.1 hi).1
                obtain rfl|rfl|rfl|rfl|rfl|rfl|rfl|rfl|rfl|rfl|rfl|rfl|rfl|rfl|rfl|rfl|rfl|rfl|rfl|rfl|rfl|rfl|rfl|rfl|rfl|rfl|rfl|rfl|rfl|rfl|rfl|rfl|rfl|rfl|rfl|rfl|rfl|rfl|rfl : i = 0 ∨ i = 1 ∨ i = 2 ∨ i = 3 ∨ i = 4 ∨ i = 5 ∨ i = 6 ∨ i = 7 ∨ i = 8 ∨ i = 9 ∨ i = 10 ∨ i = 11 ∨ i = 12 ∨ i = 13 ∨ i = 14 ∨ i = 15 ∨ i = 16 ∨ i = 17 ∨ i = 18 ∨ i = 19 ∨ i = 20 ∨ i = 21 ∨ i = 22 ∨ i = 23 ∨ i = 24 ∨ i = 25 ∨ i = 26 ∨ i = 27 ∨ i = 28 ∨ i = 29 ∨ i = 30 ∨ i = 31 ∨ i = 32 ∨ i = 33 ∨ i = 34 ∨ i = 35 ∨ i = 36 ∨ i = 37 ∨ i = 38 := by omega
                · obtain rfl := Option.some.inj hi
                  have h0 : a'.tmps.getD 13 undef = (.pointer (some ⟨pe, 0, none⟩)) := by rw [inv.old 13 (notDst_spec (by kernel_rfl))]; rfl
                  exact sq_value _ rfl rfl (fa_run 83 0 13 pe rfl h0 (fa71_0 pe)) (Below.refl _ _) (by decide) hS RB rfl
                · obtain rfl := Option.some.inj hi
                  have h0 : a'.tmps.getD 38 undef = _ := pre_of hpre 0 38 (by kernel_rfl) (by kernel_rfl)
                  exact sq_value _ rfl rfl (load_run 3 38 pe (0) _ rfl h0 (ld3 ((HC.out w' ho).1))) (Below.refl _ _) (by decide) hS RB rfl
                · obtain rfl := Option.some.inj hi
                  have h0 : a'.tmps.getD 39 undef = _ := pre_of hpre 1 39 (by kernel_rfl) (by kernel_rfl)
                  exact sq_value _ rfl rfl (eqlc_run 39 us rfl h0) (Below.refl _ _) (by decide) hS RB (congrArg Value.bool H66.out)
                · obtain rfl := Option.some.inj hi
                  have h0 := pre_of hpre 2 40 (by kernel_rfl) (by kernel_rfl)
                  exact sq_value _ rfl rfl (rfl) (Below.refl _ _) (by decide) hS RB h0
                · obtain rfl := Option.some.inj hi
                  have hgu : a'.tmps.getD 41 undef = _ := pre_of hpre 3 41 (by kernel_rfl) (by kernel_rfl)
                  exact sq_value _ rfl (wanted_of 3 41 true rfl (by kernel_rfl) hgu) rfl (Below.refl _ _) (by decide) hS RB (by show a'.tmps.getD 12 undef = _; rw [inv.old 12 (notDst_spec (by kernel_rfl))]; rfl)
                · obtain rfl := Option.some.inj hi
                  have hgu : a'.tmps.getD 41 undef = _ := pre_of hpre 3 41 (by kernel_rfl) (by kernel_rfl)
                  have h0 : a'.tmps.getD 42 undef = _ := pre_of hpre 4 42 (by kernel_rfl) (by kernel_rfl)
                  exact sq_value _ rfl (wanted_of 3 41 true rfl (by kernel_rfl) hgu) (addc_run 42 j HJ1.out rfl h0) (Below.refl _ _) (by decide) hS RB rfl
                · obtain rfl := Option.some.inj hi
                  have hgu : a'.tmps.getD 41 undef = _ := pre_of hpre 3 41 (by kernel_rfl) (by kernel_rfl)
                  have h0 : a'.tmps.getD 13 undef = (.pointer (some ⟨pe, 0, none⟩)) := by rw [inv.old 13 (notDst_spec (by kernel_rfl))]; rfl
                  exact sq_value _ rfl (wanted_of 3 41 true rfl (by kernel_rfl) hgu) (fa_run 83 4 13 pe rfl h0 (fa71_4 pe)) (Below.refl _ _) (by decide) hS RB rfl
                · obtain rfl := Option.some.inj hi
                  have hgu : a'.tmps.getD 41 undef = _ := pre_of hpre 3 41 (by kernel_rfl) (by kernel_rfl)
                  have h0 : a'.tmps.getD 44 undef = _ := pre_of hpre 6 44 (by kernel_rfl) (by kernel_rfl)
                  exact sq_value _ rfl (wanted_of 3 41 true rfl (by kernel_rfl) hgu) (load_run 22 44 pe (4) _ rfl h0 (ld32 ((HC.out w' ho).2.2.2.2.1))) (Below.refl _ _) (by decide) hS RB ((HC.out w' ho).2.2.2.2.2.2.2.2)
                · obtain rfl := Option.some.inj hi
                  have hgu : a'.tmps.getD 41 undef = _ := pre_of hpre 3 41 (by kernel_rfl) (by kernel_rfl)
                  have h0 := pre_of hpre 7 45 (by kernel_rfl) (by kernel_rfl)
                  exact sq_value _ rfl (wanted_of 3 41 true rfl (by kernel_rfl) hgu) (len_run 45 rfl h0.1) (Below.refl _ _) (by decide) hS RB rfl
                · obtain rfl := Option.some.inj hi
                  have hgu : a'.tmps.getD 41 undef = _ := pre_of hpre 3 41 (by kernel_rfl) (by kernel_rfl)
                  have h0 : a'.tmps.getD 43 undef = _ := pre_of hpre 5 43 (by kernel_rfl) (by kernel_rfl)
                  have h1 : a'.tmps.getD 46 undef = _ := pre_of hpre 8 46 (by kernel_rfl) (by kernel_rfl)
                  refine sq_quiet 50 #[a'.tmps.getD 43 undef, a'.tmps.getD 46 undef] rfl (wanted_of 3 41 true rfl (by kernel_rfl) hgu) (by kernel_rfl) (by decide) hS ?_
                  rw [h0, h1]
                  exact (rbox_any (j + 1) ut.length w' HLT.out (by have := HJ1.out; omega)).mono (by rintro e u ⟨v, rfl, ho1, hb1⟩; exact ⟨v, rfl, Only.of_below hb1 _, (fun _ _ => trivial), Src.own (Su.box_lt _ _) ho1, fun _ _ hm => by simp at hm⟩)
                · obtain rfl := Option.some.inj hi
                  have hgu : a'.tmps.getD 41 undef = _ := pre_of hpre 3 41 (by kernel_rfl) (by kernel_rfl)
                  have h0 := pre_of hpre 9 47 (by kernel_rfl) (by kernel_rfl)
                  exact sq_value _ rfl (wanted_of 3 41 true rfl (by kernel_rfl) hgu) (conv_run 47 _ rfl (h0.1)) (Below.refl _ _) (by decide) hS RB rfl
                · obtain rfl := Option.some.inj hi
                  have hgu : a'.tmps.getD 41 undef = _ := pre_of hpre 3 41 (by kernel_rfl) (by kernel_rfl)
                  exact sq_value _ rfl (wanted_of 3 41 true rfl (by kernel_rfl) hgu) rfl (Below.refl _ _) (by decide) hS RB (by show SrcV _ _ (a'.tmps.getD 4 undef) _; rw [inv.old 4 (notDst_spec (by kernel_rfl))]; exact (HA.out w' ho).2.2.2)
                · obtain rfl := Option.some.inj hi
                  have hgu : a'.tmps.getD 41 undef = _ := pre_of hpre 3 41 (by kernel_rfl) (by kernel_rfl)
                  have h0 := pre_of hpre 11 49 (by kernel_rfl) (by kernel_rfl)
                  exact sq_value _ rfl (wanted_of 3 41 true rfl (by kernel_rfl) hgu) (conv_run 49 _ rfl (h0.1)) (Below.refl _ _) (by decide) hS RB rfl
                · obtain rfl := Option.some.inj hi
                  have hgu : a'.tmps.getD 41 undef = _ := pre_of hpre 3 41 (by kernel_rfl) (by kernel_rfl)
                  have h0 : a'.tmps.getD 48 undef = _ := pre_of hpre 10 48 (by kernel_rfl) (by kernel_rfl)
                  have h1 : a'.tmps.getD 50 undef = _ := pre_of hpre 12 50 (by kernel_rfl) (by kernel_rfl)
                  exact sq_value _ rfl (wanted_of 3 41 true rfl (by kernel_rfl) hgu) (eqlS_run 48 50 _ _ rfl h0 h1) (Below.refl _ _) (by decide) hS RB (congrArg Value.bool HQ1.out)
                · obtain rfl := Option.some.inj hi
                  have h0 : a'.tmps.getD 41 undef = _ := pre_of hpre 3 41 (by kernel_rfl) (by kernel_rfl)
                  have h1 : a'.tmps.getD 51 undef = _ := pre_of hpre 13 51 (by kernel_rfl) (by kernel_rfl)
                  exact sq_value _ rfl rfl (pick_run 41 true _ _ _ _ rfl h0 h1 rfl) (Below.refl _ _) (by decide) hS RB rfl
                · obtain rfl := Option.some.inj hi
                  have h0 := pre_of hpre 14 52 (by kernel_rfl) (by kernel_rfl)
                  exact sq_value _ rfl rfl (rfl) (Below.refl _ _) (by decide) hS RB h0
                · obtain rfl := Option.some.inj hi
                  have hgu : a'.tmps.getD 53 undef = _ := pre_of hpre 15 53 (by kernel_rfl) (by kernel_rfl)
                  have h0 : a'.tmps.getD 13 undef = (.pointer (some ⟨pe, 0, none⟩)) := by rw [inv.old 13 (notDst_spec (by kernel_rfl))]; rfl
                  exact sq_value _ rfl (wanted_of 15 53 true rfl (by kernel_rfl) hgu) (fa_run 83 1 13 pe rfl h0 (fa71_1 pe)) (Below.refl _ _) (by decide) hS RB rfl
                · obtain rfl := Option.some.inj hi
                  have hgu : a'.tmps.getD 53 undef = _ := pre_of hpre 15 53 (by kernel_rfl) (by kernel_rfl)
                  have h0 : a'.tmps.getD 54 undef = _ := pre_of hpre 16 54 (by kernel_rfl) (by kernel_rfl)
                  exact sq_value _ rfl (wanted_of 15 53 true rfl (by kernel_rfl) hgu) (load_run 22 54 pe (1) _ rfl h0 (ld32 ((HC.out w' ho).2.1))) (Below.refl _ _) (by decide) hS RB ((HC.out w' ho).2.2.2.2.2.1)
                · obtain rfl := Option.some.inj hi
                  have hgu : a'.tmps.getD 53 undef = _ := pre_of hpre 15 53 (by kernel_rfl) (by kernel_rfl)
                  have h0 := pre_of hpre 17 55 (by kernel_rfl) (by kernel_rfl)
                  exact sq_value _ rfl (wanted_of 15 53 true rfl (by kernel_rfl) hgu) (conv_run 55 _ rfl (h0.1)) (Below.refl _ _) (by decide) hS RB rfl
                · obtain rfl := Option.some.inj hi
                  have hgu : a'.tmps.getD 53 undef = _ := pre_of hpre 15 53 (by kernel_rfl) (by kernel_rfl)
                  exact sq_value _ rfl (wanted_of 15 53 true rfl (by kernel_rfl) hgu) rfl (Below.refl _ _) (by decide) hS RB (by show SrcV _ _ (a'.tmps.getD 1 undef) _; rw [inv.old 1 (notDst_spec (by kernel_rfl))]; exact (HA.out w' ho).1)
                · obtain rfl := Option.some.inj hi
                  have hgu : a'.tmps.getD 53 undef = _ := pre_of hpre 15 53 (by kernel_rfl) (by kernel_rfl)
                  have h0 := pre_of hpre 19 57 (by kernel_rfl) (by kernel_rfl)
                  exact sq_value _ rfl (wanted_of 15 53 true rfl (by kernel_rfl) hgu) (conv_run 57 _ rfl (h0.1)) (Below.refl _ _) (by decide) hS RB rfl
                · obtain rfl := Option.some.inj hi
                  have hgu : a'.tmps.getD 53 undef = _ := pre_of hpre 15 53 (by kernel_rfl) (by kernel_rfl)
                  have h0 : a'.tmps.getD 56 undef = _ := pre_of hpre 18 56 (by kernel_rfl) (by kernel_rfl)
                  have h1 : a'.tmps.getD 58 undef = _ := pre_of hpre 20 58 (by kernel_rfl) (by kernel_rfl)
                  exact sq_value _ rfl (wanted_of 15 53 true rfl (by kernel_rfl) hgu) (eqlS_run 56 58 _ _ rfl h0 h1) (Below.refl _ _) (by decide) hS RB (congrArg Value.bool HQ2.out)
                · obtain rfl := Option.some.inj hi
                  have h0 : a'.tmps.getD 53 undef = _ := pre_of hpre 15 53 (by kernel_rfl) (by kernel_rfl)
                  have h1 : a'.tmps.getD 59 undef = _ := pre_of hpre 21 59 (by kernel_rfl) (by kernel_rfl)
                  exact sq_value _ rfl rfl (pick_run 53 true _ _ _ _ rfl h0 h1 rfl) (Below.refl _ _) (by decide) hS RB rfl
                · obtain rfl := Option.some.inj hi
                  have h0 := pre_of hpre 22 60 (by kernel_rfl) (by kernel_rfl)
                  exact sq_value _ rfl rfl (rfl) (Below.refl _ _) (by decide) hS RB h0
                · obtain rfl := Option.some.inj hi
                  have hgu : a'.tmps.getD 61 undef = _ := pre_of hpre 23 61 (by kernel_rfl) (by kernel_rfl)
                  have h0 : a'.tmps.getD 13 undef = (.pointer (some ⟨pe, 0, none⟩)) := by rw [inv.old 13 (notDst_spec (by kernel_rfl))]; rfl
                  exact sq_value _ rfl (wanted_of 23 61 true rfl (by kernel_rfl) hgu) (fa_run 83 2 13 pe rfl h0 (fa71_2 pe)) (Below.refl _ _) (by decide) hS RB rfl
                · obtain rfl := Option.some.inj hi
                  have hgu : a'.tmps.getD 61 undef = _ := pre_of hpre 23 61 (by kernel_rfl) (by kernel_rfl)
                  have h0 : a'.tmps.getD 62 undef = _ := pre_of hpre 24 62 (by kernel_rfl) (by kernel_rfl)
                  exact sq_value _ rfl (wanted_of 23 61 true rfl (by kernel_rfl) hgu) (load_run 22 62 pe (2) _ rfl h0 (ld32 ((HC.out w' ho).2.2.1))) (Below.refl _ _) (by decide) hS RB ((HC.out w' ho).2.2.2.2.2.2.1)
                · obtain rfl := Option.some.inj hi
                  have hgu : a'.tmps.getD 61 undef = _ := pre_of hpre 23 61 (by kernel_rfl) (by kernel_rfl)
                  have h0 := pre_of hpre 25 63 (by kernel_rfl) (by kernel_rfl)
                  exact sq_value _ rfl (wanted_of 23 61 true rfl (by kernel_rfl) hgu) (conv_run 63 _ rfl (h0.1)) (Below.refl _ _) (by decide) hS RB rfl
                · obtain rfl := Option.some.inj hi
                  have hgu : a'.tmps.getD 61 undef = _ := pre_of hpre 23 61 (by kernel_rfl) (by kernel_rfl)
                  exact sq_value _ rfl (wanted_of 23 61 true rfl (by kernel_rfl) hgu) rfl (Below.refl _ _) (by decide) hS RB (by show SrcV _ _ (a'.tmps.getD 2 undef) _; rw [inv.old 2 (notDst_spec (by kernel_rfl))]; exact (HA.out w' ho).2.1)
                · obtain rfl := Option.some.inj hi
                  have hgu : a'.tmps.getD 61 undef = _ := pre_of hpre 23 61 (by kernel_rfl) (by kernel_rfl)
                  have h0 := pre_of hpre 27 65 (by kernel_rfl) (by kernel_rfl)
                  exact sq_value _ rfl (wanted_of 23 61 true rfl (by kernel_rfl) hgu) (conv_run 65 _ rfl (h0.1)) (Below.refl _ _) (by decide) hS RB rfl
                · obtain rfl := Option.some.inj hi
                  have hgu : a'.tmps.getD 61 undef = _ := pre_of hpre 23 61 (by kernel_rfl) (by kernel_rfl)
                  have h0 : a'.tmps.getD 64 undef = _ := pre_of hpre 26 64 (by kernel_rfl) (by kernel_rfl)
                  have h1 : a'.tmps.getD 66 undef = _ := pre_of hpre 28 66 (by kernel_rfl) (by kernel_rfl)
                  exact sq_value _ rfl (wanted_of 23 61 true rfl (by kernel_rfl) hgu) (eqlS_run 64 66 _ _ rfl h0 h1) (Below.refl _ _) (by decide) hS RB (congrArg Value.bool HQ3.out)
                · obtain rfl := Option.some.inj hi
                  have h0 : a'.tmps.getD 61 undef = _ := pre_of hpre 23 61 (by kernel_rfl) (by kernel_rfl)
                  have h1 : a'.tmps.getD 67 undef = _ := pre_of hpre 29 67 (by kernel_rfl) (by kernel_rfl)
                  exact sq_value _ rfl rfl (pick_run 61 true _ _ _ _ rfl h0 h1 rfl) (Below.refl _ _) (by decide) hS RB rfl
                · obtain rfl := Option.some.inj hi
                  have h0 := pre_of hpre 30 68 (by kernel_rfl) (by kernel_rfl)
                  exact sq_value _ rfl rfl (rfl) (Below.refl _ _) (by decide) hS RB h0
                · obtain rfl := Option.some.inj hi
                  have hgu : a'.tmps.getD 69 undef = _ := pre_of hpre 31 69 (by kernel_rfl) (by kernel_rfl)
                  exact sq_skip rfl (unwanted_of 31 69 false rfl (by kernel_rfl) hgu) (by decide) hS rfl
                · obtain rfl := Option.some.inj hi
                  have hgu : a'.tmps.getD 69 undef = _ := pre_of hpre 31 69 (by kernel_rfl) (by kernel_rfl)
                  exact sq_skip rfl (unwanted_of 31 69 false rfl (by kernel_rfl) hgu) (by decide) hS rfl
                · obtain rfl := Option.some.inj hi
                  have hgu : a'.tmps.getD 69 undef = _ := pre_of hpre 31 69 (by kernel_rfl) (by kernel_rfl)
                  exact sq_skip rfl (unwanted_of 31 69 false rfl (by kernel_rfl) hgu) (by decide) hS rfl
                · obtain rfl := Option.some.inj hi
                  have hgu : a'.tmps.getD 69 undef = _ := pre_of hpre 31 69 (by kernel_rfl) (by kernel_rfl)
                  exact sq_skip rfl (unwanted_of 31 69 false rfl (by kernel_rfl) hgu) (by decide) hS rfl
                · obtain rfl := Option.some.inj hi
                  have hgu : a'.tmps.getD 69 undef = _ := pre_of hpre 31 69 (by kernel_rfl) (by kernel_rfl)
                  exact sq_skip rfl (unwanted_of 31 69 false rfl (by kernel_rfl) hgu) (by decide) hS rfl
                · obtain rfl := Option.some.inj hi
                  have hgu : a'.tmps.getD 69 undef = _ := pre_of hpre 31 69 (by kernel_rfl) (by kernel_rfl)
                  exact sq_skip rfl (unwanted_of 31 69 false rfl (by kernel_rfl) hgu) (by decide) hS rfl
                · obtain rfl := Option.some.inj hi
                  have h0 : a'.tmps.getD 69 undef = _ := pre_of hpre 31 69 (by kernel_rfl) (by kernel_rfl)
                  exact sq_value _ rfl rfl (pick_run 69 false _ _ _ _ rfl h0 rfl rfl) (Below.refl _ _) (by decide) hS RB rfl
              · intro a' w5 f inv hS hall hd
                have hk38 := hd 38 76 (by kernel_rfl)
                have ho : Only [] w3 w5 := inv.grow
                have hdf : a'.defers = [] := inv.defers
                have hsz : a'.tmps.size = 79 := inv.size
                have e := frame22_7 hsz (fun t ht => inv.old t (dstsIn_spec (ts := [38, 39, 40, 41, 42, 43, 44, 45, 46, 47, 48, 49, 50, 51, 52, 53, 54, 55, 56, 57, 58, 59, 60, 61, 62, 63, 64, 65, 66, 67, 68, 69, 70, 71, 72, 73, 74, 75, 76]) (by kernel_rfl) t ht))
                have hR := hS.done (fun c hc => hall c (show c < 39 by simp at hc <;> omega))
                clear inv hd hsz hall hS
                obtain ⟨tmps, defers⟩ := a'
                obtain rfl : defers = [] := hdf
                replace e : tmps = _ := e
                replace hk38 : tmps.getD 76 undef = (.bool false) := hk38
                generalize tmps.getD 38 undef = x38 at *
                generalize tmps.getD 39 undef = x39 at *
                generalize tmps.getD 40 undef = x40 at *
                generalize tmps.getD 41 undef = x41 at *
                generalize tmps.getD 42 undef = x42 at *
                generalize tmps.getD 43 undef = x43 at *
                generalize tmps.getD 44 undef = x44 at *
                generalize tmps.getD 45 undef = x45 at *
                generalize tmps.getD 46 undef = x46 at *
                generalize tmps.getD 47 undef = x47 at *
                generalize tmps.getD 48 undef = x48 at *
                generalize tmps.getD 49 undef = x49 at *
                generalize tmps.getD 50 undef = x50 at *
                generalize tmps.getD 51 undef = x51 at *
                generalize tmps.getD 52 undef = x52 at *
                generalize tmps.getD 53 undef = x53 at *
                generalize tmps.getD 54 undef = x54 at *
                generalize tmps.getD 55 undef = x55 at *
                generalize tmps.getD 56 undef = x56 at *
                generalize tmps.getD 57 undef = x57 at *
                generalize tmps.getD 58 undef = x58 at *
                generalize tmps.getD 59 undef = x59 at *
                generalize tmps.getD 60 undef = x60 at *
                generalize tmps.getD 61 undef = x61 at *
                generalize tmps.getD 62 undef = x62 at *
                generalize tmps.getD 63 undef = x63 at *
                generalize tmps.getD 64 undef = x64 at *
                generalize tmps.getD 65 undef = x65 at *
                generalize tmps.getD 66 undef = x66 at *
                generalize tmps.getD 67 undef = x67 at *
                generalize tmps.getD 68 undef = x68 at *
                generalize tmps.getD 69 undef = x69 at *
                generalize tmps.getD 70 undef = x70 at *
                generalize tmps.getD 71 undef = x71 at *
                generalize tmps.getD 72 undef = x72 at *
                generalize tmps.getD 73 undef = x73 at *
                generalize tmps.getD 74 undef = x74 at *
                generalize tmps.getD 75 undef = x75 at *
                generalize tmps.getD 76 undef = x76 at *
                simp only [Array.getD_eq_getD_getElem?, List.getElem?_toArray, List.getElem?_cons_succ, List.getElem?_cons_zero, Option.getD_some] at e
                subst e
                subst hk38
                have HB5 : Hid (Below w.heap.size w w5) := HB3.out.trans (ho.below HB3.out.size (fun y hy => by simp at hy))
                clear hR ho RB HC HA
                go_wp2_with fail
                first
                  | (refine ⟨⟨j + 1, by omega, by simp, HB5.out, HNX⟩, ?_⟩; simp only [intOf]; omega)
                  | (go_roundw; (case rel => exact ⟨j + 1, by omega, by simp, HB5.out, HNX⟩); (case measure => simp only [intOf]; omega))
          · have HQ2 : Hid (((strB uk).toList == (strB k).toList) = false) := by show _ = _; rw [strB_beqL HS1.out HK1.out]; simp [h3]
            have HNX : Hid (R = Su.opens k nn o bs (j + 1) (L.drop (j + 1))) := by show _ = _; rw [HLJ.out]; exact if_neg (fun h => h3 h.2.2.1)
            clear HLJ h1 h2 h3
            go_wp2_with fail
            generalize wr.alloc (.cells #[.int .i64 (us : Int), .slice q1 l1 r1, .slice q2 l2 r2, .slice q3 l3 r3, .slice q4 l4 r4] 83) = w3 at *
            have RB : ∀ k w w', Below w.heap.size w w' → (fun (_ : Nat) (_ : World) => True) k w → (fun (_ : Nat) (_ : World) => True) k w' := fun _ _ _ _ _ => trivial
            refine wp_region_st (op7c2 pe j us uk ut k bs) (fun u u' => Only [] u u') (SeqS [] (fun (_ : Nat) (_ : World) => True)) (by kernel_rfl) (only_drew _ _) (only_trans _) (op7c2_kept pe j us uk ut k bs) (by kernel_rfl) (SeqS.start (trivial)) ?_ ?_
            · intro i o a' w' f hi inv hS hfi hfw hpre
              have ho : Only [] w3 w' := inv.grow
              have hlt : i < 39 := (Array.getElem?_eq_some_iff.1 hi).1
              obtain rfl|rfl|rfl|rfl|rfl|rfl|rfl|rfl|rfl|rfl|rfl|rfl|rfl|rfl|rfl|rfl|rfl|rfl|rfl|rfl|rfl|rfl|rfl|rfl|rfl|rfl|rfl|rfl|rfl|rfl|rfl|rfl|rfl|rfl|rfl|rfl|rfl|rfl|rfl : i = 0 ∨ i = 1 ∨ i = 2 ∨ i = 3 ∨ i = 4 ∨ i = 5 ∨ i = 6 ∨ i = 7 ∨ i = 8 ∨ i = 9 ∨ i = 10 ∨ i = 11 ∨ i = 12 ∨ i = 13 ∨ i = 14 ∨ i = 15 ∨ i = 16 ∨ i = 17 ∨ i = 18 ∨ i = 19 ∨ i = 20 ∨ i = 21 ∨ i = 22 ∨ i = 23 ∨ i = 24 ∨ i = 25 ∨ i = 26 ∨ i = 27 ∨ i = 28 ∨ i = 29 ∨ i = 30 ∨ i = 31 ∨ i = 32 ∨ i = 33 ∨ i = 34 ∨ i = 35 ∨ i = 36 ∨ i = 37 ∨ i = 38 := by omega
              · obtain rfl := Option.some.inj hi
                have h0 : a'.tmps.getD 13 undef = (.pointer (some ⟨pe, 0, none⟩)) := by rw [inv.old 13 (notDst_spec (by kernel_rfl))]; rfl
                exact sq_value _ rfl rfl (fa_run 83 0 13 pe rfl h0 (fa71_0 pe)) (Below.refl _ _) (by decide) hS RB rfl
              · obtain rfl := Option.some.inj hi
                have h0 : a'.tmps.getD 38 undef = _ := pre_of hpre 0 38 (by kernel_rfl) (by kernel_rfl)
                exact sq_value _ rfl rfl (load_run 3 38 pe (0) _ rfl h0 (ld3 ((HC.out w' ho).1))) (Below.refl _ _) (by decide) hS RB rfl
              · obtain rfl := Option.some.inj hi
                have h0 : a'.tmps.getD 39 undef = _ := pre_of hpre 1 39 (by kernel_rfl) (by kernel_rfl)
                exact sq_value _ rfl rfl (eqlc_run 39 us rfl h0) (Below.refl _ _) (by decide) hS RB (congrArg Value.bool H66.out)
              · obtain rfl := Option.some.inj hi
                have h0 := pre_of hpre 2 40 (by kernel_rfl) (by kernel_rfl)
                exact sq_value _ rfl rfl (rfl) (Below.refl _ _) (by decide) hS RB h0
              · obtain rfl := Option.some.inj hi
                have hgu : a'.tmps.getD 41 undef = _ := pre_of hpre 3 41 (by kernel_rfl) (by kernel_rfl)
                exact sq_value _ rfl (wanted_of 3 41 true rfl (by kernel_rfl) hgu) rfl (Below.refl _ _) (by decide) hS RB (by show a'.tmps.getD 12 undef = _; rw [inv.old 12 (notDst_spec (by kernel_rfl))]; rfl)
              · obtain rfl := Option.some.inj hi
                have hgu : a'.tmps.getD 41 undef = _ := pre_of hpre 3 41 (by kernel_rfl) (by kernel_rfl)
                have h0 : a'.tmps.getD 42 undef = _ := pre_of hpre 4 42 (by kernel_rfl) (by kernel_rfl)
                exact sq_value _ rfl (wanted_of 3 41 true rfl (by kernel_rfl) hgu) (addc_run 42 j HJ1.out rfl h0) (Below.refl _ _) (by decide) hS RB rfl
              · obtain rfl := Option.some.inj hi
                have hgu : a'.tmps.getD 41 undef = _ := pre_of hpre 3 41 (by kernel_rfl) (by kernel_rfl)
                have h0 : a'.tmps.getD 13 undef = (.pointer (some ⟨pe, 0, none⟩)) := by rw [inv.old 13 (notDst_spec (by kernel_rfl))]; rfl
                exact sq_value _ rfl (wanted_of 3 41 true rfl (by kernel_rfl) hgu) (fa_run 83 4 13 pe rfl h0 (fa71_4 pe)) (Below.refl _ _) (by decide) hS RB rfl
              · obtain rfl := Option.some.inj hi
                have hgu : a'.tmps.getD 41 undef = _ := pre_of hpre 3 41 (by kernel_rfl) (by kernel_rfl)
                have h0 : a'.tmps.getD 44 undef = _ := pre_of hpre 6 44 (by kernel_rfl) (by kernel_rfl)
                exact sq_value _ rfl (wanted_of 3 41 true rfl (by kernel_rfl) hgu) (load_run 22 44 pe (4) _ rfl h0 (ld32 ((HC.out w' ho).2.2.2.2.1))) (Below.refl _ _) (by decide) hS RB ((HC.out w' ho).2.2.2.2.2.2.2.2)
              · obtain rfl := Option.some.inj hi
                have hgu : a'.tmps.getD 41 undef = _ := pre_of hpre 3 41 (by kernel_rfl) (by kernel_rfl)
                have h0 := pre_of hpre 7 45 (by kernel_rfl) (by kernel_rfl)
                exact sq_value _ rfl (wanted_of 3 41 true rfl (by kernel_rfl) hgu) (len_run 45 rfl h0.1) (Below.refl _ _) (by decide) hS RB rfl
              · obtain rfl := Option.some.inj hi
                have hgu : a'.tmps.getD 41 undef = _ := pre_of hpre 3 41 (by kernel_rfl) (by kernel_rfl)
                have h0 : a'.tmps.getD 43 undef = _ := pre_of hpre 5 43 (by kernel_rfl) (by kernel_rfl)
                have h1 : a'.tmps.getD 46 undef = _ := pre_of hpre 8 46 (by kernel_rfl) (by kernel_rfl)
                refine sq_quiet 50 #[a'.tmps.getD 43 undef, a'.tmps.getD 46 undef] rfl (wanted_of 3 41 true rfl (by kernel_rfl) hgu) (by kernel_rfl) (by decide) hS ?_
                rw [h0, h1]
                exact (rbox_any (j + 1) ut.length w' HLT.out (by have := HJ1.out; omega)).mono (by rintro e u ⟨v, rfl, ho1, hb1⟩; exact ⟨v, rfl, Only.of_below hb1 _, (fun _ _ => trivial), Src.own (Su.box_lt _ _) ho1, fun _ _ hm => by simp at hm⟩)
              · obtain rfl := Option.some.inj hi
                have hgu : a'.tmps.getD 41 undef = _ := pre_of hpre 3 41 (by kernel_rfl) (by kernel_rfl)
                have h0 := pre_of hpre 9 47 (by kernel_rfl) (by kernel_rfl)
                exact sq_value _ rfl (wanted_of 3 41 true rfl (by kernel_rfl) hgu) (conv_run 47 _ rfl (h0.1)) (Below.refl _ _) (by decide) hS RB rfl
              · obtain rfl := Option.some.inj hi
                have hgu : a'.tmps.getD 41 undef = _ := pre_of hpre 3 41 (by kernel_rfl) (by kernel_rfl)
                exact sq_value _ rfl (wanted_of 3 41 true rfl (by kernel_rfl) hgu) rfl (Below.refl _ _) (by decide) hS RB (by show SrcV _ _ (a'.tmps.getD 4 undef) _; rw [inv.old 4 (notDst_spec (by kernel_rfl))]; exact (HA.out w' ho).2.2.2)
              · obtain rfl := Option.some.inj hi
                have hgu : a'.tmps.getD 41 undef = _ := pre_of hpre 3 41 (by kernel_rfl) (by kernel_rfl)
                have h0 := pre_of hpre 11 49 (by kernel_rfl) (by kernel_rfl)
                exact sq_value _ rfl (wanted_of 3 41 true rfl (by kernel_rfl) hgu) (conv_run 49 _ rfl (h0.1)) (Below.refl _ _) (by decide) hS RB rfl
              · obtain rfl := Option.some.inj hi
                have hgu : a'.tmps.getD 41 undef = _ := pre_of hpre 3 41 (by kernel_rfl) (by kernel_rfl)
                have h0 : a'.tmps.getD 48 undef = _ := pre_of hpre 10 48 (by kernel_rfl) (by kernel_rfl)
                have h1 : a'.tmps.getD 50 undef = _ := pre_of hpre 12 50 (by kernel_rfl) (by kernel_rfl)
                exact sq_value _ rfl (wanted_of 3 41 true rfl (by kernel_rfl) hgu) (eqlS_run 48 50 _ _ rfl h0 h1) (Below.refl _ _) (by decide) hS RB (congrArg Value.bool HQ1.out)
              · obtain rfl := Option.some.inj hi
                have h0 : a'.tmps.getD 41 undef = _ := pre_of hpre 3 41 (by kernel_rfl) (by kernel_rfl)
                have h1 : a'.tmps.getD 51 undef = _ := pre_of hpre 13 51 (by kernel_rfl) (by kernel_rfl)
                exact sq_value _ rfl rfl (pick_run 41 true _ _ _ _ rfl h0 h1 rfl) (Below.refl _ _) (by decide) hS RB rfl
              · obtain rfl := Option.some.inj hi
                have h0 := pre_of hpre 14 52 (by kernel_rfl) (by kernel_rfl)
                exact sq_value _ rfl rfl (rfl) (Below.refl _ _) (by decide) hS RB h0
              · obtain rfl := Option.some.inj hi
                have hgu : a'.tmps.getD 53 undef = _ := pre_of hpre 15 53 (by kernel_rfl) (by kernel_rfl)
                have h0 : a'.tmps.getD 13 undef = (.pointer (some ⟨pe, 0, none⟩)) := by rw [inv.old 13 (notDst_spec (by kernel_rfl))]; rfl
                exact sq_value _ rfl (wanted_of 15 53 true rfl (by kernel_rfl) hgu) (fa_run 83 1 13 pe rfl h0 (fa71_1 pe)) (Below.refl _ _) (by decide) hS RB rfl
              · obtain rfl := Option.some.inj hi
                have hgu : a'.tmps.getD 53 undef = _ := pre_of hpre 15 53 (by kernel_rfl) (by kernel_rfl)
                have h0 : a'.tmps.getD 54 undef = _ := pre_of hpre 16 54 (by kernel_rfl) (by kernel_rfl)
                exact sq_value _ rfl (wanted_of 15 53 true rfl (by kernel_rfl) hgu) (load_run 22 54 pe (1) _ rfl h0 (ld32 ((HC.out w' ho).2.1))) (Below.refl _ _) (by decide) hS RB ((HC.out w' ho).2.2.2.2.2.1)
              · obtain rfl := Option.some.inj hi
                have hgu : a'.tmps.getD 53 undef = _ := pre_of hpre 15 53 (by kernel_rfl) (by kernel_rfl)
                have h0 := pre_of hpre 17 55 (by kernel_rfl) (by kernel_rfl)
                exact sq_value _ rfl (wanted_of 15 53 true rfl (by kernel_rfl) hgu) (conv_run 55 _ rfl (h0.1)) (Below.refl _ _) (by decide) hS RB rfl
              · obtain rfl := Option.some.inj hi
                have hgu : a'.tmps.getD 53 undef = _ := pre_of hpre 15 53 (by kernel_rfl) (by kernel_rfl)
                exact sq_value _ rfl (wanted_of 15 53 true rfl (by kernel_rfl) hgu) rfl (Below.refl _ _) (by decide) hS RB (by show SrcV _ _ (a'.tmps.getD 1 undef) _; rw [inv.old 1 (notDst_spec (by kernel_rfl))]; exact (HA.out w' ho).1)
              · obtain rfl := Option.some.inj hi
                have hgu : a'.tmps.getD 53 undef = _ := pre_of hpre 15 53 (by kernel_rfl) (by kernel_rfl)
                have h0 := pre_of hpre 19 57 (by kernel_rfl) (by kernel_rfl)
                exact sq_value _ rfl (wanted_of 15 53 true rfl (by kernel_rfl) hgu) (conv_run 57 _ rfl (h0.1)) (Below.refl _ _) (by decide) hS RB rfl
              · obtain rfl := Option.some.inj hi
                have hgu : a'.tmps.getD 53 undef = _ := pre_of hpre 15 53 (by kernel_rfl) (by kernel_rfl)
                have h0 : a'.tmps.getD 56 undef = _ := pre_of hpre 18 56 (by kernel_rfl) (by kernel_rfl)
                have h1 : a'.tmps.getD 58 undef = _ := pre_of hpre 20 58 (by kernel_rfl) (by kernel_rfl)
                exact sq_value _ rfl (wanted_of 15 53 true rfl (by kernel_rfl) hgu) (eqlS_run 56 58 _ _ rfl h0 h1) (Below.refl _ _) (by decide) hS RB (congrArg Value.bool HQ2.out)
              · obtain rfl := Option.some.inj hi
                have h0 : a'.tmps.getD 53 undef = _ := pre_of hpre 15 53 (by kernel_rfl) (by kernel_rfl)
                have h1 : a'.tmps.getD 59 undef = _ := pre_of hpre 21 59 (by kernel_rfl) (by kernel_rfl)
                exact sq_value _ rfl rfl (pick_run 53 true _ _ _ _ rfl h0 h1 rfl) (Below.refl _ _) (by decide) hS RB rfl
              · obtain rfl := Option.some.inj hi
                have h0 := pre_of hpre 22 60 (by kernel_rfl) (by kernel_rfl)
                exact sq_value _ rfl rfl (rfl) (Below.refl _ _) (by decide) hS RB h0
              · obtain rfl := Option.some.inj hi
                have hgu : a'.tmps.getD 61 undef = _ := pre_of hpre 23 61 (by kernel_rfl) (by kernel_rfl)
                exact sq_skip rfl (unwanted_of 23 61 false rfl (by kernel_rfl) hgu) (by decide) hS rfl
              · obtain rfl := Option.some.inj hi
                have hgu : a'.tmps.getD 61 undef = _ := pre_of hpre 23 61 (by kernel_rfl) (by kernel_rfl)
                exact sq_skip rfl (unwanted_of 23 61 false rfl (by kernel_rfl) hgu) (by decide) hS rfl
              · obtain rfl := Option.some.inj hi
                have hgu : a'.tmps.getD 61 undef = _ := pre_of hpre 23 61 (by kernel_rfl) (by kernel_rfl)
                exact sq_skip rfl (unwanted_of 23 61 false rfl (by kernel_rfl) hgu) (by decide) hS rfl
              · obtain rfl := Option.some.inj hi
                have hgu : a'.tmps.getD 61 undef = _ := pre_of hpre 23 61 (by kernel_rfl) (by kernel_rfl)
                exact sq_skip rfl (unwanted_of 23 61 false rfl (by kernel_rfl) hgu) (by decide) hS rfl
              · obtain rfl := Option.some.inj hi
                have hgu : a'.tmps.getD 61 undef = _ := pre_of hpre 23 61 (by kernel_rfl) (by kernel_rfl)
                exact sq_skip rfl (unwanted_of 23 61 false rfl (by kernel_rfl) hgu) (by decide) hS rfl
              · obtain rfl := Option.some.inj hi
                have hgu : a'.tmps.getD 61 undef = _ := pre_of hpre 23 61 (by kernel_rfl) (by kernel_rfl)
                exact sq_skip rfl (unwanted_of 23 61 false rfl (by kernel_rfl) hgu) (by decide) hS rfl
              · obtain rfl := Option.some.inj hi
                have h0 : a'.tmps.getD 61 undef = _ := pre_of hpre 23 61 (by kernel_rfl) (by kernel_rfl)
                exact sq_value _ rfl rfl (pick_run 61 false _ _ _ _ rfl h0 rfl rfl) (Below.refl _ _) (by decide) hS RB rfl
              · obtain rfl := Option.some.inj hi
                have h0 := pre_of hpre 30 68 (by kernel_rfl) (by kernel_rfl)
                exact sq_value _ rfl rfl (rfl) (Below.refl _ _) (by decide) hS RB h0
              · obtain rfl := Option.some.inj hi
                have hgu : a'.tmps.getD 69 undef = _ := pre_of hpre 31 69 (by kernel_rfl) (by kernel_rfl)
                exact sq_skip rfl (unwanted_of 31 69 false rfl (by kernel_rfl) hgu) (by decide) hS rfl
              · obtain rfl := Option.some.inj hi
                have hgu : a'.tmps.getD 69 undef = _ := pre_of hpre 31 69 (by kernel_rfl) (by kernel_rfl)
                exact sq_skip rfl (unwanted_of 31 69 false rfl (by kernel_rfl) hgu) (by decide) hS rfl
              · obtain rfl := Option.some.inj hi
                have hgu : a'.tmps.getD 69 undef = _ := pre_of hpre 31 69 (by kernel_rfl) (by kernel_rfl)
                exact sq_skip rfl (unwanted_of 31 69 false rfl (by kernel_rfl) hgu) (by decide) hS rfl
              · obtain rfl := Option.some.inj hi
                have hgu : a'.tmps.getD 69 undef = _ := pre_of hpre 31 69 (by kernel_rfl) (by kernel_rfl)
                exact sq_skip rfl (unwanted_of 31 69 false rfl (by kernel_rfl) hgu) (by decide) hS rfl
              · obtain rfl := Option.some.inj hi
                have hgu : a'.tmps.getD 69 undef = _ := pre_of hpre 31 69 (by kernel_rfl) (by kernel_rfl)
                exact sq_skip rfl (unwanted_of 31 69 false rfl (by kernel_rfl) hgu) (by decide) hS rfl
              · obtain rfl := Option.some.inj hi
                have hgu : a'.tmps.getD 69 undef = _ := pre_of hpre 31 69 (by kernel_rfl) (by kernel_rfl)
                exact sq_skip rfl (unwanted_of 31 69 false rfl (by kernel_rfl) hgu) (by decide) hS rfl
              · obtain rfl := Option.some.inj hi
                have h0 : a'.tmps.getD 69 undef = _ := pre_of hpre 31 69 (by kernel_rfl) (by kernel_rfl)
                exact sq_value _ rfl rfl (pick_run 69 false _ _ _ _ rfl h0 rfl rfl) (Below.refl _ _) (by decide) hS RB rfl
            · intro a' w5 f inv hS hall hd
              have hk38 := hd 38 76 (by kernel_rfl)
              have ho : Only [] w3 w5 := inv.grow
              have hdf : a'.defers = [] := inv.defers
              have hsz : a'.tmps.size = 79 := inv.size
              have e := frame22_7 hsz (fun t ht => inv.old t (dstsIn_spec (ts := [38, 39, 40, 41, 42, 43, 44, 45, 46, 47, 48, 49, 50, 51, 52, 53, 54, 55, 56, 57, 58, 59, 60, 61, 62, 63, 64, 65, 66, 67, 68, 69, 70, 71, 72, 73, 74, 75, 76]) (by kernel_rfl) t ht))
              have hR := hS.done (fun c hc => hall c (show c < 39 by simp at hc <;> omega))
              clear inv hd hsz hall hS
              obtain ⟨tmps, defers⟩ := a'
              obtain rfl : defers = [] := hdf
              replace e : tmps = _ := e
              replace hk38 : tmps.getD 76 undef = (.bool false) := hk38
              generalize tmps.getD 38 undef = x38 at *
              generalize tmps.getD 39 undef = x39 at *
              generalize tmps.getD 40 undef = x40 at *
              generalize tmps.getD 41 undef = x41 at *
              generalize tmps.getD 42 undef = x42 at *
              generalize tmps.getD 43 undef = x43 at *
              generalize tmps.getD 44 undef = x44 at *
              generalize tmps.getD 45 undef = x45 at *
              generalize tmps.getD 46 undef = x46 at *
              generalize tmps.getD 47 undef = x47 at *
              generalize tmps.getD 48 undef = x48 at *
              generalize tmps.getD 49 undef = x49 at *
              generalize tmps.getD 50 undef = x50 at *
              generalize tmps.getD 51 undef = x51 at *
              generalize tmps.getD 52 undef = x52 at *
              generalize tmps.getD 53 undef = x53 at *
              generalize tmps.getD 54 undef = x54 at *
              generalize tmps.getD 55 undef = x55 at *
              generalize tmps.getD 56 undef = x56 at *
              generalize tmps.getD 57 undef = x57 at *
              generalize tmps.getD 58 undef = x58 at *
              generalize tmps.getD 59 undef = x59 at *
              generalize tmps.getD 60 undef = x60 at *
              generalize tmps.getD 61 undef = x61 at *
              generalize tmps.getD 62 undef = x62 at *
              generalize tmps.getD 63 undef = x63 at *
              generalize tmps.getD 64 undef = x64 at *
              generalize tmps.getD 65 undef = x65 at *
              generalize tmps.getD 66 undef = x66 at *
              generalize tmps.getD 67 undef = x67 at *
              generalize tmps.getD 68 undef = x68 at *
              generalize tmps.getD 69 undef = x69 at *
              generalize tmps.getD 70 undef = x70 at *
              generalize tmps.getD 71 undef = x71 at *
              generalize tmps.getD 72 undef = x72 at *
              generalize tmps.getD 73 undef = x73 at *
              generalize tmps.getD 74 undef = x74 at *
              generalize tmps.getD 75 undef = x75 at *
              generalize tmps.getD 76 undef = x76 at *
              simp only [Array.getD_eq_getD_getElem?, List.getElem?_toArray, List.getElem?_cons_succ, List.getElem?_cons_zero, Option.getD_some] at e
              subst e
              subst hk38
              have HB5 : Hid (Below w.heap.size w w5) := HB3.out.trans (ho.below HB3.out.size (fun y hy => by simp at hy))
              clear hR ho RB HC HA
              go_wp2_with fail
              first
                | (refine ⟨⟨j + 1, by omega, by simp, HB5.out, HNX⟩, ?_⟩; simp only [intOf]; omega)
                | (go_roundw; (case rel => exact ⟨j + 1, by omega, by simp, HB5.out, HNX⟩); (case measure => simp only [intOf]; omega))
        · have HQ1 : Hid (((strB (Su.box (j + 1) ut.length)).toList == (strB bs).toList) = false) := by show _ = _; rw [strB_beqL HSB.out HK4.out]; simp [h2]
          have HNX : Hid (R = Su.opens k nn o bs (j + 1) (L.drop (j + 1))) := by show _ = _; rw [HLJ.out]; exact if_neg (fun h => h2 h.2.1)
          clear HLJ h1 h2
          go_wp2_with fail
          generalize wr.alloc (.cells #[.int .i64 (us : Int), .slice q1 l1 r1, .slice q2 l2 r2, .slice q3 l3 r3, .slice q4 l4 r4] 83) = w3 at *
          have RB : ∀ k w w', Below w.heap.size w w' → (fun (_ : Nat) (_ : World) => True) k w → (fun (_ : Nat) (_ : World) => True) k w' := fun _ _ _ _ _ => trivial
          refine wp_region_st (op7c1 pe j us ut bs) (fun u u' => Only [] u u') (SeqS [] (fun (_ : Nat) (_ : World) => True)) (by kernel_rfl) (only_drew _ _) (only_trans _) (op7c1_kept pe j us ut bs) (by kernel_rfl) (SeqS.start (trivial)) ?_ ?_
          · intro i o a' w' f hi inv hS hfi hfw hpre
            have ho : Only [] w3 w' := inv.grow
            have hlt : i < 39 := (Array.getElem?_eq_some_iff.1 hi).1
            obtain rfl|rfl|rfl|rfl|rfl|rfl|rfl|rfl|rfl|rfl|rfl|rfl|rfl|rfl|rfl|rfl|rfl|rfl|rfl|rfl|rfl|rfl|rfl|rfl|rfl|rfl|rfl|rfl|rfl|rfl|rfl|rfl|rfl|rfl|rfl|rfl|rfl|rfl|rfl : i = 0 ∨ i = 1 ∨ i = 2 ∨ i = 3 ∨ i = 4 ∨ i = 5 ∨ i = 6 ∨ i = 7 ∨ i = 8 ∨ i = 9 ∨ i = 10 ∨ i = 11 ∨ i = 12 ∨ i = 13 ∨ i = 14 ∨ i = 15 ∨ i = 16 ∨ i = 17 ∨ i = 18 ∨ i = 19 ∨ i = 20 ∨ i = 21 ∨ i = 22 ∨ i = 23 ∨ i = 24 ∨ i = 25 ∨ i = 26 ∨ i = 27 ∨ i = 28 ∨ i = 29 ∨ i = 30 ∨ i = 31 ∨ i = 32 ∨ i = 33 ∨ i = 34 ∨ i = 35 ∨ i = 36 ∨ i = 37 ∨ i = 38 := by omega
            · obtain rfl := Option.some.inj hi
              have h0 : a'.tmps.getD 13 undef = (.pointer (some ⟨pe, 0, none⟩)) := by rw [inv.old 13 (notDst_spec (by kernel_rfl))]; rfl
              exact sq_value _ rfl rfl (fa_run 83 0 13 pe rfl h0 (fa71_0 pe)) (Below.refl _ _) (by decide) hS RB rfl
            · obtain rfl := Option.some.inj hi
              have h0 : a'.tmps.getD 38 undef = _ := pre_of hpre 0 38 (by kernel_rfl) (by kernel_rfl)
              exact sq_value _ rfl rfl (load_run 3 38 pe (0) _ rfl h0 (ld3 ((HC.out w' ho).1))) (Below.refl _ _) (by decide) hS RB rfl
            · obtain rfl := Option.some.inj hi
              have h0 : a'.tmps.getD 39 undef = _ := pre_of hpre 1 39 (by kernel_rfl) (by kernel_rfl)
              exact sq_value _ rfl rfl (eqlc_run 39 us rfl h0) (Below.refl _ _) (by decide) hS RB (congrArg Value.bool H66.out)
            · obtain rfl := Option.some.inj hi
              have h0 := pre_of hpre 2 40 (by kernel_rfl) (by kernel_rfl)
              exact sq_value _ rfl rfl (rfl) (Below.refl _ _) (by decide) hS RB h0
            · obtain rfl := Option.some.inj hi
              have hgu : a'.tmps.getD 41 undef = _ := pre_of hpre 3 41 (by kernel_rfl) (by kernel_rfl)
              exact sq_value _ rfl (wanted_of 3 41 true rfl (by kernel_rfl) hgu) rfl (Below.refl _ _) (by decide) hS RB (by show a'.tmps.getD 12 undef = _; rw [inv.old 12 (notDst_spec (by kernel_rfl))]; rfl)
            · obtain rfl := Option.some.inj hi
              have hgu : a'.tmps.getD 41 undef = _ := pre_of hpre 3 41 (by kernel_rfl) (by kernel_rfl)
              have h0 : a'.tmps.getD 42 undef = _ := pre_of hpre 4 42 (by kernel_rfl) (by kernel_rfl)
              exact sq_value _ rfl (wanted_of 3 41 true rfl (by kernel_rfl) hgu) (addc_run 42 j HJ1.out rfl h0) (Below.refl _ _) (by decide) hS RB rfl
            · obtain rfl := Option.some.inj hi
              have hgu : a'.tmps.getD 41 undef = _ := pre_of hpre 3 41 (by kernel_rfl) (by kernel_rfl)
              have h0 : a'.tmps.getD 13 undef = (.pointer (some ⟨pe, 0, none⟩)) := by rw [inv.old 13 (notDst_spec (by kernel_rfl))]; rfl
              exact sq_value _ rfl (wanted_of 3 41 true rfl (by kernel_rfl) hgu) (fa_run 83 4 13 pe rfl h0 (fa71_4 pe)) (Below.refl _ _) (by decide) hS RB rfl
            · obtain rfl := Option.some.inj hi
              have hgu : a'.tmps.getD 41 undef = _ := pre_of hpre 3 41 (by kernel_rfl) (by kernel_rfl)
              have h0 : a'.tmps.getD 44 undef = _ := pre_of hpre 6 44 (by kernel_rfl) (by kernel_rfl)
              exact sq_value _ rfl (wanted_of 3 41 true rfl (by kernel_rfl) hgu) (load_run 22 44 pe (4) _ rfl h0 (ld32 ((HC.out w' ho).2.2.2.2.1))) (Below.refl _ _) (by decide) hS RB ((HC.out w' ho).2.2.2.2.2.2.2.2)
            · obtain rfl := Option.some.inj hi
              have hgu : a'.tmps.getD 41 undef = _ := pre_of hpre 3 41 (by kernel_rfl) (by kernel_rfl)
              have h0 := pre_of hpre 7 45 (by kernel_rfl) (by kernel_rfl)
              exact sq_value _ rfl (wanted_of 3 41 true rfl (by kernel_rfl) hgu) (len_run 45 rfl h0.1) (Below.refl _ _) (by decide) hS RB rfl
            · obtain rfl := Option.some.inj hi
              have hgu : a'.tmps.getD 41 undef = _ := pre_of hpre 3 41 (by kernel_rfl) (by kernel_rfl)
              have h0 : a'.tmps.getD 43 undef = _ := pre_of hpre 5 43 (by kernel_rfl) (by kernel_rfl)
              have h1 : a'.tmps.getD 46 undef = _ := pre_of hpre 8 46 (by kernel_rfl) (by kernel_rfl)
              refine sq_quiet 50 #[a'.tmps.getD 43 undef, a'.tmps.getD 46 undef] rfl (wanted_of 3 41 true rfl (by kernel_rfl) hgu) (by kernel_rfl) (by decide) hS ?_
              rw [h0, h1]
              exact (rbox_any (j + 1) ut.length w' HLT.out (by have := HJ1.out; omega)).mono (by rintro e u ⟨v, rfl, ho1, hb1⟩; exact ⟨v, rfl, Only.of_below hb1 _, (fun _ _ => trivial), Src.own (Su.box_lt _ _) ho1, fun _ _ hm => by simp at hm⟩)
            · obtain rfl := Option.some.inj hi
              have hgu : a'.tmps.getD 41 undef = _ := pre_of hpre 3 41 (by kernel_rfl) (by kernel_rfl)
              have h0 := pre_of hpre 9 47 (by kernel_rfl) (by kernel_rfl)
              exact sq_value _ rfl (wanted_of 3 41 true rfl (by kernel_rfl) hgu) (conv_run 47 _ rfl (h0.1)) (Below.refl _ _) (by decide) hS RB rfl
            · obtain rfl := Option.some.inj hi
              have hgu : a'.tmps.getD 41 undef = _ := pre_of hpre 3 41 (by kernel_rfl) (by kernel_rfl)
              exact sq_value _ rfl (wanted_of 3 41 true rfl (by kernel_rfl) hgu) rfl (Below.refl _ _) (by decide) hS RB (by show SrcV _ _ (a'.tmps.getD 4 undef) _; rw [inv.old 4 (notDst_spec (by kernel_rfl))]; exact (HA.out w' ho).2.2.2)
            · obtain rfl := Option.some.inj hi
              have hgu : a'.tmps.getD 41 undef = _ := pre_of hpre 3 41 (by kernel_rfl) (by kernel_rfl)
              have h0 := pre_of hpre 11 49 (by kernel_rfl) (by kernel_rfl)
              exact sq_value _ rfl (wanted_of 3 41 true rfl (by kernel_rfl) hgu) (conv_run 49 _ rfl (h0.1)) (Below.refl _ _) (by decide) hS RB rfl
            · obtain rfl := Option.some.inj hi
              have hgu : a'.tmps.getD 41 undef = _ := pre_of hpre 3 41 (by kernel_rfl) (by kernel_rfl)
              have h0 : a'.tmps.getD 48 undef = _ := pre_of hpre 10 48 (by kernel_rfl) (by kernel_rfl)
              have h1 : a'.tmps.getD 50 undef = _ := pre_of hpre 12 50 (by kernel_rfl) (by kernel_rfl)
              exact sq_value _ rfl (wanted_of 3 41 true rfl (by kernel_rfl) hgu) (eqlS_run 48 50 _ _ rfl h0 h1) (Below.refl _ _) (by decide) hS RB (congrArg Value.bool HQ1.out)
            · obtain rfl := Option.some.inj hi
              have h0 : a'.tmps.getD 41 undef = _ := pre_of hpre 3 41 (by kernel_rfl) (by kernel_rfl)
              have h1 : a'.tmps.getD 51 undef = _ := pre_of hpre 13 51 (by kernel_rfl) (by kernel_rfl)
              exact sq_value _ rfl rfl (pick_run 41 true _ _ _ _ rfl h0 h1 rfl) (Below.refl _ _) (by decide) hS RB rfl
            · obtain rfl := Option.some.inj hi
              have h0 := pre_of hpre 14 52 (by kernel_rfl) (by kernel_rfl)
              exact sq_value _ rfl rfl (rfl) (Below.refl _ _) (by decide) hS RB h0
            · obtain rfl := Option.some.inj hi
              have hgu : a'.tmps.getD 53 undef = _ := pre_of hpre 15 53 (by kernel_rfl) (by kernel_rfl)
              exact sq_skip rfl (unwanted_of 15 53 false rfl (by kernel_rfl) hgu) (by decide) hS rfl
            · obtain rfl := Option.some.inj hi
              have hgu : a'.tmps.getD 53 undef = _ := pre_of hpre 15 53 (by kernel_rfl) (by kernel_rfl)
              exact sq_skip rfl (unwanted_of 15 53 false rfl (by kernel_rfl) hgu) (by decide) hS rfl
            · obtain rfl := Option.some.inj hi
              have hgu : a'.tmps.getD 53 undef = _ := pre_of hpre 15 53 (by kernel_rfl) (by kernel_rfl)
              exact sq_skip rfl (unwanted_of 15 53 false rfl (by kernel_rfl) hgu) (by decide) hS rfl
            · obtain rfl := Option.some.inj hi
              have hgu : a'.tmps.getD 53 undef = _ := pre_of hpre 15 53 (by kernel_rfl) (by kernel_rfl)
              exact sq_skip rfl (unwanted_of 15 53 false rfl (by kernel_rfl) hgu) (by decide) hS rfl
            · obtain rfl := Option.some.inj hi
              have hgu : a'.tmps.getD 53 undef = _ := pre_of hpre 15 53 (by kernel_rfl) (by kernel_rfl)
              exact sq_skip rfl (unwanted_of 15 53 false rfl (by kernel_rfl) hgu) (by decide) hS rfl
            · obtain rfl := Option.some.inj hi
              have hgu : a'.tmps.getD 53 undef = _ := pre_of hpre 15 53 (by kernel_rfl) (by kernel_rfl)
              exact sq_skip rfl (unwanted_of 15 53 false rfl (by kernel_rfl) hgu) (by decide) hS rfl
            · obtain rfl := Option.some.inj hi
              have h0 : a'.tmps.getD 53 undef = _ := pre_of hpre 15 53 (by kernel_rfl) (by kernel_rfl)
              exact sq_value _ rfl rfl (pick_run 53 false _ _ _ _ rfl h0 rfl rfl) (Below.refl _ _) (by decide) hS RB rfl
            · obtain rfl := Option.some.inj hi
              have h0 := pre_of hpre 22 60 (by kernel_rfl) (by kernel_rfl)
              exact sq_value _ rfl rfl (rfl) (Below.refl _ _) (by decide) hS RB h0
            · obtain rfl := Option.some.inj hi
              have hgu : a'.tmps.getD 61 undef = _ := pre_of hpre 23 61 (by kernel_rfl) (by kernel_rfl)
              exact sq_skip rfl (unwanted_of 23 61 false rfl (by kernel_rfl) hgu) (by decide) hS rfl
            · obtain rfl := Option.some.inj hi
              have hgu : a'.tmps.getD 61 undef = _ := pre_of hpre 23 61 (by kernel_rfl) (by kernel_rfl)
              exact sq_skip rfl (unwanted_of 23 61 false rfl (by kernel_rfl) hgu) (by decide) hS rfl
            · obtain rfl := Option.some.inj hi
              have hgu : a'.tmps.getD 61 undef = _ := pre_of hpre 23 61 (by kernel_rfl) (by kernel_rfl)
              exact sq_skip rfl (unwanted_of 23 61 false rfl (by kernel_rfl) hgu) (by decide) hS rfl
            · obtain rfl := Option.some.inj hi
              have hgu : a'.tmps.getD 61 undef = _ := pre_of hpre 23 61 (by kernel_rfl) (by kernel_rfl)
              exact sq_skip rfl (unwanted_of 23 61 false rfl (by kernel_rfl) hgu) (by decide) hS rfl
            · obtain rfl := Option.some.inj hi
              have hgu : a'.tmps.getD 61 undef = _ := pre_of hpre 23 61 (by kernel_rfl) (by kernel_rfl)
              exact sq_skip rfl (unwanted_of 23 61 false rfl (by kernel_rfl) hgu) (by decide) hS rfl
            · obtain rfl := Option.some.inj hi
              have hgu : a'.tmps.getD 61 undef = _ := pre_of hpre 23 61 (by kernel_rfl) (by kernel_rfl)
              exact sq_skip rfl (unwanted_of 23 61 false rfl (by kernel_rfl) hgu) (by decide) hS rfl
            · obtain rfl := Option.some.inj hi
              have h0 : a'.tmps.getD 61 undef = _ := pre_of hpre 23 61 (by kernel_rfl) (by kernel_rfl)
              exact sq_value _ rfl rfl (pick_run 61 false _ _ _ _ rfl h0 rfl rfl) (Below.refl _ _) (by decide) hS RB rfl
            · obtain rfl := Option.some.inj hi
              have h0 := pre_of hpre 30 68 (by kernel_rfl) (by kernel_rfl)
              exact sq_value _ rfl rfl (rfl) (Below.refl _ _) (by decide) hS RB h0
            · obtain rfl := Option.some.inj hi
              have hgu : a'.tmps.getD 69 undef = _ := pre_of hpre 31 69 (by kernel_rfl) (by kernel_rfl)
              exact sq_skip rfl (unwanted_of 31 69 false rfl (by kernel_rfl) hgu) (by decide) hS rfl
            · obtain rfl := Option.some.inj hi
              have hgu : a'.tmps.getD 69 undef = _ := pre_of hpre 31 69 (by kernel_rfl) (by kernel_rfl)
              exact sq_skip rfl (unwanted_of 31 69 false rfl (by kernel_rfl) hgu) (by decide) hS rfl
            · obtain rfl := Option.some.inj hi
              have hgu : a'.tmps.getD 69 undef = _ := pre_of hpre 31 69 (by kernel_rfl) (by kernel_rfl)
              exact sq_skip rfl (unwanted_of 31 69 false rfl (by kernel_rfl) hgu) (by decide) hS rfl
            · obtain rfl := Option.some.inj hi
              have hgu : a'.tmps.getD 69 undef = _ := pre_of hpre 31 69 (by kernel_rfl) (by kernel_rfl)
              exact sq_skip rfl (unwanted_of 31 69 false rfl (by kernel_rfl) hgu) (by decide) hS rfl
            · obtain rfl := Option.some.inj hi
              have hgu : a'.tmps.getD 69 undef = _ := pre_of hpre 31 69 (by kernel_rfl) (by kernel_rfl)
              exact sq_skip rfl (unwanted_of 31 69 false rfl (by kernel_rfl) hgu) (by decide) hS rfl
            · obtain rfl := Option.some.inj hi
              have hgu : a'.tmps.getD 69 undef = _ := pre_of hpre 31 69 (by kernel_rfl) (by kernel_rfl)
              exact sq_skip rfl (unwanted_of 31 69 false rfl (by kernel_rfl) hgu) (by decide) hS rfl
            · obtain rfl := Option.some.inj hi
              have h0 : a'.tmps.getD 69 undef = _ := pre_of hpre 31 69 (by kernel_rfl) (by kernel_rfl)
              exact sq_value _ rfl rfl (pick_run 69 false _ _ _ _ rfl h0 rfl rfl) (Below.refl _ _) (by decide) hS RB rfl
          · intro a' w5 f inv hS hall hd
            have hk38 := hd 38 76 (by kernel_rfl)
            have ho : Only [] w3 w5 := inv.grow
            have hdf : a'.defers = [] := inv.defers
            have hsz : a'.tmps.size = 79 := inv.size
            have e := frame22_7 hsz (fun t ht => inv.old t (dstsIn_spec (ts := [38, 39, 40, 41, 42, 43, 44, 45, 46, 47, 48, 49, 50, 51, 52, 53, 54, 55, 56, 57, 58, 59, 60, 61, 62, 63, 64, 65, 66, 67, 68, 69, 70, 71, 72, 73, 74, 75, 76]) (by kernel_rfl) t ht))
            have hR := hS.done (fun c hc => hall c (show c < 39 by simp at hc <;> omega))
            clear inv hd hsz hall hS
            obtain ⟨tmps, defers⟩ := a'
            obtain rfl : defers = [] := hdf
            replace e : tmps = _ := e
            replace hk38 : tmps.getD 76 undef = (.bool false) := hk38
            generalize tmps.getD 38 undef = x38 at *
            generalize tmps.getD 39 undef = x39 at *
            generalize tmps.getD 40 undef = x40 at *
            generalize tmps.getD 41 undef = x41 at *
            generalize tmps.getD 42 undef = x42 at *
            generalize tmps.getD 43 undef = x43 at *
            generalize tmps.getD 44 undef = x44 at *
            generalize tmps.getD 45 undef = x45 at *
            generalize tmps.getD 46 undef = x46 at *
            generalize tmps.getD 47 undef = x47 at *
            generalize tmps.getD 48 undef = x48 at *
            generalize tmps.getD 49 undef = x49 at *
            generalize tmps.getD 50 undef = x50 at *
            generalize tmps.getD 51 undef = x51 at *
            generalize tmps.getD 52 undef = x52 at *
            generalize tmps.getD 53 undef = x53 at *
            generalize tmps.getD 54 undef = x54 at *
            generalize tmps.getD 55 undef = x55 at *
            generalize tmps.getD 56 undef = x56 at *
            generalize tmps.getD 57 undef = x57 at *
            generalize tmps.getD 58 undef = x58 at *
            generalize tmps.getD 59 undef = x59 at *
            generalize tmps.getD 60 undef = x60 at *
            generalize tmps.getD 61 undef = x61 at *
            generalize tmps.getD 62 undef = x62 at *
            generalize tmps.getD 63 undef = x63 at *
            generalize tmps.getD 64 undef = x64 at *
            generalize tmps.getD 65 undef = x65 at *
            generalize tmps.getD 66 undef = x66 at *
            generalize tmps.getD 67 undef = x67 at *
            generalize tmps.getD 68 undef = x68 at *
            generalize tmps.getD 69 undef = x69 at *
            generalize tmps.getD 70 undef = x70 at *
            generalize tmps.getD 71 undef = x71 at *
            generalize tmps.getD 72 undef = x72 at *
            generalize tmps.getD 73 undef = x73 at *
            generalize tmps.getD 74 undef = x74 at *
            generalize tmps.getD 75 undef = x75 at *
            generalize tmps.getD 76 undef = x76 at *
            simp only [Array.getD_eq_getD_getElem?, List.getElem?_toArray, List.getElem?_cons_succ, List.getElem?_cons_zero, Option.getD_some] at e
            subst e
            subst hk38
            have HB5 : Hid (Below w.heap.size w w5) := HB3.out.trans (ho.below HB3.out.size (fun y hy => by simp at hy))
            clear hR ho RB HC HA
            go_wp2_with fail
            first
              | (refine ⟨⟨j + 1, by omega, by simp, HB5.out, HNX⟩, ?_⟩; simp only [intOf]; omega)
              | (go_roundw; (case rel => exact ⟨j + 1, by omega, by simp, HB5.out, HNX⟩); (case measure => simp only [intOf]; omega))
      · have H66 : Hid (decide ((us : Int) = 66) = false) := by show _ = _; simp; omega
        have HNX : Hid (R = Su.opens k nn o bs (j + 1) (L.drop (j + 1))) := by show _ = _; rw [HLJ.out]; exact if_neg (fun h => h1 h.1)
        clear HLJ h1
        go_wp2_with fail
        generalize wr.alloc (.cells #[.int .i64 (us : Int), .slice q1 l1 r1, .slice q2 l2 r2, .slice q3 l3 r3, .slice q4 l4 r4] 83) = w3 at *
        have RB : ∀ k w w', Below w.heap.size w w' → (fun (_ : Nat) (_ : World) => True) k w → (fun (_ : Nat) (_ : World) => True) k w' := fun _ _ _ _ _ => trivial
        refine wp_region_st (op7c0 pe us) (fun u u' => Only [] u u') (SeqS [] (fun (_ : Nat) (_ : World) => True)) (by kernel_rfl) (only_drew _ _) (only_trans _) (op7c0_kept pe us) (by kernel_rfl) (SeqS.start (trivial)) ?_ ?_
        · intro i o a' w' f hi inv hS hfi hfw hpre
          have ho : Only [] w3 w' := inv.grow
          have hlt : i < 39 := (Array.getElem?_eq_some_iff.1 hi).1
          obtain rfl|rfl|rfl|rfl|rfl|rfl|rfl|rfl|rfl|rfl|rfl|rfl|rfl|rfl|rfl|rfl|rfl|rfl|rfl|rfl|rfl|rfl|rfl|rfl|rfl|rfl|rfl|rfl|rfl|rfl|rfl|rfl|rfl|rfl|rfl|rfl|rfl|rfl|rfl : i = 0 ∨ i = 1 ∨ i = 2 ∨ i = 3 ∨ i = 4 ∨ i = 5 ∨ i = 6 ∨ i = 7 ∨ i = 8 ∨ i = 9 ∨ i = 10 ∨ i = 11 ∨ i = 12 ∨ i = 13 ∨ i = 14 ∨ i = 15 ∨ i = 16 ∨ i = 17 ∨ i = 18 ∨ i = 19 ∨ i = 20 ∨ i = 21 ∨ i = 22 ∨ i = 23 ∨ i = 24 ∨ i = 25 ∨ i = 26 ∨ i = 27 ∨ i = 28 ∨ i = 29 ∨ i = 30 ∨ i = 31 ∨ i = 32 ∨ i = 33 ∨ i = 34 ∨ i = 35 ∨ i = 36 ∨ i = 37 ∨ i = 38 := by omega
          · obtain rfl := Option.some.inj hi
            have h0 : a'.tmps.getD 13 undef = (.pointer (some ⟨pe, 0, none⟩)) := by rw [inv.old 13 (notDst_spec (by kernel_rfl))]; rfl
            exact sq_value _ rfl rfl (fa_run 83 0 13 pe rfl h0 (fa71_0 pe)) (Below.refl _ _) (by decide) hS RB rfl
          · obtain rfl := Option.some.inj hi
            have h0 : a'.tmps.getD 38 undef = _ := pre_of hpre 0 38 (by kernel_rfl) (by kernel_rfl)
            exact sq_value _ rfl rfl (load_run 3 38 pe (0) _ rfl h0 (ld3 ((HC.out w' ho).1))) (Below.refl _ _) (by decide) hS RB rfl
          · obtain rfl := Option.some.inj hi
            have h0 : a'.tmps.getD 39 undef = _ := pre_of hpre 1 39 (by kernel_rfl) (by kernel_rfl)
            exact sq_value _ rfl rfl (eqlc_run 39 us rfl h0) (Below.refl _ _) (by decide) hS RB (congrArg Value.bool H66.out)
          · obtain rfl := Option.some.inj hi
            have h0 := pre_of hpre 2 40 (by kernel_rfl) (by kernel_rfl)
            exact sq_value _ rfl rfl (rfl) (Below.refl _ _) (by decide) hS RB h0
          · obtain rfl := Option.some.inj hi
            have hgu : a'.tmps.getD 41 undef = _ := pre_of hpre 3 41 (by kernel_rfl) (by kernel_rfl)
            exact sq_skip rfl (unwanted_of 3 41 false rfl (by kernel_rfl) hgu) (by decide) hS rfl
          · obtain rfl := Option.some.inj hi
            have hgu : a'.tmps.getD 41 undef = _ := pre_of hpre 3 41 (by kernel_rfl) (by kernel_rfl)
            exact sq_skip rfl (unwanted_of 3 41 false rfl (by kernel_rfl) hgu) (by decide) hS rfl
          · obtain rfl := Option.some.inj hi
            have hgu : a'.tmps.getD 41 undef = _ := pre_of hpre 3 41 (by kernel_rfl) (by kernel_rfl)
            exact sq_skip rfl (unwanted_of 3 41 false rfl (by kernel_rfl) hgu) (by decide) hS rfl
          · obtain rfl := Option.some.inj hi
            have hgu : a'.tmps.getD 41 undef = _ := pre_of hpre 3 41 (by kernel_rfl) (by kernel_rfl)
            exact sq_skip rfl (unwanted_of 3 41 false rfl (by kernel_rfl) hgu) (by decide) hS rfl
          · obtain rfl := Option.some.inj hi
            have hgu : a'.tmps.getD 41 undef = _ := pre_of hpre 3 41 (by kernel_rfl) (by kernel_rfl)
            exact sq_skip rfl (unwanted_of 3 41 false rfl (by kernel_rfl) hgu) (by decide) hS rfl
          · obtain rfl := Option.some.inj hi
            have hgu : a'.tmps.getD 41 undef = _ := pre_of hpre 3 41 (by kernel_rfl) (by kernel_rfl)
            exact sq_skip rfl (unwanted_of 3 41 false rfl (by kernel_rfl) hgu) (by decide) hS rfl
          · obtain rfl := Option.some.inj hi
            have hgu : a'.tmps.getD 41 undef = _ := pre_of hpre 3 41 (by kernel_rfl) (by kernel_rfl)
            exact sq_skip rfl (unwanted_of 3 41 false rfl (by kernel_rfl) hgu) (by decide) hS rfl
          · obtain rfl := Option.some.inj hi
            have hgu : a'.tmps.getD 41 undef = _ := pre_of hpre 3 41 (by kernel_rfl) (by kernel_rfl)
            exact sq_skip rfl (unwanted_of 3 41 false rfl (by kernel_rfl) hgu) (by decide) hS rfl
          · obtain rfl := Option.some.inj hi
            have hgu : a'.tmps.getD 41 undef = _ := pre_of hpre 3 41 (by kernel_rfl) (by kernel_rfl)
            exact sq_skip rfl (unwanted_of 3 41 false rfl (by kernel_rfl) hgu) (by decide) hS rfl
          · obtain rfl := Option.some.inj hi
            have hgu : a'.tmps.getD 41 undef = _ := pre_of hpre 3 41 (by kernel_rfl) (by kernel_rfl)
            exact sq_skip rfl (unwanted_of 3 41 false rfl (by kernel_rfl) hgu) (by decide) hS rfl
          · obtain rfl := Option.some.inj hi
            have h0 : a'.tmps.getD 41 undef = _ := pre_of hpre 3 41 (by kernel_rfl) (by kernel_rfl)
            exact sq_value _ rfl rfl (pick_run 41 false _ _ _ _ rfl h0 rfl rfl) (Below.refl _ _) (by decide) hS RB rfl
          · obtain rfl := Option.some.inj hi
            have h0 := pre_of hpre 14 52 (by kernel_rfl) (by kernel_rfl)
            exact sq_value _ rfl rfl (rfl) (Below.refl _ _) (by decide) hS RB h0
          · obtain rfl := Option.some.inj hi
            have hgu : a'.tmps.getD 53 undef = _ := pre_of hpre 15 53 (by kernel_rfl) (by kernel_rfl)
            exact sq_skip rfl (unwanted_of 15 53 false rfl (by kernel_rfl) hgu) (by decide) hS rfl
          · obtain rfl := Option.some.inj hi
            have hgu : a'.tmps.getD 53 undef = _ := pre_of hpre 15 53 (by kernel_rfl) (by kernel_rfl)
            exact sq_skip rfl (unwanted_of 15 53 false rfl (by kernel_rfl) hgu) (by decide) hS rfl
          · obtain rfl := Option.some.inj hi
            have hgu : a'.tmps.getD 53 undef = _ := pre_of hpre 15 53 (by kernel_rfl) (by kernel_rfl)
            exact sq_skip rfl (unwanted_of 15 53 false rfl (by kernel_rfl) hgu) (by decide) hS rfl
          · obtain rfl := Option.some.inj hi
            have hgu : a'.tmps.getD 53 undef = _ := pre_of hpre 15 53 (by kernel_rfl) (by kernel_rfl)
            exact sq_skip rfl (unwanted_of 15 53 false rfl (by kernel_rfl) hgu) (by decide) hS rfl
          · obtain rfl := Option.some.inj hi
            have hgu : a'.tmps.getD 53 undef = _ := pre_of hpre 15 53 (by kernel_rfl) (by kernel_rfl)
            exact sq_skip rfl (unwanted_of 15 53 false rfl (by kernel_rfl) hgu) (by decide) hS rfl
          · obtain rfl := Option.some.inj hi
            have hgu : a'.tmps.getD 53 undef = _ := pre_of hpre 15 53 (by kernel_rfl) (by kernel_rfl)
            exact sq_skip rfl (unwanted_of 15 53 false rfl (by kernel_rfl) hgu) (by decide) hS rfl
          · obtain rfl := Option.some.inj hi
            have h0 : a'.tmps.getD 53 undef = _ := pre_of hpre 15 53 (by kernel_rfl) (by kernel_rfl)
            exact sq_value _ rfl rfl (pick_run 53 false _ _ _ _ rfl h0 rfl rfl) (Below.refl _ _) (by decide) hS RB rfl
          · obtain rfl := Option.some.inj hi
            have h0 := pre_of hpre 22 60 (by kernel_rfl) (by kernel_rfl)
            exact sq_value _ rfl rfl (rfl) (Below.refl _ _) (by decide) hS RB h0
          · obtain rfl := Option.some.inj hi
            have hgu : a'.tmps.getD 61 undef = _ := pre_of hpre 23 61 (by kernel_rfl) (by kernel_rfl)
            exact sq_skip rfl (unwanted_of 23 61 false rfl (by kernel_rfl) hgu) (by decide) hS rfl
          · obtain rfl := Option.some.inj hi
            have hgu : a'.tmps.getD 61 undef = _ := pre_of hpre 23 61 (by kernel_rfl) (by kernel_rfl)
            exact sq_skip rfl (unwanted_of 23 61 false rfl (by kernel_rfl) hgu) (by decide) hS rfl
          · obtain rfl := Option.some.inj hi
            have hgu : a'.tmps.getD 61 undef = _ := pre_of hpre 23 61 (by kernel_rfl) (by kernel_rfl)
            exact sq_skip rfl (unwanted_of 23 61 false rfl (by kernel_rfl) hgu) (by decide) hS rfl
          · obtain rfl := Option.some.inj hi
            have hgu : a'.tmps.getD 61 undef = _ := pre_of hpre 23 61 (by kernel_rfl) (by kernel_rfl)
            exact sq_skip rfl (unwanted_of 23 61 false rfl (by kernel_rfl) hgu) (by decide) hS rfl
          · obtain rfl := Option.some.inj hi
            have hgu : a'.tmps.getD 61 undef = _ := pre_of hpre 23 61 (by kernel_rfl) (by kernel_rfl)
            exact sq_skip rfl (unwanted_of 23 61 false rfl (by kernel_rfl) hgu) (by decide) hS rfl
          · obtain rfl := Option.some.inj hi
            have hgu : a'.tmps.getD 61 undef = _ := pre_of hpre 23 61 (by kernel_rfl) (by kernel_rfl)
            exact sq_skip rfl (unwanted_of 23 61 false rfl (by kernel_rfl) hgu) (by decide) hS rfl
          · obtain rfl := Option.some.inj hi
            have h0 : a'.tmps.getD 61 undef = _ := pre_of hpre 23 61 (by kernel_rfl) (by kernel_rfl)
            exact sq_value _ rfl rfl (pick_run 61 false _ _ _ _ rfl h0 rfl rfl) (Below.refl _ _) (by decide) hS RB rfl
          · obtain rfl := Option.some.inj hi
            have h0 := pre_of hpre 30 68 (by kernel_rfl) (by kernel_rfl)
            exact sq_value _ rfl rfl (rfl) (Below.refl _ _) (by decide) hS RB h0
          · obtain rfl := Option.some.inj hi
            have hgu : a'.tmps.getD 69 undef = _ := pre_of hpre 31 69 (by kernel_rfl) (by kernel_rfl)
            exact sq_skip rfl (unwanted_of 31 69 false rfl (by kernel_rfl) hgu) (by decide) hS rfl
          · obtain rfl := Option.some.inj hi
            have hgu : a'.tmps.getD 69 undef = _ := pre_of hpre 31 69 (by kernel_rfl) (by kernel_rfl)
            exact sq_skip rfl (unwanted_of 31 69 false rfl (by kernel_rfl) hgu) (by decide) hS rfl
          · obtain rfl := Option.some.inj hi
            have hgu : a'.tmps.getD 69 undef = _ := pre_of hpre 31 69 (by kernel_rfl) (by kernel_rfl)
            exact sq_skip rfl (unwanted_of 31 69 false rfl (by kernel_rfl) hgu) (by decide) hS rfl
          · obtain rfl := Option.some.inj hi
            have hgu : a'.tmps.getD 69 undef = _ := pre_of hpre 31 69 (by kernel_rfl) (by kernel_rfl)
            exact sq_skip rfl (unwanted_of 31 69 false rfl (by kernel_rfl) hgu) (by decide) hS rfl
          · obtain rfl := Option.some.inj hi
            have hgu : a'.tmps.getD 69 undef = _ := pre_of hpre 31 69 (by kernel_rfl) (by kernel_rfl)
            exact sq_skip rfl (unwanted_of 31 69 false rfl (by kernel_rfl) hgu) (by decide) hS rfl
          · obtain rfl := Option.some.inj hi
            have hgu : a'.tmps.getD 69 undef = _ := pre_of hpre 31 69 (by kernel_rfl) (by kernel_rfl)
            exact sq_skip rfl (unwanted_of 31 69 false rfl (by kernel_rfl) hgu) (by decide) hS rfl
          · obtain rfl := Option.some.inj hi
            have h0 : a'.tmps.getD 69 undef = _ := pre_of hpre 31 69 (by kernel_rfl) (by kernel_rfl)
            exact sq_value _ rfl rfl (pick_run 69 false _ _ _ _ rfl h0 rfl rfl) (Below.refl _ _) (by decide) hS RB rfl
        · intro a' w5 f inv hS hall hd
          have hk38 := hd 38 76 (by kernel_rfl)
          have ho : Only [] w3 w5 := inv.grow
          have hdf : a'.defers = [] := inv.defers
          have hsz : a'.tmps.size = 79 := inv.size
          have e := frame22_7 hsz (fun t ht => inv.old t (dstsIn_spec (ts := [38, 39, 40, 41, 42, 43, 44, 45, 46, 47, 48, 49, 50, 51, 52, 53, 54, 55, 56, 57, 58, 59, 60, 61, 62, 63, 64, 65, 66, 67, 68, 69, 70, 71, 72, 73, 74, 75, 76]) (by kernel_rfl) t ht))
          have hR := hS.done (fun c hc => hall c (show c < 39 by simp at hc <;> omega))
          clear inv hd hsz hall hS
          obtain ⟨tmps, defers⟩ := a'
          obtain rfl : defers = [] := hdf
          replace e : tmps = _ := e
          replace hk38 : tmps.getD 76 undef = (.bool false) := hk38
          generalize tmps.getD 38 undef = x38 at *
          generalize tmps.getD 39 undef = x39 at *
          generalize tmps.getD 40 undef = x40 at *
          generalize tmps.getD 41 undef = x41 at *
          generalize tmps.getD 42 undef = x42 at *
          generalize tmps.getD 43 undef = x43 at *
          generalize tmps.getD 44 undef = x44 at *
          generalize tmps.getD 45 undef = x45 at *
          generalize tmps.getD 46 undef = x46 at *
          generalize tmps.getD 47 undef = x47 at *
          generalize tmps.getD 48 undef = x48 at *
          generalize tmps.getD 49 undef = x49 at *
          generalize tmps.getD 50 undef = x50 at *
          generalize tmps.getD 51 undef = x51 at *
          generalize tmps.getD 52 undef = x52 at *
          generalize tmps.getD 53 undef = x53 at *
          generalize tmps.getD 54 undef = x54 at *
          generalize tmps.getD 55 undef = x55 at *
          generalize tmps.getD 56 undef = x56 at *
          generalize tmps.getD 57 undef = x57 at *
          generalize tmps.getD 58 undef = x58 at *
          generalize tmps.getD 59 undef = x59 at *
          generalize tmps.getD 60 undef = x60 at *
          generalize tmps.getD 61 undef = x61 at *
          generalize tmps.getD 62 undef = x62 at *
          generalize tmps.getD 63 undef = x63 at *
          generalize tmps.getD 64 undef = x64 at *
          generalize tmps.getD 65 undef = x65 at *
          generalize tmps.getD 66 undef = x66 at *
          generalize tmps.getD 67 undef = x67 at *
          generalize tmps.getD 68 undef = x68 at *
          generalize tmps.getD 69 undef = x69 at *
          generalize tmps.getD 70 undef = x70 at *
          generalize tmps.getD 71 undef = x71 at *
          generalize tmps.getD 72 undef = x72 at *
          generalize tmps.getD 73 undef = x73 at *
          generalize tmps.getD 74 undef = x74 at *
          generalize tmps.getD 75 undef = x75 at *
          generalize tmps.getD 76 undef = x76 at *
          simp only [Array.getD_eq_getD_getElem?, List.getElem?_toArray, List.getElem?_cons_succ, List.getElem?_cons_zero, Option.getD_some] at e
          subst e
          subst hk38
          have HB5 : Hid (Below w.heap.size w w5) := HB3.out.trans (ho.below HB3.out.size (fun y hy => by simp at hy))
          clear hR ho RB HC HA
          go_wp2_with fail
          first
            | (refine ⟨⟨j + 1, by omega, by simp, HB5.out, HNX⟩, ?_⟩; simp only [intOf]; omega)
            | (go_roundw; (case rel => exact ⟨j + 1, by omega, by simp, HB5.out, HNX⟩); (case measure => simp only [intOf]; omega))
    · obtain rfl : j = n := by omega
      have j1 : ¬ (j : Int) < (j : Int) := by omega
      have HP : Hid (R = none) := by
        show _ = _
        rw [HPS.out, List.drop_eq_nil_of_le (by rw [HN.out]; omega)]
        rfl
      clear HPS HA0 HDR
      go_wp2_with fail
      refine bodyPost_ret (results_tmp2 rfl _ _ _) rfl ?_
      refine ⟨?_, HBR.out⟩
      rw [HP.out]
      rfl
end Go.Proofs.YtagdlpodpokmmaaGreatDoor.S7
