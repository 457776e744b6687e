/- The document's once: contract. -/
import Derived.Test.YtagdlpodpokmmaaGreatDoorS7SigD
import Derived.Deep.AppendLies
import Derived.Deep.RegionLaw
import Derived.Deep.DrawnRows
namespace Go.Proofs.YtagdlpodpokmmaaGreatDoor.S7
open Go.RowKit
attribute [local go_sem] Go.wp_at_zero Go.wp_at_succ
theorem pos_drop {s : Nat} {k t : List Nat} {L : List Su.Thing} {j n : Nat} (hj : j < L.length) : Su.pos s k t n (L.drop j) = if L[j].1 = s ∧ L[j].2.1 = k ∧ L[j].2.2.2.2 = t then some (n + 1) else Su.pos s k t (n + 1) (L.drop (j + 1)) := by
  rw [List.drop_eq_getElem_cons hj]
  rfl
theorem DocIs.grown {B d : Nat} {w w' : World} {v v' : Value} {cs : List Cl} {L : List Su.Thing} (h : DocIs B w d v cs L) (c : Cl) (u : Su.Thing) (hk : Kx [some 30, some 83] B w w') (hb : w'.heap[d]? = some (.cells #[v'] 30 (0, 0)))
    (hr : w'.ownsRow B 83 5 v' (L.length + 1) (flat cs ++ cl5 c)) (ht : ThIs B w' c u) : DocIs B w' d v' (cs ++ [c]) (L ++ [u]) := by
  refine ⟨h.low, hb, by rw [flat_snoc, List.length_append]; exact hr, by simp [h.len], fun i c' u' h1 h2 => ?_⟩
  by_cases hi : i < L.length
  · rw [List.getElem?_append_left (by rw [h.len]; exact hi)] at h1
    rw [List.getElem?_append_left hi] at h2
    exact (h.all i c' u' h1 h2).kx hk (by decide)
  · have hi' : i = L.length := by
      have := (List.getElem?_eq_some_iff.1 h2).1
      simp at this
      omega
    subst hi'
    rw [List.getElem?_append_right (by rw [h.len]; omega), h.len] at h1
    rw [List.getElem?_append_right (by omega)] at h2
    simp at h1 h2
    subst h1 h2
    exact ht
theorem doc_push {B d : Nat} {u w2 : World} {v v' : Value} {cs : List Cl} {L : List Su.Thing} (c : Cl) (t : Su.Thing) (h : DocIs B u d v cs L) (hB : B ≤ u.heap.size) (ho : w2.ownsRow B 83 5 v' (L.length + 1) (flat cs ++ cl5 c)) (hg : u.grownBy w2 v.ownBlock) (ht : ThIs B u c t) :
    DocIs B (w2.setCell ⟨d, 0, none⟩ v') d v' (cs ++ [c]) (L ++ [t]) ∧ Kx [some 30, some 83] B u (w2.setCell ⟨d, 0, none⟩ v') := by
  have row71 : ∀ k, v.ownBlock = some k → B ≤ k ∧ ∀ o, u.heap[k]? = some o → tyOf o = some 83 := fun k e => by
    obtain ⟨_, ⟨rfl, _⟩ | ⟨g, cap, cur, rfl, h1, hh, _⟩⟩ := h.row
    · cases e
    · cases e
      exact ⟨h1, fun o h2 => by rw [hh] at h2; cases h2; rfl⟩
  have k1 : Kx [some 30, some 83] B u w2 := by
    refine ⟨⟨hg.os, hg.tape, hg.output, hg.size, fun k hk => hg.block k (Nat.lt_of_lt_of_le hk hB) (fun e => by have := (row71 k e.symm).1; omega)⟩, fun k o hk hn => (hg.block k (Array.getElem?_eq_some_iff.1 hk).1 (fun e => hn ?_)).trans hk⟩
    rw [(row71 k e.symm).2 o hk]
    decide
  have hd2 : w2.heap[d]? = some (.cells #[v] 30 (0, 0)) := (hg.block d (Array.getElem?_eq_some_iff.1 h.box).1 (fun e => by
    have := (row71 d e.symm).2 _ h.box
    cases this)).trans h.box
  have k2 : Kx [some 30, some 83] B w2 (w2.setCell ⟨d, 0, none⟩ v') := by
    refine Kx.of_only (Only.setCell (bs := [d]) w2 ⟨d, 0, none⟩ v' (by simp)) (Nat.le_trans hB hg.size) (fun y hy => ?_)
    rw [List.mem_singleton.1 hy]
    exact ⟨h.low, fun o h2 => by rw [hd2] at h2; cases h2; show (some 30 : Option TypeId) ∈ [some 30, some 83]; decide⟩
  have hbx : (w2.setCell ⟨d, 0, none⟩ v').heap[d]? = some (.cells #[v'] 30 (0, 0)) := heap_setCell_same w2 d 0 _ 30 v' hd2
  have ho2 : (w2.setCell ⟨d, 0, none⟩ v').ownsRow B 83 5 v' (L.length + 1) (flat cs ++ cl5 c) := by
    refine own_only ho (Only.setCell (bs := [d]) w2 ⟨d, 0, none⟩ v' (by simp)) (fun b hb hm => ?_)
    rw [List.mem_singleton.1 hm] at hb
    obtain ⟨_, ⟨rfl, _⟩ | ⟨g, cap, cur, rfl, _, hh, _⟩⟩ := ho
    · cases hb
    · cases hb
      rw [hd2] at hh
      cases hh
  exact ⟨h.grown c t (k1.trans k2) hbx ho2 (ht.kx (k1.trans k2) (by decide)), k1.trans k2⟩
set_option maxHeartbeats 2000000 in
set_option maxRecDepth 10000 in
theorem once_any (s : Nat) (kv tv : Value) (k t : List Nat) (B d : Nat) (L : List Su.Thing) (w : World) (h : Doc B w d L) (hk : By B w kv k) (ht : By B w tv t) (hB : B ≤ w.heap.size) (hL : L.length < 1000000) :
    Calls Tryz.prog 45 #[.pointer (some ⟨d, 0, none⟩), .agg #[.int .i64 (s : Int), kv, .slice none 0 0, .slice none 0 0, tv]] w fun e w' => e = .returned (.int .i64 (Su.num L s k t : Int)) ∧ Doc B w' d (Su.add L s k t) ∧ Kx [some 30, some 83] B w w' := by
  obtain ⟨v, cs, hd⟩ := h
  have HB0 : Hid (B ≤ w.heap.size) := hB
  have HK : Hid (By B w kv k) := hk
  have HT : Hid (By B w tv t) := ht
  have HD : Hid (DocIs B w d v cs L) := hd
  obtain ⟨pk, ck, rfl, _⟩ := hk.src.slice
  obtain ⟨pt, ct, rfl, _⟩ := ht.src.slice
  obtain ⟨kl, HKL⟩ : ∃ kl, Hid (k.length = kl) := ⟨_, rfl⟩
  obtain ⟨tl, HTL⟩ : ∃ tl, Hid (t.length = tl) := ⟨_, rfl⟩
  rw [HKL.out] at HK ⊢
  rw [HTL.out] at HT ⊢
  obtain ⟨vp, vc, rfl⟩ := own_slice hd.row
  obtain ⟨n, HN⟩ : ∃ n, Hid (L.length = n) := ⟨_, rfl⟩
  rw [HN.out] at HD
  have n1 : (n : Int) < 1000000 := by have := HN.out; omega
  have n0 : (0 : Int) ≤ (n : Int) := by omega
  obtain ⟨r, HR⟩ : ∃ r, Hid (Su.num L s k t = r) := ⟨_, rfl⟩
  rw [HR.out]
  clear hd hk ht hB hL
  go_enter Tryz.func45, Tryz.ntmps45
  go_wp2_with fail
  obtain ⟨p0, HP0⟩ : ∃ p0, Hid (w.heap.size = p0) := ⟨_, rfl⟩
  have hp1 := heap_alloc_new w (.cells #[.int .i64 (s : Int), .slice pk kl ck, .slice none 0 0, .slice none 0 0, .slice pt tl ct] 83)
  have hb1 : Below w.heap.size w (w.alloc (.cells #[.int .i64 (s : Int), .slice pk kl ck, .slice none 0 0, .slice none 0 0, .slice pt tl ct] 83)) := (Below.refl _ _).alloc (Nat.le_refl _) _
  rw [HP0.out] at hp1
  rw [HP0.out]
  have HBW : Hid (Below w.heap.size w (w.alloc (.cells #[.int .i64 (s : Int), .slice pk kl ck, .slice none 0 0, .slice none 0 0, .slice pt tl ct] 83))) := hb1
  have HP1 : Hid ((w.alloc (.cells #[.int .i64 (s : Int), .slice pk kl ck, .slice none 0 0, .slice none 0 0, .slice pt tl ct] 83)).heap[p0]? = some (.cells #[.int .i64 (s : Int), .slice pk kl ck, .slice none 0 0, .slice none 0 0, .slice pt tl ct] 83 (0, 0))) := hp1
  clear hp1 hb1
  generalize w.alloc (.cells #[.int .i64 (s : Int), .slice pk kl ck, .slice none 0 0, .slice none 0 0, .slice pt tl ct] 83) = w1 at *
  have HP2 : Hid (p0 < w1.heap.size) := (Array.getElem?_eq_some_iff.1 HP1.out).1
  go_loopw [5] (fun i wr => ∃ j : Nat, j ≤ n ∧ i = .int .i64 (j : Int) ∧ Hid (Below w1.heap.size w1 wr) ∧ Hid (Su.pos s k t 0 L = Su.pos s k t j (L.drop j))) (fun i _ => n - (intOf i).toNat)
  case atStart => exact ⟨0, by omega, rfl, Below.refl _ _, rfl⟩
  case round =>
    obtain ⟨j, hj, rfl, HBR, HPS⟩ := hrel
    have HDR : Hid (DocIs B wr d (.slice vp n vc) cs L) := (HD.out.below HBW.out).below HBR.out
    have HPR : Hid (wr.heap[p0]? = some (.cells #[.int .i64 (s : Int), .slice pk kl ck, .slice none 0 0, .slice none 0 0, .slice pt tl ct] 83 (0, 0))) := (HBR.out.block p0 HP2.out).trans HP1.out
    have HBX : Hid (Below w.heap.size w wr) := HBW.out.trans (HBR.out.mono HBW.out.size)
    have hc0 : wr.cell? ⟨d, 0, none⟩ = some (.slice vp n vc) := by rw [cell_of_row _ _ _ _ _ _ HDR.out.box]; rfl
    by_cases hlt : j < n
    · have hjl : j < L.length := by rw [HN.out]; exact hlt
      obtain ⟨g, cap, c, hvv, hcap, hth, d0, d1, d2, d3, d4⟩ := HDR.out.at hjl
      rw [HN.out] at hvv
      cases hvv
      have HLJ : Hid (Su.pos s k t 0 L = if L[j].1 = s ∧ L[j].2.1 = k ∧ L[j].2.2.2.2 = t then some (j + 1) else Su.pos s k t (j + 1) (L.drop (j + 1))) := HPS.out.trans (pos_drop hjl)
      clear HPS
      have hcap' : (n : Int) ≤ (vc : Int) := by have := HN.out; omega
      generalize L[j] = u at *
      obtain ⟨us, uk, un, uo, ut⟩ := u
      obtain ⟨c0, c1, c2, c3, c4⟩ := c
      obtain ⟨e0, hk1, hn1, ho1, ht1⟩ := hth
      simp only at e0 hk1 hn1 ho1 ht1 d0 d1 d2 d3 d4 HLJ
      have HS1 : Hid (∀ x ∈ uk, x < 256) := hk1.src.small
      have HS2 : Hid (∀ x ∈ ut, x < 256) := ht1.src.small
      have HS3 : Hid (∀ x ∈ k, x < 256) := HK.out.src.small
      have HS4 : Hid (∀ x ∈ t, x < 256) := HT.out.src.small
      have ba : ∀ o, Below wr.heap.size wr (wr.alloc o) := fun o => (Below.refl _ _).alloc (Nat.le_refl _) _
      have f1 : ∀ o, (convert 22 9 c1).run Tryz.prog (wr.alloc o) = .ok (.string (strB uk)) (wr.alloc o) := fun o => conv_src (hk1.src.below (ba o))
      have f2 : ∀ o, (convert 22 9 c4).run Tryz.prog (wr.alloc o) = .ok (.string (strB ut)) (wr.alloc o) := fun o => conv_src (ht1.src.below (ba o))
      have f3 : ∀ o, (convert 22 9 (.slice pk kl ck)).run Tryz.prog (wr.alloc o) = .ok (.string (strB k)) (wr.alloc o) := fun o => conv_src ((HK.out.src.below HBX.out).below (ba o))
      have f4 : ∀ o, (convert 22 9 (.slice pt tl ct)).run Tryz.prog (wr.alloc o) = .ok (.string (strB t)) (wr.alloc o) := fun o => conv_src ((HT.out.src.below HBX.out).below (ba o))
      obtain ⟨q1, r1, rfl, _⟩ := hk1.src.slice
      obtain ⟨q2, r2, rfl, _⟩ := hn1.src.slice
      obtain ⟨q3, r3, rfl, _⟩ := ho1.src.slice
      obtain ⟨q4, r4, rfl, _⟩ := ht1.src.slice
      have x0 : ∀ o, (wr.alloc o).cell? ⟨p0, 0, none⟩ = some (.int .i64 (s : Int)) := fun o => by rw [cell_of_row _ _ _ _ _ _ (((ba o).block p0 (Array.getElem?_eq_some_iff.1 HPR.out).1).trans HPR.out)]; rfl
      have x1 : ∀ o, (wr.alloc o).cell? ⟨p0, 1, none⟩ = some (.slice pk kl ck) := fun o => by rw [cell_of_row _ _ _ _ _ _ (((ba o).block p0 (Array.getElem?_eq_some_iff.1 HPR.out).1).trans HPR.out)]; rfl
      have x4 : ∀ o, (wr.alloc o).cell? ⟨p0, 4, none⟩ = some (.slice pt tl ct) := fun o => by rw [cell_of_row _ _ _ _ _ _ (((ba o).block p0 (Array.getElem?_eq_some_iff.1 HPR.out).1).trans HPR.out)]; rfl
      have HBA : Hid (∀ o, Below w1.heap.size w1 (wr.alloc o)) := fun o => HBR.out.trans ((ba o).mono HBR.out.size)
      have HDA : Hid (∀ o, Doc B (wr.alloc o) d L) := fun o => ⟨_, _, HDR.out.below (ba o)⟩
      have HKA : Hid (∀ o, Kx [some 30, some 83] B w (wr.alloc o)) := fun o => Kx.of_below (HBX.out.trans ((ba o).mono HBX.out.size)) HB0.out
      clear hk1 hn1 ho1 ht1 e0 HDR ba HPR hjl HK HT
      generalize uk.length = l1 at *
      generalize un.length = l2 at *
      generalize uo.length = l3 at *
      generalize ut.length = l4 at *
      have j0 : (0 : Int) ≤ (j : Int) := by omega
      have j1 : (j : Int) < (n : Int) := by omega
      by_cases h1 : us = s
      · subst h1
        by_cases h2 : uk = k
        · subst h2
          by_cases h3 : ut = t
          · subst h3
            have HP : Hid (Su.pos us uk ut 0 L = some (j + 1)) := by rw [HLJ.out]; exact if_pos ⟨rfl, rfl, rfl⟩
            have HRJ : Hid ((r : Int) = (j : Int) + 1) := by show _ = _; rw [← HR.out, Su.num, HP.out]; simp
            have HAD : Hid (Su.add L us uk ut = L) := by show _ = _; rw [Su.add, HP.out]
            clear HLJ HP
            generalize strB ut = b1 at *
            generalize strB uk = b2 at *
            go_wp2_with fail
            go_ret
            exact ⟨by rw [HRJ.out]; rfl, by rw [HAD.out]; exact HDA.out _, HKA.out _⟩
          · have HNX : Hid (Su.pos us uk t 0 L = Su.pos us uk t (j + 1) (L.drop (j + 1))) := by rw [HLJ.out]; exact if_neg (fun h => h3 h.2.2)
            have s1 : ((strB ut).toList == (strB t).toList) = false := by rw [strB_beqL HS2.out HS4.out]; simp [h3]
            clear HLJ
            generalize strB ut = b1 at *
            generalize strB t = b2 at *
            generalize strB uk = b3 at *
            go_wp2_with fail
            first
              | (refine ⟨⟨j + 1, by omega, by simp, HBA.out _, HNX⟩, ?_⟩; simp only [intOf]; omega)
              | (go_roundw; (case rel => exact ⟨j + 1, by omega, by simp, HBA.out _, HNX⟩); (case measure => simp only [intOf]; omega))
        · have HNX : Hid (Su.pos us k t 0 L = Su.pos us k t (j + 1) (L.drop (j + 1))) := by rw [HLJ.out]; exact if_neg (fun h => h2 h.2.1)
          have s1 : ((strB uk).toList == (strB k).toList) = false := by rw [strB_beqL HS1.out HS3.out]; simp [h2]
          clear HLJ
          generalize strB uk = b1 at *
          generalize strB k = b2 at *
          generalize strB t = b3 at *
          generalize strB ut = b4 at *
          go_wp2_with fail
          first
            | (refine ⟨⟨j + 1, by omega, by simp, HBA.out _, HNX⟩, ?_⟩; simp only [intOf]; omega)
            | (go_roundw; (case rel => exact ⟨j + 1, by omega, by simp, HBA.out _, HNX⟩); (case measure => simp only [intOf]; omega))
      · have HNX : Hid (Su.pos s k t 0 L = Su.pos s k t (j + 1) (L.drop (j + 1))) := by rw [HLJ.out]; exact if_neg (fun h => h1 h.1)
        have s1 : ¬ (us : Int) = (s : Int) := by omega
        clear HLJ
        go_wp2_with fail
        first
          | (refine ⟨⟨j + 1, by omega, by simp, HBA.out _, HNX⟩, ?_⟩; simp only [intOf]; omega)
          | (go_roundw; (case rel => exact ⟨j + 1, by omega, by simp, HBA.out _, HNX⟩); (case measure => simp only [intOf]; omega))
    · obtain rfl : j = n := by omega
      have HP : Hid (Su.pos s k t 0 L = none) := by
        show _ = _
        rw [HPS.out, List.drop_eq_nil_of_le (by rw [HN.out]; omega)]
        rfl
      have HRJ : Hid ((r : Int) = (j : Int) + 1) := by show _ = _; rw [← HR.out, Su.num, HP.out, ← HN.out]; simp
      have HAD : Hid (Su.add L s k t = L ++ [(s, k, [], [], t)]) := by show _ = _; rw [Su.add, HP.out]
      have x0 : wr.cell? ⟨p0, 0, none⟩ = some (.int .i64 (s : Int)) := by rw [cell_of_row _ _ _ _ _ _ HPR.out]; rfl
      have x1 : wr.cell? ⟨p0, 1, none⟩ = some (.slice pk kl ck) := by rw [cell_of_row _ _ _ _ _ _ HPR.out]; rfl
      have x2 : wr.cell? ⟨p0, 2, none⟩ = some (.slice none 0 0) := by rw [cell_of_row _ _ _ _ _ _ HPR.out]; rfl
      have x3 : wr.cell? ⟨p0, 3, none⟩ = some (.slice none 0 0) := by rw [cell_of_row _ _ _ _ _ _ HPR.out]; rfl
      have x4 : wr.cell? ⟨p0, 4, none⟩ = some (.slice pt tl ct) := by rw [cell_of_row _ _ _ _ _ _ HPR.out]; rfl
      have fd : wr.frozen? ⟨d, 0, none⟩ = false := frozen_of_row _ _ _ _ _ HDR.out.box
      have j1 : ¬ (j : Int) < (j : Int) := by omega
      have nd := World.new_ne wr ⟨d, 0, none⟩ hc0
      have nx := World.new_ne wr ⟨p0, 0, none⟩ x0
      clear HPS HP
      have hown : wr.ownsRow B 83 5 (.slice vp j vc) j (flat cs) := by have := HDR.out.row; rwa [HN.out] at this
      have av : (Value.slice vp j vc).ownBlock ≠ some d := fun e => by
        obtain ⟨_, ⟨e1, _⟩ | ⟨g, cap, cur, e1, _, hh, _⟩⟩ := hown
        · cases e1; cases e
        · cases e1
          cases e
          rw [HDR.out.box] at hh
          cases hh
      have ap : (Value.slice vp j vc).ownBlock ≠ some p0 := fun e => by
        have h1 := HD.out.row
        obtain ⟨_, ⟨e1, _⟩ | ⟨g, cap, cur, e1, _, hh, _⟩⟩ := h1
        · cases e1; cases e
        · cases e1
          cases e
          have h2 := (Array.getElem?_eq_some_iff.1 hh).1
          rw [HP0.out] at h2
          exact Nat.lt_irrefl _ h2
      have ld := World.block_lt_of_cell? wr _ hc0
      have lp := World.block_lt_of_cell? wr _ x0
      obtain ⟨i0, hi0, hz1, hz2, hz0⟩ := info71e
      have fda : ∀ c t, (wr.alloc (.cells c t)).drew.frozen? ⟨d, 0, none⟩ = false := fun c t => (frozen?_alloc_cells wr c t _).trans fd
      have hca : ∀ c t, (wr.alloc (.cells c t)).drew.cell? ⟨d, 0, none⟩ = some (.slice vp j vc) := fun c t => (((Below.refl wr.heap.size wr).alloc (Nat.le_refl _) (.cells c t)).cell (p := ⟨d, 0, none⟩) ld).trans hc0
      have hB1 : B ≤ wr.heap.size := Nat.le_trans HB0.out HBX.out.size
      have hm1 : j + 1 ≤ maxLen := by unfold maxLen; omega
      have hm2 : (j + 1) * 104 ≤ 140737488355328 := by omega
      have HOWN : Hid (wr.ownsRow B 83 5 (.slice vp j vc) j (flat cs)) := hown
      have HFIN : Hid (∀ gg cap w2, w2.ownsRow B 83 5 (.slice (some ⟨gg, 0, none⟩) (j + 1) cap) (j + 1) (flat cs ++ [.int .i64 (s : Int), .slice pk kl ck, .slice none 0 0, .slice none 0 0, .slice pt tl ct]) → (wr.alloc (.cells #[.int .i64 (s : Int), .slice pk kl ck, .slice none 0 0, .slice none 0 0, .slice pt tl ct] 83)).drew.grownBy w2 (Value.slice vp j vc).ownBlock →
          Doc B (w2.setCell ⟨d, 0, none⟩ (.slice (some ⟨gg, 0, none⟩) (j + 1) cap)) d (L ++ [(s, k, [], [], t)]) ∧ Kx [some 30, some 83] B w (w2.setCell ⟨d, 0, none⟩ (.slice (some ⟨gg, 0, none⟩) (j + 1) cap))) := by
        intro gg cap w2 ho hg
        have hb : Below wr.heap.size wr (wr.alloc (.cells #[.int .i64 (s : Int), .slice pk kl ck, .slice none 0 0, .slice none 0 0, .slice pt tl ct] 83)).drew := ((Below.refl _ _).alloc (Nat.le_refl _) _).trans (below_drewN 1 _ _)
        have hbw : Below w.heap.size w (wr.alloc (.cells #[.int .i64 (s : Int), .slice pk kl ck, .slice none 0 0, .slice none 0 0, .slice pt tl ct] 83)).drew := HBX.out.trans (hb.mono HBX.out.size)
        have hp := doc_push (s, .slice pk kl ck, .slice none 0 0, .slice none 0 0, .slice pt tl ct) (s, k, [], [], t) (HDR.out.below hb) (Nat.le_trans HB0.out hbw.size) (by rw [HN.out]; exact ho) hg ⟨rfl, HK.out.below hbw, By.nil _ _, By.nil _ _, HT.out.below hbw⟩
        exact ⟨⟨_, _, hp.1⟩, (Kx.of_below hbw HB0.out).trans hp.2⟩
      clear hown HDR HPR HD HP1 HK HT HN HR
      go_wp2_with fail
      go_region_law ((refine step_append_lies _ (by rfl) _ _ _ (by rfl) B 83 i0 _ 5 104 Tryz.underlying28 hi0 hz0 hz1 hz2 rfl (by omega) (.slice vp j vc) j (flat cs) (by rfl) ((HOWN.out.alloc _).drew) ⟨wr.heap.size, 0, none⟩ 1 1 [.int .i64 (s : Int), .slice pk kl ck, .slice none 0 0, .slice none 0 0, .slice pt tl ct] (by rfl) (by rfl) (World.news_of_block (cs := #[.int .i64 (s : Int), .slice pk kl ck, .slice none 0 0, .slice none 0 0, .slice pt tl ct]) (t := 83) (fr := (0, 0)) (heap_alloc_new wr _)) (by simp [Value.oneCell']) (by omega) hm1 hm2 (by simp; omega) (wr.heap.size + 1) (by simp) ?_; intro gg cap w2 hown2 hgrow hat hlt; have hc2 : w2.cell? ⟨d, 0, none⟩ = some (.slice vp j vc) := (hgrow.cell_far _ (by simp; omega) (Ne.symm av)).trans (hca _ _); have hf2 : w2.frozen? ⟨d, 0, none⟩ = false := (hgrow.frozen_far _ (by simp; omega) (Ne.symm av)).trans (fda _ _)))
      all_goals
        have HZ := HFIN.out _ _ _ hown2 hgrow
        have HZ1 : Hid (Doc B (w2.setCell ⟨d, 0, none⟩ (.slice (some ⟨gg, 0, none⟩) (j + 1) cap)) d (L ++ [(s, k, [], [], t)])) := HZ.1
        have HZ2 : Hid (Kx [some 30, some 83] B w (w2.setCell ⟨d, 0, none⟩ (.slice (some ⟨gg, 0, none⟩) (j + 1) cap))) := HZ.2
        clear HZ hown2 hgrow HFIN hat fda hca x0 x1 x2 x3 x4
        go_wp2_with fail
        go_ret
        exact ⟨by rw [HRJ.out]; rfl, by rw [HAD.out]; exact HZ1.out, HZ2.out⟩
end Go.Proofs.YtagdlpodpokmmaaGreatDoor.S7
