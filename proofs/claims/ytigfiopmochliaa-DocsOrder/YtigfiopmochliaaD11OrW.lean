/- The walk of DocsOrder. -/
import Derived.Test.YtigfiopmochliaaD11Or
namespace Go.Proofs.Ytigfiopmochliaa.D11
open Go.RowKit C8 E9 P10
set_option maxHeartbeats 16000000 in
set_option maxRecDepth 20000 in
theorem or_many (w : World) (a1 : Option Addr) (n c1 : Nat) (t : Int) (hn : 20 < n) :
    Calls Try.prog 6 #[.slice a1 n c1, .int .i64 t] w fun e w' => e = .returned (.bool true) ∧ Below w.heap.size w w' := by
  have k1 : (20 : Int) < (n : Int) := by omega
  go_enter Try.func6, Try.ntmps6
  go_wp2_with fail
  refine (anchor_any w).mono ?_
  rintro e w1 ⟨rfl, hb1⟩
  have HB1 : Hid (Below w.heap.size w w1) := hb1
  clear hb1
  go_wp2_with fail
  go_ret
  exact ⟨rfl, HB1.out⟩
set_option maxHeartbeats 16000000 in
set_option maxRecDepth 20000 in
theorem or_neg (w : World) (a1 : Option Addr) (n c1 : Nat) (t : Int) (hn : n ≤ 20) (ht : t < 0) :
    Calls Try.prog 6 #[.slice a1 n c1, .int .i64 t] w fun e w' => e = .returned (.bool true) ∧ Below w.heap.size w w' := by
  have k1 : ¬ (20 : Int) < (n : Int) := by omega
  go_enter Try.func6, Try.ntmps6
  go_wp2_with fail
  refine (anchor_any w).mono ?_
  rintro e w1 ⟨rfl, hb1⟩
  have HB1 : Hid (Below w.heap.size w w1) := hb1
  clear hb1
  go_wp2_with fail
  go_ret
  exact ⟨rfl, HB1.out⟩
set_option maxHeartbeats 16000000 in
set_option maxRecDepth 20000 in
theorem or_main (w : World) (a1 : Option Addr) (n c1 : Nat) (t : Int) (ns : List (List Nat)) (hl : ns.length = n) (hr : BysRow w a1 ns) (hn : n ≤ 20) (tn : Nat) (ht : t = (tn : Int)) :
    Calls Try.prog 6 #[.slice a1 n c1, .int .i64 t] w fun e w' => e = .returned (.bool true) ∧ Below w.heap.size w w' := by
  have k1 : ¬ (20 : Int) < (n : Int) := by omega
  subst ht
  have k2 : ¬ ((tn : Int) < 0) := by omega
  have HR : Hid (BysRow w a1 ns) := hr
  have HN : Hid (ns.length = n) := hl
  have hnb : (n : Int) ≤ 20 := by omega
  have hn0 : (0 : Int) ≤ (n : Int) := by omega
  have hmm := @run_makeMap Try.prog
  clear hl hr
  go_enter Try.func6, Try.ntmps6
  go_wp2_with fail
  refine (anchor_any w).mono ?_
  rintro e w1 ⟨rfl, hb1⟩
  have HB1 : Hid (Below w.heap.size w w1) := hb1
  clear hb1
  go_wp2_with fail
  refine (New_any w1).mono ?_
  rintro e w2 ⟨pa, ba, rfl, hd, hp, hb, hb2⟩
  have G2 : Hid (Pl w w2 pa ba []) := Pl.new HB1.out hd hp hb hb2
  clear hd hp hb hb2
  go_wp2_with fail
  refine (New_any w2).mono ?_
  rintro e w3 ⟨pb, bb, rfl, hd, hp, hb, hb2⟩
  have HNE : Hid (pa ≠ bb ∧ ba ≠ bb ∧ pb ≠ ba ∧ bb ≠ ba) := by
    have h1 := G2.out.dc.ltp
    have h2 := G2.out.dc.ltb
    exact ⟨by omega, by omega, by omega, by omega⟩
  have G3 : Hid (Pl w w3 pa ba [] ∧ Pl w w3 pb bb []) := ⟨G2.out.step hb2, Pl.new G2.out.bel hd hp hb hb2⟩
  clear hd hp hb hb2 G2
  have hsn := Seen.made w3
  obtain ⟨w4, HW4⟩ : ∃ w4, Hid (w3.alloc (.map #[] 0) = w4) := ⟨_, rfl⟩
  rw [HW4.out] at hsn
  have hb4 : Below w3.heap.size w3 w4 := by rw [← HW4.out]; exact bel_alloc (Nat.le_refl _) _
  obtain ⟨sb, hsb⟩ : ∃ sb, sb = w3.heap.size := ⟨_, rfl⟩
  go_wp2_with fail
  rw [HW4.out]
  rw [← hsb] at hsn ⊢
  have HSB : Hid (w3.heap.size ≤ sb) := (by omega : w3.heap.size ≤ sb)
  have G4 : Hid (Below w3.heap.size w3 w4 ∧ Seen w4 sb 0 [] ∧ LR w w4 w3.heap.size (.slice none 0 0) []) := ⟨hb4, hsn, LR.nil _ _ _⟩
  clear hsn hb4 HW4 hsb
  go_loopw [8, 33] (fun l i wr => ∃ (j : Nat) (ks ss : List (List Nat)) (lq : Option Addr) (m lc : Nat), j ≤ n ∧ i = .int .i64 j ∧ l = .slice lq m lc ∧ Hid (ks.length = m) ∧ Hid (Below w3.heap.size w3 wr ∧ Seen wr sb j ss ∧ LR w wr w3.heap.size (.slice lq m lc) ks) ∧ Hid (ks.Nodup ∧ ks.length ≤ j ∧ (∀ k, k ∈ ks ↔ k ∈ ss) ∧ (∀ k ∈ ks, 1 ≤ k.length ∧ k.length ≤ 64))) (fun _ i _ => n - (intOf i).toNat)
  case atStart => exact ⟨0, [], [], none, 0, 0, by omega, rfl, rfl, rfl, G4.out, List.nodup_nil, Nat.le_refl _, fun k => Iff.rfl, fun k hk => by cases hk⟩
  case round =>
    obtain ⟨j, ks, ss, lq, m, lc, hj, rfl, rfl, HM, GJ, HK⟩ := hrel
    clear G4
    have j0 : (0 : Int) ≤ (j : Int) := by omega
    by_cases hlt : j < n
    · have j1 : (j : Int) < (n : Int) := by omega
      have ja : j < ns.length := by rw [HN.out]; exact hlt
      obtain ⟨nb, no, np, nc, hrfl, k2', k3, k4⟩ := HR.out j ja
      subst hrfl
      have hbw : Below w.heap.size w wr := G3.out.1.bel.trans (bel_le GJ.out.1 G3.out.1.bel.size)
      have d0 := (hbw.cell (p := ⟨nb, no + j, none⟩) k2').trans k3
      have HS : Hid (∀ w', Below w.heap.size w w' → Src w' (.slice np ns[j].length nc) ns[j]) := fun w' hb => k4.below hb
      clear k3 k4 k2'
      generalize hnj : ns[j] = k at *
      clear hnj ja
      have HBW : Hid (Below w.heap.size w wr) := hbw
      clear hbw
      obtain ⟨kl, HKL⟩ : ∃ kl, Hid (k.length = kl) := ⟨_, rfl⟩
      rw [HKL.out] at d0 HS
      by_cases h1 : kl < 1
      · have q1 : (kl : Int) < 1 := by omega
        go_wp2_with fail
        go_ret
        exact ⟨rfl, HBW.out⟩
      by_cases h2 : 64 < kl
      · have q1 : ¬ (kl : Int) < 1 := by omega
        have q2 : (64 : Int) < (kl : Int) := by omega
        go_wp2_with fail
        go_ret
        exact ⟨rfl, HBW.out⟩
      have q1 : ¬ (kl : Int) < 1 := by omega
      have q2 : ¬ (64 : Int) < (kl : Int) := by omega
      have HKB : Hid ((∀ x ∈ k, x < 256) ∧ k.length ≤ maxLen ∧ 1 ≤ k.length ∧ k.length ≤ 64) := ⟨(HS.out w (Below.refl _ _)).small, by rw [HKL.out]; unfold maxLen; omega, by rw [HKL.out]; omega, by rw [HKL.out]; omega⟩
      have hx1 := conv_src (w := wr) (HS.out wr HBW.out)
      have hlk := GJ.out.2.1.look HKB.out.1 HKB.out.2.1
      by_cases hm : k ∈ ss
      · rw [decide_eq_true hm] at hlk
        obtain ⟨w5, hput, hs5, ho5⟩ := GJ.out.2.1.put HKB.out.1 HKB.out.2.1 (by unfold maxLen; omega)
        have G5 : Hid (Below w3.heap.size w3 w5 ∧ Seen w5 sb (j + 1) (k :: ss) ∧ LR w w5 w3.heap.size (.slice lq m lc) ks) := ⟨GJ.out.1.trans (ho5.below GJ.out.1.size (by simpa using HSB.out)), hs5, GJ.out.2.2.map ho5 GJ.out.2.1.isMap⟩
        have HK5 : Hid (ks.Nodup ∧ ks.length ≤ j + 1 ∧ (∀ x, x ∈ ks ↔ x ∈ k :: ss) ∧ (∀ k ∈ ks, 1 ≤ k.length ∧ k.length ≤ 64)) := ⟨HK.out.1, Nat.le_succ_of_le HK.out.2.1, fun x => by
          rw [HK.out.2.2.1 x, List.mem_cons]
          exact ⟨.inr, fun h => h.elim (fun e => by rw [e]; exact hm) id⟩, HK.out.2.2.2⟩
        clear hs5 ho5 HK hm HS
        generalize strB k = s1 at *
        go_wp2_with fail
        refine ⟨⟨j + 1, ks, k :: ss, lq, m, lc, by omega, by simp, rfl, HM, G5, HK5⟩, ?_⟩
        simp only [intOf]
        omega
      · rw [decide_eq_false hm] at hlk
        have hnk : k ∉ ks := fun h => hm ((HK.out.2.2.1 k).1 h)
        have HK5 : Hid ((ks ++ [k]).Nodup ∧ (ks ++ [k]).length ≤ j + 1 ∧ (∀ x, x ∈ ks ++ [k] ↔ x ∈ k :: ss) ∧ (∀ y ∈ ks ++ [k], 1 ≤ y.length ∧ y.length ≤ 64)) := by
          refine ⟨?_, by simpa using HK.out.2.1, fun x => by rw [List.mem_append, List.mem_singleton, List.mem_cons, HK.out.2.2.1 x]; exact ⟨Or.symm, Or.symm⟩, fun y hy => ?_⟩
          · rw [List.nodup_append]
            exact ⟨HK.out.1, by simp, fun a ha b hb e => by rw [List.mem_singleton.1 hb] at e; rw [e] at ha; exact hnk ha⟩
          · rcases List.mem_append.1 hy with h | h
            · exact HK.out.2.2.2 y h
            · rw [List.mem_singleton.1 h]; exact HKB.out.2.2
        have HSM : Hid (ks.length ≤ 1000000) := Nat.le_trans HK.out.2.1 (by omega)
        clear HK hm hnk
        obtain ⟨xs, ho, hxl, hxs⟩ := GJ.out.2.2
        have HXS := snoc_at (x := Value.slice np kl nc) hxl hxs (k := k) (p := np) (c := nc) (by rw [HKL.out]) (by rw [HKL.out]; exact HS.out w (Below.refl _ _))
        have HX : Hid ((xs ++ [Value.slice np kl nc]).length = (ks ++ [k]).length ∧ ∀ j (h : j < (ks ++ [k]).length), ∃ p c, (xs ++ [Value.slice np kl nc])[j]? = some (.slice p (ks ++ [k])[j].length c) ∧ Src w (.slice p (ks ++ [k])[j].length c) (ks ++ [k])[j]) := HXS
        have HO : Hid (wr.ownsRow w3.heap.size 23 1 (.slice lq m lc) m xs) := by rw [HM.out] at ho; exact ho
        clear HXS hxl hxs ho
        generalize hs1 : strB k = s1 at hx1 hlk
        have HS1 : Hid (strB k = s1) := hs1
        clear hs1
        go_wp2_with (first | with_reducible (refine stop_builtin .append ?_))
        refine Stop.go ?_
        refine law_append_b w3.heap.size (.slice lq m lc) m xs wr.heap.size np kl nc rfl (by rfl) (own_below HO.out (bel_alloc (Nat.le_refl _) _)) (range_last wr _ 23) (by rw [← HM.out]; exact HSM.out) (Nat.le_trans GJ.out.1.size (bel_alloc (Nat.le_refl _) _).size) ?_
        intro v2 w5 h5 h6
        have hba : Below wr.heap.size wr (wr.alloc (.cells #[.slice np kl nc] 23)) := bel_alloc (Nat.le_refl _) _
        have hb5 := below_append (own_below HO.out hba) h6 (Nat.le_trans GJ.out.1.size hba.size)
        have hsn := (GJ.out.2.1.only (Only.of_below hba []) (by simp)).grown (own_below HO.out hba) h6
        have hlr : LR w w5 w3.heap.size v2 (ks ++ [k]) := ⟨_, by rw [List.length_append, HM.out]; exact h5, HX.out.1, HX.out.2⟩
        have G5 : Hid (Below w3.heap.size w3 w5 ∧ Seen w5 sb j ss ∧ LR w w5 w3.heap.size v2 (ks ++ [k])) := ⟨(GJ.out.1.trans (bel_le hba GJ.out.1.size)).trans hb5, hsn, hlr⟩
        clear hba hb5 hsn hlr h5 h6 HX HO GJ hx1 hlk
        have hbw5 : Below w.heap.size w w5 := G3.out.1.bel.trans (bel_le G5.out.1 G3.out.1.bel.size)
        have hx1 := conv_src (w := w5) (HS.out w5 hbw5)
        obtain ⟨w6, hput, hs6, ho6⟩ := G5.out.2.1.put HKB.out.1 HKB.out.2.1 (by unfold maxLen; omega)
        have G6 : Hid (Below w3.heap.size w3 w6 ∧ Seen w6 sb (j + 1) (k :: ss) ∧ LR w w6 w3.heap.size v2 (ks ++ [k])) := ⟨G5.out.1.trans (ho6.below G5.out.1.size (by simpa using HSB.out)), hs6, G5.out.2.2.map ho6 G5.out.2.1.isMap⟩
        rw [HS1.out] at hx1 hput
        clear hs6 ho6 G5 hbw5
        obtain ⟨q2, c2, rfl⟩ := G6.out.2.2.slice
        have HM2 : Hid ((ks ++ [k]).length = m + 1) := by rw [List.length_append, HM.out]; rfl
        rw [HM2.out] at G6 ⊢
        go_wp2_with fail
        refine ⟨⟨j + 1, ks ++ [k], k :: ss, q2, m + 1, c2, by omega, by simp, rfl, HM2, G6, HK5⟩, ?_⟩
        simp only [intOf]
        omega
    · obtain rfl : j = n := by omega
      have j1 : ¬ (j : Int) < (j : Int) := by omega
      have GK : Hid ((Pl w wr pa ba [] ∧ Pl w wr pb bb []) ∧ LR w wr w3.heap.size (.slice lq m lc) ks) := ⟨⟨G3.out.1.step GJ.out.1, G3.out.2.step GJ.out.1⟩, GJ.out.2.2⟩
      have HKS : Hid (ks.Nodup ∧ ks.length ≤ 20 ∧ (∀ k ∈ ks, 1 ≤ k.length ∧ k.length ≤ 64)) := ⟨HK.out.1, Nat.le_trans HK.out.2.1 hn, HK.out.2.2.2⟩
      clear GJ HK HSB G3
      have hm20 : m ≤ 20 := by rw [← HM.out]; exact HKS.out.2.1
      have hmb : (m : Int) ≤ 20 := by omega
      have hm0 : (0 : Int) ≤ (m : Int) := by omega
      go_wp2_with fail
      generalize hS : w3.heap.size = S at *
      clear hS
      clear hlt j1 j0 hj
      rename_i wx
      go_loopw [60] (fun i wr => ∃ (i2 : Nat) (La Lb : Col), i2 ≤ m ∧ i = .int .i64 i2 ∧ Hid ((Pl w wr pa ba La ∧ Pl w wr pb bb Lb) ∧ LR w wr S (.slice lq m lc) ks) ∧ Hid (Has La (ks.take i2) ∧ La.length = i2 ∧ Has Lb ((List.range i2).map fun t => ks.getD ((t + tn % m) % m) [])) ∧ Hid (Lb.length ≤ i2)) (fun i _ => m - (intOf i).toNat)
      case atStart => exact ⟨0, [], [], by omega, rfl, GK.out, ⟨Has.nil, rfl, Has.nil⟩, Nat.le_refl _⟩
      case round =>
        obtain ⟨i2, La, Lb, hi2, rfl, GL, HH, HLB⟩ := hrel
        clear GK
        have i0 : (0 : Int) ≤ (i2 : Int) := by omega
        by_cases hlt : i2 < m
        · have i1 : (i2 : Int) < (m : Int) := by omega
          have hr0 : tn % m < m := Nat.mod_lt _ (by omega)
          have hz0 : (i2 + tn % m) % m < m := Nat.mod_lt _ (by omega)
          have t1 : (tn : Int).tmod (m : Int) = ((tn % m : Nat) : Int) := (Int.ofNat_tmod _ _).symm
          have t2 : ((i2 : Int) + ((tn % m : Nat) : Int)).tmod (m : Int) = (((i2 + tn % m) % m : Nat) : Int) := by
            rw [← Int.natCast_add]
            exact (Int.ofNat_tmod _ _).symm
          have HZ : Hid ((List.range (i2 + 1)).map (fun t => ks.getD ((t + tn % m) % m) []) = (List.range i2).map (fun t => ks.getD ((t + tn % m) % m) []) ++ [ks.getD ((i2 + tn % m) % m) []]) := by
            rw [List.range_succ, List.map_append]
            rfl
          have ja : i2 < ks.length := by rw [HM.out]; exact hlt
          have jb : (i2 + tn % m) % m < ks.length := by rw [HM.out]; exact hz0
          have HNX : Hid (∀ h1 : (∀ x ∈ ks[i2], x < 256), Has (ins ks[i2] (ks[i2] ++ [118]) La) (ks.take (i2 + 1)) ∧ (ins ks[i2] (ks[i2] ++ [118]) La).length = i2 + 1) := fun h1 => HH.out.1.next HH.out.2.1 HKS.out.1 ja h1 (HKS.out.2.2 _ (List.getElem_mem ja)).2
          have HNY : Hid (∀ h1 : (∀ x ∈ ks[(i2 + tn % m) % m], x < 256), Has (ins ks[(i2 + tn % m) % m] (ks[(i2 + tn % m) % m] ++ [118]) Lb) ((List.range (i2 + 1)).map (fun t => ks.getD ((t + tn % m) % m) []))) := fun h1 => by
            have e : ks.getD ((i2 + tn % m) % m) [] = ks[(i2 + tn % m) % m] := by rw [List.getD_eq_getElem?_getD, List.getElem?_eq_getElem jb]; rfl
            rw [HZ.out, e]
            exact HH.out.2.2.put h1 (HKS.out.2.2 _ (List.getElem_mem jb)).2
          have h64a := HKS.out.2.2 _ (List.getElem_mem ja)
          have h64b := HKS.out.2.2 _ (List.getElem_mem jb)
          obtain ⟨g, c', p1, cx, e1, d1, s1⟩ := GL.out.2.at ja
          obtain ⟨g', c'', p2, cy, e2, d2, s2⟩ := GL.out.2.at jb
          simp only [Value.slice.injEq] at e1 e2
          obtain ⟨rfl, -, -⟩ := e1
          obtain ⟨eg, -, -⟩ := e2
          simp only [Option.some.injEq, Addr.mk.injEq, and_true] at eg
          subst eg
          generalize hka : ks[i2] = ka at *
          generalize hkb : ks[(i2 + tn % m) % m] = kb at *
          have HSA : Hid (Src w (.slice p1 ka.length cx) ka ∧ 1 ≤ ka.length ∧ ka.length ≤ 64) := ⟨s1, h64a⟩
          have HSB : Hid (Src w (.slice p2 kb.length cy) kb ∧ 1 ≤ kb.length ∧ kb.length ≤ 64) := ⟨s2, h64b⟩
          clear s1 s2 hka hkb ja jb HZ h64a h64b
          generalize hr : tn % m = r at *
          clear hr
          generalize hz : (i2 + r) % m = z at *
          clear hz
          have z0 : (0 : Int) ≤ (z : Int) := by omega
          have z1 : (z : Int) < (m : Int) := by omega
          have r0 : (0 : Int) ≤ (r : Int) := by omega
          have r1 : (r : Int) < (m : Int) := by omega
          have d1' : wr.cell? ⟨g, 0 + i2, none⟩ = some (.slice p1 ka.length cx) := by rw [Nat.zero_add]; exact d1
          have d2' : wr.cell? ⟨g, 0 + z, none⟩ = some (.slice p2 kb.length cy) := by rw [Nat.zero_add]; exact d2
          obtain ⟨la, HLA⟩ : ∃ la, Hid (ka.length = la) := ⟨_, rfl⟩
          obtain ⟨lb, HLB2⟩ : ∃ lb, Hid (kb.length = lb) := ⟨_, rfl⟩
          rw [HLA.out] at d1 d1' HSA
          rw [HLB2.out] at d2 d2' HSB
          have m1 : ¬ (m : Int) = 0 := by omega
          have m2 : ((m : Int) == 0) = false := by rw [beq_eq_false_iff_ne]; omega
          go_wp2_with fail
          go_region
          have HBW : Hid (Below w.heap.size w wr.drew) := GL.out.1.1.bel.trans (C8.below_drewN 1 wr _)
          have hdw : Below wr.heap.size wr wr.drew := C8.below_drewN 1 wr _
          have GD : Hid ((Pl w wr.drew pa ba La ∧ Pl w wr.drew pb bb Lb) ∧ LR w wr.drew S (.slice (some ⟨g, 0, none⟩) m lc) ks) := ⟨⟨GL.out.1.1.step hdw, GL.out.1.2.step hdw⟩, GL.out.2.below hdw⟩
          generalize wr.drew = wd at *
          clear hdw GL d1 d2 d1' d2' t1 t2
          have hx1 := conv_src (w := wd) (HSA.out.1.below HBW.out)
          have hsz : (strB ka).size = la := by rw [strB_size, HLA.out]
          have hsz2 : (strB kb).size = lb := by rw [strB_size, HLB2.out]
          have la64 : la ≤ 64 := HSA.out.2.2
          have lb64 : lb ≤ 64 := HSB.out.2.2
          have hla : ((strB ka).size : Int) ≤ 64 := by rw [hsz]; omega
          have hlb : ((strB kb).size : Int) ≤ 64 := by rw [hsz2]; omega
          go_wp2_with fail
          have HPA : Hid (right (putE ka (ka ++ [118])) = true) := put_right (by rw [HLA.out]; exact HSA.out.2.1) (by rw [HLA.out]; exact la64) (by rw [List.length_append, HLA.out]; simp; omega)
          have HPB : Hid (right (putE kb (kb ++ [118])) = true) := put_right (by rw [HLB2.out]; exact HSB.out.2.1) (by rw [HLB2.out]; exact lb64) (by rw [List.length_append, HLB2.out]; simp; omega)
          have HVA : Hid (∀ x ∈ ka ++ [118], x < 256) := fun x hx => (List.mem_append.1 hx).elim (HSA.out.1.small x) (fun h => by rw [List.mem_singleton.1 h]; omega)
          have HVB : Hid (∀ x ∈ kb ++ [118], x < 256) := fun x hx => (List.mem_append.1 hx).elim (HSB.out.1.small x) (fun h => by rw [List.mem_singleton.1 h]; omega)
          have HF : Hid (La.length < 1000000 ∧ Lb.length < 1000000) := ⟨by have := HH.out.2.1; omega, by have := HLB.out; omega⟩
          rw [strB_v]
          refine (put_any wd ka (ka ++ [118]) HSA.out.1.small HVA.out (by rw [HLA.out]; omega) (by rw [List.length_append, HLA.out]; simp; omega)).mono ?_
          rintro e w5 ⟨va, rfl, hva, hb5⟩
          have G5 : Hid ((((Pl w w5 pa ba La ∧ Pl w w5 pb bb Lb) ∧ LR w w5 S (.slice (some ⟨g, 0, none⟩) m lc) ks)) ∧ EnIs w5 va (putE ka (ka ++ [118]))) := ⟨⟨⟨GD.out.1.1.step hb5, GD.out.1.2.step hb5⟩, GD.out.2.below hb5⟩, hva⟩
          clear hva hb5 hx1 GD HBW
          go_wp2_with fail
          refine (apply_eq G5.out.1.1.1.dc G5.out.2 HF.out.1 (after_put La HPA.out rfl)).mono ?_
          rintro e w6 ⟨rfl, hd6, ho6⟩
          have G6 : Hid ((Pl w w6 pa ba (ins ka (ka ++ [118]) La) ∧ Pl w w6 pb bb Lb) ∧ LR w w6 S (.slice (some ⟨g, 0, none⟩) m lc) ks) := ⟨⟨G5.out.1.1.1.turn hd6 ho6, G5.out.1.1.2.beside G5.out.1.1.1 ho6 HNE.out.2.2.1 HNE.out.2.2.2⟩, G5.out.1.2.map ho6 G5.out.1.1.1.dc.isMap⟩
          clear hd6 ho6 G5
          have hx1 := conv_src (w := w6) (HSB.out.1.below G6.out.1.1.bel)
          go_wp2_with fail
          rw [strB_v]
          refine (put_any w6 kb (kb ++ [118]) HSB.out.1.small HVB.out (by rw [HLB2.out]; omega) (by rw [List.length_append, HLB2.out]; simp; omega)).mono ?_
          rintro e w7 ⟨vb, rfl, hvb, hb7⟩
          have G7 : Hid ((((Pl w w7 pa ba (ins ka (ka ++ [118]) La) ∧ Pl w w7 pb bb Lb) ∧ LR w w7 S (.slice (some ⟨g, 0, none⟩) m lc) ks)) ∧ EnIs w7 vb (putE kb (kb ++ [118]))) := ⟨⟨⟨G6.out.1.1.step hb7, G6.out.1.2.step hb7⟩, G6.out.2.below hb7⟩, hvb⟩
          clear hvb hb7 hx1 G6
          go_wp2_with fail
          refine (apply_eq G7.out.1.1.2.dc G7.out.2 HF.out.2 (after_put Lb HPB.out rfl)).mono ?_
          rintro e w8 ⟨rfl, hd8, ho8⟩
          have G8 : Hid ((Pl w w8 pa ba (ins ka (ka ++ [118]) La) ∧ Pl w w8 pb bb (ins kb (kb ++ [118]) Lb)) ∧ LR w w8 S (.slice (some ⟨g, 0, none⟩) m lc) ks) := ⟨⟨G7.out.1.1.1.beside G7.out.1.1.2 ho8 HNE.out.1 HNE.out.2.1, G7.out.1.1.2.turn hd8 ho8⟩, G7.out.1.2.map ho8 G7.out.1.1.2.dc.isMap⟩
          have hla2 := HNX.out HSA.out.1.small
          have hlb2 := HNY.out HSB.out.1.small
          have hlb3 := length_ins_le kb (kb ++ [118]) Lb
          have HH8 : Hid (Has (ins ka (ka ++ [118]) La) (ks.take (i2 + 1)) ∧ (ins ka (ka ++ [118]) La).length = i2 + 1 ∧ Has (ins kb (kb ++ [118]) Lb) ((List.range (i2 + 1)).map fun t => ks.getD ((t + r) % m) [])) := ⟨hla2.1, hla2.2, hlb2⟩
          have HL8 : Hid ((ins kb (kb ++ [118]) Lb).length ≤ i2 + 1) := Nat.le_trans hlb3 (Nat.succ_le_succ HLB.out)
          clear hd8 ho8 G7 hla2 hlb2 hlb3 HNX HNY
          generalize ins ka (ka ++ [118]) La = Ma at *
          generalize ins kb (kb ++ [118]) Lb = Mb at *
          go_wp2_with fail
          refine ⟨⟨i2 + 1, Ma, Mb, by omega, by simp, G8, HH8, HL8⟩, ?_⟩
          simp only [intOf]
          omega
        · obtain rfl : i2 = m := by omega
          have i1 : ¬ (i2 : Int) < (i2 : Int) := by omega
          have HEQ : Hid (La = Lb) := by
            refine HH.out.1.same HH.out.2.2 (fun k => ?_)
            rw [List.take_of_length_le (by rw [HM.out]; exact Nat.le_refl _), List.mem_map]
            constructor
            · intro hk
              obtain ⟨x, hx, e⟩ := List.mem_iff_getElem.1 hk
              rw [HM.out] at hx
              obtain ⟨t, ht, e2⟩ := turned (r := tn) (by omega) x hx
              refine ⟨t, List.mem_range.2 ht, ?_⟩
              rw [e2, List.getD_eq_getElem?_getD, List.getElem?_eq_getElem (by rw [HM.out]; exact hx), ← e]
              rfl
            · rintro ⟨t, ht, e⟩
              have ht' := List.mem_range.1 ht
              have hx : (t + tn % i2) % i2 < ks.length := by rw [HM.out]; exact Nat.mod_lt _ (by omega)
              rw [List.getD_eq_getElem?_getD, List.getElem?_eq_getElem hx] at e
              rw [← e]
              exact List.getElem_mem hx
          have HLN : Hid (La.length = i2) := HH.out.2.1
          have HGET : Hid (∀ (x : Nat) (hx : x < La.length), La[x].2 = La[x].1 ++ [118]) := fun x hx => by
            have h1 := get_at GL.out.1.1.dc.ok hx
            rw [HH.out.1.2.2] at h1
            split at h1
            · exact (Option.some.inj h1).symm
            · cases h1
          have HUP : Hid (∀ (x : Nat) (hx : x + 1 < La.length), u (La[x]'(by omega)).1 < u La[x + 1].1) := fun x hx => List.pairwise_iff_getElem.1 GL.out.1.1.dc.ok.2 x (x + 1) (by omega) hx (by omega)
          go_wp2_with fail
          refine (All_any wr pa ba La GL.out.1.1.dc).mono ?_
          intro e w5 hx
          obtain ⟨q5, c5', rfl, hr5, hb5⟩ := hx.row
          clear hx
          have G5 : Hid ((Pl w w5 pa ba La ∧ Pl w w5 pb bb Lb) ∧ DkRow w5 q5 La) := ⟨⟨GL.out.1.1.step hb5, GL.out.1.2.step hb5⟩, hr5⟩
          clear hb5 hr5 GL HH
          rw [HLN.out]
          go_wp2_with fail
          clear hlt i1 i0 hi2
          rename_i wx2 _
          go_loopw [104] (fun i wr => ∃ (i3 : Nat), i3 ≤ i2 ∧ i = .int .i64 i3 ∧ Hid ((Pl w wr pa ba La ∧ Pl w wr pb bb Lb) ∧ DkRow wr q5 La)) (fun i _ => i2 - (intOf i).toNat)
          case atStart => exact ⟨0, by omega, rfl, G5.out⟩
          case round =>
            obtain ⟨i3, hi3, rfl, GL⟩ := hrel
            clear G5
            have i0 : (0 : Int) ≤ (i3 : Int) := by omega
            by_cases hlt : i3 < i2
            · have i1 : (i3 : Int) < (i2 : Int) := by omega
              have ja : i3 < La.length := by rw [HLN.out]; exact hlt
              obtain ⟨b, o, np, nc, vp, vc, hrfl, k2, k3, k4, k5, k6⟩ := GL.out.2 i3 ja
              subst hrfl
              have HV : Hid (La[i3].2 = La[i3].1 ++ [118]) := HGET.out i3 ja
              have HGT : Hid (get La[i3].1 La = some La[i3].2) := get_at GL.out.1.1.dc.ok ja
              have hpk := GL.out.1.1.dc.ok.1 _ (List.getElem_mem ja)
              have HPK : Hid (La[i3].1.length ≤ 64) := hpk.2.2.1
              have HS5 : Hid (Src wr (.slice np La[i3].1.length nc) La[i3].1) := k5
              have HPV : Hid (∀ x, i3 = x + 1 → ∃ (np' : Option Addr) (nc' : Nat) (k' : List Nat), wr.cell? ⟨b, o + x * 2, none⟩ = some (.slice np' k'.length nc') ∧ Src wr (.slice np' k'.length nc') k' ∧ u k' < u La[i3].1) := by
                rintro x rfl
                obtain ⟨b', o', np', nc', vp', vc', h1, h2, h3, h4, h5, h6⟩ := GL.out.2 x (by omega)
                simp only [Option.some.injEq, Addr.mk.injEq, and_true] at h1
                obtain ⟨rfl, rfl⟩ := h1
                exact ⟨np', nc', _, h3, h5, HUP.out x ja⟩
              clear hpk k5 k6
              generalize La[i3] = pp at *
              obtain ⟨k, v⟩ := pp
              simp only at k3 k4 HV HGT HPK HS5 HPV
              obtain ⟨l1, HL1⟩ : ∃ l1, Hid (k.length = l1) := ⟨_, rfl⟩
              obtain ⟨l2, HL2⟩ : ∃ l2, Hid (v.length = l2) := ⟨_, rfl⟩
              rw [HL1.out] at k3 HS5 HPK
              rw [HL2.out] at k4
              clear ja
              obtain ⟨wa, HWA⟩ : ∃ wa, Hid (wr.alloc (.cells #[.slice np l1 nc, .slice vp l2 vc] 55) = wa) := ⟨_, rfl⟩
              have hxa : Below wr.heap.size wr wa := by rw [← HWA.out]; exact bel_alloc (Nat.le_refl _) _
              have GA : Hid ((((Pl w wa pa ba La ∧ Pl w wa pb bb Lb) ∧ DkRow wa (some ⟨b, o, none⟩) La) ∧ Src wa (.slice np l1 nc) k) ∧ wa.heap[wr.heap.size]? = some (.cells #[.slice np l1 nc, .slice vp l2 vc] 55 (0, 0)) ∧ Below wr.heap.size wr wa) := ⟨⟨⟨⟨GL.out.1.1.step hxa, GL.out.1.2.step hxa⟩, GL.out.2.below hxa⟩, HS5.out.below hxa⟩, by rw [← HWA.out]; exact heap_alloc_new wr _, hxa⟩
              clear hxa
              have hda : wa.cell? ⟨wr.heap.size, 0, none⟩ = some (.slice np l1 nc) := by rw [cell_of_row _ _ _ _ _ _ GA.out.2.1]; rfl
              go_wp2_with fail
              rw [HWA.out]
              obtain ⟨gd, HGD⟩ : ∃ gd, Hid (wr.heap.size = gd) := ⟨_, rfl⟩
              rw [HGD.out] at hda ⊢
              have GA2 : Hid ((((Pl w wa pa ba La ∧ Pl w wa pb bb Lb) ∧ DkRow wa (some ⟨b, o, none⟩) La) ∧ Src wa (.slice np l1 nc) k) ∧ gd < wa.heap.size) := ⟨GA.out.1, by rw [← HGD.out]; exact (Array.getElem?_eq_some_iff.1 GA.out.2.1).1⟩
              have HPV2 : Hid (∀ x, i3 = x + 1 → ∃ (np' : Option Addr) (nc' : Nat) (k' : List Nat), wa.cell? ⟨b, o + x * 2, none⟩ = some (.slice np' k'.length nc') ∧ Src wa (.slice np' k'.length nc') k' ∧ u k' < u k) := fun x hx => by
                obtain ⟨np', nc', k', h1, h2, h3⟩ := HPV.out x hx
                exact ⟨np', nc', k', (GA.out.2.2.cell (p := ⟨b, o + x * 2, none⟩) (World.block_lt_of_cell? wr _ h1)).trans h1, h2.below GA.out.2.2, h3⟩
              clear HWA HGD HPV GA k3 k4 GL HS5 k2
              go_wp2_with fail
              refine (Get_any wa pa ba La np l1 nc k GA2.out.1.1.1.1.dc GA2.out.1.2 (by rw [HL1.out]; exact Nat.le_trans HPK.out (by unfold maxLen; omega))).mono ?_
              rintro e w6 ⟨gv, rfl, hgv, hb6⟩
              rw [HGT.out] at hgv ⊢
              simp only [Option.isSome_some, Option.getD_some] at hgv ⊢
              obtain ⟨gp, gc, rfl, -⟩ := hgv.slice
              rw [HL2.out] at hgv ⊢
              have G6 : Hid (((Pl w w6 pa ba La ∧ Pl w w6 pb bb Lb) ∧ DkRow w6 (some ⟨b, o, none⟩) La) ∧ Src w6 (.slice np l1 nc) k ∧ Src w6 (.slice gp l2 gc) v) := ⟨⟨⟨GA2.out.1.1.1.1.step hb6, GA2.out.1.1.1.2.step hb6⟩, GA2.out.1.1.2.below hb6⟩, GA2.out.1.2.below hb6, hgv⟩
              have hd6 := (hb6.cell (p := ⟨gd, 0, none⟩) GA2.out.2).trans hda
              have HPV6 : Hid (∀ x, i3 = x + 1 → ∃ (np' : Option Addr) (nc' : Nat) (k' : List Nat), w6.cell? ⟨b, o + x * 2, none⟩ = some (.slice np' k'.length nc') ∧ Src w6 (.slice np' k'.length nc') k' ∧ u k' < u k) := fun x hx => by
                obtain ⟨np', nc', k', h1, h2, h3⟩ := HPV2.out x hx
                exact ⟨np', nc', k', (hb6.cell (p := ⟨b, o + x * 2, none⟩) (World.block_lt_of_cell? wa _ h1)).trans h1, h2.below hb6, h3⟩
              clear hgv hb6 HPV2 GA2 hda
              have hc1 := conv_src (w := w6.drew) (show Src w6 _ _ from G6.out.2.1)
              have hc2 := conv_src (w := w6.drew) (show Src w6 _ _ from G6.out.2.2)
              have hq1 : ((strB v).toList == (strB k ++ { data := #[118] }).toList) = true := by rw [strB_v, HV.out]; simp
              have hsz : ((strB k).size : Int) ≤ 64 := by rw [strB_size, HL1.out]; have := HPK.out; omega
              have hdw : Below w6.heap.size w6 w6.drew := C8.below_drewN 1 w6 _
              have G7 : Hid ((Pl w w6.drew pa ba La ∧ Pl w w6.drew pb bb Lb) ∧ DkRow w6.drew (some ⟨b, o, none⟩) La) := ⟨⟨G6.out.1.1.1.step hdw, G6.out.1.1.2.step hdw⟩, G6.out.1.2.below hdw⟩
              clear hdw G6
              by_cases h0 : i3 = 0
              · subst h0
                clear HPV6
                generalize strB v = sv at *
                generalize strB k = sk at *
                go_wp2_with fail
                go_region
                all_goals go_wp2_with fail
                all_goals refine ⟨⟨1, by omega, by simp, G7⟩, ?_⟩
                all_goals simp only [intOf]
                all_goals omega
              · obtain ⟨x, rfl⟩ : ∃ x, i3 = x + 1 := ⟨i3 - 1, by omega⟩
                obtain ⟨np', nc', k', hd7, hs7, hlt7⟩ := HPV6.out x rfl
                have hc3 := conv_src (w := w6.drew) (show Src w6 _ _ from hs7)
                have hls := less_u k' k
                rw [decide_eq_true hlt7] at hls
                have y0 : (0 : Int) < ((x + 1 : Nat) : Int) := by omega
                have y1 : (0 : Int) ≤ ((x + 1 : Nat) : Int) - 1 := by omega
                have y2 : ((x + 1 : Nat) : Int) - 1 < (i2 : Int) := by omega
                have y3 : (((x + 1 : Nat) : Int) - 1).toNat = x := by omega
                clear hs7 hlt7 HPV6
                generalize strB v = sv at *
                generalize strB k = sk at *
                generalize strB k' = sk' at *
                generalize k'.length = l3 at *
                go_wp2_with fail
                go_region
                all_goals go_wp2_with fail
                all_goals refine ⟨⟨x + 1 + 1, by omega, by simp, G7⟩, ?_⟩
                all_goals simp only [intOf]
                all_goals omega
            · obtain rfl : i3 = i2 := by omega
              have i1 : ¬ (i3 : Int) < (i3 : Int) := by omega
              have hb0 : ((i3 : Int) == (i3 : Int)) = true := by simp
              go_wp2_with fail
              refine (same_eq wr pa ba pb bb La Lb GL.out.1.1.dc GL.out.1.2.dc (s := true) (decide_eq_true HEQ.out)).mono ?_
              rintro e w6 ⟨rfl, hb6⟩
              have HB6 : Hid (Below w.heap.size w w6) := GL.out.1.1.bel.trans (bel_le hb6 GL.out.1.1.bel.size)
              clear hb6
              go_wp2_with fail
              go_ret
              exact ⟨rfl, HB6.out⟩
theorem order_any (w : World) (a1 : Option Addr) (n c1 : Nat) (t : Int) (h1 : ∃ vs : List (List Nat), vs.length = n ∧ BysRow w a1 vs) :
    Calls Try.prog 6 #[.slice a1 n c1, .int .i64 t] w fun e w' => e = .returned (.bool true) ∧ Below w.heap.size w w' := by
  obtain ⟨ns, hl, hr⟩ := h1
  by_cases g1 : 20 < n
  · exact or_many w a1 n c1 t g1
  by_cases g2 : t < 0
  · exact or_neg w a1 n c1 t (by omega) g2
  exact or_main w a1 n c1 t ns hl hr (by omega) t.toNat (by omega)
end Go.Proofs.Ytigfiopmochliaa.D11
