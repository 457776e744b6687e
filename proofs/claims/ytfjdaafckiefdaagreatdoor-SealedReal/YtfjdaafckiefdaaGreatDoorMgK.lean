/- The contract of Code of a suite of signs. -/
import Derived.Test.YtfjdaafckiefdaaGreatDoorMgT
namespace Go.Proofs.YtfjdaafckiefdaaGreatDoor.S7
open Go.RowKit
set_option maxHeartbeats 1000000 in
theorem Code_one (k l : List Nat) (g o c : Nat) (kv v : Value) (p q m x : Nat) (L : List Su.Thing) (w : World) (h : SuIs w p q m x L) (hk : Src w kv k) (hc : w.cell? ⟨g, o, none⟩ = some v) (hv : Src w v l) (hl : l.length ≤ 50000) (hL : L.length < 1000000) :
    Calls Tryz.prog 106 #[.pointer (some ⟨p, 0, none⟩), kv, .slice (some ⟨g, o, none⟩) 1 c] w fun e w' => ∃ v, e = .returned v ∧ w'.ownsRow w.heap.size 5 1 v 32 (ints .u8 (Su.sign 77 (Su.num L 77 k l))) ∧ SuIs w' p q m x (Su.add L 77 k l) ∧ Only [p, m] w w' := by
  have HJ : Hid (∀ n, Calls Tryz.prog 128 #[.slice (some ⟨g, o, none⟩) 1 c] (w.drewN n) fun e w' => e = .returned (.string (strB l)) ∧ Below w.heap.size w w') := fun n =>
    (joined_one g o c v (w.drewN n) hc (hv.below (below_drewN n _ _)) hl).mono (fun _ _ ⟨h1, h2⟩ => ⟨h1, (below_drewN n w w.heap.size).trans h2⟩)
  have HK : Hid (∀ w1, Below w.heap.size w w1 → (convert 22 9 kv).run Tryz.prog w1 = .ok (.string (strB k)) w1) := fun w1 hb => conv_src (hk.below hb)
  have HG : Hid (∀ w1, Below w.heap.size w w1 → Calls Tryz.prog 127 #[.pointer (some ⟨p, 0, none⟩), thingV 77 k l] w1 fun e w' => ∃ v, e = .returned v ∧ w'.ownsRow w1.heap.size 5 1 v 32 (ints .u8 (Su.sign 77 (Su.num L 77 k l))) ∧ SuIs w' p q m x (Su.add L 77 k l) ∧ Only [p, m] w1 w') := fun w1 hb => signOf_any 77 k l p q m x L w1 (h.below hb) (.inr rfl) hk.small hv.small hL
  have hcv := HK.out w.drew (below_drewN 1 _ _)
  obtain ⟨_, _, c2, _⟩ := cells3 h.box
  obtain ⟨pk, ck, rfl, _⟩ := hk.slice
  clear h hc hv hl hk
  generalize k.length = kl at *
  go_enter Tryz.func106, Tryz.ntmps106
  go_wp2_with fail
  go_region_with ((first
    | (go_at_call 128; refine (HJ.out 1).mono ?_; rintro e w1 ⟨rfl, hb1⟩; have hcv1 := HK.out w1 hb1; have HB1 : Hid (Below w.heap.size w w1) := hb1; clear hb1)
    | (go_at_call 127; refine (HG.out _ HB1.out).mono ?_; rintro e w2 ⟨u, rfl, ho, hs, hn⟩; have HO : Hid (w2.ownsRow w.heap.size 5 1 u 32 (ints .u8 (Su.sign 77 (Su.num L 77 k l)))) := own_older ho HB1.out.size; have HS : Hid (SuIs w2 p q m x (Su.add L 77 k l)) := hs; have HN : Hid (Only [p, m] w w2) := (Only.of_below HB1.out _).trans hn; clear ho hs hn)))
  all_goals
    go_wp2_with fail
    go_ret
    exact ⟨_, rfl, HO.out, HS.out, HN.out⟩
end Go.Proofs.YtfjdaafckiefdaaGreatDoor.S7
/- The contract of Seal of a suite of signs. -/
namespace Go.Proofs.YtfjdaafckiefdaaGreatDoor.S7
open Go.RowKit
/-- What a box leaves in a suite. -/
theorem SuIs.boxed {w2 w4 : World} {p q m x : Nat} {L : List Su.Thing} {t : Su.Thing} (hne : p ≠ q ∧ p ≠ m ∧ p ≠ x ∧ q ≠ m ∧ q ≠ x ∧ m ≠ x) (hf : ∀ u ∈ L, Fine u) (ht : Fine t) (h66 : t.1 = 66)
    (hp : w2.heap[p]? = some (.cells #[.slice none 0 0, .int .i64 ((L.length : Int) + 1), .pointer (some ⟨q, 0, none⟩)] 93 (0, 0))) (hq : w2.heap[q]? = some (.cells #[.map (some m), .map (some x)] 91 (0, 0)))
    (hm : MapIs w2 m (S7.nums 0 L)) (hx : MapIs w4 x (S7.boxes 0 L ++ [(.int .i64 ((L.length : Int) + 1), contentV t)])) (hg : w2.grownBy w4 (some x)) : SuIs w4 p q m x (L ++ [t]) := by
  have lp := (Array.getElem?_eq_some_iff.1 hp).1
  have lq := (Array.getElem?_eq_some_iff.1 hq).1
  refine ⟨?_, (hg.block q lq (fun e => hne.2.2.2.2.1 (Option.some.inj e))).trans hq, ?_, ?_, hne, ?_⟩
  · rw [hg.block p lp (fun e => hne.2.2.1 (Option.some.inj e)), hp]; simp
  · rw [nums_append]
    have e1 : S7.nums (0 + L.length) [t] = [] := by
      simp only [S7.nums]
      rw [if_neg (by omega)]
    rw [e1, List.append_nil]
    exact hm.kept (hg.block m hm.lt (fun e => hne.2.2.2.2.2 (Option.some.inj e)))
  · rw [boxes_append]
    have e1 : S7.boxes (0 + L.length) [t] = [(.int .i64 ((L.length : Int) + 1), contentV t)] := by
      simp only [S7.boxes]
      rw [if_pos h66]
      simp
    rw [e1]
    exact hx
  · intro u hu
    rcases List.mem_append.1 hu with h | h
    · exact hf u h
    · rw [List.mem_singleton.1 h]; exact ht
set_option maxHeartbeats 4000000 in
theorem Seal_ok (k n o t : List Nat) (kv nv ov tv : Value) (p q m x : Nat) (L : List Su.Thing) (w : World) (h : SuIs w p q m x L) (hk : ∀ w1, Only [p, x] w w1 → Src w1 kv k) (hn : ∀ w1, Only [p, x] w w1 → Src w1 nv n) (ho : ∀ w1, Only [p, x] w w1 → Src w1 ov o) (ht : ∀ w1, Only [p, x] w w1 → Src w1 tv t)
    (lk : k.length = 32) (ln : n.length = 12) (lt : t.length ≤ 50000) (hL : L.length < 1000000) :
    Calls Tryz.prog 30 #[.pointer (some ⟨p, 0, none⟩), kv, nv, ov, tv] w fun e w' => ∃ v, e = .returned (.tuple #[v, .int .i64 0]) ∧ w'.ownsRow w.heap.size 5 1 v (t.length + 16) (ints .u8 (Su.box (L.length + 1) t.length)) ∧ SuIs w' p q m x (L ++ [(66, k, n, o, t)]) ∧ Only [p, x] w w' := by
  have HSZ : Hid (∀ w1, Calls Tryz.prog 75 #[kv, nv] w1 fun e w' => e = .returned (.bool true) ∧ w' = w1) := fun w1 => by
    obtain ⟨pk, ck, rfl, _⟩ := (hk w (Only.refl _ _)).slice
    obtain ⟨pn, cn, rfl, _⟩ := (hn w (Only.refl _ _)).slice
    rw [lk, ln]
    exact sizes_ok _ _ _ _ w1
  have HBX : Hid (∀ w1 : World, Calls Tryz.prog 77 #[.int .i64 ((L.length : Int) + 1), .int .i64 (t.length : Int)] w1 fun e w' => ∃ v, e = .returned v ∧ w'.ownsRow w1.heap.size 5 1 v (t.length + 16) (ints .u8 (Su.box (L.length + 1) t.length)) ∧ Below w1.heap.size w1 w') := fun w1 => boxOf_any (L.length + 1) t.length w1 lt (by omega)
  have HH : Hid (SuIs w p q m x L) := h
  have HK : Hid (∀ w1, Only [p, x] w w1 → Src w1 kv k) := hk
  have HN : Hid (∀ w1, Only [p, x] w w1 → Src w1 nv n) := hn
  have HO : Hid (∀ w1, Only [p, x] w w1 → Src w1 ov o) := ho
  have HT : Hid (∀ w1, Only [p, x] w w1 → Src w1 tv t) := ht
  have HF : Hid (Fine (66, k, n, o, t)) := ⟨(hk w (Only.refl _ _)).small, (hn w (Only.refl _ _)).small, (ho w (Only.refl _ _)).small, (ht w (Only.refl _ _)).small⟩
  have HL : Hid (L.length < 1000000) := hL
  obtain ⟨_, _, c2, _⟩ := cells3 h.box
  obtain ⟨pk, ck, rfl, _⟩ := (hk w (Only.refl _ _)).slice
  obtain ⟨pn, cn, rfl, _⟩ := (hn w (Only.refl _ _)).slice
  obtain ⟨po, co, rfl, _⟩ := (ho w (Only.refl _ _)).slice
  obtain ⟨pt, ct, rfl, _⟩ := (ht w (Only.refl _ _)).slice
  clear h hk hn ho ht lk ln lt hL
  generalize k.length = kl at *
  generalize n.length = nl at *
  generalize o.length = ol at *
  generalize t.length = tl at *
  go_enter Tryz.func30, Tryz.ntmps30
  go_wp2_with fail
  refine (HSZ.out _).mono ?_
  rintro e w1 ⟨rfl, rfl⟩
  clear HSZ
  go_wp2_with fail
  refine (next_any p L.length _ _ w1 HH.out.box (by have := HL.out; omega)).mono ?_
  rintro e w2 ⟨rfl, hw2⟩
  have h2 : Only [p, x] w1 w2 := by rw [hw2]; exact Only.setCell _ _ _ (by simp)
  have hp2 : w2.heap[p]? = some (.cells #[.slice none 0 0, .int .i64 ((L.length : Int) + 1), .pointer (some ⟨q, 0, none⟩)] 93 (0, 0)) := by
    rw [hw2]; exact heap_setCell_same w1 p 1 _ 93 _ HH.out.box
  have ho2 : ∀ b, b ≠ p → w2.heap[b]? = w1.heap[b]? := fun b hb => by rw [hw2]; exact Below.heap_setCell _ _ _ _ (fun e => hb e)
  have hne := HH.out.ne
  have hq2 : w2.heap[q]? = some (.cells #[.map (some m), .map (some x)] 91 (0, 0)) := (ho2 q (Ne.symm hne.1)).trans HH.out.signs
  have hm2 : MapIs w2 m (nums 0 L) := HH.out.nums.kept (ho2 m (Ne.symm hne.2.1))
  have hx2 : MapIs w2 x (boxes 0 L) := HH.out.boxes.kept (ho2 x (Ne.symm hne.2.2.1))
  obtain ⟨_, _, d2, _⟩ := cells3 hp2
  obtain ⟨d0, d1⟩ := cells2 hq2
  have hcv := conv_src (HT.out w2.drew (h2.trans (Only.drewN 1 _ _)))
  have HLK : Hid (Calls Tryz.prog 76 #[.slice pk kl ck, .slice pn nl cn, .slice po ol co] w2.drew fun e w' => e = .returned (.agg (lockV k n o)) ∧ Below w2.heap.size w2 w') :=
    (lockOf_any _ _ _ w2.drew (HK.out _ (h2.trans (Only.drewN 1 _ _))) (HN.out _ (h2.trans (Only.drewN 1 _ _))) (HO.out _ (h2.trans (Only.drewN 1 _ _)))).mono (fun _ _ ⟨h1, h3⟩ => ⟨h1, (below_drewN 1 w2 w2.heap.size).trans h3⟩)
  have HAF : Hid (∀ w3, Below w2.heap.size w2 w3 → (convert 22 9 (.slice pt tl ct)).run Tryz.prog w3 = .ok (.string (strB t)) w3 ∧ w3.cell? ⟨p, 2, none⟩ = some (.pointer (some ⟨q, 0, none⟩)) ∧ w3.cell? ⟨q, 1, none⟩ = some (.map (some x)) ∧ ∃ w4, (Instr.mapUpdate 89 (.map (some x)) (.int .i64 ((L.length : Int) + 1)) (contentV (66, k, n, o, t))).run Tryz.prog w3 = .ok () w4 ∧ SuIs w4 p q m x (L ++ [(66, k, n, o, t)]) ∧ Only [p, x] w1 w4) := fun w3 hb => by
    have hp3 := (hb.block p (Array.getElem?_eq_some_iff.1 hp2).1).trans hp2
    have hq3 := (hb.block q (Array.getElem?_eq_some_iff.1 hq2).1).trans hq2
    have hm3 := hm2.kept (hb.block m hm2.lt)
    have hx3 := hx2.kept (hb.block x hx2.lt)
    have hn3 := h2.trans (Only.of_below hb [p, x])
    obtain ⟨_, _, e2, _⟩ := cells3 hp3
    obtain ⟨_, f1⟩ := cells2 hq3
    obtain ⟨w4, hput, hm4, hg4⟩ := put_boxes (w := w3) (N := (L.length : Int) + 1) (val := contentV (66, k, n, o, t)) hx3 (boxAt_new L)
    exact ⟨conv_src (HT.out w3 hn3), e2, f1, w4, hput, SuIs.boxed hne HH.out.fine HF.out rfl hp3 hq3 hm3 hm4 hg4, hn3.trans (Only.of_grown hg4 (fun y hy => by cases hy; simp))⟩
  clear hw2 hp2 ho2 hq2 hm2 hx2 hne h2 c2 HK HN HO HT HF HL
  unfold contentV at HAF
  unfold lockV at HLK
  go_wp2_with fail
  go_region_with ((go_at_call 76; refine HLK.out.mono ?_; rintro e w3 ⟨rfl, hb3⟩; obtain ⟨hc3, e3, f3, w4, hput, hs4, hn4⟩ := HAF.out w3 hb3; have HS4 : Hid (SuIs w4 p q m x (L ++ [(66, k, n, o, t)])) := hs4; have HN4 : Hid (Only [p, x] w1 w4) := hn4; clear hb3 hs4 hn4))
  all_goals
    clear hc3 e3 f3 hput d0 d1 d2 hcv
  all_goals
    go_wp2_with fail
    refine (HBX.out _).mono ?_
    rintro e w5 ⟨v, rfl, ho5, hb5⟩
    have HO5 : Hid (w5.ownsRow w1.heap.size 5 1 v (tl + 16) (ints .u8 (Su.box (L.length + 1) tl))) := own_older ho5 HN4.out.size
    have HS5 : Hid (SuIs w5 p q m x (L ++ [(66, k, n, o, t)])) := HS4.out.below hb5
    have HN5 : Hid (Only [p, x] w1 w5) := HN4.out.trans (Only.of_below hb5 _)
    clear ho5 hb5
    go_wp2_with fail
    refine bodyPost_ret (results_tmp2 rfl _ _ _) rfl ?_
    exact ⟨_, rfl, HO5.out, HS5.out, HN5.out⟩
end Go.Proofs.YtfjdaafckiefdaaGreatDoor.S7
