/- The walk of SuiteOnce. -/
import Derived.Test.YtbblokikhocdfaaDoorS7OnceV
namespace Go.Proofs.YtbblokikhocdfaaDoor.S7
open Go.RowKit
theorem SuIs.grown {w w' : World} {p q m x B : Nat} {L : List Su.Thing} {row : Option Nat} (h : SuIs w p q m x L) (hg : w.grownBy w' row) (hr : ∀ b, row = some b → B ≤ b) (hp : p < B ∧ q < B ∧ m < B ∧ x < B) : SuIs w' p q m x L :=
  h.only (bs := row.toList) (Only.of_grown hg (fun y hy => by rw [hy]; simp)) (by
    have key : ∀ y, y < B → y ∉ row.toList := fun y hy hm => by
      simp only [Option.mem_toList] at hm
      have := hr y hm
      omega
    exact ⟨key p hp.1, key q hp.2.1, key m hp.2.2.1, key x hp.2.2.2⟩)
/-- What the first loop keeps. -/
def OnceAt (w wr : World) (B p q m x : Nat) (v6 v7 : Value) (t6 t7 : Nat) (L : List Su.Thing) (ls : List (List Nat)) (lk : List Nat) : Prop :=
  SuIs wr p q m x L ∧ (∃ xs ys, Tells wr B v6 v7 t6 t7 xs ys L ls lk) ∧ Below w.heap.size w wr ∧ B ≤ wr.heap.size
section
variable {w wr w' : World} {B p q m x : Nat} {v6 v7 : Value} {t6 t7 : Nat} {L : List Su.Thing} {ls : List (List Nat)} {lk : List Nat}
theorem OnceAt.only {bs : List Nat} {L2 M : List Su.Thing} (h : OnceAt w wr B p q m x v6 v7 t6 t7 L ls lk) (ho : Only bs wr w') (hb : ∀ y ∈ bs, w.heap.size ≤ y ∧ y < B) (hs : SuIs w' p q m x L2) (hM : L2 = L ++ M) : OnceAt w w' B p q m x v6 v7 t6 t7 L2 ls lk := by
  obtain ⟨h1, ⟨xs, ys, h2⟩, h3, h4⟩ := h
  refine ⟨hs, ⟨xs, ys, ?_⟩, h3.trans (ho.below h3.size (fun y hy => (hb y hy).1)), Nat.le_trans h4 ho.size⟩
  rw [hM]
  exact h2.only ho (fun y hy => (hb y hy).2) M
theorem OnceAt.below (h : OnceAt w wr B p q m x v6 v7 t6 t7 L ls lk) (hb : Below wr.heap.size wr w') : OnceAt w w' B p q m x v6 v7 t6 t7 L ls lk := by
  obtain ⟨h1, ⟨xs, ys, h2⟩, h3, h4⟩ := h
  exact ⟨h1.below hb, ⟨xs, ys, h2.below hb⟩, h3.trans (hb.mono h3.size), Nat.le_trans h4 hb.size⟩
end
theorem add_more (L : List Su.Thing) (s : Nat) (k t : List Nat) : ∃ M, Su.add L s k t = L ++ M ∧ M.length ≤ 1 := by
  unfold Su.add
  split
  · exact ⟨[], by simp, by simp⟩
  · exact ⟨_, rfl, by simp⟩
set_option maxRecDepth 10000 in
set_option maxHeartbeats 8000000 in
theorem once_main (ls : List (List Nat)) (lk : List Nat) (a b : Option Addr) (n ca kn cb : Nat) (w : World) (hls : ls.length = n) (hn : n ≤ 20) (hR : RowsIs w a ls) (hK : Src w (.slice b kn cb) lk) (hkl : lk.length = kn) (hm : kn ≤ 100) :
    Calls Tryd.prog 8 #[.slice a n ca, .slice b kn cb] w fun e w' => e = .returned (.bool true) ∧ Below w.heap.size w w' := by
  have HK : Hid (Old w.heap.size w (.slice b kn cb) lk) := Old.of hK
  have HR : Hid (RowsIs w a ls) := hR
  have HLS : Hid (ls.length = n) := hls
  have n1 : (n : Int) ≤ 20 := by omega
  have n2 : (kn : Int) ≤ 100 := by omega
  clear hK hR hls
  go_enter Tryd.func8, Tryd.ntmps8
  go_wp2_with fail
  refine (anchor_any _).mono ?_
  rintro e w1 ⟨rfl, hb1⟩
  have HB1 : Hid (Below w.heap.size w w1) := hb1
  clear hb1
  go_wp2_with fail
  refine (Signs_new w1).mono ?_
  rintro e w2 ⟨p, q, m, x, rfl, hs2, hb2, hp2⟩
  have HO2 : Hid (OnceAt w w2 w2.heap.size p q m x (.slice none 0 0) (.slice none 0 0) 0 0 [] ls lk) := ⟨hs2, ⟨[], [], Tells.start _ _ _ _ _⟩, HB1.out.trans (hb2.mono HB1.out.size), Nat.le_refl _⟩
  have HPB : Hid ((p < w2.heap.size ∧ q < w2.heap.size ∧ m < w2.heap.size ∧ x < w2.heap.size) ∧ (w.heap.size ≤ p ∧ w.heap.size ≤ q ∧ w.heap.size ≤ m ∧ w.heap.size ≤ x)) := by
    refine ⟨hs2.lt, ?_⟩
    have := HB1.out.size
    omega
  have HPM : Hid (∀ y ∈ [p, m], w.heap.size ≤ y ∧ y < w2.heap.size) := all_two ⟨HPB.out.2.1, HPB.out.1.1⟩ ⟨HPB.out.2.2.2.1, HPB.out.1.2.2.1⟩
  have HP1 : Hid (∀ y ∈ [p], w.heap.size ≤ y ∧ y < w2.heap.size) := all_one ⟨HPB.out.2.1, HPB.out.1.1⟩
  have HPX : Hid (∀ y ∈ [p, x], w.heap.size ≤ y ∧ y < w2.heap.size) := all_two ⟨HPB.out.2.1, HPB.out.1.1⟩ ⟨HPB.out.2.2.2.2, HPB.out.1.2.2.2⟩
  have HBW : Hid (w.heap.size ≤ w2.heap.size) := HO2.out.2.2.1.size
  clear hs2 hb2 hp2 HB1
  go_wp2_with fail
  generalize w2.heap.size = B at *
  go_loopw [6, 7, 31] (fun v6 v7 i wr => ∃ (t : Nat) (L : List Su.Thing), t ≤ n ∧ i = .int .i64 t ∧ Hid (OnceAt w wr B p q m x v6 v7 t t L ls lk) ∧ Hid (L.length ≤ 3 * t) ∧ Hid (∀ k (h : k < ls.length), k < t → ls[k].length ≤ 50000)) (fun _ _ i _ => n - (intOf i).toNat)
  case atStart => exact ⟨0, [], by omega, rfl, HO2.out, Nat.zero_le _, fun k _ h => by omega⟩
  case round =>
    clear HO2
    obtain ⟨t, L, ht, rfl, HO, HLL, HLEN⟩ := hrel
    by_cases hlt : t < n
    · have hjp : t < ls.length := by rw [HLS.out]; exact hlt
      obtain ⟨b0, o0, sv, rfl, hb0, c0, hsv0, hsl⟩ := HR.out t hjp
      have d0 := (HO.out.2.2.1.cell (p := ⟨b0, o0 + t, none⟩) hb0).trans c0
      have hsv := hsv0.keep HO.out.2.2.1
      obtain ⟨sq, sc, rfl, -⟩ := hsv0.1.slice
      clear c0
      have j1 : (t : Int) < (n : Int) := by omega
      have j0 : (0 : Int) ≤ (t : Int) := by omega
      have HGE : Hid (ls[t]? = some ls[t]) := List.getElem?_eq_getElem hjp
      by_cases hL : 100 < ls[t].length
      · have h5 : (100 : Int) < (ls[t].length : Int) := by omega
        have HB : Hid (Below w.heap.size w wr) := HO.out.2.2.1
        generalize ls[t] = lt at *
        generalize lt.length = tl at *
        clear HO hsv hsv0 hjp
        go_wp2_with fail
        go_ret
        exact ⟨rfl, HB.out⟩
      · have h5 : (ls[t].length : Int) ≤ 100 := by omega
        have hlen : ls[t].length ≤ 100 := by omega
        have HLE2 : Hid (∀ k (h : k < ls.length), k < t + 1 → ls[k].length ≤ 50000) := fun k h hk => by
          by_cases e : k = t
          · subst e; omega
          · exact HLEN.out k h (by omega)
        have HSV : Hid (∀ W, Below w.heap.size w W → Src W (.slice sq ls[t].length sc) ls[t]) := fun W hW => (hsv0.keep hW).1
        clear hsv0
        generalize ls[t] = lt at *
        generalize hltl : lt.length = tl at *
        clear hjp hL
        go_wp2_with fail
        clear d0
        obtain ⟨M1, hM1, hM1l⟩ := add_more L 72 [] lt
        refine (Sum_at lt _ p q m x L wr HO.out.1 hsv.1 (by omega) (by have := HLL.out; omega)).mono ?_
        rintro e w3 ⟨u3, rfl, ho3, hs3, hy3⟩
        have HN3 : Hid (SgAt w3 B u6 u7 u3 (Su.sign 72 (Su.num L 72 [] lt))) := by
          obtain ⟨_, ⟨xs, ys, hT⟩, _, hBB⟩ := HO.out
          exact sg_new hT hBB ho3 (Su.sign_lt (by decide) _)
        have HO3 : Hid (OnceAt w w3 B p q m x u6 u7 t t (Su.add L 72 [] lt) ls lk) := HO.out.only hy3 HPM.out hs3 hM1
        have HPO : Hid (Su.pos 72 [] lt 0 (Su.add L 72 [] lt) = some (Su.num L 72 [] lt)) := Su.pos_add L 72 [] lt
        have HL3 : Hid ((Su.add L 72 [] lt).length ≤ 3 * t + 1) := by show _ ≤ _; rw [hM1, List.length_append]; have := HLL.out; omega
        obtain ⟨qu3, cu3, rfl⟩ := own_slice ho3
        clear ho3 hs3 hy3 hM1 hsv HO
        generalize Su.add L 72 [] lt = L1 at *
        generalize Su.num L 72 [] lt = k1 at *
        go_wp2_with (first | with_reducible (refine stop_builtin .append ?_))
        refine Stop.go ?_
        have hA3 : Below w3.heap.size w3 (w3.alloc (.cells #[.slice qu3 32 cu3] 32)) := (Below.refl _ w3).alloc (Nat.le_refl _) _
        obtain ⟨hsA, ⟨xs, ys, hTA⟩, hbA, hBA⟩ := HO3.out.below hA3
        have hg3 : SgAt (w3.alloc (.cells #[.slice qu3 32 cu3] 32)) B u6 u7 (.slice qu3 32 cu3) (Su.sign 72 k1) := by
          obtain ⟨⟨g, c, e, h1, h2, h3, h4⟩, h6⟩ := HN3.out
          exact ⟨⟨g, c, e, h1, Nat.lt_of_lt_of_le h2 hA3.size, h3, h4⟩, h6.below hA3⟩
        refine law_append_row B u6 t xs w3.heap.size (.slice qu3 32 cu3) rfl rfl hTA.o6 (cell_part w3 _) rfl (by omega) hBA ?_
        intro v6' w4 ho4 hg4 ha4
        have HO4 : Hid (OnceAt w w4 B p q m x v6' u7 (t + 1) t L1 ls lk) :=
          ⟨hsA.grown hg4 (fun b hb => (hTA.o6.lt b hb).1) HPB.out.1, ⟨_, _, hTA.push6 hg3 HGE.out HPO.out ho4 hg4 ha4⟩, hbA.grown hg4 hbA.size (fun b hb => Nat.le_trans HBW.out (hTA.o6.lt b hb).1), Nat.le_trans hBA hg4.size⟩
        clear hA3 hsA hTA hbA hBA hg3 ho4 hg4 ha4 HN3 HO3 HPO
        go_wp2_with fail
        obtain ⟨M2, hM2, hM2l⟩ := add_more L1 77 lk lt
        refine (Code_at lk lt _ _ p q m x L1 w4 HO4.out.1 (HK.out.keep HO4.out.2.2.1).1 (HSV.out w4 HO4.out.2.2.1) (by omega) (by have := HL3.out; omega)).mono ?_
        rintro e w5 ⟨u5, rfl, ho5, hs5, hy5⟩
        have HN5 : Hid (SgAt w5 B v6' u7 u5 (Su.sign 77 (Su.num L1 77 lk lt))) := by
          obtain ⟨_, ⟨xs, ys, hT⟩, _, hBB⟩ := HO4.out
          exact sg_new hT hBB ho5 (Su.sign_lt (by decide) _)
        have HO5 : Hid (OnceAt w w5 B p q m x v6' u7 (t + 1) t (Su.add L1 77 lk lt) ls lk) := HO4.out.only hy5 HPM.out hs5 hM2
        have HPO : Hid (Su.pos 77 lk lt 0 (Su.add L1 77 lk lt) = some (Su.num L1 77 lk lt)) := Su.pos_add L1 77 lk lt
        have HL5 : Hid ((Su.add L1 77 lk lt).length ≤ 3 * t + 2) := by show _ ≤ _; rw [hM2, List.length_append]; have := HL3.out; omega
        obtain ⟨qu5, cu5, rfl⟩ := own_slice ho5
        clear ho5 hs5 hy5 hM2 HO4
        generalize Su.add L1 77 lk lt = L2 at *
        generalize Su.num L1 77 lk lt = k2 at *
        go_wp2_with (first | with_reducible (refine stop_builtin .append ?_))
        refine Stop.go ?_
        have hA5 : Below w5.heap.size w5 (w5.alloc (.cells #[.slice qu5 32 cu5] 32)) := (Below.refl _ w5).alloc (Nat.le_refl _) _
        obtain ⟨hsA, ⟨xs, ys, hTA⟩, hbA, hBA⟩ := HO5.out.below hA5
        have hg5 : SgAt (w5.alloc (.cells #[.slice qu5 32 cu5] 32)) B v6' u7 (.slice qu5 32 cu5) (Su.sign 77 k2) := by
          obtain ⟨⟨g, c, e, h1, h2, h3, h4⟩, h6⟩ := HN5.out
          exact ⟨⟨g, c, e, h1, Nat.lt_of_lt_of_le h2 hA5.size, h3, h4⟩, h6.below hA5⟩
        refine law_append_row B u7 t ys w5.heap.size (.slice qu5 32 cu5) rfl rfl hTA.o7 (cell_part w5 _) rfl (by omega) hBA ?_
        intro v7' w6 ho6 hg6 ha6
        have HO6 : Hid (OnceAt w w6 B p q m x v6' v7' (t + 1) (t + 1) L2 ls lk) :=
          ⟨hsA.grown hg6 (fun b hb => (hTA.o7.lt b hb).1) HPB.out.1, ⟨_, _, hTA.push7 hg5 HGE.out HPO.out ho6 hg6 ha6⟩, hbA.grown hg6 hbA.size (fun b hb => Nat.le_trans HBW.out (hTA.o7.lt b hb).1), Nat.le_trans hBA hg6.size⟩
        clear hA5 hsA hTA hbA hBA hg5 ho6 hg6 ha6 HN5 HO5 HPO
        go_wp2_with fail
        refine (Key_signs p q m x L2 w6 HO6.out.1 (by have := HL5.out; omega)).mono ?_
        rintro e w7 ⟨u7', rfl, -, hs7, hy7⟩
        have HO7 : Hid (OnceAt w w7 B p q m x v6' v7' (t + 1) (t + 1) (L2 ++ [(75, [], [], [], [])]) ls lk) := HO6.out.only hy7 HP1.out hs7 rfl
        have HL7 : Hid ((L2 ++ [((75 : Nat), ([] : List Nat), ([] : List Nat), ([] : List Nat), ([] : List Nat))]).length ≤ 3 * (t + 1)) := by show _ ≤ _; rw [List.length_append]; have := HL5.out; simp; omega
        clear hs7 hy7 HO6
        go_wp2_with fail
        refine ⟨⟨t + 1, _, by omega, by simp, HO7, HL7, HLE2⟩, ?_⟩
        simp only [intOf]
        omega
    · obtain rfl : t = n := by omega
      have j1 : ¬ (t : Int) < (t : Int) := by omega
      go_wp2_with fail
      refine (count_any p L.length _ _ wr HO.out.1.box).mono ?_
      rintro e w9 ⟨rfl, rfl⟩
      go_wp2_with fail
      have HLL2 : Hid (L.length ≤ 60) := by show _ ≤ _; have := HLL.out; omega
      have l1 : (L.length : Int) ≤ 60 := by have := HLL2.out; omega
      clear j1 hlt ht HLL
      rename World => w9
      go_loopw [60] (fun i wr => ∃ j : Nat, j ≤ t ∧ i = .int .i64 j ∧ Hid (OnceAt w wr B p q m x u6 u7 t t L ls lk)) (fun i _ => t - (intOf i).toNat)
      case atStart => exact ⟨0, by omega, rfl, HO.out⟩
      case round =>
        clear HO
        obtain ⟨j, hj, rfl, HO⟩ := hrel
        by_cases hjn : j < t
        · have hjp : j < ls.length := by rw [HLS.out]; exact hjn
          obtain ⟨b0, o0, sv, rfl, hb0, c0, hsv0, hsl⟩ := HR.out j hjp
          have d0 := (HO.out.2.2.1.cell (p := ⟨b0, o0 + j, none⟩) hb0).trans c0
          obtain ⟨sq, sc, rfl, -⟩ := hsv0.1.slice
          have j2 : (j : Int) < (t : Int) := by omega
          have j0 : (0 : Int) ≤ (j : Int) := by omega
          obtain ⟨hSu, ⟨xs, ys, hT⟩, hBel, hBB⟩ := HO.out
          obtain ⟨ux, lx, n1, hx1, hx2, hx3, hx4⟩ := hT.sx j hjn
          obtain ⟨uy, ly, n2', hy1, hy2, hy3, hy4⟩ := hT.sy j hjn
          have elx : lx = ls[j] := by rw [List.getElem?_eq_getElem hjp] at hx2; exact (Option.some.inj hx2).symm
          have ely : ly = ls[j] := by rw [List.getElem?_eq_getElem hjp] at hy2; exact (Option.some.inj hy2).symm
          subst elx ely
          obtain ⟨e6, c6e⟩ := Su.num_of hx4
          obtain ⟨e7, c7e⟩ := Su.num_of hy4
          have HBL : Hid (∀ w', Only [p, m] wr w' → Below w.heap.size w w') := fun w' ho => hBel.trans (ho.below hBel.size (fun y hy => (HPM.out y hy).1))
          have HBS : Hid (∀ y ∈ [p, m], y < wr.heap.size) := fun y hy => Nat.lt_of_lt_of_le (HPM.out y hy).2 hBB
          have hoff : ∀ (w' : World) (v : Value) (l : List Nat), Only [p, m] wr w' → ∀ w2 : World, w2.ownsRow w'.heap.size 5 1 v 32 (ints .u8 l) → (∀ y ∈ l, y < 256) → SrcV [p, m] l v w2 := fun w' v l ho w2 h1 h2 =>
            ⟨Src.own h2 h1, own_off h1 (fun y hy => Nat.lt_of_lt_of_le (HBS.out y hy) ho.size)⟩
          have HCS : Hid (∀ w' g, Only [p, m] wr w' → SuIs w' p q m x L → w'.cell? ⟨g, 0, none⟩ = some (.slice sq ls[j].length sc) → Calls Tryd.prog 13 #[.pointer (some ⟨p, 0, none⟩), .slice (some ⟨g, 0, none⟩) 1 1] w' fun e w2 => ∃ v, e = .returned v ∧ Only [p, m] w' w2 ∧ (Nat → SuIs w' p q m x L → SuIs w2 p q m x L) ∧ SrcV [p, m] (Su.sign 72 n1) v w2) := fun w' g ho hS hc => by
            refine (Sum_one ls[j] g 0 1 _ p q m x L w' hS hc (hsv0.keep (HBL.out w' ho)).1 ?_ (by have := HLL2.out; omega)).mono ?_
            · exact HLEN.out j hjp hjn
            · rintro e w2 ⟨v, rfl, h1, h2, h3⟩
              rw [c6e] at h2
              rw [e6] at h1
              exact ⟨v, rfl, h3, (fun _ _ => h2), hoff w' v _ ho w2 h1 (Su.sign_lt (by decide) _)⟩
          have HCC : Hid (∀ w' g, Only [p, m] wr w' → SuIs w' p q m x L → w'.cell? ⟨g, 0, none⟩ = some (.slice sq ls[j].length sc) → Calls Tryd.prog 15 #[.pointer (some ⟨p, 0, none⟩), .slice b kn cb, .slice (some ⟨g, 0, none⟩) 1 1] w' fun e w2 => ∃ v, e = .returned v ∧ Only [p, m] w' w2 ∧ (Nat → SuIs w' p q m x L → SuIs w2 p q m x L) ∧ SrcV [p, m] (Su.sign 77 n2') v w2) := fun w' g ho hS hc => by
            refine (Code_one lk ls[j] g 0 1 _ _ p q m x L w' hS (HK.out.keep (HBL.out w' ho)).1 hc (hsv0.keep (HBL.out w' ho)).1 ?_ (by have := HLL2.out; omega)).mono ?_
            · exact HLEN.out j hjp hjn
            · rintro e w2 ⟨v, rfl, h1, h2, h3⟩
              rw [c7e] at h2
              rw [e7] at h1
              exact ⟨v, rfl, h3, (fun _ _ => h2), hoff w' v _ ho w2 h1 (Su.sign_lt (by decide) _)⟩
          obtain ⟨⟨g1, c1, rfl, hg1, hg1l, _, _⟩, hsx⟩ := hx3
          obtain ⟨⟨g2, c2, rfl, hg2, hg2l, _, _⟩, hsy⟩ := hy3
          have row : ∀ (v : Value) (zs : List Value) (u : Value), wr.ownsRow B 32 1 v t zs → zs[j]? = some u → ∃ gs c, v = .slice (some ⟨gs, 0, none⟩) t c ∧ B ≤ gs ∧ gs < wr.heap.size ∧ wr.cell? ⟨gs, 0 + j, none⟩ = some u := fun v zs u h1 h2 => by
            obtain ⟨hl, ⟨e, h0⟩ | ⟨gs, cap, cur, rfl, hg, hh, hn', hm', hc', ht'⟩⟩ := h1
            · omega
            · refine ⟨gs, cap, rfl, hg, (Array.getElem?_eq_some_iff.1 hh).1, ?_⟩
              rw [cell_of_row _ _ _ _ _ _ hh, Nat.zero_add]
              rw [← ht', Nat.mul_one, List.getElem?_take_of_lt hjn] at h2
              simpa using h2
          obtain ⟨gs, c6, rfl, hgs, hgsl, hcs⟩ := row _ _ _ hT.o6 hx1
          obtain ⟨gc, c7, rfl, hgc, hgcl, hcc⟩ := row _ _ _ hT.o7 hy1
          have notin : ∀ y, B ≤ y → y ∉ [p, m] := fun y hy hm => by have := (HPM.out y hm).2; omega
          have HX : Hid (∀ w', Only [p, m] wr w' → w'.cell? ⟨gs, 0 + j, none⟩ = some (.slice (some ⟨g1, 0, none⟩) 32 c1) ∧ SrcV [p, m] (Su.sign 72 n1) (.slice (some ⟨g1, 0, none⟩) 32 c1) w') := fun w' ho =>
            ⟨(World.cell?_of_block (a := ⟨gs, 0 + j, none⟩) (ho.block gs hgsl (notin gs hgs))).trans hcs, hsx.only ho (Off.at (ad := ⟨g1, 0, none⟩) (notin g1 hg1)), Off.at (ad := ⟨g1, 0, none⟩) (notin g1 hg1)⟩
          have HY : Hid (∀ w', Only [p, m] wr w' → w'.cell? ⟨gc, 0 + j, none⟩ = some (.slice (some ⟨g2, 0, none⟩) 32 c2) ∧ SrcV [p, m] (Su.sign 77 n2') (.slice (some ⟨g2, 0, none⟩) 32 c2) w') := fun w' ho =>
            ⟨(World.cell?_of_block (a := ⟨gc, 0 + j, none⟩) (ho.block gc hgcl (notin gc hgc))).trans hcc, hsy.only ho (Off.at (ad := ⟨g2, 0, none⟩) (notin g2 hg2)), Off.at (ad := ⟨g2, 0, none⟩) (notin g2 hg2)⟩
          have HSU : Hid (SuIs wr p q m x L) := hSu
          clear hSu hT hBel hBB hx1 hx2 hx4 hy1 hy2 hy4 e6 c6e e7 c7e hoff row hcs hcc notin hsx hsy hgs hgsl hgc hgcl hg1 hg1l hg2 hg2l c0 hsl hsv0
          generalize ls[j].length = sn at *
          clear hjp
          go_wp2_with fail
          clear d0
          have RB : ∀ k w w', Below w.heap.size w w' → (fun (_ : Nat) (u : World) => SuIs u p q m x L) k w → (fun (_ : Nat) (u : World) => SuIs u p q m x L) k w' := fun k u u' hb h => SuIs.below h hb
          refine wp_region_st (on20 p m gs gc t c6 c7 j n1 n2' sq b sn sc kn cb) (fun u u' => Only [p, m] u u') (SeqS [] (fun (_ : Nat) (u : World) => SuIs u p q m x L)) (by kernel_rfl) (only_drew _ _) (only_trans _) (on20_kept p m gs gc t c6 c7 j n1 n2' sq b sn sc kn cb) (by kernel_rfl) (SeqS.start (HSU.out.below (below_drewN 1 _ _))) ?_ ?_
          · intro i o a' w' f hi inv hS hfi hfw hpre
            have ho : Only [p, m] wr w' := inv.grow
            have hlt : i < 25 := (Array.getElem?_eq_some_iff.1 hi).1
            obtain rfl|rfl|rfl|rfl|rfl|rfl|rfl|rfl|rfl|rfl|rfl|rfl|rfl|rfl|rfl|rfl|rfl|rfl|rfl|rfl|rfl|rfl|rfl|rfl|rfl : i = 0 ∨ i = 1 ∨ i = 2 ∨ i = 3 ∨ i = 4 ∨ i = 5 ∨ i = 6 ∨ i = 7 ∨ i = 8 ∨ i = 9 ∨ i = 10 ∨ i = 11 ∨ i = 12 ∨ i = 13 ∨ i = 14 ∨ i = 15 ∨ i = 16 ∨ i = 17 ∨ i = 18 ∨ i = 19 ∨ i = 20 ∨ i = 21 ∨ i = 22 ∨ i = 23 ∨ i = 24 := by omega
            · obtain rfl := Option.some.inj hi
              exact sq_value _ rfl rfl rfl (Below.refl _ _) (by decide) hS RB (by show a'.tmps.getD 5 undef = _; rw [inv.old 5 (notDst_spec (by kernel_rfl))]; rfl)
            · obtain rfl := Option.some.inj hi
              exact sq_value _ rfl rfl rfl (Below.refl _ _) (by decide) hS RB (by show a'.tmps.getD 12 undef = _; rw [inv.old 12 (notDst_spec (by kernel_rfl))]; rfl)
            · obtain rfl := Option.some.inj hi
              have h0 : a'.tmps.getD 66 undef = _ := pre_of hpre 1 66 (by kernel_rfl) (by kernel_rfl)
              exact sq_value _ rfl rfl (part_run 66 _ rfl ⟨_, _, _, rfl⟩ h0) (below_alloc _ _) (by decide) hS RB (part_v (fun y hy => Nat.lt_of_lt_of_le (HBS.out y hy) ho.size))
            · obtain rfl := Option.some.inj hi
              have h0 : a'.tmps.getD 65 undef = _ := pre_of hpre 0 65 (by kernel_rfl) (by kernel_rfl)
              have h1 := pre_of hpre 2 67 (by kernel_rfl) (by kernel_rfl)
              obtain ⟨gp1, hgp1, hcp1, _⟩ := h1
              refine sq_quiet 13 #[a'.tmps.getD 65 undef, a'.tmps.getD 67 undef] rfl rfl (by kernel_rfl) (by decide) hS ?_
              rw [h0, hgp1]
              obtain ⟨_, _, _, hR⟩ := hS
              exact HCS.out w' _ ho hR hcp1
            · obtain rfl := Option.some.inj hi
              have h0 := pre_of hpre 3 68 (by kernel_rfl) (by kernel_rfl)
              exact sq_value _ rfl rfl (conv_run 68 _ rfl (h0.1)) (Below.refl _ _) (by decide) hS RB rfl
            · obtain rfl := Option.some.inj hi
              exact sq_value _ rfl rfl rfl (Below.refl _ _) (by decide) hS RB (by show a'.tmps.getD 6 undef = _; rw [inv.old 6 (notDst_spec (by kernel_rfl))]; rfl)
            · obtain rfl := Option.some.inj hi
              exact sq_value _ rfl rfl rfl (Below.refl _ _) (by decide) hS RB (by show a'.tmps.getD 11 undef = _; rw [inv.old 11 (notDst_spec (by kernel_rfl))]; rfl)
            · obtain rfl := Option.some.inj hi
              have h0 : a'.tmps.getD 70 undef = _ := pre_of hpre 5 70 (by kernel_rfl) (by kernel_rfl)
              have h1 : a'.tmps.getD 71 undef = _ := pre_of hpre 6 71 (by kernel_rfl) (by kernel_rfl)
              exact sq_value _ rfl rfl (idx31_run 70 71 gs 0 t c6 j rfl h0 h1 hjn) (Below.refl _ _) (by decide) hS RB rfl
            · obtain rfl := Option.some.inj hi
              have h0 : a'.tmps.getD 72 undef = _ := pre_of hpre 7 72 (by kernel_rfl) (by kernel_rfl)
              exact sq_value _ rfl rfl (load_run 32 72 gs (0 + j) _ rfl h0 (ld32 ((HX.out w' ho).1))) (Below.refl _ _) (by decide) hS RB ((HX.out w' ho).2)
            · obtain rfl := Option.some.inj hi
              have h0 := pre_of hpre 8 73 (by kernel_rfl) (by kernel_rfl)
              exact sq_value _ rfl rfl (conv_run 73 _ rfl (h0.1)) (Below.refl _ _) (by decide) hS RB rfl
            · obtain rfl := Option.some.inj hi
              have h0 : a'.tmps.getD 69 undef = _ := pre_of hpre 4 69 (by kernel_rfl) (by kernel_rfl)
              have h1 : a'.tmps.getD 74 undef = _ := pre_of hpre 9 74 (by kernel_rfl) (by kernel_rfl)
              exact sq_value _ rfl rfl (neqS_run 69 74 _ _ rfl h0 h1) (Below.refl _ _) (by decide) hS RB (by show Value.bool _ = _; simp)
            · obtain rfl := Option.some.inj hi
              have h0 := pre_of hpre 10 75 (by kernel_rfl) (by kernel_rfl)
              exact sq_value _ rfl rfl (rfl) (Below.refl _ _) (by decide) hS RB h0
            · obtain rfl := Option.some.inj hi
              have hgu : a'.tmps.getD 76 undef = _ := pre_of hpre 11 76 (by kernel_rfl) (by kernel_rfl)
              exact sq_value _ rfl (wanted_of 11 76 false rfl (by kernel_rfl) hgu) rfl (Below.refl _ _) (by decide) hS RB (by show a'.tmps.getD 5 undef = _; rw [inv.old 5 (notDst_spec (by kernel_rfl))]; rfl)
            · obtain rfl := Option.some.inj hi
              have hgu : a'.tmps.getD 76 undef = _ := pre_of hpre 11 76 (by kernel_rfl) (by kernel_rfl)
              exact sq_value _ rfl (wanted_of 11 76 false rfl (by kernel_rfl) hgu) rfl (Below.refl _ _) (by decide) hS RB (by show a'.tmps.getD 1 undef = _; rw [inv.old 1 (notDst_spec (by kernel_rfl))]; rfl)
            · obtain rfl := Option.some.inj hi
              have hgu : a'.tmps.getD 76 undef = _ := pre_of hpre 11 76 (by kernel_rfl) (by kernel_rfl)
              exact sq_value _ rfl (wanted_of 11 76 false rfl (by kernel_rfl) hgu) rfl (Below.refl _ _) (by decide) hS RB (by show a'.tmps.getD 12 undef = _; rw [inv.old 12 (notDst_spec (by kernel_rfl))]; rfl)
            · obtain rfl := Option.some.inj hi
              have hgu : a'.tmps.getD 76 undef = _ := pre_of hpre 11 76 (by kernel_rfl) (by kernel_rfl)
              have h0 : a'.tmps.getD 79 undef = _ := pre_of hpre 14 79 (by kernel_rfl) (by kernel_rfl)
              exact sq_value _ rfl (wanted_of 11 76 false rfl (by kernel_rfl) hgu) (part_run 79 _ rfl ⟨_, _, _, rfl⟩ h0) (below_alloc _ _) (by decide) hS RB (part_v (fun y hy => Nat.lt_of_lt_of_le (HBS.out y hy) ho.size))
            · obtain rfl := Option.some.inj hi
              have hgu : a'.tmps.getD 76 undef = _ := pre_of hpre 11 76 (by kernel_rfl) (by kernel_rfl)
              have h0 : a'.tmps.getD 77 undef = _ := pre_of hpre 12 77 (by kernel_rfl) (by kernel_rfl)
              have h1 : a'.tmps.getD 78 undef = _ := pre_of hpre 13 78 (by kernel_rfl) (by kernel_rfl)
              have h2 := pre_of hpre 15 80 (by kernel_rfl) (by kernel_rfl)
              obtain ⟨gp2, hgp2, hcp2, _⟩ := h2
              refine sq_quiet 15 #[a'.tmps.getD 77 undef, a'.tmps.getD 78 undef, a'.tmps.getD 80 undef] rfl (wanted_of 11 76 false rfl (by kernel_rfl) hgu) (by kernel_rfl) (by decide) hS ?_
              rw [h0, h1, hgp2]
              obtain ⟨_, _, _, hR⟩ := hS
              exact HCC.out w' _ ho hR hcp2
            · obtain rfl := Option.some.inj hi
              have hgu : a'.tmps.getD 76 undef = _ := pre_of hpre 11 76 (by kernel_rfl) (by kernel_rfl)
              have h0 := pre_of hpre 16 81 (by kernel_rfl) (by kernel_rfl)
              exact sq_value _ rfl (wanted_of 11 76 false rfl (by kernel_rfl) hgu) (conv_run 81 _ rfl (h0.1)) (Below.refl _ _) (by decide) hS RB rfl
            · obtain rfl := Option.some.inj hi
              have hgu : a'.tmps.getD 76 undef = _ := pre_of hpre 11 76 (by kernel_rfl) (by kernel_rfl)
              exact sq_value _ rfl (wanted_of 11 76 false rfl (by kernel_rfl) hgu) rfl (Below.refl _ _) (by decide) hS RB (by show a'.tmps.getD 7 undef = _; rw [inv.old 7 (notDst_spec (by kernel_rfl))]; rfl)
            · obtain rfl := Option.some.inj hi
              have hgu : a'.tmps.getD 76 undef = _ := pre_of hpre 11 76 (by kernel_rfl) (by kernel_rfl)
              exact sq_value _ rfl (wanted_of 11 76 false rfl (by kernel_rfl) hgu) rfl (Below.refl _ _) (by decide) hS RB (by show a'.tmps.getD 11 undef = _; rw [inv.old 11 (notDst_spec (by kernel_rfl))]; rfl)
            · obtain rfl := Option.some.inj hi
              have hgu : a'.tmps.getD 76 undef = _ := pre_of hpre 11 76 (by kernel_rfl) (by kernel_rfl)
              have h0 : a'.tmps.getD 83 undef = _ := pre_of hpre 18 83 (by kernel_rfl) (by kernel_rfl)
              have h1 : a'.tmps.getD 84 undef = _ := pre_of hpre 19 84 (by kernel_rfl) (by kernel_rfl)
              exact sq_value _ rfl (wanted_of 11 76 false rfl (by kernel_rfl) hgu) (idx31_run 83 84 gc 0 t c7 j rfl h0 h1 hjn) (Below.refl _ _) (by decide) hS RB rfl
            · obtain rfl := Option.some.inj hi
              have hgu : a'.tmps.getD 76 undef = _ := pre_of hpre 11 76 (by kernel_rfl) (by kernel_rfl)
              have h0 : a'.tmps.getD 85 undef = _ := pre_of hpre 20 85 (by kernel_rfl) (by kernel_rfl)
              exact sq_value _ rfl (wanted_of 11 76 false rfl (by kernel_rfl) hgu) (load_run 32 85 gc (0 + j) _ rfl h0 (ld32 ((HY.out w' ho).1))) (Below.refl _ _) (by decide) hS RB ((HY.out w' ho).2)
            · obtain rfl := Option.some.inj hi
              have hgu : a'.tmps.getD 76 undef = _ := pre_of hpre 11 76 (by kernel_rfl) (by kernel_rfl)
              have h0 := pre_of hpre 21 86 (by kernel_rfl) (by kernel_rfl)
              exact sq_value _ rfl (wanted_of 11 76 false rfl (by kernel_rfl) hgu) (conv_run 86 _ rfl (h0.1)) (Below.refl _ _) (by decide) hS RB rfl
            · obtain rfl := Option.some.inj hi
              have hgu : a'.tmps.getD 76 undef = _ := pre_of hpre 11 76 (by kernel_rfl) (by kernel_rfl)
              have h0 : a'.tmps.getD 82 undef = _ := pre_of hpre 17 82 (by kernel_rfl) (by kernel_rfl)
              have h1 : a'.tmps.getD 87 undef = _ := pre_of hpre 22 87 (by kernel_rfl) (by kernel_rfl)
              exact sq_value _ rfl (wanted_of 11 76 false rfl (by kernel_rfl) hgu) (neqS_run 82 87 _ _ rfl h0 h1) (Below.refl _ _) (by decide) hS RB (by show Value.bool _ = _; simp)
            · obtain rfl := Option.some.inj hi
              have h0 : a'.tmps.getD 76 undef = _ := pre_of hpre 11 76 (by kernel_rfl) (by kernel_rfl)
              have h1 : a'.tmps.getD 88 undef = _ := pre_of hpre 23 88 (by kernel_rfl) (by kernel_rfl)
              exact sq_value _ rfl rfl (pick_run 76 false _ _ _ _ rfl h0 rfl h1) (Below.refl _ _) (by decide) hS RB rfl
          · intro a' w5 f inv hS hall hd
            have hk24 := hd 24 89 (by kernel_rfl)
            have ho : Only [p, m] wr w5 := inv.grow
            have hdf : a'.defers = [] := inv.defers
            have hsz : a'.tmps.size = 131 := inv.size
            have e := frame8_20 hsz (fun t ht => inv.old t (dstsIn_spec (ts := [65, 66, 67, 68, 69, 70, 71, 72, 73, 74, 75, 76, 77, 78, 79, 80, 81, 82, 83, 84, 85, 86, 87, 88, 89]) (by kernel_rfl) t ht))
            have hR := hS.done (fun c hc => hall c (show c < 25 by simp at hc <;> omega))
            clear inv hd hsz hall hS
            obtain ⟨tmps, defers⟩ := a'
            obtain rfl : defers = [] := hdf
            replace e : tmps = _ := e
            replace hk24 : tmps.getD 89 undef = (.bool false) := hk24
            generalize tmps.getD 65 undef = x65 at *
            generalize tmps.getD 66 undef = x66 at *
            generalize tmps.getD 67 undef = x67 at *
            generalize tmps.getD 68 undef = x68 at *
            generalize tmps.getD 69 undef = x69 at *
            generalize tmps.getD 70 undef = x70 at *
            generalize tmps.getD 71 undef = x71 at *
            generalize tmps.getD 72 undef = x72 at *
            generalize tmps.getD 73 undef = x73 at *
            generalize tmps.getD 74 undef = x74 at *
            generalize tmps.getD 75 undef = x75 at *
            generalize tmps.getD 76 undef = x76 at *
            generalize tmps.getD 77 undef = x77 at *
            generalize tmps.getD 78 undef = x78 at *
            generalize tmps.getD 79 undef = x79 at *
            generalize tmps.getD 80 undef = x80 at *
            generalize tmps.getD 81 undef = x81 at *
            generalize tmps.getD 82 undef = x82 at *
            generalize tmps.getD 83 undef = x83 at *
            generalize tmps.getD 84 undef = x84 at *
            generalize tmps.getD 85 undef = x85 at *
            generalize tmps.getD 86 undef = x86 at *
            generalize tmps.getD 87 undef = x87 at *
            generalize tmps.getD 88 undef = x88 at *
            generalize tmps.getD 89 undef = x89 at *
            simp only [Array.getD_eq_getD_getElem?, List.getElem?_toArray, List.getElem?_cons_succ, List.getElem?_cons_zero, Option.getD_some] at e
            subst e
            subst hk24
            have HO5 : Hid (OnceAt w w5 B p q m x (.slice (some ⟨gs, 0, none⟩) t c6) (.slice (some ⟨gc, 0, none⟩) t c7) t t L ls lk) := HO.out.only ho HPM.out hR (M := []) (by simp)
            clear hR ho RB HCS HCC HX HY HSU HBL HBS HO
            go_wp2_with fail
            go_roundw
            case rel =>
              first
                | exact ⟨j + 1, by omega, by go_num, HO5.out⟩
                | ((repeat apply Exists.intro)
                   refine ⟨⟨j + 1, by omega, ?_, HO5.out⟩, rfl⟩
                   go_num)
            case measure => simp [intOf]; omega
        · obtain rfl : j = t := by omega
          have j2 : ¬ (j : Int) < (j : Int) := by omega
          obtain ⟨hSu, -, hBel, hBB⟩ := HO.out
          have HSU : Hid (SuIs wr p q m x L) := hSu
          have HBE : Hid (Below w.heap.size w wr) := hBel
          have HBZ : Hid (B ≤ wr.heap.size) := hBB
          clear hSu hBel hBB HO
          go_wp2_with fail
          refine (count_any p L.length _ _ wr HSU.out.box).mono ?_
          rintro e w10 ⟨rfl, rfl⟩
          go_wp2_with fail
          refine (Key_signs p q m x L w10 HSU.out (by have := HLL2.out; omega)).mono ?_
          rintro e w11 ⟨kv, rfl, hk11, hs11, ho11⟩
          have HS11 : Hid (SuIs w11 p q m x (L ++ [(75, [], [], [], [])])) := hs11
          have HK11 : Hid (w11.ownsRow w10.heap.size 5 1 kv 32 (ints .u8 (Su.sign 75 (L.length + 1)))) := hk11
          have HB11 : Hid (Below w.heap.size w w11) := HBE.out.trans (ho11.below HBE.out.size (fun y hy => (HP1.out y hy).1))
          have HZ11 : Hid (w10.heap.size ≤ w11.heap.size) := ho11.size
          obtain ⟨qk, ck, rfl⟩ := own_slice hk11
          obtain ⟨L1, hL1⟩ : ∃ L1, L ++ [((75 : Nat), ([] : List Nat), ([] : List Nat), ([] : List Nat), ([] : List Nat))] = L1 := ⟨_, rfl⟩
          have HL1 : Hid (L1.length = L.length + 1) := by show _ = _; rw [← hL1]; simp
          rw [hL1] at HS11
          clear hk11 hs11 ho11 hL1 HSU HBE
          go_wp2_with (first | with_reducible (refine stop_make 32 ?_))
          refine Stop.go ?_
          refine law_make w11.heap.size 12 12 rfl rfl (by decide) (by decide) (Nat.le_refl _) ?_
          intro w12 hm12 hg12
          have b12 : Below w11.heap.size w11 w12 := (Below.refl _ w11).grown hg12 (Nat.le_refl _) (fun k hk => by cases hk)
          have HS12 : Hid (SuIs w12 p q m x L1) := HS11.out.below b12
          have HK12 : Hid (w12.ownsRow w10.heap.size 5 1 (.slice qk 32 ck) 32 (ints .u8 (Su.sign 75 (L.length + 1)))) := own_only (bs := []) HK11.out (Only.of_below b12 []) (fun _ _ hx => by cases hx)
          have HN12 : Hid (w12.ownsRow w11.heap.size 5 1 (.slice (some ⟨w11.heap.size, 0, none⟩) 12 12) 12 (ints .u8 (List.replicate 12 0))) := hm12
          have HB12 : Hid (Below w.heap.size w w12) := HB11.out.trans (b12.mono HB11.out.size)
          have HZ12 : Hid (w10.heap.size ≤ w12.heap.size ∧ w10.heap.size ≤ w11.heap.size) := ⟨Nat.le_trans HZ11.out b12.size, HZ11.out⟩
          clear hm12 hg12 b12 HS11 HK11 HB11 HZ11
          go_wp2_with fail
          have noff : ∀ y ∈ [p, x], y < w10.heap.size := fun y hy => Nat.lt_of_lt_of_le (HPX.out y hy).2 HBZ.out
          refine (Seal_ok (Su.sign 75 (L.length + 1)) (List.replicate 12 0) [] [] _ _ _ _ p q m x L1 w12 HS12.out (fun w1 h1 => Src.own (Su.sign_lt (by decide) _) (own_only HK12.out h1 (own_off HK12.out noff))) (fun w1 h1 => Src.own (fun y hy => by rw [List.eq_of_mem_replicate hy]; decide) (own_only HN12.out h1 (own_off HN12.out (fun y hy => Nat.lt_of_lt_of_le (noff y hy) HZ12.out.2)))) (fun w1 _ => Src.nil _) (fun w1 _ => Src.nil _) (Su.sign_length _ _) (by simp) (by simp) (by rw [HL1.out]; have := HLL2.out; omega)).mono ?_
          rintro e w13 ⟨x1, rfl, hx13, hs13, ho13⟩
          have HX13 : Hid (w13.ownsRow w12.heap.size 5 1 x1 16 (ints .u8 (Su.box (L1.length + 1) 0))) := hx13
          have HK13 : Hid (w13.ownsRow w10.heap.size 5 1 (.slice qk 32 ck) 32 (ints .u8 (Su.sign 75 (L.length + 1)))) := own_only HK12.out ho13 (own_off HK12.out noff)
          have HB13 : Hid (Below w.heap.size w w13) := HB12.out.trans (ho13.below HB12.out.size (fun y hy => (HPX.out y hy).1))
          have HZ13 : Hid (w10.heap.size ≤ w13.heap.size ∧ w10.heap.size ≤ w12.heap.size) := ⟨Nat.le_trans HZ12.out.1 ho13.size, HZ12.out.1⟩
          have HNO : Hid (∀ y ∈ [p, x], y < w10.heap.size) := noff
          obtain ⟨L2, hL2⟩ : ∃ L2, L1 ++ [((66 : Nat), Su.sign 75 (L.length + 1), List.replicate 12 0, ([] : List Nat), ([] : List Nat))] = L2 := ⟨_, rfl⟩
          have HL2 : Hid (L2.length = L.length + 2) := by show _ = _; rw [← hL2, List.length_append, HL1.out]; rfl
          have HS13 : Hid (SuIs w13 p q m x L2) := by rw [← hL2]; exact hs13
          obtain ⟨qx, cx, rfl⟩ := own_slice HX13.out
          clear hx13 hs13 ho13 noff hL2 HS12 HK12 HN12 HB12 HZ12
          go_wp2_with (first | with_reducible (refine stop_make 32 ?_))
          refine Stop.go ?_
          refine law_make w13.heap.size 12 12 rfl rfl (by decide) (by decide) (Nat.le_refl _) ?_
          intro w14 hm14 hg14
          have b14 : Below w13.heap.size w13 w14 := (Below.refl _ w13).grown hg14 (Nat.le_refl _) (fun k hk => by cases hk)
          have HS14 : Hid (SuIs w14 p q m x L2) := HS13.out.below b14
          have HK14 : Hid (w14.ownsRow w10.heap.size 5 1 (.slice qk 32 ck) 32 (ints .u8 (Su.sign 75 (L.length + 1)))) := own_only (bs := []) HK13.out (Only.of_below b14 []) (fun _ _ hx => by cases hx)
          have HX14 : Hid (w14.ownsRow w12.heap.size 5 1 (.slice qx 16 cx) 16 (ints .u8 (Su.box (L1.length + 1) 0))) := own_only (bs := []) HX13.out (Only.of_below b14 []) (fun _ _ hx => by cases hx)
          have HN14 : Hid (w14.ownsRow w13.heap.size 5 1 (.slice (some ⟨w13.heap.size, 0, none⟩) 12 12) 12 (ints .u8 (List.replicate 12 0))) := hm14
          have HB14 : Hid (Below w.heap.size w w14) := HB13.out.trans (b14.mono HB13.out.size)
          clear hm14 hg14 b14 HS13 HK13 HB13 HX13
          go_wp2_with fail
          refine (Seal_ok (Su.sign 75 (L.length + 1)) (List.replicate 12 0) [] [] _ _ _ _ p q m x L2 w14 HS14.out (fun w1 h1 => Src.own (Su.sign_lt (by decide) _) (own_only HK14.out h1 (own_off HK14.out HNO.out))) (fun w1 h1 => Src.own (fun y hy => by rw [List.eq_of_mem_replicate hy]; decide) (own_only HN14.out h1 (own_off HN14.out (fun y hy => Nat.lt_of_lt_of_le (HNO.out y hy) HZ13.out.1)))) (fun w1 _ => Src.nil _) (fun w1 _ => Src.nil _) (Su.sign_length _ _) (by simp) (by simp) (by rw [HL2.out]; have := HLL2.out; omega)).mono ?_
          rintro e w15 ⟨x2, rfl, hx15', hs15, ho15⟩
          have hx15 : w15.ownsRow w14.heap.size 5 1 x2 16 (ints .u8 (Su.box (L2.length + 1) 0)) := hx15'
          clear hx15'
          have hc1 : (convert 32 9 (.slice qx 16 cx)).run Tryd.prog w15 = .ok (.string (strB (Su.box (L1.length + 1) 0))) w15 := conv_src (Src.own (Su.box_lt _ _) (own_only HX14.out ho15 (own_off HX14.out (fun y hy => Nat.lt_of_lt_of_le (HNO.out y hy) HZ13.out.2))))
          have hc2 : (convert 32 9 x2).run Tryd.prog w15 = .ok (.string (strB (Su.box (L2.length + 1) 0))) w15 := conv_src (Src.own (Su.box_lt _ _) hx15)
          have HB15 : Hid (Below w.heap.size w w15) := HB14.out.trans (ho15.below HB14.out.size (fun y hy => (HPX.out y hy).1))
          have hne : ((strB (Su.box (L1.length + 1) 0)).toList == (strB (Su.box (L2.length + 1) 0)).toList) = false := by
            rw [strB_beqL (Su.box_lt _ _) (Su.box_lt _ _), decide_eq_false_iff_not]
            intro e
            have h1 := congrArg Su.last e
            rw [Su.last_box (by rw [HL1.out]; have := HLL2.out; omega), Su.last_box (by rw [HL2.out]; have := HLL2.out; omega), HL1.out, HL2.out] at h1
            omega
          have HCN : ∀ W, W = w15 → Calls Tryd.prog 23 #[.pointer (some ⟨p, 0, none⟩)] W fun e w' => e = .returned (.int .i64 ((L.length : Int) + 3)) ∧ w' = w15 := by
            rintro W rfl
            have h1 := count_any p _ _ _ W hs15.box
            rw [List.length_append, HL2.out] at h1
            exact h1
          obtain ⟨qy, cy, rfl⟩ := own_slice hx15
          clear hx15 hs15 ho15 HS14 HK14 HX14 HN14 HB14
          generalize strB (Su.box (L1.length + 1) 0) = A1 at *
          generalize strB (Su.box (L2.length + 1) 0) = A2 at *
          generalize L.length = ll at *
          go_wp2_with (first | (go_at_call 23; refine (HCN _ rfl).mono ?_; rintro e w16 ⟨rfl, rfl⟩))
          go_ret
          exact ⟨rfl, HB15.out⟩
theorem once_any (a b : Option Addr) (n ca kn cb : Nat) (w : World) (h : n ≤ 9223372036854775807 ∧ ∃ ls : List (List Nat), ls.length = n ∧ RowsIs w a ls) (hK : RowIs w b kn cb) :
    Calls Tryd.prog 8 #[.slice a n ca, .slice b kn cb] w fun e w' => e = .returned (.bool true) ∧ Below w.heap.size w w' := by
  by_cases h1 : 20 < n ∨ 100 < kn
  · exact once_early a b n ca kn cb w h1
  · obtain ⟨_, ls, hls, hR⟩ := h
    obtain ⟨lk, hlk, hsk⟩ := Src.of hK
    exact once_main ls lk a b n ca kn cb w hls (by omega) hR hsk hlk (by omega)
end Go.Proofs.YtbblokikhocdfaaDoor.S7
