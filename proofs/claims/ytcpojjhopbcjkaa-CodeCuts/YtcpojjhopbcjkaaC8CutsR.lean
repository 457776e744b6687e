/- How parts are read off bytes that are whole, or cut off. -/
import Derived.Test.YtcpojjhopbcjkaaC8RText
namespace Go.Proofs.Ytcpojjhopbcjkaa.C8
open Go.RowKit
/-- What is left of whole bytes. -/
def OkAt (w : World) (p g o : Nat) (ps : List Pt) (j : Nat) (more : List Nat) : Prop := RdAt w p g o (Cd.enc (ps.drop j) ++ more) false
/-- What is left of bytes that were cut off: the reader is bad, or something lacks. -/
def CutAt (w : World) (p g o : Nat) (ps : List Pt) (j : Nat) : Prop := ∃ l bad, RdAt w p g o l bad ∧ ((bad = true ∧ l = []) ∨ (bad = false ∧ ∃ k, l = (Cd.enc (ps.drop j)).take k ∧ k < (Cd.enc (ps.drop j)).length))
theorem OkAt.below {w w' : World} {p g o j : Nat} {ps : List Pt} {more : List Nat} (h : OkAt w p g o ps j more) (hb : Below w.heap.size w w') : OkAt w' p g o ps j more := RdAt.below h hb
theorem CutAt.below {w w' : World} {p g o j : Nat} {ps : List Pt} (h : CutAt w p g o ps j) (hb : Below w.heap.size w w') : CutAt w' p g o ps j := by
  obtain ⟨l, bad, h1, h2⟩ := h
  exact ⟨l, bad, h1.below hb, h2⟩
theorem OkAt.step {w : World} {p g o j : Nat} {ps : List Pt} {more : List Nat} {isT : Bool} (h : OkAt w p g o ps j more) (hj : j < ps.length) (hw : Cd.wrong ps[j] = 0) (hi : isT = ps[j].isText) :
    Calls Try.prog (if isT then 15 else 16) #[.pointer (some ⟨p, 0, none⟩), .int .i64 0, .int .i64 (if isT then 4096 else 1099511627776)] w fun e w' => ∃ v, e = .returned v ∧ (∃ o2, OkAt w' p g o2 ps (j + 1) more) ∧ Only [p] w w' := by
  unfold OkAt at h
  rw [List.drop_eq_getElem_cons hj, Cd.enc, List.append_assoc] at h
  cases isT with
  | true => exact (part_text w p g o _ _ h hi.symm hw).mono (by rintro e w' ⟨v, rfl, _, h2, h3⟩; exact ⟨v, rfl, ⟨_, h2⟩, h3⟩)
  | false => exact (part_num w p g o _ _ h hi.symm hw).mono (by rintro e w' ⟨rfl, h2, h3⟩; exact ⟨_, rfl, ⟨_, h2⟩, h3⟩)
theorem CutAt.step {w : World} {p g o j : Nat} {ps : List Pt} {isT : Bool} (h : CutAt w p g o ps j) (hj : j < ps.length) (hw : Cd.wrong ps[j] = 0) (hi : isT = ps[j].isText) :
    Calls Try.prog (if isT then 15 else 16) #[.pointer (some ⟨p, 0, none⟩), .int .i64 0, .int .i64 (if isT then 4096 else 1099511627776)] w fun e w' => ∃ v, e = .returned v ∧ (∃ o2, CutAt w' p g o2 ps (j + 1)) ∧ Only [p] w w' := by
  have lack : ∀ l bad, RdAt w p g o l bad → (isT = true → l.length < 2 ∨ l.length < 2 + Cd.val (l.take 2)) → (isT = false → l.length < 6) →
      Calls Try.prog (if isT then 15 else 16) #[.pointer (some ⟨p, 0, none⟩), .int .i64 0, .int .i64 (if isT then 4096 else 1099511627776)] w fun e w' => ∃ v, e = .returned v ∧ (∃ o2, CutAt w' p g o2 ps (j + 1)) ∧ Only [p] w w' := by
    intro l bad hR ht hf
    cases isT with
    | true => exact (Text_lack w p g o l bad 0 4096 hR ((ht rfl).elim .inl (fun h => .inr (.inl h)))).mono (by rintro e w' ⟨rfl, h2, h3⟩; exact ⟨_, rfl, ⟨o, [], true, h2, .inl ⟨rfl, rfl⟩⟩, h3⟩)
    | false => exact (Number_lack w p g o l bad 0 1099511627776 hR (.inl (hf rfl))).mono (by rintro e w' ⟨rfl, h2, h3⟩; exact ⟨_, rfl, ⟨o, [], true, h2, .inl ⟨rfl, rfl⟩⟩, h3⟩)
  obtain ⟨l, bad, hR, ⟨rfl, rfl⟩ | ⟨rfl, k, rfl, hk⟩⟩ := h
  · exact lack [] true hR (fun _ => .inl (by simp)) (fun _ => by simp)
  · have hd : Cd.enc (ps.drop j) = Cd.one ps[j] ++ Cd.enc (ps.drop (j + 1)) := by rw [List.drop_eq_getElem_cons hj, Cd.enc]
    rw [hd] at hR hk
    obtain ⟨E, hE⟩ : ∃ E, Cd.enc (ps.drop (j + 1)) = E := ⟨_, rfl⟩
    rw [hE] at hR hk hd
    by_cases h1 : k < (Cd.one ps[j]).length
    · refine lack _ false hR (fun ht => ?_) (fun hf => ?_)
      · have e1 : Cd.one ps[j] = Cd.be 2 ps[j].text.length ++ ps[j].text := by unfold Cd.one; rw [if_pos (by rw [← hi]; exact ht)]
        have hl : ps[j].text.length ≤ 4096 := by
          unfold Cd.wrong at hw
          rw [if_pos (by rw [← hi]; exact ht)] at hw
          split at hw <;> omega
        rw [e1, List.length_append, Cd.be_length] at h1
        by_cases h2 : k < 2
        · left
          rw [List.length_take]
          omega
        · right
          rw [e1, List.append_assoc, List.take_take, Nat.min_eq_left (by omega), val2 _ (by omega), List.length_take]
          omega
      · have e1 : Cd.one ps[j] = Cd.be 6 ps[j].n.toNat := by unfold Cd.one; rw [if_neg (by rw [← hi, hf]; simp)]
        rw [e1, Cd.be_length] at h1
        rw [List.length_take]
        omega
    · have e2 : (Cd.one ps[j] ++ E).take k = Cd.one ps[j] ++ E.take (k - (Cd.one ps[j]).length) := by rw [List.take_append, List.take_of_length_le (by omega)]
      rw [e2] at hR
      have hk2 : k - (Cd.one ps[j]).length < E.length := by rw [List.length_append] at hk; omega
      have fin : ∀ w' o2, RdAt w' p g o2 (E.take (k - (Cd.one ps[j]).length)) false → Cd.enc (ps.drop (j + 1)) = E → ∃ o2, CutAt w' p g o2 ps (j + 1) := fun w' o2 h3 h4 => ⟨o2, _, false, h3, .inr ⟨rfl, _, by rw [h4], by rw [h4]; exact hk2⟩⟩
      cases isT with
      | true => exact (part_text w p g o _ _ hR hi.symm hw).mono (by rintro e w' ⟨v, rfl, _, h2, h3⟩; exact ⟨v, rfl, fin w' _ h2 hE, h3⟩)
      | false => exact (part_num w p g o _ _ hR hi.symm hw).mono (by rintro e w' ⟨rfl, h2, h3⟩; exact ⟨_, rfl, fin w' _ h2 hE, h3⟩)
set_option maxHeartbeats 4000000 in
theorem read_ok (ps : List Pt) (a : Option Addr) (n c lb : Nat) (sv : Value) (w0 w : World) (hn : ps.length = n) (hl : n ≤ 20) (hp : PartRow w0 a ps) (hb0 : Below w0.heap.size w0 w) (he : Cd.err ps = 0) (hbox : w.cell? ⟨lb, 0, none⟩ = some (.slice a n c)) (more : List Nat) (hs : Src w sv (Cd.enc ps ++ more)) (hml : more.length ≤ 1000) :
    Calls Try.prog 22 #[sv, .pointer (some ⟨lb, 0, none⟩)] w fun e w' => e = .returned (.bool (decide (more.length = 0))) ∧ Below w.heap.size w w' := by
  have HP : Hid (PartRow w a ps) := hp.moved hb0
  have HN : Hid (ps.length = n) := hn
  have HE : Hid (Cd.err ps = 0) := he
  have n1 : (n : Int) ≤ 20 := by omega
  have hll : (Cd.enc ps).length ≤ 90000 := by
    have h1 := Cd.enc_length_le (Cd.wrong_of_err he)
    omega
  have HRC : ∀ W, W = w → Calls Try.prog 14 #[sv] W fun e w' => ∃ p g o, e = .returned (.pointer (some ⟨p, 0, none⟩)) ∧ Hid (OkAt w' p g o ps 0 more) ∧ Hid (w.heap.size ≤ p) ∧ Hid (Below w.heap.size w w') ∧ w'.cell? ⟨lb, 0, none⟩ = some (.slice a n c) := by
    rintro W rfl
    refine (Read_any _ _ W hs (by rw [List.length_append]; omega)).mono ?_
    rintro e w' ⟨p, g, o, rfl, h1, h2, h3, h4⟩
    refine ⟨p, g, o, rfl, h1, h2, h4, ?_⟩
    exact (h4.cell (p := ⟨lb, 0, none⟩) (World.block_lt_of_cell? W _ hbox)).trans hbox
  obtain ⟨qs, cs, rfl, -⟩ := hs.slice
  obtain ⟨res, HRS⟩ : ∃ res, Hid (decide (more.length = 0) = res) := ⟨_, rfl⟩
  rw [HRS.out]
  clear hs hp hb0 he hbox hll hml
  generalize (Cd.enc ps ++ more).length = sl at *
  go_enter Try.func22, Try.ntmps22
  go_wp2_with (first | (go_at_call 14; refine (HRC _ rfl).mono ?_; rintro e w1 ⟨p, g, o, rfl, HR1, HPW, HB1, hbox1⟩))
  go_loopw [11] (fun i wr => ∃ j : Nat, j ≤ n ∧ i = .int .i64 j ∧ Hid (∃ o, OkAt wr p g o ps j more) ∧ Hid (Below w.heap.size w wr)) (fun i _ => n - (intOf i).toNat)
  case atStart => exact ⟨0, by omega, rfl, ⟨o, HR1.out⟩, HB1.out⟩
  case round =>
    obtain ⟨j, hj, rfl, HRD, HB⟩ := hrel
    by_cases hlt : j < n
    · have hjp : j < ps.length := by rw [HN.out]; exact hlt
      obtain ⟨b, o', tv, rfl, hb, d0, d1, d2, hsv, ht⟩ := HP.out.below HB.out j hjp
      obtain ⟨sp, sc, rfl, -⟩ := hsv.1.slice
      have j1 : (j : Int) < (n : Int) := by omega
      have j0 : (0 : Int) ≤ (j : Int) := by omega
      have hw : Cd.wrong ps[j] = 0 := Cd.wrong_of_err HE.out _ (List.getElem_mem hjp)
      have HST : Hid (∀ isT, isT = ps[j].isText → ∀ o1, Calls Try.prog (if isT then 15 else 16) #[.pointer (some ⟨p, 0, none⟩), .int .i64 0, .int .i64 (if isT then 4096 else 1099511627776)] (wr.alloc o1) fun e w' => ∃ v, e = .returned v ∧ Hid (∃ o2, OkAt w' p g o2 ps (j + 1) more) ∧ Hid (Below w.heap.size w w')) := fun isT hi o1 => by
        obtain ⟨o, hR⟩ := HRD.out
        have hA : Below wr.heap.size wr (wr.alloc o1) := (Below.refl _ wr).alloc (Nat.le_refl _) _
        have hB : Below w.heap.size w (wr.alloc o1) := HB.out.trans (bel_le hA HB.out.size)
        refine (OkAt.step (hR.below hA) hjp hw hi).mono ?_
        rintro e w' ⟨v, rfl, h1, h2⟩
        exact ⟨v, rfl, h1, hB.trans (h2.below hB.size (by simpa using HPW.out))⟩
      have HST2 : Hid (∀ isT, isT = ps[j].isText → Calls Try.prog (if isT then 15 else 16) #[.pointer (some ⟨p, 0, none⟩), .int .i64 0, .int .i64 (if isT then 4096 else 1099511627776)] (wr.alloc (Obj.cells #[.bool ps[j].isText, .int .i64 ps[j].n, .slice sp ps[j].text.length sc] 30)) fun e w' => ∃ v, e = .returned v ∧ Hid (∃ o2, OkAt w' p g o2 ps (j + 1) more) ∧ Hid (Below w.heap.size w w')) := fun isT hi => HST.out isT hi _
      clear HST hw HRD HB hsv ht
      generalize ps[j] = pt at *
      clear hjp
      obtain ⟨isT, pn, tx⟩ := pt
      simp only at d0 d1 d2
      replace HST2 : Hid (Calls Try.prog (if isT then 15 else 16) #[.pointer (some ⟨p, 0, none⟩), .int .i64 0, .int .i64 (if isT then 4096 else 1099511627776)] (wr.alloc (Obj.cells #[.bool isT, .int .i64 pn, .slice sp tx.length sc] 30)) fun e w' => ∃ v, e = .returned v ∧ Hid (∃ o2, OkAt w' p g o2 ps (j + 1) more) ∧ Hid (Below w.heap.size w w')) := HST2.out isT rfl
      generalize tx.length = tl at *
      cases isT with
      | true =>
        have HCT : ∀ W, W = wr.alloc (Obj.cells #[.bool true, .int .i64 pn, .slice sp tl sc] 30) → Calls Try.prog 15 #[.pointer (some ⟨p, 0, none⟩), .int .i64 0, .int .i64 4096] W fun e w' => ∃ v, e = .returned v ∧ Hid (∃ o2, OkAt w' p g o2 ps (j + 1) more) ∧ Hid (Below w.heap.size w w') := by
          rintro W rfl
          exact HST2.out
        clear HST2
        go_wp2_with (first | (go_at_call 15; refine (HCT _ rfl).mono ?_; rintro e w3 ⟨v3, rfl, HR3, HB3⟩))
        refine ⟨⟨j + 1, by omega, by simp, HR3, HB3⟩, ?_⟩
        simp only [intOf]
        omega
      | false =>
        have HCT : ∀ W, W = wr.alloc (Obj.cells #[.bool false, .int .i64 pn, .slice sp tl sc] 30) → Calls Try.prog 16 #[.pointer (some ⟨p, 0, none⟩), .int .i64 0, .int .i64 1099511627776] W fun e w' => ∃ v, e = .returned v ∧ Hid (∃ o2, OkAt w' p g o2 ps (j + 1) more) ∧ Hid (Below w.heap.size w w') := by
          rintro W rfl
          exact HST2.out
        clear HST2
        go_wp2_with (first | (go_at_call 16; refine (HCT _ rfl).mono ?_; rintro e w3 ⟨v3, rfl, HR3, HB3⟩))
        refine ⟨⟨j + 1, by omega, by simp, HR3, HB3⟩, ?_⟩
        simp only [intOf]
        omega
    · obtain rfl : j = n := by omega
      have j1 : ¬ (j : Int) < (j : Int) := by omega
      have HEN : ∀ W, W = wr → Calls Try.prog 17 #[.pointer (some ⟨p, 0, none⟩)] W fun e w' => e = .returned (.bool res) ∧ w' = wr := by
        rintro W rfl
        obtain ⟨o, hR⟩ := HRD.out
        have h1 := End_any W p g o _ _ hR
        rw [List.drop_eq_nil_of_le (by rw [HN.out]; omega)] at h1
        have e1 : (!false && decide ((Cd.enc [] ++ more).length = 0)) = res := by rw [← HRS.out]; simp [Cd.enc]
        rwa [e1] at h1
      clear HRD
      go_wp2_with (first | (go_at_call 17; refine (HEN _ rfl).mono ?_; rintro e w3 ⟨rfl, rfl⟩))
      go_ret
      exact ⟨rfl, HB.out⟩
set_option maxHeartbeats 4000000 in
theorem read_cut (ps : List Pt) (a : Option Addr) (n c lb : Nat) (sv : Value) (w0 w : World) (hn : ps.length = n) (hl : n ≤ 20) (hp : PartRow w0 a ps) (hb0 : Below w0.heap.size w0 w) (he : Cd.err ps = 0) (hbox : w.cell? ⟨lb, 0, none⟩ = some (.slice a n c)) (k : Nat) (hs : Src w sv ((Cd.enc ps).take k)) (hk : k < (Cd.enc ps).length) :
    Calls Try.prog 22 #[sv, .pointer (some ⟨lb, 0, none⟩)] w fun e w' => e = .returned (.bool (false)) ∧ Below w.heap.size w w' := by
  have HP : Hid (PartRow w a ps) := hp.moved hb0
  have HN : Hid (ps.length = n) := hn
  have HE : Hid (Cd.err ps = 0) := he
  have n1 : (n : Int) ≤ 20 := by omega
  have hll : (Cd.enc ps).length ≤ 90000 := by
    have h1 := Cd.enc_length_le (Cd.wrong_of_err he)
    omega
  have HRC : ∀ W, W = w → Calls Try.prog 14 #[sv] W fun e w' => ∃ p g o, e = .returned (.pointer (some ⟨p, 0, none⟩)) ∧ Hid (CutAt w' p g o ps 0) ∧ Hid (w.heap.size ≤ p) ∧ Hid (Below w.heap.size w w') ∧ w'.cell? ⟨lb, 0, none⟩ = some (.slice a n c) := by
    rintro W rfl
    refine (Read_any _ _ W hs (by rw [List.length_take]; omega)).mono ?_
    rintro e w' ⟨p, g, o, rfl, h1, h2, h3, h4⟩
    refine ⟨p, g, o, rfl, ⟨_, _, h1, .inr ⟨rfl, k, rfl, hk⟩⟩, h2, h4, ?_⟩
    exact (h4.cell (p := ⟨lb, 0, none⟩) (World.block_lt_of_cell? W _ hbox)).trans hbox
  obtain ⟨qs, cs, rfl, -⟩ := hs.slice
  clear hk
  clear hs hp hb0 he hbox hll
  generalize ((Cd.enc ps).take k).length = sl at *
  go_enter Try.func22, Try.ntmps22
  go_wp2_with (first | (go_at_call 14; refine (HRC _ rfl).mono ?_; rintro e w1 ⟨p, g, o, rfl, HR1, HPW, HB1, hbox1⟩))
  go_loopw [11] (fun i wr => ∃ j : Nat, j ≤ n ∧ i = .int .i64 j ∧ Hid (∃ o, CutAt wr p g o ps j) ∧ Hid (Below w.heap.size w wr)) (fun i _ => n - (intOf i).toNat)
  case atStart => exact ⟨0, by omega, rfl, ⟨o, HR1.out⟩, HB1.out⟩
  case round =>
    obtain ⟨j, hj, rfl, HRD, HB⟩ := hrel
    by_cases hlt : j < n
    · have hjp : j < ps.length := by rw [HN.out]; exact hlt
      obtain ⟨b, o', tv, rfl, hb, d0, d1, d2, hsv, ht⟩ := HP.out.below HB.out j hjp
      obtain ⟨sp, sc, rfl, -⟩ := hsv.1.slice
      have j1 : (j : Int) < (n : Int) := by omega
      have j0 : (0 : Int) ≤ (j : Int) := by omega
      have hw : Cd.wrong ps[j] = 0 := Cd.wrong_of_err HE.out _ (List.getElem_mem hjp)
      have HST : Hid (∀ isT, isT = ps[j].isText → ∀ o1, Calls Try.prog (if isT then 15 else 16) #[.pointer (some ⟨p, 0, none⟩), .int .i64 0, .int .i64 (if isT then 4096 else 1099511627776)] (wr.alloc o1) fun e w' => ∃ v, e = .returned v ∧ Hid (∃ o2, CutAt w' p g o2 ps (j + 1)) ∧ Hid (Below w.heap.size w w')) := fun isT hi o1 => by
        obtain ⟨o, hR⟩ := HRD.out
        have hA : Below wr.heap.size wr (wr.alloc o1) := (Below.refl _ wr).alloc (Nat.le_refl _) _
        have hB : Below w.heap.size w (wr.alloc o1) := HB.out.trans (bel_le hA HB.out.size)
        refine (CutAt.step (hR.below hA) hjp hw hi).mono ?_
        rintro e w' ⟨v, rfl, h1, h2⟩
        exact ⟨v, rfl, h1, hB.trans (h2.below hB.size (by simpa using HPW.out))⟩
      have HST2 : Hid (∀ isT, isT = ps[j].isText → Calls Try.prog (if isT then 15 else 16) #[.pointer (some ⟨p, 0, none⟩), .int .i64 0, .int .i64 (if isT then 4096 else 1099511627776)] (wr.alloc (Obj.cells #[.bool ps[j].isText, .int .i64 ps[j].n, .slice sp ps[j].text.length sc] 30)) fun e w' => ∃ v, e = .returned v ∧ Hid (∃ o2, CutAt w' p g o2 ps (j + 1)) ∧ Hid (Below w.heap.size w w')) := fun isT hi => HST.out isT hi _
      clear HST hw HRD HB hsv ht
      generalize ps[j] = pt at *
      clear hjp
      obtain ⟨isT, pn, tx⟩ := pt
      simp only at d0 d1 d2
      replace HST2 : Hid (Calls Try.prog (if isT then 15 else 16) #[.pointer (some ⟨p, 0, none⟩), .int .i64 0, .int .i64 (if isT then 4096 else 1099511627776)] (wr.alloc (Obj.cells #[.bool isT, .int .i64 pn, .slice sp tx.length sc] 30)) fun e w' => ∃ v, e = .returned v ∧ Hid (∃ o2, CutAt w' p g o2 ps (j + 1)) ∧ Hid (Below w.heap.size w w')) := HST2.out isT rfl
      generalize tx.length = tl at *
      cases isT with
      | true =>
        have HCT : ∀ W, W = wr.alloc (Obj.cells #[.bool true, .int .i64 pn, .slice sp tl sc] 30) → Calls Try.prog 15 #[.pointer (some ⟨p, 0, none⟩), .int .i64 0, .int .i64 4096] W fun e w' => ∃ v, e = .returned v ∧ Hid (∃ o2, CutAt w' p g o2 ps (j + 1)) ∧ Hid (Below w.heap.size w w') := by
          rintro W rfl
          exact HST2.out
        clear HST2
        go_wp2_with (first | (go_at_call 15; refine (HCT _ rfl).mono ?_; rintro e w3 ⟨v3, rfl, HR3, HB3⟩))
        refine ⟨⟨j + 1, by omega, by simp, HR3, HB3⟩, ?_⟩
        simp only [intOf]
        omega
      | false =>
        have HCT : ∀ W, W = wr.alloc (Obj.cells #[.bool false, .int .i64 pn, .slice sp tl sc] 30) → Calls Try.prog 16 #[.pointer (some ⟨p, 0, none⟩), .int .i64 0, .int .i64 1099511627776] W fun e w' => ∃ v, e = .returned v ∧ Hid (∃ o2, CutAt w' p g o2 ps (j + 1)) ∧ Hid (Below w.heap.size w w') := by
          rintro W rfl
          exact HST2.out
        clear HST2
        go_wp2_with (first | (go_at_call 16; refine (HCT _ rfl).mono ?_; rintro e w3 ⟨v3, rfl, HR3, HB3⟩))
        refine ⟨⟨j + 1, by omega, by simp, HR3, HB3⟩, ?_⟩
        simp only [intOf]
        omega
    · obtain rfl : j = n := by omega
      have j1 : ¬ (j : Int) < (j : Int) := by omega
      have HEN : ∀ W, W = wr → Calls Try.prog 17 #[.pointer (some ⟨p, 0, none⟩)] W fun e w' => e = .returned (.bool false) ∧ w' = wr := by
        rintro W rfl
        obtain ⟨o, hR⟩ := HRD.out
        obtain ⟨l, bad, h1, ⟨rfl, rfl⟩ | ⟨rfl, k, rfl, hk⟩⟩ := hR
        · exact End_any W p g o _ _ h1
        · rw [List.drop_eq_nil_of_le (by rw [HN.out]; omega)] at hk
          simp [Cd.enc] at hk
      clear HRD
      go_wp2_with (first | (go_at_call 17; refine (HEN _ rfl).mono ?_; rintro e w3 ⟨rfl, rfl⟩))
      go_ret
      exact ⟨rfl, HB.out⟩
end Go.Proofs.Ytcpojjhopbcjkaa.C8
