/- ChainForks: the main way. -/
import Derived.Test.YtkiohhkmlpgdoaaDoorC12Small
namespace Go.Proofs.YtkiohhkmlpgdoaaDoor.S7
open Go.RowKit
theorem one_small {B : Nat} {w : World} {p q m x c : Nat} {L : List Su.Thing} {ls ss : List (List Nat)} (h : One B w p q m x c L ls ss) {j : Nat} {l : List Nat} (hl : ls[j]? = some l) : ∀ y ∈ l, y < 256 := by
  obtain ⟨lv, sv, hc⟩ := h.ch
  obtain ⟨xs, hx⟩ := hc.links
  have hj := get_lt hl
  obtain ⟨g, cc, v, _, _, _, hb⟩ := hx.at hj
  rw [List.getElem?_eq_getElem hj] at hl
  rw [← Option.some.inj hl]
  exact hb.src.small
set_option maxHeartbeats 16000000 in
set_option maxRecDepth 20000 in
theorem fk_main (w : World) (a1 : Option Addr) (n1 c1 : Nat) (a2 : Option Addr) (n2 c2 : Nat) (m n : Nat) (al bl : List (List Nat)) (h1 : RowsIs w a1 al) (hn1 : al.length = n1) (h2 : RowsIs w a2 bl) (hn2 : bl.length = n2) (hs1 : sml al = true) (hs2 : sml bl = true) (k0 : n1 ≤ 20) (k1 : n2 ≤ 20) (k2 : 1 ≤ m ∧ m ≤ 1099511627776) (k3 : 1 ≤ n ∧ n ≤ 1099511627776) :
    Calls Tryd.prog 5 #[.slice a1 n1 c1, .slice a2 n2 c2, .int .i64 (m : Int), .int .i64 (n : Int)] w fun e w' => e = .returned (.bool true) ∧ Below w.heap.size w w' := by
  obtain ⟨B, hBe⟩ : ∃ B, B = w.heap.size := ⟨_, rfl⟩
  have HBE : Hid (B = w.heap.size) := hBe
  rw [← hBe]
  clear hBe
  have H1 : Hid (RowsIs w a1 al) := h1
  have HN1 : Hid (al.length = n1) := hn1
  have H2 : Hid (RowsIs w a2 bl) := h2
  have HN2 : Hid (bl.length = n2) := hn2
  have HS1 : Hid (sml al = true) := hs1
  have HS2 : Hid (sml bl = true) := hs2
  have HSML1 : Hid (∀ y ∈ al, y.length ≤ 300) := by
    show ∀ y ∈ al, y.length ≤ 300
    unfold sml at hs1
    exact of_decide_eq_true (Bool.and_eq_true_iff.1 hs1).1
  have HSML2 : Hid (∀ y ∈ bl, y.length ≤ 300) := by
    show ∀ y ∈ bl, y.length ≤ 300
    unfold sml at hs2
    exact of_decide_eq_true (Bool.and_eq_true_iff.1 hs2).1
  have HMN : Hid ((1 ≤ m ∧ m ≤ 1099511627776) ∧ (1 ≤ n ∧ n ≤ 1099511627776)) := ⟨k2, k3⟩
  have q0 : ¬ (20 : Int) < (n1 : Int) := by omega
  have q1 : ¬ (20 : Int) < (n2 : Int) := by omega
  have q2 : ¬ (m : Int) < 1 := by omega
  have q3 : ¬ 1099511627776 < (m : Int) := by omega
  have q4 : ¬ (n : Int) < 1 := by omega
  have q5 : ¬ 1099511627776 < (n : Int) := by omega
  have z0 : (0 : Int) ≤ (n1 : Int) := by omega
  have z1 : (n1 : Int) ≤ 20 := by omega
  have z2 : (0 : Int) ≤ (n2 : Int) := by omega
  have z3 : (n2 : Int) ≤ 20 := by omega
  clear h1 hn1 h2 hn2 hs1 hs2 k2 k3
  go_enter Tryd.func5, Tryd.ntmps5
  go_wp2_with fail
  refine (anchor_any w).mono ?_
  rintro e w1 ⟨rfl, hb1⟩
  have HB1 : Hid (Below w.heap.size w w1) := hb1
  clear hb1
  go_wp2_with fail
  refine (small_any w w1 a1 n1 c1 al H1.out HB1.out HN1.out (by omega) (s := true) HS1.out).mono ?_
  rintro e w9 ⟨rfl, hw9⟩
  obtain rfl : w1 = w9 := hw9.symm
  clear hw9
  go_wp2_with fail
  refine (small_any w w1 a2 n2 c2 bl H2.out HB1.out HN2.out (by omega) (s := true) HS2.out).mono ?_
  rintro e w9 ⟨rfl, hw9⟩
  obtain rfl : w1 = w9 := hw9.symm
  clear hw9
  go_wp2_with fail
  have G1 : Hid (Below B w w1 ∧ B ≤ w1.heap.size) := ⟨by rw [HBE.out]; exact HB1.out, by rw [HBE.out]; exact HB1.out.size⟩
  clear HB1 HS1 HS2
  refine (Signs_new w1).mono ?_
  rintro e w2 ⟨p, q, m', x, rfl, hs, hb⟩
  have G2 : Hid (Sw B w2 p q m' x [] ∧ Below B w w2 ∧ B ≤ w2.heap.size) := ⟨⟨hs.su, by have := hs.lo; have := G1.out.2; omega⟩, G1.out.1.trans (hb.mono G1.out.2), Nat.le_trans G1.out.2 hb.size⟩
  clear hs hb G1
  go_wp2_with fail
  refine (one_new (n := m) G2.out.1 (by simp) G2.out.2.2 HMN.out.1).mono ?_
  rintro e w3 ⟨c, rfl, ho, hk⟩
  have G3 : Hid (One B w3 p q m' x c (ad [] (lock6 ++ first m)) [] [sg [] (lock6 ++ first m)] ∧ Below B w w3 ∧ B ≤ w3.heap.size) := ⟨ho, G2.out.2.1.trans hk.low, Nat.le_trans G2.out.2.2 hk.low.size⟩
  clear ho hk G2
  go_wp2_with fail
  refine (two_new (n := n) G3.out.1 (by have := ad_length [] (lock6 ++ first m); simp at this; omega) HMN.out.2).mono ?_
  rintro e w4 ⟨d, rfl, ho, hk⟩
  obtain ⟨L0, hL0⟩ : ∃ L0, L0 = ad (ad [] (lock6 ++ first m)) (lock6 ++ first n) := ⟨_, rfl⟩
  obtain ⟨rc, hrc⟩ : ∃ rc, rc = sg [] (lock6 ++ first m) := ⟨_, rfl⟩
  obtain ⟨rd, hrd⟩ : ∃ rd, rd = sg (ad [] (lock6 ++ first m)) (lock6 ++ first n) := ⟨_, rfl⟩
  have G3' : Hid (Two B w4 p q m' x c d L0 [] [rc] [] [rd] ∧ Below B w w4 ∧ B ≤ w4.heap.size) := ⟨by rw [hL0, hrc, hrd]; exact ho, G3.out.2.1.trans hk.low, Nat.le_trans G3.out.2.2 hk.low.size⟩
  have HC3 : Hid (Chn L0 m [] [rc] ∧ Chn L0 n [] [rd]) := by rw [hL0, hrc, hrd]; exact ⟨(Chn.new [] m).ad _, Chn.new _ n⟩
  have HC3L : Hid (L0.length ≤ 0 + 2) := by
    have h1 := ad_length [] (lock6 ++ first m)
    have h2 := ad_length (ad [] (lock6 ++ first m)) (lock6 ++ first n)
    rw [hL0]
    simp only [List.length_nil] at h1
    show _ ≤ _
    omega
  clear ho hk G3 hL0 hrc hrd
  go_wp2_with fail
  go_loopw [77] (fun i wr => ∃ (j : Nat) (L4 : List Su.Thing) (la sa : List (List Nat)), j ≤ n1 ∧ i = .int .i64 j ∧ Hid (Two B wr p q m' x c d L4 la sa [] [rd] ∧ Below B w wr ∧ B ≤ wr.heap.size) ∧ Hid ((Chn L4 m la sa ∧ Chn L4 n [] [rd]) ∧ la.length ≤ j ∧ (∀ y ∈ la, y.length ≤ 300) ∧ L4.length ≤ j + 2)) (fun i _ => n1 - (intOf i).toNat)
  case atStart => exact ⟨0, L0, [], [rc], by omega, rfl, G3'.out, HC3.out, by simp, by simp, HC3L.out⟩
  case round =>
    obtain ⟨j, L4, la, sa, hj, rfl, GJ, HC⟩ := hrel
    clear G3'
    have j0 : (0 : Int) ≤ (j : Int) := by omega
    by_cases hlt : j < n1
    · have j1 : (j : Int) < (n1 : Int) := by omega
      have ja : j < al.length := by rw [HN1.out]; exact hlt
      obtain ⟨b, o, pp, cc, hq, hc, hby⟩ := H1.out.at HBE.out GJ.out.2.1 ja
      subst hq
      have h3 := HSML1.out _ (List.getElem_mem ja)
      generalize al[j] = y at *
      have HBY : Hid (By B wr (.slice pp y.length cc) y) := hby
      clear hby ja
      obtain ⟨l, hl⟩ := HC.out.1.1.last
      have hl32 := (HC.out.1.1.size hl).1
      have HMS : Hid (sa.length ≤ 1000 ∧ L4.length < 1000000 ∧ la.length < 64) := ⟨by rw [HC.out.1.1.len]; have := HC.out.2.1; omega, by have := HC.out.2.2.2; omega, by have := HC.out.2.1; omega⟩
      by_cases hy : y.length < 1
      · obtain ⟨lv, sv, hch⟩ := GJ.out.1.one.ch
        have HAP := Append_size B c p lv sv la sa wr pp y.length cc hch (.inl hy)
        have HC8 : Hid ((Chn L4 m la sa ∧ Chn L4 n [] [rd]) ∧ la.length ≤ j + 1 ∧ (∀ y ∈ la, y.length ≤ 300) ∧ L4.length ≤ j + 2 + 1) := ⟨HC.out.1, Nat.le_succ_of_le HC.out.2.1, HC.out.2.2.1, Nat.le_succ_of_le HC.out.2.2.2⟩
        clear hch HC hl hl32
        generalize y.length = yl at *
        go_wp2_with fail
        refine HAP.mono ?_
        rintro e w8 ⟨rfl, hw⟩
        obtain rfl : wr = w8 := hw.symm
        clear hw HAP
        go_wp2_with fail
        refine ⟨⟨j + 1, L4, la, sa, by omega, by simp, GJ, ⟨HC8.out.1, HC8.out.2.1, HC8.out.2.2.1, by have := HC8.out.2.2.2; omega⟩⟩, ?_⟩
        simp only [intOf]
        omega
      · have HAP := two_append GJ.out.1 HMS.out.2.1 HBY.out (by omega) HMS.out.2.2 hl (by omega) HMS.out.1
        have HC8 : Hid ((Chn (ad L4 (l ++ y)) m (la ++ [y]) (sa ++ [sg L4 (l ++ y)]) ∧ Chn (ad L4 (l ++ y)) n [] [rd]) ∧ (la ++ [y]).length ≤ j + 1 ∧ (∀ z ∈ la ++ [y], z.length ≤ 300) ∧ (ad L4 (l ++ y)).length ≤ j + 2 + 1) := ⟨⟨HC.out.1.1.push hl, HC.out.1.2.ad _⟩, by rw [List.length_append]; exact Nat.succ_le_succ HC.out.2.1, fun z hz => (List.mem_append.1 hz).elim (HC.out.2.2.1 z) (fun e => by rw [List.mem_singleton.1 e]; exact h3), Nat.le_trans (ad_length _ _) (Nat.succ_le_succ HC.out.2.2.2)⟩
        have HGG : Hid (Below B w wr ∧ B ≤ wr.heap.size) := GJ.out.2
        clear HC hl hl32 GJ
        go_wp2_with fail
        refine HAP.mono ?_
        rintro e w8 ⟨rfl, ho, hk⟩
        have G8 : Hid (Two B w8 p q m' x c d (ad L4 (l ++ y)) (la ++ [y]) (sa ++ [sg L4 (l ++ y)]) [] [rd] ∧ Below B w w8 ∧ B ≤ w8.heap.size) := ⟨ho, HGG.out.1.trans hk.low, Nat.le_trans HGG.out.2 hk.low.size⟩
        clear ho hk HAP
        go_wp2_with fail
        refine ⟨⟨j + 1, _, _, _, by omega, by simp, G8, ⟨HC8.out.1, HC8.out.2.1, HC8.out.2.2.1, by have := HC8.out.2.2.2; omega⟩⟩, ?_⟩
        simp only [intOf]
        omega
    · obtain rfl : j = n1 := by omega
      have j1 : ¬ (j : Int) < (j : Int) := by omega
      have G4 : Hid (Two B wr p q m' x d c L4 [] [rd] la sa ∧ Below B w wr ∧ B ≤ wr.heap.size) := ⟨GJ.out.1.symm, GJ.out.2⟩
      have HC4 : Hid ((Chn L4 n [] [rd] ∧ Chn L4 m la sa) ∧ L4.length ≤ 0 + 22) := ⟨⟨HC.out.1.2, HC.out.1.1⟩, by have := HC.out.2.2.2; omega⟩
      have HC4A : Hid (la.length ≤ 20 ∧ ∀ y ∈ la, y.length ≤ 300) := ⟨by have := HC.out.2.1; omega, HC.out.2.2.1⟩
      clear HC GJ hlt j0 j1 hj HC3 HC3L
      go_wp2_with fail
      rename_i wq0
      go_loopw [87] (fun i wr => ∃ (j : Nat) (L : List Su.Thing) (ls ss : List (List Nat)), j ≤ n2 ∧ i = .int .i64 j ∧ Hid (Two B wr p q m' x d c L ls ss la sa ∧ Below B w wr ∧ B ≤ wr.heap.size) ∧ Hid ((Chn L n ls ss ∧ Chn L m la sa) ∧ ls.length ≤ j ∧ (∀ y ∈ ls, y.length ≤ 300) ∧ L.length ≤ j + 22)) (fun i _ => n2 - (intOf i).toNat)
      case atStart => exact ⟨0, L4, [], [rd], by omega, rfl, G4.out, HC4.out.1, by simp, by simp, HC4.out.2⟩
      case round =>
        obtain ⟨j, L, ls, ss, hj, rfl, GJ, HC⟩ := hrel
        clear G4
        have j0 : (0 : Int) ≤ (j : Int) := by omega
        by_cases hlt : j < n2
        · have j1 : (j : Int) < (n2 : Int) := by omega
          have ja : j < bl.length := by rw [HN2.out]; exact hlt
          obtain ⟨b, o, pp, cc, hq, hc, hby⟩ := H2.out.at HBE.out GJ.out.2.1 ja
          subst hq
          have h3 := HSML2.out _ (List.getElem_mem ja)
          generalize bl[j] = y at *
          have HBY : Hid (By B wr (.slice pp y.length cc) y) := hby
          clear hby ja
          obtain ⟨l, hl⟩ := HC.out.1.1.last
          have hl32 := (HC.out.1.1.size hl).1
          have HMS : Hid (ss.length ≤ 1000 ∧ L.length < 1000000 ∧ ls.length < 64) := ⟨by rw [HC.out.1.1.len]; have := HC.out.2.1; omega, by have := HC.out.2.2.2; omega, by have := HC.out.2.1; omega⟩
          by_cases hy : y.length < 1
          · obtain ⟨lv, sv, hch⟩ := GJ.out.1.one.ch
            have HAP := Append_size B d p lv sv ls ss wr pp y.length cc hch (.inl hy)
            have HC8 : Hid ((Chn L n ls ss ∧ Chn L m la sa) ∧ ls.length ≤ j + 1 ∧ (∀ y ∈ ls, y.length ≤ 300) ∧ L.length ≤ j + 22 + 1) := ⟨HC.out.1, Nat.le_succ_of_le HC.out.2.1, HC.out.2.2.1, Nat.le_succ_of_le HC.out.2.2.2⟩
            clear hch HC hl hl32
            generalize y.length = yl at *
            go_wp2_with fail
            refine HAP.mono ?_
            rintro e w8 ⟨rfl, hw⟩
            obtain rfl : wr = w8 := hw.symm
            clear hw HAP
            go_wp2_with fail
            refine ⟨⟨j + 1, L, ls, ss, by omega, by simp, GJ, ⟨HC8.out.1, HC8.out.2.1, HC8.out.2.2.1, by have := HC8.out.2.2.2; omega⟩⟩, ?_⟩
            simp only [intOf]
            omega
          · have HAP := two_append GJ.out.1 HMS.out.2.1 HBY.out (by omega) HMS.out.2.2 hl (by omega) HMS.out.1
            have HC8 : Hid ((Chn (ad L (l ++ y)) n (ls ++ [y]) (ss ++ [sg L (l ++ y)]) ∧ Chn (ad L (l ++ y)) m la sa) ∧ (ls ++ [y]).length ≤ j + 1 ∧ (∀ z ∈ ls ++ [y], z.length ≤ 300) ∧ (ad L (l ++ y)).length ≤ j + 22 + 1) := ⟨⟨HC.out.1.1.push hl, HC.out.1.2.ad _⟩, by rw [List.length_append]; exact Nat.succ_le_succ HC.out.2.1, fun z hz => (List.mem_append.1 hz).elim (HC.out.2.2.1 z) (fun e => by rw [List.mem_singleton.1 e]; exact h3), Nat.le_trans (ad_length _ _) (Nat.succ_le_succ HC.out.2.2.2)⟩
            have HGG : Hid (Below B w wr ∧ B ≤ wr.heap.size) := GJ.out.2
            clear HC hl hl32 GJ
            go_wp2_with fail
            refine HAP.mono ?_
            rintro e w8 ⟨rfl, ho, hk⟩
            have G8 : Hid (Two B w8 p q m' x d c (ad L (l ++ y)) (ls ++ [y]) (ss ++ [sg L (l ++ y)]) la sa ∧ Below B w w8 ∧ B ≤ w8.heap.size) := ⟨ho, HGG.out.1.trans hk.low, Nat.le_trans HGG.out.2 hk.low.size⟩
            clear ho hk HAP
            go_wp2_with fail
            refine ⟨⟨j + 1, _, _, _, by omega, by simp, G8, ⟨HC8.out.1, HC8.out.2.1, HC8.out.2.2.1, by have := HC8.out.2.2.2; omega⟩⟩, ?_⟩
            simp only [intOf]
            omega
        · obtain rfl : j = n2 := by omega
          have j1 : ¬ (j : Int) < (j : Int) := by omega
          have HD : Hid (Chn L m la sa ∧ Chn L n ls ss ∧ L.length < 1000000 ∧ la.length ≤ 20 ∧ ls.length ≤ 20 ∧ (∀ y ∈ la, y.length ≤ 300) ∧ (∀ y ∈ ls, y.length ≤ 300)) := ⟨HC.out.1.2, HC.out.1.1, by have := HC.out.2.2.2; omega, HC4A.out.1, by have := HC.out.2.1; omega, HC4A.out.2, HC.out.2.2.1⟩
          have G5 : Hid (Two B wr p q m' x c d L la sa ls ss ∧ Below B w wr ∧ B ≤ wr.heap.size) := ⟨GJ.out.1.symm, GJ.out.2⟩
          clear HC GJ HC4 HC4A hlt j0 j1 hj H1 H2 HN1 HN2 HSML1 HSML2
          obtain ⟨e0, HE0⟩ : ∃ e0, Hid (((m : Int) == (n : Int)) = e0) := ⟨_, rfl⟩
          have he0 := HE0.out
          go_wp2_with fail
          rename_i wq
          go_loopw [18, 19] (fun s i wr => ∃ (k : Nat), k ≤ min la.length ls.length + 1 ∧ i = .int .i64 k ∧ s = .bool (decide (m = n ∧ la.take (k - 1) = ls.take (k - 1))) ∧ Hid (Two B wr p q m' x c d L la sa ls ss ∧ Below B w wr ∧ B ≤ wr.heap.size)) (fun _ i _ => min la.length ls.length + 1 - (intOf i).toNat)
          case atStart =>
            refine ⟨0, by omega, rfl, ?_, G5.out⟩
            rw [← HE0.out]
            by_cases e : m = n
            · subst e; simp
            · have : ¬ (m : Int) = (n : Int) := by omega
              simp [e, this]
          case round =>
            obtain ⟨k, hk, rfl, rfl, GK⟩ := hrel
            clear G5
            have k0' : (0 : Int) ≤ (k : Int) := by omega
            have kb1 : la.length ≤ 20 := HD.out.2.2.2.1
            have kb2 : ls.length ≤ 20 := HD.out.2.2.2.2.1
            have kb3 : (k : Int) ≤ 21 := by omega
            obtain ⟨pv, HPV⟩ : ∃ pv, Hid (decide (m = n ∧ la.take (k - 1) = ls.take (k - 1)) = pv) := ⟨_, rfl⟩
            rw [HPV.out]
            go_wp2_with fail
            refine (one_len GK.out.1.one).mono ?_
            rintro e w5 ⟨rfl, hw⟩
            obtain rfl : wr = w5 := hw.symm
            clear hw
            go_wp2_with fail
            refine (one_len GK.out.1.symm.one).mono ?_
            rintro e w5 ⟨rfl, hw⟩
            obtain rfl : wr = w5 := hw.symm
            clear hw
            by_cases hle : k ≤ min la.length ls.length
            · have kl : (k : Int) ≤ min (la.length : Int) (ls.length : Int) := by omega
              by_cases hk0 : k = 0
              · have kz : ¬ (0 : Int) < (k : Int) := by omega
                obtain ⟨sb, hsbe⟩ : ∃ sb, sb = pv := ⟨_, rfl⟩
                have HSB : Hid (decide (m = n ∧ la.take k = ls.take k) = sb) := by
                  show _ = _
                  have h1 := HPV.out
                  rw [hk0] at h1 ⊢
                  rw [hsbe]
                  exact h1
                rw [← hsbe]
                clear HPV hsbe hk0
                obtain ⟨r1, hr1⟩ : ∃ r1, ss[k]? = some r1 := ⟨_, List.getElem?_eq_getElem (by rw [HD.out.2.1.len]; omega)⟩
                obtain ⟨r2, hr2⟩ : ∃ r2, sa[k]? = some r2 := ⟨_, List.getElem?_eq_getElem (by rw [HD.out.1.len]; omega)⟩
                have hfk := forks HD.out.2.2.1 HD.out.1 HD.out.2.1 HMN.out.1.2 HMN.out.2.2 k (by omega) (by omega)
                rw [hr1, hr2, Option.some.injEq] at hfk
                have h32 := HD.out.2.1.size hr1
                have HR1 : Hid (∀ y ∈ r1, y < 256) := h32.2
                have HRR : Hid ((if r1 = r2 then (0 : Int) else 24) = if sb then 0 else 24) := by
                  show _ = _
                  rw [← HSB.out]
                  by_cases e : r1 = r2
                  · rw [if_pos e, decide_eq_true (hfk.1 e.symm)]; rfl
                  · rw [if_neg e, decide_eq_false (fun h => e (hfk.2 h).symm)]; rfl
                go_wp2_with fail
                refine (one_at GK.out.1.symm.one (j := k) (by omega) hr1 (by omega)).mono ?_
                rintro e w5 ⟨u, rfl, ho, hb5⟩
                rw [h32.1] at ho
                obtain ⟨uq, uc, rfl⟩ := own_slice ho
                obtain ⟨w6, HW6⟩ : ∃ w6, Hid (w5.alloc (.cells #[.int .i64 (k : Int), .slice uq 32 uc] 44) = w6) := ⟨_, rfl⟩
                have hb6 : Below w5.heap.size w5 w6 := by rw [← HW6.out]; exact below_alloc' w5 _
                have hz6 : w6.heap[w5.heap.size]? = some (.cells #[.int .i64 (k : Int), .slice uq 32 uc] 44 (0, 0)) := by rw [← HW6.out]; exact heap_alloc_new w5 _
                have z0' : (w5.alloc (.cells #[.int .i64 (k : Int), .slice uq 32 uc] 44)).cell? ⟨w5.heap.size, 0, none⟩ = some (.int .i64 (k : Int)) := by rw [HW6.out, cell_of_row _ _ _ _ _ _ hz6]; rfl
                have z1' : (w5.alloc (.cells #[.int .i64 (k : Int), .slice uq 32 uc] 44)).cell? ⟨w5.heap.size, 1, none⟩ = some (.slice uq 32 uc) := by rw [HW6.out, cell_of_row _ _ _ _ _ _ hz6]; rfl
                have hbw : Below wr.heap.size wr w6 := hb5.trans (hb6.mono hb5.size)
                have G6 : Hid (((Two B w6 p q m' x c d L la sa ls ss ∧ Below B w w6 ∧ B ≤ w6.heap.size)) ∧ Src w6 (.slice uq 32 uc) r1 ∧ w6.heap[w5.heap.size]? = some (.cells #[.int .i64 (k : Int), .slice uq 32 uc] 44 (0, 0))) := ⟨⟨GK.out.1.below hbw, GK.out.2.1.trans (hbw.mono GK.out.2.2), Nat.le_trans GK.out.2.2 hbw.size⟩, (Src.own HR1.out ho).below hb6, hz6⟩
                clear ho hb5 hb6 hz6 hbw GK hfk
                obtain ⟨gd, hgd⟩ : ∃ gd, gd = w5.heap.size := ⟨_, rfl⟩
                go_wp2_with fail
                rw [HW6.out]
                rw [← hgd] at G6 ⊢
                clear z0' z1' HW6 hgd
                refine (one_check (j := k) G6.out.1.1.one (by omega) hr2 G6.out.2.1 HRR.out).mono ?_
                rintro e w7 ⟨rfl, hb7⟩
                have G7 : Hid (((Two B w7 p q m' x c d L la sa ls ss ∧ Below B w w7 ∧ B ≤ w7.heap.size)) ∧ Src w7 (.slice uq 32 uc) r1 ∧ w7.heap[gd]? = some (.cells #[.int .i64 (k : Int), .slice uq 32 uc] 44 (0, 0))) := ⟨⟨G6.out.1.1.below hb7, G6.out.1.2.1.trans (hb7.mono G6.out.1.2.2), Nat.le_trans G6.out.1.2.2 hb7.size⟩, G6.out.2.1.below hb7, (hb7.block gd (Array.getElem?_eq_some_iff.1 G6.out.2.2).1).trans G6.out.2.2⟩
                clear hb7 G6
                cases sb with
                | true =>
                  have G7a : Hid (Two B w7 p q m' x c d L la sa ls ss ∧ Below B w w7 ∧ B ≤ w7.heap.size) := G7.out.1
                  simp only [if_true]
                  clear HRR
                  go_wp2_with fail
                  refine ⟨⟨k + 1, by omega, by simp, ?_, G7a⟩, ?_⟩
                  · rw [Nat.add_sub_cancel, HSB.out]
                  · simp only [intOf]
                    omega
                | false =>
                  have z0'' : w7.cell? ⟨gd, 0, none⟩ = some (.int .i64 (k : Int)) := by rw [cell_of_row _ _ _ _ _ _ G7.out.2.2]; rfl
                  have z1'' : w7.cell? ⟨gd, 1, none⟩ = some (.slice uq 32 uc) := by rw [cell_of_row _ _ _ _ _ _ G7.out.2.2]; rfl
                  have HRR2 : Hid ((if r1 = r2 then (0 : Int) else 24) = 24) := HRR.out
                  simp only [Bool.false_eq_true, if_false]
                  clear HRR
                  go_wp2_with fail
                  refine (one_check (j := k) G7.out.1.1.one (by omega) hr2 G7.out.2.1 HRR2.out).mono ?_
                  rintro e w8 ⟨rfl, hb8⟩
                  have G8 : Hid (Two B w8 p q m' x c d L la sa ls ss ∧ Below B w w8 ∧ B ≤ w8.heap.size) := ⟨G7.out.1.1.below hb8, G7.out.1.2.1.trans (hb8.mono G7.out.1.2.2), Nat.le_trans G7.out.1.2.2 hb8.size⟩
                  clear hb8 G7 z0'' z1''
                  go_wp2_with fail
                  refine ⟨⟨k + 1, by omega, by simp, ?_, G8⟩, ?_⟩
                  · rw [Nat.add_sub_cancel, HSB.out]
                  · simp only [intOf]
                    omega
              · obtain ⟨k', hkk⟩ : ∃ k', k = k' + 1 := ⟨k - 1, by omega⟩
                have HKK : Hid (k = k' + 1) := hkk
                have y0 : (0 : Int) < (k : Int) := by omega
                have y3 : (k : Int) - 1 = (k' : Int) := by omega
                have hla : k' < la.length := by omega
                have hlb : k' < ls.length := by omega
                have ea : la[k']? = some la[k'] := List.getElem?_eq_getElem hla
                have eb : ls[k']? = some ls[k'] := List.getElem?_eq_getElem hlb
                have l3a := HD.out.2.2.2.2.2.1 _ (List.getElem_mem hla)
                have l3b := HD.out.2.2.2.2.2.2 _ (List.getElem_mem hlb)
                have HTK : Hid ((m = n ∧ la.take k = ls.take k) ↔ (m = n ∧ la.take k' = ls.take k') ∧ la[k'] = ls[k']) := by
                  rw [hkk, List.take_succ_eq_append_getElem hla, List.take_succ_eq_append_getElem hlb]
                  constructor
                  · rintro ⟨h1, h2⟩
                    obtain ⟨h3, h4⟩ := List.append_inj h2 (by simp; omega)
                    exact ⟨⟨h1, h3⟩, (List.cons.inj h4).1⟩
                  · rintro ⟨⟨h1, h2⟩, h3⟩
                    exact ⟨h1, by rw [h2, h3]⟩
                generalize la[k'] = xa at *
                generalize ls[k'] = xb at *
                clear hkk hk0
                go_wp2_with fail
                refine (one_link GK.out.1.one ea (by omega)).mono ?_
                rintro e w3 ⟨ua, rfl, hoa, hb3⟩
                have G3k : Hid (((Two B w3 p q m' x c d L la sa ls ss ∧ Below B w w3 ∧ B ≤ w3.heap.size)) ∧ By B w3 ua xa) := ⟨⟨GK.out.1.below hb3, GK.out.2.1.trans (hb3.mono GK.out.2.2), Nat.le_trans GK.out.2.2 hb3.size⟩, By.own (one_small GK.out.1.one ea) hoa⟩
                obtain ⟨uaq, uac, rfl⟩ := own_slice hoa
                clear hoa hb3 GK
                obtain ⟨nxa, HNXA⟩ : ∃ nxa, Hid (xa.length = nxa) := ⟨_, rfl⟩
                rw [HNXA.out] at G3k ⊢
                go_wp2_with fail
                refine (one_link G3k.out.1.1.symm.one eb (by omega)).mono ?_
                rintro e w4 ⟨ub, rfl, hob, hb4⟩
                have G4k : Hid (((Two B w4 p q m' x c d L la sa ls ss ∧ Below B w w4 ∧ B ≤ w4.heap.size)) ∧ By B w4 (.slice uaq nxa uac) xa ∧ By B w4 ub xb) := ⟨⟨G3k.out.1.1.below hb4, G3k.out.1.2.1.trans (hb4.mono G3k.out.1.2.2), Nat.le_trans G3k.out.1.2.2 hb4.size⟩, G3k.out.2.below hb4, By.own (one_small G3k.out.1.1.symm.one eb) hob⟩
                obtain ⟨ubq, ubc, rfl⟩ := own_slice hob
                clear hob hb4 G3k ea eb l3a l3b hla hlb
                obtain ⟨nxb, HNXB⟩ : ∃ nxb, Hid (xb.length = nxb) := ⟨_, rfl⟩
                rw [HNXB.out] at G4k ⊢
                cases pv with
                | true =>
                  obtain ⟨sb, HSE⟩ : ∃ sb, Hid (decide (xa = xb) = sb) := ⟨_, rfl⟩
                  have HSB : Hid (decide (m = n ∧ la.take k = ls.take k) = sb) := by
                    show _ = _
                    rw [← HSE.out]
                    have h1 := of_decide_eq_true HPV.out
                    rw [HKK.out, Nat.add_sub_cancel] at h1
                    by_cases e : xa = xb
                    · rw [decide_eq_true e, decide_eq_true (HTK.out.2 ⟨h1, e⟩)]
                    · rw [decide_eq_false e, decide_eq_false (fun h => e (HTK.out.1 h).2)]
                  have hc1 := conv_src G4k.out.2.1.src
                  have hc2 := conv_src G4k.out.2.2.src
                  have hqq := strB_beqL G4k.out.2.1.src.small G4k.out.2.2.src.small
                  rw [HSE.out] at hqq
                  clear HPV HTK HSE
                  generalize strB xa = sxa at *
                  generalize strB xb = sxb at *
                  have GT : Hid (Two B w4 p q m' x c d L la sa ls ss ∧ Below B w w4 ∧ B ≤ w4.heap.size) := G4k.out.1
                  clear G4k
                  obtain ⟨r1, hr1⟩ : ∃ r1, ss[k]? = some r1 := ⟨_, List.getElem?_eq_getElem (by rw [HD.out.2.1.len]; omega)⟩
                  obtain ⟨r2, hr2⟩ : ∃ r2, sa[k]? = some r2 := ⟨_, List.getElem?_eq_getElem (by rw [HD.out.1.len]; omega)⟩
                  have hfk := forks HD.out.2.2.1 HD.out.1 HD.out.2.1 HMN.out.1.2 HMN.out.2.2 k (by omega) (by omega)
                  rw [hr1, hr2, Option.some.injEq] at hfk
                  have h32 := HD.out.2.1.size hr1
                  have HR1 : Hid (∀ y ∈ r1, y < 256) := h32.2
                  have HRR : Hid ((if r1 = r2 then (0 : Int) else 24) = if sb then 0 else 24) := by
                    show _ = _
                    rw [← HSB.out]
                    by_cases e : r1 = r2
                    · rw [if_pos e, decide_eq_true (hfk.1 e.symm)]; rfl
                    · rw [if_neg e, decide_eq_false (fun h => e (hfk.2 h).symm)]; rfl
                  go_wp2_with fail
                  refine (one_at GT.out.1.symm.one (j := k) (by omega) hr1 (by omega)).mono ?_
                  rintro e w5 ⟨u, rfl, ho, hb5⟩
                  rw [h32.1] at ho
                  obtain ⟨uq, uc, rfl⟩ := own_slice ho
                  obtain ⟨w6, HW6⟩ : ∃ w6, Hid (w5.alloc (.cells #[.int .i64 (k : Int), .slice uq 32 uc] 44) = w6) := ⟨_, rfl⟩
                  have hb6 : Below w5.heap.size w5 w6 := by rw [← HW6.out]; exact below_alloc' w5 _
                  have hz6 : w6.heap[w5.heap.size]? = some (.cells #[.int .i64 (k : Int), .slice uq 32 uc] 44 (0, 0)) := by rw [← HW6.out]; exact heap_alloc_new w5 _
                  have z0' : (w5.alloc (.cells #[.int .i64 (k : Int), .slice uq 32 uc] 44)).cell? ⟨w5.heap.size, 0, none⟩ = some (.int .i64 (k : Int)) := by rw [HW6.out, cell_of_row _ _ _ _ _ _ hz6]; rfl
                  have z1' : (w5.alloc (.cells #[.int .i64 (k : Int), .slice uq 32 uc] 44)).cell? ⟨w5.heap.size, 1, none⟩ = some (.slice uq 32 uc) := by rw [HW6.out, cell_of_row _ _ _ _ _ _ hz6]; rfl
                  have hbw : Below w4.heap.size w4 w6 := hb5.trans (hb6.mono hb5.size)
                  have G6 : Hid (((Two B w6 p q m' x c d L la sa ls ss ∧ Below B w w6 ∧ B ≤ w6.heap.size)) ∧ Src w6 (.slice uq 32 uc) r1 ∧ w6.heap[w5.heap.size]? = some (.cells #[.int .i64 (k : Int), .slice uq 32 uc] 44 (0, 0))) := ⟨⟨GT.out.1.below hbw, GT.out.2.1.trans (hbw.mono GT.out.2.2), Nat.le_trans GT.out.2.2 hbw.size⟩, (Src.own HR1.out ho).below hb6, hz6⟩
                  clear ho hb5 hb6 hz6 hbw GT hfk
                  obtain ⟨gd, hgd⟩ : ∃ gd, gd = w5.heap.size := ⟨_, rfl⟩
                  go_wp2_with fail
                  rw [HW6.out]
                  rw [← hgd] at G6 ⊢
                  clear z0' z1' HW6 hgd
                  refine (one_check (j := k) G6.out.1.1.one (by omega) hr2 G6.out.2.1 HRR.out).mono ?_
                  rintro e w7 ⟨rfl, hb7⟩
                  have G7 : Hid (((Two B w7 p q m' x c d L la sa ls ss ∧ Below B w w7 ∧ B ≤ w7.heap.size)) ∧ Src w7 (.slice uq 32 uc) r1 ∧ w7.heap[gd]? = some (.cells #[.int .i64 (k : Int), .slice uq 32 uc] 44 (0, 0))) := ⟨⟨G6.out.1.1.below hb7, G6.out.1.2.1.trans (hb7.mono G6.out.1.2.2), Nat.le_trans G6.out.1.2.2 hb7.size⟩, G6.out.2.1.below hb7, (hb7.block gd (Array.getElem?_eq_some_iff.1 G6.out.2.2).1).trans G6.out.2.2⟩
                  clear hb7 G6
                  cases sb with
                  | true =>
                    have G7a : Hid (Two B w7 p q m' x c d L la sa ls ss ∧ Below B w w7 ∧ B ≤ w7.heap.size) := G7.out.1
                    simp only [if_true]
                    clear HRR
                    go_wp2_with fail
                    refine ⟨⟨k + 1, by omega, by simp, ?_, G7a⟩, ?_⟩
                    · rw [Nat.add_sub_cancel, HSB.out]
                    · simp only [intOf]
                      omega
                  | false =>
                    have z0'' : w7.cell? ⟨gd, 0, none⟩ = some (.int .i64 (k : Int)) := by rw [cell_of_row _ _ _ _ _ _ G7.out.2.2]; rfl
                    have z1'' : w7.cell? ⟨gd, 1, none⟩ = some (.slice uq 32 uc) := by rw [cell_of_row _ _ _ _ _ _ G7.out.2.2]; rfl
                    have HRR2 : Hid ((if r1 = r2 then (0 : Int) else 24) = 24) := HRR.out
                    simp only [Bool.false_eq_true, if_false]
                    clear HRR
                    go_wp2_with fail
                    refine (one_check (j := k) G7.out.1.1.one (by omega) hr2 G7.out.2.1 HRR2.out).mono ?_
                    rintro e w8 ⟨rfl, hb8⟩
                    have G8 : Hid (Two B w8 p q m' x c d L la sa ls ss ∧ Below B w w8 ∧ B ≤ w8.heap.size) := ⟨G7.out.1.1.below hb8, G7.out.1.2.1.trans (hb8.mono G7.out.1.2.2), Nat.le_trans G7.out.1.2.2 hb8.size⟩
                    clear hb8 G7 z0'' z1''
                    go_wp2_with fail
                    refine ⟨⟨k + 1, by omega, by simp, ?_, G8⟩, ?_⟩
                    · rw [Nat.add_sub_cancel, HSB.out]
                    · simp only [intOf]
                      omega
                | false =>
                  obtain ⟨sb, hsb⟩ : ∃ sb, sb = false := ⟨_, rfl⟩
                  have HSB : Hid (decide (m = n ∧ la.take k = ls.take k) = sb) := by
                    show _ = _
                    rw [hsb]
                    have h1 := of_decide_eq_false HPV.out
                    rw [HKK.out, Nat.add_sub_cancel] at h1
                    exact decide_eq_false (fun h => h1 (HTK.out.1 h).1)
                  have HSBF : Hid (sb = false) := hsb
                  clear HPV HTK hsb
                  have GT : Hid (Two B w4 p q m' x c d L la sa ls ss ∧ Below B w w4 ∧ B ≤ w4.heap.size) := G4k.out.1
                  clear G4k
                  obtain ⟨r1, hr1⟩ : ∃ r1, ss[k]? = some r1 := ⟨_, List.getElem?_eq_getElem (by rw [HD.out.2.1.len]; omega)⟩
                  obtain ⟨r2, hr2⟩ : ∃ r2, sa[k]? = some r2 := ⟨_, List.getElem?_eq_getElem (by rw [HD.out.1.len]; omega)⟩
                  have hfk := forks HD.out.2.2.1 HD.out.1 HD.out.2.1 HMN.out.1.2 HMN.out.2.2 k (by omega) (by omega)
                  rw [hr1, hr2, Option.some.injEq] at hfk
                  have h32 := HD.out.2.1.size hr1
                  have HR1 : Hid (∀ y ∈ r1, y < 256) := h32.2
                  have HRR : Hid ((if r1 = r2 then (0 : Int) else 24) = if sb then 0 else 24) := by
                    show _ = _
                    rw [← HSB.out]
                    by_cases e : r1 = r2
                    · rw [if_pos e, decide_eq_true (hfk.1 e.symm)]; rfl
                    · rw [if_neg e, decide_eq_false (fun h => e (hfk.2 h).symm)]; rfl
                  go_wp2_with fail
                  refine (one_at GT.out.1.symm.one (j := k) (by omega) hr1 (by omega)).mono ?_
                  rintro e w5 ⟨u, rfl, ho, hb5⟩
                  rw [h32.1] at ho
                  obtain ⟨uq, uc, rfl⟩ := own_slice ho
                  obtain ⟨w6, HW6⟩ : ∃ w6, Hid (w5.alloc (.cells #[.int .i64 (k : Int), .slice uq 32 uc] 44) = w6) := ⟨_, rfl⟩
                  have hb6 : Below w5.heap.size w5 w6 := by rw [← HW6.out]; exact below_alloc' w5 _
                  have hz6 : w6.heap[w5.heap.size]? = some (.cells #[.int .i64 (k : Int), .slice uq 32 uc] 44 (0, 0)) := by rw [← HW6.out]; exact heap_alloc_new w5 _
                  have z0' : (w5.alloc (.cells #[.int .i64 (k : Int), .slice uq 32 uc] 44)).cell? ⟨w5.heap.size, 0, none⟩ = some (.int .i64 (k : Int)) := by rw [HW6.out, cell_of_row _ _ _ _ _ _ hz6]; rfl
                  have z1' : (w5.alloc (.cells #[.int .i64 (k : Int), .slice uq 32 uc] 44)).cell? ⟨w5.heap.size, 1, none⟩ = some (.slice uq 32 uc) := by rw [HW6.out, cell_of_row _ _ _ _ _ _ hz6]; rfl
                  have hbw : Below w4.heap.size w4 w6 := hb5.trans (hb6.mono hb5.size)
                  have G6 : Hid (((Two B w6 p q m' x c d L la sa ls ss ∧ Below B w w6 ∧ B ≤ w6.heap.size)) ∧ Src w6 (.slice uq 32 uc) r1 ∧ w6.heap[w5.heap.size]? = some (.cells #[.int .i64 (k : Int), .slice uq 32 uc] 44 (0, 0))) := ⟨⟨GT.out.1.below hbw, GT.out.2.1.trans (hbw.mono GT.out.2.2), Nat.le_trans GT.out.2.2 hbw.size⟩, (Src.own HR1.out ho).below hb6, hz6⟩
                  clear ho hb5 hb6 hz6 hbw GT hfk
                  obtain ⟨gd, hgd⟩ : ∃ gd, gd = w5.heap.size := ⟨_, rfl⟩
                  go_wp2_with fail
                  rw [HW6.out]
                  rw [← hgd] at G6 ⊢
                  clear z0' z1' HW6 hgd
                  refine (one_check (j := k) G6.out.1.1.one (by omega) hr2 G6.out.2.1 HRR.out).mono ?_
                  rintro e w7 ⟨rfl, hb7⟩
                  have G7 : Hid (((Two B w7 p q m' x c d L la sa ls ss ∧ Below B w w7 ∧ B ≤ w7.heap.size)) ∧ Src w7 (.slice uq 32 uc) r1 ∧ w7.heap[gd]? = some (.cells #[.int .i64 (k : Int), .slice uq 32 uc] 44 (0, 0))) := ⟨⟨G6.out.1.1.below hb7, G6.out.1.2.1.trans (hb7.mono G6.out.1.2.2), Nat.le_trans G6.out.1.2.2 hb7.size⟩, G6.out.2.1.below hb7, (hb7.block gd (Array.getElem?_eq_some_iff.1 G6.out.2.2).1).trans G6.out.2.2⟩
                  clear hb7 G6
                  cases sb with
                  | true => exact absurd HSBF.out (by decide)
                  | false =>
                    have z0'' : w7.cell? ⟨gd, 0, none⟩ = some (.int .i64 (k : Int)) := by rw [cell_of_row _ _ _ _ _ _ G7.out.2.2]; rfl
                    have z1'' : w7.cell? ⟨gd, 1, none⟩ = some (.slice uq 32 uc) := by rw [cell_of_row _ _ _ _ _ _ G7.out.2.2]; rfl
                    have HRR2 : Hid ((if r1 = r2 then (0 : Int) else 24) = 24) := HRR.out
                    simp only [Bool.false_eq_true, if_false]
                    clear HRR
                    go_wp2_with fail
                    refine (one_check (j := k) G7.out.1.1.one (by omega) hr2 G7.out.2.1 HRR2.out).mono ?_
                    rintro e w8 ⟨rfl, hb8⟩
                    have G8 : Hid (Two B w8 p q m' x c d L la sa ls ss ∧ Below B w w8 ∧ B ≤ w8.heap.size) := ⟨G7.out.1.1.below hb8, G7.out.1.2.1.trans (hb8.mono G7.out.1.2.2), Nat.le_trans G7.out.1.2.2 hb8.size⟩
                    clear hb8 G7 z0'' z1''
                    go_wp2_with fail
                    refine ⟨⟨k + 1, by omega, by simp, ?_, G8⟩, ?_⟩
                    · rw [Nat.add_sub_cancel, HSB.out]
                    · simp only [intOf]
                      omega
            · have kl : ¬ (k : Int) ≤ min (la.length : Int) (ls.length : Int) := by omega
              go_wp2_with fail
              go_ret
              exact ⟨rfl, GK.out.2.1⟩
end Go.Proofs.YtkiohhkmlpgdoaaDoor.S7
