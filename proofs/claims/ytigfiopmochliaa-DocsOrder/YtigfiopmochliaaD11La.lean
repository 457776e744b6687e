/- The walk of DocsLast. -/
import Derived.Test.YtigfiopmochliaaD11Base
import Derived.Test.YtigfiopmochliaaD11Put
namespace Go.Proofs.Ytigfiopmochliaa.D11
open Go.RowKit C8 E9 P10
/-- The strings behind a slice. -/
def StrRow (w : World) (q : Option Addr) (ss : List (List Nat)) : Prop := ∀ j (h : j < ss.length), ∃ b o, q = some ⟨b, o, none⟩ ∧ b < w.heap.size ∧ w.cell? ⟨b, o + j, none⟩ = some (.string (strB ss[j])) ∧ (∀ x ∈ ss[j], x < 256) ∧ ss[j].length ≤ 9223372036854775807
theorem StrRow.below {w w' : World} {q : Option Addr} {ss : List (List Nat)} (h : StrRow w q ss) (hb : Below w.heap.size w w') : StrRow w' q ss := fun j hj => by
  obtain ⟨b, o, h1, h2, h3, h4⟩ := h j hj
  exact ⟨b, o, h1, Nat.lt_of_lt_of_le h2 hb.size, (hb.cell (p := ⟨b, o + j, none⟩) h2).trans h3, h4⟩
theorem put_right {k v : List Nat} (h1 : 1 ≤ k.length) (h2 : k.length ≤ 64) (h3 : v.length ≤ 512) : right (putE k v) = true := by
  rw [right_iff]
  simp [putE]
  omega
theorem drop_right {k : List Nat} (h1 : 1 ≤ k.length) (h2 : k.length ≤ 64) : right (dropE k) = true := by
  rw [right_iff]
  simp [dropE]
  omega
theorem get_other (L : Col) (a : En) {k : List Nat} (h : ¬ a.name = k) : get k (after L a).1 = get k L := by
  unfold after
  split
  · split
    · simp only [get_ins, h, if_false]
    · split
      · split
        · simp only [get_del, h, if_false]
        · rfl
      · rfl
  · rfl
set_option maxHeartbeats 16000000 in
set_option maxRecDepth 20000 in
theorem la_short (w : World) (s : ByteArray) (a1 : Option Addr) (n c1 : Nat) (a2 : Option Addr) (m c2' : Nat) (h : s.size < 1) :
    Calls Try.prog 4 #[.string s, .slice a1 n c1, .slice a2 m c2'] w fun e w' => e = .returned (.bool true) ∧ Below w.heap.size w w' := by
  have q1 : (s.size : Int) < 1 := by omega
  go_enter Try.func4, Try.ntmps4
  go_wp2_with fail
  refine (anchor_any w).mono ?_
  rintro e w1 ⟨rfl, hb1⟩
  have HB1 : Hid (Below w.heap.size w w1) := hb1
  clear hb1
  go_wp2_with fail
  go_ret
  exact ⟨rfl, HB1.out⟩
set_option maxHeartbeats 16000000 in
set_option maxRecDepth 20000 in
theorem la_long (w : World) (s : ByteArray) (a1 : Option Addr) (n c1 : Nat) (a2 : Option Addr) (m c2' : Nat) (h : 64 < s.size) :
    Calls Try.prog 4 #[.string s, .slice a1 n c1, .slice a2 m c2'] w fun e w' => e = .returned (.bool true) ∧ Below w.heap.size w w' := by
  have q1 : ¬ (s.size : Int) < 1 := by omega
  have q2 : (64 : Int) < (s.size : Int) := by omega
  go_enter Try.func4, Try.ntmps4
  go_wp2_with fail
  refine (anchor_any w).mono ?_
  rintro e w1 ⟨rfl, hb1⟩
  have HB1 : Hid (Below w.heap.size w w1) := hb1
  clear hb1
  go_wp2_with fail
  go_ret
  exact ⟨rfl, HB1.out⟩
set_option maxHeartbeats 16000000 in
set_option maxRecDepth 20000 in
theorem la_none (w : World) (s : ByteArray) (a1 : Option Addr) (n c1 : Nat) (a2 : Option Addr) (m c2' : Nat) (h : 1 ≤ s.size) (h2 : s.size ≤ 64) (hn : n < 1) :
    Calls Try.prog 4 #[.string s, .slice a1 n c1, .slice a2 m c2'] w fun e w' => e = .returned (.bool true) ∧ Below w.heap.size w w' := by
  have q1 : ¬ (s.size : Int) < 1 := by omega
  have q2 : ¬ (64 : Int) < (s.size : Int) := by omega
  have q3 : (n : Int) < 1 := by omega
  go_enter Try.func4, Try.ntmps4
  go_wp2_with fail
  refine (anchor_any w).mono ?_
  rintro e w1 ⟨rfl, hb1⟩
  have HB1 : Hid (Below w.heap.size w w1) := hb1
  clear hb1
  go_wp2_with fail
  go_ret
  exact ⟨rfl, HB1.out⟩
set_option maxHeartbeats 16000000 in
set_option maxRecDepth 20000 in
theorem la_many (w : World) (s : ByteArray) (a1 : Option Addr) (n c1 : Nat) (a2 : Option Addr) (m c2' : Nat) (h : 1 ≤ s.size) (h2 : s.size ≤ 64) (hn : 10 < n) :
    Calls Try.prog 4 #[.string s, .slice a1 n c1, .slice a2 m c2'] w fun e w' => e = .returned (.bool true) ∧ Below w.heap.size w w' := by
  have q1 : ¬ (s.size : Int) < 1 := by omega
  have q2 : ¬ (64 : Int) < (s.size : Int) := by omega
  have q3 : ¬ (n : Int) < 1 := by omega
  have q4 : (10 : Int) < (n : Int) := by omega
  go_enter Try.func4, Try.ntmps4
  go_wp2_with fail
  refine (anchor_any w).mono ?_
  rintro e w1 ⟨rfl, hb1⟩
  have HB1 : Hid (Below w.heap.size w w1) := hb1
  clear hb1
  go_wp2_with fail
  go_ret
  exact ⟨rfl, HB1.out⟩
set_option maxHeartbeats 16000000 in
set_option maxRecDepth 20000 in
theorem la_more (w : World) (s : ByteArray) (a1 : Option Addr) (n c1 : Nat) (a2 : Option Addr) (m c2' : Nat) (h : 1 ≤ s.size) (h2 : s.size ≤ 64) (hn : 1 ≤ n) (hn2 : n ≤ 10) (hm : 10 < m) :
    Calls Try.prog 4 #[.string s, .slice a1 n c1, .slice a2 m c2'] w fun e w' => e = .returned (.bool true) ∧ Below w.heap.size w w' := by
  have q1 : ¬ (s.size : Int) < 1 := by omega
  have q2 : ¬ (64 : Int) < (s.size : Int) := by omega
  have q3 : ¬ (n : Int) < 1 := by omega
  have q4 : ¬ (10 : Int) < (n : Int) := by omega
  have q5 : (10 : Int) < (m : Int) := by omega
  go_enter Try.func4, Try.ntmps4
  go_wp2_with fail
  refine (anchor_any w).mono ?_
  rintro e w1 ⟨rfl, hb1⟩
  have HB1 : Hid (Below w.heap.size w w1) := hb1
  clear hb1
  go_wp2_with fail
  go_ret
  exact ⟨rfl, HB1.out⟩
set_option maxHeartbeats 16000000 in
set_option maxRecDepth 20000 in
theorem la_main (w : World) (s : ByteArray) (a1 : Option Addr) (n c1 : Nat) (a2 : Option Addr) (m c2' : Nat) (k : List Nat) (hk : s = strB k) (hkb : ∀ x ∈ k, x < 256) (h : 1 ≤ s.size) (h2 : s.size ≤ 64) (vs : List (List Nat)) (hl : vs.length = n) (hr1 : StrRow w a1 vs) (hn : 1 ≤ n) (hn2 : n ≤ 10) (fs : List En) (hl2 : fs.length = m) (hr2 : EnRow w a2 fs) (hm : m ≤ 10) :
    Calls Try.prog 4 #[.string s, .slice a1 n c1, .slice a2 m c2'] w fun e w' => e = .returned (.bool true) ∧ Below w.heap.size w w' := by
  have q1 : ¬ (s.size : Int) < 1 := by omega
  have q2 : ¬ (64 : Int) < (s.size : Int) := by omega
  have q3 : ¬ (n : Int) < 1 := by omega
  have q4 : ¬ (10 : Int) < (n : Int) := by omega
  have q5 : ¬ (10 : Int) < (m : Int) := by omega
  have HR : Hid (StrRow w a1 vs) := hr1
  have HN : Hid (vs.length = n) := hl
  have HR2 : Hid (EnRow w a2 fs) := hr2
  have HN2 : Hid (fs.length = m) := hl2
  subst hk
  have hks : 1 ≤ k.length ∧ k.length ≤ 64 := by rw [strB_size] at h h2; exact ⟨h, h2⟩
  have HK : Hid ((∀ x ∈ k, x < 256) ∧ 1 ≤ k.length ∧ k.length ≤ 64) := ⟨hkb, hks⟩
  have hnb : (n : Int) ≤ 10 := by omega
  have hn0 : (1 : Int) ≤ (n : Int) := by omega
  have hmb : (m : Int) ≤ 10 := by omega
  have hm0 : (0 : Int) ≤ (m : Int) := by omega
  clear hl hr1 hl2 hr2 hks hkb h h2
  go_enter Try.func4, Try.ntmps4
  go_wp2_with fail
  refine (anchor_any w).mono ?_
  rintro e w1 ⟨rfl, hb1⟩
  have HB1 : Hid (Below w.heap.size w w1) := hb1
  clear hb1
  go_wp2_with fail
  refine (New_any w1).mono ?_
  rintro e w2 ⟨p, b, rfl, hd, hp, hb, hb2⟩
  have G0 : Hid (Pl w w2 p b []) := Pl.new HB1.out hd hp hb hb2
  clear hd hp hb hb2
  go_wp2_with fail
  go_loopw [44] (fun i wr => ∃ (j : Nat) (L : Col), j ≤ n ∧ i = .int .i64 j ∧ Hid (Pl w wr p b L) ∧ Hid (L.length ≤ 2 * j) ∧ Hid (∀ i, i + 1 = j → ∀ (hi : i < vs.length), get k L = some vs[i])) (fun i _ => n - (intOf i).toNat)
  case atStart => exact ⟨0, [], by omega, rfl, G0.out, Nat.le_refl _, fun i hi => by omega⟩
  case round =>
    obtain ⟨j, L, hj, rfl, GJ, HJ, HG⟩ := hrel
    clear G0
    have j0 : (0 : Int) ≤ (j : Int) := by omega
    by_cases hlt : j < n
    · have j1 : (j : Int) < (n : Int) := by omega
      have ja : j < vs.length := by rw [HN.out]; exact hlt
      obtain ⟨sb, so, hrfl, k2, k3', k4, k5⟩ := HR.out j ja
      subst hrfl
      have d9 := (GJ.out.bel.cell (p := ⟨sb, so + j, none⟩) k2).trans k3'
      have HV : Hid ((∀ x ∈ vs[j], x < 256) ∧ vs[j].length ≤ 9223372036854775807) := ⟨k4, k5⟩
      have HG2 : Hid (∀ M : Col, get k M = some vs[j] → ∀ i, i + 1 = j + 1 → ∀ (hi : i < vs.length), get k M = some vs[i]) := fun M hM i hi hi2 => by
        obtain rfl : i = j := by omega
        exact hM
      clear k3' k4 k5 k2 HG
      generalize hvj : vs[j] = v at *
      clear hvj ja
      by_cases hv : 512 < v.length
      · have q6 : (512 : Int) < ((strB v).size : Int) := by rw [strB_size]; omega
        go_wp2_with fail
        go_ret
        exact ⟨rfl, GJ.out.bel⟩
      · have q6 : ¬ (512 : Int) < ((strB v).size : Int) := by rw [strB_size]; omega
        have hpr : right (putE k v) = true := put_right HK.out.2.1 HK.out.2.2 (by omega)
        have HLF : Hid (L.length < 1000000) := (by have := HJ.out; omega : L.length < 1000000)
        have HL2 : Hid ((ins k v L).length ≤ 2 * j + 1) := Nat.le_trans (length_ins_le k v L) (Nat.succ_le_succ HJ.out)
        go_wp2_with fail
        refine (put_any wr k v HK.out.1 HV.out.1 (by have := HK.out.2.2; omega) HV.out.2).mono ?_
        rintro e w3 ⟨va, rfl, hva, hb3⟩
        have G3 : Hid (Pl w w3 p b L ∧ EnIs w3 va (putE k v)) := ⟨GJ.out.step hb3, hva⟩
        clear hb3 hva d9
        go_wp2_with fail
        refine (apply_eq G3.out.1.dc G3.out.2 HLF.out (after_put L hpr rfl)).mono ?_
        rintro e w4 ⟨rfl, hd4, ho4⟩
        have G4 : Hid (Pl w w4 p b (ins k v L)) := G3.out.1.turn hd4 ho4
        have hgi : get k (ins k v L) = some v := by rw [get_ins, if_pos rfl]
        have HGI : Hid (get k (ins k v L) = some v) := hgi
        clear hgi
        clear hd4 ho4 G3 hpr
        generalize ins k v L = M at *
        by_cases hjm : j < m
        · have j2 : (j : Int) < (m : Int) := by omega
          obtain ⟨bb, ob, np, nc, vp, vc, wq, wc, hrfl, k2, k3', k4⟩ := HR2.out j (by rw [HN2.out]; exact hjm)
          subst hrfl
          generalize fs[j]'(by rw [HN2.out]; exact hjm) = en at *
          have HEN : Hid (∀ w', Below w.heap.size w w' → EnIs w' (.agg #[.int .i64 en.kind, .int .i64 en.writer, .int .i64 en.seq, .slice np en.name.length nc, .slice vp en.value.length vc, .int .i64 en.who, .int .i64 en.rights, .int .i64 en.epoch, .slice wq en.wraps.length wc]) en) := fun w' hb => k4.below hb
          have HNM : Hid (∀ w', Below w.heap.size w w' → Src w' (.slice np en.name.length nc) en.name) := fun w' hb => by
            obtain ⟨np', nc', vp', vc', wq', wc', e1, e2⟩ := k4
            have e3 : Value.slice np en.name.length nc = .slice np' en.name.length nc' := by
              have := congrArg (fun v => match v with | Value.agg cs => cs[3]? | _ => none) e1
              simpa [EnV] using this
            rw [e3]
            exact e2.name.below hb
          have K5 : Hid (∀ w', Below w.heap.size w w' → ∀ i x, (#[.int .i64 en.kind, .int .i64 en.writer, .int .i64 en.seq, .slice np en.name.length nc, .slice vp en.value.length vc, .int .i64 en.who, .int .i64 en.rights, .int .i64 en.epoch, .slice wq en.wraps.length wc] : Array Value)[i]? = some x → w'.cell? ⟨bb, ob + j * 9 + i, none⟩ = some x) := fun w' hb i x hx => (hb.cell (p := ⟨bb, ob + j * 9 + i, none⟩) k2).trans (k3' i x hx)
          clear k3' k4
          generalize en.name.length = n4 at *
          generalize en.value.length = n5 at *
          generalize en.wraps.length = n9 at *
          have d0 : w4.cell? ⟨bb, ob + j * 9, none⟩ = some (.int .i64 en.kind) := K5.out w4 G4.out.bel 0 _ rfl
          have d1 : w4.cell? ⟨bb, ob + j * 9 + 1, none⟩ = some (.int .i64 en.writer) := K5.out w4 G4.out.bel 1 _ rfl
          have d2 : w4.cell? ⟨bb, ob + j * 9 + 2, none⟩ = some (.int .i64 en.seq) := K5.out w4 G4.out.bel 2 _ rfl
          have d3 : w4.cell? ⟨bb, ob + j * 9 + 3, none⟩ = some (.slice np n4 nc) := K5.out w4 G4.out.bel 3 _ rfl
          have d4 : w4.cell? ⟨bb, ob + j * 9 + 4, none⟩ = some (.slice vp n5 vc) := K5.out w4 G4.out.bel 4 _ rfl
          have d5 : w4.cell? ⟨bb, ob + j * 9 + 5, none⟩ = some (.int .i64 en.who) := K5.out w4 G4.out.bel 5 _ rfl
          have d6 : w4.cell? ⟨bb, ob + j * 9 + 6, none⟩ = some (.int .i64 en.rights) := K5.out w4 G4.out.bel 6 _ rfl
          have d7 : w4.cell? ⟨bb, ob + j * 9 + 7, none⟩ = some (.int .i64 en.epoch) := K5.out w4 G4.out.bel 7 _ rfl
          have d8 : w4.cell? ⟨bb, ob + j * 9 + 8, none⟩ = some (.slice wq n9 wc) := K5.out w4 G4.out.bel 8 _ rfl
          go_wp2_with fail
          cases hs : small en with
          | false =>
            refine (small_eq (HEN.out w4 G4.out.bel) hs).mono ?_
            rintro e w5 ⟨rfl, hx⟩
            have G5 : Hid (Pl w w5 p b M) := G4.out.step hx
            clear hx d0 d1 d2 d3 d4 d5 d6 d7 d8
            go_wp2_with fail
            refine ⟨⟨j + 1, M, by omega, by simp, G5, Nat.le_trans HL2.out (by omega), HG2.out M HGI.out⟩, ?_⟩
            simp only [intOf]
            omega
          | true =>
            refine (small_eq (HEN.out w4 G4.out.bel) hs).mono ?_
            rintro e w5 ⟨rfl, hx⟩
            have G5 : Hid (Pl w w5 p b M) := G4.out.step hx
            clear hx d0 d1 d2 d3 d4 d5 d6 d7 d8
            have d0 : w5.cell? ⟨bb, ob + j * 9, none⟩ = some (.int .i64 en.kind) := K5.out w5 G5.out.bel 0 _ rfl
            have d1 : w5.cell? ⟨bb, ob + j * 9 + 1, none⟩ = some (.int .i64 en.writer) := K5.out w5 G5.out.bel 1 _ rfl
            have d2 : w5.cell? ⟨bb, ob + j * 9 + 2, none⟩ = some (.int .i64 en.seq) := K5.out w5 G5.out.bel 2 _ rfl
            have d3 : w5.cell? ⟨bb, ob + j * 9 + 3, none⟩ = some (.slice np n4 nc) := K5.out w5 G5.out.bel 3 _ rfl
            have d4 : w5.cell? ⟨bb, ob + j * 9 + 4, none⟩ = some (.slice vp n5 vc) := K5.out w5 G5.out.bel 4 _ rfl
            have d5 : w5.cell? ⟨bb, ob + j * 9 + 5, none⟩ = some (.int .i64 en.who) := K5.out w5 G5.out.bel 5 _ rfl
            have d6 : w5.cell? ⟨bb, ob + j * 9 + 6, none⟩ = some (.int .i64 en.rights) := K5.out w5 G5.out.bel 6 _ rfl
            have d7 : w5.cell? ⟨bb, ob + j * 9 + 7, none⟩ = some (.int .i64 en.epoch) := K5.out w5 G5.out.bel 7 _ rfl
            have d8 : w5.cell? ⟨bb, ob + j * 9 + 8, none⟩ = some (.slice wq n9 wc) := K5.out w5 G5.out.bel 8 _ rfl
            have hx1 := conv_src (HNM.out w5 G5.out.bel)
            have hbq := strB_beqL (HNM.out w5 G5.out.bel).small HK.out.1
            by_cases he : en.name = k
            · rw [decide_eq_true he] at hbq
              clear he
              generalize strB en.name = s2 at *
              go_wp2_with fail
              refine ⟨⟨j + 1, M, by omega, by simp, G5, Nat.le_trans HL2.out (by omega), HG2.out M HGI.out⟩, ?_⟩
              simp only [intOf]
              omega
            · have HGO : Hid (get k (after M en).1 = some v) := by rw [get_other M en he]; exact HGI.out
              have HLO : Hid ((after M en).1.length ≤ 2 * (j + 1)) := Nat.le_trans (after_len M en) (by have := HL2.out; omega)
              rw [decide_eq_false he] at hbq
              clear he
              generalize strB en.name = s2 at *
              go_wp2_with fail
              refine (Apply_any w5 p b M en _ G5.out.dc (HEN.out w5 G5.out.bel) (by have := HL2.out; omega)).mono ?_
              rintro e w6 ⟨rfl, hd6, ho6⟩
              have G6 : Hid (Pl w w6 p b (after M en).1) := G5.out.turn hd6 ho6
              clear hd6 ho6 d0 d1 d2 d3 d4 d5 d6 d7 d8
              generalize (after M en).1 = M2 at *
              generalize (after M en).2 = x at *
              go_wp2_with fail
              refine ⟨⟨j + 1, M2, by omega, by simp, G6, HLO.out, HG2.out M2 HGO.out⟩, ?_⟩
              simp only [intOf]
              omega
        · have j2 : ¬ (j : Int) < (m : Int) := by omega
          go_wp2_with fail
          refine ⟨⟨j + 1, M, by omega, by simp, G4, Nat.le_trans HL2.out (by omega), HG2.out M HGI.out⟩, ?_⟩
          simp only [intOf]
          omega
    · obtain rfl : j = n := by omega
      have j1 : ¬ (j : Int) < (j : Int) := by omega
      have ja : j - 1 < vs.length := by rw [HN.out]; omega
      obtain ⟨sb, so, hrfl, k2, k3', k4, k5⟩ := HR.out (j - 1) ja
      subst hrfl
      have HG1 : Hid (get k L = some vs[j - 1]) := HG.out (j - 1) (by omega) ja
      have K3 : Hid (∀ w', Below w.heap.size w w' → w'.cell? ⟨sb, so + (j - 1), none⟩ = some (.string (strB vs[j - 1]))) := fun w' hb => (hb.cell (p := ⟨sb, so + (j - 1), none⟩) k2).trans k3'
      clear HG k2 k3' k5
      have HVB : Hid (∀ x ∈ vs[j - 1], x < 256) := k4
      clear k4
      generalize vs[j - 1] = v at *
      have HLF : Hid (L.length < 1000000) := (by have := HJ.out; omega : L.length < 1000000)
      obtain ⟨cc1, w3, hcv1, hs1, hb3⟩ := str_src wr k HK.out.1
      obtain ⟨g1, hg1⟩ : ∃ g, g = wr.heap.size := ⟨_, rfl⟩
      rw [← hg1] at hcv1 hs1
      have G3 : Hid (Pl w w3 p b L ∧ Src w3 (.slice (some ⟨g1, 0, none⟩) k.length cc1) k) := ⟨GJ.out.step hb3, hs1⟩
      clear hs1 hb3 hg1
      go_wp2_with fail
      refine (Get_any w3 p b L _ _ _ k G3.out.1.dc G3.out.2 (Nat.le_trans HK.out.2.2 (by unfold maxLen; omega))).mono ?_
      rintro e w4 ⟨gv, rfl, hgv, hb4⟩
      rw [HG1.out] at hgv ⊢
      simp only [Option.getD_some, Option.isSome_some] at hgv ⊢
      obtain ⟨gp, gc', hge, -⟩ := hgv.slice
      subst hge
      have G4 : Hid (Pl w w4 p b L ∧ Src w4 (.slice gp v.length gc') v) := ⟨G3.out.1.step hb4, hgv⟩
      clear hgv hb4 G3 hcv1
      go_wp2_with fail
      refine (drop_any w4 k HK.out.1 (by have := HK.out.2.2; omega)).mono ?_
      rintro e w5 ⟨va, rfl, hva, hb5⟩
      have G5 : Hid ((Pl w w5 p b L ∧ Src w5 (.slice gp v.length gc') v) ∧ EnIs w5 va (dropE k)) := ⟨⟨G4.out.1.step hb5, G4.out.2.below hb5⟩, hva⟩
      clear hva hb5 G4
      have hdr : right (dropE k) = true := drop_right HK.out.2.1 HK.out.2.2
      go_wp2_with fail
      refine (apply_eq G5.out.1.1.dc G5.out.2 HLF.out (after_drop L hdr rfl (by show (get k L).isSome = true; rw [HG1.out]; rfl))).mono ?_
      rintro e w6 ⟨rfl, hd6, ho6⟩
      have G6 : Hid (Pl w w6 p b (del k L) ∧ Src w6 (.slice gp v.length gc') v) := ⟨G5.out.1.1.turn hd6 ho6, src_map G5.out.1.2 ho6 G5.out.1.1.dc.isMap⟩
      clear hd6 ho6 G5
      have hgd : get k (del k L) = none := by rw [get_del, if_pos rfl]
      have HGD : Hid (get k (del k L) = none) := hgd
      clear hgd
      have HLD : Hid ((del k L).length < 1000000) := Nat.lt_of_le_of_lt (length_del_le k L) HLF.out
      generalize del k L = M at *
      go_wp2_with fail
      refine (drop_any w6 k HK.out.1 (by have := HK.out.2.2; omega)).mono ?_
      rintro e w7 ⟨vb, rfl, hvb, hb7⟩
      have G7 : Hid ((Pl w w7 p b M ∧ Src w7 (.slice gp v.length gc') v) ∧ EnIs w7 vb (dropE k)) := ⟨⟨G6.out.1.step hb7, G6.out.2.below hb7⟩, hvb⟩
      clear hvb hb7 G6
      go_wp2_with fail
      refine (apply_eq G7.out.1.1.dc G7.out.2 HLD.out (after_none M hdr rfl (by show (get k M).isSome = false; rw [HGD.out]; rfl))).mono ?_
      rintro e w8 ⟨rfl, hd8, ho8⟩
      have G8 : Hid (Pl w w8 p b M ∧ Src w8 (.slice gp v.length gc') v) := ⟨G7.out.1.1.turn hd8 ho8, src_map G7.out.1.2 ho8 G7.out.1.1.dc.isMap⟩
      clear hd8 ho8 G7 hdr
      obtain ⟨cc2, w9, hcv2, hs2, hb9⟩ := str_src w8 k HK.out.1
      obtain ⟨g2, hg2⟩ : ∃ g, g = w8.heap.size := ⟨_, rfl⟩
      rw [← hg2] at hcv2 hs2
      have G9 : Hid ((Pl w w9 p b M ∧ Src w9 (.slice gp v.length gc') v) ∧ Src w9 (.slice (some ⟨g2, 0, none⟩) k.length cc2) k) := ⟨⟨G8.out.1.step hb9, G8.out.2.below hb9⟩, hs2⟩
      clear hs2 hb9 hg2 G8
      go_wp2_with fail
      refine (Get_any w9 p b M _ _ _ k G9.out.1.1.dc G9.out.2 (Nat.le_trans HK.out.2.2 (by unfold maxLen; omega))).mono ?_
      rintro e w10 ⟨gw, rfl, hgw, hb10⟩
      rw [HGD.out]
      simp only [Option.isSome_none]
      have G10 : Hid (Pl w w10 p b M ∧ Src w10 (.slice gp v.length gc') v) := ⟨G9.out.1.1.step hb10, G9.out.1.2.below hb10⟩
      obtain ⟨gp2, gc2, hge2, -⟩ := hgw.slice
      subst hge2
      clear hgw hb10 G9 hcv2
      have hcv := conv_src (w := w10.drew) (show Src w10 _ _ from G10.out.2)
      have hcl : w10.cell? ⟨sb, so + (j - 1), none⟩ = some (.string (strB v)) := K3.out w10 G10.out.1.bel
      have hqq := strB_beqL HVB.out HVB.out
      rw [decide_eq_true rfl] at hqq
      have HFB : Hid (Below w.heap.size w w10.drew) := G10.out.1.bel.trans (C8.below_drewN 1 w10 _)
      have y1 : (0 : Int) ≤ (j : Int) - 1 := by omega
      have y2 : (j : Int) - 1 < (j : Int) := by omega
      have y3 : ((j : Int) - 1).toNat = j - 1 := by omega
      generalize strB v = s3 at *
      generalize v.length = vl at *
      generalize ((get k M).getD []).length = ul at *
      go_wp2_with fail
      go_region
      all_goals go_wp2_with fail
      all_goals go_ret
      all_goals exact ⟨rfl, HFB.out⟩
theorem last_any (w : World) (s : ByteArray) (a1 : Option Addr) (n c1 : Nat) (a2 : Option Addr) (m c2 : Nat) (h0 : ∃ k : List Nat, s = strB k ∧ ∀ x ∈ k, x < 256) (h1 : ∃ vs : List (List Nat), vs.length = n ∧ StrRow w a1 vs) (h2 : m ≤ 9223372036854775807 ∧ ∃ es : List En, es.length = m ∧ EnRow w a2 es) :
    Calls Try.prog 4 #[.string s, .slice a1 n c1, .slice a2 m c2] w fun e w' => e = .returned (.bool true) ∧ Below w.heap.size w w' := by
  obtain ⟨k, hk, hkb⟩ := h0
  obtain ⟨vs, hl, hr⟩ := h1
  obtain ⟨_, fs, hl2, hr2⟩ := h2
  by_cases g1 : s.size < 1
  · exact la_short w s a1 n c1 a2 m c2 g1
  by_cases g2 : 64 < s.size
  · exact la_long w s a1 n c1 a2 m c2 g2
  by_cases g3 : n < 1
  · exact la_none w s a1 n c1 a2 m c2 (by omega) (by omega) g3
  by_cases g4 : 10 < n
  · exact la_many w s a1 n c1 a2 m c2 (by omega) (by omega) g4
  by_cases g5 : 10 < m
  · exact la_more w s a1 n c1 a2 m c2 (by omega) (by omega) (by omega) (by omega) g5
  exact la_main w s a1 n c1 a2 m c2 k hk hkb (by omega) (by omega) vs hl hr (by omega) (by omega) fs hl2 hr2 (by omega)
end Go.Proofs.Ytigfiopmochliaa.D11
