/- The contracts of Put, for right parts, and of Encode. -/
import Derived.Test.YtfjdaafckiefdaaGreatDoorE9Parts
import Derived.Test.YtfjdaafckiefdaaGreatDoorMgE
namespace Go.Proofs.YtfjdaafckiefdaaGreatDoor.E9
open Go.RowKit C8
theorem own_older {base base' e size n : Nat} {w : World} {v : Value} {xs : List Value} (h : w.ownsRow base e size v n xs) (hb : base' ≤ base) : w.ownsRow base' e size v n xs := by
  obtain ⟨hl, h1 | ⟨g, cap, cur, rfl, hg, hr⟩⟩ := h
  · exact ⟨hl, .inl h1⟩
  · exact ⟨hl, .inr ⟨g, cap, cur, rfl, Nat.le_trans hb hg, hr⟩⟩
theorem err_sub {ps : List Pt} (h : Cd.err ps = 0) (j : Nat) : Cd.err (ps.take j) = 0 := by
  induction ps generalizing j with
  | nil => simp [Cd.err]
  | cons p r ih =>
    cases j with
    | zero => rfl
    | succ j =>
      have hp := Cd.wrong_of_err h p (by simp)
      rw [List.take_succ_cons]
      rw [Cd.err, if_pos hp] at h
      exact err_cons hp (ih h j)
theorem enc_sub (ps : List Pt) (j : Nat) : (Cd.enc (ps.take j)).length ≤ (Cd.enc ps).length := by
  conv => rhs; rw [← List.take_append_drop j ps, Cd.enc_append, List.length_append]
  omega
set_option maxHeartbeats 2000000 in
theorem Put_ok (ps : List Pt) (q : Option Addr) (c : Nat) (w : World) (hl : ps.length ≤ 64) (he : Cd.err ps = 0) (hz : (Cd.enc ps).length ≤ 80000) (hp : PartsIs w w.heap.size q ps) :
    Calls Tryz.prog 43 #[.slice q ps.length c] w fun e w' => ∃ v, e = .returned (.tuple #[v, .int .i64 0]) ∧ w'.ownsRow w.heap.size 5 1 v (Cd.enc ps).length (ints .u8 (Cd.enc ps)) ∧ Below w.heap.size w w' := by
  have HP : Hid (PartsIs w w.heap.size q ps) := hp
  have HE0 : Hid (Cd.err ps = 0) := he
  have HZ : Hid ((Cd.enc ps).length ≤ 80000) := hz
  obtain ⟨n, HN⟩ : ∃ n, Hid (ps.length = n) := ⟨_, rfl⟩
  rw [HN.out] at hl ⊢
  clear hp he hz
  have l1 : (n : Int) ≤ 64 := by omega
  go_enter Tryz.func43, Tryz.ntmps43
  go_wp2_with fail
  go_loopw [4, 10] (fun sl i wr => ∃ j : Nat, j ≤ n ∧ i = .int .i64 j ∧ Hid (wr.ownsRow w.heap.size 5 1 sl (Cd.enc (ps.take j)).length (ints .u8 (Cd.enc (ps.take j)))) ∧ Hid (Below w.heap.size w wr)) (fun _ i _ => n - (intOf i).toNat)
  case atStart => exact ⟨0, by omega, rfl, own_none _ _ _ _, Below.refl _ _⟩
  case round =>
    obtain ⟨j, hj, rfl, HO, HB⟩ := hrel
    by_cases hlt : j < n
    · have hjp : j < ps.length := by rw [HN.out]; exact hlt
      obtain ⟨b, o, u, rfl, hb, hc, hpart⟩ := HP.out j hjp
      have d1 := (HB.out.cell (p := ⟨b, o + j, none⟩) hb).trans hc
      have HPT : Hid (PartIs wr w.heap.size u ps[j]) := hpart.below HB.out
      have j1 : (j : Int) < (n : Int) := by omega
      have j0 : (0 : Int) ≤ (j : Int) := by omega
      have HL : Hid ((Cd.enc (ps.take j)).length ≤ 80000) := Nat.le_trans (enc_sub ps j) HZ.out
      have HS : Hid (w.heap.size ≤ wr.heap.size) := HB.out.size
      clear hc hpart
      have hw : Cd.wrong ps[j] = 0 := Cd.wrong_of_err HE0.out _ (List.getElem_mem hjp)
      have HC2 : Hid (Cd.enc (ps.take (j + 1)) = Cd.enc (ps.take j) ++ Cd.one ps[j]) := by
        show _ = _
        rw [List.take_succ_eq_append_getElem hjp, Cd.enc_snoc]
      have HC : ∀ W, W = wr → Calls Tryz.prog 91 #[u4, u] W fun e w' => ∃ v', e = .returned (.tuple #[v', .int .i64 0]) ∧ Hid (w'.ownsRow w.heap.size 5 1 v' (Cd.enc (ps.take (j + 1))).length (ints .u8 (Cd.enc (ps.take (j + 1))))) ∧ Hid (Below w.heap.size w w') := by
        rintro W rfl
        refine (addPart_ok _ u4 _ w.heap.size u ps[j] W HO.out HL.out HS.out HPT.out hw).mono ?_
        rintro e w' ⟨v', rfl, h1, h2⟩
        refine ⟨v', rfl, ?_, HB.out.trans h2⟩
        show World.ownsRow _ _ _ _ _ _ _
        rw [HC2.out, List.length_append]
        exact h1
      clear hw HC2 HL HPT HO hjp
      go_wp2_with (first | (go_at_call 91; refine (HC _ rfl).mono ?_; rintro e w1 ⟨v1, rfl, HO1, HB1⟩))
      refine ⟨⟨j + 1, by omega, by simp, HO1, HB1⟩, ?_⟩
      simp only [intOf]
      omega
    · obtain rfl : j = n := by omega
      have j1 : ¬ (j : Int) < (j : Int) := by omega
      have HO0 : Hid (wr.ownsRow w.heap.size 5 1 u4 (Cd.enc ps).length (ints .u8 (Cd.enc ps))) := by have := HO.out; rwa [List.take_of_length_le (by rw [HN.out]; omega)] at this
      clear HO
      go_wp2_with fail
      go_ret2
      exact ⟨_, rfl, HO0.out, HB.out⟩
/-- What Encode tells. -/
def EncSays (a : En) (w : World) (e : Ending) (w' : World) : Prop :=
  Below w.heap.size w w' ∧ ((right a = true ∧ ∃ v, e = .returned (.tuple #[v, .int .i64 0]) ∧ w'.ownsRow w.heap.size 5 1 v (bytes a).length (ints .u8 (bytes a))) ∨ (right a = false ∧ e = .returned (.tuple #[.slice none 0 0, .int .i64 10])))
set_option maxHeartbeats 4000000 in
theorem Encode_any (a : En) (va : Value) (w : World) (ha : EnIs w va a) :
    Calls Tryz.prog 59 #[va] w fun e w' => EncSays a w e w' := by
  have hA := ha
  obtain ⟨np, nc, vp, vc, q, c, rfl, -⟩ := ha
  have HRT : ∀ W, Below w.heap.size w W → Calls Tryz.prog 37 #[.agg (EnV a np nc vp vc q c)] W fun e w' => e = .returned (.bool (right a)) ∧ Below W.heap.size W w' := fun W hW => Right_any a _ W (hA.below hW)
  have HPA : right a = true → ∀ W, Below w.heap.size w W → Calls Tryz.prog 103 #[.agg (EnV a np nc vp vc q c)] W fun e w' => ∃ q2 c2 n2, e = .returned (.slice q2 n2 c2) ∧ Hid (n2 = (pts a).length ∧ PartsIs w' w'.heap.size q2 (pts a)) ∧ Hid (Below w.heap.size w w') := fun hr W hW => (parts_any a _ W (hA.below hW) hr).mono (by
    rintro e w' ⟨q2, c2, rfl, h1, h2⟩
    exact ⟨q2, c2, _, rfl, ⟨rfl, h1⟩, hW.trans (bel_le h2 hW.size)⟩)
  have HPU : right a = true → ∀ W q2 n2 c2, Hid (n2 = (pts a).length ∧ PartsIs W W.heap.size q2 (pts a)) → Hid (Below w.heap.size w W) → Calls Tryz.prog 43 #[.slice q2 n2 c2] W fun e w' => ∃ v, e = .returned (.tuple #[v, .int .i64 0]) ∧ Hid (EncSays a w (.returned (.tuple #[v, .int .i64 0])) w') := fun hr W q2 n2 c2 h1 h2 => by
    obtain ⟨rfl, h1p⟩ := h1.out
    refine (Put_ok (pts a) q2 c2 W (Nat.le_trans (pts_length hr) (by omega)) (right_err hr) (Nat.le_trans (bytes_length hr).1 (by omega)) h1p).mono ?_
    rintro e w' ⟨v, rfl, h3, h4⟩
    exact ⟨v, rfl, h2.out.trans (bel_le h4 h2.out.size), .inl ⟨hr, v, rfl, own_older h3 h2.out.size⟩⟩
  have HNO : Hid (right a = false → ∀ W, Below w.heap.size w W → EncSays a w (.returned (.tuple #[.slice none 0 0, .int .i64 10])) W) := fun hr W h => ⟨h, .inr ⟨hr, rfl⟩⟩
  clear hA
  obtain ⟨S, HS⟩ : ∃ S, Hid (EncSays a w = S) := ⟨_, rfl⟩
  rw [HS.out] at HPU HNO ⊢
  clear HS
  cases hr : right a with
  | true =>
    rw [hr] at HRT
    replace HPA := HPA hr
    replace HPU := HPU hr
    generalize (pts a) = ps at *
    clear HNO hr
    obtain ⟨a1, a2, a3, a4, a5, a6, a7, a8, a9⟩ := a
    simp only [EnV] at HRT HPA ⊢
    generalize a4.length = n4 at *
    generalize a5.length = n5 at *
    generalize a9.length = n9 at *
    have hb1 : Below w.heap.size w (w.alloc (.cells #[.int .i64 a1, .int .i64 a2, .int .i64 a3, .slice np n4 nc, .slice vp n5 vc, .int .i64 a6, .int .i64 a7, .int .i64 a8, .slice q n9 c] 49)) := bel_alloc (Nat.le_refl _) _
    have HR1 : ∀ W, W = w.alloc (.cells #[.int .i64 a1, .int .i64 a2, .int .i64 a3, .slice np n4 nc, .slice vp n5 vc, .int .i64 a6, .int .i64 a7, .int .i64 a8, .slice q n9 c] 49) → Calls Tryz.prog 37 #[.agg #[.int .i64 a1, .int .i64 a2, .int .i64 a3, .slice np n4 nc, .slice vp n5 vc, .int .i64 a6, .int .i64 a7, .int .i64 a8, .slice q n9 c]] W fun e w' => e = .returned (.bool true) ∧ Hid (Below w.heap.size w w') ∧ w'.cell? ⟨w.heap.size, 0, none⟩ = some (.int .i64 a1) ∧ w'.cell? ⟨w.heap.size, 1, none⟩ = some (.int .i64 a2) ∧ w'.cell? ⟨w.heap.size, 2, none⟩ = some (.int .i64 a3) ∧ w'.cell? ⟨w.heap.size, 3, none⟩ = some (.slice np n4 nc) ∧ w'.cell? ⟨w.heap.size, 4, none⟩ = some (.slice vp n5 vc) ∧ w'.cell? ⟨w.heap.size, 5, none⟩ = some (.int .i64 a6) ∧ w'.cell? ⟨w.heap.size, 6, none⟩ = some (.int .i64 a7) ∧ w'.cell? ⟨w.heap.size, 7, none⟩ = some (.int .i64 a8) ∧ w'.cell? ⟨w.heap.size, 8, none⟩ = some (.slice q n9 c) := by
      rintro W rfl
      refine (HRT _ hb1).mono ?_
      rintro e w' ⟨rfl, h2⟩
      have hh := (h2.block w.heap.size (by simp)).trans (heap_alloc_new w (.cells #[.int .i64 a1, .int .i64 a2, .int .i64 a3, .slice np n4 nc, .slice vp n5 vc, .int .i64 a6, .int .i64 a7, .int .i64 a8, .slice q n9 c] 49))
      refine ⟨rfl, hb1.trans (bel_le h2 hb1.size), ?_, ?_, ?_, ?_, ?_, ?_, ?_, ?_, ?_⟩ <;> (rw [cell_of_row _ _ _ _ _ _ hh]; rfl)
    clear HRT hb1
    go_enter Tryz.func59, Tryz.ntmps59
    go_wp2_with (first | (go_at_call 37; refine (HR1 _ rfl).mono ?_; rintro e w1 ⟨rfl, HB1, d0, d1, d2, d3, d4, d5, d6, d7, d8⟩) | (go_at_call 103; refine (HPA _ HB1.out).mono ?_; rintro e w2 ⟨q2, c2, n2, rfl, HP2, HB2⟩) | (go_at_call 43; refine (HPU _ _ _ _ HP2 HB2).mono ?_; rintro e w3 ⟨v3, rfl, HF⟩))
    exact HF.out
  | false =>
    rw [hr] at HRT
    replace HNO : Hid (∀ W, Below w.heap.size w W → S (.returned (.tuple #[.slice none 0 0, .int .i64 10])) W) := HNO.out hr
    clear HPA HPU hr
    obtain ⟨a1, a2, a3, a4, a5, a6, a7, a8, a9⟩ := a
    simp only [EnV] at HRT ⊢
    generalize a4.length = n4 at *
    generalize a5.length = n5 at *
    generalize a9.length = n9 at *
    have HB0 : Hid (Below w.heap.size w (w.alloc (.cells #[.int .i64 a1, .int .i64 a2, .int .i64 a3, .slice np n4 nc, .slice vp n5 vc, .int .i64 a6, .int .i64 a7, .int .i64 a8, .slice q n9 c] 49))) := bel_alloc (Nat.le_refl _) _
    have HR1 : ∀ W, W = w.alloc (.cells #[.int .i64 a1, .int .i64 a2, .int .i64 a3, .slice np n4 nc, .slice vp n5 vc, .int .i64 a6, .int .i64 a7, .int .i64 a8, .slice q n9 c] 49) → Calls Tryz.prog 37 #[.agg #[.int .i64 a1, .int .i64 a2, .int .i64 a3, .slice np n4 nc, .slice vp n5 vc, .int .i64 a6, .int .i64 a7, .int .i64 a8, .slice q n9 c]] W fun e w' => e = .returned (.bool false) ∧ Hid (Below w.heap.size w w') := by
      rintro W rfl
      refine (HRT _ HB0.out).mono ?_
      rintro e w' ⟨rfl, h2⟩
      exact ⟨rfl, HB0.out.trans (bel_le h2 HB0.out.size)⟩
    clear HRT
    go_enter Tryz.func59, Tryz.ntmps59
    go_wp2_with (first | (go_at_call 37; refine (HR1 _ rfl).mono ?_; rintro e w1 ⟨rfl, HB1⟩))
    exact HNO.out _ HB1.out
end Go.Proofs.YtfjdaafckiefdaaGreatDoor.E9
