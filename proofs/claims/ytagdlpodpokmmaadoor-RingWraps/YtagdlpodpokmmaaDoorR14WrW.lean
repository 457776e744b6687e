/- RingWraps: what opens a wrapped key; the walk. -/
import Derived.Test.YtagdlpodpokmmaaDoorR14Anc
import Derived.Test.YtagdlpodpokmmaaDoorS7Args
namespace Go.Proofs.YtagdlpodpokmmaaDoor.S7
open Go.RowKit
theorem opens_skip (k n o b : List Nat) : ∀ (K M : List Su.Thing) (i : Nat), (∀ t ∈ K, t.1 ≠ 66) → Su.opens k n o b i (K ++ M) = Su.opens k n o b (i + K.length) M
  | [], M, i, _ => by simp
  | t :: K, M, i, h => by
    have h1 := h t (by simp)
    show (if t.1 = 66 ∧ _ then _ else Su.opens k n o b (i + 1) (K ++ M)) = _
    rw [if_neg (fun e => h1 e.1), opens_skip k n o b K M (i + 1) (fun u hu => h u (by simp [hu]))]
    congr 1
    simp
    omega
theorem opens_nil (k n o b : List Nat) (K : List Su.Thing) (i : Nat) (h : ∀ t ∈ K, t.1 ≠ 66) : Su.opens k n o b i K = none := by
  have := opens_skip k n o b K [] i h
  rw [List.append_nil] at this
  rw [this]
  rfl
theorem pos_eq {L : List Su.Thing} {k t k' t' : List Nat} {i : Nat} (h : Su.pos 77 k t 0 L = some i) (h' : Su.pos 77 k' t' 0 L = some i) : k = k' ∧ t = t' := by
  obtain ⟨u, h1, _, h2, h3⟩ := Su.pos_get 77 k t 0 L i h
  obtain ⟨u', h1', _, h2', h3'⟩ := Su.pos_get 77 k' t' 0 L i h'
  rw [h1] at h1'
  cases h1'
  exact ⟨h2.symm.trans h2', h3.symm.trans h3'⟩
/-- Two codes that were asked for, the second later, are the same just if key and text are. -/
theorem num_later {L M : List Su.Thing} {k t k' t' : List Nat} (hM : ∃ N, M = Su.add L 77 k t ++ N) : Su.num L 77 k t = Su.num M 77 k' t' ↔ k = k' ∧ t = t' := by
  obtain ⟨N, rfl⟩ := hM
  have h1 : Su.pos 77 k t 0 (Su.add L 77 k t ++ N) = some (Su.num L 77 k t) := Su.pos_stays (Su.pos_add L 77 k t)
  constructor
  · intro e
    obtain ⟨N', hN'⟩ := Su.add_eq (Su.add L 77 k t ++ N) 77 k' t'
    have h2 := Su.pos_add (Su.add L 77 k t ++ N) 77 k' t'
    rw [hN'] at h2
    have h3 : Su.pos 77 k t 0 ((Su.add L 77 k t ++ N) ++ N') = some (Su.num L 77 k t) := Su.pos_stays h1
    rw [e] at h3
    exact pos_eq h3 h2
  · rintro ⟨rfl, rfl⟩
    exact (Su.num_of h1).1.symm
theorem mk_later {L M : List Su.Thing} {k s k' s' : List Nat} {n n' : Nat} (hL : L.length < 900000) (hM' : M.length < 900000) (hM : ∃ N, M = adk L k s n ++ N) : mk L k s n = mk M k' s' n' ↔ k = k' ∧ s ++ six n = s' ++ six n' := by
  unfold mk
  have h1 := (Su.num_le L 77 k (s ++ six n)).2
  have h2 := (Su.num_le M 77 k' (s' ++ six n')).2
  rw [Su.sign_inj (by omega) (by omega)]
  constructor
  · rintro ⟨_, e⟩
    exact (num_later hM).1 e
  · intro e
    exact ⟨rfl, (num_later hM).2 e⟩
theorem mem_six {m n : Nat} (hm : m ≤ 1099511627776) (hn : n ≤ 1099511627776) : memB ++ six m = memB ++ six n ↔ m = n := by
  constructor
  · intro e
    exact six_inj hm hn (List.append_cancel_left e)
  · rintro rfl
    rfl
def rL0 : List Su.Thing := [(75, [], [], [], [])]
theorem add_no66 {L : List Su.Thing} (h : ∀ t ∈ L, t.1 ≠ 66) (k t : List Nat) : ∀ u ∈ Su.add L 77 k t, u.1 ≠ 66 := by
  unfold Su.add
  split
  · exact h
  · intro u hu
    rcases List.mem_append.1 hu with e | e
    · exact h u e
    · rw [List.mem_singleton.1 e]; show (77 : Nat) ≠ 66; decide
/-- A wrapped key is opened by just the one for whom it is. -/
theorem wraps_open (s s' : List Nat) (who he ep th : Nat) (hw : who ≤ 16) (hh : he ≤ 16) (h1 : ep ≤ 16) (h2 : th ≤ 16) (t : List Nat) (ht : t.length = 32) :
    Su.opens (mk (adk rL0 s memB who ++ [bxT rL0 s who ep t]) s' memB he) (non 0 th) wraB (Su.box ((adk rL0 s memB who).length + 1) 32) 0 (adk (adk rL0 s memB who ++ [bxT rL0 s who ep t]) s' memB he) = if s = s' ∧ who = he ∧ ep = th then some t else none := by
  have hl0 : (adk rL0 s memB who).length ≤ 2 := adk_length rL0 s memB who
  have hno : ∀ u ∈ adk rL0 s memB who, u.1 ≠ 66 := add_no66 (fun u hu => by rw [List.mem_singleton.1 hu]; decide) _ _
  have hkey : mk rL0 s memB who = mk (adk rL0 s memB who ++ [bxT rL0 s who ep t]) s' memB he ↔ s = s' ∧ who = he := by
    rw [mk_later (by decide) (by rw [List.length_append]; show _ + 1 < _; omega) ⟨_, rfl⟩, mem_six (by omega) (by omega)]
  obtain ⟨N, hN⟩ := Su.add_eq (adk rL0 s memB who ++ [bxT rL0 s who ep t]) 77 s' (memB ++ six he)
  have hN66 : ∀ u ∈ N, u.1 ≠ 66 := by
    intro u hu
    have hall : u ∈ adk (adk rL0 s memB who ++ [bxT rL0 s who ep t]) s' memB he := by unfold adk; unfold adk at hN; rw [hN]; exact List.mem_append_right _ hu
    unfold Su.add at hN
    split at hN
    · have hn : N = [] := by
        have := congrArg List.length hN
        simp only [List.length_append] at this
        exact List.eq_nil_of_length_eq_zero (by omega)
      rw [hn] at hu
      simp at hu
    · have hn := List.append_cancel_left hN
      rw [← hn] at hu
      rw [List.mem_singleton.1 hu]
      show (77 : Nat) ≠ 66
      decide
  have hA : adk (adk rL0 s memB who ++ [bxT rL0 s who ep t]) s' memB he = adk rL0 s memB who ++ ([bxT rL0 s who ep t] ++ N) := by
    show Su.add _ 77 s' (memB ++ six he) = _
    rw [hN, List.append_assoc]
  rw [hA, opens_skip _ _ _ _ _ _ _ hno, Nat.zero_add]
  show (if (bxT rL0 s who ep t).1 = 66 ∧ Su.box ((adk rL0 s memB who).length + 1) (bxT rL0 s who ep t).2.2.2.2.length = Su.box ((adk rL0 s memB who).length + 1) 32 ∧ (bxT rL0 s who ep t).2.1 = mk (adk rL0 s memB who ++ [bxT rL0 s who ep t]) s' memB he ∧ (bxT rL0 s who ep t).2.2.1 = non 0 th ∧ (bxT rL0 s who ep t).2.2.2.1 = wraB then some (bxT rL0 s who ep t).2.2.2.2 else Su.opens _ _ _ _ _ N) = _
  by_cases hc : s = s' ∧ who = he ∧ ep = th
  · rw [if_pos hc, if_pos]
    · rfl
    · obtain ⟨h3, h4, rfl⟩ := hc
      refine ⟨rfl, ?_, hkey.2 ⟨h3, h4⟩, rfl, rfl⟩
      show Su.box _ t.length = _
      rw [ht]
  · rw [if_neg hc, if_neg, opens_nil _ _ _ _ _ _ hN66]
    rintro ⟨_, _, e1, e2, _⟩
    have h3 := hkey.1 e1
    have h4 := non_inj (by omega) (by omega) (by omega) (by omega) (show non 0 ep = non 0 th from e2)
    exact hc ⟨h3.1, h3.2, h4.2⟩
theorem un32_if {c : Prop} [Decidable c] {t : List Nat} (ht : t.length = 32) : un32 (if c then some t else none) = if c then some t else none := by
  by_cases h : c
  · rw [if_pos h]; simp [un32, ht]
  · rw [if_neg h]; rfl
set_option maxHeartbeats 8000000 in
set_option maxRecDepth 10000 in
theorem wraps_main (w : World) (a0 a1 : Option Addr) (l0 c0 l1 c1 : Nat) (s s' : List Nat) (who ep he th : Nat) (h0 : Src w (.slice a0 l0 c0) s) (h1 : Src w (.slice a1 l1 c1) s') (k0 : l0 ≤ 100) (k1 : l1 ≤ 100) (hw : 1 ≤ who ∧ who ≤ 16) (hep : 1 ≤ ep ∧ ep ≤ 16) (hhe : 1 ≤ he ∧ he ≤ 16) (hth : 1 ≤ th ∧ th ≤ 16) :
    Calls Tryd.prog 5 #[.slice a0 l0 c0, .slice a1 l1 c1, .int .i64 (who : Int), .int .i64 (ep : Int), .int .i64 (he : Int), .int .i64 (th : Int)] w fun e w' => e = .returned (.bool true) ∧ Below w.heap.size w w' := by
  obtain ⟨B, hBe⟩ : ∃ B, B = w.heap.size := ⟨_, rfl⟩
  have HBE : Hid (B = w.heap.size) := hBe
  rw [← hBe]
  have H0 : Hid (∀ w', Below B w w' → By B w' (.slice a0 l0 c0) s ∧ By B w' (.slice a1 l1 c1) s') := fun w' hb => by
    rw [HBE.out] at hb
    exact ⟨(By.old h0 (by rw [HBE.out]; exact Nat.le_refl _)).below hb, (By.old h1 (by rw [HBE.out]; exact Nat.le_refl _)).below hb⟩
  clear hBe h0 h1
  have q0 : ¬ (100 : Int) < (l0 : Int) := by omega
  have q1 : ¬ (100 : Int) < (l1 : Int) := by omega
  have q2 : ¬ (who : Int) < 1 := by omega
  have q3 : ¬ (16 : Int) < (who : Int) := by omega
  have q4 : ¬ (ep : Int) < 1 := by omega
  have q5 : ¬ (16 : Int) < (ep : Int) := by omega
  have q6 : ¬ (he : Int) < 1 := by omega
  have q7 : ¬ (16 : Int) < (he : Int) := by omega
  have q8 : ¬ (th : Int) < 1 := by omega
  have q9 : ¬ (16 : Int) < (th : Int) := by omega
  have HW : Hid ((1 ≤ who ∧ who ≤ 16) ∧ (1 ≤ ep ∧ ep ≤ 16) ∧ (1 ≤ he ∧ he ≤ 16) ∧ (1 ≤ th ∧ th ≤ 16)) := ⟨hw, hep, hhe, hth⟩
  clear hw hep hhe hth k0 k1
  go_enter Tryd.func5, Tryd.ntmps5
  go_wp2_with fail
  refine (anchor_any w).mono ?_
  rintro e w1 ⟨rfl, hb1⟩
  rw [← HBE.out] at hb1
  have HB1 : Hid (Below B w w1 ∧ B ≤ w1.heap.size) := ⟨hb1, by have := hb1.size; rw [HBE.out]; exact this⟩
  clear hb1
  go_wp2_with fail
  refine (Signs_sw HB1.out.2).mono ?_
  rintro e w2 ⟨p, q, m, x, rfl, h1, h2⟩
  have G2 : Hid (Sw B w2 p q m x [] ∧ Below B w w2 ∧ B ≤ w2.heap.size) := ⟨h1, HB1.out.1.trans (h2.mono HB1.out.2), Nat.le_trans HB1.out.2 h2.size⟩
  clear h1 h2 HB1
  go_wp2_with fail
  refine (Key_s G2.out.1 (by decide) G2.out.2.2).mono ?_
  rintro e w3 ⟨kv, rfl, h1, h2, h3⟩
  obtain ⟨kq, kc, rfl⟩ := own_slice h1
  have G3 : Hid (Sw B w3 p q m x rL0 ∧ By B w3 (.slice kq 32 kc) (Su.sign 75 1) ∧ Below B w w3 ∧ B ≤ w3.heap.size) := ⟨h2, By.own (Su.sign_lt (by decide) _) h1, G2.out.2.1.trans h3.kx.low, Nat.le_trans G2.out.2.2 h3.size⟩
  clear h1 h2 h3 G2
  go_wp2_with fail
  refine (Wrap_s G3.out.1 (by decide) G3.out.2.2.2 (H0.out w3 G3.out.2.2.1).1 who ep HW.out.1 HW.out.2.1 G3.out.2.1 (Su.sign_length _ _)).mono ?_
  rintro e w4 ⟨bv, rfl, ⟨h1, h2⟩, h3⟩
  obtain ⟨bq, bc, rfl⟩ := own_slice h1
  have G4 : Hid (Sw B w4 p q m x (adk rL0 s memB who ++ [bxT rL0 s who ep (Su.sign 75 1)]) ∧ By B w4 (.slice kq 32 kc) (Su.sign 75 1) ∧ By B w4 (.slice bq 48 bc) (Su.box ((adk rL0 s memB who).length + 1) 32) ∧ Below B w w4 ∧ B ≤ w4.heap.size) := ⟨h2, G3.out.2.1.kx h3.kx tu5, By.own (Su.box_lt _ _) h1, G3.out.2.2.1.trans h3.kx.low, Nat.le_trans G3.out.2.2.2 h3.size⟩
  clear h1 h2 h3 G3
  go_wp2_with fail
  have hl1 : (adk rL0 s memB who).length ≤ 2 := adk_length rL0 s memB who
  have hsh : Shr (adk rL0 s memB who ++ [bxT rL0 s who ep (Su.sign 75 1)]) := (Shr.adk (fun u hu => by rw [List.mem_singleton.1 hu]; decide) _ _ _ (by decide)).snoc (by show (Su.sign 75 1).length ≤ _; decide)
  refine (Unwrap_s G4.out.1 (by rw [List.length_append]; show _ + 1 < _; omega) hsh G4.out.2.2.2.2 (H0.out w4 G4.out.2.2.2.1).2 he th HW.out.2.2.1 HW.out.2.2.2 G4.out.2.2.1 (by rw [Su.box_length]; omega) (wraps_open s s' who he ep th HW.out.1.2 HW.out.2.2.1.2 HW.out.2.1.2 HW.out.2.2.2.2 (Su.sign 75 1) (Su.sign_length _ _))).mono ?_
  rintro e w5 ⟨h1, h2, h3⟩
  have HB5 : Hid (Below B w w5) := G4.out.2.2.2.1.trans h3.kx.low
  have hc0 := conv_src (H0.out w5 HB5.out).1.src
  have hc1 := conv_src (H0.out w5 HB5.out).2.src
  have hc2 := conv_src (G4.out.2.1.kx h3.kx tu5).src
  have HQ : Hid (((strB s).toList == (strB s').toList) = decide (s = s')) := strB_beqL (H0.out w5 HB5.out).1.src.small (H0.out w5 HB5.out).2.src.small
  rw [un32_if (Su.sign_length _ _)] at h1
  clear h2 h3 G4 H0 HW hl1 hsh
  by_cases hc : s = s' ∧ who = he ∧ ep = th
  · rw [if_pos hc] at h1
    obtain ⟨xv, rfl, hx, -⟩ : ∃ v, e = .returned (.tuple #[v, .int .i64 0]) ∧ Src w5 v (Su.sign 75 1) ∧ ∀ b, v.ownBlock = some b → w4.heap.size ≤ b := h1
    obtain ⟨hss, rfl, rfl⟩ := hc
    have hq : ((strB s).toList == (strB s').toList) = true := by rw [HQ.out, decide_eq_true hss]
    have hc3 := conv_src hx
    obtain ⟨xq, xc, rfl, -⟩ := hx.slice
    clear hx hss HQ
    generalize Su.sign 75 1 = sgn at *
    generalize sgn.length = sl at *
    generalize strB s = z1 at *
    generalize strB s' = z2 at *
    go_wp2_with fail
    go_ret
    exact ⟨rfl, HB5.out⟩
  · rw [if_neg hc] at h1
    obtain rfl : e = .returned (.tuple #[.slice none 0 0, .int .i64 20]) := h1
    by_cases hw : who = he
    · have e1 : ((who : Int) == (he : Int)) = true := by rw [hw]; exact beq_self_eq_true _
      by_cases hp : ep = th
      · have e2 : ((ep : Int) == (th : Int)) = true := by rw [hp]; exact beq_self_eq_true _
        have hq : ((strB s).toList == (strB s').toList) = false := by rw [HQ.out, decide_eq_false (fun e => hc ⟨e, hw, hp⟩)]
        clear hc HQ hw hp
        generalize strB s = z1 at *
        generalize strB s' = z2 at *
        go_wp2_with fail
        go_ret
        exact ⟨rfl, HB5.out⟩
      · have e2 : ((ep : Int) == (th : Int)) = false := by rw [beq_eq_false_iff_ne]; omega
        clear hc HQ hw
        go_wp2_with fail
        go_ret
        exact ⟨rfl, HB5.out⟩
    · have e1 : ((who : Int) == (he : Int)) = false := by rw [beq_eq_false_iff_ne]; omega
      clear hc HQ
      go_wp2_with fail
      go_ret
      exact ⟨rfl, HB5.out⟩
set_option maxHeartbeats 4000000 in
set_option maxRecDepth 10000 in
/-- What is let go. -/
theorem wraps_out (w : World) (a0 a1 : Option Addr) (l0 c0 l1 c1 : Nat) (who ep he th : Int) (h : ¬ (l0 ≤ 100 ∧ l1 ≤ 100 ∧ (1 ≤ who ∧ who ≤ 16) ∧ (1 ≤ ep ∧ ep ≤ 16) ∧ (1 ≤ he ∧ he ≤ 16) ∧ (1 ≤ th ∧ th ≤ 16))) :
    Calls Tryd.prog 5 #[.slice a0 l0 c0, .slice a1 l1 c1, .int .i64 who, .int .i64 ep, .int .i64 he, .int .i64 th] w fun e w' => e = .returned (.bool true) ∧ Below w.heap.size w w' := by
  go_enter Tryd.func5, Tryd.ntmps5
  go_wp2_with fail
  refine (anchor_any w).mono ?_
  rintro e w1 ⟨rfl, hb1⟩
  have HB1 : Hid (Below w.heap.size w w1) := hb1
  clear hb1
  by_cases q0 : (100 : Int) < (l0 : Int)
  · clear h
    go_wp2_with fail
    go_ret
    exact ⟨rfl, HB1.out⟩
  by_cases q1 : (100 : Int) < (l1 : Int)
  · clear h
    go_wp2_with fail
    go_ret
    exact ⟨rfl, HB1.out⟩
  by_cases q2 : who < 1
  · clear h
    go_wp2_with fail
    go_ret
    exact ⟨rfl, HB1.out⟩
  by_cases q3 : 16 < who
  · clear h
    go_wp2_with fail
    go_ret
    exact ⟨rfl, HB1.out⟩
  by_cases q4 : ep < 1
  · clear h
    go_wp2_with fail
    go_ret
    exact ⟨rfl, HB1.out⟩
  by_cases q5 : 16 < ep
  · clear h
    go_wp2_with fail
    go_ret
    exact ⟨rfl, HB1.out⟩
  by_cases q6 : he < 1
  · clear h
    go_wp2_with fail
    go_ret
    exact ⟨rfl, HB1.out⟩
  by_cases q7 : 16 < he
  · clear h
    go_wp2_with fail
    go_ret
    exact ⟨rfl, HB1.out⟩
  by_cases q8 : th < 1
  · clear h
    go_wp2_with fail
    go_ret
    exact ⟨rfl, HB1.out⟩
  by_cases q9 : 16 < th
  · clear h
    go_wp2_with fail
    go_ret
    exact ⟨rfl, HB1.out⟩
  exact absurd ⟨by omega, by omega, by omega, by omega, by omega, by omega⟩ h
theorem wraps_any (w : World) (a0 a1 : Option Addr) (l0 c0 l1 c1 : Nat) (who ep he th : Int) (s s' : List Nat) (h0 : Src w (.slice a0 l0 c0) s) (h1 : Src w (.slice a1 l1 c1) s') :
    Calls Tryd.prog 5 #[.slice a0 l0 c0, .slice a1 l1 c1, .int .i64 who, .int .i64 ep, .int .i64 he, .int .i64 th] w fun e w' => e = .returned (.bool true) ∧ Below w.heap.size w w' := by
  by_cases h : l0 ≤ 100 ∧ l1 ≤ 100 ∧ (1 ≤ who ∧ who ≤ 16) ∧ (1 ≤ ep ∧ ep ≤ 16) ∧ (1 ≤ he ∧ he ≤ 16) ∧ (1 ≤ th ∧ th ≤ 16)
  · obtain ⟨k0, k1, k2, k3, k4, k5⟩ := h
    have := wraps_main w a0 a1 l0 c0 l1 c1 s s' who.toNat ep.toNat he.toNat th.toNat h0 h1 k0 k1 (by omega) (by omega) (by omega) (by omega)
    rw [Int.toNat_of_nonneg (by omega), Int.toNat_of_nonneg (by omega), Int.toNat_of_nonneg (by omega), Int.toNat_of_nonneg (by omega)] at this
    exact this
  · exact wraps_out w a0 a1 l0 c0 l1 c1 who ep he th h
theorem wraps_law (w : World) (a0 a1 : Option Addr) (l0 c0 l1 c1 : Nat) (who ep he th : Int) (h0 : RowIs w a0 l0 c0) (h1 : RowIs w a1 l1 c1) :
    Calls Tryd.prog 5 #[.slice a0 l0 c0, .slice a1 l1 c1, .int .i64 who, .int .i64 ep, .int .i64 he, .int .i64 th] w fun e w' => e = .returned (.bool true) ∧ Below w.heap.size w w' := by
  obtain ⟨s, _, hs⟩ := Src.of h0
  obtain ⟨s', _, hs'⟩ := Src.of h1
  exact wraps_any w a0 a1 l0 c0 l1 c1 who ep he th s s' hs hs'
end Go.Proofs.YtagdlpodpokmmaaDoor.S7
