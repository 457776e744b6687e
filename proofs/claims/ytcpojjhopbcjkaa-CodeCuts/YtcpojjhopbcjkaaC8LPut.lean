/- The contract of the statements' own put. -/
import Derived.Test.YtcpojjhopbcjkaaC8Small
namespace Go.Proofs.Ytcpojjhopbcjkaa.C8
open Go.RowKit
theorem own_older {base base' e size n : Nat} {w : World} {v : Value} {xs : List Value} (h : w.ownsRow base e size v n xs) (hb : base' ≤ base) : w.ownsRow base' e size v n xs := by
  obtain ⟨hl, h1 | ⟨g, cap, cur, rfl, hg, hr⟩⟩ := h
  · exact ⟨hl, .inl h1⟩
  · exact ⟨hl, .inr ⟨g, cap, cur, rfl, Nat.le_trans hb hg, hr⟩⟩
/-- Values that are parts. -/
def AreParts (w : World) (base : Nat) (xs : List Value) (ps : List Pt) : Prop := xs.length = ps.length ∧ ∀ j (h : j < ps.length), ∃ u, xs[j]? = some u ∧ PartIs w base u ps[j]
theorem AreParts.nil (w : World) (base : Nat) : AreParts w base [] [] := ⟨rfl, fun j h => absurd h (by simp)⟩
theorem PartIs.keep {w w' : World} {base : Nat} {u : Value} {p : Pt} (h : PartIs w base u p) (hb : Below base w w') : PartIs w' base u p := by
  obtain ⟨h0, h1 | ⟨h1, h2, ⟨s, h3, h4⟩ | h3⟩⟩ := h
  · exact ⟨h0, .inl h1⟩
  · exact ⟨h0, .inr ⟨h1, h2, .inl ⟨s, h3, h4.keep hb⟩⟩⟩
  · exact ⟨h0, .inr ⟨h1, h2, .inr h3⟩⟩
theorem PartIs.up {w : World} {base base' : Nat} {u : Value} {p : Pt} (h : PartIs w base u p) (hb : base ≤ base') : PartIs w base' u p := by
  obtain ⟨h0, h1 | ⟨h1, h2, ⟨s, h3, h4⟩ | h3⟩⟩ := h
  · exact ⟨h0, .inl h1⟩
  · exact ⟨h0, .inr ⟨h1, h2, .inl ⟨s, h3, h4.up hb⟩⟩⟩
  · exact ⟨h0, .inr ⟨h1, h2, .inr h3⟩⟩
theorem AreParts.keep {w w' : World} {base : Nat} {xs : List Value} {ps : List Pt} (h : AreParts w base xs ps) (hb : Below base w w') : AreParts w' base xs ps :=
  ⟨h.1, fun j hj => by obtain ⟨u, h1, h2⟩ := h.2 j hj; exact ⟨u, h1, h2.keep hb⟩⟩
theorem AreParts.snoc {w : World} {base : Nat} {xs : List Value} {ps : List Pt} {j : Nat} (h : AreParts w base xs (ps.take j)) (hj : j < ps.length) {u : Value} (hu : PartIs w base u ps[j]) : AreParts w base (xs ++ [u]) (ps.take (j + 1)) := by
  have hl : (ps.take j).length = j := by rw [List.length_take]; omega
  have hl2 : (ps.take (j + 1)).length = j + 1 := by rw [List.length_take]; omega
  refine ⟨by rw [List.length_append, h.1, hl, hl2]; rfl, fun k hk => ?_⟩
  rw [hl2] at hk
  rw [List.getElem_take]
  by_cases e : k = j
  · subst e
    exact ⟨u, by rw [List.getElem?_append_right (by rw [h.1, hl]; omega)]; simp [h.1, hl], hu⟩
  · obtain ⟨u', h1, h2⟩ := h.2 k (by omega)
    rw [List.getElem_take] at h2
    exact ⟨u', by rw [List.getElem?_append_left (by rw [h.1, hl]; omega)]; exact h1, h2⟩
theorem AreParts.row {w : World} {base b0 : Nat} {xs : List Value} {ps : List Pt} {q : Option Addr} {n c : Nat} (h : AreParts w base xs ps) (hown : w.ownsRow b0 20 1 (.slice q n c) n xs) (hb : base ≤ w.heap.size) : PartsIs w w.heap.size q ps := fun j hj => by
  obtain ⟨u, h1, h2⟩ := h.2 j hj
  obtain ⟨hl, ⟨e, h0⟩ | ⟨g, cap, cur, e, hg, hh, hn, hm, hc, ht⟩⟩ := hown
  · have hj' := (List.getElem?_eq_some_iff.1 h1).1
    omega
  · cases e
    refine ⟨g, 0, u, rfl, (Array.getElem?_eq_some_iff.1 hh).1, ?_, h2.up hb⟩
    rw [cell_of_row _ _ _ _ _ _ hh, Nat.zero_add]
    have hj' := (List.getElem?_eq_some_iff.1 h1).1
    rw [← ht, Nat.mul_one, List.getElem?_take_of_lt (by rw [hl] at hj'; omega)] at h1
    simpa using h1
theorem own_len {base e n : Nat} {w : World} {v : Value} {xs : List Value} (h : w.ownsRow base e 1 v n xs) : xs.length = n := by have := h.1; omega
theorem cell_new2 (w : World) (o1 : Obj) (u : Value) (t : TypeId) : ((w.alloc o1).alloc (.cells #[u] t)).cell? ⟨w.heap.size + 1, 0, none⟩ = some u := by
  have h := heap_alloc_new (w.alloc o1) (.cells #[u] t)
  rw [show (w.alloc o1).heap.size = w.heap.size + 1 from by simp] at h
  rw [cell_of_row _ _ _ _ _ _ h]
  rfl
set_option maxHeartbeats 4000000 in
theorem put_any (ps : List Pt) (q : Option Addr) (n c : Nat) (w : World) (hn : ps.length = n) (hl : n ≤ 20) (hp : PartRow w q ps) :
    Calls Try.prog 11 #[.slice q n c] w fun e w' => PutSays w.heap.size ps e w w' := by
  have HP : Hid (PartRow w q ps) := hp
  have HN : Hid (ps.length = n) := hn
  have n1 : (n : Int) ≤ 20 := by omega
  clear hp hn
  go_enter Try.func11, Try.ntmps11
  go_wp2_with fail
  go_loopw [4, 9] (fun al i wr => ∃ (j : Nat) (xs : List Value), j ≤ n ∧ i = .int .i64 j ∧ Hid (wr.ownsRow w.heap.size 20 1 al j xs) ∧ Hid (Below w.heap.size w wr) ∧ Hid (AreParts wr w.heap.size xs (ps.take j))) (fun _ i _ => n - (intOf i).toNat)
  case atStart => exact ⟨0, [], by omega, rfl, own_none _ _ _ _, Below.refl _ _, AreParts.nil _ _⟩
  case round =>
    obtain ⟨j, xs, hj, rfl, HO, HB, HA⟩ := hrel
    by_cases hlt : j < n
    · have hjp : j < ps.length := by rw [HN.out]; exact hlt
      obtain ⟨b, o, sv, rfl, hb, d0, d1, d2, hs, ht⟩ := HP.out.below HB.out j hjp
      obtain ⟨sp, sc, rfl, -⟩ := hs.1.slice
      have j1 : (j : Int) < (n : Int) := by omega
      have j0 : (0 : Int) ≤ (j : Int) := by omega
      have j2 : (j : Int) ≤ 20 := by omega
      have HS1 : Hid (∀ w' u, Below w.heap.size wr w' → PartIs w' w.heap.size u ps[j] → AreParts w' w.heap.size (xs ++ [u]) (ps.take (j + 1))) := fun w' u h1 h2 => (HA.out.keep h1).snoc hjp h2
      generalize ps[j] = pt at *
      obtain ⟨isT, pn, tx⟩ := pt
      simp only at d0 d1 d2 hs ht
      have HSM : Hid (∀ x ∈ tx, x < 256) := hs.1.small
      have HTL : Hid (tx.length ≤ 9223372036854775807) := ht
      obtain ⟨tl, HTE⟩ : ∃ tl, Hid (tx.length = tl) := ⟨_, rfl⟩
      rw [HTE.out] at d2 hs
      have HSO : Hid (Old w.heap.size wr (.slice sp tl sc) tx) := hs
      obtain ⟨st, HST⟩ : ∃ st, Hid (strB tx = st) := ⟨_, rfl⟩
      have hcv : (convert 25 9 (.slice sp tl sc)).run Try.prog (wr.alloc (Obj.cells #[.bool true, .int .i64 pn, .slice sp tl sc] 30)) = .ok (.string st) (wr.alloc (Obj.cells #[.bool true, .int .i64 pn, .slice sp tl sc] 30)) := by
        rw [← HST.out]
        exact conv_src (hs.1.below ((Below.refl _ wr).alloc (Nat.le_refl _) _))
      clear hs ht hjp HA
      have FIN : ∀ (cp u : Value) (isT' : Bool), isT' = isT → cp = .bool isT' → u.oneCell' = true → PartIs (wr.alloc (Obj.cells #[cp, .int .i64 pn, .slice sp tl sc] 30)) w.heap.size u ⟨isT', pn, tx⟩ →
          ∀ v' w', w'.ownsRow w.heap.size 20 1 v' (j + 1) (xs ++ [u]) → ((wr.alloc (Obj.cells #[cp, .int .i64 pn, .slice sp tl sc] 30)).alloc (Obj.cells #[u] 20)).grownBy w' u4.ownBlock → Below w.heap.size w w' ∧ AreParts w' w.heap.size (xs ++ [u]) (ps.take (j + 1)) := by
        intro cp u isT' e1 e2 hu hpi v' w' h1 h2
        subst e1 e2
        have hA1 : Below wr.heap.size wr ((wr.alloc (Obj.cells #[.bool isT', .int .i64 pn, .slice sp tl sc] 30)).alloc (Obj.cells #[u] 20)) := ((Below.refl _ wr).alloc (Nat.le_refl _) _).alloc (by simp) _
        have hw1 := own_below HO.out hA1
        have hb2 := below_append hw1 h2 (Nat.le_trans HB.out.size hA1.size)
        have hb3 : Below w.heap.size wr w' := (bel_le hA1 HB.out.size).trans hb2
        refine ⟨HB.out.trans hb3, HS1.out w' u hb3 ?_⟩
        have hA0 : Below w.heap.size (wr.alloc (Obj.cells #[.bool isT', .int .i64 pn, .slice sp tl sc] 30)) ((wr.alloc (Obj.cells #[.bool isT', .int .i64 pn, .slice sp tl sc] 30)).alloc (Obj.cells #[u] 20)) := (Below.refl _ _).alloc (Nat.le_trans HB.out.size (by simp)) _
        exact (hpi.keep hA0).keep hb2
      have HFIN : Hid (∀ (cp u : Value) (isT' : Bool), isT' = isT → cp = .bool isT' → u.oneCell' = true → PartIs (wr.alloc (Obj.cells #[cp, .int .i64 pn, .slice sp tl sc] 30)) w.heap.size u ⟨isT', pn, tx⟩ →
          ∀ v' w', w'.ownsRow w.heap.size 20 1 v' (j + 1) (xs ++ [u]) → ((wr.alloc (Obj.cells #[cp, .int .i64 pn, .slice sp tl sc] 30)).alloc (Obj.cells #[u] 20)).grownBy w' u4.ownBlock → Below w.heap.size w w' ∧ AreParts w' w.heap.size (xs ++ [u]) (ps.take (j + 1))) := FIN
      have HOW : Hid (∀ o1 o2, ((wr.alloc o1).alloc o2).ownsRow w.heap.size 20 1 u4 j xs ∧ w.heap.size ≤ ((wr.alloc o1).alloc o2).heap.size) := fun o1 o2 =>
        ⟨own_below HO.out (((Below.refl _ wr).alloc (Nat.le_refl _) o1).alloc (by simp) o2), Nat.le_trans HB.out.size (by simp; omega)⟩
      clear FIN HS1
      cases isT with
      | false =>
        have HPI : Hid (PartIs (wr.alloc (Obj.cells #[.bool false, .int .i64 pn, .slice sp tl sc] 30)) w.heap.size (.iface 3 (.int .i64 pn)) ⟨false, pn, tx⟩) := ⟨HSM.out, .inl ⟨rfl, rfl⟩⟩
        go_wp2_with (first | with_reducible (refine stop_builtin .append ?_))
        refine Stop.go ?_
        refine law_append_i w.heap.size u4 j xs (wr.heap.size + 1) (.iface 3 (.int .i64 pn)) rfl ?hx (HOW.out _ _).1 ?hc rfl (by omega) (HOW.out _ _).2 ?_
        case hx => rfl
        case hc => exact cell_new2 _ _ _ _
        intro v' w' h1 h2
        have h3 := HFIN.out (.bool false) _ false rfl rfl rfl HPI.out v' w' h1 h2
        have HO3 : Hid (w'.ownsRow w.heap.size 20 1 v' (j + 1) (xs ++ [.iface 3 (.int .i64 pn)])) := h1
        have HB3 : Hid (Below w.heap.size w w') := h3.1
        have HA3 : Hid (AreParts w' w.heap.size (xs ++ [.iface 3 (.int .i64 pn)]) (ps.take (j + 1))) := h3.2
        generalize xs ++ [Value.iface 3 (.int .i64 pn)] = xs2 at *
        clear h1 h2 h3 HFIN HOW HPI HO HB hcv HSO
        go_wp2_with fail
        refine ⟨⟨j + 1, xs2, by omega, by simp, HO3, HB3, HA3⟩, ?_⟩
        simp only [intOf]
        omega
      | true =>
        by_cases hpar : (j : Int) % 2 = 0
        · have HPI : Hid (PartIs (wr.alloc (Obj.cells #[.bool true, .int .i64 pn, .slice sp tl sc] 30)) w.heap.size (.iface 25 (.slice sp tl sc)) ⟨true, pn, tx⟩) := ⟨HSM.out, .inr ⟨rfl, HTL.out, .inl ⟨_, rfl, HSO.out.below ((Below.refl _ wr).alloc (Nat.le_refl _) _)⟩⟩⟩
          go_wp2_with (first | with_reducible (refine stop_builtin .append ?_))
          refine Stop.go ?_
          refine law_append_i w.heap.size u4 j xs (wr.heap.size + 1) (.iface 25 (.slice sp tl sc)) rfl ?hx (HOW.out _ _).1 ?hc rfl (by omega) (HOW.out _ _).2 ?_
          case hx => rfl
          case hc => exact cell_new2 _ _ _ _
          intro v' w' h1 h2
          have h3 := HFIN.out (.bool true) _ true rfl rfl rfl HPI.out v' w' h1 h2
          have HO3 : Hid (w'.ownsRow w.heap.size 20 1 v' (j + 1) (xs ++ [.iface 25 (.slice sp tl sc)])) := h1
          have HB3 : Hid (Below w.heap.size w w') := h3.1
          have HA3 : Hid (AreParts w' w.heap.size (xs ++ [.iface 25 (.slice sp tl sc)]) (ps.take (j + 1))) := h3.2
          generalize xs ++ [Value.iface 25 (.slice sp tl sc)] = xs2 at *
          clear h1 h2 h3 HFIN HOW HPI HO HB hcv HSO
          go_wp2_with fail
          refine ⟨⟨j + 1, xs2, by omega, by simp, HO3, HB3, HA3⟩, ?_⟩
          simp only [intOf]
          omega
        · have HPI : Hid (PartIs (wr.alloc (Obj.cells #[.bool true, .int .i64 pn, .slice sp tl sc] 30)) w.heap.size (.iface 9 (.string st)) ⟨true, pn, tx⟩) := ⟨HSM.out, .inr ⟨rfl, HTL.out, .inr (by rw [HST.out])⟩⟩
          go_wp2_with (first | with_reducible (refine stop_builtin .append ?_))
          refine Stop.go ?_
          refine law_append_i w.heap.size u4 j xs (wr.heap.size + 1) (.iface 9 (.string st)) rfl ?hx (HOW.out _ _).1 ?hc rfl (by omega) (HOW.out _ _).2 ?_
          case hx => rfl
          case hc => exact cell_new2 _ _ _ _
          intro v' w' h1 h2
          have h3 := HFIN.out (.bool true) _ true rfl rfl rfl HPI.out v' w' h1 h2
          have HO3 : Hid (w'.ownsRow w.heap.size 20 1 v' (j + 1) (xs ++ [.iface 9 (.string st)])) := h1
          have HB3 : Hid (Below w.heap.size w w') := h3.1
          have HA3 : Hid (AreParts w' w.heap.size (xs ++ [.iface 9 (.string st)]) (ps.take (j + 1))) := h3.2
          generalize xs ++ [Value.iface 9 (.string st)] = xs2 at *
          clear h1 h2 h3 HFIN HOW HPI HO HB hcv HSO
          go_wp2_with fail
          refine ⟨⟨j + 1, xs2, by omega, by simp, HO3, HB3, HA3⟩, ?_⟩
          simp only [intOf]
          omega
    · obtain rfl : j = n := by omega
      have j1 : ¬ (j : Int) < (j : Int) := by omega
      have HA0 : Hid (AreParts wr w.heap.size xs ps) := by have := HA.out; rwa [List.take_of_length_le (by rw [HN.out]; omega)] at this
      obtain ⟨q2, c2, rfl⟩ := own_slice HO.out
      have HC : ∀ W, W = wr → Calls Try.prog 23 #[.slice q2 j c2] W fun e w' => ∃ v er, e = .returned (.tuple #[v, er]) ∧ Hid (PutSays w.heap.size ps e w w') := by
        rintro W rfl
        have h1 := Put_any ps q2 c2 W (by rw [HN.out]; exact hl) (HA0.out.row HO.out HB.out.size)
        rw [HN.out] at h1
        refine h1.mono ?_
        intro e w' h2
        obtain ⟨h3, ⟨h4, v, rfl, h5⟩ | ⟨h4, rfl⟩⟩ := h2
        · exact ⟨_, _, rfl, HB.out.trans (bel_le h3 HB.out.size), .inl ⟨h4, v, rfl, own_older h5 HB.out.size⟩⟩
        · exact ⟨_, _, rfl, HB.out.trans (bel_le h3 HB.out.size), .inr ⟨h4, rfl⟩⟩
      clear HA HA0 HO HB
      go_wp2_with (first | (go_at_call 23; refine (HC _ rfl).mono ?_; rintro e w1 ⟨v, er, rfl, HF⟩))
      go_ret2
      exact HF.out
end Go.Proofs.Ytcpojjhopbcjkaa.C8
