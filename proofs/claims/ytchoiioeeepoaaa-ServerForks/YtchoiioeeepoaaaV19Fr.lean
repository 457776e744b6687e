/- Frames that the statements build by themselves: small, right, bytes; what a batch tells. -/
import Derived.Test.YtchoiioeeepoaaaV19Sml
import Derived.Test.YtchoiioeeepoaaaF17RRight
namespace Go.Proofs.Ytchoiioeeepoaaa.V19
open Go.RowKit C8 E9 F17
theorem pf_is {w : World} {q : Option Addr} {n cp : Nat} {c : Int} {ls : Ls} (h : LkRow w q ls) (hn : ls.length = n) (hl : n ≤ 9223372036854775807) : FrIs w (.agg #[.int .i64 1, .int .i64 c, .int .i64 0, .slice q n cp, .slice none 0 0]) (pf c ls) := by
  subst hn
  exact ⟨q, cp, none, 0, rfl, h, Src.nil _, hl, Nat.zero_le _⟩
def op1 (c : Int) (ls : Ls) : OpD := ⟨0, 0, pf c ls, []⟩
def sm1 (ls : Ls) : Bool := decide (ls.length ≤ 10) && ls.all (fun y => decide (y.length ≤ 4200))
theorem small_one {W : World} {q : Option Addr} {n cp : Nat} {ls : Ls} (c : Int) (h : LkRow W q ls) (hn : ls.length = n) (hl : n ≤ 9223372036854775807) :
    Calls Try.prog 10 #[.slice (some ⟨W.heap.size, 0, none⟩) 1 1, .int .i64 1] (W.alloc (.cells #[.int .i64 0, .int .i64 0, .int .i64 1, .int .i64 c, .int .i64 0, .slice q n cp, .slice none 0 0, .slice none 0 0] 36)) fun e w' => e = .returned (.bool (sm1 ls)) ∧ Hid (Below W.heap.size W w') := by
  subst hn
  have hb : Below W.heap.size W (W.alloc (.cells #[.int .i64 0, .int .i64 0, .int .i64 1, .int .i64 c, .int .i64 0, .slice q ls.length cp, .slice none 0 0, .slice none 0 0] 36)) := (Below.refl _ W).alloc (Nat.le_refl _) _
  have hr : OpRow (W.alloc (.cells #[.int .i64 0, .int .i64 0, .int .i64 1, .int .i64 c, .int .i64 0, .slice q ls.length cp, .slice none 0 0, .slice none 0 0] 36)) (some ⟨W.heap.size, 0, none⟩) [op1 c ls] := fun j hj => by
    have h0 := heap_alloc_new W (.cells #[.int .i64 0, .int .i64 0, .int .i64 1, .int .i64 c, .int .i64 0, .slice q ls.length cp, .slice none 0 0, .slice none 0 0] 36)
    match j, hj with
    | 0, _ =>
      refine ⟨_, _, q, cp, none, 0, none, 0, rfl, by simp, fun k hk => ?_, ⟨⟨h.below hb, Src.nil _, hl, Nat.zero_le _⟩, Src.nil _, Nat.zero_le _⟩⟩
      rw [cell_of_row _ _ _ _ _ _ h0]
      simp [OpV, op1, pf]
  have e : smB [op1 c ls] 1 = sm1 ls := by
    unfold smB smO sm1 op1 pf
    simp
  refine (small_any _ 1 [op1 c ls] 1 _ hr (by simp)).mono ?_
  rintro e w' ⟨rfl, h2⟩
  exact ⟨by rw [← e], hb.trans (h2.mono hb.size)⟩
theorem right_all {c : Int} {ls : Ls} (h : F17.right (pf c ls) = true) : 1 ≤ ls.length ∧ ls.length ≤ 8 ∧ ∀ y ∈ ls, 1 ≤ y.length ∧ y.length ≤ 4096 := by
  obtain ⟨h1, h2, h3, h4, h5, h6⟩ := F17.right_bounds h
  refine ⟨?_, h4, h5⟩
  unfold F17.right F17.byKind pf at h
  simp only [Bool.and_eq_true, decide_eq_true_eq] at h
  have h9 := h.2
  simp at h9
  omega
theorem right_coll {c : Int} {ls : Ls} (h : F17.right (pf c ls) = true) : 1 ≤ c ∧ c ≤ 1099511627776 := by
  unfold F17.right at h
  simp only [Bool.and_eq_true, decide_eq_true_eq] at h
  exact h.1.1.1
theorem add_enc : ∀ (ls log : Ls), (Cd.enc (F17.lpts (add log ls))).length ≤ (Cd.enc (F17.lpts log)).length + (Cd.enc (F17.lpts ls)).length
  | [], log => by simp [add_nil, F17.lpts, Cd.enc]
  | y :: r, log => by
    rw [add_cons]
    have h1 := add_enc r (if y ∈ log then log else log ++ [y])
    have e : F17.lpts (y :: r) = [txt y] ++ F17.lpts r := rfl
    rw [e, Cd.enc_append, List.length_append]
    have e2 : F17.lpts (log ++ [y]) = F17.lpts log ++ [txt y] := by simp [F17.lpts]
    by_cases h : y ∈ log
    · rw [if_pos h] at h1 ⊢
      omega
    · rw [if_neg h] at h1 ⊢
      rw [e2, Cd.enc_append, List.length_append] at h1
      omega
theorem len_of (k c i : Int) (ls : Ls) : (F17.bytes ⟨k, c, i, ls, []⟩).length = 26 + (Cd.enc (F17.lpts ls)).length := by
  rw [F17.bytes_eq]
  have e1 : ∀ n : Int, (Cd.one (num n)).length = 6 := fun n => by
    show (Cd.be 6 _).length = 6
    rw [Cd.be_length]
  have e2 : (Cd.one (txt [])).length = 2 := by
    show (Cd.be 2 _ ++ []).length = 2
    rw [List.append_nil, Cd.be_length]
  simp only [List.length_append, e1, e2]
  omega
/-- A link's cells in a row that was made behind A: none of their bytes lies in a block below A. -/
theorem new_links {A : Nat} {w : World} {f : Fr} {q : Option Addr} {c : Nat} {sp : Option Addr} {sc : Nat} (h : FrNew A w (.agg (FrV f q c sp sc)) f) (g : Option Nat) (hg : ∀ k, g = some k → k < A) (hl : ∀ y ∈ f.links, y.length ≤ 1000000) :
    ∃ news : List Value, news.length = f.links.length ∧ (∀ ad, q = some ad → ∀ (j : Nat) (u : Value), news[j]? = some u → w.cell? (ad.add j) = some u) ∧ AreC w g news f.links := by
  obtain ⟨q', c', sp', sc', e, h1⟩ := h.is
  have e9 : q' = q := by
    simp only [FrV] at e
    injection e with e
    have := congrArg (fun a : Array Value => a[3]?) e
    simp at this
    exact this.1.symm
  subst e9
  obtain ⟨xs, x1, x2, x3⟩ := row_cells h1.links
  refine ⟨xs, x1, x2, fun j u y hu hy => ?_⟩
  obtain ⟨bp, bc, rfl, h3⟩ := x3 j u y hu hy
  have hym := List.mem_of_getElem? hy
  refine ⟨bp, bc, rfl, h3, hl y hym, fun h0 b hb => ?_⟩
  have hlt : b < w.heap.size := (Old.of h3).2 h0 b hb
  refine ⟨fun eg => ?_, hlt⟩
  have hbA := hg b eg.symm
  -- a world in which block b is empty
  have ha : Agree A w { w with heap := w.heap.setIfInBounds b (.cells #[] 5) } := ⟨fun k hk _ => by simp [Array.getElem?_setIfInBounds_ne (show b ≠ k by omega)], by simp⟩
  obtain ⟨q2, c2, sp2, sc2, e2, k1⟩ := h _ ha
  have e9 : q2 = q' := by
    simp only [FrV] at e2
    injection e2 with e2
    have := congrArg (fun a : Array Value => a[3]?) e2
    simp at this
    exact this.1.symm
  subst e9
  obtain ⟨hj, hyj⟩ := List.getElem?_eq_some_iff.1 hy
  obtain ⟨b1, o1, bp1, bc1, m1, m2, m3, m4, _⟩ := k1.links j hj
  obtain ⟨b2, o2, bp2, bc2, n1, n2, n3, n4, _⟩ := h1.links j hj
  cases m1.symm.trans n1
  rw [hyj] at m3 m4 n3 n4
  have hb1 : b1 ≠ b := fun e => by
    rw [e] at m3
    simp [World.cell?, hlt] at m3
  have e3 : w.cell? ⟨b1, o1 + j, none⟩ = some (.slice bp1 y.length bc1) := by
    rw [← m3]
    exact (World.cell?_of_block (a := ⟨b1, o1 + j, none⟩) (by simp [Array.getElem?_setIfInBounds_ne (show b ≠ b1 from fun e => hb1 e.symm)])).symm
  have e4 := x2 _ n1 j _ hu
  rw [Addr.add_mid, e3] at e4
  cases e4
  rcases m4.cases with ⟨e5, _⟩ | ⟨ad, c5, e5⟩
  · exact h0 (by cases y with | nil => rfl | cons a r => cases e5)
  · obtain ⟨hs, h5 | h5 | ⟨b6, o6, c6, e6, hc6, hr6⟩⟩ := m4
    · exact h0 h5.2
    · obtain ⟨_, _, _, h6⟩ := h5
      exact h0 h6
    · cases e6
      have hbb : b6 = b := by simpa [Value.ownBlock] using hb
      cases y with
      | nil => exact h0 rfl
      | cons a r =>
        have := hr6 0 (.int .u8 (a : Int)) (by simp [ints])
        rw [hbb] at this
        simp [World.cell?, hlt] at this
end Go.Proofs.Ytchoiioeeepoaaa.V19
