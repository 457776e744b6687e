/- What stands while the document reads a frame. -/
import Derived.Test.YtmllecdbedighaaE9Rf
import Derived.Test.YtmllecdbedighaaF17Rot
import Derived.Test.YtmllecdbedighaaF17RRight
namespace Go.Proofs.Ytmllecdbedighaa.C8
open Go.RowKit
theorem Src.at {w w2 : World} {v : Value} {t : List Nat} (h : Src w v t) (hk : ∀ b, v.ownBlock = some b → t ≠ [] → w2.heap[b]? = w.heap[b]?) : Src w2 v t := by
  by_cases h0 : t = []
  · subst h0
    exact h.empty w2
  · obtain ⟨hs, ⟨rfl, rfl⟩ | ⟨_, _, rfl, rfl⟩ | ⟨b, o, c, rfl, hc, hr⟩⟩ := h
    · exact absurd rfl h0
    · exact absurd rfl h0
    · exact ⟨hs, .inr (.inr ⟨b, o, c, rfl, hc, range_kept hr (hk b rfl h0)⟩)⟩
theorem Src.lt {w : World} {v : Value} {t : List Nat} (h : Src w v t) (h0 : t ≠ []) {b : Nat} (hb : v.ownBlock = some b) : b < w.heap.size := by
  obtain ⟨hs, ⟨rfl, rfl⟩ | ⟨_, _, rfl, rfl⟩ | ⟨g, o, c, rfl, hc, hr⟩⟩ := h
  · exact absurd rfl h0
  · exact absurd rfl h0
  · cases hb
    exact range_lt hr (ints_ne h0)
end Go.Proofs.Ytmllecdbedighaa.C8
namespace Go.Proofs.Ytmllecdbedighaa.F17
open Go.RowKit C8 E9
/-- The places. -/
structure Pl (w0 w : World) (pe pr : Nat) (sv : Value) (l : List Nat) : Prop where
  le : w0.heap.size ≤ pe
  lr : w0.heap.size ≤ pr
  ne : pe ≠ pr
  src : Src w0 sv l
  len : l.length ≤ 100000
  bel : Below w0.heap.size w0 w
/-- What stands while it reads: the reader, the entry, and what was turned. -/
structure Rg (w0 w W : World) (pe pr : Nat) (sv : Value) (l : List Nat) (s : Sta) (C : Array Value) : Prop where
  pl : Pl w0 w pe pr sv l
  rf : ∃ a, RfAt W pr sv a s.2 ∧ a ≤ l.length ∧ s.1 = if s.2 = true then [] else l.drop a
  ev : W.heap[pe]? = some (.cells C 28 (0, 0))
  on : Only [pe, pr] w W
section
variable {w0 w W W' : World} {pe pr : Nat} {sv : Value} {l : List Nat} {s s' : Sta} {C C' : Array Value}
theorem Rg.below (h : Rg w0 w W pe pr sv l s C) : Below w0.heap.size w0 W :=
  h.pl.bel.trans (h.on.below h.pl.bel.size (by have := h.pl.le; have := h.pl.lr; intro x hx; simp at hx; omega))
theorem Rg.src (h : Rg w0 w W pe pr sv l s C) : Src W sv l := h.pl.src.at (fun b hb h0 => h.below.block b (h.pl.src.lt h0 hb))
theorem Rg.off (h : Rg w0 w W pe pr sv l s C) (h0 : l ≠ []) : Off sv [pr] := fun b hb hm => by
  have := h.pl.src.lt h0 hb
  have := h.pl.lr
  simp at hm
  omega
theorem Rg.read (h : Rg w0 w W pe pr sv l s C) (ho : Only [pr] W W') (hr : ∃ a, RfAt W' pr sv a s'.2 ∧ a ≤ l.length ∧ s'.1 = if s'.2 = true then [] else l.drop a) : Rg w0 w W' pe pr sv l s' C :=
  ⟨h.pl, hr, (ho.block pe (Array.getElem?_eq_some_iff.1 h.ev).1 (by have := h.pl.ne; simp; omega)).trans h.ev, h.on.trans (ho.more (by simp))⟩
theorem Rg.put (h : Rg w0 w W pe pr sv l s C) (f : Nat) (v : Value) (hC : (W.setCell ⟨pe, f, none⟩ v).heap[pe]? = some (.cells C' 28 (0, 0))) : Rg w0 w (W.setCell ⟨pe, f, none⟩ v) pe pr sv l s C' := by
  have ho : Only [pe] W (W.setCell ⟨pe, f, none⟩ v) := Only.setCell _ _ _ (by simp)
  obtain ⟨a, h1, h2⟩ := h.rf
  exact ⟨h.pl, ⟨a, h1.only ho (by have := h.pl.ne; simp; omega), h2⟩, hC, h.on.trans (ho.more (by simp))⟩
theorem Rg.up (h : Rg w0 w W pe pr sv l s C) (hb : Below W.heap.size W W') : Rg w0 w W' pe pr sv l s C := by
  obtain ⟨a, h1, h2⟩ := h.rf
  exact ⟨h.pl, ⟨a, h1.below hb, h2⟩, (hb.block pe (Array.getElem?_eq_some_iff.1 h.ev).1).trans h.ev, h.on.trans (Only.of_below hb _)⟩
theorem dN (h : Hid (Rg w0 w W pe pr sv l s C)) {lo hi n : Int} (he : Hid (rN lo hi s = (n, s'))) :
    Calls Try.prog 28 #[.pointer (some ⟨pr, 0, none⟩), .int .i64 lo, .int .i64 hi] W fun e w' => e = .returned (.int .i64 n) ∧ Hid (Rg w0 w w' pe pr sv l s' C) ∧ Hid (Only [pr] W w') := by
  have hg := h.out
  obtain ⟨a, h1, h4, h6⟩ := hg.rf
  have h5 := hg.pl.len
  have h2 := hg.src
  replace he := he.out
  obtain ⟨sl, sb⟩ := s
  simp only at h1 h6
  cases sb with
  | true =>
    simp only [if_true] at h6
    subst h6
    unfold rN at he
    rw [if_pos (.inl (by simp))] at he
    cases he
    refine (RNum_none W pr a sv l true lo hi h1 h2 h5 h4 (.inl rfl)).mono ?_
    rintro e w' ⟨rfl, k1, k2⟩
    exact ⟨rfl, hg.read k2 ⟨a, k1, h4, rfl⟩, k2⟩
  | false =>
    simp only [Bool.false_eq_true, if_false] at h6
    subst h6
    unfold rN at he
    simp only [List.length_drop] at he
    split at he
    · rename_i hc
      cases he
      by_cases hk : l.length < a + 6
      · refine (RNum_none W pr a sv l false lo hi h1 h2 h5 h4 (.inr hk)).mono ?_
        rintro e w' ⟨rfl, k1, k2⟩
        exact ⟨rfl, hg.read k2 ⟨a, k1, h4, rfl⟩, k2⟩
      · refine (RNum_out W pr a sv l lo hi _ h1 h2 h5 (by omega) rfl (by omega)).mono ?_
        rintro e w' ⟨rfl, k1, k2⟩
        exact ⟨rfl, hg.read k2 ⟨a + 6, k1, by omega, rfl⟩, k2⟩
    · rename_i hc
      cases he
      refine (RNum_ok W pr a sv l lo hi _ h1 h2 h5 (by omega) rfl (by omega) (by omega)).mono ?_
      rintro e w' ⟨rfl, k1, k2⟩
      exact ⟨rfl, hg.read k2 ⟨a + 6, k1, by omega, by simp [List.drop_drop]⟩, k2⟩
theorem back (h : Rg w0 w W pe pr sv l s C) (ho : Only [pr] W W') {v : Value} {t : List Nat} (hl : t ≠ [] → l ≠ []) (hv : v.ownBlock = sv.ownBlock ∨ v = .slice none 0 0) (hs : Src W' v t) : Src w0 v t := hs.at (fun b hb h0 => by
  rcases hv with e | e
  · rw [e] at hb
    have hlt := h.pl.src.lt (hl h0) hb
    have hlr := h.pl.lr
    exact ((ho.block b (Nat.lt_of_lt_of_le hlt h.below.size) (by simp; omega)).trans (h.below.block b hlt)).symm
  · rw [e] at hb
    cases hb)
theorem dT (h : Hid (Rg w0 w W pe pr sv l s C)) {lo hi : Int} {t : List Nat} (he : Hid (rT lo hi s = (t, s'))) :
    Calls Try.prog 29 #[.pointer (some ⟨pr, 0, none⟩), .int .i64 lo, .int .i64 hi] W fun e w' => ∃ tp tc, e = .returned (.slice tp t.length tc) ∧ Hid (Src w0 (.slice tp t.length tc) t ∧ t.length ≤ 100000) ∧ Hid (Rg w0 w w' pe pr sv l s' C) ∧ Hid (Only [pr] W w') := by
  have hg := h.out
  obtain ⟨a, h1, h4, h6⟩ := hg.rf
  have h5 := hg.pl.len
  have h2 := hg.src
  replace he := he.out
  obtain ⟨sl, sb⟩ := s
  simp only at h1 h6
  cases sb with
  | true =>
    simp only [if_true] at h6
    subst h6
    unfold rT at he
    rw [if_pos (.inl (by simp))] at he
    cases he
    refine (RText_none W pr a sv l true lo hi h1 h2 h5 h4 (.inl rfl)).mono ?_
    rintro e w' ⟨rfl, k1, k2⟩
    exact ⟨none, 0, rfl, ⟨Src.nil _, by simp⟩, hg.read k2 ⟨a, k1, h4, rfl⟩, k2⟩
  | false =>
    simp only [Bool.false_eq_true, if_false] at h6
    subst h6
    unfold rT at he
    simp only [List.length_drop] at he
    split at he
    · rename_i hc
      cases he
      by_cases hk : l.length < a + 2
      · refine (RText_none W pr a sv l false lo hi h1 h2 h5 h4 (.inr hk)).mono ?_
        rintro e w' ⟨rfl, k1, k2⟩
        exact ⟨none, 0, rfl, ⟨Src.nil _, by simp⟩, hg.read k2 ⟨a, k1, h4, rfl⟩, k2⟩
      · refine (RText_out W pr a sv l lo hi _ h1 h2 h5 (by omega) rfl (by omega)).mono ?_
        rintro e w' ⟨rfl, k1, k2⟩
        exact ⟨none, 0, rfl, ⟨Src.nil _, by simp⟩, hg.read k2 ⟨a + 2, k1, by omega, rfl⟩, k2⟩
    · rename_i hc
      have hl0 : l ≠ [] := by intro e; subst e; simp at hc
      cases he
      refine (RText_ok W pr a sv l lo hi _ h1 h2 (hg.off hl0) h5 (by omega) rfl (by omega) (by omega)).mono ?_
      rintro e w' ⟨v, rfl, k0, k1, k2, k3⟩
      have k4 := back hg k3 (fun _ => hl0) (.inl k0) k1
      rw [← List.drop_drop] at k4
      obtain ⟨tp, tc, rfl, -⟩ := k4.slice
      refine ⟨tp, tc, rfl, ⟨k4, ?_⟩, hg.read k3 ⟨_, k2, by omega, by simp [List.drop_drop, Nat.add_assoc]⟩, k3⟩
      rw [List.length_take, List.length_drop, List.length_drop]
      omega
theorem dE (h : Rg w0 w W pe pr sv l s C) : Calls Try.prog 30 #[.pointer (some ⟨pr, 0, none⟩)] W fun e w' => e = .returned (.bool (!s.2 && decide (s.1 = []))) ∧ ∃ k, w' = W.drewN k := by
  obtain ⟨a, h1, h4, h6⟩ := h.rf
  refine (REnd_any W pr a sv l s.2 h1 h.src).mono ?_
  rintro e w' ⟨rfl, k⟩
  refine ⟨?_, k⟩
  congr 2
  obtain ⟨sl, sb⟩ := s
  cases sb with
  | true => rfl
  | false =>
    simp only [Bool.false_eq_true, if_false] at h6
    subst h6
    simp only [Bool.not_false, Bool.true_and, decide_eq_decide, List.drop_eq_nil_iff]
    omega
end
/-- Cells that are links out of the bytes that came in. -/
def AreS (w0 : World) : List Value → List (List Nat) → Prop
  | [], [] => True
  | c :: xs, x :: ls => ((∃ tp tc, c = .slice tp x.length tc ∧ Src w0 c x) ∧ x.length ≤ 100000) ∧ AreS w0 xs ls
  | [], _ :: _ => False
  | _ :: _, [] => False
theorem AreS.snoc {w0 : World} : ∀ {xs : List Value} {ls : List (List Nat)}, AreS w0 xs ls → ∀ {t : List Nat} {tp : Option Addr} {tc : Nat}, Src w0 (.slice tp t.length tc) t → t.length ≤ 100000 → AreS w0 (xs ++ [.slice tp t.length tc]) (ls ++ [t])
  | [], [], _, _, tp, tc, h, hl => ⟨⟨⟨tp, tc, rfl, h⟩, hl⟩, trivial⟩
  | _ :: _, _ :: _, h, _, _, _, hT, hl => ⟨h.1, AreS.snoc h.2 hT hl⟩
theorem AreS.at {w0 : World} : ∀ {xs : List Value} {ls : List (List Nat)}, AreS w0 xs ls → ∀ j (hj : j < ls.length), ∃ tp tc, xs[j]? = some (.slice tp ls[j].length tc) ∧ Src w0 (.slice tp ls[j].length tc) ls[j] ∧ ls[j].length ≤ 100000
  | [], [], _, j, hj => absurd hj (by simp)
  | _ :: _, _ :: _, ⟨⟨⟨tp, tc, h2, h3⟩, h4⟩, _⟩, 0, _ => ⟨tp, tc, by simp [h2], by subst h2; exact h3, h4⟩
  | _ :: _, _ :: ls, ⟨_, h5⟩, j + 1, hj => by
    obtain ⟨tp, tc, k2, k3, k4⟩ := AreS.at h5 j (by simpa using hj)
    exact ⟨tp, tc, by simpa using k2, by simpa using k3, by simpa using k4⟩
theorem AreS.row {w0 w : World} {xs : List Value} {ls : List (List Nat)} {base n c : Nat} {q : Option Addr} (h : AreS w0 xs ls) (hown : w.ownsRow base 23 1 (.slice q n c) n xs) (hb : Below w0.heap.size w0 w) (hn : ls.length = n) : LkRow w q ls := fun j hj => by
  obtain ⟨tp, tc, k2, k3, k4⟩ := h.at j hj
  obtain ⟨hl, ⟨e, h0⟩ | ⟨g, cap, cur, e, hg, hh, hnc, hm, hc, ht⟩⟩ := hown
  · have hj' := (List.getElem?_eq_some_iff.1 k2).1
    omega
  · cases e
    have hgl := (Array.getElem?_eq_some_iff.1 hh).1
    refine ⟨g, 0, tp, tc, rfl, hgl, ?_, k3.below hb, by omega⟩
    rw [cell_of_row _ _ _ _ _ _ hh, Nat.zero_add]
    rw [← ht, List.getElem?_take_of_lt (by omega)] at k2
    simpa using k2
theorem Rg.grow {w0 w W W' : World} {pe pr : Nat} {sv : Value} {l : List Nat} {s : Sta} {C : Array Value} {row : Option Nat} (h : Rg w0 w W pe pr sv l s C) (hl : pe < w.heap.size ∧ pr < w.heap.size) (hg : W.grownBy W' row) (hr : ∀ g, row = some g → w.heap.size ≤ g) : Rg w0 w W' pe pr sv l s C := by
  have hb : ∀ k, k < w.heap.size → W'.heap[k]? = W.heap[k]? := fun k hk => hg.block k (Nat.lt_of_lt_of_le hk h.on.size) (fun e => by have := hr k e.symm; omega)
  obtain ⟨a, h1, h2⟩ := h.rf
  exact ⟨h.pl, ⟨a, (hb pr hl.2).trans h1, h2⟩, (hb pe hl.1).trans h.ev, ⟨hg.os.trans h.on.os, hg.tape.trans h.on.tape, hg.output.trans h.on.output, Nat.le_trans h.on.size hg.size, fun k hk hn => (hb k hk).trans (h.on.block k hk hn)⟩⟩
/-- What an operation has left. -/
def RoV (w0 : World) (pr pe : Nat) (sl : Value) (t : List Nat) : Nat → Value → World → Prop
  | 0 => IsV (.pointer (some ⟨pe, 3, none⟩))
  | 1 => IsV sl
  | 2 => IsV (.pointer (some ⟨pr, 0, none⟩))
  | 3 => fun v _ => ∃ tp tc, v = .slice tp t.length tc ∧ Src w0 (.slice tp t.length tc) t
  | 4 => fun v u => ∃ g tp tc, v = .slice (some ⟨g, 0, none⟩) 1 1 ∧ u.heap[g]? = some (.cells #[.slice tp t.length tc] 23 (0, 0)) ∧ Src w0 (.slice tp t.length tc) t ∧ g ∉ rotB pr pe sl
  | 6 => IsV (.pointer (some ⟨pe, 3, none⟩))
  | _ => fun _ _ => True
theorem RoV.kept {w0 : World} {pr pe : Nat} {sl : Value} {t : List Nat} : ∀ i v w w', RoV w0 pr pe sl t i v w → Only (rotB pr pe sl) w w' → RoV w0 pr pe sl t i v w'
  | 0, _, _, _, h, _ => h
  | 1, _, _, _, h, _ => h
  | 2, _, _, _, h, _ => h
  | 3, _, _, _, h, _ => h
  | 4, _, _, _, ⟨g, tp, tc, h1, h2, h3, h4⟩, ho => ⟨g, tp, tc, h1, (ho.block g (Array.getElem?_eq_some_iff.1 h2).1 h4).trans h2, h3, h4⟩
  | 5, _, _, _, _, _ => trivial
  | 6, _, _, _, h, _ => h
  | _ + 7, _, _, _, _, _ => trivial
/-- What stands: behind so many of its three events. -/
def RoR (w0 w : World) (pe pr : Nat) (sv : Value) (l : List Nat) (CE : Value → Array Value) (sl : Value) (s s' : Sta) (j : Nat) (xs : List Value) (ls ls' : List (List Nat)) : Nat → Value → World → Prop
  | 0, _, u => Rg w0 w u pe pr sv l s (CE sl) ∧ u.ownsRow w.heap.size 23 1 sl j xs ∧ AreS w0 xs ls
  | 1, _, u => Rg w0 w u pe pr sv l s' (CE sl) ∧ u.ownsRow w.heap.size 23 1 sl j xs ∧ AreS w0 xs ls
  | 2, v, u => Rg w0 w u pe pr sv l s' (CE sl) ∧ ∃ xs2, u.ownsRow w.heap.size 23 1 v (j + 1) xs2 ∧ AreS w0 xs2 ls'
  | _, _, u => ∃ v xs2, Rg w0 w u pe pr sv l s' (CE v) ∧ u.ownsRow w.heap.size 23 1 v (j + 1) xs2 ∧ AreS w0 xs2 ls'
theorem roR_below {w0 w : World} {pe pr : Nat} {sv : Value} {l : List Nat} {CE : Value → Array Value} {sl : Value} {s s' : Sta} {j : Nat} {xs : List Value} {ls ls' : List (List Nat)} : ∀ k v u u', Below u.heap.size u u' → RoR w0 w pe pr sv l CE sl s s' j xs ls ls' k v u → RoR w0 w pe pr sv l CE sl s s' j xs ls ls' k v u' := by
  intro k v u u' hb h
  match k, h with
  | 0, ⟨h1, h2, h3⟩ => exact ⟨h1.up hb, own_below h2 hb, h3⟩
  | 1, ⟨h1, h2, h3⟩ => exact ⟨h1.up hb, own_below h2 hb, h3⟩
  | 2, ⟨h1, xs2, h2, h3⟩ => exact ⟨h1.up hb, xs2, own_below h2 hb, h3⟩
  | _ + 3, ⟨v2, xs2, h1, h2, h3⟩ => exact ⟨v2, xs2, h1.up hb, own_below h2 hb, h3⟩
theorem roR_row {w0 w : World} {pe pr : Nat} {sv : Value} {l : List Nat} {CE : Value → Array Value} {sl : Value} {s s' : Sta} {j : Nat} {xs : List Value} {ls ls' : List (List Nat)} {k : Nat} {v : Value} {u : World} (hk : k ≤ 1) (h : RoR w0 w pe pr sv l CE sl s s' j xs ls ls' k v u) : u.heap[pe]? = some (.cells (CE sl) 28 (0, 0)) := by
  match k, hk, h with
  | 0, _, h => exact h.1.ev
  | 1, _, h => exact h.1.ev
/-- Which operations have been, and what stands. -/
def RoS (R : Nat → Value → World → Prop) (f : Nat → Bool) (a : Act) (w : World) : Prop := (f 5 = true → f 1 = true) ∧ SeqS [3, 5, 7] (fun k u => R k (a.tmps.getD 43 undef) u) f w
section
variable {P : Program} {ops : Array Oper} {Q : Exit → Act → World → Prop} {V : Nat → Value → World → Prop} {bs : List Nat} {R : Nat → Value → World → Prop} {f : Nat → Bool} {i k : Nat} {o : Oper} {a' : Act} {w' w'' : World}
theorem ro_start {a : Act} {w : World} (h : ∀ x, R 0 x w) : RoS R (fun _ => false) a w := ⟨fun h => (by cases h), SeqS.start (h _)⟩
theorem ro_quiet (v : Value) (hi : ops[i]? = some o) (hw : Region.wanted o (yielded ops a'.tmps) = true) (hr : (execOp a'.eval o).run P w' = .ok (.value v) w'') (hb : Below w'.heap.size w' w'') (hn : i ∉ [3, 5, 7]) (hd : o.dst ≠ some 43)
    (hS : RoS R f a' w') (hR : ∀ k v u u', Below u.heap.size u u' → R k v u → R k v u') (hv : V i v w'') :
    wpOp P ops Q i (fun a'' w2 => Only bs w' w2 ∧ RoS R (fun j => if j = i then true else f j) a'' w2 ∧ ∃ v, a'' = a'.put o.dst v ∧ V i v w2) a' w' := by
  refine wpOp_value v hi hw hr ⟨Only.of_below hb _, ⟨fun h => ?_, ?_⟩, v, rfl, hv⟩
  · have h8 : f 5 = true := by
      have : ¬ (5 = i) := fun e => hn (by rw [← e]; decide)
      simpa [this] using h
    show (if 1 = i then true else f 1) = true
    split
    · rfl
    · exact hS.1 h8
  · rw [getD_put _ _ _ _ hd]
    exact hS.2.quiet hn (fun k => hR k _ w' w'' hb)
theorem ro_call (fn : FuncId) (args : Array Value) (hi : ops[i]? = some o) (hw : Region.wanted o (yielded ops a'.tmps) = true) (hr : (execOp a'.eval o).run P w' = .ok (.enter fn args) w') (hk : [3, 5, 7][k]? = some i) (hf : f i = false) (hp : ∀ c, k ≠ 0 → [3, 5, 7][k - 1]? = some c → f c = true) (h8 : i ≠ 5) (hd : o.dst ≠ some 43)
    (hS : RoS R f a' w') (h : R k (a'.tmps.getD 43 undef) w' → Calls P fn args w' fun e w2 => ∃ v, e = .returned v ∧ Only bs w' w2 ∧ R (k + 1) (a'.tmps.getD 43 undef) w2 ∧ V i v w2) :
    wpOp P ops Q i (fun a'' w2 => Only bs w' w2 ∧ RoS R (fun j => if j = i then true else f j) a'' w2 ∧ ∃ v, a'' = a'.put o.dst v ∧ V i v w2) a' w' := by
  obtain ⟨h1, h2⟩ := hS.2.at hk hf hp
  refine wpOp_call fn args hi hw hr ((h h1).mono fun _ _ ⟨v, he, hg, hR, hv⟩ => ⟨v, he, hg, ⟨fun h => ?_, ?_⟩, v, rfl, hv⟩)
  · have h9 : f 5 = true := by simpa [Ne.symm h8] using h
    show (if 1 = i then true else f 1) = true
    split
    · rfl
    · exact hS.1 h9
  · rw [getD_put _ _ _ _ hd]
    exact SeqS.next hk (by decide) h2 hR
theorem ro_app (v : Value) (hi : ops[5]? = some o) (hw : Region.wanted o (yielded ops a'.tmps) = true) (hr : (execOp a'.eval o).run P w' = .ok (.value v) w'') (ho : Only bs w' w'') (hf : f 5 = false) (h5 : f 3 = true) (h1 : f 1 = true) (hd : o.dst = some 43) (hsz : 43 < a'.tmps.size)
    (hS : RoS R f a' w') (hR : R 2 v w'') (hv : V 5 v w'') :
    wpOp P ops Q 5 (fun a'' w2 => Only bs w' w2 ∧ RoS R (fun j => if j = 5 then true else f j) a'' w2 ∧ ∃ v, a'' = a'.put o.dst v ∧ V 5 v w2) a' w' := by
  obtain ⟨_, h2⟩ := hS.2.at (k := 1) (i := 5) rfl hf (fun c _ hc => by cases hc; exact h5)
  refine wpOp_value v hi hw hr ⟨ho, ⟨fun _ => ?_, ?_⟩, v, rfl, hv⟩
  · exact h1
  · rw [hd, getD_put_self _ _ _ hsz]
    exact SeqS.next (k := 1) rfl (by decide) h2 hR
theorem ro_sto (hi : ops[7]? = some o) (hw : Region.wanted o (yielded ops a'.tmps) = true) (hr : (execOp a'.eval o).run P w' = .ok .skip w'') (ho : Only bs w' w'') (hf : f 7 = false) (h8 : f 5 = true) (hd : o.dst = none)
    (hS : RoS R f a' w') (hR : R 3 (a'.tmps.getD 43 undef) w'') (hv : V 7 undef w'') :
    wpOp P ops Q 7 (fun a'' w2 => Only bs w' w2 ∧ RoS R (fun j => if j = 7 then true else f j) a'' w2 ∧ ∃ v, a'' = a'.put o.dst v ∧ V 7 v w2) a' w' := by
  obtain ⟨_, h2⟩ := hS.2.at (k := 2) (i := 7) rfl hf (fun c _ hc => by cases hc; exact h8)
  refine wpOp_skip hi hw hr ⟨ho, ⟨fun h => ?_, ?_⟩, undef, rfl, hv⟩
  · exact hS.1 (by simpa using h)
  · rw [hd]
    exact SeqS.next (k := 2) rfl (by decide) h2 hR
/-- What stands ahead of the store. -/
theorem ro_three (hS : RoS R f a' w') (hf : f 7 = false) (h8 : f 5 = true) : R 2 (a'.tmps.getD 43 undef) w' := (hS.2.at (k := 2) (i := 7) rfl hf (fun c _ hc => by cases hc; exact h8)).1
theorem ro_two (hS : RoS R f a' w') (hf : f 5 = false) (h5 : f 3 = true) : R 1 (a'.tmps.getD 43 undef) w' := (hS.2.at (k := 1) (i := 5) rfl hf (fun c _ hc => by cases hc; exact h5)).1
theorem ro_early (hS : RoS R f a' w') (hf : f 1 = false) : ∃ k, k ≤ 1 ∧ R k (a'.tmps.getD 43 undef) w' := by
  have h8 : f 5 = false := by
    cases h : f 5 with
    | false => rfl
    | true => rw [hS.1 h] at hf; cases hf
  obtain ⟨k, _, h2, h3⟩ := hS.2
  refine ⟨k, ?_, h3⟩
  have := h2 1 5 rfl
  rw [h8] at this
  have h4 : ¬ 1 < k := fun h => by have := this.2 h; cases this
  omega
end
section
variable {o : Oper} {a' : Act} {w' : World}
theorem call29 (c x y : Value) (w : World) : (callFunc 29 #[c, x, y]).run Try.prog w = .ok (.enter 29 #[c, x, y]) w := by kernel_rfl
theorem fn_run (fn : Nat) (t : Tmp) (c x y : Value) (ox oy : Operand) (ho : o.op = .call { callee := .value (.func fn), args := #[.tmp t, ox, oy], argTypes := #[53, 3, 3] }) (h0 : a'.tmps.getD t undef = c) (hx : a'.eval ox = x) (hy : a'.eval oy = y) (hc : (callFunc fn #[c, x, y]).run Try.prog w' = .ok (.enter fn #[c, x, y]) w') :
    (execOp a'.eval o).run Try.prog w' = .ok (.enter fn #[c, x, y]) w' := by
  have he : a'.eval (.tmp t) = c := h0
  have hf : a'.eval (.func fn) = .func (.func fn) #[] #[] := rfl
  unfold execOp
  simp only [ho]
  generalize a'.eval = r at *
  simp [resolve, invoke, he, hx, hy, hf, go_sem, hc]
theorem fa28_3 (b : Nat) (w : World) : (Instr.fieldAt 28 (.pointer (some ⟨b, 0, none⟩)) 3).run Try.prog w = .ok (.pointer (some ⟨b, 3, none⟩)) w := by simp [go_sem]
end
/-- The bytes are bad: there is none. -/
theorem rLs_stuck {s : Sta} {j n : Nat} (hj : j ≤ n) (h : (rLs j s).2.2 = true) : (rLs n s).2.2 = true := by
  induction n with
  | zero => rwa [show j = 0 from by omega] at h
  | succ n ih =>
    by_cases e : j = n + 1
    · subst e; exact h
    · have := ih (by omega)
      rw [rLs]
      cases hb : (rT 1 4096 (rLs n s).2).2.2 with
      | true => rfl
      | false => rw [rT_bad hb] at this; cases this
theorem rT_stuck {lo hi : Int} {s s' : Sta} {t : List Nat} (h : rT lo hi s = (t, s')) (hb : s.2 = true) : s'.2 = true := by
  cases hc : s'.2 with
  | true => rfl
  | false =>
    have := rT_bad (lo := lo) (hi := hi) (s := s) (by rw [h]; exact hc)
    rw [this] at hb
    cases hb
/-- How the document's reading ends: at the count, or where the bytes are bad. -/
theorem read_end {l : List Nat} {s1 s2 s3 s4 s6 : Sta} {k c i : Int} {cn j : Nat} {t : List Nat} (h1 : rN 1 4 (l, false) = (k, s1)) (h2 : rN 1 1099511627776 s1 = (c, s2)) (h3 : rN 0 64 s2 = (i, s3)) (h4 : rN 0 8 s3 = ((cn : Int), s4)) (hj : j ≤ cn) (he : j = cn ∨ (rLs j s4).2.2 = true) (h6 : rT 0 32 (rLs j s4).2 = (t, s6)) :
    decE (l, false) = (⟨k, c, i, (rLs j s4).1, t⟩, s6) ∨ (s6.2 = true ∧ dec l = none) := by
  rcases he with rfl | he
  · exact .inl (decE_by h1 h2 h3 h4 (by rw [show ((j : Int)).toNat = j from by omega]) h6)
  · refine .inr ⟨rT_stuck h6 he, ?_⟩
    obtain ⟨t', s', h7⟩ : ∃ t' s', rT 0 32 (rLs cn s4).2 = (t', s') := ⟨_, _, rfl⟩
    have hd := decE_by h1 h2 h3 h4 (ls := (rLs cn s4).1) (s5 := (rLs cn s4).2) (by rw [show ((cn : Int)).toNat = cn from by omega]) h7
    refine dec_none1 hd ?_
    rw [rT_stuck h7 (rLs_stuck hj he)]
    rfl
theorem read_no1 {l : List Nat} {F : Fr} {s : Sta} (h : decE (l, false) = (F, s) ∨ (s.2 = true ∧ dec l = none)) (he : (!s.2 && decide (s.1 = [])) = false) : dec l = none := by
  rcases h with h | h
  · exact dec_none1 h he
  · exact h.2
theorem read_no2 {l : List Nat} {F : Fr} {s : Sta} (h : decE (l, false) = (F, s) ∨ (s.2 = true ∧ dec l = none)) (hr : right F = false) : dec l = none := by
  rcases h with h | h
  · exact dec_none2 h hr
  · exact h.2
theorem read_yes {l : List Nat} {F : Fr} {s : Sta} (h : decE (l, false) = (F, s) ∨ (s.2 = true ∧ dec l = none)) (he : (!s.2 && decide (s.1 = [])) = true) (hr : right F = true) : dec l = some F := by
  rcases h with h | h
  · exact dec_some h he hr
  · rw [h.1] at he; simp at he
/-- What the document's Read tells. -/
def ReadSays (l : List Nat) (w : World) (e : Ending) (w' : World) : Prop :=
  Below w.heap.size w w' ∧ ((32768 < l.length ∧ e = .returned (.tuple #[.agg z5, .int .i64 11])) ∨ (l.length ≤ 32768 ∧ ((∃ F v, dec l = some F ∧ e = .returned (.tuple #[v, .int .i64 0]) ∧ FrIs w' v F) ∨ (dec l = none ∧ e = .returned (.tuple #[.agg z5, .int .i64 10])))))
end Go.Proofs.Ytmllecdbedighaa.F17
