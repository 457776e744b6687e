/- The plain mathematics of frames: when one is right, its bytes, and how bytes are read as one. -/
import Derived.Test.YtchoiioeeepoaaaE9Dec
namespace Go.Proofs.Ytchoiioeeepoaaa.F17
open Go.RowKit C8 E9
/-- A frame. -/
structure Fr where
  kind : Int
  coll : Int
  idx : Int
  links : List (List Nat)
  sum : List Nat
/-- Two are the same. -/
def same (a b : Fr) : Bool := decide (a.kind = b.kind ∧ a.coll = b.coll ∧ a.idx = b.idx ∧ a.links = b.links ∧ a.sum = b.sum)
theorem same_iff (a b : Fr) : same a b = true ↔ a = b := by
  obtain ⟨a1, a2, a3, a4, a5⟩ := a
  obtain ⟨b1, b2, b3, b4, b5⟩ := b
  simp [same]
/-- Links, each of from 1 to 4096 bytes. -/
def lok : List (List Nat) → Bool
  | [] => true
  | x :: r => decide (1 ≤ x.length ∧ x.length ≤ 4096) && lok r
theorem lok_iff : ∀ ls : List (List Nat), lok ls = true ↔ ∀ x ∈ ls, 1 ≤ x.length ∧ x.length ≤ 4096
  | [] => by simp [lok]
  | x :: r => by
    have := lok_iff r
    simp [lok, this]
def lks (ls : List (List Nat)) : Bool := decide (ls.length ≤ 8) && lok ls
def byKind (f : Fr) : Bool :=
  if f.kind = 1 then decide (f.idx = 0) && decide (0 < f.links.length) && decide (f.sum.length = 0)
  else if f.kind = 2 then decide (f.links.length = 0) && decide (f.sum.length = 0)
  else if f.kind = 3 then decide (f.sum.length = 0)
  else if f.kind = 4 then decide (f.links.length = 0) && decide (f.sum.length = 32)
  else false
def right (f : Fr) : Bool := decide (1 ≤ f.coll ∧ f.coll ≤ 1099511627776) && decide (0 ≤ f.idx ∧ f.idx ≤ 64) && lks f.links && byKind f
/-- What a right frame keeps to. -/
theorem right_bounds {f : Fr} (h : right f = true) : (1 ≤ f.kind ∧ f.kind ≤ 4) ∧ (1 ≤ f.coll ∧ f.coll ≤ 1099511627776) ∧ (0 ≤ f.idx ∧ f.idx ≤ 64) ∧ f.links.length ≤ 8 ∧ (∀ x ∈ f.links, 1 ≤ x.length ∧ x.length ≤ 4096) ∧ f.sum.length ≤ 32 := by
  unfold right lks at h
  simp only [Bool.and_eq_true, decide_eq_true_eq] at h
  obtain ⟨⟨⟨h1, h2⟩, h3, h4⟩, h5⟩ := h
  have h6 := (lok_iff _).1 h4
  unfold byKind at h5
  split at h5
  · simp only [Bool.and_eq_true, decide_eq_true_eq] at h5
    exact ⟨by omega, h1, h2, h3, h6, by omega⟩
  · split at h5
    · simp only [Bool.and_eq_true, decide_eq_true_eq] at h5
      exact ⟨by omega, h1, h2, h3, h6, by omega⟩
    · split at h5
      · simp only [decide_eq_true_eq] at h5
        exact ⟨by omega, h1, h2, h3, h6, by omega⟩
      · split at h5
        · simp only [Bool.and_eq_true, decide_eq_true_eq] at h5
          exact ⟨by omega, h1, h2, h3, h6, by omega⟩
        · cases h5
/-- Its bytes' parts. -/
def lpts (ls : List (List Nat)) : List Pt := ls.map txt
def pts (f : Fr) : List Pt := [num f.kind, num f.coll, num f.idx, num (f.links.length : Int)] ++ lpts f.links ++ [txt f.sum]
/-- A frame's bytes. -/
def bytes (f : Fr) : List Nat := Cd.enc (pts f)
theorem pts_length {f : Fr} (h : right f = true) : (pts f).length ≤ 13 := by
  obtain ⟨_, _, _, h4, _⟩ := right_bounds h
  simp [pts, lpts]
  omega
theorem err_app : ∀ {a b : List Pt}, Cd.err a = 0 → Cd.err b = 0 → Cd.err (a ++ b) = 0
  | [], _, _, h => h
  | p :: r, b, h1, h2 => by
    have hp := Cd.wrong_of_err h1 p (by simp)
    rw [Cd.err, if_pos hp] at h1
    exact err_cons hp (err_app h1 h2)
theorem err_lpts : ∀ ls : List (List Nat), (∀ x ∈ ls, 1 ≤ x.length ∧ x.length ≤ 4096) → Cd.err (lpts ls) = 0
  | [], _ => rfl
  | x :: r, h => err_cons (wrong_txt (h x (by simp)).2) (err_lpts r (fun y hy => h y (by simp [hy])))
/-- A right frame's parts are right. -/
theorem right_err {f : Fr} (h : right f = true) : Cd.err (pts f) = 0 := by
  obtain ⟨h1, h2, h3, h4, h5, h6⟩ := right_bounds h
  unfold pts
  refine err_app (err_app ?_ (err_lpts _ h5)) (err_cons (wrong_txt (by omega)) rfl)
  exact err_cons (wrong_num (by omega) (by omega)) (err_cons (wrong_num (by omega) (by omega)) (err_cons (wrong_num (by omega) (by omega)) (err_cons (wrong_num (by omega) (by omega)) rfl)))
theorem enc_lpts : ∀ ls : List (List Nat), (∀ x ∈ ls, 1 ≤ x.length ∧ x.length ≤ 4096) → (Cd.enc (lpts ls)).length ≤ 4098 * ls.length
  | [], _ => by simp [lpts, Cd.enc]
  | x :: r, h => by
    have h1 := h x (by simp)
    have h2 := enc_lpts r (fun y hy => h y (by simp [hy]))
    have e : lpts (x :: r) = txt x :: lpts r := rfl
    rw [e]
    simp only [Cd.enc, one_txt, List.length_append, Cd.be_length, List.length_cons] at h2 ⊢
    omega
theorem bytes_eq (f : Fr) : bytes f = Cd.one (num f.kind) ++ (Cd.one (num f.coll) ++ (Cd.one (num f.idx) ++ (Cd.one (num (f.links.length : Int)) ++ (Cd.enc (lpts f.links) ++ Cd.one (txt f.sum))))) := by
  unfold bytes pts
  rw [Cd.enc_append, Cd.enc_append]
  simp [Cd.enc, List.append_assoc]
theorem bytes_length {f : Fr} (h : right f = true) : (bytes f).length ≤ 40000 ∧ 26 ≤ (bytes f).length := by
  obtain ⟨_, _, _, h4, h5, h6⟩ := right_bounds h
  have := enc_lpts f.links h5
  rw [bytes_eq]
  simp only [List.length_append, one_num, one_txt, Cd.be_length]
  omega
/-- All of a frame's bytes are bytes. -/
def Small (f : Fr) : Prop := (∀ y ∈ f.links, ∀ x ∈ y, x < 256) ∧ ∀ x ∈ f.sum, x < 256
theorem bytes_small {f : Fr} (h : Small f) : ∀ x ∈ bytes f, x < 256 := by
  refine Cd.enc_lt fun p hp => ?_
  unfold pts lpts at hp
  simp only [List.mem_append, List.mem_cons, List.not_mem_nil, or_false, List.mem_map] at hp
  rcases hp with (((rfl | rfl | rfl | rfl) | ⟨y, hy, rfl⟩) | rfl)
  · intro x hx; cases hx
  · intro x hx; cases hx
  · intro x hx; cases hx
  · intro x hx; cases hx
  · exact h.1 y hy
  · exact h.2
/-- Links, read one behind the other. -/
def rLs : Nat → Sta → List (List Nat) × Sta
  | 0, s => ([], s)
  | n + 1, s => ((rLs n s).1 ++ [(rT 1 4096 (rLs n s).2).1], (rT 1 4096 (rLs n s).2).2)
def decE (s : Sta) : Fr × Sta :=
  (⟨(rN 1 4 s).1, (rN 1 1099511627776 (rN 1 4 s).2).1, (rN 0 64 (rN 1 1099511627776 (rN 1 4 s).2).2).1,
    (rLs (rN 0 8 (rN 0 64 (rN 1 1099511627776 (rN 1 4 s).2).2).2).1.toNat (rN 0 8 (rN 0 64 (rN 1 1099511627776 (rN 1 4 s).2).2).2).2).1,
    (rT 0 32 (rLs (rN 0 8 (rN 0 64 (rN 1 1099511627776 (rN 1 4 s).2).2).2).1.toNat (rN 0 8 (rN 0 64 (rN 1 1099511627776 (rN 1 4 s).2).2).2).2).2).1⟩,
   (rT 0 32 (rLs (rN 0 8 (rN 0 64 (rN 1 1099511627776 (rN 1 4 s).2).2).2).1.toNat (rN 0 8 (rN 0 64 (rN 1 1099511627776 (rN 1 4 s).2).2).2).2).2).2)
theorem decE_by {s s1 s2 s3 s4 s5 s6 : Sta} {k c i n : Int} {ls : List (List Nat)} {t : List Nat} (h1 : rN 1 4 s = (k, s1)) (h2 : rN 1 1099511627776 s1 = (c, s2)) (h3 : rN 0 64 s2 = (i, s3)) (h4 : rN 0 8 s3 = (n, s4)) (h5 : rLs n.toNat s4 = (ls, s5)) (h6 : rT 0 32 s5 = (t, s6)) :
    decE s = (⟨k, c, i, ls, t⟩, s6) := by
  unfold decE
  simp only [h1, h2, h3, h4, h5, h6]
/-- The frame whose bytes they are, if there is one. -/
def dec (l : List Nat) : Option Fr := if (decE (l, false)).2.2 = false ∧ (decE (l, false)).2.1 = [] ∧ right (decE (l, false)).1 = true then some (decE (l, false)).1 else none
theorem rLs_length : ∀ (n : Nat) (s : Sta), (rLs n s).1.length = n
  | 0, _ => rfl
  | n + 1, s => by simp [rLs, rLs_length n s]
/-- Links that were written are read. -/
theorem rLs_of : ∀ (ls : List (List Nat)) (n : Nat) (r : List Nat), n ≤ ls.length → (∀ x ∈ ls, 1 ≤ x.length ∧ x.length ≤ 4096) → rLs n (Cd.enc (lpts ls) ++ r, false) = (ls.take n, (Cd.enc (lpts (ls.drop n)) ++ r, false))
  | ls, 0, r, _, _ => by simp [rLs]
  | ls, n + 1, r, hn, h => by
    have ih := rLs_of ls n r (by omega) h
    have hx := h ls[n] (List.getElem_mem (by omega))
    rw [rLs, ih]
    have e : ls.drop n = ls[n] :: ls.drop (n + 1) := List.drop_eq_getElem_cons (by omega)
    have e2 : lpts (ls.drop n) = txt ls[n] :: lpts (ls.drop (n + 1)) := by rw [e]; rfl
    simp only [e2, Cd.enc, List.append_assoc]
    rw [rT_of (by omega) (by omega) (by omega)]
    simp only
    rw [List.take_succ_eq_append_getElem (by omega)]
theorem decE_of {f : Fr} (h : right f = true) (r : List Nat) : decE (bytes f ++ r, false) = (f, (r, false)) := by
  obtain ⟨h1, h2, h3, h4, h5, h6⟩ := right_bounds h
  obtain ⟨k, c, i, ls, t⟩ := f
  simp only at h1 h2 h3 h4 h5 h6
  rw [bytes_eq]
  simp only [List.append_assoc]
  refine decE_by (rN_of (by omega) (by omega) (by omega) (by omega)) (rN_of (by omega) (by omega) (by omega) (by omega)) (rN_of (by omega) (by omega) (by omega) (by omega)) (rN_of (by omega) (by omega) (by omega) (by omega)) (s5 := (Cd.one (txt t) ++ r, false)) ?_ (rT_of (by omega) (by omega) (by omega))
  rw [show ((ls.length : Int)).toNat = ls.length from by omega, rLs_of ls ls.length _ (Nat.le_refl _) h5]
  simp [lpts, Cd.enc]
theorem rLs_then {s : Sta} (hs : ∀ x ∈ s.1, x < 256) : ∀ n, (rLs n s).2.2 = false → s.2 = false ∧ s.1 = Cd.enc (lpts (rLs n s).1) ++ (rLs n s).2.1 ∧ (∀ x ∈ (rLs n s).2.1, x < 256)
  | 0, h => ⟨h, by simp [rLs, lpts, Cd.enc], hs⟩
  | n + 1, h => by
    rw [rLs] at h ⊢
    simp only at h
    have hn := rT_bad h
    obtain ⟨h1, h2, h3⟩ := rLs_then hs n hn
    generalize rLs n s = p at *
    obtain ⟨_, g3, g4⟩ := rT_then h3 h
    refine ⟨h1, ?_, g4⟩
    simp only
    have e : ∀ x, lpts (p.1 ++ [x]) = lpts p.1 ++ [txt x] := fun x => by simp [lpts]
    rw [e, Cd.enc_append, Cd.enc, Cd.enc, List.append_nil, List.append_assoc, ← g3]
    exact h2
theorem decE_then (l : List Nat) (hl : ∀ x ∈ l, x < 256) (h : (decE (l, false)).2.2 = false) : l = bytes (decE (l, false)).1 ++ (decE (l, false)).2.1 := by
  obtain ⟨k, s1, H1⟩ : ∃ k s1, rN 1 4 (l, false) = (k, s1) := ⟨_, _, rfl⟩
  obtain ⟨c, s2, H2⟩ : ∃ c s2, rN 1 1099511627776 s1 = (c, s2) := ⟨_, _, rfl⟩
  obtain ⟨i, s3, H3⟩ : ∃ i s3, rN 0 64 s2 = (i, s3) := ⟨_, _, rfl⟩
  obtain ⟨n, s4, H4⟩ : ∃ n s4, rN 0 8 s3 = (n, s4) := ⟨_, _, rfl⟩
  obtain ⟨ls, s5, H5⟩ : ∃ ls s5, rLs n.toNat s4 = (ls, s5) := ⟨_, _, rfl⟩
  obtain ⟨t, s6, H6⟩ : ∃ t s6, rT 0 32 s5 = (t, s6) := ⟨_, _, rfl⟩
  rw [decE_by H1 H2 H3 H4 H5 H6] at h ⊢
  simp only at h ⊢
  have b5 : s5.2 = false := rT_bad (lo := 0) (hi := 32) (by rw [H6]; exact h)
  have b4 : s4.2 = false := by
    have : ∀ n, (rLs n s4).2.2 = false → s4.2 = false := by
      intro n
      induction n with
      | zero => exact id
      | succ m ih => exact fun hh => ih (rT_bad hh)
    exact this n.toNat (by rw [H5]; exact b5)
  have b3 : s3.2 = false := rN_bad (lo := 0) (hi := 8) (by rw [H4]; exact b4)
  have b2 : s2.2 = false := rN_bad (lo := 0) (hi := 64) (by rw [H3]; exact b3)
  have b1 : s1.2 = false := rN_bad (lo := 1) (hi := 1099511627776) (by rw [H2]; exact b2)
  obtain ⟨_, e1, q1, _⟩ := rN_then (lo := 1) (hi := 4) (s := (l, false)) hl (by rw [H1]; exact b1)
  rw [H1] at e1 q1
  obtain ⟨_, e2, q2, _⟩ := rN_then (lo := 1) (hi := 1099511627776) q1 (by rw [H2]; exact b2)
  rw [H2] at e2 q2
  obtain ⟨_, e3, q3, _⟩ := rN_then (lo := 0) (hi := 64) q2 (by rw [H3]; exact b3)
  rw [H3] at e3 q3
  obtain ⟨_, e4, q4, n0, n1⟩ := rN_then (lo := 0) (hi := 8) q3 (by rw [H4]; exact b4)
  rw [H4] at e4 q4 n0 n1
  obtain ⟨_, e5, q5⟩ := rLs_then q4 n.toNat (by rw [H5]; exact b5)
  rw [H5] at e5 q5
  obtain ⟨_, e6, q6⟩ := rT_then (lo := 0) (hi := 32) q5 (by rw [H6]; exact h)
  rw [H6] at e6
  have hn : (ls.length : Int) = n := by
    have := rLs_length n.toNat s4
    rw [H5] at this
    simp only at this n0
    omega
  rw [bytes_eq]
  simp only at e1 e2 e3 e4 e5 e6 ⊢
  rw [hn]
  simp only [List.append_assoc]
  rw [← e6, ← e5, ← e4, ← e3, ← e2, ← e1]
/-- A frame is read just if it is right and these are its bytes. -/
theorem dec_iff (l : List Nat) (hl : ∀ x ∈ l, x < 256) (f : Fr) : dec l = some f ↔ right f = true ∧ bytes f = l := by
  unfold dec
  constructor
  · intro h
    split at h
    · rename_i hc
      obtain ⟨h1, h2, h3⟩ := hc
      obtain rfl := Option.some.inj h
      refine ⟨h3, ?_⟩
      have := decE_then l hl h1
      rw [h2, List.append_nil] at this
      exact this.symm
    · cases h
  · rintro ⟨h, rfl⟩
    have := decE_of h []
    rw [List.append_nil] at this
    rw [this]
    simp [h]
theorem bytes_inj {a b : Fr} (ha : right a = true) (hb : right b = true) (h : bytes a = bytes b) : a = b := by
  have h1 := decE_of ha []
  have h2 := decE_of hb []
  rw [h, h2] at h1
  exact (congrArg Prod.fst h1).symm
/-- Bytes that are cut off are none. -/
theorem dec_cut {f : Fr} (he : right f = true) (hs : Small f) {k : Nat} (hk : k < (bytes f).length) : dec ((bytes f).take k) = none := by
  cases hd : dec ((bytes f).take k) with
  | none => rfl
  | some g =>
    exfalso
    obtain ⟨hf, hb⟩ := (dec_iff _ (fun x hx => bytes_small hs x (List.mem_of_mem_take hx)) g).1 hd
    have h1 := decE_of hf ((bytes f).drop k)
    rw [hb, List.take_append_drop] at h1
    have h2 := decE_of he []
    rw [List.append_nil, h1] at h2
    have h3 := congrArg (fun x => x.2.1) h2
    simp only at h3
    have := congrArg List.length h3
    simp at this
    omega
theorem dec_more {f : Fr} (he : right f = true) {r : List Nat} (hr : r ≠ []) : dec (bytes f ++ r) = none := by
  unfold dec
  rw [decE_of he r]
  simp [hr]
theorem dec_own {f : Fr} (he : right f = true) : dec (bytes f) = some f := by
  unfold dec
  have := decE_of he []
  rw [List.append_nil] at this
  rw [this]
  simp [he]
theorem dec_none1 {l : List Nat} {F : Fr} {s : Sta} (hd : decE (l, false) = (F, s)) (he : (!s.2 && decide (s.1 = [])) = false) : dec l = none := by
  unfold dec
  rw [hd, if_neg]
  rintro ⟨h1, h2, _⟩
  simp only at h1 h2
  rw [h1, h2] at he
  simp at he
theorem dec_none2 {l : List Nat} {F : Fr} {s : Sta} (hd : decE (l, false) = (F, s)) (hr : right F = false) : dec l = none := by
  unfold dec
  rw [hd, if_neg]
  rintro ⟨_, _, h⟩
  rw [hr] at h
  cases h
theorem dec_some {l : List Nat} {F : Fr} {s : Sta} (hd : decE (l, false) = (F, s)) (he : (!s.2 && decide (s.1 = [])) = true) (hr : right F = true) : dec l = some F := by
  unfold dec
  rw [hd]
  simp only [Bool.and_eq_true, Bool.not_eq_true', decide_eq_true_eq] at he
  rw [if_pos ⟨he.1, he.2, hr⟩]
end Go.Proofs.Ytchoiioeeepoaaa.F17
