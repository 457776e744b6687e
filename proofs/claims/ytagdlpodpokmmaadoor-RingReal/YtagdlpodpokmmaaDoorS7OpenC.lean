/- The contract of Open of a suite of signs, of any bytes. -/
import Derived.Test.YtagdlpodpokmmaaDoorS7OpenA
import Derived.Test.YtagdlpodpokmmaaDoorS7OpenB
namespace Go.Proofs.YtagdlpodpokmmaaDoor.S7
open Go.RowKit
/-- What Open tells. -/
def OpenSays (base : Nat) (r : Option (List Nat)) (e : Ending) (w' : World) : Prop := match r with
  | some t => ∃ v, e = .returned (.tuple #[v, .int .i64 0]) ∧ Src w' v t ∧ ∀ b, v.ownBlock = some b → base ≤ b
  | none => e = .returned (.tuple #[.slice none 0 0, .int .i64 20])
theorem Open_any (k n o bs : List Nat) (kv nv ov bv : Value) (p q m x : Nat) (L : List Su.Thing) (w : World) (h : SuIs w p q m x L) (hk : Src w kv k) (hn : Src w nv n) (ho : Src w ov o) (hb : Src w bv bs)
    (lk : k.length = 32) (ln : n.length = 12) (hbl : bs.length ≤ 60000) (hL : L.length < 1000000) (hS : ∀ u ∈ L, u.2.2.2.2.length ≤ 50000) :
    Calls Tryd.prog 29 #[.pointer (some ⟨p, 0, none⟩), kv, nv, ov, bv] w fun e w' => OpenSays w.heap.size (Su.opens k n o bs 0 L) e w' ∧ Below w.heap.size w w' := by
  have HSZ : Hid (∀ w1, Calls Tryd.prog 40 #[kv, nv] w1 fun e w' => e = .returned (.bool true) ∧ w' = w1) := fun w1 => by
    obtain ⟨pk, ck, rfl, _⟩ := hk.slice
    obtain ⟨pn, cn, rfl, _⟩ := hn.slice
    rw [lk, ln]
    exact sizes_ok _ _ _ _ w1
  have HLK : Hid (∀ w1, Below w.heap.size w w1 → Calls Tryd.prog 41 #[kv, nv, ov] w1 fun e w' => e = .returned (.agg (lockV k n o)) ∧ Below w1.heap.size w1 w') := fun w1 h1 => lockOf_any _ _ _ w1 (hk.below h1) (hn.below h1) (ho.below h1)
  have HF : Hid (Calls Tryd.prog 44 #[.pointer (some ⟨q, 0, none⟩), bv] w fun e w' => e = .returned (findSays (found L bs)) ∧ Below w.heap.size w w') := find_any bs bv q m x L w h.signs h.boxes hb hbl hL hS
  obtain ⟨_, _, c2, _⟩ := cells3 h.box
  obtain ⟨pk, ck, ek, _⟩ := hk.slice
  obtain ⟨pn, cn, en, _⟩ := hn.slice
  obtain ⟨po, co, eo, _⟩ := ho.slice
  obtain ⟨pb, cb, eb, _⟩ := hb.slice
  rw [opens_found hb.small hL]
  cases hf : found L bs with
  | none =>
    rw [hf] at HF
    exact Open_none kv nv ov bv pk pn po pb _ ck _ cn _ co _ cb p q w ek en eo eb c2 HSZ HF
  | some u =>
    rw [hf] at HF
    have hu := h.fine u (found_mem hf)
    rw [Option.bind_some]
    by_cases hq : u.2.1 = k ∧ u.2.2.1 = n ∧ u.2.2.2.1 = o
    · rw [if_pos hq]
      refine (Open_same u k n o kv nv ov bv pk pn po pb _ ck _ cn _ co _ cb p q w ek en eo eb c2 HSZ HLK HF hu.2.2.2 hq).mono ?_
      rintro e w' ⟨v, rfl, h1, h2, h3⟩
      exact ⟨⟨v, rfl, h1, h3⟩, h2⟩
    · rw [if_neg hq]
      refine Open_other u k n o kv nv ov bv pk pn po pb _ ck _ cn _ co _ cb p q w ek en eo eb c2 HSZ HLK HF (fun w1 => ?_)
      unfold lockV
      rw [run_neq_lock, strB_beqL hu.1 hk.small, strB_beqL hu.2.1 hn.small, strB_beqL hu.2.2.1 ho.small]
      have : (decide (u.2.1 = k) && decide (u.2.2.1 = n) && decide (u.2.2.2.1 = o)) = false := by
        rw [Bool.eq_false_iff]
        intro e
        simp only [Bool.and_eq_true, decide_eq_true_eq] at e
        exact hq ⟨e.1.1, e.1.2, e.2⟩
      rw [this]
      rfl
end Go.Proofs.YtagdlpodpokmmaaDoor.S7
