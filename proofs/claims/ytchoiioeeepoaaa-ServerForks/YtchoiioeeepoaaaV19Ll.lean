/- Lists of links that are handed in; how logs grow. -/
import Derived.Test.YtchoiioeeepoaaaV19Fr
import Derived.Test.YtchoiioeeepoaaaF17Small
namespace Go.Proofs.Ytchoiioeeepoaaa.V19
open Go.RowKit C8 E9 F17
open Go.ChangeShapes Go.WideShapes Go.ChangeAt
/-- The lists of links behind a slice. -/
def LlRow (w : World) (q : Option Addr) (lss : List Ls) : Prop := ∀ j (h : j < lss.length), ∃ b o lq lc, q = some ⟨b, o, none⟩ ∧ b < w.heap.size ∧ w.cell? ⟨b, o + j, none⟩ = some (.slice lq lss[j].length lc) ∧ LkRow w lq lss[j] ∧ lss[j].length ≤ 9223372036854775807
theorem LlRow.below {w w' : World} {q : Option Addr} {lss : List Ls} (h : LlRow w q lss) (hb : Below w.heap.size w w') : LlRow w' q lss := fun j hj => by
  obtain ⟨b, o, lq, lc, h1, h2, h3, h4, h5⟩ := h j hj
  exact ⟨b, o, lq, lc, h1, Nat.lt_of_lt_of_le h2 hb.size, (hb.cell (p := ⟨b, o + j, none⟩) h2).trans h3, h4.below hb, h5⟩
theorem llRow_of {H : Type} {enc : TypeId × Value → H} {P : Program} {w : World} {base : Nat} {held : Bool} {t e e2 e5 : TypeId} {fuel : Nat} {a : Option Addr} {len cap : Nat} {x : DataW H × List MemPlace} (ht : P.underlying t = some (.slice e)) (he : P.underlying e = some (.slice e2)) (ce : P.cellsOf e = 1) (he2 : P.underlying e2 = some (.slice e5)) (ce2 : P.cellsOf e2 = 1) (t3 : P.underlying e5 = some (.int .u8)) (c5 : P.cellsOf e5 = 1)
    (h : DataW.trod enc P w base (fun _ => true) held fuel t [Value.slice a len cap] = some x) :
    len ≤ 9223372036854775807 ∧ ∃ ls : List Ls, ls.length = len ∧ LlRow w a ls := by
  rcases Go.Deep.open_slice ht h with ⟨hcs, _⟩ | ⟨ad, l, c, m, n, D, Pl, hcs, hb, hl, hm, hmm, _, hx⟩
  · simp at hcs
    obtain ⟨rfl, rfl, rfl⟩ := hcs
    exact ⟨by omega, [], rfl, fun j hj => absurd hj (by simp)⟩
  · simp at hcs
    obtain ⟨rfl, rfl, rfl⟩ := hcs
    refine ⟨by unfold maxLen at hm; omega, ?_⟩
    have each : ∀ i, i < len → ∃ q : Ls, ∃ b o bp bc, (some ad : Option Addr) = some ⟨b, o, none⟩ ∧ b < w.heap.size ∧ w.cell? ⟨b, o + i, none⟩ = some (.slice bp q.length bc) ∧ LkRow w bp q ∧ q.length ≤ 9223372036854775807 := by
      intro i hi
      have cell : ∀ i, i < len → ∃ v0 y, w.cell? (ad.add i) = some v0 ∧ ∃ n, DataW.trod enc P w base (fun _ => true) held n e [v0] = some y := by
        intro i hi
        obtain ⟨cs', h1, h2⟩ := hx i (by simp at hmm; omega)
        rw [ce] at h1
        obtain ⟨_, hlen, hcell⟩ := World.cells?_some h1
        match cs', hlen with
        | [v0], _ =>
          have e0 := hcell 0 (by omega)
          rw [Go.Deep.add_add] at e0
          exact ⟨v0, _, by simpa using e0, _, h2⟩
      obtain ⟨z0, _, hz0, _⟩ := cell 0 (by omega)
      rw [add_nought] at hz0
      have hsp := spot_of hz0
      obtain ⟨v0, y, k0, n0, g0⟩ := cell i hi
      obtain ⟨b, o, s⟩ := ad
      simp only at hsp
      subst hsp
      obtain ⟨p, ln, cp, rfl⟩ : ∃ p ln cp, v0 = .slice p ln cp := by
        rcases Go.Deep.open_slice he g0 with ⟨hcs, _⟩ | ⟨ad, l, c, m, n, D, Pl, hcs, _⟩
        · simp at hcs
          exact ⟨_, _, _, hcs⟩
        · simp at hcs
          exact ⟨_, _, _, hcs⟩
      obtain ⟨h1, ls, h2, h3⟩ := lkRow_of he he2 ce2 t3 c5 g0
      rw [Addr.add_mid] at k0
      subst h2
      exact ⟨ls, b, o, p, cp, rfl, World.block_lt_of_cell? w _ hz0, k0, h3, h1⟩
    obtain ⟨f, hf⟩ := Go.Deep.choose_lt each
    refine ⟨(List.range len).map f, by simp, fun j hj => ?_⟩
    have hj' : j < len := by simpa using hj
    obtain ⟨b, o, bp, bc, h1, h2, h3, h4, h5⟩ := hf j hj'
    exact ⟨b, o, bp, bc, h1, h2, by simpa using h3, by simpa using h4, by simpa using h5⟩
theorem Sk.logc {w W : World} {p b m : Nat} {M : St} {R : List (Option Addr × Ls)} (h : Sk w W p b m M R) {x c : Int} {n : Nat} (hx : In64 x) (hc : In64 c) (hn : (M x c).length = n) :
    Calls Try.prog 19 #[.pointer (some ⟨p, 0, none⟩), .int .i64 x, .int .i64 c] W fun e w' => ∃ q cp, e = .returned (.slice q n cp) ∧ n ≤ cp ∧ Hid (Sk w w' p b m M ((q, M x c) :: R) ∧ Below W.heap.size W w') := by
  refine (h.sv.log hx hc).mono ?_
  rintro e w' ⟨q, cp, rfl, H⟩
  obtain ⟨h1, h2, h3⟩ := H.out
  subst hn
  refine ⟨q, cp, rfl, h1.cap, ⟨h2, fun r hr => ?_⟩, h3⟩
  rcases List.mem_cons.1 hr with rfl | hr
  · exact h1.lk
  · exact (h.rows r hr).below h3
theorem add_pre : ∀ (ls log : Ls), ∃ t, add log ls = log ++ t
  | [], log => ⟨[], by simp [add_nil]⟩
  | y :: r, log => by
    rw [add_cons]
    obtain ⟨t, ht⟩ := add_pre r (if y ∈ log then log else log ++ [y])
    by_cases h : y ∈ log
    · rw [if_pos h] at ht ⊢
      exact ⟨t, ht⟩
    · rw [if_neg h] at ht ⊢
      exact ⟨[y] ++ t, by rw [ht, List.append_assoc]⟩
theorem add_nodup : ∀ (ls log : Ls), log.Nodup → (add log ls).Nodup
  | [], log, h => h
  | y :: r, log, h => by
    rw [add_cons]
    refine add_nodup r _ ?_
    split
    · exact h
    · rename_i h1
      rw [List.nodup_append]
      exact ⟨h, by simp, fun a ha b hb => by rw [List.mem_singleton.1 hb]; rintro rfl; exact h1 ha⟩
/-- A log only grows, and no link is there twice. -/
theorem hd_grows {M : St} {l : Ls} (hr : F17.right (pf 1 l) = true) (h : (M 0 1).Nodup) : ∃ t, (hd M 0 (F17.bytes (pf 1 l))).1 0 1 = M 0 1 ++ t ∧ ((hd M 0 (F17.bytes (pf 1 l))).1 0 1).Nodup := by
  unfold hd
  rw [if_neg (by omega)]
  split
  · exact ⟨[], by simp, h⟩
  · rw [F17.dec_own hr]
    show ∃ t, (pushA M 0 1 l).1 0 1 = M 0 1 ++ t ∧ ((pushA M 0 1 l).1 0 1).Nodup
    unfold pushA
    split
    · exact ⟨[], by simp, h⟩
    · obtain ⟨t, ht⟩ := add_pre l (M 0 1)
      refine ⟨t, ?_, ?_⟩
      · show upd M 0 1 (add (M 0 1) l) 0 1 = _
        rw [upd_same, ht]
      · show (upd M 0 1 (add (M 0 1) l) 0 1).Nodup
        rw [upd_same]
        exact add_nodup l _ h
end Go.Proofs.Ytchoiioeeepoaaa.V19
