/- What comes in: slices and arrays of bytes; what lies below a place stays. -/
import Derived.Test.YtfjdaafckiefdaaGreatDoorMgO
import Derived.WideKeyArr2
import Derived.OpenShut
import Derived.Test.YtfjdaafckiefdaaGreatDoorS15Sg
namespace Go.Proofs.YtfjdaafckiefdaaGreatDoor.S7
open Go.RowKit
/-- Bytes that lie below a place. -/
def Old (B : Nat) (w : World) (v : Value) (l : List Nat) : Prop := Src w v l ∧ (l ≠ [] → ∀ b, v.ownBlock = some b → b < B)
section
variable {w w' : World} {B : Nat} {v : Value} {l : List Nat}
theorem ints_ne {k : IntKind} (h : l ≠ []) : ints k l ≠ [] := by
  intro e
  apply h
  have := congrArg List.length e
  rw [ints_length] at this
  exact List.eq_nil_of_length_eq_zero this
theorem Old.of (h : Src w v l) : Old w.heap.size w v l := by
  refine ⟨h, fun h0 b hb => ?_⟩
  obtain ⟨_, ⟨rfl, rfl⟩ | ⟨_, _, rfl, rfl⟩ | ⟨g, o, c, rfl, _, hr⟩⟩ := h
  · exact absurd rfl h0
  · exact absurd rfl h0
  · cases hb
    exact range_lt hr (ints_ne h0)
theorem Old.keep (h : Old B w v l) (hb : Below B w w') : Old B w' v l := by
  refine ⟨?_, h.2⟩
  obtain ⟨⟨hs, h1 | h1 | ⟨g, o, c, rfl, hc, hr⟩⟩, h2⟩ := h
  · exact ⟨hs, .inl h1⟩
  · exact ⟨hs, .inr (.inl h1)⟩
  · by_cases h0 : l = []
    · subst h0
      exact ⟨hs, .inr (.inl ⟨_, _, rfl, rfl⟩)⟩
    · exact ⟨hs, .inr (.inr ⟨g, o, c, rfl, hc, range_kept hr (hb.block g (h2 h0 g rfl))⟩)⟩
theorem Old.up {B' : Nat} (h : Old B w v l) (hB : B ≤ B') : Old B' w v l := ⟨h.1, fun h0 b hb => Nat.lt_of_lt_of_le (h.2 h0 b hb) hB⟩
theorem Old.only {bs : List Nat} (h : Old B w v l) (ho : Only bs w w') (hB : B ≤ w.heap.size) (hs : ∀ y ∈ bs, B ≤ y) : Old B w' v l := h.keep (ho.below hB hs)
end
/-- A slice of bytes that came in: it is empty with no room; or it leads to a row of bytes. -/
def RowIs (w : World) (a : Option Addr) (len cap : Nat) : Prop :=
  (len = 0 ∧ cap = 0) ∨ ∃ b o l, a = some ⟨b, o, none⟩ ∧ l.length = len ∧ len ≤ cap ∧ cap ≤ 9223372036854775807 ∧ (∀ x ∈ l, x < 256) ∧ w.rangeAt b o (ints .u8 l) ∧ b < w.heap.size
theorem rowIs_nil (w : World) (a : Option Addr) : RowIs w a 0 0 := .inl ⟨rfl, rfl⟩
theorem RowIs.max {w : World} {a : Option Addr} {len cap : Nat} (h : RowIs w a len cap) : len ≤ 9223372036854775807 := by
  rcases h with ⟨rfl, rfl⟩ | ⟨b, o, l, rfl, hl, hc, hm, hs, hr, hb⟩ <;> omega
theorem rowIs_of {w : World} {x : Addr} {len cap : Nat} {zs : List Int} (hl : len ≤ cap) (hm : cap ≤ maxLen) (hz : zs.length = cap)
    (hcell : ∀ i, i < zs.length → w.cell? (x.add i) = some (.int .u8 (zs.getD i 0))) (hwz : ∀ n ∈ zs, (Lit.int .u8 n).wf = true) : RowIs w (some x) len cap := by
  by_cases hc : cap = 0
  · exact .inl ⟨by omega, hc⟩
  · have h0 := hcell 0 (by omega)
    have hx0 : x.add 0 = x := by obtain ⟨b, o, s⟩ := x; unfold Addr.add; split <;> simp_all
    have hsp : x.spot = none := by
      rw [hx0] at h0
      cases hs : x.spot with
      | none => rfl
      | some q =>
        unfold World.cell? at h0
        split at h0
        · simp [hs] at h0
        · cases h0
    obtain ⟨b, o, s⟩ := x
    simp only at hsp
    subst hsp
    have hbd : ∀ n ∈ zs, 0 ≤ n ∧ n ≤ 255 := fun n hn => by
      have := hwz n hn
      simp [Lit.wf, IntKind.min, IntKind.max, IntKind.bits, IntKind.signed] at this
      omega
    refine .inr ⟨b, o, (zs.take len).map Int.toNat, rfl, by simp; omega, hl, by unfold maxLen at hm; omega, fun y hy => ?_, fun j v hv => ?_, ?_⟩
    · obtain ⟨n, hn, rfl⟩ := List.mem_map.1 hy
      have := hbd n (List.mem_of_mem_take hn)
      omega
    · have hj : j < len := by
        have := (List.getElem?_eq_some_iff.1 hv).1
        simp [ints] at this
        omega
      have hj' : j < zs.length := by omega
      have h1 := hcell j hj'
      rw [Addr.add_mid] at h1
      rw [h1, ← hv]
      have := hbd zs[j] (List.getElem_mem hj')
      simp [ints, hj, hj']
      omega
    · have := World.block_lt_of_cell? w _ (by rw [hx0] at h0; exact h0)
      exact this
theorem Src.of {w : World} {a : Option Addr} {len cap : Nat} (h : RowIs w a len cap) : ∃ l, l.length = len ∧ Src w (.slice a len cap) l := by
  rcases h with ⟨rfl, rfl⟩ | ⟨b, o, l, rfl, hl, hc, hm, hs, hr, hb⟩
  · refine ⟨[], rfl, fun x hx => by simp at hx, ?_⟩
    cases a with
    | none => exact .inl ⟨rfl, rfl⟩
    | some x => exact .inr (.inl ⟨_, _, rfl, rfl⟩)
  · exact ⟨l, hl, Src.row hs (by omega) hr hl⟩
theorem wf_i64 {n : Int} (h : (Lit.int .i64 n).wf = true) : -9223372036854775808 ≤ n ∧ n ≤ 9223372036854775807 := by
  simp [Lit.wf, IntKind.min, IntKind.max, IntKind.bits, IntKind.signed] at h
  omega
section
variable {H : Type} {enc : TypeId × Value → H} {P : Program} {k e : TypeId} {n : Nat} {W : World} {base : Nat} {sp : Nat → Bool} {held : Bool}
end
end Go.Proofs.YtfjdaafckiefdaaGreatDoor.S7
/- Two suites beside one another; lists of keys; boxes behind them. -/
namespace Go.Proofs.YtfjdaafckiefdaaGreatDoor.S7
open Go.RowKit
section
variable {w w' : World} {p q m x C : Nat} {L : List Su.Thing} {bs : List Nat}
theorem SuIs.above (h : SuIs w p q m x L) (ho : Only bs w w') (hb : ∀ y ∈ bs, y < C) (hC : C ≤ p ∧ C ≤ q ∧ C ≤ m ∧ C ≤ x) : SuIs w' p q m x L :=
  h.only ho ⟨fun e => by have := hb p e; omega, fun e => by have := hb q e; omega, fun e => by have := hb m e; omega, fun e => by have := hb x e; omega⟩
end
end Go.Proofs.YtfjdaafckiefdaaGreatDoor.S7
/- What was sealed is opened: the mathematics. -/
namespace Go.Proofs.YtfjdaafckiefdaaGreatDoor.S15
open Go.RowKit C8 E9
open S7 (Fr Kx By Sw TU Shr)
theorem takeL_two {a b : List Nat} (h : (twoL a b).length ≤ 2046) : takeL (padL (twoL a b)) = some (a, b) := by
  have hl := twoL_length a b
  have h1 : rightB (padL (twoL a b)) = true := (rightB_iff _).2 (right_pad h)
  have r1 : rT 0 4096 (twoL a b, false) = (a, (Cd.one (txt b), false)) := by
    have := rT_of (lo := 0) (hi := 4096) (l := a) (r := Cd.one (txt b)) (by omega) (by omega) (by omega)
    have e : twoL a b = Cd.one (txt a) ++ Cd.one (txt b) := by unfold twoL; simp only [Cd.enc, List.append_nil]
    rw [e]
    exact this
  have r2 : rT 0 4096 (Cd.one (txt b), false) = (b, ([], false)) := by
    have := rT_of (lo := 0) (hi := 4096) (l := b) (r := []) (by omega) (by omega) (by omega)
    rw [List.append_nil] at this
    exact this
  unfold takeL
  rw [if_pos h1, txt_pad, r1]
  simp only
  rw [r2]
  simp
/-- Behind a list that goes on, a mark is the same, and nothing is new. -/
theorem smark_again (L N : List S7.Su.Thing) (k : List Nat) (r : Rec) (b : List Nat) : smark (sL L k r b ++ N) k r b = smark L k r b ∧ sL (sL L k r b ++ N) k r b = sL L k r b ++ N ∧ mkL (sL L k r b ++ N) k r = mkL L k r ∧ adL (sL L k r b ++ N) k r = sL L k r b ++ N := by
  obtain ⟨M, hM⟩ := S7.Su.add_eq (adL L k r) 77 (mkL L k r) (markL r.coll b)
  have p1 : S7.Su.pos 77 k (S7.wriB ++ S7.six r.writer.toNat) 0 (adL L k r) = some (S7.Su.num L 77 k (S7.wriB ++ S7.six r.writer.toNat)) := S7.Su.pos_add L 77 k _
  have p2 : S7.Su.pos 77 k (S7.wriB ++ S7.six r.writer.toNat) 0 (sL L k r b ++ N) = some (S7.Su.num L 77 k (S7.wriB ++ S7.six r.writer.toNat)) := by
    unfold sL
    rw [hM, List.append_assoc]
    exact S7.Su.pos_stays p1
  have e1 := S7.Su.num_of p2
  have hk : mkL (sL L k r b ++ N) k r = mkL L k r := by
    show S7.Su.sign 77 (S7.Su.num (sL L k r b ++ N) 77 k (S7.wriB ++ S7.six r.writer.toNat)) = S7.Su.sign 77 (S7.Su.num L 77 k (S7.wriB ++ S7.six r.writer.toNat))
    rw [e1.1]
  have ha : adL (sL L k r b ++ N) k r = sL L k r b ++ N := e1.2
  have q1 : S7.Su.pos 77 (mkL L k r) (markL r.coll b) 0 (sL L k r b ++ N) = some (S7.Su.num (adL L k r) 77 (mkL L k r) (markL r.coll b)) := S7.Su.pos_stays (S7.Su.pos_add (adL L k r) 77 (mkL L k r) (markL r.coll b))
  have e2 := S7.Su.num_of q1
  refine ⟨?_, ?_, hk, ha⟩
  · show S7.Su.sign 77 (S7.Su.num (adL (sL L k r b ++ N) k r) 77 (mkL (sL L k r b ++ N) k r) (markL r.coll b)) = S7.Su.sign 77 _
    rw [hk, ha, e2.1]
  · show S7.Su.add (adL (sL L k r b ++ N) k r) 77 (mkL (sL L k r b ++ N) k r) (markL r.coll b) = _
    rw [hk, ha, e2.2]
/-- The record that Seal tells is right. -/
theorem seal_right (L : List S7.Su.Thing) (k : List Nat) (r : Rec) {e : En} (hr : right e = true) (hn : rnum r = true) : rright (r.with (boxL L k r e)) = true ∧ (boxL L k r e).length = (plainL L k r e).length + 16 := by
  have h := plain_ok L k r hr
  have hb : (boxL L k r e).length = (plainL L k r e).length + 16 := by unfold boxL; rw [S7.Su.box_length]
  refine ⟨(rright_iff _).2 ⟨hn, ?_⟩, hb⟩
  show 80 ≤ (boxL L k r e).length ∧ (boxL L k r e).length ≤ 2064
  omega
/-- What is opened of a sealed entry is it. -/
theorem open_own (L N : List S7.Su.Thing) (k ke : List Nat) (r : Rec) {e : En} (hr : right e = true) (bs : List Nat) (ts : List (Option TypeId)) (B : Nat) (J : List Nat → World → Prop) (w : World) (y : Ending) (w' : World) (hw : e.writer = r.writer)
    (h : OpSays bs ts B (r.with (boxL L k r e)) (plainL L k r e) (smark (endL L k ke r e ++ N) k (r.with (boxL L k r e))) J w y w') :
    J (E9.bytes e) w' ∧ Fr bs ts B w w' ∧ ∃ v, y = .returned (.tuple #[v, .int .i64 0]) ∧ EnNew w.heap.size w' v e := by
  have hp := plain_ok L k r hr
  have hl := (bytes_length hr).1
  have ht : takeL (plainL L k r e) = some (E9.bytes e, smark L k r (E9.bytes e)) := takeL_two (by omega)
  have hd : dec false (E9.bytes e) = some e := dec_own false hr
  have hmk : smark (endL L k ke r e ++ N) k (r.with (boxL L k r e)) (E9.bytes e) = smark L k r (E9.bytes e) := by
    show smark (endL L k ke r e ++ N) k r (E9.bytes e) = _
    unfold endL
    rw [List.append_assoc]
    exact (smark_again L _ k r (E9.bytes e)).1
  rcases h with ⟨er, h1, _⟩ | ⟨b, m, E, h1, h2, h3, h4, h5, h6⟩
  · unfold openE at h1
    rw [ht] at h1
    simp only at h1
    rw [hd] at h1
    simp only at h1
    rw [if_pos (show e.writer = (r.with (boxL L k r e)).writer from hw)] at h1
    cases h1
  · rw [ht] at h1
    obtain ⟨rfl, rfl⟩ := Prod.mk.inj (Option.some.inj h1)
    rw [hd] at h2
    obtain rfl := Option.some.inj h2
    refine ⟨h4, h5, ?_⟩
    rcases h6 with ⟨_, v, h7, h8⟩ | ⟨h7, _⟩
    · exact ⟨v, h7, h8⟩
    · exact absurd hmk.symm h7
/-- An entry that was made here, without wraps. -/
theorem en_by {B : Nat} {w : World} {np vp : Option Addr} {nc vc : Nat} {k a s o t p : Int} {n v : List Nat} (hn : By B w (.slice np n.length nc) n) (hv : By B w (.slice vp v.length vc) v) (hln : n.length ≤ 100000) (hlv : v.length ≤ 100000) : EnIs w (.agg #[.int .i64 k, .int .i64 a, .int .i64 s, .slice np n.length nc, .slice vp v.length vc, .int .i64 o, .int .i64 t, .int .i64 p, .slice none 0 0]) ⟨k, a, s, n, v, o, t, p, []⟩ :=
  ⟨np, nc, vp, vc, none, 0, rfl, hn.src, hv.src, WrRow.nil _ _, by show n.length ≤ _; omega, by show v.length ≤ _; omega, by simp⟩
end Go.Proofs.YtfjdaafckiefdaaGreatDoor.S15
