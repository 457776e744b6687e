/- What was sealed is opened: the mathematics. -/
import Derived.Test.YtfjdaafckiefdaaGreatDoorS15Sg
import Derived.Test.YtfjdaafckiefdaaGreatDoorS7Two
namespace Go.Proofs.YtfjdaafckiefdaaGreatDoor.S15
open Go.RowKit C8 E9
open S7 (Fr Kx By Sw TU Shr)
theorem takeL_two {a b : List Nat} (h : (twoL a b).length ≤ 2046) : takeL (padL (twoL a b)) = some (a, b) := by
  have hl := twoL_length a b
  have h1 : rightB (padL (twoL a b)) = true := (rightB_iff _).2 (right_pad h)
  have r1 : rT 0 4096 (twoL a b, false) = (a, (Cd.one (txt b), false)) := by
    have := rT_of (lo := 0) (hi := 4096) (l := a) (r := Cd.one (txt b)) (by omega) (by omega) (by omega)
    have e : twoL a b = Cd.one (txt a) ++ Cd.one (txt b) := by unfold twoL; simp only [Cd.enc, List.append_nil]
    rw [e]
    exact this
  have r2 : rT 0 4096 (Cd.one (txt b), false) = (b, ([], false)) := by
    have := rT_of (lo := 0) (hi := 4096) (l := b) (r := []) (by omega) (by omega) (by omega)
    rw [List.append_nil] at this
    exact this
  unfold takeL
  rw [if_pos h1, txt_pad, r1]
  simp only
  rw [r2]
  simp
/-- Behind a list that goes on, a mark is the same, and nothing is new. -/
theorem smark_again (L N : List S7.Su.Thing) (k : List Nat) (r : Rec) (b : List Nat) : smark (sL L k r b ++ N) k r b = smark L k r b ∧ sL (sL L k r b ++ N) k r b = sL L k r b ++ N ∧ mkL (sL L k r b ++ N) k r = mkL L k r ∧ adL (sL L k r b ++ N) k r = sL L k r b ++ N := by
  obtain ⟨M, hM⟩ := S7.Su.add_eq (adL L k r) 77 (mkL L k r) (markL r.coll b)
  have p1 : S7.Su.pos 77 k (S7.wriB ++ S7.six r.writer.toNat) 0 (adL L k r) = some (S7.Su.num L 77 k (S7.wriB ++ S7.six r.writer.toNat)) := S7.Su.pos_add L 77 k _
  have p2 : S7.Su.pos 77 k (S7.wriB ++ S7.six r.writer.toNat) 0 (sL L k r b ++ N) = some (S7.Su.num L 77 k (S7.wriB ++ S7.six r.writer.toNat)) := by
    unfold sL
    rw [hM, List.append_assoc]
    exact S7.Su.pos_stays p1
  have e1 := S7.Su.num_of p2
  have hk : mkL (sL L k r b ++ N) k r = mkL L k r := by
    show S7.Su.sign 77 (S7.Su.num (sL L k r b ++ N) 77 k (S7.wriB ++ S7.six r.writer.toNat)) = S7.Su.sign 77 (S7.Su.num L 77 k (S7.wriB ++ S7.six r.writer.toNat))
    rw [e1.1]
  have ha : adL (sL L k r b ++ N) k r = sL L k r b ++ N := e1.2
  have q1 : S7.Su.pos 77 (mkL L k r) (markL r.coll b) 0 (sL L k r b ++ N) = some (S7.Su.num (adL L k r) 77 (mkL L k r) (markL r.coll b)) := S7.Su.pos_stays (S7.Su.pos_add (adL L k r) 77 (mkL L k r) (markL r.coll b))
  have e2 := S7.Su.num_of q1
  refine ⟨?_, ?_, hk, ha⟩
  · show S7.Su.sign 77 (S7.Su.num (adL (sL L k r b ++ N) k r) 77 (mkL (sL L k r b ++ N) k r) (markL r.coll b)) = S7.Su.sign 77 _
    rw [hk, ha, e2.1]
  · show S7.Su.add (adL (sL L k r b ++ N) k r) 77 (mkL (sL L k r b ++ N) k r) (markL r.coll b) = _
    rw [hk, ha, e2.2]
theorem sL_with (L : List S7.Su.Thing) (k : List Nat) (r : Rec) (x : List Nat) (b : List Nat) : smark L k (r.with x) b = smark L k r b ∧ sL L k (r.with x) b = sL L k r b ∧ rnum (r.with x) = rnum r ∧ rfront (r.with x) = rfront r := ⟨rfl, rfl, rfl, rfl⟩
theorem sealErr_none {r : Rec} {e : En} {n : Nat} (h : sealErr r e n = none) : right e = true ∧ e.writer = r.writer ∧ n = 32 ∧ rnum r = true := by
  unfold sealErr at h
  split at h
  · cases h
  · rename_i h1
    split at h
    · cases h
    · rename_i h2
      split at h
      · cases h
      · rename_i h3
        split at h
        · cases h
        · rename_i h4
          exact ⟨by simpa using h1, by simpa using h2, by simpa using h3, by simpa using h4⟩
/-- The record that Seal tells is right. -/
theorem seal_right (L : List S7.Su.Thing) (k : List Nat) (r : Rec) {e : En} (hr : right e = true) (hn : rnum r = true) : rright (r.with (boxL L k r e)) = true ∧ (boxL L k r e).length = (plainL L k r e).length + 16 := by
  have h := plain_ok L k r hr
  have hb : (boxL L k r e).length = (plainL L k r e).length + 16 := by unfold boxL; rw [S7.Su.box_length]
  refine ⟨(rright_iff _).2 ⟨hn, ?_⟩, hb⟩
  show 80 ≤ (boxL L k r e).length ∧ (boxL L k r e).length ≤ 2064
  omega
/-- What is opened of a sealed entry is it. -/
theorem open_own (L N : List S7.Su.Thing) (k ke : List Nat) (r : Rec) {e : En} (hr : right e = true) (bs : List Nat) (ts : List (Option TypeId)) (B : Nat) (J : List Nat → World → Prop) (w : World) (y : Ending) (w' : World) (hw : e.writer = r.writer)
    (h : OpSays bs ts B (r.with (boxL L k r e)) (plainL L k r e) (smark (endL L k ke r e ++ N) k (r.with (boxL L k r e))) J w y w') :
    J (E9.bytes e) w' ∧ Fr bs ts B w w' ∧ ∃ v, y = .returned (.tuple #[v, .int .i64 0]) ∧ EnNew w.heap.size w' v e := by
  have hp := plain_ok L k r hr
  have hl := (bytes_length hr).1
  have ht : takeL (plainL L k r e) = some (E9.bytes e, smark L k r (E9.bytes e)) := takeL_two (by omega)
  have hd : dec false (E9.bytes e) = some e := dec_own false hr
  have hmk : smark (endL L k ke r e ++ N) k (r.with (boxL L k r e)) (E9.bytes e) = smark L k r (E9.bytes e) := by
    show smark (endL L k ke r e ++ N) k r (E9.bytes e) = _
    unfold endL
    rw [List.append_assoc]
    exact (smark_again L _ k r (E9.bytes e)).1
  rcases h with ⟨er, h1, _⟩ | ⟨b, m, E, h1, h2, h3, h4, h5, h6⟩
  · unfold openE at h1
    rw [ht] at h1
    simp only at h1
    rw [hd] at h1
    simp only at h1
    rw [if_pos (show e.writer = (r.with (boxL L k r e)).writer from hw)] at h1
    cases h1
  · rw [ht] at h1
    obtain ⟨rfl, rfl⟩ := Prod.mk.inj (Option.some.inj h1)
    rw [hd] at h2
    obtain rfl := Option.some.inj h2
    refine ⟨h4, h5, ?_⟩
    rcases h6 with ⟨_, v, h7, h8⟩ | ⟨h7, _⟩
    · exact ⟨v, h7, h8⟩
    · exact absurd hmk.symm h7
/-- An entry that was made here, without wraps. -/
theorem en_by {B : Nat} {w : World} {np vp : Option Addr} {nc vc : Nat} {k a s o t p : Int} {n v : List Nat} (hn : By B w (.slice np n.length nc) n) (hv : By B w (.slice vp v.length vc) v) (hln : n.length ≤ 100000) (hlv : v.length ≤ 100000) : EnIs w (.agg #[.int .i64 k, .int .i64 a, .int .i64 s, .slice np n.length nc, .slice vp v.length vc, .int .i64 o, .int .i64 t, .int .i64 p, .slice none 0 0]) ⟨k, a, s, n, v, o, t, p, []⟩ :=
  ⟨np, nc, vp, vc, none, 0, rfl, hn.src, hv.src, WrRow.nil _ _, by show n.length ≤ _; omega, by show v.length ≤ _; omega, by simp⟩
end Go.Proofs.YtfjdaafckiefdaaGreatDoor.S15
