/- Entries in memory; the contracts of within, Equal, sameWrap, EqualFunc. -/
import Derived.Test.YtchoiioeeepoaaaE9Dec
import Derived.Test.YtchoiioeeepoaaaC8Clone
namespace Go.Proofs.Ytchoiioeeepoaaa.E9
open Go.RowKit C8
/-- The wraps behind a slice: two cells each. -/
def WrRow (w : World) (q : Option Addr) (ws : List (Int × List Nat)) : Prop :=
  ∀ j (h : j < ws.length), ∃ b o bp bc, q = some ⟨b, o, none⟩ ∧ b < w.heap.size ∧ w.cell? ⟨b, o + j * 2, none⟩ = some (.int .i64 ws[j].1) ∧ w.cell? ⟨b, o + j * 2 + 1, none⟩ = some (.slice bp ws[j].2.length bc) ∧ Src w (.slice bp ws[j].2.length bc) ws[j].2 ∧ ws[j].2.length ≤ 9223372036854775807
theorem WrRow.below {w w' : World} {q : Option Addr} {ws : List (Int × List Nat)} (h : WrRow w q ws) (hb : Below w.heap.size w w') : WrRow w' q ws := fun j hj => by
  obtain ⟨b, o, bp, bc, h1, h2, h3, h4, h5, h6⟩ := h j hj
  exact ⟨b, o, bp, bc, h1, Nat.lt_of_lt_of_le h2 hb.size, (hb.cell (p := ⟨b, o + j * 2, none⟩) h2).trans h3, (hb.cell (p := ⟨b, o + j * 2 + 1, none⟩) h2).trans h4, h5.below hb, h6⟩
theorem WrRow.nil (w : World) (q : Option Addr) : WrRow w q [] := fun j hj => by cases hj
/-- An entry as a value: its nine cells. -/
def EnV (e : En) (np : Option Addr) (nc : Nat) (vp : Option Addr) (vc : Nat) (q : Option Addr) (c : Nat) : Array Value :=
  #[.int .i64 e.kind, .int .i64 e.writer, .int .i64 e.seq, .slice np e.name.length nc, .slice vp e.value.length vc, .int .i64 e.who, .int .i64 e.rights, .int .i64 e.epoch, .slice q e.wraps.length c]
structure EnAt (w : World) (e : En) (np : Option Addr) (nc : Nat) (vp : Option Addr) (vc : Nat) (q : Option Addr) : Prop where
  name : Src w (.slice np e.name.length nc) e.name
  value : Src w (.slice vp e.value.length vc) e.value
  wraps : WrRow w q e.wraps
  ln : e.name.length ≤ 9223372036854775807
  lv : e.value.length ≤ 9223372036854775807
  lw : e.wraps.length ≤ 9223372036854775807
def EnIs (w : World) (v : Value) (e : En) : Prop := ∃ np nc vp vc q c, v = .agg (EnV e np nc vp vc q c) ∧ EnAt w e np nc vp vc q
theorem EnAt.below {w w' : World} {e : En} {np : Option Addr} {nc : Nat} {vp : Option Addr} {vc : Nat} {q : Option Addr} (h : EnAt w e np nc vp vc q) (hb : Below w.heap.size w w') : EnAt w' e np nc vp vc q := ⟨h.name.below hb, h.value.below hb, h.wraps.below hb, h.ln, h.lv, h.lw⟩
theorem EnIs.below {w w' : World} {v : Value} {e : En} (h : EnIs w v e) (hb : Below w.heap.size w w') : EnIs w' v e := by
  obtain ⟨np, nc, vp, vc, q, c, rfl, h⟩ := h
  exact ⟨np, nc, vp, vc, q, c, rfl, h.below hb⟩
theorem WrRow.small {w : World} {q : Option Addr} {ws : List (Int × List Nat)} (h : WrRow w q ws) : ∀ y ∈ ws, ∀ x ∈ y.2, x < 256 := fun y hy => by
  obtain ⟨j, hj, rfl⟩ := List.getElem_of_mem hy
  obtain ⟨_, _, _, _, _, _, _, _, h5, _⟩ := h j hj
  exact h5.small
theorem EnIs.small {w : World} {v : Value} {e : En} (h : EnIs w v e) : Small e := by
  obtain ⟨np, nc, vp, vc, q, c, rfl, h⟩ := h
  exact ⟨h.name.small, h.value.small, h.wraps.small⟩
set_option maxHeartbeats 1000000 in
theorem equal_any (p q : Option Addr) (n m c d : Nat) (l k : List Nat) (w : World) (h1 : Src w (.slice p n c) l) (h2 : Src w (.slice q m d) k) : Calls Try.prog 55 #[.slice p n c, .slice q m d] w fun e w' => e = .returned (.bool (decide (l = k))) ∧ w' = w := by
  have cv := conv_src h1
  have cw := conv_src h2
  have HL : Hid (((strB l).toList == (strB k).toList) = decide (l = k)) := strB_beqL h1.small h2.small
  clear h1 h2
  generalize strB l = x at *
  generalize strB k = y at *
  go_enter Try.func55, Try.ntmps55
  go_wp2_with fail
  go_ret
  refine ⟨?_, rfl⟩
  rw [← HL.out]
  rfl
end Go.Proofs.Ytchoiioeeepoaaa.E9
