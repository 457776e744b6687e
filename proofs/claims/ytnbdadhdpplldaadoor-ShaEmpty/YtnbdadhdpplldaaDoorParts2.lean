/- ShaParts where it answers at once; the parts that came in. -/
import Derived.Test.YtnbdadhdpplldaaDoorParts
import Derived.Deep.Slices
namespace Go.Proofs.YtnbdadhdpplldaaDoor
open Go.RowKit Go.ChangeShapes Go.WideShapes
set_option maxHeartbeats 400000 in
theorem shaParts_early (p : Option Addr) (n c : Nat) (w : World) (hT : Tab w) (h : 30 < n) (_hn : n ≤ 9223372036854775807) :
    Calls Tryd.prog 4 #[.slice p n c] w fun e w' => e = .returned (.bool true) ∧ Below w.heap.size w w' := by
  have HT : Hid (Tab w) := hT
  clear hT
  have n200 : (30 : Int) < (n : Int) := by omega
  go_enter Tryd.func4, Tryd.ntmps4
  go_wp2_with fail
  refine (anchor_any w HT.out).mono ?_
  rintro e w1 ⟨rfl, hb1⟩
  have HB1 : Hid _ := hb1
  clear hb1
  go_wp2_with fail
  go_ret
  exact ⟨rfl, HB1.out⟩
theorem spot_none {w : World} {x : Addr} {v : Value} (h0 : w.cell? (x.add 0) = some v) : x.spot = none := by
  have hx0 : x.add 0 = x := by obtain ⟨b, o, s⟩ := x; unfold Addr.add; split <;> simp_all
  rw [hx0] at h0
  cases hs : x.spot with
  | none => rfl
  | some q =>
    unfold World.cell? at h0
    split at h0
    · simp [hs] at h0
    · cases h0
theorem choose_list {n : Nat} {p : Nat → List Nat → Prop} (h : ∀ i, i < n → ∃ l, p i l) : ∃ ls : List (List Nat), ls.length = n ∧ ∀ i l, ls[i]? = some l → p i l := by
  induction n with
  | zero => exact ⟨[], rfl, fun i l hl => by simp at hl⟩
  | succ n ih =>
    obtain ⟨ls, h1, h2⟩ := ih (fun i hi => h i (by omega))
    obtain ⟨l, hl⟩ := h n (by omega)
    refine ⟨ls ++ [l], by simp [h1], fun i x hx => ?_⟩
    by_cases hi : i < ls.length
    · rw [List.getElem?_append_left hi] at hx
      exact h2 i x hx
    · rw [List.getElem?_append_right (by omega)] at hx
      have e : i = n := by
        have := (List.getElem?_eq_some_iff.1 hx).1
        simp at this
        omega
      subst e
      rw [h1, Nat.sub_self] at hx
      cases hx
      exact hl
theorem partsIs_open {H : Type} {enc : TypeId × Value → H} {W : World} {base fuel : Nat} {held : Bool} {a : Option Addr} {len cap : Nat} {x : DataW H × List MemPlace}
    (h : DataW.trod enc Tryd.prog W base (fun _ => true) held fuel 27 [.slice a len cap] = some x) : len ≤ 9223372036854775807 ∧ ∃ ls : List (List Nat), ls.length = len ∧ PartsIs W (.slice a len cap) ls := by
  rcases Go.Deep.open_slice1 Tryd.underlying27 (by kernel_rfl) h with ⟨hcs, _⟩ | ⟨y, l, c, m, n, V, D, Pl, hcs, _, hl, hm, hmm, _, hel⟩
  · simp at hcs
    obtain ⟨rfl, rfl, rfl⟩ := hcs
    exact ⟨by omega, [], rfl, none, 0, rfl, by simp, fun h => absurd rfl h⟩
  · simp at hcs
    obtain ⟨rfl, rfl, rfl⟩ := hcs
    have hlm : len ≤ m := by rw [hmm]; split <;> omega
    have hmax : len ≤ 9223372036854775807 := by unfold maxLen at hm; omega
    obtain ⟨ls, h1, h2⟩ := choose_list (n := len) (p := fun i l => ∃ q d, V i = .slice q l.length d ∧ l.length ≤ 9223372036854775807 ∧ SrcIs W (.slice q l.length d) l ∧ BytesAt W (.slice q l.length d) l) (fun i hi => by
      obtain ⟨_, hf⟩ := hel i (by omega)
      rcases open_ints Tryd.underlying22 Tryd.underlying5 (by kernel_rfl) hf with ⟨hcs, _⟩ | ⟨x, l, c, zs, hcs, _, hl, hm, hz, _, hcell, hwz⟩
      · simp at hcs
        obtain ⟨l0, e1, e2, e3⟩ := srcIs_of (rowIs_nil W none)
        exact ⟨l0, none, 0, by rw [hcs, e1], by omega, by rw [e1]; exact e2, by rw [e1]; exact e3⟩
      · simp at hcs
        obtain ⟨l0, e1, e2, e3⟩ := srcIs_of (rowIs_of (w := W) hl hm (by simpa using hz) hcell hwz)
        exact ⟨l0, some x, c, by rw [hcs, e1], by unfold maxLen at hm; omega, by rw [e1]; exact e2, by rw [e1]; exact e3⟩)
    refine ⟨hmax, ls, h1, some y, cap, by rw [h1], by omega, fun hne => ?_⟩
    have hpos : 0 < len := by cases ls with | nil => exact absurd rfl hne | cons u v => simp at h1; omega
    have hsp := spot_none (hel 0 (by omega)).1
    obtain ⟨b, o, s⟩ := y
    simp only at hsp
    subst hsp
    refine ⟨b, o, rfl, fun i l hil => ?_⟩
    have hi : i < len := by rw [← h1]; exact (List.getElem?_eq_some_iff.1 hil).1
    obtain ⟨q, d, e1, e2, e3, e4⟩ := h2 i l hil
    have hc := (hel i (by omega)).1
    rw [Addr.add_mid, e1] at hc
    exact ⟨q, d, hc, e2, e3, e4⟩
end Go.Proofs.YtnbdadhdpplldaaDoor
