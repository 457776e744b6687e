/- The contracts of lockOf, Join of one part, joined, Signs. -/
import Derived.Test.YtagdlpodpokmmaaGreatDoorS7Is
namespace Go.Proofs.YtagdlpodpokmmaaGreatDoor.S7
open Go.RowKit
def lockV (k n o : List Nat) : Array Value := #[.string (strB k), .string (strB n), .string (strB o)]
theorem stop_conv {P : Program} {ops : Array Oper} {rest : List Oper} {dst : Option Tmp} {T : TypeId} {pos : String} {after : Array Edge} {a : Act} {w : World} {Q : Exit → Act → World → Prop} (ty tz : TypeId) {x : Operand}
    (h : Stop (wpList P ops Q ({ dst := dst, op := .convert ty tz x, type := T, pos := pos, after := after, guard := none } :: rest) a w)) :
    wpList P ops Q ({ dst := dst, op := .convert ty tz x, type := T, pos := pos, after := after, guard := none } :: rest) a w := h
set_option maxHeartbeats 400000 in
set_option maxRecDepth 10000 in
theorem lockOf_any {k n o : List Nat} (a b c : Value) (w : World) (ha : Src w a k) (hb : Src w b n) (hc : Src w c o) :
    Calls Tryz.prog 48 #[a, b, c] w fun e w' => e = .returned (.agg (lockV k n o)) ∧ Below w.heap.size w w' := by
  have HA : Hid (∀ w', Below w.heap.size w w' → (convert 22 9 a).run Tryz.prog w' = .ok (.string (strB k)) w') := fun w' h => conv_src (ha.below h)
  have HB : Hid (∀ w', Below w.heap.size w w' → (convert 22 9 b).run Tryz.prog w' = .ok (.string (strB n)) w') := fun w' h => conv_src (hb.below h)
  have HC : Hid (∀ w', Below w.heap.size w w' → (convert 22 9 c).run Tryz.prog w' = .ok (.string (strB o)) w') := fun w' h => conv_src (hc.below h)
  obtain ⟨pa, ca, rfl, _⟩ := ha.slice
  obtain ⟨pb, cb, rfl, _⟩ := hb.slice
  obtain ⟨pc, cc, rfl, _⟩ := hc.slice
  clear ha hb hc
  have h1 := HA.out (w.alloc (.cells #[.string ⟨#[]⟩, .string ⟨#[]⟩, .string ⟨#[]⟩] 86)) ((Below.refl _ _).alloc (Nat.le_refl _) _)
  have h2 := HB.out (w.alloc (.cells #[.string ⟨#[]⟩, .string ⟨#[]⟩, .string ⟨#[]⟩] 86)) ((Below.refl _ _).alloc (Nat.le_refl _) _)
  have h3 := HC.out (w.alloc (.cells #[.string ⟨#[]⟩, .string ⟨#[]⟩, .string ⟨#[]⟩] 86)) ((Below.refl _ _).alloc (Nat.le_refl _) _)
  clear HA HB HC
  generalize k.length = kl at *
  generalize n.length = nl at *
  generalize o.length = ol at *
  go_enter Tryz.func48, Tryz.ntmps48
  go_wp2_with fail
  exact bodyPost_ret (v := .agg (lockV k n o)) (by simp [results, Tryz.results48, go_sem, lockV]) rfl ⟨rfl, (Below.refl _ _).alloc (Nat.le_refl _) _⟩
set_option maxHeartbeats 400000 in
theorem join_one {l : List Nat} (g o c : Nat) (v : Value) (w : World) (hc : w.cell? ⟨g, o, none⟩ = some v) (hv : Src w v l) (hl : l.length ≤ 50000) :
    Calls Tryz.prog 75 #[.slice (some ⟨g, o, none⟩) 1 c, .slice none 0 0] w fun e w' => ∃ u, e = .returned u ∧ w'.ownsRow w.heap.size 5 1 u l.length (ints .u8 l) ∧ Below w.heap.size w w' := by
  have HV : Hid (Src w v l) := hv
  obtain ⟨pv, cv, rfl, _⟩ := hv.slice
  clear hv
  obtain ⟨n, hn⟩ : ∃ n, l.length = n := ⟨_, rfl⟩
  have HN : Hid (l.length = n) := hn
  rw [hn] at hc hl HV ⊢
  clear hn
  go_enter Tryz.func75, Tryz.ntmps75
  go_wp2_with (first | with_reducible (refine stop_builtin .append ?_))
  refine Stop.go ?_
  refine law_append_src w.heap.size (.slice none 0 0) 0 [] (.slice pv n cv) l rfl rfl (own_none _ _ _ _) HV.out (by have := HN.out; omega) (Nat.le_refl _) ?_
  intro u w1 ho hg
  have HB : Hid (Below w.heap.size w w1) := (Below.refl w.heap.size w).grown hg (Nat.le_refl _) (fun k hk => by cases hk)
  have HO : Hid (w1.ownsRow w.heap.size 5 1 u n (ints .u8 l)) := by
    have h1 := ho
    rw [Nat.zero_add, List.nil_append, HN.out] at h1
    exact h1
  clear ho hg
  go_wp2_with fail
  go_ret
  exact ⟨_, rfl, HO.out, HB.out⟩
set_option maxHeartbeats 400000 in
theorem joined_one {l : List Nat} (g o c : Nat) (v : Value) (w : World) (hc : w.cell? ⟨g, o, none⟩ = some v) (hv : Src w v l) (hl : l.length ≤ 50000) :
    Calls Tryz.prog 61 #[.slice (some ⟨g, o, none⟩) 1 c] w fun e w' => e = .returned (.string (strB l)) ∧ Below w.heap.size w w' := by
  have HJ : Hid (Calls Tryz.prog 75 #[.slice (some ⟨g, o, none⟩) 1 c, .slice none 0 0] w fun e w' => ∃ u, e = .returned u ∧ w'.ownsRow w.heap.size 5 1 u l.length (ints .u8 l) ∧ Below w.heap.size w w') := join_one g o c v w hc hv hl
  have HS : Hid (∀ x ∈ l, x < 256) := hv.small
  clear hc hv hl
  go_enter Tryz.func61, Tryz.ntmps61
  go_wp2_with fail
  refine HJ.out.mono ?_
  rintro e w1 ⟨u, rfl, ho, hb⟩
  have h1 := conv_src (Src.own HS.out ho)
  have HB : Hid (Below w.heap.size w w1) := hb
  obtain ⟨q, c', rfl⟩ := own_slice ho
  clear ho hb HJ HS
  go_wp2_with fail
  go_ret
  exact ⟨rfl, HB.out⟩
/-- The world behind Signs. -/
def madeW (w : World) : World := (((w.alloc (.map #[] 0)).alloc (.map #[] 0)).alloc (.cells #[.map (some w.heap.size), .map (some (w.heap.size + 1))] 61)).alloc
  (.cells #[.slice none 0 0, .int .i64 0, .pointer (some ⟨w.heap.size + 1 + 1, 0, none⟩)] 63)
theorem madeW_size (w : World) : (madeW w).heap.size = w.heap.size + 4 := by simp [madeW]
theorem madeW_is (w : World) : SuIs (madeW w) (w.heap.size + 3) (w.heap.size + 2) w.heap.size (w.heap.size + 1) [] := by
  unfold madeW
  generalize hw1 : w.alloc (.map #[] 0) = w1
  generalize hw2 : w1.alloc (.map #[] 0) = w2
  generalize hw3 : w2.alloc (.cells #[.map (some w.heap.size), .map (some (w.heap.size + 1))] 61) = w3
  have s1 : w1.heap.size = w.heap.size + 1 := by rw [← hw1]; simp
  have s2 : w2.heap.size = w.heap.size + 2 := by rw [← hw2]; simp [s1]
  have s3 : w3.heap.size = w.heap.size + 3 := by rw [← hw3]; simp [s2]
  have hm : w1.heap[w.heap.size]? = some (.map #[] 0) := by rw [← hw1]; exact heap_alloc_new w _
  have hx : w2.heap[w.heap.size + 1]? = some (.map #[] 0) := by rw [← hw2, ← s1]; exact heap_alloc_new w1 _
  have hq : w3.heap[w.heap.size + 2]? = some (.cells #[.map (some w.heap.size), .map (some (w.heap.size + 1))] 61) := by rw [← hw3, ← s2]; exact heap_alloc_new w2 _
  have hm2 : w2.heap[w.heap.size]? = some (.map #[] 0) := by rw [← hw2, Below.heap_alloc _ _ _ (by omega)]; exact hm
  have hm3 : w3.heap[w.heap.size]? = some (.map #[] 0) := by rw [← hw3, Below.heap_alloc _ _ _ (by omega)]; exact hm2
  have hx3 : w3.heap[w.heap.size + 1]? = some (.map #[] 0) := by rw [← hw3, Below.heap_alloc _ _ _ (by omega)]; exact hx
  refine ⟨?_, ?_, ⟨#[], 0, ?_, rfl⟩, ⟨#[], 0, ?_, rfl⟩, by omega, fun t ht => by simp at ht⟩
  · rw [← s3]; exact heap_alloc_new w3 _
  · rw [Below.heap_alloc _ _ _ (by omega)]; exact hq
  · rw [Below.heap_alloc _ _ _ (by omega)]; exact hm3
  · rw [Below.heap_alloc _ _ _ (by omega)]; exact hx3
theorem Signs_any (w : World) : Calls Tryz.prog 5 #[] w fun e w' => e = .returned (.pointer (some ⟨w.heap.size + 3, 0, none⟩)) ∧ SuIs w' (w.heap.size + 3) (w.heap.size + 2) w.heap.size (w.heap.size + 1) [] ∧ Below w.heap.size w w' ∧ w'.heap.size = w.heap.size + 4 := by
  have hmm := @run_makeMap Tryz.prog
  go_enter Tryz.func5, Tryz.ntmps5
  go_wp2_with fail
  go_ret
  exact ⟨rfl, madeW_is w, ((((Below.refl _ _).alloc (Nat.le_refl _) _).alloc (by simp) _).alloc (by simp; omega) _).alloc (by simp; omega) _, madeW_size w⟩
end Go.Proofs.YtagdlpodpokmmaaGreatDoor.S7
