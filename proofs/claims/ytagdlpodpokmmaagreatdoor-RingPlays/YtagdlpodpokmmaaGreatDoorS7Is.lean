/- A suite of signs in memory; the contracts of next, Count, rightSizes, lockOf, Equal, Join of one part, joined, Signs. -/
import Derived.Test.YtagdlpodpokmmaaGreatDoorMgS
namespace Go.Proofs.YtagdlpodpokmmaaGreatDoor.S7
open Go.RowKit
def thingV (s : Nat) (key text : List Nat) : Value := .agg #[.int .u8 (s : Int), .string (strB key), .string (strB text)]
def contentV (t : Su.Thing) : Value := .agg #[.string (strB t.2.1), .string (strB t.2.2.1), .string (strB t.2.2.2.1), .string (strB t.2.2.2.2)]
/-- What the map of numbers has of a list. -/
def nums : Nat → List Su.Thing → List (Value × Value)
  | _, [] => []
  | n, t :: r => if t.1 = 72 ∨ t.1 = 77 then (thingV t.1 t.2.1 t.2.2.2.2, .int .i64 ((n + 1 : Nat) : Int)) :: nums (n + 1) r else nums (n + 1) r
/-- What the map of boxes has of a list. -/
def boxes : Nat → List Su.Thing → List (Value × Value)
  | _, [] => []
  | n, t :: r => if t.1 = 66 then (.int .i64 ((n + 1 : Nat) : Int), contentV t) :: boxes (n + 1) r else boxes (n + 1) r
theorem nums_append : ∀ (n : Nat) (L M : List Su.Thing), nums n (L ++ M) = nums n L ++ nums (n + L.length) M
  | _, [], _ => by simp [nums]
  | n, t :: r, M => by
    simp only [List.cons_append, nums, List.length_cons]
    rw [nums_append (n + 1) r M, show n + 1 + r.length = n + (r.length + 1) from by omega]
    split <;> rfl
theorem boxes_append : ∀ (n : Nat) (L M : List Su.Thing), boxes n (L ++ M) = boxes n L ++ boxes (n + L.length) M
  | _, [], _ => by simp [boxes]
  | n, t :: r, M => by
    simp only [List.cons_append, boxes, List.length_cons]
    rw [boxes_append (n + 1) r M, show n + 1 + r.length = n + (r.length + 1) from by omega]
    split <;> rfl
/-- All bytes of a thing are bytes. -/
def Fine (t : Su.Thing) : Prop := (∀ x ∈ t.2.1, x < 256) ∧ (∀ x ∈ t.2.2.1, x < 256) ∧ (∀ x ∈ t.2.2.2.1, x < 256) ∧ (∀ x ∈ t.2.2.2.2, x < 256)
/-- A suite of signs: its own block, that of its two maps, and these, with what the list says. -/
structure SuIs (w : World) (p q m x : Nat) (L : List Su.Thing) : Prop where
  box : w.heap[p]? = some (.cells #[.slice none 0 0, .int .i64 (L.length : Int), .pointer (some ⟨q, 0, none⟩)] 63 (0, 0))
  signs : w.heap[q]? = some (.cells #[.map (some m), .map (some x)] 61 (0, 0))
  nums : MapIs w m (nums 0 L)
  boxes : MapIs w x (boxes 0 L)
  ne : p ≠ q ∧ p ≠ m ∧ p ≠ x ∧ q ≠ m ∧ q ≠ x ∧ m ≠ x
  fine : ∀ t ∈ L, Fine t
section
variable {w w' : World} {p q m x : Nat} {L : List Su.Thing}
theorem SuIs.lt (h : SuIs w p q m x L) : p < w.heap.size ∧ q < w.heap.size ∧ m < w.heap.size ∧ x < w.heap.size :=
  ⟨(Array.getElem?_eq_some_iff.1 h.box).1, (Array.getElem?_eq_some_iff.1 h.signs).1, h.nums.lt, h.boxes.lt⟩
theorem SuIs.kept (h : SuIs w p q m x L) (hk : ∀ k, k = p ∨ k = q ∨ k = m ∨ k = x → w'.heap[k]? = w.heap[k]?) : SuIs w' p q m x L :=
  ⟨(hk p (by simp)).trans h.box, (hk q (by simp)).trans h.signs, h.nums.kept (hk m (by simp)), h.boxes.kept (hk x (by simp)), h.ne, h.fine⟩
theorem SuIs.only {bs : List Nat} (h : SuIs w p q m x L) (ho : Only bs w w') (hn : p ∉ bs ∧ q ∉ bs ∧ m ∉ bs ∧ x ∉ bs) : SuIs w' p q m x L :=
  h.kept (fun k hk => by
    have := h.lt
    rcases hk with rfl | rfl | rfl | rfl
    · exact ho.block _ this.1 hn.1
    · exact ho.block _ this.2.1 hn.2.1
    · exact ho.block _ this.2.2.1 hn.2.2.1
    · exact ho.block _ this.2.2.2 hn.2.2.2)
theorem SuIs.below (h : SuIs w p q m x L) (hb : Below w.heap.size w w') : SuIs w' p q m x L :=
  h.only (Only.of_below hb []) (by simp)
theorem cells3 {a b c : Value} {t : TypeId} (h : w.heap[p]? = some (.cells #[a, b, c] t (0, 0))) :
    w.cell? ⟨p, 0, none⟩ = some a ∧ w.cell? ⟨p, 1, none⟩ = some b ∧ w.cell? ⟨p, 2, none⟩ = some c ∧ ∀ i, w.frozen? ⟨p, i, none⟩ = false :=
  ⟨by rw [cell_of_row _ _ _ _ _ _ h]; rfl, by rw [cell_of_row _ _ _ _ _ _ h]; rfl, by rw [cell_of_row _ _ _ _ _ _ h]; rfl, fun i => frozen_of_row _ _ _ _ _ h⟩
theorem cells2 {a b : Value} {t : TypeId} (h : w.heap[p]? = some (.cells #[a, b] t (0, 0))) : w.cell? ⟨p, 0, none⟩ = some a ∧ w.cell? ⟨p, 1, none⟩ = some b :=
  ⟨by rw [cell_of_row _ _ _ _ _ _ h]; rfl, by rw [cell_of_row _ _ _ _ _ _ h]; rfl⟩
end
set_option maxHeartbeats 400000 in
theorem next_any (p n : Nat) (a c : Value) (w : World) (h : w.heap[p]? = some (.cells #[a, .int .i64 (n : Int), c] 63 (0, 0))) (hn : n < 1000000000) :
    Calls Tryz.prog 39 #[.pointer (some ⟨p, 0, none⟩)] w fun e w' => e = .returned (.int .i64 ((n : Int) + 1)) ∧ w' = w.setCell ⟨p, 1, none⟩ (.int .i64 ((n : Int) + 1)) := by
  obtain ⟨_, c1, _, f⟩ := cells3 h
  have f1 := f 1
  clear f h
  go_enter Tryz.func39, Tryz.ntmps39
  go_wp2_with fail
  go_ret
  exact ⟨rfl, rfl⟩
theorem count_any (p n : Nat) (a c : Value) (w : World) (h : w.heap[p]? = some (.cells #[a, .int .i64 (n : Int), c] 63 (0, 0))) :
    Calls Tryz.prog 22 #[.pointer (some ⟨p, 0, none⟩)] w fun e w' => e = .returned (.int .i64 (n : Int)) ∧ w' = w := by
  obtain ⟨_, c1, _, _⟩ := cells3 h
  clear h
  go_enter Tryz.func22, Tryz.ntmps22
  go_wp2_with fail
  go_ret
  exact ⟨rfl, rfl⟩
theorem sizes_ok (a b : Option Addr) (c d : Nat) (w : World) : Calls Tryz.prog 47 #[.slice a 32 c, .slice b 12 d] w fun e w' => e = .returned (.bool true) ∧ w' = w := by
  go_enter Tryz.func47, Tryz.ntmps47
  go_wp2_with fail
  go_ret
  exact ⟨rfl, rfl⟩
theorem sizes_bad (a b : Option Addr) (n c m d : Nat) (w : World) (h : n ≠ 32 ∨ m ≠ 12) : Calls Tryz.prog 47 #[.slice a n c, .slice b m d] w fun e w' => e = .returned (.bool false) ∧ w' = w := by
  by_cases h1 : n = 32
  · subst h1
    have g : ((m : Int) == 12) = false := by rw [beq_eq_false_iff_ne]; omega
    clear h
    go_enter Tryz.func47, Tryz.ntmps47
    go_wp2_with fail
    go_ret
    exact ⟨rfl, rfl⟩
  · have g : ((n : Int) == 32) = false := by rw [beq_eq_false_iff_ne]; omega
    clear h
    go_enter Tryz.func47, Tryz.ntmps47
    go_wp2_with fail
    go_ret
    exact ⟨rfl, rfl⟩
theorem equal_any {l k : List Nat} (a b : Value) (w : World) (ha : Src w a l) (hb : Src w b k) :
    Calls Tryz.prog 68 #[a, b] w fun e w' => e = .returned (.bool (decide (l = k))) ∧ w' = w := by
  have h1 := conv_src ha
  have h2 := conv_src hb
  have h3 := strB_beqL ha.small hb.small
  obtain ⟨pa, ca, rfl, _⟩ := ha.slice
  obtain ⟨pb, cb, rfl, _⟩ := hb.slice
  clear ha hb
  generalize l.length = n at *
  generalize k.length = j at *
  go_enter Tryz.func68, Tryz.ntmps68
  go_wp2_with fail
  go_ret
  exact ⟨rfl, rfl⟩
end Go.Proofs.YtagdlpodpokmmaaGreatDoor.S7
