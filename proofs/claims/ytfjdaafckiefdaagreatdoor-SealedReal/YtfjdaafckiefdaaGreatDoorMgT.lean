/- The document's eight, Sign and box: contracts. -/
import Derived.Test.YtfjdaafckiefdaaGreatDoorMgS
import Derived.Deep.RegionLaw
import Derived.Maps.AppendAt
namespace Go.Proofs.YtfjdaafckiefdaaGreatDoor.S7
open Go.RowKit
theorem div_div256 (n k : Nat) : n / 256 ^ k / 256 = n / 256 ^ (k + 1) := by rw [Nat.div_div_eq_div_mul, Nat.pow_succ]
end Go.Proofs.YtfjdaafckiefdaaGreatDoor.S7
/- A suite of signs in memory; the contracts of next, Count, rightSizes, lockOf, Equal, Join of one part, joined, Signs. -/
namespace Go.Proofs.YtfjdaafckiefdaaGreatDoor.S7
open Go.RowKit
def thingV (s : Nat) (key text : List Nat) : Value := .agg #[.int .u8 (s : Int), .string (strB key), .string (strB text)]
def contentV (t : Su.Thing) : Value := .agg #[.string (strB t.2.1), .string (strB t.2.2.1), .string (strB t.2.2.2.1), .string (strB t.2.2.2.2)]
/-- What the map of numbers has of a list. -/
def nums : Nat → List Su.Thing → List (Value × Value)
  | _, [] => []
  | n, t :: r => if t.1 = 72 ∨ t.1 = 77 then (thingV t.1 t.2.1 t.2.2.2.2, .int .i64 ((n + 1 : Nat) : Int)) :: nums (n + 1) r else nums (n + 1) r
/-- What the map of boxes has of a list. -/
def boxes : Nat → List Su.Thing → List (Value × Value)
  | _, [] => []
  | n, t :: r => if t.1 = 66 then (.int .i64 ((n + 1 : Nat) : Int), contentV t) :: boxes (n + 1) r else boxes (n + 1) r
theorem nums_append : ∀ (n : Nat) (L M : List Su.Thing), nums n (L ++ M) = nums n L ++ nums (n + L.length) M
  | _, [], _ => by simp [nums]
  | n, t :: r, M => by
    simp only [List.cons_append, nums, List.length_cons]
    rw [nums_append (n + 1) r M, show n + 1 + r.length = n + (r.length + 1) from by omega]
    split <;> rfl
theorem boxes_append : ∀ (n : Nat) (L M : List Su.Thing), boxes n (L ++ M) = boxes n L ++ boxes (n + L.length) M
  | _, [], _ => by simp [boxes]
  | n, t :: r, M => by
    simp only [List.cons_append, boxes, List.length_cons]
    rw [boxes_append (n + 1) r M, show n + 1 + r.length = n + (r.length + 1) from by omega]
    split <;> rfl
/-- All bytes of a thing are bytes. -/
def Fine (t : Su.Thing) : Prop := (∀ x ∈ t.2.1, x < 256) ∧ (∀ x ∈ t.2.2.1, x < 256) ∧ (∀ x ∈ t.2.2.2.1, x < 256) ∧ (∀ x ∈ t.2.2.2.2, x < 256)
/-- A suite of signs: its own block, that of its two maps, and these, with what the list says. -/
structure SuIs (w : World) (p q m x : Nat) (L : List Su.Thing) : Prop where
  box : w.heap[p]? = some (.cells #[.slice none 0 0, .int .i64 (L.length : Int), .pointer (some ⟨q, 0, none⟩)] 93 (0, 0))
  signs : w.heap[q]? = some (.cells #[.map (some m), .map (some x)] 91 (0, 0))
  nums : MapIs w m (nums 0 L)
  boxes : MapIs w x (boxes 0 L)
  ne : p ≠ q ∧ p ≠ m ∧ p ≠ x ∧ q ≠ m ∧ q ≠ x ∧ m ≠ x
  fine : ∀ t ∈ L, Fine t
section
variable {w w' : World} {p q m x : Nat} {L : List Su.Thing}
theorem SuIs.lt (h : SuIs w p q m x L) : p < w.heap.size ∧ q < w.heap.size ∧ m < w.heap.size ∧ x < w.heap.size :=
  ⟨(Array.getElem?_eq_some_iff.1 h.box).1, (Array.getElem?_eq_some_iff.1 h.signs).1, h.nums.lt, h.boxes.lt⟩
theorem SuIs.kept (h : SuIs w p q m x L) (hk : ∀ k, k = p ∨ k = q ∨ k = m ∨ k = x → w'.heap[k]? = w.heap[k]?) : SuIs w' p q m x L :=
  ⟨(hk p (by simp)).trans h.box, (hk q (by simp)).trans h.signs, h.nums.kept (hk m (by simp)), h.boxes.kept (hk x (by simp)), h.ne, h.fine⟩
theorem SuIs.only {bs : List Nat} (h : SuIs w p q m x L) (ho : Only bs w w') (hn : p ∉ bs ∧ q ∉ bs ∧ m ∉ bs ∧ x ∉ bs) : SuIs w' p q m x L :=
  h.kept (fun k hk => by
    have := h.lt
    rcases hk with rfl | rfl | rfl | rfl
    · exact ho.block _ this.1 hn.1
    · exact ho.block _ this.2.1 hn.2.1
    · exact ho.block _ this.2.2.1 hn.2.2.1
    · exact ho.block _ this.2.2.2 hn.2.2.2)
theorem SuIs.below (h : SuIs w p q m x L) (hb : Below w.heap.size w w') : SuIs w' p q m x L :=
  h.only (Only.of_below hb []) (by simp)
theorem cells3 {a b c : Value} {t : TypeId} (h : w.heap[p]? = some (.cells #[a, b, c] t (0, 0))) :
    w.cell? ⟨p, 0, none⟩ = some a ∧ w.cell? ⟨p, 1, none⟩ = some b ∧ w.cell? ⟨p, 2, none⟩ = some c ∧ ∀ i, w.frozen? ⟨p, i, none⟩ = false :=
  ⟨by rw [cell_of_row _ _ _ _ _ _ h]; rfl, by rw [cell_of_row _ _ _ _ _ _ h]; rfl, by rw [cell_of_row _ _ _ _ _ _ h]; rfl, fun i => frozen_of_row _ _ _ _ _ h⟩
theorem cells2 {a b : Value} {t : TypeId} (h : w.heap[p]? = some (.cells #[a, b] t (0, 0))) : w.cell? ⟨p, 0, none⟩ = some a ∧ w.cell? ⟨p, 1, none⟩ = some b :=
  ⟨by rw [cell_of_row _ _ _ _ _ _ h]; rfl, by rw [cell_of_row _ _ _ _ _ _ h]; rfl⟩
end
set_option maxHeartbeats 400000 in
theorem next_any (p n : Nat) (a c : Value) (w : World) (h : w.heap[p]? = some (.cells #[a, .int .i64 (n : Int), c] 93 (0, 0))) (hn : n < 1000000000) :
    Calls Tryz.prog 54 #[.pointer (some ⟨p, 0, none⟩)] w fun e w' => e = .returned (.int .i64 ((n : Int) + 1)) ∧ w' = w.setCell ⟨p, 1, none⟩ (.int .i64 ((n : Int) + 1)) := by
  obtain ⟨_, c1, _, f⟩ := cells3 h
  have f1 := f 1
  clear f h
  go_enter Tryz.func54, Tryz.ntmps54
  go_wp2_with fail
  go_ret
  exact ⟨rfl, rfl⟩
theorem count_any (p n : Nat) (a c : Value) (w : World) (h : w.heap[p]? = some (.cells #[a, .int .i64 (n : Int), c] 93 (0, 0))) :
    Calls Tryz.prog 33 #[.pointer (some ⟨p, 0, none⟩)] w fun e w' => e = .returned (.int .i64 (n : Int)) ∧ w' = w := by
  obtain ⟨_, c1, _, _⟩ := cells3 h
  clear h
  go_enter Tryz.func33, Tryz.ntmps33
  go_wp2_with fail
  go_ret
  exact ⟨rfl, rfl⟩
theorem sizes_ok (a b : Option Addr) (c d : Nat) (w : World) : Calls Tryz.prog 75 #[.slice a 32 c, .slice b 12 d] w fun e w' => e = .returned (.bool true) ∧ w' = w := by
  go_enter Tryz.func75, Tryz.ntmps75
  go_wp2_with fail
  go_ret
  exact ⟨rfl, rfl⟩
theorem equal_any {l k : List Nat} (a b : Value) (w : World) (ha : Src w a l) (hb : Src w b k) :
    Calls Tryz.prog 87 #[a, b] w fun e w' => e = .returned (.bool (decide (l = k))) ∧ w' = w := by
  have h1 := conv_src ha
  have h2 := conv_src hb
  have h3 := strB_beqL ha.small hb.small
  obtain ⟨pa, ca, rfl, _⟩ := ha.slice
  obtain ⟨pb, cb, rfl, _⟩ := hb.slice
  clear ha hb
  generalize l.length = n at *
  generalize k.length = j at *
  go_enter Tryz.func87, Tryz.ntmps87
  go_wp2_with fail
  go_ret
  exact ⟨rfl, rfl⟩
end Go.Proofs.YtfjdaafckiefdaaGreatDoor.S7
/- The contracts of lockOf, Join of one part, joined, Signs. -/
namespace Go.Proofs.YtfjdaafckiefdaaGreatDoor.S7
open Go.RowKit
def lockV (k n o : List Nat) : Array Value := #[.string (strB k), .string (strB n), .string (strB o)]
set_option maxHeartbeats 400000 in
set_option maxRecDepth 10000 in
theorem lockOf_any {k n o : List Nat} (a b c : Value) (w : World) (ha : Src w a k) (hb : Src w b n) (hc : Src w c o) :
    Calls Tryz.prog 76 #[a, b, c] w fun e w' => e = .returned (.agg (lockV k n o)) ∧ Below w.heap.size w w' := by
  have HA : Hid (∀ w', Below w.heap.size w w' → (convert 22 9 a).run Tryz.prog w' = .ok (.string (strB k)) w') := fun w' h => conv_src (ha.below h)
  have HB : Hid (∀ w', Below w.heap.size w w' → (convert 22 9 b).run Tryz.prog w' = .ok (.string (strB n)) w') := fun w' h => conv_src (hb.below h)
  have HC : Hid (∀ w', Below w.heap.size w w' → (convert 22 9 c).run Tryz.prog w' = .ok (.string (strB o)) w') := fun w' h => conv_src (hc.below h)
  obtain ⟨pa, ca, rfl, _⟩ := ha.slice
  obtain ⟨pb, cb, rfl, _⟩ := hb.slice
  obtain ⟨pc, cc, rfl, _⟩ := hc.slice
  clear ha hb hc
  have h1 := HA.out (w.alloc (.cells #[.string ⟨#[]⟩, .string ⟨#[]⟩, .string ⟨#[]⟩] 118)) ((Below.refl _ _).alloc (Nat.le_refl _) _)
  have h2 := HB.out (w.alloc (.cells #[.string ⟨#[]⟩, .string ⟨#[]⟩, .string ⟨#[]⟩] 118)) ((Below.refl _ _).alloc (Nat.le_refl _) _)
  have h3 := HC.out (w.alloc (.cells #[.string ⟨#[]⟩, .string ⟨#[]⟩, .string ⟨#[]⟩] 118)) ((Below.refl _ _).alloc (Nat.le_refl _) _)
  clear HA HB HC
  generalize k.length = kl at *
  generalize n.length = nl at *
  generalize o.length = ol at *
  go_enter Tryz.func76, Tryz.ntmps76
  go_wp2_with fail
  exact bodyPost_ret (v := .agg (lockV k n o)) (by simp [results, Tryz.results76, go_sem, lockV]) rfl ⟨rfl, (Below.refl _ _).alloc (Nat.le_refl _) _⟩
set_option maxHeartbeats 400000 in
theorem join_one {l : List Nat} (g o c : Nat) (v : Value) (w : World) (hc : w.cell? ⟨g, o, none⟩ = some v) (hv : Src w v l) (hl : l.length ≤ 50000) :
    Calls Tryz.prog 142 #[.slice (some ⟨g, o, none⟩) 1 c, .slice none 0 0] w fun e w' => ∃ u, e = .returned u ∧ w'.ownsRow w.heap.size 5 1 u l.length (ints .u8 l) ∧ Below w.heap.size w w' := by
  have HV : Hid (Src w v l) := hv
  obtain ⟨pv, cv, rfl, _⟩ := hv.slice
  clear hv
  obtain ⟨n, hn⟩ : ∃ n, l.length = n := ⟨_, rfl⟩
  have HN : Hid (l.length = n) := hn
  rw [hn] at hc hl HV ⊢
  clear hn
  go_enter Tryz.func142, Tryz.ntmps142
  go_wp2_with (first | with_reducible (refine stop_builtin .append ?_))
  refine Stop.go ?_
  refine law_append_src w.heap.size (.slice none 0 0) 0 [] (.slice pv n cv) l rfl rfl (own_none _ _ _ _) HV.out (by have := HN.out; omega) (Nat.le_refl _) ?_
  intro u w1 ho hg
  have HB : Hid (Below w.heap.size w w1) := (Below.refl w.heap.size w).grown hg (Nat.le_refl _) (fun k hk => by cases hk)
  have HO : Hid (w1.ownsRow w.heap.size 5 1 u n (ints .u8 l)) := by
    have h1 := ho
    rw [Nat.zero_add, List.nil_append, HN.out] at h1
    exact h1
  clear ho hg
  go_wp2_with fail
  go_ret
  exact ⟨_, rfl, HO.out, HB.out⟩
set_option maxHeartbeats 400000 in
theorem joined_one {l : List Nat} (g o c : Nat) (v : Value) (w : World) (hc : w.cell? ⟨g, o, none⟩ = some v) (hv : Src w v l) (hl : l.length ≤ 50000) :
    Calls Tryz.prog 128 #[.slice (some ⟨g, o, none⟩) 1 c] w fun e w' => e = .returned (.string (strB l)) ∧ Below w.heap.size w w' := by
  have HJ : Hid (Calls Tryz.prog 142 #[.slice (some ⟨g, o, none⟩) 1 c, .slice none 0 0] w fun e w' => ∃ u, e = .returned u ∧ w'.ownsRow w.heap.size 5 1 u l.length (ints .u8 l) ∧ Below w.heap.size w w') := join_one g o c v w hc hv hl
  have HS : Hid (∀ x ∈ l, x < 256) := hv.small
  clear hc hv hl
  go_enter Tryz.func128, Tryz.ntmps128
  go_wp2_with fail
  refine HJ.out.mono ?_
  rintro e w1 ⟨u, rfl, ho, hb⟩
  have h1 := conv_src (Src.own HS.out ho)
  have HB : Hid (Below w.heap.size w w1) := hb
  obtain ⟨q, c', rfl⟩ := own_slice ho
  clear ho hb HJ HS
  go_wp2_with fail
  go_ret
  exact ⟨rfl, HB.out⟩
/-- The world behind Signs. -/
def madeW (w : World) : World := (((w.alloc (.map #[] 0)).alloc (.map #[] 0)).alloc (.cells #[.map (some w.heap.size), .map (some (w.heap.size + 1))] 91)).alloc
  (.cells #[.slice none 0 0, .int .i64 0, .pointer (some ⟨w.heap.size + 1 + 1, 0, none⟩)] 93)
theorem madeW_size (w : World) : (madeW w).heap.size = w.heap.size + 4 := by simp [madeW]
theorem madeW_is (w : World) : SuIs (madeW w) (w.heap.size + 3) (w.heap.size + 2) w.heap.size (w.heap.size + 1) [] := by
  unfold madeW
  generalize hw1 : w.alloc (.map #[] 0) = w1
  generalize hw2 : w1.alloc (.map #[] 0) = w2
  generalize hw3 : w2.alloc (.cells #[.map (some w.heap.size), .map (some (w.heap.size + 1))] 91) = w3
  have s1 : w1.heap.size = w.heap.size + 1 := by rw [← hw1]; simp
  have s2 : w2.heap.size = w.heap.size + 2 := by rw [← hw2]; simp [s1]
  have s3 : w3.heap.size = w.heap.size + 3 := by rw [← hw3]; simp [s2]
  have hm : w1.heap[w.heap.size]? = some (.map #[] 0) := by rw [← hw1]; exact heap_alloc_new w _
  have hx : w2.heap[w.heap.size + 1]? = some (.map #[] 0) := by rw [← hw2, ← s1]; exact heap_alloc_new w1 _
  have hq : w3.heap[w.heap.size + 2]? = some (.cells #[.map (some w.heap.size), .map (some (w.heap.size + 1))] 91) := by rw [← hw3, ← s2]; exact heap_alloc_new w2 _
  have hm2 : w2.heap[w.heap.size]? = some (.map #[] 0) := by rw [← hw2, Below.heap_alloc _ _ _ (by omega)]; exact hm
  have hm3 : w3.heap[w.heap.size]? = some (.map #[] 0) := by rw [← hw3, Below.heap_alloc _ _ _ (by omega)]; exact hm2
  have hx3 : w3.heap[w.heap.size + 1]? = some (.map #[] 0) := by rw [← hw3, Below.heap_alloc _ _ _ (by omega)]; exact hx
  refine ⟨?_, ?_, ⟨#[], 0, ?_, rfl⟩, ⟨#[], 0, ?_, rfl⟩, by omega, fun t ht => by simp at ht⟩
  · rw [← s3]; exact heap_alloc_new w3 _
  · rw [Below.heap_alloc _ _ _ (by omega)]; exact hq
  · rw [Below.heap_alloc _ _ _ (by omega)]; exact hm3
  · rw [Below.heap_alloc _ _ _ (by omega)]; exact hx3
theorem Signs_any (w : World) : Calls Tryz.prog 17 #[] w fun e w' => e = .returned (.pointer (some ⟨w.heap.size + 3, 0, none⟩)) ∧ SuIs w' (w.heap.size + 3) (w.heap.size + 2) w.heap.size (w.heap.size + 1) [] ∧ Below w.heap.size w w' ∧ w'.heap.size = w.heap.size + 4 := by
  have hmm := @run_makeMap Tryz.prog
  go_enter Tryz.func17, Tryz.ntmps17
  go_wp2_with fail
  go_ret
  exact ⟨rfl, madeW_is w, ((((Below.refl _ _).alloc (Nat.le_refl _) _).alloc (by simp) _).alloc (by simp; omega) _).alloc (by simp; omega) _, madeW_size w⟩
end Go.Proofs.YtfjdaafckiefdaaGreatDoor.S7
/- Look-ups and stores in the two maps of a suite of signs. -/
namespace Go.Proofs.YtfjdaafckiefdaaGreatDoor.S7
open Go.RowKit
theorem under67 : Tryz.prog.underlying 173 = some (.struct (Tryz.prog.fieldsOf 173)) := by kernel_rfl
theorem fields67' : (Tryz.prog.fieldsOf 173).toList.map (fun f => (f.name, f.type, f.offset)) = [("sort", 5, 0), ("key", 9, 1), ("text", 9, 2)] := by kernel_rfl
theorem fields67 : ∃ f g h : Field, (Tryz.prog.fieldsOf 173).toList = [f, g, h] ∧ f.name = "sort" ∧ f.type = 5 ∧ f.offset = 0 ∧ g.name = "key" ∧ g.type = 9 ∧ g.offset = 1 ∧ h.name = "text" ∧ h.type = 9 ∧ h.offset = 2 := by
  have h := fields67'
  match hl : (Tryz.prog.fieldsOf 173).toList with
  | [] => rw [hl] at h; simp at h
  | [_] => rw [hl] at h; simp at h
  | [_, _] => rw [hl] at h; simp at h
  | [f, g, k] =>
    rw [hl] at h
    simp only [List.map_cons, List.map_nil, List.cons.injEq, Prod.mk.injEq, and_true] at h
    obtain ⟨⟨a1, a2, a3⟩, ⟨b1, b2, b3⟩, c1, c2, c3⟩ := h
    exact ⟨f, g, k, rfl, a1, a2, a3, b1, b2, b3, c1, c2, c3⟩
  | _ :: _ :: _ :: _ :: _ => rw [hl] at h; simp at h
theorem held67 : Tryz.prog.stoodInHeld 173 = false := by kernel_rfl
theorem under58 : Tryz.prog.underlying 88 = some (.map 173 3) := by kernel_rfl
theorem under59 : Tryz.prog.underlying 89 = some (.map 3 121) := by kernel_rfl
theorem zero3 (w : World) : (zeroValue 3).run Tryz.prog w = .ok (.int .i64 0) w := by kernel_rfl
theorem zero79 (w : World) : (zeroValue 121).run Tryz.prog w = .ok (.agg #[.string ⟨#[]⟩, .string ⟨#[]⟩, .string ⟨#[]⟩, .string ⟨#[]⟩]) w := by kernel_rfl
/-- The comparison of two things. -/
def sameT (s : Nat) (key text : List Nat) : Value → Bool
  | .agg cs => match cs.toList with
    | [.int _ a, .string x, .string y] => ((s : Int) == a) && ((strB key).toList == x.toList) && ((strB text).toList == y.toList)
    | _ => false
  | _ => false
theorem run_eq_thing (w : World) (s s' : Nat) (k t k' t' : List Nat) : (Op.equal 173 (thingV s k t) (thingV s' k' t')).run Tryz.prog w = .ok (sameT s k t (thingV s' k' t')) w := by
  unfold Op.equal Op.maxDepth
  rw [show (10000 : Nat) = 9999 + 1 from rfl]
  unfold thingV
  obtain ⟨f, g, h, hl, f1, f2, f3, g1, g2, g3, h1, h2, h3⟩ := fields67
  rw [run_equalIn_struct w 9999 173 _ _ under67 held67, hl]
  have h5 : Tryz.prog.underlying 5 = some (.int .u8) := Tryz.underlying5
  have h9 : Tryz.prog.underlying 9 = some .string := Tryz.underlying9
  have e1 : ∀ a b : Int, (Op.equalIn 9999 5 (.int .u8 a) (.int .u8 b)).run Tryz.prog w = .ok (a == b) w := fun a b => run_equalIn_int w 9998 5 .u8 .u8 a b h5
  have e2 : ∀ a b : ByteArray, (Op.equalIn 9999 9 (.string a) (.string b)).run Tryz.prog w = .ok (a.toList == b.toList) w := fun a b => run_equalIn_string w 9998 9 a b h9
  simp only [Op.eqFields]
  simp [part, isAgg, run_underlying h5, run_underlying h9, e1, e2, sameT, f1, f2, f3, g1, g2, g3, h1, h2, h3]
  generalize (s : Int) = x
  generalize (s' : Int) = y
  by_cases a1 : x = y <;> by_cases a2 : (strB k).toList = (strB k').toList <;> by_cases a3 : (strB t).toList = (strB t').toList <;> simp [a1, a2, a3]
theorem check_u8 (w : World) (em : Bool) (n : Nat) (a : Int) : (Instr.checkKey em (n + 1) 5 (.int .u8 a)).run Tryz.prog w = .ok () w := by
  have h5 : Tryz.prog.underlying 5 = some (.int .u8) := Tryz.underlying5
  simp [Instr.checkKey, run_underlying h5]
theorem check_i64 (w : World) (em : Bool) (n : Nat) (a : Int) : (Instr.checkKey em (n + 1) 3 (.int .i64 a)).run Tryz.prog w = .ok () w := by
  have h5 : Tryz.prog.underlying 3 = some (.int .i64) := Tryz.underlying3
  simp [Instr.checkKey, run_underlying h5]
theorem check_str (w : World) (em : Bool) (n : Nat) (a : ByteArray) : (Instr.checkKey em (n + 1) 9 (.string a)).run Tryz.prog w = .ok () w := by
  have h9 : Tryz.prog.underlying 9 = some .string := Tryz.underlying9
  simp [Instr.checkKey, run_underlying h9]
theorem check_thing (w : World) (em : Bool) (n : Nat) (s : Nat) (k t : List Nat) : (Instr.checkKey em (n + 1 + 1) 173 (thingV s k t)).run Tryz.prog w = .ok () w := by
  unfold thingV
  obtain ⟨f, g, h, hl, f1, f2, f3, g1, g2, g3, h1, h2, h3⟩ := fields67
  have h5 : Tryz.prog.underlying 5 = some (.int .u8) := Tryz.underlying5
  have h9 : Tryz.prog.underlying 9 = some .string := Tryz.underlying9
  have e1 := check_u8 w em n
  have e2 := check_str w em n
  rw [Instr.checkKey]
  simp only [Sem.run_bind, run_underlying under67, Result.andThen_ok]
  rw [← Array.forIn_toList, hl]
  simp [part, isAgg, run_underlying h5, run_underlying h9, e1, e2, f1, f2, f3, g1, g2, g3, h1, h2, h3]
theorem run_check_thing (w : World) (em : Bool) (s : Nat) (k t : List Nat) : (Instr.checkKey em 10000 173 (thingV s k t)).run Tryz.prog w = .ok () w := check_thing w em 9998 s k t
theorem run_check_int (w : World) (em : Bool) (a : Int) : (Instr.checkKey em 10000 3 (.int .i64 a)).run Tryz.prog w = .ok () w := check_i64 w em 9999 a
/-- A key of the map of numbers, and of the boxes'. -/
def sameN (N : Int) : Value → Bool
  | .int _ a => N == a
  | _ => false
theorem find_thing (w : World) (s : Nat) (k t : List Nat) (es : List MapEntry) (h : ∀ e ∈ es, ∃ s' k' t', e.key = thingV s' k' t') :
    ∃ r, (Instr.findKey 173 (thingV s k t) es).run Tryz.prog w = .ok r w ∧ r.map (·.2) = look (sameT s k t) (es.map (fun e => (e.key, e.val))) := by
  obtain ⟨r, h1, h2⟩ := run_findAsking (P := Tryz.prog) (w := w) (k := 173) (key := thingV s k t) (same := sameT s k t) es 0 (fun e he => by
    obtain ⟨s', k', t', e1⟩ := h e he
    rw [e1]
    exact run_eq_thing w s s' k t k' t')
  refine ⟨r, ?_, h2⟩
  cases es with
  | nil =>
    simp [Instr.findAsking] at h1
    subst h1
    simp [Instr.findKey, run_underlying under67, Instr.findNow]
  | cons e es =>
    have hn : Instr.findNow (.struct (Tryz.prog.fieldsOf 173)) (thingV s k t) (e :: es) 0 = none := by
      simp [Instr.findNow, Instr.sameNow]
    simp [Instr.findKey, run_underlying under67, hn, h1]
theorem findNow_int (N : Int) : ∀ (es : List MapEntry) (i : Nat), (∀ e ∈ es, ∃ a, e.key = .int .i64 a) → ∃ r, Instr.findNow (.int .i64) (.int .i64 N) es i = some r ∧ r.map (·.2) = look (sameN N) (es.map (fun e => (e.key, e.val)))
  | [], _, _ => ⟨none, rfl, rfl⟩
  | e :: es, i, h => by
    obtain ⟨a, ha⟩ := h e (by simp)
    obtain ⟨r, h1, h2⟩ := findNow_int N es (i + 1) (fun x hx => h x (by simp [hx]))
    by_cases hN : N = a
    · exact ⟨some (i, e.val), by simp [Instr.findNow, Instr.sameNow, ha, hN], by simp [look, sameN, ha, hN]⟩
    · have hb : (N == a) = false := by simp [hN]
      exact ⟨r, by simp only [Instr.findNow, Instr.sameNow, ha, if_true, hb, h1], by simp [look, sameN, ha, hN, h2]⟩
theorem find_int (w : World) (N : Int) (es : List MapEntry) (h : ∀ e ∈ es, ∃ a, e.key = .int .i64 a) :
    ∃ r, (Instr.findKey 3 (.int .i64 N) es).run Tryz.prog w = .ok r w ∧ r.map (·.2) = look (sameN N) (es.map (fun e => (e.key, e.val))) := by
  obtain ⟨r, h1, h2⟩ := findNow_int N es 0 h
  have h3 : Tryz.prog.underlying 3 = some (.int .i64) := Tryz.underlying3
  exact ⟨r, by simp [Instr.findKey, run_underlying h3, h1], h2⟩
end Go.Proofs.YtfjdaafckiefdaaGreatDoor.S7
/- What is found in the maps of a suite of signs, in the list's words; what is put. -/
namespace Go.Proofs.YtfjdaafckiefdaaGreatDoor.S7
open Go.RowKit
theorem sameT_eq {s s' : Nat} {k t k' t' : List Nat} (hk : ∀ x ∈ k, x < 256) (ht : ∀ x ∈ t, x < 256) (hk' : ∀ x ∈ k', x < 256) (ht' : ∀ x ∈ t', x < 256) : sameT s k t (thingV s' k' t') = decide (s' = s ∧ k' = k ∧ t' = t) := by
  unfold sameT thingV
  simp only
  rw [strB_beqL hk hk', strB_beqL ht ht']
  by_cases a1 : s = s' <;> by_cases a2 : k = k' <;> by_cases a3 : t = t'
  · subst a1 a2 a3; simp
  · subst a1 a2; simp [a3, Ne.symm a3]
  · subst a1 a3; simp [a2, Ne.symm a2]
  · subst a1; simp [a3, a2, Ne.symm a3]
  · subst a2 a3; simp [Ne.symm a1]; omega
  · subst a2; simp [a3, Ne.symm a1]
  · subst a3; simp [a2, Ne.symm a1]
  · simp [a3, Ne.symm a1]
theorem look_nums {s : Nat} {k t : List Nat} (hs : s = 72 ∨ s = 77) (hk : ∀ x ∈ k, x < 256) (ht : ∀ x ∈ t, x < 256) : ∀ (n : Nat) (L : List Su.Thing), (∀ u ∈ L, Fine u) → look (sameT s k t) (nums n L) = (Su.pos s k t n L).map (fun i => .int .i64 (i : Int))
  | _, [], _ => rfl
  | n, u :: r, hf => by
    have hu := hf u (by simp)
    have ih := look_nums hs hk ht (n + 1) r (fun x hx => hf x (by simp [hx]))
    simp only [nums, Su.pos]
    by_cases h1 : u.1 = 72 ∨ u.1 = 77
    · rw [if_pos h1]
      simp only [look]
      rw [sameT_eq hk ht hu.1 hu.2.2.2]
      by_cases h2 : u.1 = s ∧ u.2.1 = k ∧ u.2.2.2.2 = t
      · rw [if_pos h2, decide_eq_true h2]; rfl
      · rw [if_neg h2, decide_eq_false h2, ih]; rfl
    · rw [if_neg h1, ih, if_neg]
      rintro ⟨h2, _⟩
      apply h1
      rw [h2]
      exact hs
theorem look_boxes {N : Int} : ∀ (n : Nat) (L : List Su.Thing), look (sameN N) (boxes n L) = (Su.boxAt N n L).map contentV
  | _, [] => rfl
  | n, u :: r => by
    have ih := look_boxes (N := N) (n + 1) r
    simp only [boxes, Su.boxAt]
    by_cases h1 : u.1 = 66
    · rw [if_pos h1]
      have e : sameN N (.int .i64 ((n + 1 : Nat) : Int)) = (N == ((n + 1 : Nat) : Int)) := rfl
      simp only [look]
      rw [e]
      by_cases h2 : N = ((n + 1 : Nat) : Int)
      · rw [beq_iff_eq.2 h2, if_pos rfl, if_pos ⟨h1, h2⟩]; rfl
      · rw [beq_eq_false_iff_ne.2 h2, if_neg (by decide), if_neg (fun h => h2 h.2), ih]
    · rw [if_neg h1, if_neg (fun h => h1 h.1), ih]
theorem keys_nums : ∀ (n : Nat) (L : List Su.Thing), ∀ e ∈ nums n L, ∃ s k t, e.1 = thingV s k t
  | _, [], e, h => by simp [nums] at h
  | n, u :: r, e, h => by
    simp only [nums] at h
    split at h
    · rcases List.mem_cons.1 h with rfl | h
      · exact ⟨_, _, _, rfl⟩
      · exact keys_nums _ _ e h
    · exact keys_nums _ _ e h
theorem keys_boxes : ∀ (n : Nat) (L : List Su.Thing), ∀ e ∈ boxes n L, ∃ a, e.1 = .int .i64 a
  | _, [], e, h => by simp [boxes] at h
  | n, u :: r, e, h => by
    simp only [boxes] at h
    split at h
    · rcases List.mem_cons.1 h with rfl | h
      · exact ⟨_, rfl⟩
      · exact keys_boxes _ _ e h
    · exact keys_boxes _ _ e h
section
variable {w : World} {b : Nat} {L : List Su.Thing}
theorem lookup_nums {s : Nat} {k t : List Nat} (h : MapIs w b (nums 0 L)) (hf : ∀ u ∈ L, Fine u) (hs : s = 72 ∨ s = 77) (hk : ∀ x ∈ k, x < 256) (ht : ∀ x ∈ t, x < 256) :
    (Instr.lookup 88 (.map (some b)) (thingV s k t) true).run Tryz.prog w = .ok (match Su.pos s k t 0 L with | some i => .tuple #[.int .i64 (i : Int), .bool true] | none => .tuple #[.int .i64 0, .bool false]) w := by
  obtain ⟨es, c, hb, he⟩ := h
  obtain ⟨r, h1, h2⟩ := find_thing w s k t es.toList (fun e hx => keys_nums 0 L (e.key, e.val) (by rw [← he]; exact List.mem_map.2 ⟨e, hx, rfl⟩))
  have h3 := run_look (P := Tryz.prog) under58 hb (run_check_thing w es.isEmpty s k t) h1 (zero3 w)
  rw [he, look_nums hs hk ht 0 L hf] at h2
  rw [h3, h2]
  cases Su.pos s k t 0 L <;> rfl
theorem lookup_boxes {N : Int} (h : MapIs w b (boxes 0 L)) :
    (Instr.lookup 89 (.map (some b)) (.int .i64 N) true).run Tryz.prog w = .ok (match Su.boxAt N 0 L with | some u => .tuple #[contentV u, .bool true] | none => .tuple #[.agg #[.string ⟨#[]⟩, .string ⟨#[]⟩, .string ⟨#[]⟩, .string ⟨#[]⟩], .bool false]) w := by
  obtain ⟨es, c, hb, he⟩ := h
  obtain ⟨r, h1, h2⟩ := find_int w N es.toList (fun e hx => keys_boxes 0 L (e.key, e.val) (by rw [← he]; exact List.mem_map.2 ⟨e, hx, rfl⟩))
  have h3 := run_look (P := Tryz.prog) under59 hb (run_check_int w es.isEmpty N) h1 (zero79 w)
  rw [he, look_boxes 0 L] at h2
  rw [h3, h2]
  cases Su.boxAt N 0 L <;> rfl
theorem setBlock_is {es : Array MapEntry} {c : Nat} {l : List (Value × Value)} {key val : Value} (hb : w.heap[b]? = some (.map es c)) (he : es.toList.map (fun e => (e.key, e.val)) = l) :
    MapIs (ChangeMaps.setBlock w b (.map (es.push ⟨key, val, c⟩) (c + 1))) b (l ++ [(key, val)]) ∧ w.grownBy (ChangeMaps.setBlock w b (.map (es.push ⟨key, val, c⟩) (c + 1))) (some b) :=
  ⟨⟨_, _, ChangeMaps.heap_setBlock_same hb _, by rw [← he]; simp⟩, ⟨rfl, rfl, rfl, by simp [ChangeMaps.setBlock], fun i _ hi => ChangeMaps.heap_setBlock_other hb _ (fun e => hi (by rw [e]))⟩⟩
theorem put_nums {s : Nat} {k t : List Nat} {val : Value} (h : MapIs w b (nums 0 L)) (hf : ∀ u ∈ L, Fine u) (hs : s = 72 ∨ s = 77) (hk : ∀ x ∈ k, x < 256) (ht : ∀ x ∈ t, x < 256) (hp : Su.pos s k t 0 L = none) :
    ∃ w', (Instr.mapUpdate 88 (.map (some b)) (thingV s k t) val).run Tryz.prog w = .ok () w' ∧ MapIs w' b (nums 0 L ++ [(thingV s k t, val)]) ∧ w.grownBy w' (some b) := by
  obtain ⟨es, c, hb, he⟩ := h
  obtain ⟨r, h1, h2⟩ := find_thing w s k t es.toList (fun e hx => keys_nums 0 L (e.key, e.val) (by rw [← he]; exact List.mem_map.2 ⟨e, hx, rfl⟩))
  rw [he, look_nums hs hk ht 0 L hf, hp] at h2
  obtain rfl : r = none := by cases r with
    | none => rfl
    | some q => cases h2
  exact ⟨_, run_put (P := Tryz.prog) under58 hb (run_check_thing w false s k t) h1, setBlock_is hb he⟩
theorem put_boxes {N : Int} {val : Value} (h : MapIs w b (boxes 0 L)) (hp : Su.boxAt N 0 L = none) :
    ∃ w', (Instr.mapUpdate 89 (.map (some b)) (.int .i64 N) val).run Tryz.prog w = .ok () w' ∧ MapIs w' b (boxes 0 L ++ [(.int .i64 N, val)]) ∧ w.grownBy w' (some b) := by
  obtain ⟨es, c, hb, he⟩ := h
  obtain ⟨r, h1, h2⟩ := find_int w N es.toList (fun e hx => keys_boxes 0 L (e.key, e.val) (by rw [← he]; exact List.mem_map.2 ⟨e, hx, rfl⟩))
  rw [he, look_boxes 0 L, hp] at h2
  obtain rfl : r = none := by cases r with
    | none => rfl
    | some q => cases h2
  exact ⟨_, run_put (P := Tryz.prog) under59 hb (run_check_int w false N) h1, setBlock_is hb he⟩
theorem boxAt_new (L : List Su.Thing) : Su.boxAt ((L.length : Int) + 1) 0 L = none := by
  cases h : Su.boxAt ((L.length : Int) + 1) 0 L with
  | none => rfl
  | some t => have := Su.boxAt_le 0 L t h; omega
end
end Go.Proofs.YtfjdaafckiefdaaGreatDoor.S7
/- The contract of signOf. -/
namespace Go.Proofs.YtfjdaafckiefdaaGreatDoor.S7
open Go.RowKit
set_option maxHeartbeats 1000000 in
theorem signOf_old (s : Nat) (k t : List Nat) (p q m x i : Nat) (L : List Su.Thing) (w : World) (h : SuIs w p q m x L) (hs : s = 72 ∨ s = 77) (hk : ∀ y ∈ k, y < 256) (ht : ∀ y ∈ t, y < 256) (hl : L.length < 1000000) (hi : Su.pos s k t 0 L = some i) :
    Calls Tryz.prog 127 #[.pointer (some ⟨p, 0, none⟩), thingV s k t] w fun e w' => ∃ v, e = .returned v ∧ w'.ownsRow w.heap.size 5 1 v 32 (ints .u8 (Su.sign s i)) ∧ Below w.heap.size w w' := by
  have hw : Below w.heap.size w (w.alloc (.cells #[.int .u8 (s : Int), .string (strB k), .string (strB t)] 173)) := (Below.refl _ _).alloc (Nat.le_refl _) _
  have h0 := h.below hw
  obtain ⟨_, _, c2, _⟩ := cells3 h0.box
  obtain ⟨d0, d1⟩ := cells2 h0.signs
  have hlk : ∀ n, (Instr.lookup 88 (.map (some m)) (thingV s k t) true).run Tryz.prog ((w.alloc (.cells #[.int .u8 (s : Int), .string (strB k), .string (strB t)] 173)).drewN n) = .ok (.tuple #[.int .i64 (i : Int), .bool true]) ((w.alloc (.cells #[.int .u8 (s : Int), .string (strB k), .string (strB t)] 173)).drewN n) := fun n => by
    have h1 := h0.below (below_drewN n _ _)
    have h2 := lookup_nums h1.nums h1.fine hs hk ht
    rw [hi] at h2
    exact h2
  have hi2 : i ≤ 1000000 := by have := Su.pos_le 0 L i hi; omega
  have HSG : Hid (∀ w1 : World, Calls Tryz.prog 57 #[.int .u8 (s : Int), .int .i64 (i : Int)] w1 fun e w' => ∃ v, e = .returned v ∧ w'.ownsRow w1.heap.size 5 1 v 32 (ints .u8 (Su.sign s i)) ∧ Below w1.heap.size w1 w') := fun w1 => sign_any s i w1 (by omega)
  have HW : Hid (Below w.heap.size w (w.alloc (.cells #[.int .u8 (s : Int), .string (strB k), .string (strB t)] 173))) := hw
  unfold thingV at hlk ⊢
  clear h h0 hw hi hs hk ht
  go_enter Tryz.func127, Tryz.ntmps127
  go_wp2_with fail
  go_quiet (fail)
  go_wp2_with fail
  refine (HSG.out _).mono ?_
  rintro e w1 ⟨v, rfl, ho, hb⟩
  have HO : Hid (w1.ownsRow w.heap.size 5 1 v 32 (ints .u8 (Su.sign s i))) := by
    obtain ⟨h1, h2 | ⟨g, cap, cur, e1, e2, e3⟩⟩ := ho
    · exact ⟨h1, .inl h2⟩
    · refine ⟨h1, .inr ⟨g, cap, cur, e1, ?_, e3⟩⟩
      simp at e2
      omega
  have HB : Hid (Below w.heap.size w w1) := by
    refine HW.out.trans ((below_drewN nq _ _).trans (hb.mono ?_))
    simp
  clear ho hb
  go_wp2_with fail
  go_ret
  exact ⟨_, rfl, HO.out, HB.out⟩
set_option maxHeartbeats 1000000 in
theorem signOf_new (s : Nat) (k t : List Nat) (p q m x : Nat) (L : List Su.Thing) (w : World) (h : SuIs w p q m x L) (hs : s = 72 ∨ s = 77) (hk : ∀ y ∈ k, y < 256) (ht : ∀ y ∈ t, y < 256) (hl : L.length < 1000000) (hi : Su.pos s k t 0 L = none) :
    Calls Tryz.prog 127 #[.pointer (some ⟨p, 0, none⟩), thingV s k t] w fun e w' => ∃ v, e = .returned v ∧ w'.ownsRow w.heap.size 5 1 v 32 (ints .u8 (Su.sign s (L.length + 1))) ∧ SuIs w' p q m x (L ++ [(s, k, [], [], t)]) ∧ Only [p, m] w w' := by
  have hw : Below w.heap.size w (w.alloc (.cells #[.int .u8 (s : Int), .string (strB k), .string (strB t)] 173)) := (Below.refl _ _).alloc (Nat.le_refl _) _
  have h0 := h.below hw
  have hlt := h.lt
  obtain ⟨_, _, c2, _⟩ := cells3 h0.box
  obtain ⟨d0, d1⟩ := cells2 h0.signs
  have hlk : ∀ n, (Instr.lookup 88 (.map (some m)) (thingV s k t) true).run Tryz.prog ((w.alloc (.cells #[.int .u8 (s : Int), .string (strB k), .string (strB t)] 173)).drewN n) = .ok (.tuple #[.int .i64 0, .bool false]) ((w.alloc (.cells #[.int .u8 (s : Int), .string (strB k), .string (strB t)] 173)).drewN n) := fun n => by
    have h1 := h0.below (below_drewN n _ _)
    have h2 := lookup_nums h1.nums h1.fine hs hk ht
    rw [hi] at h2
    exact h2
  have HSG : Hid (∀ w1 : World, Calls Tryz.prog 57 #[.int .u8 (s : Int), .int .i64 ((L.length : Int) + 1)] w1 fun e w' => ∃ v, e = .returned v ∧ w'.ownsRow w1.heap.size 5 1 v 32 (ints .u8 (Su.sign s (L.length + 1))) ∧ Below w1.heap.size w1 w') := fun w1 => by
    have := sign_any s (L.length + 1) w1 (by omega)
    exact this
  have HW : Hid (Below w.heap.size w (w.alloc (.cells #[.int .u8 (s : Int), .string (strB k), .string (strB t)] 173))) := hw
  have HH : Hid (SuIs w p q m x L) := h
  have HI : Hid (Su.pos s k t 0 L = none) := hi
  have HS : Hid (s = 72 ∨ s = 77) := hs
  have HK : Hid (∀ y ∈ k, y < 256) := hk
  have HT : Hid (∀ y ∈ t, y < 256) := ht
  have HLL : Hid (L.length < 1000000) := hl
  have HLT : Hid (p < w.heap.size ∧ q < w.heap.size ∧ m < w.heap.size ∧ x < w.heap.size) := hlt
  unfold thingV at hlk ⊢
  clear h h0 hw hi hs hk ht hlt hl
  go_enter Tryz.func127, Tryz.ntmps127
  go_wp2_with fail
  go_quiet (fail)
  go_wp2_with fail
  clear c2 d0 d1 hlk
  have hB1 : Below w.heap.size w ((w.alloc (.cells #[.int .u8 (s : Int), .string (strB k), .string (strB t)] 173)).drewN nq) := HW.out.trans (below_drewN nq _ _)
  have hT1 : ((w.alloc (.cells #[.int .u8 (s : Int), .string (strB k), .string (strB t)] 173)).drewN nq).heap[w.heap.size]? = some (.cells #[.int .u8 (s : Int), .string (strB k), .string (strB t)] 173 (0, 0)) := heap_alloc_new w _
  generalize (w.alloc (.cells #[.int .u8 (s : Int), .string (strB k), .string (strB t)] 173)).drewN nq = w1 at *
  have h1 := HH.out.below hB1
  refine (next_any p L.length _ _ w1 h1.box (by have := HLL.out; omega)).mono ?_
  rintro e w2 ⟨rfl, hw2⟩
  have h2 : Only [p, m] w w2 := by rw [hw2]; exact (Only.of_below hB1 _).trans (Only.setCell _ _ _ (by simp))
  have hp2 : w2.heap[p]? = some (.cells #[.slice none 0 0, .int .i64 ((L.length : Int) + 1), .pointer (some ⟨q, 0, none⟩)] 93 (0, 0)) := by
    rw [hw2]; exact heap_setCell_same w1 p 1 _ 93 _ h1.box
  have ho2 : ∀ b, b ≠ p → w2.heap[b]? = w1.heap[b]? := fun b hb => by rw [hw2]; exact Below.heap_setCell _ _ _ _ (fun e => hb e)
  have hq2 : w2.heap[q]? = some (.cells #[.map (some m), .map (some x)] 91 (0, 0)) := (ho2 q (Ne.symm HH.out.ne.1)).trans h1.signs
  have hm2 : MapIs w2 m (nums 0 L) := h1.nums.kept (ho2 m (Ne.symm HH.out.ne.2.1))
  have hx2 : MapIs w2 x (boxes 0 L) := h1.boxes.kept (ho2 x (Ne.symm HH.out.ne.2.2.1))
  have ht2 : w2.heap[w.heap.size]? = some (.cells #[.int .u8 (s : Int), .string (strB k), .string (strB t)] 173 (0, 0)) := (ho2 _ (by have := HLT.out; omega)).trans hT1
  clear hw2 h1 hB1 hT1 ho2
  obtain ⟨_, _, c2, _⟩ := cells3 hp2
  obtain ⟨d0, d1⟩ := cells2 hq2
  obtain ⟨t0, t1, t2, _⟩ := cells3 ht2
  obtain ⟨w3, hput, hm3, hg3⟩ := put_nums (w := w2.drew) (val := .int .i64 ((L.length : Int) + 1)) (show MapIs w2.drew m (nums 0 L) from hm2) HH.out.fine HS.out HK.out HT.out HI.out
  unfold thingV at hput
  have ho3 : ∀ b, b < w2.heap.size → b ≠ m → w3.heap[b]? = w2.heap[b]? := fun b hb hn => hg3.block b hb (fun e => hn (Option.some.inj e))
  have hlt2 : p < w2.heap.size ∧ q < w2.heap.size ∧ m < w2.heap.size ∧ x < w2.heap.size ∧ w.heap.size < w2.heap.size := ⟨(Array.getElem?_eq_some_iff.1 hp2).1, (Array.getElem?_eq_some_iff.1 hq2).1, hm2.lt, hx2.lt, (Array.getElem?_eq_some_iff.1 ht2).1⟩
  have HSU : Hid (SuIs w3 p q m x (L ++ [(s, k, [], [], t)])) := by
    have hne := HH.out.ne
    refine ⟨?_, (ho3 q hlt2.2.1 hne.2.2.2.1).trans hq2, ?_, ?_, hne, ?_⟩
    · rw [ho3 p hlt2.1 hne.2.1, hp2]
      simp
    · rw [nums_append]
      have e1 : nums (0 + L.length) [(s, k, [], [], t)] = [(thingV s k t, .int .i64 ((L.length : Int) + 1))] := by
        simp only [nums]
        rw [if_pos HS.out]
        simp
      rw [e1]
      exact hm3
    · rw [boxes_append]
      have e1 : boxes (0 + L.length) [(s, k, [], [], t)] = [] := by
        simp only [boxes]
        rw [if_neg]
        have := HS.out
        omega
      rw [e1, List.append_nil]
      exact hx2.kept (ho3 x hlt2.2.2.2.1 (Ne.symm hne.2.2.2.2.2))
    · intro u hu
      rcases List.mem_append.1 hu with h | h
      · exact HH.out.fine u h
      · rw [List.mem_singleton.1 h]
        exact ⟨HK.out, fun y hy => by simp at hy, fun y hy => by simp at hy, HT.out⟩
  have HON : Hid (Only [p, m] w w3) := h2.trans (Only.of_grown (w := w2) ⟨hg3.os, hg3.tape, hg3.output, hg3.size, hg3.block⟩ (fun y hy => by cases hy; simp))
  have HT3 : w3.heap[w.heap.size]? = some (.cells #[.int .u8 (s : Int), .string (strB k), .string (strB t)] 173 (0, 0)) := (ho3 _ hlt2.2.2.2.2 (by have := HLT.out; omega)).trans ht2
  obtain ⟨u0, _, _, _⟩ := cells3 HT3
  have HZ3 : Hid (w.heap.size ≤ w3.heap.size) := HON.out.size
  clear hm2 hx2 hm3 hg3 ho3 hp2 hq2 ht2 h2 hlt2 HT3
  go_wp2_with fail
  go_region
  go_wp2_with fail
  refine (HSG.out _).mono ?_
  rintro e w4 ⟨v, rfl, ho, hb⟩
  have HO : Hid (w4.ownsRow w.heap.size 5 1 v 32 (ints .u8 (Su.sign s (L.length + 1)))) := by
    obtain ⟨h1, h2 | ⟨g, cap, cur, e1, e2, e3⟩⟩ := ho
    · exact ⟨h1, .inl h2⟩
    · exact ⟨h1, .inr ⟨g, cap, cur, e1, Nat.le_trans HZ3.out e2, e3⟩⟩
  have HS4 : Hid (SuIs w4 p q m x (L ++ [(s, k, [], [], t)])) := HSU.out.below hb
  have HN4 : Hid (Only [p, m] w w4) := HON.out.trans (Only.of_below hb _)
  clear ho hb
  go_wp2_with fail
  go_ret
  exact ⟨_, rfl, HO.out, HS4.out, HN4.out⟩
/-- signOf: the sign of a thing's number, which is new just if the list hasn't it yet. -/
theorem signOf_any (s : Nat) (k t : List Nat) (p q m x : Nat) (L : List Su.Thing) (w : World) (h : SuIs w p q m x L) (hs : s = 72 ∨ s = 77) (hk : ∀ y ∈ k, y < 256) (ht : ∀ y ∈ t, y < 256) (hl : L.length < 1000000) :
    Calls Tryz.prog 127 #[.pointer (some ⟨p, 0, none⟩), thingV s k t] w fun e w' => ∃ v, e = .returned v ∧ w'.ownsRow w.heap.size 5 1 v 32 (ints .u8 (Su.sign s (Su.num L s k t))) ∧ SuIs w' p q m x (Su.add L s k t) ∧ Only [p, m] w w' := by
  cases hi : Su.pos s k t 0 L with
  | none =>
    have e1 : Su.num L s k t = L.length + 1 := by unfold Su.num; rw [hi]; rfl
    have e2 : Su.add L s k t = L ++ [(s, k, [], [], t)] := by unfold Su.add; rw [hi]
    rw [e1, e2]
    exact signOf_new s k t p q m x L w h hs hk ht hl hi
  | some i =>
    have e1 : Su.num L s k t = i := by unfold Su.num; rw [hi]; rfl
    have e2 : Su.add L s k t = L := by unfold Su.add; rw [hi]
    rw [e1, e2]
    refine (signOf_old s k t p q m x i L w h hs hk ht hl hi).mono ?_
    rintro e w' ⟨v, rfl, ho, hb⟩
    exact ⟨v, rfl, ho, h.below hb, Only.of_below hb _⟩
end Go.Proofs.YtfjdaafckiefdaaGreatDoor.S7
/- The contracts of Sum, Code and Key of a suite of signs. -/
namespace Go.Proofs.YtfjdaafckiefdaaGreatDoor.S7
open Go.RowKit
theorem own_older {w : World} {base base' : Nat} {v : Value} {e size n : Nat} {xs : List Value} (h : w.ownsRow base e size v n xs) (hb : base' ≤ base) : w.ownsRow base' e size v n xs := by
  obtain ⟨h1, h2 | ⟨g, cap, cur, e1, e2, e3⟩⟩ := h
  · exact ⟨h1, .inl h2⟩
  · exact ⟨h1, .inr ⟨g, cap, cur, e1, Nat.le_trans hb e2, e3⟩⟩
set_option maxHeartbeats 1000000 in
theorem Key_signs (p q m x : Nat) (L : List Su.Thing) (w : World) (h : SuIs w p q m x L) (hL : L.length < 1000000) :
    Calls Tryz.prog 18 #[.pointer (some ⟨p, 0, none⟩)] w fun e w' => ∃ v, e = .returned v ∧ w'.ownsRow w.heap.size 5 1 v 32 (ints .u8 (Su.sign 75 (L.length + 1))) ∧ SuIs w' p q m x (L ++ [(75, [], [], [], [])]) ∧ Only [p] w w' := by
  have HSG : Hid (∀ w1 : World, Calls Tryz.prog 57 #[.int .u8 75, .int .i64 ((L.length : Int) + 1)] w1 fun e w' => ∃ v, e = .returned v ∧ w'.ownsRow w1.heap.size 5 1 v 32 (ints .u8 (Su.sign 75 (L.length + 1))) ∧ Below w1.heap.size w1 w') := fun w1 => sign_any 75 (L.length + 1) w1 (by omega)
  have HH : Hid (SuIs w p q m x L) := h
  have HL : Hid (L.length < 1000000) := hL
  clear h hL
  go_enter Tryz.func18, Tryz.ntmps18
  go_wp2_with fail
  refine (next_any p L.length _ _ w HH.out.box (by have := HL.out; omega)).mono ?_
  rintro e w2 ⟨rfl, hw2⟩
  have h2 : Only [p] w w2 := by rw [hw2]; exact Only.setCell _ _ _ (by simp)
  have hp2 : w2.heap[p]? = some (.cells #[.slice none 0 0, .int .i64 ((L.length : Int) + 1), .pointer (some ⟨q, 0, none⟩)] 93 (0, 0)) := by
    rw [hw2]; exact heap_setCell_same w p 1 _ 93 _ HH.out.box
  have ho2 : ∀ b, b ≠ p → w2.heap[b]? = w.heap[b]? := fun b hb => by rw [hw2]; exact Below.heap_setCell _ _ _ _ (fun e => hb e)
  have hz2 : w.heap.size ≤ w2.heap.size := h2.size
  have HSU : Hid (SuIs w2 p q m x (L ++ [(75, [], [], [], [])])) := by
    have hne := HH.out.ne
    refine ⟨?_, (ho2 q (Ne.symm hne.1)).trans HH.out.signs, ?_, ?_, hne, ?_⟩
    · rw [hp2]; simp
    · rw [nums_append]
      have e1 : nums (0 + L.length) [(75, [], [], [], [])] = [] := by simp [nums]
      rw [e1, List.append_nil]
      exact HH.out.nums.kept (ho2 m (Ne.symm hne.2.1))
    · rw [boxes_append]
      have e1 : boxes (0 + L.length) [(75, [], [], [], [])] = [] := by simp [boxes]
      rw [e1, List.append_nil]
      exact HH.out.boxes.kept (ho2 x (Ne.symm hne.2.2.1))
    · intro u hu
      rcases List.mem_append.1 hu with h | h
      · exact HH.out.fine u h
      · rw [List.mem_singleton.1 h]
        exact ⟨fun y hy => by simp at hy, fun y hy => by simp at hy, fun y hy => by simp at hy, fun y hy => by simp at hy⟩
  obtain ⟨_, _, c2, _⟩ := cells3 hp2
  have HON : Hid (Only [p] w w2) := h2
  have HZ : Hid (w.heap.size ≤ w2.heap.size) := hz2
  clear hw2 hp2 ho2 h2 hz2
  go_wp2_with fail
  refine (HSG.out w2).mono ?_
  rintro e w4 ⟨v, rfl, ho, hb⟩
  have HO : Hid (w4.ownsRow w.heap.size 5 1 v 32 (ints .u8 (Su.sign 75 (L.length + 1)))) := own_older ho HZ.out
  have HS4 : Hid (SuIs w4 p q m x (L ++ [(75, [], [], [], [])])) := HSU.out.below hb
  have HN4 : Hid (Only [p] w w4) := HON.out.trans (Only.of_below hb _)
  clear ho hb c2
  go_wp2_with fail
  go_ret
  exact ⟨_, rfl, HO.out, HS4.out, HN4.out⟩
end Go.Proofs.YtfjdaafckiefdaaGreatDoor.S7
/- The document's list in memory, and what stays of it, told by the blocks' own types. -/
namespace Go.Proofs.YtfjdaafckiefdaaGreatDoor.S7
open Go.RowKit
def tyOf : Obj → Option TypeId
  | .cells _ t _ => some t
  | _ => none
/-- Nothing below a bound is turned, and no block but those of these types. -/
structure Kx (ts : List (Option TypeId)) (B : Nat) (u u' : World) : Prop where
  low : Below B u u'
  row : ∀ (k : Nat) (o : Obj), u.heap[k]? = some o → tyOf o ∉ ts → u'.heap[k]? = some o
section
variable {B : Nat} {u u' u'' w w' : World} {bs : List Nat} {ts ts' : List (Option TypeId)}
theorem Kx.refl (ts : List (Option TypeId)) (B : Nat) (u : World) : Kx ts B u u := ⟨Below.refl _ _, fun _ _ h _ => h⟩
theorem Kx.trans (h : Kx ts B u u') (k : Kx ts B u' u'') : Kx ts B u u'' := ⟨h.low.trans k.low, fun i o hi ht => k.row i o (h.row i o hi ht) ht⟩
theorem Kx.mono (h : Kx ts B u u') (hs : ∀ t ∈ ts, t ∈ ts') : Kx ts' B u u' := ⟨h.low, fun i o hi ht => h.row i o hi (fun e => ht (hs _ e))⟩
theorem Kx.of_below (h : Below u.heap.size u u') (hB : B ≤ u.heap.size) : Kx ts B u u' :=
  ⟨h.mono hB, fun k _ hk _ => (h.block k (Array.getElem?_eq_some_iff.1 hk).1).trans hk⟩
theorem Kx.of_only (h : Only bs u u') (hB : B ≤ u.heap.size) (hs : ∀ y ∈ bs, B ≤ y ∧ ∀ o, u.heap[y]? = some o → tyOf o ∈ ts) : Kx ts B u u' :=
  ⟨h.below hB (fun y hy => (hs y hy).1), fun k o hk ht => (h.block k (Array.getElem?_eq_some_iff.1 hk).1 (fun e => ht ((hs k e).2 o hk))).trans hk⟩
/-- As Src, of a block below the bound or of a row of bytes. -/
def By (B : Nat) (w : World) (v : Value) (l : List Nat) : Prop :=
  (∀ x ∈ l, x < 256) ∧ ((v = .slice none 0 0 ∧ l = []) ∨ (∃ ad c, v = .slice (some ad) 0 c ∧ l = []) ∨ ∃ b o c, v = .slice (some ⟨b, o, none⟩) l.length c ∧ l.length ≤ c ∧ w.rangeAt b o (ints .u8 l) ∧ (b < B ∨ ∃ cs fr, w.heap[b]? = some (.cells cs 5 fr)))
variable {v : Value} {l : List Nat}
theorem By.src (h : By B w v l) : Src w v l := by
  obtain ⟨hs, h1 | h1 | ⟨b, o, c, rfl, hc, hr, _⟩⟩ := h
  · exact ⟨hs, .inl h1⟩
  · exact ⟨hs, .inr (.inl h1)⟩
  · exact ⟨hs, .inr (.inr ⟨b, o, c, rfl, hc, hr⟩)⟩
theorem By.kx (h : By B w v l) (hk : Kx ts B w w') (h5 : some 5 ∉ ts) : By B w' v l := by
  obtain ⟨hs, h1 | h1 | ⟨b, o, c, rfl, hc, hr, hb⟩⟩ := h
  · exact ⟨hs, .inl h1⟩
  · exact ⟨hs, .inr (.inl h1)⟩
  · rcases hb with hb | ⟨cs, fr, hb⟩
    · exact ⟨hs, .inr (.inr ⟨b, o, c, rfl, hc, range_kept hr (hk.low.block b hb), .inl hb⟩)⟩
    · have h2 := hk.row b _ hb h5
      exact ⟨hs, .inr (.inr ⟨b, o, c, rfl, hc, range_kept hr (h2.trans hb.symm), .inr ⟨cs, fr, h2⟩⟩)⟩
theorem By.below (h : By B w v l) (hk : Below w.heap.size w w') : By B w' v l := by
  obtain ⟨hs, h1 | h1 | ⟨b, o, c, rfl, hc, hr, hb⟩⟩ := h
  · exact ⟨hs, .inl h1⟩
  · exact ⟨hs, .inr (.inl h1)⟩
  · refine ⟨hs, .inr (.inr ⟨b, o, c, rfl, hc, rangeAt_below hk hr, ?_⟩)⟩
    rcases hb with hb | ⟨cs, fr, hb⟩
    · exact .inl hb
    · exact .inr ⟨cs, fr, (hk.block b (Array.getElem?_eq_some_iff.1 hb).1).trans hb⟩
theorem By.old (h : Src w v l) (hB : w.heap.size ≤ B) : By B w v l := by
  obtain ⟨hs, h1 | h1 | ⟨b, o, c, rfl, hc, hr⟩⟩ := h
  · exact ⟨hs, .inl h1⟩
  · exact ⟨hs, .inr (.inl h1)⟩
  · by_cases h0 : l = []
    · subst h0
      exact ⟨hs, .inr (.inl ⟨_, _, rfl, rfl⟩)⟩
    · refine ⟨hs, .inr (.inr ⟨b, o, c, rfl, hc, hr, .inl (Nat.lt_of_lt_of_le (range_lt hr ?_) hB)⟩)⟩
      intro e
      apply h0
      have := congrArg List.length e
      rw [ints_length] at this
      exact List.eq_nil_of_length_eq_zero this
theorem By.own {base n : Nat} (hs : ∀ x ∈ l, x < 256) (h : w.ownsRow base 5 1 v n (ints .u8 l)) : By B w v l := by
  obtain ⟨hs', h1 | h1 | ⟨b, o, c, rfl, hc, hr⟩⟩ := Src.own hs h
  · exact ⟨hs, .inl h1⟩
  · exact ⟨hs, .inr (.inl h1)⟩
  · refine ⟨hs, .inr (.inr ⟨b, o, c, rfl, hc, hr, .inr ?_⟩)⟩
    obtain ⟨_, ⟨e, _⟩ | ⟨g, cap, cur, e, _, hh, _⟩⟩ := h
    · cases e
    · cases e
      exact ⟨_, _, hh⟩
theorem By.nil (B : Nat) (w : World) : By B w (.slice none 0 0) [] := ⟨fun x hx => by simp at hx, .inl ⟨rfl, rfl⟩⟩
end
abbrev Cl := Nat × Value × Value × Value × Value
def cl5 (c : Cl) : List Value := [.int .i64 (c.1 : Int), c.2.1, c.2.2.1, c.2.2.2.1, c.2.2.2.2]
def flat (cs : List Cl) : List Value := cs.flatMap cl5
theorem flat_get : ∀ (cs : List Cl) (i j : Nat) (c : Cl), cs[i]? = some c → j < 5 → (flat cs)[i * 5 + j]? = (cl5 c)[j]?
  | [], i, j, c, h, _ => by simp at h
  | c' :: r, 0, j, c, h, hj => by
    simp at h
    subst h
    show (cl5 c' ++ flat r)[0 * 5 + j]? = _
    rw [Nat.zero_mul, Nat.zero_add, List.getElem?_append_left (by simpa [cl5] using hj)]
  | c' :: r, i + 1, j, c, h, hj => by
    show (cl5 c' ++ flat r)[(i + 1) * 5 + j]? = _
    have e : (cl5 c').length = 5 := rfl
    rw [List.getElem?_append_right (by omega), e, show (i + 1) * 5 + j - 5 = i * 5 + j from by omega]
    exact flat_get r i j c (by simpa using h) hj
structure ThIs (B : Nat) (w : World) (c : Cl) (u : Su.Thing) : Prop where
  sort : c.1 = u.1
  key : By B w c.2.1 u.2.1
  nonce : By B w c.2.2.1 u.2.2.1
  other : By B w c.2.2.2.1 u.2.2.2.1
  text : By B w c.2.2.2.2 u.2.2.2.2
structure DocIs (B : Nat) (w : World) (d : Nat) (v : Value) (cs : List Cl) (L : List Su.Thing) : Prop where
  low : B ≤ d
  box : w.heap[d]? = some (.cells #[v] 44 (0, 0))
  row : w.ownsRow B 98 5 v L.length (flat cs)
  len : cs.length = L.length
  all : ∀ (i : Nat) (c : Cl) (u : Su.Thing), cs[i]? = some c → L[i]? = some u → ThIs B w c u
def Doc (B : Nat) (w : World) (d : Nat) (L : List Su.Thing) : Prop := ∃ v cs, DocIs B w d v cs L
section
variable {B d : Nat} {u u' u'' w w' : World} {ts : List (Option TypeId)} {v : Value} {cs : List Cl} {L : List Su.Thing}
theorem ThIs.kx {c : Cl} {t : Su.Thing} (h : ThIs B w c t) (hk : Kx ts B w w') (h5 : some 5 ∉ ts) : ThIs B w' c t := ⟨h.sort, h.key.kx hk h5, h.nonce.kx hk h5, h.other.kx hk h5, h.text.kx hk h5⟩
theorem ThIs.below {c : Cl} {t : Su.Thing} (h : ThIs B w c t) (hk : Below w.heap.size w w') : ThIs B w' c t := ⟨h.sort, h.key.below hk, h.nonce.below hk, h.other.below hk, h.text.below hk⟩
theorem DocIs.below (h : DocIs B w d v cs L) (hk : Below w.heap.size w w') : DocIs B w' d v cs L :=
  ⟨h.low, (hk.block d (Array.getElem?_eq_some_iff.1 h.box).1).trans h.box, own_only h.row (Only.of_below hk []) (fun _ _ e => by simp at e), h.len, fun i c t h1 h2 => (h.all i c t h1 h2).below hk⟩
theorem DocIs.kx (h : DocIs B w d v cs L) (hk : Kx ts B w w') (h5 : some 5 ∉ ts) (h30 : some 44 ∉ ts) (h71 : some 98 ∉ ts) : DocIs B w' d v cs L := by
  refine ⟨h.low, hk.row d _ h.box h30, ?_, h.len, fun i c t h1 h2 => (h.all i c t h1 h2).kx hk h5⟩
  obtain ⟨hl, h1 | ⟨g, cap, cur, rfl, hg, hh, hr⟩⟩ := h.row
  · exact ⟨hl, .inl h1⟩
  · exact ⟨hl, .inr ⟨g, cap, cur, rfl, hg, hk.row g _ hh h71, hr⟩⟩
theorem Doc.kx (h : Doc B w d L) (hk : Kx ts B w w') (h5 : some 5 ∉ ts) (h30 : some 44 ∉ ts) (h71 : some 98 ∉ ts) : Doc B w' d L := by
  obtain ⟨v, cs, h⟩ := h
  exact ⟨v, cs, h.kx hk h5 h30 h71⟩
theorem Doc.below (h : Doc B w d L) (hk : Below w.heap.size w w') : Doc B w' d L := by
  obtain ⟨v, cs, h⟩ := h
  exact ⟨v, cs, h.below hk⟩
/-- The list's i-th thing. -/
theorem DocIs.at (h : DocIs B w d v cs L) {i : Nat} (hi : i < L.length) : ∃ g cap c, v = .slice (some ⟨g, 0, none⟩) L.length cap ∧ L.length ≤ cap ∧ ThIs B w c L[i] ∧ w.cell? ⟨g, i * 5, none⟩ = some (.int .i64 (L[i].1 : Int)) ∧ w.cell? ⟨g, i * 5 + 1, none⟩ = some c.2.1 ∧ w.cell? ⟨g, i * 5 + 2, none⟩ = some c.2.2.1 ∧ w.cell? ⟨g, i * 5 + 3, none⟩ = some c.2.2.2.1 ∧ w.cell? ⟨g, i * 5 + 4, none⟩ = some c.2.2.2.2 := by
  have hc : cs[i]? = some (cs[i]'(by rw [h.len]; exact hi)) := List.getElem?_eq_getElem _
  have hu : L[i]? = some L[i] := List.getElem?_eq_getElem _
  have ht := h.all i _ _ hc hu
  generalize cs[i]'(by rw [h.len]; exact hi) = c at *
  obtain ⟨hl, ⟨rfl, h0⟩ | ⟨g, cap, cur, rfl, hg, hh, hn, hm, hcur, htk⟩⟩ := h.row
  · omega
  · have get : ∀ j, j < 5 → w.cell? ⟨g, i * 5 + j, none⟩ = (cl5 c)[j]? := fun j hj => by
      rw [cell_of_row _ _ _ _ _ _ hh, ← flat_get cs i j c hc hj, ← htk, List.getElem?_take_of_lt (by omega)]
      simp
    have g0 := get 0 (by omega)
    have g1 := get 1 (by omega)
    have g2 := get 2 (by omega)
    have g3 := get 3 (by omega)
    have g4 := get 4 (by omega)
    refine ⟨g, cap, c, rfl, hn, ht, ?_, g1, g2, g3, g4⟩
    rw [← ht.sort]
    exact g0
end
end Go.Proofs.YtfjdaafckiefdaaGreatDoor.S7
