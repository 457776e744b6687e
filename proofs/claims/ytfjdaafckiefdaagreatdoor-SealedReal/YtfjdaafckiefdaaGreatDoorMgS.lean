/- Maps that the code itself makes: by the list of their entries; whoever asks is told the first that bears the key; a new one stands last. -/
import Derived.Maps.OwnOps
import Derived.Laws.StructEq
import Derived.WalkKit
import Derived.Test.YtfjdaafckiefdaaGreatDoorInv
import Derived.Test.YtfjdaafckiefdaaGreatDoorProg
import Derived.Laws.AppendOwn
import Derived.Laws.AppendOwnNone
import Derived.Laws.IdiomStrings
import Derived.Laws.MakeOwn
import Derived.WalkMore
import Derived.BigRegion
import Derived.Deep.RegionHeld3
namespace Go.Proofs.YtfjdaafckiefdaaGreatDoor.S7
open Go.RowKit
/-- A block is a map with these entries, in their order. -/
def MapIs (w : World) (b : Nat) (l : List (Value × Value)) : Prop := ∃ es c, w.heap[b]? = some (.map es c) ∧ es.toList.map (fun e => (e.key, e.val)) = l
section
variable {P : Program} {w w' : World} {b : Nat} {l : List (Value × Value)}
theorem MapIs.lt (h : MapIs w b l) : b < w.heap.size := by
  obtain ⟨es, c, hb, _⟩ := h
  exact (Array.getElem?_eq_some_iff.1 hb).1
theorem MapIs.kept (h : MapIs w b l) (hk : w'.heap[b]? = w.heap[b]?) : MapIs w' b l := by
  obtain ⟨es, c, hb, e⟩ := h
  exact ⟨es, c, hk.trans hb, e⟩
theorem MapIs.made (w : World) : MapIs (w.alloc (.map #[] 0)) w.heap.size [] := ⟨#[], 0, (MapKept.heap_alloc w _).1, rfl⟩
/-- The value of the first entry that bears a key. -/
def look (same : Value → Bool) : List (Value × Value) → Option Value
  | [] => none
  | e :: r => if same e.1 then some e.2 else look same r
/-- What the search tells, where each comparison is quiet. -/
theorem run_findAsking {k : TypeId} {key : Value} {same : Value → Bool} (es : List MapEntry) (i : Nat)
    (h : ∀ e ∈ es, (Op.equal k key e.key).run P w = .ok (same e.key) w) :
    ∃ r, (Instr.findAsking k key es i).run P w = .ok r w ∧ r.map (·.2) = look same (es.map (fun e => (e.key, e.val))) := by
  induction es generalizing i with
  | nil => exact ⟨none, by simp [Instr.findAsking], rfl⟩
  | cons e r ih =>
    have h0 := h e (by simp)
    obtain ⟨q, h1, h2⟩ := ih (i + 1) (fun x hx => h x (by simp [hx]))
    cases hs : same e.key with
    | true => exact ⟨some (i, e.val), by simp [Instr.findAsking, h0, hs], by simp [look, hs]⟩
    | false => exact ⟨q, by simp [Instr.findAsking, h0, hs, h1], by simp [look, hs, h2]⟩
/-- A map's look-up with its answer whether there is one. -/
theorem run_look {t k e : TypeId} {key z : Value} {r : Option (Nat × Value)} {es : Array MapEntry} {c : Nat} (ht : P.underlying t = some (.map k e)) (hb : w.heap[b]? = some (.map es c))
    (hc : (Instr.checkKey es.isEmpty 10000 k key).run P w = .ok () w) (hf : (Instr.findKey k key es.toList).run P w = .ok r w) (hz : (zeroValue e).run P w = .ok z w) :
    (Instr.lookup t (.map (some b)) key true).run P w = .ok (match r.map (·.2) with | some v => .tuple #[v, .bool true] | none => .tuple #[z, .bool false]) w := by
  cases r with
  | none => simp [Instr.lookup, run_underlying ht, MapKept.run_getObj_map hb, hc, hf, hz, Result.andThen]
  | some p => simp [Instr.lookup, run_underlying ht, MapKept.run_getObj_map hb, hc, hf, Result.andThen]
/-- A key that isn't there is put behind all. -/
theorem run_put {t k e : TypeId} {key val : Value} {es : Array MapEntry} {c : Nat} (ht : P.underlying t = some (.map k e)) (hb : w.heap[b]? = some (.map es c))
    (hc : (Instr.checkKey false 10000 k key).run P w = .ok () w) (hf : (Instr.findKey k key es.toList).run P w = .ok none w) :
    (Instr.mapUpdate t (.map (some b)) key val).run P w = .ok () (ChangeMaps.setBlock w b (.map (es.push ⟨key, val, c⟩) (c + 1))) := by
  simp [Instr.mapUpdate, run_underlying ht, MapKept.run_getObj_map hb, hc, hf, MapKept.run_setObj_map _ hb, Result.andThen, ChangeMaps.setBlock]
end
end Go.Proofs.YtfjdaafckiefdaaGreatDoor.S7
/- The plain mathematics of suites of signs: a list of things, their numbers, signs and boxes, and what opens a box. -/
namespace Go.Proofs.YtfjdaafckiefdaaGreatDoor.S7
/-- Bytes as a string. -/
def strB (l : List Nat) : ByteArray := (l.map (fun (n : Nat) => (n : Int))).foldl (fun r n => r.push (UInt8.ofNat n.toNat)) ByteArray.empty
theorem strB_go (l : List Nat) (acc : ByteArray) : ((l.map (fun (n : Nat) => (n : Int))).foldl (fun r n => r.push (UInt8.ofNat n.toNat)) acc).data.toList = acc.data.toList ++ l.map UInt8.ofNat := by
  induction l generalizing acc with
  | nil => simp
  | cons x r ih =>
    simp only [List.map_cons, List.foldl_cons]
    rw [ih]
    simp
theorem strB_list (l : List Nat) : (strB l).data.toList = l.map UInt8.ofNat := by
  unfold strB
  rw [strB_go]
  rfl
theorem strB_size (l : List Nat) : (strB l).size = l.length := by
  rw [← ByteArray.size_data, ← Array.length_toList, strB_list, List.length_map]
theorem ofNat_inj {x y : Nat} (hx : x < 256) (hy : y < 256) (h : UInt8.ofNat x = UInt8.ofNat y) : x = y := by
  have := congrArg UInt8.toNat h
  simpa [Nat.mod_eq_of_lt hx, Nat.mod_eq_of_lt hy] using this
theorem strB_inj {l m : List Nat} (hl : ∀ x ∈ l, x < 256) (hm : ∀ x ∈ m, x < 256) (h : strB l = strB m) : l = m := by
  have h1 : l.map UInt8.ofNat = m.map UInt8.ofNat := by rw [← strB_list, ← strB_list, h]
  clear h
  induction l generalizing m with
  | nil => cases m with
    | nil => rfl
    | cons y s => simp at h1
  | cons x r ih => cases m with
    | nil => simp at h1
    | cons y s =>
      simp only [List.map_cons, List.cons.injEq] at h1
      rw [ofNat_inj (hl x (by simp)) (hm y (by simp)) h1.1, ih (fun z hz => hl z (by simp [hz])) (fun z hz => hm z (by simp [hz])) h1.2]
theorem strB_beqL {l m : List Nat} (hl : ∀ x ∈ l, x < 256) (hm : ∀ x ∈ m, x < 256) : ((strB l).toList == (strB m).toList) = decide (l = m) := by
  by_cases h : l = m
  · simp [h]
  · rw [decide_eq_false h, beq_eq_false_iff_ne]
    intro e
    rw [ByteArray.toList_eq, ByteArray.toList_eq] at e
    apply h
    apply strB_inj hl hm
    have : (strB l).data = (strB m).data := Array.toList_inj.1 e
    cases hx : strB l
    cases hy : strB m
    rw [hx, hy] at this
    simp only at this
    rw [this]
theorem strB_beq {l m : List Nat} (hl : ∀ x ∈ l, x < 256) (hm : ∀ x ∈ m, x < 256) : (strB l == strB m) = decide (l = m) := by
  rw [beq_toListBytes, strB_beqL hl hm]
namespace Su
/-- One of the list: its sort, key, nonce, other bytes and text. -/
abbrev Thing := Nat × List Nat × List Nat × List Nat × List Nat
/-- A number in so many bytes, the highest first. -/
def be : Nat → Nat → List Nat
  | 0, _ => []
  | k + 1, n => be k (n / 256) ++ [n % 256]
def val (l : List Nat) : Nat := l.foldl (fun a x => a * 256 + x) 0
def sign (s n : Nat) : List Nat := 0x53 :: s :: (List.replicate 22 0 ++ be 8 n)
def box (n k : Nat) : List Nat := 0x42 :: (List.replicate (k + 7) 0 ++ be 8 n)
theorem be_length : ∀ k n, (be k n).length = k
  | 0, _ => rfl
  | k + 1, n => by simp [be, be_length k]
theorem be_lt : ∀ k n, ∀ x ∈ be k n, x < 256
  | 0, _, x, h => by simp [be] at h
  | k + 1, n, x, h => by
    simp only [be, List.mem_append, List.mem_singleton] at h
    rcases h with h | rfl
    · exact be_lt k _ x h
    · exact Nat.mod_lt _ (by decide)
theorem val_snoc (l : List Nat) (x : Nat) : val (l ++ [x]) = val l * 256 + x := by simp [val, List.foldl_append]
theorem val_be : ∀ k n, val (be k n) = n % 256 ^ k
  | 0, n => by simp [be, val, Nat.mod_one]
  | k + 1, n => by
    rw [be, val_snoc, val_be k, Nat.pow_succ, Nat.mul_comm (256 ^ k) 256, Nat.mod_mul]
    omega
theorem val_lt (l : List Nat) (h : ∀ x ∈ l, x < 256) : val l < 256 ^ l.length := by
  have key : ∀ (l : List Nat) (a : Nat), (∀ x ∈ l, x < 256) → l.foldl (fun a x => a * 256 + x) a < (a + 1) * 256 ^ l.length := by
    intro l
    induction l with
    | nil => intro a _; simp
    | cons x r ih =>
      intro a hx
      have h1 := ih (a * 256 + x) (fun y hy => hx y (by simp [hy]))
      have h2 := hx x (by simp)
      simp only [List.foldl_cons, List.length_cons]
      refine Nat.lt_of_lt_of_le h1 ?_
      rw [Nat.pow_succ, Nat.mul_comm (256 ^ r.length) 256, ← Nat.mul_assoc]
      exact Nat.mul_le_mul_right _ (by omega)
  simpa [val] using key l 0 h
theorem be_inj {k m n : Nat} (hm : m < 256 ^ k) (hn : n < 256 ^ k) (h : be k m = be k n) : m = n := by
  have := congrArg val h
  rwa [val_be, val_be, Nat.mod_eq_of_lt hm, Nat.mod_eq_of_lt hn] at this
theorem sign_length (s n : Nat) : (sign s n).length = 32 := by simp [sign, be_length]
theorem sign_lt {s : Nat} (hs : s < 256) (n : Nat) : ∀ x ∈ sign s n, x < 256 := fun x hx => by
  simp only [sign, List.mem_cons, List.mem_append] at hx
  rcases hx with rfl | rfl | h | h
  · decide
  · exact hs
  · rw [List.eq_of_mem_replicate h]; decide
  · exact be_lt _ _ x h
theorem box_length (n k : Nat) : (box n k).length = k + 16 := by simp [box, be_length]
theorem box_lt (n k : Nat) : ∀ x ∈ box n k, x < 256 := fun x hx => by
  simp only [box, List.mem_cons, List.mem_append] at hx
  rcases hx with rfl | h | h
  · decide
  · rw [List.eq_of_mem_replicate h]; decide
  · exact be_lt _ _ x h
/-- The number in the last eight bytes. -/
def last (b : List Nat) : Nat := val (b.drop (b.length - 8))
theorem last_lt {b : List Nat} (h : ∀ x ∈ b, x < 256) : last b < 2 ^ 64 := by
  have h1 := val_lt (b.drop (b.length - 8)) (fun x hx => h x (List.mem_of_mem_drop hx))
  have h2 : (b.drop (b.length - 8)).length ≤ 8 := by rw [List.length_drop]; omega
  exact Nat.lt_of_lt_of_le h1 (Nat.le_trans (Nat.pow_le_pow_right (by decide) h2) (by decide))
theorem last_box {n : Nat} (hn : n < 256 ^ 8) (k : Nat) : last (box n k) = n := by
  have h : (box n k).drop ((box n k).length - 8) = be 8 n := by
    rw [box_length, show k + 16 - 8 = (0x42 :: List.replicate (k + 7) 0).length from by simp]
    rw [box, ← List.cons_append, List.drop_left]
  rw [last, h, val_be, Nat.mod_eq_of_lt hn]
/-- The number of what is summed, or coded: the first of the list that it is. -/
def pos (s : Nat) (key text : List Nat) : Nat → List Thing → Option Nat
  | _, [] => none
  | n, t :: r => if t.1 = s ∧ t.2.1 = key ∧ t.2.2.2.2 = text then some (n + 1) else pos s key text (n + 1) r
def num (L : List Thing) (s : Nat) (key text : List Nat) : Nat := (pos s key text 0 L).getD (L.length + 1)
def add (L : List Thing) (s : Nat) (key text : List Nat) : List Thing := match pos s key text 0 L with
  | some _ => L
  | none => L ++ [(s, key, [], [], text)]
theorem pos_le {s : Nat} {key text : List Nat} : ∀ (n : Nat) (L : List Thing) (i : Nat), pos s key text n L = some i → n < i ∧ i ≤ n + L.length
  | _, [], _, h => by simp [pos] at h
  | n, t :: r, i, h => by
    simp only [pos] at h
    split at h
    · cases h; simp
    · have := pos_le (n + 1) r i h
      simp only [List.length_cons]
      omega
theorem add_length (L : List Thing) (s : Nat) (key text : List Nat) : L.length ≤ (add L s key text).length ∧ (add L s key text).length ≤ L.length + 1 := by
  unfold add
  split <;> simp
/-- What opens a box: the first of the list that it is the box of, with just these. -/
def opens (key nonce other b : List Nat) : Nat → List Thing → Option (List Nat)
  | _, [] => none
  | n, t :: r => if t.1 = 0x42 ∧ box (n + 1) t.2.2.2.2.length = b ∧ t.2.1 = key ∧ t.2.2.1 = nonce ∧ t.2.2.2.1 = other then some t.2.2.2.2 else opens key nonce other b (n + 1) r
/-- The box with a number. -/
def boxAt (N : Int) : Nat → List Thing → Option Thing
  | _, [] => none
  | n, t :: r => if t.1 = 0x42 ∧ N = ((n + 1 : Nat) : Int) then some t else boxAt N (n + 1) r
/-- The number, as it is read. -/
def signed (n : Nat) : Int := if n < 2 ^ 63 then (n : Int) else (n : Int) - 2 ^ 64
theorem boxAt_le {N : Int} : ∀ (n : Nat) (L : List Thing) (t : Thing), boxAt N n L = some t → t ∈ L ∧ (n : Int) < N ∧ N ≤ n + L.length
  | _, [], _, h => by simp [boxAt] at h
  | n, u :: r, t, h => by
    simp only [boxAt] at h
    split at h
    · rename_i hc
      cases h
      refine ⟨by simp, ?_⟩
      simp only [List.length_cons]
      omega
    · have := boxAt_le (n + 1) r t h
      refine ⟨by simp [this.1], ?_⟩
      simp only [List.length_cons]
      omega
/-- The way of the code: by the number. -/
theorem opens_by {key nonce other b : List Nat} (hb : last b < 2 ^ 64) : ∀ (n : Nat) (L : List Thing), n + L.length < 2 ^ 63 →
    opens key nonce other b n L = match boxAt (signed (last b)) n L with
      | some t => if box (last b) t.2.2.2.2.length = b ∧ t.2.1 = key ∧ t.2.2.1 = nonce ∧ t.2.2.2.1 = other then some t.2.2.2.2 else none
      | none => none
  | _, [], _ => rfl
  | n, t :: r, hl => by
    simp only [List.length_cons] at hl
    have ih := opens_by (key := key) (nonce := nonce) (other := other) (b := b) hb (n + 1) r (by omega)
    have hs : signed (last b) = ((n + 1 : Nat) : Int) ↔ last b = n + 1 := by
      unfold signed
      split <;> omega
    by_cases hN : last b = n + 1
    · by_cases hx : t.1 = 0x42
      · have e1 : boxAt (signed (last b)) n (t :: r) = some t := by simp only [boxAt]; rw [if_pos ⟨hx, hs.2 hN⟩]
        rw [e1]
        simp only [opens]
        rw [hN]
        by_cases hc : box (n + 1) t.2.2.2.2.length = b ∧ t.2.1 = key ∧ t.2.2.1 = nonce ∧ t.2.2.2.1 = other
        · rw [if_pos ⟨hx, hc⟩, if_pos hc]
        · rw [if_neg (fun h => hc h.2), if_neg hc, ih]
          have e2 : boxAt (signed (last b)) (n + 1) r = none := by
            cases h : boxAt (signed (last b)) (n + 1) r with
            | none => rfl
            | some u => have := boxAt_le _ _ _ h; have := hs.2 hN; omega
          rw [e2]
      · have e1 : boxAt (signed (last b)) n (t :: r) = boxAt (signed (last b)) (n + 1) r := by simp only [boxAt]; rw [if_neg (fun h => hx h.1)]
        rw [e1, ← ih]
        simp only [opens]
        rw [if_neg (fun h => hx h.1)]
    · have e1 : boxAt (signed (last b)) n (t :: r) = boxAt (signed (last b)) (n + 1) r := by simp only [boxAt]; rw [if_neg (fun h => hN (hs.1 h.2))]
      rw [e1, ← ih]
      simp only [opens]
      rw [if_neg]
      rintro ⟨_, h, _⟩
      apply hN
      rw [← h, last_box (by omega)]
theorem opens_short {key nonce other b : List Nat} (h : b.length < 16) : ∀ (n : Nat) (L : List Thing), opens key nonce other b n L = none
  | _, [] => rfl
  | n, t :: r => by
    simp only [opens]
    rw [if_neg, opens_short h]
    rintro ⟨_, e, _⟩
    rw [← e, box_length] at h
    omega
end Su
end Go.Proofs.YtfjdaafckiefdaaGreatDoor.S7
/- Bytes that are read; what a call may have turned; conversions and appends, as the walks of this layer want them. -/
namespace Go.Proofs.YtfjdaafckiefdaaGreatDoor.S7
open Go.RowKit
/-- Just these blocks of the old ones may have turned. -/
structure Only (bs : List Nat) (w w' : World) : Prop where
  os : w'.os = w.os
  tape : w'.tape = w.tape
  output : w'.output = w.output
  size : w.heap.size ≤ w'.heap.size
  block : ∀ k, k < w.heap.size → k ∉ bs → w'.heap[k]? = w.heap[k]?
section
variable {w w' w'' : World} {bs cs : List Nat}
theorem Only.refl (bs : List Nat) (w : World) : Only bs w w := ⟨rfl, rfl, rfl, Nat.le_refl _, fun _ _ _ => rfl⟩
theorem Only.trans (h : Only bs w w') (k : Only bs w' w'') : Only bs w w'' :=
  ⟨k.os.trans h.os, k.tape.trans h.tape, k.output.trans h.output, Nat.le_trans h.size k.size, fun i hi hn => (k.block i (Nat.lt_of_lt_of_le hi h.size) hn).trans (h.block i hi hn)⟩
theorem Only.more (h : Only bs w w') (hs : ∀ x ∈ bs, x ∈ cs) : Only cs w w' := ⟨h.os, h.tape, h.output, h.size, fun k hk hn => h.block k hk (fun e => hn (hs k e))⟩
theorem Only.of_below (h : Below w.heap.size w w') (bs : List Nat) : Only bs w w' := ⟨h.os, h.tape, h.output, h.size, fun k hk _ => h.block k hk⟩
theorem Only.below {B : Nat} (h : Only bs w w') (hB : B ≤ w.heap.size) (hs : ∀ x ∈ bs, B ≤ x) : Below B w w' :=
  ⟨h.os, h.tape, h.output, h.size, fun k hk => h.block k (Nat.lt_of_lt_of_le hk hB) (fun e => by have := hs k e; omega)⟩
theorem Only.of_grown {row : Option Nat} (h : w.grownBy w' row) (hs : ∀ x, row = some x → x ∈ bs) : Only bs w w' :=
  ⟨h.os, h.tape, h.output, h.size, fun k hk hn => h.block k hk (fun e => hn (hs k e.symm))⟩
theorem Only.drewN (n : Nat) (w : World) (bs : List Nat) : Only bs w (w.drewN n) := ⟨rfl, rfl, rfl, Nat.le_refl _, fun _ _ _ => rfl⟩
theorem Only.setCell (w : World) (a : Addr) (v : Value) (h : a.block ∈ bs) : Only bs w (w.setCell a v) :=
  ⟨rfl, rfl, rfl, by simp [World.setCell], fun k _ hn => Below.heap_setCell _ _ _ _ (fun e => hn (by rw [e]; exact h))⟩
theorem below_drewN (n : Nat) (w : World) (B : Nat) : Below B w (w.drewN n) := ⟨rfl, rfl, rfl, Nat.le_refl _, fun _ _ => rfl⟩
end
/-- A slice that holds these bytes: nil, or empty anywhere, or a row; its block, if it has one, is none of those. -/
def Src (w : World) (v : Value) (l : List Nat) : Prop :=
  (∀ x ∈ l, x < 256) ∧ ((v = .slice none 0 0 ∧ l = []) ∨ (∃ ad c, v = .slice (some ad) 0 c ∧ l = []) ∨ ∃ b o c, v = .slice (some ⟨b, o, none⟩) l.length c ∧ l.length ≤ c ∧ w.rangeAt b o (ints .u8 l))
/-- The slice's block is none of these. -/
def Off (v : Value) (bs : List Nat) : Prop := ∀ b, v.ownBlock = some b → b ∉ bs
section
variable {w w' : World} {v : Value} {l : List Nat} {bs : List Nat}
theorem Src.small (h : Src w v l) : ∀ x ∈ l, x < 256 := h.1
theorem Src.slice (h : Src w v l) : ∃ p c, v = .slice p l.length c ∧ l.length ≤ c := by
  obtain ⟨hs, ⟨rfl, rfl⟩ | ⟨ad, c', rfl, rfl⟩ | ⟨b, o, c', rfl, hc, hr⟩⟩ := h
  · exact ⟨_, _, rfl, Nat.le_refl _⟩
  · exact ⟨_, _, rfl, Nat.zero_le _⟩
  · exact ⟨_, _, rfl, hc⟩
theorem Src.below (h : Src w v l) (hb : Below w.heap.size w w') : Src w' v l := by
  obtain ⟨hs, h1 | h1 | ⟨b, o, c', rfl, hc, hr⟩⟩ := h
  · exact ⟨hs, .inl h1⟩
  · exact ⟨hs, .inr (.inl h1)⟩
  · exact ⟨hs, .inr (.inr ⟨b, o, c', rfl, hc, rangeAt_below hb hr⟩)⟩
theorem range_kept {b o : Nat} {cs : List Value} (h : w.rangeAt b o cs) (hk : w'.heap[b]? = w.heap[b]?) : w'.rangeAt b o cs := fun j u hu => by
  rw [World.cell?_of_block (a := ⟨b, o + j, none⟩) hk]
  exact h j u hu
theorem range_lt {b o : Nat} {cs : List Value} (h : w.rangeAt b o cs) (h0 : cs ≠ []) : b < w.heap.size := by
  cases cs with
  | nil => exact absurd rfl h0
  | cons x r => exact World.block_lt_of_cell? w _ (h 0 x rfl)
theorem Src.only (h : Src w v l) (ho : Only bs w w') (hv : Off v bs) : Src w' v l := by
  obtain ⟨hs, h1 | h1 | ⟨b, o, c', rfl, hc, hr⟩⟩ := h
  · exact ⟨hs, .inl h1⟩
  · exact ⟨hs, .inr (.inl h1)⟩
  · by_cases h0 : l = []
    · subst h0
      exact ⟨hs, .inr (.inl ⟨_, _, rfl, rfl⟩)⟩
    · refine ⟨hs, .inr (.inr ⟨b, o, c', rfl, hc, range_kept hr (ho.block b (range_lt hr ?_) (hv b rfl))⟩)⟩
      intro e
      apply h0
      have := congrArg List.length e
      rw [ints_length] at this
      exact List.eq_nil_of_length_eq_zero this
theorem Off.more {cs : List Nat} (h : Off v bs) (hs : ∀ x ∈ cs, x ∈ bs) : Off v cs := fun b hb e => h b hb (hs b e)
theorem Off.none (bs : List Nat) (n c : Nat) : Off (.slice none n c) bs := fun b hb => by cases hb
theorem Off.at {ad : Addr} {n c : Nat} (h : ad.block ∉ bs) : Off (.slice (some ad) n c) bs := fun _ hb => by cases hb; exact h
theorem Src.nil (w : World) : Src w (.slice none 0 0) [] := ⟨fun x hx => by simp at hx, .inl ⟨rfl, rfl⟩⟩
theorem Src.row {b o c : Nat} (hs : ∀ x ∈ l, x < 256) (hc : l.length ≤ c) (hr : w.rangeAt b o (ints .u8 l)) {n : Nat} (hn : l.length = n) : Src w (.slice (some ⟨b, o, none⟩) n c) l := by
  subst hn
  exact ⟨hs, .inr (.inr ⟨b, o, c, rfl, hc, hr⟩)⟩
theorem own_slice {base e size : Nat} {n : Nat} {xs : List Value} (h : w.ownsRow base e size v n xs) : ∃ q c, v = .slice q n c := by
  obtain ⟨_, ⟨rfl, rfl⟩ | ⟨g, cap, cur, rfl, _⟩⟩ := h
  · exact ⟨none, 0, rfl⟩
  · exact ⟨_, cap, rfl⟩
theorem own_none (w : World) (base e size : Nat) : w.ownsRow base e size (.slice none 0 0) 0 [] := ⟨by simp, .inl ⟨rfl, rfl⟩⟩
theorem own_cell {base : Nat} {k : IntKind} {e n : Nat} (h : w.ownsRow base e 1 v n (ints k l)) (hn : 0 < n) : ∃ g c, v = .slice (some ⟨g, 0, none⟩) n c ∧ base ≤ g ∧ g < w.heap.size ∧ n ≤ c ∧ w.rangeAt g 0 (ints k l) := by
  obtain ⟨hl, ⟨rfl, h0⟩ | ⟨g, cap, cur, rfl, hg, hh, hn, hm, hc, ht⟩⟩ := h
  · omega
  · refine ⟨g, cap, rfl, hg, (Array.getElem?_eq_some_iff.1 hh).1, hn, fun j u hu => ?_⟩
    rw [cell_of_row _ _ _ _ _ _ hh, Nat.zero_add]
    have hj := (List.getElem?_eq_some_iff.1 hu).1
    rw [← ht, Nat.mul_one, List.getElem?_take_of_lt (by rw [hl] at hj; omega)] at hu
    simpa using hu
theorem Src.own {base n : Nat} (hs : ∀ x ∈ l, x < 256) (h : w.ownsRow base 5 1 v n (ints .u8 l)) : Src w v l := by
  by_cases h0 : n = 0
  · subst h0
    have hl : l = [] := by
      have := h.1
      rw [ints_length] at this
      exact List.eq_nil_of_length_eq_zero (by omega)
    subst hl
    rcases h.2 with ⟨rfl, _⟩ | ⟨g, cap, cur, rfl, _⟩
    · exact ⟨hs, .inl ⟨rfl, rfl⟩⟩
    · exact ⟨hs, .inr (.inl ⟨_, _, rfl, rfl⟩)⟩
  · have hl : l.length = n := by
      have := h.1
      rw [ints_length] at this
      omega
    obtain ⟨g, c, rfl, _, _, hc, hr⟩ := own_cell h (by omega)
    exact Src.row hs (by omega) hr hl
theorem own_off {base e size n : Nat} {xs : List Value} (h : w.ownsRow base e size v n xs) (hb : ∀ x ∈ bs, x < base) : Off v bs := by
  obtain ⟨_, ⟨rfl, _⟩ | ⟨g, cap, cur, rfl, hg, _⟩⟩ := h
  · exact Off.none _ _ _
  · exact Off.at (ad := ⟨g, 0, none⟩) (fun e => by have := hb g e; omega)
theorem own_only {base e size n : Nat} {xs : List Value} (h : w.ownsRow base e size v n xs) (ho : Only bs w w') (hv : Off v bs) : w'.ownsRow base e size v n xs := by
  obtain ⟨hl, h1 | ⟨g, cap, cur, rfl, hg, hh, hr⟩⟩ := h
  · exact ⟨hl, .inl h1⟩
  · exact ⟨hl, .inr ⟨g, cap, cur, rfl, hg, (ho.block g (Array.getElem?_eq_some_iff.1 hh).1 (hv g rfl)).trans hh, hr⟩⟩
/-- The bytes, as a string. -/
theorem conv_src (h : Src w v l) : (convert 22 9 v).run Tryz.prog w = .ok (.string (strB l)) w := by
  have key : ∀ ad c, (∀ j u, (ints .u8 l)[j]? = some u → w.cell? (ad.add j) = some u) → (convert 22 9 (.slice (some ad) l.length c)).run Tryz.prog w = .ok (.string (strB l)) w := by
    intro ad c hc
    rw [run_convert_bytes_string w 22 9 5 _ _ _ Tryz.underlying22 Tryz.underlying5 Tryz.underlying9]
    have hl : (loadCells ad (ints .u8 l).length).run Tryz.prog w = .ok (ints .u8 l).toArray w := run_loadCells_list (P := Tryz.prog) w ad (ints .u8 l) hc
    rw [ints_length] at hl
    have e : (ints .u8 l) = (l.map (fun (n : Nat) => (n : Int))).map (Value.int .u8) := by simp [ints]
    rw [e] at hl
    exact run_bytesToString w ad l.length c _ hl
  obtain ⟨hs, ⟨rfl, rfl⟩ | ⟨ad, c, rfl, rfl⟩ | ⟨b, o, c, rfl, hc, hr⟩⟩ := h
  · rw [run_convert_bytes_string w 22 9 5 _ _ _ Tryz.underlying22 Tryz.underlying5 Tryz.underlying9]
    simp [strB, Conv.bytesToString]
  · exact key ad c (fun j u hu => by simp [ints] at hu)
  · exact key ⟨b, o, none⟩ c (fun j u hu => by rw [Addr.add_mid]; exact hr j u hu)
end
theorem info5e : ∃ i, Tryz.prog.info? 5 = some i ∧ i.size = 1 ∧ i.bytes = 1 ∧ i.zero = some (.int .u8 0) := info_of (by kernel_rfl)
theorem below_append {base e size n : Nat} {w w' : World} {v : Value} {xs : List Value} (hown : w.ownsRow base e size v n xs) (hg : w.grownBy w' v.ownBlock) (hbase : base ≤ w.heap.size) : Below base w w' :=
  (Below.refl base w).grown hg hbase (fun k hk => (hown.lt k hk).1)
theorem law_append_src {ops : Array Oper} {rest : List Oper} {dst : Option Tmp} {T : TypeId} {pos : String} {after : Array Edge} {a : Act} {w : World} {Q : Exit → Act → World → Prop} {so xo : Operand}
    (base : Nat) (v : Value) (n : Nat) (l : List Nat) (sv : Value) (news : List Nat) (hs : a.eval so = v) (hx : a.eval xo = sv) (hown : w.ownsRow base 5 1 v n (ints .u8 l)) (hsv : Src w sv news)
    (hn : n + news.length ≤ 100000) (hbase : base ≤ w.heap.size)
    (h : ∀ v' w', w'.ownsRow base 5 1 v' (n + news.length) (ints .u8 (l ++ news)) → w.grownBy w' v.ownBlock → wpList Tryz.prog ops Q rest (a.put dst v') w') :
    wpList Tryz.prog ops Q ({ dst := dst, op := .call { callee := .builtin .append, args := #[so, xo], argTypes := #[22, 22] }, type := T, pos := pos, after := after, guard := none } :: rest) a w := by
  obtain ⟨i, hi, hsz, hby, hz⟩ := info5e
  have key : ∀ ad c, sv = .slice (some ad) news.length c → (∀ j u, (ints .u8 news)[j]? = some u → w.cell? (ad.add j) = some u) → wpList Tryz.prog ops Q ({ dst := dst, op := .call { callee := .builtin .append, args := #[so, xo], argTypes := #[22, 22] }, type := T, pos := pos, after := after, guard := none } :: rest) a w := by
    intro ad c e hc
    subst e
    refine wpList_append_own _ rfl so xo 22 rfl base 5 i _ 1 1 Tryz.underlying22 hi hz hsz hby rfl (by decide) v n (ints .u8 l) hs hown ad news.length c (ints .u8 news) hx (by rw [ints_length]; omega) hc (fun u hu => by obtain ⟨q, _, rfl⟩ := List.mem_map.1 hu; rfl) (by unfold maxLen; omega) (by omega) hbase (fun v' w' h1 h2 _ => h v' w' (by rw [ints_append]; exact h1) h2)
  rcases hsv with ⟨hb, ⟨rfl, rfl⟩ | ⟨ad, c, rfl, rfl⟩ | ⟨b, o, c, rfl, hc, hr⟩⟩
  · refine wpList_append_own_none rfl so xo 22 rfl base 5 i 1 Tryz.underlying22 hi v n (ints .u8 l) hs hown hx (h v w ?_ (grownBy_refl _ _))
    simpa [ints] using hown
  · exact key ad c rfl (fun j u hu => by simp [ints] at hu)
  · exact key ⟨b, o, none⟩ c rfl (fun j u hu => by rw [Addr.add_mid]; exact hr j u hu)
theorem one_src (w : World) (x : Nat) (h : x < 256) : Src (w.alloc (.cells #[.int .u8 (x : Int)] 5)) (.slice (some ⟨w.heap.size, 0, none⟩) 1 1) [x] :=
  Src.row (fun y hy => by rw [List.mem_singleton.1 hy]; exact h) (Nat.le_refl 1) (rangeAt_of_row (t := 5) (fr := (0, 0)) (heap_alloc_new w _)) rfl
end Go.Proofs.YtfjdaafckiefdaaGreatDoor.S7
/- The contracts of appendNumber and readNumber. -/
namespace Go.Proofs.YtfjdaafckiefdaaGreatDoor.S7
open Go.RowKit
theorem be_nth : ∀ (k i n : Nat), i < k → Sp.nth (Su.be k n) i = n / 256 ^ (k - 1 - i) % 256
  | 0, _, _, h => by omega
  | k + 1, i, n, h => by
    rw [Su.be]
    by_cases hi : i < k
    · rw [Sp.nth_append_left (by rw [Su.be_length]; exact hi), be_nth k i (n / 256) hi, Nat.div_div_eq_div_mul, Nat.mul_comm, ← Nat.pow_succ]
      congr 3
      omega
    · obtain rfl : i = k := by omega
      have := Sp.nth_append_right (l := Su.be i (n / 256)) (m := [n % 256]) 0
      rw [Su.be_length, Nat.add_zero] at this
      rw [this]
      simp [Sp.nth]
theorem take_succ_nth {l : List Nat} {i : Nat} (h : i < l.length) : l.take (i + 1) = l.take i ++ [Sp.nth l i] := by
  rw [List.take_succ_eq_append_getElem h]
  simp [Sp.nth, h]
theorem shr_byte {m i x : Nat} (h : x = m / 256 ^ i % 256) : (m : Int) / 2 ^ (8 * i) % 256 = (x : Int) := by
  subst h
  have e : (256 : Nat) ^ i = 2 ^ (8 * i) := by rw [show (256 : Nat) = 2 ^ 8 from rfl, ← Nat.pow_mul]
  rw [e, Int.natCast_emod, Int.natCast_ediv, Int.natCast_pow]
  rfl
set_option maxHeartbeats 1000000 in
theorem appendNumber_any (l : List Nat) (v : Value) (n base m : Nat) (w : World) (hown : w.ownsRow base 5 1 v n (ints .u8 l)) (hn : n ≤ 90000) (hbase : base ≤ w.heap.size) (_ : m < 4611686018427387904) :
    Calls Tryz.prog 56 #[v, .int .i64 (m : Int)] w fun e w' => ∃ v', e = .returned v' ∧ w'.ownsRow base 5 1 v' (n + 8) (ints .u8 (l ++ Su.be 8 m)) ∧ Below base w w' := by
  have HO0 : Hid (w.ownsRow base 5 1 v n (ints .u8 l)) := hown
  have HBS : Hid (base ≤ w.heap.size) := hbase
  have HEL : Hid ((Su.be 8 m).length = 8) := Su.be_length 8 m
  have HEN : Hid (∀ i, i < 8 → Sp.nth (Su.be 8 m) i = m / 256 ^ (7 - i) % 256) := fun i hi => be_nth 8 i m hi
  obtain ⟨E, hE⟩ : ∃ E, Su.be 8 m = E := ⟨_, rfl⟩
  rw [hE] at HEL HEN ⊢
  clear hown hbase hE
  obtain ⟨q0, c0, rfl⟩ := own_slice HO0.out
  go_enter Tryz.func56, Tryz.ntmps56
  go_wp2_with fail
  go_loopw [0, 6] (fun sl u wr => ∃ i : Nat, i ≤ 8 ∧ u = .int .i64 i ∧ Hid (wr.ownsRow base 5 1 sl (n + i) (ints .u8 (l ++ E.take i))) ∧ Hid (Below base w wr)) (fun _ u _ => 8 - (intOf u).toNat)
  case atStart =>
    have h0 : w.ownsRow base 5 1 (.slice q0 n c0) (n + 0) (ints .u8 (l ++ E.take 0)) := by simpa using HO0.out
    exact ⟨0, by omega, rfl, h0, Below.refl _ _⟩
  case round =>
    obtain ⟨i, hi, rfl, HO, HW⟩ := hrel
    obtain ⟨q, cq, rfl⟩ := own_slice HO.out
    have HB2 : Hid (base ≤ wr.heap.size) := Nat.le_trans HBS.out HW.out.size
    by_cases hlt : i < 8
    · have HTS : Hid (E.take (i + 1) = E.take i ++ [Sp.nth E i]) := take_succ_nth (by rw [HEL.out]; exact hlt)
      have g1 : (i : Int) < 8 := by omega
      have i0 : (0 : Int) ≤ (i : Int) := by omega
      go_wp2_with (first | with_reducible (refine stop_builtin .append ?_))
      refine Stop.go ?_
      have HEI : Sp.nth E i < 256 := by rw [HEN.out i hlt]; exact Nat.mod_lt _ (by decide)
      rw [shr_byte (HEN.out i hlt)]
      generalize Sp.nth E i = x at *
      have HO2 : Hid ((wr.alloc (Obj.cells #[.int .u8 (x : Int)] 5)).ownsRow base 5 1 (.slice q (n + i) cq) (n + i) (ints .u8 (l ++ E.take i))) := ownsRow_alloc HO.out _
      have HW2 : Hid (Below base w (wr.alloc (Obj.cells #[.int .u8 (x : Int)] 5))) := HW.out.alloc HB2.out _
      refine law_append_src base _ (n + i) (l ++ E.take i) (.slice (some ⟨wr.heap.size, 0, none⟩) 1 1) [x] rfl rfl HO2.out (one_src wr x HEI) (by simp; omega) (by have := HB2.out; simp; omega) ?_
      intro v' w' hown' hg'
      have hb' := below_append HO2.out hg' (by have := HB2.out; simp; omega)
      have HO3 : Hid (w'.ownsRow base 5 1 v' (n + (i + 1)) (ints .u8 (l ++ E.take (i + 1)))) := by
        rw [HTS.out, ← List.append_assoc]
        exact hown'
      have HW3 : Hid (Below base w w') := HW2.out.trans hb'
      clear hown' hb' hg' HO HW HO2 HW2 HTS
      go_wp2_with fail
      go_roundw
      case rel =>
        first
          | exact ⟨i + 1, by omega, by go_num, HO3.out, HW3.out⟩
          | ((repeat apply Exists.intro)
             refine ⟨⟨i + 1, by omega, ?_, HO3.out, HW3.out⟩, rfl⟩
             go_num)
      case measure => simp [intOf]; omega
    · obtain rfl : i = 8 := by omega
      have h1 := HO.out
      rw [List.take_of_length_le (by rw [HEL.out]; exact Nat.le_refl _)] at h1
      have HO1 : Hid (wr.ownsRow base 5 1 (.slice q (n + 8) cq) (n + 8) (ints .u8 (l ++ E))) := h1
      clear h1 HO
      go_wp2_with fail
      go_ret
      exact ⟨_, rfl, HO1.out, HW.out⟩
theorem or_byte {a x : Nat} (ha : a < 72057594037927936) (hx : x < 256) : bits BinOp.or .u64 ((a * 256 : Nat) : Int) (x : Int) = ((a * 256 + x : Nat) : Int) := by
  rw [u64_or_nat _ _ (by omega) (by omega)]
  congr 1
  rw [Nat.mul_comm]
  exact (Nat.two_pow_add_eq_or_of_lt (i := 8) hx a).symm
theorem val_take {l : List Nat} {k : Nat} (h : k < l.length) : Su.val (l.take (k + 1)) = Su.val (l.take k) * 256 + Sp.nth l k := by
  rw [take_succ_nth h, Su.val_snoc]
theorem wrap_signed {n : Nat} (h : n < 18446744073709551616) : wrap64 (n : Int) = Su.signed n := by
  unfold wrap64 Su.signed
  split <;> omega
set_option maxHeartbeats 1000000 in
theorem readNumber_any (l : List Nat) (b o c : Nat) (w : World) (hl : l.length = 8) (hs : ∀ x ∈ l, x < 256) (hr : w.rangeAt b o (ints .u8 l)) :
    Calls Tryz.prog 119 #[.slice (some ⟨b, o, none⟩) 8 c] w fun e w' => e = .returned (.int .i64 (Su.signed (Su.val l))) ∧ w' = w := by
  have HV : Hid (∀ k, k < 8 → Su.val (l.take (k + 1)) = Su.val (l.take k) * 256 + Sp.nth l k) := fun k hk => val_take (by omega)
  have HL : Hid (∀ k, k ≤ 7 → Su.val (l.take k) < 72057594037927936) := fun k hk => by
    have h1 := Su.val_lt (l.take k) (fun x hx => hs x (List.mem_of_mem_take hx))
    have h2 : (l.take k).length ≤ 7 := by rw [List.length_take]; omega
    exact Nat.lt_of_lt_of_le h1 (Nat.le_trans (Nat.pow_le_pow_right (by decide) h2) (by decide))
  have HC : Hid (∀ k, k < 8 → w.cell? ⟨b, o + k, none⟩ = some (.int .u8 (Sp.nth l k : Nat))) := fun k hk => hr k _ (ints_get _ _ _ (by omega))
  have HX : Hid (∀ k, k < 8 → Sp.nth l k < 256) := fun k _ => Sp.nth_lt (by decide) hs k
  have HE : Hid (l.take 8 = l) := List.take_of_length_le (by omega)
  have H0 : Hid (Su.val (l.take 0) = 0) := rfl
  have H64 : Hid (Su.val l < 18446744073709551616) := by
    have h1 := Su.val_lt l hs
    rw [hl] at h1
    exact h1
  clear hl hs hr
  go_enter Tryz.func119, Tryz.ntmps119
  go_wp2_with fail
  go_loop [3, 8] (fun n i => ∃ k : Nat, k ≤ 8 ∧ i = .int .i64 k ∧ n = .int .u64 (Su.val (l.take k) : Nat)) (fun _ i => 8 - (intOf i).toNat)
  case atStart => exact ⟨0, by omega, rfl, by rw [H0.out]; rfl⟩
  case round =>
    obtain ⟨k, hk, rfl, rfl⟩ := hrel
    by_cases hlt : k < 8
    · have hx := HX.out k hlt
      have hcell := HC.out k hlt
      have hv := HL.out k (by omega)
      have HN := HV.out k hlt
      rw [show Su.val (l.take (k + 1)) = Su.val (l.take (k + 1)) from rfl] at HN
      have HNH : Hid (Su.val (l.take (k + 1)) = Su.val (l.take k) * 256 + Sp.nth l k) := HN
      clear HN
      generalize Su.val (l.take k) = a at *
      generalize Sp.nth l k = x at *
      have hor : bits BinOp.or .u64 ((a : Int) * 256) (x : Int) = (a : Int) * 256 + (x : Int) := by
        have h1 := or_byte hv hx
        rw [Int.natCast_mul, Int.natCast_add, Int.natCast_mul] at h1
        exact h1
      have k1 : (k : Int) < 8 := by omega
      have k0 : (0 : Int) ≤ (k : Int) := by omega
      go_wp2_with fail
      go_round
      case rel => exact ⟨k + 1, by omega, by go_num, by rw [HNH.out]; go_num⟩
      case measure => simp [intOf]; omega
    · obtain rfl : k = 8 := by omega
      have HE2 : Hid (wrap64 ((Su.val l : Nat) : Int) = Su.signed (Su.val l)) := wrap_signed H64.out
      rw [HE.out]
      clear HE HV HL H0
      go_wp2_with fail
      go_ret
      exact ⟨ret_int HE2.out, rfl⟩
end Go.Proofs.YtfjdaafckiefdaaGreatDoor.S7
/- The contracts of the small functions: sign, boxOf, next, Count, rightSizes, lockOf, Equal, Join of one part, joined, Signs. -/
namespace Go.Proofs.YtfjdaafckiefdaaGreatDoor.S7
open Go.RowKit
theorem law_make {ops : Array Oper} {rest : List Oper} {dst : Option Tmp} {T : TypeId} {pos : String} {after : Array Edge} {a : Act} {w : World} {Q : Exit → Act → World → Prop} {lo co : Operand}
    (base n c : Nat) (hl : a.eval lo = .int .i64 (n : Int)) (hc : a.eval co = .int .i64 (c : Int)) (hnc : n ≤ c) (hm : c ≤ 100000) (hbase : base ≤ w.heap.size)
    (h : ∀ w', w'.ownsRow base 5 1 (.slice (some ⟨w.heap.size, 0, none⟩) n c) n (ints .u8 (List.replicate n 0)) → w.grownBy w' none → wpList Tryz.prog ops Q rest (a.put dst (.slice (some ⟨w.heap.size, 0, none⟩) n c)) w') :
    wpList Tryz.prog ops Q ({ dst := dst, op := .makeSlice 22 lo co, type := T, pos := pos, after := after, guard := none } :: rest) a w := by
  obtain ⟨i, hi, hsz, hby, hz⟩ := info5e
  have hr := run_make (P := Tryz.prog) w 22 5 i _ Tryz.underlying22 hi hz .i64 .i64 (n : Int) (c : Int) (by omega) (by omega) (by rw [hby]; omega) (by omega)
  simp only [Int.toNat_natCast, hsz, Nat.mul_one] at hr
  have e : (Value.int IntKind.u8 0).cells = #[.int .u8 0] := rfl
  rw [e, made_zeros] at hr
  have hw := h (w.alloc (.cells (arr .u8 (List.replicate c 0)) 5)) ⟨by simp [ints], .inr ⟨w.heap.size, c, arr .u8 (List.replicate c 0), rfl, hbase, heap_alloc_new w _, hnc, by unfold maxLen; omega, by rw [arr_size, List.length_replicate, Nat.mul_one], by
    rw [arr_list, Nat.mul_one]
    simp [ints, Nat.min_eq_left hnc]⟩⟩ (grownBy_alloc w _ none)
  refine wpList_plain rfl fun K' hK' => ?_
  unfold Oper.wp
  simp [execOp, hl, hc, hr, Result.andThen]
  exact hK' _ _ hw
theorem stop_make {P : Program} {ops : Array Oper} {rest : List Oper} {dst : Option Tmp} {T : TypeId} {pos : String} {after : Array Edge} {a : Act} {w : World} {Q : Exit → Act → World → Prop} (ty : TypeId) {x y : Operand}
    (h : Stop (wpList P ops Q ({ dst := dst, op := .makeSlice ty x y, type := T, pos := pos, after := after, guard := none } :: rest) a w)) :
    wpList P ops Q ({ dst := dst, op := .makeSlice ty x y, type := T, pos := pos, after := after, guard := none } :: rest) a w := h
/-- A byte of a row of one's own is set. -/
theorem own_set {w : World} {base g n c i y : Nat} {l : List Nat} (h : w.ownsRow base 5 1 (.slice (some ⟨g, 0, none⟩) n c) n (ints .u8 l)) : (w.setCell ⟨g, i, none⟩ (.int .u8 (y : Nat))).ownsRow base 5 1 (.slice (some ⟨g, 0, none⟩) n c) n (ints .u8 (l.set i y)) := by
  obtain ⟨h1, ⟨e, _⟩ | ⟨g', cap, cur, e, hb, hh, hn, hm, hs, ht⟩⟩ := h
  · cases e
  · cases e
    have hset := heap_setCell_same w g i cur 5 (.int .u8 (y : Nat)) hh
    refine ⟨by simpa [ints] using h1, .inr ⟨g, c, cur.setIfInBounds i (.int .u8 (y : Nat)), rfl, hb, hset, hn, hm, by simpa using hs, ?_⟩⟩
    rw [Array.toList_setIfInBounds, List.take_set, ht]
    simp [ints]
theorem own_may {w : World} {base g n c : Nat} {xs : List Value} (h : w.ownsRow base 5 1 (.slice (some ⟨g, 0, none⟩) n c) n xs) (i : Nat) : w.frozen? ⟨g, i, none⟩ = false := by
  obtain ⟨_, ⟨e, _⟩ | ⟨g', cap, cur, e, _, hh, _⟩⟩ := h
  · cases e
  · cases e
    exact frozen_of_row _ _ _ _ _ hh
theorem own_at {w : World} {base g n c : Nat} {l : List Nat} (h : w.ownsRow base 5 1 (.slice (some ⟨g, 0, none⟩) n c) n (ints .u8 l)) (i : Nat) (hi : i < n) : w.cell? ⟨g, i, none⟩ = some (.int .u8 (Sp.nth l i : Nat)) := by
  have hl : l.length = n := by have := h.1; rw [ints_length] at this; omega
  obtain ⟨g', c', e, _, _, _, hr⟩ := own_cell h (by omega)
  cases e
  have := hr i _ (ints_get .u8 l i (by omega))
  rwa [Nat.zero_add] at this
theorem sign_cells (s : Nat) : ((List.replicate 24 0).set 0 83).set 1 s = 83 :: s :: List.replicate 22 0 := rfl
set_option maxHeartbeats 1000000 in
theorem sign_any (s n : Nat) (w : World) (hn : n < 4611686018427387904) :
    Calls Tryz.prog 57 #[.int .u8 (s : Int), .int .i64 (n : Int)] w fun e w' => ∃ v, e = .returned v ∧ w'.ownsRow w.heap.size 5 1 v 32 (ints .u8 (Su.sign s n)) ∧ Below w.heap.size w w' := by
  have HN : Hid (n < 4611686018427387904) := hn
  clear hn
  go_enter Tryz.func57, Tryz.ntmps57
  go_wp2_with (first | with_reducible (refine stop_make 22 ?_))
  refine Stop.go ?_
  refine law_make w.heap.size 24 32 rfl rfl (by decide) (by decide) (Nat.le_refl _) ?_
  intro w1 ho1 hg1
  have c0 := own_at ho1 0 (by decide)
  have c1 := own_at ho1 1 (by decide)
  have f0 := own_may ho1 0
  have f1 := own_may ho1 1
  have HO1 : Hid (w1.ownsRow w.heap.size 5 1 (.slice (some ⟨w.heap.size, 0, none⟩) 24 32) 24 (ints .u8 (List.replicate 24 0))) := ho1
  have HG1 : Hid (w.grownBy w1 none) := hg1
  clear ho1 hg1
  go_wp2_with fail
  clear c0 c1 f0 f1
  have HO2 : Hid (((w1.setCell ⟨w.heap.size, 0, none⟩ (.int .u8 83)).setCell ⟨w.heap.size, 1, none⟩ (.int .u8 (s : Int))).ownsRow w.heap.size 5 1 (.slice (some ⟨w.heap.size, 0, none⟩) 24 32) 24 (ints .u8 (83 :: s :: List.replicate 22 0))) := by
    have h1 := own_set (i := 1) (y := s) (own_set (i := 0) (y := 83) HO1.out)
    rw [sign_cells] at h1
    exact h1
  have HB2 : Hid (Below w.heap.size w ((w1.setCell ⟨w.heap.size, 0, none⟩ (.int .u8 83)).setCell ⟨w.heap.size, 1, none⟩ (.int .u8 (s : Int)))) :=
    (((Below.refl w.heap.size w).grown HG1.out (Nat.le_refl _) (fun k hk => by cases hk)).setCell (Nat.le_refl _) _).setCell (Nat.le_refl _) _
  clear HO1 HG1
  generalize (w1.setCell ⟨w.heap.size, 0, none⟩ (.int .u8 83)).setCell ⟨w.heap.size, 1, none⟩ (.int .u8 (s : Int)) = w2 at *
  refine (appendNumber_any _ _ 24 w.heap.size n w2 HO2.out (by decide) HB2.out.size HN.out).mono ?_
  rintro e w3 ⟨v, rfl, ho3, hb3⟩
  have HO3 : Hid (w3.ownsRow w.heap.size 5 1 v 32 (ints .u8 (Su.sign s n))) := ho3
  have HB3 : Hid (Below w.heap.size w w3) := HB2.out.trans hb3
  clear ho3 hb3 HO2 HB2
  go_wp2_with fail
  go_ret
  exact ⟨_, rfl, HO3.out, HB3.out⟩
theorem box_cells (k : Nat) : (List.replicate (k + 8) 0).set 0 66 = 66 :: List.replicate (k + 7) 0 := by
  rw [show k + 8 = (k + 7) + 1 from rfl, List.replicate_succ]
  rfl
set_option maxHeartbeats 1000000 in
theorem boxOf_any (n k : Nat) (w : World) (hk : k ≤ 50000) (hn : n < 4611686018427387904) :
    Calls Tryz.prog 77 #[.int .i64 (n : Int), .int .i64 (k : Int)] w fun e w' => ∃ v, e = .returned v ∧ w'.ownsRow w.heap.size 5 1 v (k + 16) (ints .u8 (Su.box n k)) ∧ Below w.heap.size w w' := by
  have HN : Hid (n < 4611686018427387904) := hn
  have k0 : (0 : Int) ≤ (k : Int) := by omega
  have k1 : (k : Int) ≤ 50000 := by omega
  clear hn
  go_enter Tryz.func77, Tryz.ntmps77
  go_wp2_with (first | with_reducible (refine stop_make 22 ?_))
  refine Stop.go ?_
  refine law_make w.heap.size (k + 8) (k + 16) ?h1 ?h2 (by omega) (by omega) (Nat.le_refl _) ?_
  case h1 => show Value.int .i64 _ = _; congr 1; omega
  case h2 => show Value.int .i64 _ = _; congr 1
  intro w1 ho1 hg1
  have c0 := own_at ho1 0 (by omega)
  have f0 := own_may ho1 0
  have HO1 : Hid (w1.ownsRow w.heap.size 5 1 (.slice (some ⟨w.heap.size, 0, none⟩) (k + 8) (k + 16)) (k + 8) (ints .u8 (List.replicate (k + 8) 0))) := ho1
  have HG1 : Hid (w.grownBy w1 none) := hg1
  clear ho1 hg1
  go_wp2_with fail
  clear c0 f0
  have HO2 : Hid ((w1.setCell ⟨w.heap.size, 0, none⟩ (.int .u8 66)).ownsRow w.heap.size 5 1 (.slice (some ⟨w.heap.size, 0, none⟩) (k + 8) (k + 16)) (k + 8) (ints .u8 (66 :: List.replicate (k + 7) 0))) := by
    have h1 := own_set (i := 0) (y := 66) HO1.out
    rw [box_cells] at h1
    exact h1
  have HB2 : Hid (Below w.heap.size w (w1.setCell ⟨w.heap.size, 0, none⟩ (.int .u8 66))) :=
    ((Below.refl w.heap.size w).grown HG1.out (Nat.le_refl _) (fun k hk => by cases hk)).setCell (Nat.le_refl _) _
  clear HO1 HG1
  generalize w1.setCell ⟨w.heap.size, 0, none⟩ (.int .u8 66) = w2 at *
  refine (appendNumber_any _ _ (k + 8) w.heap.size n w2 HO2.out (by omega) HB2.out.size HN.out).mono ?_
  rintro e w3 ⟨v, rfl, ho3, hb3⟩
  have HO3 : Hid (w3.ownsRow w.heap.size 5 1 v (k + 16) (ints .u8 (Su.box n k))) := ho3
  have HB3 : Hid (Below w.heap.size w w3) := HB2.out.trans hb3
  clear ho3 hb3 HO2 HB2
  go_wp2_with fail
  go_ret
  exact ⟨_, rfl, HO3.out, HB3.out⟩
end Go.Proofs.YtfjdaafckiefdaaGreatDoor.S7
