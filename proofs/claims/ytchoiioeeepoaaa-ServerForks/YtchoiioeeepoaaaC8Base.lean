/- Bytes that are read; what a call may have turned; conversions and appends, as the walks of this layer want them. -/
import Derived.Test.YtchoiioeeepoaaaC8Spec
import Derived.Test.YtchoiioeeepoaaaInv
import Derived.Test.YtchoiioeeepoaaaProg
import Derived.Laws.AppendOwn
import Derived.Laws.AppendOwnNone
import Derived.Laws.IdiomStrings
import Derived.Laws.MakeOwn
import Derived.WalkMore
import Derived.BigRegion
import Derived.Deep.RegionHeld3
namespace Go.Proofs.Ytchoiioeeepoaaa.C8
open Go.RowKit
/-- Just these blocks of the old ones may have turned. -/
structure Only (bs : List Nat) (w w' : World) : Prop where
  os : w'.os = w.os
  tape : w'.tape = w.tape
  output : w'.output = w.output
  size : w.heap.size ≤ w'.heap.size
  block : ∀ k, k < w.heap.size → k ∉ bs → w'.heap[k]? = w.heap[k]?
section
variable {w w' w'' : World} {bs cs : List Nat}
theorem Only.refl (bs : List Nat) (w : World) : Only bs w w := ⟨rfl, rfl, rfl, Nat.le_refl _, fun _ _ _ => rfl⟩
theorem Only.trans (h : Only bs w w') (k : Only bs w' w'') : Only bs w w'' :=
  ⟨k.os.trans h.os, k.tape.trans h.tape, k.output.trans h.output, Nat.le_trans h.size k.size, fun i hi hn => (k.block i (Nat.lt_of_lt_of_le hi h.size) hn).trans (h.block i hi hn)⟩
theorem Only.more (h : Only bs w w') (hs : ∀ x ∈ bs, x ∈ cs) : Only cs w w' := ⟨h.os, h.tape, h.output, h.size, fun k hk hn => h.block k hk (fun e => hn (hs k e))⟩
theorem Only.of_below (h : Below w.heap.size w w') (bs : List Nat) : Only bs w w' := ⟨h.os, h.tape, h.output, h.size, fun k hk _ => h.block k hk⟩
theorem Only.below {B : Nat} (h : Only bs w w') (hB : B ≤ w.heap.size) (hs : ∀ x ∈ bs, B ≤ x) : Below B w w' :=
  ⟨h.os, h.tape, h.output, h.size, fun k hk => h.block k (Nat.lt_of_lt_of_le hk hB) (fun e => by have := hs k e; omega)⟩
theorem Only.of_grown {row : Option Nat} (h : w.grownBy w' row) (hs : ∀ x, row = some x → x ∈ bs) : Only bs w w' :=
  ⟨h.os, h.tape, h.output, h.size, fun k hk hn => h.block k hk (fun e => hn (hs k e.symm))⟩
theorem Only.drewN (n : Nat) (w : World) (bs : List Nat) : Only bs w (w.drewN n) := ⟨rfl, rfl, rfl, Nat.le_refl _, fun _ _ _ => rfl⟩
theorem Only.setCell (w : World) (a : Addr) (v : Value) (h : a.block ∈ bs) : Only bs w (w.setCell a v) :=
  ⟨rfl, rfl, rfl, by simp [World.setCell], fun k _ hn => Below.heap_setCell _ _ _ _ (fun e => hn (by rw [e]; exact h))⟩
theorem below_drewN (n : Nat) (w : World) (B : Nat) : Below B w (w.drewN n) := ⟨rfl, rfl, rfl, Nat.le_refl _, fun _ _ => rfl⟩
end
/-- A slice that holds these bytes: nil, or empty anywhere, or a row; its block, if it has one, is none of those. -/
def Src (w : World) (v : Value) (l : List Nat) : Prop :=
  (∀ x ∈ l, x < 256) ∧ ((v = .slice none 0 0 ∧ l = []) ∨ (∃ ad c, v = .slice (some ad) 0 c ∧ l = []) ∨ ∃ b o c, v = .slice (some ⟨b, o, none⟩) l.length c ∧ l.length ≤ c ∧ w.rangeAt b o (ints .u8 l))
/-- The slice's block is none of these. -/
def Off (v : Value) (bs : List Nat) : Prop := ∀ b, v.ownBlock = some b → b ∉ bs
section
variable {w w' : World} {v : Value} {l : List Nat} {bs : List Nat}
theorem Src.small (h : Src w v l) : ∀ x ∈ l, x < 256 := h.1
theorem Src.slice (h : Src w v l) : ∃ p c, v = .slice p l.length c ∧ l.length ≤ c := by
  obtain ⟨hs, ⟨rfl, rfl⟩ | ⟨ad, c', rfl, rfl⟩ | ⟨b, o, c', rfl, hc, hr⟩⟩ := h
  · exact ⟨_, _, rfl, Nat.le_refl _⟩
  · exact ⟨_, _, rfl, Nat.zero_le _⟩
  · exact ⟨_, _, rfl, hc⟩
theorem Src.below (h : Src w v l) (hb : Below w.heap.size w w') : Src w' v l := by
  obtain ⟨hs, h1 | h1 | ⟨b, o, c', rfl, hc, hr⟩⟩ := h
  · exact ⟨hs, .inl h1⟩
  · exact ⟨hs, .inr (.inl h1)⟩
  · exact ⟨hs, .inr (.inr ⟨b, o, c', rfl, hc, rangeAt_below hb hr⟩)⟩
theorem range_kept {b o : Nat} {cs : List Value} (h : w.rangeAt b o cs) (hk : w'.heap[b]? = w.heap[b]?) : w'.rangeAt b o cs := fun j u hu => by
  rw [World.cell?_of_block (a := ⟨b, o + j, none⟩) hk]
  exact h j u hu
theorem range_lt {b o : Nat} {cs : List Value} (h : w.rangeAt b o cs) (h0 : cs ≠ []) : b < w.heap.size := by
  cases cs with
  | nil => exact absurd rfl h0
  | cons x r => exact World.block_lt_of_cell? w _ (h 0 x rfl)
theorem Src.only (h : Src w v l) (ho : Only bs w w') (hv : Off v bs) : Src w' v l := by
  obtain ⟨hs, h1 | h1 | ⟨b, o, c', rfl, hc, hr⟩⟩ := h
  · exact ⟨hs, .inl h1⟩
  · exact ⟨hs, .inr (.inl h1)⟩
  · by_cases h0 : l = []
    · subst h0
      exact ⟨hs, .inr (.inl ⟨_, _, rfl, rfl⟩)⟩
    · refine ⟨hs, .inr (.inr ⟨b, o, c', rfl, hc, range_kept hr (ho.block b (range_lt hr ?_) (hv b rfl))⟩)⟩
      intro e
      apply h0
      have := congrArg List.length e
      rw [ints_length] at this
      exact List.eq_nil_of_length_eq_zero this
theorem Off.more {cs : List Nat} (h : Off v bs) (hs : ∀ x ∈ cs, x ∈ bs) : Off v cs := fun b hb e => h b hb (hs b e)
theorem Off.none (bs : List Nat) (n c : Nat) : Off (.slice none n c) bs := fun b hb => by cases hb
theorem Off.at {ad : Addr} {n c : Nat} (h : ad.block ∉ bs) : Off (.slice (some ad) n c) bs := fun _ hb => by cases hb; exact h
theorem Src.nil (w : World) : Src w (.slice none 0 0) [] := ⟨fun x hx => by simp at hx, .inl ⟨rfl, rfl⟩⟩
theorem Src.row {b o c : Nat} (hs : ∀ x ∈ l, x < 256) (hc : l.length ≤ c) (hr : w.rangeAt b o (ints .u8 l)) {n : Nat} (hn : l.length = n) : Src w (.slice (some ⟨b, o, none⟩) n c) l := by
  subst hn
  exact ⟨hs, .inr (.inr ⟨b, o, c, rfl, hc, hr⟩)⟩
theorem own_slice {base e size : Nat} {n : Nat} {xs : List Value} (h : w.ownsRow base e size v n xs) : ∃ q c, v = .slice q n c := by
  obtain ⟨_, ⟨rfl, rfl⟩ | ⟨g, cap, cur, rfl, _⟩⟩ := h
  · exact ⟨none, 0, rfl⟩
  · exact ⟨_, cap, rfl⟩
theorem own_none (w : World) (base e size : Nat) : w.ownsRow base e size (.slice none 0 0) 0 [] := ⟨by simp, .inl ⟨rfl, rfl⟩⟩
theorem own_cell {base : Nat} {k : IntKind} {e n : Nat} (h : w.ownsRow base e 1 v n (ints k l)) (hn : 0 < n) : ∃ g c, v = .slice (some ⟨g, 0, none⟩) n c ∧ base ≤ g ∧ g < w.heap.size ∧ n ≤ c ∧ w.rangeAt g 0 (ints k l) := by
  obtain ⟨hl, ⟨rfl, h0⟩ | ⟨g, cap, cur, rfl, hg, hh, hn, hm, hc, ht⟩⟩ := h
  · omega
  · refine ⟨g, cap, rfl, hg, (Array.getElem?_eq_some_iff.1 hh).1, hn, fun j u hu => ?_⟩
    rw [cell_of_row _ _ _ _ _ _ hh, Nat.zero_add]
    have hj := (List.getElem?_eq_some_iff.1 hu).1
    rw [← ht, Nat.mul_one, List.getElem?_take_of_lt (by rw [hl] at hj; omega)] at hu
    simpa using hu
theorem Src.own {base n : Nat} (hs : ∀ x ∈ l, x < 256) (h : w.ownsRow base 5 1 v n (ints .u8 l)) : Src w v l := by
  by_cases h0 : n = 0
  · subst h0
    have hl : l = [] := by
      have := h.1
      rw [ints_length] at this
      exact List.eq_nil_of_length_eq_zero (by omega)
    subst hl
    rcases h.2 with ⟨rfl, _⟩ | ⟨g, cap, cur, rfl, _⟩
    · exact ⟨hs, .inl ⟨rfl, rfl⟩⟩
    · exact ⟨hs, .inr (.inl ⟨_, _, rfl, rfl⟩)⟩
  · have hl : l.length = n := by
      have := h.1
      rw [ints_length] at this
      omega
    obtain ⟨g, c, rfl, _, _, hc, hr⟩ := own_cell h (by omega)
    exact Src.row hs (by omega) hr hl
theorem own_off {base e size n : Nat} {xs : List Value} (h : w.ownsRow base e size v n xs) (hb : ∀ x ∈ bs, x < base) : Off v bs := by
  obtain ⟨_, ⟨rfl, _⟩ | ⟨g, cap, cur, rfl, hg, _⟩⟩ := h
  · exact Off.none _ _ _
  · exact Off.at (ad := ⟨g, 0, none⟩) (fun e => by have := hb g e; omega)
theorem own_only {base e size n : Nat} {xs : List Value} (h : w.ownsRow base e size v n xs) (ho : Only bs w w') (hv : Off v bs) : w'.ownsRow base e size v n xs := by
  obtain ⟨hl, h1 | ⟨g, cap, cur, rfl, hg, hh, hr⟩⟩ := h
  · exact ⟨hl, .inl h1⟩
  · exact ⟨hl, .inr ⟨g, cap, cur, rfl, hg, (ho.block g (Array.getElem?_eq_some_iff.1 hh).1 (hv g rfl)).trans hh, hr⟩⟩
/-- The bytes, as a string. -/
theorem conv_src (h : Src w v l) : (convert 32 9 v).run Try.prog w = .ok (.string (strB l)) w := by
  have key : ∀ ad c, (∀ j u, (ints .u8 l)[j]? = some u → w.cell? (ad.add j) = some u) → (convert 32 9 (.slice (some ad) l.length c)).run Try.prog w = .ok (.string (strB l)) w := by
    intro ad c hc
    rw [run_convert_bytes_string w 32 9 5 _ _ _ Try.underlying32 Try.underlying5 Try.underlying9]
    have hl : (loadCells ad (ints .u8 l).length).run Try.prog w = .ok (ints .u8 l).toArray w := run_loadCells_list (P := Try.prog) w ad (ints .u8 l) hc
    rw [ints_length] at hl
    have e : (ints .u8 l) = (l.map (fun (n : Nat) => (n : Int))).map (Value.int .u8) := by simp [ints]
    rw [e] at hl
    exact run_bytesToString w ad l.length c _ hl
  obtain ⟨hs, ⟨rfl, rfl⟩ | ⟨ad, c, rfl, rfl⟩ | ⟨b, o, c, rfl, hc, hr⟩⟩ := h
  · rw [run_convert_bytes_string w 32 9 5 _ _ _ Try.underlying32 Try.underlying5 Try.underlying9]
    simp [strB, Conv.bytesToString]
  · exact key ad c (fun j u hu => by simp [ints] at hu)
  · exact key ⟨b, o, none⟩ c (fun j u hu => by rw [Addr.add_mid]; exact hr j u hu)
end
theorem info5e : ∃ i, Try.prog.info? 5 = some i ∧ i.size = 1 ∧ i.bytes = 1 ∧ i.zero = some (.int .u8 0) := info_of (by kernel_rfl)
theorem below_append {base e size n : Nat} {w w' : World} {v : Value} {xs : List Value} (hown : w.ownsRow base e size v n xs) (hg : w.grownBy w' v.ownBlock) (hbase : base ≤ w.heap.size) : Below base w w' :=
  (Below.refl base w).grown hg hbase (fun k hk => (hown.lt k hk).1)
theorem law_append_src {ops : Array Oper} {rest : List Oper} {dst : Option Tmp} {T : TypeId} {pos : String} {after : Array Edge} {a : Act} {w : World} {Q : Exit → Act → World → Prop} {so xo : Operand}
    (base : Nat) (v : Value) (n : Nat) (l : List Nat) (sv : Value) (news : List Nat) (hs : a.eval so = v) (hx : a.eval xo = sv) (hown : w.ownsRow base 5 1 v n (ints .u8 l)) (hsv : Src w sv news)
    (hn : n + news.length ≤ 100000) (hbase : base ≤ w.heap.size)
    (h : ∀ v' w', w'.ownsRow base 5 1 v' (n + news.length) (ints .u8 (l ++ news)) → w.grownBy w' v.ownBlock → wpList Try.prog ops Q rest (a.put dst v') w') :
    wpList Try.prog ops Q ({ dst := dst, op := .call { callee := .builtin .append, args := #[so, xo], argTypes := #[32, 32] }, type := T, pos := pos, after := after, guard := none } :: rest) a w := by
  obtain ⟨i, hi, hsz, hby, hz⟩ := info5e
  have key : ∀ ad c, sv = .slice (some ad) news.length c → (∀ j u, (ints .u8 news)[j]? = some u → w.cell? (ad.add j) = some u) → wpList Try.prog ops Q ({ dst := dst, op := .call { callee := .builtin .append, args := #[so, xo], argTypes := #[32, 32] }, type := T, pos := pos, after := after, guard := none } :: rest) a w := by
    intro ad c e hc
    subst e
    refine wpList_append_own _ rfl so xo 32 rfl base 5 i _ 1 1 Try.underlying32 hi hz hsz hby rfl (by decide) v n (ints .u8 l) hs hown ad news.length c (ints .u8 news) hx (by rw [ints_length]; omega) hc (fun u hu => by obtain ⟨q, _, rfl⟩ := List.mem_map.1 hu; rfl) (by unfold maxLen; omega) (by omega) hbase (fun v' w' h1 h2 _ => h v' w' (by rw [ints_append]; exact h1) h2)
  rcases hsv with ⟨hb, ⟨rfl, rfl⟩ | ⟨ad, c, rfl, rfl⟩ | ⟨b, o, c, rfl, hc, hr⟩⟩
  · refine wpList_append_own_none rfl so xo 32 rfl base 5 i 1 Try.underlying32 hi v n (ints .u8 l) hs hown hx (h v w ?_ (grownBy_refl _ _))
    simpa [ints] using hown
  · exact key ad c rfl (fun j u hu => by simp [ints] at hu)
  · exact key ⟨b, o, none⟩ c rfl (fun j u hu => by rw [Addr.add_mid]; exact hr j u hu)
theorem one_src (w : World) (x : Nat) (h : x < 256) : Src (w.alloc (.cells #[.int .u8 (x : Int)] 5)) (.slice (some ⟨w.heap.size, 0, none⟩) 1 1) [x] :=
  Src.row (fun y hy => by rw [List.mem_singleton.1 hy]; exact h) (Nat.le_refl 1) (rangeAt_of_row (t := 5) (fr := (0, 0)) (heap_alloc_new w _)) rfl
end Go.Proofs.Ytchoiioeeepoaaa.C8
