/- The plain mathematics of parts in bytes. -/
import Derived.Test.YtagdlpodpokmmaaGreatDoorMgL
import Derived.Laws.IdiomStrings
import Derived.Test.YtagdlpodpokmmaaGreatDoorInv
import Derived.Test.YtagdlpodpokmmaaGreatDoorProg
import Derived.Laws.AppendOwn
import Derived.Laws.AppendOwnNone
import Derived.Laws.MakeOwn
import Derived.WalkMore
import Derived.BigRegion
import Derived.Deep.RegionHeld3
import Derived.Maps.AppendAt
import Derived.Lib.ConvBytes
namespace Go.Proofs.YtagdlpodpokmmaaGreatDoor.C8
open Go.RowKit
/-- Bytes as a string. -/
def strB (l : List Nat) : ByteArray := (l.map (fun (n : Nat) => (n : Int))).foldl (fun r n => r.push (UInt8.ofNat n.toNat)) ByteArray.empty
theorem strB_go (l : List Nat) (acc : ByteArray) : ((l.map (fun (n : Nat) => (n : Int))).foldl (fun r n => r.push (UInt8.ofNat n.toNat)) acc).data.toList = acc.data.toList ++ l.map UInt8.ofNat := by
  induction l generalizing acc with
  | nil => simp
  | cons x r ih =>
    simp only [List.map_cons, List.foldl_cons]
    rw [ih]
    simp
theorem strB_list (l : List Nat) : (strB l).data.toList = l.map UInt8.ofNat := by
  unfold strB
  rw [strB_go]
  rfl
theorem strB_size (l : List Nat) : (strB l).size = l.length := by
  rw [← ByteArray.size_data, ← Array.length_toList, strB_list, List.length_map]
theorem ofNat_inj {x y : Nat} (hx : x < 256) (hy : y < 256) (h : UInt8.ofNat x = UInt8.ofNat y) : x = y := by
  have := congrArg UInt8.toNat h
  simpa [Nat.mod_eq_of_lt hx, Nat.mod_eq_of_lt hy] using this
theorem strB_inj {l m : List Nat} (hl : ∀ x ∈ l, x < 256) (hm : ∀ x ∈ m, x < 256) (h : strB l = strB m) : l = m := by
  have h1 : l.map UInt8.ofNat = m.map UInt8.ofNat := by rw [← strB_list, ← strB_list, h]
  clear h
  induction l generalizing m with
  | nil => cases m with
    | nil => rfl
    | cons y s => simp at h1
  | cons x r ih => cases m with
    | nil => simp at h1
    | cons y s =>
      simp only [List.map_cons, List.cons.injEq] at h1
      rw [ofNat_inj (hl x (by simp)) (hm y (by simp)) h1.1, ih (fun z hz => hl z (by simp [hz])) (fun z hz => hm z (by simp [hz])) h1.2]
theorem strB_beqL {l m : List Nat} (hl : ∀ x ∈ l, x < 256) (hm : ∀ x ∈ m, x < 256) : ((strB l).toList == (strB m).toList) = decide (l = m) := by
  by_cases h : l = m
  · simp [h]
  · rw [decide_eq_false h, beq_eq_false_iff_ne]
    intro e
    rw [ByteArray.toList_eq, ByteArray.toList_eq] at e
    apply h
    apply strB_inj hl hm
    have : (strB l).data = (strB m).data := Array.toList_inj.1 e
    cases hx : strB l
    cases hy : strB m
    rw [hx, hy] at this
    simp only at this
    rw [this]
theorem strB_beq {l m : List Nat} (hl : ∀ x ∈ l, x < 256) (hm : ∀ x ∈ m, x < 256) : (strB l == strB m) = decide (l = m) := by
  rw [beq_toListBytes, strB_beqL hl hm]
namespace Cd
/-- A number in so many bytes, the highest first. -/
def be : Nat → Nat → List Nat
  | 0, _ => []
  | k + 1, n => be k (n / 256) ++ [n % 256]
def val (l : List Nat) : Nat := l.foldl (fun a x => a * 256 + x) 0
theorem be_length : ∀ k n, (be k n).length = k
  | 0, _ => rfl
  | k + 1, n => by simp [be, be_length k]
theorem be_lt : ∀ k n, ∀ x ∈ be k n, x < 256
  | 0, _, x, h => by simp [be] at h
  | k + 1, n, x, h => by
    simp only [be, List.mem_append, List.mem_singleton] at h
    rcases h with h | rfl
    · exact be_lt k _ x h
    · exact Nat.mod_lt _ (by decide)
theorem val_snoc (l : List Nat) (x : Nat) : val (l ++ [x]) = val l * 256 + x := by simp [val, List.foldl_append]
theorem val_be : ∀ k n, val (be k n) = n % 256 ^ k
  | 0, n => by simp [be, val, Nat.mod_one]
  | k + 1, n => by
    rw [be, val_snoc, val_be k, Nat.pow_succ, Nat.mul_comm (256 ^ k) 256, Nat.mod_mul]
    omega
theorem val_lt (l : List Nat) (h : ∀ x ∈ l, x < 256) : val l < 256 ^ l.length := by
  have key : ∀ (l : List Nat) (a : Nat), (∀ x ∈ l, x < 256) → l.foldl (fun a x => a * 256 + x) a < (a + 1) * 256 ^ l.length := by
    intro l
    induction l with
    | nil => intro a _; simp
    | cons x r ih =>
      intro a hx
      have h1 := ih (a * 256 + x) (fun y hy => hx y (by simp [hy]))
      have h2 := hx x (by simp)
      simp only [List.foldl_cons, List.length_cons]
      refine Nat.lt_of_lt_of_le h1 ?_
      rw [Nat.pow_succ, Nat.mul_comm (256 ^ r.length) 256, ← Nat.mul_assoc]
      exact Nat.mul_le_mul_right _ (by omega)
  simpa [val] using key l 0 h
theorem be_inj {k m n : Nat} (hm : m < 256 ^ k) (hn : n < 256 ^ k) (h : be k m = be k n) : m = n := by
  have := congrArg val h
  rwa [val_be, val_be, Nat.mod_eq_of_lt hm, Nat.mod_eq_of_lt hn] at this
end Cd
theorem be_nth : ∀ (k i n : Nat), i < k → Sp.nth (Cd.be k n) i = n / 256 ^ (k - 1 - i) % 256
  | 0, _, _, h => by omega
  | k + 1, i, n, h => by
    rw [Cd.be]
    by_cases hi : i < k
    · rw [Sp.nth_append_left (by rw [Cd.be_length]; exact hi), be_nth k i (n / 256) hi, Nat.div_div_eq_div_mul, Nat.mul_comm, ← Nat.pow_succ]
      congr 3
      omega
    · obtain rfl : i = k := by omega
      have := Sp.nth_append_right (l := Cd.be i (n / 256)) (m := [n % 256]) 0
      rw [Cd.be_length, Nat.add_zero] at this
      rw [this]
      simp [Sp.nth]
theorem take_succ_nth {l : List Nat} {i : Nat} (h : i < l.length) : l.take (i + 1) = l.take i ++ [Sp.nth l i] := by
  rw [List.take_succ_eq_append_getElem h]
  simp [Sp.nth, h]
theorem shr_byte {m i x : Nat} (h : x = m / 256 ^ i % 256) : (m : Int) / 2 ^ (8 * i) % 256 = (x : Int) := by
  subst h
  have e : (256 : Nat) ^ i = 2 ^ (8 * i) := by rw [show (256 : Nat) = 2 ^ 8 from rfl, ← Nat.pow_mul]
  rw [e, Int.natCast_emod, Int.natCast_ediv, Int.natCast_pow]
  rfl
theorem or_byte {a x : Nat} (ha : a < 72057594037927936) (hx : x < 256) : bits BinOp.or .u64 ((a * 256 : Nat) : Int) (x : Int) = ((a * 256 + x : Nat) : Int) := by
  rw [u64_or_nat _ _ (by omega) (by omega)]
  congr 1
  rw [Nat.mul_comm]
  exact (Nat.two_pow_add_eq_or_of_lt (i := 8) hx a).symm
theorem val_take {l : List Nat} {k : Nat} (h : k < l.length) : Cd.val (l.take (k + 1)) = Cd.val (l.take k) * 256 + Sp.nth l k := by
  rw [take_succ_nth h, Cd.val_snoc]
/-- A part: a number, or a text. -/
structure Pt where
  isText : Bool
  n : Int
  text : List Nat
namespace Cd
/-- A part's error, 0 where it is right. -/
def wrong (p : Pt) : Nat := if p.isText = true then (if 4096 < p.text.length then 11 else 0) else if p.n < 0 ∨ 1099511627776 < p.n then 12 else 0
/-- A part's bytes. -/
def one (p : Pt) : List Nat := if p.isText = true then be 2 p.text.length ++ p.text else be 6 p.n.toNat
/-- The first wrong one's error. -/
def err : List Pt → Nat
  | [] => 0
  | p :: r => if wrong p = 0 then err r else wrong p
def enc : List Pt → List Nat
  | [] => []
  | p :: r => one p ++ enc r
theorem enc_append (a b : List Pt) : enc (a ++ b) = enc a ++ enc b := by
  induction a with
  | nil => rfl
  | cons p r ih => simp [enc, ih]
theorem enc_snoc (a : List Pt) (p : Pt) : enc (a ++ [p]) = enc a ++ one p := by simp [enc_append, enc]
theorem err_append {a : List Pt} (h : err a = 0) (b : List Pt) : err (a ++ b) = err b := by
  induction a with
  | nil => rfl
  | cons p r ih =>
    simp only [err] at h
    split at h
    · rename_i hw
      simp only [List.cons_append, err, hw, if_true]
      exact ih h
    · contradiction
theorem err_take {l : List Pt} {j : Nat} (h0 : err (l.take j) = 0) (hj : j < l.length) (hw : wrong l[j] ≠ 0) : err l = wrong l[j] := by
  conv => lhs; rw [← List.take_append_drop j l]
  rw [err_append h0, List.drop_eq_getElem_cons hj, err, if_neg hw]
theorem err_take_succ {l : List Pt} {j : Nat} (h0 : err (l.take j) = 0) (hj : j < l.length) (hw : wrong l[j] = 0) : err (l.take (j + 1)) = 0 := by
  rw [List.take_succ_eq_append_getElem hj, err_append h0, err, if_pos hw, err]
theorem wrong_of_err {l : List Pt} (h : err l = 0) : ∀ p ∈ l, wrong p = 0 := by
  induction l with
  | nil => intro p hp; cases hp
  | cons q r ih =>
    simp only [err] at h
    split at h
    · rename_i hw
      intro p hp
      rcases List.mem_cons.1 hp with rfl | hp
      · exact hw
      · exact ih h p hp
    · contradiction
theorem one_length_le {p : Pt} (h : wrong p = 0) : (one p).length ≤ 4098 := by
  unfold wrong at h
  unfold one
  split
  · rename_i ht
    rw [if_pos ht] at h
    split at h
    · contradiction
    · rw [List.length_append, be_length]; omega
  · rw [be_length]; omega
theorem enc_length_le {l : List Pt} (h : ∀ p ∈ l, wrong p = 0) : (enc l).length ≤ 4098 * l.length := by
  induction l with
  | nil => simp [enc]
  | cons p r ih =>
    have h1 := one_length_le (h p (by simp))
    have h2 := ih (fun q hq => h q (by simp [hq]))
    simp only [enc, List.length_append, List.length_cons]
    omega
theorem one_lt {p : Pt} (h : ∀ x ∈ p.text, x < 256) : ∀ x ∈ one p, x < 256 := fun x hx => by
  unfold one at hx
  split at hx
  · rcases List.mem_append.1 hx with hx | hx
    · exact be_lt _ _ x hx
    · exact h x hx
  · exact be_lt _ _ x hx
theorem enc_lt {l : List Pt} (h : ∀ p ∈ l, ∀ x ∈ p.text, x < 256) : ∀ x ∈ enc l, x < 256 := by
  induction l with
  | nil => intro x hx; cases hx
  | cons p r ih =>
    intro x hx
    rcases List.mem_append.1 hx with hx | hx
    · exact one_lt (h p (by simp)) x hx
    · exact ih (fun q hq => h q (by simp [hq])) x hx
end Cd
end Go.Proofs.YtagdlpodpokmmaaGreatDoor.C8
/- Bytes that are read; what a call may have turned; conversions and appends, as the walks of this layer want them. -/
namespace Go.Proofs.YtagdlpodpokmmaaGreatDoor.C8
open Go.RowKit
/-- Just these blocks of the old ones may have turned. -/
structure Only (bs : List Nat) (w w' : World) : Prop where
  os : w'.os = w.os
  tape : w'.tape = w.tape
  output : w'.output = w.output
  size : w.heap.size ≤ w'.heap.size
  block : ∀ k, k < w.heap.size → k ∉ bs → w'.heap[k]? = w.heap[k]?
section
variable {w w' w'' : World} {bs cs : List Nat}
theorem Only.refl (bs : List Nat) (w : World) : Only bs w w := ⟨rfl, rfl, rfl, Nat.le_refl _, fun _ _ _ => rfl⟩
theorem Only.trans (h : Only bs w w') (k : Only bs w' w'') : Only bs w w'' :=
  ⟨k.os.trans h.os, k.tape.trans h.tape, k.output.trans h.output, Nat.le_trans h.size k.size, fun i hi hn => (k.block i (Nat.lt_of_lt_of_le hi h.size) hn).trans (h.block i hi hn)⟩
theorem Only.more (h : Only bs w w') (hs : ∀ x ∈ bs, x ∈ cs) : Only cs w w' := ⟨h.os, h.tape, h.output, h.size, fun k hk hn => h.block k hk (fun e => hn (hs k e))⟩
theorem Only.of_below (h : Below w.heap.size w w') (bs : List Nat) : Only bs w w' := ⟨h.os, h.tape, h.output, h.size, fun k hk _ => h.block k hk⟩
theorem Only.below {B : Nat} (h : Only bs w w') (hB : B ≤ w.heap.size) (hs : ∀ x ∈ bs, B ≤ x) : Below B w w' :=
  ⟨h.os, h.tape, h.output, h.size, fun k hk => h.block k (Nat.lt_of_lt_of_le hk hB) (fun e => by have := hs k e; omega)⟩
theorem Only.of_grown {row : Option Nat} (h : w.grownBy w' row) (hs : ∀ x, row = some x → x ∈ bs) : Only bs w w' :=
  ⟨h.os, h.tape, h.output, h.size, fun k hk hn => h.block k hk (fun e => hn (hs k e.symm))⟩
theorem Only.drewN (n : Nat) (w : World) (bs : List Nat) : Only bs w (w.drewN n) := ⟨rfl, rfl, rfl, Nat.le_refl _, fun _ _ _ => rfl⟩
theorem Only.setCell (w : World) (a : Addr) (v : Value) (h : a.block ∈ bs) : Only bs w (w.setCell a v) :=
  ⟨rfl, rfl, rfl, by simp [World.setCell], fun k _ hn => Below.heap_setCell _ _ _ _ (fun e => hn (by rw [e]; exact h))⟩
theorem below_drewN (n : Nat) (w : World) (B : Nat) : Below B w (w.drewN n) := ⟨rfl, rfl, rfl, Nat.le_refl _, fun _ _ => rfl⟩
end
/-- A slice that holds these bytes: nil, or empty anywhere, or a row; its block, if it has one, is none of those. -/
def Src (w : World) (v : Value) (l : List Nat) : Prop :=
  (∀ x ∈ l, x < 256) ∧ ((v = .slice none 0 0 ∧ l = []) ∨ (∃ ad c, v = .slice (some ad) 0 c ∧ l = []) ∨ ∃ b o c, v = .slice (some ⟨b, o, none⟩) l.length c ∧ l.length ≤ c ∧ w.rangeAt b o (ints .u8 l))
/-- The slice's block is none of these. -/
def Off (v : Value) (bs : List Nat) : Prop := ∀ b, v.ownBlock = some b → b ∉ bs
section
variable {w w' : World} {v : Value} {l : List Nat} {bs : List Nat}
theorem Src.small (h : Src w v l) : ∀ x ∈ l, x < 256 := h.1
theorem Src.slice (h : Src w v l) : ∃ p c, v = .slice p l.length c ∧ l.length ≤ c := by
  obtain ⟨hs, ⟨rfl, rfl⟩ | ⟨ad, c', rfl, rfl⟩ | ⟨b, o, c', rfl, hc, hr⟩⟩ := h
  · exact ⟨_, _, rfl, Nat.le_refl _⟩
  · exact ⟨_, _, rfl, Nat.zero_le _⟩
  · exact ⟨_, _, rfl, hc⟩
theorem Src.below (h : Src w v l) (hb : Below w.heap.size w w') : Src w' v l := by
  obtain ⟨hs, h1 | h1 | ⟨b, o, c', rfl, hc, hr⟩⟩ := h
  · exact ⟨hs, .inl h1⟩
  · exact ⟨hs, .inr (.inl h1)⟩
  · exact ⟨hs, .inr (.inr ⟨b, o, c', rfl, hc, rangeAt_below hb hr⟩)⟩
theorem range_kept {b o : Nat} {cs : List Value} (h : w.rangeAt b o cs) (hk : w'.heap[b]? = w.heap[b]?) : w'.rangeAt b o cs := fun j u hu => by
  rw [World.cell?_of_block (a := ⟨b, o + j, none⟩) hk]
  exact h j u hu
theorem range_lt {b o : Nat} {cs : List Value} (h : w.rangeAt b o cs) (h0 : cs ≠ []) : b < w.heap.size := by
  cases cs with
  | nil => exact absurd rfl h0
  | cons x r => exact World.block_lt_of_cell? w _ (h 0 x rfl)
theorem Src.only (h : Src w v l) (ho : Only bs w w') (hv : Off v bs) : Src w' v l := by
  obtain ⟨hs, h1 | h1 | ⟨b, o, c', rfl, hc, hr⟩⟩ := h
  · exact ⟨hs, .inl h1⟩
  · exact ⟨hs, .inr (.inl h1)⟩
  · by_cases h0 : l = []
    · subst h0
      exact ⟨hs, .inr (.inl ⟨_, _, rfl, rfl⟩)⟩
    · refine ⟨hs, .inr (.inr ⟨b, o, c', rfl, hc, range_kept hr (ho.block b (range_lt hr ?_) (hv b rfl))⟩)⟩
      intro e
      apply h0
      have := congrArg List.length e
      rw [ints_length] at this
      exact List.eq_nil_of_length_eq_zero this
theorem Off.more {cs : List Nat} (h : Off v bs) (hs : ∀ x ∈ cs, x ∈ bs) : Off v cs := fun b hb e => h b hb (hs b e)
theorem Off.none (bs : List Nat) (n c : Nat) : Off (.slice none n c) bs := fun b hb => by cases hb
theorem Off.at {ad : Addr} {n c : Nat} (h : ad.block ∉ bs) : Off (.slice (some ad) n c) bs := fun _ hb => by cases hb; exact h
theorem Src.nil (w : World) : Src w (.slice none 0 0) [] := ⟨fun x hx => by simp at hx, .inl ⟨rfl, rfl⟩⟩
theorem Src.row {b o c : Nat} (hs : ∀ x ∈ l, x < 256) (hc : l.length ≤ c) (hr : w.rangeAt b o (ints .u8 l)) {n : Nat} (hn : l.length = n) : Src w (.slice (some ⟨b, o, none⟩) n c) l := by
  subst hn
  exact ⟨hs, .inr (.inr ⟨b, o, c, rfl, hc, hr⟩)⟩
theorem own_slice {base e size : Nat} {n : Nat} {xs : List Value} (h : w.ownsRow base e size v n xs) : ∃ q c, v = .slice q n c := by
  obtain ⟨_, ⟨rfl, rfl⟩ | ⟨g, cap, cur, rfl, _⟩⟩ := h
  · exact ⟨none, 0, rfl⟩
  · exact ⟨_, cap, rfl⟩
theorem own_none (w : World) (base e size : Nat) : w.ownsRow base e size (.slice none 0 0) 0 [] := ⟨by simp, .inl ⟨rfl, rfl⟩⟩
theorem own_cell {base : Nat} {k : IntKind} {e n : Nat} (h : w.ownsRow base e 1 v n (ints k l)) (hn : 0 < n) : ∃ g c, v = .slice (some ⟨g, 0, none⟩) n c ∧ base ≤ g ∧ g < w.heap.size ∧ n ≤ c ∧ w.rangeAt g 0 (ints k l) := by
  obtain ⟨hl, ⟨rfl, h0⟩ | ⟨g, cap, cur, rfl, hg, hh, hn, hm, hc, ht⟩⟩ := h
  · omega
  · refine ⟨g, cap, rfl, hg, (Array.getElem?_eq_some_iff.1 hh).1, hn, fun j u hu => ?_⟩
    rw [cell_of_row _ _ _ _ _ _ hh, Nat.zero_add]
    have hj := (List.getElem?_eq_some_iff.1 hu).1
    rw [← ht, Nat.mul_one, List.getElem?_take_of_lt (by rw [hl] at hj; omega)] at hu
    simpa using hu
theorem Src.own {base n : Nat} (hs : ∀ x ∈ l, x < 256) (h : w.ownsRow base 5 1 v n (ints .u8 l)) : Src w v l := by
  by_cases h0 : n = 0
  · subst h0
    have hl : l = [] := by
      have := h.1
      rw [ints_length] at this
      exact List.eq_nil_of_length_eq_zero (by omega)
    subst hl
    rcases h.2 with ⟨rfl, _⟩ | ⟨g, cap, cur, rfl, _⟩
    · exact ⟨hs, .inl ⟨rfl, rfl⟩⟩
    · exact ⟨hs, .inr (.inl ⟨_, _, rfl, rfl⟩)⟩
  · have hl : l.length = n := by
      have := h.1
      rw [ints_length] at this
      omega
    obtain ⟨g, c, rfl, _, _, hc, hr⟩ := own_cell h (by omega)
    exact Src.row hs (by omega) hr hl
theorem own_off {base e size n : Nat} {xs : List Value} (h : w.ownsRow base e size v n xs) (hb : ∀ x ∈ bs, x < base) : Off v bs := by
  obtain ⟨_, ⟨rfl, _⟩ | ⟨g, cap, cur, rfl, hg, _⟩⟩ := h
  · exact Off.none _ _ _
  · exact Off.at (ad := ⟨g, 0, none⟩) (fun e => by have := hb g e; omega)
theorem own_only {base e size n : Nat} {xs : List Value} (h : w.ownsRow base e size v n xs) (ho : Only bs w w') (hv : Off v bs) : w'.ownsRow base e size v n xs := by
  obtain ⟨hl, h1 | ⟨g, cap, cur, rfl, hg, hh, hr⟩⟩ := h
  · exact ⟨hl, .inl h1⟩
  · exact ⟨hl, .inr ⟨g, cap, cur, rfl, hg, (ho.block g (Array.getElem?_eq_some_iff.1 hh).1 (hv g rfl)).trans hh, hr⟩⟩
/-- The bytes, as a string. -/
theorem conv_src (h : Src w v l) : (convert 22 9 v).run Tryz.prog w = .ok (.string (strB l)) w := by
  have key : ∀ ad c, (∀ j u, (ints .u8 l)[j]? = some u → w.cell? (ad.add j) = some u) → (convert 22 9 (.slice (some ad) l.length c)).run Tryz.prog w = .ok (.string (strB l)) w := by
    intro ad c hc
    rw [run_convert_bytes_string w 22 9 5 _ _ _ Tryz.underlying22 Tryz.underlying5 Tryz.underlying9]
    have hl : (loadCells ad (ints .u8 l).length).run Tryz.prog w = .ok (ints .u8 l).toArray w := run_loadCells_list (P := Tryz.prog) w ad (ints .u8 l) hc
    rw [ints_length] at hl
    have e : (ints .u8 l) = (l.map (fun (n : Nat) => (n : Int))).map (Value.int .u8) := by simp [ints]
    rw [e] at hl
    exact run_bytesToString w ad l.length c _ hl
  obtain ⟨hs, ⟨rfl, rfl⟩ | ⟨ad, c, rfl, rfl⟩ | ⟨b, o, c, rfl, hc, hr⟩⟩ := h
  · rw [run_convert_bytes_string w 22 9 5 _ _ _ Tryz.underlying22 Tryz.underlying5 Tryz.underlying9]
    simp [strB, Conv.bytesToString]
  · exact key ad c (fun j u hu => by simp [ints] at hu)
  · exact key ⟨b, o, none⟩ c (fun j u hu => by rw [Addr.add_mid]; exact hr j u hu)
end
theorem info5e : ∃ i, Tryz.prog.info? 5 = some i ∧ i.size = 1 ∧ i.bytes = 1 ∧ i.zero = some (.int .u8 0) := info_of (by kernel_rfl)
theorem below_append {base e size n : Nat} {w w' : World} {v : Value} {xs : List Value} (hown : w.ownsRow base e size v n xs) (hg : w.grownBy w' v.ownBlock) (hbase : base ≤ w.heap.size) : Below base w w' :=
  (Below.refl base w).grown hg hbase (fun k hk => (hown.lt k hk).1)
theorem law_append_src {ops : Array Oper} {rest : List Oper} {dst : Option Tmp} {T : TypeId} {pos : String} {after : Array Edge} {a : Act} {w : World} {Q : Exit → Act → World → Prop} {so xo : Operand}
    (base : Nat) (v : Value) (n : Nat) (l : List Nat) (sv : Value) (news : List Nat) (hs : a.eval so = v) (hx : a.eval xo = sv) (hown : w.ownsRow base 5 1 v n (ints .u8 l)) (hsv : Src w sv news)
    (hn : n + news.length ≤ 100000) (hbase : base ≤ w.heap.size)
    (h : ∀ v' w', w'.ownsRow base 5 1 v' (n + news.length) (ints .u8 (l ++ news)) → w.grownBy w' v.ownBlock → wpList Tryz.prog ops Q rest (a.put dst v') w') :
    wpList Tryz.prog ops Q ({ dst := dst, op := .call { callee := .builtin .append, args := #[so, xo], argTypes := #[22, 22] }, type := T, pos := pos, after := after, guard := none } :: rest) a w := by
  obtain ⟨i, hi, hsz, hby, hz⟩ := info5e
  have key : ∀ ad c, sv = .slice (some ad) news.length c → (∀ j u, (ints .u8 news)[j]? = some u → w.cell? (ad.add j) = some u) → wpList Tryz.prog ops Q ({ dst := dst, op := .call { callee := .builtin .append, args := #[so, xo], argTypes := #[22, 22] }, type := T, pos := pos, after := after, guard := none } :: rest) a w := by
    intro ad c e hc
    subst e
    refine wpList_append_own _ rfl so xo 22 rfl base 5 i _ 1 1 Tryz.underlying22 hi hz hsz hby rfl (by decide) v n (ints .u8 l) hs hown ad news.length c (ints .u8 news) hx (by rw [ints_length]; omega) hc (fun u hu => by obtain ⟨q, _, rfl⟩ := List.mem_map.1 hu; rfl) (by unfold maxLen; omega) (by omega) hbase (fun v' w' h1 h2 _ => h v' w' (by rw [ints_append]; exact h1) h2)
  rcases hsv with ⟨hb, ⟨rfl, rfl⟩ | ⟨ad, c, rfl, rfl⟩ | ⟨b, o, c, rfl, hc, hr⟩⟩
  · refine wpList_append_own_none rfl so xo 22 rfl base 5 i 1 Tryz.underlying22 hi v n (ints .u8 l) hs hown hx (h v w ?_ (grownBy_refl _ _))
    simpa [ints] using hown
  · exact key ad c rfl (fun j u hu => by simp [ints] at hu)
  · exact key ⟨b, o, none⟩ c rfl (fun j u hu => by rw [Addr.add_mid]; exact hr j u hu)
theorem one_src (w : World) (x : Nat) (h : x < 256) : Src (w.alloc (.cells #[.int .u8 (x : Int)] 5)) (.slice (some ⟨w.heap.size, 0, none⟩) 1 1) [x] :=
  Src.row (fun y hy => by rw [List.mem_singleton.1 hy]; exact h) (Nat.le_refl 1) (rangeAt_of_row (t := 5) (fr := (0, 0)) (heap_alloc_new w _)) rfl
end Go.Proofs.YtagdlpodpokmmaaGreatDoor.C8
/- What an append may turn: the row that it goes on with, and nothing else that is old. -/
namespace Go.Proofs.YtagdlpodpokmmaaGreatDoor.C8
open Go.RowKit
/-- From the row v to the row v': of what is old only v's block may have turned; v' lies there, or is new. -/
def Grow (v v' : Value) (w w' : World) : Prop := w.grownBy w' v.ownBlock ∧ (v'.ownBlock = v.ownBlock ∨ ∃ b, v'.ownBlock = some b ∧ w.heap.size ≤ b)
section
variable {v v' v'' : Value} {w w' w'' : World}
theorem Grow.refl (v : Value) (w : World) : Grow v v w w := ⟨grownBy_refl _ _, .inl rfl⟩
theorem Grow.size (h : Grow v v' w w') : w.heap.size ≤ w'.heap.size := h.1.size
theorem Grow.trans (h : Grow v v' w w') (k : Grow v' v'' w' w'') : Grow v v'' w w'' := by
  refine ⟨⟨k.1.os.trans h.1.os, k.1.tape.trans h.1.tape, k.1.output.trans h.1.output, Nat.le_trans h.1.size k.1.size, fun i hi hn => ?_⟩, ?_⟩
  · refine (k.1.block i (Nat.lt_of_lt_of_le hi h.1.size) ?_).trans (h.1.block i hi hn)
    rcases h.2 with e | ⟨b, e, hb⟩
    · rw [e]; exact hn
    · rw [e]
      intro c
      cases c
      omega
  · rcases k.2 with e | ⟨b, e, hb⟩
    · rw [e]; exact h.2
    · exact .inr ⟨b, e, Nat.le_trans h.1.size hb⟩
theorem Grow.alloc (h : Grow v v' w w') (o : Obj) : Grow v v' w (w'.alloc o) :=
  h.trans ⟨grownBy_alloc _ _ _, .inl rfl⟩
theorem Grow.below {base e size n : Nat} {xs : List Value} (h : Grow v v' w w') (hown : w.ownsRow base e size v n xs) (hbase : base ≤ w.heap.size) : Below base w w' := below_append hown h.1 hbase
theorem Src.empty {sv : Value} (h : Src w sv []) (w' : World) : Src w' sv [] := by
  obtain ⟨hs, h1 | h1 | ⟨b, o, c, rfl, hc, _⟩⟩ := h
  · exact ⟨hs, .inl h1⟩
  · exact ⟨hs, .inr (.inl h1)⟩
  · exact ⟨hs, .inr (.inl ⟨_, _, rfl, rfl⟩)⟩
theorem Grow.src {sv : Value} {l : List Nat} (h : Grow v v' w w') (hs : Src w sv l) (ho : l ≠ [] → ∀ b, sv.ownBlock = some b → v.ownBlock ≠ some b) : Src w' sv l := by
  by_cases h0 : l = []
  · subst h0
    exact hs.empty w'
  · refine hs.only (bs := v.ownBlock.toList) (Only.of_grown h.1 (fun x hx => by rw [hx]; simp)) (fun b hb hm => ?_)
    simp only [Option.mem_toList] at hm
    exact ho h0 b hb hm
end
/-- Bytes that lie below a place. -/
def Old (B : Nat) (w : World) (v : Value) (l : List Nat) : Prop := Src w v l ∧ (l ≠ [] → ∀ b, v.ownBlock = some b → b < B)
section
variable {w w' : World} {B : Nat} {v : Value} {l : List Nat}
theorem ints_ne {k : IntKind} (h : l ≠ []) : ints k l ≠ [] := by
  intro e
  apply h
  have := congrArg List.length e
  rw [ints_length] at this
  exact List.eq_nil_of_length_eq_zero this
theorem Old.of (h : Src w v l) : Old w.heap.size w v l := by
  refine ⟨h, fun h0 b hb => ?_⟩
  obtain ⟨_, ⟨rfl, rfl⟩ | ⟨_, _, rfl, rfl⟩ | ⟨g, o, c, rfl, _, hr⟩⟩ := h
  · exact absurd rfl h0
  · exact absurd rfl h0
  · cases hb
    exact range_lt hr (ints_ne h0)
theorem Old.keep (h : Old B w v l) (hb : Below B w w') : Old B w' v l := by
  refine ⟨?_, h.2⟩
  obtain ⟨⟨hs, h1 | h1 | ⟨g, o, c, rfl, hc, hr⟩⟩, h2⟩ := h
  · exact ⟨hs, .inl h1⟩
  · exact ⟨hs, .inr (.inl h1)⟩
  · by_cases h0 : l = []
    · subst h0
      exact ⟨hs, .inr (.inl ⟨_, _, rfl, rfl⟩)⟩
    · exact ⟨hs, .inr (.inr ⟨g, o, c, rfl, hc, range_kept hr (hb.block g (h2 h0 g rfl))⟩)⟩
theorem Old.up {B' : Nat} (h : Old B w v l) (hB : B ≤ B') : Old B' w v l := ⟨h.1, fun h0 b hb => Nat.lt_of_lt_of_le (h.2 h0 b hb) hB⟩
theorem Old.only {bs : List Nat} (h : Old B w v l) (ho : Only bs w w') (hB : B ≤ w.heap.size) (hs : ∀ y ∈ bs, B ≤ y) : Old B w' v l := h.keep (ho.below hB hs)
end
theorem Old.below {w w' : World} {B : Nat} {v : Value} {l : List Nat} (h : Old B w v l) (hb : Below w.heap.size w w') : Old B w' v l := ⟨h.1.below hb, h.2⟩
/-- A row of one's own is none of the blocks below. -/
theorem own_apart {base e size n : Nat} {w : World} {v sv : Value} {xs : List Value} {l : List Nat} (h : w.ownsRow base e size v n xs) (hs : l ≠ [] → ∀ b, sv.ownBlock = some b → b < base) : l ≠ [] → ∀ b, sv.ownBlock = some b → v.ownBlock ≠ some b := fun h0 b hb hv => by
  have h1 := (h.lt b hv).1
  have h2 := hs h0 b hb
  omega
theorem law_append_grow {ops : Array Oper} {rest : List Oper} {dst : Option Tmp} {T : TypeId} {pos : String} {after : Array Edge} {a : Act} {w : World} {Q : Exit → Act → World → Prop} {so xo : Operand}
    (base : Nat) (v : Value) (n : Nat) (l : List Nat) (sv : Value) (news : List Nat) (hs : a.eval so = v) (hx : a.eval xo = sv) (hown : w.ownsRow base 5 1 v n (ints .u8 l)) (hsv : Src w sv news)
    (hn : n + news.length ≤ 1000000) (hbase : base ≤ w.heap.size)
    (h : ∀ v' w', w'.ownsRow base 5 1 v' (n + news.length) (ints .u8 (l ++ news)) → Grow v v' w w' → wpList Tryz.prog ops Q rest (a.put dst v') w') :
    wpList Tryz.prog ops Q ({ dst := dst, op := .call { callee := .builtin .append, args := #[so, xo], argTypes := #[22, 22] }, type := T, pos := pos, after := after, guard := none } :: rest) a w := by
  obtain ⟨i, hi, hsz, hby, hz⟩ := info5e
  have key : ∀ ad c, sv = .slice (some ad) news.length c → (∀ j u, (ints .u8 news)[j]? = some u → w.cell? (ad.add j) = some u) → wpList Tryz.prog ops Q ({ dst := dst, op := .call { callee := .builtin .append, args := #[so, xo], argTypes := #[22, 22] }, type := T, pos := pos, after := after, guard := none } :: rest) a w := by
    intro ad c e hc
    subst e
    refine wpList_append_own_at _ rfl so xo 22 rfl base 5 i _ 1 1 Tryz.underlying22 hi hz hsz hby rfl (by decide) v n (ints .u8 l) hs hown ad news.length c (ints .u8 news) hx (by rw [ints_length]; omega) hc (fun u hu => by obtain ⟨q, _, rfl⟩ := List.mem_map.1 hu; rfl) (by unfold maxLen; omega) (by omega) hbase (fun v' w' h1 h2 _ h3 => h v' w' (by rw [ints_append]; exact h1) ⟨h2, h3.elim .inl (fun e => .inr ⟨_, e, Nat.le_refl _⟩)⟩)
  rcases hsv with ⟨hb, ⟨rfl, rfl⟩ | ⟨ad, c, rfl, rfl⟩ | ⟨b, o, c, rfl, hc, hr⟩⟩
  · refine wpList_append_own_none rfl so xo 22 rfl base 5 i 1 Tryz.underlying22 hi v n (ints .u8 l) hs hown hx (h v w ?_ (Grow.refl _ _))
    simpa [ints] using hown
  · exact key ad c rfl (fun j u hu => by simp [ints] at hu)
  · exact key ⟨b, o, none⟩ c rfl (fun j u hu => by rw [Addr.add_mid]; exact hr j u hu)
end Go.Proofs.YtagdlpodpokmmaaGreatDoor.C8
/- The contracts of addSplit, addNumber, addText, addPart and Put. -/
namespace Go.Proofs.YtagdlpodpokmmaaGreatDoor.C8
open Go.RowKit
set_option maxHeartbeats 1000000 in
theorem addSplit_any (l : List Nat) (v : Value) (n base m k : Nat) (w : World) (hown : w.ownsRow base 5 1 v n (ints .u8 l)) (hn : n ≤ 90000) (hbase : base ≤ w.heap.size) (_ : m < 4611686018427387904) (hk : k ≤ 6) :
    Calls Tryz.prog 82 #[v, .int .i64 (m : Int), .int .i64 (k : Int)] w fun e w' => ∃ v', e = .returned v' ∧ w'.ownsRow base 5 1 v' (n + k) (ints .u8 (l ++ Cd.be k m)) ∧ Grow v v' w w' := by
  have HO0 : Hid (w.ownsRow base 5 1 v n (ints .u8 l)) := hown
  have HBS : Hid (base ≤ w.heap.size) := hbase
  have HEL : Hid ((Cd.be k m).length = k) := Cd.be_length k m
  have HEN : Hid (∀ i, i < k → Sp.nth (Cd.be k m) i = m / 256 ^ (k - 1 - i) % 256) := fun i hi => be_nth k i m hi
  obtain ⟨E, hE⟩ : ∃ E, Cd.be k m = E := ⟨_, rfl⟩
  rw [hE] at HEL HEN ⊢
  clear hown hbase hE
  obtain ⟨q0, c0, rfl⟩ := own_slice HO0.out
  go_enter Tryz.func82, Tryz.ntmps82
  go_wp2_with fail
  go_loopw [0, 7] (fun sl u wr => ∃ i : Nat, i ≤ k ∧ u = .int .i64 ((k : Int) - 1 - i) ∧ Hid (wr.ownsRow base 5 1 sl (n + i) (ints .u8 (l ++ E.take i))) ∧ Hid (Grow (.slice q0 n c0) sl w wr)) (fun _ u _ => (intOf u + 1).toNat)
  case atStart =>
    have h0 : w.ownsRow base 5 1 (.slice q0 n c0) (n + 0) (ints .u8 (l ++ E.take 0)) := by simpa using HO0.out
    exact ⟨0, by omega, by simp, h0, Grow.refl _ _⟩
  case round =>
    obtain ⟨i, hi, rfl, HO, HW⟩ := hrel
    obtain ⟨q, cq, rfl⟩ := own_slice HO.out
    have HB2 : Hid (base ≤ wr.heap.size) := Nat.le_trans HBS.out HW.out.size
    by_cases hlt : i < k
    · have HTS : Hid (E.take (i + 1) = E.take i ++ [Sp.nth E i]) := take_succ_nth (by rw [HEL.out]; exact hlt)
      obtain ⟨p, HP⟩ : ∃ p : Nat, Hid (k = i + 1 + p) := ⟨k - 1 - i, by show _ = _; omega⟩
      have hp : (k : Int) - 1 - (i : Int) = (p : Int) := by have := HP.out; omega
      rw [hp]
      have HEI0 : Hid (Sp.nth E i = m / 256 ^ p % 256) := by
        have := HEN.out i hlt
        rwa [show k - 1 - i = p from by have := HP.out; omega] at this
      have p0 : (0 : Int) ≤ (p : Int) := by omega
      have p6 : (p : Int) < 6 := by have := HP.out; omega
      have HPI : Hid ((p : Int) - 1 = (k : Int) - 1 - ((i + 1 : Nat) : Int)) := by show _ = _; have := HP.out; omega
      clear hp
      go_wp2_with (first | with_reducible (refine stop_builtin .append ?_))
      refine Stop.go ?_
      have HEI : Sp.nth E i < 256 := by rw [HEI0.out]; exact Nat.mod_lt _ (by decide)
      rw [shr_byte HEI0.out]
      generalize Sp.nth E i = x at *
      have HO2 : Hid ((wr.alloc (Obj.cells #[.int .u8 (x : Int)] 5)).ownsRow base 5 1 (.slice q (n + i) cq) (n + i) (ints .u8 (l ++ E.take i))) := ownsRow_alloc HO.out _
      have HW2 : Hid (Grow (.slice q0 n c0) (.slice q (n + i) cq) w (wr.alloc (Obj.cells #[.int .u8 (x : Int)] 5))) := HW.out.alloc _
      refine law_append_grow base _ (n + i) (l ++ E.take i) (.slice (some ⟨wr.heap.size, 0, none⟩) 1 1) [x] rfl rfl HO2.out (one_src wr x HEI) (by simp; omega) (by have := HB2.out; simp; omega) ?_
      intro v' w' hown' hg'
      have HO3 : Hid (w'.ownsRow base 5 1 v' (n + (i + 1)) (ints .u8 (l ++ E.take (i + 1)))) := by
        rw [HTS.out, ← List.append_assoc]
        exact hown'
      have HW3 : Hid (Grow (.slice q0 n c0) v' w w') := HW2.out.trans hg'
      clear hown' hg' HO HW HO2 HW2 HTS
      go_wp2_with fail
      go_roundw
      case rel =>
        first
          | exact ⟨i + 1, by omega, by rw [← HPI.out], HO3.out, HW3.out⟩
          | ((repeat apply Exists.intro)
             refine ⟨⟨i + 1, by omega, ?_, HO3.out, HW3.out⟩, rfl⟩
             rw [← HPI.out])
      case measure => simp [intOf]
    · obtain rfl : i = k := by omega
      have h1 := HO.out
      rw [List.take_of_length_le (by rw [HEL.out]; exact Nat.le_refl _)] at h1
      have HO1 : Hid (wr.ownsRow base 5 1 (.slice q (n + i) cq) (n + i) (ints .u8 (l ++ E))) := h1
      clear h1 HO
      have e0 : (i : Int) - 1 - (i : Int) = -1 := by omega
      rw [e0]
      clear e0
      go_wp2_with fail
      go_ret
      exact ⟨_, rfl, HO1.out, HW.out⟩
set_option maxHeartbeats 1000000 in
theorem addNumber_ok (l : List Nat) (v : Value) (n base m : Nat) (w : World) (hown : w.ownsRow base 5 1 v n (ints .u8 l)) (hn : n ≤ 90000) (hbase : base ≤ w.heap.size) (hm : m ≤ 1099511627776) :
    Calls Tryz.prog 69 #[v, .int .i64 (m : Int)] w fun e w' => ∃ v', e = .returned (.tuple #[v', .int .i64 0]) ∧ w'.ownsRow base 5 1 v' (n + 6) (ints .u8 (l ++ Cd.be 6 m)) ∧ Grow v v' w w' := by
  have HO0 : Hid (w.ownsRow base 5 1 v n (ints .u8 l)) := hown
  have HBS : Hid (base ≤ w.heap.size) := hbase
  have HM : Hid (m < 4611686018427387904) := by show _ < _; omega
  have m0 : (0 : Int) ≤ (m : Int) := by omega
  have m1 : (m : Int) ≤ 1099511627776 := by omega
  clear hown hbase
  go_enter Tryz.func69, Tryz.ntmps69
  go_wp2_with (first | (go_at_call 82; refine (addSplit_any l v n base m 6 _ HO0.out hn HBS.out HM.out (by decide)).mono ?_; rintro e w1 ⟨v1, rfl, h1, h2⟩; have HO1 : Hid (w1.ownsRow base 5 1 v1 (n + 6) (ints .u8 (l ++ Cd.be 6 m))) := h1; have HG1 : Hid (Grow v v1 w w1) := h2; clear h1 h2))
  go_ret2
  exact ⟨_, rfl, HO1.out, HG1.out⟩
set_option maxHeartbeats 1000000 in
theorem addNumber_bad (v : Value) (m : Int) (w : World) (hm : m < 0 ∨ 1099511627776 < m) :
    Calls Tryz.prog 69 #[v, .int .i64 m] w fun e w' => e = .returned (.tuple #[.slice none 0 0, .int .i64 12]) ∧ w' = w := by
  rcases hm with h | h
  · go_enter Tryz.func69, Tryz.ntmps69
    go_wp2_with fail
    go_ret2
    exact ⟨rfl, rfl⟩
  · have h0 : ¬ m < 0 := by omega
    go_enter Tryz.func69, Tryz.ntmps69
    go_wp2_with fail
    go_ret2
    exact ⟨rfl, rfl⟩
set_option maxHeartbeats 1000000 in
theorem addText_ok (l : List Nat) (v : Value) (n base : Nat) (sv : Value) (t : List Nat) (w : World) (hown : w.ownsRow base 5 1 v n (ints .u8 l)) (hn : n ≤ 80000) (hbase : base ≤ w.heap.size) (hs : Src w sv t) (ht : t.length ≤ 4096) (ho : t ≠ [] → ∀ b, sv.ownBlock = some b → v.ownBlock ≠ some b) :
    Calls Tryz.prog 70 #[v, sv] w fun e w' => ∃ v', e = .returned (.tuple #[v', .int .i64 0]) ∧ w'.ownsRow base 5 1 v' (n + 2 + t.length) (ints .u8 (l ++ Cd.be 2 t.length ++ t)) ∧ Grow v v' w w' := by
  have HO0 : Hid (w.ownsRow base 5 1 v n (ints .u8 l)) := hown
  have HBS : Hid (base ≤ w.heap.size) := hbase
  have HT : Hid (t.length < 4611686018427387904) := by show _ < _; omega
  have HS : Hid (Src w sv t) := hs
  have HF : Hid (t ≠ [] → ∀ b, sv.ownBlock = some b → v.ownBlock ≠ some b) := ho
  obtain ⟨sp, sc, rfl, -⟩ := hs.slice
  have t0 : (t.length : Int) ≤ 4096 := by omega
  clear hown hbase ho hs
  go_enter Tryz.func70, Tryz.ntmps70
  go_wp2_with (first | (go_at_call 82; refine (addSplit_any l v n base t.length 2 _ HO0.out (by omega) HBS.out HT.out (by decide)).mono ?_; rintro e w1 ⟨v1, rfl, h1, h2⟩; have HO1 : Hid (w1.ownsRow base 5 1 v1 (n + 2) (ints .u8 (l ++ Cd.be 2 t.length))) := h1; have HG1 : Hid (Grow v v1 w w1) := h2; clear h1 h2) | with_reducible (refine stop_builtin .append ?_))
  refine Stop.go ?_
  have hs1 : Src w1 (.slice sp t.length sc) t := HG1.out.src HS.out HF.out
  refine law_append_grow base v1 (n + 2) (l ++ Cd.be 2 t.length) (.slice sp t.length sc) t rfl rfl HO1.out hs1 (by omega) (Nat.le_trans HBS.out HG1.out.size) ?_
  intro v2 w2 h1 h2
  have HO2 : Hid (w2.ownsRow base 5 1 v2 (n + 2 + t.length) (ints .u8 (l ++ Cd.be 2 t.length ++ t))) := h1
  have HG2 : Hid (Grow v v2 w w2) := HG1.out.trans h2
  clear h1 h2 hs1 HO1 HG1
  go_wp2_with fail
  go_ret2
  exact ⟨_, rfl, HO2.out, HG2.out⟩
set_option maxHeartbeats 1000000 in
theorem addText_bad (v : Value) (sp : Option Addr) (n sc : Nat) (w : World) (hn : 4096 < n) (hm : n ≤ 9223372036854775807) :
    Calls Tryz.prog 70 #[v, .slice sp n sc] w fun e w' => e = .returned (.tuple #[.slice none 0 0, .int .i64 11]) ∧ w' = w := by
  have t0 : (4096 : Int) < (n : Int) := by omega
  go_enter Tryz.func70, Tryz.ntmps70
  go_wp2_with fail
  go_ret2
  exact ⟨rfl, rfl⟩
end Go.Proofs.YtagdlpodpokmmaaGreatDoor.C8
/- The contracts of addPart and Put. -/
namespace Go.Proofs.YtagdlpodpokmmaaGreatDoor.C8
open Go.RowKit
theorem str_src (w : World) (l : List Nat) (hl : ∀ x ∈ l, x < 256) : ∃ c w1, (convert 9 22 (.string (strB l))).run Tryz.prog w = .ok (.slice (some ⟨w.heap.size, 0, none⟩) l.length c) w1 ∧ Src w1 (.slice (some ⟨w.heap.size, 0, none⟩) l.length c) l ∧ Below w.heap.size w w1 := by
  have hr := Lib.run_convert_string_bytes (P := Tryz.prog) w 9 22 5 (strB l) Tryz.underlying9 Tryz.underlying22 Tryz.underlying5
  refine ⟨grownCap w (strB l).size 0 5, Lib.bytesWorld w 5 (strB l), ?_, ?_, ?_⟩
  · rw [hr, strB_size]
  · refine Src.row hl ?_ ?_ rfl
    · have := grownCap_ge w (strB l).size 0 5
      rw [strB_size] at this ⊢
      exact this
    · intro j u hu
      have hj : j < l.length := by
        have := (List.getElem?_eq_some_iff.1 hu).1
        rwa [ints_length] at this
      rw [Nat.zero_add, Lib.bytesWorld_cell w 5 (strB l) j (by rw [strB_size]; exact hj), strB_list]
      rw [ints_get _ _ _ hj] at hu
      rw [← hu]
      have hx : l[j] < 256 := hl _ (List.getElem_mem hj)
      simp [Sp.nth, hj, Nat.mod_eq_of_lt hx]
  · exact ⟨rfl, rfl, rfl, by rw [Lib.bytesWorld_size]; omega, fun k hk => Lib.bytesWorld_at_old w 5 (strB l) k hk⟩
theorem law_convert {P : Program} {ops : Array Oper} {rest : List Oper} {dst : Option Tmp} {T : TypeId} {pos : String} {after : Array Edge} {a : Act} {w : World} {Q : Exit → Act → World → Prop} {ty tz : TypeId} {x : Operand} (v0 v1 : Value) (w1 : World)
    (hx : a.eval x = v0) (hrun : (convert ty tz v0).run P w = .ok v1 w1) (h : wpList P ops Q rest (a.put dst v1) w1) :
    wpList P ops Q ({ dst := dst, op := .convert ty tz x, type := T, pos := pos, after := after, guard := none } :: rest) a w := by
  refine wpList_plain rfl fun K' hK' => ?_
  unfold Oper.wp
  simp [execOp, hx, hrun, Result.andThen]
  exact hK' _ _ h
theorem stop_convert {P : Program} {ops : Array Oper} {rest : List Oper} {dst : Option Tmp} {T : TypeId} {pos : String} {after : Array Edge} {a : Act} {w : World} {Q : Exit → Act → World → Prop} (ty tz : TypeId) {x : Operand}
    (h : Stop (wpList P ops Q ({ dst := dst, op := .convert ty tz x, type := T, pos := pos, after := after, guard := none } :: rest) a w)) :
    wpList P ops Q ({ dst := dst, op := .convert ty tz x, type := T, pos := pos, after := after, guard := none } :: rest) a w := h
theorem as3_3 (v : Value) (w : World) : (Instr.typeAssert (.iface 3 v) 20 3 true).run Tryz.prog w = .ok (.tuple #[v, .bool true]) w := by kernel_rfl
theorem as25_3 (v : Value) (w : World) : (Instr.typeAssert (.iface 22 v) 20 3 true).run Tryz.prog w = .ok (.tuple #[.int .i64 0, .bool false]) w := by kernel_rfl
theorem as9_3 (v : Value) (w : World) : (Instr.typeAssert (.iface 9 v) 20 3 true).run Tryz.prog w = .ok (.tuple #[.int .i64 0, .bool false]) w := by kernel_rfl
theorem as25_25 (v : Value) (w : World) : (Instr.typeAssert (.iface 22 v) 20 22 true).run Tryz.prog w = .ok (.tuple #[v, .bool true]) w := by kernel_rfl
theorem as9_25 (v : Value) (w : World) : (Instr.typeAssert (.iface 9 v) 20 22 true).run Tryz.prog w = .ok (.tuple #[.slice none 0 0, .bool false]) w := by kernel_rfl
theorem as9_9 (v : Value) (w : World) : (Instr.typeAssert (.iface 9 v) 20 9 true).run Tryz.prog w = .ok (.tuple #[v, .bool true]) w := by kernel_rfl
attribute [local go_sem] as3_3 as25_3 as9_3 as25_25 as9_25 as9_9
/-- What was handed to Put is a part; its bytes, where it has any, lie below. -/
def PartIs (w : World) (base : Nat) (u : Value) (p : Pt) : Prop :=
  (∀ x ∈ p.text, x < 256) ∧ ((p.isText = false ∧ u = .iface 3 (.int .i64 p.n)) ∨ (p.isText = true ∧ p.text.length ≤ 9223372036854775807 ∧ ((∃ s, u = .iface 22 s ∧ Old base w s p.text) ∨ u = .iface 9 (.string (strB p.text)))))
theorem PartIs.below {w w' : World} {base : Nat} {u : Value} {p : Pt} (h : PartIs w base u p) (hb : Below w.heap.size w w') : PartIs w' base u p := by
  obtain ⟨h0, h1 | ⟨h1, h2, ⟨s, h3, h4⟩ | h3⟩⟩ := h
  · exact ⟨h0, .inl h1⟩
  · exact ⟨h0, .inr ⟨h1, h2, .inl ⟨s, h3, h4.below hb⟩⟩⟩
  · exact ⟨h0, .inr ⟨h1, h2, .inr h3⟩⟩
theorem bel_le {w w' : World} {a b : Nat} (h : Below b w w') (hab : a ≤ b) : Below a w w' := ⟨h.os, h.tape, h.output, h.size, fun k hk => h.block k (Nat.lt_of_lt_of_le hk hab)⟩
theorem own_below {base e size n : Nat} {w w' : World} {v : Value} {xs : List Value} (h : w.ownsRow base e size v n xs) (hb : Below w.heap.size w w') : w'.ownsRow base e size v n xs :=
  own_only (bs := []) h (Only.of_below hb []) (fun _ _ hx => by cases hx)
set_option maxHeartbeats 1000000 in
theorem addPart_num_ok (l : List Nat) (v : Value) (n base m : Nat) (w : World) (hown : w.ownsRow base 5 1 v n (ints .u8 l)) (hn : n ≤ 80000) (hbase : base ≤ w.heap.size) (hm : m ≤ 1099511627776) :
    Calls Tryz.prog 53 #[v, .iface 3 (.int .i64 (m : Int))] w fun e w' => ∃ v', e = .returned (.tuple #[v', .int .i64 0]) ∧ w'.ownsRow base 5 1 v' (n + 6) (ints .u8 (l ++ Cd.be 6 m)) ∧ Below base w w' := by
  have HC := fun W (h : W = w) => (h ▸ addNumber_ok l v n base m w hown (by omega) hbase hm : Calls Tryz.prog 69 #[v, .int .i64 (m : Int)] W fun e w' => ∃ v', e = .returned (.tuple #[v', .int .i64 0]) ∧ w'.ownsRow base 5 1 v' (n + 6) (ints .u8 (l ++ Cd.be 6 m)) ∧ Grow v v' w w')
  have HG : Hid (∀ v' w', Grow v v' w w' → Below base w w') := fun v' w' h => h.below hown hbase
  clear hown hbase
  go_enter Tryz.func53, Tryz.ntmps53
  go_wp2_with (first | (go_at_call 69; refine (HC _ rfl).mono ?_; rintro e w1 ⟨v1, rfl, h1, h2⟩; have HO1 : Hid (w1.ownsRow base 5 1 v1 (n + 6) (ints .u8 (l ++ Cd.be 6 m))) := h1; have HG1 : Hid (Below base w w1) := HG.out _ _ h2; clear h1 h2))
  go_ret2
  exact ⟨_, rfl, HO1.out, HG1.out⟩
set_option maxHeartbeats 1000000 in
theorem addPart_num_bad (v : Value) (m : Int) (w : World) (hm : m < 0 ∨ 1099511627776 < m) :
    Calls Tryz.prog 53 #[v, .iface 3 (.int .i64 m)] w fun e w' => e = .returned (.tuple #[.slice none 0 0, .int .i64 12]) ∧ Below w.heap.size w w' := by
  have HM : Hid (m < 0 ∨ 1099511627776 < m) := hm
  clear hm
  go_enter Tryz.func53, Tryz.ntmps53
  go_wp2_with (first | (go_at_call 69; refine (addNumber_bad v m _ HM.out).mono ?_; rintro e w1 ⟨rfl, rfl⟩))
  go_ret2
  exact ⟨rfl, Below.refl _ _⟩
set_option maxHeartbeats 1000000 in
theorem addPart_text_ok (l : List Nat) (v : Value) (n base : Nat) (sv : Value) (t : List Nat) (w : World) (hown : w.ownsRow base 5 1 v n (ints .u8 l)) (hn : n ≤ 80000) (hbase : base ≤ w.heap.size) (hs : Src w sv t) (ht : t.length ≤ 4096) (ho : t ≠ [] → ∀ b, sv.ownBlock = some b → v.ownBlock ≠ some b) :
    Calls Tryz.prog 53 #[v, .iface 22 sv] w fun e w' => ∃ v', e = .returned (.tuple #[v', .int .i64 0]) ∧ w'.ownsRow base 5 1 v' (n + 2 + t.length) (ints .u8 (l ++ Cd.be 2 t.length ++ t)) ∧ Below base w w' := by
  have HC := fun W (h : W = w) => (h ▸ addText_ok l v n base sv t w hown hn hbase hs ht ho : Calls Tryz.prog 70 #[v, sv] W fun e w' => ∃ v', e = .returned (.tuple #[v', .int .i64 0]) ∧ w'.ownsRow base 5 1 v' (n + 2 + t.length) (ints .u8 (l ++ Cd.be 2 t.length ++ t)) ∧ Grow v v' w w')
  have HG : Hid (∀ v' w', Grow v v' w w' → Below base w w') := fun v' w' h => h.below hown hbase
  clear hown hbase hs ho
  go_enter Tryz.func53, Tryz.ntmps53
  go_wp2_with (first | (go_at_call 70; refine (HC _ rfl).mono ?_; rintro e w1 ⟨v1, rfl, h1, h2⟩; have HO1 : Hid (w1.ownsRow base 5 1 v1 (n + 2 + t.length) (ints .u8 (l ++ Cd.be 2 t.length ++ t))) := h1; have HG1 : Hid (Below base w w1) := HG.out _ _ h2; clear h1 h2))
  go_ret2
  exact ⟨_, rfl, HO1.out, HG1.out⟩
set_option maxHeartbeats 1000000 in
theorem addPart_text_bad (v : Value) (sp : Option Addr) (n sc : Nat) (w : World) (hn : 4096 < n) (hm : n ≤ 9223372036854775807) :
    Calls Tryz.prog 53 #[v, .iface 22 (.slice sp n sc)] w fun e w' => e = .returned (.tuple #[.slice none 0 0, .int .i64 11]) ∧ Below w.heap.size w w' := by
  go_enter Tryz.func53, Tryz.ntmps53
  go_wp2_with (first | (go_at_call 70; refine (addText_bad v sp n sc _ hn hm).mono ?_; rintro e w1 ⟨rfl, rfl⟩))
  go_ret2
  exact ⟨rfl, Below.refl _ _⟩
set_option maxHeartbeats 1000000 in
theorem addPart_str_ok (l : List Nat) (v : Value) (n base : Nat) (t : List Nat) (w : World) (hown : w.ownsRow base 5 1 v n (ints .u8 l)) (hn : n ≤ 80000) (hbase : base ≤ w.heap.size) (hl : ∀ x ∈ t, x < 256) (ht : t.length ≤ 4096) :
    Calls Tryz.prog 53 #[v, .iface 9 (.string (strB t))] w fun e w' => ∃ v', e = .returned (.tuple #[v', .int .i64 0]) ∧ w'.ownsRow base 5 1 v' (n + 2 + t.length) (ints .u8 (l ++ Cd.be 2 t.length ++ t)) ∧ Below base w w' := by
  obtain ⟨c, w1, hr, hs1, hb1⟩ := str_src w t hl
  have ho1 := own_below hown hb1
  have hbase1 := Nat.le_trans hbase hb1.size
  have HC := fun W (h : W = w1) => (h ▸ addText_ok l v n base (.slice (some ⟨w.heap.size, 0, none⟩) t.length c) t w1 ho1 hn hbase1 hs1 ht (fun _ b hb hv => by cases hb; have := (hown.lt _ hv).2; exact absurd this (Nat.lt_irrefl _)) : Calls Tryz.prog 70 #[v, .slice (some ⟨w.heap.size, 0, none⟩) t.length c] W fun e w' => ∃ v', e = .returned (.tuple #[v', .int .i64 0]) ∧ w'.ownsRow base 5 1 v' (n + 2 + t.length) (ints .u8 (l ++ Cd.be 2 t.length ++ t)) ∧ Grow v v' w1 w')
  have HG : Hid (∀ v' w', Grow v v' w1 w' → Below base w w') := fun v' w' h => (bel_le hb1 hbase).trans (h.below ho1 hbase1)
  have HR : Hid ((convert 9 22 (.string (strB t))).run Tryz.prog w = .ok (.slice (some ⟨w.heap.size, 0, none⟩) t.length c) w1) := hr
  clear hown hbase hr hs1 hb1 ho1 hbase1
  generalize strB t = st at *
  go_enter Tryz.func53, Tryz.ntmps53
  go_wp2_with (first | with_reducible (refine stop_convert 9 22 ?_))
  refine Stop.go ?_
  refine law_convert (.string st) _ w1 rfl HR.out ?_
  generalize w.heap.size = g at *
  clear HR
  go_wp2_with (first | (go_at_call 70; refine (HC _ rfl).mono ?_; rintro e w2 ⟨v1, rfl, h1, h2⟩; have HO1 : Hid (w2.ownsRow base 5 1 v1 (n + 2 + t.length) (ints .u8 (l ++ Cd.be 2 t.length ++ t))) := h1; have HG1 : Hid (Below base w w2) := HG.out _ _ h2; clear h1 h2))
  go_ret2
  exact ⟨_, rfl, HO1.out, HG1.out⟩
set_option maxHeartbeats 1000000 in
theorem addPart_str_bad (v : Value) (t : List Nat) (w : World) (hl : ∀ x ∈ t, x < 256) (hn : 4096 < t.length) (hm : t.length ≤ 9223372036854775807) :
    Calls Tryz.prog 53 #[v, .iface 9 (.string (strB t))] w fun e w' => e = .returned (.tuple #[.slice none 0 0, .int .i64 11]) ∧ Below w.heap.size w w' := by
  obtain ⟨c, w1, hr, -, hb1⟩ := str_src w t hl
  have HR : Hid ((convert 9 22 (.string (strB t))).run Tryz.prog w = .ok (.slice (some ⟨w.heap.size, 0, none⟩) t.length c) w1) := hr
  have HB : Hid (Below w.heap.size w w1) := hb1
  clear hr hb1
  generalize strB t = st at *
  go_enter Tryz.func53, Tryz.ntmps53
  go_wp2_with (first | with_reducible (refine stop_convert 9 22 ?_))
  refine Stop.go ?_
  refine law_convert (.string st) _ w1 rfl HR.out ?_
  clear HR
  go_wp2_with (first | (go_at_call 70; refine (addText_bad v _ t.length c _ hn hm).mono ?_; rintro e w2 ⟨rfl, rfl⟩))
  go_ret2
  exact ⟨rfl, HB.out⟩
theorem addPart_ok (l : List Nat) (v : Value) (n base : Nat) (u : Value) (p : Pt) (w : World) (hown : w.ownsRow base 5 1 v n (ints .u8 l)) (hn : n ≤ 80000) (hbase : base ≤ w.heap.size) (hp : PartIs w base u p) (hw : Cd.wrong p = 0) :
    Calls Tryz.prog 53 #[v, u] w fun e w' => ∃ v', e = .returned (.tuple #[v', .int .i64 0]) ∧ w'.ownsRow base 5 1 v' (n + (Cd.one p).length) (ints .u8 (l ++ Cd.one p)) ∧ Below base w w' := by
  obtain ⟨h0, ⟨h1, rfl⟩ | ⟨h1, h2, h3⟩⟩ := hp
  · have hw' : 0 ≤ p.n ∧ p.n ≤ 1099511627776 := by
      unfold Cd.wrong at hw
      rw [if_neg (by rw [h1]; decide)] at hw
      split at hw
      · contradiction
      · omega
    have e1 : Cd.one p = Cd.be 6 p.n.toNat := by unfold Cd.one; rw [if_neg (by rw [h1]; decide)]
    have e2 : p.n = (p.n.toNat : Int) := by omega
    rw [e1, Cd.be_length]
    have := addPart_num_ok l v n base p.n.toNat w hown hn hbase (by omega)
    rwa [← e2] at this
  · have hw' : p.text.length ≤ 4096 := by
      unfold Cd.wrong at hw
      rw [if_pos h1] at hw
      split at hw
      · contradiction
      · omega
    have e1 : Cd.one p = Cd.be 2 p.text.length ++ p.text := by unfold Cd.one; rw [if_pos h1]
    rw [e1, List.length_append, Cd.be_length, ← Nat.add_assoc, ← List.append_assoc]
    rcases h3 with ⟨s, rfl, h4⟩ | rfl
    · exact addPart_text_ok l v n base s p.text w hown hn hbase h4.1 hw' (own_apart hown h4.2)
    · exact addPart_str_ok l v n base p.text w hown hn hbase h0 hw'
theorem addPart_bad (v : Value) (base : Nat) (u : Value) (p : Pt) (w : World) (hp : PartIs w base u p) (hw : Cd.wrong p ≠ 0) :
    Calls Tryz.prog 53 #[v, u] w fun e w' => e = .returned (.tuple #[.slice none 0 0, .int .i64 (Cd.wrong p : Nat)]) ∧ Below w.heap.size w w' := by
  obtain ⟨h0, ⟨h1, rfl⟩ | ⟨h1, h2, h3⟩⟩ := hp
  · have hx : p.n < 0 ∨ 1099511627776 < p.n := by
      unfold Cd.wrong at hw
      rw [if_neg (by rw [h1]; decide)] at hw
      split at hw
      · assumption
      · contradiction
    have e1 : Cd.wrong p = 12 := by unfold Cd.wrong; rw [if_neg (by rw [h1]; decide), if_pos hx]
    rw [e1]
    exact addPart_num_bad v p.n w hx
  · have hx : 4096 < p.text.length := by
      unfold Cd.wrong at hw
      rw [if_pos h1] at hw
      split at hw
      · assumption
      · contradiction
    have e1 : Cd.wrong p = 11 := by unfold Cd.wrong; rw [if_pos h1, if_pos hx]
    rw [e1]
    rcases h3 with ⟨s, rfl, h4⟩ | rfl
    · obtain ⟨sp, sc, rfl, -⟩ := h4.1.slice
      exact addPart_text_bad v sp _ sc w hx h2
    · exact addPart_str_bad v p.text w h0 hx h2
/-- A slice of parts as any values. -/
def PartsIs (w : World) (base : Nat) (q : Option Addr) (ps : List Pt) : Prop :=
  ∀ j (h : j < ps.length), ∃ b o u, q = some ⟨b, o, none⟩ ∧ b < w.heap.size ∧ w.cell? ⟨b, o + j, none⟩ = some u ∧ PartIs w base u ps[j]
/-- What Put tells. -/
def PutSays (base : Nat) (ps : List Pt) (e : Ending) (w w' : World) : Prop :=
  Below base w w' ∧ ((Cd.err ps = 0 ∧ ∃ v, e = .returned (.tuple #[v, .int .i64 0]) ∧ w'.ownsRow base 5 1 v (Cd.enc ps).length (ints .u8 (Cd.enc ps))) ∨ (Cd.err ps ≠ 0 ∧ e = .returned (.tuple #[.slice none 0 0, .int .i64 (Cd.err ps : Nat)])))
set_option maxHeartbeats 2000000 in
theorem Put_any (ps : List Pt) (q : Option Addr) (c : Nat) (w : World) (hl : ps.length ≤ 20) (hp : PartsIs w w.heap.size q ps) :
    Calls Tryz.prog 38 #[.slice q ps.length c] w fun e w' => PutSays w.heap.size ps e w w' := by
  have HP : Hid (PartsIs w w.heap.size q ps) := hp
  obtain ⟨n, HN⟩ : ∃ n, Hid (ps.length = n) := ⟨_, rfl⟩
  rw [HN.out] at hl ⊢
  clear hp
  have l1 : (n : Int) ≤ 20 := by omega
  go_enter Tryz.func38, Tryz.ntmps38
  go_wp2_with fail
  go_loopw [4, 10] (fun sl i wr => ∃ j : Nat, j ≤ n ∧ i = .int .i64 j ∧ Hid (wr.ownsRow w.heap.size 5 1 sl (Cd.enc (ps.take j)).length (ints .u8 (Cd.enc (ps.take j)))) ∧ Hid (Below w.heap.size w wr) ∧ Hid (Cd.err (ps.take j) = 0)) (fun _ i _ => n - (intOf i).toNat)
  case atStart => exact ⟨0, by omega, rfl, own_none _ _ _ _, Below.refl _ _, rfl⟩
  case round =>
    obtain ⟨j, hj, rfl, HO, HB, HE⟩ := hrel
    by_cases hlt : j < n
    · have hjp : j < ps.length := by rw [HN.out]; exact hlt
      obtain ⟨b, o, u, rfl, hb, hc, hpart⟩ := HP.out j hjp
      have d1 := (HB.out.cell (p := ⟨b, o + j, none⟩) hb).trans hc
      have HPT : Hid (PartIs wr w.heap.size u ps[j]) := hpart.below HB.out
      have j1 : (j : Int) < (n : Int) := by omega
      have j0 : (0 : Int) ≤ (j : Int) := by omega
      have HL : Hid ((Cd.enc (ps.take j)).length ≤ 80000) := by
        have h1 := Cd.enc_length_le (Cd.wrong_of_err HE.out)
        have h2 : (ps.take j).length ≤ 19 := by rw [List.length_take]; omega
        show _ ≤ _
        omega
      have HS : Hid (w.heap.size ≤ wr.heap.size) := HB.out.size
      clear hc hpart
      by_cases hw : Cd.wrong ps[j] = 0
      · have HE2 : Hid (Cd.err (ps.take (j + 1)) = 0) := Cd.err_take_succ HE.out hjp hw
        have HC2 : Hid (Cd.enc (ps.take (j + 1)) = Cd.enc (ps.take j) ++ Cd.one ps[j]) := by
          show _ = _
          rw [List.take_succ_eq_append_getElem hjp, Cd.enc_snoc]
        have HC : ∀ W, W = wr → Calls Tryz.prog 53 #[u4, u] W fun e w' => ∃ v', e = .returned (.tuple #[v', .int .i64 0]) ∧ Hid (w'.ownsRow w.heap.size 5 1 v' (Cd.enc (ps.take (j + 1))).length (ints .u8 (Cd.enc (ps.take (j + 1))))) ∧ Hid (Below w.heap.size w w') := by
          rintro W rfl
          refine (addPart_ok _ u4 _ w.heap.size u ps[j] W HO.out HL.out HS.out HPT.out hw).mono ?_
          rintro e w' ⟨v', rfl, h1, h2⟩
          refine ⟨v', rfl, ?_, HB.out.trans h2⟩
          show World.ownsRow _ _ _ _ _ _ _
          rw [HC2.out, List.length_append]
          exact h1
        clear hw HC2 HL HPT HO HE hjp
        go_wp2_with (first | (go_at_call 53; refine (HC _ rfl).mono ?_; rintro e w1 ⟨v1, rfl, HO1, HB1⟩))
        refine ⟨⟨j + 1, by omega, by simp, HO1, HB1, HE2⟩, ?_⟩
        simp only [intOf]
        omega
      · have HE2 : Hid (Cd.err ps = Cd.wrong ps[j]) := Cd.err_take HE.out hjp hw
        obtain ⟨er, HER⟩ : ∃ er, Hid (Cd.err ps = er) := ⟨_, rfl⟩
        have HC : ∀ W, W = wr → Calls Tryz.prog 53 #[u4, u] W fun e w' => e = .returned (.tuple #[.slice none 0 0, .int .i64 (er : Nat)]) ∧ Hid (Below w.heap.size w w') := by
          rintro W rfl
          refine (addPart_bad u4 w.heap.size u ps[j] W HPT.out hw).mono ?_
          rintro e w' ⟨rfl, h2⟩
          exact ⟨by rw [← HER.out, HE2.out], HB.out.trans (bel_le h2 HS.out)⟩
        have HNZ : Hid (Cd.err ps ≠ 0) := by show _ ≠ _; rw [HE2.out]; exact hw
        have hz : ¬ (er : Int) = 0 := by have := HNZ.out; rw [HER.out] at this; omega
        clear hw HL HPT HO HE hjp HE2
        go_wp2_with (first | (go_at_call 53; refine (HC _ rfl).mono ?_; rintro e w1 ⟨rfl, HB1⟩))
        go_ret2
        exact ⟨HB1.out, .inr ⟨HNZ.out, by rw [HER.out]; rfl⟩⟩
    · obtain rfl : j = n := by omega
      have j1 : ¬ (j : Int) < (j : Int) := by omega
      have HE0 : Hid (Cd.err ps = 0) := by have := HE.out; rwa [List.take_of_length_le (by rw [HN.out]; omega)] at this
      have HO0 : Hid (wr.ownsRow w.heap.size 5 1 u4 (Cd.enc ps).length (ints .u8 (Cd.enc ps))) := by have := HO.out; rwa [List.take_of_length_le (by rw [HN.out]; omega)] at this
      clear HE HO
      go_wp2_with fail
      go_ret2
      exact ⟨HB.out, .inl ⟨HE0.out, _, rfl, HO0.out⟩⟩
end Go.Proofs.YtagdlpodpokmmaaGreatDoor.C8
