/- The plain mathematics of parts in bytes. -/
import Derived.Test.YtfjdaafckiefdaaGreatDoorMgL
import Derived.Laws.IdiomStrings
import Derived.Test.YtfjdaafckiefdaaGreatDoorInv
import Derived.Test.YtfjdaafckiefdaaGreatDoorProg
import Derived.Laws.AppendOwn
import Derived.Laws.AppendOwnNone
import Derived.Laws.MakeOwn
import Derived.WalkMore
import Derived.BigRegion
import Derived.Deep.RegionHeld3
import Derived.Maps.AppendAt
import Derived.Lib.ConvBytes
import Derived.Laws.BitsAllLaws
import Derived.ScopeJumps
import Derived.Lib.SmallJoins
import Derived.Deep.Slices
import Derived.ChangeArms
import Derived.ChangeSame
import Derived.OpenShut
import Derived.Test.YtfjdaafckiefdaaGreatDoorMgN
namespace Go.Proofs.YtfjdaafckiefdaaGreatDoor.C8
open Go.RowKit
/-- Bytes as a string. -/
def strB (l : List Nat) : ByteArray := (l.map (fun (n : Nat) => (n : Int))).foldl (fun r n => r.push (UInt8.ofNat n.toNat)) ByteArray.empty
theorem strB_go (l : List Nat) (acc : ByteArray) : ((l.map (fun (n : Nat) => (n : Int))).foldl (fun r n => r.push (UInt8.ofNat n.toNat)) acc).data.toList = acc.data.toList ++ l.map UInt8.ofNat := by
  induction l generalizing acc with
  | nil => simp
  | cons x r ih =>
    simp only [List.map_cons, List.foldl_cons]
    rw [ih]
    simp
theorem strB_list (l : List Nat) : (strB l).data.toList = l.map UInt8.ofNat := by
  unfold strB
  rw [strB_go]
  rfl
theorem strB_size (l : List Nat) : (strB l).size = l.length := by
  rw [← ByteArray.size_data, ← Array.length_toList, strB_list, List.length_map]
theorem ofNat_inj {x y : Nat} (hx : x < 256) (hy : y < 256) (h : UInt8.ofNat x = UInt8.ofNat y) : x = y := by
  have := congrArg UInt8.toNat h
  simpa [Nat.mod_eq_of_lt hx, Nat.mod_eq_of_lt hy] using this
theorem strB_inj {l m : List Nat} (hl : ∀ x ∈ l, x < 256) (hm : ∀ x ∈ m, x < 256) (h : strB l = strB m) : l = m := by
  have h1 : l.map UInt8.ofNat = m.map UInt8.ofNat := by rw [← strB_list, ← strB_list, h]
  clear h
  induction l generalizing m with
  | nil => cases m with
    | nil => rfl
    | cons y s => simp at h1
  | cons x r ih => cases m with
    | nil => simp at h1
    | cons y s =>
      simp only [List.map_cons, List.cons.injEq] at h1
      rw [ofNat_inj (hl x (by simp)) (hm y (by simp)) h1.1, ih (fun z hz => hl z (by simp [hz])) (fun z hz => hm z (by simp [hz])) h1.2]
theorem strB_beqL {l m : List Nat} (hl : ∀ x ∈ l, x < 256) (hm : ∀ x ∈ m, x < 256) : ((strB l).toList == (strB m).toList) = decide (l = m) := by
  by_cases h : l = m
  · simp [h]
  · rw [decide_eq_false h, beq_eq_false_iff_ne]
    intro e
    rw [ByteArray.toList_eq, ByteArray.toList_eq] at e
    apply h
    apply strB_inj hl hm
    have : (strB l).data = (strB m).data := Array.toList_inj.1 e
    cases hx : strB l
    cases hy : strB m
    rw [hx, hy] at this
    simp only at this
    rw [this]
theorem strB_beq {l m : List Nat} (hl : ∀ x ∈ l, x < 256) (hm : ∀ x ∈ m, x < 256) : (strB l == strB m) = decide (l = m) := by
  rw [beq_toListBytes, strB_beqL hl hm]
namespace Cd
/-- A number in so many bytes, the highest first. -/
def be : Nat → Nat → List Nat
  | 0, _ => []
  | k + 1, n => be k (n / 256) ++ [n % 256]
def val (l : List Nat) : Nat := l.foldl (fun a x => a * 256 + x) 0
theorem be_length : ∀ k n, (be k n).length = k
  | 0, _ => rfl
  | k + 1, n => by simp [be, be_length k]
theorem be_lt : ∀ k n, ∀ x ∈ be k n, x < 256
  | 0, _, x, h => by simp [be] at h
  | k + 1, n, x, h => by
    simp only [be, List.mem_append, List.mem_singleton] at h
    rcases h with h | rfl
    · exact be_lt k _ x h
    · exact Nat.mod_lt _ (by decide)
theorem val_snoc (l : List Nat) (x : Nat) : val (l ++ [x]) = val l * 256 + x := by simp [val, List.foldl_append]
theorem val_be : ∀ k n, val (be k n) = n % 256 ^ k
  | 0, n => by simp [be, val, Nat.mod_one]
  | k + 1, n => by
    rw [be, val_snoc, val_be k, Nat.pow_succ, Nat.mul_comm (256 ^ k) 256, Nat.mod_mul]
    omega
theorem val_lt (l : List Nat) (h : ∀ x ∈ l, x < 256) : val l < 256 ^ l.length := by
  have key : ∀ (l : List Nat) (a : Nat), (∀ x ∈ l, x < 256) → l.foldl (fun a x => a * 256 + x) a < (a + 1) * 256 ^ l.length := by
    intro l
    induction l with
    | nil => intro a _; simp
    | cons x r ih =>
      intro a hx
      have h1 := ih (a * 256 + x) (fun y hy => hx y (by simp [hy]))
      have h2 := hx x (by simp)
      simp only [List.foldl_cons, List.length_cons]
      refine Nat.lt_of_lt_of_le h1 ?_
      rw [Nat.pow_succ, Nat.mul_comm (256 ^ r.length) 256, ← Nat.mul_assoc]
      exact Nat.mul_le_mul_right _ (by omega)
  simpa [val] using key l 0 h
theorem be_inj {k m n : Nat} (hm : m < 256 ^ k) (hn : n < 256 ^ k) (h : be k m = be k n) : m = n := by
  have := congrArg val h
  rwa [val_be, val_be, Nat.mod_eq_of_lt hm, Nat.mod_eq_of_lt hn] at this
end Cd
theorem be_nth : ∀ (k i n : Nat), i < k → Sp.nth (Cd.be k n) i = n / 256 ^ (k - 1 - i) % 256
  | 0, _, _, h => by omega
  | k + 1, i, n, h => by
    rw [Cd.be]
    by_cases hi : i < k
    · rw [Sp.nth_append_left (by rw [Cd.be_length]; exact hi), be_nth k i (n / 256) hi, Nat.div_div_eq_div_mul, Nat.mul_comm, ← Nat.pow_succ]
      congr 3
      omega
    · obtain rfl : i = k := by omega
      have := Sp.nth_append_right (l := Cd.be i (n / 256)) (m := [n % 256]) 0
      rw [Cd.be_length, Nat.add_zero] at this
      rw [this]
      simp [Sp.nth]
theorem take_succ_nth {l : List Nat} {i : Nat} (h : i < l.length) : l.take (i + 1) = l.take i ++ [Sp.nth l i] := by
  rw [List.take_succ_eq_append_getElem h]
  simp [Sp.nth, h]
theorem shr_byte {m i x : Nat} (h : x = m / 256 ^ i % 256) : (m : Int) / 2 ^ (8 * i) % 256 = (x : Int) := by
  subst h
  have e : (256 : Nat) ^ i = 2 ^ (8 * i) := by rw [show (256 : Nat) = 2 ^ 8 from rfl, ← Nat.pow_mul]
  rw [e, Int.natCast_emod, Int.natCast_ediv, Int.natCast_pow]
  rfl
theorem or_byte {a x : Nat} (ha : a < 72057594037927936) (hx : x < 256) : bits BinOp.or .u64 ((a * 256 : Nat) : Int) (x : Int) = ((a * 256 + x : Nat) : Int) := by
  rw [u64_or_nat _ _ (by omega) (by omega)]
  congr 1
  rw [Nat.mul_comm]
  exact (Nat.two_pow_add_eq_or_of_lt (i := 8) hx a).symm
theorem val_take {l : List Nat} {k : Nat} (h : k < l.length) : Cd.val (l.take (k + 1)) = Cd.val (l.take k) * 256 + Sp.nth l k := by
  rw [take_succ_nth h, Cd.val_snoc]
/-- A part: a number, or a text. -/
structure Pt where
  isText : Bool
  n : Int
  text : List Nat
namespace Cd
/-- A part's error, 0 where it is right. -/
def wrong (p : Pt) : Nat := if p.isText = true then (if 4096 < p.text.length then 11 else 0) else if p.n < 0 ∨ 1099511627776 < p.n then 12 else 0
/-- A part's bytes. -/
def one (p : Pt) : List Nat := if p.isText = true then be 2 p.text.length ++ p.text else be 6 p.n.toNat
/-- The first wrong one's error. -/
def err : List Pt → Nat
  | [] => 0
  | p :: r => if wrong p = 0 then err r else wrong p
def enc : List Pt → List Nat
  | [] => []
  | p :: r => one p ++ enc r
theorem enc_append (a b : List Pt) : enc (a ++ b) = enc a ++ enc b := by
  induction a with
  | nil => rfl
  | cons p r ih => simp [enc, ih]
theorem enc_snoc (a : List Pt) (p : Pt) : enc (a ++ [p]) = enc a ++ one p := by simp [enc_append, enc]
theorem err_append {a : List Pt} (h : err a = 0) (b : List Pt) : err (a ++ b) = err b := by
  induction a with
  | nil => rfl
  | cons p r ih =>
    simp only [err] at h
    split at h
    · rename_i hw
      simp only [List.cons_append, err, hw, if_true]
      exact ih h
    · contradiction
theorem err_take {l : List Pt} {j : Nat} (h0 : err (l.take j) = 0) (hj : j < l.length) (hw : wrong l[j] ≠ 0) : err l = wrong l[j] := by
  conv => lhs; rw [← List.take_append_drop j l]
  rw [err_append h0, List.drop_eq_getElem_cons hj, err, if_neg hw]
theorem err_take_succ {l : List Pt} {j : Nat} (h0 : err (l.take j) = 0) (hj : j < l.length) (hw : wrong l[j] = 0) : err (l.take (j + 1)) = 0 := by
  rw [List.take_succ_eq_append_getElem hj, err_append h0, err, if_pos hw, err]
theorem wrong_of_err {l : List Pt} (h : err l = 0) : ∀ p ∈ l, wrong p = 0 := by
  induction l with
  | nil => intro p hp; cases hp
  | cons q r ih =>
    simp only [err] at h
    split at h
    · rename_i hw
      intro p hp
      rcases List.mem_cons.1 hp with rfl | hp
      · exact hw
      · exact ih h p hp
    · contradiction
theorem one_length_le {p : Pt} (h : wrong p = 0) : (one p).length ≤ 4098 := by
  unfold wrong at h
  unfold one
  split
  · rename_i ht
    rw [if_pos ht] at h
    split at h
    · contradiction
    · rw [List.length_append, be_length]; omega
  · rw [be_length]; omega
theorem enc_length_le {l : List Pt} (h : ∀ p ∈ l, wrong p = 0) : (enc l).length ≤ 4098 * l.length := by
  induction l with
  | nil => simp [enc]
  | cons p r ih =>
    have h1 := one_length_le (h p (by simp))
    have h2 := ih (fun q hq => h q (by simp [hq]))
    simp only [enc, List.length_append, List.length_cons]
    omega
theorem one_lt {p : Pt} (h : ∀ x ∈ p.text, x < 256) : ∀ x ∈ one p, x < 256 := fun x hx => by
  unfold one at hx
  split at hx
  · rcases List.mem_append.1 hx with hx | hx
    · exact be_lt _ _ x hx
    · exact h x hx
  · exact be_lt _ _ x hx
theorem enc_lt {l : List Pt} (h : ∀ p ∈ l, ∀ x ∈ p.text, x < 256) : ∀ x ∈ enc l, x < 256 := by
  induction l with
  | nil => intro x hx; cases hx
  | cons p r ih =>
    intro x hx
    rcases List.mem_append.1 hx with hx | hx
    · exact one_lt (h p (by simp)) x hx
    · exact ih (fun q hq => h q (by simp [hq])) x hx
end Cd
end Go.Proofs.YtfjdaafckiefdaaGreatDoor.C8
/- Bytes that are read; what a call may have turned; conversions and appends, as the walks of this layer want them. -/
namespace Go.Proofs.YtfjdaafckiefdaaGreatDoor.C8
open Go.RowKit
/-- Just these blocks of the old ones may have turned. -/
structure Only (bs : List Nat) (w w' : World) : Prop where
  os : w'.os = w.os
  tape : w'.tape = w.tape
  output : w'.output = w.output
  size : w.heap.size ≤ w'.heap.size
  block : ∀ k, k < w.heap.size → k ∉ bs → w'.heap[k]? = w.heap[k]?
section
variable {w w' w'' : World} {bs cs : List Nat}
theorem Only.refl (bs : List Nat) (w : World) : Only bs w w := ⟨rfl, rfl, rfl, Nat.le_refl _, fun _ _ _ => rfl⟩
theorem Only.trans (h : Only bs w w') (k : Only bs w' w'') : Only bs w w'' :=
  ⟨k.os.trans h.os, k.tape.trans h.tape, k.output.trans h.output, Nat.le_trans h.size k.size, fun i hi hn => (k.block i (Nat.lt_of_lt_of_le hi h.size) hn).trans (h.block i hi hn)⟩
theorem Only.more (h : Only bs w w') (hs : ∀ x ∈ bs, x ∈ cs) : Only cs w w' := ⟨h.os, h.tape, h.output, h.size, fun k hk hn => h.block k hk (fun e => hn (hs k e))⟩
theorem Only.of_below (h : Below w.heap.size w w') (bs : List Nat) : Only bs w w' := ⟨h.os, h.tape, h.output, h.size, fun k hk _ => h.block k hk⟩
theorem Only.below {B : Nat} (h : Only bs w w') (hB : B ≤ w.heap.size) (hs : ∀ x ∈ bs, B ≤ x) : Below B w w' :=
  ⟨h.os, h.tape, h.output, h.size, fun k hk => h.block k (Nat.lt_of_lt_of_le hk hB) (fun e => by have := hs k e; omega)⟩
theorem Only.of_grown {row : Option Nat} (h : w.grownBy w' row) (hs : ∀ x, row = some x → x ∈ bs) : Only bs w w' :=
  ⟨h.os, h.tape, h.output, h.size, fun k hk hn => h.block k hk (fun e => hn (hs k e.symm))⟩
theorem Only.drewN (n : Nat) (w : World) (bs : List Nat) : Only bs w (w.drewN n) := ⟨rfl, rfl, rfl, Nat.le_refl _, fun _ _ _ => rfl⟩
theorem Only.setCell (w : World) (a : Addr) (v : Value) (h : a.block ∈ bs) : Only bs w (w.setCell a v) :=
  ⟨rfl, rfl, rfl, by simp [World.setCell], fun k _ hn => Below.heap_setCell _ _ _ _ (fun e => hn (by rw [e]; exact h))⟩
theorem below_drewN (n : Nat) (w : World) (B : Nat) : Below B w (w.drewN n) := ⟨rfl, rfl, rfl, Nat.le_refl _, fun _ _ => rfl⟩
end
/-- A slice that holds these bytes: nil, or empty anywhere, or a row; its block, if it has one, is none of those. -/
def Src (w : World) (v : Value) (l : List Nat) : Prop :=
  (∀ x ∈ l, x < 256) ∧ ((v = .slice none 0 0 ∧ l = []) ∨ (∃ ad c, v = .slice (some ad) 0 c ∧ l = []) ∨ ∃ b o c, v = .slice (some ⟨b, o, none⟩) l.length c ∧ l.length ≤ c ∧ w.rangeAt b o (ints .u8 l))
/-- The slice's block is none of these. -/
def Off (v : Value) (bs : List Nat) : Prop := ∀ b, v.ownBlock = some b → b ∉ bs
section
variable {w w' : World} {v : Value} {l : List Nat} {bs : List Nat}
theorem Src.small (h : Src w v l) : ∀ x ∈ l, x < 256 := h.1
theorem Src.slice (h : Src w v l) : ∃ p c, v = .slice p l.length c ∧ l.length ≤ c := by
  obtain ⟨hs, ⟨rfl, rfl⟩ | ⟨ad, c', rfl, rfl⟩ | ⟨b, o, c', rfl, hc, hr⟩⟩ := h
  · exact ⟨_, _, rfl, Nat.le_refl _⟩
  · exact ⟨_, _, rfl, Nat.zero_le _⟩
  · exact ⟨_, _, rfl, hc⟩
theorem Src.below (h : Src w v l) (hb : Below w.heap.size w w') : Src w' v l := by
  obtain ⟨hs, h1 | h1 | ⟨b, o, c', rfl, hc, hr⟩⟩ := h
  · exact ⟨hs, .inl h1⟩
  · exact ⟨hs, .inr (.inl h1)⟩
  · exact ⟨hs, .inr (.inr ⟨b, o, c', rfl, hc, rangeAt_below hb hr⟩)⟩
theorem range_kept {b o : Nat} {cs : List Value} (h : w.rangeAt b o cs) (hk : w'.heap[b]? = w.heap[b]?) : w'.rangeAt b o cs := fun j u hu => by
  rw [World.cell?_of_block (a := ⟨b, o + j, none⟩) hk]
  exact h j u hu
theorem range_lt {b o : Nat} {cs : List Value} (h : w.rangeAt b o cs) (h0 : cs ≠ []) : b < w.heap.size := by
  cases cs with
  | nil => exact absurd rfl h0
  | cons x r => exact World.block_lt_of_cell? w _ (h 0 x rfl)
theorem Src.only (h : Src w v l) (ho : Only bs w w') (hv : Off v bs) : Src w' v l := by
  obtain ⟨hs, h1 | h1 | ⟨b, o, c', rfl, hc, hr⟩⟩ := h
  · exact ⟨hs, .inl h1⟩
  · exact ⟨hs, .inr (.inl h1)⟩
  · by_cases h0 : l = []
    · subst h0
      exact ⟨hs, .inr (.inl ⟨_, _, rfl, rfl⟩)⟩
    · refine ⟨hs, .inr (.inr ⟨b, o, c', rfl, hc, range_kept hr (ho.block b (range_lt hr ?_) (hv b rfl))⟩)⟩
      intro e
      apply h0
      have := congrArg List.length e
      rw [ints_length] at this
      exact List.eq_nil_of_length_eq_zero this
theorem Off.more {cs : List Nat} (h : Off v bs) (hs : ∀ x ∈ cs, x ∈ bs) : Off v cs := fun b hb e => h b hb (hs b e)
theorem Off.none (bs : List Nat) (n c : Nat) : Off (.slice none n c) bs := fun b hb => by cases hb
theorem Off.at {ad : Addr} {n c : Nat} (h : ad.block ∉ bs) : Off (.slice (some ad) n c) bs := fun _ hb => by cases hb; exact h
theorem Src.nil (w : World) : Src w (.slice none 0 0) [] := ⟨fun x hx => by simp at hx, .inl ⟨rfl, rfl⟩⟩
theorem Src.row {b o c : Nat} (hs : ∀ x ∈ l, x < 256) (hc : l.length ≤ c) (hr : w.rangeAt b o (ints .u8 l)) {n : Nat} (hn : l.length = n) : Src w (.slice (some ⟨b, o, none⟩) n c) l := by
  subst hn
  exact ⟨hs, .inr (.inr ⟨b, o, c, rfl, hc, hr⟩)⟩
theorem own_slice {base e size : Nat} {n : Nat} {xs : List Value} (h : w.ownsRow base e size v n xs) : ∃ q c, v = .slice q n c := by
  obtain ⟨_, ⟨rfl, rfl⟩ | ⟨g, cap, cur, rfl, _⟩⟩ := h
  · exact ⟨none, 0, rfl⟩
  · exact ⟨_, cap, rfl⟩
theorem own_none (w : World) (base e size : Nat) : w.ownsRow base e size (.slice none 0 0) 0 [] := ⟨by simp, .inl ⟨rfl, rfl⟩⟩
theorem own_cell {base : Nat} {k : IntKind} {e n : Nat} (h : w.ownsRow base e 1 v n (ints k l)) (hn : 0 < n) : ∃ g c, v = .slice (some ⟨g, 0, none⟩) n c ∧ base ≤ g ∧ g < w.heap.size ∧ n ≤ c ∧ w.rangeAt g 0 (ints k l) := by
  obtain ⟨hl, ⟨rfl, h0⟩ | ⟨g, cap, cur, rfl, hg, hh, hn, hm, hc, ht⟩⟩ := h
  · omega
  · refine ⟨g, cap, rfl, hg, (Array.getElem?_eq_some_iff.1 hh).1, hn, fun j u hu => ?_⟩
    rw [cell_of_row _ _ _ _ _ _ hh, Nat.zero_add]
    have hj := (List.getElem?_eq_some_iff.1 hu).1
    rw [← ht, Nat.mul_one, List.getElem?_take_of_lt (by rw [hl] at hj; omega)] at hu
    simpa using hu
theorem Src.own {base n : Nat} (hs : ∀ x ∈ l, x < 256) (h : w.ownsRow base 5 1 v n (ints .u8 l)) : Src w v l := by
  by_cases h0 : n = 0
  · subst h0
    have hl : l = [] := by
      have := h.1
      rw [ints_length] at this
      exact List.eq_nil_of_length_eq_zero (by omega)
    subst hl
    rcases h.2 with ⟨rfl, _⟩ | ⟨g, cap, cur, rfl, _⟩
    · exact ⟨hs, .inl ⟨rfl, rfl⟩⟩
    · exact ⟨hs, .inr (.inl ⟨_, _, rfl, rfl⟩)⟩
  · have hl : l.length = n := by
      have := h.1
      rw [ints_length] at this
      omega
    obtain ⟨g, c, rfl, _, _, hc, hr⟩ := own_cell h (by omega)
    exact Src.row hs (by omega) hr hl
theorem own_off {base e size n : Nat} {xs : List Value} (h : w.ownsRow base e size v n xs) (hb : ∀ x ∈ bs, x < base) : Off v bs := by
  obtain ⟨_, ⟨rfl, _⟩ | ⟨g, cap, cur, rfl, hg, _⟩⟩ := h
  · exact Off.none _ _ _
  · exact Off.at (ad := ⟨g, 0, none⟩) (fun e => by have := hb g e; omega)
theorem own_only {base e size n : Nat} {xs : List Value} (h : w.ownsRow base e size v n xs) (ho : Only bs w w') (hv : Off v bs) : w'.ownsRow base e size v n xs := by
  obtain ⟨hl, h1 | ⟨g, cap, cur, rfl, hg, hh, hr⟩⟩ := h
  · exact ⟨hl, .inl h1⟩
  · exact ⟨hl, .inr ⟨g, cap, cur, rfl, hg, (ho.block g (Array.getElem?_eq_some_iff.1 hh).1 (hv g rfl)).trans hh, hr⟩⟩
/-- The bytes, as a string. -/
theorem conv_src (h : Src w v l) : (convert 22 9 v).run Tryz.prog w = .ok (.string (strB l)) w := by
  have key : ∀ ad c, (∀ j u, (ints .u8 l)[j]? = some u → w.cell? (ad.add j) = some u) → (convert 22 9 (.slice (some ad) l.length c)).run Tryz.prog w = .ok (.string (strB l)) w := by
    intro ad c hc
    rw [run_convert_bytes_string w 22 9 5 _ _ _ Tryz.underlying22 Tryz.underlying5 Tryz.underlying9]
    have hl : (loadCells ad (ints .u8 l).length).run Tryz.prog w = .ok (ints .u8 l).toArray w := run_loadCells_list (P := Tryz.prog) w ad (ints .u8 l) hc
    rw [ints_length] at hl
    have e : (ints .u8 l) = (l.map (fun (n : Nat) => (n : Int))).map (Value.int .u8) := by simp [ints]
    rw [e] at hl
    exact run_bytesToString w ad l.length c _ hl
  obtain ⟨hs, ⟨rfl, rfl⟩ | ⟨ad, c, rfl, rfl⟩ | ⟨b, o, c, rfl, hc, hr⟩⟩ := h
  · rw [run_convert_bytes_string w 22 9 5 _ _ _ Tryz.underlying22 Tryz.underlying5 Tryz.underlying9]
    simp [strB, Conv.bytesToString]
  · exact key ad c (fun j u hu => by simp [ints] at hu)
  · exact key ⟨b, o, none⟩ c (fun j u hu => by rw [Addr.add_mid]; exact hr j u hu)
end
theorem info5e : ∃ i, Tryz.prog.info? 5 = some i ∧ i.size = 1 ∧ i.bytes = 1 ∧ i.zero = some (.int .u8 0) := info_of (by kernel_rfl)
theorem below_append {base e size n : Nat} {w w' : World} {v : Value} {xs : List Value} (hown : w.ownsRow base e size v n xs) (hg : w.grownBy w' v.ownBlock) (hbase : base ≤ w.heap.size) : Below base w w' :=
  (Below.refl base w).grown hg hbase (fun k hk => (hown.lt k hk).1)
theorem law_append_src {ops : Array Oper} {rest : List Oper} {dst : Option Tmp} {T : TypeId} {pos : String} {after : Array Edge} {a : Act} {w : World} {Q : Exit → Act → World → Prop} {so xo : Operand}
    (base : Nat) (v : Value) (n : Nat) (l : List Nat) (sv : Value) (news : List Nat) (hs : a.eval so = v) (hx : a.eval xo = sv) (hown : w.ownsRow base 5 1 v n (ints .u8 l)) (hsv : Src w sv news)
    (hn : n + news.length ≤ 100000) (hbase : base ≤ w.heap.size)
    (h : ∀ v' w', w'.ownsRow base 5 1 v' (n + news.length) (ints .u8 (l ++ news)) → w.grownBy w' v.ownBlock → wpList Tryz.prog ops Q rest (a.put dst v') w') :
    wpList Tryz.prog ops Q ({ dst := dst, op := .call { callee := .builtin .append, args := #[so, xo], argTypes := #[22, 22] }, type := T, pos := pos, after := after, guard := none } :: rest) a w := by
  obtain ⟨i, hi, hsz, hby, hz⟩ := info5e
  have key : ∀ ad c, sv = .slice (some ad) news.length c → (∀ j u, (ints .u8 news)[j]? = some u → w.cell? (ad.add j) = some u) → wpList Tryz.prog ops Q ({ dst := dst, op := .call { callee := .builtin .append, args := #[so, xo], argTypes := #[22, 22] }, type := T, pos := pos, after := after, guard := none } :: rest) a w := by
    intro ad c e hc
    subst e
    refine wpList_append_own _ rfl so xo 22 rfl base 5 i _ 1 1 Tryz.underlying22 hi hz hsz hby rfl (by decide) v n (ints .u8 l) hs hown ad news.length c (ints .u8 news) hx (by rw [ints_length]; omega) hc (fun u hu => by obtain ⟨q, _, rfl⟩ := List.mem_map.1 hu; rfl) (by unfold maxLen; omega) (by omega) hbase (fun v' w' h1 h2 _ => h v' w' (by rw [ints_append]; exact h1) h2)
  rcases hsv with ⟨hb, ⟨rfl, rfl⟩ | ⟨ad, c, rfl, rfl⟩ | ⟨b, o, c, rfl, hc, hr⟩⟩
  · refine wpList_append_own_none rfl so xo 22 rfl base 5 i 1 Tryz.underlying22 hi v n (ints .u8 l) hs hown hx (h v w ?_ (grownBy_refl _ _))
    simpa [ints] using hown
  · exact key ad c rfl (fun j u hu => by simp [ints] at hu)
  · exact key ⟨b, o, none⟩ c rfl (fun j u hu => by rw [Addr.add_mid]; exact hr j u hu)
theorem one_src (w : World) (x : Nat) (h : x < 256) : Src (w.alloc (.cells #[.int .u8 (x : Int)] 5)) (.slice (some ⟨w.heap.size, 0, none⟩) 1 1) [x] :=
  Src.row (fun y hy => by rw [List.mem_singleton.1 hy]; exact h) (Nat.le_refl 1) (rangeAt_of_row (t := 5) (fr := (0, 0)) (heap_alloc_new w _)) rfl
end Go.Proofs.YtfjdaafckiefdaaGreatDoor.C8
/- What an append may turn: the row that it goes on with, and nothing else that is old. -/
namespace Go.Proofs.YtfjdaafckiefdaaGreatDoor.C8
open Go.RowKit
/-- From the row v to the row v': of what is old only v's block may have turned; v' lies there, or is new. -/
def Grow (v v' : Value) (w w' : World) : Prop := w.grownBy w' v.ownBlock ∧ (v'.ownBlock = v.ownBlock ∨ ∃ b, v'.ownBlock = some b ∧ w.heap.size ≤ b)
section
variable {v v' v'' : Value} {w w' w'' : World}
theorem Grow.refl (v : Value) (w : World) : Grow v v w w := ⟨grownBy_refl _ _, .inl rfl⟩
theorem Grow.size (h : Grow v v' w w') : w.heap.size ≤ w'.heap.size := h.1.size
theorem Grow.trans (h : Grow v v' w w') (k : Grow v' v'' w' w'') : Grow v v'' w w'' := by
  refine ⟨⟨k.1.os.trans h.1.os, k.1.tape.trans h.1.tape, k.1.output.trans h.1.output, Nat.le_trans h.1.size k.1.size, fun i hi hn => ?_⟩, ?_⟩
  · refine (k.1.block i (Nat.lt_of_lt_of_le hi h.1.size) ?_).trans (h.1.block i hi hn)
    rcases h.2 with e | ⟨b, e, hb⟩
    · rw [e]; exact hn
    · rw [e]
      intro c
      cases c
      omega
  · rcases k.2 with e | ⟨b, e, hb⟩
    · rw [e]; exact h.2
    · exact .inr ⟨b, e, Nat.le_trans h.1.size hb⟩
theorem Grow.alloc (h : Grow v v' w w') (o : Obj) : Grow v v' w (w'.alloc o) :=
  h.trans ⟨grownBy_alloc _ _ _, .inl rfl⟩
theorem Grow.below {base e size n : Nat} {xs : List Value} (h : Grow v v' w w') (hown : w.ownsRow base e size v n xs) (hbase : base ≤ w.heap.size) : Below base w w' := below_append hown h.1 hbase
theorem Src.empty {sv : Value} (h : Src w sv []) (w' : World) : Src w' sv [] := by
  obtain ⟨hs, h1 | h1 | ⟨b, o, c, rfl, hc, _⟩⟩ := h
  · exact ⟨hs, .inl h1⟩
  · exact ⟨hs, .inr (.inl h1)⟩
  · exact ⟨hs, .inr (.inl ⟨_, _, rfl, rfl⟩)⟩
theorem Grow.src {sv : Value} {l : List Nat} (h : Grow v v' w w') (hs : Src w sv l) (ho : l ≠ [] → ∀ b, sv.ownBlock = some b → v.ownBlock ≠ some b) : Src w' sv l := by
  by_cases h0 : l = []
  · subst h0
    exact hs.empty w'
  · refine hs.only (bs := v.ownBlock.toList) (Only.of_grown h.1 (fun x hx => by rw [hx]; simp)) (fun b hb hm => ?_)
    simp only [Option.mem_toList] at hm
    exact ho h0 b hb hm
end
/-- Bytes that lie below a place. -/
def Old (B : Nat) (w : World) (v : Value) (l : List Nat) : Prop := Src w v l ∧ (l ≠ [] → ∀ b, v.ownBlock = some b → b < B)
section
variable {w w' : World} {B : Nat} {v : Value} {l : List Nat}
theorem ints_ne {k : IntKind} (h : l ≠ []) : ints k l ≠ [] := by
  intro e
  apply h
  have := congrArg List.length e
  rw [ints_length] at this
  exact List.eq_nil_of_length_eq_zero this
theorem Old.of (h : Src w v l) : Old w.heap.size w v l := by
  refine ⟨h, fun h0 b hb => ?_⟩
  obtain ⟨_, ⟨rfl, rfl⟩ | ⟨_, _, rfl, rfl⟩ | ⟨g, o, c, rfl, _, hr⟩⟩ := h
  · exact absurd rfl h0
  · exact absurd rfl h0
  · cases hb
    exact range_lt hr (ints_ne h0)
theorem Old.keep (h : Old B w v l) (hb : Below B w w') : Old B w' v l := by
  refine ⟨?_, h.2⟩
  obtain ⟨⟨hs, h1 | h1 | ⟨g, o, c, rfl, hc, hr⟩⟩, h2⟩ := h
  · exact ⟨hs, .inl h1⟩
  · exact ⟨hs, .inr (.inl h1)⟩
  · by_cases h0 : l = []
    · subst h0
      exact ⟨hs, .inr (.inl ⟨_, _, rfl, rfl⟩)⟩
    · exact ⟨hs, .inr (.inr ⟨g, o, c, rfl, hc, range_kept hr (hb.block g (h2 h0 g rfl))⟩)⟩
theorem Old.up {B' : Nat} (h : Old B w v l) (hB : B ≤ B') : Old B' w v l := ⟨h.1, fun h0 b hb => Nat.lt_of_lt_of_le (h.2 h0 b hb) hB⟩
theorem Old.only {bs : List Nat} (h : Old B w v l) (ho : Only bs w w') (hB : B ≤ w.heap.size) (hs : ∀ y ∈ bs, B ≤ y) : Old B w' v l := h.keep (ho.below hB hs)
end
theorem Old.below {w w' : World} {B : Nat} {v : Value} {l : List Nat} (h : Old B w v l) (hb : Below w.heap.size w w') : Old B w' v l := ⟨h.1.below hb, h.2⟩
/-- A row of one's own is none of the blocks below. -/
theorem own_apart {base e size n : Nat} {w : World} {v sv : Value} {xs : List Value} {l : List Nat} (h : w.ownsRow base e size v n xs) (hs : l ≠ [] → ∀ b, sv.ownBlock = some b → b < base) : l ≠ [] → ∀ b, sv.ownBlock = some b → v.ownBlock ≠ some b := fun h0 b hb hv => by
  have h1 := (h.lt b hv).1
  have h2 := hs h0 b hb
  omega
theorem law_append_grow {ops : Array Oper} {rest : List Oper} {dst : Option Tmp} {T : TypeId} {pos : String} {after : Array Edge} {a : Act} {w : World} {Q : Exit → Act → World → Prop} {so xo : Operand}
    (base : Nat) (v : Value) (n : Nat) (l : List Nat) (sv : Value) (news : List Nat) (hs : a.eval so = v) (hx : a.eval xo = sv) (hown : w.ownsRow base 5 1 v n (ints .u8 l)) (hsv : Src w sv news)
    (hn : n + news.length ≤ 1000000) (hbase : base ≤ w.heap.size)
    (h : ∀ v' w', w'.ownsRow base 5 1 v' (n + news.length) (ints .u8 (l ++ news)) → Grow v v' w w' → wpList Tryz.prog ops Q rest (a.put dst v') w') :
    wpList Tryz.prog ops Q ({ dst := dst, op := .call { callee := .builtin .append, args := #[so, xo], argTypes := #[22, 22] }, type := T, pos := pos, after := after, guard := none } :: rest) a w := by
  obtain ⟨i, hi, hsz, hby, hz⟩ := info5e
  have key : ∀ ad c, sv = .slice (some ad) news.length c → (∀ j u, (ints .u8 news)[j]? = some u → w.cell? (ad.add j) = some u) → wpList Tryz.prog ops Q ({ dst := dst, op := .call { callee := .builtin .append, args := #[so, xo], argTypes := #[22, 22] }, type := T, pos := pos, after := after, guard := none } :: rest) a w := by
    intro ad c e hc
    subst e
    refine wpList_append_own_at _ rfl so xo 22 rfl base 5 i _ 1 1 Tryz.underlying22 hi hz hsz hby rfl (by decide) v n (ints .u8 l) hs hown ad news.length c (ints .u8 news) hx (by rw [ints_length]; omega) hc (fun u hu => by obtain ⟨q, _, rfl⟩ := List.mem_map.1 hu; rfl) (by unfold maxLen; omega) (by omega) hbase (fun v' w' h1 h2 _ h3 => h v' w' (by rw [ints_append]; exact h1) ⟨h2, h3.elim .inl (fun e => .inr ⟨_, e, Nat.le_refl _⟩)⟩)
  rcases hsv with ⟨hb, ⟨rfl, rfl⟩ | ⟨ad, c, rfl, rfl⟩ | ⟨b, o, c, rfl, hc, hr⟩⟩
  · refine wpList_append_own_none rfl so xo 22 rfl base 5 i 1 Tryz.underlying22 hi v n (ints .u8 l) hs hown hx (h v w ?_ (Grow.refl _ _))
    simpa [ints] using hown
  · exact key ad c rfl (fun j u hu => by simp [ints] at hu)
  · exact key ⟨b, o, none⟩ c rfl (fun j u hu => by rw [Addr.add_mid]; exact hr j u hu)
end Go.Proofs.YtfjdaafckiefdaaGreatDoor.C8
/- The contracts of addSplit, addNumber, addText, addPart and Put. -/
namespace Go.Proofs.YtfjdaafckiefdaaGreatDoor.C8
open Go.RowKit
set_option maxHeartbeats 1000000 in
theorem addSplit_any (l : List Nat) (v : Value) (n base m k : Nat) (w : World) (hown : w.ownsRow base 5 1 v n (ints .u8 l)) (hn : n ≤ 90000) (hbase : base ≤ w.heap.size) (_ : m < 4611686018427387904) (hk : k ≤ 6) :
    Calls Tryz.prog 137 #[v, .int .i64 (m : Int), .int .i64 (k : Int)] w fun e w' => ∃ v', e = .returned v' ∧ w'.ownsRow base 5 1 v' (n + k) (ints .u8 (l ++ Cd.be k m)) ∧ Grow v v' w w' := by
  have HO0 : Hid (w.ownsRow base 5 1 v n (ints .u8 l)) := hown
  have HBS : Hid (base ≤ w.heap.size) := hbase
  have HEL : Hid ((Cd.be k m).length = k) := Cd.be_length k m
  have HEN : Hid (∀ i, i < k → Sp.nth (Cd.be k m) i = m / 256 ^ (k - 1 - i) % 256) := fun i hi => be_nth k i m hi
  obtain ⟨E, hE⟩ : ∃ E, Cd.be k m = E := ⟨_, rfl⟩
  rw [hE] at HEL HEN ⊢
  clear hown hbase hE
  obtain ⟨q0, c0, rfl⟩ := own_slice HO0.out
  go_enter Tryz.func137, Tryz.ntmps137
  go_wp2_with fail
  go_loopw [0, 7] (fun sl u wr => ∃ i : Nat, i ≤ k ∧ u = .int .i64 ((k : Int) - 1 - i) ∧ Hid (wr.ownsRow base 5 1 sl (n + i) (ints .u8 (l ++ E.take i))) ∧ Hid (Grow (.slice q0 n c0) sl w wr)) (fun _ u _ => (intOf u + 1).toNat)
  case atStart =>
    have h0 : w.ownsRow base 5 1 (.slice q0 n c0) (n + 0) (ints .u8 (l ++ E.take 0)) := by simpa using HO0.out
    exact ⟨0, by omega, by simp, h0, Grow.refl _ _⟩
  case round =>
    obtain ⟨i, hi, rfl, HO, HW⟩ := hrel
    obtain ⟨q, cq, rfl⟩ := own_slice HO.out
    have HB2 : Hid (base ≤ wr.heap.size) := Nat.le_trans HBS.out HW.out.size
    by_cases hlt : i < k
    · have HTS : Hid (E.take (i + 1) = E.take i ++ [Sp.nth E i]) := take_succ_nth (by rw [HEL.out]; exact hlt)
      obtain ⟨p, HP⟩ : ∃ p : Nat, Hid (k = i + 1 + p) := ⟨k - 1 - i, by show _ = _; omega⟩
      have hp : (k : Int) - 1 - (i : Int) = (p : Int) := by have := HP.out; omega
      rw [hp]
      have HEI0 : Hid (Sp.nth E i = m / 256 ^ p % 256) := by
        have := HEN.out i hlt
        rwa [show k - 1 - i = p from by have := HP.out; omega] at this
      have p0 : (0 : Int) ≤ (p : Int) := by omega
      have p6 : (p : Int) < 6 := by have := HP.out; omega
      have HPI : Hid ((p : Int) - 1 = (k : Int) - 1 - ((i + 1 : Nat) : Int)) := by show _ = _; have := HP.out; omega
      clear hp
      go_wp2_with (first | with_reducible (refine stop_builtin .append ?_))
      refine Stop.go ?_
      have HEI : Sp.nth E i < 256 := by rw [HEI0.out]; exact Nat.mod_lt _ (by decide)
      rw [shr_byte HEI0.out]
      generalize Sp.nth E i = x at *
      have HO2 : Hid ((wr.alloc (Obj.cells #[.int .u8 (x : Int)] 5)).ownsRow base 5 1 (.slice q (n + i) cq) (n + i) (ints .u8 (l ++ E.take i))) := ownsRow_alloc HO.out _
      have HW2 : Hid (Grow (.slice q0 n c0) (.slice q (n + i) cq) w (wr.alloc (Obj.cells #[.int .u8 (x : Int)] 5))) := HW.out.alloc _
      refine law_append_grow base _ (n + i) (l ++ E.take i) (.slice (some ⟨wr.heap.size, 0, none⟩) 1 1) [x] rfl rfl HO2.out (one_src wr x HEI) (by simp; omega) (by have := HB2.out; simp; omega) ?_
      intro v' w' hown' hg'
      have HO3 : Hid (w'.ownsRow base 5 1 v' (n + (i + 1)) (ints .u8 (l ++ E.take (i + 1)))) := by
        rw [HTS.out, ← List.append_assoc]
        exact hown'
      have HW3 : Hid (Grow (.slice q0 n c0) v' w w') := HW2.out.trans hg'
      clear hown' hg' HO HW HO2 HW2 HTS
      go_wp2_with fail
      go_roundw
      case rel =>
        first
          | exact ⟨i + 1, by omega, by rw [← HPI.out], HO3.out, HW3.out⟩
          | ((repeat apply Exists.intro)
             refine ⟨⟨i + 1, by omega, ?_, HO3.out, HW3.out⟩, rfl⟩
             rw [← HPI.out])
      case measure => simp [intOf]
    · obtain rfl : i = k := by omega
      have h1 := HO.out
      rw [List.take_of_length_le (by rw [HEL.out]; exact Nat.le_refl _)] at h1
      have HO1 : Hid (wr.ownsRow base 5 1 (.slice q (n + i) cq) (n + i) (ints .u8 (l ++ E))) := h1
      clear h1 HO
      have e0 : (i : Int) - 1 - (i : Int) = -1 := by omega
      rw [e0]
      clear e0
      go_wp2_with fail
      go_ret
      exact ⟨_, rfl, HO1.out, HW.out⟩
set_option maxHeartbeats 1000000 in
theorem addNumber_ok (l : List Nat) (v : Value) (n base m : Nat) (w : World) (hown : w.ownsRow base 5 1 v n (ints .u8 l)) (hn : n ≤ 90000) (hbase : base ≤ w.heap.size) (hm : m ≤ 1099511627776) :
    Calls Tryz.prog 120 #[v, .int .i64 (m : Int)] w fun e w' => ∃ v', e = .returned (.tuple #[v', .int .i64 0]) ∧ w'.ownsRow base 5 1 v' (n + 6) (ints .u8 (l ++ Cd.be 6 m)) ∧ Grow v v' w w' := by
  have HO0 : Hid (w.ownsRow base 5 1 v n (ints .u8 l)) := hown
  have HBS : Hid (base ≤ w.heap.size) := hbase
  have HM : Hid (m < 4611686018427387904) := by show _ < _; omega
  have m0 : (0 : Int) ≤ (m : Int) := by omega
  have m1 : (m : Int) ≤ 1099511627776 := by omega
  clear hown hbase
  go_enter Tryz.func120, Tryz.ntmps120
  go_wp2_with (first | (go_at_call 137; refine (addSplit_any l v n base m 6 _ HO0.out hn HBS.out HM.out (by decide)).mono ?_; rintro e w1 ⟨v1, rfl, h1, h2⟩; have HO1 : Hid (w1.ownsRow base 5 1 v1 (n + 6) (ints .u8 (l ++ Cd.be 6 m))) := h1; have HG1 : Hid (Grow v v1 w w1) := h2; clear h1 h2))
  go_ret2
  exact ⟨_, rfl, HO1.out, HG1.out⟩
set_option maxHeartbeats 1000000 in
theorem addNumber_bad (v : Value) (m : Int) (w : World) (hm : m < 0 ∨ 1099511627776 < m) :
    Calls Tryz.prog 120 #[v, .int .i64 m] w fun e w' => e = .returned (.tuple #[.slice none 0 0, .int .i64 12]) ∧ w' = w := by
  rcases hm with h | h
  · go_enter Tryz.func120, Tryz.ntmps120
    go_wp2_with fail
    go_ret2
    exact ⟨rfl, rfl⟩
  · have h0 : ¬ m < 0 := by omega
    go_enter Tryz.func120, Tryz.ntmps120
    go_wp2_with fail
    go_ret2
    exact ⟨rfl, rfl⟩
set_option maxHeartbeats 1000000 in
theorem addText_ok (l : List Nat) (v : Value) (n base : Nat) (sv : Value) (t : List Nat) (w : World) (hown : w.ownsRow base 5 1 v n (ints .u8 l)) (hn : n ≤ 80000) (hbase : base ≤ w.heap.size) (hs : Src w sv t) (ht : t.length ≤ 4096) (ho : t ≠ [] → ∀ b, sv.ownBlock = some b → v.ownBlock ≠ some b) :
    Calls Tryz.prog 121 #[v, sv] w fun e w' => ∃ v', e = .returned (.tuple #[v', .int .i64 0]) ∧ w'.ownsRow base 5 1 v' (n + 2 + t.length) (ints .u8 (l ++ Cd.be 2 t.length ++ t)) ∧ Grow v v' w w' := by
  have HO0 : Hid (w.ownsRow base 5 1 v n (ints .u8 l)) := hown
  have HBS : Hid (base ≤ w.heap.size) := hbase
  have HT : Hid (t.length < 4611686018427387904) := by show _ < _; omega
  have HS : Hid (Src w sv t) := hs
  have HF : Hid (t ≠ [] → ∀ b, sv.ownBlock = some b → v.ownBlock ≠ some b) := ho
  obtain ⟨sp, sc, rfl, -⟩ := hs.slice
  have t0 : (t.length : Int) ≤ 4096 := by omega
  clear hown hbase ho hs
  go_enter Tryz.func121, Tryz.ntmps121
  go_wp2_with (first | (go_at_call 137; refine (addSplit_any l v n base t.length 2 _ HO0.out (by omega) HBS.out HT.out (by decide)).mono ?_; rintro e w1 ⟨v1, rfl, h1, h2⟩; have HO1 : Hid (w1.ownsRow base 5 1 v1 (n + 2) (ints .u8 (l ++ Cd.be 2 t.length))) := h1; have HG1 : Hid (Grow v v1 w w1) := h2; clear h1 h2) | with_reducible (refine stop_builtin .append ?_))
  refine Stop.go ?_
  have hs1 : Src w1 (.slice sp t.length sc) t := HG1.out.src HS.out HF.out
  refine law_append_grow base v1 (n + 2) (l ++ Cd.be 2 t.length) (.slice sp t.length sc) t rfl rfl HO1.out hs1 (by omega) (Nat.le_trans HBS.out HG1.out.size) ?_
  intro v2 w2 h1 h2
  have HO2 : Hid (w2.ownsRow base 5 1 v2 (n + 2 + t.length) (ints .u8 (l ++ Cd.be 2 t.length ++ t))) := h1
  have HG2 : Hid (Grow v v2 w w2) := HG1.out.trans h2
  clear h1 h2 hs1 HO1 HG1
  go_wp2_with fail
  go_ret2
  exact ⟨_, rfl, HO2.out, HG2.out⟩
set_option maxHeartbeats 1000000 in
theorem addText_bad (v : Value) (sp : Option Addr) (n sc : Nat) (w : World) (hn : 4096 < n) (hm : n ≤ 9223372036854775807) :
    Calls Tryz.prog 121 #[v, .slice sp n sc] w fun e w' => e = .returned (.tuple #[.slice none 0 0, .int .i64 11]) ∧ w' = w := by
  have t0 : (4096 : Int) < (n : Int) := by omega
  go_enter Tryz.func121, Tryz.ntmps121
  go_wp2_with fail
  go_ret2
  exact ⟨rfl, rfl⟩
end Go.Proofs.YtfjdaafckiefdaaGreatDoor.C8
/- The contracts of addPart and Put. -/
namespace Go.Proofs.YtfjdaafckiefdaaGreatDoor.C8
open Go.RowKit
theorem str_src (w : World) (l : List Nat) (hl : ∀ x ∈ l, x < 256) : ∃ c w1, (convert 9 22 (.string (strB l))).run Tryz.prog w = .ok (.slice (some ⟨w.heap.size, 0, none⟩) l.length c) w1 ∧ Src w1 (.slice (some ⟨w.heap.size, 0, none⟩) l.length c) l ∧ Below w.heap.size w w1 := by
  have hr := Lib.run_convert_string_bytes (P := Tryz.prog) w 9 22 5 (strB l) Tryz.underlying9 Tryz.underlying22 Tryz.underlying5
  refine ⟨grownCap w (strB l).size 0 5, Lib.bytesWorld w 5 (strB l), ?_, ?_, ?_⟩
  · rw [hr, strB_size]
  · refine Src.row hl ?_ ?_ rfl
    · have := grownCap_ge w (strB l).size 0 5
      rw [strB_size] at this ⊢
      exact this
    · intro j u hu
      have hj : j < l.length := by
        have := (List.getElem?_eq_some_iff.1 hu).1
        rwa [ints_length] at this
      rw [Nat.zero_add, Lib.bytesWorld_cell w 5 (strB l) j (by rw [strB_size]; exact hj), strB_list]
      rw [ints_get _ _ _ hj] at hu
      rw [← hu]
      have hx : l[j] < 256 := hl _ (List.getElem_mem hj)
      simp [Sp.nth, hj, Nat.mod_eq_of_lt hx]
  · exact ⟨rfl, rfl, rfl, by rw [Lib.bytesWorld_size]; omega, fun k hk => Lib.bytesWorld_at_old w 5 (strB l) k hk⟩
theorem law_convert {P : Program} {ops : Array Oper} {rest : List Oper} {dst : Option Tmp} {T : TypeId} {pos : String} {after : Array Edge} {a : Act} {w : World} {Q : Exit → Act → World → Prop} {ty tz : TypeId} {x : Operand} (v0 v1 : Value) (w1 : World)
    (hx : a.eval x = v0) (hrun : (convert ty tz v0).run P w = .ok v1 w1) (h : wpList P ops Q rest (a.put dst v1) w1) :
    wpList P ops Q ({ dst := dst, op := .convert ty tz x, type := T, pos := pos, after := after, guard := none } :: rest) a w := by
  refine wpList_plain rfl fun K' hK' => ?_
  unfold Oper.wp
  simp [execOp, hx, hrun, Result.andThen]
  exact hK' _ _ h
theorem stop_convert {P : Program} {ops : Array Oper} {rest : List Oper} {dst : Option Tmp} {T : TypeId} {pos : String} {after : Array Edge} {a : Act} {w : World} {Q : Exit → Act → World → Prop} (ty tz : TypeId) {x : Operand}
    (h : Stop (wpList P ops Q ({ dst := dst, op := .convert ty tz x, type := T, pos := pos, after := after, guard := none } :: rest) a w)) :
    wpList P ops Q ({ dst := dst, op := .convert ty tz x, type := T, pos := pos, after := after, guard := none } :: rest) a w := h
theorem as3_3 (v : Value) (w : World) : (Instr.typeAssert (.iface 3 v) 20 3 true).run Tryz.prog w = .ok (.tuple #[v, .bool true]) w := by kernel_rfl
theorem as25_3 (v : Value) (w : World) : (Instr.typeAssert (.iface 22 v) 20 3 true).run Tryz.prog w = .ok (.tuple #[.int .i64 0, .bool false]) w := by kernel_rfl
theorem as9_3 (v : Value) (w : World) : (Instr.typeAssert (.iface 9 v) 20 3 true).run Tryz.prog w = .ok (.tuple #[.int .i64 0, .bool false]) w := by kernel_rfl
theorem as25_25 (v : Value) (w : World) : (Instr.typeAssert (.iface 22 v) 20 22 true).run Tryz.prog w = .ok (.tuple #[v, .bool true]) w := by kernel_rfl
theorem as9_25 (v : Value) (w : World) : (Instr.typeAssert (.iface 9 v) 20 22 true).run Tryz.prog w = .ok (.tuple #[.slice none 0 0, .bool false]) w := by kernel_rfl
theorem as9_9 (v : Value) (w : World) : (Instr.typeAssert (.iface 9 v) 20 9 true).run Tryz.prog w = .ok (.tuple #[v, .bool true]) w := by kernel_rfl
attribute [local go_sem] as3_3 as25_3 as9_3 as25_25 as9_25 as9_9
/-- What was handed to Put is a part; its bytes, where it has any, lie below. -/
def PartIs (w : World) (base : Nat) (u : Value) (p : Pt) : Prop :=
  (∀ x ∈ p.text, x < 256) ∧ ((p.isText = false ∧ u = .iface 3 (.int .i64 p.n)) ∨ (p.isText = true ∧ p.text.length ≤ 9223372036854775807 ∧ ((∃ s, u = .iface 22 s ∧ Old base w s p.text) ∨ u = .iface 9 (.string (strB p.text)))))
theorem PartIs.below {w w' : World} {base : Nat} {u : Value} {p : Pt} (h : PartIs w base u p) (hb : Below w.heap.size w w') : PartIs w' base u p := by
  obtain ⟨h0, h1 | ⟨h1, h2, ⟨s, h3, h4⟩ | h3⟩⟩ := h
  · exact ⟨h0, .inl h1⟩
  · exact ⟨h0, .inr ⟨h1, h2, .inl ⟨s, h3, h4.below hb⟩⟩⟩
  · exact ⟨h0, .inr ⟨h1, h2, .inr h3⟩⟩
theorem bel_le {w w' : World} {a b : Nat} (h : Below b w w') (hab : a ≤ b) : Below a w w' := ⟨h.os, h.tape, h.output, h.size, fun k hk => h.block k (Nat.lt_of_lt_of_le hk hab)⟩
theorem own_below {base e size n : Nat} {w w' : World} {v : Value} {xs : List Value} (h : w.ownsRow base e size v n xs) (hb : Below w.heap.size w w') : w'.ownsRow base e size v n xs :=
  own_only (bs := []) h (Only.of_below hb []) (fun _ _ hx => by cases hx)
set_option maxHeartbeats 1000000 in
theorem addPart_num_ok (l : List Nat) (v : Value) (n base m : Nat) (w : World) (hown : w.ownsRow base 5 1 v n (ints .u8 l)) (hn : n ≤ 80000) (hbase : base ≤ w.heap.size) (hm : m ≤ 1099511627776) :
    Calls Tryz.prog 91 #[v, .iface 3 (.int .i64 (m : Int))] w fun e w' => ∃ v', e = .returned (.tuple #[v', .int .i64 0]) ∧ w'.ownsRow base 5 1 v' (n + 6) (ints .u8 (l ++ Cd.be 6 m)) ∧ Below base w w' := by
  have HC := fun W (h : W = w) => (h ▸ addNumber_ok l v n base m w hown (by omega) hbase hm : Calls Tryz.prog 120 #[v, .int .i64 (m : Int)] W fun e w' => ∃ v', e = .returned (.tuple #[v', .int .i64 0]) ∧ w'.ownsRow base 5 1 v' (n + 6) (ints .u8 (l ++ Cd.be 6 m)) ∧ Grow v v' w w')
  have HG : Hid (∀ v' w', Grow v v' w w' → Below base w w') := fun v' w' h => h.below hown hbase
  clear hown hbase
  go_enter Tryz.func91, Tryz.ntmps91
  go_wp2_with (first | (go_at_call 120; refine (HC _ rfl).mono ?_; rintro e w1 ⟨v1, rfl, h1, h2⟩; have HO1 : Hid (w1.ownsRow base 5 1 v1 (n + 6) (ints .u8 (l ++ Cd.be 6 m))) := h1; have HG1 : Hid (Below base w w1) := HG.out _ _ h2; clear h1 h2))
  go_ret2
  exact ⟨_, rfl, HO1.out, HG1.out⟩
set_option maxHeartbeats 1000000 in
theorem addPart_num_bad (v : Value) (m : Int) (w : World) (hm : m < 0 ∨ 1099511627776 < m) :
    Calls Tryz.prog 91 #[v, .iface 3 (.int .i64 m)] w fun e w' => e = .returned (.tuple #[.slice none 0 0, .int .i64 12]) ∧ Below w.heap.size w w' := by
  have HM : Hid (m < 0 ∨ 1099511627776 < m) := hm
  clear hm
  go_enter Tryz.func91, Tryz.ntmps91
  go_wp2_with (first | (go_at_call 120; refine (addNumber_bad v m _ HM.out).mono ?_; rintro e w1 ⟨rfl, rfl⟩))
  go_ret2
  exact ⟨rfl, Below.refl _ _⟩
set_option maxHeartbeats 1000000 in
theorem addPart_text_ok (l : List Nat) (v : Value) (n base : Nat) (sv : Value) (t : List Nat) (w : World) (hown : w.ownsRow base 5 1 v n (ints .u8 l)) (hn : n ≤ 80000) (hbase : base ≤ w.heap.size) (hs : Src w sv t) (ht : t.length ≤ 4096) (ho : t ≠ [] → ∀ b, sv.ownBlock = some b → v.ownBlock ≠ some b) :
    Calls Tryz.prog 91 #[v, .iface 22 sv] w fun e w' => ∃ v', e = .returned (.tuple #[v', .int .i64 0]) ∧ w'.ownsRow base 5 1 v' (n + 2 + t.length) (ints .u8 (l ++ Cd.be 2 t.length ++ t)) ∧ Below base w w' := by
  have HC := fun W (h : W = w) => (h ▸ addText_ok l v n base sv t w hown hn hbase hs ht ho : Calls Tryz.prog 121 #[v, sv] W fun e w' => ∃ v', e = .returned (.tuple #[v', .int .i64 0]) ∧ w'.ownsRow base 5 1 v' (n + 2 + t.length) (ints .u8 (l ++ Cd.be 2 t.length ++ t)) ∧ Grow v v' w w')
  have HG : Hid (∀ v' w', Grow v v' w w' → Below base w w') := fun v' w' h => h.below hown hbase
  clear hown hbase hs ho
  go_enter Tryz.func91, Tryz.ntmps91
  go_wp2_with (first | (go_at_call 121; refine (HC _ rfl).mono ?_; rintro e w1 ⟨v1, rfl, h1, h2⟩; have HO1 : Hid (w1.ownsRow base 5 1 v1 (n + 2 + t.length) (ints .u8 (l ++ Cd.be 2 t.length ++ t))) := h1; have HG1 : Hid (Below base w w1) := HG.out _ _ h2; clear h1 h2))
  go_ret2
  exact ⟨_, rfl, HO1.out, HG1.out⟩
set_option maxHeartbeats 1000000 in
theorem addPart_text_bad (v : Value) (sp : Option Addr) (n sc : Nat) (w : World) (hn : 4096 < n) (hm : n ≤ 9223372036854775807) :
    Calls Tryz.prog 91 #[v, .iface 22 (.slice sp n sc)] w fun e w' => e = .returned (.tuple #[.slice none 0 0, .int .i64 11]) ∧ Below w.heap.size w w' := by
  go_enter Tryz.func91, Tryz.ntmps91
  go_wp2_with (first | (go_at_call 121; refine (addText_bad v sp n sc _ hn hm).mono ?_; rintro e w1 ⟨rfl, rfl⟩))
  go_ret2
  exact ⟨rfl, Below.refl _ _⟩
set_option maxHeartbeats 1000000 in
theorem addPart_str_ok (l : List Nat) (v : Value) (n base : Nat) (t : List Nat) (w : World) (hown : w.ownsRow base 5 1 v n (ints .u8 l)) (hn : n ≤ 80000) (hbase : base ≤ w.heap.size) (hl : ∀ x ∈ t, x < 256) (ht : t.length ≤ 4096) :
    Calls Tryz.prog 91 #[v, .iface 9 (.string (strB t))] w fun e w' => ∃ v', e = .returned (.tuple #[v', .int .i64 0]) ∧ w'.ownsRow base 5 1 v' (n + 2 + t.length) (ints .u8 (l ++ Cd.be 2 t.length ++ t)) ∧ Below base w w' := by
  obtain ⟨c, w1, hr, hs1, hb1⟩ := str_src w t hl
  have ho1 := own_below hown hb1
  have hbase1 := Nat.le_trans hbase hb1.size
  have HC := fun W (h : W = w1) => (h ▸ addText_ok l v n base (.slice (some ⟨w.heap.size, 0, none⟩) t.length c) t w1 ho1 hn hbase1 hs1 ht (fun _ b hb hv => by cases hb; have := (hown.lt _ hv).2; exact absurd this (Nat.lt_irrefl _)) : Calls Tryz.prog 121 #[v, .slice (some ⟨w.heap.size, 0, none⟩) t.length c] W fun e w' => ∃ v', e = .returned (.tuple #[v', .int .i64 0]) ∧ w'.ownsRow base 5 1 v' (n + 2 + t.length) (ints .u8 (l ++ Cd.be 2 t.length ++ t)) ∧ Grow v v' w1 w')
  have HG : Hid (∀ v' w', Grow v v' w1 w' → Below base w w') := fun v' w' h => (bel_le hb1 hbase).trans (h.below ho1 hbase1)
  have HR : Hid ((convert 9 22 (.string (strB t))).run Tryz.prog w = .ok (.slice (some ⟨w.heap.size, 0, none⟩) t.length c) w1) := hr
  clear hown hbase hr hs1 hb1 ho1 hbase1
  generalize strB t = st at *
  go_enter Tryz.func91, Tryz.ntmps91
  go_wp2_with (first | with_reducible (refine stop_convert 9 22 ?_))
  refine Stop.go ?_
  refine law_convert (.string st) _ w1 rfl HR.out ?_
  generalize w.heap.size = g at *
  clear HR
  go_wp2_with (first | (go_at_call 121; refine (HC _ rfl).mono ?_; rintro e w2 ⟨v1, rfl, h1, h2⟩; have HO1 : Hid (w2.ownsRow base 5 1 v1 (n + 2 + t.length) (ints .u8 (l ++ Cd.be 2 t.length ++ t))) := h1; have HG1 : Hid (Below base w w2) := HG.out _ _ h2; clear h1 h2))
  go_ret2
  exact ⟨_, rfl, HO1.out, HG1.out⟩
set_option maxHeartbeats 1000000 in
theorem addPart_str_bad (v : Value) (t : List Nat) (w : World) (hl : ∀ x ∈ t, x < 256) (hn : 4096 < t.length) (hm : t.length ≤ 9223372036854775807) :
    Calls Tryz.prog 91 #[v, .iface 9 (.string (strB t))] w fun e w' => e = .returned (.tuple #[.slice none 0 0, .int .i64 11]) ∧ Below w.heap.size w w' := by
  obtain ⟨c, w1, hr, -, hb1⟩ := str_src w t hl
  have HR : Hid ((convert 9 22 (.string (strB t))).run Tryz.prog w = .ok (.slice (some ⟨w.heap.size, 0, none⟩) t.length c) w1) := hr
  have HB : Hid (Below w.heap.size w w1) := hb1
  clear hr hb1
  generalize strB t = st at *
  go_enter Tryz.func91, Tryz.ntmps91
  go_wp2_with (first | with_reducible (refine stop_convert 9 22 ?_))
  refine Stop.go ?_
  refine law_convert (.string st) _ w1 rfl HR.out ?_
  clear HR
  go_wp2_with (first | (go_at_call 121; refine (addText_bad v _ t.length c _ hn hm).mono ?_; rintro e w2 ⟨rfl, rfl⟩))
  go_ret2
  exact ⟨rfl, HB.out⟩
theorem addPart_ok (l : List Nat) (v : Value) (n base : Nat) (u : Value) (p : Pt) (w : World) (hown : w.ownsRow base 5 1 v n (ints .u8 l)) (hn : n ≤ 80000) (hbase : base ≤ w.heap.size) (hp : PartIs w base u p) (hw : Cd.wrong p = 0) :
    Calls Tryz.prog 91 #[v, u] w fun e w' => ∃ v', e = .returned (.tuple #[v', .int .i64 0]) ∧ w'.ownsRow base 5 1 v' (n + (Cd.one p).length) (ints .u8 (l ++ Cd.one p)) ∧ Below base w w' := by
  obtain ⟨h0, ⟨h1, rfl⟩ | ⟨h1, h2, h3⟩⟩ := hp
  · have hw' : 0 ≤ p.n ∧ p.n ≤ 1099511627776 := by
      unfold Cd.wrong at hw
      rw [if_neg (by rw [h1]; decide)] at hw
      split at hw
      · contradiction
      · omega
    have e1 : Cd.one p = Cd.be 6 p.n.toNat := by unfold Cd.one; rw [if_neg (by rw [h1]; decide)]
    have e2 : p.n = (p.n.toNat : Int) := by omega
    rw [e1, Cd.be_length]
    have := addPart_num_ok l v n base p.n.toNat w hown hn hbase (by omega)
    rwa [← e2] at this
  · have hw' : p.text.length ≤ 4096 := by
      unfold Cd.wrong at hw
      rw [if_pos h1] at hw
      split at hw
      · contradiction
      · omega
    have e1 : Cd.one p = Cd.be 2 p.text.length ++ p.text := by unfold Cd.one; rw [if_pos h1]
    rw [e1, List.length_append, Cd.be_length, ← Nat.add_assoc, ← List.append_assoc]
    rcases h3 with ⟨s, rfl, h4⟩ | rfl
    · exact addPart_text_ok l v n base s p.text w hown hn hbase h4.1 hw' (own_apart hown h4.2)
    · exact addPart_str_ok l v n base p.text w hown hn hbase h0 hw'
theorem addPart_bad (v : Value) (base : Nat) (u : Value) (p : Pt) (w : World) (hp : PartIs w base u p) (hw : Cd.wrong p ≠ 0) :
    Calls Tryz.prog 91 #[v, u] w fun e w' => e = .returned (.tuple #[.slice none 0 0, .int .i64 (Cd.wrong p : Nat)]) ∧ Below w.heap.size w w' := by
  obtain ⟨h0, ⟨h1, rfl⟩ | ⟨h1, h2, h3⟩⟩ := hp
  · have hx : p.n < 0 ∨ 1099511627776 < p.n := by
      unfold Cd.wrong at hw
      rw [if_neg (by rw [h1]; decide)] at hw
      split at hw
      · assumption
      · contradiction
    have e1 : Cd.wrong p = 12 := by unfold Cd.wrong; rw [if_neg (by rw [h1]; decide), if_pos hx]
    rw [e1]
    exact addPart_num_bad v p.n w hx
  · have hx : 4096 < p.text.length := by
      unfold Cd.wrong at hw
      rw [if_pos h1] at hw
      split at hw
      · assumption
      · contradiction
    have e1 : Cd.wrong p = 11 := by unfold Cd.wrong; rw [if_pos h1, if_pos hx]
    rw [e1]
    rcases h3 with ⟨s, rfl, h4⟩ | rfl
    · obtain ⟨sp, sc, rfl, -⟩ := h4.1.slice
      exact addPart_text_bad v sp _ sc w hx h2
    · exact addPart_str_bad v p.text w h0 hx h2
/-- A slice of parts as any values. -/
def PartsIs (w : World) (base : Nat) (q : Option Addr) (ps : List Pt) : Prop :=
  ∀ j (h : j < ps.length), ∃ b o u, q = some ⟨b, o, none⟩ ∧ b < w.heap.size ∧ w.cell? ⟨b, o + j, none⟩ = some u ∧ PartIs w base u ps[j]
/-- What Put tells. -/
def PutSays (base : Nat) (ps : List Pt) (e : Ending) (w w' : World) : Prop :=
  Below base w w' ∧ ((Cd.err ps = 0 ∧ ∃ v, e = .returned (.tuple #[v, .int .i64 0]) ∧ w'.ownsRow base 5 1 v (Cd.enc ps).length (ints .u8 (Cd.enc ps))) ∨ (Cd.err ps ≠ 0 ∧ e = .returned (.tuple #[.slice none 0 0, .int .i64 (Cd.err ps : Nat)])))
set_option maxHeartbeats 2000000 in
theorem Put_any (ps : List Pt) (q : Option Addr) (c : Nat) (w : World) (hl : ps.length ≤ 20) (hp : PartsIs w w.heap.size q ps) :
    Calls Tryz.prog 43 #[.slice q ps.length c] w fun e w' => PutSays w.heap.size ps e w w' := by
  have HP : Hid (PartsIs w w.heap.size q ps) := hp
  obtain ⟨n, HN⟩ : ∃ n, Hid (ps.length = n) := ⟨_, rfl⟩
  rw [HN.out] at hl ⊢
  clear hp
  have l1 : (n : Int) ≤ 20 := by omega
  go_enter Tryz.func43, Tryz.ntmps43
  go_wp2_with fail
  go_loopw [4, 10] (fun sl i wr => ∃ j : Nat, j ≤ n ∧ i = .int .i64 j ∧ Hid (wr.ownsRow w.heap.size 5 1 sl (Cd.enc (ps.take j)).length (ints .u8 (Cd.enc (ps.take j)))) ∧ Hid (Below w.heap.size w wr) ∧ Hid (Cd.err (ps.take j) = 0)) (fun _ i _ => n - (intOf i).toNat)
  case atStart => exact ⟨0, by omega, rfl, own_none _ _ _ _, Below.refl _ _, rfl⟩
  case round =>
    obtain ⟨j, hj, rfl, HO, HB, HE⟩ := hrel
    by_cases hlt : j < n
    · have hjp : j < ps.length := by rw [HN.out]; exact hlt
      obtain ⟨b, o, u, rfl, hb, hc, hpart⟩ := HP.out j hjp
      have d1 := (HB.out.cell (p := ⟨b, o + j, none⟩) hb).trans hc
      have HPT : Hid (PartIs wr w.heap.size u ps[j]) := hpart.below HB.out
      have j1 : (j : Int) < (n : Int) := by omega
      have j0 : (0 : Int) ≤ (j : Int) := by omega
      have HL : Hid ((Cd.enc (ps.take j)).length ≤ 80000) := by
        have h1 := Cd.enc_length_le (Cd.wrong_of_err HE.out)
        have h2 : (ps.take j).length ≤ 19 := by rw [List.length_take]; omega
        show _ ≤ _
        omega
      have HS : Hid (w.heap.size ≤ wr.heap.size) := HB.out.size
      clear hc hpart
      by_cases hw : Cd.wrong ps[j] = 0
      · have HE2 : Hid (Cd.err (ps.take (j + 1)) = 0) := Cd.err_take_succ HE.out hjp hw
        have HC2 : Hid (Cd.enc (ps.take (j + 1)) = Cd.enc (ps.take j) ++ Cd.one ps[j]) := by
          show _ = _
          rw [List.take_succ_eq_append_getElem hjp, Cd.enc_snoc]
        have HC : ∀ W, W = wr → Calls Tryz.prog 91 #[u4, u] W fun e w' => ∃ v', e = .returned (.tuple #[v', .int .i64 0]) ∧ Hid (w'.ownsRow w.heap.size 5 1 v' (Cd.enc (ps.take (j + 1))).length (ints .u8 (Cd.enc (ps.take (j + 1))))) ∧ Hid (Below w.heap.size w w') := by
          rintro W rfl
          refine (addPart_ok _ u4 _ w.heap.size u ps[j] W HO.out HL.out HS.out HPT.out hw).mono ?_
          rintro e w' ⟨v', rfl, h1, h2⟩
          refine ⟨v', rfl, ?_, HB.out.trans h2⟩
          show World.ownsRow _ _ _ _ _ _ _
          rw [HC2.out, List.length_append]
          exact h1
        clear hw HC2 HL HPT HO HE hjp
        go_wp2_with (first | (go_at_call 91; refine (HC _ rfl).mono ?_; rintro e w1 ⟨v1, rfl, HO1, HB1⟩))
        refine ⟨⟨j + 1, by omega, by simp, HO1, HB1, HE2⟩, ?_⟩
        simp only [intOf]
        omega
      · have HE2 : Hid (Cd.err ps = Cd.wrong ps[j]) := Cd.err_take HE.out hjp hw
        obtain ⟨er, HER⟩ : ∃ er, Hid (Cd.err ps = er) := ⟨_, rfl⟩
        have HC : ∀ W, W = wr → Calls Tryz.prog 91 #[u4, u] W fun e w' => e = .returned (.tuple #[.slice none 0 0, .int .i64 (er : Nat)]) ∧ Hid (Below w.heap.size w w') := by
          rintro W rfl
          refine (addPart_bad u4 w.heap.size u ps[j] W HPT.out hw).mono ?_
          rintro e w' ⟨rfl, h2⟩
          exact ⟨by rw [← HER.out, HE2.out], HB.out.trans (bel_le h2 HS.out)⟩
        have HNZ : Hid (Cd.err ps ≠ 0) := by show _ ≠ _; rw [HE2.out]; exact hw
        have hz : ¬ (er : Int) = 0 := by have := HNZ.out; rw [HER.out] at this; omega
        clear hw HL HPT HO HE hjp HE2
        go_wp2_with (first | (go_at_call 91; refine (HC _ rfl).mono ?_; rintro e w1 ⟨rfl, HB1⟩))
        go_ret2
        exact ⟨HB1.out, .inr ⟨HNZ.out, by rw [HER.out]; rfl⟩⟩
    · obtain rfl : j = n := by omega
      have j1 : ¬ (j : Int) < (j : Int) := by omega
      have HE0 : Hid (Cd.err ps = 0) := by have := HE.out; rwa [List.take_of_length_le (by rw [HN.out]; omega)] at this
      have HO0 : Hid (wr.ownsRow w.heap.size 5 1 u4 (Cd.enc ps).length (ints .u8 (Cd.enc ps))) := by have := HO.out; rwa [List.take_of_length_le (by rw [HN.out]; omega)] at this
      clear HE HO
      go_wp2_with fail
      go_ret2
      exact ⟨HB.out, .inl ⟨HE0.out, _, rfl, HO0.out⟩⟩
end Go.Proofs.YtfjdaafckiefdaaGreatDoor.C8
/- The contracts of the reader: joined, Clone, Read, spoil, Number, Text, Bad, End. -/
namespace Go.Proofs.YtfjdaafckiefdaaGreatDoor.C8
open Go.RowKit
theorem i64_or_nat (a b : Nat) (ha : a < 9223372036854775808) (hb : b < 9223372036854775808) : bits .or .i64 (a : Int) (b : Int) = ((a ||| b : Nat) : Int) := by
  have hx : a ||| b < 2 ^ 63 := Nat.or_lt_two_pow (by omega) (by omega)
  show IntKind.i64.wrap ((BitVec.ofInt 64 (a : Int) ||| BitVec.ofInt 64 (b : Int)).toNat : Int) = _
  rw [BitVec.toNat_or, ofInt_u64 a (by omega), ofInt_u64 b (by omega)]
  exact i64_id _ (by omega)
theorem or_byte_i {a x : Nat} (ha : a < 36028797018963968) (hx : x < 256) : bits BinOp.or .i64 ((a : Int) * 256) (x : Int) = (a : Int) * 256 + (x : Int) := by
  have h := i64_or_nat (a * 256) x (by omega) (by omega)
  rw [Int.natCast_mul] at h
  refine h.trans ?_
  rw [Nat.mul_comm, ← Nat.two_pow_add_eq_or_of_lt (i := 8) hx a]
  omega
set_option maxHeartbeats 1000000 in
theorem joined_any (l : List Nat) (b o c : Nat) (w : World) (hl : l.length ≤ 6) (hs : ∀ x ∈ l, x < 256) (hr : w.rangeAt b o (ints .u8 l)) :
    Calls Tryz.prog 93 #[.slice (some ⟨b, o, none⟩) l.length c] w fun e w' => e = .returned (.int .i64 (Cd.val l : Nat)) ∧ w' = w := by
  obtain ⟨n, HN⟩ : ∃ n, Hid (l.length = n) := ⟨_, rfl⟩
  have hl6 : n ≤ 6 := by rw [← HN.out]; exact hl
  rw [HN.out]
  have HV : Hid (∀ k, k < n → Cd.val (l.take (k + 1)) = Cd.val (l.take k) * 256 + Sp.nth l k) := fun k hk => val_take (by rw [HN.out]; exact hk)
  have HL : Hid (∀ k, k < n → Cd.val (l.take k) < 36028797018963968) := fun k hk => by
    have h1 := Cd.val_lt (l.take k) (fun x hx => hs x (List.mem_of_mem_take hx))
    have h2 : (l.take k).length ≤ 5 := by rw [List.length_take]; omega
    exact Nat.lt_of_lt_of_le h1 (Nat.le_trans (Nat.pow_le_pow_right (by decide) h2) (by decide))
  have HC : Hid (∀ k, k < n → w.cell? ⟨b, o + k, none⟩ = some (.int .u8 (Sp.nth l k : Nat))) := fun k hk => hr k _ (ints_get _ _ _ (by rw [HN.out]; exact hk))
  have HX : Hid (∀ k, k < n → Sp.nth l k < 256) := fun k _ => Sp.nth_lt (by decide) hs k
  have HE : Hid (l.take n = l) := List.take_of_length_le (by rw [HN.out]; omega)
  have H0 : Hid (Cd.val (l.take 0) = 0) := rfl
  clear hl hs hr
  go_enter Tryz.func93, Tryz.ntmps93
  go_wp2_with fail
  go_loop [3, 8] (fun v i => ∃ k : Nat, k ≤ n ∧ i = .int .i64 k ∧ v = .int .i64 (Cd.val (l.take k) : Nat)) (fun _ i => n - (intOf i).toNat)
  case atStart => exact ⟨0, by omega, rfl, by rw [H0.out]; rfl⟩
  case round =>
    obtain ⟨k, hk, rfl, rfl⟩ := hrel
    by_cases hlt : k < n
    · have hx := HX.out k hlt
      have hcell := HC.out k hlt
      have hv := HL.out k hlt
      have HNH : Hid (Cd.val (l.take (k + 1)) = Cd.val (l.take k) * 256 + Sp.nth l k) := HV.out k hlt
      generalize Cd.val (l.take k) = a at *
      generalize Sp.nth l k = x at *
      have hor := or_byte_i hv hx
      have k1 : (k : Int) < (n : Int) := by omega
      have k0 : (0 : Int) ≤ (k : Int) := by omega
      go_wp2_with fail
      go_round
      case rel => exact ⟨k + 1, by omega, by go_num, by rw [HNH.out]; go_num⟩
      case measure => simp [intOf]; omega
    · obtain rfl : k = n := by omega
      have k1 : ¬ (k : Int) < (k : Int) := by omega
      rw [HE.out]
      clear HE HV HL H0
      go_wp2_with fail
      go_ret
      exact ⟨rfl, rfl⟩
/-- A reader: what it has left, and whether it is bad; its bytes lie in the block g, from o on. -/
def RdAt (w : World) (p g o : Nat) (l : List Nat) (bad : Bool) : Prop :=
  (∀ x ∈ l, x < 256) ∧ l.length ≤ 1000000 ∧ p ≠ g ∧ ∃ sl, w.heap[p]? = some (.cells #[sl, .bool bad] 134 (0, 0)) ∧ ((∃ q c, sl = .slice q 0 c ∧ l = []) ∨ ∃ c, sl = .slice (some ⟨g, o, none⟩) l.length c ∧ l.length ≤ c ∧ w.rangeAt g o (ints .u8 l))
theorem RdAt.lt {w : World} {p g o : Nat} {l : List Nat} {bad : Bool} (h : RdAt w p g o l bad) : p < w.heap.size := by
  obtain ⟨_, _, _, sl, h1, _⟩ := h
  exact (Array.getElem?_eq_some_iff.1 h1).1
theorem RdAt.kept {w w' : World} {p g o : Nat} {l : List Nat} {bad : Bool} (h : RdAt w p g o l bad) (hp : w'.heap[p]? = w.heap[p]?) (hg : g < w.heap.size → w'.heap[g]? = w.heap[g]?) : RdAt w' p g o l bad := by
  obtain ⟨h1, h2, h3, sl, h4, h5⟩ := h
  refine ⟨h1, h2, h3, sl, hp.trans h4, ?_⟩
  rcases h5 with h5 | ⟨c, h5, h6, h7⟩
  · exact .inl h5
  · refine .inr ⟨c, h5, h6, ?_⟩
    by_cases h0 : l = []
    · subst h0
      exact fun j u hu => by simp [ints] at hu
    · exact range_kept h7 (hg (range_lt h7 (fun e => h0 (by have := congrArg List.length e; rw [ints_length] at this; exact List.eq_nil_of_length_eq_zero this))))
theorem RdAt.below {w w' : World} {p g o : Nat} {l : List Nat} {bad : Bool} (h : RdAt w p g o l bad) (hb : Below w.heap.size w w') : RdAt w' p g o l bad :=
  h.kept (hb.block p h.lt) (fun hg => hb.block g hg)
theorem RdAt.only {w w' : World} {p g o : Nat} {l : List Nat} {bad : Bool} {bs : List Nat} (h : RdAt w p g o l bad) (hb : Only bs w w') (hp : p ∉ bs) (hg : g ∉ bs) : RdAt w' p g o l bad :=
  h.kept (hb.block p h.lt hp) (fun hl => hb.block g hl hg)
theorem RdAt.last {w : World} {p g o : Nat} {bad : Bool} {sl : Value} (h : w.heap[p]? = some (.cells #[sl, .bool bad] 134 (0, 0))) (hpg : p ≠ g) (q : Option Addr) (c : Nat) :
    RdAt (w.setCell ⟨p, 0, none⟩ (.slice q 0 c)) p g o [] bad :=
  ⟨(fun x hx => by cases hx), by simp, hpg, _, heap_setCell_same w p 0 _ 134 (.slice q 0 c) h, .inl ⟨_, _, rfl, rfl⟩⟩
/-- Its bytes are set anew. -/
theorem RdAt.next {w : World} {p g o : Nat} {l : List Nat} {bad : Bool} {sl : Value} (h : w.heap[p]? = some (.cells #[sl, .bool bad] 134 (0, 0))) (hs : ∀ x ∈ l, x < 256) (hl : l.length ≤ 1000000) (hpg : p ≠ g) {n c : Nat} (hn : l.length = n) (hc : n ≤ c) (hr : w.rangeAt g o (ints .u8 l)) :
    RdAt (w.setCell ⟨p, 0, none⟩ (.slice (some ⟨g, o, none⟩) n c)) p g o l bad := by
  have h1 := heap_setCell_same w p 0 _ 134 (.slice (some ⟨g, o, none⟩) n c) h
  refine ⟨hs, hl, hpg, _, h1, .inr ⟨c, by rw [hn], by omega, range_kept hr (Below.heap_setCell _ _ _ _ (fun e => hpg e.symm))⟩⟩
theorem ints_drop (k : IntKind) (l : List Nat) (n : Nat) : ints k (l.drop n) = (ints k l).drop n := by simp [ints]
theorem range_drop {w : World} {g o : Nat} {l : List Nat} (h : w.rangeAt g o (ints .u8 l)) (n : Nat) : w.rangeAt g (o + n) (ints .u8 (l.drop n)) := fun j u hu => by
  rw [ints_drop, List.getElem?_drop] at hu
  rw [Nat.add_assoc]
  exact h _ _ hu
theorem range_take {w : World} {g o : Nat} {l : List Nat} (h : w.rangeAt g o (ints .u8 l)) (n : Nat) : w.rangeAt g o (ints .u8 (l.take n)) := fun j u hu => by
  have e : ints .u8 (l.take n) = (ints .u8 l).take n := by simp [ints]
  rw [e, List.getElem?_take] at hu
  split at hu
  · exact h _ _ hu
  · cases hu
set_option maxHeartbeats 1000000 in
theorem spoil_any (w : World) (p g o : Nat) (l : List Nat) (bad : Bool) (h : RdAt w p g o l bad) :
    Calls Tryz.prog 94 #[.pointer (some ⟨p, 0, none⟩)] w fun e w' => e = .returned (.tuple #[]) ∧ RdAt w' p g o [] true ∧ Only [p] w w' := by
  obtain ⟨h1, h2, h3, sl, h4, -⟩ := h
  have c0 : w.cell? ⟨p, 0, none⟩ = some sl := by rw [cell_of_row _ _ _ _ _ _ h4]; rfl
  have c1 : w.cell? ⟨p, 1, none⟩ = some (.bool bad) := by rw [cell_of_row _ _ _ _ _ _ h4]; rfl
  have f0 : w.frozen? ⟨p, 0, none⟩ = false := frozen_of_row _ _ _ _ _ h4
  have f1 : w.frozen? ⟨p, 1, none⟩ = false := frozen_of_row _ _ _ _ _ h4
  have HR : Hid (RdAt ((w.setCell ⟨p, 0, none⟩ (.slice none 0 0)).setCell ⟨p, 1, none⟩ (.bool true)) p g o [] true) := by
    have k1 := heap_setCell_same w p 0 _ 134 (.slice none 0 0) h4
    have k2 := heap_setCell_same _ p 1 _ 134 (.bool true) k1
    show RdAt _ _ _ _ _ _
    exact ⟨(fun x hx => by cases hx), by simp, h3, _, k2, .inl ⟨_, _, rfl, rfl⟩⟩
  have HO : Hid (Only [p] w ((w.setCell ⟨p, 0, none⟩ (.slice none 0 0)).setCell ⟨p, 1, none⟩ (.bool true))) :=
    (Only.setCell w _ _ (by simp)).trans (Only.setCell _ _ _ (by simp))
  clear h1 h2 h3 h4
  go_enter Tryz.func94, Tryz.ntmps94
  go_wp2_with fail
  go_end0
  exact ⟨rfl, HR.out, HO.out⟩
set_option maxHeartbeats 2000000 in
theorem Number_ok (w : World) (p g o : Nat) (l : List Nat) (bad : Bool) (least most : Int) (n : Nat) (h : RdAt w p g o l bad) (hl : 6 ≤ l.length) (hn : Cd.val (l.take 6) = n) (h1 : least ≤ (n : Int)) (h2 : (n : Int) ≤ most) :
    Calls Tryz.prog 48 #[.pointer (some ⟨p, 0, none⟩), .int .i64 least, .int .i64 most] w fun e w' => e = .returned (.int .i64 (n : Int)) ∧ RdAt w' p g (o + 6) (l.drop 6) bad ∧ Only [p] w w' := by
  obtain ⟨k1, k2, k3, sl, k4, ⟨q, c, rfl, rfl⟩ | ⟨c, rfl, k5, k6⟩⟩ := h
  · exact absurd hl (by simp)
  · have c0 : w.cell? ⟨p, 0, none⟩ = some (.slice (some ⟨g, o, none⟩) l.length c) := by rw [cell_of_row _ _ _ _ _ _ k4]; rfl
    have f0 : w.frozen? ⟨p, 0, none⟩ = false := frozen_of_row _ _ _ _ _ k4
    have HJ : ∀ W, W = w → Calls Tryz.prog 93 #[.slice (some ⟨g, o, none⟩) 6 c] W fun e w' => e = .returned (.int .i64 (n : Int)) ∧ w' = w := by
      rintro W rfl
      have := joined_any (l.take 6) g o c W (by rw [List.length_take]; omega) (fun x hx => k1 x (List.mem_of_mem_take hx)) (range_take k6 6)
      rw [List.length_take, Nat.min_eq_left hl, hn] at this
      exact this
    have HR : Hid (RdAt (w.setCell ⟨p, 0, none⟩ (.slice (some ⟨g, o + 6, none⟩) (l.length - 6) (c - 6))) p g (o + 6) (l.drop 6) bad) :=
      RdAt.next k4 (fun x hx => k1 x (List.mem_of_mem_drop hx)) (by rw [List.length_drop]; omega) k3 (by rw [List.length_drop]) (by omega) (range_drop k6 6)
    have HR0 : Hid (c ≤ 6 → RdAt (w.setCell ⟨p, 0, none⟩ (.slice (some ⟨g, o, none⟩) (l.length - 6) 0)) p g (o + 6) (l.drop 6) bad) := fun hc => by
      rw [List.drop_eq_nil_of_le (by omega), show l.length - 6 = 0 from by omega]
      exact RdAt.last k4 k3 _ _
    have HO : Hid (∀ v, Only [p] w (w.setCell ⟨p, 0, none⟩ v)) := fun v => Only.setCell w _ _ (by simp)
    generalize l.drop 6 = ld at *
    generalize l.length = m at *
    clear hn k1 k4 k6
    have m6 : (6 : Int) ≤ (m : Int) := by omega
    have mc : (m : Int) ≤ (c : Int) := by omega
    go_enter Tryz.func48, Tryz.ntmps48
    go_wp2_with fail
    refine wp_scope_jumps 0 (fun _ _ => False) (fun _ _ => 0) rfl ?_ (fun _ _ hf => hf.elim)
    go_wp2_with (first | (go_at_call 93; refine (HJ _ rfl).mono ?_; rintro e w1 ⟨rfl, rfl⟩))
    all_goals
      simp only [Exit.jump]
      go_ret
      exact ⟨rfl, (by first | exact HR.out | exact HR0.out (by omega)), HO.out _⟩
theorem cons_of {n : Nat} : ∀ (l : List Value), l.length = n + 1 → ∃ x l', l = x :: l' ∧ l'.length = n
  | x :: l', h => ⟨x, l', rfl, by simpa using h⟩
/-- Where the ways out meet. -/
def lackJ (p m : Nat) (w : World) (a' : Act) (w' : World) : Prop := w' = w ∧ ∃ l : List Value, l.length = m ∧ a' = { tmps := (.pointer (some ⟨p, 0, none⟩) :: l).toArray, defers := [] }
set_option maxHeartbeats 4000000 in
theorem Number_lack (w : World) (p g o : Nat) (l : List Nat) (bad : Bool) (least most : Int) (h : RdAt w p g o l bad) (hn : l.length < 6 ∨ (Cd.val (l.take 6) : Int) < least ∨ most < (Cd.val (l.take 6) : Int)) :
    Calls Tryz.prog 48 #[.pointer (some ⟨p, 0, none⟩), .int .i64 least, .int .i64 most] w fun e w' => e = .returned (.int .i64 0) ∧ RdAt w' p g o [] true ∧ Only [p] w w' := by
  have HS : ∀ W, W = w → Calls Tryz.prog 94 #[.pointer (some ⟨p, 0, none⟩)] W fun e w' => e = .returned (.tuple #[]) ∧ Hid (RdAt w' p g o [] true) ∧ Hid (Only [p] w w') := by
    rintro W rfl
    exact spoil_any W p g o l bad h
  obtain ⟨k1, k2, k3, sl, k4, k5⟩ := h
  have c0 : w.cell? ⟨p, 0, none⟩ = some sl := by rw [cell_of_row _ _ _ _ _ _ k4]; rfl
  have hsl : ∃ q c, sl = .slice q l.length c ∧ l.length ≤ c := by
    rcases k5 with ⟨q, c, rfl, rfl⟩ | ⟨c, rfl, hc, _⟩
    · exact ⟨_, _, rfl, Nat.zero_le _⟩
    · exact ⟨_, _, rfl, hc⟩
  have HJ : Hid (6 ≤ l.length → ∃ c, sl = .slice (some ⟨g, o, none⟩) l.length c ∧ l.length ≤ c ∧ ∀ W, W = w → Calls Tryz.prog 93 #[.slice (some ⟨g, o, none⟩) 6 c] W fun e w' => e = .returned (.int .i64 (Cd.val (l.take 6) : Nat)) ∧ w' = w) := by
    intro hl
    rcases k5 with ⟨q, c, rfl, rfl⟩ | ⟨c, rfl, hc, k6⟩
    · exact absurd hl (by simp)
    · refine ⟨c, rfl, hc, ?_⟩
      rintro W rfl
      have := joined_any (l.take 6) g o c W (by rw [List.length_take]; omega) (fun x hx => k1 x (List.mem_of_mem_take hx)) (range_take k6 6)
      rw [List.length_take, Nat.min_eq_left hl] at this
      exact this
  clear k1 k4 k5 k3
  generalize Cd.val (l.take 6) = n at *
  generalize l.length = m at *
  obtain ⟨q, c, rfl, hmc⟩ := hsl
  go_enter Tryz.func48, Tryz.ntmps48
  go_wp2_with fail
  refine wp_scope_jumps 0 (lackJ p 38 w) (fun _ _ => 0) rfl ?_ ?_
  · by_cases hm : m < 6
    · have m6 : (m : Int) < 6 := by omega
      go_wp2_with fail
      go_step3
      exact ⟨rfl, rfl, _, rfl, rfl⟩
    · obtain ⟨c', e, _, HC⟩ := HJ.out (by omega)
      cases e
      have m6 : (6 : Int) ≤ (m : Int) := by omega
      have mc : (m : Int) ≤ (c : Int) := by omega
      by_cases h1 : (n : Int) < least
      · go_wp2_with (first | (go_at_call 93; refine (HC _ rfl).mono ?_; rintro e w1 ⟨rfl, rfl⟩))
        go_step3
        exact ⟨rfl, rfl, _, rfl, rfl⟩
      · have h2 : most < (n : Int) := by omega
        go_wp2_with (first | (go_at_call 93; refine (HC _ rfl).mono ?_; rintro e w1 ⟨rfl, rfl⟩))
        go_step3
        exact ⟨rfl, rfl, _, rfl, rfl⟩
  · rintro a' w' ⟨rfl, l0, h0, rfl⟩
    obtain ⟨x1, l1, rfl, h1⟩ := cons_of l0 h0
    obtain ⟨x2, l2, rfl, h2⟩ := cons_of l1 h1
    obtain ⟨x3, l3, rfl, h3⟩ := cons_of l2 h2
    obtain ⟨x4, l4, rfl, h4⟩ := cons_of l3 h3
    obtain ⟨x5, l5, rfl, h5⟩ := cons_of l4 h4
    obtain ⟨x6, l6, rfl, h6⟩ := cons_of l5 h5
    obtain ⟨x7, l7, rfl, h7⟩ := cons_of l6 h6
    obtain ⟨x8, l8, rfl, h8⟩ := cons_of l7 h7
    obtain ⟨x9, l9, rfl, h9⟩ := cons_of l8 h8
    obtain ⟨x10, l10, rfl, h10⟩ := cons_of l9 h9
    obtain ⟨x11, l11, rfl, h11⟩ := cons_of l10 h10
    obtain ⟨x12, l12, rfl, h12⟩ := cons_of l11 h11
    obtain ⟨x13, l13, rfl, h13⟩ := cons_of l12 h12
    obtain ⟨x14, l14, rfl, h14⟩ := cons_of l13 h13
    obtain ⟨x15, l15, rfl, h15⟩ := cons_of l14 h14
    obtain ⟨x16, l16, rfl, h16⟩ := cons_of l15 h15
    obtain ⟨x17, l17, rfl, h17⟩ := cons_of l16 h16
    obtain ⟨x18, l18, rfl, h18⟩ := cons_of l17 h17
    obtain ⟨x19, l19, rfl, h19⟩ := cons_of l18 h18
    obtain ⟨x20, l20, rfl, h20⟩ := cons_of l19 h19
    obtain ⟨x21, l21, rfl, h21⟩ := cons_of l20 h20
    obtain ⟨x22, l22, rfl, h22⟩ := cons_of l21 h21
    obtain ⟨x23, l23, rfl, h23⟩ := cons_of l22 h22
    obtain ⟨x24, l24, rfl, h24⟩ := cons_of l23 h23
    obtain ⟨x25, l25, rfl, h25⟩ := cons_of l24 h24
    obtain ⟨x26, l26, rfl, h26⟩ := cons_of l25 h25
    obtain ⟨x27, l27, rfl, h27⟩ := cons_of l26 h26
    obtain ⟨x28, l28, rfl, h28⟩ := cons_of l27 h27
    obtain ⟨x29, l29, rfl, h29⟩ := cons_of l28 h28
    obtain ⟨x30, l30, rfl, h30⟩ := cons_of l29 h29
    obtain ⟨x31, l31, rfl, h31⟩ := cons_of l30 h30
    obtain ⟨x32, l32, rfl, h32⟩ := cons_of l31 h31
    obtain ⟨x33, l33, rfl, h33⟩ := cons_of l32 h32
    obtain ⟨x34, l34, rfl, h34⟩ := cons_of l33 h33
    obtain ⟨x35, l35, rfl, h35⟩ := cons_of l34 h34
    obtain ⟨x36, l36, rfl, h36⟩ := cons_of l35 h35
    obtain ⟨x37, l37, rfl, h37⟩ := cons_of l36 h36
    obtain ⟨x38, l38, rfl, h38⟩ := cons_of l37 h37
    obtain rfl := List.eq_nil_of_length_eq_zero h38
    go_wp2_with (first | (go_at_call 94; refine (HS _ rfl).mono ?_; rintro e w1 ⟨rfl, HR1, HO1⟩))
    simp only [Exit.jump]
    go_ret
    exact ⟨rfl, HR1.out, HO1.out⟩
end Go.Proofs.YtfjdaafckiefdaaGreatDoor.C8
/- The contracts of the reader's Text, Bad and End, and of Read. -/
namespace Go.Proofs.YtfjdaafckiefdaaGreatDoor.C8
open Go.RowKit
/-- A text that is told: a piece of the reader's bytes, or nothing. -/
def Told (g o n : Nat) (v : Value) : Prop := (n = 0 ∧ ∃ ad c, v = .slice (some ad) 0 c) ∨ v = .slice (some ⟨g, o, none⟩) n n
set_option maxHeartbeats 4000000 in
theorem Text_ok (w : World) (p g o : Nat) (l : List Nat) (bad : Bool) (least most : Int) (n : Nat) (h : RdAt w p g o l bad) (hl : 2 + n ≤ l.length) (hn : Cd.val (l.take 2) = n) (h1 : least ≤ (n : Int)) (h2 : (n : Int) ≤ most) :
    Calls Tryz.prog 49 #[.pointer (some ⟨p, 0, none⟩), .int .i64 least, .int .i64 most] w fun e w' => ∃ v, e = .returned v ∧ Told g (o + 2) n v ∧ RdAt w' p g (o + (2 + n)) (l.drop (2 + n)) bad ∧ Only [p] w w' := by
  obtain ⟨k1, k2, k3, sl, k4, ⟨q, c, rfl, rfl⟩ | ⟨c, rfl, k5, k6⟩⟩ := h
  · exact absurd hl (by simp)
  · have c0 : w.cell? ⟨p, 0, none⟩ = some (.slice (some ⟨g, o, none⟩) l.length c) := by rw [cell_of_row _ _ _ _ _ _ k4]; rfl
    have f0 : w.frozen? ⟨p, 0, none⟩ = false := frozen_of_row _ _ _ _ _ k4
    have HJ : ∀ W, W = w → Calls Tryz.prog 93 #[.slice (some ⟨g, o, none⟩) 2 c] W fun e w' => e = .returned (.int .i64 (n : Int)) ∧ w' = w := by
      rintro W rfl
      have := joined_any (l.take 2) g o c W (by rw [List.length_take]; omega) (fun x hx => k1 x (List.mem_of_mem_take hx)) (range_take k6 2)
      rw [List.length_take, Nat.min_eq_left (by omega), hn] at this
      exact this
    have HR : Hid (RdAt (w.setCell ⟨p, 0, none⟩ (.slice (some ⟨g, o + (2 + n), none⟩) (l.length - (2 + n)) (c - (2 + n)))) p g (o + (2 + n)) (l.drop (2 + n)) bad) :=
      RdAt.next k4 (fun x hx => k1 x (List.mem_of_mem_drop hx)) (by rw [List.length_drop]; omega) k3 (by rw [List.length_drop]) (by omega) (range_drop k6 (2 + n))
    have HR0 : Hid (c ≤ 2 + n → RdAt (w.setCell ⟨p, 0, none⟩ (.slice (some ⟨g, o, none⟩) (l.length - (2 + n)) 0)) p g (o + (2 + n)) (l.drop (2 + n)) bad) := fun hc => by
      rw [List.drop_eq_nil_of_le (by omega), show l.length - (2 + n) = 0 from by omega]
      exact RdAt.last k4 k3 _ _
    have HO : Hid (∀ v, Only [p] w (w.setCell ⟨p, 0, none⟩ v)) := fun v => Only.setCell w _ _ (by simp)
    generalize l.drop (2 + n) = ld at *
    generalize l.length = m at *
    clear hn k1 k4 k6
    have n0 : (0 : Int) ≤ (n : Int) := by omega
    have m6 : 2 + (n : Int) ≤ (m : Int) := by omega
    have mm : (m : Int) ≤ 1000000 := by omega
    have mc : (m : Int) ≤ (c : Int) := by omega
    have m2 : (2 : Int) ≤ (m : Int) := by omega
    have c2 : (2 : Int) + (n : Int) ≤ (c : Int) := by omega
    go_enter Tryz.func49, Tryz.ntmps49
    go_wp2_with fail
    refine wp_scope_jumps 0 (fun _ _ => False) (fun _ _ => 0) rfl ?_ (fun _ _ hf => hf.elim)
    go_wp2_with (first | (go_at_call 93; refine (HJ _ rfl).mono ?_; rintro e w1 ⟨rfl, rfl⟩))
    all_goals
      simp only [Exit.jump]
      go_ret
      refine ⟨_, rfl, ?_, ?_, HO.out _⟩
      · first | exact Or.inr rfl | (obtain rfl : n = 0 := by omega); exact Or.inl ⟨rfl, _, _, rfl⟩
      · first | exact HR.out | exact HR0.out (by omega) | ((obtain rfl : n = 0 := by omega); first | exact HR.out | exact HR0.out (by omega))
set_option maxRecDepth 20000 in
set_option maxHeartbeats 4000000 in
theorem Text_lack (w : World) (p g o : Nat) (l : List Nat) (bad : Bool) (least most : Int) (h : RdAt w p g o l bad) (hn : l.length < 2 ∨ l.length < 2 + Cd.val (l.take 2) ∨ (Cd.val (l.take 2) : Int) < least ∨ most < (Cd.val (l.take 2) : Int)) :
    Calls Tryz.prog 49 #[.pointer (some ⟨p, 0, none⟩), .int .i64 least, .int .i64 most] w fun e w' => e = .returned (.slice none 0 0) ∧ RdAt w' p g o [] true ∧ Only [p] w w' := by
  have HS : ∀ W, W = w → Calls Tryz.prog 94 #[.pointer (some ⟨p, 0, none⟩)] W fun e w' => e = .returned (.tuple #[]) ∧ Hid (RdAt w' p g o [] true) ∧ Hid (Only [p] w w') := by
    rintro W rfl
    exact spoil_any W p g o l bad h
  obtain ⟨k1, k2, k3, sl, k4, k5⟩ := h
  have c0 : w.cell? ⟨p, 0, none⟩ = some sl := by rw [cell_of_row _ _ _ _ _ _ k4]; rfl
  have hsl : ∃ q c, sl = .slice q l.length c ∧ l.length ≤ c := by
    rcases k5 with ⟨q, c, rfl, rfl⟩ | ⟨c, rfl, hc, _⟩
    · exact ⟨_, _, rfl, Nat.zero_le _⟩
    · exact ⟨_, _, rfl, hc⟩
  have HJ : Hid (2 ≤ l.length → ∃ c, sl = .slice (some ⟨g, o, none⟩) l.length c ∧ l.length ≤ c ∧ ∀ W, W = w → Calls Tryz.prog 93 #[.slice (some ⟨g, o, none⟩) 2 c] W fun e w' => e = .returned (.int .i64 (Cd.val (l.take 2) : Nat)) ∧ w' = w) := by
    intro hl
    rcases k5 with ⟨q, c, rfl, rfl⟩ | ⟨c, rfl, hc, k6⟩
    · exact absurd hl (by simp)
    · refine ⟨c, rfl, hc, ?_⟩
      rintro W rfl
      have := joined_any (l.take 2) g o c W (by rw [List.length_take]; omega) (fun x hx => k1 x (List.mem_of_mem_take hx)) (range_take k6 2)
      rw [List.length_take, Nat.min_eq_left hl] at this
      exact this
  have hn6 : Cd.val (l.take 2) < 65536 := by
    have h1 := Cd.val_lt (l.take 2) (fun x hx => k1 x (List.mem_of_mem_take hx))
    have h2 : (l.take 2).length ≤ 2 := by rw [List.length_take]; omega
    exact Nat.lt_of_lt_of_le h1 (Nat.le_trans (Nat.pow_le_pow_right (by decide) h2) (by decide))
  clear k1 k4 k5 k3
  generalize Cd.val (l.take 2) = n at *
  generalize l.length = m at *
  obtain ⟨q, c, rfl, hmc⟩ := hsl
  have mm : (m : Int) ≤ 1000000 := by omega
  have nn : (n : Int) ≤ 1000000 := by omega
  have n0 : (0 : Int) ≤ (n : Int) := by omega
  have HN : Hid (m < 2 ∨ m < 2 + n ∨ (n : Int) < least ∨ most < (n : Int)) := hn
  clear hn hn6 k2 hmc
  go_enter Tryz.func49, Tryz.ntmps49
  go_wp2_with fail
  refine wp_scope_jumps 0 (lackJ p 59 w) (fun _ _ => 0) rfl ?_ ?_
  · by_cases hm : m < 2
    · have m6 : (m : Int) < 2 := by omega
      go_wp2_with fail
      go_step3
      exact ⟨rfl, rfl, _, rfl, rfl⟩
    · obtain ⟨c', e, _, HC⟩ := HJ.out (by omega)
      cases e
      have m6 : (2 : Int) ≤ (m : Int) := by omega
      have mc : (2 : Int) ≤ (c : Int) := by omega
      by_cases h0 : (m : Int) < 2 + (n : Int)
      · go_wp2_with (first | (go_at_call 93; refine (HC _ rfl).mono ?_; rintro e w1 ⟨rfl, rfl⟩))
        go_step3
        exact ⟨rfl, rfl, _, rfl, rfl⟩
      · by_cases h1 : (n : Int) < least
        · go_wp2_with (first | (go_at_call 93; refine (HC _ rfl).mono ?_; rintro e w1 ⟨rfl, rfl⟩))
          go_step3
          exact ⟨rfl, rfl, _, rfl, rfl⟩
        · have h2 : most < (n : Int) := by have := HN.out; omega
          go_wp2_with (first | (go_at_call 93; refine (HC _ rfl).mono ?_; rintro e w1 ⟨rfl, rfl⟩))
          go_step3
          exact ⟨rfl, rfl, _, rfl, rfl⟩
  · rintro a' w' ⟨rfl, l0, h0, rfl⟩
    obtain ⟨x1, l1, rfl, h1⟩ := cons_of l0 h0
    obtain ⟨x2, l2, rfl, h2⟩ := cons_of l1 h1
    obtain ⟨x3, l3, rfl, h3⟩ := cons_of l2 h2
    obtain ⟨x4, l4, rfl, h4⟩ := cons_of l3 h3
    obtain ⟨x5, l5, rfl, h5⟩ := cons_of l4 h4
    obtain ⟨x6, l6, rfl, h6⟩ := cons_of l5 h5
    obtain ⟨x7, l7, rfl, h7⟩ := cons_of l6 h6
    obtain ⟨x8, l8, rfl, h8⟩ := cons_of l7 h7
    obtain ⟨x9, l9, rfl, h9⟩ := cons_of l8 h8
    obtain ⟨x10, l10, rfl, h10⟩ := cons_of l9 h9
    obtain ⟨x11, l11, rfl, h11⟩ := cons_of l10 h10
    obtain ⟨x12, l12, rfl, h12⟩ := cons_of l11 h11
    obtain ⟨x13, l13, rfl, h13⟩ := cons_of l12 h12
    obtain ⟨x14, l14, rfl, h14⟩ := cons_of l13 h13
    obtain ⟨x15, l15, rfl, h15⟩ := cons_of l14 h14
    obtain ⟨x16, l16, rfl, h16⟩ := cons_of l15 h15
    obtain ⟨x17, l17, rfl, h17⟩ := cons_of l16 h16
    obtain ⟨x18, l18, rfl, h18⟩ := cons_of l17 h17
    obtain ⟨x19, l19, rfl, h19⟩ := cons_of l18 h18
    obtain ⟨x20, l20, rfl, h20⟩ := cons_of l19 h19
    obtain ⟨x21, l21, rfl, h21⟩ := cons_of l20 h20
    obtain ⟨x22, l22, rfl, h22⟩ := cons_of l21 h21
    obtain ⟨x23, l23, rfl, h23⟩ := cons_of l22 h22
    obtain ⟨x24, l24, rfl, h24⟩ := cons_of l23 h23
    obtain ⟨x25, l25, rfl, h25⟩ := cons_of l24 h24
    obtain ⟨x26, l26, rfl, h26⟩ := cons_of l25 h25
    obtain ⟨x27, l27, rfl, h27⟩ := cons_of l26 h26
    obtain ⟨x28, l28, rfl, h28⟩ := cons_of l27 h27
    obtain ⟨x29, l29, rfl, h29⟩ := cons_of l28 h28
    obtain ⟨x30, l30, rfl, h30⟩ := cons_of l29 h29
    obtain ⟨x31, l31, rfl, h31⟩ := cons_of l30 h30
    obtain ⟨x32, l32, rfl, h32⟩ := cons_of l31 h31
    obtain ⟨x33, l33, rfl, h33⟩ := cons_of l32 h32
    obtain ⟨x34, l34, rfl, h34⟩ := cons_of l33 h33
    obtain ⟨x35, l35, rfl, h35⟩ := cons_of l34 h34
    obtain ⟨x36, l36, rfl, h36⟩ := cons_of l35 h35
    obtain ⟨x37, l37, rfl, h37⟩ := cons_of l36 h36
    obtain ⟨x38, l38, rfl, h38⟩ := cons_of l37 h37
    obtain ⟨x39, l39, rfl, h39⟩ := cons_of l38 h38
    obtain ⟨x40, l40, rfl, h40⟩ := cons_of l39 h39
    obtain ⟨x41, l41, rfl, h41⟩ := cons_of l40 h40
    obtain ⟨x42, l42, rfl, h42⟩ := cons_of l41 h41
    obtain ⟨x43, l43, rfl, h43⟩ := cons_of l42 h42
    obtain ⟨x44, l44, rfl, h44⟩ := cons_of l43 h43
    obtain ⟨x45, l45, rfl, h45⟩ := cons_of l44 h44
    obtain ⟨x46, l46, rfl, h46⟩ := cons_of l45 h45
    obtain ⟨x47, l47, rfl, h47⟩ := cons_of l46 h46
    obtain ⟨x48, l48, rfl, h48⟩ := cons_of l47 h47
    obtain ⟨x49, l49, rfl, h49⟩ := cons_of l48 h48
    obtain ⟨x50, l50, rfl, h50⟩ := cons_of l49 h49
    obtain ⟨x51, l51, rfl, h51⟩ := cons_of l50 h50
    obtain ⟨x52, l52, rfl, h52⟩ := cons_of l51 h51
    obtain ⟨x53, l53, rfl, h53⟩ := cons_of l52 h52
    obtain ⟨x54, l54, rfl, h54⟩ := cons_of l53 h53
    obtain ⟨x55, l55, rfl, h55⟩ := cons_of l54 h54
    obtain ⟨x56, l56, rfl, h56⟩ := cons_of l55 h55
    obtain ⟨x57, l57, rfl, h57⟩ := cons_of l56 h56
    obtain ⟨x58, l58, rfl, h58⟩ := cons_of l57 h57
    obtain ⟨x59, l59, rfl, h59⟩ := cons_of l58 h58
    obtain rfl := List.eq_nil_of_length_eq_zero h59
    go_wp2_with (first | (go_at_call 94; refine (HS _ rfl).mono ?_; rintro e w1 ⟨rfl, HR1, HO1⟩))
    simp only [Exit.jump]
    go_ret
    exact ⟨rfl, HR1.out, HO1.out⟩
set_option maxHeartbeats 1000000 in
theorem End_any (w : World) (p g o : Nat) (l : List Nat) (bad : Bool) (h : RdAt w p g o l bad) :
    Calls Tryz.prog 50 #[.pointer (some ⟨p, 0, none⟩)] w fun e w' => e = .returned (.bool (!bad && decide (l.length = 0))) ∧ w' = w := by
  obtain ⟨-, -, -, sl, k4, k5⟩ := h
  have c0 : w.cell? ⟨p, 0, none⟩ = some sl := by rw [cell_of_row _ _ _ _ _ _ k4]; rfl
  have c1 : w.cell? ⟨p, 1, none⟩ = some (.bool bad) := by rw [cell_of_row _ _ _ _ _ _ k4]; rfl
  have hsl : ∃ q c, sl = .slice q l.length c := by
    rcases k5 with ⟨q, c, rfl, rfl⟩ | ⟨c, rfl, hc, _⟩
    · exact ⟨_, _, rfl⟩
    · exact ⟨_, _, rfl⟩
  obtain ⟨q, c, rfl⟩ := hsl
  clear k4 k5
  generalize l.length = m at *
  cases bad
  · by_cases hm : m = 0
    · subst hm
      go_enter Tryz.func50, Tryz.ntmps50
      go_wp2_with fail
      go_ret
      exact ⟨rfl, rfl⟩
    · have m0 : ((m : Int) == 0) = false := by simp; omega
      have e0 : (!false && decide (m = 0)) = false := by simp [hm]
      rw [e0]
      go_enter Tryz.func50, Tryz.ntmps50
      go_wp2_with fail
      go_ret
      exact ⟨rfl, rfl⟩
  · go_enter Tryz.func50, Tryz.ntmps50
    go_wp2_with fail
    go_ret
    exact ⟨rfl, rfl⟩
end Go.Proofs.YtfjdaafckiefdaaGreatDoor.C8
/- The contracts of Clone and Read. -/
namespace Go.Proofs.YtfjdaafckiefdaaGreatDoor.C8
open Go.RowKit
theorem own_built (w : World) : (w.alloc (.cells #[] 5)).ownsRow w.heap.size 5 1 (.slice (some ⟨w.heap.size, 0, none⟩) 0 0) 0 (ints .u8 []) :=
  ⟨rfl, .inr ⟨w.heap.size, 0, #[], rfl, Nat.le_refl _, heap_alloc_new w _, Nat.le_refl _, by unfold maxLen; omega, rfl, rfl⟩⟩
theorem Src.cases {w : World} {v : Value} {l : List Nat} (h : Src w v l) : (v = .slice none 0 0 ∧ l = []) ∨ ∃ ad c, v = .slice (some ad) l.length c := by
  obtain ⟨_, h1 | ⟨ad, c, rfl, rfl⟩ | ⟨b, o, c, rfl, _⟩⟩ := h
  · exact .inl h1
  · exact .inr ⟨_, _, rfl⟩
  · exact .inr ⟨_, _, rfl⟩
set_option maxRecDepth 10000 in
set_option maxHeartbeats 1000000 in
theorem Clone_any (sv : Value) (l : List Nat) (w : World) (hs : Src w sv l) (hl : l.length ≤ 900000) :
    Calls Tryz.prog 92 #[sv] w fun e w' => ∃ v, e = .returned v ∧ w'.ownsRow w.heap.size 5 1 v l.length (ints .u8 l) ∧ Below w.heap.size w w' := by
  rcases hs.cases with ⟨rfl, rfl⟩ | ⟨ad, c, rfl⟩
  · have hnil : (binOp .eql 22 (.slice none 0 0) (.slice none 0 0)).run Tryz.prog w = .ok (.bool true) w := Lib.run_eql_slice_nil w 22 5 none 0 0 0 0 (by rfl)
    go_enter Tryz.func92, Tryz.ntmps92
    go_wp2_with fail
    go_ret
    exact ⟨_, rfl, own_none _ _ _ _, Below.refl _ _⟩
  · have HS : Hid (Src w (.slice (some ad) l.length c) l) := hs
    have hnil : (binOp .eql 22 (.slice (some ad) l.length c) (.slice none 0 0)).run Tryz.prog w = .ok (.bool false) w := Lib.run_eql_slice_nil w 22 5 (some ad) l.length c 0 0 (by rfl)
    clear hs
    go_enter Tryz.func92, Tryz.ntmps92
    go_wp2_with (first | with_reducible (refine stop_builtin .append ?_))
    refine Stop.go ?_
    have hs1 : Src (w.alloc (.cells #[] 5)) (.slice (some ad) l.length c) l := HS.out.below ((Below.refl _ w).alloc (Nat.le_refl _) _)
    refine law_append_grow w.heap.size (.slice (some ⟨w.heap.size, 0, none⟩) 0 0) 0 [] _ l rfl rfl (own_built w) hs1 (by omega) (by simp) ?_
    intro v w1 h1 h2
    have HO : Hid (w1.ownsRow w.heap.size 5 1 v l.length (ints .u8 l)) := by
      rw [Nat.zero_add] at h1
      exact h1
    have HB : Hid (Below w.heap.size w w1) := ((Below.refl _ w).alloc (Nat.le_refl _) _).trans (h2.below (own_built w) (by simp))
    clear h1 h2 hs1
    go_wp2_with fail
    go_ret
    exact ⟨_, rfl, HO.out, HB.out⟩
/-- A row of one's own, as a reader has it. -/
theorem RdAt.new {w : World} {base : Nat} {v : Value} {l : List Nat} (h : w.ownsRow base 5 1 v l.length (ints .u8 l)) (hs : ∀ x ∈ l, x < 256) (hl : l.length ≤ 1000000) : ∃ g o, base ≤ g ∧ RdAt (w.alloc (.cells #[v, .bool false] 134)) w.heap.size g o l false := by
  have h0 := heap_alloc_new w (.cells #[v, .bool false] 134)
  by_cases hn : l.length = 0
  · obtain ⟨q, c, rfl⟩ := own_slice h
    refine ⟨base + w.heap.size + 1, 0, by omega, hs, hl, by omega, _, h0, .inl ⟨q, c, by rw [hn], List.eq_nil_of_length_eq_zero hn⟩⟩
  · obtain ⟨g, c, rfl, h1, h2, h3, h4⟩ := own_cell h (by omega)
    exact ⟨g, 0, h1, hs, hl, by omega, _, h0, .inr ⟨c, rfl, h3, range_kept h4 (Below.heap_alloc w _ g h2)⟩⟩
set_option maxHeartbeats 1000000 in
theorem Read_any (sv : Value) (l : List Nat) (w : World) (hs : Src w sv l) (hl : l.length ≤ 900000) :
    Calls Tryz.prog 46 #[sv] w fun e w' => ∃ p g o, e = .returned (.pointer (some ⟨p, 0, none⟩)) ∧ RdAt w' p g o l false ∧ w.heap.size ≤ p ∧ w.heap.size ≤ g ∧ Below w.heap.size w w' := by
  have HSM : Hid (∀ x ∈ l, x < 256) := hs.small
  have HC : ∀ W, W = w → Calls Tryz.prog 92 #[sv] W fun e w' => ∃ v, e = .returned v ∧ Hid (w'.ownsRow w.heap.size 5 1 v l.length (ints .u8 l)) ∧ Hid (Below w.heap.size w w') := by
    rintro W rfl
    exact Clone_any sv l W hs hl
  clear hs
  go_enter Tryz.func46, Tryz.ntmps46
  go_wp2_with (first | (go_at_call 92; refine (HC _ rfl).mono ?_; rintro e w1 ⟨v, rfl, HO, HB⟩; obtain ⟨q, c, rfl⟩ := own_slice HO.out))
  go_ret
  obtain ⟨g, o, h1, h2⟩ := RdAt.new HO.out HSM.out (by omega)
  exact ⟨_, g, o, rfl, h2, HB.out.size, h1, HB.out.alloc HB.out.size _⟩
end Go.Proofs.YtfjdaafckiefdaaGreatDoor.C8
/- The anchor: the document's example. -/
namespace Go.Proofs.YtfjdaafckiefdaaGreatDoor.C8
open Go.RowKit
/-- A text that is told holds its bytes. -/
theorem Told.src {w : World} {g o n : Nat} {v : Value} {t : List Nat} (h : Told g o n v) (hs : ∀ x ∈ t, x < 256) (hn : t.length = n) (hr : w.rangeAt g o (ints .u8 t)) : Src w v t := by
  rcases h with ⟨rfl, ad, c, rfl⟩ | rfl
  · have := List.eq_nil_of_length_eq_zero hn
    subst this
    exact ⟨hs, .inr (.inl ⟨ad, c, rfl, rfl⟩)⟩
  · exact Src.row hs (by omega) hr hn
/-- A text that is read, with its bytes. -/
theorem Text_src (w : World) (p g o : Nat) (l : List Nat) (bad : Bool) (least most : Int) (n : Nat) (h : RdAt w p g o l bad) (hl : 2 + n ≤ l.length) (hn : Cd.val (l.take 2) = n) (h1 : least ≤ (n : Int)) (h2 : (n : Int) ≤ most) :
    Calls Tryz.prog 49 #[.pointer (some ⟨p, 0, none⟩), .int .i64 least, .int .i64 most] w fun e w' => ∃ v, e = .returned v ∧ Told g (o + 2) n v ∧ Src w' v ((l.drop 2).take n) ∧ RdAt w' p g (o + (2 + n)) (l.drop (2 + n)) bad ∧ Only [p] w w' := by
  refine (Text_ok w p g o l bad least most n h hl hn h1 h2).mono ?_
  rintro e w' ⟨v, rfl, ht, hr, ho⟩
  refine ⟨v, rfl, ht, ?_, hr, ho⟩
  obtain ⟨k1, k2, k3, sl, k4, ⟨q, c, rfl, rfl⟩ | ⟨c, rfl, k5, k6⟩⟩ := h
  · exact absurd hl (by simp)
  · refine ht.src (fun x hx => k1 x (List.mem_of_mem_drop (List.mem_of_mem_take hx))) (by rw [List.length_take, List.length_drop]; omega) ?_
    by_cases h0 : n = 0
    · subst h0
      exact fun j u hu => by simp [ints] at hu
    · refine range_take (range_drop (range_kept k6 (ho.block g (range_lt k6 ?_) ?_)) 2) n
      · intro e
        have := congrArg List.length e
        rw [ints_length, List.length_nil] at this
        omega
      · simpa using fun e => k3 e.symm
theorem lit_all : strB [0, 0, 0, 0, 0, 1, 0, 2, 97, 98] = ⟨#[0, 0, 0, 0, 0, 1, 0, 2, 97, 98]⟩ := by rfl
theorem lit_ab : strB [97, 98] = ⟨#[97, 98]⟩ := by rfl
/-- The example's parts. -/
def exPs : List Pt := [⟨false, 1, []⟩, ⟨true, 0, [97, 98]⟩]
theorem ex_err : Cd.err exPs = 0 := by rfl
theorem ex_enc : Cd.enc exPs = [0, 0, 0, 0, 0, 1, 0, 2, 97, 98] := by rfl
theorem ex_is (w : World) : PartsIs (w.alloc (.cells #[.iface 3 (.int .i64 1), .iface 9 (.string ⟨#[97, 98]⟩)] 20)) (w.heap.size + 1) (some ⟨w.heap.size, 0, none⟩) exPs := by
  have h0 := heap_alloc_new w (.cells #[.iface 3 (.int .i64 1), .iface 9 (.string ⟨#[97, 98]⟩)] 20)
  intro j hj
  have hb : w.heap.size < (w.alloc (.cells #[.iface 3 (.int .i64 1), .iface 9 (.string ⟨#[97, 98]⟩)] 20)).heap.size := by simp
  match j, hj with
  | 0, _ => exact ⟨_, _, _, rfl, hb, by rw [cell_of_row _ _ _ _ _ _ h0]; rfl, (fun x hx => by cases hx), .inl ⟨rfl, rfl⟩⟩
  | 1, _ => exact ⟨_, _, _, rfl, hb, by rw [cell_of_row _ _ _ _ _ _ h0]; rfl, (fun x hx => by simp [exPs] at hx; omega), .inr ⟨rfl, by simp [exPs], .inr (by rw [← lit_ab]; rfl)⟩⟩
/-- What a right Put tells. -/
theorem PutSays.ok {base : Nat} {ps : List Pt} {e : Ending} {w w' : World} (h : PutSays base ps e w w') (h0 : Cd.err ps = 0) : ∃ v, e = .returned (.tuple #[v, .int .i64 0]) ∧ w'.ownsRow base 5 1 v (Cd.enc ps).length (ints .u8 (Cd.enc ps)) ∧ Below base w w' := by
  obtain ⟨h1, ⟨_, v, h2, h3⟩ | ⟨h2, _⟩⟩ := h
  · exact ⟨v, h2, h3, h1⟩
  · exact absurd h0 h2
theorem PutSays.bad {base : Nat} {ps : List Pt} {e : Ending} {w w' : World} (h : PutSays base ps e w w') (h0 : Cd.err ps ≠ 0) : e = .returned (.tuple #[.slice none 0 0, .int .i64 (Cd.err ps : Nat)]) ∧ Below base w w' := by
  obtain ⟨h1, ⟨h2, _⟩ | ⟨_, h2⟩⟩ := h
  · exact absurd h2 h0
  · exact ⟨h2, h1⟩
theorem ex_put (w : World) : Calls Tryz.prog 43 #[.slice (some ⟨w.heap.size, 0, none⟩) 2 2] (w.alloc (.cells #[.iface 3 (.int .i64 1), .iface 9 (.string ⟨#[97, 98]⟩)] 20)) fun e w' => ∃ v, e = .returned (.tuple #[v, .int .i64 0]) ∧ Src w' v [0, 0, 0, 0, 0, 1, 0, 2, 97, 98] ∧ Below w.heap.size w w' := by
  refine (Put_any exPs _ 2 _ (by decide) (by rw [show (w.alloc (.cells #[.iface 3 (.int .i64 1), .iface 9 (.string ⟨#[97, 98]⟩)] 20)).heap.size = w.heap.size + 1 from by simp]; exact ex_is w)).mono ?_
  intro e w' h
  obtain ⟨v, rfl, h1, h2⟩ := h.ok ex_err
  refine ⟨v, rfl, ?_, ((Below.refl _ w).alloc (Nat.le_refl _) _).trans (bel_le h2 (by simp))⟩
  rw [ex_enc] at h1
  exact Src.own (by decide) h1
end Go.Proofs.YtfjdaafckiefdaaGreatDoor.C8
/- What comes in: slices of bytes, of parts and of asks. -/
namespace Go.Proofs.YtfjdaafckiefdaaGreatDoor.C8
open Go.RowKit Go.ChangeShapes Go.WideShapes
/-- A slice of bytes that came in: it is empty with no room; or it leads to a row of bytes. -/
def RowIs (w : World) (a : Option Addr) (len cap : Nat) : Prop :=
  (len = 0 ∧ cap = 0) ∨ ∃ b o l, a = some ⟨b, o, none⟩ ∧ l.length = len ∧ len ≤ cap ∧ cap ≤ 9223372036854775807 ∧ (∀ x ∈ l, x < 256) ∧ w.rangeAt b o (ints .u8 l) ∧ b < w.heap.size
theorem rowIs_nil (w : World) (a : Option Addr) : RowIs w a 0 0 := .inl ⟨rfl, rfl⟩
theorem RowIs.max {w : World} {a : Option Addr} {len cap : Nat} (h : RowIs w a len cap) : len ≤ 9223372036854775807 := by
  rcases h with ⟨rfl, rfl⟩ | ⟨b, o, l, rfl, hl, hc, hm, hs, hr, hb⟩ <;> omega
theorem rowIs_of {w : World} {x : Addr} {len cap : Nat} {zs : List Int} (hl : len ≤ cap) (hm : cap ≤ maxLen) (hz : zs.length = cap)
    (hcell : ∀ i, i < zs.length → w.cell? (x.add i) = some (.int .u8 (zs.getD i 0))) (hwz : ∀ n ∈ zs, (Lit.int .u8 n).wf = true) : RowIs w (some x) len cap := by
  by_cases hc : cap = 0
  · exact .inl ⟨by omega, hc⟩
  · have h0 := hcell 0 (by omega)
    have hx0 : x.add 0 = x := by obtain ⟨b, o, s⟩ := x; unfold Addr.add; split <;> simp_all
    have hsp : x.spot = none := by
      rw [hx0] at h0
      cases hs : x.spot with
      | none => rfl
      | some q =>
        unfold World.cell? at h0
        split at h0
        · simp [hs] at h0
        · cases h0
    obtain ⟨b, o, s⟩ := x
    simp only at hsp
    subst hsp
    have hbd : ∀ n ∈ zs, 0 ≤ n ∧ n ≤ 255 := fun n hn => by
      have := hwz n hn
      simp [Lit.wf, IntKind.min, IntKind.max, IntKind.bits, IntKind.signed] at this
      omega
    refine .inr ⟨b, o, (zs.take len).map Int.toNat, rfl, by simp; omega, hl, by unfold maxLen at hm; omega, fun y hy => ?_, fun j v hv => ?_, ?_⟩
    · obtain ⟨n, hn, rfl⟩ := List.mem_map.1 hy
      have := hbd n (List.mem_of_mem_take hn)
      omega
    · have hj : j < len := by
        have := (List.getElem?_eq_some_iff.1 hv).1
        simp [ints] at this
        omega
      have hj' : j < zs.length := by omega
      have h1 := hcell j hj'
      rw [Addr.add_mid] at h1
      rw [h1, ← hv]
      have := hbd zs[j] (List.getElem_mem hj')
      simp [ints, hj, hj']
      omega
    · have := World.block_lt_of_cell? w _ (by rw [hx0] at h0; exact h0)
      exact this
theorem Src.of {w : World} {a : Option Addr} {len cap : Nat} (h : RowIs w a len cap) : ∃ l, l.length = len ∧ Src w (.slice a len cap) l := by
  rcases h with ⟨rfl, rfl⟩ | ⟨b, o, l, rfl, hl, hc, hm, hs, hr, hb⟩
  · refine ⟨[], rfl, fun x hx => by simp at hx, ?_⟩
    cases a with
    | none => exact .inl ⟨rfl, rfl⟩
    | some x => exact .inr (.inl ⟨_, _, rfl, rfl⟩)
  · exact ⟨l, hl, Src.row hs (by omega) hr hl⟩
theorem wf_i64 {n : Int} (h : (Lit.int .i64 n).wf = true) : -9223372036854775808 ≤ n ∧ n ≤ 9223372036854775807 := by
  simp [Lit.wf, IntKind.min, IntKind.max, IntKind.bits, IntKind.signed] at h
  omega
section
variable {H : Type} {enc : TypeId × Value → H} {P : Program} {w : World} {base : Nat} {held : Bool}
/-- A slice of structs of three cells each: the cells of each element, and what each field reads as. -/
theorem open_triples {t e : TypeId} {f0 f1 f2 : Field} {fuel : Nat} {a : Option Addr} {len cap : Nat} {x : DataW H × List MemPlace} (ht : P.underlying t = some (.slice e)) (he : P.underlying e = some (.struct #[f0, f1, f2]))
    (ce : P.cellsOf e = 3) (o0 : f0.offset = 0) (o1 : f1.offset = 1) (o2 : f2.offset = 2) (c0 : P.cellsOf f0.type = 1) (c1 : P.cellsOf f1.type = 1) (c2 : P.cellsOf f2.type = 1)
    (h : DataW.trod enc P w base (fun _ => true) held fuel t (Value.slice a len cap).cells.toList = some x) :
    len ≤ 9223372036854775807 ∧ ∀ i, i < len → ∃ (ad : Addr) (n : Nat) (v0 v1 v2 : Value) (y0 y1 y2 : DataW H × List MemPlace), a = some ad ∧ w.cell? (ad.add (i * 3)) = some v0 ∧ w.cell? (ad.add (i * 3 + 1)) = some v1 ∧ w.cell? (ad.add (i * 3 + 2)) = some v2 ∧
      DataW.trod enc P w base (fun _ => true) held n f0.type [v0] = some y0 ∧ DataW.trod enc P w base (fun _ => true) held n f1.type [v1] = some y1 ∧ DataW.trod enc P w base (fun _ => true) held n f2.type [v2] = some y2 := by
  rcases Go.Deep.open_slice ht h with ⟨hcs, _⟩ | ⟨ad, l, c, m, n, D, Pl, hcs, hb, hl, hm, hmm, _, hx⟩
  · simp [Value.cells] at hcs
    obtain ⟨rfl, rfl, rfl⟩ := hcs
    exact ⟨by omega, fun i hi => by omega⟩
  · simp [Value.cells] at hcs
    obtain ⟨rfl, rfl, rfl⟩ := hcs
    refine ⟨by unfold maxLen at hm; omega, fun i hi => ?_⟩
    obtain ⟨cs', h1, h2⟩ := hx i (by simp at hmm; omega)
    rw [ce] at h1
    obtain ⟨_, hlen, hcell⟩ := World.cells?_some h1
    obtain ⟨xs, k, hk, hxy, _, hxl, hf⟩ := DataW.trod_struct he h2
    match xs, hxl, cs', hlen with
    | [y0, y1, y2], _, [v0, v1, v2], _ =>
      have g0 := hf 0 f0 rfl
      have g1 := hf 1 f1 rfl
      have g2 := hf 2 f2 rfl
      simp [o0, o1, o2, c0, c1, c2] at g0 g1 g2
      have e0 := hcell 0 (by omega)
      have e1 := hcell 1 (by omega)
      have e2 := hcell 2 (by omega)
      rw [Go.Deep.add_add] at e0 e1 e2
      exact ⟨ad, _, v0, v1, v2, y0, y1, y2, rfl, by simpa using e0, by simpa using e1, by simpa using e2, g0, g1, g2⟩
end
/-- The parts behind a slice. -/
def PartRow (w : World) (q : Option Addr) (ps : List Pt) : Prop :=
  ∀ j (h : j < ps.length), ∃ b o sv, q = some ⟨b, o, none⟩ ∧ b < w.heap.size ∧ w.cell? ⟨b, o + j * 3, none⟩ = some (.bool ps[j].isText) ∧ w.cell? ⟨b, o + j * 3 + 1, none⟩ = some (.int .i64 ps[j].n) ∧ w.cell? ⟨b, o + j * 3 + 2, none⟩ = some sv ∧ Old w.heap.size w sv ps[j].text ∧ ps[j].text.length ≤ 9223372036854775807
/-- The asks behind a slice. -/
structure Ak where
  isText : Bool
  least : Int
  most : Int
def AskRow (w : World) (q : Option Addr) (ks : List Ak) : Prop :=
  ∀ j (h : j < ks.length), ∃ b o, q = some ⟨b, o, none⟩ ∧ b < w.heap.size ∧ w.cell? ⟨b, o + j * 3, none⟩ = some (.bool ks[j].isText) ∧ w.cell? ⟨b, o + j * 3 + 1, none⟩ = some (.int .i64 ks[j].least) ∧ w.cell? ⟨b, o + j * 3 + 2, none⟩ = some (.int .i64 ks[j].most)
section
variable {H : Type} {enc : TypeId × Value → H} {P : Program} {w : World} {base : Nat} {held : Bool}
theorem add_nought (ad : Addr) : ad.add 0 = ad := by obtain ⟨b, o, s⟩ := ad; unfold Addr.add; split <;> simp_all
theorem spot_of {ad : Addr} {v : Value} (h : w.cell? ad = some v) : ad.spot = none := by
  cases hs : ad.spot with
  | none => rfl
  | some q =>
    unfold World.cell? at h
    split at h
    · simp [hs] at h
    · cases h
theorem rowIs_trod {t e : TypeId} {fuel : Nat} {v : Value} {x : DataW H × List MemPlace} (ht : P.underlying t = some (.slice e)) (he : P.underlying e = some (.int .u8)) (hc : P.cellsOf e = 1)
    (h : DataW.trod enc P w base (fun _ => true) held fuel t [v] = some x) : ∃ a len cap, v = .slice a len cap ∧ RowIs w a len cap := by
  rcases open_ints ht he hc h with ⟨hcs, _⟩ | ⟨x, l, c, zs, hcs, _, hl, hm, hz, _, hcell, hwz⟩
  · simp only [List.cons.injEq, and_true] at hcs
    exact ⟨none, 0, 0, hcs, rowIs_nil _ _⟩
  · simp only [List.cons.injEq, and_true] at hcs
    exact ⟨some x, l, c, hcs, rowIs_of hl hm (by simpa using hz) hcell hwz⟩
theorem partRow_of {t e e5 : TypeId} {f0 f1 f2 : Field} {fuel : Nat} {a : Option Addr} {len cap : Nat} {x : DataW H × List MemPlace} (ht : P.underlying t = some (.slice e)) (he : P.underlying e = some (.struct #[f0, f1, f2]))
    (ce : P.cellsOf e = 3) (o0 : f0.offset = 0) (o1 : f1.offset = 1) (o2 : f2.offset = 2) (c0 : P.cellsOf f0.type = 1) (c1 : P.cellsOf f1.type = 1) (c2 : P.cellsOf f2.type = 1)
    (t0 : P.underlying f0.type = some .bool) (t1 : P.underlying f1.type = some (.int .i64)) (t2 : P.underlying f2.type = some (.slice e5)) (t3 : P.underlying e5 = some (.int .u8)) (c5 : P.cellsOf e5 = 1)
    (h : DataW.trod enc P w base (fun _ => true) held fuel t (Value.slice a len cap).cells.toList = some x) :
    len ≤ 9223372036854775807 ∧ ∃ ps : List Pt, ps.length = len ∧ PartRow w a ps := by
  obtain ⟨hlen, hx⟩ := open_triples ht he ce o0 o1 o2 c0 c1 c2 h
  refine ⟨hlen, ?_⟩
  have each : ∀ i, i < len → ∃ q : Bool × Int × List Nat, ∃ b o sv, a = some ⟨b, o, none⟩ ∧ b < w.heap.size ∧ w.cell? ⟨b, o + i * 3, none⟩ = some (.bool q.1) ∧ w.cell? ⟨b, o + i * 3 + 1, none⟩ = some (.int .i64 q.2.1) ∧ w.cell? ⟨b, o + i * 3 + 2, none⟩ = some sv ∧ Old w.heap.size w sv q.2.2 ∧ q.2.2.length ≤ 9223372036854775807 := by
    intro i hi
    obtain ⟨ad0, _, z0, _, _, _, _, _, ea0, hz0, _⟩ := hx 0 (by omega)
    rw [Nat.zero_mul, add_nought] at hz0
    have hsp := spot_of hz0
    obtain ⟨ad, n, v0, v1, v2, y0, y1, y2, ea, k0, k1, k2, g0, g1, g2⟩ := hx i hi
    rw [ea0] at ea
    obtain rfl := Option.some.inj ea
    obtain ⟨b, o, s⟩ := ad0
    simp only at hsp
    subst hsp
    obtain ⟨b0, e0, _⟩ := DataW.trod_bool t0 g0
    obtain ⟨n1, e1, _, _⟩ := DataW.trod_int t1 g1
    obtain ⟨p, ln, cp, e2, hr⟩ := rowIs_trod t2 t3 c5 g2
    obtain ⟨l, hl, hs⟩ := Src.of hr
    simp only [List.cons.injEq, and_true] at e0 e1
    subst e0 e1 e2
    rw [Addr.add_mid] at k0 k1 k2
    exact ⟨(b0, n1, l), b, o, _, ea0, World.block_lt_of_cell? w _ hz0, k0, by rw [Nat.add_assoc]; exact k1, by rw [Nat.add_assoc]; exact k2, Old.of hs, by have := hr.max; simp only; omega⟩
  obtain ⟨f, hf⟩ := Go.Deep.choose_lt each
  refine ⟨(List.range len).map (fun i => ⟨(f i).1, (f i).2.1, (f i).2.2⟩), by simp, fun j hj => ?_⟩
  have hj' : j < len := by simpa using hj
  obtain ⟨b, o, sv, h1, h2, h3, h4, h5, h6, h7⟩ := hf j hj'
  exact ⟨b, o, sv, h1, h2, by simpa using h3, by simpa using h4, h5, by simpa using h6, by simpa using h7⟩
theorem askRow_of {t e : TypeId} {f0 f1 f2 : Field} {fuel : Nat} {a : Option Addr} {len cap : Nat} {x : DataW H × List MemPlace} (ht : P.underlying t = some (.slice e)) (he : P.underlying e = some (.struct #[f0, f1, f2]))
    (ce : P.cellsOf e = 3) (o0 : f0.offset = 0) (o1 : f1.offset = 1) (o2 : f2.offset = 2) (c0 : P.cellsOf f0.type = 1) (c1 : P.cellsOf f1.type = 1) (c2 : P.cellsOf f2.type = 1)
    (t0 : P.underlying f0.type = some .bool) (t1 : P.underlying f1.type = some (.int .i64)) (t2 : P.underlying f2.type = some (.int .i64))
    (h : DataW.trod enc P w base (fun _ => true) held fuel t (Value.slice a len cap).cells.toList = some x) :
    len ≤ 9223372036854775807 ∧ ∃ ks : List Ak, ks.length = len ∧ AskRow w a ks := by
  obtain ⟨hlen, hx⟩ := open_triples ht he ce o0 o1 o2 c0 c1 c2 h
  refine ⟨hlen, ?_⟩
  have each : ∀ i, i < len → ∃ q : Bool × Int × Int, ∃ b o, a = some ⟨b, o, none⟩ ∧ b < w.heap.size ∧ w.cell? ⟨b, o + i * 3, none⟩ = some (.bool q.1) ∧ w.cell? ⟨b, o + i * 3 + 1, none⟩ = some (.int .i64 q.2.1) ∧ w.cell? ⟨b, o + i * 3 + 2, none⟩ = some (.int .i64 q.2.2) := by
    intro i hi
    obtain ⟨ad0, _, z0, _, _, _, _, _, ea0, hz0, _⟩ := hx 0 (by omega)
    rw [Nat.zero_mul, add_nought] at hz0
    have hsp := spot_of hz0
    obtain ⟨ad, n, v0, v1, v2, y0, y1, y2, ea, k0, k1, k2, g0, g1, g2⟩ := hx i hi
    rw [ea0] at ea
    obtain rfl := Option.some.inj ea
    obtain ⟨b, o, s⟩ := ad0
    simp only at hsp
    subst hsp
    obtain ⟨b0, e0, _⟩ := DataW.trod_bool t0 g0
    obtain ⟨n1, e1, _, _⟩ := DataW.trod_int t1 g1
    obtain ⟨n2, e2, _, _⟩ := DataW.trod_int t2 g2
    simp only [List.cons.injEq, and_true] at e0 e1 e2
    subst e0 e1 e2
    rw [Addr.add_mid] at k0 k1 k2
    exact ⟨(b0, n1, n2), b, o, ea0, World.block_lt_of_cell? w _ hz0, k0, by rw [Nat.add_assoc]; exact k1, by rw [Nat.add_assoc]; exact k2⟩
  obtain ⟨f, hf⟩ := Go.Deep.choose_lt each
  refine ⟨(List.range len).map (fun i => ⟨(f i).1, (f i).2.1, (f i).2.2⟩), by simp, fun j hj => ?_⟩
  have hj' : j < len := by simpa using hj
  obtain ⟨b, o, h1, h2, h3, h4, h5⟩ := hf j hj'
  exact ⟨b, o, h1, h2, by simpa using h3, by simpa using h4, by simpa using h5⟩
end
end Go.Proofs.YtfjdaafckiefdaaGreatDoor.C8
/- Steps of regions that draw their order and hold calls, one after the other. -/
namespace Go.Proofs.YtfjdaafckiefdaaGreatDoor.C8
open Go.RowKit
/-- Of calls that come one after the other, so many have been. -/
def SeqS (cs : List Nat) (R : Nat → World → Prop) (f : Nat → Bool) (w : World) : Prop := ∃ k, k ≤ cs.length ∧ (∀ j c, cs[j]? = some c → (f c = true ↔ j < k)) ∧ R k w
section
variable {cs : List Nat} {R : Nat → World → Prop} {f : Nat → Bool} {w w' : World}
theorem SeqS.start (h : R 0 w) : SeqS cs R (fun _ => false) w := ⟨0, Nat.zero_le _, fun j c _ => by simp, h⟩
theorem SeqS.quiet (h : SeqS cs R f w) {i : Nat} (hi : i ∉ cs) (hR : ∀ k, R k w → R k w') : SeqS cs R (fun j => if j = i then true else f j) w' := by
  obtain ⟨k, h1, h2, h3⟩ := h
  refine ⟨k, h1, fun j c hc => ?_, hR k h3⟩
  have : c ≠ i := fun e => hi (e ▸ List.mem_of_getElem? hc)
  show (if c = i then true else f c) = true ↔ _
  rw [if_neg this]
  exact h2 j c hc
theorem SeqS.at {i k : Nat} (h : SeqS cs R f w) (hk : cs[k]? = some i) (hf : f i = false) (hp : ∀ c, k ≠ 0 → cs[k - 1]? = some c → f c = true) :
    R k w ∧ ∀ j c, cs[j]? = some c → (f c = true ↔ j < k) := by
  obtain ⟨k', h1, h2, h3⟩ := h
  have e1 : ¬ k < k' := fun e => by have := (h2 k i hk).2 e; rw [hf] at this; cases this
  have e2 : k' = k := by
    by_cases h0 : k = 0
    · omega
    · have hlt : k - 1 < cs.length := by have := (List.getElem?_eq_some_iff.1 hk).1; omega
      have := (h2 (k - 1) _ (List.getElem?_eq_getElem hlt)).1 (hp _ h0 (List.getElem?_eq_getElem hlt))
      omega
  subst e2
  exact ⟨h3, h2⟩
theorem SeqS.next {i k : Nat} (hk : cs[k]? = some i) (hnd : cs.Nodup) (h2 : ∀ j c, cs[j]? = some c → (f c = true ↔ j < k)) (hR : R (k + 1) w') : SeqS cs R (fun j => if j = i then true else f j) w' := by
  have hlt := (List.getElem?_eq_some_iff.1 hk).1
  refine ⟨k + 1, hlt, fun j c hc => ?_, hR⟩
  by_cases hji : c = i
  · subst hji
    show (if c = c then true else f c) = true ↔ _
    rw [if_pos rfl]
    have : j = k := by
      have hj := (List.getElem?_eq_some_iff.1 hc).1
      have h3 := (List.getElem?_eq_some_iff.1 hc).2
      have h4 := (List.getElem?_eq_some_iff.1 hk).2
      exact (List.getElem_inj hnd).1 (h3.trans h4.symm)
    subst this
    simp
  · show (if c = i then true else f c) = true ↔ _
    rw [if_neg hji, h2 j c hc]
    have : j ≠ k := fun e => by subst e; rw [hk] at hc; exact hji (Option.some.inj hc).symm
    omega
theorem SeqS.done (h : SeqS cs R f w) (ha : ∀ c ∈ cs, f c = true) : R cs.length w := by
  obtain ⟨k, h1, h2, h3⟩ := h
  have : k = cs.length := by
    by_cases hk : k = cs.length
    · exact hk
    · have hlt : k < cs.length := by omega
      have := (h2 k _ (List.getElem?_eq_getElem hlt)).1 (ha _ (List.getElem_mem hlt))
      omega
  rw [← this]
  exact h3
end
section
variable {P : Program} {ops : Array Oper} {Q : Exit → Act → World → Prop} {V : Nat → Value → World → Prop} {bs cs : List Nat} {R : Nat → World → Prop} {f : Nat → Bool}
theorem sq_value {i : Nat} {o : Oper} {a' : Act} {w' w'' : World} (v : Value) (hi : ops[i]? = some o) (hw : Region.wanted o (yielded ops a'.tmps) = true)
    (hr : (execOp a'.eval o).run P w' = .ok (.value v) w'') (hb : Below w'.heap.size w' w'') (hn : i ∉ cs) (hS : SeqS cs R f w') (hR : ∀ k w w', Below w.heap.size w w' → R k w → R k w') (hv : V i v w'') :
    wpOp P ops Q i (fun a'' w2 => Only bs w' w2 ∧ SeqS cs R (fun j => if j = i then true else f j) w2 ∧ ∃ v, a'' = a'.put o.dst v ∧ V i v w2) a' w' :=
  wpOp_value v hi hw hr ⟨Only.of_below hb _, hS.quiet hn (fun k => hR k w' w'' hb), v, rfl, hv⟩
theorem sq_call {i k : Nat} {o : Oper} {a' : Act} {w' : World} (fn : FuncId) (args : Array Value) (hi : ops[i]? = some o) (hw : Region.wanted o (yielded ops a'.tmps) = true)
    (hr : (execOp a'.eval o).run P w' = .ok (.enter fn args) w') (hk : cs[k]? = some i) (hnd : cs.Nodup) (hf : f i = false) (hp : ∀ c, k ≠ 0 → cs[k - 1]? = some c → f c = true) (hS : SeqS cs R f w')
    (h : R k w' → Calls P fn args w' fun e w2 => ∃ v, e = .returned v ∧ Only bs w' w2 ∧ R (k + 1) w2 ∧ V i v w2) :
    wpOp P ops Q i (fun a'' w2 => Only bs w' w2 ∧ SeqS cs R (fun j => if j = i then true else f j) w2 ∧ ∃ v, a'' = a'.put o.dst v ∧ V i v w2) a' w' := by
  obtain ⟨h1, h2⟩ := hS.at hk hf hp
  exact wpOp_call fn args hi hw hr ((h h1).mono fun _ _ ⟨v, he, hg, hR, hv⟩ => ⟨v, he, hg, SeqS.next hk hnd h2 hR, v, rfl, hv⟩)
def notDst (ops : Array Oper) (t : Tmp) : Bool := (List.range ops.size).all fun i => !((ops[i]?).bind (·.dst) == some t)
theorem notDst_spec {t : Tmp} (h : notDst ops t = true) (i : Nat) : (ops[i]?).bind (·.dst) ≠ some t := fun e => by
  have hlt : i < ops.size := by
    cases ho : ops[i]? with
    | none => simp [ho] at e
    | some oj => exact (Array.getElem?_eq_some_iff.1 ho).1
  have := List.all_eq_true.1 h i (List.mem_range.2 hlt)
  simp [e] at this
/-- No operation writes any slot outside a list. -/
def dstsIn (ops : Array Oper) (ts : List Nat) : Bool := (List.range ops.size).all fun i => match (ops[i]?).bind (·.dst) with
  | none => true
  | some d => ts.contains d
theorem dstsIn_spec {ts : List Nat} (h : dstsIn ops ts = true) (t : Tmp) (ht : ts.contains t = false) (i : Nat) : (ops[i]?).bind (·.dst) ≠ some t := fun e => by
  have hlt : i < ops.size := by
    cases ho : ops[i]? with
    | none => simp [ho] at e
    | some oj => exact (Array.getElem?_eq_some_iff.1 ho).1
  have := List.all_eq_true.1 h i (List.mem_range.2 hlt)
  rw [e] at this
  simp only at this
  rw [ht] at this
  cases this
def waitsFor (o : Oper) (j : Nat) : Bool := o.after.any fun e => Region.binds .any e && e.on == j
theorem pre_of {o : Oper} {a' : Act} {w' : World} (hpre : ∀ e ∈ o.after, Region.binds .any e = true → ∀ d, (ops[e.on]?).bind (·.dst) = some d → V e.on (a'.tmps.getD d undef) w') (j : Nat) (d : Tmp)
    (h : waitsFor o j = true) (hd : (ops[j]?).bind (·.dst) = some d) : V j (a'.tmps.getD d undef) w' := by
  obtain ⟨e, he, hb⟩ := Array.any_eq_true'.1 h
  simp only [Bool.and_eq_true, beq_iff_eq] at hb
  obtain ⟨h1, rfl⟩ := hb
  exact hpre e he h1 d hd
theorem been_of {o : Oper} (hf : ∀ e ∈ o.after, Region.binds .any e = true → f e.on = true) (j : Nat) (h : waitsFor o j = true) : f j = true := by
  obtain ⟨e, he, hb⟩ := Array.any_eq_true'.1 h
  simp only [Bool.and_eq_true, beq_iff_eq] at hb
  obtain ⟨h1, rfl⟩ := hb
  exact hf e he h1
theorem wanted_of {o : Oper} {a' : Act} (j : Nat) (d : Tmp) (b : Bool) (hg : o.guard = some (j, b)) (hd : (ops[j]?).bind (·.dst) = some d) (hv : a'.tmps.getD d undef = .bool b) : Region.wanted o (yielded ops a'.tmps) = true := by
  have hsome : a'.tmps[d]? = some (.bool b) := by
    cases h : a'.tmps[d]? with
    | none => simp [h, undef] at hv
    | some x => simpa [h] using hv
  simp [Region.wanted, hg, yielded, hd, hsome]
end
def IsV (x : Value) (v : Value) (_ : World) : Prop := v = x
theorem only_trans (bs : List Nat) (x y z : World) (h : Only bs x y) (h' : Only bs y z) : Only bs x z := h.trans h'
theorem only_drew (bs : List Nat) (w : World) : Only bs w { w with drawn := w.drawn + 1 } := Only.drewN 1 w bs
/-- Bytes in a slot; they lie in none of these blocks. -/
def SrcV (bs : List Nat) (l : List Nat) (v : Value) (w : World) : Prop := Src w v l ∧ (l ≠ [] → Off v bs)
theorem SrcV.kept {bs l : List Nat} {v : Value} {w w' : World} (h : SrcV bs l v w) (ho : Only bs w w') : SrcV bs l v w' := by
  refine ⟨?_, h.2⟩
  by_cases h0 : l = []
  · subst h0
    exact h.1.empty w'
  · exact h.1.only ho (h.2 h0)
section
variable {P : Program} {ops : Array Oper} {Q : Exit → Act → World → Prop} {V : Nat → Value → World → Prop} {bs cs : List Nat} {R : Nat → World → Prop} {f : Nat → Bool}
/-- An operation whose guard says no. -/
theorem sq_skip {i : Nat} {o : Oper} {a' : Act} {w' : World} (hi : ops[i]? = some o) (hw : Region.wanted o (yielded ops a'.tmps) = false) (hn : i ∉ cs) (hS : SeqS cs R f w') (hv : V i undef w') :
    wpOp P ops Q i (fun a'' w2 => Only bs w' w2 ∧ SeqS cs R (fun j => if j = i then true else f j) w2 ∧ ∃ v, a'' = a'.put o.dst v ∧ V i v w2) a' w' := by
  unfold wpOp
  simp only [hi, hw]
  exact ⟨Only.refl _ _, hS.quiet hn (fun _ h => h), undef, rfl, hv⟩
/-- A call that turns nothing that is counted. -/
theorem sq_quiet {i : Nat} {o : Oper} {a' : Act} {w' : World} (fn : FuncId) (args : Array Value) (hi : ops[i]? = some o) (hw : Region.wanted o (yielded ops a'.tmps) = true)
    (hr : (execOp a'.eval o).run P w' = .ok (.enter fn args) w') (hn : i ∉ cs) (hS : SeqS cs R f w')
    (h : Calls P fn args w' fun e w2 => ∃ v, e = .returned v ∧ Only bs w' w2 ∧ (∀ k, R k w' → R k w2) ∧ V i v w2) :
    wpOp P ops Q i (fun a'' w2 => Only bs w' w2 ∧ SeqS cs R (fun j => if j = i then true else f j) w2 ∧ ∃ v, a'' = a'.put o.dst v ∧ V i v w2) a' w' :=
  wpOp_call fn args hi hw hr (h.mono fun _ _ ⟨v, he, hg, hR, hv⟩ => ⟨v, he, hg, hS.quiet hn hR, v, rfl, hv⟩)
theorem unwanted_of {o : Oper} {a' : Act} (j : Nat) (d : Tmp) (b : Bool) (hg : o.guard = some (j, !b)) (hd : (ops[j]?).bind (·.dst) = some d) (hv : a'.tmps.getD d undef = .bool b) : Region.wanted o (yielded ops a'.tmps) = false := by
  have hsome : a'.tmps[d]? = some (.bool b) := by
    cases h : a'.tmps[d]? with
    | none => simp [h, undef] at hv
    | some x => simpa [h] using hv
  cases b <;> simp [Region.wanted, hg, yielded, hd, hsome]
end
section
variable {o : Oper} {a' : Act} {w' : World}
theorem not_run (t : Tmp) (b : Bool) (ho : o.op = .unOp .not 4 (.tmp t)) (h0 : a'.tmps.getD t undef = .bool b) : (execOp a'.eval o).run Tryz.prog w' = .ok (.value (.bool (!b))) w' := by
  have he : a'.eval (.tmp t) = .bool b := h0
  unfold execOp
  simp only [ho]
  rw [he]
  simp [go_sem]
theorem pick_run (s : Tmp) (b : Bool) (x y : Operand) (u v : Value) (ho : o.op = .pick (.tmp s) x y) (h0 : a'.tmps.getD s undef = .bool b) (h1 : a'.eval x = u) (h2 : a'.eval y = v) : (execOp a'.eval o).run Tryz.prog w' = .ok (.value (if b then u else v)) w' := by
  have he : a'.eval (.tmp s) = .bool b := h0
  unfold execOp
  simp only [ho]
  rw [he, h1, h2]
  cases b <;> simp [go_sem]
theorem neqS_run (s t : Tmp) (x y : ByteArray) (ho : o.op = .binOp .neq 9 (.tmp s) (.tmp t) 9) (h0 : a'.tmps.getD s undef = .string x) (h1 : a'.tmps.getD t undef = .string y) : (execOp a'.eval o).run Tryz.prog w' = .ok (.value (.bool (!(x.toList == y.toList)))) w' := by
  have he : a'.eval (.tmp s) = .string x := h0
  have hc : a'.eval (.tmp t) = .string y := h1
  unfold execOp
  simp only [ho]
  rw [he, hc]
  simp [go_sem]
theorem neqN_run (s t : Tmp) (x y : Int) (ho : o.op = .binOp .neq 3 (.tmp s) (.tmp t) 3) (h0 : a'.tmps.getD s undef = .int .i64 x) (h1 : a'.tmps.getD t undef = .int .i64 y) : (execOp a'.eval o).run Tryz.prog w' = .ok (.value (.bool (!(x == y)))) w' := by
  have he : a'.eval (.tmp s) = .int .i64 x := h0
  have hc : a'.eval (.tmp t) = .int .i64 y := h1
  unfold execOp
  simp only [ho]
  rw [he, hc]
  simp [go_sem]
  rfl
theorem neqB_run (s t : Tmp) (x y : Bool) (ho : o.op = .binOp .neq 4 (.tmp s) (.tmp t) 4) (h0 : a'.tmps.getD s undef = .bool x) (h1 : a'.tmps.getD t undef = .bool y) : (execOp a'.eval o).run Tryz.prog w' = .ok (.value (.bool (!(x == y)))) w' := by
  have he : a'.eval (.tmp s) = .bool x := h0
  have hc : a'.eval (.tmp t) = .bool y := h1
  unfold execOp
  simp only [ho]
  rw [he, hc]
  simp [go_sem]
theorem conv_run {l : List Nat} (t : Tmp) (ho : o.op = .convert 22 9 (.tmp t)) (h : Src w' (a'.tmps.getD t undef) l) : (execOp a'.eval o).run Tryz.prog w' = .ok (.value (.string (strB l))) w' := by
  have hc := conv_src h
  unfold execOp
  simp only [ho, Act.eval, Sem.run_bind, hc, Result.andThen_ok, Sem.run_pure]
theorem fa_run (T : TypeId) (k : Nat) (t : Tmp) (b : Nat) (ho : o.op = .fieldAddr T (.tmp t) k) (h0 : a'.tmps.getD t undef = .pointer (some ⟨b, 0, none⟩)) (hf : ∀ w : World, (Instr.fieldAt T (.pointer (some ⟨b, 0, none⟩)) k).run Tryz.prog w = .ok (.pointer (some ⟨b, k, none⟩)) w) :
    (execOp a'.eval o).run Tryz.prog w' = .ok (.value (.pointer (some ⟨b, k, none⟩))) w' := by
  have he : a'.eval (.tmp t) = .pointer (some ⟨b, 0, none⟩) := h0
  unfold execOp
  simp only [ho]
  rw [he]
  simp [hf, Result.andThen]
theorem load_run (T : TypeId) (t : Tmp) (b k : Nat) (v : Value) (ho : o.op = .load T (.tmp t)) (h0 : a'.tmps.getD t undef = .pointer (some ⟨b, k, none⟩)) (hf : (Instr.loadAt T (.pointer (some ⟨b, k, none⟩))).run Tryz.prog w' = .ok v w') :
    (execOp a'.eval o).run Tryz.prog w' = .ok (.value v) w' := by
  have he : a'.eval (.tmp t) = .pointer (some ⟨b, k, none⟩) := h0
  unfold execOp
  simp only [ho]
  rw [he]
  simp [hf, Result.andThen]
end
theorem fa40_0 (b : Nat) (w : World) : (Instr.fieldAt 86 (.pointer (some ⟨b, 0, none⟩)) 0).run Tryz.prog w = .ok (.pointer (some ⟨b, 0, none⟩)) w := by simp [go_sem]
theorem fa40_1 (b : Nat) (w : World) : (Instr.fieldAt 86 (.pointer (some ⟨b, 0, none⟩)) 1).run Tryz.prog w = .ok (.pointer (some ⟨b, 1, none⟩)) w := by simp [go_sem]
theorem fa40_2 (b : Nat) (w : World) : (Instr.fieldAt 86 (.pointer (some ⟨b, 0, none⟩)) 2).run Tryz.prog w = .ok (.pointer (some ⟨b, 2, none⟩)) w := by simp [go_sem]
theorem ld4 {b k : Nat} {x : Bool} {w : World} (h : w.cell? ⟨b, k, none⟩ = some (.bool x)) : (Instr.loadAt 4 (.pointer (some ⟨b, k, none⟩))).run Tryz.prog w = .ok (.bool x) w := by simp [go_sem, h]
theorem ld3 {b k : Nat} {x : Int} {w : World} (h : w.cell? ⟨b, k, none⟩ = some (.int .i64 x)) : (Instr.loadAt 3 (.pointer (some ⟨b, k, none⟩))).run Tryz.prog w = .ok (.int .i64 x) w := by simp [go_sem, h]
theorem ld22 {b k : Nat} {q : Option Addr} {n c : Nat} {w : World} (h : w.cell? ⟨b, k, none⟩ = some (.slice q n c)) : (Instr.loadAt 22 (.pointer (some ⟨b, k, none⟩))).run Tryz.prog w = .ok (.slice q n c) w := by simp [go_sem, h]
theorem nil_run {o : Oper} {a' : Act} {w' : World} (t : Tmp) (x : Addr) (ho : o.op = .nilCheck (.tmp t)) (h0 : a'.tmps.getD t undef = .pointer (some x)) : (execOp a'.eval o).run Tryz.prog w' = .ok (.value (.pointer (some x))) w' := by
  have he : a'.eval (.tmp t) = .pointer (some x) := h0
  unfold execOp
  simp only [ho]
  rw [he]
  simp [go_sem]
end Go.Proofs.YtfjdaafckiefdaaGreatDoor.C8
