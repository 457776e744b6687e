/- The plain mathematics of parts in bytes. -/
import Derived.Test.YtchoiioeeepoaaaLaws2
import Derived.Laws.IdiomStrings
namespace Go.Proofs.Ytchoiioeeepoaaa.C8
open Go.RowKit
/-- Bytes as a string. -/
def strB (l : List Nat) : ByteArray := (l.map (fun (n : Nat) => (n : Int))).foldl (fun r n => r.push (UInt8.ofNat n.toNat)) ByteArray.empty
theorem strB_go (l : List Nat) (acc : ByteArray) : ((l.map (fun (n : Nat) => (n : Int))).foldl (fun r n => r.push (UInt8.ofNat n.toNat)) acc).data.toList = acc.data.toList ++ l.map UInt8.ofNat := by
  induction l generalizing acc with
  | nil => simp
  | cons x r ih =>
    simp only [List.map_cons, List.foldl_cons]
    rw [ih]
    simp
theorem strB_list (l : List Nat) : (strB l).data.toList = l.map UInt8.ofNat := by
  unfold strB
  rw [strB_go]
  rfl
theorem strB_size (l : List Nat) : (strB l).size = l.length := by
  rw [← ByteArray.size_data, ← Array.length_toList, strB_list, List.length_map]
theorem ofNat_inj {x y : Nat} (hx : x < 256) (hy : y < 256) (h : UInt8.ofNat x = UInt8.ofNat y) : x = y := by
  have := congrArg UInt8.toNat h
  simpa [Nat.mod_eq_of_lt hx, Nat.mod_eq_of_lt hy] using this
theorem strB_inj {l m : List Nat} (hl : ∀ x ∈ l, x < 256) (hm : ∀ x ∈ m, x < 256) (h : strB l = strB m) : l = m := by
  have h1 : l.map UInt8.ofNat = m.map UInt8.ofNat := by rw [← strB_list, ← strB_list, h]
  clear h
  induction l generalizing m with
  | nil => cases m with
    | nil => rfl
    | cons y s => simp at h1
  | cons x r ih => cases m with
    | nil => simp at h1
    | cons y s =>
      simp only [List.map_cons, List.cons.injEq] at h1
      rw [ofNat_inj (hl x (by simp)) (hm y (by simp)) h1.1, ih (fun z hz => hl z (by simp [hz])) (fun z hz => hm z (by simp [hz])) h1.2]
theorem strB_beqL {l m : List Nat} (hl : ∀ x ∈ l, x < 256) (hm : ∀ x ∈ m, x < 256) : ((strB l).toList == (strB m).toList) = decide (l = m) := by
  by_cases h : l = m
  · simp [h]
  · rw [decide_eq_false h, beq_eq_false_iff_ne]
    intro e
    rw [ByteArray.toList_eq, ByteArray.toList_eq] at e
    apply h
    apply strB_inj hl hm
    have : (strB l).data = (strB m).data := Array.toList_inj.1 e
    cases hx : strB l
    cases hy : strB m
    rw [hx, hy] at this
    simp only at this
    rw [this]
theorem strB_beq {l m : List Nat} (hl : ∀ x ∈ l, x < 256) (hm : ∀ x ∈ m, x < 256) : (strB l == strB m) = decide (l = m) := by
  rw [beq_toListBytes, strB_beqL hl hm]
namespace Cd
/-- A number in so many bytes, the highest first. -/
def be : Nat → Nat → List Nat
  | 0, _ => []
  | k + 1, n => be k (n / 256) ++ [n % 256]
def val (l : List Nat) : Nat := l.foldl (fun a x => a * 256 + x) 0
theorem be_length : ∀ k n, (be k n).length = k
  | 0, _ => rfl
  | k + 1, n => by simp [be, be_length k]
theorem be_lt : ∀ k n, ∀ x ∈ be k n, x < 256
  | 0, _, x, h => by simp [be] at h
  | k + 1, n, x, h => by
    simp only [be, List.mem_append, List.mem_singleton] at h
    rcases h with h | rfl
    · exact be_lt k _ x h
    · exact Nat.mod_lt _ (by decide)
theorem val_snoc (l : List Nat) (x : Nat) : val (l ++ [x]) = val l * 256 + x := by simp [val, List.foldl_append]
theorem val_be : ∀ k n, val (be k n) = n % 256 ^ k
  | 0, n => by simp [be, val, Nat.mod_one]
  | k + 1, n => by
    rw [be, val_snoc, val_be k, Nat.pow_succ, Nat.mul_comm (256 ^ k) 256, Nat.mod_mul]
    omega
theorem val_lt (l : List Nat) (h : ∀ x ∈ l, x < 256) : val l < 256 ^ l.length := by
  have key : ∀ (l : List Nat) (a : Nat), (∀ x ∈ l, x < 256) → l.foldl (fun a x => a * 256 + x) a < (a + 1) * 256 ^ l.length := by
    intro l
    induction l with
    | nil => intro a _; simp
    | cons x r ih =>
      intro a hx
      have h1 := ih (a * 256 + x) (fun y hy => hx y (by simp [hy]))
      have h2 := hx x (by simp)
      simp only [List.foldl_cons, List.length_cons]
      refine Nat.lt_of_lt_of_le h1 ?_
      rw [Nat.pow_succ, Nat.mul_comm (256 ^ r.length) 256, ← Nat.mul_assoc]
      exact Nat.mul_le_mul_right _ (by omega)
  simpa [val] using key l 0 h
theorem be_inj {k m n : Nat} (hm : m < 256 ^ k) (hn : n < 256 ^ k) (h : be k m = be k n) : m = n := by
  have := congrArg val h
  rwa [val_be, val_be, Nat.mod_eq_of_lt hm, Nat.mod_eq_of_lt hn] at this
end Cd
theorem be_nth : ∀ (k i n : Nat), i < k → Sp.nth (Cd.be k n) i = n / 256 ^ (k - 1 - i) % 256
  | 0, _, _, h => by omega
  | k + 1, i, n, h => by
    rw [Cd.be]
    by_cases hi : i < k
    · rw [Sp.nth_append_left (by rw [Cd.be_length]; exact hi), be_nth k i (n / 256) hi, Nat.div_div_eq_div_mul, Nat.mul_comm, ← Nat.pow_succ]
      congr 3
      omega
    · obtain rfl : i = k := by omega
      have := Sp.nth_append_right (l := Cd.be i (n / 256)) (m := [n % 256]) 0
      rw [Cd.be_length, Nat.add_zero] at this
      rw [this]
      simp [Sp.nth]
theorem take_succ_nth {l : List Nat} {i : Nat} (h : i < l.length) : l.take (i + 1) = l.take i ++ [Sp.nth l i] := by
  rw [List.take_succ_eq_append_getElem h]
  simp [Sp.nth, h]
theorem shr_byte {m i x : Nat} (h : x = m / 256 ^ i % 256) : (m : Int) / 2 ^ (8 * i) % 256 = (x : Int) := by
  subst h
  have e : (256 : Nat) ^ i = 2 ^ (8 * i) := by rw [show (256 : Nat) = 2 ^ 8 from rfl, ← Nat.pow_mul]
  rw [e, Int.natCast_emod, Int.natCast_ediv, Int.natCast_pow]
  rfl
theorem or_byte {a x : Nat} (ha : a < 72057594037927936) (hx : x < 256) : bits BinOp.or .u64 ((a * 256 : Nat) : Int) (x : Int) = ((a * 256 + x : Nat) : Int) := by
  rw [u64_or_nat _ _ (by omega) (by omega)]
  congr 1
  rw [Nat.mul_comm]
  exact (Nat.two_pow_add_eq_or_of_lt (i := 8) hx a).symm
theorem val_take {l : List Nat} {k : Nat} (h : k < l.length) : Cd.val (l.take (k + 1)) = Cd.val (l.take k) * 256 + Sp.nth l k := by
  rw [take_succ_nth h, Cd.val_snoc]
/-- A part: a number, or a text. -/
structure Pt where
  isText : Bool
  n : Int
  text : List Nat
namespace Cd
/-- A part's error, 0 where it is right. -/
def wrong (p : Pt) : Nat := if p.isText = true then (if 4096 < p.text.length then 11 else 0) else if p.n < 0 ∨ 1099511627776 < p.n then 12 else 0
/-- A part's bytes. -/
def one (p : Pt) : List Nat := if p.isText = true then be 2 p.text.length ++ p.text else be 6 p.n.toNat
/-- The first wrong one's error. -/
def err : List Pt → Nat
  | [] => 0
  | p :: r => if wrong p = 0 then err r else wrong p
def enc : List Pt → List Nat
  | [] => []
  | p :: r => one p ++ enc r
theorem enc_append (a b : List Pt) : enc (a ++ b) = enc a ++ enc b := by
  induction a with
  | nil => rfl
  | cons p r ih => simp [enc, ih]
theorem enc_snoc (a : List Pt) (p : Pt) : enc (a ++ [p]) = enc a ++ one p := by simp [enc_append, enc]
theorem err_append {a : List Pt} (h : err a = 0) (b : List Pt) : err (a ++ b) = err b := by
  induction a with
  | nil => rfl
  | cons p r ih =>
    simp only [err] at h
    split at h
    · rename_i hw
      simp only [List.cons_append, err, hw, if_true]
      exact ih h
    · contradiction
theorem err_take {l : List Pt} {j : Nat} (h0 : err (l.take j) = 0) (hj : j < l.length) (hw : wrong l[j] ≠ 0) : err l = wrong l[j] := by
  conv => lhs; rw [← List.take_append_drop j l]
  rw [err_append h0, List.drop_eq_getElem_cons hj, err, if_neg hw]
theorem err_take_succ {l : List Pt} {j : Nat} (h0 : err (l.take j) = 0) (hj : j < l.length) (hw : wrong l[j] = 0) : err (l.take (j + 1)) = 0 := by
  rw [List.take_succ_eq_append_getElem hj, err_append h0, err, if_pos hw, err]
theorem wrong_of_err {l : List Pt} (h : err l = 0) : ∀ p ∈ l, wrong p = 0 := by
  induction l with
  | nil => intro p hp; cases hp
  | cons q r ih =>
    simp only [err] at h
    split at h
    · rename_i hw
      intro p hp
      rcases List.mem_cons.1 hp with rfl | hp
      · exact hw
      · exact ih h p hp
    · contradiction
theorem one_length_le {p : Pt} (h : wrong p = 0) : (one p).length ≤ 4098 := by
  unfold wrong at h
  unfold one
  split
  · rename_i ht
    rw [if_pos ht] at h
    split at h
    · contradiction
    · rw [List.length_append, be_length]; omega
  · rw [be_length]; omega
theorem enc_length_le {l : List Pt} (h : ∀ p ∈ l, wrong p = 0) : (enc l).length ≤ 4098 * l.length := by
  induction l with
  | nil => simp [enc]
  | cons p r ih =>
    have h1 := one_length_le (h p (by simp))
    have h2 := ih (fun q hq => h q (by simp [hq]))
    simp only [enc, List.length_append, List.length_cons]
    omega
theorem one_lt {p : Pt} (h : ∀ x ∈ p.text, x < 256) : ∀ x ∈ one p, x < 256 := fun x hx => by
  unfold one at hx
  split at hx
  · rcases List.mem_append.1 hx with hx | hx
    · exact be_lt _ _ x hx
    · exact h x hx
  · exact be_lt _ _ x hx
theorem enc_lt {l : List Pt} (h : ∀ p ∈ l, ∀ x ∈ p.text, x < 256) : ∀ x ∈ enc l, x < 256 := by
  induction l with
  | nil => intro x hx; cases hx
  | cons p r ih =>
    intro x hx
    rcases List.mem_append.1 hx with hx | hx
    · exact one_lt (h p (by simp)) x hx
    · exact ih (fun q hq => h q (by simp [hq])) x hx
end Cd
end Go.Proofs.Ytchoiioeeepoaaa.C8
