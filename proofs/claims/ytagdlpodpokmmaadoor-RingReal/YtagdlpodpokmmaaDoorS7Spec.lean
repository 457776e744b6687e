/- The plain mathematics of suites of signs: a list of things, their numbers, signs and boxes, and what opens a box. -/
import Derived.Test.YtagdlpodpokmmaaDoorS7Map
namespace Go.Proofs.YtagdlpodpokmmaaDoor.S7
/-- Bytes as a string. -/
def strB (l : List Nat) : ByteArray := (l.map (fun (n : Nat) => (n : Int))).foldl (fun r n => r.push (UInt8.ofNat n.toNat)) ByteArray.empty
theorem strB_go (l : List Nat) (acc : ByteArray) : ((l.map (fun (n : Nat) => (n : Int))).foldl (fun r n => r.push (UInt8.ofNat n.toNat)) acc).data.toList = acc.data.toList ++ l.map UInt8.ofNat := by
  induction l generalizing acc with
  | nil => simp
  | cons x r ih =>
    simp only [List.map_cons, List.foldl_cons]
    rw [ih]
    simp
theorem strB_list (l : List Nat) : (strB l).data.toList = l.map UInt8.ofNat := by
  unfold strB
  rw [strB_go]
  rfl
theorem strB_size (l : List Nat) : (strB l).size = l.length := by
  rw [← ByteArray.size_data, ← Array.length_toList, strB_list, List.length_map]
theorem ofNat_inj {x y : Nat} (hx : x < 256) (hy : y < 256) (h : UInt8.ofNat x = UInt8.ofNat y) : x = y := by
  have := congrArg UInt8.toNat h
  simpa [Nat.mod_eq_of_lt hx, Nat.mod_eq_of_lt hy] using this
theorem strB_inj {l m : List Nat} (hl : ∀ x ∈ l, x < 256) (hm : ∀ x ∈ m, x < 256) (h : strB l = strB m) : l = m := by
  have h1 : l.map UInt8.ofNat = m.map UInt8.ofNat := by rw [← strB_list, ← strB_list, h]
  clear h
  induction l generalizing m with
  | nil => cases m with
    | nil => rfl
    | cons y s => simp at h1
  | cons x r ih => cases m with
    | nil => simp at h1
    | cons y s =>
      simp only [List.map_cons, List.cons.injEq] at h1
      rw [ofNat_inj (hl x (by simp)) (hm y (by simp)) h1.1, ih (fun z hz => hl z (by simp [hz])) (fun z hz => hm z (by simp [hz])) h1.2]
theorem strB_beqL {l m : List Nat} (hl : ∀ x ∈ l, x < 256) (hm : ∀ x ∈ m, x < 256) : ((strB l).toList == (strB m).toList) = decide (l = m) := by
  by_cases h : l = m
  · simp [h]
  · rw [decide_eq_false h, beq_eq_false_iff_ne]
    intro e
    rw [ByteArray.toList_eq, ByteArray.toList_eq] at e
    apply h
    apply strB_inj hl hm
    have : (strB l).data = (strB m).data := Array.toList_inj.1 e
    cases hx : strB l
    cases hy : strB m
    rw [hx, hy] at this
    simp only at this
    rw [this]
theorem strB_beq {l m : List Nat} (hl : ∀ x ∈ l, x < 256) (hm : ∀ x ∈ m, x < 256) : (strB l == strB m) = decide (l = m) := by
  rw [beq_toListBytes, strB_beqL hl hm]
namespace Su
/-- One of the list: its sort, key, nonce, other bytes and text. -/
abbrev Thing := Nat × List Nat × List Nat × List Nat × List Nat
/-- A number in so many bytes, the highest first. -/
def be : Nat → Nat → List Nat
  | 0, _ => []
  | k + 1, n => be k (n / 256) ++ [n % 256]
def val (l : List Nat) : Nat := l.foldl (fun a x => a * 256 + x) 0
def sign (s n : Nat) : List Nat := 0x53 :: s :: (List.replicate 22 0 ++ be 8 n)
def box (n k : Nat) : List Nat := 0x42 :: (List.replicate (k + 7) 0 ++ be 8 n)
theorem be_length : ∀ k n, (be k n).length = k
  | 0, _ => rfl
  | k + 1, n => by simp [be, be_length k]
theorem be_lt : ∀ k n, ∀ x ∈ be k n, x < 256
  | 0, _, x, h => by simp [be] at h
  | k + 1, n, x, h => by
    simp only [be, List.mem_append, List.mem_singleton] at h
    rcases h with h | rfl
    · exact be_lt k _ x h
    · exact Nat.mod_lt _ (by decide)
theorem val_snoc (l : List Nat) (x : Nat) : val (l ++ [x]) = val l * 256 + x := by simp [val, List.foldl_append]
theorem val_be : ∀ k n, val (be k n) = n % 256 ^ k
  | 0, n => by simp [be, val, Nat.mod_one]
  | k + 1, n => by
    rw [be, val_snoc, val_be k, Nat.pow_succ, Nat.mul_comm (256 ^ k) 256, Nat.mod_mul]
    omega
theorem val_lt (l : List Nat) (h : ∀ x ∈ l, x < 256) : val l < 256 ^ l.length := by
  have key : ∀ (l : List Nat) (a : Nat), (∀ x ∈ l, x < 256) → l.foldl (fun a x => a * 256 + x) a < (a + 1) * 256 ^ l.length := by
    intro l
    induction l with
    | nil => intro a _; simp
    | cons x r ih =>
      intro a hx
      have h1 := ih (a * 256 + x) (fun y hy => hx y (by simp [hy]))
      have h2 := hx x (by simp)
      simp only [List.foldl_cons, List.length_cons]
      refine Nat.lt_of_lt_of_le h1 ?_
      rw [Nat.pow_succ, Nat.mul_comm (256 ^ r.length) 256, ← Nat.mul_assoc]
      exact Nat.mul_le_mul_right _ (by omega)
  simpa [val] using key l 0 h
theorem be_small {n : Nat} (h : n < 256) : be 8 n = [0, 0, 0, 0, 0, 0, 0, n] := by
  simp [be, Nat.mod_eq_of_lt h, Nat.div_eq_of_lt h]
theorem be_inj {k m n : Nat} (hm : m < 256 ^ k) (hn : n < 256 ^ k) (h : be k m = be k n) : m = n := by
  have := congrArg val h
  rwa [val_be, val_be, Nat.mod_eq_of_lt hm, Nat.mod_eq_of_lt hn] at this
theorem sign_length (s n : Nat) : (sign s n).length = 32 := by simp [sign, be_length]
theorem sign_lt {s : Nat} (hs : s < 256) (n : Nat) : ∀ x ∈ sign s n, x < 256 := fun x hx => by
  simp only [sign, List.mem_cons, List.mem_append] at hx
  rcases hx with rfl | rfl | h | h
  · decide
  · exact hs
  · rw [List.eq_of_mem_replicate h]; decide
  · exact be_lt _ _ x h
theorem sign_inj {s t m n : Nat} (hm : m < 256 ^ 8) (hn : n < 256 ^ 8) : sign s m = sign t n ↔ s = t ∧ m = n := by
  constructor
  · intro h
    simp only [sign, List.cons.injEq, true_and] at h
    exact ⟨h.1, be_inj hm hn (List.append_cancel_left h.2)⟩
  · rintro ⟨rfl, rfl⟩; rfl
theorem box_length (n k : Nat) : (box n k).length = k + 16 := by simp [box, be_length]
theorem box_lt (n k : Nat) : ∀ x ∈ box n k, x < 256 := fun x hx => by
  simp only [box, List.mem_cons, List.mem_append] at hx
  rcases hx with rfl | h | h
  · decide
  · rw [List.eq_of_mem_replicate h]; decide
  · exact be_lt _ _ x h
/-- The number in the last eight bytes. -/
def last (b : List Nat) : Nat := val (b.drop (b.length - 8))
theorem last_lt {b : List Nat} (h : ∀ x ∈ b, x < 256) : last b < 2 ^ 64 := by
  have h1 := val_lt (b.drop (b.length - 8)) (fun x hx => h x (List.mem_of_mem_drop hx))
  have h2 : (b.drop (b.length - 8)).length ≤ 8 := by rw [List.length_drop]; omega
  exact Nat.lt_of_lt_of_le h1 (Nat.le_trans (Nat.pow_le_pow_right (by decide) h2) (by decide))
theorem last_box {n : Nat} (hn : n < 256 ^ 8) (k : Nat) : last (box n k) = n := by
  have h : (box n k).drop ((box n k).length - 8) = be 8 n := by
    rw [box_length, show k + 16 - 8 = (0x42 :: List.replicate (k + 7) 0).length from by simp]
    rw [box, ← List.cons_append, List.drop_left]
  rw [last, h, val_be, Nat.mod_eq_of_lt hn]
/-- The number of what is summed, or coded: the first of the list that it is. -/
def pos (s : Nat) (key text : List Nat) : Nat → List Thing → Option Nat
  | _, [] => none
  | n, t :: r => if t.1 = s ∧ t.2.1 = key ∧ t.2.2.2.2 = text then some (n + 1) else pos s key text (n + 1) r
def num (L : List Thing) (s : Nat) (key text : List Nat) : Nat := (pos s key text 0 L).getD (L.length + 1)
def add (L : List Thing) (s : Nat) (key text : List Nat) : List Thing := match pos s key text 0 L with
  | some _ => L
  | none => L ++ [(s, key, [], [], text)]
theorem pos_le {s : Nat} {key text : List Nat} : ∀ (n : Nat) (L : List Thing) (i : Nat), pos s key text n L = some i → n < i ∧ i ≤ n + L.length
  | _, [], _, h => by simp [pos] at h
  | n, t :: r, i, h => by
    simp only [pos] at h
    split at h
    · cases h; simp
    · have := pos_le (n + 1) r i h
      simp only [List.length_cons]
      omega
theorem num_le (L : List Thing) (s : Nat) (key text : List Nat) : 0 < num L s key text ∧ num L s key text ≤ L.length + 1 := by
  unfold num
  cases h : pos s key text 0 L with
  | none => simp
  | some i => have := pos_le 0 L i h; simp only [Option.getD_some]; omega
theorem add_length (L : List Thing) (s : Nat) (key text : List Nat) : L.length ≤ (add L s key text).length ∧ (add L s key text).length ≤ L.length + 1 := by
  unfold add
  split <;> simp
/-- What opens a box: the first of the list that it is the box of, with just these. -/
def opens (key nonce other b : List Nat) : Nat → List Thing → Option (List Nat)
  | _, [] => none
  | n, t :: r => if t.1 = 0x42 ∧ box (n + 1) t.2.2.2.2.length = b ∧ t.2.1 = key ∧ t.2.2.1 = nonce ∧ t.2.2.2.1 = other then some t.2.2.2.2 else opens key nonce other b (n + 1) r
/-- The box with a number. -/
def boxAt (N : Int) : Nat → List Thing → Option Thing
  | _, [] => none
  | n, t :: r => if t.1 = 0x42 ∧ N = ((n + 1 : Nat) : Int) then some t else boxAt N (n + 1) r
/-- The number, as it is read. -/
def signed (n : Nat) : Int := if n < 2 ^ 63 then (n : Int) else (n : Int) - 2 ^ 64
theorem boxAt_le {N : Int} : ∀ (n : Nat) (L : List Thing) (t : Thing), boxAt N n L = some t → t ∈ L ∧ (n : Int) < N ∧ N ≤ n + L.length
  | _, [], _, h => by simp [boxAt] at h
  | n, u :: r, t, h => by
    simp only [boxAt] at h
    split at h
    · rename_i hc
      cases h
      refine ⟨by simp, ?_⟩
      simp only [List.length_cons]
      omega
    · have := boxAt_le (n + 1) r t h
      refine ⟨by simp [this.1], ?_⟩
      simp only [List.length_cons]
      omega
/-- The way of the code: by the number. -/
theorem opens_by {key nonce other b : List Nat} (hb : last b < 2 ^ 64) : ∀ (n : Nat) (L : List Thing), n + L.length < 2 ^ 63 →
    opens key nonce other b n L = match boxAt (signed (last b)) n L with
      | some t => if box (last b) t.2.2.2.2.length = b ∧ t.2.1 = key ∧ t.2.2.1 = nonce ∧ t.2.2.2.1 = other then some t.2.2.2.2 else none
      | none => none
  | _, [], _ => rfl
  | n, t :: r, hl => by
    simp only [List.length_cons] at hl
    have ih := opens_by (key := key) (nonce := nonce) (other := other) (b := b) hb (n + 1) r (by omega)
    have hs : signed (last b) = ((n + 1 : Nat) : Int) ↔ last b = n + 1 := by
      unfold signed
      split <;> omega
    by_cases hN : last b = n + 1
    · by_cases hx : t.1 = 0x42
      · have e1 : boxAt (signed (last b)) n (t :: r) = some t := by simp only [boxAt]; rw [if_pos ⟨hx, hs.2 hN⟩]
        rw [e1]
        simp only [opens]
        rw [hN]
        by_cases hc : box (n + 1) t.2.2.2.2.length = b ∧ t.2.1 = key ∧ t.2.2.1 = nonce ∧ t.2.2.2.1 = other
        · rw [if_pos ⟨hx, hc⟩, if_pos hc]
        · rw [if_neg (fun h => hc h.2), if_neg hc, ih]
          have e2 : boxAt (signed (last b)) (n + 1) r = none := by
            cases h : boxAt (signed (last b)) (n + 1) r with
            | none => rfl
            | some u => have := boxAt_le _ _ _ h; have := hs.2 hN; omega
          rw [e2]
      · have e1 : boxAt (signed (last b)) n (t :: r) = boxAt (signed (last b)) (n + 1) r := by simp only [boxAt]; rw [if_neg (fun h => hx h.1)]
        rw [e1, ← ih]
        simp only [opens]
        rw [if_neg (fun h => hx h.1)]
    · have e1 : boxAt (signed (last b)) n (t :: r) = boxAt (signed (last b)) (n + 1) r := by simp only [boxAt]; rw [if_neg (fun h => hN (hs.1 h.2))]
      rw [e1, ← ih]
      simp only [opens]
      rw [if_neg]
      rintro ⟨_, h, _⟩
      apply hN
      rw [← h, last_box (by omega)]
theorem opens_short {key nonce other b : List Nat} (h : b.length < 16) : ∀ (n : Nat) (L : List Thing), opens key nonce other b n L = none
  | _, [] => rfl
  | n, t :: r => by
    simp only [opens]
    rw [if_neg, opens_short h]
    rintro ⟨_, e, _⟩
    rw [← e, box_length] at h
    omega
end Su
end Go.Proofs.YtagdlpodpokmmaaDoor.S7
