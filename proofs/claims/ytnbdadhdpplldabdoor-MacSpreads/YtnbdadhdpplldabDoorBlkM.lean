/- What is spread, cut; a frame behind a region. -/
import Derived.Test.YtnbdadhdpplldabDoorBlkS
namespace Go.Proofs.YtnbdadhdpplldabDoor
open Go.RowKit
namespace Mk
theorem row_cut (key info : List Nat) (k : Nat) : ∀ K, k < K → ((row key info K).drop (32 * k)).take 32 = bl key info (k + 1)
  | 0, h => by omega
  | K + 1, h => by
    by_cases e : k = K
    · subst e
      rw [row, List.drop_append, List.drop_of_length_le (by rw [row_length]; exact Nat.le_refl _), row_length, Nat.sub_self, List.nil_append, List.drop_zero, List.take_of_length_le (by rw [bl_length]; exact Nat.le_refl _)]
    · rw [row, List.drop_append_of_le_length (by rw [row_length]; omega), List.take_append_of_le_length (by rw [List.length_drop, row_length]; omega)]
      exact row_cut key info k K (by omega)
theorem spread_cut (key info : List Nat) (k N t : Nat) (h : 32 * k < N) (ht : t = min 32 (N - 32 * k)) : ((spread key info N).drop (32 * k)).take t = (bl key info (k + 1)).take t := by
  rw [← row_cut key info k ((N + 31) / 32) (by omega), spread, List.drop_take, List.take_take, List.take_take]
  congr 1
  omega
end Mk
theorem range_cut {w : World} {g m t : Nat} {l : List Nat} (h : w.rangeAt g 0 (ints .u8 l)) : w.rangeAt g m (ints .u8 ((l.drop m).take t)) := fun j u hu => by
  have h1 : (ints .u8 l)[m + j]? = some u := by
    rw [ints, List.map_take, List.map_drop, List.getElem?_take] at hu
    split at hu
    · rw [List.getElem?_drop] at hu
      exact hu
    · cases hu
  have h2 := h (m + j) u h1
  rwa [Nat.zero_add] at h2
theorem bytes_cut {w : World} {g m t c : Nat} {l : List Nat} (hs : ∀ x ∈ l, x < 256) (h : w.rangeAt g 0 (ints .u8 l)) (hl : m + t ≤ l.length) (hc : m + t ≤ c) : BytesAt w (.slice (some ⟨g, m, none⟩) t (c - m)) ((l.drop m).take t) := by
  have e : ((l.drop m).take t).length = t := by rw [List.length_take, List.length_drop]; omega
  exact ⟨fun x hx => hs x (List.mem_of_mem_drop (List.mem_of_mem_take hx)), .inr ⟨g, m, c - m, by rw [e], by rw [e]; omega, range_cut h⟩⟩
theorem dst_from {ops : Array Oper} {lo : Nat} (h : (ops.toList.all fun o => match o.dst with | some d => decide (lo ≤ d) | none => true) = true) (t : Nat) (ht : t < lo) (i : Nat) : (ops[i]?).bind (·.dst) ≠ some t := fun e => by
  obtain ⟨o, ho, hd⟩ := Option.bind_eq_some_iff.1 e
  have h1 := List.all_eq_true.1 h o (by obtain ⟨hi, rfl⟩ := Array.getElem?_eq_some_iff.1 ho; simp)
  simp only [hd, decide_eq_true_eq] at h1
  omega
theorem frame78 {A F : Array Value} (hs : A.size = 78) (h : ∀ t, t < 59 → A.getD t undef = F.getD t undef) : A = #[F.getD 0 undef, F.getD 1 undef, F.getD 2 undef, F.getD 3 undef, F.getD 4 undef, F.getD 5 undef, F.getD 6 undef, F.getD 7 undef, F.getD 8 undef, F.getD 9 undef, F.getD 10 undef, F.getD 11 undef, F.getD 12 undef, F.getD 13 undef, F.getD 14 undef, F.getD 15 undef, F.getD 16 undef, F.getD 17 undef, F.getD 18 undef, F.getD 19 undef, F.getD 20 undef, F.getD 21 undef, F.getD 22 undef, F.getD 23 undef, F.getD 24 undef, F.getD 25 undef, F.getD 26 undef, F.getD 27 undef, F.getD 28 undef, F.getD 29 undef, F.getD 30 undef, F.getD 31 undef, F.getD 32 undef, F.getD 33 undef, F.getD 34 undef, F.getD 35 undef, F.getD 36 undef, F.getD 37 undef, F.getD 38 undef, F.getD 39 undef, F.getD 40 undef, F.getD 41 undef, F.getD 42 undef, F.getD 43 undef, F.getD 44 undef, F.getD 45 undef, F.getD 46 undef, F.getD 47 undef, F.getD 48 undef, F.getD 49 undef, F.getD 50 undef, F.getD 51 undef, F.getD 52 undef, F.getD 53 undef, F.getD 54 undef, F.getD 55 undef, F.getD 56 undef, F.getD 57 undef, F.getD 58 undef, A.getD 59 undef, A.getD 60 undef, A.getD 61 undef, A.getD 62 undef, A.getD 63 undef, A.getD 64 undef, A.getD 65 undef, A.getD 66 undef, A.getD 67 undef, A.getD 68 undef, A.getD 69 undef, A.getD 70 undef, A.getD 71 undef, A.getD 72 undef, A.getD 73 undef, A.getD 74 undef, A.getD 75 undef, A.getD 76 undef, A.getD 77 undef] := by
  rw [← h 0 (by decide), ← h 1 (by decide), ← h 2 (by decide), ← h 3 (by decide), ← h 4 (by decide), ← h 5 (by decide), ← h 6 (by decide), ← h 7 (by decide), ← h 8 (by decide), ← h 9 (by decide), ← h 10 (by decide), ← h 11 (by decide), ← h 12 (by decide), ← h 13 (by decide), ← h 14 (by decide), ← h 15 (by decide), ← h 16 (by decide), ← h 17 (by decide), ← h 18 (by decide), ← h 19 (by decide), ← h 20 (by decide), ← h 21 (by decide), ← h 22 (by decide), ← h 23 (by decide), ← h 24 (by decide), ← h 25 (by decide), ← h 26 (by decide), ← h 27 (by decide), ← h 28 (by decide), ← h 29 (by decide), ← h 30 (by decide), ← h 31 (by decide), ← h 32 (by decide), ← h 33 (by decide), ← h 34 (by decide), ← h 35 (by decide), ← h 36 (by decide), ← h 37 (by decide), ← h 38 (by decide), ← h 39 (by decide), ← h 40 (by decide), ← h 41 (by decide), ← h 42 (by decide), ← h 43 (by decide), ← h 44 (by decide), ← h 45 (by decide), ← h 46 (by decide), ← h 47 (by decide), ← h 48 (by decide), ← h 49 (by decide), ← h 50 (by decide), ← h 51 (by decide), ← h 52 (by decide), ← h 53 (by decide), ← h 54 (by decide), ← h 55 (by decide), ← h 56 (by decide), ← h 57 (by decide), ← h 58 (by decide)]
  refine Array.ext (by simp [hs]) (fun i h1 h2 => ?_)
  have e : A[i] = A.getD i undef := by simp [h1]
  rw [e]
  rw [hs] at h1
  clear e h hs
  match i, h1 with
  | 0, _ => rfl
  | 1, _ => rfl
  | 2, _ => rfl
  | 3, _ => rfl
  | 4, _ => rfl
  | 5, _ => rfl
  | 6, _ => rfl
  | 7, _ => rfl
  | 8, _ => rfl
  | 9, _ => rfl
  | 10, _ => rfl
  | 11, _ => rfl
  | 12, _ => rfl
  | 13, _ => rfl
  | 14, _ => rfl
  | 15, _ => rfl
  | 16, _ => rfl
  | 17, _ => rfl
  | 18, _ => rfl
  | 19, _ => rfl
  | 20, _ => rfl
  | 21, _ => rfl
  | 22, _ => rfl
  | 23, _ => rfl
  | 24, _ => rfl
  | 25, _ => rfl
  | 26, _ => rfl
  | 27, _ => rfl
  | 28, _ => rfl
  | 29, _ => rfl
  | 30, _ => rfl
  | 31, _ => rfl
  | 32, _ => rfl
  | 33, _ => rfl
  | 34, _ => rfl
  | 35, _ => rfl
  | 36, _ => rfl
  | 37, _ => rfl
  | 38, _ => rfl
  | 39, _ => rfl
  | 40, _ => rfl
  | 41, _ => rfl
  | 42, _ => rfl
  | 43, _ => rfl
  | 44, _ => rfl
  | 45, _ => rfl
  | 46, _ => rfl
  | 47, _ => rfl
  | 48, _ => rfl
  | 49, _ => rfl
  | 50, _ => rfl
  | 51, _ => rfl
  | 52, _ => rfl
  | 53, _ => rfl
  | 54, _ => rfl
  | 55, _ => rfl
  | 56, _ => rfl
  | 57, _ => rfl
  | 58, _ => rfl
  | 59, _ => rfl
  | 60, _ => rfl
  | 61, _ => rfl
  | 62, _ => rfl
  | 63, _ => rfl
  | 64, _ => rfl
  | 65, _ => rfl
  | 66, _ => rfl
  | 67, _ => rfl
  | 68, _ => rfl
  | 69, _ => rfl
  | 70, _ => rfl
  | 71, _ => rfl
  | 72, _ => rfl
  | 73, _ => rfl
  | 74, _ => rfl
  | 75, _ => rfl
  | 76, _ => rfl
  | 77, _ => rfl
  | i + 78, h => omega
def blkV (g co b k N : Nat) (S : List Nat) : Nat → Value → World → Prop
  | 0 => IsV (.slice (some ⟨g, 0, none⟩) N co)
  | 1 => IsV (.int .i64 ((k : Nat) : Int))
  | 2 => IsV (.int .i64 ((32 * k : Nat) : Int))
  | 3 => IsV (.int .i64 ((k : Nat) : Int))
  | 4 => IsV (.int .i64 ((32 * k : Nat) : Int))
  | 5 => IsV (.int .i64 ((32 * k + 32 : Nat) : Int))
  | 6 => IsV (.int .i64 ((N : Nat) : Int))
  | 7 => IsV (.int .i64 ((min (32 * k + 32) N : Nat) : Int))
  | 8 => BV S
  | 9 => StrV S
  | 10 => IsV (.slice (some ⟨b, 0, none⟩) 32 32)
  | 11 => IsV (.int .i64 ((N : Nat) : Int))
  | 12 => IsV (.int .i64 ((k : Nat) : Int))
  | 13 => IsV (.int .i64 ((32 * k : Nat) : Int))
  | 14 => IsV (.int .i64 ((N - 32 * k : Nat) : Int))
  | 15 => IsV (.int .i64 ((min 32 (N - 32 * k) : Nat) : Int))
  | 16 => BV S
  | 17 => StrV S
  | 18 => IsV (.bool false)
  | _ => fun _ _ => True
theorem blkV_kept (g co b k N : Nat) (S : List Nat) : ∀ i v w w', blkV g co b k N S i v w → Below w.heap.size w w' → blkV g co b k N S i v w'
  | 0, _, _, _, h, _ => h
  | 1, _, _, _, h, _ => h
  | 2, _, _, _, h, _ => h
  | 3, _, _, _, h, _ => h
  | 4, _, _, _, h, _ => h
  | 5, _, _, _, h, _ => h
  | 6, _, _, _, h, _ => h
  | 7, _, _, _, h, _ => h
  | 8, _, _, _, h, hb => BV.kept h hb
  | 9, _, _, _, h, _ => h
  | 10, _, _, _, h, _ => h
  | 11, _, _, _, h, _ => h
  | 12, _, _, _, h, _ => h
  | 13, _, _, _, h, _ => h
  | 14, _, _, _, h, _ => h
  | 15, _, _, _, h, _ => h
  | 16, _, _, _, h, hb => BV.kept h hb
  | 17, _, _, _, h, _ => h
  | 18, _, _, _, h, _ => h
  | _ + 19, _, _, _, _, _ => trivial
end Go.Proofs.YtnbdadhdpplldabDoor
