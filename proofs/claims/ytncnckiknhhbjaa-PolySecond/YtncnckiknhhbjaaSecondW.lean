/- The walk of PolySecond. -/
import Derived.Test.YtncnckiknhhbjaaZeros
import Derived.Test.YtncnckiknhhbjaaUse2
namespace Go.Proofs.Ytncnckiknhhbjaa
open Go.RowKit
theorem frame24 {A F : Array Value} (hs : A.size = 116) (h : ∀ t, t ∉ ([9, 10, 23, 24, 25, 26, 27, 28, 29, 30, 31, 32] : List Nat) → A.getD t undef = F.getD t undef) : A = #[F.getD 0 undef, F.getD 1 undef, F.getD 2 undef, F.getD 3 undef, F.getD 4 undef, F.getD 5 undef, F.getD 6 undef, F.getD 7 undef, F.getD 8 undef, A.getD 9 undef, A.getD 10 undef, F.getD 11 undef, F.getD 12 undef, F.getD 13 undef, F.getD 14 undef, F.getD 15 undef, F.getD 16 undef, F.getD 17 undef, F.getD 18 undef, F.getD 19 undef, F.getD 20 undef, F.getD 21 undef, F.getD 22 undef, A.getD 23 undef, A.getD 24 undef, A.getD 25 undef, A.getD 26 undef, A.getD 27 undef, A.getD 28 undef, A.getD 29 undef, A.getD 30 undef, A.getD 31 undef, A.getD 32 undef, F.getD 33 undef, F.getD 34 undef, F.getD 35 undef, F.getD 36 undef, F.getD 37 undef, F.getD 38 undef, F.getD 39 undef, F.getD 40 undef, F.getD 41 undef, F.getD 42 undef, F.getD 43 undef, F.getD 44 undef, F.getD 45 undef, F.getD 46 undef, F.getD 47 undef, F.getD 48 undef, F.getD 49 undef, F.getD 50 undef, F.getD 51 undef, F.getD 52 undef, F.getD 53 undef, F.getD 54 undef, F.getD 55 undef, F.getD 56 undef, F.getD 57 undef, F.getD 58 undef, F.getD 59 undef, F.getD 60 undef, F.getD 61 undef, F.getD 62 undef, F.getD 63 undef, F.getD 64 undef, F.getD 65 undef, F.getD 66 undef, F.getD 67 undef, F.getD 68 undef, F.getD 69 undef, F.getD 70 undef, F.getD 71 undef, F.getD 72 undef, F.getD 73 undef, F.getD 74 undef, F.getD 75 undef, F.getD 76 undef, F.getD 77 undef, F.getD 78 undef, F.getD 79 undef, F.getD 80 undef, F.getD 81 undef, F.getD 82 undef, F.getD 83 undef, F.getD 84 undef, F.getD 85 undef, F.getD 86 undef, F.getD 87 undef, F.getD 88 undef, F.getD 89 undef, F.getD 90 undef, F.getD 91 undef, F.getD 92 undef, F.getD 93 undef, F.getD 94 undef, F.getD 95 undef, F.getD 96 undef, F.getD 97 undef, F.getD 98 undef, F.getD 99 undef, F.getD 100 undef, F.getD 101 undef, F.getD 102 undef, F.getD 103 undef, F.getD 104 undef, F.getD 105 undef, F.getD 106 undef, F.getD 107 undef, F.getD 108 undef, F.getD 109 undef, F.getD 110 undef, F.getD 111 undef, F.getD 112 undef, F.getD 113 undef, F.getD 114 undef, F.getD 115 undef] := by
  rw [← h 0 (by decide), ← h 1 (by decide), ← h 2 (by decide), ← h 3 (by decide), ← h 4 (by decide), ← h 5 (by decide), ← h 6 (by decide), ← h 7 (by decide), ← h 8 (by decide), ← h 11 (by decide), ← h 12 (by decide), ← h 13 (by decide), ← h 14 (by decide), ← h 15 (by decide), ← h 16 (by decide), ← h 17 (by decide), ← h 18 (by decide), ← h 19 (by decide), ← h 20 (by decide), ← h 21 (by decide), ← h 22 (by decide), ← h 33 (by decide), ← h 34 (by decide), ← h 35 (by decide), ← h 36 (by decide), ← h 37 (by decide), ← h 38 (by decide), ← h 39 (by decide), ← h 40 (by decide), ← h 41 (by decide), ← h 42 (by decide), ← h 43 (by decide), ← h 44 (by decide), ← h 45 (by decide), ← h 46 (by decide), ← h 47 (by decide), ← h 48 (by decide), ← h 49 (by decide), ← h 50 (by decide), ← h 51 (by decide), ← h 52 (by decide), ← h 53 (by decide), ← h 54 (by decide), ← h 55 (by decide), ← h 56 (by decide), ← h 57 (by decide), ← h 58 (by decide), ← h 59 (by decide), ← h 60 (by decide), ← h 61 (by decide), ← h 62 (by decide), ← h 63 (by decide), ← h 64 (by decide), ← h 65 (by decide), ← h 66 (by decide), ← h 67 (by decide), ← h 68 (by decide), ← h 69 (by decide), ← h 70 (by decide), ← h 71 (by decide), ← h 72 (by decide), ← h 73 (by decide), ← h 74 (by decide), ← h 75 (by decide), ← h 76 (by decide), ← h 77 (by decide), ← h 78 (by decide), ← h 79 (by decide), ← h 80 (by decide), ← h 81 (by decide), ← h 82 (by decide), ← h 83 (by decide), ← h 84 (by decide), ← h 85 (by decide), ← h 86 (by decide), ← h 87 (by decide), ← h 88 (by decide), ← h 89 (by decide), ← h 90 (by decide), ← h 91 (by decide), ← h 92 (by decide), ← h 93 (by decide), ← h 94 (by decide), ← h 95 (by decide), ← h 96 (by decide), ← h 97 (by decide), ← h 98 (by decide), ← h 99 (by decide), ← h 100 (by decide), ← h 101 (by decide), ← h 102 (by decide), ← h 103 (by decide), ← h 104 (by decide), ← h 105 (by decide), ← h 106 (by decide), ← h 107 (by decide), ← h 108 (by decide), ← h 109 (by decide), ← h 110 (by decide), ← h 111 (by decide), ← h 112 (by decide), ← h 113 (by decide), ← h 114 (by decide), ← h 115 (by decide)]
  refine Array.ext (by simp [hs]) (fun i h1 h2 => ?_)
  have e : A[i] = A.getD i undef := by simp [h1]
  rw [e]
  rw [hs] at h1
  clear e h hs
  match i, h1 with
  | 0, _ => rfl
  | 1, _ => rfl
  | 2, _ => rfl
  | 3, _ => rfl
  | 4, _ => rfl
  | 5, _ => rfl
  | 6, _ => rfl
  | 7, _ => rfl
  | 8, _ => rfl
  | 9, _ => rfl
  | 10, _ => rfl
  | 11, _ => rfl
  | 12, _ => rfl
  | 13, _ => rfl
  | 14, _ => rfl
  | 15, _ => rfl
  | 16, _ => rfl
  | 17, _ => rfl
  | 18, _ => rfl
  | 19, _ => rfl
  | 20, _ => rfl
  | 21, _ => rfl
  | 22, _ => rfl
  | 23, _ => rfl
  | 24, _ => rfl
  | 25, _ => rfl
  | 26, _ => rfl
  | 27, _ => rfl
  | 28, _ => rfl
  | 29, _ => rfl
  | 30, _ => rfl
  | 31, _ => rfl
  | 32, _ => rfl
  | 33, _ => rfl
  | 34, _ => rfl
  | 35, _ => rfl
  | 36, _ => rfl
  | 37, _ => rfl
  | 38, _ => rfl
  | 39, _ => rfl
  | 40, _ => rfl
  | 41, _ => rfl
  | 42, _ => rfl
  | 43, _ => rfl
  | 44, _ => rfl
  | 45, _ => rfl
  | 46, _ => rfl
  | 47, _ => rfl
  | 48, _ => rfl
  | 49, _ => rfl
  | 50, _ => rfl
  | 51, _ => rfl
  | 52, _ => rfl
  | 53, _ => rfl
  | 54, _ => rfl
  | 55, _ => rfl
  | 56, _ => rfl
  | 57, _ => rfl
  | 58, _ => rfl
  | 59, _ => rfl
  | 60, _ => rfl
  | 61, _ => rfl
  | 62, _ => rfl
  | 63, _ => rfl
  | 64, _ => rfl
  | 65, _ => rfl
  | 66, _ => rfl
  | 67, _ => rfl
  | 68, _ => rfl
  | 69, _ => rfl
  | 70, _ => rfl
  | 71, _ => rfl
  | 72, _ => rfl
  | 73, _ => rfl
  | 74, _ => rfl
  | 75, _ => rfl
  | 76, _ => rfl
  | 77, _ => rfl
  | 78, _ => rfl
  | 79, _ => rfl
  | 80, _ => rfl
  | 81, _ => rfl
  | 82, _ => rfl
  | 83, _ => rfl
  | 84, _ => rfl
  | 85, _ => rfl
  | 86, _ => rfl
  | 87, _ => rfl
  | 88, _ => rfl
  | 89, _ => rfl
  | 90, _ => rfl
  | 91, _ => rfl
  | 92, _ => rfl
  | 93, _ => rfl
  | 94, _ => rfl
  | 95, _ => rfl
  | 96, _ => rfl
  | 97, _ => rfl
  | 98, _ => rfl
  | 99, _ => rfl
  | 100, _ => rfl
  | 101, _ => rfl
  | 102, _ => rfl
  | 103, _ => rfl
  | 104, _ => rfl
  | 105, _ => rfl
  | 106, _ => rfl
  | 107, _ => rfl
  | 108, _ => rfl
  | 109, _ => rfl
  | 110, _ => rfl
  | 111, _ => rfl
  | 112, _ => rfl
  | 113, _ => rfl
  | 114, _ => rfl
  | 115, _ => rfl
  | i + 116, h => omega
theorem frame34 {A F : Array Value} (hs : A.size = 116) (h : ∀ t, t ∉ ([11, 12, 33, 34, 35, 36, 37, 38, 39, 40, 41, 42] : List Nat) → A.getD t undef = F.getD t undef) : A = #[F.getD 0 undef, F.getD 1 undef, F.getD 2 undef, F.getD 3 undef, F.getD 4 undef, F.getD 5 undef, F.getD 6 undef, F.getD 7 undef, F.getD 8 undef, F.getD 9 undef, F.getD 10 undef, A.getD 11 undef, A.getD 12 undef, F.getD 13 undef, F.getD 14 undef, F.getD 15 undef, F.getD 16 undef, F.getD 17 undef, F.getD 18 undef, F.getD 19 undef, F.getD 20 undef, F.getD 21 undef, F.getD 22 undef, F.getD 23 undef, F.getD 24 undef, F.getD 25 undef, F.getD 26 undef, F.getD 27 undef, F.getD 28 undef, F.getD 29 undef, F.getD 30 undef, F.getD 31 undef, F.getD 32 undef, A.getD 33 undef, A.getD 34 undef, A.getD 35 undef, A.getD 36 undef, A.getD 37 undef, A.getD 38 undef, A.getD 39 undef, A.getD 40 undef, A.getD 41 undef, A.getD 42 undef, F.getD 43 undef, F.getD 44 undef, F.getD 45 undef, F.getD 46 undef, F.getD 47 undef, F.getD 48 undef, F.getD 49 undef, F.getD 50 undef, F.getD 51 undef, F.getD 52 undef, F.getD 53 undef, F.getD 54 undef, F.getD 55 undef, F.getD 56 undef, F.getD 57 undef, F.getD 58 undef, F.getD 59 undef, F.getD 60 undef, F.getD 61 undef, F.getD 62 undef, F.getD 63 undef, F.getD 64 undef, F.getD 65 undef, F.getD 66 undef, F.getD 67 undef, F.getD 68 undef, F.getD 69 undef, F.getD 70 undef, F.getD 71 undef, F.getD 72 undef, F.getD 73 undef, F.getD 74 undef, F.getD 75 undef, F.getD 76 undef, F.getD 77 undef, F.getD 78 undef, F.getD 79 undef, F.getD 80 undef, F.getD 81 undef, F.getD 82 undef, F.getD 83 undef, F.getD 84 undef, F.getD 85 undef, F.getD 86 undef, F.getD 87 undef, F.getD 88 undef, F.getD 89 undef, F.getD 90 undef, F.getD 91 undef, F.getD 92 undef, F.getD 93 undef, F.getD 94 undef, F.getD 95 undef, F.getD 96 undef, F.getD 97 undef, F.getD 98 undef, F.getD 99 undef, F.getD 100 undef, F.getD 101 undef, F.getD 102 undef, F.getD 103 undef, F.getD 104 undef, F.getD 105 undef, F.getD 106 undef, F.getD 107 undef, F.getD 108 undef, F.getD 109 undef, F.getD 110 undef, F.getD 111 undef, F.getD 112 undef, F.getD 113 undef, F.getD 114 undef, F.getD 115 undef] := by
  rw [← h 0 (by decide), ← h 1 (by decide), ← h 2 (by decide), ← h 3 (by decide), ← h 4 (by decide), ← h 5 (by decide), ← h 6 (by decide), ← h 7 (by decide), ← h 8 (by decide), ← h 9 (by decide), ← h 10 (by decide), ← h 13 (by decide), ← h 14 (by decide), ← h 15 (by decide), ← h 16 (by decide), ← h 17 (by decide), ← h 18 (by decide), ← h 19 (by decide), ← h 20 (by decide), ← h 21 (by decide), ← h 22 (by decide), ← h 23 (by decide), ← h 24 (by decide), ← h 25 (by decide), ← h 26 (by decide), ← h 27 (by decide), ← h 28 (by decide), ← h 29 (by decide), ← h 30 (by decide), ← h 31 (by decide), ← h 32 (by decide), ← h 43 (by decide), ← h 44 (by decide), ← h 45 (by decide), ← h 46 (by decide), ← h 47 (by decide), ← h 48 (by decide), ← h 49 (by decide), ← h 50 (by decide), ← h 51 (by decide), ← h 52 (by decide), ← h 53 (by decide), ← h 54 (by decide), ← h 55 (by decide), ← h 56 (by decide), ← h 57 (by decide), ← h 58 (by decide), ← h 59 (by decide), ← h 60 (by decide), ← h 61 (by decide), ← h 62 (by decide), ← h 63 (by decide), ← h 64 (by decide), ← h 65 (by decide), ← h 66 (by decide), ← h 67 (by decide), ← h 68 (by decide), ← h 69 (by decide), ← h 70 (by decide), ← h 71 (by decide), ← h 72 (by decide), ← h 73 (by decide), ← h 74 (by decide), ← h 75 (by decide), ← h 76 (by decide), ← h 77 (by decide), ← h 78 (by decide), ← h 79 (by decide), ← h 80 (by decide), ← h 81 (by decide), ← h 82 (by decide), ← h 83 (by decide), ← h 84 (by decide), ← h 85 (by decide), ← h 86 (by decide), ← h 87 (by decide), ← h 88 (by decide), ← h 89 (by decide), ← h 90 (by decide), ← h 91 (by decide), ← h 92 (by decide), ← h 93 (by decide), ← h 94 (by decide), ← h 95 (by decide), ← h 96 (by decide), ← h 97 (by decide), ← h 98 (by decide), ← h 99 (by decide), ← h 100 (by decide), ← h 101 (by decide), ← h 102 (by decide), ← h 103 (by decide), ← h 104 (by decide), ← h 105 (by decide), ← h 106 (by decide), ← h 107 (by decide), ← h 108 (by decide), ← h 109 (by decide), ← h 110 (by decide), ← h 111 (by decide), ← h 112 (by decide), ← h 113 (by decide), ← h 114 (by decide), ← h 115 (by decide)]
  refine Array.ext (by simp [hs]) (fun i h1 h2 => ?_)
  have e : A[i] = A.getD i undef := by simp [h1]
  rw [e]
  rw [hs] at h1
  clear e h hs
  match i, h1 with
  | 0, _ => rfl
  | 1, _ => rfl
  | 2, _ => rfl
  | 3, _ => rfl
  | 4, _ => rfl
  | 5, _ => rfl
  | 6, _ => rfl
  | 7, _ => rfl
  | 8, _ => rfl
  | 9, _ => rfl
  | 10, _ => rfl
  | 11, _ => rfl
  | 12, _ => rfl
  | 13, _ => rfl
  | 14, _ => rfl
  | 15, _ => rfl
  | 16, _ => rfl
  | 17, _ => rfl
  | 18, _ => rfl
  | 19, _ => rfl
  | 20, _ => rfl
  | 21, _ => rfl
  | 22, _ => rfl
  | 23, _ => rfl
  | 24, _ => rfl
  | 25, _ => rfl
  | 26, _ => rfl
  | 27, _ => rfl
  | 28, _ => rfl
  | 29, _ => rfl
  | 30, _ => rfl
  | 31, _ => rfl
  | 32, _ => rfl
  | 33, _ => rfl
  | 34, _ => rfl
  | 35, _ => rfl
  | 36, _ => rfl
  | 37, _ => rfl
  | 38, _ => rfl
  | 39, _ => rfl
  | 40, _ => rfl
  | 41, _ => rfl
  | 42, _ => rfl
  | 43, _ => rfl
  | 44, _ => rfl
  | 45, _ => rfl
  | 46, _ => rfl
  | 47, _ => rfl
  | 48, _ => rfl
  | 49, _ => rfl
  | 50, _ => rfl
  | 51, _ => rfl
  | 52, _ => rfl
  | 53, _ => rfl
  | 54, _ => rfl
  | 55, _ => rfl
  | 56, _ => rfl
  | 57, _ => rfl
  | 58, _ => rfl
  | 59, _ => rfl
  | 60, _ => rfl
  | 61, _ => rfl
  | 62, _ => rfl
  | 63, _ => rfl
  | 64, _ => rfl
  | 65, _ => rfl
  | 66, _ => rfl
  | 67, _ => rfl
  | 68, _ => rfl
  | 69, _ => rfl
  | 70, _ => rfl
  | 71, _ => rfl
  | 72, _ => rfl
  | 73, _ => rfl
  | 74, _ => rfl
  | 75, _ => rfl
  | 76, _ => rfl
  | 77, _ => rfl
  | 78, _ => rfl
  | 79, _ => rfl
  | 80, _ => rfl
  | 81, _ => rfl
  | 82, _ => rfl
  | 83, _ => rfl
  | 84, _ => rfl
  | 85, _ => rfl
  | 86, _ => rfl
  | 87, _ => rfl
  | 88, _ => rfl
  | 89, _ => rfl
  | 90, _ => rfl
  | 91, _ => rfl
  | 92, _ => rfl
  | 93, _ => rfl
  | 94, _ => rfl
  | 95, _ => rfl
  | 96, _ => rfl
  | 97, _ => rfl
  | 98, _ => rfl
  | 99, _ => rfl
  | 100, _ => rfl
  | 101, _ => rfl
  | 102, _ => rfl
  | 103, _ => rfl
  | 104, _ => rfl
  | 105, _ => rfl
  | 106, _ => rfl
  | 107, _ => rfl
  | 108, _ => rfl
  | 109, _ => rfl
  | 110, _ => rfl
  | 111, _ => rfl
  | 112, _ => rfl
  | 113, _ => rfl
  | 114, _ => rfl
  | 115, _ => rfl
  | i + 116, h => omega
theorem frame44 {A F : Array Value} (hs : A.size = 116) (h : ∀ t, t ∉ ([13, 14, 43, 44, 45, 46, 47, 48, 49, 50, 51] : List Nat) → A.getD t undef = F.getD t undef) : A = #[F.getD 0 undef, F.getD 1 undef, F.getD 2 undef, F.getD 3 undef, F.getD 4 undef, F.getD 5 undef, F.getD 6 undef, F.getD 7 undef, F.getD 8 undef, F.getD 9 undef, F.getD 10 undef, F.getD 11 undef, F.getD 12 undef, A.getD 13 undef, A.getD 14 undef, F.getD 15 undef, F.getD 16 undef, F.getD 17 undef, F.getD 18 undef, F.getD 19 undef, F.getD 20 undef, F.getD 21 undef, F.getD 22 undef, F.getD 23 undef, F.getD 24 undef, F.getD 25 undef, F.getD 26 undef, F.getD 27 undef, F.getD 28 undef, F.getD 29 undef, F.getD 30 undef, F.getD 31 undef, F.getD 32 undef, F.getD 33 undef, F.getD 34 undef, F.getD 35 undef, F.getD 36 undef, F.getD 37 undef, F.getD 38 undef, F.getD 39 undef, F.getD 40 undef, F.getD 41 undef, F.getD 42 undef, A.getD 43 undef, A.getD 44 undef, A.getD 45 undef, A.getD 46 undef, A.getD 47 undef, A.getD 48 undef, A.getD 49 undef, A.getD 50 undef, A.getD 51 undef, F.getD 52 undef, F.getD 53 undef, F.getD 54 undef, F.getD 55 undef, F.getD 56 undef, F.getD 57 undef, F.getD 58 undef, F.getD 59 undef, F.getD 60 undef, F.getD 61 undef, F.getD 62 undef, F.getD 63 undef, F.getD 64 undef, F.getD 65 undef, F.getD 66 undef, F.getD 67 undef, F.getD 68 undef, F.getD 69 undef, F.getD 70 undef, F.getD 71 undef, F.getD 72 undef, F.getD 73 undef, F.getD 74 undef, F.getD 75 undef, F.getD 76 undef, F.getD 77 undef, F.getD 78 undef, F.getD 79 undef, F.getD 80 undef, F.getD 81 undef, F.getD 82 undef, F.getD 83 undef, F.getD 84 undef, F.getD 85 undef, F.getD 86 undef, F.getD 87 undef, F.getD 88 undef, F.getD 89 undef, F.getD 90 undef, F.getD 91 undef, F.getD 92 undef, F.getD 93 undef, F.getD 94 undef, F.getD 95 undef, F.getD 96 undef, F.getD 97 undef, F.getD 98 undef, F.getD 99 undef, F.getD 100 undef, F.getD 101 undef, F.getD 102 undef, F.getD 103 undef, F.getD 104 undef, F.getD 105 undef, F.getD 106 undef, F.getD 107 undef, F.getD 108 undef, F.getD 109 undef, F.getD 110 undef, F.getD 111 undef, F.getD 112 undef, F.getD 113 undef, F.getD 114 undef, F.getD 115 undef] := by
  rw [← h 0 (by decide), ← h 1 (by decide), ← h 2 (by decide), ← h 3 (by decide), ← h 4 (by decide), ← h 5 (by decide), ← h 6 (by decide), ← h 7 (by decide), ← h 8 (by decide), ← h 9 (by decide), ← h 10 (by decide), ← h 11 (by decide), ← h 12 (by decide), ← h 15 (by decide), ← h 16 (by decide), ← h 17 (by decide), ← h 18 (by decide), ← h 19 (by decide), ← h 20 (by decide), ← h 21 (by decide), ← h 22 (by decide), ← h 23 (by decide), ← h 24 (by decide), ← h 25 (by decide), ← h 26 (by decide), ← h 27 (by decide), ← h 28 (by decide), ← h 29 (by decide), ← h 30 (by decide), ← h 31 (by decide), ← h 32 (by decide), ← h 33 (by decide), ← h 34 (by decide), ← h 35 (by decide), ← h 36 (by decide), ← h 37 (by decide), ← h 38 (by decide), ← h 39 (by decide), ← h 40 (by decide), ← h 41 (by decide), ← h 42 (by decide), ← h 52 (by decide), ← h 53 (by decide), ← h 54 (by decide), ← h 55 (by decide), ← h 56 (by decide), ← h 57 (by decide), ← h 58 (by decide), ← h 59 (by decide), ← h 60 (by decide), ← h 61 (by decide), ← h 62 (by decide), ← h 63 (by decide), ← h 64 (by decide), ← h 65 (by decide), ← h 66 (by decide), ← h 67 (by decide), ← h 68 (by decide), ← h 69 (by decide), ← h 70 (by decide), ← h 71 (by decide), ← h 72 (by decide), ← h 73 (by decide), ← h 74 (by decide), ← h 75 (by decide), ← h 76 (by decide), ← h 77 (by decide), ← h 78 (by decide), ← h 79 (by decide), ← h 80 (by decide), ← h 81 (by decide), ← h 82 (by decide), ← h 83 (by decide), ← h 84 (by decide), ← h 85 (by decide), ← h 86 (by decide), ← h 87 (by decide), ← h 88 (by decide), ← h 89 (by decide), ← h 90 (by decide), ← h 91 (by decide), ← h 92 (by decide), ← h 93 (by decide), ← h 94 (by decide), ← h 95 (by decide), ← h 96 (by decide), ← h 97 (by decide), ← h 98 (by decide), ← h 99 (by decide), ← h 100 (by decide), ← h 101 (by decide), ← h 102 (by decide), ← h 103 (by decide), ← h 104 (by decide), ← h 105 (by decide), ← h 106 (by decide), ← h 107 (by decide), ← h 108 (by decide), ← h 109 (by decide), ← h 110 (by decide), ← h 111 (by decide), ← h 112 (by decide), ← h 113 (by decide), ← h 114 (by decide), ← h 115 (by decide)]
  refine Array.ext (by simp [hs]) (fun i h1 h2 => ?_)
  have e : A[i] = A.getD i undef := by simp [h1]
  rw [e]
  rw [hs] at h1
  clear e h hs
  match i, h1 with
  | 0, _ => rfl
  | 1, _ => rfl
  | 2, _ => rfl
  | 3, _ => rfl
  | 4, _ => rfl
  | 5, _ => rfl
  | 6, _ => rfl
  | 7, _ => rfl
  | 8, _ => rfl
  | 9, _ => rfl
  | 10, _ => rfl
  | 11, _ => rfl
  | 12, _ => rfl
  | 13, _ => rfl
  | 14, _ => rfl
  | 15, _ => rfl
  | 16, _ => rfl
  | 17, _ => rfl
  | 18, _ => rfl
  | 19, _ => rfl
  | 20, _ => rfl
  | 21, _ => rfl
  | 22, _ => rfl
  | 23, _ => rfl
  | 24, _ => rfl
  | 25, _ => rfl
  | 26, _ => rfl
  | 27, _ => rfl
  | 28, _ => rfl
  | 29, _ => rfl
  | 30, _ => rfl
  | 31, _ => rfl
  | 32, _ => rfl
  | 33, _ => rfl
  | 34, _ => rfl
  | 35, _ => rfl
  | 36, _ => rfl
  | 37, _ => rfl
  | 38, _ => rfl
  | 39, _ => rfl
  | 40, _ => rfl
  | 41, _ => rfl
  | 42, _ => rfl
  | 43, _ => rfl
  | 44, _ => rfl
  | 45, _ => rfl
  | 46, _ => rfl
  | 47, _ => rfl
  | 48, _ => rfl
  | 49, _ => rfl
  | 50, _ => rfl
  | 51, _ => rfl
  | 52, _ => rfl
  | 53, _ => rfl
  | 54, _ => rfl
  | 55, _ => rfl
  | 56, _ => rfl
  | 57, _ => rfl
  | 58, _ => rfl
  | 59, _ => rfl
  | 60, _ => rfl
  | 61, _ => rfl
  | 62, _ => rfl
  | 63, _ => rfl
  | 64, _ => rfl
  | 65, _ => rfl
  | 66, _ => rfl
  | 67, _ => rfl
  | 68, _ => rfl
  | 69, _ => rfl
  | 70, _ => rfl
  | 71, _ => rfl
  | 72, _ => rfl
  | 73, _ => rfl
  | 74, _ => rfl
  | 75, _ => rfl
  | 76, _ => rfl
  | 77, _ => rfl
  | 78, _ => rfl
  | 79, _ => rfl
  | 80, _ => rfl
  | 81, _ => rfl
  | 82, _ => rfl
  | 83, _ => rfl
  | 84, _ => rfl
  | 85, _ => rfl
  | 86, _ => rfl
  | 87, _ => rfl
  | 88, _ => rfl
  | 89, _ => rfl
  | 90, _ => rfl
  | 91, _ => rfl
  | 92, _ => rfl
  | 93, _ => rfl
  | 94, _ => rfl
  | 95, _ => rfl
  | 96, _ => rfl
  | 97, _ => rfl
  | 98, _ => rfl
  | 99, _ => rfl
  | 100, _ => rfl
  | 101, _ => rfl
  | 102, _ => rfl
  | 103, _ => rfl
  | 104, _ => rfl
  | 105, _ => rfl
  | 106, _ => rfl
  | 107, _ => rfl
  | 108, _ => rfl
  | 109, _ => rfl
  | 110, _ => rfl
  | 111, _ => rfl
  | 112, _ => rfl
  | 113, _ => rfl
  | 114, _ => rfl
  | 115, _ => rfl
  | i + 116, h => omega
theorem dst_sec {ops : Array Oper} {l : List Nat} (h : (ops.toList.all fun o => match o.dst with | some d => l.contains d | none => true) = true) (t : Nat) (ht : t ∉ l) (i : Nat) : (ops[i]?).bind (·.dst) ≠ some t := fun e => by
  obtain ⟨o, ho, hd⟩ := Option.bind_eq_some_iff.1 e
  have h1 := List.all_eq_true.1 h o (by obtain ⟨hi, rfl⟩ := Array.getElem?_eq_some_iff.1 ho; simp)
  simp only [hd, List.contains_iff_mem] at h1
  exact ht h1
theorem app_lt {l m : List Nat} (hl : ∀ x ∈ l, x < 256) (hm : ∀ x ∈ m, x < 256) : ∀ x ∈ l ++ m, x < 256 := fun x hx => by
  rcases List.mem_append.1 hx with h | h
  · exact hl x h
  · exact hm x h
theorem range_none {w w' : World} {b o : Nat} {cs : List Value} (h : w.rangeAt b o cs) (hg : w.grownBy w' none) : w'.rangeAt b o cs := fun j v hv => by
  have hc := h j v hv
  have := hg.block b (World.block_lt_of_cell? w _ hc) (by simp)
  rw [← hc]
  unfold World.cell?
  rw [this]
theorem RAt.none {t : TypeId} {w w' : World} {g : Nat} {s : List Nat} (h : RAt t w g s) (hg : w.grownBy w' none) : RAt t w' g s := (hg.block g h.lt (by simp)).trans h
theorem below_none {w w1 w2 : World} (hb : Below w.heap.size w w1) (hg : w1.grownBy w2 none) : Below w.heap.size w w2 :=
  ⟨hg.os.trans hb.os, hg.tape.trans hb.tape, hg.output.trans hb.output, Nat.le_trans hb.size hg.size, fun k hk => (hg.block k (Nat.lt_of_lt_of_le hk hb.size) (by simp)).trans (hb.block k hk)⟩
def secW (w : World) (l m n : List Nat) : World := ((w.alloc (Obj.cells (arr .u8 l) 30)).alloc (Obj.cells (arr .u8 m) 30)).alloc (Obj.cells (arr .u8 n) 30)
theorem secW_0 (w : World) (l m n : List Nat) : RAt 30 (secW w l m n) w.heap.size l := by
  show (((w.heap.push _).push _).push _)[_]? = _
  rw [Array.getElem?_push_lt (by simp; omega), Array.getElem_push_lt (by simp), Array.getElem_push_eq]
theorem secW_1 (w : World) (l m n : List Nat) : RAt 30 (secW w l m n) (w.heap.size + 1) m := by
  show (((w.heap.push _).push _).push _)[_]? = _
  rw [Array.getElem?_push_lt (by simp), Array.getElem_push, dif_neg (by simp)]
theorem secW_2 (w : World) (l m n : List Nat) : RAt 30 (secW w l m n) (w.heap.size + 2) n := by
  show (((w.heap.push _).push _).push _)[_]? = _
  rw [Array.getElem?_push, if_pos (by simp)]
theorem secW_below (w : World) (l m n : List Nat) : Below w.heap.size w (secW w l m n) := (((Below.refl _ _).alloc (Nat.le_refl _) _).alloc (by simp) _).alloc (by simp; omega) _
theorem secW_size (w : World) (l m n : List Nat) : (secW w l m n).heap.size = w.heap.size + 3 := by simp [secW]
def secV (base g1 g2 : Nat) (tv : Value) (p1 p2 T : List Nat) : Nat → Value → World → Prop
  | 0 => fun v w => w.ownsRow base 5 1 v 0 (ints .u8 [])
  | 1 => IsV (.slice (some ⟨g1, 0, none⟩) 16 16)
  | 2 => fun v w => w.ownsRow base 5 1 v 16 (ints .u8 p1)
  | 3 => IsV (.slice (some ⟨g2, 0, none⟩) 16 16)
  | 4 => KeyV (p1 ++ p2)
  | 5 => IsV tv
  | 6 => PairV T
  | 7 => PairV T
  | 8 => TagV T
  | 9 => IsV (.int .i64 0)
  | 10 => TagV T
  | 11 => IsV (.int .i64 0)
  | _ => fun _ _ => True
def secC : Nat → Option Nat
  | 0 => some 2
  | 2 => some 4
  | _ => none
def secA (i j : Nat) : Bool := (j == 2 && ([4, 6, 7, 8, 9, 10, 11] : List Nat).contains i) || (j == 4 && ([6, 7, 8, 9, 10, 11] : List Nat).contains i)
def secS (base j : Nat) (x y : World) : Prop := if j = 2 ∨ j = 4 then Below base x y ∧ x.heap.size ≤ y.heap.size else Below x.heap.size x y
theorem secV_kept (base g1 g2 : Nat) (tv : Value) (p1 p2 T : List Nat) (i j : Nat) (v : Value) (x y : World) (hi : i < 12) (hj : j < 12) (hij : i ≠ j) (hc : secC i ≠ some j) (ha : secA i j = false) (hcc : ∀ c, c < 12 → secC i = some c → secA j c = false) (h : secV base g1 g2 tv p1 p2 T i v x) (hs : secS base j x y) : secV base g1 g2 tv p1 p2 T i v y := by
  by_cases h2 : j = 2 ∨ j = 4
  · rcases h2 with rfl | rfl
    · obtain rfl|rfl|rfl|rfl|rfl|rfl|rfl|rfl|rfl|rfl|rfl|rfl : i = 0 ∨ i = 1 ∨ i = 2 ∨ i = 3 ∨ i = 4 ∨ i = 5 ∨ i = 6 ∨ i = 7 ∨ i = 8 ∨ i = 9 ∨ i = 10 ∨ i = 11 := by omega
      · exact absurd rfl hc
      · exact h
      · exact absurd rfl hij
      · exact h
      · exact absurd ha (by decide)
      · exact h
      · exact absurd ha (by decide)
      · exact absurd ha (by decide)
      · exact absurd ha (by decide)
      · exact absurd ha (by decide)
      · exact absurd ha (by decide)
      · exact absurd ha (by decide)
    · obtain rfl|rfl|rfl|rfl|rfl|rfl|rfl|rfl|rfl|rfl|rfl|rfl : i = 0 ∨ i = 1 ∨ i = 2 ∨ i = 3 ∨ i = 4 ∨ i = 5 ∨ i = 6 ∨ i = 7 ∨ i = 8 ∨ i = 9 ∨ i = 10 ∨ i = 11 := by omega
      · exact absurd (hcc 2 (by decide) rfl) (by decide)
      · exact h
      · exact absurd rfl hc
      · exact h
      · exact absurd rfl hij
      · exact h
      · exact absurd ha (by decide)
      · exact absurd ha (by decide)
      · exact absurd ha (by decide)
      · exact absurd ha (by decide)
      · exact absurd ha (by decide)
      · exact absurd ha (by decide)
  · have hb : Below x.heap.size x y := by
      have := hs
      unfold secS at this
      rwa [if_neg h2] at this
    obtain rfl|rfl|rfl|rfl|rfl|rfl|rfl|rfl|rfl|rfl|rfl|rfl : i = 0 ∨ i = 1 ∨ i = 2 ∨ i = 3 ∨ i = 4 ∨ i = 5 ∨ i = 6 ∨ i = 7 ∨ i = 8 ∨ i = 9 ∨ i = 10 ∨ i = 11 := by omega
    · exact own_below h hb
    · exact h
    · exact own_below h hb
    · exact h
    · exact KeyV.kept h hb
    · exact h
    · exact PairV.kept h hb
    · exact PairV.kept h hb
    · exact TagV.kept h hb
    · exact h
    · exact TagV.kept h hb
    · exact h
def thrV (base g1 g2 : Nat) (p1 p2 T : List Nat) : Nat → Value → World → Prop
  | 0 => fun v w => w.ownsRow base 5 1 v 0 (ints .u8 [])
  | 1 => IsV (.slice (some ⟨g1, 0, none⟩) 16 16)
  | 2 => fun v w => w.ownsRow base 5 1 v 16 (ints .u8 p1)
  | 3 => IsV (.slice (some ⟨g2, 0, none⟩) 16 16)
  | 4 => KeyV (p1 ++ p2)
  | 5 => PairV T
  | 6 => PairV T
  | 7 => TagV T
  | 8 => IsV (.int .i64 0)
  | 9 => TagV T
  | 10 => IsV (.int .i64 0)
  | _ => fun _ _ => True
def thrC : Nat → Option Nat
  | 0 => some 2
  | 2 => some 4
  | _ => none
def thrA (i j : Nat) : Bool := (j == 2 && ([4, 5, 6, 7, 8, 9, 10] : List Nat).contains i) || (j == 4 && ([5, 6, 7, 8, 9, 10] : List Nat).contains i)
def thrS (base j : Nat) (x y : World) : Prop := if j = 2 ∨ j = 4 then Below base x y ∧ x.heap.size ≤ y.heap.size else Below x.heap.size x y
theorem thrV_kept (base g1 g2 : Nat) (p1 p2 T : List Nat) (i j : Nat) (v : Value) (x y : World) (hi : i < 11) (hj : j < 11) (hij : i ≠ j) (hc : thrC i ≠ some j) (ha : thrA i j = false) (hcc : ∀ c, c < 11 → thrC i = some c → thrA j c = false) (h : thrV base g1 g2 p1 p2 T i v x) (hs : thrS base j x y) : thrV base g1 g2 p1 p2 T i v y := by
  by_cases h2 : j = 2 ∨ j = 4
  · rcases h2 with rfl | rfl
    · obtain rfl|rfl|rfl|rfl|rfl|rfl|rfl|rfl|rfl|rfl|rfl : i = 0 ∨ i = 1 ∨ i = 2 ∨ i = 3 ∨ i = 4 ∨ i = 5 ∨ i = 6 ∨ i = 7 ∨ i = 8 ∨ i = 9 ∨ i = 10 := by omega
      · exact absurd rfl hc
      · exact h
      · exact absurd rfl hij
      · exact h
      · exact absurd ha (by decide)
      · exact absurd ha (by decide)
      · exact absurd ha (by decide)
      · exact absurd ha (by decide)
      · exact absurd ha (by decide)
      · exact absurd ha (by decide)
      · exact absurd ha (by decide)
    · obtain rfl|rfl|rfl|rfl|rfl|rfl|rfl|rfl|rfl|rfl|rfl : i = 0 ∨ i = 1 ∨ i = 2 ∨ i = 3 ∨ i = 4 ∨ i = 5 ∨ i = 6 ∨ i = 7 ∨ i = 8 ∨ i = 9 ∨ i = 10 := by omega
      · exact absurd (hcc 2 (by decide) rfl) (by decide)
      · exact h
      · exact absurd rfl hc
      · exact h
      · exact absurd rfl hij
      · exact absurd ha (by decide)
      · exact absurd ha (by decide)
      · exact absurd ha (by decide)
      · exact absurd ha (by decide)
      · exact absurd ha (by decide)
      · exact absurd ha (by decide)
  · have hb : Below x.heap.size x y := by
      have := hs
      unfold thrS at this
      rwa [if_neg h2] at this
    obtain rfl|rfl|rfl|rfl|rfl|rfl|rfl|rfl|rfl|rfl|rfl : i = 0 ∨ i = 1 ∨ i = 2 ∨ i = 3 ∨ i = 4 ∨ i = 5 ∨ i = 6 ∨ i = 7 ∨ i = 8 ∨ i = 9 ∨ i = 10 := by omega
    · exact own_below h hb
    · exact h
    · exact own_below h hb
    · exact h
    · exact KeyV.kept h hb
    · exact PairV.kept h hb
    · exact PairV.kept h hb
    · exact TagV.kept h hb
    · exact h
    · exact TagV.kept h hb
    · exact h
set_option maxHeartbeats 1000000 in
theorem second_early (hh aa bb : List Nat) (pt : Option Addr) (n ct : Nat) (w : World) (h : 300 < n) :
    Calls Try.prog 5 #[.agg (arr .u8 hh), .agg (arr .u8 aa), .agg (arr .u8 bb), .slice pt n ct] w fun e w' => e = .returned (.bool true) ∧ Below w.heap.size w w' := by
  have h' : (300 : Int) < (n : Int) := by omega
  go_enter Try.func5, Try.ntmps5
  go_wp2_with fail
  refine (anchor_any _).mono ?_
  rintro e w1 ⟨rfl, hb1⟩
  have HB1 : Hid (Below w.heap.size w w1) := (secW_below w hh aa bb).trans (hb1.mono (secW_below w hh aa bb).size)
  clear hb1
  go_wp2_with fail
  go_ret
  exact ⟨rfl, HB1.out⟩
set_option maxHeartbeats 2000000 in
theorem second_any (hh aa bb text : List Nat) (pt : Option Addr) (n ct : Nat) (w : World) (hhl : hh.length = 16) (hhb : ∀ x ∈ hh, x < 256) (hal : aa.length = 16) (hab : ∀ x ∈ aa, x < 256) (hbl : bb.length = 16) (hbb : ∀ x ∈ bb, x < 256) (hT : TextIs w pt text) (htl : text.length = n) (hn : n ≤ 300) (hct : n ≤ ct) :
    Calls Try.prog 5 #[.agg (arr .u8 hh), .agg (arr .u8 aa), .agg (arr .u8 bb), .slice pt n ct] w fun e w' => e = .returned (.bool true) ∧ Below w.heap.size w w' := by
  have HHL : Hid (hh.length = 16) := hhl
  have HHB : Hid (∀ x ∈ hh, x < 256) := hhb
  have HAL : Hid (aa.length = 16) := hal
  have HAB : Hid (∀ x ∈ aa, x < 256) := hab
  have HBL : Hid (bb.length = 16) := hbl
  have HBB : Hid (∀ x ∈ bb, x < 256) := hbb
  have HT : Hid (TextIs w pt text) := hT
  have HTL : Hid (text.length = n) := htl
  clear hhl hhb hal hab hbl hbb hT htl
  have h' : (n : Int) ≤ 300 := by omega
  go_enter Try.func5, Try.ntmps5
  go_wp2_with fail
  rw [show ((w.alloc (Obj.cells (arr .u8 hh) 30)).alloc (Obj.cells (arr .u8 aa) 30)).alloc (Obj.cells (arr .u8 bb) 30) = secW w hh aa bb from rfl]
  refine (anchor_any _).mono ?_
  rintro e w1 ⟨rfl, hb1⟩
  have hsz := secW_size w hh aa bb
  have HB1 : Hid (Below w.heap.size w w1) := (secW_below w hh aa bb).trans (hb1.mono (secW_below w hh aa bb).size)
  have HH1 : Hid (RAt 30 w1 w.heap.size hh) := (secW_0 w hh aa bb).below hb1 (by omega)
  have HA1 : Hid (RAt 30 w1 (w.heap.size + 1) aa) := (secW_1 w hh aa bb).below hb1 (by omega)
  have HC1 : Hid (RAt 30 w1 (w.heap.size + 2) bb) := (secW_2 w hh aa bb).below hb1 (by omega)
  have HT1 : Hid (TextIs w1 pt text) := HT.out.below HB1.out
  clear hb1 hsz HT
  go_wp2_with fail
  refine wp_region_use2 secC secA (secV w1.heap.size w.heap.size (w.heap.size + 1) (.slice pt n ct) hh aa (Po.tag (hh ++ aa) text)) (secS w1.heap.size) (fun u u' => Below w1.heap.size u u' ∧ u.heap.size ≤ u'.heap.size) (by kernel_rfl) ⟨(Below.refl _ _).drew, Nat.le_refl _⟩ (fun x y z h1 h2 => ⟨h1.1.trans h2.1, Nat.le_trans h1.2 h2.2⟩) (fun j x y hx h => ?_) (fun i j v x y hi hj => secV_kept _ _ _ _ _ _ _ i j v x y hi hj) (by kernel_rfl) (by kernel_rfl) ?_ ?_
  · unfold secS at h
    split at h
    · exact h
    · exact ⟨h.mono hx.2, h.size⟩
  · intro i o a' w' hi inv hpre
    have hb : Below w1.heap.size w1 w' := inv.grow.1
    have hsz : w1.heap.size ≤ w'.heap.size := inv.grow.2
    have hlt : i < 12 := (Array.getElem?_eq_some_iff.1 hi).1
    obtain rfl|rfl|rfl|rfl|rfl|rfl|rfl|rfl|rfl|rfl|rfl|rfl : i = 0 ∨ i = 1 ∨ i = 2 ∨ i = 3 ∨ i = 4 ∨ i = 5 ∨ i = 6 ∨ i = 7 ∨ i = 8 ∨ i = 9 ∨ i = 10 ∨ i = 11 := by omega
    · obtain rfl := Option.some.inj hi
      exact su_value _ rfl rfl (build0_run rfl) ((Below.refl _ _).alloc (Nat.le_refl _) _) (own_lit [] hsz (by decide))
    · obtain rfl := Option.some.inj hi
      exact su_value _ rfl rfl (slice30_run 4 rfl (by rw [inv.old 4 (notDst_spec (by kernel_rfl))]; rfl)) (Below.refl _ _) rfl
    · obtain rfl := Option.some.inj hi
      have h0 : w'.ownsRow w1.heap.size 5 1 (a'.tmps.getD 24 undef) 0 (ints .u8 []) := pre_use hpre 0 24 (by kernel_rfl) (by kernel_rfl) (.inr rfl)
      have h1 : a'.tmps.getD 25 undef = _ := pre_use hpre 1 25 (by kernel_rfl) (by kernel_rfl) (.inl rfl)
      exact su_append 24 25 rfl rfl rfl w1.heap.size _ 0 [] w.heap.size 0 16 16 hh rfl h1 HHL.out h0 (rangeAt_of_row (HH1.out.below hb HH1.out.lt)) (by decide) hsz (fun v' w'' ho hg => ⟨⟨below_append h0 hg hsz, hg.size⟩, by rw [Nat.zero_add, List.nil_append] at ho; exact ho⟩)
    · obtain rfl := Option.some.inj hi
      exact su_value _ rfl rfl (slice30_run 5 rfl (by rw [inv.old 5 (notDst_spec (by kernel_rfl))]; rfl)) (Below.refl _ _) rfl
    · obtain rfl := Option.some.inj hi
      have h0 : w'.ownsRow w1.heap.size 5 1 (a'.tmps.getD 26 undef) 16 (ints .u8 hh) := pre_use hpre 2 26 (by kernel_rfl) (by kernel_rfl) (.inr rfl)
      have h1 : a'.tmps.getD 27 undef = _ := pre_use hpre 3 27 (by kernel_rfl) (by kernel_rfl) (.inl rfl)
      exact su_append 26 27 rfl rfl rfl w1.heap.size _ 16 hh (w.heap.size + 1) 0 16 16 aa rfl h1 HAL.out h0 (rangeAt_of_row (HA1.out.below hb HA1.out.lt)) (by decide) hsz (fun v' w'' ho hg => ⟨⟨below_append h0 hg hsz, hg.size⟩, own_key ho⟩)
    · obtain rfl := Option.some.inj hi
      exact su_value _ rfl rfl rfl (Below.refl _ _) (by show a'.tmps.getD 3 undef = _; rw [inv.old 3 (notDst_spec (by kernel_rfl))]; rfl)
    · obtain rfl := Option.some.inj hi
      have h0 : KeyV (hh ++ aa) (a'.tmps.getD 28 undef) w' := pre_use hpre 4 28 (by kernel_rfl) (by kernel_rfl) (.inl rfl)
      have h1 : a'.tmps.getD 29 undef = _ := pre_use hpre 5 29 (by kernel_rfl) (by kernel_rfl) (.inl rfl)
      refine su_call 10 #[a'.tmps.getD 28 undef, a'.tmps.getD 29 undef] rfl rfl (by kernel_rfl) ?_
      rw [h1]
      exact tag_call h0 (by simp [HHL.out, HAL.out]) (app_lt HHB.out HAB.out) (HT1.out.below hb) HTL.out (by omega) hct
    · obtain rfl := Option.some.inj hi
      have h0 : PairV (Po.tag (hh ++ aa) text) (a'.tmps.getD 30 undef) w' := pre_use hpre 6 30 (by kernel_rfl) (by kernel_rfl) (.inl rfl)
      exact su_value _ rfl rfl rfl (Below.refl _ _) h0
    · obtain rfl := Option.some.inj hi
      have h0 : PairV (Po.tag (hh ++ aa) text) (a'.tmps.getD 23 undef) w' := pre_use hpre 7 23 (by kernel_rfl) (by kernel_rfl) (.inl rfl)
      obtain ⟨t, ht, hT⟩ := h0
      exact su_value _ rfl rfl (extract_run 23 0 rfl ht (by simp)) (Below.refl _ _) hT
    · obtain rfl := Option.some.inj hi
      have h0 : PairV (Po.tag (hh ++ aa) text) (a'.tmps.getD 23 undef) w' := pre_use hpre 7 23 (by kernel_rfl) (by kernel_rfl) (.inl rfl)
      obtain ⟨t, ht, hT⟩ := h0
      exact su_value _ rfl rfl (extract_run 23 1 rfl ht (by simp)) (Below.refl _ _) rfl
    · obtain rfl := Option.some.inj hi
      have h0 : TagV (Po.tag (hh ++ aa) text) (a'.tmps.getD 31 undef) w' := pre_use hpre 8 31 (by kernel_rfl) (by kernel_rfl) (.inl rfl)
      exact su_value _ rfl rfl rfl (Below.refl _ _) h0
    · obtain rfl := Option.some.inj hi
      have h0 : a'.tmps.getD 32 undef = _ := pre_use hpre 9 32 (by kernel_rfl) (by kernel_rfl) (.inl rfl)
      exact su_value _ rfl rfl rfl (Below.refl _ _) h0
  · intro a' w' inv hd
    obtain ⟨bsec24, csec24, h5, hr⟩ := hd 10 9 rfl (by kernel_rfl)
    have h6 : a'.tmps.getD 10 undef = .int .i64 0 := hd 11 10 rfl (by kernel_rfl)
    have hb : Below w1.heap.size w1 w' := inv.grow.1
    have hdf : a'.defers = [] := inv.defers
    have hsz : a'.tmps.size = 116 := inv.size
    have e := frame24 hsz (fun t ht => inv.old t (dst_sec (l := [9, 10, 23, 24, 25, 26, 27, 28, 29, 30, 31, 32]) (by kernel_rfl) t ht))
    rw [h5, h6] at e
    obtain ⟨tmps, defers⟩ := a'
    obtain rfl : defers = [] := hdf
    replace e : tmps = _ := e
    clear inv hd h5 h6 hsz
    generalize tmps.getD 23 undef = x23 at e
    generalize tmps.getD 24 undef = x24 at e
    generalize tmps.getD 25 undef = x25 at e
    generalize tmps.getD 26 undef = x26 at e
    generalize tmps.getD 27 undef = x27 at e
    generalize tmps.getD 28 undef = x28 at e
    generalize tmps.getD 29 undef = x29 at e
    generalize tmps.getD 30 undef = x30 at e
    generalize tmps.getD 31 undef = x31 at e
    generalize tmps.getD 32 undef = x32 at e
    simp only [Array.getD_eq_getD_getElem?, List.getElem?_toArray, List.getElem?_cons_succ, List.getElem?_cons_zero, Option.getD_some] at e
    subst e
    have HX5 : Hid (w'.rangeAt bsec24 0 (ints .u8 (Po.tag (hh ++ aa) text))) := hr
    have HB5 : Hid (Below w.heap.size w w') := HB1.out.trans (hb.mono HB1.out.size)
    have HH5 : Hid (RAt 30 w' w.heap.size hh) := HH1.out.below hb HH1.out.lt
    have HA5 : Hid (RAt 30 w' (w.heap.size + 1) aa) := HA1.out.below hb HA1.out.lt
    have HC5 : Hid (RAt 30 w' (w.heap.size + 2) bb) := HC1.out.below hb HC1.out.lt
    have HT5 : Hid (TextIs w' pt text) := HT1.out.below hb
    clear hr hb HB1 HH1 HA1 HC1 HT1
    generalize hw5 : w' = w5 at *
    clear hw5
    go_wp2_with fail
    refine wp_region_use2 secC secA (secV w5.heap.size w.heap.size (w.heap.size + 2) (.slice pt n ct) hh bb (Po.tag (hh ++ bb) text)) (secS w5.heap.size) (fun u u' => Below w5.heap.size u u' ∧ u.heap.size ≤ u'.heap.size) (by kernel_rfl) ⟨(Below.refl _ _).drew, Nat.le_refl _⟩ (fun x y z h1 h2 => ⟨h1.1.trans h2.1, Nat.le_trans h1.2 h2.2⟩) (fun j x y hx h => ?_) (fun i j v x y hi hj => secV_kept _ _ _ _ _ _ _ i j v x y hi hj) (by kernel_rfl) (by kernel_rfl) ?_ ?_
    · unfold secS at h
      split at h
      · exact h
      · exact ⟨h.mono hx.2, h.size⟩
    · intro i o a' w' hi inv hpre
      have hb : Below w5.heap.size w5 w' := inv.grow.1
      have hsz : w5.heap.size ≤ w'.heap.size := inv.grow.2
      have hlt : i < 12 := (Array.getElem?_eq_some_iff.1 hi).1
      obtain rfl|rfl|rfl|rfl|rfl|rfl|rfl|rfl|rfl|rfl|rfl|rfl : i = 0 ∨ i = 1 ∨ i = 2 ∨ i = 3 ∨ i = 4 ∨ i = 5 ∨ i = 6 ∨ i = 7 ∨ i = 8 ∨ i = 9 ∨ i = 10 ∨ i = 11 := by omega
      · obtain rfl := Option.some.inj hi
        exact su_value _ rfl rfl (build0_run rfl) ((Below.refl _ _).alloc (Nat.le_refl _) _) (own_lit [] hsz (by decide))
      · obtain rfl := Option.some.inj hi
        exact su_value _ rfl rfl (slice30_run 4 rfl (by rw [inv.old 4 (notDst_spec (by kernel_rfl))]; rfl)) (Below.refl _ _) rfl
      · obtain rfl := Option.some.inj hi
        have h0 : w'.ownsRow w5.heap.size 5 1 (a'.tmps.getD 34 undef) 0 (ints .u8 []) := pre_use hpre 0 34 (by kernel_rfl) (by kernel_rfl) (.inr rfl)
        have h1 : a'.tmps.getD 35 undef = _ := pre_use hpre 1 35 (by kernel_rfl) (by kernel_rfl) (.inl rfl)
        exact su_append 34 35 rfl rfl rfl w5.heap.size _ 0 [] w.heap.size 0 16 16 hh rfl h1 HHL.out h0 (rangeAt_of_row (HH5.out.below hb HH5.out.lt)) (by decide) hsz (fun v' w'' ho hg => ⟨⟨below_append h0 hg hsz, hg.size⟩, by rw [Nat.zero_add, List.nil_append] at ho; exact ho⟩)
      · obtain rfl := Option.some.inj hi
        exact su_value _ rfl rfl (slice30_run 6 rfl (by rw [inv.old 6 (notDst_spec (by kernel_rfl))]; rfl)) (Below.refl _ _) rfl
      · obtain rfl := Option.some.inj hi
        have h0 : w'.ownsRow w5.heap.size 5 1 (a'.tmps.getD 36 undef) 16 (ints .u8 hh) := pre_use hpre 2 36 (by kernel_rfl) (by kernel_rfl) (.inr rfl)
        have h1 : a'.tmps.getD 37 undef = _ := pre_use hpre 3 37 (by kernel_rfl) (by kernel_rfl) (.inl rfl)
        exact su_append 36 37 rfl rfl rfl w5.heap.size _ 16 hh (w.heap.size + 2) 0 16 16 bb rfl h1 HBL.out h0 (rangeAt_of_row (HC5.out.below hb HC5.out.lt)) (by decide) hsz (fun v' w'' ho hg => ⟨⟨below_append h0 hg hsz, hg.size⟩, own_key ho⟩)
      · obtain rfl := Option.some.inj hi
        exact su_value _ rfl rfl rfl (Below.refl _ _) (by show a'.tmps.getD 3 undef = _; rw [inv.old 3 (notDst_spec (by kernel_rfl))]; rfl)
      · obtain rfl := Option.some.inj hi
        have h0 : KeyV (hh ++ bb) (a'.tmps.getD 38 undef) w' := pre_use hpre 4 38 (by kernel_rfl) (by kernel_rfl) (.inl rfl)
        have h1 : a'.tmps.getD 39 undef = _ := pre_use hpre 5 39 (by kernel_rfl) (by kernel_rfl) (.inl rfl)
        refine su_call 10 #[a'.tmps.getD 38 undef, a'.tmps.getD 39 undef] rfl rfl (by kernel_rfl) ?_
        rw [h1]
        exact tag_call h0 (by simp [HHL.out, HBL.out]) (app_lt HHB.out HBB.out) (HT5.out.below hb) HTL.out (by omega) hct
      · obtain rfl := Option.some.inj hi
        have h0 : PairV (Po.tag (hh ++ bb) text) (a'.tmps.getD 40 undef) w' := pre_use hpre 6 40 (by kernel_rfl) (by kernel_rfl) (.inl rfl)
        exact su_value _ rfl rfl rfl (Below.refl _ _) h0
      · obtain rfl := Option.some.inj hi
        have h0 : PairV (Po.tag (hh ++ bb) text) (a'.tmps.getD 33 undef) w' := pre_use hpre 7 33 (by kernel_rfl) (by kernel_rfl) (.inl rfl)
        obtain ⟨t, ht, hT⟩ := h0
        exact su_value _ rfl rfl (extract_run 33 0 rfl ht (by simp)) (Below.refl _ _) hT
      · obtain rfl := Option.some.inj hi
        have h0 : PairV (Po.tag (hh ++ bb) text) (a'.tmps.getD 33 undef) w' := pre_use hpre 7 33 (by kernel_rfl) (by kernel_rfl) (.inl rfl)
        obtain ⟨t, ht, hT⟩ := h0
        exact su_value _ rfl rfl (extract_run 33 1 rfl ht (by simp)) (Below.refl _ _) rfl
      · obtain rfl := Option.some.inj hi
        have h0 : TagV (Po.tag (hh ++ bb) text) (a'.tmps.getD 41 undef) w' := pre_use hpre 8 41 (by kernel_rfl) (by kernel_rfl) (.inl rfl)
        exact su_value _ rfl rfl rfl (Below.refl _ _) h0
      · obtain rfl := Option.some.inj hi
        have h0 : a'.tmps.getD 42 undef = _ := pre_use hpre 9 42 (by kernel_rfl) (by kernel_rfl) (.inl rfl)
        exact su_value _ rfl rfl rfl (Below.refl _ _) h0
    · intro a' w' inv hd
      obtain ⟨bsec34, csec34, h5, hr⟩ := hd 10 11 rfl (by kernel_rfl)
      have h6 : a'.tmps.getD 12 undef = .int .i64 0 := hd 11 12 rfl (by kernel_rfl)
      have hb : Below w5.heap.size w5 w' := inv.grow.1
      have hdf : a'.defers = [] := inv.defers
      have hsz : a'.tmps.size = 116 := inv.size
      have e := frame34 hsz (fun t ht => inv.old t (dst_sec (l := [11, 12, 33, 34, 35, 36, 37, 38, 39, 40, 41, 42]) (by kernel_rfl) t ht))
      rw [h5, h6] at e
      obtain ⟨tmps, defers⟩ := a'
      obtain rfl : defers = [] := hdf
      replace e : tmps = _ := e
      clear inv hd h5 h6 hsz
      generalize tmps.getD 33 undef = x33 at e
      generalize tmps.getD 34 undef = x34 at e
      generalize tmps.getD 35 undef = x35 at e
      generalize tmps.getD 36 undef = x36 at e
      generalize tmps.getD 37 undef = x37 at e
      generalize tmps.getD 38 undef = x38 at e
      generalize tmps.getD 39 undef = x39 at e
      generalize tmps.getD 40 undef = x40 at e
      generalize tmps.getD 41 undef = x41 at e
      generalize tmps.getD 42 undef = x42 at e
      simp only [Array.getD_eq_getD_getElem?, List.getElem?_toArray, List.getElem?_cons_succ, List.getElem?_cons_zero, Option.getD_some] at e
      subst e
      have HX6 : Hid (w'.rangeAt bsec24 0 (ints .u8 (Po.tag (hh ++ aa) text))) := rangeAt_below hb HX5.out
      have HY6 : Hid (w'.rangeAt bsec34 0 (ints .u8 (Po.tag (hh ++ bb) text))) := hr
      have HB6 : Hid (Below w.heap.size w w') := HB5.out.trans (hb.mono HB5.out.size)
      have HH6 : Hid (RAt 30 w' w.heap.size hh) := HH5.out.below hb HH5.out.lt
      have HA6 : Hid (RAt 30 w' (w.heap.size + 1) aa) := HA5.out.below hb HA5.out.lt
      have HC6 : Hid (RAt 30 w' (w.heap.size + 2) bb) := HC5.out.below hb HC5.out.lt
      clear hr hb HB5 HH5 HA5 HC5 HT5 HX5
      generalize hw6 : w' = w6 at *
      clear hw6
      go_wp2_with fail
      refine wp_region_use2 thrC thrA (thrV w6.heap.size w.heap.size (w.heap.size + 1)  hh aa (Po.tag (hh ++ aa) [])) (thrS w6.heap.size) (fun u u' => Below w6.heap.size u u' ∧ u.heap.size ≤ u'.heap.size) (by kernel_rfl) ⟨(Below.refl _ _).drew, Nat.le_refl _⟩ (fun x y z h1 h2 => ⟨h1.1.trans h2.1, Nat.le_trans h1.2 h2.2⟩) (fun j x y hx h => ?_) (fun i j v x y hi hj => thrV_kept _ _ _ _ _ _ i j v x y hi hj) (by kernel_rfl) (by kernel_rfl) ?_ ?_
      · unfold thrS at h
        split at h
        · exact h
        · exact ⟨h.mono hx.2, h.size⟩
      · intro i o a' w' hi inv hpre
        have hb : Below w6.heap.size w6 w' := inv.grow.1
        have hsz : w6.heap.size ≤ w'.heap.size := inv.grow.2
        have hlt : i < 11 := (Array.getElem?_eq_some_iff.1 hi).1
        obtain rfl|rfl|rfl|rfl|rfl|rfl|rfl|rfl|rfl|rfl|rfl : i = 0 ∨ i = 1 ∨ i = 2 ∨ i = 3 ∨ i = 4 ∨ i = 5 ∨ i = 6 ∨ i = 7 ∨ i = 8 ∨ i = 9 ∨ i = 10 := by omega
        · obtain rfl := Option.some.inj hi
          exact su_value _ rfl rfl (build0_run rfl) ((Below.refl _ _).alloc (Nat.le_refl _) _) (own_lit [] hsz (by decide))
        · obtain rfl := Option.some.inj hi
          exact su_value _ rfl rfl (slice30_run 4 rfl (by rw [inv.old 4 (notDst_spec (by kernel_rfl))]; rfl)) (Below.refl _ _) rfl
        · obtain rfl := Option.some.inj hi
          have h0 : w'.ownsRow w6.heap.size 5 1 (a'.tmps.getD 44 undef) 0 (ints .u8 []) := pre_use hpre 0 44 (by kernel_rfl) (by kernel_rfl) (.inr rfl)
          have h1 : a'.tmps.getD 45 undef = _ := pre_use hpre 1 45 (by kernel_rfl) (by kernel_rfl) (.inl rfl)
          exact su_append 44 45 rfl rfl rfl w6.heap.size _ 0 [] w.heap.size 0 16 16 hh rfl h1 HHL.out h0 (rangeAt_of_row (HH6.out.below hb HH6.out.lt)) (by decide) hsz (fun v' w'' ho hg => ⟨⟨below_append h0 hg hsz, hg.size⟩, by rw [Nat.zero_add, List.nil_append] at ho; exact ho⟩)
        · obtain rfl := Option.some.inj hi
          exact su_value _ rfl rfl (slice30_run 5 rfl (by rw [inv.old 5 (notDst_spec (by kernel_rfl))]; rfl)) (Below.refl _ _) rfl
        · obtain rfl := Option.some.inj hi
          have h0 : w'.ownsRow w6.heap.size 5 1 (a'.tmps.getD 46 undef) 16 (ints .u8 hh) := pre_use hpre 2 46 (by kernel_rfl) (by kernel_rfl) (.inr rfl)
          have h1 : a'.tmps.getD 47 undef = _ := pre_use hpre 3 47 (by kernel_rfl) (by kernel_rfl) (.inl rfl)
          exact su_append 46 47 rfl rfl rfl w6.heap.size _ 16 hh (w.heap.size + 1) 0 16 16 aa rfl h1 HAL.out h0 (rangeAt_of_row (HA6.out.below hb HA6.out.lt)) (by decide) hsz (fun v' w'' ho hg => ⟨⟨below_append h0 hg hsz, hg.size⟩, own_key ho⟩)
        · obtain rfl := Option.some.inj hi
          have h0 : KeyV (hh ++ aa) (a'.tmps.getD 48 undef) w' := pre_use hpre 4 48 (by kernel_rfl) (by kernel_rfl) (.inl rfl)
          refine su_call 10 #[a'.tmps.getD 48 undef, .slice none 0 0] rfl rfl (by kernel_rfl) ?_
          exact tag_call h0 (by simp [HHL.out, HAL.out]) (app_lt HHB.out HAB.out) ⟨fun x hx => by simp at hx, fun h => absurd rfl h⟩ rfl (by decide) (by decide)
        · obtain rfl := Option.some.inj hi
          have h0 : PairV (Po.tag (hh ++ aa) []) (a'.tmps.getD 49 undef) w' := pre_use hpre 5 49 (by kernel_rfl) (by kernel_rfl) (.inl rfl)
          exact su_value _ rfl rfl rfl (Below.refl _ _) h0
        · obtain rfl := Option.some.inj hi
          have h0 : PairV (Po.tag (hh ++ aa) []) (a'.tmps.getD 43 undef) w' := pre_use hpre 6 43 (by kernel_rfl) (by kernel_rfl) (.inl rfl)
          obtain ⟨t, ht, hT⟩ := h0
          exact su_value _ rfl rfl (extract_run 43 0 rfl ht (by simp)) (Below.refl _ _) hT
        · obtain rfl := Option.some.inj hi
          have h0 : PairV (Po.tag (hh ++ aa) []) (a'.tmps.getD 43 undef) w' := pre_use hpre 6 43 (by kernel_rfl) (by kernel_rfl) (.inl rfl)
          obtain ⟨t, ht, hT⟩ := h0
          exact su_value _ rfl rfl (extract_run 43 1 rfl ht (by simp)) (Below.refl _ _) rfl
        · obtain rfl := Option.some.inj hi
          have h0 : TagV (Po.tag (hh ++ aa) []) (a'.tmps.getD 50 undef) w' := pre_use hpre 7 50 (by kernel_rfl) (by kernel_rfl) (.inl rfl)
          exact su_value _ rfl rfl rfl (Below.refl _ _) h0
        · obtain rfl := Option.some.inj hi
          have h0 : a'.tmps.getD 51 undef = _ := pre_use hpre 8 51 (by kernel_rfl) (by kernel_rfl) (.inl rfl)
          exact su_value _ rfl rfl rfl (Below.refl _ _) h0
      · intro a' w' inv hd
        obtain ⟨bthr44, cthr44, h5, hr⟩ := hd 9 13 rfl (by kernel_rfl)
        have h6 : a'.tmps.getD 14 undef = .int .i64 0 := hd 10 14 rfl (by kernel_rfl)
        have hb : Below w6.heap.size w6 w' := inv.grow.1
        have hdf : a'.defers = [] := inv.defers
        have hsz : a'.tmps.size = 116 := inv.size
        have e := frame44 hsz (fun t ht => inv.old t (dst_sec (l := [13, 14, 43, 44, 45, 46, 47, 48, 49, 50, 51]) (by kernel_rfl) t ht))
        rw [h5, h6] at e
        obtain ⟨tmps, defers⟩ := a'
        obtain rfl : defers = [] := hdf
        replace e : tmps = _ := e
        clear inv hd h5 h6 hsz
        generalize tmps.getD 43 undef = x43 at e
        generalize tmps.getD 44 undef = x44 at e
        generalize tmps.getD 45 undef = x45 at e
        generalize tmps.getD 46 undef = x46 at e
        generalize tmps.getD 47 undef = x47 at e
        generalize tmps.getD 48 undef = x48 at e
        generalize tmps.getD 49 undef = x49 at e
        generalize tmps.getD 50 undef = x50 at e
        generalize tmps.getD 51 undef = x51 at e
        simp only [Array.getD_eq_getD_getElem?, List.getElem?_toArray, List.getElem?_cons_succ, List.getElem?_cons_zero, Option.getD_some] at e
        subst e
        have HX7 : Hid (w'.rangeAt bsec24 0 (ints .u8 (Po.tag (hh ++ aa) text))) := rangeAt_below hb HX6.out
        have HY7 : Hid (w'.rangeAt bsec34 0 (ints .u8 (Po.tag (hh ++ bb) text))) := rangeAt_below hb HY6.out
        have HB7 : Hid (Below w.heap.size w w') := HB6.out.trans (hb.mono HB6.out.size)
        have HA7 : Hid (RAt 30 w' (w.heap.size + 1) aa) := HA6.out.below hb HA6.out.lt
        have HC7 : Hid (RAt 30 w' (w.heap.size + 2) bb) := HC6.out.below hb HC6.out.lt
        rw [tag_empty hh aa HHL.out HAL.out HAB.out] at hr
        have hcv1 : ∀ m, (convert 22 9 (.slice (some ⟨bthr44, 0, none⟩) 16 cthr44)).run Try.prog (w'.drewN m) = .ok (.string (strB aa)) (w'.drewN m) := fun m => conv_of cthr44 HAL.out (w := w'.drewN m) hr
        have hcv2 : ∀ m, (convert 22 9 (.slice (some ⟨w.heap.size + 1, 0, none⟩) 16 16)).run Try.prog (w'.drewN m) = .ok (.string (strB aa)) (w'.drewN m) := fun m => conv_of 16 HAL.out (w := w'.drewN m) (rangeAt_of_row HA7.out)
        clear hr hb HB6 HH6 HA6 HC6 HX6 HY6
        generalize hw7 : w' = w7 at *
        clear hw7
        go_wp2_with fail
        go_quiet (fail)
        go_wp2_with fail
        have HX8 : Hid ((w7.drewN nq).rangeAt bsec24 0 (ints .u8 (Po.tag (hh ++ aa) text))) := HX7.out
        have HY8 : Hid ((w7.drewN nq).rangeAt bsec34 0 (ints .u8 (Po.tag (hh ++ bb) text))) := HY7.out
        have HA8 : Hid (RAt 30 (w7.drewN nq) (w.heap.size + 1) aa) := HA7.out
        have HC8 : Hid (RAt 30 (w7.drewN nq) (w.heap.size + 2) bb) := HC7.out
        have HB8 : Hid (Below w.heap.size w (w7.drewN nq)) := below_drewN HB7.out nq
        clear HX7 HY7 HA7 HC7 HB7 hcv1 hcv2
        generalize w7.drewN nq = w8 at *
        have HXB : Hid (∀ x ∈ (Po.tag (hh ++ aa) text), x < 256) := Po.tag_lt _ _
        have HYB : Hid (∀ x ∈ (Po.tag (hh ++ bb) text), x < 256) := Po.tag_lt _ _
        have HXL : Hid (((Po.tag (hh ++ aa) text)).length = 16) := Po.tag_length _ _
        have HYL : Hid (((Po.tag (hh ++ bb) text)).length = 16) := Po.tag_length _ _
        have HTW : Hid (∀ i, i < 16 → (car (Po.tag (hh ++ aa) text) bb i + Sp.nth (Po.tag (hh ++ aa) text) i + Sp.nth bb i) % 256 = (car (Po.tag (hh ++ bb) text) aa i + Sp.nth (Po.tag (hh ++ bb) text) i + Sp.nth aa i) % 256) := fun i hi => tag_two hh aa bb text HHL.out i hi
        generalize (Po.tag (hh ++ aa) text) = X at *
        generalize (Po.tag (hh ++ bb) text) = Y at *
        have HCX : Hid (∀ i, car X bb (i + 1) = (car X bb i + Sp.nth X i + Sp.nth bb i) / 256) := car_succ _ _
        have HCY : Hid (∀ i, car Y aa (i + 1) = (car Y aa i + Sp.nth Y i + Sp.nth aa i) / 256) := car_succ _ _
        have HX0 : Hid (car X bb 0 = 0) := by show _ = _; simp [car, Po.pos]
        have HY0 : Hid (car Y aa 0 = 0) := by show _ = _; simp [car, Po.pos]
        go_loopw [15, 16, 79] (fun cv dv u wr => ∃ i : Nat, i ≤ 16 ∧ u = .int .i64 i ∧ cv = .int .i64 (car X bb i : Nat) ∧ dv = .int .i64 (car Y aa i : Nat) ∧ Hid (w8.grownBy wr none)) (fun _ _ u _ => 16 - (intOf u).toNat)
        case atStart => exact ⟨0, by omega, rfl, by rw [HX0.out]; rfl, by rw [HY0.out]; rfl, grownBy_refl _ _⟩
        case round =>
          obtain ⟨i, hi, rfl, rfl, rfl, HG⟩ := hrel
          by_cases hlt : i < 16
          · have cx := range_cell (range_none HX8.out HG.out) i (by rw [HXL.out]; exact hlt)
            have cy := range_cell (range_none HY8.out HG.out) i (by rw [HYL.out]; exact hlt)
            rw [Nat.zero_add] at cx cy
            have ca := (RAt.none HA8.out HG.out).cell i (by rw [HAL.out]; exact hlt)
            have cb := (RAt.none HC8.out HG.out).cell i (by rw [HBL.out]; exact hlt)
            have hx1 := HCX.out i
            have hy1 := HCY.out i
            have hcx := car_le HXB.out HBB.out i
            have hcy := car_le HYB.out HAB.out i
            have hti := HTW.out i hlt
            have x1 : Sp.nth X i < 256 := Sp.nth_lt (by decide) HXB.out i
            have x2 : Sp.nth Y i < 256 := Sp.nth_lt (by decide) HYB.out i
            have x3 : Sp.nth aa i < 256 := Sp.nth_lt (by decide) HAB.out i
            have x4 : Sp.nth bb i < 256 := Sp.nth_lt (by decide) HBB.out i
            have i0 : (0 : Int) ≤ (i : Int) := by omega
            have i1 : (i : Int) < 16 := by omega
            have HCI : Hid (car X bb (i + 1) = (car X bb i + Sp.nth X i + Sp.nth bb i) / 256) := hx1
            have HDI : Hid (car Y aa (i + 1) = (car Y aa i + Sp.nth Y i + Sp.nth aa i) / 256) := hy1
            clear hx1 hy1
            generalize car X bb i = cc at *
            generalize car Y aa i = dd at *
            generalize Sp.nth X i = xx at *
            generalize Sp.nth Y i = yy at *
            generalize Sp.nth aa i = a1 at *
            generalize Sp.nth bb i = b1 at *
            have HTI : Hid ((cc + xx + b1) % 256 = (dd + yy + a1) % 256) := hti
            clear hti
            obtain ⟨P1, hP1⟩ : ∃ P1, cc + xx + b1 = P1 := ⟨_, rfl⟩
            obtain ⟨P2, hP2⟩ : ∃ P2, dd + yy + a1 = P2 := ⟨_, rfl⟩
            have e1 : (cc : Int) + ((xx : Int) + (b1 : Int)) = (P1 : Int) := by omega
            have e2 : (dd : Int) + ((yy : Int) + (a1 : Int)) = (P2 : Int) := by omega
            have m1 : (P1 : Int).tmod 256 = (P1 : Int) % 256 := Int.tmod_eq_emod_of_nonneg (by omega)
            have m2 : (P2 : Int).tmod 256 = (P2 : Int) % 256 := Int.tmod_eq_emod_of_nonneg (by omega)
            have d1 : (P1 : Int).tdiv 256 = (P1 : Int) / 256 := Int.tdiv_eq_ediv_of_nonneg (by omega)
            have d2 : (P2 : Int).tdiv 256 = (P2 : Int) / 256 := Int.tdiv_eq_ediv_of_nonneg (by omega)
            have hP3 : P1 < 1000 := by omega
            have hP4 : P2 < 1000 := by omega
            have hmm : (P1 : Int) % 256 = (P2 : Int) % 256 := by have := HTI.out; omega
            rw [hP1] at HCI
            rw [hP2] at HDI
            clear hP1 hP2 HTI
            go_wp2_with fail
            go_quiet (fail)
            go_wp2_with fail
            have HG2 : Hid (w8.grownBy (wr.drewN nq) none) := grownBy_drewN HG.out nq
            have cx2 : (wr.drewN nq).cell? ⟨bsec34, i, none⟩ = some (.int .u8 (yy : Nat)) := cy
            have ca2 : (wr.drewN nq).cell? ⟨w.heap.size + 1, i, none⟩ = some (.int .u8 (a1 : Nat)) := ca
            clear cx cy ca cb HG
            generalize wr.drewN nq = wr2 at *
            go_quiet (fail)
            have HG3 : Hid (w8.grownBy (wr2.drewN nq) none) := grownBy_drewN HG2.out nq
            clear cx2 ca2 HG2
            generalize wr2.drewN nq = wr3 at *
            go_wp2_with fail
            go_roundw
            case rel => exact ⟨i + 1, by omega, by go_num, (by have := HCI.out; rw [this]; go_num), (by have := HDI.out; rw [this]; go_num), HG3.out⟩
            case measure => simp [intOf]; omega
          · obtain rfl : i = 16 := by omega
            go_wp2_with fail
            go_ret
            exact ⟨rfl, below_none HB8.out HG.out⟩
end Go.Proofs.Ytncnckiknhhbjaa
