/- SuiteApart, walked. -/
import Derived.Test.YtbblokikhocdfaaDoorS7St
import Derived.Test.YtbblokikhocdfaaDoorS7Facts
namespace Go.Proofs.YtbblokikhocdfaaDoor.S7
open Go.RowKit
theorem Sum_V (l : List Nat) (v : Value) (g p q m x B : Nat) (L : List Su.Thing) (w : World) (h : SuIs w p q m x L) (hc : w.cell? ⟨g, 0, none⟩ = some v) (hv : Src w v l) (hl : l.length ≤ 50000) (hL : L.length < 1000000) (hB : B ≤ w.heap.size) :
    Calls Tryd.prog 13 #[.pointer (some ⟨p, 0, none⟩), .slice (some ⟨g, 0, none⟩) 1 1] w fun e w' => ∃ u, e = .returned u ∧ Only [p, m] w w' ∧ SuIs w' p q m x (Su.add L 72 [] l) ∧ OwnV B (Su.sign 72 (Su.num L 72 [] l)) u w' := by
  refine (Sum_one l g 0 1 v p q m x L w h hc hv hl hL).mono ?_
  rintro e w' ⟨u, rfl, h1, h2, h3⟩
  refine ⟨u, rfl, h3, h2, ?_⟩
  unfold OwnV
  rw [Su.sign_length]
  exact own_older h1 hB
theorem Code_V (k l : List Nat) (kv v : Value) (g p q m x B : Nat) (L : List Su.Thing) (w : World) (h : SuIs w p q m x L) (hk : Src w kv k) (hc : w.cell? ⟨g, 0, none⟩ = some v) (hv : Src w v l) (hl : l.length ≤ 50000) (hL : L.length < 1000000) (hB : B ≤ w.heap.size) :
    Calls Tryd.prog 15 #[.pointer (some ⟨p, 0, none⟩), kv, .slice (some ⟨g, 0, none⟩) 1 1] w fun e w' => ∃ u, e = .returned u ∧ Only [p, m] w w' ∧ SuIs w' p q m x (Su.add L 77 k l) ∧ OwnV B (Su.sign 77 (Su.num L 77 k l)) u w' := by
  refine (Code_one k l g 0 1 kv v p q m x L w h hk hc hv hl hL).mono ?_
  rintro e w' ⟨u, rfl, h1, h2, h3⟩
  refine ⟨u, rfl, h3, h2, ?_⟩
  unfold OwnV
  rw [Su.sign_length]
  exact own_older h1 hB
theorem Key_V (p q m x B : Nat) (L : List Su.Thing) (w : World) (h : SuIs w p q m x L) (hL : L.length < 1000000) (hB : B ≤ w.heap.size) :
    Calls Tryd.prog 17 #[.pointer (some ⟨p, 0, none⟩)] w fun e w' => ∃ u, e = .returned u ∧ Only [p] w w' ∧ SuIs w' p q m x (L ++ [(75, [], [], [], [])]) ∧ OwnV B (Su.sign 75 (L.length + 1)) u w' := by
  refine (Key_signs p q m x L w h hL).mono ?_
  rintro e w' ⟨u, rfl, h1, h2, h3⟩
  refine ⟨u, rfl, h3, h2, ?_⟩
  unfold OwnV
  rw [Su.sign_length]
  exact own_older h1 hB
def ap6 (B p m s n1 n2 : Nat) (av bv : Value) : Nat → Value → World → Prop
  | 0 => IsV (.pointer (some ⟨p, 0, none⟩))
  | 1 => IsV av
  | 2 => PartV [p, m] av
  | 3 => OwnV B (Su.sign s n1)
  | 4 => StrV (Su.sign s n1)
  | 5 => IsV (.pointer (some ⟨p, 0, none⟩))
  | 6 => IsV bv
  | 7 => PartV [p, m] bv
  | 8 => OwnV B (Su.sign s n2)
  | 9 => StrV (Su.sign s n2)
  | 10 => StrV (Su.sign s n1)
  | 11 => StrV (Su.sign s n2)
  | _ => fun _ _ => True
theorem ap6_kept (B p m s n1 n2 : Nat) (av bv : Value) (hB : ∀ y ∈ [p, m], y < B) : ∀ i v w w', ap6 B p m s n1 n2 av bv i v w → Only [p, m] w w' → ap6 B p m s n1 n2 av bv i v w'
  | 0, _, _, _, h, _ => h
  | 1, _, _, _, h, _ => h
  | 2, _, _, _, h, ho => PartV.kept h ho
  | 3, _, _, _, h, ho => OwnV.kept hB h ho
  | 4, _, _, _, h, _ => h
  | 5, _, _, _, h, _ => h
  | 6, _, _, _, h, _ => h
  | 7, _, _, _, h, ho => PartV.kept h ho
  | 8, _, _, _, h, ho => OwnV.kept hB h ho
  | 9, _, _, _, h, _ => h
  | 10, _, _, _, h, _ => h
  | 11, _, _, _, h, _ => h
  | _ + 12, _, _, _, _, _ => trivial
def ap7 (B p m s n1 n2 : Nat) (av bv kv lv : Value) : Nat → Value → World → Prop
  | 0 => IsV (.pointer (some ⟨p, 0, none⟩))
  | 1 => IsV kv
  | 2 => IsV av
  | 3 => PartV [p, m] av
  | 4 => OwnV B (Su.sign s n1)
  | 5 => StrV (Su.sign s n1)
  | 6 => IsV (.pointer (some ⟨p, 0, none⟩))
  | 7 => IsV lv
  | 8 => IsV bv
  | 9 => PartV [p, m] bv
  | 10 => OwnV B (Su.sign s n2)
  | 11 => StrV (Su.sign s n2)
  | 12 => StrV (Su.sign s n1)
  | 13 => StrV (Su.sign s n2)
  | _ => fun _ _ => True
theorem ap7_kept (B p m s n1 n2 : Nat) (av bv kv lv : Value) (hB : ∀ y ∈ [p, m], y < B) : ∀ i v w w', ap7 B p m s n1 n2 av bv kv lv i v w → Only [p, m] w w' → ap7 B p m s n1 n2 av bv kv lv i v w'
  | 0, _, _, _, h, _ => h
  | 1, _, _, _, h, _ => h
  | 2, _, _, _, h, _ => h
  | 3, _, _, _, h, ho => PartV.kept h ho
  | 4, _, _, _, h, ho => OwnV.kept hB h ho
  | 5, _, _, _, h, _ => h
  | 6, _, _, _, h, _ => h
  | 7, _, _, _, h, _ => h
  | 8, _, _, _, h, _ => h
  | 9, _, _, _, h, ho => PartV.kept h ho
  | 10, _, _, _, h, ho => OwnV.kept hB h ho
  | 11, _, _, _, h, _ => h
  | 12, _, _, _, h, _ => h
  | 13, _, _, _, h, _ => h
  | _ + 14, _, _, _, _, _ => trivial
def ap8 (B p s n1 n2 : Nat) : Nat → Value → World → Prop
  | 0 => IsV (.pointer (some ⟨p, 0, none⟩))
  | 1 => OwnV B (Su.sign s n1)
  | 2 => StrV (Su.sign s n1)
  | 3 => IsV (.pointer (some ⟨p, 0, none⟩))
  | 4 => OwnV B (Su.sign s n2)
  | 5 => StrV (Su.sign s n2)
  | 6 => StrV (Su.sign s n1)
  | 7 => StrV (Su.sign s n2)
  | _ => fun _ _ => True
theorem ap8_kept (B p s n1 n2 : Nat) (hB : ∀ y ∈ [p], y < B) : ∀ i v w w', ap8 B p s n1 n2 i v w → Only [p] w w' → ap8 B p s n1 n2 i v w'
  | 0, _, _, _, h, _ => h
  | 1, _, _, _, h, ho => OwnV.kept hB h ho
  | 2, _, _, _, h, _ => h
  | 3, _, _, _, h, _ => h
  | 4, _, _, _, h, ho => OwnV.kept hB h ho
  | 5, _, _, _, h, _ => h
  | 6, _, _, _, h, _ => h
  | 7, _, _, _, h, _ => h
  | _ + 8, _, _, _, _, _ => trivial
theorem frame122_6 {A F : Array Value} (hs : A.size = 122) (h : ∀ t, [10, 11, 37, 38, 39, 40, 41, 42, 43, 44, 45, 46].contains t = false → A.getD t undef = F.getD t undef) : A = #[F.getD 0 undef, F.getD 1 undef, F.getD 2 undef, F.getD 3 undef, F.getD 4 undef, F.getD 5 undef, F.getD 6 undef, F.getD 7 undef, F.getD 8 undef, F.getD 9 undef, A.getD 10 undef, A.getD 11 undef, F.getD 12 undef, F.getD 13 undef, F.getD 14 undef, F.getD 15 undef, F.getD 16 undef, F.getD 17 undef, F.getD 18 undef, F.getD 19 undef, F.getD 20 undef, F.getD 21 undef, F.getD 22 undef, F.getD 23 undef, F.getD 24 undef, F.getD 25 undef, F.getD 26 undef, F.getD 27 undef, F.getD 28 undef, F.getD 29 undef, F.getD 30 undef, F.getD 31 undef, F.getD 32 undef, F.getD 33 undef, F.getD 34 undef, F.getD 35 undef, F.getD 36 undef, A.getD 37 undef, A.getD 38 undef, A.getD 39 undef, A.getD 40 undef, A.getD 41 undef, A.getD 42 undef, A.getD 43 undef, A.getD 44 undef, A.getD 45 undef, A.getD 46 undef, F.getD 47 undef, F.getD 48 undef, F.getD 49 undef, F.getD 50 undef, F.getD 51 undef, F.getD 52 undef, F.getD 53 undef, F.getD 54 undef, F.getD 55 undef, F.getD 56 undef, F.getD 57 undef, F.getD 58 undef, F.getD 59 undef, F.getD 60 undef, F.getD 61 undef, F.getD 62 undef, F.getD 63 undef, F.getD 64 undef, F.getD 65 undef, F.getD 66 undef, F.getD 67 undef, F.getD 68 undef, F.getD 69 undef, F.getD 70 undef, F.getD 71 undef, F.getD 72 undef, F.getD 73 undef, F.getD 74 undef, F.getD 75 undef, F.getD 76 undef, F.getD 77 undef, F.getD 78 undef, F.getD 79 undef, F.getD 80 undef, F.getD 81 undef, F.getD 82 undef, F.getD 83 undef, F.getD 84 undef, F.getD 85 undef, F.getD 86 undef, F.getD 87 undef, F.getD 88 undef, F.getD 89 undef, F.getD 90 undef, F.getD 91 undef, F.getD 92 undef, F.getD 93 undef, F.getD 94 undef, F.getD 95 undef, F.getD 96 undef, F.getD 97 undef, F.getD 98 undef, F.getD 99 undef, F.getD 100 undef, F.getD 101 undef, F.getD 102 undef, F.getD 103 undef, F.getD 104 undef, F.getD 105 undef, F.getD 106 undef, F.getD 107 undef, F.getD 108 undef, F.getD 109 undef, F.getD 110 undef, F.getD 111 undef, F.getD 112 undef, F.getD 113 undef, F.getD 114 undef, F.getD 115 undef, F.getD 116 undef, F.getD 117 undef, F.getD 118 undef, F.getD 119 undef, F.getD 120 undef, F.getD 121 undef] := by
  rw [← h 0 (by decide), ← h 1 (by decide), ← h 2 (by decide), ← h 3 (by decide), ← h 4 (by decide), ← h 5 (by decide), ← h 6 (by decide), ← h 7 (by decide), ← h 8 (by decide), ← h 9 (by decide), ← h 12 (by decide), ← h 13 (by decide), ← h 14 (by decide), ← h 15 (by decide), ← h 16 (by decide), ← h 17 (by decide), ← h 18 (by decide), ← h 19 (by decide), ← h 20 (by decide), ← h 21 (by decide), ← h 22 (by decide), ← h 23 (by decide), ← h 24 (by decide), ← h 25 (by decide), ← h 26 (by decide), ← h 27 (by decide), ← h 28 (by decide), ← h 29 (by decide), ← h 30 (by decide), ← h 31 (by decide), ← h 32 (by decide), ← h 33 (by decide), ← h 34 (by decide), ← h 35 (by decide), ← h 36 (by decide), ← h 47 (by decide), ← h 48 (by decide), ← h 49 (by decide), ← h 50 (by decide), ← h 51 (by decide), ← h 52 (by decide), ← h 53 (by decide), ← h 54 (by decide), ← h 55 (by decide), ← h 56 (by decide), ← h 57 (by decide), ← h 58 (by decide), ← h 59 (by decide), ← h 60 (by decide), ← h 61 (by decide), ← h 62 (by decide), ← h 63 (by decide), ← h 64 (by decide), ← h 65 (by decide), ← h 66 (by decide), ← h 67 (by decide), ← h 68 (by decide), ← h 69 (by decide), ← h 70 (by decide), ← h 71 (by decide), ← h 72 (by decide), ← h 73 (by decide), ← h 74 (by decide), ← h 75 (by decide), ← h 76 (by decide), ← h 77 (by decide), ← h 78 (by decide), ← h 79 (by decide), ← h 80 (by decide), ← h 81 (by decide), ← h 82 (by decide), ← h 83 (by decide), ← h 84 (by decide), ← h 85 (by decide), ← h 86 (by decide), ← h 87 (by decide), ← h 88 (by decide), ← h 89 (by decide), ← h 90 (by decide), ← h 91 (by decide), ← h 92 (by decide), ← h 93 (by decide), ← h 94 (by decide), ← h 95 (by decide), ← h 96 (by decide), ← h 97 (by decide), ← h 98 (by decide), ← h 99 (by decide), ← h 100 (by decide), ← h 101 (by decide), ← h 102 (by decide), ← h 103 (by decide), ← h 104 (by decide), ← h 105 (by decide), ← h 106 (by decide), ← h 107 (by decide), ← h 108 (by decide), ← h 109 (by decide), ← h 110 (by decide), ← h 111 (by decide), ← h 112 (by decide), ← h 113 (by decide), ← h 114 (by decide), ← h 115 (by decide), ← h 116 (by decide), ← h 117 (by decide), ← h 118 (by decide), ← h 119 (by decide), ← h 120 (by decide), ← h 121 (by decide)]
  refine Array.ext (by simp [hs]) (fun i h1 h2 => ?_)
  have e : A[i] = A.getD i undef := by simp [h1]
  rw [e]
  rw [hs] at h1
  clear e h hs
  match i, h1 with
  | 0, _ => rfl
  | 1, _ => rfl
  | 2, _ => rfl
  | 3, _ => rfl
  | 4, _ => rfl
  | 5, _ => rfl
  | 6, _ => rfl
  | 7, _ => rfl
  | 8, _ => rfl
  | 9, _ => rfl
  | 10, _ => rfl
  | 11, _ => rfl
  | 12, _ => rfl
  | 13, _ => rfl
  | 14, _ => rfl
  | 15, _ => rfl
  | 16, _ => rfl
  | 17, _ => rfl
  | 18, _ => rfl
  | 19, _ => rfl
  | 20, _ => rfl
  | 21, _ => rfl
  | 22, _ => rfl
  | 23, _ => rfl
  | 24, _ => rfl
  | 25, _ => rfl
  | 26, _ => rfl
  | 27, _ => rfl
  | 28, _ => rfl
  | 29, _ => rfl
  | 30, _ => rfl
  | 31, _ => rfl
  | 32, _ => rfl
  | 33, _ => rfl
  | 34, _ => rfl
  | 35, _ => rfl
  | 36, _ => rfl
  | 37, _ => rfl
  | 38, _ => rfl
  | 39, _ => rfl
  | 40, _ => rfl
  | 41, _ => rfl
  | 42, _ => rfl
  | 43, _ => rfl
  | 44, _ => rfl
  | 45, _ => rfl
  | 46, _ => rfl
  | 47, _ => rfl
  | 48, _ => rfl
  | 49, _ => rfl
  | 50, _ => rfl
  | 51, _ => rfl
  | 52, _ => rfl
  | 53, _ => rfl
  | 54, _ => rfl
  | 55, _ => rfl
  | 56, _ => rfl
  | 57, _ => rfl
  | 58, _ => rfl
  | 59, _ => rfl
  | 60, _ => rfl
  | 61, _ => rfl
  | 62, _ => rfl
  | 63, _ => rfl
  | 64, _ => rfl
  | 65, _ => rfl
  | 66, _ => rfl
  | 67, _ => rfl
  | 68, _ => rfl
  | 69, _ => rfl
  | 70, _ => rfl
  | 71, _ => rfl
  | 72, _ => rfl
  | 73, _ => rfl
  | 74, _ => rfl
  | 75, _ => rfl
  | 76, _ => rfl
  | 77, _ => rfl
  | 78, _ => rfl
  | 79, _ => rfl
  | 80, _ => rfl
  | 81, _ => rfl
  | 82, _ => rfl
  | 83, _ => rfl
  | 84, _ => rfl
  | 85, _ => rfl
  | 86, _ => rfl
  | 87, _ => rfl
  | 88, _ => rfl
  | 89, _ => rfl
  | 90, _ => rfl
  | 91, _ => rfl
  | 92, _ => rfl
  | 93, _ => rfl
  | 94, _ => rfl
  | 95, _ => rfl
  | 96, _ => rfl
  | 97, _ => rfl
  | 98, _ => rfl
  | 99, _ => rfl
  | 100, _ => rfl
  | 101, _ => rfl
  | 102, _ => rfl
  | 103, _ => rfl
  | 104, _ => rfl
  | 105, _ => rfl
  | 106, _ => rfl
  | 107, _ => rfl
  | 108, _ => rfl
  | 109, _ => rfl
  | 110, _ => rfl
  | 111, _ => rfl
  | 112, _ => rfl
  | 113, _ => rfl
  | 114, _ => rfl
  | 115, _ => rfl
  | 116, _ => rfl
  | 117, _ => rfl
  | 118, _ => rfl
  | 119, _ => rfl
  | 120, _ => rfl
  | 121, _ => rfl
  | _ + 122, h => exact absurd h (by omega)
theorem frame122_7 {A F : Array Value} (hs : A.size = 122) (h : ∀ t, [12, 13, 47, 48, 49, 50, 51, 52, 53, 54, 55, 56, 57, 58].contains t = false → A.getD t undef = F.getD t undef) : A = #[F.getD 0 undef, F.getD 1 undef, F.getD 2 undef, F.getD 3 undef, F.getD 4 undef, F.getD 5 undef, F.getD 6 undef, F.getD 7 undef, F.getD 8 undef, F.getD 9 undef, F.getD 10 undef, F.getD 11 undef, A.getD 12 undef, A.getD 13 undef, F.getD 14 undef, F.getD 15 undef, F.getD 16 undef, F.getD 17 undef, F.getD 18 undef, F.getD 19 undef, F.getD 20 undef, F.getD 21 undef, F.getD 22 undef, F.getD 23 undef, F.getD 24 undef, F.getD 25 undef, F.getD 26 undef, F.getD 27 undef, F.getD 28 undef, F.getD 29 undef, F.getD 30 undef, F.getD 31 undef, F.getD 32 undef, F.getD 33 undef, F.getD 34 undef, F.getD 35 undef, F.getD 36 undef, F.getD 37 undef, F.getD 38 undef, F.getD 39 undef, F.getD 40 undef, F.getD 41 undef, F.getD 42 undef, F.getD 43 undef, F.getD 44 undef, F.getD 45 undef, F.getD 46 undef, A.getD 47 undef, A.getD 48 undef, A.getD 49 undef, A.getD 50 undef, A.getD 51 undef, A.getD 52 undef, A.getD 53 undef, A.getD 54 undef, A.getD 55 undef, A.getD 56 undef, A.getD 57 undef, A.getD 58 undef, F.getD 59 undef, F.getD 60 undef, F.getD 61 undef, F.getD 62 undef, F.getD 63 undef, F.getD 64 undef, F.getD 65 undef, F.getD 66 undef, F.getD 67 undef, F.getD 68 undef, F.getD 69 undef, F.getD 70 undef, F.getD 71 undef, F.getD 72 undef, F.getD 73 undef, F.getD 74 undef, F.getD 75 undef, F.getD 76 undef, F.getD 77 undef, F.getD 78 undef, F.getD 79 undef, F.getD 80 undef, F.getD 81 undef, F.getD 82 undef, F.getD 83 undef, F.getD 84 undef, F.getD 85 undef, F.getD 86 undef, F.getD 87 undef, F.getD 88 undef, F.getD 89 undef, F.getD 90 undef, F.getD 91 undef, F.getD 92 undef, F.getD 93 undef, F.getD 94 undef, F.getD 95 undef, F.getD 96 undef, F.getD 97 undef, F.getD 98 undef, F.getD 99 undef, F.getD 100 undef, F.getD 101 undef, F.getD 102 undef, F.getD 103 undef, F.getD 104 undef, F.getD 105 undef, F.getD 106 undef, F.getD 107 undef, F.getD 108 undef, F.getD 109 undef, F.getD 110 undef, F.getD 111 undef, F.getD 112 undef, F.getD 113 undef, F.getD 114 undef, F.getD 115 undef, F.getD 116 undef, F.getD 117 undef, F.getD 118 undef, F.getD 119 undef, F.getD 120 undef, F.getD 121 undef] := by
  rw [← h 0 (by decide), ← h 1 (by decide), ← h 2 (by decide), ← h 3 (by decide), ← h 4 (by decide), ← h 5 (by decide), ← h 6 (by decide), ← h 7 (by decide), ← h 8 (by decide), ← h 9 (by decide), ← h 10 (by decide), ← h 11 (by decide), ← h 14 (by decide), ← h 15 (by decide), ← h 16 (by decide), ← h 17 (by decide), ← h 18 (by decide), ← h 19 (by decide), ← h 20 (by decide), ← h 21 (by decide), ← h 22 (by decide), ← h 23 (by decide), ← h 24 (by decide), ← h 25 (by decide), ← h 26 (by decide), ← h 27 (by decide), ← h 28 (by decide), ← h 29 (by decide), ← h 30 (by decide), ← h 31 (by decide), ← h 32 (by decide), ← h 33 (by decide), ← h 34 (by decide), ← h 35 (by decide), ← h 36 (by decide), ← h 37 (by decide), ← h 38 (by decide), ← h 39 (by decide), ← h 40 (by decide), ← h 41 (by decide), ← h 42 (by decide), ← h 43 (by decide), ← h 44 (by decide), ← h 45 (by decide), ← h 46 (by decide), ← h 59 (by decide), ← h 60 (by decide), ← h 61 (by decide), ← h 62 (by decide), ← h 63 (by decide), ← h 64 (by decide), ← h 65 (by decide), ← h 66 (by decide), ← h 67 (by decide), ← h 68 (by decide), ← h 69 (by decide), ← h 70 (by decide), ← h 71 (by decide), ← h 72 (by decide), ← h 73 (by decide), ← h 74 (by decide), ← h 75 (by decide), ← h 76 (by decide), ← h 77 (by decide), ← h 78 (by decide), ← h 79 (by decide), ← h 80 (by decide), ← h 81 (by decide), ← h 82 (by decide), ← h 83 (by decide), ← h 84 (by decide), ← h 85 (by decide), ← h 86 (by decide), ← h 87 (by decide), ← h 88 (by decide), ← h 89 (by decide), ← h 90 (by decide), ← h 91 (by decide), ← h 92 (by decide), ← h 93 (by decide), ← h 94 (by decide), ← h 95 (by decide), ← h 96 (by decide), ← h 97 (by decide), ← h 98 (by decide), ← h 99 (by decide), ← h 100 (by decide), ← h 101 (by decide), ← h 102 (by decide), ← h 103 (by decide), ← h 104 (by decide), ← h 105 (by decide), ← h 106 (by decide), ← h 107 (by decide), ← h 108 (by decide), ← h 109 (by decide), ← h 110 (by decide), ← h 111 (by decide), ← h 112 (by decide), ← h 113 (by decide), ← h 114 (by decide), ← h 115 (by decide), ← h 116 (by decide), ← h 117 (by decide), ← h 118 (by decide), ← h 119 (by decide), ← h 120 (by decide), ← h 121 (by decide)]
  refine Array.ext (by simp [hs]) (fun i h1 h2 => ?_)
  have e : A[i] = A.getD i undef := by simp [h1]
  rw [e]
  rw [hs] at h1
  clear e h hs
  match i, h1 with
  | 0, _ => rfl
  | 1, _ => rfl
  | 2, _ => rfl
  | 3, _ => rfl
  | 4, _ => rfl
  | 5, _ => rfl
  | 6, _ => rfl
  | 7, _ => rfl
  | 8, _ => rfl
  | 9, _ => rfl
  | 10, _ => rfl
  | 11, _ => rfl
  | 12, _ => rfl
  | 13, _ => rfl
  | 14, _ => rfl
  | 15, _ => rfl
  | 16, _ => rfl
  | 17, _ => rfl
  | 18, _ => rfl
  | 19, _ => rfl
  | 20, _ => rfl
  | 21, _ => rfl
  | 22, _ => rfl
  | 23, _ => rfl
  | 24, _ => rfl
  | 25, _ => rfl
  | 26, _ => rfl
  | 27, _ => rfl
  | 28, _ => rfl
  | 29, _ => rfl
  | 30, _ => rfl
  | 31, _ => rfl
  | 32, _ => rfl
  | 33, _ => rfl
  | 34, _ => rfl
  | 35, _ => rfl
  | 36, _ => rfl
  | 37, _ => rfl
  | 38, _ => rfl
  | 39, _ => rfl
  | 40, _ => rfl
  | 41, _ => rfl
  | 42, _ => rfl
  | 43, _ => rfl
  | 44, _ => rfl
  | 45, _ => rfl
  | 46, _ => rfl
  | 47, _ => rfl
  | 48, _ => rfl
  | 49, _ => rfl
  | 50, _ => rfl
  | 51, _ => rfl
  | 52, _ => rfl
  | 53, _ => rfl
  | 54, _ => rfl
  | 55, _ => rfl
  | 56, _ => rfl
  | 57, _ => rfl
  | 58, _ => rfl
  | 59, _ => rfl
  | 60, _ => rfl
  | 61, _ => rfl
  | 62, _ => rfl
  | 63, _ => rfl
  | 64, _ => rfl
  | 65, _ => rfl
  | 66, _ => rfl
  | 67, _ => rfl
  | 68, _ => rfl
  | 69, _ => rfl
  | 70, _ => rfl
  | 71, _ => rfl
  | 72, _ => rfl
  | 73, _ => rfl
  | 74, _ => rfl
  | 75, _ => rfl
  | 76, _ => rfl
  | 77, _ => rfl
  | 78, _ => rfl
  | 79, _ => rfl
  | 80, _ => rfl
  | 81, _ => rfl
  | 82, _ => rfl
  | 83, _ => rfl
  | 84, _ => rfl
  | 85, _ => rfl
  | 86, _ => rfl
  | 87, _ => rfl
  | 88, _ => rfl
  | 89, _ => rfl
  | 90, _ => rfl
  | 91, _ => rfl
  | 92, _ => rfl
  | 93, _ => rfl
  | 94, _ => rfl
  | 95, _ => rfl
  | 96, _ => rfl
  | 97, _ => rfl
  | 98, _ => rfl
  | 99, _ => rfl
  | 100, _ => rfl
  | 101, _ => rfl
  | 102, _ => rfl
  | 103, _ => rfl
  | 104, _ => rfl
  | 105, _ => rfl
  | 106, _ => rfl
  | 107, _ => rfl
  | 108, _ => rfl
  | 109, _ => rfl
  | 110, _ => rfl
  | 111, _ => rfl
  | 112, _ => rfl
  | 113, _ => rfl
  | 114, _ => rfl
  | 115, _ => rfl
  | 116, _ => rfl
  | 117, _ => rfl
  | 118, _ => rfl
  | 119, _ => rfl
  | 120, _ => rfl
  | 121, _ => rfl
  | _ + 122, h => exact absurd h (by omega)
theorem frame122_8 {A F : Array Value} (hs : A.size = 122) (h : ∀ t, [14, 15, 59, 60, 61, 62, 63, 64].contains t = false → A.getD t undef = F.getD t undef) : A = #[F.getD 0 undef, F.getD 1 undef, F.getD 2 undef, F.getD 3 undef, F.getD 4 undef, F.getD 5 undef, F.getD 6 undef, F.getD 7 undef, F.getD 8 undef, F.getD 9 undef, F.getD 10 undef, F.getD 11 undef, F.getD 12 undef, F.getD 13 undef, A.getD 14 undef, A.getD 15 undef, F.getD 16 undef, F.getD 17 undef, F.getD 18 undef, F.getD 19 undef, F.getD 20 undef, F.getD 21 undef, F.getD 22 undef, F.getD 23 undef, F.getD 24 undef, F.getD 25 undef, F.getD 26 undef, F.getD 27 undef, F.getD 28 undef, F.getD 29 undef, F.getD 30 undef, F.getD 31 undef, F.getD 32 undef, F.getD 33 undef, F.getD 34 undef, F.getD 35 undef, F.getD 36 undef, F.getD 37 undef, F.getD 38 undef, F.getD 39 undef, F.getD 40 undef, F.getD 41 undef, F.getD 42 undef, F.getD 43 undef, F.getD 44 undef, F.getD 45 undef, F.getD 46 undef, F.getD 47 undef, F.getD 48 undef, F.getD 49 undef, F.getD 50 undef, F.getD 51 undef, F.getD 52 undef, F.getD 53 undef, F.getD 54 undef, F.getD 55 undef, F.getD 56 undef, F.getD 57 undef, F.getD 58 undef, A.getD 59 undef, A.getD 60 undef, A.getD 61 undef, A.getD 62 undef, A.getD 63 undef, A.getD 64 undef, F.getD 65 undef, F.getD 66 undef, F.getD 67 undef, F.getD 68 undef, F.getD 69 undef, F.getD 70 undef, F.getD 71 undef, F.getD 72 undef, F.getD 73 undef, F.getD 74 undef, F.getD 75 undef, F.getD 76 undef, F.getD 77 undef, F.getD 78 undef, F.getD 79 undef, F.getD 80 undef, F.getD 81 undef, F.getD 82 undef, F.getD 83 undef, F.getD 84 undef, F.getD 85 undef, F.getD 86 undef, F.getD 87 undef, F.getD 88 undef, F.getD 89 undef, F.getD 90 undef, F.getD 91 undef, F.getD 92 undef, F.getD 93 undef, F.getD 94 undef, F.getD 95 undef, F.getD 96 undef, F.getD 97 undef, F.getD 98 undef, F.getD 99 undef, F.getD 100 undef, F.getD 101 undef, F.getD 102 undef, F.getD 103 undef, F.getD 104 undef, F.getD 105 undef, F.getD 106 undef, F.getD 107 undef, F.getD 108 undef, F.getD 109 undef, F.getD 110 undef, F.getD 111 undef, F.getD 112 undef, F.getD 113 undef, F.getD 114 undef, F.getD 115 undef, F.getD 116 undef, F.getD 117 undef, F.getD 118 undef, F.getD 119 undef, F.getD 120 undef, F.getD 121 undef] := by
  rw [← h 0 (by decide), ← h 1 (by decide), ← h 2 (by decide), ← h 3 (by decide), ← h 4 (by decide), ← h 5 (by decide), ← h 6 (by decide), ← h 7 (by decide), ← h 8 (by decide), ← h 9 (by decide), ← h 10 (by decide), ← h 11 (by decide), ← h 12 (by decide), ← h 13 (by decide), ← h 16 (by decide), ← h 17 (by decide), ← h 18 (by decide), ← h 19 (by decide), ← h 20 (by decide), ← h 21 (by decide), ← h 22 (by decide), ← h 23 (by decide), ← h 24 (by decide), ← h 25 (by decide), ← h 26 (by decide), ← h 27 (by decide), ← h 28 (by decide), ← h 29 (by decide), ← h 30 (by decide), ← h 31 (by decide), ← h 32 (by decide), ← h 33 (by decide), ← h 34 (by decide), ← h 35 (by decide), ← h 36 (by decide), ← h 37 (by decide), ← h 38 (by decide), ← h 39 (by decide), ← h 40 (by decide), ← h 41 (by decide), ← h 42 (by decide), ← h 43 (by decide), ← h 44 (by decide), ← h 45 (by decide), ← h 46 (by decide), ← h 47 (by decide), ← h 48 (by decide), ← h 49 (by decide), ← h 50 (by decide), ← h 51 (by decide), ← h 52 (by decide), ← h 53 (by decide), ← h 54 (by decide), ← h 55 (by decide), ← h 56 (by decide), ← h 57 (by decide), ← h 58 (by decide), ← h 65 (by decide), ← h 66 (by decide), ← h 67 (by decide), ← h 68 (by decide), ← h 69 (by decide), ← h 70 (by decide), ← h 71 (by decide), ← h 72 (by decide), ← h 73 (by decide), ← h 74 (by decide), ← h 75 (by decide), ← h 76 (by decide), ← h 77 (by decide), ← h 78 (by decide), ← h 79 (by decide), ← h 80 (by decide), ← h 81 (by decide), ← h 82 (by decide), ← h 83 (by decide), ← h 84 (by decide), ← h 85 (by decide), ← h 86 (by decide), ← h 87 (by decide), ← h 88 (by decide), ← h 89 (by decide), ← h 90 (by decide), ← h 91 (by decide), ← h 92 (by decide), ← h 93 (by decide), ← h 94 (by decide), ← h 95 (by decide), ← h 96 (by decide), ← h 97 (by decide), ← h 98 (by decide), ← h 99 (by decide), ← h 100 (by decide), ← h 101 (by decide), ← h 102 (by decide), ← h 103 (by decide), ← h 104 (by decide), ← h 105 (by decide), ← h 106 (by decide), ← h 107 (by decide), ← h 108 (by decide), ← h 109 (by decide), ← h 110 (by decide), ← h 111 (by decide), ← h 112 (by decide), ← h 113 (by decide), ← h 114 (by decide), ← h 115 (by decide), ← h 116 (by decide), ← h 117 (by decide), ← h 118 (by decide), ← h 119 (by decide), ← h 120 (by decide), ← h 121 (by decide)]
  refine Array.ext (by simp [hs]) (fun i h1 h2 => ?_)
  have e : A[i] = A.getD i undef := by simp [h1]
  rw [e]
  rw [hs] at h1
  clear e h hs
  match i, h1 with
  | 0, _ => rfl
  | 1, _ => rfl
  | 2, _ => rfl
  | 3, _ => rfl
  | 4, _ => rfl
  | 5, _ => rfl
  | 6, _ => rfl
  | 7, _ => rfl
  | 8, _ => rfl
  | 9, _ => rfl
  | 10, _ => rfl
  | 11, _ => rfl
  | 12, _ => rfl
  | 13, _ => rfl
  | 14, _ => rfl
  | 15, _ => rfl
  | 16, _ => rfl
  | 17, _ => rfl
  | 18, _ => rfl
  | 19, _ => rfl
  | 20, _ => rfl
  | 21, _ => rfl
  | 22, _ => rfl
  | 23, _ => rfl
  | 24, _ => rfl
  | 25, _ => rfl
  | 26, _ => rfl
  | 27, _ => rfl
  | 28, _ => rfl
  | 29, _ => rfl
  | 30, _ => rfl
  | 31, _ => rfl
  | 32, _ => rfl
  | 33, _ => rfl
  | 34, _ => rfl
  | 35, _ => rfl
  | 36, _ => rfl
  | 37, _ => rfl
  | 38, _ => rfl
  | 39, _ => rfl
  | 40, _ => rfl
  | 41, _ => rfl
  | 42, _ => rfl
  | 43, _ => rfl
  | 44, _ => rfl
  | 45, _ => rfl
  | 46, _ => rfl
  | 47, _ => rfl
  | 48, _ => rfl
  | 49, _ => rfl
  | 50, _ => rfl
  | 51, _ => rfl
  | 52, _ => rfl
  | 53, _ => rfl
  | 54, _ => rfl
  | 55, _ => rfl
  | 56, _ => rfl
  | 57, _ => rfl
  | 58, _ => rfl
  | 59, _ => rfl
  | 60, _ => rfl
  | 61, _ => rfl
  | 62, _ => rfl
  | 63, _ => rfl
  | 64, _ => rfl
  | 65, _ => rfl
  | 66, _ => rfl
  | 67, _ => rfl
  | 68, _ => rfl
  | 69, _ => rfl
  | 70, _ => rfl
  | 71, _ => rfl
  | 72, _ => rfl
  | 73, _ => rfl
  | 74, _ => rfl
  | 75, _ => rfl
  | 76, _ => rfl
  | 77, _ => rfl
  | 78, _ => rfl
  | 79, _ => rfl
  | 80, _ => rfl
  | 81, _ => rfl
  | 82, _ => rfl
  | 83, _ => rfl
  | 84, _ => rfl
  | 85, _ => rfl
  | 86, _ => rfl
  | 87, _ => rfl
  | 88, _ => rfl
  | 89, _ => rfl
  | 90, _ => rfl
  | 91, _ => rfl
  | 92, _ => rfl
  | 93, _ => rfl
  | 94, _ => rfl
  | 95, _ => rfl
  | 96, _ => rfl
  | 97, _ => rfl
  | 98, _ => rfl
  | 99, _ => rfl
  | 100, _ => rfl
  | 101, _ => rfl
  | 102, _ => rfl
  | 103, _ => rfl
  | 104, _ => rfl
  | 105, _ => rfl
  | 106, _ => rfl
  | 107, _ => rfl
  | 108, _ => rfl
  | 109, _ => rfl
  | 110, _ => rfl
  | 111, _ => rfl
  | 112, _ => rfl
  | 113, _ => rfl
  | 114, _ => rfl
  | 115, _ => rfl
  | 116, _ => rfl
  | 117, _ => rfl
  | 118, _ => rfl
  | 119, _ => rfl
  | 120, _ => rfl
  | 121, _ => rfl
  | _ + 122, h => exact absurd h (by omega)
end Go.Proofs.YtbblokikhocdfaaDoor.S7
