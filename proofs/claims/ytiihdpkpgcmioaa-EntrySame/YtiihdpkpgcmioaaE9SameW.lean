/- The walk of EntrySame. -/
import Derived.Test.YtiihdpkpgcmioaaE9Head
import Derived.Test.YtiihdpkpgcmioaaE9Made
import Derived.Test.YtiihdpkpgcmioaaE9RSame
namespace Go.Proofs.Ytiihdpkpgcmioaa.E9
open Go.RowKit C8
def sm6 (CA CB : Array Value) (A B : En) (sm : Bool) : Nat → Value → World → Prop
  | 0 => IsV (.bool sm)
  | 1 => IsV (.agg CA)
  | 2 => EnsV A
  | 3 => IsV (.agg CB)
  | 4 => EnsV B
  | 5 => IsV (.bool sm)
  | 6 => IsV (.bool false)
  | _ => fun _ _ => True
theorem sm6_kept (CA CB : Array Value) (A B : En) (sm : Bool) : ∀ i v w w', sm6 CA CB A B sm i v w → Only [] w w' → sm6 CA CB A B sm i v w'
  | 0, _, _, _, h, _ => h
  | 1, _, _, _, h, _ => h
  | 2, _, _, _, h, ho => EnsV.kept h ho
  | 3, _, _, _, h, _ => h
  | 4, _, _, _, h, ho => EnsV.kept h ho
  | 5, _, _, _, h, _ => h
  | 6, _, _, _, h, _ => h
  | _ + 7, _, _, _, _, _ => trivial
theorem frame5 {A F : Array Value} (hs : A.size = 55) (h : ∀ t, [23, 24, 25, 26, 27, 28, 29].contains t = false → A.getD t undef = F.getD t undef) : A = #[F.getD 0 undef, F.getD 1 undef, F.getD 2 undef, F.getD 3 undef, F.getD 4 undef, F.getD 5 undef, F.getD 6 undef, F.getD 7 undef, F.getD 8 undef, F.getD 9 undef, F.getD 10 undef, F.getD 11 undef, F.getD 12 undef, F.getD 13 undef, F.getD 14 undef, F.getD 15 undef, F.getD 16 undef, F.getD 17 undef, F.getD 18 undef, F.getD 19 undef, F.getD 20 undef, F.getD 21 undef, F.getD 22 undef, A.getD 23 undef, A.getD 24 undef, A.getD 25 undef, A.getD 26 undef, A.getD 27 undef, A.getD 28 undef, A.getD 29 undef, F.getD 30 undef, F.getD 31 undef, F.getD 32 undef, F.getD 33 undef, F.getD 34 undef, F.getD 35 undef, F.getD 36 undef, F.getD 37 undef, F.getD 38 undef, F.getD 39 undef, F.getD 40 undef, F.getD 41 undef, F.getD 42 undef, F.getD 43 undef, F.getD 44 undef, F.getD 45 undef, F.getD 46 undef, F.getD 47 undef, F.getD 48 undef, F.getD 49 undef, F.getD 50 undef, F.getD 51 undef, F.getD 52 undef, F.getD 53 undef, F.getD 54 undef] := by
  rw [← h 0 (by decide), ← h 1 (by decide), ← h 2 (by decide), ← h 3 (by decide), ← h 4 (by decide), ← h 5 (by decide), ← h 6 (by decide), ← h 7 (by decide), ← h 8 (by decide), ← h 9 (by decide), ← h 10 (by decide), ← h 11 (by decide), ← h 12 (by decide), ← h 13 (by decide), ← h 14 (by decide), ← h 15 (by decide), ← h 16 (by decide), ← h 17 (by decide), ← h 18 (by decide), ← h 19 (by decide), ← h 20 (by decide), ← h 21 (by decide), ← h 22 (by decide), ← h 30 (by decide), ← h 31 (by decide), ← h 32 (by decide), ← h 33 (by decide), ← h 34 (by decide), ← h 35 (by decide), ← h 36 (by decide), ← h 37 (by decide), ← h 38 (by decide), ← h 39 (by decide), ← h 40 (by decide), ← h 41 (by decide), ← h 42 (by decide), ← h 43 (by decide), ← h 44 (by decide), ← h 45 (by decide), ← h 46 (by decide), ← h 47 (by decide), ← h 48 (by decide), ← h 49 (by decide), ← h 50 (by decide), ← h 51 (by decide), ← h 52 (by decide), ← h 53 (by decide), ← h 54 (by decide)]
  refine Array.ext (by simp [hs]) (fun i h1 h2 => ?_)
  have e : A[i] = A.getD i undef := by simp [h1]
  rw [e]
  rw [hs] at h1
  clear e h hs
  match i, h1 with
  | 0, _ => rfl
  | 1, _ => rfl
  | 2, _ => rfl
  | 3, _ => rfl
  | 4, _ => rfl
  | 5, _ => rfl
  | 6, _ => rfl
  | 7, _ => rfl
  | 8, _ => rfl
  | 9, _ => rfl
  | 10, _ => rfl
  | 11, _ => rfl
  | 12, _ => rfl
  | 13, _ => rfl
  | 14, _ => rfl
  | 15, _ => rfl
  | 16, _ => rfl
  | 17, _ => rfl
  | 18, _ => rfl
  | 19, _ => rfl
  | 20, _ => rfl
  | 21, _ => rfl
  | 22, _ => rfl
  | 23, _ => rfl
  | 24, _ => rfl
  | 25, _ => rfl
  | 26, _ => rfl
  | 27, _ => rfl
  | 28, _ => rfl
  | 29, _ => rfl
  | 30, _ => rfl
  | 31, _ => rfl
  | 32, _ => rfl
  | 33, _ => rfl
  | 34, _ => rfl
  | 35, _ => rfl
  | 36, _ => rfl
  | 37, _ => rfl
  | 38, _ => rfl
  | 39, _ => rfl
  | 40, _ => rfl
  | 41, _ => rfl
  | 42, _ => rfl
  | 43, _ => rfl
  | 44, _ => rfl
  | 45, _ => rfl
  | 46, _ => rfl
  | 47, _ => rfl
  | 48, _ => rfl
  | 49, _ => rfl
  | 50, _ => rfl
  | 51, _ => rfl
  | 52, _ => rfl
  | 53, _ => rfl
  | 54, _ => rfl
  | _ + 55, h => exact absurd h (by omega)
set_option maxHeartbeats 4000000 in
theorem same_e1 (a b : En) (va vb : Value) (w : World) (ha : EnIs w va a) (hb : EnIs w vb b) (hs : small a = false) : Calls Try.prog 5 #[va, vb] w fun e w' => e = .returned (.bool true) ∧ Below w.heap.size w w' := by
  have hA := ha
  have hB := hb
  obtain ⟨np, nc, vp, vc, q, c, rfl, -⟩ := ha
  obtain ⟨np', nc', vp', vc', q', c', rfl, -⟩ := hb
  have HEA : Hid (∀ W, Below w.heap.size w W → EnIs W (.agg (EnV a np nc vp vc q c)) a) := fun W h => hA.below h
  have HEB : Hid (∀ W, Below w.heap.size w W → EnIs W (.agg (EnV b np' nc' vp' vc' q' c')) b) := fun W h => hB.below h
  have HC9 : ∀ W, Hid (St9 w W w.heap.size (EnV a np nc vp vc q c) ∧ St9 w W (w.heap.size + 1) (EnV b np' nc' vp' vc' q' c')) → Calls Try.prog 9 #[] W fun e w' => e = .returned (.bool true) ∧ Hid (St9 w w' w.heap.size (EnV a np nc vp vc q c) ∧ St9 w w' (w.heap.size + 1) (EnV b np' nc' vp' vc' q' c')) ∧ w'.cell? ⟨w.heap.size, 0, none⟩ = some (.int .i64 a.kind) ∧ w'.cell? ⟨w.heap.size, 1, none⟩ = some (.int .i64 a.writer) ∧ w'.cell? ⟨w.heap.size, 2, none⟩ = some (.int .i64 a.seq) ∧ w'.cell? ⟨w.heap.size, 3, none⟩ = some (.slice np a.name.length nc) ∧ w'.cell? ⟨w.heap.size, 4, none⟩ = some (.slice vp a.value.length vc) ∧ w'.cell? ⟨w.heap.size, 5, none⟩ = some (.int .i64 a.who) ∧ w'.cell? ⟨w.heap.size, 6, none⟩ = some (.int .i64 a.rights) ∧ w'.cell? ⟨w.heap.size, 7, none⟩ = some (.int .i64 a.epoch) ∧ w'.cell? ⟨w.heap.size, 8, none⟩ = some (.slice q a.wraps.length c) ∧ w'.cell? ⟨(w.heap.size + 1), 0, none⟩ = some (.int .i64 b.kind) ∧ w'.cell? ⟨(w.heap.size + 1), 1, none⟩ = some (.int .i64 b.writer) ∧ w'.cell? ⟨(w.heap.size + 1), 2, none⟩ = some (.int .i64 b.seq) ∧ w'.cell? ⟨(w.heap.size + 1), 3, none⟩ = some (.slice np' b.name.length nc') ∧ w'.cell? ⟨(w.heap.size + 1), 4, none⟩ = some (.slice vp' b.value.length vc') ∧ w'.cell? ⟨(w.heap.size + 1), 5, none⟩ = some (.int .i64 b.who) ∧ w'.cell? ⟨(w.heap.size + 1), 6, none⟩ = some (.int .i64 b.rights) ∧ w'.cell? ⟨(w.heap.size + 1), 7, none⟩ = some (.int .i64 b.epoch) ∧ w'.cell? ⟨(w.heap.size + 1), 8, none⟩ = some (.slice q' b.wraps.length c') := fun W h => (anchor_any W).mono (by rintro e w' ⟨rfl, hb⟩; exact ⟨rfl, ⟨h.out.1.step hb, h.out.2.step hb⟩, (h.out.1.step hb).cells.1, (h.out.1.step hb).cells.2.1, (h.out.1.step hb).cells.2.2.1, (h.out.1.step hb).cells.2.2.2.1, (h.out.1.step hb).cells.2.2.2.2.1, (h.out.1.step hb).cells.2.2.2.2.2.1, (h.out.1.step hb).cells.2.2.2.2.2.2.1, (h.out.1.step hb).cells.2.2.2.2.2.2.2.1, (h.out.1.step hb).cells.2.2.2.2.2.2.2.2, (h.out.2.step hb).cells⟩)
  have HCA : ∀ W, Hid (St9 w W w.heap.size (EnV a np nc vp vc q c) ∧ St9 w W (w.heap.size + 1) (EnV b np' nc' vp' vc' q' c')) → Calls Try.prog 10 #[.agg (EnV a np nc vp vc q c)] W fun e w' => e = .returned (.bool (small a)) ∧ Hid (St9 w w' w.heap.size (EnV a np nc vp vc q c) ∧ St9 w w' (w.heap.size + 1) (EnV b np' nc' vp' vc' q' c')) ∧ w'.cell? ⟨w.heap.size, 0, none⟩ = some (.int .i64 a.kind) ∧ w'.cell? ⟨w.heap.size, 1, none⟩ = some (.int .i64 a.writer) ∧ w'.cell? ⟨w.heap.size, 2, none⟩ = some (.int .i64 a.seq) ∧ w'.cell? ⟨w.heap.size, 3, none⟩ = some (.slice np a.name.length nc) ∧ w'.cell? ⟨w.heap.size, 4, none⟩ = some (.slice vp a.value.length vc) ∧ w'.cell? ⟨w.heap.size, 5, none⟩ = some (.int .i64 a.who) ∧ w'.cell? ⟨w.heap.size, 6, none⟩ = some (.int .i64 a.rights) ∧ w'.cell? ⟨w.heap.size, 7, none⟩ = some (.int .i64 a.epoch) ∧ w'.cell? ⟨w.heap.size, 8, none⟩ = some (.slice q a.wraps.length c) ∧ w'.cell? ⟨(w.heap.size + 1), 0, none⟩ = some (.int .i64 b.kind) ∧ w'.cell? ⟨(w.heap.size + 1), 1, none⟩ = some (.int .i64 b.writer) ∧ w'.cell? ⟨(w.heap.size + 1), 2, none⟩ = some (.int .i64 b.seq) ∧ w'.cell? ⟨(w.heap.size + 1), 3, none⟩ = some (.slice np' b.name.length nc') ∧ w'.cell? ⟨(w.heap.size + 1), 4, none⟩ = some (.slice vp' b.value.length vc') ∧ w'.cell? ⟨(w.heap.size + 1), 5, none⟩ = some (.int .i64 b.who) ∧ w'.cell? ⟨(w.heap.size + 1), 6, none⟩ = some (.int .i64 b.rights) ∧ w'.cell? ⟨(w.heap.size + 1), 7, none⟩ = some (.int .i64 b.epoch) ∧ w'.cell? ⟨(w.heap.size + 1), 8, none⟩ = some (.slice q' b.wraps.length c') := fun W h => (small_any a _ W (HEA.out W h.out.1.bel)).mono (by rintro e w' ⟨rfl, hb⟩; exact ⟨rfl, ⟨h.out.1.step hb, h.out.2.step hb⟩, (h.out.1.step hb).cells.1, (h.out.1.step hb).cells.2.1, (h.out.1.step hb).cells.2.2.1, (h.out.1.step hb).cells.2.2.2.1, (h.out.1.step hb).cells.2.2.2.2.1, (h.out.1.step hb).cells.2.2.2.2.2.1, (h.out.1.step hb).cells.2.2.2.2.2.2.1, (h.out.1.step hb).cells.2.2.2.2.2.2.2.1, (h.out.1.step hb).cells.2.2.2.2.2.2.2.2, (h.out.2.step hb).cells⟩)
  have HCB : ∀ W, Hid (St9 w W w.heap.size (EnV a np nc vp vc q c) ∧ St9 w W (w.heap.size + 1) (EnV b np' nc' vp' vc' q' c')) → Calls Try.prog 10 #[.agg (EnV b np' nc' vp' vc' q' c')] W fun e w' => e = .returned (.bool (small b)) ∧ Hid (St9 w w' w.heap.size (EnV a np nc vp vc q c) ∧ St9 w w' (w.heap.size + 1) (EnV b np' nc' vp' vc' q' c')) ∧ w'.cell? ⟨w.heap.size, 0, none⟩ = some (.int .i64 a.kind) ∧ w'.cell? ⟨w.heap.size, 1, none⟩ = some (.int .i64 a.writer) ∧ w'.cell? ⟨w.heap.size, 2, none⟩ = some (.int .i64 a.seq) ∧ w'.cell? ⟨w.heap.size, 3, none⟩ = some (.slice np a.name.length nc) ∧ w'.cell? ⟨w.heap.size, 4, none⟩ = some (.slice vp a.value.length vc) ∧ w'.cell? ⟨w.heap.size, 5, none⟩ = some (.int .i64 a.who) ∧ w'.cell? ⟨w.heap.size, 6, none⟩ = some (.int .i64 a.rights) ∧ w'.cell? ⟨w.heap.size, 7, none⟩ = some (.int .i64 a.epoch) ∧ w'.cell? ⟨w.heap.size, 8, none⟩ = some (.slice q a.wraps.length c) ∧ w'.cell? ⟨(w.heap.size + 1), 0, none⟩ = some (.int .i64 b.kind) ∧ w'.cell? ⟨(w.heap.size + 1), 1, none⟩ = some (.int .i64 b.writer) ∧ w'.cell? ⟨(w.heap.size + 1), 2, none⟩ = some (.int .i64 b.seq) ∧ w'.cell? ⟨(w.heap.size + 1), 3, none⟩ = some (.slice np' b.name.length nc') ∧ w'.cell? ⟨(w.heap.size + 1), 4, none⟩ = some (.slice vp' b.value.length vc') ∧ w'.cell? ⟨(w.heap.size + 1), 5, none⟩ = some (.int .i64 b.who) ∧ w'.cell? ⟨(w.heap.size + 1), 6, none⟩ = some (.int .i64 b.rights) ∧ w'.cell? ⟨(w.heap.size + 1), 7, none⟩ = some (.int .i64 b.epoch) ∧ w'.cell? ⟨(w.heap.size + 1), 8, none⟩ = some (.slice q' b.wraps.length c') := fun W h => (small_any b _ W (HEB.out W h.out.1.bel)).mono (by rintro e w' ⟨rfl, hb⟩; exact ⟨rfl, ⟨h.out.1.step hb, h.out.2.step hb⟩, (h.out.1.step hb).cells.1, (h.out.1.step hb).cells.2.1, (h.out.1.step hb).cells.2.2.1, (h.out.1.step hb).cells.2.2.2.1, (h.out.1.step hb).cells.2.2.2.2.1, (h.out.1.step hb).cells.2.2.2.2.2.1, (h.out.1.step hb).cells.2.2.2.2.2.2.1, (h.out.1.step hb).cells.2.2.2.2.2.2.2.1, (h.out.1.step hb).cells.2.2.2.2.2.2.2.2, (h.out.2.step hb).cells⟩)
  have HS0 : Hid (St9 w ((w.alloc (.cells (EnV a np nc vp vc q c) 25)).alloc (.cells (EnV b np' nc' vp' vc' q' c') 25)) w.heap.size (EnV a np nc vp vc q c) ∧ St9 w ((w.alloc (.cells (EnV a np nc vp vc q c) 25)).alloc (.cells (EnV b np' nc' vp' vc' q' c') 25)) (w.heap.size + 1) (EnV b np' nc' vp' vc' q' c')) := ⟨⟨(bel_alloc (Nat.le_refl _) _).trans (bel_alloc (by simp) _), heap_alloc2_old w _ _⟩, ⟨(bel_alloc (Nat.le_refl _) _).trans (bel_alloc (by simp) _), heap_alloc2_new w _ _⟩⟩
  clear hA hB HEA HEB HCB
  rw [hs] at HCA
  clear hs
  obtain ⟨a1, a2, a3, a4, a5, a6, a7, a8, a9⟩ := a
  obtain ⟨b1, b2, b3, b4, b5, b6, b7, b8, b9⟩ := b
  simp only [EnV] at HC9 HCA HS0 ⊢
  generalize a4.length = la4 at *
  generalize b4.length = lb4 at *
  generalize a5.length = la5 at *
  generalize b5.length = lb5 at *
  generalize a9.length = la9 at *
  generalize b9.length = lb9 at *
  go_enter Try.func5, Try.ntmps5
  go_wp2_with (first | (go_at_call 9; refine (HC9 _ HS0).mono ?_; rintro e w1 ⟨rfl, S1, d0, d1, d2, d3, d4, d5, d6, d7, d8, e0, e1, e2, e3, e4, e5, e6, e7, e8⟩) | (go_at_call 10; with_reducible refine (HCA _ S1).mono ?_; rintro e w2 ⟨rfl, S2, f0, f1, f2, f3, f4, f5, f6, f7, f8, g0, g1, g2, g3, g4, g5, g6, g7, g8⟩))
  go_ret
  exact ⟨rfl, S2.out.1.bel⟩
set_option maxHeartbeats 4000000 in
theorem same_e2 (a b : En) (va vb : Value) (w : World) (ha : EnIs w va a) (hb : EnIs w vb b) (hs : small a = true) (hs2 : small b = false) : Calls Try.prog 5 #[va, vb] w fun e w' => e = .returned (.bool true) ∧ Below w.heap.size w w' := by
  have hA := ha
  have hB := hb
  obtain ⟨np, nc, vp, vc, q, c, rfl, -⟩ := ha
  obtain ⟨np', nc', vp', vc', q', c', rfl, -⟩ := hb
  have HEA : Hid (∀ W, Below w.heap.size w W → EnIs W (.agg (EnV a np nc vp vc q c)) a) := fun W h => hA.below h
  have HEB : Hid (∀ W, Below w.heap.size w W → EnIs W (.agg (EnV b np' nc' vp' vc' q' c')) b) := fun W h => hB.below h
  have HC9 : ∀ W, Hid (St9 w W w.heap.size (EnV a np nc vp vc q c) ∧ St9 w W (w.heap.size + 1) (EnV b np' nc' vp' vc' q' c')) → Calls Try.prog 9 #[] W fun e w' => e = .returned (.bool true) ∧ Hid (St9 w w' w.heap.size (EnV a np nc vp vc q c) ∧ St9 w w' (w.heap.size + 1) (EnV b np' nc' vp' vc' q' c')) ∧ w'.cell? ⟨w.heap.size, 0, none⟩ = some (.int .i64 a.kind) ∧ w'.cell? ⟨w.heap.size, 1, none⟩ = some (.int .i64 a.writer) ∧ w'.cell? ⟨w.heap.size, 2, none⟩ = some (.int .i64 a.seq) ∧ w'.cell? ⟨w.heap.size, 3, none⟩ = some (.slice np a.name.length nc) ∧ w'.cell? ⟨w.heap.size, 4, none⟩ = some (.slice vp a.value.length vc) ∧ w'.cell? ⟨w.heap.size, 5, none⟩ = some (.int .i64 a.who) ∧ w'.cell? ⟨w.heap.size, 6, none⟩ = some (.int .i64 a.rights) ∧ w'.cell? ⟨w.heap.size, 7, none⟩ = some (.int .i64 a.epoch) ∧ w'.cell? ⟨w.heap.size, 8, none⟩ = some (.slice q a.wraps.length c) ∧ w'.cell? ⟨(w.heap.size + 1), 0, none⟩ = some (.int .i64 b.kind) ∧ w'.cell? ⟨(w.heap.size + 1), 1, none⟩ = some (.int .i64 b.writer) ∧ w'.cell? ⟨(w.heap.size + 1), 2, none⟩ = some (.int .i64 b.seq) ∧ w'.cell? ⟨(w.heap.size + 1), 3, none⟩ = some (.slice np' b.name.length nc') ∧ w'.cell? ⟨(w.heap.size + 1), 4, none⟩ = some (.slice vp' b.value.length vc') ∧ w'.cell? ⟨(w.heap.size + 1), 5, none⟩ = some (.int .i64 b.who) ∧ w'.cell? ⟨(w.heap.size + 1), 6, none⟩ = some (.int .i64 b.rights) ∧ w'.cell? ⟨(w.heap.size + 1), 7, none⟩ = some (.int .i64 b.epoch) ∧ w'.cell? ⟨(w.heap.size + 1), 8, none⟩ = some (.slice q' b.wraps.length c') := fun W h => (anchor_any W).mono (by rintro e w' ⟨rfl, hb⟩; exact ⟨rfl, ⟨h.out.1.step hb, h.out.2.step hb⟩, (h.out.1.step hb).cells.1, (h.out.1.step hb).cells.2.1, (h.out.1.step hb).cells.2.2.1, (h.out.1.step hb).cells.2.2.2.1, (h.out.1.step hb).cells.2.2.2.2.1, (h.out.1.step hb).cells.2.2.2.2.2.1, (h.out.1.step hb).cells.2.2.2.2.2.2.1, (h.out.1.step hb).cells.2.2.2.2.2.2.2.1, (h.out.1.step hb).cells.2.2.2.2.2.2.2.2, (h.out.2.step hb).cells⟩)
  have HCA : ∀ W, Hid (St9 w W w.heap.size (EnV a np nc vp vc q c) ∧ St9 w W (w.heap.size + 1) (EnV b np' nc' vp' vc' q' c')) → Calls Try.prog 10 #[.agg (EnV a np nc vp vc q c)] W fun e w' => e = .returned (.bool (small a)) ∧ Hid (St9 w w' w.heap.size (EnV a np nc vp vc q c) ∧ St9 w w' (w.heap.size + 1) (EnV b np' nc' vp' vc' q' c')) ∧ w'.cell? ⟨w.heap.size, 0, none⟩ = some (.int .i64 a.kind) ∧ w'.cell? ⟨w.heap.size, 1, none⟩ = some (.int .i64 a.writer) ∧ w'.cell? ⟨w.heap.size, 2, none⟩ = some (.int .i64 a.seq) ∧ w'.cell? ⟨w.heap.size, 3, none⟩ = some (.slice np a.name.length nc) ∧ w'.cell? ⟨w.heap.size, 4, none⟩ = some (.slice vp a.value.length vc) ∧ w'.cell? ⟨w.heap.size, 5, none⟩ = some (.int .i64 a.who) ∧ w'.cell? ⟨w.heap.size, 6, none⟩ = some (.int .i64 a.rights) ∧ w'.cell? ⟨w.heap.size, 7, none⟩ = some (.int .i64 a.epoch) ∧ w'.cell? ⟨w.heap.size, 8, none⟩ = some (.slice q a.wraps.length c) ∧ w'.cell? ⟨(w.heap.size + 1), 0, none⟩ = some (.int .i64 b.kind) ∧ w'.cell? ⟨(w.heap.size + 1), 1, none⟩ = some (.int .i64 b.writer) ∧ w'.cell? ⟨(w.heap.size + 1), 2, none⟩ = some (.int .i64 b.seq) ∧ w'.cell? ⟨(w.heap.size + 1), 3, none⟩ = some (.slice np' b.name.length nc') ∧ w'.cell? ⟨(w.heap.size + 1), 4, none⟩ = some (.slice vp' b.value.length vc') ∧ w'.cell? ⟨(w.heap.size + 1), 5, none⟩ = some (.int .i64 b.who) ∧ w'.cell? ⟨(w.heap.size + 1), 6, none⟩ = some (.int .i64 b.rights) ∧ w'.cell? ⟨(w.heap.size + 1), 7, none⟩ = some (.int .i64 b.epoch) ∧ w'.cell? ⟨(w.heap.size + 1), 8, none⟩ = some (.slice q' b.wraps.length c') := fun W h => (small_any a _ W (HEA.out W h.out.1.bel)).mono (by rintro e w' ⟨rfl, hb⟩; exact ⟨rfl, ⟨h.out.1.step hb, h.out.2.step hb⟩, (h.out.1.step hb).cells.1, (h.out.1.step hb).cells.2.1, (h.out.1.step hb).cells.2.2.1, (h.out.1.step hb).cells.2.2.2.1, (h.out.1.step hb).cells.2.2.2.2.1, (h.out.1.step hb).cells.2.2.2.2.2.1, (h.out.1.step hb).cells.2.2.2.2.2.2.1, (h.out.1.step hb).cells.2.2.2.2.2.2.2.1, (h.out.1.step hb).cells.2.2.2.2.2.2.2.2, (h.out.2.step hb).cells⟩)
  have HCB : ∀ W, Hid (St9 w W w.heap.size (EnV a np nc vp vc q c) ∧ St9 w W (w.heap.size + 1) (EnV b np' nc' vp' vc' q' c')) → Calls Try.prog 10 #[.agg (EnV b np' nc' vp' vc' q' c')] W fun e w' => e = .returned (.bool (small b)) ∧ Hid (St9 w w' w.heap.size (EnV a np nc vp vc q c) ∧ St9 w w' (w.heap.size + 1) (EnV b np' nc' vp' vc' q' c')) ∧ w'.cell? ⟨w.heap.size, 0, none⟩ = some (.int .i64 a.kind) ∧ w'.cell? ⟨w.heap.size, 1, none⟩ = some (.int .i64 a.writer) ∧ w'.cell? ⟨w.heap.size, 2, none⟩ = some (.int .i64 a.seq) ∧ w'.cell? ⟨w.heap.size, 3, none⟩ = some (.slice np a.name.length nc) ∧ w'.cell? ⟨w.heap.size, 4, none⟩ = some (.slice vp a.value.length vc) ∧ w'.cell? ⟨w.heap.size, 5, none⟩ = some (.int .i64 a.who) ∧ w'.cell? ⟨w.heap.size, 6, none⟩ = some (.int .i64 a.rights) ∧ w'.cell? ⟨w.heap.size, 7, none⟩ = some (.int .i64 a.epoch) ∧ w'.cell? ⟨w.heap.size, 8, none⟩ = some (.slice q a.wraps.length c) ∧ w'.cell? ⟨(w.heap.size + 1), 0, none⟩ = some (.int .i64 b.kind) ∧ w'.cell? ⟨(w.heap.size + 1), 1, none⟩ = some (.int .i64 b.writer) ∧ w'.cell? ⟨(w.heap.size + 1), 2, none⟩ = some (.int .i64 b.seq) ∧ w'.cell? ⟨(w.heap.size + 1), 3, none⟩ = some (.slice np' b.name.length nc') ∧ w'.cell? ⟨(w.heap.size + 1), 4, none⟩ = some (.slice vp' b.value.length vc') ∧ w'.cell? ⟨(w.heap.size + 1), 5, none⟩ = some (.int .i64 b.who) ∧ w'.cell? ⟨(w.heap.size + 1), 6, none⟩ = some (.int .i64 b.rights) ∧ w'.cell? ⟨(w.heap.size + 1), 7, none⟩ = some (.int .i64 b.epoch) ∧ w'.cell? ⟨(w.heap.size + 1), 8, none⟩ = some (.slice q' b.wraps.length c') := fun W h => (small_any b _ W (HEB.out W h.out.1.bel)).mono (by rintro e w' ⟨rfl, hb⟩; exact ⟨rfl, ⟨h.out.1.step hb, h.out.2.step hb⟩, (h.out.1.step hb).cells.1, (h.out.1.step hb).cells.2.1, (h.out.1.step hb).cells.2.2.1, (h.out.1.step hb).cells.2.2.2.1, (h.out.1.step hb).cells.2.2.2.2.1, (h.out.1.step hb).cells.2.2.2.2.2.1, (h.out.1.step hb).cells.2.2.2.2.2.2.1, (h.out.1.step hb).cells.2.2.2.2.2.2.2.1, (h.out.1.step hb).cells.2.2.2.2.2.2.2.2, (h.out.2.step hb).cells⟩)
  have HS0 : Hid (St9 w ((w.alloc (.cells (EnV a np nc vp vc q c) 25)).alloc (.cells (EnV b np' nc' vp' vc' q' c') 25)) w.heap.size (EnV a np nc vp vc q c) ∧ St9 w ((w.alloc (.cells (EnV a np nc vp vc q c) 25)).alloc (.cells (EnV b np' nc' vp' vc' q' c') 25)) (w.heap.size + 1) (EnV b np' nc' vp' vc' q' c')) := ⟨⟨(bel_alloc (Nat.le_refl _) _).trans (bel_alloc (by simp) _), heap_alloc2_old w _ _⟩, ⟨(bel_alloc (Nat.le_refl _) _).trans (bel_alloc (by simp) _), heap_alloc2_new w _ _⟩⟩
  clear hA hB HEA HEB
  rw [hs] at HCA
  rw [hs2] at HCB
  clear hs hs2
  obtain ⟨a1, a2, a3, a4, a5, a6, a7, a8, a9⟩ := a
  obtain ⟨b1, b2, b3, b4, b5, b6, b7, b8, b9⟩ := b
  simp only [EnV] at HC9 HCA HCB HS0 ⊢
  generalize a4.length = la4 at *
  generalize b4.length = lb4 at *
  generalize a5.length = la5 at *
  generalize b5.length = lb5 at *
  generalize a9.length = la9 at *
  generalize b9.length = lb9 at *
  go_enter Try.func5, Try.ntmps5
  go_wp2_with (first | (go_at_call 9; refine (HC9 _ HS0).mono ?_; rintro e w1 ⟨rfl, S1, d0, d1, d2, d3, d4, d5, d6, d7, d8, e0, e1, e2, e3, e4, e5, e6, e7, e8⟩) | (go_at_call 10; with_reducible refine (HCA _ S1).mono ?_; rintro e w2 ⟨rfl, S2, f0, f1, f2, f3, f4, f5, f6, f7, f8, g0, g1, g2, g3, g4, g5, g6, g7, g8⟩) | (go_at_call 10; with_reducible refine (HCB _ S2).mono ?_; rintro e w3 ⟨rfl, S3, h0, h1, h2, h3, h4, h5, h6, h7, h8, i0, i1, i2, i3, i4, i5, i6, i7, i8⟩))
  go_ret
  exact ⟨rfl, S3.out.1.bel⟩
/-- What two encodings tell in the end. -/
def EncA (a : En) (er : Int) : Prop := (right a = true → er = 0) ∧ (right a = false → er = 10)
set_option maxHeartbeats 8000000 in
theorem same_main (a b : En) (va vb : Value) (w : World) (ha : EnIs w va a) (hb : EnIs w vb b) (hs : small a = true) (hs2 : small b = true) : Calls Try.prog 5 #[va, vb] w fun e w' => e = .returned (.bool true) ∧ Below w.heap.size w w' := by
  have hA := ha
  have hB := hb
  obtain ⟨np, nc, vp, vc, q, c, rfl, -⟩ := ha
  obtain ⟨np', nc', vp', vc', q', c', rfl, -⟩ := hb
  have HEA : Hid (∀ W, Below w.heap.size w W → EnIs W (.agg (EnV a np nc vp vc q c)) a) := fun W h => hA.below h
  have HEB : Hid (∀ W, Below w.heap.size w W → EnIs W (.agg (EnV b np' nc' vp' vc' q' c')) b) := fun W h => hB.below h
  have HC9 : ∀ W, Hid (St9 w W w.heap.size (EnV a np nc vp vc q c) ∧ St9 w W (w.heap.size + 1) (EnV b np' nc' vp' vc' q' c')) → Calls Try.prog 9 #[] W fun e w' => e = .returned (.bool true) ∧ Hid (St9 w w' w.heap.size (EnV a np nc vp vc q c) ∧ St9 w w' (w.heap.size + 1) (EnV b np' nc' vp' vc' q' c')) ∧ w'.cell? ⟨w.heap.size, 0, none⟩ = some (.int .i64 a.kind) ∧ w'.cell? ⟨w.heap.size, 1, none⟩ = some (.int .i64 a.writer) ∧ w'.cell? ⟨w.heap.size, 2, none⟩ = some (.int .i64 a.seq) ∧ w'.cell? ⟨w.heap.size, 3, none⟩ = some (.slice np a.name.length nc) ∧ w'.cell? ⟨w.heap.size, 4, none⟩ = some (.slice vp a.value.length vc) ∧ w'.cell? ⟨w.heap.size, 5, none⟩ = some (.int .i64 a.who) ∧ w'.cell? ⟨w.heap.size, 6, none⟩ = some (.int .i64 a.rights) ∧ w'.cell? ⟨w.heap.size, 7, none⟩ = some (.int .i64 a.epoch) ∧ w'.cell? ⟨w.heap.size, 8, none⟩ = some (.slice q a.wraps.length c) ∧ w'.cell? ⟨(w.heap.size + 1), 0, none⟩ = some (.int .i64 b.kind) ∧ w'.cell? ⟨(w.heap.size + 1), 1, none⟩ = some (.int .i64 b.writer) ∧ w'.cell? ⟨(w.heap.size + 1), 2, none⟩ = some (.int .i64 b.seq) ∧ w'.cell? ⟨(w.heap.size + 1), 3, none⟩ = some (.slice np' b.name.length nc') ∧ w'.cell? ⟨(w.heap.size + 1), 4, none⟩ = some (.slice vp' b.value.length vc') ∧ w'.cell? ⟨(w.heap.size + 1), 5, none⟩ = some (.int .i64 b.who) ∧ w'.cell? ⟨(w.heap.size + 1), 6, none⟩ = some (.int .i64 b.rights) ∧ w'.cell? ⟨(w.heap.size + 1), 7, none⟩ = some (.int .i64 b.epoch) ∧ w'.cell? ⟨(w.heap.size + 1), 8, none⟩ = some (.slice q' b.wraps.length c') := fun W h => (anchor_any W).mono (by rintro e w' ⟨rfl, hb⟩; exact ⟨rfl, ⟨h.out.1.step hb, h.out.2.step hb⟩, (h.out.1.step hb).cells.1, (h.out.1.step hb).cells.2.1, (h.out.1.step hb).cells.2.2.1, (h.out.1.step hb).cells.2.2.2.1, (h.out.1.step hb).cells.2.2.2.2.1, (h.out.1.step hb).cells.2.2.2.2.2.1, (h.out.1.step hb).cells.2.2.2.2.2.2.1, (h.out.1.step hb).cells.2.2.2.2.2.2.2.1, (h.out.1.step hb).cells.2.2.2.2.2.2.2.2, (h.out.2.step hb).cells⟩)
  have HCA : ∀ W, Hid (St9 w W w.heap.size (EnV a np nc vp vc q c) ∧ St9 w W (w.heap.size + 1) (EnV b np' nc' vp' vc' q' c')) → Calls Try.prog 10 #[.agg (EnV a np nc vp vc q c)] W fun e w' => e = .returned (.bool (small a)) ∧ Hid (St9 w w' w.heap.size (EnV a np nc vp vc q c) ∧ St9 w w' (w.heap.size + 1) (EnV b np' nc' vp' vc' q' c')) ∧ w'.cell? ⟨w.heap.size, 0, none⟩ = some (.int .i64 a.kind) ∧ w'.cell? ⟨w.heap.size, 1, none⟩ = some (.int .i64 a.writer) ∧ w'.cell? ⟨w.heap.size, 2, none⟩ = some (.int .i64 a.seq) ∧ w'.cell? ⟨w.heap.size, 3, none⟩ = some (.slice np a.name.length nc) ∧ w'.cell? ⟨w.heap.size, 4, none⟩ = some (.slice vp a.value.length vc) ∧ w'.cell? ⟨w.heap.size, 5, none⟩ = some (.int .i64 a.who) ∧ w'.cell? ⟨w.heap.size, 6, none⟩ = some (.int .i64 a.rights) ∧ w'.cell? ⟨w.heap.size, 7, none⟩ = some (.int .i64 a.epoch) ∧ w'.cell? ⟨w.heap.size, 8, none⟩ = some (.slice q a.wraps.length c) ∧ w'.cell? ⟨(w.heap.size + 1), 0, none⟩ = some (.int .i64 b.kind) ∧ w'.cell? ⟨(w.heap.size + 1), 1, none⟩ = some (.int .i64 b.writer) ∧ w'.cell? ⟨(w.heap.size + 1), 2, none⟩ = some (.int .i64 b.seq) ∧ w'.cell? ⟨(w.heap.size + 1), 3, none⟩ = some (.slice np' b.name.length nc') ∧ w'.cell? ⟨(w.heap.size + 1), 4, none⟩ = some (.slice vp' b.value.length vc') ∧ w'.cell? ⟨(w.heap.size + 1), 5, none⟩ = some (.int .i64 b.who) ∧ w'.cell? ⟨(w.heap.size + 1), 6, none⟩ = some (.int .i64 b.rights) ∧ w'.cell? ⟨(w.heap.size + 1), 7, none⟩ = some (.int .i64 b.epoch) ∧ w'.cell? ⟨(w.heap.size + 1), 8, none⟩ = some (.slice q' b.wraps.length c') := fun W h => (small_any a _ W (HEA.out W h.out.1.bel)).mono (by rintro e w' ⟨rfl, hb⟩; exact ⟨rfl, ⟨h.out.1.step hb, h.out.2.step hb⟩, (h.out.1.step hb).cells.1, (h.out.1.step hb).cells.2.1, (h.out.1.step hb).cells.2.2.1, (h.out.1.step hb).cells.2.2.2.1, (h.out.1.step hb).cells.2.2.2.2.1, (h.out.1.step hb).cells.2.2.2.2.2.1, (h.out.1.step hb).cells.2.2.2.2.2.2.1, (h.out.1.step hb).cells.2.2.2.2.2.2.2.1, (h.out.1.step hb).cells.2.2.2.2.2.2.2.2, (h.out.2.step hb).cells⟩)
  have HCB : ∀ W, Hid (St9 w W w.heap.size (EnV a np nc vp vc q c) ∧ St9 w W (w.heap.size + 1) (EnV b np' nc' vp' vc' q' c')) → Calls Try.prog 10 #[.agg (EnV b np' nc' vp' vc' q' c')] W fun e w' => e = .returned (.bool (small b)) ∧ Hid (St9 w w' w.heap.size (EnV a np nc vp vc q c) ∧ St9 w w' (w.heap.size + 1) (EnV b np' nc' vp' vc' q' c')) ∧ w'.cell? ⟨w.heap.size, 0, none⟩ = some (.int .i64 a.kind) ∧ w'.cell? ⟨w.heap.size, 1, none⟩ = some (.int .i64 a.writer) ∧ w'.cell? ⟨w.heap.size, 2, none⟩ = some (.int .i64 a.seq) ∧ w'.cell? ⟨w.heap.size, 3, none⟩ = some (.slice np a.name.length nc) ∧ w'.cell? ⟨w.heap.size, 4, none⟩ = some (.slice vp a.value.length vc) ∧ w'.cell? ⟨w.heap.size, 5, none⟩ = some (.int .i64 a.who) ∧ w'.cell? ⟨w.heap.size, 6, none⟩ = some (.int .i64 a.rights) ∧ w'.cell? ⟨w.heap.size, 7, none⟩ = some (.int .i64 a.epoch) ∧ w'.cell? ⟨w.heap.size, 8, none⟩ = some (.slice q a.wraps.length c) ∧ w'.cell? ⟨(w.heap.size + 1), 0, none⟩ = some (.int .i64 b.kind) ∧ w'.cell? ⟨(w.heap.size + 1), 1, none⟩ = some (.int .i64 b.writer) ∧ w'.cell? ⟨(w.heap.size + 1), 2, none⟩ = some (.int .i64 b.seq) ∧ w'.cell? ⟨(w.heap.size + 1), 3, none⟩ = some (.slice np' b.name.length nc') ∧ w'.cell? ⟨(w.heap.size + 1), 4, none⟩ = some (.slice vp' b.value.length vc') ∧ w'.cell? ⟨(w.heap.size + 1), 5, none⟩ = some (.int .i64 b.who) ∧ w'.cell? ⟨(w.heap.size + 1), 6, none⟩ = some (.int .i64 b.rights) ∧ w'.cell? ⟨(w.heap.size + 1), 7, none⟩ = some (.int .i64 b.epoch) ∧ w'.cell? ⟨(w.heap.size + 1), 8, none⟩ = some (.slice q' b.wraps.length c') := fun W h => (small_any b _ W (HEB.out W h.out.1.bel)).mono (by rintro e w' ⟨rfl, hb⟩; exact ⟨rfl, ⟨h.out.1.step hb, h.out.2.step hb⟩, (h.out.1.step hb).cells.1, (h.out.1.step hb).cells.2.1, (h.out.1.step hb).cells.2.2.1, (h.out.1.step hb).cells.2.2.2.1, (h.out.1.step hb).cells.2.2.2.2.1, (h.out.1.step hb).cells.2.2.2.2.2.1, (h.out.1.step hb).cells.2.2.2.2.2.2.1, (h.out.1.step hb).cells.2.2.2.2.2.2.2.1, (h.out.1.step hb).cells.2.2.2.2.2.2.2.2, (h.out.2.step hb).cells⟩)
  have HS0 : Hid (St9 w ((w.alloc (.cells (EnV a np nc vp vc q c) 25)).alloc (.cells (EnV b np' nc' vp' vc' q' c') 25)) w.heap.size (EnV a np nc vp vc q c) ∧ St9 w ((w.alloc (.cells (EnV a np nc vp vc q c) 25)).alloc (.cells (EnV b np' nc' vp' vc' q' c') 25)) (w.heap.size + 1) (EnV b np' nc' vp' vc' q' c')) := ⟨⟨(bel_alloc (Nat.le_refl _) _).trans (bel_alloc (by simp) _), heap_alloc2_old w _ _⟩, ⟨(bel_alloc (Nat.le_refl _) _).trans (bel_alloc (by simp) _), heap_alloc2_new w _ _⟩⟩
  rw [hs] at HCA
  rw [hs2] at HCB
  have HC19 : ∀ W, Hid (St9 w W w.heap.size (EnV a np nc vp vc q c) ∧ St9 w W (w.heap.size + 1) (EnV b np' nc' vp' vc' q' c')) → Calls Try.prog 19 #[.agg (EnV a np nc vp vc q c), .agg (EnV b np' nc' vp' vc' q' c')] W fun e w' => e = .returned (.bool (same a b)) ∧ Hid (St9 w w' w.heap.size (EnV a np nc vp vc q c) ∧ St9 w w' (w.heap.size + 1) (EnV b np' nc' vp' vc' q' c')) ∧ w'.cell? ⟨w.heap.size, 0, none⟩ = some (.int .i64 a.kind) ∧ w'.cell? ⟨w.heap.size, 1, none⟩ = some (.int .i64 a.writer) ∧ w'.cell? ⟨w.heap.size, 2, none⟩ = some (.int .i64 a.seq) ∧ w'.cell? ⟨w.heap.size, 3, none⟩ = some (.slice np a.name.length nc) ∧ w'.cell? ⟨w.heap.size, 4, none⟩ = some (.slice vp a.value.length vc) ∧ w'.cell? ⟨w.heap.size, 5, none⟩ = some (.int .i64 a.who) ∧ w'.cell? ⟨w.heap.size, 6, none⟩ = some (.int .i64 a.rights) ∧ w'.cell? ⟨w.heap.size, 7, none⟩ = some (.int .i64 a.epoch) ∧ w'.cell? ⟨w.heap.size, 8, none⟩ = some (.slice q a.wraps.length c) ∧ w'.cell? ⟨(w.heap.size + 1), 0, none⟩ = some (.int .i64 b.kind) ∧ w'.cell? ⟨(w.heap.size + 1), 1, none⟩ = some (.int .i64 b.writer) ∧ w'.cell? ⟨(w.heap.size + 1), 2, none⟩ = some (.int .i64 b.seq) ∧ w'.cell? ⟨(w.heap.size + 1), 3, none⟩ = some (.slice np' b.name.length nc') ∧ w'.cell? ⟨(w.heap.size + 1), 4, none⟩ = some (.slice vp' b.value.length vc') ∧ w'.cell? ⟨(w.heap.size + 1), 5, none⟩ = some (.int .i64 b.who) ∧ w'.cell? ⟨(w.heap.size + 1), 6, none⟩ = some (.int .i64 b.rights) ∧ w'.cell? ⟨(w.heap.size + 1), 7, none⟩ = some (.int .i64 b.epoch) ∧ w'.cell? ⟨(w.heap.size + 1), 8, none⟩ = some (.slice q' b.wraps.length c') := fun W h => (Same_any a b _ _ W (HEA.out W h.out.1.bel) (HEB.out W h.out.1.bel)).mono (by rintro e w' ⟨rfl, hb⟩; exact ⟨rfl, ⟨h.out.1.step hb, h.out.2.step hb⟩, (h.out.1.step hb).cells.1, (h.out.1.step hb).cells.2.1, (h.out.1.step hb).cells.2.2.1, (h.out.1.step hb).cells.2.2.2.1, (h.out.1.step hb).cells.2.2.2.2.1, (h.out.1.step hb).cells.2.2.2.2.2.1, (h.out.1.step hb).cells.2.2.2.2.2.2.1, (h.out.1.step hb).cells.2.2.2.2.2.2.2.1, (h.out.1.step hb).cells.2.2.2.2.2.2.2.2, (h.out.2.step hb).cells⟩)
  have HMA : Hid (∀ W, Below w.heap.size w W → Calls Try.prog 11 #[.agg (EnV a np nc vp vc q c)] W fun e u => ∃ v, e = .returned v ∧ EnIs u v a ∧ Below W.heap.size W u) := fun W h => made_any a _ W (HEA.out W h) (by have := (small_of hs).2.2.2; omega)
  have HMB : Hid (∀ W, Below w.heap.size w W → Calls Try.prog 11 #[.agg (EnV b np' nc' vp' vc' q' c')] W fun e u => ∃ v, e = .returned v ∧ EnIs u v b ∧ Below W.heap.size W u) := fun W h => made_any b _ W (HEB.out W h) (by have := (small_of hs2).2.2.2; omega)
  have HC12 : ∀ W, Hid (St9 w W w.heap.size (EnV a np nc vp vc q c) ∧ St9 w W (w.heap.size + 1) (EnV b np' nc' vp' vc' q' c')) → Calls Try.prog 12 #[.agg (EnV a np nc vp vc q c)] W fun e w' => ∃ q1 n1 c1 er, e = .returned (.tuple #[.slice q1 n1 c1, .int .i64 er]) ∧ Hid (EncA a er ∧ (right a = true → Src w' (.slice q1 n1 c1) (bytes a))) ∧ Hid (St9 w w' w.heap.size (EnV a np nc vp vc q c) ∧ St9 w w' (w.heap.size + 1) (EnV b np' nc' vp' vc' q' c')) ∧ w'.cell? ⟨w.heap.size, 0, none⟩ = some (.int .i64 a.kind) ∧ w'.cell? ⟨w.heap.size, 1, none⟩ = some (.int .i64 a.writer) ∧ w'.cell? ⟨w.heap.size, 2, none⟩ = some (.int .i64 a.seq) ∧ w'.cell? ⟨w.heap.size, 3, none⟩ = some (.slice np a.name.length nc) ∧ w'.cell? ⟨w.heap.size, 4, none⟩ = some (.slice vp a.value.length vc) ∧ w'.cell? ⟨w.heap.size, 5, none⟩ = some (.int .i64 a.who) ∧ w'.cell? ⟨w.heap.size, 6, none⟩ = some (.int .i64 a.rights) ∧ w'.cell? ⟨w.heap.size, 7, none⟩ = some (.int .i64 a.epoch) ∧ w'.cell? ⟨w.heap.size, 8, none⟩ = some (.slice q a.wraps.length c) ∧ w'.cell? ⟨(w.heap.size + 1), 0, none⟩ = some (.int .i64 b.kind) ∧ w'.cell? ⟨(w.heap.size + 1), 1, none⟩ = some (.int .i64 b.writer) ∧ w'.cell? ⟨(w.heap.size + 1), 2, none⟩ = some (.int .i64 b.seq) ∧ w'.cell? ⟨(w.heap.size + 1), 3, none⟩ = some (.slice np' b.name.length nc') ∧ w'.cell? ⟨(w.heap.size + 1), 4, none⟩ = some (.slice vp' b.value.length vc') ∧ w'.cell? ⟨(w.heap.size + 1), 5, none⟩ = some (.int .i64 b.who) ∧ w'.cell? ⟨(w.heap.size + 1), 6, none⟩ = some (.int .i64 b.rights) ∧ w'.cell? ⟨(w.heap.size + 1), 7, none⟩ = some (.int .i64 b.epoch) ∧ w'.cell? ⟨(w.heap.size + 1), 8, none⟩ = some (.slice q' b.wraps.length c') := fun W h => (Encode_any a _ W (HEA.out W h.out.1.bel)).mono (by
    rintro e w' ⟨hb, h2⟩
    have k1 := (h.out.1.step hb).cells
    have k2 := (h.out.2.step hb).cells
    rcases h2 with ⟨hr, v, rfl, ho⟩ | ⟨hr, rfl⟩
    · obtain ⟨q1, c1, rfl⟩ := own_slice ho
      exact ⟨q1, _, c1, 0, rfl, ⟨⟨fun _ => rfl, fun h => (by rw [hr] at h; cases h)⟩, fun _ => Src.own (bytes_small hA.small) ho⟩, ⟨h.out.1.step hb, h.out.2.step hb⟩, k1.1, k1.2.1, k1.2.2.1, k1.2.2.2.1, k1.2.2.2.2.1, k1.2.2.2.2.2.1, k1.2.2.2.2.2.2.1, k1.2.2.2.2.2.2.2.1, k1.2.2.2.2.2.2.2.2, k2⟩
    · exact ⟨none, 0, 0, 10, rfl, ⟨⟨fun h => (by rw [hr] at h; cases h), fun _ => rfl⟩, fun h => (by rw [hr] at h; cases h)⟩, ⟨h.out.1.step hb, h.out.2.step hb⟩, k1.1, k1.2.1, k1.2.2.1, k1.2.2.2.1, k1.2.2.2.2.1, k1.2.2.2.2.2.1, k1.2.2.2.2.2.2.1, k1.2.2.2.2.2.2.2.1, k1.2.2.2.2.2.2.2.2, k2⟩)
  have HC12b : ∀ W q1 n1 c1 er, Hid (St9 w W w.heap.size (EnV a np nc vp vc q c) ∧ St9 w W (w.heap.size + 1) (EnV b np' nc' vp' vc' q' c')) → Hid (EncA a er ∧ (right a = true → Src W (.slice q1 n1 c1) (bytes a))) → Calls Try.prog 12 #[.agg (EnV b np' nc' vp' vc' q' c')] W fun e w' => ∃ q2 n2 c2 er2, e = .returned (.tuple #[.slice q2 n2 c2, .int .i64 er2]) ∧ Hid (Below w.heap.size w w') ∧ Hid ((right a = true ∧ right b = true ∧ er = 0 ∧ er2 = 0 ∧ ∃ sx sy : ByteArray, (convert 22 9 (.slice q1 n1 c1)).run Try.prog w' = .ok (.string sx) w' ∧ (convert 22 9 (.slice q2 n2 c2)).run Try.prog w' = .ok (.string sy) w' ∧ (sx.toList == sy.toList) = same a b) ∨ (right a = false ∧ er = 10) ∨ (right a = true ∧ right b = false ∧ er = 0 ∧ er2 = 10)) := fun W q1 n1 c1 er h hx => (Encode_any b _ W (HEB.out W h.out.1.bel)).mono (by
    rintro e w' ⟨hb, h2⟩
    have hbw := h.out.1.bel.trans (bel_le hb h.out.1.bel.size)
    rcases h2 with ⟨hr, v, rfl, ho⟩ | ⟨hr, rfl⟩
    · obtain ⟨q2, c2, rfl⟩ := own_slice ho
      refine ⟨q2, _, c2, 0, rfl, hbw, ?_⟩
      cases ha : right a with
      | false => exact .inr (.inl ⟨rfl, hx.out.1.2 ha⟩)
      | true =>
        refine .inl ⟨rfl, hr, hx.out.1.1 ha, rfl, _, _, conv_src ((hx.out.2 ha).below hb), conv_src (Src.own (bytes_small hB.small) ho), ?_⟩
        rw [strB_beqL (bytes_small hA.small) (bytes_small hB.small)]
        cases hsm : same a b with
        | true => rw [(same_iff a b).1 hsm]; simp
        | false =>
          apply decide_eq_false
          intro e
          rw [(same_iff a b).2 (bytes_inj ha hr e)] at hsm
          cases hsm
    · refine ⟨none, 0, 0, 10, rfl, hbw, ?_⟩
      cases ha : right a with
      | false => exact .inr (.inl ⟨rfl, hx.out.1.2 ha⟩)
      | true => exact .inr (.inr ⟨rfl, hr, hx.out.1.1 ha, rfl⟩))
  have HSS0 : Hid (∀ W v u, EnIs W v a → EnIs W u b → Calls Try.prog 17 #[v, u] W fun e x => e = .returned (.bool (same a b)) ∧ Below W.heap.size W x) := fun W v u h1 h2 => rSame_any a b v u W h1 h2
  clear hA hB hs hs2 HEA HEB
  obtain ⟨sm, HSM⟩ : ∃ sm, Hid (same a b = sm) := ⟨_, rfl⟩
  rw [HSM.out] at HC19 HC12b HSS0
  clear HSM
  obtain ⟨ra, HRA⟩ : ∃ ra, Hid (right a = ra) := ⟨_, rfl⟩
  obtain ⟨rb, HRB⟩ : ∃ rb, Hid (right b = rb) := ⟨_, rfl⟩
  rw [HRA.out] at HC12 HC12b
  rw [HRB.out] at HC12b
  have HRG : Hid (∀ W, (St9 w W w.heap.size (EnV a np nc vp vc q c) ∧ St9 w W (w.heap.size + 1) (EnV b np' nc' vp' vc' q' c')) → (∀ w', Only [] W w' → w'.heap[w.heap.size]? = some (.cells (EnV a np nc vp vc q c) 25 (0, 0)) ∧ (EnV a np nc vp vc q c).size = 9) ∧ (∀ w', Only [] W w' → w'.heap[w.heap.size + 1]? = some (.cells (EnV b np' nc' vp' vc' q' c') 25 (0, 0)) ∧ (EnV b np' nc' vp' vc' q' c').size = 9) ∧ (∀ w', Only [] W w' → Calls Try.prog 11 #[.agg (EnV a np nc vp vc q c)] w' fun e u => ∃ v, e = .returned v ∧ EnIs u v a ∧ Below w'.heap.size w' u) ∧ (∀ w', Only [] W w' → Calls Try.prog 11 #[.agg (EnV b np' nc' vp' vc' q' c')] w' fun e u => ∃ v, e = .returned v ∧ EnIs u v b ∧ Below w'.heap.size w' u) ∧ (∀ w', Only [] W w' → (St9 w w' w.heap.size (EnV a np nc vp vc q c) ∧ St9 w w' (w.heap.size + 1) (EnV b np' nc' vp' vc' q' c')) ∧ w'.cell? ⟨w.heap.size, 0, none⟩ = some (.int .i64 a.kind) ∧ w'.cell? ⟨w.heap.size, 1, none⟩ = some (.int .i64 a.writer) ∧ w'.cell? ⟨w.heap.size, 2, none⟩ = some (.int .i64 a.seq) ∧ w'.cell? ⟨w.heap.size, 3, none⟩ = some (.slice np a.name.length nc) ∧ w'.cell? ⟨w.heap.size, 4, none⟩ = some (.slice vp a.value.length vc) ∧ w'.cell? ⟨w.heap.size, 5, none⟩ = some (.int .i64 a.who) ∧ w'.cell? ⟨w.heap.size, 6, none⟩ = some (.int .i64 a.rights) ∧ w'.cell? ⟨w.heap.size, 7, none⟩ = some (.int .i64 a.epoch) ∧ w'.cell? ⟨w.heap.size, 8, none⟩ = some (.slice q a.wraps.length c) ∧ w'.cell? ⟨(w.heap.size + 1), 0, none⟩ = some (.int .i64 b.kind) ∧ w'.cell? ⟨(w.heap.size + 1), 1, none⟩ = some (.int .i64 b.writer) ∧ w'.cell? ⟨(w.heap.size + 1), 2, none⟩ = some (.int .i64 b.seq) ∧ w'.cell? ⟨(w.heap.size + 1), 3, none⟩ = some (.slice np' b.name.length nc') ∧ w'.cell? ⟨(w.heap.size + 1), 4, none⟩ = some (.slice vp' b.value.length vc') ∧ w'.cell? ⟨(w.heap.size + 1), 5, none⟩ = some (.int .i64 b.who) ∧ w'.cell? ⟨(w.heap.size + 1), 6, none⟩ = some (.int .i64 b.rights) ∧ w'.cell? ⟨(w.heap.size + 1), 7, none⟩ = some (.int .i64 b.epoch) ∧ w'.cell? ⟨(w.heap.size + 1), 8, none⟩ = some (.slice q' b.wraps.length c'))) := fun W h => by
    have hb : ∀ w', Only [] W w' → Below W.heap.size W w' := fun w' ho => ho.below (Nat.le_refl _) (by simp)
    refine ⟨fun w' ho => ⟨(h.1.step (hb w' ho)).box, rfl⟩, fun w' ho => ⟨(h.2.step (hb w' ho)).box, rfl⟩, fun w' ho => HMA.out w' (h.1.step (hb w' ho)).bel, fun w' ho => HMB.out w' (h.1.step (hb w' ho)).bel, fun w' ho => ?_⟩
    have k1 := (h.1.step (hb w' ho)).cells
    have k2 := (h.2.step (hb w' ho)).cells
    exact ⟨⟨h.1.step (hb w' ho), h.2.step (hb w' ho)⟩, k1.1, k1.2.1, k1.2.2.1, k1.2.2.2.1, k1.2.2.2.2.1, k1.2.2.2.2.2.1, k1.2.2.2.2.2.2.1, k1.2.2.2.2.2.2.2.1, k1.2.2.2.2.2.2.2.2, k2⟩
  clear HMA HMB
  generalize bytes a = bya at *
  obtain ⟨A, HAA⟩ : ∃ A : En, Hid (a = A) := ⟨_, rfl⟩
  obtain ⟨B, HBB⟩ : ∃ B : En, Hid (b = B) := ⟨_, rfl⟩
  obtain ⟨PA, HPA⟩ : ∃ PA : Int → Prop, Hid (EncA a = PA) := ⟨_, rfl⟩
  rw [HPA.out] at HC12 HC12b
  rw [HAA.out] at HSS0
  rw [HBB.out] at HSS0
  have HRG2 : Hid (∀ W, (St9 w W w.heap.size (EnV a np nc vp vc q c) ∧ St9 w W (w.heap.size + 1) (EnV b np' nc' vp' vc' q' c')) → (∀ w', Only [] W w' → w'.heap[w.heap.size]? = some (.cells (EnV a np nc vp vc q c) 25 (0, 0)) ∧ (EnV a np nc vp vc q c).size = 9) ∧ (∀ w', Only [] W w' → w'.heap[w.heap.size + 1]? = some (.cells (EnV b np' nc' vp' vc' q' c') 25 (0, 0)) ∧ (EnV b np' nc' vp' vc' q' c').size = 9) ∧ (∀ w', Only [] W w' → Calls Try.prog 11 #[.agg (EnV a np nc vp vc q c)] w' fun e u => ∃ v, e = .returned v ∧ EnIs u v A ∧ Below w'.heap.size w' u) ∧ (∀ w', Only [] W w' → Calls Try.prog 11 #[.agg (EnV b np' nc' vp' vc' q' c')] w' fun e u => ∃ v, e = .returned v ∧ EnIs u v B ∧ Below w'.heap.size w' u) ∧ (∀ w', Only [] W w' → (St9 w w' w.heap.size (EnV a np nc vp vc q c) ∧ St9 w w' (w.heap.size + 1) (EnV b np' nc' vp' vc' q' c')) ∧ w'.cell? ⟨w.heap.size, 0, none⟩ = some (.int .i64 a.kind) ∧ w'.cell? ⟨w.heap.size, 1, none⟩ = some (.int .i64 a.writer) ∧ w'.cell? ⟨w.heap.size, 2, none⟩ = some (.int .i64 a.seq) ∧ w'.cell? ⟨w.heap.size, 3, none⟩ = some (.slice np a.name.length nc) ∧ w'.cell? ⟨w.heap.size, 4, none⟩ = some (.slice vp a.value.length vc) ∧ w'.cell? ⟨w.heap.size, 5, none⟩ = some (.int .i64 a.who) ∧ w'.cell? ⟨w.heap.size, 6, none⟩ = some (.int .i64 a.rights) ∧ w'.cell? ⟨w.heap.size, 7, none⟩ = some (.int .i64 a.epoch) ∧ w'.cell? ⟨w.heap.size, 8, none⟩ = some (.slice q a.wraps.length c) ∧ w'.cell? ⟨(w.heap.size + 1), 0, none⟩ = some (.int .i64 b.kind) ∧ w'.cell? ⟨(w.heap.size + 1), 1, none⟩ = some (.int .i64 b.writer) ∧ w'.cell? ⟨(w.heap.size + 1), 2, none⟩ = some (.int .i64 b.seq) ∧ w'.cell? ⟨(w.heap.size + 1), 3, none⟩ = some (.slice np' b.name.length nc') ∧ w'.cell? ⟨(w.heap.size + 1), 4, none⟩ = some (.slice vp' b.value.length vc') ∧ w'.cell? ⟨(w.heap.size + 1), 5, none⟩ = some (.int .i64 b.who) ∧ w'.cell? ⟨(w.heap.size + 1), 6, none⟩ = some (.int .i64 b.rights) ∧ w'.cell? ⟨(w.heap.size + 1), 7, none⟩ = some (.int .i64 b.epoch) ∧ w'.cell? ⟨(w.heap.size + 1), 8, none⟩ = some (.slice q' b.wraps.length c'))) := by have := HRG.out; rw [← HAA.out, ← HBB.out]; exact this
  clear HRG HAA HBB HPA HRA HRB
  obtain ⟨a1, a2, a3, a4, a5, a6, a7, a8, a9⟩ := a
  obtain ⟨b1, b2, b3, b4, b5, b6, b7, b8, b9⟩ := b
  simp only [EnV] at HC9 HCA HCB HC19 HC12 HC12b HRG2 HS0 ⊢
  generalize a4.length = la4 at *
  generalize b4.length = lb4 at *
  generalize a5.length = la5 at *
  generalize b5.length = lb5 at *
  generalize a9.length = la9 at *
  generalize b9.length = lb9 at *
  go_enter Try.func5, Try.ntmps5
  go_wp2_with (first | (go_at_call 9; refine (HC9 _ HS0).mono ?_; rintro e w1 ⟨rfl, S1, d0, d1, d2, d3, d4, d5, d6, d7, d8, e0, e1, e2, e3, e4, e5, e6, e7, e8⟩) | (go_at_call 10; with_reducible refine (HCA _ S1).mono ?_; rintro e w2 ⟨rfl, S2, f0, f1, f2, f3, f4, f5, f6, f7, f8, g0, g1, g2, g3, g4, g5, g6, g7, g8⟩) | (go_at_call 10; with_reducible refine (HCB _ S2).mono ?_; rintro e w3 ⟨rfl, S3, h0, h1, h2, h3, h4, h5, h6, h7, h8, i0, i1, i2, i3, i4, i5, i6, i7, i8⟩) | (go_at_call 19; refine (HC19 _ S3).mono ?_; rintro e w4 ⟨rfl, S4, j0, j1, j2, j3, j4, j5, j6, j7, j8, k0, k1, k2, k3, k4, k5, k6, k7, k8⟩))
  obtain ⟨r1, r2, r3, r4, r5⟩ := HRG2.out w4 S4.out
  obtain ⟨b2', HP2⟩ : ∃ b2, Hid (w.heap.size = b2) := ⟨_, rfl⟩
  obtain ⟨b3', HP3⟩ : ∃ b3, Hid (w.heap.size + 1 = b3) := ⟨_, rfl⟩
  obtain ⟨CA, HCAA⟩ : ∃ CA : Array Value, Hid (#[.int .i64 a1, .int .i64 a2, .int .i64 a3, .slice np la4 nc, .slice vp la5 vc, .int .i64 a6, .int .i64 a7, .int .i64 a8, .slice q la9 c] = CA) := ⟨_, rfl⟩
  obtain ⟨CB, HCBB⟩ : ∃ CB : Array Value, Hid (#[.int .i64 b1, .int .i64 b2, .int .i64 b3, .slice np' lb4 nc', .slice vp' lb5 vc', .int .i64 b6, .int .i64 b7, .int .i64 b8, .slice q' lb9 c'] = CB) := ⟨_, rfl⟩
  have HR2 : Hid (∀ w', Only [] w4 w' → w'.heap[b2']? = some (.cells CA 25 (0, 0)) ∧ CA.size = 9) := by rw [← HP2.out, ← HCAA.out]; exact r1
  have HR3 : Hid (∀ w', Only [] w4 w' → w'.heap[b3']? = some (.cells CB 25 (0, 0)) ∧ CB.size = 9) := by rw [← HP3.out, ← HCBB.out]; exact r2
  have HMA : Hid (∀ w', Only [] w4 w' → Calls Try.prog 11 #[.agg CA] w' fun e u => ∃ v, e = .returned v ∧ EnIs u v A ∧ Below w'.heap.size w' u) := by rw [← HCAA.out]; exact r3
  have HMB : Hid (∀ w', Only [] w4 w' → Calls Try.prog 11 #[.agg CB] w' fun e u => ∃ v, e = .returned v ∧ EnIs u v B ∧ Below w'.heap.size w' u) := by rw [← HCBB.out]; exact r4
  have HSS : Hid (∀ w', Only [] w4 w' → ∀ v u, EnIs w' v A → EnIs w' u B → Calls Try.prog 17 #[v, u] w' fun e x => e = .returned (.bool sm) ∧ Below w'.heap.size w' x) := fun w' _ v u h1 h2 => HSS0.out w' v u h1 h2
  have HST : Hid (∀ w', Only [] w4 w' → (St9 w w' w.heap.size #[.int .i64 a1, .int .i64 a2, .int .i64 a3, .slice np la4 nc, .slice vp la5 vc, .int .i64 a6, .int .i64 a7, .int .i64 a8, .slice q la9 c] ∧ St9 w w' (w.heap.size + 1) #[.int .i64 b1, .int .i64 b2, .int .i64 b3, .slice np' lb4 nc', .slice vp' lb5 vc', .int .i64 b6, .int .i64 b7, .int .i64 b8, .slice q' lb9 c']) ∧ w'.cell? ⟨w.heap.size, 0, none⟩ = some (.int .i64 a1) ∧ w'.cell? ⟨w.heap.size, 1, none⟩ = some (.int .i64 a2) ∧ w'.cell? ⟨w.heap.size, 2, none⟩ = some (.int .i64 a3) ∧ w'.cell? ⟨w.heap.size, 3, none⟩ = some (.slice np la4 nc) ∧ w'.cell? ⟨w.heap.size, 4, none⟩ = some (.slice vp la5 vc) ∧ w'.cell? ⟨w.heap.size, 5, none⟩ = some (.int .i64 a6) ∧ w'.cell? ⟨w.heap.size, 6, none⟩ = some (.int .i64 a7) ∧ w'.cell? ⟨w.heap.size, 7, none⟩ = some (.int .i64 a8) ∧ w'.cell? ⟨w.heap.size, 8, none⟩ = some (.slice q la9 c) ∧ w'.cell? ⟨(w.heap.size + 1), 0, none⟩ = some (.int .i64 b1) ∧ w'.cell? ⟨(w.heap.size + 1), 1, none⟩ = some (.int .i64 b2) ∧ w'.cell? ⟨(w.heap.size + 1), 2, none⟩ = some (.int .i64 b3) ∧ w'.cell? ⟨(w.heap.size + 1), 3, none⟩ = some (.slice np' lb4 nc') ∧ w'.cell? ⟨(w.heap.size + 1), 4, none⟩ = some (.slice vp' lb5 vc') ∧ w'.cell? ⟨(w.heap.size + 1), 5, none⟩ = some (.int .i64 b6) ∧ w'.cell? ⟨(w.heap.size + 1), 6, none⟩ = some (.int .i64 b7) ∧ w'.cell? ⟨(w.heap.size + 1), 7, none⟩ = some (.int .i64 b8) ∧ w'.cell? ⟨(w.heap.size + 1), 8, none⟩ = some (.slice q' lb9 c')) := r5
  clear r1 r2 r3 r4 r5 HRG2 HSS0 HC9 HCA HCB HC19 S1 S2 S3 S4
  rw [HP3.out, HP2.out]
  have RB : ∀ k w w', Below w.heap.size w w' → (fun (_ : Nat) (_ : World) => True) k w → (fun (_ : Nat) (_ : World) => True) k w' := fun _ _ _ _ _ => trivial
  refine wp_region_st (sm6 CA CB A B sm) (fun u u' => Only [] u u') (SeqS [] (fun (_ : Nat) (_ : World) => True)) (by kernel_rfl) (only_drew _ _) (only_trans _) (sm6_kept CA CB A B sm) (by kernel_rfl) (SeqS.start (trivial)) ?_ ?_
  · intro i o a' w' f hi inv hS hfi hfw hpre
    have ho : Only [] w4 w' := inv.grow
    have hlt : i < 7 := (Array.getElem?_eq_some_iff.1 hi).1
    obtain rfl|rfl|rfl|rfl|rfl|rfl|rfl : i = 0 ∨ i = 1 ∨ i = 2 ∨ i = 3 ∨ i = 4 ∨ i = 5 ∨ i = 6 := by omega
    · obtain rfl := Option.some.inj hi
      exact sq_value _ rfl rfl rfl (Below.refl _ _) (by decide) hS RB (by show a'.tmps.getD 5 undef = _; rw [inv.old 5 (notDst_spec (by kernel_rfl))]; rfl)
    · obtain rfl := Option.some.inj hi
      have h0 : a'.tmps.getD 2 undef = (.pointer (some ⟨b2', 0, none⟩)) := by rw [inv.old 2 (notDst_spec (by kernel_rfl))]; rfl
      exact sq_value _ rfl rfl (load_run 25 2 b2' (0) _ rfl h0 (ld25 (HR2.out w' ho))) (Below.refl _ _) (by decide) hS RB rfl
    · obtain rfl := Option.some.inj hi
      have h0 : a'.tmps.getD 24 undef = _ := pre_of hpre 1 24 (by kernel_rfl) (by kernel_rfl)
      refine sq_quiet 11 #[a'.tmps.getD 24 undef] rfl rfl (by kernel_rfl) (by decide) hS ?_
      rw [h0]
      exact (HMA.out w' ho).mono (by rintro e u ⟨v, rfl, h1, h2⟩; exact ⟨_, rfl, Only.of_below h2 _, (fun _ h => h), h1⟩)
    · obtain rfl := Option.some.inj hi
      have h0 : a'.tmps.getD 3 undef = (.pointer (some ⟨b3', 0, none⟩)) := by rw [inv.old 3 (notDst_spec (by kernel_rfl))]; rfl
      exact sq_value _ rfl rfl (load_run 25 3 b3' (0) _ rfl h0 (ld25 (HR3.out w' ho))) (Below.refl _ _) (by decide) hS RB rfl
    · obtain rfl := Option.some.inj hi
      have h0 : a'.tmps.getD 26 undef = _ := pre_of hpre 3 26 (by kernel_rfl) (by kernel_rfl)
      refine sq_quiet 11 #[a'.tmps.getD 26 undef] rfl rfl (by kernel_rfl) (by decide) hS ?_
      rw [h0]
      exact (HMB.out w' ho).mono (by rintro e u ⟨v, rfl, h1, h2⟩; exact ⟨_, rfl, Only.of_below h2 _, (fun _ h => h), h1⟩)
    · obtain rfl := Option.some.inj hi
      have h0 := pre_of hpre 2 25 (by kernel_rfl) (by kernel_rfl)
      have h1 := pre_of hpre 4 27 (by kernel_rfl) (by kernel_rfl)
      refine sq_quiet 17 #[a'.tmps.getD 25 undef, a'.tmps.getD 27 undef] rfl rfl (by kernel_rfl) (by decide) hS ?_
      exact (HSS.out w' ho _ _ h0 h1).mono (by rintro e u ⟨rfl, h2⟩; exact ⟨_, rfl, Only.of_below h2 _, (fun _ h => h), rfl⟩)
    · obtain rfl := Option.some.inj hi
      have h0 : a'.tmps.getD 23 undef = _ := pre_of hpre 0 23 (by kernel_rfl) (by kernel_rfl)
      have h1 : a'.tmps.getD 28 undef = _ := pre_of hpre 5 28 (by kernel_rfl) (by kernel_rfl)
      exact sq_value _ rfl rfl (neqB_run 23 28 _ _ rfl h0 h1) (Below.refl _ _) (by decide) hS RB (by show Value.bool _ = _; simp)
  · intro a' w5 f inv hS hall hd
    have hk6 := hd 6 29 (by kernel_rfl)
    have ho : Only [] w4 w5 := inv.grow
    have hdf : a'.defers = [] := inv.defers
    have hsz : a'.tmps.size = 55 := inv.size
    have e := frame5 hsz (fun t ht => inv.old t (dstsIn_spec (ts := [23, 24, 25, 26, 27, 28, 29]) (by kernel_rfl) t ht))
    have hR := hS.done (fun c hc => hall c (show c < 7 by simp at hc <;> omega))
    clear inv hd hsz hall hS
    obtain ⟨tmps, defers⟩ := a'
    obtain rfl : defers = [] := hdf
    replace e : tmps = _ := e
    replace hk6 : tmps.getD 29 undef = (.bool false) := hk6
    generalize tmps.getD 23 undef = x23 at *
    generalize tmps.getD 24 undef = x24 at *
    generalize tmps.getD 25 undef = x25 at *
    generalize tmps.getD 26 undef = x26 at *
    generalize tmps.getD 27 undef = x27 at *
    generalize tmps.getD 28 undef = x28 at *
    generalize tmps.getD 29 undef = x29 at *
    simp only [Array.getD_eq_getD_getElem?, List.getElem?_toArray, List.getElem?_cons_succ, List.getElem?_cons_zero, Option.getD_some] at e
    subst e
    subst hk6
    have e2 : w.heap.size = b2' := HP2.out
    have e3 : w.heap.size + 1 = b3' := HP3.out
    subst e2 e3
    obtain ⟨S5, u0, u1, u2, u3, u4, u5, u6, u7, u8, v0, v1, v2, v3, v4, v5, v6, v7, v8⟩ := HST.out _ ho
    have S5H : Hid (St9 w w5 w.heap.size #[.int .i64 a1, .int .i64 a2, .int .i64 a3, .slice np la4 nc, .slice vp la5 vc, .int .i64 a6, .int .i64 a7, .int .i64 a8, .slice q la9 c] ∧ St9 w w5 (w.heap.size + 1) #[.int .i64 b1, .int .i64 b2, .int .i64 b3, .slice np' lb4 nc', .slice vp' lb5 vc', .int .i64 b6, .int .i64 b7, .int .i64 b8, .slice q' lb9 c']) := S5
    clear S5 ho hR HST HR2 HR3 HMA HMB HSS HCAA HCBB
    go_wp2_with (first | (go_at_call 12; with_reducible refine (HC12 _ S5H).mono ?_; rintro e w6 ⟨q1, n1, c1, er, rfl, E6, S6, y0, y1, y2, y3, y4, y5, y6, y7, y8, z0, z1, z2, z3, z4, z5, z6, z7, z8⟩))
    refine (HC12b _ _ _ _ _ S6 E6).mono ?_
    rintro e w7 ⟨q2, n2, c2, er2, rfl, B7, HD7⟩
    rcases HD7.out with ⟨_, _, rfl, rfl, sx, sy, cx, cy, hq⟩ | ⟨_, rfl⟩ | ⟨_, _, rfl, rfl⟩
    · clear HD7
      go_wp2_with fail
      go_ret
      exact ⟨rfl, B7.out⟩
    · clear HD7
      go_wp2_with fail
      go_ret
      exact ⟨rfl, B7.out⟩
    · clear HD7
      go_wp2_with fail
      go_ret
      exact ⟨rfl, B7.out⟩
theorem same_law (a b : En) (va vb : Value) (w : World) (ha : EnIs w va a) (hb : EnIs w vb b) : Calls Try.prog 5 #[va, vb] w fun e w' => e = .returned (.bool true) ∧ Below w.heap.size w w' := by
  cases hs : small a with
  | false => exact same_e1 a b va vb w ha hb hs
  | true =>
    cases hs2 : small b with
    | false => exact same_e2 a b va vb w ha hb hs hs2
    | true => exact same_main a b va vb w ha hb hs hs2
end Go.Proofs.Ytiihdpkpgcmioaa.E9
