/- The walk of EntryDecodes. -/
import Derived.Test.YtiihdpkpgcmioaaE9Read
import Derived.Test.YtiihdpkpgcmioaaE9EncV
import Derived.Test.YtiihdpkpgcmioaaE9DecA
namespace Go.Proofs.Ytiihdpkpgcmioaa.E9
open Go.RowKit C8
theorem neqE_run {o : Oper} {a' : Act} {w' : World} (s : Tmp) (x y : Int) (ho : o.op = .binOp .neq 32 (.tmp s) (.const (.int .i64 y)) 32) (h0 : a'.tmps.getD s undef = .int .i64 x) : (execOp a'.eval o).run Try.prog w' = .ok (.value (.bool (x != y))) w' := by
  have he : a'.eval (.tmp s) = .int .i64 x := h0
  have hf : a'.eval (.const (.int .i64 y)) = .int .i64 y := rfl
  unfold execOp
  simp only [ho]
  rw [he, hf]
  simp [go_sem]
theorem wok_lenL : ∀ (ws : List (Int × List Nat)) (last : Int), last ≤ 16 → wok last ws = true → (ws.length : Int) ≤ 16 - last
  | [], last, h, _ => by simp; omega
  | x :: r, last, h, hw => by
    unfold wok at hw
    simp only [Bool.and_eq_true, decide_eq_true_eq] at hw
    have := wok_lenL r x.1 hw.1.1.2 hw.2
    rw [List.length_cons]
    omega
theorem wok_len {ws : List (Int × List Nat)} (h : wok 0 ws = true) : ws.length ≤ 16 := by
  have := wok_lenL ws 0 (by decide) h
  omega
def de7t (CA CB : Array Value) (A : En) : Nat → Value → World → Prop
  | 0 => IsV (.bool true)
  | 1 => IsV (.int .i64 0)
  | 2 => IsV (.bool true)
  | 3 => IsV (.bool false)
  | 4 => IsV (.bool false)
  | 5 => IsV (.bool true)
  | 6 => IsV (.bool false)
  | 7 => IsV (.bool false)
  | 8 => IsV undef
  | 9 => IsV undef
  | 10 => IsV (.bool false)
  | 11 => IsV (.bool false)
  | 12 => IsV (.bool false)
  | 13 => IsV (.agg CA)
  | 14 => EnsV A
  | 15 => IsV (.agg CB)
  | 16 => IsV (.bool true)
  | 17 => IsV (.bool false)
  | 18 => IsV (.bool false)
  | _ => fun _ _ => True
theorem de7t_kept (CA CB : Array Value) (A : En) : ∀ i v w w', de7t CA CB A i v w → Only [] w w' → de7t CA CB A i v w'
  | 0, _, _, _, h, _ => h
  | 1, _, _, _, h, _ => h
  | 2, _, _, _, h, _ => h
  | 3, _, _, _, h, _ => h
  | 4, _, _, _, h, _ => h
  | 5, _, _, _, h, _ => h
  | 6, _, _, _, h, _ => h
  | 7, _, _, _, h, _ => h
  | 8, _, _, _, h, _ => h
  | 9, _, _, _, h, _ => h
  | 10, _, _, _, h, _ => h
  | 11, _, _, _, h, _ => h
  | 12, _, _, _, h, _ => h
  | 13, _, _, _, h, _ => h
  | 14, _, _, _, h, ho => EnsV.kept h ho
  | 15, _, _, _, h, _ => h
  | 16, _, _, _, h, _ => h
  | 17, _, _, _, h, _ => h
  | 18, _, _, _, h, _ => h
  | _ + 19, _, _, _, _, _ => trivial
def de7f (CA CB : Array Value) (A : En) : Nat → Value → World → Prop
  | 0 => IsV (.bool false)
  | 1 => IsV (.int .i64 10)
  | 2 => IsV (.bool false)
  | 3 => IsV (.bool false)
  | 4 => IsV (.bool false)
  | 5 => IsV (.bool false)
  | 6 => IsV (.bool true)
  | 7 => IsV (.bool true)
  | 8 => IsV (.int .i64 10)
  | 9 => IsV (.bool false)
  | 10 => IsV (.bool false)
  | 11 => IsV (.bool false)
  | 12 => IsV (.bool false)
  | 13 => IsV (.agg CA)
  | 14 => EnsV A
  | 15 => IsV (.agg CB)
  | 16 => IsV (.bool true)
  | 17 => IsV (.bool false)
  | 18 => IsV (.bool false)
  | _ => fun _ _ => True
theorem de7f_kept (CA CB : Array Value) (A : En) : ∀ i v w w', de7f CA CB A i v w → Only [] w w' → de7f CA CB A i v w'
  | 0, _, _, _, h, _ => h
  | 1, _, _, _, h, _ => h
  | 2, _, _, _, h, _ => h
  | 3, _, _, _, h, _ => h
  | 4, _, _, _, h, _ => h
  | 5, _, _, _, h, _ => h
  | 6, _, _, _, h, _ => h
  | 7, _, _, _, h, _ => h
  | 8, _, _, _, h, _ => h
  | 9, _, _, _, h, _ => h
  | 10, _, _, _, h, _ => h
  | 11, _, _, _, h, _ => h
  | 12, _, _, _, h, _ => h
  | 13, _, _, _, h, _ => h
  | 14, _, _, _, h, ho => EnsV.kept h ho
  | 15, _, _, _, h, _ => h
  | 16, _, _, _, h, _ => h
  | 17, _, _, _, h, _ => h
  | 18, _, _, _, h, _ => h
  | _ + 19, _, _, _, _, _ => trivial
theorem frame4_7 {A F : Array Value} (hs : A.size = 59) (h : ∀ t, [24, 25, 26, 27, 28, 29, 30, 31, 32, 33, 34, 35, 36, 37, 38, 39, 40, 41, 42].contains t = false → A.getD t undef = F.getD t undef) : A = #[F.getD 0 undef, F.getD 1 undef, F.getD 2 undef, F.getD 3 undef, F.getD 4 undef, F.getD 5 undef, F.getD 6 undef, F.getD 7 undef, F.getD 8 undef, F.getD 9 undef, F.getD 10 undef, F.getD 11 undef, F.getD 12 undef, F.getD 13 undef, F.getD 14 undef, F.getD 15 undef, F.getD 16 undef, F.getD 17 undef, F.getD 18 undef, F.getD 19 undef, F.getD 20 undef, F.getD 21 undef, F.getD 22 undef, F.getD 23 undef, A.getD 24 undef, A.getD 25 undef, A.getD 26 undef, A.getD 27 undef, A.getD 28 undef, A.getD 29 undef, A.getD 30 undef, A.getD 31 undef, A.getD 32 undef, A.getD 33 undef, A.getD 34 undef, A.getD 35 undef, A.getD 36 undef, A.getD 37 undef, A.getD 38 undef, A.getD 39 undef, A.getD 40 undef, A.getD 41 undef, A.getD 42 undef, F.getD 43 undef, F.getD 44 undef, F.getD 45 undef, F.getD 46 undef, F.getD 47 undef, F.getD 48 undef, F.getD 49 undef, F.getD 50 undef, F.getD 51 undef, F.getD 52 undef, F.getD 53 undef, F.getD 54 undef, F.getD 55 undef, F.getD 56 undef, F.getD 57 undef, F.getD 58 undef] := by
  rw [← h 0 (by decide), ← h 1 (by decide), ← h 2 (by decide), ← h 3 (by decide), ← h 4 (by decide), ← h 5 (by decide), ← h 6 (by decide), ← h 7 (by decide), ← h 8 (by decide), ← h 9 (by decide), ← h 10 (by decide), ← h 11 (by decide), ← h 12 (by decide), ← h 13 (by decide), ← h 14 (by decide), ← h 15 (by decide), ← h 16 (by decide), ← h 17 (by decide), ← h 18 (by decide), ← h 19 (by decide), ← h 20 (by decide), ← h 21 (by decide), ← h 22 (by decide), ← h 23 (by decide), ← h 43 (by decide), ← h 44 (by decide), ← h 45 (by decide), ← h 46 (by decide), ← h 47 (by decide), ← h 48 (by decide), ← h 49 (by decide), ← h 50 (by decide), ← h 51 (by decide), ← h 52 (by decide), ← h 53 (by decide), ← h 54 (by decide), ← h 55 (by decide), ← h 56 (by decide), ← h 57 (by decide), ← h 58 (by decide)]
  refine Array.ext (by simp [hs]) (fun i h1 h2 => ?_)
  have e : A[i] = A.getD i undef := by simp [h1]
  rw [e]
  rw [hs] at h1
  clear e h hs
  match i, h1 with
  | 0, _ => rfl
  | 1, _ => rfl
  | 2, _ => rfl
  | 3, _ => rfl
  | 4, _ => rfl
  | 5, _ => rfl
  | 6, _ => rfl
  | 7, _ => rfl
  | 8, _ => rfl
  | 9, _ => rfl
  | 10, _ => rfl
  | 11, _ => rfl
  | 12, _ => rfl
  | 13, _ => rfl
  | 14, _ => rfl
  | 15, _ => rfl
  | 16, _ => rfl
  | 17, _ => rfl
  | 18, _ => rfl
  | 19, _ => rfl
  | 20, _ => rfl
  | 21, _ => rfl
  | 22, _ => rfl
  | 23, _ => rfl
  | 24, _ => rfl
  | 25, _ => rfl
  | 26, _ => rfl
  | 27, _ => rfl
  | 28, _ => rfl
  | 29, _ => rfl
  | 30, _ => rfl
  | 31, _ => rfl
  | 32, _ => rfl
  | 33, _ => rfl
  | 34, _ => rfl
  | 35, _ => rfl
  | 36, _ => rfl
  | 37, _ => rfl
  | 38, _ => rfl
  | 39, _ => rfl
  | 40, _ => rfl
  | 41, _ => rfl
  | 42, _ => rfl
  | 43, _ => rfl
  | 44, _ => rfl
  | 45, _ => rfl
  | 46, _ => rfl
  | 47, _ => rfl
  | 48, _ => rfl
  | 49, _ => rfl
  | 50, _ => rfl
  | 51, _ => rfl
  | 52, _ => rfl
  | 53, _ => rfl
  | 54, _ => rfl
  | 55, _ => rfl
  | 56, _ => rfl
  | 57, _ => rfl
  | 58, _ => rfl
  | _ + 59, h => exact absurd h (by omega)
set_option maxHeartbeats 8000000 in
theorem dec_t (l : List Nat) (sq : Option Addr) (sc : Nat) (w : World) (hs : Src w (.slice sq l.length sc) l) (hl : l.length ≤ 2000) (A : En) (hd : dec false l = some A) : Calls Try.prog 4 #[.slice sq l.length sc] w fun e w' => e = .returned (.bool true) ∧ Below w.heap.size w w' := by
  have hdt : dec true l = dec false l := dec_both l hs.small
  have HS : Hid (∀ W, Below w.heap.size w W → Src W (.slice sq l.length sc) l) := fun W h => hs.below h
  have HC9 : ∀ W, Hid (Below w.heap.size w W) → Calls Try.prog 9 #[] W fun e w' => e = .returned (.bool true) ∧ Hid (Below w.heap.size w w') := fun W h => (anchor_any W).mono (by rintro e w' ⟨rfl, hb⟩; exact ⟨rfl, h.out.trans (bel_le hb h.out.size)⟩)
  obtain ⟨hr, hby⟩ := (dec_iff false l hs.small A).1 hd
  obtain ⟨A0, HA0⟩ : ∃ A0, Hid (A = A0) := ⟨_, rfl⟩
  have HC15 : ∀ W, Hid (Below w.heap.size w W) → Calls Try.prog 15 #[.slice sq l.length sc] W fun e w' => ∃ np nc vp vc q c, e = .returned (.tuple #[.agg (EnV A np nc vp vc q c), .int .i64 0]) ∧ Hid (Below w.heap.size w (w'.alloc (.cells (EnV A np nc vp vc q c) 25)) ∧ (w'.alloc (.cells (EnV A np nc vp vc q c) 25)).heap[w'.heap.size]? = some (.cells (EnV A np nc vp vc q c) 25 (0, 0)) ∧ EnIs (w'.alloc (.cells (EnV A np nc vp vc q c) 25)) (.agg (EnV A np nc vp vc q c)) A0) := fun W h => (Decode_any _ _ W (HS.out W h.out) (by omega)).mono (by
    rintro e w' ⟨hb, ⟨E, v, hd2, rfl, hn⟩ | ⟨hd2, _⟩⟩
    · rw [hd] at hd2
      obtain rfl := Option.some.inj hd2
      have hn' := hn.is
      obtain ⟨np, nc, vp, vc, q, c, rfl, -⟩ := hn.is
      have hal : Below w'.heap.size w' (w'.alloc (.cells (EnV A np nc vp vc q c) 25)) := bel_alloc (Nat.le_refl _) _
      have hb2 := h.out.trans (bel_le hb h.out.size)
      exact ⟨np, nc, vp, vc, q, c, rfl, hb2.trans (bel_le hal hb2.size), heap_alloc_new w' _, HA0.out ▸ hn'.below hal⟩
    · rw [hd] at hd2; cases hd2)
  have HC18 : ∀ W, Hid (Below w.heap.size w W) → Calls Try.prog 18 #[.slice sq l.length sc] W fun e w' => ∃ xp xc yp yc zq zc, e = .returned (.tuple #[.agg (EnV A xp xc yp yc zq zc), .bool true]) ∧ Hid (Below W.heap.size W (w'.alloc (.cells (EnV A xp xc yp yc zq zc) 30)) ∧ (w'.alloc (.cells (EnV A xp xc yp yc zq zc) 30)).heap[w'.heap.size]? = some (.cells (EnV A xp xc yp yc zq zc) 30 (0, 0)) ∧ EnIs (w'.alloc (.cells (EnV A xp xc yp yc zq zc) 30)) (.agg (EnV A xp xc yp yc zq zc)) A0) := fun W h => (Read_any _ _ W (HS.out W h.out) (by omega)).mono (by
    rintro e w' ⟨hb, ⟨E, v, hd2, rfl, hn⟩ | ⟨hd2, _⟩⟩
    · rw [hdt, hd] at hd2
      obtain rfl := Option.some.inj hd2
      have hn' := hn
      obtain ⟨xp, xc, yp, yc, zq, zc, rfl, -⟩ := hn
      have hal : Below w'.heap.size w' (w'.alloc (.cells (EnV A xp xc yp yc zq zc) 30)) := bel_alloc (Nat.le_refl _) _
      exact ⟨xp, xc, yp, yc, zq, zc, rfl, hb.trans (bel_le hal hb.size), heap_alloc_new w' _, HA0.out ▸ hn'.below hal⟩
    · rw [hdt, hd] at hd2; cases hd2)
  have HWL : Hid (A0.wraps.length ≤ 100000) := by
    rw [← HA0.out]
    obtain ⟨-, -, h⟩ := (right_iff A).1 hr
    show _ ≤ _
    rcases h with ⟨_, _, _, _, _, _, h⟩ | ⟨_, _, _, _, _, _, h⟩ | ⟨_, _, _, _, _, _, h⟩ | ⟨_, _, _, _, _, _, h⟩ | ⟨_, _, _, _, _, _, h⟩
    · rw [h]; simp
    · rw [h]; simp
    · rw [h]; simp
    · rw [h]; simp
    · exact Nat.le_trans (wok_len h) (by omega)
  have HC12 : ∀ W np nc vp vc q c, Hid (EnIs W (.agg (EnV A np nc vp vc q c)) A0 ∧ Below w.heap.size w W) → Calls Try.prog 12 #[.agg (EnV A np nc vp vc q c)] W fun e w' => ∃ q2 n2 c2, e = .returned (.tuple #[.slice q2 n2 c2, .int .i64 0]) ∧ Hid (Below w.heap.size w w') ∧ Hid (∃ sx sy : ByteArray, (convert 22 9 (.slice q2 n2 c2)).run Try.prog w' = .ok (.string sx) w' ∧ (convert 22 9 (.slice sq l.length sc)).run Try.prog w' = .ok (.string sy) w' ∧ (sx.toList == sy.toList) = true) := fun W np nc vp vc q c h => (Encode_any A _ W (HA0.out ▸ h.out.1)).mono (by
    rintro e w' ⟨hb, ⟨_, v, rfl, ho⟩ | ⟨h2, _⟩⟩
    · obtain ⟨q2, c2, rfl⟩ := own_slice ho
      have hb2 := h.out.2.trans (bel_le hb h.out.2.size)
      have hsm : ∀ x ∈ bytes A, x < 256 := by rw [hby]; exact hs.small
      refine ⟨q2, _, c2, rfl, hb2, _, _, conv_src (Src.own hsm ho), conv_src (HS.out w' hb2), ?_⟩
      rw [hby]
      simp
    · rw [hr] at h2; cases h2)
  have HB0 : Hid (Below w.heap.size w w) := Below.refl _ _
  clear hs hd hdt HS HA0 hr hby
  generalize l.length = ln at *
  obtain ⟨a1, a2, a3, a4, a5, a6, a7, a8, a9⟩ := A
  simp only [EnV] at HC15 HC18 HC12
  generalize a4.length = l4 at *
  generalize a5.length = l5 at *
  generalize a9.length = l9 at *
  have ln1 : (ln : Int) ≤ 2000 := by omega
  go_enter Try.func4, Try.ntmps4
  go_wp2_with (first | (go_at_call 9; refine (HC9 _ HB0).mono ?_; rintro e w1 ⟨rfl, B1⟩))
  refine (HC15 _ B1).mono ?_
  rintro e w2 ⟨np, nc, vp, vc, q, c, rfl, G2⟩
  have B2 : Hid (Below w.heap.size w (w2.alloc (.cells #[.int .i64 a1, .int .i64 a2, .int .i64 a3, .slice np l4 nc, .slice vp l5 vc, .int .i64 a6, .int .i64 a7, .int .i64 a8, .slice q l9 c] 25))) := G2.out.1
  clear HC9 HC15
  go_wp2_with fail
  refine (HC18 _ B2).mono ?_
  rintro e w3 ⟨xp, xc, yp, yc, zq, zc, rfl, G3⟩
  clear HC18
  go_wp2_with fail
  obtain ⟨W8, HW8⟩ : ∃ W8, Hid (w3.alloc (.cells #[.int .i64 a1, .int .i64 a2, .int .i64 a3, .slice xp l4 xc, .slice yp l5 yc, .int .i64 a6, .int .i64 a7, .int .i64 a8, .slice zq l9 zc] 30) = W8) := ⟨_, rfl⟩
  obtain ⟨W2, HW2⟩ : ∃ W2, Hid (w2.alloc (.cells #[.int .i64 a1, .int .i64 a2, .int .i64 a3, .slice np l4 nc, .slice vp l5 vc, .int .i64 a6, .int .i64 a7, .int .i64 a8, .slice q l9 c] 25) = W2) := ⟨_, rfl⟩
  obtain ⟨p3, HP3⟩ : ∃ p3, Hid (w2.heap.size = p3) := ⟨_, rfl⟩
  obtain ⟨p5, HP5⟩ : ∃ p5, Hid (w3.heap.size = p5) := ⟨_, rfl⟩
  obtain ⟨CA, HCA⟩ : ∃ CA : Array Value, Hid (#[.int .i64 a1, .int .i64 a2, .int .i64 a3, .slice np l4 nc, .slice vp l5 vc, .int .i64 a6, .int .i64 a7, .int .i64 a8, .slice q l9 c] = CA) := ⟨_, rfl⟩
  obtain ⟨CB, HCB⟩ : ∃ CB : Array Value, Hid (#[.int .i64 a1, .int .i64 a2, .int .i64 a3, .slice xp l4 xc, .slice yp l5 yc, .int .i64 a6, .int .i64 a7, .int .i64 a8, .slice zq l9 zc] = CB) := ⟨_, rfl⟩
  have HG2 : Hid (Below w.heap.size w W2 ∧ W2.heap[p3]? = some (.cells CA 25 (0, 0)) ∧ EnIs W2 (.agg CA) A0) := by rw [← HW2.out, ← HP3.out, ← HCA.out]; exact G2.out
  have HG3 : Hid (Below W2.heap.size W2 W8 ∧ W8.heap[p5]? = some (.cells CB 30 (0, 0)) ∧ EnIs W8 (.agg CB) A0) := by rw [← HW2.out, ← HW8.out, ← HP5.out, ← HCB.out]; exact G3.out
  have HBL : Hid (∀ w', Only [] W8 w' → Below W8.heap.size W8 w') := fun w' ho => ho.below (Nat.le_refl _) (by simp)
  have HB2 : Hid (∀ w', Only [] W8 w' → Below W2.heap.size W2 w') := fun w' ho => HG3.out.1.trans (bel_le (HBL.out w' ho) HG3.out.1.size)
  have HSA : Hid (CA.size = 9) := by rw [← HCA.out]; rfl
  have HSB : Hid (CB.size = 9) := by rw [← HCB.out]; rfl
  have HR3 : Hid (∀ w', Only [] W8 w' → w'.heap[p3]? = some (.cells CA 25 (0, 0)) ∧ CA.size = 9) := fun w' ho => ⟨((HB2.out w' ho).block _ (Array.getElem?_eq_some_iff.1 HG2.out.2.1).1).trans HG2.out.2.1, HSA.out⟩
  have HR5 : Hid (∀ w', Only [] W8 w' → w'.heap[p5]? = some (.cells CB 30 (0, 0)) ∧ CB.size = 9) := fun w' ho => ⟨((HBL.out w' ho).block _ (Array.getElem?_eq_some_iff.1 HG3.out.2.1).1).trans HG3.out.2.1, HSB.out⟩
  have HMA : Hid (∀ w', Only [] W8 w' → Calls Try.prog 11 #[.agg CA] w' fun e u => ∃ v, e = .returned v ∧ EnIs u v A0 ∧ Below w'.heap.size w' u) := fun w' ho => made_any A0 _ w' (HG2.out.2.2.below (HB2.out w' ho)) HWL.out
  have HSS : Hid (∀ w', Only [] W8 w' → ∀ v, EnIs w' v A0 → Calls Try.prog 17 #[v, .agg CB] w' fun e u => e = .returned (.bool true) ∧ Below w'.heap.size w' u) := fun w' ho v hv => by
    have := rSame_any A0 A0 _ _ w' hv (HG3.out.2.2.below (HBL.out w' ho))
    rw [(same_iff A0 A0).2 rfl] at this
    exact this
  have HFI : Hid (∀ w', Only [] W8 w' → Below w.heap.size w w') := fun w' ho => HG2.out.1.trans (bel_le (HB2.out w' ho) HG2.out.1.size)
  have HEA : Hid (∀ w', Only [] W8 w' → EnIs w' (.agg CA) A0) := fun w' ho => HG2.out.2.2.below (HB2.out w' ho)
  rw [HW8.out, HP5.out, HP3.out]
  clear HW8 HW2 HP5 HG2 HG3 HBL HB2 HSA HSB G2 G3 B2 HWL HCB B1 HB0
  have RB : ∀ k w w', Below w.heap.size w w' → (fun (_ : Nat) (_ : World) => True) k w → (fun (_ : Nat) (_ : World) => True) k w' := fun _ _ _ _ _ => trivial
  refine wp_region_st (de7t CA CB A0) (fun u u' => Only [] u u') (SeqS [] (fun (_ : Nat) (_ : World) => True)) (by kernel_rfl) (only_drew _ _) (only_trans _) (de7t_kept CA CB A0) (by kernel_rfl) (SeqS.start (trivial)) ?_ ?_
  · intro i o a' w' f hi inv hS hfi hfw hpre
    have ho : Only [] W8 w' := inv.grow
    have hlt : i < 19 := (Array.getElem?_eq_some_iff.1 hi).1
    obtain rfl|rfl|rfl|rfl|rfl|rfl|rfl|rfl|rfl|rfl|rfl|rfl|rfl|rfl|rfl|rfl|rfl|rfl|rfl : i = 0 ∨ i = 1 ∨ i = 2 ∨ i = 3 ∨ i = 4 ∨ i = 5 ∨ i = 6 ∨ i = 7 ∨ i = 8 ∨ i = 9 ∨ i = 10 ∨ i = 11 ∨ i = 12 ∨ i = 13 ∨ i = 14 ∨ i = 15 ∨ i = 16 ∨ i = 17 ∨ i = 18 := by omega
    · obtain rfl := Option.some.inj hi
      exact sq_value _ rfl rfl rfl (Below.refl _ _) (by decide) hS RB (by show a'.tmps.getD 6 undef = _; rw [inv.old 6 (notDst_spec (by kernel_rfl))]; rfl)
    · obtain rfl := Option.some.inj hi
      exact sq_value _ rfl rfl rfl (Below.refl _ _) (by decide) hS RB (by show a'.tmps.getD 4 undef = _; rw [inv.old 4 (notDst_spec (by kernel_rfl))]; rfl)
    · obtain rfl := Option.some.inj hi
      have h0 : a'.tmps.getD 25 undef = _ := pre_of hpre 1 25 (by kernel_rfl) (by kernel_rfl)
      exact sq_value _ rfl rfl (eqlE_run 25 _ _ rfl h0) (Below.refl _ _) (by decide) hS RB (by show Value.bool _ = _; simp)
    · obtain rfl := Option.some.inj hi
      have h0 : a'.tmps.getD 24 undef = _ := pre_of hpre 0 24 (by kernel_rfl) (by kernel_rfl)
      have h1 : a'.tmps.getD 26 undef = _ := pre_of hpre 2 26 (by kernel_rfl) (by kernel_rfl)
      exact sq_value _ rfl rfl (neqB_run 24 26 _ _ rfl h0 h1) (Below.refl _ _) (by decide) hS RB rfl
    · obtain rfl := Option.some.inj hi
      have h0 := pre_of hpre 3 27 (by kernel_rfl) (by kernel_rfl)
      exact sq_value _ rfl rfl (rfl) (Below.refl _ _) (by decide) hS RB h0
    · obtain rfl := Option.some.inj hi
      have hgu : a'.tmps.getD 28 undef = _ := pre_of hpre 4 28 (by kernel_rfl) (by kernel_rfl)
      exact sq_value _ rfl (wanted_of 4 28 false rfl (by kernel_rfl) hgu) rfl (Below.refl _ _) (by decide) hS RB (by show a'.tmps.getD 6 undef = _; rw [inv.old 6 (notDst_spec (by kernel_rfl))]; rfl)
    · obtain rfl := Option.some.inj hi
      have hgu : a'.tmps.getD 28 undef = _ := pre_of hpre 4 28 (by kernel_rfl) (by kernel_rfl)
      have h0 : a'.tmps.getD 29 undef = _ := pre_of hpre 5 29 (by kernel_rfl) (by kernel_rfl)
      exact sq_value _ rfl (wanted_of 4 28 false rfl (by kernel_rfl) hgu) (not_run 29 true rfl h0) (Below.refl _ _) (by decide) hS RB rfl
    · obtain rfl := Option.some.inj hi
      have hgu : a'.tmps.getD 28 undef = _ := pre_of hpre 4 28 (by kernel_rfl) (by kernel_rfl)
      have h0 := pre_of hpre 6 30 (by kernel_rfl) (by kernel_rfl)
      exact sq_value _ rfl (wanted_of 4 28 false rfl (by kernel_rfl) hgu) (rfl) (Below.refl _ _) (by decide) hS RB h0
    · obtain rfl := Option.some.inj hi
      have hgu : a'.tmps.getD 31 undef = _ := pre_of hpre 7 31 (by kernel_rfl) (by kernel_rfl)
      exact sq_skip rfl (unwanted_of 7 31 false rfl (by kernel_rfl) hgu) (by decide) hS rfl
    · obtain rfl := Option.some.inj hi
      have hgu : a'.tmps.getD 31 undef = _ := pre_of hpre 7 31 (by kernel_rfl) (by kernel_rfl)
      exact sq_skip rfl (unwanted_of 7 31 false rfl (by kernel_rfl) hgu) (by decide) hS rfl
    · obtain rfl := Option.some.inj hi
      have hgu : a'.tmps.getD 28 undef = _ := pre_of hpre 4 28 (by kernel_rfl) (by kernel_rfl)
      have h0 : a'.tmps.getD 31 undef = _ := pre_of hpre 7 31 (by kernel_rfl) (by kernel_rfl)
      exact sq_value _ rfl (wanted_of 4 28 false rfl (by kernel_rfl) hgu) (pick_run 31 false _ _ _ _ rfl h0 rfl rfl) (Below.refl _ _) (by decide) hS RB rfl
    · obtain rfl := Option.some.inj hi
      have h0 : a'.tmps.getD 28 undef = _ := pre_of hpre 4 28 (by kernel_rfl) (by kernel_rfl)
      have h1 : a'.tmps.getD 34 undef = _ := pre_of hpre 10 34 (by kernel_rfl) (by kernel_rfl)
      exact sq_value _ rfl rfl (pick_run 28 false _ _ _ _ rfl h0 rfl h1) (Below.refl _ _) (by decide) hS RB rfl
    · obtain rfl := Option.some.inj hi
      have h0 := pre_of hpre 11 35 (by kernel_rfl) (by kernel_rfl)
      exact sq_value _ rfl rfl (rfl) (Below.refl _ _) (by decide) hS RB h0
    · obtain rfl := Option.some.inj hi
      have hgu : a'.tmps.getD 36 undef = _ := pre_of hpre 12 36 (by kernel_rfl) (by kernel_rfl)
      have h0 : a'.tmps.getD 3 undef = (.pointer (some ⟨p3, 0, none⟩)) := by rw [inv.old 3 (notDst_spec (by kernel_rfl))]; rfl
      exact sq_value _ rfl (wanted_of 12 36 false rfl (by kernel_rfl) hgu) (load_run 25 3 p3 (0) _ rfl h0 (ld25 (HR3.out w' ho))) (Below.refl _ _) (by decide) hS RB rfl
    · obtain rfl := Option.some.inj hi
      have hgu : a'.tmps.getD 36 undef = _ := pre_of hpre 12 36 (by kernel_rfl) (by kernel_rfl)
      have h0 : a'.tmps.getD 37 undef = _ := pre_of hpre 13 37 (by kernel_rfl) (by kernel_rfl)
      refine sq_quiet 11 #[a'.tmps.getD 37 undef] rfl (wanted_of 12 36 false rfl (by kernel_rfl) hgu) (by kernel_rfl) (by decide) hS ?_
      rw [h0]
      exact (HMA.out w' ho).mono (by rintro e u ⟨v, rfl, h1, h2⟩; exact ⟨_, rfl, Only.of_below h2 _, (fun _ h => h), h1⟩)
    · obtain rfl := Option.some.inj hi
      have hgu : a'.tmps.getD 36 undef = _ := pre_of hpre 12 36 (by kernel_rfl) (by kernel_rfl)
      have h0 : a'.tmps.getD 5 undef = (.pointer (some ⟨p5, 0, none⟩)) := by rw [inv.old 5 (notDst_spec (by kernel_rfl))]; rfl
      exact sq_value _ rfl (wanted_of 12 36 false rfl (by kernel_rfl) hgu) (load_run 30 5 p5 (0) _ rfl h0 (ld30 (HR5.out w' ho))) (Below.refl _ _) (by decide) hS RB rfl
    · obtain rfl := Option.some.inj hi
      have hgu : a'.tmps.getD 36 undef = _ := pre_of hpre 12 36 (by kernel_rfl) (by kernel_rfl)
      have h0 := pre_of hpre 14 38 (by kernel_rfl) (by kernel_rfl)
      have h1 : a'.tmps.getD 39 undef = _ := pre_of hpre 15 39 (by kernel_rfl) (by kernel_rfl)
      refine sq_quiet 17 #[a'.tmps.getD 38 undef, a'.tmps.getD 39 undef] rfl (wanted_of 12 36 false rfl (by kernel_rfl) hgu) (by kernel_rfl) (by decide) hS ?_
      rw [h1]
      exact (HSS.out w' ho _ h0).mono (by rintro e u ⟨rfl, h2⟩; exact ⟨_, rfl, Only.of_below h2 _, (fun _ h => h), rfl⟩)
    · obtain rfl := Option.some.inj hi
      have hgu : a'.tmps.getD 36 undef = _ := pre_of hpre 12 36 (by kernel_rfl) (by kernel_rfl)
      have h0 : a'.tmps.getD 40 undef = _ := pre_of hpre 16 40 (by kernel_rfl) (by kernel_rfl)
      exact sq_value _ rfl (wanted_of 12 36 false rfl (by kernel_rfl) hgu) (not_run 40 true rfl h0) (Below.refl _ _) (by decide) hS RB rfl
    · obtain rfl := Option.some.inj hi
      have h0 : a'.tmps.getD 36 undef = _ := pre_of hpre 12 36 (by kernel_rfl) (by kernel_rfl)
      have h1 : a'.tmps.getD 41 undef = _ := pre_of hpre 17 41 (by kernel_rfl) (by kernel_rfl)
      exact sq_value _ rfl rfl (pick_run 36 false _ _ _ _ rfl h0 rfl h1) (Below.refl _ _) (by decide) hS RB rfl
  · intro a' w9 f inv hS hall hd
    have hk18 := hd 18 42 (by kernel_rfl)
    have ho : Only [] W8 w9 := inv.grow
    have hdf : a'.defers = [] := inv.defers
    have hsz : a'.tmps.size = 59 := inv.size
    have e := frame4_7 hsz (fun t ht => inv.old t (dstsIn_spec (ts := [24, 25, 26, 27, 28, 29, 30, 31, 32, 33, 34, 35, 36, 37, 38, 39, 40, 41, 42]) (by kernel_rfl) t ht))
    have hR := hS.done (fun c hc => hall c (show c < 19 by simp at hc <;> omega))
    clear inv hd hsz hall hS
    obtain ⟨tmps, defers⟩ := a'
    obtain rfl : defers = [] := hdf
    replace e : tmps = _ := e
    replace hk18 : tmps.getD 42 undef = (.bool false) := hk18
    generalize tmps.getD 24 undef = x24 at *
    generalize tmps.getD 25 undef = x25 at *
    generalize tmps.getD 26 undef = x26 at *
    generalize tmps.getD 27 undef = x27 at *
    generalize tmps.getD 28 undef = x28 at *
    generalize tmps.getD 29 undef = x29 at *
    generalize tmps.getD 30 undef = x30 at *
    generalize tmps.getD 31 undef = x31 at *
    generalize tmps.getD 32 undef = x32 at *
    generalize tmps.getD 33 undef = x33 at *
    generalize tmps.getD 34 undef = x34 at *
    generalize tmps.getD 35 undef = x35 at *
    generalize tmps.getD 36 undef = x36 at *
    generalize tmps.getD 37 undef = x37 at *
    generalize tmps.getD 38 undef = x38 at *
    generalize tmps.getD 39 undef = x39 at *
    generalize tmps.getD 40 undef = x40 at *
    generalize tmps.getD 41 undef = x41 at *
    generalize tmps.getD 42 undef = x42 at *
    simp only [Array.getD_eq_getD_getElem?, List.getElem?_toArray, List.getElem?_cons_succ, List.getElem?_cons_zero, Option.getD_some] at e
    subst e
    subst hk18
    have HB9 : Hid (Below w.heap.size w w9) := HFI.out _ ho
    have e3 : w2.heap.size = p3 := HP3.out
    subst e3
    have hrow := (HR3.out _ ho).1
    have hea := HEA.out _ ho
    rw [← HCA.out] at hrow hea
    have E9 : Hid (EnIs w9 (.agg #[.int .i64 a1, .int .i64 a2, .int .i64 a3, .slice np l4 nc, .slice vp l5 vc, .int .i64 a6, .int .i64 a7, .int .i64 a8, .slice q l9 c]) A0 ∧ Below w.heap.size w w9) := ⟨hea, HB9.out⟩
    clear hea ho HFI HR3 HR5 HMA HSS HEA HCA
    have d0 : w9.cell? ⟨w2.heap.size, 0, none⟩ = some (.int .i64 a1) := by rw [cell_of_row _ _ _ _ _ _ hrow]; rfl
    have d1 : w9.cell? ⟨w2.heap.size, 1, none⟩ = some (.int .i64 a2) := by rw [cell_of_row _ _ _ _ _ _ hrow]; rfl
    have d2 : w9.cell? ⟨w2.heap.size, 2, none⟩ = some (.int .i64 a3) := by rw [cell_of_row _ _ _ _ _ _ hrow]; rfl
    have d3 : w9.cell? ⟨w2.heap.size, 3, none⟩ = some (.slice np l4 nc) := by rw [cell_of_row _ _ _ _ _ _ hrow]; rfl
    have d4 : w9.cell? ⟨w2.heap.size, 4, none⟩ = some (.slice vp l5 vc) := by rw [cell_of_row _ _ _ _ _ _ hrow]; rfl
    have d5 : w9.cell? ⟨w2.heap.size, 5, none⟩ = some (.int .i64 a6) := by rw [cell_of_row _ _ _ _ _ _ hrow]; rfl
    have d6 : w9.cell? ⟨w2.heap.size, 6, none⟩ = some (.int .i64 a7) := by rw [cell_of_row _ _ _ _ _ _ hrow]; rfl
    have d7 : w9.cell? ⟨w2.heap.size, 7, none⟩ = some (.int .i64 a8) := by rw [cell_of_row _ _ _ _ _ _ hrow]; rfl
    have d8 : w9.cell? ⟨w2.heap.size, 8, none⟩ = some (.slice q l9 c) := by rw [cell_of_row _ _ _ _ _ _ hrow]; rfl
    clear hrow
    go_wp2_with fail
    refine (HC12 _ _ _ _ _ _ _ E9).mono ?_
    rintro e w10 ⟨q2, n2, c2, rfl, B10, V10⟩
    obtain ⟨sx, sy, cx, cy, hq⟩ := V10.out
    clear V10 HC12
    go_wp2_with fail
    go_ret
    exact ⟨rfl, B10.out⟩
set_option maxHeartbeats 8000000 in
theorem dec_f (l : List Nat) (sq : Option Addr) (sc : Nat) (w : World) (hs : Src w (.slice sq l.length sc) l) (hl : l.length ≤ 2000) (hd : dec false l = none) : Calls Try.prog 4 #[.slice sq l.length sc] w fun e w' => e = .returned (.bool true) ∧ Below w.heap.size w w' := by
  have hdt : dec true l = dec false l := dec_both l hs.small
  have HS : Hid (∀ W, Below w.heap.size w W → Src W (.slice sq l.length sc) l) := fun W h => hs.below h
  have HC9 : ∀ W, Hid (Below w.heap.size w W) → Calls Try.prog 9 #[] W fun e w' => e = .returned (.bool true) ∧ Hid (Below w.heap.size w w') := fun W h => (anchor_any W).mono (by rintro e w' ⟨rfl, hb⟩; exact ⟨rfl, h.out.trans (bel_le hb h.out.size)⟩)
  have HC15 : ∀ W, Hid (Below w.heap.size w W) → Calls Try.prog 15 #[.slice sq l.length sc] W fun e w' => e = .returned (.tuple #[.agg #[.int .i64 0, .int .i64 0, .int .i64 0, .slice none 0 0, .slice none 0 0, .int .i64 0, .int .i64 0, .int .i64 0, .slice none 0 0], .int .i64 10]) ∧ Hid (Below w.heap.size w (w'.alloc (.cells #[.int .i64 0, .int .i64 0, .int .i64 0, .slice none 0 0, .slice none 0 0, .int .i64 0, .int .i64 0, .int .i64 0, .slice none 0 0] 25)) ∧ (w'.alloc (.cells #[.int .i64 0, .int .i64 0, .int .i64 0, .slice none 0 0, .slice none 0 0, .int .i64 0, .int .i64 0, .int .i64 0, .slice none 0 0] 25)).heap[w'.heap.size]? = some (.cells #[.int .i64 0, .int .i64 0, .int .i64 0, .slice none 0 0, .slice none 0 0, .int .i64 0, .int .i64 0, .int .i64 0, .slice none 0 0] 25 (0, 0)) ∧ EnIs (w'.alloc (.cells #[.int .i64 0, .int .i64 0, .int .i64 0, .slice none 0 0, .slice none 0 0, .int .i64 0, .int .i64 0, .int .i64 0, .slice none 0 0] 25)) (.agg #[.int .i64 0, .int .i64 0, .int .i64 0, .slice none 0 0, .slice none 0 0, .int .i64 0, .int .i64 0, .int .i64 0, .slice none 0 0]) ⟨0, 0, 0, [], [], 0, 0, 0, []⟩) := fun W h => (Decode_any _ _ W (HS.out W h.out) (by omega)).mono (by
    rintro e w' ⟨hb, ⟨E, v, hd2, rfl, hn⟩ | ⟨_, rfl⟩⟩
    · rw [hd] at hd2; cases hd2
    · have hal : Below w'.heap.size w' (w'.alloc (.cells #[.int .i64 0, .int .i64 0, .int .i64 0, .slice none 0 0, .slice none 0 0, .int .i64 0, .int .i64 0, .int .i64 0, .slice none 0 0] 25)) := bel_alloc (Nat.le_refl _) _
      have hb2 := h.out.trans (bel_le hb h.out.size)
      exact ⟨rfl, hb2.trans (bel_le hal hb2.size), heap_alloc_new w' _, none, 0, none, 0, none, 0, rfl, Src.nil _, Src.nil _, WrRow.nil _ _, by simp, by simp, by simp⟩)
  have HC18 : ∀ W, Hid (Below w.heap.size w W) → Calls Try.prog 18 #[.slice sq l.length sc] W fun e w' => e = .returned (.tuple #[.agg #[.int .i64 0, .int .i64 0, .int .i64 0, .slice none 0 0, .slice none 0 0, .int .i64 0, .int .i64 0, .int .i64 0, .slice none 0 0], .bool false]) ∧ Hid (Below W.heap.size W (w'.alloc (.cells #[.int .i64 0, .int .i64 0, .int .i64 0, .slice none 0 0, .slice none 0 0, .int .i64 0, .int .i64 0, .int .i64 0, .slice none 0 0] 30)) ∧ (w'.alloc (.cells #[.int .i64 0, .int .i64 0, .int .i64 0, .slice none 0 0, .slice none 0 0, .int .i64 0, .int .i64 0, .int .i64 0, .slice none 0 0] 30)).heap[w'.heap.size]? = some (.cells #[.int .i64 0, .int .i64 0, .int .i64 0, .slice none 0 0, .slice none 0 0, .int .i64 0, .int .i64 0, .int .i64 0, .slice none 0 0] 30 (0, 0)) ∧ EnIs (w'.alloc (.cells #[.int .i64 0, .int .i64 0, .int .i64 0, .slice none 0 0, .slice none 0 0, .int .i64 0, .int .i64 0, .int .i64 0, .slice none 0 0] 30)) (.agg #[.int .i64 0, .int .i64 0, .int .i64 0, .slice none 0 0, .slice none 0 0, .int .i64 0, .int .i64 0, .int .i64 0, .slice none 0 0]) ⟨0, 0, 0, [], [], 0, 0, 0, []⟩) := fun W h => (Read_any _ _ W (HS.out W h.out) (by omega)).mono (by
    rintro e w' ⟨hb, ⟨E, v, hd2, rfl, hn⟩ | ⟨_, rfl⟩⟩
    · rw [hdt, hd] at hd2; cases hd2
    · have hal : Below w'.heap.size w' (w'.alloc (.cells #[.int .i64 0, .int .i64 0, .int .i64 0, .slice none 0 0, .slice none 0 0, .int .i64 0, .int .i64 0, .int .i64 0, .slice none 0 0] 30)) := bel_alloc (Nat.le_refl _) _
      exact ⟨rfl, hb.trans (bel_le hal hb.size), heap_alloc_new w' _, none, 0, none, 0, none, 0, rfl, Src.nil _, Src.nil _, WrRow.nil _ _, by simp, by simp, by simp⟩)
  obtain ⟨A0, HA0⟩ : ∃ A0 : En, Hid (⟨0, 0, 0, [], [], 0, 0, 0, []⟩ = A0) := ⟨_, rfl⟩
  rw [HA0.out] at HC15 HC18
  have HWL : Hid (A0.wraps.length ≤ 100000) := by rw [← HA0.out]; exact Nat.zero_le _
  have HB0 : Hid (Below w.heap.size w w) := Below.refl _ _
  clear hs hd hdt HS HA0
  generalize l.length = ln at *
  have ln1 : (ln : Int) ≤ 2000 := by omega
  go_enter Try.func4, Try.ntmps4
  go_wp2_with (first | (go_at_call 9; refine (HC9 _ HB0).mono ?_; rintro e w1 ⟨rfl, B1⟩))
  refine (HC15 _ B1).mono ?_
  rintro e w2 ⟨rfl, G2⟩
  have B2 : Hid (Below w.heap.size w (w2.alloc (.cells #[.int .i64 0, .int .i64 0, .int .i64 0, .slice none 0 0, .slice none 0 0, .int .i64 0, .int .i64 0, .int .i64 0, .slice none 0 0] 25))) := G2.out.1
  clear HC9 HC15
  go_wp2_with fail
  refine (HC18 _ B2).mono ?_
  rintro e w3 ⟨rfl, G3⟩
  clear HC18
  go_wp2_with fail
  obtain ⟨W8, HW8⟩ : ∃ W8, Hid (w3.alloc (.cells #[.int .i64 0, .int .i64 0, .int .i64 0, .slice none 0 0, .slice none 0 0, .int .i64 0, .int .i64 0, .int .i64 0, .slice none 0 0] 30) = W8) := ⟨_, rfl⟩
  obtain ⟨W2, HW2⟩ : ∃ W2, Hid (w2.alloc (.cells #[.int .i64 0, .int .i64 0, .int .i64 0, .slice none 0 0, .slice none 0 0, .int .i64 0, .int .i64 0, .int .i64 0, .slice none 0 0] 25) = W2) := ⟨_, rfl⟩
  obtain ⟨p3, HP3⟩ : ∃ p3, Hid (w2.heap.size = p3) := ⟨_, rfl⟩
  obtain ⟨p5, HP5⟩ : ∃ p5, Hid (w3.heap.size = p5) := ⟨_, rfl⟩
  obtain ⟨CA, HCA⟩ : ∃ CA : Array Value, Hid (#[.int .i64 0, .int .i64 0, .int .i64 0, .slice none 0 0, .slice none 0 0, .int .i64 0, .int .i64 0, .int .i64 0, .slice none 0 0] = CA) := ⟨_, rfl⟩
  obtain ⟨CB, HCB⟩ : ∃ CB : Array Value, Hid (#[.int .i64 0, .int .i64 0, .int .i64 0, .slice none 0 0, .slice none 0 0, .int .i64 0, .int .i64 0, .int .i64 0, .slice none 0 0] = CB) := ⟨_, rfl⟩
  have HG2 : Hid (Below w.heap.size w W2 ∧ W2.heap[p3]? = some (.cells CA 25 (0, 0)) ∧ EnIs W2 (.agg CA) A0) := by rw [← HW2.out, ← HP3.out, ← HCA.out]; exact G2.out
  have HG3 : Hid (Below W2.heap.size W2 W8 ∧ W8.heap[p5]? = some (.cells CB 30 (0, 0)) ∧ EnIs W8 (.agg CB) A0) := by rw [← HW2.out, ← HW8.out, ← HP5.out, ← HCB.out]; exact G3.out
  have HBL : Hid (∀ w', Only [] W8 w' → Below W8.heap.size W8 w') := fun w' ho => ho.below (Nat.le_refl _) (by simp)
  have HB2 : Hid (∀ w', Only [] W8 w' → Below W2.heap.size W2 w') := fun w' ho => HG3.out.1.trans (bel_le (HBL.out w' ho) HG3.out.1.size)
  have HSA : Hid (CA.size = 9) := by rw [← HCA.out]; rfl
  have HSB : Hid (CB.size = 9) := by rw [← HCB.out]; rfl
  have HR3 : Hid (∀ w', Only [] W8 w' → w'.heap[p3]? = some (.cells CA 25 (0, 0)) ∧ CA.size = 9) := fun w' ho => ⟨((HB2.out w' ho).block _ (Array.getElem?_eq_some_iff.1 HG2.out.2.1).1).trans HG2.out.2.1, HSA.out⟩
  have HR5 : Hid (∀ w', Only [] W8 w' → w'.heap[p5]? = some (.cells CB 30 (0, 0)) ∧ CB.size = 9) := fun w' ho => ⟨((HBL.out w' ho).block _ (Array.getElem?_eq_some_iff.1 HG3.out.2.1).1).trans HG3.out.2.1, HSB.out⟩
  have HMA : Hid (∀ w', Only [] W8 w' → Calls Try.prog 11 #[.agg CA] w' fun e u => ∃ v, e = .returned v ∧ EnIs u v A0 ∧ Below w'.heap.size w' u) := fun w' ho => made_any A0 _ w' (HG2.out.2.2.below (HB2.out w' ho)) HWL.out
  have HSS : Hid (∀ w', Only [] W8 w' → ∀ v, EnIs w' v A0 → Calls Try.prog 17 #[v, .agg CB] w' fun e u => e = .returned (.bool true) ∧ Below w'.heap.size w' u) := fun w' ho v hv => by
    have := rSame_any A0 A0 _ _ w' hv (HG3.out.2.2.below (HBL.out w' ho))
    rw [(same_iff A0 A0).2 rfl] at this
    exact this
  have HFI : Hid (∀ w', Only [] W8 w' → Below w.heap.size w w') := fun w' ho => HG2.out.1.trans (bel_le (HB2.out w' ho) HG2.out.1.size)
  rw [HW8.out, HP5.out, HP3.out]
  clear HW8 HW2 HP5 HG2 HG3 HBL HB2 HSA HSB G2 G3 B2 HWL HCB B1 HB0
  have RB : ∀ k w w', Below w.heap.size w w' → (fun (_ : Nat) (_ : World) => True) k w → (fun (_ : Nat) (_ : World) => True) k w' := fun _ _ _ _ _ => trivial
  refine wp_region_st (de7f CA CB A0) (fun u u' => Only [] u u') (SeqS [] (fun (_ : Nat) (_ : World) => True)) (by kernel_rfl) (only_drew _ _) (only_trans _) (de7f_kept CA CB A0) (by kernel_rfl) (SeqS.start (trivial)) ?_ ?_
  · intro i o a' w' f hi inv hS hfi hfw hpre
    have ho : Only [] W8 w' := inv.grow
    have hlt : i < 19 := (Array.getElem?_eq_some_iff.1 hi).1
    obtain rfl|rfl|rfl|rfl|rfl|rfl|rfl|rfl|rfl|rfl|rfl|rfl|rfl|rfl|rfl|rfl|rfl|rfl|rfl : i = 0 ∨ i = 1 ∨ i = 2 ∨ i = 3 ∨ i = 4 ∨ i = 5 ∨ i = 6 ∨ i = 7 ∨ i = 8 ∨ i = 9 ∨ i = 10 ∨ i = 11 ∨ i = 12 ∨ i = 13 ∨ i = 14 ∨ i = 15 ∨ i = 16 ∨ i = 17 ∨ i = 18 := by omega
    · obtain rfl := Option.some.inj hi
      exact sq_value _ rfl rfl rfl (Below.refl _ _) (by decide) hS RB (by show a'.tmps.getD 6 undef = _; rw [inv.old 6 (notDst_spec (by kernel_rfl))]; rfl)
    · obtain rfl := Option.some.inj hi
      exact sq_value _ rfl rfl rfl (Below.refl _ _) (by decide) hS RB (by show a'.tmps.getD 4 undef = _; rw [inv.old 4 (notDst_spec (by kernel_rfl))]; rfl)
    · obtain rfl := Option.some.inj hi
      have h0 : a'.tmps.getD 25 undef = _ := pre_of hpre 1 25 (by kernel_rfl) (by kernel_rfl)
      exact sq_value _ rfl rfl (eqlE_run 25 _ _ rfl h0) (Below.refl _ _) (by decide) hS RB (by show Value.bool _ = _; simp)
    · obtain rfl := Option.some.inj hi
      have h0 : a'.tmps.getD 24 undef = _ := pre_of hpre 0 24 (by kernel_rfl) (by kernel_rfl)
      have h1 : a'.tmps.getD 26 undef = _ := pre_of hpre 2 26 (by kernel_rfl) (by kernel_rfl)
      exact sq_value _ rfl rfl (neqB_run 24 26 _ _ rfl h0 h1) (Below.refl _ _) (by decide) hS RB rfl
    · obtain rfl := Option.some.inj hi
      have h0 := pre_of hpre 3 27 (by kernel_rfl) (by kernel_rfl)
      exact sq_value _ rfl rfl (rfl) (Below.refl _ _) (by decide) hS RB h0
    · obtain rfl := Option.some.inj hi
      have hgu : a'.tmps.getD 28 undef = _ := pre_of hpre 4 28 (by kernel_rfl) (by kernel_rfl)
      exact sq_value _ rfl (wanted_of 4 28 false rfl (by kernel_rfl) hgu) rfl (Below.refl _ _) (by decide) hS RB (by show a'.tmps.getD 6 undef = _; rw [inv.old 6 (notDst_spec (by kernel_rfl))]; rfl)
    · obtain rfl := Option.some.inj hi
      have hgu : a'.tmps.getD 28 undef = _ := pre_of hpre 4 28 (by kernel_rfl) (by kernel_rfl)
      have h0 : a'.tmps.getD 29 undef = _ := pre_of hpre 5 29 (by kernel_rfl) (by kernel_rfl)
      exact sq_value _ rfl (wanted_of 4 28 false rfl (by kernel_rfl) hgu) (not_run 29 false rfl h0) (Below.refl _ _) (by decide) hS RB rfl
    · obtain rfl := Option.some.inj hi
      have hgu : a'.tmps.getD 28 undef = _ := pre_of hpre 4 28 (by kernel_rfl) (by kernel_rfl)
      have h0 := pre_of hpre 6 30 (by kernel_rfl) (by kernel_rfl)
      exact sq_value _ rfl (wanted_of 4 28 false rfl (by kernel_rfl) hgu) (rfl) (Below.refl _ _) (by decide) hS RB h0
    · obtain rfl := Option.some.inj hi
      have hgu : a'.tmps.getD 31 undef = _ := pre_of hpre 7 31 (by kernel_rfl) (by kernel_rfl)
      exact sq_value _ rfl (wanted_of 7 31 true rfl (by kernel_rfl) hgu) rfl (Below.refl _ _) (by decide) hS RB (by show a'.tmps.getD 4 undef = _; rw [inv.old 4 (notDst_spec (by kernel_rfl))]; rfl)
    · obtain rfl := Option.some.inj hi
      have hgu : a'.tmps.getD 31 undef = _ := pre_of hpre 7 31 (by kernel_rfl) (by kernel_rfl)
      have h0 : a'.tmps.getD 32 undef = _ := pre_of hpre 8 32 (by kernel_rfl) (by kernel_rfl)
      exact sq_value _ rfl (wanted_of 7 31 true rfl (by kernel_rfl) hgu) (neqE_run 32 _ _ rfl h0) (Below.refl _ _) (by decide) hS RB (by show Value.bool _ = _; simp)
    · obtain rfl := Option.some.inj hi
      have hgu : a'.tmps.getD 28 undef = _ := pre_of hpre 4 28 (by kernel_rfl) (by kernel_rfl)
      have h0 : a'.tmps.getD 31 undef = _ := pre_of hpre 7 31 (by kernel_rfl) (by kernel_rfl)
      have h1 : a'.tmps.getD 33 undef = _ := pre_of hpre 9 33 (by kernel_rfl) (by kernel_rfl)
      exact sq_value _ rfl (wanted_of 4 28 false rfl (by kernel_rfl) hgu) (pick_run 31 true _ _ _ _ rfl h0 h1 rfl) (Below.refl _ _) (by decide) hS RB rfl
    · obtain rfl := Option.some.inj hi
      have h0 : a'.tmps.getD 28 undef = _ := pre_of hpre 4 28 (by kernel_rfl) (by kernel_rfl)
      have h1 : a'.tmps.getD 34 undef = _ := pre_of hpre 10 34 (by kernel_rfl) (by kernel_rfl)
      exact sq_value _ rfl rfl (pick_run 28 false _ _ _ _ rfl h0 rfl h1) (Below.refl _ _) (by decide) hS RB rfl
    · obtain rfl := Option.some.inj hi
      have h0 := pre_of hpre 11 35 (by kernel_rfl) (by kernel_rfl)
      exact sq_value _ rfl rfl (rfl) (Below.refl _ _) (by decide) hS RB h0
    · obtain rfl := Option.some.inj hi
      have hgu : a'.tmps.getD 36 undef = _ := pre_of hpre 12 36 (by kernel_rfl) (by kernel_rfl)
      have h0 : a'.tmps.getD 3 undef = (.pointer (some ⟨p3, 0, none⟩)) := by rw [inv.old 3 (notDst_spec (by kernel_rfl))]; rfl
      exact sq_value _ rfl (wanted_of 12 36 false rfl (by kernel_rfl) hgu) (load_run 25 3 p3 (0) _ rfl h0 (ld25 (HR3.out w' ho))) (Below.refl _ _) (by decide) hS RB rfl
    · obtain rfl := Option.some.inj hi
      have hgu : a'.tmps.getD 36 undef = _ := pre_of hpre 12 36 (by kernel_rfl) (by kernel_rfl)
      have h0 : a'.tmps.getD 37 undef = _ := pre_of hpre 13 37 (by kernel_rfl) (by kernel_rfl)
      refine sq_quiet 11 #[a'.tmps.getD 37 undef] rfl (wanted_of 12 36 false rfl (by kernel_rfl) hgu) (by kernel_rfl) (by decide) hS ?_
      rw [h0]
      exact (HMA.out w' ho).mono (by rintro e u ⟨v, rfl, h1, h2⟩; exact ⟨_, rfl, Only.of_below h2 _, (fun _ h => h), h1⟩)
    · obtain rfl := Option.some.inj hi
      have hgu : a'.tmps.getD 36 undef = _ := pre_of hpre 12 36 (by kernel_rfl) (by kernel_rfl)
      have h0 : a'.tmps.getD 5 undef = (.pointer (some ⟨p5, 0, none⟩)) := by rw [inv.old 5 (notDst_spec (by kernel_rfl))]; rfl
      exact sq_value _ rfl (wanted_of 12 36 false rfl (by kernel_rfl) hgu) (load_run 30 5 p5 (0) _ rfl h0 (ld30 (HR5.out w' ho))) (Below.refl _ _) (by decide) hS RB rfl
    · obtain rfl := Option.some.inj hi
      have hgu : a'.tmps.getD 36 undef = _ := pre_of hpre 12 36 (by kernel_rfl) (by kernel_rfl)
      have h0 := pre_of hpre 14 38 (by kernel_rfl) (by kernel_rfl)
      have h1 : a'.tmps.getD 39 undef = _ := pre_of hpre 15 39 (by kernel_rfl) (by kernel_rfl)
      refine sq_quiet 17 #[a'.tmps.getD 38 undef, a'.tmps.getD 39 undef] rfl (wanted_of 12 36 false rfl (by kernel_rfl) hgu) (by kernel_rfl) (by decide) hS ?_
      rw [h1]
      exact (HSS.out w' ho _ h0).mono (by rintro e u ⟨rfl, h2⟩; exact ⟨_, rfl, Only.of_below h2 _, (fun _ h => h), rfl⟩)
    · obtain rfl := Option.some.inj hi
      have hgu : a'.tmps.getD 36 undef = _ := pre_of hpre 12 36 (by kernel_rfl) (by kernel_rfl)
      have h0 : a'.tmps.getD 40 undef = _ := pre_of hpre 16 40 (by kernel_rfl) (by kernel_rfl)
      exact sq_value _ rfl (wanted_of 12 36 false rfl (by kernel_rfl) hgu) (not_run 40 true rfl h0) (Below.refl _ _) (by decide) hS RB rfl
    · obtain rfl := Option.some.inj hi
      have h0 : a'.tmps.getD 36 undef = _ := pre_of hpre 12 36 (by kernel_rfl) (by kernel_rfl)
      have h1 : a'.tmps.getD 41 undef = _ := pre_of hpre 17 41 (by kernel_rfl) (by kernel_rfl)
      exact sq_value _ rfl rfl (pick_run 36 false _ _ _ _ rfl h0 rfl h1) (Below.refl _ _) (by decide) hS RB rfl
  · intro a' w9 f inv hS hall hd
    have hk18 := hd 18 42 (by kernel_rfl)
    have ho : Only [] W8 w9 := inv.grow
    have hdf : a'.defers = [] := inv.defers
    have hsz : a'.tmps.size = 59 := inv.size
    have e := frame4_7 hsz (fun t ht => inv.old t (dstsIn_spec (ts := [24, 25, 26, 27, 28, 29, 30, 31, 32, 33, 34, 35, 36, 37, 38, 39, 40, 41, 42]) (by kernel_rfl) t ht))
    have hR := hS.done (fun c hc => hall c (show c < 19 by simp at hc <;> omega))
    clear inv hd hsz hall hS
    obtain ⟨tmps, defers⟩ := a'
    obtain rfl : defers = [] := hdf
    replace e : tmps = _ := e
    replace hk18 : tmps.getD 42 undef = (.bool false) := hk18
    generalize tmps.getD 24 undef = x24 at *
    generalize tmps.getD 25 undef = x25 at *
    generalize tmps.getD 26 undef = x26 at *
    generalize tmps.getD 27 undef = x27 at *
    generalize tmps.getD 28 undef = x28 at *
    generalize tmps.getD 29 undef = x29 at *
    generalize tmps.getD 30 undef = x30 at *
    generalize tmps.getD 31 undef = x31 at *
    generalize tmps.getD 32 undef = x32 at *
    generalize tmps.getD 33 undef = x33 at *
    generalize tmps.getD 34 undef = x34 at *
    generalize tmps.getD 35 undef = x35 at *
    generalize tmps.getD 36 undef = x36 at *
    generalize tmps.getD 37 undef = x37 at *
    generalize tmps.getD 38 undef = x38 at *
    generalize tmps.getD 39 undef = x39 at *
    generalize tmps.getD 40 undef = x40 at *
    generalize tmps.getD 41 undef = x41 at *
    generalize tmps.getD 42 undef = x42 at *
    simp only [Array.getD_eq_getD_getElem?, List.getElem?_toArray, List.getElem?_cons_succ, List.getElem?_cons_zero, Option.getD_some] at e
    subst e
    subst hk18
    have HB9 : Hid (Below w.heap.size w w9) := HFI.out _ ho
    clear ho HFI HR3 HR5 HMA HSS
    go_wp2_with fail
    go_ret
    exact ⟨rfl, HB9.out⟩
set_option maxHeartbeats 4000000 in
theorem dec_many (sq : Option Addr) (n sc : Nat) (w : World) (hn : 2000 < n) (hm : n ≤ 9223372036854775807) : Calls Try.prog 4 #[.slice sq n sc] w fun e w' => e = .returned (.bool true) ∧ Below w.heap.size w w' := by
  have HC9 : ∀ W, Hid (Below w.heap.size w W) → Calls Try.prog 9 #[] W fun e w' => e = .returned (.bool true) ∧ Hid (Below w.heap.size w w') := fun W h => (anchor_any W).mono (by rintro e w' ⟨rfl, hb⟩; exact ⟨rfl, h.out.trans (bel_le hb h.out.size)⟩)
  have HB0 : Hid (Below w.heap.size w w) := Below.refl _ _
  have n1 : (2000 : Int) < (n : Int) := by omega
  go_enter Try.func4, Try.ntmps4
  go_wp2_with (first | (go_at_call 9; refine (HC9 _ HB0).mono ?_; rintro e w1 ⟨rfl, B1⟩))
  go_ret
  exact ⟨rfl, B1.out⟩
theorem decodes_any (a : Option Addr) (n c : Nat) (w : World) (h : RowIs w a n c) : Calls Try.prog 4 #[.slice a n c] w fun e w' => e = .returned (.bool true) ∧ Below w.heap.size w w' := by
  by_cases hn : 2000 < n
  · exact dec_many a n c w hn h.max
  · obtain ⟨l, rfl, hs⟩ := Src.of h
    cases hd : dec false l with
    | none => exact dec_f l a c w hs (by omega) hd
    | some A => exact dec_t l a c w hs (by omega) A hd
end Go.Proofs.Ytiihdpkpgcmioaa.E9
