/- Open, whatever the suite. -/
import Derived.Test.YtfjdaafckiefdaaGreatDoorS15Seal
import Derived.Test.YtfjdaafckiefdaaGreatDoorM2Eq
import Derived.Test.YtfjdaafckiefdaaGreatDoorMgC
namespace Go.Proofs.YtfjdaafckiefdaaGreatDoor.S15
open Go.RowKit C8 E9
open S7 (Fr Kx By)
theorem z9_cells {w : World} {b : Nat} (h : w.heap[b]? = some (.cells z9 49 (0, 0))) : w.cell? ⟨b, 0, none⟩ = some (.int .i64 0) ∧ w.cell? ⟨b, 1, none⟩ = some (.int .i64 0) ∧ w.cell? ⟨b, 2, none⟩ = some (.int .i64 0) ∧ w.cell? ⟨b, 3, none⟩ = some (.slice none 0 0) ∧ w.cell? ⟨b, 4, none⟩ = some (.slice none 0 0) ∧ w.cell? ⟨b, 5, none⟩ = some (.int .i64 0) ∧ w.cell? ⟨b, 6, none⟩ = some (.int .i64 0) ∧ w.cell? ⟨b, 7, none⟩ = some (.int .i64 0) ∧ w.cell? ⟨b, 8, none⟩ = some (.slice none 0 0) ∧ ∀ i, w.frozen? ⟨b, i, none⟩ = false := by
  refine ⟨?_, ?_, ?_, ?_, ?_, ?_, ?_, ?_, ?_, fun i => frozen_of_row _ _ _ _ _ h⟩ <;> (rw [cell_of_row _ _ _ _ _ _ h]; rfl)
theorem e9_cells {w : World} {b : Nat} {t : TypeId} {x0 x1 x2 x3 x4 x5 x6 x7 x8 : Value} (h : w.heap[b]? = some (.cells #[x0, x1, x2, x3, x4, x5, x6, x7, x8] t (0, 0))) : w.cell? ⟨b, 0, none⟩ = some x0 ∧ w.cell? ⟨b, 1, none⟩ = some x1 ∧ w.cell? ⟨b, 2, none⟩ = some x2 ∧ w.cell? ⟨b, 3, none⟩ = some x3 ∧ w.cell? ⟨b, 4, none⟩ = some x4 ∧ w.cell? ⟨b, 5, none⟩ = some x5 ∧ w.cell? ⟨b, 6, none⟩ = some x6 ∧ w.cell? ⟨b, 7, none⟩ = some x7 ∧ w.cell? ⟨b, 8, none⟩ = some x8 := by
  refine ⟨?_, ?_, ?_, ?_, ?_, ?_, ?_, ?_, ?_⟩ <;> (rw [cell_of_row _ _ _ _ _ _ h]; rfl)
/-- The two boxes with which Open begins. -/
structure Ob (w W : World) (R : Array Value) : Prop where
  bel : Below w.heap.size w W
  rc : W.heap[w.heap.size]? = some (.cells R 24 (0, 0))
  zc : W.heap[w.heap.size + 1]? = some (.cells z9 49 (0, 0))
theorem Ob.start (w : World) (R : Array Value) : Ob w ((w.alloc (.cells R 24)).alloc (.cells z9 49)) R := by
  have h1 := S7.below_alloc' w (.cells R 24)
  have h2 := S7.below_alloc' (w.alloc (.cells R 24)) (.cells z9 49)
  have s1 : (w.alloc (.cells R 24)).heap.size = w.heap.size + 1 := by simp
  have r1 := heap_alloc_new w (.cells R 24)
  have r2 := heap_alloc_new (w.alloc (.cells R 24)) (.cells z9 49)
  rw [s1] at r2
  exact ⟨h1.trans (h2.mono h1.size), (h2.block _ (by rw [s1]; omega)).trans r1, r2⟩
theorem Ob.below {w W W' : World} {R : Array Value} (h : Ob w W R) (hb : Below W.heap.size W W') : Ob w W' R :=
  ⟨h.bel.trans (hb.mono h.bel.size), (hb.block _ (Array.getElem?_eq_some_iff.1 h.rc).1).trans h.rc, (hb.block _ (Array.getElem?_eq_some_iff.1 h.zc).1).trans h.zc⟩
theorem Ob.lt {w W : World} {R : Array Value} (h : Ob w W R) : w.heap.size + 1 < W.heap.size := (Array.getElem?_eq_some_iff.1 h.zc).1
theorem eq_src {a b : Value} {la lb : List Nat} {w : World} (ha : Src w a la) (hb : Src w b lb) (hn : la.length ≤ 100000) (hm : lb.length ≤ 100000) : Calls Tryz.prog 69 #[a, b] w fun e w' => e = .returned (.bool (decide (la = lb))) ∧ w' = w := by
  have key : ∀ {v : Value} {l : List Nat}, Src w v l → ∃ p c, v = .slice p l.length c ∧ (∀ x ∈ l, x < 256) ∧ (l ≠ [] → ∃ b o, p = some ⟨b, o, none⟩ ∧ w.rangeAt b o (ints .u8 l)) := fun h => by
    obtain ⟨hs, ⟨rfl, rfl⟩ | ⟨ad, c, rfl, rfl⟩ | ⟨b, o, c, rfl, hc, hr⟩⟩ := h
    · exact ⟨_, _, rfl, hs, fun h0 => absurd rfl h0⟩
    · exact ⟨_, _, rfl, hs, fun h0 => absurd rfl h0⟩
    · exact ⟨_, _, rfl, hs, fun _ => ⟨_, _, rfl, hr⟩⟩
  obtain ⟨p, c, rfl, h1, h2⟩ := key ha
  obtain ⟨p', c', rfl, h3, h4⟩ := key hb
  exact M2.equal_any la lb p p' la.length c lb.length c' w rfl rfl ⟨h1, h2⟩ ⟨h3, h4⟩ (by omega) (by omega)
theorem takeL_le {l a b : List Nat} (_hl : l.length ≤ 50000) (h : takeL l = some (a, b)) : a.length ≤ 4096 ∧ b.length ≤ 4096 := by
  have q : ∀ s : Sta, (rT 0 4096 s).1.length ≤ 4096 := fun s => by
    unfold rT
    split
    · simp
    · simp only [List.length_take]
      omega
  unfold takeL at h
  split at h
  · split at h
    · have := Option.some.inj h
      obtain ⟨rfl, rfl⟩ := Prod.mk.inj this
      exact ⟨q _, q _⟩
    · cases h
  · cases h
theorem takeL_small {l a b : List Nat} (hs : ∀ x ∈ l, x < 256) (h : takeL l = some (a, b)) : (∀ x ∈ a, x < 256) ∧ ∀ x ∈ b, x < 256 := by
  have q : ∀ s : Sta, (∀ x ∈ s.1, x < 256) → (∀ x ∈ (rT 0 4096 s).1, x < 256) ∧ ∀ x ∈ (rT 0 4096 s).2.1, x < 256 := fun s hs => by
    unfold rT
    split
    · exact ⟨fun x hx => (by cases hx), fun x hx => by cases hx⟩
    · exact ⟨fun x hx => hs x (List.mem_of_mem_drop (List.mem_of_mem_take hx)), fun x hx => hs x (List.mem_of_mem_drop hx)⟩
  unfold takeL at h
  split at h
  · split at h
    · have := Option.some.inj h
      obtain ⟨rfl, rfl⟩ := Prod.mk.inj this
      have h1 := q (txtL l, false) (fun x hx => hs x (List.mem_of_mem_drop (List.mem_of_mem_take hx)))
      exact ⟨h1.1, (q _ h1.2).1⟩
    · cases h
  · cases h
/-- What is told ahead of the mark. -/
def openE (r : Rec) (t : List Nat) : Option Int := match takeL t with
  | none => some 10
  | some (b, _) => match dec false b with
    | none => some 10
    | some E => if E.writer = r.writer then none else some 40
def OpSays (bs : List Nat) (ts : List (Option TypeId)) (B : Nat) (r : Rec) (t : List Nat) (mk : List Nat → List Nat) (J : List Nat → World → Prop) (w : World) (e : Ending) (w' : World) : Prop :=
  (∃ er, openE r t = some er ∧ e = .returned (.tuple #[.agg z9, .int .i64 er]) ∧ Below w.heap.size w w') ∨
  (∃ b m E, takeL t = some (b, m) ∧ dec false b = some E ∧ E.writer = r.writer ∧ J b w' ∧ Fr bs ts B w w' ∧ ((m = mk b ∧ ∃ v, e = .returned (.tuple #[v, .int .i64 0]) ∧ EnNew w.heap.size w' v E) ∨ (m ≠ mk b ∧ e = .returned (.tuple #[.agg z9, .int .i64 22]))))
set_option maxHeartbeats 2000000 in
theorem open_form (sp sv : Value) (kv : Value) (r : Rec) (q : Option Addr) (c : Nat) (w : World) (hr : rright r = false) : Calls Tryz.prog 25 #[sp, sv, kv, .agg (RecV r q c)] w fun x w' => x = .returned (.tuple #[.agg z9, .int .i64 10]) ∧ Below w.heap.size w w' := by
  have HRT : Hid (∀ W, Ob w W (RecV r q c) → Calls Tryz.prog 11 #[.agg (RecV r q c)] W fun x w' => x = .returned (.bool false) ∧ Ob w w' (RecV r q c)) := fun W h => (rright_any r q c W).mono (by
    rintro x w' ⟨rfl, h1⟩
    exact ⟨by rw [hr], h.below h1⟩)
  have HS0 := Ob.start w (RecV r q c)
  clear hr
  have HRT1 := hid (HRT.out _ HS0)
  clear HRT HS0
  unfold RecV z9 at *
  generalize r.box.length = n5 at *
  go_enter Tryz.func25, Tryz.ntmps25
  go_wp2_with fail
  refine HRT1.out.mono ?_
  rintro x w1 ⟨rfl, h1⟩
  obtain ⟨a0, a1, a2, a3, a4, af⟩ := rec_cells h1.rc
  obtain ⟨z0, z1, z2, z3, z4, z5, z6, z7, z8, zf⟩ := z9_cells h1.zc
  have G1 := hid h1
  clear h1 HRT1
  go_wp2_with fail
  refine bodyPost_ret (results_row2 rfl _ _ (w.heap.size + 1) 49 _ (0, 0) _ rfl (row9 G1.out.zc _ _ _ _ _ _ _ _ _) Tryz.underlying49 rfl (by kernel_rfl)) rfl ?_
  exact ⟨rfl, bel9 G1.out.bel (by omega) _ _ _ _ _ _ _ _ _⟩
set_option maxHeartbeats 2000000 in
theorem open_key (sp sv : Value) (kq : Option Addr) (kn kc : Nat) (r : Rec) (q : Option Addr) (c : Nat) (w : World) (hr : rright r = true) (h32 : kn ≠ 32) : Calls Tryz.prog 25 #[sp, sv, .slice kq kn kc, .agg (RecV r q c)] w fun x w' => x = .returned (.tuple #[.agg z9, .int .i64 21]) ∧ Below w.heap.size w w' := by
  have HRT : Hid (∀ W, Ob w W (RecV r q c) → Calls Tryz.prog 11 #[.agg (RecV r q c)] W fun x w' => x = .returned (.bool true) ∧ Ob w w' (RecV r q c)) := fun W h => (rright_any r q c W).mono (by
    rintro x w' ⟨rfl, h1⟩
    exact ⟨by rw [hr], h.below h1⟩)
  have HS0 := Ob.start w (RecV r q c)
  have k1 : ((kn : Int) == 32) = false := by rw [beq_eq_false_iff_ne]; omega
  have k2 : ¬ (kn : Int) = 32 := by omega
  clear h32
  clear hr
  have HRT1 := hid (HRT.out _ HS0)
  clear HRT HS0
  unfold RecV z9 at *
  generalize r.box.length = n5 at *
  go_enter Tryz.func25, Tryz.ntmps25
  go_wp2_with fail
  refine HRT1.out.mono ?_
  rintro x w1 ⟨rfl, h1⟩
  obtain ⟨a0, a1, a2, a3, a4, af⟩ := rec_cells h1.rc
  obtain ⟨z0, z1, z2, z3, z4, z5, z6, z7, z8, zf⟩ := z9_cells h1.zc
  have G1 := hid h1
  clear h1 HRT1
  go_wp2_with fail
  refine bodyPost_ret (results_row2 rfl _ _ (w.heap.size + 1) 49 _ (0, 0) _ rfl (row9 G1.out.zc _ _ _ _ _ _ _ _ _) Tryz.underlying49 rfl (by kernel_rfl)) rfl ?_
  exact ⟨rfl, bel9 G1.out.bel (by omega) _ _ _ _ _ _ _ _ _⟩
end Go.Proofs.YtfjdaafckiefdaaGreatDoor.S15
/- Open: the drawn region that asks the suite for the box's text. -/
namespace Go.Proofs.YtfjdaafckiefdaaGreatDoor.S15
open Go.RowKit C8 E9
open S7 (Fr Kx By)
def TupV (X : Value → World → Prop) (er : Int) (v : Value) (w : World) : Prop := ∃ y, v = .tuple #[y, .int .i64 er] ∧ X y w
def rgO (sp : Value) (kq : Option Addr) (kc : Nat) (R : Array Value) (pb : Nat) (bv : Value) (nn ff : List Nat) (X : Value → World → Prop) (er : Int) : Nat → Value → World → Prop
  | 0 => IsV sp
  | 1 => IsV (.slice kq 32 kc)
  | 2 => IsV (.agg R)
  | 3 => SrcV [] nn
  | 4 => IsV (.agg R)
  | 5 => SrcV [] ff
  | 6 => IsV (.pointer (some ⟨pb, 4, none⟩))
  | 7 => IsV bv
  | 8 => TupV X er
  | 9 => TupV X er
  | 10 => X
  | 11 => IsV (.int .i64 er)
  | 12 => X
  | 13 => IsV (.int .i64 er)
  | _ => fun _ _ => True
theorem rgO_kept (sp : Value) (kq : Option Addr) (kc : Nat) (R : Array Value) (pb : Nat) (bv : Value) (nn ff : List Nat) (X : Value → World → Prop) (er : Int) (hX : ∀ v w w', X v w → Only [] w w' → X v w') : ∀ i v w w', rgO sp kq kc R pb bv nn ff X er i v w → Only [] w w' → rgO sp kq kc R pb bv nn ff X er i v w'
  | 0, _, _, _, h, _ => h
  | 1, _, _, _, h, _ => h
  | 2, _, _, _, h, _ => h
  | 3, _, _, _, h, ho => SrcV.kept h ho
  | 4, _, _, _, h, _ => h
  | 5, _, _, _, h, ho => SrcV.kept h ho
  | 6, _, _, _, h, _ => h
  | 7, _, _, _, h, _ => h
  | 8, _, _, _, h, ho => by obtain ⟨y, h1, h2⟩ := h; exact ⟨y, h1, hX _ _ _ h2 ho⟩
  | 9, _, _, _, h, ho => by obtain ⟨y, h1, h2⟩ := h; exact ⟨y, h1, hX _ _ _ h2 ho⟩
  | 10, _, _, _, h, ho => hX _ _ _ h ho
  | 11, _, _, _, h, _ => h
  | 12, _, _, _, h, ho => hX _ _ _ h ho
  | 13, _, _, _, h, _ => h
  | _ + 14, _, _, _, _, _ => trivial
theorem ext_run {o : Oper} {a' : Act} {w' : World} (t : Tmp) (k : Nat) (vs : Array Value) (y : Value) (ho : o.op = .extract (.tmp t) k) (h0 : a'.tmps.getD t undef = .tuple vs) (hy : vs[k]? = some y) : (execOp a'.eval o).run Tryz.prog w' = .ok (.value y) w' := by
  have he : a'.eval (.tmp t) = .tuple vs := h0
  unfold execOp
  simp only [ho]
  rw [he]
  simp [go_sem, hy]
theorem fa24_4 (b : Nat) (w : World) : (Instr.fieldAt 24 (.pointer (some ⟨b, 0, none⟩)) 4).run Tryz.prog w = .ok (.pointer (some ⟨b, 4, none⟩)) w := by simp [go_sem]
theorem ld24r {b : Nat} {cs : Array Value} {t : TypeId} {fr : Nat × Nat} {w : World} (h : w.heap[b]? = some (.cells cs t fr) ∧ cs.size = 5) : (Instr.loadAt 24 (.pointer (some ⟨b, 0, none⟩))).run Tryz.prog w = .ok (.agg cs) w := by
  simp only [Instr.loadAt, Instr.sureAddr, Sem.run_bind, Sem.run_pure, Result.andThen_ok, run_loadVar_row (P := Tryz.prog) w b t 24 cs fr _ h.1 Tryz.underlying24 rfl (by rw [h.2]; kernel_rfl)]
theorem frameO {A F : Array Value} (hs : A.size = 74) (h : ∀ t, [10, 11, 23, 24, 25, 26, 27, 28, 29, 30, 31, 32, 33, 34].contains t = false → A.getD t undef = F.getD t undef) : A = #[F.getD 0 undef, F.getD 1 undef, F.getD 2 undef, F.getD 3 undef, F.getD 4 undef, F.getD 5 undef, F.getD 6 undef, F.getD 7 undef, F.getD 8 undef, F.getD 9 undef, A.getD 10 undef, A.getD 11 undef, F.getD 12 undef, F.getD 13 undef, F.getD 14 undef, F.getD 15 undef, F.getD 16 undef, F.getD 17 undef, F.getD 18 undef, F.getD 19 undef, F.getD 20 undef, F.getD 21 undef, F.getD 22 undef, A.getD 23 undef, A.getD 24 undef, A.getD 25 undef, A.getD 26 undef, A.getD 27 undef, A.getD 28 undef, A.getD 29 undef, A.getD 30 undef, A.getD 31 undef, A.getD 32 undef, A.getD 33 undef, A.getD 34 undef, F.getD 35 undef, F.getD 36 undef, F.getD 37 undef, F.getD 38 undef, F.getD 39 undef, F.getD 40 undef, F.getD 41 undef, F.getD 42 undef, F.getD 43 undef, F.getD 44 undef, F.getD 45 undef, F.getD 46 undef, F.getD 47 undef, F.getD 48 undef, F.getD 49 undef, F.getD 50 undef, F.getD 51 undef, F.getD 52 undef, F.getD 53 undef, F.getD 54 undef, F.getD 55 undef, F.getD 56 undef, F.getD 57 undef, F.getD 58 undef, F.getD 59 undef, F.getD 60 undef, F.getD 61 undef, F.getD 62 undef, F.getD 63 undef, F.getD 64 undef, F.getD 65 undef, F.getD 66 undef, F.getD 67 undef, F.getD 68 undef, F.getD 69 undef, F.getD 70 undef, F.getD 71 undef, F.getD 72 undef, F.getD 73 undef] := by
  rw [← h 0 (by decide), ← h 1 (by decide), ← h 2 (by decide), ← h 3 (by decide), ← h 4 (by decide), ← h 5 (by decide), ← h 6 (by decide), ← h 7 (by decide), ← h 8 (by decide), ← h 9 (by decide), ← h 12 (by decide), ← h 13 (by decide), ← h 14 (by decide), ← h 15 (by decide), ← h 16 (by decide), ← h 17 (by decide), ← h 18 (by decide), ← h 19 (by decide), ← h 20 (by decide), ← h 21 (by decide), ← h 22 (by decide), ← h 35 (by decide), ← h 36 (by decide), ← h 37 (by decide), ← h 38 (by decide), ← h 39 (by decide), ← h 40 (by decide), ← h 41 (by decide), ← h 42 (by decide), ← h 43 (by decide), ← h 44 (by decide), ← h 45 (by decide), ← h 46 (by decide), ← h 47 (by decide), ← h 48 (by decide), ← h 49 (by decide), ← h 50 (by decide), ← h 51 (by decide), ← h 52 (by decide), ← h 53 (by decide), ← h 54 (by decide), ← h 55 (by decide), ← h 56 (by decide), ← h 57 (by decide), ← h 58 (by decide), ← h 59 (by decide), ← h 60 (by decide), ← h 61 (by decide), ← h 62 (by decide), ← h 63 (by decide), ← h 64 (by decide), ← h 65 (by decide), ← h 66 (by decide), ← h 67 (by decide), ← h 68 (by decide), ← h 69 (by decide), ← h 70 (by decide), ← h 71 (by decide), ← h 72 (by decide), ← h 73 (by decide)]
  refine Array.ext (by simp [hs]) (fun i h1 h2 => ?_)
  have e : A[i] = A.getD i undef := by simp [h1]
  rw [e]
  rw [hs] at h1
  clear e h hs
  match i, h1 with
  | 0, _ => rfl
  | 1, _ => rfl
  | 2, _ => rfl
  | 3, _ => rfl
  | 4, _ => rfl
  | 5, _ => rfl
  | 6, _ => rfl
  | 7, _ => rfl
  | 8, _ => rfl
  | 9, _ => rfl
  | 10, _ => rfl
  | 11, _ => rfl
  | 12, _ => rfl
  | 13, _ => rfl
  | 14, _ => rfl
  | 15, _ => rfl
  | 16, _ => rfl
  | 17, _ => rfl
  | 18, _ => rfl
  | 19, _ => rfl
  | 20, _ => rfl
  | 21, _ => rfl
  | 22, _ => rfl
  | 23, _ => rfl
  | 24, _ => rfl
  | 25, _ => rfl
  | 26, _ => rfl
  | 27, _ => rfl
  | 28, _ => rfl
  | 29, _ => rfl
  | 30, _ => rfl
  | 31, _ => rfl
  | 32, _ => rfl
  | 33, _ => rfl
  | 34, _ => rfl
  | 35, _ => rfl
  | 36, _ => rfl
  | 37, _ => rfl
  | 38, _ => rfl
  | 39, _ => rfl
  | 40, _ => rfl
  | 41, _ => rfl
  | 42, _ => rfl
  | 43, _ => rfl
  | 44, _ => rfl
  | 45, _ => rfl
  | 46, _ => rfl
  | 47, _ => rfl
  | 48, _ => rfl
  | 49, _ => rfl
  | 50, _ => rfl
  | 51, _ => rfl
  | 52, _ => rfl
  | 53, _ => rfl
  | 54, _ => rfl
  | 55, _ => rfl
  | 56, _ => rfl
  | 57, _ => rfl
  | 58, _ => rfl
  | 59, _ => rfl
  | 60, _ => rfl
  | 61, _ => rfl
  | 62, _ => rfl
  | 63, _ => rfl
  | 64, _ => rfl
  | 65, _ => rfl
  | 66, _ => rfl
  | 67, _ => rfl
  | 68, _ => rfl
  | 69, _ => rfl
  | 70, _ => rfl
  | 71, _ => rfl
  | 72, _ => rfl
  | 73, _ => rfl
  | _ + 74, h => exact absurd h (by omega)
end Go.Proofs.YtfjdaafckiefdaaGreatDoor.S15
/- Open: what it tells, whatever the box opens to. -/
namespace Go.Proofs.YtfjdaafckiefdaaGreatDoor.S15
open Go.RowKit C8 E9
open S7 (Fr Kx By)
def OpAll (bs : List Nat) (ts : List (Option TypeId)) (B : Nat) (r : Rec) (rr : Option (List Nat)) (mk : List Nat → List Nat) (J : List Nat → World → Prop) (w : World) (e : Ending) (w' : World) : Prop := match rr with
  | some t => OpSays bs ts B r t mk J w e w'
  | none => e = .returned (.tuple #[.agg z9, .int .i64 20]) ∧ Below w.heap.size w w'
/-- What the suite tells of a box. -/
def XV (rr : Option (List Nat)) (v : Value) (w : World) : Prop := match rr with
  | some t => ∃ tq tc, v = .slice tq t.length tc ∧ Src w v t
  | none => v = .slice none 0 0
def xer : Option (List Nat) → Int
  | some _ => 0
  | none => 20
theorem XV.kept (rr : Option (List Nat)) : ∀ v w w', XV rr v w → Only [] w w' → XV rr v w' := fun v w w' h ho => by
  cases rr with
  | none => exact h
  | some t =>
    obtain ⟨tq, tc, h1, h2⟩ := h
    exact ⟨tq, tc, h1, h2.below (ho.below (Nat.le_refl _) (by simp))⟩
set_option maxHeartbeats 16000000 in
set_option maxRecDepth 10000 in
theorem open_all {bs : List Nat} {ts : List (Option TypeId)} {B : Nat} {w : World} {J : List Nat → World → Prop} (mk : List Nat → List Nat) (sp sv : Value) (kq : Option Addr) (kc : Nat) (r : Rec) (q : Option Addr) (c : Nat) (hr : rright r = true) (rr : Option (List Nat)) (htl : ∀ t, rr = some t → t.length ≤ 50000 ∧ ∀ x ∈ t, x < 256) (hB : B ≤ w.heap.size) (h5 : some 5 ∉ ts) (hR : some 24 ∉ ts) (hE : some 49 ∉ ts) (hbs : ∀ y ∈ bs, y < w.heap.size) (hmk : ∀ b, (mk b).length = 32 ∧ ∀ x ∈ mk b, x < 256)
    (hopen : ∀ w1 nv fv, Below w.heap.size w w1 → Src w1 nv (S7.non r.writer.toNat r.count.toNat) → Src w1 fv (rfront r) → Calls Tryz.prog 40 #[sp, .slice kq 32 kc, nv, fv, .slice q r.box.length c] w1 fun x w' => (match rr with | some t => ∃ v, x = .returned (.tuple #[v, .int .i64 0]) ∧ Src w' v t | none => x = .returned (.tuple #[.slice none 0 0, .int .i64 20])) ∧ Below w1.heap.size w1 w')
    (hmark : ∀ b w1 bv, b.length ≤ 4096 → Below w.heap.size w w1 → (∀ w2, Fr bs ts B w1 w2 → Src w2 bv b) → Calls Tryz.prog 63 #[sp, sv, .agg (RecV r q c), bv] w1 fun x w' => ∃ u, x = .returned u ∧ w'.ownsRow w1.heap.size 5 1 u 32 (ints .u8 (mk b)) ∧ J b w' ∧ Fr bs ts B w1 w')
    (hJ : ∀ b w1 w2, J b w1 → Kx [some 49] B w1 w2 → J b w2) :
    Calls Tryz.prog 25 #[sp, sv, .slice kq 32 kc, .agg (RecV r q c)] w (OpAll bs ts B r rr mk J w) := by
  have hn := ((rright_iff r).1 hr).1
  have HRT : Hid (∀ W, Ob w W (RecV r q c) → Calls Tryz.prog 11 #[.agg (RecV r q c)] W fun x w' => x = .returned (.bool true) ∧ Ob w w' (RecV r q c)) := fun W h => (rright_any r q c W).mono (by
    rintro x w' ⟨rfl, h1⟩
    exact ⟨by rw [hr], h.below h1⟩)
  have HS0 := Ob.start w (RecV r q c)
  have HN : Hid (∀ w1, Calls Tryz.prog 64 #[.agg (RecV r q c)] w1 fun x w' => ∃ nq nc, x = .returned (.slice nq 12 nc) ∧ Src w' (.slice nq 12 nc) (S7.non r.writer.toNat r.count.toNat) ∧ Below w1.heap.size w1 w') := fun w1 => by
    refine (nonce_any r q c w1 hn).mono ?_
    rintro x w' ⟨v, rfl, k1, k2⟩
    obtain ⟨nq, nc, rfl⟩ := S7.own_slice k1
    exact ⟨nq, nc, rfl, Src.own (S7.non_small _ _) k1, k2⟩
  have HF : Hid (∀ w1, Calls Tryz.prog 65 #[.agg (RecV r q c)] w1 fun x w' => ∃ fq fc, x = .returned (.slice fq 24 fc) ∧ Src w' (.slice fq 24 fc) (rfront r) ∧ Below w1.heap.size w1 w') := fun w1 => by
    refine (front_any r q c w1 hn).mono ?_
    rintro x w' ⟨v, rfl, k1, k2⟩
    obtain ⟨nq, nc, rfl⟩ := S7.own_slice k1
    exact ⟨nq, nc, rfl, Src.own (rfront_small _) k1, k2⟩
  have HOP : Hid (∀ W nv fv, Ob w W (RecV r q c) → Src W nv (S7.non r.writer.toNat r.count.toNat) → Src W fv (rfront r) → Calls Tryz.prog 40 #[sp, .slice kq 32 kc, nv, fv, .slice q r.box.length c] W fun x w' => ∃ y, x = .returned (.tuple #[y, .int .i64 (xer rr)]) ∧ XV rr y w' ∧ Below W.heap.size W w') := fun W nv fv h k1 k2 => (hopen W _ _ h.bel k1 k2).mono (by
    rintro x w' ⟨h0, h1⟩
    cases rr with
    | none => exact ⟨_, h0, rfl, h1⟩
    | some t =>
      obtain ⟨v, rfl, h2⟩ := h0
      obtain ⟨tq, tc, rfl, -⟩ := h2.slice
      exact ⟨_, rfl, ⟨tq, tc, rfl, h2⟩, h1⟩)
  have HM := hid hmark
  have HX0 : Hid ((∀ t, rr = some t → t.length ≤ 50000 ∧ ∀ x ∈ t, x < 256) ∧ B ≤ w.heap.size ∧ some 5 ∉ ts ∧ some 24 ∉ ts ∧ some 49 ∉ ts ∧ (∀ y ∈ bs, y < w.heap.size) ∧ (∀ b, (mk b).length = 32 ∧ ∀ x ∈ mk b, x < 256) ∧ ∀ b w1 w2, J b w1 → Kx [some 49] B w1 w2 → J b w2) := ⟨htl, hB, h5, hR, hE, hbs, hmk, hJ⟩
  have HXK : Hid (∀ v w w', XV rr v w → Only [] w w' → XV rr v w') := XV.kept rr
  clear hopen hmark htl hB h5 hR hE hbs hmk hJ
  obtain ⟨S, HS⟩ : ∃ S, Hid (OpAll bs ts B r rr mk J w = S) := ⟨_, rfl⟩
  rw [HS.out]
  obtain ⟨X, HXE⟩ : ∃ X, Hid (XV rr = X) := ⟨_, rfl⟩
  obtain ⟨er, HER⟩ : ∃ er, Hid (xer rr = er) := ⟨_, rfl⟩
  rw [HXE.out] at HOP HXK
  rw [HER.out] at HOP
  clear hr hn
  have HRT1 := hid (HRT.out _ HS0)
  clear HRT HS0
  unfold RecV at *
  generalize r.box.length = n5 at *
  go_enter Tryz.func25, Tryz.ntmps25
  unfold z9 at HRT1
  go_wp2_with fail
  refine HRT1.out.mono ?_
  rintro x w1 ⟨rfl, h1⟩
  obtain ⟨a0, a1, a2, a3, a4, af⟩ := rec_cells h1.rc
  obtain ⟨z0, z1, z2, z3, z4, z5, z6, z7, z8, zf⟩ := z9_cells h1.zc
  have G1 := hid h1
  clear h1 HRT1
  go_upto_region 5 with fail
  clear a0 a1 a2 a3 a4 af z0 z1 z2 z3 z4 z5 z6 z7 z8 zf
  have HROW : Hid (∀ W', Only [] w1 W' → Ob w W' #[.int .i64 r.coll, .int .i64 r.epoch, .int .i64 r.writer, .int .i64 r.count, .slice q n5 c]) := fun W' hb => G1.out.below (hb.below (Nat.le_refl _) (by simp))
  have RB : ∀ k w w', Below w.heap.size w w' → (fun (_ : Nat) (_ : World) => True) k w → (fun (_ : Nat) (_ : World) => True) k w' := fun _ _ _ _ _ => trivial
  refine wp_region_st (rgO sp kq kc #[.int .i64 r.coll, .int .i64 r.epoch, .int .i64 r.writer, .int .i64 r.count, .slice q n5 c] w.heap.size (.slice q n5 c) (S7.non r.writer.toNat r.count.toNat) (rfront r) X er) (fun u u' => Only [] u u') (SeqS [] (fun (_ : Nat) (_ : World) => True)) (by kernel_rfl) (only_drew _ _) (only_trans _) (rgO_kept _ _ _ _ _ _ _ _ _ _ HXK.out) (by kernel_rfl) (SeqS.start trivial) ?_ ?_
  · intro i o a' w' f hi inv hS hfi hfw hpre
    have ho : Only [] w1 w' := inv.grow
    have hlt : i < 14 := (Array.getElem?_eq_some_iff.1 hi).1
    obtain rfl|rfl|rfl|rfl|rfl|rfl|rfl|rfl|rfl|rfl|rfl|rfl|rfl|rfl : i = 0 ∨ i = 1 ∨ i = 2 ∨ i = 3 ∨ i = 4 ∨ i = 5 ∨ i = 6 ∨ i = 7 ∨ i = 8 ∨ i = 9 ∨ i = 10 ∨ i = 11 ∨ i = 12 ∨ i = 13 := by omega
    · obtain rfl := Option.some.inj hi
      exact sq_value _ rfl rfl rfl (Below.refl _ _) (by decide) hS RB (by show a'.tmps.getD 0 undef = _; rw [inv.old 0 (notDst_spec (by kernel_rfl))]; rfl)
    · obtain rfl := Option.some.inj hi
      exact sq_value _ rfl rfl rfl (Below.refl _ _) (by decide) hS RB (by show a'.tmps.getD 2 undef = _; rw [inv.old 2 (notDst_spec (by kernel_rfl))]; rfl)
    · obtain rfl := Option.some.inj hi
      have h0 : a'.tmps.getD 7 undef = (.pointer (some ⟨w.heap.size, 0, none⟩)) := by rw [inv.old 7 (notDst_spec (by kernel_rfl))]; rfl
      exact sq_value _ rfl rfl (load_run 24 7 w.heap.size (0) _ rfl h0 (ld24r ⟨(HROW.out w' ho).rc, rfl⟩)) (Below.refl _ _) (by decide) hS RB rfl
    · obtain rfl := Option.some.inj hi
      have h0 : a'.tmps.getD 26 undef = _ := pre_of hpre 2 26 (by kernel_rfl) (by kernel_rfl)
      refine sq_quiet 64 #[a'.tmps.getD 26 undef] rfl rfl (by kernel_rfl) (by decide) hS ?_
      rw [h0]
      exact (HN.out w').mono (by rintro e u ⟨vq, vc3, rfl, h1, h2⟩; exact ⟨_, rfl, C8.Only.of_below h2 _, (fun _ h => h), h1, fun _ b _ hm => by cases hm⟩)
    · obtain rfl := Option.some.inj hi
      have h0 : a'.tmps.getD 7 undef = (.pointer (some ⟨w.heap.size, 0, none⟩)) := by rw [inv.old 7 (notDst_spec (by kernel_rfl))]; rfl
      exact sq_value _ rfl rfl (load_run 24 7 w.heap.size (0) _ rfl h0 (ld24r ⟨(HROW.out w' ho).rc, rfl⟩)) (Below.refl _ _) (by decide) hS RB rfl
    · obtain rfl := Option.some.inj hi
      have h0 : a'.tmps.getD 28 undef = _ := pre_of hpre 4 28 (by kernel_rfl) (by kernel_rfl)
      refine sq_quiet 65 #[a'.tmps.getD 28 undef] rfl rfl (by kernel_rfl) (by decide) hS ?_
      rw [h0]
      exact (HF.out w').mono (by rintro e u ⟨vq, vc3, rfl, h1, h2⟩; exact ⟨_, rfl, C8.Only.of_below h2 _, (fun _ h => h), h1, fun _ b _ hm => by cases hm⟩)
    · obtain rfl := Option.some.inj hi
      have h0 : a'.tmps.getD 7 undef = (.pointer (some ⟨w.heap.size, 0, none⟩)) := by rw [inv.old 7 (notDst_spec (by kernel_rfl))]; rfl
      exact sq_value _ rfl rfl (fa_run 24 4 7 w.heap.size rfl h0 (fa24_4 w.heap.size)) (Below.refl _ _) (by decide) hS RB rfl
    · obtain rfl := Option.some.inj hi
      have h0 : a'.tmps.getD 30 undef = _ := pre_of hpre 6 30 (by kernel_rfl) (by kernel_rfl)
      exact sq_value _ rfl rfl (load_run 22 30 w.heap.size (4) _ rfl h0 (ld22 (rec_cells (HROW.out w' ho).rc).2.2.2.2.1)) (Below.refl _ _) (by decide) hS RB rfl
    · obtain rfl := Option.some.inj hi
      have h0 : a'.tmps.getD 24 undef = _ := pre_of hpre 0 24 (by kernel_rfl) (by kernel_rfl)
      have h1 : a'.tmps.getD 25 undef = _ := pre_of hpre 1 25 (by kernel_rfl) (by kernel_rfl)
      have h2 := pre_of hpre 3 27 (by kernel_rfl) (by kernel_rfl)
      have h3 := pre_of hpre 5 29 (by kernel_rfl) (by kernel_rfl)
      have h4 : a'.tmps.getD 31 undef = _ := pre_of hpre 7 31 (by kernel_rfl) (by kernel_rfl)
      refine sq_quiet 40 #[a'.tmps.getD 24 undef, a'.tmps.getD 25 undef, a'.tmps.getD 27 undef, a'.tmps.getD 29 undef, a'.tmps.getD 31 undef] rfl rfl (by kernel_rfl) (by decide) hS ?_
      rw [h0, h1, h4]
      exact (HOP.out w' _ _ (HROW.out w' ho) h2.1 h3.1).mono (by rintro e u ⟨y, rfl, k1, k2⟩; exact ⟨_, rfl, C8.Only.of_below k2 _, (fun _ h => h), _, rfl, k1⟩)
    · obtain rfl := Option.some.inj hi
      have h0 := pre_of hpre 8 32 (by kernel_rfl) (by kernel_rfl)
      exact sq_value _ rfl rfl rfl (Below.refl _ _) (by decide) hS RB h0
    · obtain rfl := Option.some.inj hi
      obtain ⟨y, hy, hx⟩ := pre_of hpre 9 23 (by kernel_rfl) (by kernel_rfl)
      exact sq_value _ rfl rfl (ext_run 23 0 _ _ rfl hy rfl) (Below.refl _ _) (by decide) hS RB hx
    · obtain rfl := Option.some.inj hi
      obtain ⟨y, hy, hx⟩ := pre_of hpre 9 23 (by kernel_rfl) (by kernel_rfl)
      exact sq_value _ rfl rfl (ext_run 23 1 _ _ rfl hy rfl) (Below.refl _ _) (by decide) hS RB rfl
    · obtain rfl := Option.some.inj hi
      have h0 := pre_of hpre 10 33 (by kernel_rfl) (by kernel_rfl)
      exact sq_value _ rfl rfl rfl (Below.refl _ _) (by decide) hS RB h0
    · obtain rfl := Option.some.inj hi
      have h0 := pre_of hpre 11 34 (by kernel_rfl) (by kernel_rfl)
      exact sq_value _ rfl rfl rfl (Below.refl _ _) (by decide) hS RB h0
  intro a' wo f inv hS hall hd
  have hk12 := hd 12 10 (by kernel_rfl)
  have hk13 := hd 13 11 (by kernel_rfl)
  have ho : Only [] w1 wo := inv.grow
  have hdf : a'.defers = [] := inv.defers
  have hsz : a'.tmps.size = 74 := inv.size
  have e := frameO hsz (fun t ht => inv.old t (dstsIn_spec (ts := [10, 11, 23, 24, 25, 26, 27, 28, 29, 30, 31, 32, 33, 34]) (by kernel_rfl) t ht))
  clear inv hd hsz hall hS
  obtain ⟨tmps, defers⟩ := a'
  obtain rfl : defers = [] := hdf
  replace e : tmps = _ := e
  replace hk12 : X (tmps.getD 10 undef) wo := hk12
  replace hk13 : tmps.getD 11 undef = .int .i64 er := hk13
  generalize tmps.getD 10 undef = x10 at *
  generalize tmps.getD 11 undef = x11 at *
  generalize tmps.getD 23 undef = x23 at *
  generalize tmps.getD 24 undef = x24 at *
  generalize tmps.getD 25 undef = x25 at *
  generalize tmps.getD 26 undef = x26 at *
  generalize tmps.getD 27 undef = x27 at *
  generalize tmps.getD 28 undef = x28 at *
  generalize tmps.getD 29 undef = x29 at *
  generalize tmps.getD 30 undef = x30 at *
  generalize tmps.getD 31 undef = x31 at *
  generalize tmps.getD 32 undef = x32 at *
  generalize tmps.getD 33 undef = x33 at *
  generalize tmps.getD 34 undef = x34 at *
  simp only [Array.getD_eq_getD_getElem?, List.getElem?_toArray, List.getElem?_cons_succ, List.getElem?_cons_zero, Option.getD_some] at e
  subst e
  subst hk13
  have OW := hid (HROW.out wo ho)
  clear HROW HN HF HOP G1 ho HXK
  cases rr with
  | none =>
    have e1 := HXE.out
    have e2 := HER.out
    subst e1
    subst e2
    obtain rfl : x10 = .slice none 0 0 := hk12
    have k20 : xer none = 20 := rfl
    rw [k20]
    obtain ⟨a0, a1, a2, a3, a4, af⟩ := rec_cells OW.out.rc
    obtain ⟨z0, z1, z2, z3, z4, z5, z6, z7, z8, zf⟩ := z9_cells OW.out.zc
    go_wp2_with fail
    refine bodyPost_ret (results_row2 rfl _ _ (w.heap.size + 1) 49 _ (0, 0) _ rfl (row9 OW.out.zc _ _ _ _ _ _ _ _ _) Tryz.underlying49 rfl (by kernel_rfl)) rfl ?_
    rw [← HS.out]
    exact ⟨rfl, bel9 OW.out.bel (by omega) _ _ _ _ _ _ _ _ _⟩
  | some t =>
    have e1 := HXE.out
    have e2 := HER.out
    subst e1
    subst e2
    obtain ⟨tq, tc, rfl, ht0⟩ : ∃ tq tc, x10 = .slice tq t.length tc ∧ Src wo x10 t := hk12
    have k20 : xer (some t) = 0 := rfl
    rw [k20]
    have HO : Hid (Src wo (.slice tq t.length tc) t ∧ Ob w wo #[.int .i64 r.coll, .int .i64 r.epoch, .int .i64 r.writer, .int .i64 r.count, .slice q n5 c]) := ⟨ht0, OW.out⟩
    have HX : Hid (t.length ≤ 50000 ∧ (∀ x ∈ t, x < 256) ∧ B ≤ w.heap.size ∧ some 5 ∉ ts ∧ some 24 ∉ ts ∧ some 49 ∉ ts ∧ (∀ y ∈ bs, y < w.heap.size) ∧ (∀ b, (mk b).length = 32 ∧ ∀ x ∈ mk b, x < 256) ∧ ∀ b w1 w2, J b w1 → Kx [some 49] B w1 w2 → J b w2) := ⟨(HX0.out.1 t rfl).1, (HX0.out.1 t rfl).2, HX0.out.2⟩
    clear OW ht0 HX0 HXE HER
    obtain ⟨a0, a1, a2, a3, a4, af⟩ := rec_cells HO.out.2.rc
    obtain ⟨z0, z1, z2, z3, z4, z5, z6, z7, z8, zf⟩ := z9_cells HO.out.2.zc
    have HT1 := hid (take_any _ t wo HO.out.1 HX.out.1)
    go_wp2_with fail
    refine HT1.out.mono ?_
    rintro x w3 ⟨h1, h2⟩
    have O3 := hid (HO.out.2.below h1)
    clear a0 a1 a2 a3 a4 af z0 z1 z2 z3 z4 z5 z6 z7 z8 zf HT1 h1
    obtain ⟨a0, a1, a2, a3, a4, af⟩ := rec_cells O3.out.rc
    obtain ⟨z0, z1, z2, z3, z4, z5, z6, z7, z8, zf⟩ := z9_cells O3.out.zc
    cases htk : takeL t with
    | none =>
      rw [htk] at h2
      obtain rfl : x = .returned (.tuple #[.slice none 0 0, .slice none 0 0, .int .i64 10]) := h2
      have HTK := hid htk
      clear htk HM HO
      go_wp2_with fail
      refine bodyPost_ret (results_row2 rfl _ _ (w.heap.size + 1) 49 _ (0, 0) _ rfl (row9 O3.out.zc _ _ _ _ _ _ _ _ _) Tryz.underlying49 rfl (by kernel_rfl)) rfl ?_
      rw [← HS.out]
      exact .inl ⟨10, by unfold openE; rw [HTK.out], rfl, bel9 O3.out.bel (by omega) _ _ _ _ _ _ _ _ _⟩
    | some bm =>
      obtain ⟨b, m⟩ := bm
      rw [htk] at h2
      obtain ⟨av, bv, rfl, k1, k2⟩ : ∃ av bv, x = .returned (.tuple #[av, bv, .int .i64 0]) ∧ Fa wo.heap.size w3 av b ∧ Fa wo.heap.size w3 bv m := h2
      have HTK := hid htk
      have HLE := hid (takeL_le HX.out.1 htk)
      have HSM := hid (takeL_small HX.out.2.1 htk)
      obtain ⟨ap, ac, rfl, -⟩ := k1.src.slice
      obtain ⟨bp, bc, rfl, -⟩ := k2.src.slice
      obtain ⟨al, HAL⟩ : ∃ al, Hid (b.length = al) := ⟨_, rfl⟩
      obtain ⟨bl, HBL⟩ : ∃ bl, Hid (m.length = bl) := ⟨_, rfl⟩
      rw [HAL.out] at k1
      rw [HBL.out] at k2
      rw [HAL.out, HBL.out]
      have F3 : Hid (Fa wo.heap.size w3 (.slice ap al ac) b ∧ Fa wo.heap.size w3 (.slice bp bl bc) m ∧ w.heap.size + 1 < wo.heap.size) := ⟨k1, k2, HO.out.2.lt⟩
      have HD1 := hid (Decode_any _ b w3 k1.src (by have := HLE.out.1; omega))
      clear htk k1 k2 HO
      generalize wo.heap.size = A at *
      go_wp2_with fail
      refine HD1.out.mono ?_
      rintro x w4 ⟨h1, h2⟩
      have O4 := hid (O3.out.below h1)
      clear a0 a1 a2 a3 a4 af z0 z1 z2 z3 z4 z5 z6 z7 z8 zf
      obtain ⟨a0, a1, a2, a3, a4, af⟩ := rec_cells O4.out.rc
      obtain ⟨z0, z1, z2, z3, z4, z5, z6, z7, z8, zf⟩ := z9_cells O4.out.zc
      rcases h2 with ⟨E, v, hd, rfl, hen⟩ | ⟨hd, rfl⟩
      · obtain ⟨np, nc, vp, vc, wq, wc, rfl, -⟩ := hen.is
        have HDE := hid hd
        have F4 : Hid (Fa A w4 (.slice ap al ac) b ∧ Fa A w4 (.slice bp bl bc) m ∧ w.heap.size + 1 < A ∧ EnNew w3.heap.size w4 (.agg (EnV E np nc vp vc wq wc)) E ∧ w.heap.size + 1 < w3.heap.size) := ⟨F3.out.1.below h1, F3.out.2.1.below h1, F3.out.2.2, hen, O3.out.lt⟩
        clear h1 hd hen HD1 F3 O3
        generalize w3.heap.size = D at *
        unfold EnV at *
        generalize E.name.length = n1 at *
        generalize E.value.length = n2 at *
        generalize E.wraps.length = n3 at *
        have hb5 := S7.below_alloc' w4 (.cells #[.int .i64 E.kind, .int .i64 E.writer, .int .i64 E.seq, .slice np n1 nc, .slice vp n2 vc, .int .i64 E.who, .int .i64 E.rights, .int .i64 E.epoch, .slice wq n3 wc] 49)
        have hr5 := heap_alloc_new w4 (.cells #[.int .i64 E.kind, .int .i64 E.writer, .int .i64 E.seq, .slice np n1 nc, .slice vp n2 vc, .int .i64 E.who, .int .i64 E.rights, .int .i64 E.epoch, .slice wq n3 wc] 49)
        have O5 := hid (O4.out.below hb5)
        have hz5 := O4.out.lt
        by_cases hw : E.writer = r.writer
        · have hwr : (E.writer == r.writer) = true := by rw [hw]; exact beq_self_eq_true _
          have HW := hid hw
          have HM0 := HM
          clear hw
          go_upto_region 14 with fail
          generalize hW5 : w4.alloc (.cells #[.int .i64 E.kind, .int .i64 E.writer, .int .i64 E.seq, .slice np n1 nc, .slice vp n2 vc, .int .i64 E.who, .int .i64 E.rights, .int .i64 E.epoch, .slice wq n3 wc] 49) = w5 at *
          have F5 : Hid (Fa A w5 (.slice ap al ac) b ∧ Fa A w5 (.slice bp bl bc) m ∧ w.heap.size + 1 < A ∧ EnNew D w5 (.agg #[.int .i64 E.kind, .int .i64 E.writer, .int .i64 E.seq, .slice np n1 nc, .slice vp n2 vc, .int .i64 E.who, .int .i64 E.rights, .int .i64 E.epoch, .slice wq n3 wc]) E ∧ w.heap.size + 1 < D) := ⟨F4.out.1.below hb5, F4.out.2.1.below hb5, F4.out.2.2.1, F4.out.2.2.2.1.agree (Agree.below hb5), F4.out.2.2.2.2⟩
          have HR5 := hid hr5
          clear a0 a1 a2 a3 a4 af z0 z1 z2 z3 z4 z5 z6 z7 z8 zf hb5 hz5 O4 F4 HM0
          obtain ⟨f0, f1, f2, f3, f4, f5, f6, f7, f8⟩ := e9_cells hr5
          clear hr5 hW5
          generalize w4.heap.size = b5 at *
          obtain ⟨a0, a1, a2, a3, a4, af⟩ := rec_cells O5.out.rc
          obtain ⟨z0, z1, z2, z3, z4, z5, z6, z7, z8, zf⟩ := z9_cells O5.out.zc
          have HM1 := hid (HM.out b w5 (.slice ap al ac) HLE.out.1 O5.out.bel (fun w2 h => (F5.out.1.agree (agree_only h.only (fun y hy => by have := HX.out.2.2.2.2.2.2.1 y hy; have := F5.out.2.2.1; omega))).src))
          clear HM
          go_wp2_with fail
          refine HM1.out.mono ?_
          rintro x w6 ⟨u, rfl, k1, k2, k3⟩
          obtain ⟨uq, uc, rfl⟩ := S7.own_slice k1
          have hlt := HX.out.2.2.2.2.2.2.1
          have HEQ : Hid (Calls Tryz.prog 69 #[.slice bp bl bc, .slice uq 32 uc] w6 fun e w' => e = .returned (.bool (decide (m = mk b))) ∧ w' = w6) :=
            eq_src (F5.out.2.1.agree (agree_only k3.only (fun y hy => by have := hlt y hy; have := F5.out.2.2.1; omega))).src (Src.own (HX.out.2.2.2.2.2.2.2.1 b).2 k1) (by have := HLE.out.2; omega) (by rw [(HX.out.2.2.2.2.2.2.2.1 b).1]; omega)
          have G6 : Hid (J b w6 ∧ Fr bs ts B w w6 ∧ w6.heap[w.heap.size + 1]? = some (.cells z9 49 (0, 0)) ∧ w6.heap[b5]? = some (.cells #[.int .i64 E.kind, .int .i64 E.writer, .int .i64 E.seq, .slice np n1 nc, .slice vp n2 vc, .int .i64 E.who, .int .i64 E.rights, .int .i64 E.epoch, .slice wq n3 wc] 49 (0, 0)) ∧ EnNew D w6 (.agg #[.int .i64 E.kind, .int .i64 E.writer, .int .i64 E.seq, .slice np n1 nc, .slice vp n2 vc, .int .i64 E.who, .int .i64 E.rights, .int .i64 E.epoch, .slice wq n3 wc]) E ∧ w.heap.size + 1 < D) :=
            ⟨k2, (Fr.of_below O5.out.bel HX.out.2.2.1).trans k3, k3.kx.row _ _ O5.out.zc HX.out.2.2.2.2.2.1, k3.kx.row _ _ HR5.out HX.out.2.2.2.2.2.1, F5.out.2.2.2.1.agree (agree_only k3.only (fun y hy => by have := hlt y hy; have := F5.out.2.2.2.2; omega)), F5.out.2.2.2.2⟩
          clear k1 k2 k3 hlt HM1 O5 F5 HR5 HLE HSM HAL HBL a0 a1 a2 a3 a4 af z0 z1 z2 z3 z4 z5 z6 z7 z8 zf f0 f1 f2 f3 f4 f5 f6 f7 f8
          go_wp2_with fail
          refine HEQ.out.mono ?_
          rintro x w7 ⟨rfl, hw7⟩
          obtain rfl : w6 = w7 := hw7.symm
          clear hw7 HEQ
          obtain ⟨z0, z1, z2, z3, z4, z5, z6, z7, z8, zf⟩ := z9_cells G6.out.2.2.1
          obtain ⟨f0, f1, f2, f3, f4, f5, f6, f7, f8⟩ := e9_cells G6.out.2.2.2.1
          by_cases hd : m = mk b
          · have HDD := hid hd
            rw [decide_eq_true hd]
            clear hd
            go_wp2_with fail
            refine bodyPost_ret (results_row2 rfl _ _ (w.heap.size + 1) 49 _ (0, 0) _ rfl (row9 G6.out.2.2.1 _ _ _ _ _ _ _ _ _) Tryz.underlying49 rfl (by kernel_rfl)) rfl ?_
            rw [← HS.out]
            have ho9 := only9s w6 (w.heap.size + 1) (.int .i64 E.kind) (.int .i64 E.writer) (.int .i64 E.seq) (.slice np n1 nc) (.slice vp n2 vc) (.int .i64 E.who) (.int .i64 E.rights) (.int .i64 E.epoch) (.slice wq n3 wc)
            have hk9 := Kx.of_only (ts := [some 49]) ho9 (Nat.le_trans HX.out.2.2.1 G6.out.2.1.size) (fun y hy => by
              rw [List.mem_singleton.1 hy]
              exact ⟨by have := HX.out.2.2.1; omega, fun o ho => by rw [G6.out.2.2.1] at ho; cases ho; simp [S7.tyOf]⟩)
            exact .inr ⟨b, m, E, HTK.out, HDE.out, HW.out, HX.out.2.2.2.2.2.2.2.2 _ _ _ G6.out.1 hk9, Fr.fresh G6.out.2.1 ho9 (by omega) HX.out.2.2.1, .inl ⟨HDD.out, _, rfl, fun w2 ha => G6.out.2.2.2.2.1 w2 ((agree_only ho9 (fun y hy => by rw [List.mem_singleton.1 hy]; exact G6.out.2.2.2.2.2)).trans (agree_mono ha (by have := G6.out.2.2.2.2.2; omega)))⟩⟩
          · have HDD := hid hd
            rw [decide_eq_false hd]
            clear hd
            go_wp2_with fail
            refine bodyPost_ret (results_row2 rfl _ _ (w.heap.size + 1) 49 _ (0, 0) _ rfl (row9 G6.out.2.2.1 _ _ _ _ _ _ _ _ _) Tryz.underlying49 rfl (by kernel_rfl)) rfl ?_
            rw [← HS.out]
            have ho9 := only9s w6 (w.heap.size + 1) (.int .i64 0) (.int .i64 0) (.int .i64 0) (.slice none 0 0) (.slice none 0 0) (.int .i64 0) (.int .i64 0) (.int .i64 0) (.slice none 0 0)
            have hk9 := Kx.of_only (ts := [some 49]) ho9 (Nat.le_trans HX.out.2.2.1 G6.out.2.1.size) (fun y hy => by
              rw [List.mem_singleton.1 hy]
              exact ⟨by have := HX.out.2.2.1; omega, fun o ho => by rw [G6.out.2.2.1] at ho; cases ho; simp [S7.tyOf]⟩)
            exact .inr ⟨b, m, E, HTK.out, HDE.out, HW.out, HX.out.2.2.2.2.2.2.2.2 _ _ _ G6.out.1 hk9, Fr.fresh G6.out.2.1 ho9 (by omega) HX.out.2.2.1, .inr ⟨HDD.out, rfl⟩⟩
        · have hwr : (E.writer == r.writer) = false := by rw [beq_eq_false_iff_ne]; exact hw
          have HW := hid hw
          clear hw HM F4
          go_upto_region 14 with fail
          generalize hW5 : w4.alloc (.cells #[.int .i64 E.kind, .int .i64 E.writer, .int .i64 E.seq, .slice np n1 nc, .slice vp n2 vc, .int .i64 E.who, .int .i64 E.rights, .int .i64 E.epoch, .slice wq n3 wc] 49) = w5 at *
          clear a0 a1 a2 a3 a4 af z0 z1 z2 z3 z4 z5 z6 z7 z8 zf hb5 hz5 O4
          obtain ⟨f0, f1, f2, f3, f4, f5, f6, f7, f8⟩ := e9_cells hr5
          clear hr5 hW5
          obtain ⟨a0, a1, a2, a3, a4, af⟩ := rec_cells O5.out.rc
          obtain ⟨z0, z1, z2, z3, z4, z5, z6, z7, z8, zf⟩ := z9_cells O5.out.zc
          go_wp2_with fail
          refine bodyPost_ret (results_row2 rfl _ _ (w.heap.size + 1) 49 _ (0, 0) _ rfl (row9 O5.out.zc _ _ _ _ _ _ _ _ _) Tryz.underlying49 rfl (by kernel_rfl)) rfl ?_
          rw [← HS.out]
          exact .inl ⟨40, by unfold openE; rw [HTK.out]; simp only; rw [HDE.out]; simp only; rw [if_neg HW.out], rfl, bel9 O5.out.bel (by omega) _ _ _ _ _ _ _ _ _⟩
      · have HDE := hid hd
        have hb5 := S7.below_alloc' w4 (.cells #[.int .i64 0, .int .i64 0, .int .i64 0, .slice none 0 0, .slice none 0 0, .int .i64 0, .int .i64 0, .int .i64 0, .slice none 0 0] 49)
        have O5 := hid (O4.out.below hb5)
        clear h1 hd HD1 F3 O3 HM hb5
        unfold z9 at *
        go_upto_region 12 with fail
        generalize w4.alloc (.cells #[.int .i64 0, .int .i64 0, .int .i64 0, .slice none 0 0, .slice none 0 0, .int .i64 0, .int .i64 0, .int .i64 0, .slice none 0 0] 49) = w5 at *
        clear a0 a1 a2 a3 a4 af z0 z1 z2 z3 z4 z5 z6 z7 z8 zf O4
        obtain ⟨a0, a1, a2, a3, a4, af⟩ := rec_cells O5.out.rc
        obtain ⟨z0, z1, z2, z3, z4, z5, z6, z7, z8, zf⟩ := z9_cells O5.out.zc
        go_wp2_with fail
        refine bodyPost_ret (results_row2 rfl _ _ (w.heap.size + 1) 49 _ (0, 0) _ rfl (row9 O5.out.zc _ _ _ _ _ _ _ _ _) Tryz.underlying49 rfl (by kernel_rfl)) rfl ?_
        rw [← HS.out]
        exact .inl ⟨10, by unfold openE; rw [HTK.out]; simp only; rw [HDE.out], rfl, bel9 O5.out.bel (by omega) _ _ _ _ _ _ _ _ _⟩
end Go.Proofs.YtfjdaafckiefdaaGreatDoor.S15
