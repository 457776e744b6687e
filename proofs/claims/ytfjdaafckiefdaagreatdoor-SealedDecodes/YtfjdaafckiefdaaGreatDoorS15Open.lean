/- Open, whatever the suite. -/
import Derived.Test.YtfjdaafckiefdaaGreatDoorS15Seal
import Derived.Test.YtfjdaafckiefdaaGreatDoorM2Eq
namespace Go.Proofs.YtfjdaafckiefdaaGreatDoor.S15
open Go.RowKit C8 E9
open S7 (Fr Kx By)
theorem z9_cells {w : World} {b : Nat} (h : w.heap[b]? = some (.cells z9 49 (0, 0))) : w.cell? ⟨b, 0, none⟩ = some (.int .i64 0) ∧ w.cell? ⟨b, 1, none⟩ = some (.int .i64 0) ∧ w.cell? ⟨b, 2, none⟩ = some (.int .i64 0) ∧ w.cell? ⟨b, 3, none⟩ = some (.slice none 0 0) ∧ w.cell? ⟨b, 4, none⟩ = some (.slice none 0 0) ∧ w.cell? ⟨b, 5, none⟩ = some (.int .i64 0) ∧ w.cell? ⟨b, 6, none⟩ = some (.int .i64 0) ∧ w.cell? ⟨b, 7, none⟩ = some (.int .i64 0) ∧ w.cell? ⟨b, 8, none⟩ = some (.slice none 0 0) ∧ ∀ i, w.frozen? ⟨b, i, none⟩ = false := by
  refine ⟨?_, ?_, ?_, ?_, ?_, ?_, ?_, ?_, ?_, fun i => frozen_of_row _ _ _ _ _ h⟩ <;> (rw [cell_of_row _ _ _ _ _ _ h]; rfl)
theorem e9_cells {w : World} {b : Nat} {t : TypeId} {x0 x1 x2 x3 x4 x5 x6 x7 x8 : Value} (h : w.heap[b]? = some (.cells #[x0, x1, x2, x3, x4, x5, x6, x7, x8] t (0, 0))) : w.cell? ⟨b, 0, none⟩ = some x0 ∧ w.cell? ⟨b, 1, none⟩ = some x1 ∧ w.cell? ⟨b, 2, none⟩ = some x2 ∧ w.cell? ⟨b, 3, none⟩ = some x3 ∧ w.cell? ⟨b, 4, none⟩ = some x4 ∧ w.cell? ⟨b, 5, none⟩ = some x5 ∧ w.cell? ⟨b, 6, none⟩ = some x6 ∧ w.cell? ⟨b, 7, none⟩ = some x7 ∧ w.cell? ⟨b, 8, none⟩ = some x8 := by
  refine ⟨?_, ?_, ?_, ?_, ?_, ?_, ?_, ?_, ?_⟩ <;> (rw [cell_of_row _ _ _ _ _ _ h]; rfl)
/-- The two boxes with which Open begins. -/
structure Ob (w W : World) (R : Array Value) : Prop where
  bel : Below w.heap.size w W
  rc : W.heap[w.heap.size]? = some (.cells R 24 (0, 0))
  zc : W.heap[w.heap.size + 1]? = some (.cells z9 49 (0, 0))
theorem Ob.start (w : World) (R : Array Value) : Ob w ((w.alloc (.cells R 24)).alloc (.cells z9 49)) R := by
  have h1 := S7.below_alloc' w (.cells R 24)
  have h2 := S7.below_alloc' (w.alloc (.cells R 24)) (.cells z9 49)
  have s1 : (w.alloc (.cells R 24)).heap.size = w.heap.size + 1 := by simp
  have r1 := heap_alloc_new w (.cells R 24)
  have r2 := heap_alloc_new (w.alloc (.cells R 24)) (.cells z9 49)
  rw [s1] at r2
  exact ⟨h1.trans (h2.mono h1.size), (h2.block _ (by rw [s1]; omega)).trans r1, r2⟩
theorem Ob.below {w W W' : World} {R : Array Value} (h : Ob w W R) (hb : Below W.heap.size W W') : Ob w W' R :=
  ⟨h.bel.trans (hb.mono h.bel.size), (hb.block _ (Array.getElem?_eq_some_iff.1 h.rc).1).trans h.rc, (hb.block _ (Array.getElem?_eq_some_iff.1 h.zc).1).trans h.zc⟩
theorem Ob.lt {w W : World} {R : Array Value} (h : Ob w W R) : w.heap.size + 1 < W.heap.size := (Array.getElem?_eq_some_iff.1 h.zc).1
theorem eq_src {a b : Value} {la lb : List Nat} {w : World} (ha : Src w a la) (hb : Src w b lb) (hn : la.length ≤ 100000) (hm : lb.length ≤ 100000) : Calls Tryz.prog 69 #[a, b] w fun e w' => e = .returned (.bool (decide (la = lb))) ∧ w' = w := by
  have key : ∀ {v : Value} {l : List Nat}, Src w v l → ∃ p c, v = .slice p l.length c ∧ (∀ x ∈ l, x < 256) ∧ (l ≠ [] → ∃ b o, p = some ⟨b, o, none⟩ ∧ w.rangeAt b o (ints .u8 l)) := fun h => by
    obtain ⟨hs, ⟨rfl, rfl⟩ | ⟨ad, c, rfl, rfl⟩ | ⟨b, o, c, rfl, hc, hr⟩⟩ := h
    · exact ⟨_, _, rfl, hs, fun h0 => absurd rfl h0⟩
    · exact ⟨_, _, rfl, hs, fun h0 => absurd rfl h0⟩
    · exact ⟨_, _, rfl, hs, fun _ => ⟨_, _, rfl, hr⟩⟩
  obtain ⟨p, c, rfl, h1, h2⟩ := key ha
  obtain ⟨p', c', rfl, h3, h4⟩ := key hb
  exact M2.equal_any la lb p p' la.length c lb.length c' w rfl rfl ⟨h1, h2⟩ ⟨h3, h4⟩ (by omega) (by omega)
theorem takeL_le {l a b : List Nat} (_hl : l.length ≤ 50000) (h : takeL l = some (a, b)) : a.length ≤ 4096 ∧ b.length ≤ 4096 := by
  have q : ∀ s : Sta, (rT 0 4096 s).1.length ≤ 4096 := fun s => by
    unfold rT
    split
    · simp
    · simp only [List.length_take]
      omega
  unfold takeL at h
  split at h
  · split at h
    · have := Option.some.inj h
      obtain ⟨rfl, rfl⟩ := Prod.mk.inj this
      exact ⟨q _, q _⟩
    · cases h
  · cases h
theorem takeL_small {l a b : List Nat} (hs : ∀ x ∈ l, x < 256) (h : takeL l = some (a, b)) : (∀ x ∈ a, x < 256) ∧ ∀ x ∈ b, x < 256 := by
  have q : ∀ s : Sta, (∀ x ∈ s.1, x < 256) → (∀ x ∈ (rT 0 4096 s).1, x < 256) ∧ ∀ x ∈ (rT 0 4096 s).2.1, x < 256 := fun s hs => by
    unfold rT
    split
    · exact ⟨fun x hx => (by cases hx), fun x hx => by cases hx⟩
    · exact ⟨fun x hx => hs x (List.mem_of_mem_drop (List.mem_of_mem_take hx)), fun x hx => hs x (List.mem_of_mem_drop hx)⟩
  unfold takeL at h
  split at h
  · split at h
    · have := Option.some.inj h
      obtain ⟨rfl, rfl⟩ := Prod.mk.inj this
      have h1 := q (txtL l, false) (fun x hx => hs x (List.mem_of_mem_drop (List.mem_of_mem_take hx)))
      exact ⟨h1.1, (q _ h1.2).1⟩
    · cases h
  · cases h
/-- What is told ahead of the mark. -/
def openE (r : Rec) (t : List Nat) : Option Int := match takeL t with
  | none => some 10
  | some (b, _) => match dec false b with
    | none => some 10
    | some E => if E.writer = r.writer then none else some 40
def OpSays (bs : List Nat) (ts : List (Option TypeId)) (B : Nat) (r : Rec) (t : List Nat) (mk : List Nat → List Nat) (J : List Nat → World → Prop) (w : World) (e : Ending) (w' : World) : Prop :=
  (∃ er, openE r t = some er ∧ e = .returned (.tuple #[.agg z9, .int .i64 er]) ∧ Below w.heap.size w w') ∨
  (∃ b m E, takeL t = some (b, m) ∧ dec false b = some E ∧ E.writer = r.writer ∧ J b w' ∧ Fr bs ts B w w' ∧ ((m = mk b ∧ ∃ v, e = .returned (.tuple #[v, .int .i64 0]) ∧ EnNew w.heap.size w' v E) ∨ (m ≠ mk b ∧ e = .returned (.tuple #[.agg z9, .int .i64 22]))))
set_option maxHeartbeats 2000000 in
theorem open_form (sp sv : Value) (kv : Value) (r : Rec) (q : Option Addr) (c : Nat) (w : World) (hr : rright r = false) : Calls Tryz.prog 25 #[sp, sv, kv, .agg (RecV r q c)] w fun x w' => x = .returned (.tuple #[.agg z9, .int .i64 10]) ∧ Below w.heap.size w w' := by
  have HRT : Hid (∀ W, Ob w W (RecV r q c) → Calls Tryz.prog 11 #[.agg (RecV r q c)] W fun x w' => x = .returned (.bool false) ∧ Ob w w' (RecV r q c)) := fun W h => (rright_any r q c W).mono (by
    rintro x w' ⟨rfl, h1⟩
    exact ⟨by rw [hr], h.below h1⟩)
  have HS0 := Ob.start w (RecV r q c)
  clear hr
  have HRT1 := hid (HRT.out _ HS0)
  clear HRT HS0
  unfold RecV z9 at *
  generalize r.box.length = n5 at *
  go_enter Tryz.func25, Tryz.ntmps25
  go_wp2_with fail
  refine HRT1.out.mono ?_
  rintro x w1 ⟨rfl, h1⟩
  obtain ⟨a0, a1, a2, a3, a4, af⟩ := rec_cells h1.rc
  obtain ⟨z0, z1, z2, z3, z4, z5, z6, z7, z8, zf⟩ := z9_cells h1.zc
  have G1 := hid h1
  clear h1 HRT1
  go_wp2_with fail
  refine bodyPost_ret (results_row2 rfl _ _ (w.heap.size + 1) 49 _ (0, 0) _ rfl (row9 G1.out.zc _ _ _ _ _ _ _ _ _) Tryz.underlying49 rfl (by kernel_rfl)) rfl ?_
  exact ⟨rfl, bel9 G1.out.bel (by omega) _ _ _ _ _ _ _ _ _⟩
set_option maxHeartbeats 2000000 in
theorem open_key (sp sv : Value) (kq : Option Addr) (kn kc : Nat) (r : Rec) (q : Option Addr) (c : Nat) (w : World) (hr : rright r = true) (h32 : kn ≠ 32) : Calls Tryz.prog 25 #[sp, sv, .slice kq kn kc, .agg (RecV r q c)] w fun x w' => x = .returned (.tuple #[.agg z9, .int .i64 21]) ∧ Below w.heap.size w w' := by
  have HRT : Hid (∀ W, Ob w W (RecV r q c) → Calls Tryz.prog 11 #[.agg (RecV r q c)] W fun x w' => x = .returned (.bool true) ∧ Ob w w' (RecV r q c)) := fun W h => (rright_any r q c W).mono (by
    rintro x w' ⟨rfl, h1⟩
    exact ⟨by rw [hr], h.below h1⟩)
  have HS0 := Ob.start w (RecV r q c)
  have k1 : ((kn : Int) == 32) = false := by rw [beq_eq_false_iff_ne]; omega
  have k2 : ¬ (kn : Int) = 32 := by omega
  clear h32
  clear hr
  have HRT1 := hid (HRT.out _ HS0)
  clear HRT HS0
  unfold RecV z9 at *
  generalize r.box.length = n5 at *
  go_enter Tryz.func25, Tryz.ntmps25
  go_wp2_with fail
  refine HRT1.out.mono ?_
  rintro x w1 ⟨rfl, h1⟩
  obtain ⟨a0, a1, a2, a3, a4, af⟩ := rec_cells h1.rc
  obtain ⟨z0, z1, z2, z3, z4, z5, z6, z7, z8, zf⟩ := z9_cells h1.zc
  have G1 := hid h1
  clear h1 HRT1
  go_wp2_with fail
  refine bodyPost_ret (results_row2 rfl _ _ (w.heap.size + 1) 49 _ (0, 0) _ rfl (row9 G1.out.zc _ _ _ _ _ _ _ _ _) Tryz.underlying49 rfl (by kernel_rfl)) rfl ?_
  exact ⟨rfl, bel9 G1.out.bel (by omega) _ _ _ _ _ _ _ _ _⟩
end Go.Proofs.YtfjdaafckiefdaaGreatDoor.S15
