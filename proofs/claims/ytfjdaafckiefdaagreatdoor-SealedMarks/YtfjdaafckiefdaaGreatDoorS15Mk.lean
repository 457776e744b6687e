/- What another member seals in a writer's name: the mathematics, and what is told of it by signs. -/
import Derived.Test.YtfjdaafckiefdaaGreatDoorS15Anc
import Derived.Test.YtfjdaafckiefdaaGreatDoorS15Am
import Derived.Test.YtfjdaafckiefdaaGreatDoorS15Non
import Derived.Test.YtfjdaafckiefdaaGreatDoorS15RF
namespace Go.Proofs.YtfjdaafckiefdaaGreatDoor.S15
open Go.RowKit C8 E9
open S7 (Fr Kx By Sw TU Shr)
theorem opens_at {k n o t : List Nat} {N : List S7.Su.Thing} : ∀ (A : List S7.Su.Thing) (i : Nat), i + A.length + 1 < 1000000 → S7.Su.opens k n o (S7.Su.box (i + A.length + 1) t.length) i (A ++ (66, k, n, o, t) :: N) = some t
  | [], i, _ => by
    simp only [List.nil_append, S7.Su.opens, List.length_nil, Nat.add_zero]
    rw [if_pos (by simp)]
  | u :: A, i, h => by
    have e : i + (u :: A).length + 1 = i + 1 + A.length + 1 := by simp only [List.length_cons]; omega
    have ih := opens_at (N := N) (k := k) (n := n) (o := o) (t := t) A (i + 1) (by simp only [List.length_cons] at h; omega)
    rw [e, List.cons_append]
    simp only [S7.Su.opens]
    rw [if_neg, ih]
    rintro ⟨_, h2, _⟩
    have h3 := congrArg S7.Su.last h2
    rw [S7.Su.last_box (by simp only [List.length_cons] at h; omega), S7.Su.last_box (by simp only [List.length_cons] at h; omega)] at h3
    omega
def mR (wn : Nat) : Rec := ⟨1, 0, (wn : Int), 1, []⟩
def mT (wn : Nat) (t : List Nat) : S7.Su.Thing := (66, aK, S7.non wn 1, rfront (mR wn), t)
def mL1 (wn : Nat) (t : List Nat) : List S7.Su.Thing := aL0 ++ [mT wn t]
def mB1 (t : List Nat) : List Nat := S7.Su.box 2 t.length
def mR1 (wn : Nat) (t : List Nat) : Rec := (mR wn).with (mB1 t)
def mL2 (k : List Nat) (wn : Nat) (t : List Nat) (e : En) : List S7.Su.Thing := endL (mL1 wn t) k aK (mR1 wn t) e
def mOwn (k : List Nat) (wn : Nat) (t : List Nat) (e : En) : Rec := (mR1 wn t).with (boxL (mL1 wn t) k (mR1 wn t) e)
def mS (k : List Nat) (wn : Nat) (t : List Nat) (e : En) : List Nat := smark (mL1 wn t) k (mR1 wn t) (E9.bytes e)
theorem mL1_length (wn : Nat) (t : List Nat) : (mL1 wn t).length = 2 := by simp [mL1, aL0]
theorem mR_num {wn : Nat} (h1 : 1 ≤ wn) (h2 : wn ≤ 16) (t : List Nat) : rnum ((mR wn).with t) = true := by
  refine (rnum_iff _).2 ⟨⟨?_, ?_⟩, ⟨?_, ?_⟩, ⟨?_, ?_⟩, ?_, ?_⟩ <;> simp [mR, Rec.with] <;> omega
theorem mL2_split (k : List Nat) (wn : Nat) (t : List Nat) (e : En) : ∃ N, mL2 k wn t e = aL0 ++ mT wn t :: N := by
  obtain ⟨M1, h1⟩ := S7.Su.add_eq (mL1 wn t) 77 k (S7.wriB ++ S7.six (mR1 wn t).writer.toNat)
  obtain ⟨M2, h2⟩ := S7.Su.add_eq (adL (mL1 wn t) k (mR1 wn t)) 77 (mkL (mL1 wn t) k (mR1 wn t)) (markL (mR1 wn t).coll (E9.bytes e))
  have e1 : adL (mL1 wn t) k (mR1 wn t) = mL1 wn t ++ M1 := h1
  unfold mL2 endL sL
  rw [h2, e1]
  unfold mL1
  exact ⟨M1 ++ M2 ++ [(66, aK, S7.non (mR1 wn t).writer.toNat (mR1 wn t).count.toNat, rfront (mR1 wn t), plainL (aL0 ++ [mT wn t]) k (mR1 wn t) e)], by simp⟩
theorem m_opens1 (k : List Nat) (wn : Nat) (t : List Nat) (e : En) : S7.Su.opens aK (S7.non (mR1 wn t).writer.toNat (mR1 wn t).count.toNat) (rfront (mR1 wn t)) (mR1 wn t).box 0 (mL2 k wn t e) = some t := by
  obtain ⟨N, h⟩ := mL2_split k wn t e
  rw [h]
  exact opens_at (t := t) (N := N) aL0 0 (by decide)
theorem m_opens2 (k : List Nat) (wn : Nat) (t : List Nat) (e : En) : S7.Su.opens aK (S7.non (mOwn k wn t e).writer.toNat (mOwn k wn t e).count.toNat) (rfront (mOwn k wn t e)) (mOwn k wn t e).box 0 (mL2 k wn t e) = some (plainL (mL1 wn t) k (mR1 wn t) e) := by
  have hs := sL_length (mL1 wn t) k (mR1 wn t) (E9.bytes e)
  rw [mL1_length] at hs
  have h := opens_at (k := aK) (n := S7.non wn 1) (o := rfront (mR wn)) (t := plainL (mL1 wn t) k (mR1 wn t) e) (N := []) (sL (mL1 wn t) k (mR1 wn t) (E9.bytes e)) 0 (by omega)
  rw [Nat.zero_add] at h
  exact h
theorem mL2_again (k : List Nat) (wn : Nat) (t : List Nat) (e : En) : sL (mL2 k wn t e) k (mR1 wn t) (E9.bytes e) = mL2 k wn t e ∧ smark (mL2 k wn t e) k (mR1 wn t) (E9.bytes e) = mS k wn t e := by
  have h := smark_again (mL1 wn t) [(66, aK, S7.non (mR1 wn t).writer.toNat (mR1 wn t).count.toNat, rfront (mR1 wn t), plainL (mL1 wn t) k (mR1 wn t) e)] k (mR1 wn t) (E9.bytes e)
  exact ⟨h.2.1, h.1⟩
theorem mL2_length (k : List Nat) (wn : Nat) (t : List Nat) (e : En) : (mL2 k wn t e).length ≤ 5 := by
  have h := endL_length (mL1 wn t) k aK (mR1 wn t) e
  rw [mL1_length] at h
  exact h
theorem aL0_shr : Shr aL0 := a_shr.1
theorem mL1_shr {wn : Nat} {t : List Nat} (ht : t.length ≤ 50000) : Shr (mL1 wn t) := aL0_shr.snoc ht
theorem m_err {wn : Nat} (h1 : 1 ≤ wn) (h2 : wn ≤ 16) (t : List Nat) {e : En} (hr : right e = true) (hw : e.writer = (wn : Int)) : sealErr (mR1 wn t) e 32 = none := by
  unfold sealErr
  rw [if_neg (by rw [hr]; decide), if_neg (by rw [hw]; simp [mR1, mR, Rec.with]), if_neg (by decide), if_neg (by rw [show rnum (mR1 wn t) = true from mR_num h1 h2 _]; decide)]
/-- What Open tells, with its cells. -/
def Op9 (y : Ending) (g : Int) (P : Value → Int → Prop) : Prop := ∃ c1 c2 c3 c6 c7 c8 n4 k4 n5 k5 n9 k9, ∃ q4 q5 q9 : Option Addr, y = .returned (.tuple #[.agg #[.int .i64 c1, .int .i64 c2, .int .i64 c3, .slice q4 n4 k4, .slice q5 n5 k5, .int .i64 c6, .int .i64 c7, .int .i64 c8, .slice q9 n9 k9], .int .i64 g]) ∧ P (.agg #[.int .i64 c1, .int .i64 c2, .int .i64 c3, .slice q4 n4 k4, .slice q5 n5 k5, .int .i64 c6, .int .i64 c7, .int .i64 c8, .slice q9 n9 k9]) c1
theorem op9_of {y : Ending} {v : Value} {w : World} {e : En} {g : Int} (hy : y = .returned (.tuple #[v, .int .i64 g])) (he : EnIs w v e) : Op9 y g (fun v _ => EnIs w v e) := by
  have he' := he
  obtain ⟨np, nc, vp, vc, q, c, rfl, -⟩ := he
  exact ⟨_, _, _, _, _, _, _, _, _, _, _, _, _, _, _, hy, he'⟩
section
variable {B : Nat} {w : World} {p q m x : Nat} {sv : Value} {k : List Nat} {kq : Option Addr} {kc : Nat}
/-- What was sealed in the writer's name. -/
theorem marks_open1 {wn : Nat} (h1 : 1 ≤ wn) (h2 : wn ≤ 16) {mk : List Nat} {e : En} (hr : right e = true) (hw : e.writer = (wn : Int)) (hl : (twoL (E9.bytes e) mk).length ≤ 2046) (rq : Option Addr) (rc : Nat)
    (h : Sw B w p q m x (mL2 k wn (padL (twoL (E9.bytes e) mk)) e)) (hB : B ≤ w.heap.size) (hk : By B w sv k) (hke : By B w (.slice kq 32 kc) aK) (hbx : By B w (.slice rq (mB1 (padL (twoL (E9.bytes e) mk))).length rc) (mB1 (padL (twoL (E9.bytes e) mk)))) :
    Calls Tryz.prog 25 #[.pointer (some ⟨p, 0, none⟩), sv, .slice kq 32 kc, .agg (RecV (mR1 wn (padL (twoL (E9.bytes e) mk))) rq rc)] w fun y w' => Sw B w' p q m x (mL2 k wn (padL (twoL (E9.bytes e) mk)) e) ∧ Fr [p, m, x] TU B w w' ∧ Op9 y (if mk = mS k wn (padL (twoL (E9.bytes e) mk)) e then 0 else 22) (fun _ c => mk ≠ mS k wn (padL (twoL (E9.bytes e) mk)) e → c = 0) := by
  have hp := padL_length hl
  have hz := bsz_le hl
  have hpb := (plain_ok (mL1 wn (padL (twoL (E9.bytes e) mk))) k (mR1 wn (padL (twoL (E9.bytes e) mk))) hr).2.1
  have h32 : aK.length = 32 := S7.Su.sign_length _ _
  have hrr : rright (mR1 wn (padL (twoL (E9.bytes e) mk))) = true := (rright_iff _).2 ⟨mR_num h1 h2 _, by
    show 80 ≤ (mB1 _).length ∧ (mB1 _).length ≤ 2064
    unfold mB1
    rw [S7.Su.box_length, hp]
    omega⟩
  have hs := Open_s (L := mL2 k wn (padL (twoL (E9.bytes e) mk)) e) (k := k) (ke := aK) (mR1 wn (padL (twoL (E9.bytes e) mk))) rq rc h (by have := mL2_length k wn (padL (twoL (E9.bytes e) mk)) e; omega) (endL_shr (mL1_shr (by rw [hp]; omega)) k aK _ hr) hB hk (by rw [h32]; exact hke) hbx
  rw [h32] at hs
  refine hs.mono ?_
  rintro y w' (⟨g1, _⟩ | ⟨_, g1, _⟩ | ⟨_, _, g3⟩)
  · rw [hrr] at g1; cases g1
  · exact absurd h32 g1
  · rw [m_opens1] at g3
    have ht := takeL_two hl
    have hd : dec false (E9.bytes e) = some e := dec_own false hr
    have ha := mL2_again k wn (padL (twoL (E9.bytes e) mk)) e
    rcases g3 with ⟨er, g4, _⟩ | ⟨b, m', E, g4, g5, g6, g7, g8, g9⟩
    · unfold openE at g4
      rw [ht] at g4
      simp only at g4
      rw [hd] at g4
      simp only at g4
      rw [if_pos (show e.writer = (mR1 wn (padL (twoL (E9.bytes e) mk))).writer from hw)] at g4
      cases g4
    · rw [ht] at g4
      obtain ⟨rfl, rfl⟩ := Prod.mk.inj (Option.some.inj g4)
      rw [hd] at g5
      obtain rfl := Option.some.inj g5
      rw [ha.1] at g7
      rw [ha.2] at g9
      refine ⟨g7.1, g8, ?_⟩
      rcases g9 with ⟨g10, v, g11, g12⟩ | ⟨g10, g11⟩
      · rw [if_pos g10]
        obtain ⟨c1, c2, c3, c6, c7, c8, n4, k4, n5, k5, n9, k9, q4, q5, q9, j1, j2⟩ := op9_of g11 g12.is
        exact ⟨c1, c2, c3, c6, c7, c8, n4, k4, n5, k5, n9, k9, q4, q5, q9, j1, fun h => absurd g10 h⟩
      · rw [if_neg g10]
        exact ⟨0, 0, 0, 0, 0, 0, 0, 0, 0, 0, 0, 0, none, none, none, g11, fun _ => rfl⟩
/-- The writer's own. -/
theorem marks_open2 {wn : Nat} (h1 : 1 ≤ wn) (h2 : wn ≤ 16) {t : List Nat} {e : En} (hr : right e = true) (hw : e.writer = (wn : Int)) (hl : t.length ≤ 50000) (rq : Option Addr) (rc : Nat)
    (h : Sw B w p q m x (mL2 k wn t e)) (hB : B ≤ w.heap.size) (hk : By B w sv k) (hke : By B w (.slice kq 32 kc) aK) (hbx : By B w (.slice rq (mOwn k wn t e).box.length rc) (mOwn k wn t e).box) :
    Calls Tryz.prog 25 #[.pointer (some ⟨p, 0, none⟩), sv, .slice kq 32 kc, .agg (RecV (mOwn k wn t e) rq rc)] w fun y w' => Sw B w' p q m x (mL2 k wn t e) ∧ Fr [p, m, x] TU B w w' ∧ Op9 y 0 (fun v _ => EnIs w' v e) := by
  have h32 : aK.length = 32 := S7.Su.sign_length _ _
  have hrr : rright (mOwn k wn t e) = true := (seal_right (mL1 wn t) k (mR1 wn t) hr (mR_num h1 h2 _)).1
  have hs := Open_s (L := mL2 k wn t e) (k := k) (ke := aK) (mOwn k wn t e) rq rc h (by have := mL2_length k wn t e; omega) (endL_shr (mL1_shr hl) k aK _ hr) hB hk (by rw [h32]; exact hke) hbx
  rw [h32] at hs
  refine hs.mono ?_
  rintro y w' (⟨g1, _⟩ | ⟨_, g1, _⟩ | ⟨_, _, g3⟩)
  · rw [hrr] at g1; cases g1
  · exact absurd h32 g1
  · rw [m_opens2 k wn t e] at g3
    have ha := mL2_again k wn t e
    have h4 := open_own (mL1 wn t) [] k aK (mR1 wn t) hr [p, m, x] TU B (fun b w' => Sw B w' p q m x (sL (mL2 k wn t e) k (mOwn k wn t e) b) ∧ b.length ≤ 4096) w y w' hw (by rw [List.append_nil]; exact g3)
    obtain ⟨⟨j1, _⟩, j2, v, j3, j4⟩ := h4
    have e1 : sL (mL2 k wn t e) k (mOwn k wn t e) (E9.bytes e) = mL2 k wn t e := ha.1
    rw [e1] at j1
    exact ⟨j1, j2, op9_of j3 j4.is⟩
end
theorem two_eq {a b c d : List Nat} (h1 : (twoL a b).length ≤ 2046) (h2 : (twoL c d).length ≤ 2046) (h : padL (twoL a b) = padL (twoL c d)) : a = c ∧ b = d := by
  have h3 := takeL_two h1
  rw [h, takeL_two h2] at h3
  have := Prod.mk.inj (Option.some.inj h3)
  exact ⟨this.1.symm, this.2.symm⟩
/-- The bytes that are told are those that were sealed, just if the marks are the same. -/
theorem marks_told {k : List Nat} {wn : Nat} {mk : List Nat} {e : En} (hr : right e = true) (hl : (twoL (E9.bytes e) mk).length ≤ 2046) : plainL (mL1 wn (padL (twoL (E9.bytes e) mk))) k (mR1 wn (padL (twoL (E9.bytes e) mk))) e = padL (twoL (E9.bytes e) mk) ↔ mk = mS k wn (padL (twoL (E9.bytes e) mk)) e := by
  have hp := (plain_ok (mL1 wn (padL (twoL (E9.bytes e) mk))) k (mR1 wn (padL (twoL (E9.bytes e) mk))) hr).2.2.2
  have hb := (bytes_length hr).1
  constructor
  · intro h
    exact (two_eq (by rw [hp]; omega) hl h).2.symm
  · intro h
    unfold plainL
    congr 2
    exact h.symm
theorem fr_more {bs bs' : List Nat} {ts ts' : List (Option TypeId)} {B : Nat} {w w' : World} (h : Fr bs ts B w w') (hs : ∀ y ∈ bs, y ∈ bs') (ht : ∀ t ∈ ts, t ∈ ts') : Fr bs' ts' B w w' := ⟨h.only.more hs, h.kx.mono ht⟩
theorem rfront_m (wn : Nat) (t : List Nat) : Cd.be 6 1 ++ Cd.be 6 0 ++ Cd.be 6 wn ++ Cd.be 6 1 = rfront ((mR wn).with t) := by
  unfold rfront fpts mR Rec.with
  simp [Cd.enc, one_num]
end Go.Proofs.YtfjdaafckiefdaaGreatDoor.S15
