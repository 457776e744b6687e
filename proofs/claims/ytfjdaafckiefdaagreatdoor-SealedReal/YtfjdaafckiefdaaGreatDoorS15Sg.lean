/- Seal and Open by signs. -/
import Derived.Test.YtfjdaafckiefdaaGreatDoorMgAA
import Derived.Test.YtfjdaafckiefdaaGreatDoorMgP
namespace Go.Proofs.YtfjdaafckiefdaaGreatDoor.S15
open Go.RowKit C8 E9
open S7 (Fr Kx By Sw TU Shr)
/-- The writer's key, the list behind it, the mark, the list behind that. -/
def mkL (L : List S7.Su.Thing) (k : List Nat) (r : Rec) : List Nat := S7.mk L k S7.wriB r.writer.toNat
def adL (L : List S7.Su.Thing) (k : List Nat) (r : Rec) : List S7.Su.Thing := S7.adk L k S7.wriB r.writer.toNat
def smark (L : List S7.Su.Thing) (k : List Nat) (r : Rec) (b : List Nat) : List Nat := S7.Su.sign 77 (S7.Su.num (adL L k r) 77 (mkL L k r) (markL r.coll b))
def sL (L : List S7.Su.Thing) (k : List Nat) (r : Rec) (b : List Nat) : List S7.Su.Thing := S7.Su.add (adL L k r) 77 (mkL L k r) (markL r.coll b)
theorem smark_ok (L : List S7.Su.Thing) (k : List Nat) (r : Rec) (b : List Nat) : (smark L k r b).length = 32 ∧ ∀ x ∈ smark L k r b, x < 256 := ⟨S7.Su.sign_length _ _, S7.Su.sign_lt (by omega) _⟩
theorem sL_length (L : List S7.Su.Thing) (k : List Nat) (r : Rec) (b : List Nat) : (sL L k r b).length ≤ L.length + 2 := by
  have h1 := (S7.Su.add_length (adL L k r) 77 (mkL L k r) (markL r.coll b)).2
  have h2 := S7.adk_length L k S7.wriB r.writer.toNat
  unfold sL
  unfold adL at *
  omega
theorem sL_shr {L : List S7.Su.Thing} (h : Shr L) (k : List Nat) (r : Rec) {b : List Nat} (hb : b.length ≤ 4096) : Shr (sL L k r b) := by
  have h1 : Shr (adL L k r) := h.adk k S7.wriB _ S7.wri_ok.2
  unfold sL S7.Su.add
  split
  · exact h1
  · exact h1.snoc (by show (markL r.coll b).length ≤ 50000; rw [markL_length]; omega)
section
variable {B : Nat} {w : World} {p q m x : Nat} {L : List S7.Su.Thing} {sv bv : Value} {k : List Nat}
theorem mark_s (r : Rec) (rq : Option Addr) (rc : Nat) (h : Sw B w p q m x L) (hL : L.length < 900000) (hB : B ≤ w.heap.size) (hk : By B w sv k) (he : rnum r = true) {b : List Nat} (hb : ∀ w1, Fr [p, m, x] TU B w w1 → Src w1 bv b) (hbl : b.length ≤ 4096) :
    Calls Tryz.prog 63 #[.pointer (some ⟨p, 0, none⟩), sv, .agg (RecV r rq rc), bv] w fun e w' => ∃ u, e = .returned u ∧ w'.ownsRow w.heap.size 5 1 u 32 (ints .u8 (smark L k r b)) ∧ Sw B w' p q m x (sL L k r b) ∧ Fr [p, m, x] TU B w w' := by
  obtain ⟨n1, n2, n3, n4⟩ := (rnum_iff r).1 he
  have hw : ((r.writer.toNat : Nat) : Int) = r.writer := Int.toNat_of_nonneg (by omega)
  have hl1 := S7.adk_length L k S7.wriB r.writer.toNat
  refine markOf_any (I := fun w' => Sw B w' p q m x (adL L k r)) (J := fun w' => Sw B w' p q m x (sL L k r b)) (r1 := mkL L k r) (r2 := smark L k r b) r rq rc hB (by decide) (by decide) he (S7.mk_small _ _ _ _) hbl hb (fun w1 h1 => ?_) (fun w1 w2 h1 h2 => h1.below h2) (fun w1 uv mv g h1 h2 h3 h4 h5 => ?_)
  · have := S7.keyOf_s (h.below h1) (by omega) (Nat.le_trans hB h1.size) (hk.below h1) S7.wriB S7.wri_ok.1 S7.wri_ok.2 r.writer.toNat (by omega)
    rw [hw] at this
    exact this
  · refine (S7.Code_one (mkL L k r) (markL r.coll b) g 0 1 uv mv p q m x (adL L k r) w1 h1.su h2.src h4 h3.src (by rw [markL_length]; omega) (by unfold adL; omega)).mono ?_
    rintro e w' ⟨v, rfl, k1, k2, k3⟩
    exact ⟨v, rfl, k1, ⟨k2, h1.lo⟩, h1.fr k3 S7.sub_pm h5⟩
def sealErr (r : Rec) (e : En) (kl : Nat) : Option Int := if right e = false then some 10 else if e.writer ≠ r.writer then some 40 else if kl ≠ 32 then some 21 else if rnum r = false then some 12 else none
def plainL (L : List S7.Su.Thing) (k : List Nat) (r : Rec) (e : En) : List Nat := padL (twoL (E9.bytes e) (smark L k r (E9.bytes e)))
def boxL (L : List S7.Su.Thing) (k : List Nat) (r : Rec) (e : En) : List Nat := S7.Su.box ((sL L k r (E9.bytes e)).length + 1) (plainL L k r e).length
def endL (L : List S7.Su.Thing) (k ke : List Nat) (r : Rec) (e : En) : List S7.Su.Thing := sL L k r (E9.bytes e) ++ [(66, ke, S7.non r.writer.toNat r.count.toNat, rfront r, plainL L k r e)]
theorem plain_ok (L : List S7.Su.Thing) (k : List Nat) (r : Rec) {e : En} (h : right e = true) : (plainL L k r e).length = bsz ((E9.bytes e).length + 36) ∧ (plainL L k r e).length ≤ 2048 ∧ 64 ≤ (plainL L k r e).length ∧ (twoL (E9.bytes e) (smark L k r (E9.bytes e))).length = (E9.bytes e).length + 36 := by
  have hl : (twoL (E9.bytes e) (smark L k r (E9.bytes e))).length = (E9.bytes e).length + 36 := by rw [twoL_length, (smark_ok L k r _).1]
  have h1 := (bytes_length h).1
  have h2 := bsz_le (n := (E9.bytes e).length + 36) (by omega)
  unfold plainL
  rw [padL_length (by omega), hl]
  exact ⟨rfl, h2.2.1, h2.2.2.1, rfl⟩
theorem endL_shr {L : List S7.Su.Thing} (h : Shr L) (k ke : List Nat) (r : Rec) {e : En} (hr : right e = true) : Shr (endL L k ke r e) :=
  (sL_shr h k r (by have := (bytes_length hr).1; omega)).snoc (by have := (plain_ok L k r hr).2.1; show (plainL L k r e).length ≤ 50000; omega)
/-- What Seal tells, by signs. -/
def SealSays (B : Nat) (w : World) (p q m x : Nat) (L : List S7.Su.Thing) (k ke : List Nat) (r : Rec) (e : En) (y : Ending) (w' : World) : Prop :=
  (∃ er, sealErr r e ke.length = some er ∧ y = .returned (.tuple #[.agg z5, .int .i64 er]) ∧ Below w.heap.size w w') ∨
  (sealErr r e ke.length = none ∧ ∃ q' c', y = .returned (.tuple #[.agg (RecV (r.with (boxL L k r e)) q' c'), .int .i64 0]) ∧ By B w' (.slice q' (boxL L k r e).length c') (boxL L k r e) ∧ Sw B w' p q m x (endL L k ke r e) ∧ Fr [p, m, x] TU B w w')
set_option maxHeartbeats 1000000 in
theorem Seal_s {kq : Option Addr} {kc : Nat} {ke : List Nat} (r : Rec) (rq : Option Addr) (rc : Nat) (e : En) (ve : Value) (h : Sw B w p q m x L) (hL : L.length < 800000) (hB : B ≤ w.heap.size) (hk : By B w sv k) (hke : By B w (.slice kq ke.length kc) ke) (he : EnIs w ve e) :
    Calls Tryz.prog 22 #[.pointer (some ⟨p, 0, none⟩), sv, .slice kq ke.length kc, .agg (RecV r rq rc), ve] w (SealSays B w p q m x L k ke r e) := by
  cases hr : right e with
  | false =>
    refine (seal_form _ _ _ r rq rc e ve w he hr).mono ?_
    rintro y w' ⟨rfl, hb⟩
    exact .inl ⟨10, by unfold sealErr; rw [if_pos hr], rfl, hb⟩
  | true =>
    by_cases hw : e.writer = r.writer
    · by_cases h32 : ke.length = 32
      · cases hn : rnum r with
        | false =>
          refine (seal_err _ sv kq ke.length kc r rq rc e ve 12 w he hr (by decide) (fun w1 bv h1 => ?_)).mono ?_
          · rw [hw, h32]
            exact may_range r rq rc kq kc bv w1 hn
          · rintro y w' ⟨rfl, hb⟩
            exact .inl ⟨12, by unfold sealErr; rw [if_neg (by rw [hr]; decide), if_neg (by simp [hw]), if_neg (by simp [h32]), if_pos hn], rfl, hb⟩
        | true =>
          have hpl := plain_ok L k r hr
          have hsl := sL_length L k r (E9.bytes e)
          have hrest := seal_ok (bs := [p, m, x]) (ts := TU) (B := B) (w := w) (J := fun w' => Sw B w' p q m x (sL L k r (E9.bytes e))) (K := fun w' => Sw B w' p q m x (endL L k ke r e)) (mk := smark L k r (E9.bytes e)) (bx := boxL L k r e) (.pointer (some ⟨p, 0, none⟩)) sv kq kc r rq rc e ve he hr hw hn hB (by decide) (by decide) (smark_ok L k r _) (S7.Su.box_lt _ _)
            (fun w1 bv h1 h2 => mark_s r rq rc (h.below h1) (by omega) (Nat.le_trans hB h1.size) (hk.below h1) hn (fun w2 h3 => (h2.kx h3.kx (by decide)).src) (by have := (bytes_length hr).1; omega))
            (fun w1 w2 h1 h2 => h1.below h2)
            (fun w1 nv fv pv h1 h2 h3 h4 h5 => by
              have hB1 := Nat.le_trans hB h2.size
              have hin : ∀ w2, S7.Only [p, x] w1 w2 → Kx TU B w1 w2 := fun w2 ho => (h1.fr ho S7.sub_px hB1).kx
              have hkey : By B w1 (.slice kq ke.length kc) ke := hke.kx h2.kx (by decide)
              have hs := S7.Seal_ok ke (S7.non r.writer.toNat r.count.toNat) (rfront r) (plainL L k r e) (.slice kq ke.length kc) nv fv pv p q m x (sL L k r (E9.bytes e)) w1 h1.su (fun w2 ho => (hkey.kx (hin w2 ho) (by decide)).src) (fun w2 ho => (h3.kx (hin w2 ho) (by decide)).src) (fun w2 ho => (h4.kx (hin w2 ho) (by decide)).src) (fun w2 ho => (h5.kx (hin w2 ho) (by decide)).src) h32 (S7.non_length _ _) (by omega) (by omega)
              rw [h32] at hs
              refine hs.mono ?_
              rintro y w' ⟨v, rfl, k1, k2, k3⟩
              refine ⟨v, rfl, ?_, ⟨k2, h1.lo⟩, h1.fr k3 S7.sub_px hB1⟩
              have hbl : (boxL L k r e).length = (plainL L k r e).length + 16 := by unfold boxL; rw [S7.Su.box_length]
              rw [hbl]
              exact k1)
            (fun w1 w2 h1 h2 => h1.kx h2 (by decide) (by decide) (by decide))
          rw [h32]
          refine hrest.mono ?_
          rintro y w' ⟨q', c', rfl, k1, k2, k3⟩
          exact .inr ⟨by unfold sealErr; rw [if_neg (by rw [hr]; decide), if_neg (by simp [hw]), if_neg (by simp [h32]), if_neg (by rw [hn]; decide)], q', c', rfl, k1, k2, k3⟩
      · refine (seal_err _ sv kq ke.length kc r rq rc e ve 21 w he hr (by decide) (fun w1 bv h1 => ?_)).mono ?_
        · rw [hw]
          exact may_key r rq rc kq _ kc bv w1 h32
        · rintro y w' ⟨rfl, hb⟩
          exact .inl ⟨21, by unfold sealErr; rw [if_neg (by rw [hr]; decide), if_neg (by simp [hw]), if_pos h32], rfl, hb⟩
    · refine (seal_err _ sv kq ke.length kc r rq rc e ve 40 w he hr (by decide) (fun w1 bv h1 => may_other r rq rc _ bv e.writer w1 hw)).mono ?_
      rintro y w' ⟨rfl, hb⟩
      exact .inl ⟨40, by unfold sealErr; rw [if_neg (by rw [hr]; decide), if_pos hw], rfl, hb⟩
theorem opens_in {key n o b t : List Nat} : ∀ (L : List S7.Su.Thing) (i : Nat), S7.Su.opens key n o b i L = some t → ∃ u ∈ L, u.2.2.2.2 = t
  | [], _, h => by cases h
  | u :: L, i, h => by
    have e : S7.Su.opens key n o b i (u :: L) = if u.1 = 66 ∧ S7.Su.box (i + 1) u.2.2.2.2.length = b ∧ u.2.1 = key ∧ u.2.2.1 = n ∧ u.2.2.2.1 = o then some u.2.2.2.2 else S7.Su.opens key n o b (i + 1) L := rfl
    rw [e] at h
    split at h
    · exact ⟨u, by simp, Option.some.inj h⟩
    · obtain ⟨v, h1, h2⟩ := opens_in L (i + 1) h
      exact ⟨v, by simp [h1], h2⟩
/-- What Open tells, by signs. -/
def OpenSaysR (B : Nat) (w : World) (p q m x : Nat) (L : List S7.Su.Thing) (k ke : List Nat) (r : Rec) (y : Ending) (w' : World) : Prop :=
  (rright r = false ∧ y = .returned (.tuple #[.agg z9, .int .i64 10]) ∧ Below w.heap.size w w') ∨
  (rright r = true ∧ ke.length ≠ 32 ∧ y = .returned (.tuple #[.agg z9, .int .i64 21]) ∧ Below w.heap.size w w') ∨
  (rright r = true ∧ ke.length = 32 ∧ OpAll [p, m, x] TU B r (S7.Su.opens ke (S7.non r.writer.toNat r.count.toNat) (rfront r) r.box 0 L) (smark L k r) (fun b w' => Sw B w' p q m x (sL L k r b) ∧ b.length ≤ 4096) w y w')
set_option maxHeartbeats 1000000 in
theorem Open_s {kq : Option Addr} {kc : Nat} {ke : List Nat} (r : Rec) (rq : Option Addr) (rc : Nat) (h : Sw B w p q m x L) (hL : L.length < 800000) (hS : Shr L) (hB : B ≤ w.heap.size) (hk : By B w sv k) (hke : By B w (.slice kq ke.length kc) ke) (hbx : By B w (.slice rq r.box.length rc) r.box) :
    Calls Tryz.prog 25 #[.pointer (some ⟨p, 0, none⟩), sv, .slice kq ke.length kc, .agg (RecV r rq rc)] w (OpenSaysR B w p q m x L k ke r) := by
  cases hr : rright r with
  | false =>
    refine (open_form _ _ _ r rq rc w hr).mono ?_
    rintro y w' ⟨rfl, hb⟩
    exact .inl ⟨hr, rfl, hb⟩
  | true =>
    by_cases h32 : ke.length = 32
    · have hn := ((rright_iff r).1 hr).1
      have hb2 := ((rright_iff r).1 hr).2.2
      have hlt := h.su.lt
      have hall := open_all (bs := [p, m, x]) (ts := TU) (B := B) (w := w) (J := fun b w' => Sw B w' p q m x (sL L k r b) ∧ b.length ≤ 4096) (smark L k r) (.pointer (some ⟨p, 0, none⟩)) sv kq kc r rq rc hr (S7.Su.opens ke (S7.non r.writer.toNat r.count.toNat) (rfront r) r.box 0 L)
        (fun t ht => by
          obtain ⟨u, h1, rfl⟩ := opens_in L 0 ht
          exact ⟨hS u h1, (h.su.fine u h1).2.2.2⟩)
        hB (by decide) (by decide) (by decide) (fun y hy => by
          simp only [List.mem_cons, List.not_mem_nil, or_false] at hy
          omega) (smark_ok L k r)
        (fun w1 nv fv h1 h2 h3 => by
          have hs := S7.Open_any ke (S7.non r.writer.toNat r.count.toNat) (rfront r) r.box (.slice kq ke.length kc) nv fv (.slice rq r.box.length rc) p q m x L w1 (h.below h1).su (hke.below h1).src h2 h3 (hbx.below h1).src h32 (S7.non_length _ _) (by omega) (by omega) hS
          rw [h32] at hs
          refine hs.mono ?_
          rintro y w' ⟨k1, k2⟩
          refine ⟨?_, k2⟩
          cases ho : S7.Su.opens ke (S7.non r.writer.toNat r.count.toNat) (rfront r) r.box 0 L with
          | none => rw [ho] at k1; exact k1
          | some t =>
            rw [ho] at k1
            obtain ⟨v, j1, j2, _⟩ := k1
            exact ⟨v, j1, j2⟩)
        (fun b w1 bv h1 h2 h3 => by
          refine (mark_s r rq rc (h.below h2) (by omega) (Nat.le_trans hB h2.size) (hk.below h2) hn h3 h1).mono ?_
          rintro y w' ⟨u, rfl, k1, k2, k3⟩
          exact ⟨u, rfl, k1, ⟨k2, h1⟩, k3⟩)
        (fun b w1 w2 h1 h2 => ⟨h1.1.kx h2 (by decide) (by decide) (by decide), h1.2⟩)
      rw [h32]
      exact hall.mono (fun y w' hy => .inr (.inr ⟨hr, h32, hy⟩))
    · refine (open_key _ sv kq ke.length kc r rq rc w hr h32).mono ?_
      rintro y w' ⟨rfl, hb⟩
      exact .inr (.inl ⟨hr, h32, rfl, hb⟩)
end
end Go.Proofs.YtfjdaafckiefdaaGreatDoor.S15
