/- Seal and Open with a real suite. -/
import Derived.Test.YtfjdaafckiefdaaGreatDoorMgAA
import Derived.Test.YtfjdaafckiefdaaGreatDoorS15SealO
import Derived.Test.YtfjdaafckiefdaaGreatDoorS15Mark
import Derived.Test.YtfjdaafckiefdaaGreatDoorS15RlK
namespace Go.Proofs.YtfjdaafckiefdaaGreatDoor.S15
open Go.RowKit C8 E9
open S7 (Fr Kx By RlIs)
/-- A real suite, a key and the table of sha's words, as they lie. -/
structure Rp (w : World) (p : Nat) (sv : Value) (n : Nat) (kv : Value) (k : List Nat) : Prop where
  rl : RlIs w p sv n
  kb : Src w kv k
  tb : S2.Tab w
theorem Rp.below {w w' : World} {p n : Nat} {sv kv : Value} {k : List Nat} (h : Rp w p sv n kv k) (hb : Below w.heap.size w w') : Rp w' p sv n kv k := ⟨h.rl.below hb, h.kb.below hb, S7.tab_below h.tb hb (S7.tab_lt h.tb)⟩
theorem fr_below {B : Nat} {w w' : World} (h : Fr [] [] B w w') : Below w.heap.size w w' := h.only.below (Nat.le_refl _) (by simp)
def rkey (k : List Nat) (r : Rec) : List Nat := S2.Mk.code k (S7.wriB ++ S7.six r.writer.toNat)
def rmark (k : List Nat) (r : Rec) (b : List Nat) : List Nat := S2.Mk.code (rkey k r) (markL r.coll b)
theorem rmark_ok (k : List Nat) (r : Rec) (b : List Nat) : (rmark k r b).length = 32 ∧ ∀ x ∈ rmark k r b, x < 256 := ⟨S2.Mk.code_length _ _, S2.Mk.code_small _ _⟩
set_option maxHeartbeats 400000 in
theorem Code_real1 (k l1 : List Nat) (kv v : Value) (g p n : Nat) (sv : Value) (w : World) (h : RlIs w p sv n) (hk : Src w kv k) (hc : w.cell? ⟨g, 0, none⟩ = some v) (hv : Src w v l1) (hT : S2.Tab w) (hkl : k.length ≤ 50000) (hl : l1.length ≤ 50000) :
    Calls Tryz.prog 106 #[.pointer (some ⟨p, 0, none⟩), kv, .slice (some ⟨g, 0, none⟩) 1 1] w fun e w' => ∃ u, e = .returned u ∧ w'.ownsRow w.heap.size 5 1 u 32 (ints .u8 (S2.Mk.code k l1)) ∧ Below w.heap.size w w' := by
  obtain ⟨q, c, rfl, _⟩ := hk.slice
  have HC : Hid (Calls Tryz.prog 55 #[.slice q k.length c, .slice (some ⟨g, 0, none⟩) 1 1] w fun e w' => ∃ b, e = .returned (.slice (some ⟨b, 0, none⟩) 32 32) ∧ w.heap.size ≤ b ∧ w'.heap[b]? = some (.cells (arr .u8 (S2.Mk.code k [l1].flatten)) 5 (0, 0)) ∧ Below w.heap.size w w') :=
    S2.code_any k [l1] q k.length c g 0 1 [v] w (S7.Src.bytesAt hk) hT (by omega)
      (fun j x hx => by
        match j, hx with
        | 0, hx => simp at hx; subst hx; exact hc
        | j + 1, hx => simp at hx)
      (fun i l' hl' => by
        match i, hl' with
        | 0, hl' => simp at hl'; subst hl'; exact ⟨v, rfl, S7.Src.bytesAt hv⟩
        | i + 1, hl' => simp at hl') (by simp) (by simp; omega)
  rw [show [l1].flatten = l1 by simp] at HC
  obtain ⟨d0, d1, d2⟩ := h.cells
  clear h hk hc hv hT hkl hl
  generalize k.length = kl at *
  go_enter Tryz.func106, Tryz.ntmps106
  go_wp2_with fail
  refine HC.out.mono ?_
  rintro e w1 ⟨b, rfl, hb, hr, hbe⟩
  have HO : Hid (w1.ownsRow w.heap.size 5 1 (.slice (some ⟨b, 0, none⟩) 32 32) 32 (ints .u8 (S2.Mk.code k l1))) := S7.own_row (S2.Mk.code_length _ _) (by decide) hb hr
  have HB : Hid (Below w.heap.size w w1) := hbe
  clear hb hr hbe HC d0 d1 d2
  go_wp2_with fail
  go_ret
  exact ⟨_, rfl, HO.out, HB.out⟩
theorem own_kx {w w' : World} {base B n : Nat} {ts : List (Option TypeId)} {v : Value} {xs : List Value} (h : w.ownsRow base 5 1 v n xs) (hk : Kx ts B w w') (h5 : some 5 ∉ ts) : w'.ownsRow base 5 1 v n xs := by
  obtain ⟨h1, h2 | ⟨g, cap, cur, e, hb, hh, h3⟩⟩ := h
  · exact ⟨h1, .inl h2⟩
  · exact ⟨h1, .inr ⟨g, cap, cur, e, hb, hk.row _ _ hh h5, h3⟩⟩
theorem takeL_two' {a b : List Nat} (h : (twoL a b).length ≤ 2046) : takeL (padL (twoL a b)) = some (a, b) := by
  have hl := twoL_length a b
  have h1 : rightB (padL (twoL a b)) = true := (rightB_iff _).2 (right_pad h)
  have r1 : rT 0 4096 (twoL a b, false) = (a, (Cd.one (txt b), false)) := by
    have := rT_of (lo := 0) (hi := 4096) (l := a) (r := Cd.one (txt b)) (by omega) (by omega) (by omega)
    have e : twoL a b = Cd.one (txt a) ++ Cd.one (txt b) := by unfold twoL; simp only [Cd.enc, List.append_nil]
    rw [e]
    exact this
  have r2 : rT 0 4096 (Cd.one (txt b), false) = (b, ([], false)) := by
    have := rT_of (lo := 0) (hi := 4096) (l := b) (r := []) (by omega) (by omega) (by omega)
    rw [List.append_nil] at this
    exact this
  unfold takeL
  rw [if_pos h1, txt_pad, r1]
  simp only
  rw [r2]
  simp
theorem padL_small' {l : List Nat} (h : ∀ x ∈ l, x < 256) (hl : l.length ≤ 2046) : ∀ x ∈ padL l, x < 256 := fun x hx => by
  unfold padL at hx
  simp only [List.mem_cons, List.mem_append] at hx
  rcases hx with rfl | rfl | h1 | h1
  · omega
  · omega
  · exact h x h1
  · rw [List.eq_of_mem_replicate h1]; omega
theorem opens_small {k n o b t : List Nat} (h : A5.Ae.opens k n o b = some t) (hb : ∀ x ∈ b, x < 256) : t.length ≤ b.length ∧ ∀ x ∈ t, x < 256 := by
  unfold A5.Ae.opens at h
  split at h
  · cases h
  · split at h
    · obtain rfl := Option.some.inj h
      exact ⟨by rw [C3.Ch.xor_length]; simp, C3.Ch.xor_lt _ _ _ (fun x hx => hb x (List.mem_of_mem_take hx))⟩
    · cases h
set_option maxHeartbeats 400000 in
theorem Open_reals (k nonce lo lt : List Nat) (kv nv ov tv : Value) (p n : Nat) (sv : Value) (w : World) (h : RlIs w p sv n) (hk : Src w kv k) (hn : Src w nv nonce) (ho : Src w ov lo) (ht : Src w tv lt) (hkl : k.length = 32) (hnl : nonce.length = 12) (hol : lo.length ≤ 40000) (htl : lt.length ≤ 40000) :
    Calls Tryz.prog 40 #[.pointer (some ⟨p, 0, none⟩), kv, nv, ov, tv] w fun x w' => (match A5.Ae.opens k nonce lo lt with | some t => ∃ v, x = .returned (.tuple #[v, .int .i64 0]) ∧ Src w' v t | none => x = .returned (.tuple #[.slice none 0 0, .int .i64 20])) ∧ Below w.heap.size w w' := by
  cases hs : A5.Ae.opens k nonce lo lt with
  | some t =>
    refine (S7.Open_real k nonce lo lt kv nv ov tv p n sv w h hk hn ho ht hkl hnl hol htl t hs).mono ?_
    rintro e w' ⟨u, rfl, h1, h2⟩
    exact ⟨⟨u, rfl, Src.own (opens_small hs ht.small).2 h1⟩, h2⟩
  | none =>
    obtain ⟨bk, ok, ck, rfl, hck, hK⟩ := S7.Src.full hk hkl (by omega)
    obtain ⟨bn, on, cn, rfl, hcn, hN⟩ := S7.Src.full hn hnl (by omega)
    have HC : Hid (Calls Tryz.prog 85 #[.slice (some ⟨bk, ok, none⟩) 32 ck, .slice (some ⟨bn, on, none⟩) 12 cn, ov, tv] w fun e w' => e = .returned (.tuple #[.slice none 0 0, .int .i64 20]) ∧ Below w.heap.size w w') := by
      have := A5.Open_any k nonce lo lt bk ok ck bn on cn ov tv w hkl hnl hK hN hck hcn ho ht hol htl
      rw [hs] at this
      exact this
    obtain ⟨d0, d1, d2⟩ := h.cells
    clear h hk hn ho ht hkl hnl hol htl hck hcn hK hN hs
    go_enter Tryz.func40, Tryz.ntmps40
    go_wp2_with fail
    refine HC.out.mono ?_
    rintro e w1 ⟨rfl, hbe⟩
    have HB : Hid (Below w.heap.size w w1) := hbe
    clear hbe HC d0 d1 d2
    go_wp2_with fail
    refine bodyPost_ret (results_tmp2 rfl _ _ _) rfl ?_
    exact ⟨rfl, HB.out⟩
section
variable {B : Nat} {w : World} {p n : Nat} {sv kv bv : Value} {k : List Nat}
theorem mark_real (r : Rec) (rq : Option Addr) (rc : Nat) (h : Rp w p sv n kv k) (hkl : k.length ≤ 50000) (hB : B ≤ w.heap.size) (he : rnum r = true) {b : List Nat} (hb : ∀ w1, Fr [] [] B w w1 → Src w1 bv b) (hbl : b.length ≤ 4096) :
    Calls Tryz.prog 63 #[.pointer (some ⟨p, 0, none⟩), kv, .agg (RecV r rq rc), bv] w fun e w' => ∃ u, e = .returned u ∧ w'.ownsRow w.heap.size 5 1 u 32 (ints .u8 (rmark k r b)) ∧ True ∧ Fr [] [] B w w' := by
  obtain ⟨n1, n2, n3, n4⟩ := (rnum_iff r).1 he
  have hw : ((r.writer.toNat : Nat) : Int) = r.writer := Int.toNat_of_nonneg (by omega)
  refine markOf_any (I := fun w' => Rp w' p sv n kv k) (J := fun _ => True) (r1 := rkey k r) (r2 := rmark k r b) r rq rc hB (by simp) (by simp) he (S2.Mk.code_small _ _) hbl hb (fun w1 h1 => ?_) (fun w1 w2 h1 h2 => h1.below h2) (fun w1 uv mv g h1 h2 h3 h4 h5 => ?_)
  · have hB1 : B ≤ w1.heap.size := Nat.le_trans hB h1.size
    have H1 := h.below h1
    have := S7.keyOf_any (B := B) (bs := []) (ts := []) (w := w1) (I := fun w' => Rp w' p sv n kv k) (r := rkey k r) (p := p) (kv := kv) S7.wriB r.writer.toNat hB1 (by omega) (by decide) (fun w2 g a1 a2 k1 k2 k3 k4 k5 => by
      have H2 := H1.below k5
      refine (S7.Code_real2 k S7.wriB (S7.six r.writer.toNat) kv a1 a2 g p n sv w2 H2.rl H2.kb k3 k4 k1 k2 H2.tb hkl (by decide) (by rw [S7.six_length]; decide)).mono ?_
      rintro e w' ⟨u, rfl, j1, j2⟩
      exact ⟨u, rfl, j1, H2.below j2, Fr.of_below j2 (Nat.le_trans hB1 k5.size)⟩)
    rw [hw] at this
    exact this
  · refine (Code_real1 (rkey k r) (markL r.coll b) uv mv g p n sv w1 h1.rl h2.src h4 h3.src h1.tb (by rw [rkey, S2.Mk.code_length]; decide) (by rw [markL_length]; omega)).mono ?_
    rintro e w' ⟨u, rfl, j1, j2⟩
    exact ⟨u, rfl, j1, trivial, Fr.of_below j2 h5⟩
def rplain (k : List Nat) (r : Rec) (e : En) : List Nat := padL (twoL (E9.bytes e) (rmark k r (E9.bytes e)))
def rbox (k ke : List Nat) (r : Rec) (e : En) : List Nat := A5.Ae.box ke (S7.non r.writer.toNat r.count.toNat) (rfront r) (rplain k r e)
theorem rplain_ok (k : List Nat) (r : Rec) {e : En} (h : right e = true) : (rplain k r e).length = bsz ((E9.bytes e).length + 36) ∧ (rplain k r e).length ≤ 2048 ∧ 64 ≤ (rplain k r e).length ∧ (twoL (E9.bytes e) (rmark k r (E9.bytes e))).length = (E9.bytes e).length + 36 := by
  have hl : (twoL (E9.bytes e) (rmark k r (E9.bytes e))).length = (E9.bytes e).length + 36 := by rw [twoL_length, (rmark_ok k r _).1]
  have h1 := (bytes_length h).1
  have h2 := bsz_le (n := (E9.bytes e).length + 36) (by omega)
  unfold rplain
  rw [padL_length (by omega), hl]
  exact ⟨rfl, h2.2.1, h2.2.2.1, rfl⟩
theorem rbox_length (k ke : List Nat) (r : Rec) (e : En) : (rbox k ke r e).length = (rplain k r e).length + 16 := A5.Ae.box_length _ _ _ _
/-- What Seal tells, with a real suite: nothing, or the box. -/
def RSealSays (w : World) (k ke : List Nat) (r : Rec) (e : En) (y : Ending) (w' : World) : Prop :=
  (∃ er : Int, er ≠ 0 ∧ y = .returned (.tuple #[.agg z5, .int .i64 er]) ∧ Below w.heap.size w w') ∨
  (right e = true ∧ rnum r = true ∧ e.writer = r.writer ∧ ∃ q' c', y = .returned (.tuple #[.agg (RecV (r.with (rbox k ke r e)) q' c'), .int .i64 0]) ∧ w'.ownsRow w.heap.size 5 1 (.slice q' (rbox k ke r e).length c') (rbox k ke r e).length (ints .u8 (rbox k ke r e)) ∧ Below w.heap.size w w')
set_option maxHeartbeats 1000000 in
theorem Seal_rl {sk : Value} {kq : Option Addr} {kc : Nat} {ke : List Nat} (r : Rec) (rq : Option Addr) (rc : Nat) (e : En) (ve : Value) (h : Rp w p sv n sk k) (hkl : k.length ≤ 50000) (hB : B ≤ w.heap.size) (hke : Src w (.slice kq 32 kc) ke) (h32 : ke.length = 32) (he : EnIs w ve e) (hw : e.writer = r.writer) :
    Calls Tryz.prog 22 #[.pointer (some ⟨p, 0, none⟩), sk, .slice kq 32 kc, .agg (RecV r rq rc), ve] w (RSealSays w k ke r e) := by
  cases hr : right e with
  | false =>
    refine (seal_form _ _ _ r rq rc e ve w he hr).mono ?_
    rintro y w' ⟨rfl, hb⟩
    exact .inl ⟨10, by decide, rfl, hb⟩
  | true =>
    cases hn : rnum r with
    | false =>
      refine (seal_err _ sk kq 32 kc r rq rc e ve 12 w he hr (by decide) (fun w1 bv h1 => ?_)).mono ?_
      · rw [hw]
        exact may_range r rq rc kq kc bv w1 hn
      · rintro y w' ⟨rfl, hb⟩
        exact .inl ⟨12, by decide, rfl, hb⟩
    | true =>
      have hpl := rplain_ok k r hr
      have hps : ∀ x ∈ rplain k r e, x < 256 := padL_small' (twoL_small (bytes_small (EnIs.small he)) (rmark_ok k r _).2) (by have := (bytes_length hr).1; omega)
      refine (seal_own (bs := []) (ts := []) (B := B) (w := w) (J := fun _ => True) (K := fun v w' => w'.ownsRow w.heap.size 5 1 v (rbox k ke r e).length (ints .u8 (rbox k ke r e))) (mk := rmark k r (E9.bytes e)) (bx := rbox k ke r e) (.pointer (some ⟨p, 0, none⟩)) sk kq kc r rq rc e ve he hr hw hn hB (by simp) (by simp) (rmark_ok k r _) (A5.Ae.box_lt hps)
        (fun w1 bv h1 h2 => mark_real r rq rc (h.below h1) hkl (Nat.le_trans hB h1.size) hn (fun w2 h3 => h2.src.below (fr_below h3)) (by have := (bytes_length hr).1; omega))
        (fun _ _ _ _ => trivial)
        (fun w1 nv fv pv _ h2 h3 h4 h5 => by
          have hb1 := fr_below h2
          have H1 := h.below hb1
          refine (S7.Seal_real ke (S7.non r.writer.toNat r.count.toNat) (rfront r) (rplain k r e) (.slice kq 32 kc) nv fv pv p n sv w1 H1.rl (hke.below hb1) h3.src h4.src h5.src h32 (S7.non_length _ _) (by rw [rfront_length]; decide) (by omega)).mono ?_
          rintro y w' ⟨v, rfl, k1, k2⟩
          rw [← rbox_length k ke r e] at k1
          exact ⟨v, rfl, k1, S7.own_older k1 h2.size, Fr.of_below k2 (Nat.le_trans hB h2.size)⟩)
        (fun _ _ _ h hk => own_kx h hk (by decide))).mono ?_
      rintro y w' ⟨q', c', rfl, _, k2, k3⟩
      exact .inr ⟨hr, hn, hw, q', c', rfl, k2, fr_below k3⟩
theorem Open_rl {sk : Value} {kq : Option Addr} {kc : Nat} {ke : List Nat} (r : Rec) (rq : Option Addr) (rc : Nat) (hr : rright r = true) (h : Rp w p sv n sk k) (hkl : k.length ≤ 50000) (hke : Src w (.slice kq 32 kc) ke) (h32 : ke.length = 32) (hbx : Src w (.slice rq r.box.length rc) r.box) :
    Calls Tryz.prog 25 #[.pointer (some ⟨p, 0, none⟩), sk, .slice kq 32 kc, .agg (RecV r rq rc)] w (OpAll [] [] w.heap.size r (A5.Ae.opens ke (S7.non r.writer.toNat r.count.toNat) (rfront r) r.box) (rmark k r) (fun b _ => b.length ≤ 4096) w) := by
  have hn := ((rright_iff r).1 hr).1
  have hb2 := ((rright_iff r).1 hr).2.2
  refine open_all (bs := []) (ts := []) (B := w.heap.size) (w := w) (J := fun b _ => b.length ≤ 4096) (rmark k r) (.pointer (some ⟨p, 0, none⟩)) sk kq kc r rq rc hr _
    (fun t ht => ?_) (Nat.le_refl _) (by simp) (by simp) (by simp) (by simp) (rmark_ok k r)
    (fun w1 nv fv h1 h2 h3 => Open_reals ke (S7.non r.writer.toNat r.count.toNat) (rfront r) r.box (.slice kq 32 kc) nv fv (.slice rq r.box.length rc) p n sv w1 (h.below h1).rl (hke.below h1) h2 h3 (hbx.below h1) h32 (S7.non_length _ _) (by rw [rfront_length]; decide) (by omega))
    (fun b w1 bv h1 h2 h3 => ?_) (fun _ _ _ h1 _ => h1)
  · have ho := opens_small ht hbx.small
    exact ⟨by omega, ho.2⟩
  · refine (mark_real r rq rc (h.below h2) hkl h2.size hn h3 h1).mono ?_
    rintro y w' ⟨u, rfl, k1, _, k3⟩
    exact ⟨u, rfl, k1, h1, k3⟩
end
/-- What is opened of a sealed entry is it. -/
theorem open_own_rl (k ke : List Nat) (r : Rec) {e : En} (hr : right e = true) (hw : e.writer = r.writer) {w w' : World} {y : Ending} {J : List Nat → World → Prop}
    (h : OpAll [] [] w.heap.size (r.with (rbox k ke r e)) (A5.Ae.opens ke (S7.non r.writer.toNat r.count.toNat) (rfront r) (rbox k ke r e)) (rmark k r) J w y w') :
    Below w.heap.size w w' ∧ ∃ v, y = .returned (.tuple #[v, .int .i64 0]) ∧ EnNew w.heap.size w' v e := by
  have hp := rplain_ok k r hr
  have hl := (bytes_length hr).1
  have ht : takeL (rplain k r e) = some (E9.bytes e, rmark k r (E9.bytes e)) := takeL_two' (by omega)
  have hd : dec false (E9.bytes e) = some e := dec_own false hr
  have hop : A5.Ae.opens ke (S7.non r.writer.toNat r.count.toNat) (rfront r) (rbox k ke r e) = some (rplain k r e) := A5.Ae.opens_box _ _ _ _
  rw [hop] at h
  rcases h with ⟨er, h1, _⟩ | ⟨b, m, E, h1, h2, h3, h4, h5, h6⟩
  · exfalso
    unfold openE at h1
    rw [ht] at h1
    simp only at h1
    rw [hd] at h1
    simp only at h1
    rw [if_pos (by exact hw)] at h1
    cases h1
  · rw [ht] at h1
    obtain ⟨rfl, rfl⟩ := Prod.mk.inj (Option.some.inj h1)
    rw [hd] at h2
    obtain rfl := Option.some.inj h2
    rcases h6 with ⟨_, h7⟩ | ⟨h7, _⟩
    · exact ⟨fr_below h5, h7⟩
    · exact absurd rfl h7
end Go.Proofs.YtfjdaafckiefdaaGreatDoor.S15
