/- The walk of AeadSeals. -/
import Derived.Test.YtnceiccciaihoaaA5OpensW
namespace Go.Proofs.Ytnceiccciaihoaa.A5
open Go.RowKit P4
def sealV (kv nv ov xv bv : Value) (B : List Nat) : Nat → Value → World → Prop
  | 0 => IsV (.int .i64 0)
  | 1 => IsV (.bool false)
  | 2 => IsV (.bool false)
  | 3 => IsV bv
  | 4 => StrV B
  | 5 => IsV kv
  | 6 => IsV nv
  | 7 => IsV ov
  | 8 => IsV xv
  | 9 => RowV B
  | 10 => StrV B
  | 11 => IsV (.bool false)
  | 12 => IsV (.bool false)
  | _ => fun _ _ => True
theorem sealV_kept (kv nv ov xv bv : Value) (B : List Nat) : ∀ i v w w', sealV kv nv ov xv bv B i v w → Below w.heap.size w w' → sealV kv nv ov xv bv B i v w'
  | 0, _, _, _, h, _ => h
  | 1, _, _, _, h, _ => h
  | 2, _, _, _, h, _ => h
  | 3, _, _, _, h, _ => h
  | 4, _, _, _, h, _ => h
  | 5, _, _, _, h, _ => h
  | 6, _, _, _, h, _ => h
  | 7, _, _, _, h, _ => h
  | 8, _, _, _, h, _ => h
  | 9, _, _, _, h, hb => RowV.kept h hb
  | 10, _, _, _, h, _ => h
  | 11, _, _, _, h, _ => h
  | 12, _, _, _, h, _ => h
  | _ + 13, _, _, _, _, _ => trivial
theorem frame76 {A F : Array Value} (hs : A.size = 76) (h : ∀ t, t < 46 ∨ 58 < t → A.getD t undef = F.getD t undef) : A = #[F.getD 0 undef, F.getD 1 undef, F.getD 2 undef, F.getD 3 undef, F.getD 4 undef, F.getD 5 undef, F.getD 6 undef, F.getD 7 undef, F.getD 8 undef, F.getD 9 undef, F.getD 10 undef, F.getD 11 undef, F.getD 12 undef, F.getD 13 undef, F.getD 14 undef, F.getD 15 undef, F.getD 16 undef, F.getD 17 undef, F.getD 18 undef, F.getD 19 undef, F.getD 20 undef, F.getD 21 undef, F.getD 22 undef, F.getD 23 undef, F.getD 24 undef, F.getD 25 undef, F.getD 26 undef, F.getD 27 undef, F.getD 28 undef, F.getD 29 undef, F.getD 30 undef, F.getD 31 undef, F.getD 32 undef, F.getD 33 undef, F.getD 34 undef, F.getD 35 undef, F.getD 36 undef, F.getD 37 undef, F.getD 38 undef, F.getD 39 undef, F.getD 40 undef, F.getD 41 undef, F.getD 42 undef, F.getD 43 undef, F.getD 44 undef, F.getD 45 undef, A.getD 46 undef, A.getD 47 undef, A.getD 48 undef, A.getD 49 undef, A.getD 50 undef, A.getD 51 undef, A.getD 52 undef, A.getD 53 undef, A.getD 54 undef, A.getD 55 undef, A.getD 56 undef, A.getD 57 undef, A.getD 58 undef, F.getD 59 undef, F.getD 60 undef, F.getD 61 undef, F.getD 62 undef, F.getD 63 undef, F.getD 64 undef, F.getD 65 undef, F.getD 66 undef, F.getD 67 undef, F.getD 68 undef, F.getD 69 undef, F.getD 70 undef, F.getD 71 undef, F.getD 72 undef, F.getD 73 undef, F.getD 74 undef, F.getD 75 undef] := by
  rw [← h 0 (by decide), ← h 1 (by decide), ← h 2 (by decide), ← h 3 (by decide), ← h 4 (by decide), ← h 5 (by decide), ← h 6 (by decide), ← h 7 (by decide), ← h 8 (by decide), ← h 9 (by decide), ← h 10 (by decide), ← h 11 (by decide), ← h 12 (by decide), ← h 13 (by decide), ← h 14 (by decide), ← h 15 (by decide), ← h 16 (by decide), ← h 17 (by decide), ← h 18 (by decide), ← h 19 (by decide), ← h 20 (by decide), ← h 21 (by decide), ← h 22 (by decide), ← h 23 (by decide), ← h 24 (by decide), ← h 25 (by decide), ← h 26 (by decide), ← h 27 (by decide), ← h 28 (by decide), ← h 29 (by decide), ← h 30 (by decide), ← h 31 (by decide), ← h 32 (by decide), ← h 33 (by decide), ← h 34 (by decide), ← h 35 (by decide), ← h 36 (by decide), ← h 37 (by decide), ← h 38 (by decide), ← h 39 (by decide), ← h 40 (by decide), ← h 41 (by decide), ← h 42 (by decide), ← h 43 (by decide), ← h 44 (by decide), ← h 45 (by decide), ← h 59 (by decide), ← h 60 (by decide), ← h 61 (by decide), ← h 62 (by decide), ← h 63 (by decide), ← h 64 (by decide), ← h 65 (by decide), ← h 66 (by decide), ← h 67 (by decide), ← h 68 (by decide), ← h 69 (by decide), ← h 70 (by decide), ← h 71 (by decide), ← h 72 (by decide), ← h 73 (by decide), ← h 74 (by decide), ← h 75 (by decide)]
  refine Array.ext (by simp [hs]) (fun i h1 h2 => ?_)
  have e : A[i] = A.getD i undef := by simp [h1]
  rw [e]
  rw [hs] at h1
  clear e h hs
  match i, h1 with
  | 0, _ => rfl
  | 1, _ => rfl
  | 2, _ => rfl
  | 3, _ => rfl
  | 4, _ => rfl
  | 5, _ => rfl
  | 6, _ => rfl
  | 7, _ => rfl
  | 8, _ => rfl
  | 9, _ => rfl
  | 10, _ => rfl
  | 11, _ => rfl
  | 12, _ => rfl
  | 13, _ => rfl
  | 14, _ => rfl
  | 15, _ => rfl
  | 16, _ => rfl
  | 17, _ => rfl
  | 18, _ => rfl
  | 19, _ => rfl
  | 20, _ => rfl
  | 21, _ => rfl
  | 22, _ => rfl
  | 23, _ => rfl
  | 24, _ => rfl
  | 25, _ => rfl
  | 26, _ => rfl
  | 27, _ => rfl
  | 28, _ => rfl
  | 29, _ => rfl
  | 30, _ => rfl
  | 31, _ => rfl
  | 32, _ => rfl
  | 33, _ => rfl
  | 34, _ => rfl
  | 35, _ => rfl
  | 36, _ => rfl
  | 37, _ => rfl
  | 38, _ => rfl
  | 39, _ => rfl
  | 40, _ => rfl
  | 41, _ => rfl
  | 42, _ => rfl
  | 43, _ => rfl
  | 44, _ => rfl
  | 45, _ => rfl
  | 46, _ => rfl
  | 47, _ => rfl
  | 48, _ => rfl
  | 49, _ => rfl
  | 50, _ => rfl
  | 51, _ => rfl
  | 52, _ => rfl
  | 53, _ => rfl
  | 54, _ => rfl
  | 55, _ => rfl
  | 56, _ => rfl
  | 57, _ => rfl
  | 58, _ => rfl
  | 59, _ => rfl
  | 60, _ => rfl
  | 61, _ => rfl
  | 62, _ => rfl
  | 63, _ => rfl
  | 64, _ => rfl
  | 65, _ => rfl
  | 66, _ => rfl
  | 67, _ => rfl
  | 68, _ => rfl
  | 69, _ => rfl
  | 70, _ => rfl
  | 71, _ => rfl
  | 72, _ => rfl
  | 73, _ => rfl
  | 74, _ => rfl
  | 75, _ => rfl
  | _ + 76, h => exact absurd h (by omega)
set_option maxHeartbeats 1000000 in
theorem seals_early (v0 v1 : Value) (po pb : Option Addr) (n co m cb : Nat) (w : World) (h : 100 < n ∨ 200 < m) :
    Calls Try.prog 3 #[v0, v1, .slice po n co, .slice pb m cb] w fun e w' => e = .returned (.bool true) ∧ Below w.heap.size w w' := by
  have HH : Hid (100 < n ∨ 200 < m) := h
  clear h
  go_enter Try.func3, Try.ntmps3
  go_wp2_with fail
  refine (anchor_any _).mono ?_
  rintro e w1 ⟨rfl, hb1⟩
  have HB1 : Hid (Below w.heap.size w w1) := hb1
  clear hb1
  go_wp2_with fail
  all_goals first | (exfalso; have := HH.out; omega) | (go_ret; exact ⟨rfl, HB1.out⟩)
set_option maxHeartbeats 1000000 in
theorem seals_bad (pk pn po pb : Option Addr) (nk ck nn cn n co m cb : Nat) (w : World) (h1 : n ≤ 100) (h2 : m ≤ 200) (h : nk ≠ 32 ∨ nn ≠ 12) :
    Calls Try.prog 3 #[.slice pk nk ck, .slice pn nn cn, .slice po n co, .slice pb m cb] w fun e w' => e = .returned (.bool true) ∧ Below w.heap.size w w' := by
  have HH : Hid (nk ≠ 32 ∨ nn ≠ 12) := h
  have g1 : (n : Int) ≤ 100 := by omega
  have g2 : (m : Int) ≤ 200 := by omega
  by_cases h32 : nk = 32
  · subst h32
    have g3 : ¬ (nn : Int) = 12 := by omega
    clear h
    go_enter Try.func3, Try.ntmps3
    go_wp2_with fail
    refine (anchor_any _).mono ?_
    rintro e w1 ⟨rfl, hb1⟩
    have HB1 : Hid (Below w.heap.size w w1) := hb1
    clear hb1
    go_wp2_with fail
    refine (Seal_bad pk pn _ ck nn cn _ _ w1 HH.out).mono ?_
    rintro e w2 ⟨rfl, rfl⟩
    go_wp2_with fail
    go_ret
    exact ⟨rfl, HB1.out⟩
  · have g3 : ¬ (nk : Int) = 32 := by omega
    clear h h32
    go_enter Try.func3, Try.ntmps3
    go_wp2_with fail
    refine (anchor_any _).mono ?_
    rintro e w1 ⟨rfl, hb1⟩
    have HB1 : Hid (Below w.heap.size w w1) := hb1
    clear hb1
    go_wp2_with fail
    refine (Seal_bad pk pn _ ck nn cn _ _ w1 HH.out).mono ?_
    rintro e w2 ⟨rfl, rfl⟩
    go_wp2_with fail
    go_ret
    exact ⟨rfl, HB1.out⟩
set_option maxHeartbeats 1000000 in
theorem seals_any (key nonce lo lt : List Nat) (bk ok ck bn on cn n co m cb : Nat) (po pb : Option Addr) (w : World) (hk : key.length = 32) (hn : nonce.length = 12) (hK : C3.SliceIs w bk ok key) (hN : C3.SliceIs w bn on nonce) (hck : 32 ≤ ck) (hcn : 12 ≤ cn)
    (ho : Src w (.slice po n co) lo) (hx : Src w (.slice pb m cb) lt) (h1 : n ≤ 100) (h2 : m ≤ 200) :
    Calls Try.prog 3 #[(.slice (some ⟨bk, ok, none⟩) 32 ck), (.slice (some ⟨bn, on, none⟩) 12 cn), .slice po n co, .slice pb m cb] w fun e w' => e = .returned (.bool true) ∧ Below w.heap.size w w' := by
  have HX : Hid (∀ w1, Below w.heap.size w w1 → Calls Try.prog 10 #[(.slice (some ⟨bk, ok, none⟩) 32 ck), (.slice (some ⟨bn, on, none⟩) 12 cn), .slice po n co, .slice pb m cb] w1 fun e w' => ∃ v, e = .returned (.tuple #[v, .int .i64 0]) ∧ w'.ownsRow w1.heap.size 5 1 v (m + 16) (ints .u8 (Ae.box key nonce lo lt)) ∧ Below w1.heap.size w1 w') := fun w1 hb => by
    have := Seal_ok key nonce lo lt bk ok ck bn on cn _ _ w1 hk hn (hK.below hb) (hN.below hb) hck hcn (ho.below hb) (hx.below hb) (by rw [ho.text.1]; omega) (by rw [hx.text.1]; omega)
    rwa [hx.text.1] at this
  have HY : Hid (∀ w1, Below w.heap.size w w1 → Calls Try.prog 11 #[(.slice (some ⟨bk, ok, none⟩) 32 ck), (.slice (some ⟨bn, on, none⟩) 12 cn), .slice po n co, .slice pb m cb] w1 fun e w' => ∃ v, e = .returned v ∧ Below w1.heap.size w1 w' ∧ RowV (Ae.box key nonce lo lt) v w') := fun w1 hb => by
    refine (rSeal_any key nonce lo lt bk ok ck bn on cn _ _ w1 hk hn (hK.below hb) (hN.below hb) (ho.below hb) (hx.below hb) (by rw [ho.text.1]; omega) (by rw [hx.text.1]; omega)).mono ?_
    rintro e w' ⟨v, rfl, hown, hb'⟩
    exact ⟨v, rfl, hb', own_rowV hown (Ae.box_length _ _ _ _) (by omega)⟩
  have HZ : Hid (∀ w1 x, Below w.heap.size w w1 → Src w1 x (Ae.box key nonce lo lt) → Calls Try.prog 12 #[(.slice (some ⟨bk, ok, none⟩) 32 ck), (.slice (some ⟨bn, on, none⟩) 12 cn), .slice po n co, x] w1 fun e w' => OpenSays w1.heap.size (some lt) e w' ∧ Below w1.heap.size w1 w') := fun w1 x hb hB => by
    have := Open_any key nonce lo _ bk ok ck bn on cn _ x w1 hk hn (hK.below hb) (hN.below hb) hck hcn (ho.below hb) hB (by rw [ho.text.1]; omega) (by rw [Ae.box_length, hx.text.1]; omega)
    rwa [Ae.opens_box] at this
  have HBB : Hid (∀ x ∈ Ae.box key nonce lo lt, x < 256) := Ae.box_lt hx.1
  have HBL : Hid ((Ae.box key nonce lo lt).length = m + 16) := by show _ = _; rw [Ae.box_length, hx.text.1]
  have HT : Hid (Src w (.slice pb m cb) lt) := hx
  have g1 : (n : Int) ≤ 100 := by omega
  have g2 : (m : Int) ≤ 200 := by omega
  clear hk hn hK hN ho hx
  generalize Ae.box key nonce lo lt = B at *
  go_enter Try.func3, Try.ntmps3
  go_wp2_with fail
  refine (anchor_any _).mono ?_
  rintro e w1 ⟨rfl, hb1⟩
  have HB1 : Hid (Below w.heap.size w w1) := hb1
  clear hb1
  go_wp2_with fail
  refine (HX.out w1 HB1.out).mono ?_
  rintro e w2 ⟨v2, rfl, ho2, hb2⟩
  have HS2 : Hid (Src w2 v2 B) := Src.own HBB.out ho2
  have HB2 : Hid (Below w.heap.size w w2) := HB1.out.trans (hb2.mono HB1.out.size)
  have HBV : Hid (RowV B v2 w2) := own_rowV ho2 HBL.out (by omega)
  have HYS : Hid (∀ w', Below w2.heap.size w2 w' → Calls Try.prog 11 #[(.slice (some ⟨bk, ok, none⟩) 32 ck), (.slice (some ⟨bn, on, none⟩) 12 cn), .slice po n co, .slice pb m cb] w' fun e w3 => ∃ v, e = .returned v ∧ Below w'.heap.size w' w3 ∧ RowV B v w3) := fun w' hb => HY.out w' (HB2.out.trans (hb.mono HB2.out.size))
  clear hb2 ho2 HX HY HB1
  go_wp2_with fail
  refine wp_region_inv (sealV (.slice (some ⟨bk, ok, none⟩) 32 ck) (.slice (some ⟨bn, on, none⟩) 12 cn) (.slice po n co) (.slice pb m cb) v2 B) (fun u u' => Below u.heap.size u u') (by kernel_rfl) ((Below.refl _ _).drew) below_trans' (sealV_kept _ _ _ _ _ _) (by kernel_rfl) ?_ ?_
  · intro i o a' w' hi inv hpre
    have hb : Below w2.heap.size w2 w' := inv.grow
    have hlt : i < 13 := (Array.getElem?_eq_some_iff.1 hi).1
    obtain rfl|rfl|rfl|rfl|rfl|rfl|rfl|rfl|rfl|rfl|rfl|rfl|rfl : i = 0 ∨ i = 1 ∨ i = 2 ∨ i = 3 ∨ i = 4 ∨ i = 5 ∨ i = 6 ∨ i = 7 ∨ i = 8 ∨ i = 9 ∨ i = 10 ∨ i = 11 ∨ i = 12 := by omega
    · obtain rfl := Option.some.inj hi
      exact st_value _ rfl rfl rfl (Below.refl _ _) (by show a'.tmps.getD 10 undef = _; rw [inv.old 10 (notDst_spec (by kernel_rfl))]; rfl)
    · obtain rfl := Option.some.inj hi
      have h0 : a'.tmps.getD 46 undef = _ := pre_of hpre 0 46 (by kernel_rfl) (by kernel_rfl)
      exact st_value _ rfl rfl (neqe_run 46 rfl h0) (Below.refl _ _) rfl
    · obtain rfl := Option.some.inj hi
      have h0 := pre_of hpre 1 47 (by kernel_rfl) (by kernel_rfl)
      exact st_value _ rfl rfl rfl (Below.refl _ _) h0
    · obtain rfl := Option.some.inj hi
      have hgu : a'.tmps.getD 48 undef = _ := pre_of hpre 2 48 (by kernel_rfl) (by kernel_rfl)
      exact st_value _ rfl (wanted_else 2 48 rfl (by kernel_rfl) hgu) rfl (Below.refl _ _) (by show a'.tmps.getD 9 undef = _; rw [inv.old 9 (notDst_spec (by kernel_rfl))]; rfl)
    · obtain rfl := Option.some.inj hi
      have hgu : a'.tmps.getD 48 undef = _ := pre_of hpre 2 48 (by kernel_rfl) (by kernel_rfl)
      have h0 : a'.tmps.getD 49 undef = _ := pre_of hpre 3 49 (by kernel_rfl) (by kernel_rfl)
      have hv : RowV B (a'.tmps.getD 49 undef) w' := by rw [h0]; exact HBV.out.kept hb
      exact st_value _ rfl (wanted_else 2 48 rfl (by kernel_rfl) hgu) (conv_run 49 rfl hv) (Below.refl _ _) rfl
    · obtain rfl := Option.some.inj hi
      have hgu : a'.tmps.getD 48 undef = _ := pre_of hpre 2 48 (by kernel_rfl) (by kernel_rfl)
      exact st_value _ rfl (wanted_else 2 48 rfl (by kernel_rfl) hgu) rfl (Below.refl _ _) (by show a'.tmps.getD 0 undef = _; rw [inv.old 0 (notDst_spec (by kernel_rfl))]; rfl)
    · obtain rfl := Option.some.inj hi
      have hgu : a'.tmps.getD 48 undef = _ := pre_of hpre 2 48 (by kernel_rfl) (by kernel_rfl)
      exact st_value _ rfl (wanted_else 2 48 rfl (by kernel_rfl) hgu) rfl (Below.refl _ _) (by show a'.tmps.getD 1 undef = _; rw [inv.old 1 (notDst_spec (by kernel_rfl))]; rfl)
    · obtain rfl := Option.some.inj hi
      have hgu : a'.tmps.getD 48 undef = _ := pre_of hpre 2 48 (by kernel_rfl) (by kernel_rfl)
      exact st_value _ rfl (wanted_else 2 48 rfl (by kernel_rfl) hgu) rfl (Below.refl _ _) (by show a'.tmps.getD 2 undef = _; rw [inv.old 2 (notDst_spec (by kernel_rfl))]; rfl)
    · obtain rfl := Option.some.inj hi
      have hgu : a'.tmps.getD 48 undef = _ := pre_of hpre 2 48 (by kernel_rfl) (by kernel_rfl)
      exact st_value _ rfl (wanted_else 2 48 rfl (by kernel_rfl) hgu) rfl (Below.refl _ _) (by show a'.tmps.getD 3 undef = _; rw [inv.old 3 (notDst_spec (by kernel_rfl))]; rfl)
    · obtain rfl := Option.some.inj hi
      have hgu : a'.tmps.getD 48 undef = _ := pre_of hpre 2 48 (by kernel_rfl) (by kernel_rfl)
      have h0 : a'.tmps.getD 51 undef = _ := pre_of hpre 5 51 (by kernel_rfl) (by kernel_rfl)
      have h1 : a'.tmps.getD 52 undef = _ := pre_of hpre 6 52 (by kernel_rfl) (by kernel_rfl)
      have h2 : a'.tmps.getD 53 undef = _ := pre_of hpre 7 53 (by kernel_rfl) (by kernel_rfl)
      have h3 : a'.tmps.getD 54 undef = _ := pre_of hpre 8 54 (by kernel_rfl) (by kernel_rfl)
      refine st_call 11 #[a'.tmps.getD 51 undef, a'.tmps.getD 52 undef, a'.tmps.getD 53 undef, a'.tmps.getD 54 undef] rfl (wanted_else 2 48 rfl (by kernel_rfl) hgu) (by kernel_rfl) ?_
      rw [h0, h1, h2, h3]
      exact HYS.out _ hb
    · obtain rfl := Option.some.inj hi
      have hgu : a'.tmps.getD 48 undef = _ := pre_of hpre 2 48 (by kernel_rfl) (by kernel_rfl)
      have h0 := pre_of hpre 9 55 (by kernel_rfl) (by kernel_rfl)
      exact st_value _ rfl (wanted_else 2 48 rfl (by kernel_rfl) hgu) (conv_run 55 rfl h0) (Below.refl _ _) rfl
    · obtain rfl := Option.some.inj hi
      have hgu : a'.tmps.getD 48 undef = _ := pre_of hpre 2 48 (by kernel_rfl) (by kernel_rfl)
      have h0 : a'.tmps.getD 50 undef = _ := pre_of hpre 4 50 (by kernel_rfl) (by kernel_rfl)
      have h1 : a'.tmps.getD 56 undef = _ := pre_of hpre 10 56 (by kernel_rfl) (by kernel_rfl)
      exact st_value _ rfl (wanted_else 2 48 rfl (by kernel_rfl) hgu) (neq_run 50 56 rfl h0 h1) (Below.refl _ _) rfl
    · obtain rfl := Option.some.inj hi
      have h0 : a'.tmps.getD 48 undef = _ := pre_of hpre 2 48 (by kernel_rfl) (by kernel_rfl)
      have h1 : a'.tmps.getD 57 undef = _ := pre_of hpre 11 57 (by kernel_rfl) (by kernel_rfl)
      exact st_value _ rfl rfl (pick_else h0 h1 rfl) (Below.refl _ _) rfl
  · intro a' w3 inv hd
    have hls : a'.tmps.getD 58 undef = .bool false := hd 12 58 (by kernel_rfl)
    have hb : Below w2.heap.size w2 w3 := inv.grow
    have hdf : a'.defers = [] := inv.defers
    have hsz : a'.tmps.size = 76 := inv.size
    have e := frame76 hsz (fun t ht => inv.old t (dst_in (lo := 46) (up := 58) (by kernel_rfl) t ht))
    rw [hls] at e
    clear inv hd hls hsz
    obtain ⟨tmps, defers⟩ := a'
    obtain rfl : defers = [] := hdf
    replace e : tmps = _ := e
    generalize tmps.getD 46 undef = x46 at e
    generalize tmps.getD 47 undef = x47 at e
    generalize tmps.getD 48 undef = x48 at e
    generalize tmps.getD 49 undef = x49 at e
    generalize tmps.getD 50 undef = x50 at e
    generalize tmps.getD 51 undef = x51 at e
    generalize tmps.getD 52 undef = x52 at e
    generalize tmps.getD 53 undef = x53 at e
    generalize tmps.getD 54 undef = x54 at e
    generalize tmps.getD 55 undef = x55 at e
    generalize tmps.getD 56 undef = x56 at e
    generalize tmps.getD 57 undef = x57 at e
    simp only [Array.getD_eq_getD_getElem?, List.getElem?_toArray, List.getElem?_cons_succ, List.getElem?_cons_zero, Option.getD_some] at e
    subst e
    have HB3 : Hid (Below w.heap.size w w3) := HB2.out.trans (hb.mono HB2.out.size)
    have HS3 : Hid (Src w3 v2 B) := HS2.out.below hb
    clear hb HB2 HS2 HBV HYS
    go_wp2_with fail
    refine (HZ.out w3 _ HB3.out HS3.out).mono ?_
    rintro e w4 ⟨⟨v4, rfl, ho4⟩, hb4⟩
    have HB4 : Hid (Below w.heap.size w w4) := HB3.out.trans (hb4.mono HB3.out.size)
    have hc4 := conv_src (Src.own HT.out.1 ho4)
    have hc5 := conv_src (HT.out.below HB4.out)
    have hse := strB_eq lt
    clear hb4 ho4 HB3 HS3 HZ
    go_wp2_with fail
    go_ret
    exact ⟨rfl, HB4.out⟩
end Go.Proofs.Ytnceiccciaihoaa.A5
