/- The document's answer: Open. -/
import Derived.Test.YtnceiccciaihoaaA5RSeal
import Derived.Test.YtnceiccciaihoaaA5Steps
namespace Go.Proofs.Ytnceiccciaihoaa.A5
open Go.RowKit P4
/-- What the document's Open tells. -/
def ROpenSays (base : Nat) (r : Option (List Nat)) (e : Ending) (w' : World) : Prop := match r with
  | some t => ∃ v, e = .returned (.tuple #[v, .bool true]) ∧ w'.ownsRow base 5 1 v t.length (ints .u8 t)
  | none => e = .returned (.tuple #[.slice none 0 0, .bool false])
set_option maxHeartbeats 1000000 in
theorem rOpen_short (v0 v1 v2 : Value) (pb : Option Addr) (n cb : Nat) (w : World) (h16 : n < 16) :
    Calls Try.prog 13 #[v0, v1, v2, .slice pb n cb] w fun e w' => e = .returned (.tuple #[.slice none 0 0, .bool false]) ∧ Below w.heap.size w w' := by
  have g2 : (n : Int) < 16 := by omega
  go_enter Try.func13, Try.ntmps13
  go_wp2_with fail
  refine bodyPost_ret (results_tmp2 rfl _ _ _) rfl ?_
  exact ⟨rfl, Below.refl _ _⟩
theorem cut_run {o : Oper} {a' : Act} {w' : World} {g of k c : Nat} (t u : Tmp) (ho : o.op = .slice 22 (.tmp t) (some (.tmp u)) none none) (h0 : a'.tmps.getD t undef = .slice (some ⟨g, of, none⟩) (k + 16) c) (h1 : a'.tmps.getD u undef = .int .i64 (k : Nat)) (hc : k + 16 ≤ c) :
    (execOp a'.eval o).run Try.prog w' = .ok (.value (.slice (some ⟨g, of + k, none⟩) 16 (c - k))) w' := by
  have := from_run (w' := w') t u ho h0 h1 (by omega) hc
  rwa [Nat.add_sub_cancel_left] at this
theorem own_rowV {w : World} {base n : Nat} {v : Value} {l : List Nat} (h : w.ownsRow base 5 1 v n (ints .u8 l)) (hl : l.length = n) (hn : 0 < n) : RowV l v w := by
  obtain ⟨g, c, rfl, _, _, _, hr⟩ := own_cell h hn
  subst hl
  exact .inl ⟨g, 0, c, rfl, hr⟩
def ropV (kv nv ov sv bv tv : Value) (T lt : List Nat) (k : Nat) : Nat → Value → World → Prop
  | 0 => IsV kv
  | 1 => IsV nv
  | 2 => IsV ov
  | 3 => IsV sv
  | 4 => RowV T
  | 5 => StrV T
  | 6 => IsV bv
  | 7 => IsV bv
  | 8 => IsV (.int .i64 ((k + 16 : Nat) : Int))
  | 9 => IsV (.int .i64 (k : Int))
  | 10 => IsV tv
  | 11 => StrV lt
  | 12 => IsV (.bool (!decide (T = lt)))
  | _ => fun _ _ => True
theorem ropV_kept (kv nv ov sv bv tv : Value) (T lt : List Nat) (k : Nat) : ∀ i v w w', ropV kv nv ov sv bv tv T lt k i v w → Below w.heap.size w w' → ropV kv nv ov sv bv tv T lt k i v w'
  | 0, _, _, _, h, _ => h
  | 1, _, _, _, h, _ => h
  | 2, _, _, _, h, _ => h
  | 3, _, _, _, h, _ => h
  | 4, _, _, _, h, hb => RowV.kept h hb
  | 5, _, _, _, h, _ => h
  | 6, _, _, _, h, _ => h
  | 7, _, _, _, h, _ => h
  | 8, _, _, _, h, _ => h
  | 9, _, _, _, h, _ => h
  | 10, _, _, _, h, _ => h
  | 11, _, _, _, h, _ => h
  | 12, _, _, _, h, _ => h
  | _ + 13, _, _, _, _, _ => trivial
theorem frame36 {A F : Array Value} (hs : A.size = 36) (h : ∀ t, t < 19 ∨ 31 < t → A.getD t undef = F.getD t undef) : A = #[F.getD 0 undef, F.getD 1 undef, F.getD 2 undef, F.getD 3 undef, F.getD 4 undef, F.getD 5 undef, F.getD 6 undef, F.getD 7 undef, F.getD 8 undef, F.getD 9 undef, F.getD 10 undef, F.getD 11 undef, F.getD 12 undef, F.getD 13 undef, F.getD 14 undef, F.getD 15 undef, F.getD 16 undef, F.getD 17 undef, F.getD 18 undef, A.getD 19 undef, A.getD 20 undef, A.getD 21 undef, A.getD 22 undef, A.getD 23 undef, A.getD 24 undef, A.getD 25 undef, A.getD 26 undef, A.getD 27 undef, A.getD 28 undef, A.getD 29 undef, A.getD 30 undef, A.getD 31 undef, F.getD 32 undef, F.getD 33 undef, F.getD 34 undef, F.getD 35 undef] := by
  rw [← h 0 (by decide), ← h 1 (by decide), ← h 2 (by decide), ← h 3 (by decide), ← h 4 (by decide), ← h 5 (by decide), ← h 6 (by decide), ← h 7 (by decide), ← h 8 (by decide), ← h 9 (by decide), ← h 10 (by decide), ← h 11 (by decide), ← h 12 (by decide), ← h 13 (by decide), ← h 14 (by decide), ← h 15 (by decide), ← h 16 (by decide), ← h 17 (by decide), ← h 18 (by decide), ← h 32 (by decide), ← h 33 (by decide), ← h 34 (by decide), ← h 35 (by decide)]
  refine Array.ext (by simp [hs]) (fun i h1 h2 => ?_)
  have e : A[i] = A.getD i undef := by simp [h1]
  rw [e]
  rw [hs] at h1
  clear e h hs
  match i, h1 with
  | 0, _ => rfl
  | 1, _ => rfl
  | 2, _ => rfl
  | 3, _ => rfl
  | 4, _ => rfl
  | 5, _ => rfl
  | 6, _ => rfl
  | 7, _ => rfl
  | 8, _ => rfl
  | 9, _ => rfl
  | 10, _ => rfl
  | 11, _ => rfl
  | 12, _ => rfl
  | 13, _ => rfl
  | 14, _ => rfl
  | 15, _ => rfl
  | 16, _ => rfl
  | 17, _ => rfl
  | 18, _ => rfl
  | 19, _ => rfl
  | 20, _ => rfl
  | 21, _ => rfl
  | 22, _ => rfl
  | 23, _ => rfl
  | 24, _ => rfl
  | 25, _ => rfl
  | 26, _ => rfl
  | 27, _ => rfl
  | 28, _ => rfl
  | 29, _ => rfl
  | 30, _ => rfl
  | 31, _ => rfl
  | 32, _ => rfl
  | 33, _ => rfl
  | 34, _ => rfl
  | 35, _ => rfl
  | _ + 36, h => exact absurd h (by omega)
set_option maxHeartbeats 1000000 in
theorem rOpen_long (key nonce lo ls lt : List Nat) (bk ok ck bn on cn bb ob cb k : Nat) (o : Value) (w : World) (hk : key.length = 32) (hn : nonce.length = 12) (hK : C3.SliceIs w bk ok key) (hN : C3.SliceIs w bn on nonce)
    (ho : Src w o lo) (hol : lo.length ≤ 200) (hsl : ls.length = k) (htl : lt.length = 16) (hkl : k ≤ 200) (hcb : k + 16 ≤ cb) (hlb : ∀ x ∈ ls ++ lt, x < 256) (hr : w.rangeAt bb ob (ints .u8 (ls ++ lt))) :
    Calls Try.prog 13 #[.slice (some ⟨bk, ok, none⟩) 32 ck, .slice (some ⟨bn, on, none⟩) 12 cn, o, .slice (some ⟨bb, ob, none⟩) (k + 16) cb] w fun e w' => ROpenSays w.heap.size (if Ae.tagOf key nonce lo ls = lt then some (C3.Ch.xor key 1 nonce ls) else none) e w' ∧ Below w.heap.size w w' := by
  have HSr : Hid (∀ w1, Below w.heap.size w w1 → Src w1 (.slice (some ⟨bb, ob, none⟩) k cb) ls) := fun w1 hb => Src.below (Src.row (fun x hx => hlb x (List.mem_append_left _ hx)) (by omega) (by have := range_take hr k; rwa [← hsl, List.take_left] at this) hsl) hb
  have HTR : Hid (RowV lt (.slice (some ⟨bb, ob + k, none⟩) 16 (cb - k)) w) := .inl ⟨bb, ob + k, cb - k, by rw [htl], by have := range_drop hr k; rwa [← hsl, List.drop_left, hsl] at this⟩
  have HXS : Hid (∀ w1, Below w.heap.size w w1 → Calls Try.prog 20 #[.slice (some ⟨bk, ok, none⟩) 32 ck, .slice (some ⟨bn, on, none⟩) 12 cn, o, .slice (some ⟨bb, ob, none⟩) k cb] w1 fun e w' => ∃ v, e = .returned v ∧ Below w1.heap.size w1 w' ∧ RowV (Ae.tagOf key nonce lo ls) v w') := fun w1 hb => by
    refine (rTag_any key nonce lo ls bk ok ck bn on cn o _ w1 hk hn (hK.below hb) (hN.below hb) (ho.below hb) (HSr.out w1 hb) hol (by omega)).mono ?_
    rintro e w' ⟨v, rfl, hown, hb'⟩
    exact ⟨v, rfl, hb', own_rowV hown (Ae.tagOf_length _ _ _ _) (by decide)⟩
  have HY : Hid (∀ w1, Below w.heap.size w w1 → Calls Try.prog 19 #[.slice (some ⟨bk, ok, none⟩) 32 ck, .int .i64 1, .slice (some ⟨bn, on, none⟩) 12 cn, .slice (some ⟨bb, ob, none⟩) k cb] w1 fun e w' => ∃ v, e = .returned v ∧ w'.ownsRow w1.heap.size 5 1 v k (ints .u8 (C3.Ch.xor key 1 nonce ls)) ∧ Below w1.heap.size w1 w') := fun w1 hb =>
    C3.rxor_any key nonce ls bk ok ck bn on cn 1 k cb _ w1 hk hn (hK.below hb) (hN.below hb) (by decide) (HSr.out w1 hb).text.2.2 hsl (by omega)
  have HSL : Hid ((C3.Ch.xor key 1 nonce ls).length = k) := by show _ = _; rw [C3.Ch.xor_length, hsl]
  have HTB : Hid (∀ x ∈ Ae.tagOf key nonce lo ls, x < 256) := Ae.tagOf_lt _ _ _ _
  have HTB0 : Hid (∀ x ∈ lt, x < 256) := fun x hx => hlb x (List.mem_append_right _ hx)
  obtain ⟨po, co, rfl⟩ := ho.slice
  obtain ⟨no, hno⟩ : ∃ n, lo.length = n := ⟨_, rfl⟩
  rw [hno] at HXS ⊢
  clear hk hn hK hN ho hol hno hsl htl hlb hr
  generalize C3.Ch.xor key 1 nonce ls = S at *
  generalize Ae.tagOf key nonce lo ls = T at *
  obtain ⟨R, hR⟩ : ∃ R, (if T = lt then some S else none) = R := ⟨_, rfl⟩
  rw [hR]
  have HR1 : Hid (T = lt → R = some S) := fun h => by rw [← hR, if_pos h]
  have HR0 : Hid (T ≠ lt → R = none) := fun h => by rw [← hR, if_neg h]
  clear hR
  have g1 : ¬ ((k : Int) + 16 < 16) := by omega
  have g2 : (k : Int) + 16 - 16 = (k : Int) := by omega
  have g3 : (k : Int) ≤ (cb : Int) := by omega
  have g5 : (0 : Int) ≤ (k : Int) := by omega
  go_enter Try.func13, Try.ntmps13
  go_wp2_with fail
  refine wp_region_inv (ropV (.slice (some ⟨bk, ok, none⟩) 32 ck) (.slice (some ⟨bn, on, none⟩) 12 cn) (.slice po no co) (.slice (some ⟨bb, ob, none⟩) k cb) (.slice (some ⟨bb, ob, none⟩) (k + 16) cb) (.slice (some ⟨bb, ob + k, none⟩) 16 (cb - k)) T lt k) (fun u u' => Below u.heap.size u u') (by kernel_rfl) ((Below.refl _ _).drew) below_trans' (ropV_kept _ _ _ _ _ _ _ _ _) (by kernel_rfl) ?_ ?_
  · intro i o a' w' hi inv hpre
    have hb : Below w.heap.size w w' := inv.grow
    have hlt : i < 13 := (Array.getElem?_eq_some_iff.1 hi).1
    obtain rfl|rfl|rfl|rfl|rfl|rfl|rfl|rfl|rfl|rfl|rfl|rfl|rfl : i = 0 ∨ i = 1 ∨ i = 2 ∨ i = 3 ∨ i = 4 ∨ i = 5 ∨ i = 6 ∨ i = 7 ∨ i = 8 ∨ i = 9 ∨ i = 10 ∨ i = 11 ∨ i = 12 := by omega
    · obtain rfl := Option.some.inj hi
      exact st_value _ rfl rfl rfl (Below.refl _ _) (by show a'.tmps.getD 0 undef = _; rw [inv.old 0 (notDst_spec (by kernel_rfl))]; rfl)
    · obtain rfl := Option.some.inj hi
      exact st_value _ rfl rfl rfl (Below.refl _ _) (by show a'.tmps.getD 1 undef = _; rw [inv.old 1 (notDst_spec (by kernel_rfl))]; rfl)
    · obtain rfl := Option.some.inj hi
      exact st_value _ rfl rfl rfl (Below.refl _ _) (by show a'.tmps.getD 2 undef = _; rw [inv.old 2 (notDst_spec (by kernel_rfl))]; rfl)
    · obtain rfl := Option.some.inj hi
      exact st_value _ rfl rfl rfl (Below.refl _ _) (by show a'.tmps.getD 10 undef = _; rw [inv.old 10 (notDst_spec (by kernel_rfl))]; rfl)
    · obtain rfl := Option.some.inj hi
      have h0 : a'.tmps.getD 19 undef = _ := pre_of hpre 0 19 (by kernel_rfl) (by kernel_rfl)
      have h1 : a'.tmps.getD 20 undef = _ := pre_of hpre 1 20 (by kernel_rfl) (by kernel_rfl)
      have h2 : a'.tmps.getD 21 undef = _ := pre_of hpre 2 21 (by kernel_rfl) (by kernel_rfl)
      have h3 : a'.tmps.getD 22 undef = _ := pre_of hpre 3 22 (by kernel_rfl) (by kernel_rfl)
      refine st_call 20 #[a'.tmps.getD 19 undef, a'.tmps.getD 20 undef, a'.tmps.getD 21 undef, a'.tmps.getD 22 undef] rfl rfl (by kernel_rfl) ?_
      rw [h0, h1, h2, h3]
      exact HXS.out _ hb
    · obtain rfl := Option.some.inj hi
      have h0 := pre_of hpre 4 23 (by kernel_rfl) (by kernel_rfl)
      exact st_value _ rfl rfl (conv_run 23 rfl h0) (Below.refl _ _) rfl
    · obtain rfl := Option.some.inj hi
      exact st_value _ rfl rfl rfl (Below.refl _ _) (by show a'.tmps.getD 3 undef = _; rw [inv.old 3 (notDst_spec (by kernel_rfl))]; rfl)
    · obtain rfl := Option.some.inj hi
      exact st_value _ rfl rfl rfl (Below.refl _ _) (by show a'.tmps.getD 3 undef = _; rw [inv.old 3 (notDst_spec (by kernel_rfl))]; rfl)
    · obtain rfl := Option.some.inj hi
      have h0 : a'.tmps.getD 26 undef = _ := pre_of hpre 7 26 (by kernel_rfl) (by kernel_rfl)
      exact st_value _ rfl rfl (len_run 26 rfl h0) (Below.refl _ _) rfl
    · obtain rfl := Option.some.inj hi
      have h0 : a'.tmps.getD 27 undef = _ := pre_of hpre 8 27 (by kernel_rfl) (by kernel_rfl)
      exact st_value _ rfl rfl (sub16_run 27 rfl h0 (by omega)) (Below.refl _ _) rfl
    · obtain rfl := Option.some.inj hi
      have h0 : a'.tmps.getD 25 undef = _ := pre_of hpre 6 25 (by kernel_rfl) (by kernel_rfl)
      have h1 : a'.tmps.getD 28 undef = _ := pre_of hpre 9 28 (by kernel_rfl) (by kernel_rfl)
      exact st_value (.slice (some ⟨bb, ob + k, none⟩) 16 (cb - k)) rfl rfl (cut_run 25 28 rfl h0 h1 (by omega)) (Below.refl _ _) rfl
    · obtain rfl := Option.some.inj hi
      have h0 : a'.tmps.getD 29 undef = _ := pre_of hpre 10 29 (by kernel_rfl) (by kernel_rfl)
      have hv : RowV lt (a'.tmps.getD 29 undef) w' := by rw [h0]; exact HTR.out.kept hb
      exact st_value _ rfl rfl (conv_run 29 rfl hv) (Below.refl _ _) rfl
    · obtain rfl := Option.some.inj hi
      have h0 : a'.tmps.getD 24 undef = _ := pre_of hpre 5 24 (by kernel_rfl) (by kernel_rfl)
      have h1 : a'.tmps.getD 30 undef = _ := pre_of hpre 11 30 (by kernel_rfl) (by kernel_rfl)
      exact st_value _ rfl rfl (neqs_run 24 30 rfl h0 h1 HTB.out HTB0.out) (Below.refl _ _) rfl
  · intro a' w3 inv hd
    have hls : a'.tmps.getD 31 undef = .bool (!decide (T = lt)) := hd 12 31 (by kernel_rfl)
    have hb : Below w.heap.size w w3 := inv.grow
    have hdf : a'.defers = [] := inv.defers
    have hsz : a'.tmps.size = 36 := inv.size
    have e := frame36 hsz (fun t ht => inv.old t (dst_in (lo := 19) (up := 31) (by kernel_rfl) t ht))
    rw [hls] at e
    clear inv hd hls hsz
    obtain ⟨tmps, defers⟩ := a'
    obtain rfl : defers = [] := hdf
    replace e : tmps = _ := e
    generalize tmps.getD 19 undef = x19 at e
    generalize tmps.getD 20 undef = x20 at e
    generalize tmps.getD 21 undef = x21 at e
    generalize tmps.getD 22 undef = x22 at e
    generalize tmps.getD 23 undef = x23 at e
    generalize tmps.getD 24 undef = x24 at e
    generalize tmps.getD 25 undef = x25 at e
    generalize tmps.getD 26 undef = x26 at e
    generalize tmps.getD 27 undef = x27 at e
    generalize tmps.getD 28 undef = x28 at e
    generalize tmps.getD 29 undef = x29 at e
    generalize tmps.getD 30 undef = x30 at e
    simp only [Array.getD_eq_getD_getElem?, List.getElem?_toArray, List.getElem?_cons_succ, List.getElem?_cons_zero, Option.getD_some] at e
    subst e
    have HB3 : Hid (Below w.heap.size w w3) := hb
    clear hb
    by_cases hT : T = lt
    · have HRE : Hid (R = some S) := HR1.out hT
      rw [decide_eq_true hT]
      go_wp2_with fail
      refine (HY.out w3 HB3.out).mono ?_
      rintro e w5 ⟨v5, rfl, ho5, hb5⟩
      have HO5 : Hid (w5.ownsRow w.heap.size 5 1 v5 k (ints .u8 S)) := own_base ho5 HB3.out.size
      have HB5 : Hid (Below w.heap.size w w5) := HB3.out.trans (hb5.mono HB3.out.size)
      clear ho5 hb5
      go_wp2_with fail
      refine bodyPost_ret (results_tmp2 rfl _ _ _) rfl ?_
      rw [HRE.out]
      exact ⟨⟨_, rfl, by rw [HSL.out]; exact HO5.out⟩, HB5.out⟩
    · have HRE : Hid (R = none) := HR0.out hT
      rw [decide_eq_false hT]
      go_wp2_with fail
      refine bodyPost_ret (results_tmp2 rfl _ _ _) rfl ?_
      rw [HRE.out]
      exact ⟨rfl, HB3.out⟩
/-- The document's Open, of a right key and nonce. -/
theorem rOpen_any (key nonce lo lb : List Nat) (bk ok ck bn on cn : Nat) (o x : Value) (w : World) (hk : key.length = 32) (hn : nonce.length = 12) (hK : C3.SliceIs w bk ok key) (hN : C3.SliceIs w bn on nonce)
    (ho : Src w o lo) (hx : Src w x lb) (hol : lo.length ≤ 200) (hbl : lb.length ≤ 200) :
    Calls Try.prog 13 #[.slice (some ⟨bk, ok, none⟩) 32 ck, .slice (some ⟨bn, on, none⟩) 12 cn, o, x] w fun e w' => ROpenSays w.heap.size (Ae.opens key nonce lo lb) e w' ∧ Below w.heap.size w w' := by
  obtain ⟨px, cx, rfl⟩ := hx.slice
  by_cases h : lb.length < 16
  · rw [Ae.opens_short h]
    exact rOpen_short _ _ o px lb.length cx w h
  · obtain ⟨_, hc, hs, hT⟩ := hx.text
    obtain ⟨b, ob, rfl, hr⟩ := hT (by intro e; subst e; exact h (by decide))
    unfold Ae.opens
    rw [if_neg h]
    have hl : lb.length = lb.length - 16 + 16 := by omega
    have ha : lb = lb.take (lb.length - 16) ++ lb.drop (lb.length - 16) := (List.take_append_drop _ _).symm
    have := rOpen_long key nonce lo (lb.take (lb.length - 16)) (lb.drop (lb.length - 16)) bk ok ck bn on cn b ob cx (lb.length - 16) o w hk hn hK hN ho hol (by rw [List.length_take]; omega) (by rw [List.length_drop]; omega) (by omega) (by omega) (by rw [← ha]; exact hs) (by rw [← ha]; exact hr)
    rw [← hl] at this
    exact this
end Go.Proofs.Ytnceiccciaihoaa.A5
