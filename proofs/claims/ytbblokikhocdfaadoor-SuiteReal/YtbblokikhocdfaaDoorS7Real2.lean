/- The calls of a real suite. -/
import Derived.Test.YtbblokikhocdfaaDoorS7Real
namespace Go.Proofs.YtbblokikhocdfaaDoor.S7
open Go.RowKit
theorem Src.full {w : World} {v : Value} {l : List Nat} {n : Nat} (h : Src w v l) (hl : l.length = n) (hn : 0 < n) : ∃ b o c, v = .slice (some ⟨b, o, none⟩) n c ∧ n ≤ c ∧ C3.SliceIs w b o l := by
  obtain ⟨hs, ⟨rfl, rfl⟩ | ⟨ad, c, rfl, rfl⟩ | ⟨b, o, c, rfl, hc, hr⟩⟩ := h
  · simp at hl; omega
  · simp at hl; omega
  · subst hl
    exact ⟨b, o, c, rfl, hc, hs, hr⟩
set_option maxHeartbeats 400000 in
theorem Sum_real (ls : List (List Nat)) (v : Value) (p n : Nat) (sv : Value) (w : World) (h : RlIs w p sv n) (hv : S2.PartsAt w v ls) (hT : S2.Tab w) (hn : ls.flatten.length < 576460752303423488) :
    Calls Tryd.prog 13 #[.pointer (some ⟨p, 0, none⟩), v] w fun e w' => ∃ u, e = .returned u ∧ w'.ownsRow w.heap.size 5 1 u 32 (ints .u8 (S2.Sp.sum ls.flatten)) ∧ Below w.heap.size w w' := by
  have HC : Hid (Calls Tryd.prog 28 #[v] w fun e w' => ∃ b, e = .returned (.slice (some ⟨b, 0, none⟩) 32 32) ∧ w.heap.size ≤ b ∧ w'.heap[b]? = some (.cells (arr .u8 (S2.Sp.sum ls.flatten)) 5 (0, 0)) ∧ Below w.heap.size w w') := S2.sum_any ls v w hv hT hn
  obtain ⟨d0, d1, d2⟩ := h.cells
  clear h hv hT hn
  go_enter Tryd.func13, Tryd.ntmps13
  go_wp2_with fail
  refine HC.out.mono ?_
  rintro e w1 ⟨b, rfl, hb, hr, hbe⟩
  have HO : Hid (w1.ownsRow w.heap.size 5 1 (.slice (some ⟨b, 0, none⟩) 32 32) 32 (ints .u8 (S2.Sp.sum ls.flatten))) := own_row (S2.sum_length _) (by decide) hb hr
  have HB : Hid (Below w.heap.size w w1) := hbe
  clear hb hr hbe HC d0 d1 d2
  go_wp2_with fail
  go_ret
  exact ⟨_, rfl, HO.out, HB.out⟩
set_option maxHeartbeats 400000 in
theorem Code_real (k l : List Nat) (kv v : Value) (g p n : Nat) (sv : Value) (w : World) (h : RlIs w p sv n) (hk : Src w kv k) (hc : w.cell? ⟨g, 0, none⟩ = some v) (hv : Src w v l) (hT : S2.Tab w) (hkl : k.length ≤ 50000) (hl : l.length ≤ 50000) :
    Calls Tryd.prog 15 #[.pointer (some ⟨p, 0, none⟩), kv, .slice (some ⟨g, 0, none⟩) 1 1] w fun e w' => ∃ u, e = .returned u ∧ w'.ownsRow w.heap.size 5 1 u 32 (ints .u8 (S2.Mk.code k l)) ∧ Below w.heap.size w w' := by
  obtain ⟨q, c, rfl, _⟩ := hk.slice
  have HC : Hid (Calls Tryd.prog 33 #[.slice q k.length c, .slice (some ⟨g, 0, none⟩) 1 1] w fun e w' => ∃ b, e = .returned (.slice (some ⟨b, 0, none⟩) 32 32) ∧ w.heap.size ≤ b ∧ w'.heap[b]? = some (.cells (arr .u8 (S2.Mk.code k [l].flatten)) 5 (0, 0)) ∧ Below w.heap.size w w') :=
    S2.code_any k [l] q k.length c g 0 1 [v] w hk.bytesAt hT (by omega)
      (fun j u hu => by
        cases j with
        | zero => simp at hu; subst hu; exact hc
        | succ j => simp at hu)
      (fun i l' hl' => by
        cases i with
        | zero => simp at hl'; subst hl'; exact ⟨v, rfl, hv.bytesAt⟩
        | succ i => simp at hl') (by simp) (by simp; omega)
  rw [show [l].flatten = l by simp] at HC
  obtain ⟨d0, d1, d2⟩ := h.cells
  clear h hk hc hv hT hkl hl
  generalize k.length = kl at *
  go_enter Tryd.func15, Tryd.ntmps15
  go_wp2_with fail
  refine HC.out.mono ?_
  rintro e w1 ⟨b, rfl, hb, hr, hbe⟩
  have HO : Hid (w1.ownsRow w.heap.size 5 1 (.slice (some ⟨b, 0, none⟩) 32 32) 32 (ints .u8 (S2.Mk.code k l))) := own_row (S2.Mk.code_length _ _) (by decide) hb hr
  have HB : Hid (Below w.heap.size w w1) := hbe
  clear hb hr hbe HC d0 d1 d2
  go_wp2_with fail
  go_ret
  exact ⟨_, rfl, HO.out, HB.out⟩
set_option maxHeartbeats 400000 in
theorem Seal_real (k nonce lo lt : List Nat) (kv nv ov tv : Value) (p n : Nat) (sv : Value) (w : World) (h : RlIs w p sv n) (hk : Src w kv k) (hn : Src w nv nonce) (ho : Src w ov lo) (ht : Src w tv lt) (hkl : k.length = 32) (hnl : nonce.length = 12) (hol : lo.length ≤ 40000) (htl : lt.length ≤ 40000) :
    Calls Tryd.prog 19 #[.pointer (some ⟨p, 0, none⟩), kv, nv, ov, tv] w fun e w' => ∃ u, e = .returned (.tuple #[u, .int .i64 0]) ∧ w'.ownsRow w.heap.size 5 1 u (lt.length + 16) (ints .u8 (A5.Ae.box k nonce lo lt)) ∧ Below w.heap.size w w' := by
  obtain ⟨bk, ok, ck, rfl, hck, hK⟩ := hk.full hkl (by omega)
  obtain ⟨bn, on, cn, rfl, hcn, hN⟩ := hn.full hnl (by omega)
  have HC : Hid (Calls Tryd.prog 37 #[.slice (some ⟨bk, ok, none⟩) 32 ck, .slice (some ⟨bn, on, none⟩) 12 cn, ov, tv] w fun e w' => ∃ v, e = .returned (.tuple #[v, .int .i64 0]) ∧ w'.ownsRow w.heap.size 5 1 v (lt.length + 16) (ints .u8 (A5.Ae.box k nonce lo lt)) ∧ Below w.heap.size w w') := A5.Seal_ok k nonce lo lt bk ok ck bn on cn ov tv w hkl hnl hK hN hck hcn ho ht hol htl
  obtain ⟨d0, d1, d2⟩ := h.cells
  clear h hk hn ho ht hkl hnl hol htl hck hcn hK hN
  go_enter Tryd.func19, Tryd.ntmps19
  go_wp2_with fail
  refine HC.out.mono ?_
  rintro e w1 ⟨u, rfl, hu, hbe⟩
  have HO : Hid (w1.ownsRow w.heap.size 5 1 u (lt.length + 16) (ints .u8 (A5.Ae.box k nonce lo lt))) := hu
  have HB : Hid (Below w.heap.size w w1) := hbe
  clear hu hbe HC d0 d1 d2
  go_wp2_with fail
  refine bodyPost_ret (results_tmp2 rfl _ _ _) rfl ?_
  exact ⟨_, rfl, HO.out, HB.out⟩
set_option maxHeartbeats 400000 in
theorem Open_real (k nonce lo lt : List Nat) (kv nv ov tv : Value) (p n : Nat) (sv : Value) (w : World) (h : RlIs w p sv n) (hk : Src w kv k) (hn : Src w nv nonce) (ho : Src w ov lo) (ht : Src w tv lt) (hkl : k.length = 32) (hnl : nonce.length = 12) (hol : lo.length ≤ 40000) (htl : lt.length ≤ 40000) (t : List Nat) (hs : A5.Ae.opens k nonce lo lt = some t) :
    Calls Tryd.prog 21 #[.pointer (some ⟨p, 0, none⟩), kv, nv, ov, tv] w fun e w' => ∃ u, e = .returned (.tuple #[u, .int .i64 0]) ∧ w'.ownsRow w.heap.size 5 1 u t.length (ints .u8 t) ∧ Below w.heap.size w w' := by
  obtain ⟨bk, ok, ck, rfl, hck, hK⟩ := hk.full hkl (by omega)
  obtain ⟨bn, on, cn, rfl, hcn, hN⟩ := hn.full hnl (by omega)
  have HC : Hid (Calls Tryd.prog 42 #[.slice (some ⟨bk, ok, none⟩) 32 ck, .slice (some ⟨bn, on, none⟩) 12 cn, ov, tv] w fun e w' => (∃ u, e = .returned (.tuple #[u, .int .i64 0]) ∧ w'.ownsRow w.heap.size 5 1 u t.length (ints .u8 t)) ∧ Below w.heap.size w w') := by
    have := A5.Open_any k nonce lo lt bk ok ck bn on cn ov tv w hkl hnl hK hN hck hcn ho ht hol htl
    rw [hs] at this
    exact this
  obtain ⟨d0, d1, d2⟩ := h.cells
  clear h hk hn ho ht hkl hnl hol htl hck hcn hK hN hs
  go_enter Tryd.func21, Tryd.ntmps21
  go_wp2_with fail
  refine HC.out.mono ?_
  rintro e w1 ⟨⟨u, rfl, hu⟩, hbe⟩
  have HO : Hid (w1.ownsRow w.heap.size 5 1 u t.length (ints .u8 t)) := hu
  have HB : Hid (Below w.heap.size w w1) := hbe
  clear hu hbe HC d0 d1 d2
  go_wp2_with fail
  refine bodyPost_ret (results_tmp2 rfl _ _ _) rfl ?_
  exact ⟨_, rfl, HO.out, HB.out⟩
set_option maxHeartbeats 400000 in
theorem Open_real_bad (q q' : Option Addr) (a c b d : Nat) (ov tv : Value) (p n : Nat) (sv : Value) (w : World) (h : RlIs w p sv n) (hbad : a ≠ 32 ∨ b ≠ 12) :
    Calls Tryd.prog 21 #[.pointer (some ⟨p, 0, none⟩), .slice q a c, .slice q' b d, ov, tv] w fun e w' => e = .returned (.tuple #[.slice none 0 0, .int .i64 11]) ∧ w' = w := by
  have HC : Hid (Calls Tryd.prog 42 #[.slice q a c, .slice q' b d, ov, tv] w fun e' w' => e' = .returned (.tuple #[.slice none 0 0, .int .i64 11]) ∧ w' = w) := A5.Open_bad q q' a c b d ov tv w hbad
  obtain ⟨d0, d1, d2⟩ := h.cells
  clear h hbad
  go_enter Tryd.func21, Tryd.ntmps21
  go_wp2_with fail
  refine HC.out.mono ?_
  rintro e w1 ⟨rfl, rfl⟩
  clear HC d0 d1 d2
  go_wp2_with fail
  refine bodyPost_ret (results_tmp2 rfl _ _ _) rfl ?_
  exact ⟨rfl, rfl⟩
theorem parts_one {w : World} {g : Nat} {v : Value} {l : List Nat} (hc : w.cell? ⟨g, 0, none⟩ = some v) (hv : Src w v l) : S2.PartsAt w (.slice (some ⟨g, 0, none⟩) 1 1) [l] :=
  .inr ⟨g, 0, 1, [v], rfl, by simp, fun j u hu => by
    cases j with
    | zero => simp at hu; subst hu; exact hc
    | succ j => simp at hu, fun i l' hl' => by
    cases i with
    | zero => simp at hl'; subst hl'; exact ⟨v, rfl, hv.bytesAt⟩
    | succ i => simp at hl'⟩
theorem Sum_RV (l : List Nat) (v : Value) (g p n B : Nat) (sv : Value) (w : World) (h : RlIs w p sv n) (hc : w.cell? ⟨g, 0, none⟩ = some v) (hv : Src w v l) (hT : S2.Tab w) (hl : l.length ≤ 50000) (hB : B ≤ w.heap.size) :
    Calls Tryd.prog 13 #[.pointer (some ⟨p, 0, none⟩), .slice (some ⟨g, 0, none⟩) 1 1] w fun e w' => ∃ u, e = .returned u ∧ Below w.heap.size w w' ∧ OwnV B (S2.Sp.sum l) u w' := by
  refine (Sum_real [l] _ p n sv w h (parts_one hc hv) hT (by simp; omega)).mono ?_
  rintro e w' ⟨u, rfl, h1, h2⟩
  rw [show [l].flatten = l by simp] at h1
  refine ⟨u, rfl, h2, ?_⟩
  unfold OwnV
  rw [S2.sum_length]
  exact own_older h1 hB
theorem Key_RV (l : List Nat) (p n B : Nat) (sv : Value) (w : World) (h : RlIs w p sv n) (hs : Src w sv l) (ho : Off sv [p]) (hT : S2.Tab w) (hp : p ≠ 0) (hl : l.length ≤ 50000) (hn : n < 1000000) (hB : B ≤ w.heap.size) :
    Calls Tryd.prog 17 #[.pointer (some ⟨p, 0, none⟩)] w fun e w' => ∃ u, e = .returned u ∧ Only [p] w w' ∧ RlIs w' p sv (n + 1) ∧ OwnV B (S2.Mk.code l (Su.be 8 (n + 1))) u w' := by
  refine (Key_real l p n sv w h hs ho hT hp hl hn).mono ?_
  rintro e w' ⟨u, rfl, h1, h2, h3⟩
  refine ⟨u, rfl, h3, h2, ?_⟩
  unfold OwnV
  rw [S2.Mk.code_length]
  exact own_older h1 hB
end Go.Proofs.YtbblokikhocdfaaDoor.S7
