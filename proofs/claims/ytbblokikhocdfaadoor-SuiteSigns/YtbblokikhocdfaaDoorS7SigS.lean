/- The operations that came in, and the statement's own small. -/
import Derived.Test.YtbblokikhocdfaaDoorS7SigP
import Derived.Test.YtbblokikhocdfaaDoorS7Args
import Derived.Deep.Slices
import Derived.ChangeArms
import Derived.ChangeSame
namespace Go.Proofs.YtbblokikhocdfaaDoor.S7
open Go.RowKit Go.ChangeShapes Go.WideShapes
structure Op7 where
  sort : Int
  key : List Nat
  nonce : List Nat
  other : List Nat
  text : List Nat
  n5 : Int
  n6 : Int
def OpRow (W w' : World) (q : Option Addr) (os : List Op7) : Prop :=
  ∀ j (_ : j < os.length), ∃ b o kv nv ov tv, q = some ⟨b, o, none⟩ ∧ b < W.heap.size ∧ (w'.cell? ⟨b, o + j * 7, none⟩ = some (.int .i64 os[j].sort) ∧ w'.cell? ⟨b, o + j * 7 + 1, none⟩ = some kv ∧ w'.cell? ⟨b, o + j * 7 + 2, none⟩ = some nv ∧ w'.cell? ⟨b, o + j * 7 + 3, none⟩ = some ov ∧ w'.cell? ⟨b, o + j * 7 + 4, none⟩ = some tv ∧ w'.cell? ⟨b, o + j * 7 + 5, none⟩ = some (.int .i64 os[j].n5) ∧ w'.cell? ⟨b, o + j * 7 + 6, none⟩ = some (.int .i64 os[j].n6)) ∧ Old W.heap.size w' kv os[j].key ∧ Old W.heap.size w' nv os[j].nonce ∧ Old W.heap.size w' ov os[j].other ∧ Old W.heap.size w' tv os[j].text
theorem OpRow.below {W w' w'' : World} {q : Option Addr} {os : List Op7} (h : OpRow W w' q os) (hb : Below W.heap.size w' w'') : OpRow W w'' q os := fun j hj => by
  obtain ⟨b, o, kv, nv, ov, tv, h1, h2, ⟨c0, c1, c2, c3, c4, c5, c6⟩, o1, o2, o3, o4⟩ := h j hj
  have mv : ∀ i v, w'.cell? ⟨b, i, none⟩ = some v → w''.cell? ⟨b, i, none⟩ = some v := fun i v hv => (World.cell?_of_block (a := ⟨b, i, none⟩) (hb.block b h2)).trans hv
  exact ⟨b, o, kv, nv, ov, tv, h1, h2, ⟨mv _ _ c0, mv _ _ c1, mv _ _ c2, mv _ _ c3, mv _ _ c4, mv _ _ c5, mv _ _ c6⟩, o1.keep hb, o2.keep hb, o3.keep hb, o4.keep hb⟩
def ok7 (p : Op7) : Bool := decide (p.key.length ≤ 100) && decide (p.nonce.length ≤ 100) && decide (p.other.length ≤ 100) && decide (p.text.length ≤ 200)
def sm7 (os : List Op7) (m : Nat) : Bool := os.all ok7 && decide (os.length ≤ m)
set_option maxHeartbeats 2000000 in
theorem small7_any (os : List Op7) (q : Option Addr) (n c m : Nat) (w : World) (hn : os.length = n) (hm : n ≤ 9223372036854775807) (hp : OpRow w w q os) :
    Calls Tryd.prog 11 #[.slice q n c, .int .i64 (m : Int)] w fun e w' => e = .returned (.bool (sm7 os m)) ∧ Below w.heap.size w w' := by
  have HP : Hid (OpRow w w q os) := hp
  have HN : Hid (os.length = n) := hn
  have n1 : (n : Int) ≤ 9223372036854775807 := by omega
  obtain ⟨r, HRS⟩ : ∃ r, Hid (sm7 os m = r) := ⟨_, rfl⟩
  rw [HRS.out]
  clear hp hn
  go_enter Tryd.func11, Tryd.ntmps11
  go_wp2_with fail
  go_loopw [9] (fun i wr => ∃ j : Nat, j ≤ n ∧ i = .int .i64 j ∧ Hid (Below w.heap.size w wr) ∧ Hid ((os.take j).all ok7 = true)) (fun i _ => n - (intOf i).toNat)
  case atStart => exact ⟨0, by omega, rfl, Below.refl _ _, rfl⟩
  case round =>
    obtain ⟨j, hj, rfl, HB, HA⟩ := hrel
    by_cases hlt : j < n
    · have hjp : j < os.length := by rw [HN.out]; exact hlt
      obtain ⟨b, o, kv, nv, ov, tv, rfl, hb, ⟨d0, d1, d2, d3, d4, d5, d6⟩, k1, k2, k3, k4⟩ := (HP.out.below HB.out) j hjp
      obtain ⟨q1, r1, rfl, -⟩ := k1.1.slice
      obtain ⟨q2, r2, rfl, -⟩ := k2.1.slice
      obtain ⟨q3, r3, rfl, -⟩ := k3.1.slice
      obtain ⟨q4, r4, rfl, -⟩ := k4.1.slice
      have j1 : (j : Int) < (n : Int) := by omega
      have j0 : (0 : Int) ≤ (j : Int) := by omega
      have HB2 : Hid (∀ o, Below w.heap.size w (wr.alloc o)) := fun o => HB.out.alloc HB.out.size o
      clear k1 k2 k3 k4
      by_cases hok : ok7 os[j] = true
      · have HA2 : Hid ((os.take (j + 1)).all ok7 = true) := by
          show _ = _
          rw [List.take_succ_eq_append_getElem hjp, List.all_append, HA.out]
          simp [hok]
        have hok' := hok
        simp only [ok7, Bool.and_eq_true, decide_eq_true_eq] at hok'
        obtain ⟨⟨⟨h1, h2⟩, h3⟩, h4⟩ := hok'
        have i1 : (os[j].key.length : Int) ≤ 100 := by omega
        have i2 : (os[j].nonce.length : Int) ≤ 100 := by omega
        have i3 : (os[j].other.length : Int) ≤ 100 := by omega
        have i4 : (os[j].text.length : Int) ≤ 200 := by omega
        clear hok h1 h2 h3 h4
        generalize os[j] = pt at *
        obtain ⟨p0, pk, pn, po, px, p5, p6⟩ := pt
        simp only at d0 d1 d2 d3 d4 d5 d6 i1 i2 i3 i4
        generalize pk.length = l1 at *
        generalize pn.length = l2 at *
        generalize po.length = l3 at *
        generalize px.length = l4 at *
        clear HA HB hjp
        go_wp2_with fail
        refine ⟨⟨j + 1, by omega, by simp, HB2.out _, HA2⟩, ?_⟩
        simp only [intOf]
        omega
      · have HF : Hid (r = false) := by
          show _ = _
          rw [← HRS.out]
          have : os.all ok7 = false := by
            rw [List.all_eq_false]
            exact ⟨os[j], List.getElem_mem hjp, hok⟩
          simp [sm7, this]
        have hx : ¬ (os[j].key.length ≤ 100 ∧ os[j].nonce.length ≤ 100 ∧ os[j].other.length ≤ 100 ∧ os[j].text.length ≤ 200) := fun h => hok (by simp [ok7, h])
        clear hok
        generalize os[j] = pt at *
        obtain ⟨p0, pk, pn, po, px, p5, p6⟩ := pt
        simp only at d0 d1 d2 d3 d4 d5 d6 hx
        generalize pk.length = l1 at *
        generalize pn.length = l2 at *
        generalize po.length = l3 at *
        generalize px.length = l4 at *
        clear HA HB hjp
        by_cases h1 : 100 < (l1 : Int)
        · clear hx
          go_wp2_with fail
          go_ret
          exact ⟨by rw [HF.out]; rfl, HB2.out _⟩
        · have h1' : (l1 : Int) ≤ 100 := by omega
          by_cases h2 : 100 < (l2 : Int)
          · clear hx h1
            go_wp2_with fail
            go_ret
            exact ⟨by rw [HF.out]; rfl, HB2.out _⟩
          · have h2' : (l2 : Int) ≤ 100 := by omega
            by_cases h3 : 100 < (l3 : Int)
            · clear hx h1 h2
              go_wp2_with fail
              go_ret
              exact ⟨by rw [HF.out]; rfl, HB2.out _⟩
            · have h3' : (l3 : Int) ≤ 100 := by omega
              have h4 : 200 < (l4 : Int) := by omega
              clear hx h1 h2 h3
              go_wp2_with fail
              go_ret
              exact ⟨by rw [HF.out]; rfl, HB2.out _⟩
    · obtain rfl : j = n := by omega
      have j1 : ¬ (j : Int) < (j : Int) := by omega
      have HR2 : Hid (r = decide (j ≤ m)) := by
        show _ = _
        have h1 := HA.out
        rw [List.take_of_length_le (by rw [HN.out]; omega)] at h1
        rw [← HRS.out, sm7, h1, HN.out]
        simp
      clear HA
      go_wp2_with fail
      go_ret
      refine ⟨?_, HB.out⟩
      rw [HR2.out]
      rfl
section
variable {H : Type} {enc : TypeId × Value → H} {P : Program} {w : World} {base : Nat} {held : Bool}
theorem add_no (ad : Addr) : ad.add 0 = ad := by obtain ⟨b, o, s⟩ := ad; unfold Addr.add; split <;> simp_all
theorem spot_no {ad : Addr} {v : Value} (h : w.cell? ad = some v) : ad.spot = none := by
  cases hs : ad.spot with
  | none => rfl
  | some q =>
    unfold World.cell? at h
    split at h
    · simp [hs] at h
    · cases h
theorem rowIs_by {t e : TypeId} {fuel : Nat} {v : Value} {x : DataW H × List MemPlace} (ht : P.underlying t = some (.slice e)) (he : P.underlying e = some (.int .u8)) (hc : P.cellsOf e = 1)
    (h : DataW.trod enc P w base (fun _ => true) held fuel t [v] = some x) : ∃ a len cap, v = .slice a len cap ∧ RowIs w a len cap := by
  rcases open_ints ht he hc h with ⟨hcs, _⟩ | ⟨x, l, c, zs, hcs, _, hl, hm, hz, _, hcell, hwz⟩
  · simp only [List.cons.injEq, and_true] at hcs
    exact ⟨none, 0, 0, hcs, rowIs_nil _ _⟩
  · simp only [List.cons.injEq, and_true] at hcs
    exact ⟨some x, l, c, hcs, rowIs_of hl hm (by simpa using hz) hcell hwz⟩
theorem opRow_of {t e i3 t32 e5 : TypeId} {f0 f1 f2 f3 f4 f5 f6 : Field} {fuel : Nat} {a : Option Addr} {len cap : Nat} {x : DataW H × List MemPlace} (ht : P.underlying t = some (.slice e)) (he : P.underlying e = some (.struct #[f0, f1, f2, f3, f4, f5, f6]))
    (ce : P.cellsOf e = 7) (o0 : f0.offset = 0) (o1 : f1.offset = 1) (o2 : f2.offset = 2) (o3 : f3.offset = 3) (o4 : f4.offset = 4) (o5 : f5.offset = 5) (o6 : f6.offset = 6)
    (y0 : f0.type = i3) (y1 : f1.type = t32) (y2 : f2.type = t32) (y3 : f3.type = t32) (y4 : f4.type = t32) (y5 : f5.type = i3) (y6 : f6.type = i3) (ci : P.cellsOf i3 = 1) (cs : P.cellsOf t32 = 1)
    (ti : P.underlying i3 = some (.int .i64)) (ts : P.underlying t32 = some (.slice e5)) (te : P.underlying e5 = some (.int .u8)) (c5 : P.cellsOf e5 = 1)
    (h : DataW.trod enc P w base (fun _ => true) held fuel t (Value.slice a len cap).cells.toList = some x) :
    len ≤ 9223372036854775807 ∧ ∃ os : List Op7, os.length = len ∧ OpRow w w a os := by
  subst y0 y1
  rcases Go.Deep.open_slice ht h with ⟨hcs, _⟩ | ⟨ad, l, c, m, n, D, Pl, hcs, hb, hl, hm, hmm, _, hx⟩
  · simp [Value.cells] at hcs
    obtain ⟨rfl, rfl, rfl⟩ := hcs
    exact ⟨by omega, [], rfl, fun j hj => absurd hj (by simp)⟩
  · simp [Value.cells] at hcs
    obtain ⟨rfl, rfl, rfl⟩ := hcs
    refine ⟨by unfold maxLen at hm; omega, ?_⟩
    have first : ∀ i, i < len → ∃ v, w.cell? (ad.add (i * 7)) = some v := fun i hi => by
      obtain ⟨cs', h1, h2⟩ := hx i (by simp at hmm; omega)
      rw [ce] at h1
      obtain ⟨_, hlen, hcell⟩ := World.cells?_some h1
      have e0 := hcell 0 (by omega)
      rw [Go.Deep.add_add] at e0
      rw [Nat.add_zero] at e0
      exact ⟨cs'[0]'(by omega), by rw [e0]; exact List.getElem?_eq_getElem _⟩
    have each : ∀ i, i < len → ∃ z : Op7, ∃ b o kv nv ov tv, (some ad) = some ⟨b, o, none⟩ ∧ b < w.heap.size ∧ (w.cell? ⟨b, o + i * 7, none⟩ = some (.int .i64 z.sort) ∧ w.cell? ⟨b, o + i * 7 + 1, none⟩ = some kv ∧ w.cell? ⟨b, o + i * 7 + 2, none⟩ = some nv ∧ w.cell? ⟨b, o + i * 7 + 3, none⟩ = some ov ∧ w.cell? ⟨b, o + i * 7 + 4, none⟩ = some tv ∧ w.cell? ⟨b, o + i * 7 + 5, none⟩ = some (.int .i64 z.n5) ∧ w.cell? ⟨b, o + i * 7 + 6, none⟩ = some (.int .i64 z.n6)) ∧ Old w.heap.size w kv z.key ∧ Old w.heap.size w nv z.nonce ∧ Old w.heap.size w ov z.other ∧ Old w.heap.size w tv z.text := by
      intro i hi
      obtain ⟨z0, hz0⟩ := first 0 (by omega)
      rw [Nat.zero_mul, add_no] at hz0
      have hsp := spot_no hz0
      obtain ⟨cs', h1, h2⟩ := hx i (by simp at hmm; omega)
      rw [ce] at h1
      obtain ⟨_, hlen, hcell⟩ := World.cells?_some h1
      obtain ⟨xs, k, hk, hxy, _, hxl, hf⟩ := DataW.trod_struct he h2
      obtain ⟨b, o, s⟩ := ad
      simp only at hsp
      subst hsp
      match xs, hxl, cs', hlen with
      | [z0, z1, z2, z3, z4, z5, z6], _, [v0, v1, v2, v3, v4, v5, v6], _ =>
        have g0 := hf 0 f0 rfl
        have g1 := hf 1 f1 rfl
        have g2 := hf 2 f2 rfl
        have g3 := hf 3 f3 rfl
        have g4 := hf 4 f4 rfl
        have g5 := hf 5 f5 rfl
        have g6 := hf 6 f6 rfl
        simp [o0, o1, o2, o3, o4, o5, o6, y2, y3, y4, y5, y6, ci, cs] at g0 g1 g2 g3 g4 g5 g6
        have e0 := hcell 0 (by omega)
        have e1 := hcell 1 (by omega)
        have e2 := hcell 2 (by omega)
        have e3 := hcell 3 (by omega)
        have e4 := hcell 4 (by omega)
        have e5' := hcell 5 (by omega)
        have e6 := hcell 6 (by omega)
        rw [Go.Deep.add_add, Addr.add_mid] at e0 e1 e2 e3 e4 e5' e6
        obtain ⟨m0, a0, _, _⟩ := DataW.trod_int ti g0
        obtain ⟨m5, a5, _, _⟩ := DataW.trod_int ti g5
        obtain ⟨m6, a6, _, _⟩ := DataW.trod_int ti g6
        obtain ⟨p1, n1, c1, a1, r1⟩ := rowIs_by ts te c5 g1
        obtain ⟨p2, n2, c2, a2, r2⟩ := rowIs_by ts te c5 g2
        obtain ⟨p3, n3, c3, a3, r3⟩ := rowIs_by ts te c5 g3
        obtain ⟨p4, n4, c4, a4, r4⟩ := rowIs_by ts te c5 g4
        obtain ⟨l1, _, s1⟩ := Src.of r1
        obtain ⟨l2, _, s2⟩ := Src.of r2
        obtain ⟨l3, _, s3⟩ := Src.of r3
        obtain ⟨l4, _, s4⟩ := Src.of r4
        simp only [List.cons.injEq, and_true] at a0 a5 a6
        subst a0 a1 a2 a3 a4 a5 a6
        exact ⟨⟨m0, l1, l2, l3, l4, m5, m6⟩, b, o, _, _, _, _, rfl, World.block_lt_of_cell? w _ hz0, ⟨by simpa using e0, by rw [Nat.add_assoc]; simpa using e1, by rw [Nat.add_assoc]; simpa using e2, by rw [Nat.add_assoc]; simpa using e3, by rw [Nat.add_assoc]; simpa using e4, by rw [Nat.add_assoc]; simpa using e5', by rw [Nat.add_assoc]; simpa using e6⟩, Old.of s1, Old.of s2, Old.of s3, Old.of s4⟩
    have : Inhabited Op7 := ⟨⟨0, [], [], [], [], 0, 0⟩⟩
    obtain ⟨f, hf⟩ := Go.Deep.choose_lt each
    refine ⟨(List.range len).map f, by simp, fun j hj => ?_⟩
    have hj' : j < len := by simpa using hj
    simpa using hf j hj'
end
end Go.Proofs.YtbblokikhocdfaaDoor.S7
