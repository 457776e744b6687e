/- The contract of Fork. -/
import Derived.Test.YtchoiioeeepoaaaV19Rm
import Derived.Test.YtchoiioeeepoaaaV19B
namespace Go.Proofs.Ytchoiioeeepoaaa.V19
open Go.RowKit C8 E9 F17 Go.Maps
/-- A row of links in a slot, and its room. -/
def RwV (m : Nat) (L : Ls) (v : Value) (w : World) : Prop := ∃ q c, v = .slice q m c ∧ LkRow w q L ∧ m ≤ c
theorem RwV.rows {m : Nat} {L : Ls} {v : Value} {w w' : World} (h : RwV m L v w) (ho : Rows w w') : RwV m L v w' := by
  obtain ⟨q, c, e, k, r⟩ := h
  exact ⟨q, c, e, ho _ _ k, r⟩
def fk10 (bg g lz cp zl : Nat) (nn y : Int) (q : Option Addr) (L : Ls) : Nat → Value → World → Prop
  | 0 => IsV (.map (some bg))
  | 1 => IsV (.pointer (some ⟨g, 1, none⟩))
  | 2 => IsV (.int .i64 y)
  | 3 => IsV (.agg #[.int .i64 1, .int .i64 y])
  | 4 => IsV (.slice q lz cp)
  | 5 => IsV (.int .i64 nn)
  | 6 => IsV (.slice q lz cp)
  | 7 => IsV (.int .i64 (lz : Int))
  | 8 => IsV (.int .i64 (zl : Int))
  | 9 => IsV (.slice q zl cp)
  | 10 => RwV zl L
  | 11 => IsV undef
  | _ => fun _ _ => True
theorem fk10_kept (bg g lz cp zl : Nat) (nn y : Int) (q : Option Addr) (L : Ls) : ∀ i v w w', fk10 bg g lz cp zl nn y q L i v w → Rows w w' → fk10 bg g lz cp zl nn y q L i v w'
  | 0, _, _, _, h, _ => h
  | 1, _, _, _, h, _ => h
  | 2, _, _, _, h, _ => h
  | 3, _, _, _, h, _ => h
  | 4, _, _, _, h, _ => h
  | 5, _, _, _, h, _ => h
  | 6, _, _, _, h, _ => h
  | 7, _, _, _, h, _ => h
  | 8, _, _, _, h, _ => h
  | 9, _, _, _, h, _ => h
  | 10, _, _, _, h, ho => h.rows ho
  | 11, _, _, _, h, _ => h
  | _ + 12, _, _, _, _, _ => trivial
/-- The loop over the logs under way. -/
structure FkL (w wr : World) (b m : Nat) (D : DataW Value) (left : Lit → Bool) (cnt : Nat) (Dc E : DataW Value) (k : Nat) (M : St) (nn : Int) : Prop where
  rg : wr.ranges Try.prog 64 eR b (w.heap.size + 1) m Dc left cnt
  le : k + cnt ≤ size D
  ow : wr.ownsMap Try.prog 64 eR w.heap.size k E
  fk : FkI D Dc E left M nn wr
  on : Only [b] w wr
theorem atD {D Dc E : DataW Value} {left : Lit → Bool} {M : St} {nn : Int} {w : World} (h : FkI D Dc E left M nn w) {x c : Int} (hx : In64 x) (hc : In64 c) {d : Value} (hat : ∀ z, Dc.atKey (kl x c) z = .held d) {n cp : Nat} {q : Option Addr} (hl : D.atKey (kl x c) (.held (.slice none 0 0)) = .held (.slice q n cp)) : has D (kl x c) = true ∧ d = .slice q n cp := by
  have h1 := has_true_of_atKey hat
  have h2 := h.hasc x c hx hc
  rw [h1] at h2
  refine ⟨(Bool.and_eq_true_iff.1 h2.symm).1, ?_⟩
  have h3 := h.atc x c hx hc h1 (.held (.slice none 0 0))
  rw [hat, hl] at h3
  injection h3
set_option maxHeartbeats 8000000 in
set_option maxRecDepth 20000 in
theorem Fork_any (p b m : Nat) (M : St) (nn : Int) (w : World) (h : SvAt w p b m M) (hm : m ≤ 1152921504606846976) (hnn : In64 nn) (hok : Ok M) :
    Calls Try.prog 16 #[.pointer (some ⟨p, 0, none⟩), .int .i64 nn] w fun e w' => (nn < 0 ∧ e = .returned (.int .i64 12) ∧ w' = w) ∨ (0 ≤ nn ∧ e = .returned (.int .i64 0) ∧ SvAt w' p b (m + m) (forkM nn M) ∧ Only [b] w w') := by
  by_cases hneg : nn < 0
  · clear h hok hm hnn
    go_enter Try.func16, Try.ntmps16
    go_wp2_with fail
    go_ret
    exact .inl ⟨hneg, rfl, rfl⟩
  have HSV : Hid (SvAt w p b m M) := h
  obtain ⟨D, hown, hk, hlk⟩ := h.own
  have HK : Hid (∀ x c, In64 x → In64 c → has D (kl x c) = true → x = 0 ∨ x = 1) := hk
  have HLK : Hid (∀ x c, In64 x → In64 c → ∃ q cp, D.atKey (kl x c) (.held (.slice none 0 0)) = .held (.slice q (M x c).length cp) ∧ LkRow w q (M x c) ∧ (M x c).length ≤ cp) := hlk
  have HOK : Hid (Ok M) := hok
  have HNN : Hid (In64 nn) := hnn
  have hpb := h.ne
  have hlp := h.ltp
  have hlb := h.ltb
  have hsz := hown.size_le
  have hmk := run_makeMap (P := Try.prog) 58 w
  have hownA : (w.alloc (.map #[] 0)).ownsMap Try.prog 64 eR b m D := hown.alloc _
  have hbeg : (w.alloc (.map #[] 0)).ownsMap Try.prog 64 eR w.heap.size 0 (.map []) := World.ownsMap_made w Try.prog 64 eR
  have hwA : Below w.heap.size w (w.alloc (.map #[] 0)) := (Below.refl _ w).alloc (Nat.le_refl _) _
  have d0 : (w.alloc (.map #[] 0)).cell? ⟨p, 0, none⟩ = some (.map (some b)) := cell_of_row _ _ _ _ _ _ ((hwA.block p hlp).trans h.cell)
  have hge : ¬ nn < 0 := hneg
  clear h hok hk hlk hown hnn
  go_enter Try.func16, Try.ntmps16
  go_wp2_with (first | (at_range; refine wpList_range_own _ rfl _ 58 rfl 64 31 law under58 eR b m _ rfl hownA ?_; intro w0 hrg0 hg0 hs0))
  (try go_frame)
  go_loopw [16] (fun _ wr => ∃ left cnt Dc E k, Hid (FkL w wr b m D left cnt Dc E k M nn)) (fun _ wr => wr.rangeLeft b (w.heap.size + 1))
  case atStart =>
    have hbA : Below w.heap.size w w0 := hwA.trans ((Below.refl _ _).grown hg0 (by simp) (fun k hk => by cases hk))
    refine ⟨has D, size D, D, .map [], 0, ⟨by simpa using hrg0, by omega, hbeg.kept hg0 (by simp), FkI.start D M nn w0, Only.of_below hbA _⟩⟩
  case round =>
    obtain ⟨left, cnt, Dc, E, k, HQ⟩ := hrel
    have hrg := HQ.out.rg
    go_wp2_with (first | (at_next; refine wpList_next_ranges _ rfl _ rfl 64 law eR (fun x : Int × Int => .agg #[.int .i64 x.1, .int .i64 x.2]) id invK (fun v _ _ => ⟨v, rfl⟩) b (w.heap.size + 1) m _ _ _ (by simp [Act.eval]) hrg ?_ ?_))
    · intro hc0 hl0
      obtain rfl : left = fun _ => false := funext hl0
      have hpr : wr.heap[p]? = some (.cells #[.map (some b)] 60 (0, 0)) := (HQ.out.on.block p hlp (by simpa using hpb)).trans HSV.out.cell
      have d1 : wr.cell? ⟨p, 0, none⟩ = some (.map (some b)) := cell_of_row _ _ _ _ _ _ hpr
      have hse := HQ.out.ow.size_le
      have hle := HQ.out.le
      have HCP : Calls Try.prog 31 #[.map (some b), .map (some w.heap.size)] wr fun e w' => e = .returned (.tuple #[]) ∧ Hid (∃ Dout, w'.ownsMap Try.prog 64 eR b (m + size E) Dout ∧ Merged Dout Dc E (fun _ => false) ∧ wr.grownBy w' (some b)) := Copy_any b w.heap.size m k Dc E wr hrg.owns HQ.out.ow (by omega) (by unfold maxLen; omega)
      clear hpr hrg hrg0 hbeg hownA d0
      go_wp2_with fail
      refine HCP.mono ?_
      rintro e w9 ⟨rfl, H9⟩
      clear HCP
      go_wp2_with fail
      go_ret
      obtain ⟨Dout, k1, k2, k3⟩ := H9.out
      have hon : Only [b] wr w9 := Only.of_grown k3 (fun x hx => by cases hx; simp)
      obtain ⟨es, clock, hmb, _⟩ := HQ.out.rg.owns
      have hr9 : Rows wr w9 := Rows.dim hon (fun o => IsMapB.cell ⟨es, clock, hmb⟩ o none)
      have hon2 : Only [b] w w9 := HQ.out.on.trans hon
      have hr0 : Rows w w9 := Rows.dim hon2 (fun o => HSV.out.isMap.cell o none)
      obtain ⟨e1, e2⟩ := fk_end (HQ.out.fk.turn hr9) k2 HK.out (fun x c hx hc => by
        obtain ⟨q, cp, j1, j2, j3⟩ := HLK.out x c hx hc
        exact ⟨q, cp, j1, hr0 _ _ j2, j3⟩)
      exact .inr ⟨by omega, rfl, ⟨(hon2.block p hlp (by simpa using hpb)).trans HSV.out.cell, Dout, k1.mono (by omega), e1, e2⟩, hon2⟩
    · intro x y c kl0 yd yp w1 cnt1 hkey hlx hv hat hrg1 hlt hg1 hs1 hen
      obtain ⟨x', y', e, hx, hy, rfl⟩ := key_inv hkey
      simp only [pl, Value.agg.injEq] at e
      injection e with e
      simp at e
      obtain ⟨rfl, rfl⟩ := e
      have e := eR_inv hv
      simp only [Prod.mk.injEq] at e
      obtain ⟨rfl, rfl⟩ := e
      obtain ⟨q, cp, hl1, hl2, hl3⟩ := HLK.out x y hx hy
      obtain ⟨hD, rfl⟩ := atD HQ.out.fk hx hy hat hl1
      have hx01 := HK.out x y hx hy hD
      obtain ⟨lz, HLZ⟩ : ∃ z, Hid ((M x y).length = z) := ⟨_, rfl⟩
      rw [HLZ.out] at hl3 hen ⊢
      obtain ⟨W2, hW2⟩ : ∃ W2, W2 = w1.alloc (.cells #[.int .i64 x, .int .i64 y] 64) := ⟨_, rfl⟩
      have hg2 : w1.grownBy W2 none := by rw [hW2]; exact World.grownBy_alloc w1 _ _
      have hbx : W2.heap[w1.heap.size]? = some (.cells #[.int .i64 x, .int .i64 y] 64 (0, 0)) := by rw [hW2]; exact heap_alloc_new w1 _
      have hrg2 := hrg1.kept hg2 (by simp) (by simp)
      have hbg := HQ.out.ow.lt
      have hrl := hrg.lt
      have HLE : Hid (wr.rangeLeft b (w.heap.size + 1) = cnt) := hrg.left_eq
      obtain ⟨es, clock, since, seen, c0, _, _, _, _, hit, _⟩ := hrg
      have hrW : Rows wr W2 := (Rows.dim (Only.of_grown hg1 (bs := [w.heap.size + 1]) (fun x hx => by cases hx; simp)) (iter_dim hit)).trans (Rows.below ((Below.refl _ _).grown hg2 (by simp) (fun k hk => by cases hk)))
      have honW : Only [w.heap.size + 1] wr W2 := (Only.of_grown hg1 (fun x hx => by cases hx; simp)).trans (Only.of_grown hg2 (fun x hx => by cases hx))
      have honb : Only [b] w W2 := Only.later HQ.out.on honW (fun x hx => by simp at hx; omega)
      have HON : Hid (Only [b] w W2) := honb
      have HFK : Hid (FkI D Dc E left M nn W2) := HQ.out.fk.turn hrW
      have HOW : Hid (W2.ownsMap Try.prog 64 eR w.heap.size k E) := (HQ.out.ow.kept hg1 (by simp)).kept hg2 (by simp)
      have HRG : Hid (W2.ranges Try.prog 64 eR b (w.heap.size + 1) m Dc (fun z => left z && !z.sameKey (kl x y)) cnt1) := hrg2
      have hpr : W2.heap[p]? = some (.cells #[.map (some b)] 60 (0, 0)) := (honb.block p hlp (by simpa using hpb)).trans HSV.out.cell
      have hle := HQ.out.le
      rw [hs1] at hbx
      have HBB : Hid (W2.heap[wr.heap.size]? = some (.cells #[.int .i64 x, .int .i64 y] 64 (0, 0))) := hbx
      have HROW : Hid (LkRow W2 q (M x y)) := row_dim hl2 honb (fun o => HSV.out.isMap.cell o none)
      have HY : Hid (In64 y ∧ has D (kl x y) = true) := ⟨hy, hD⟩
      have hbW : wr.heap.size < W2.heap.size := (Array.getElem?_eq_some_iff.1 hbx).1
      have e0 : W2.cell? ⟨wr.heap.size, 0, none⟩ = some (.int .i64 x) := cell_of_row _ _ _ _ _ _ hbx
      have e1 : W2.cell? ⟨wr.heap.size, 1, none⟩ = some (.int .i64 y) := cell_of_row _ _ _ _ _ _ hbx
      clear hl1 hl2 hg2 hrg2 hrW honW honb hg1 hit hrg1 hat hD hmk hbeg hownA hrg0 hg0 hwA
      by_cases hx1 : x = 1
      · subst hx1
        have f0 : W2.drew.cell? ⟨wr.heap.size, 0, none⟩ = some (.int .i64 1) := e0
        have f1 : W2.drew.cell? ⟨wr.heap.size, 1, none⟩ = some (.int .i64 y) := e1
        have fp : W2.drew.cell? ⟨p, 0, none⟩ = some (.map (some b)) := cell_of_row _ _ _ _ _ _ hpr
        obtain ⟨w3, cnt3, hrun, hrg4, hle3, ht3⟩ := (HRG.out.kept (grown_drew W2) (by simp) (by simp)).drop law under58 (key_mk in1 hy) 0
        have hon3 : Only [b] W2 w3 := (Only.of_below (C8.below_drewN 1 W2 W2.heap.size) _).trans (turned_only ht3)
        obtain ⟨hm1, _⟩ := turned_map ht3
        have hr3 : Rows W2 w3 := Rows.dim hon3 (fun o => IsMapB.cell (w := W2) hm1 o none)
        have HE : Hid (FkL w w3 b m D (fun z => left z && !z.sameKey (kl 1 y)) cnt3 (Dc.del (kl 1 y)) E k M nn) := by
          refine ⟨?_, by omega, HOW.out.kept (Only.grow hon3) (by simp; omega), (HFK.out.del hy).turn hr3, HON.out.trans hon3⟩
          have := hrg4
          rwa [strike_twice] at this
        unfold pl at hrun
        clear hrg4 ht3 hon3 hm1 hr3 hbx hpr
        go_upto_region 8 with fail
        rw [← hW2]
        clear hW2
        go_region
        all_goals (
          go_wp2_with fail
          refine ⟨⟨_, cnt3, _, E, k, HE⟩, ?_⟩
          rw [HE.out.rg.left_eq, HLE.out]
          omega)
      · obtain rfl : x = 0 := by omega
        have HXX : Hid (W2.heap[p]? = some (.cells #[.map (some b)] 60 (0, 0))) := hpr
        by_cases hn0 : 0 < nn
        · obtain ⟨L, HL⟩ : ∃ L, Hid ((M 0 y).take nn.toNat = L) := ⟨_, rfl⟩
          obtain ⟨zl, HZL⟩ : ∃ z, Hid (L.length = z) := ⟨_, rfl⟩
          have hz1 : zl = min nn.toNat lz := by
            rw [← HZL.out, ← HL.out, List.length_take, HLZ.out]
          have HMIN : Hid (min nn (lz : Int) = (zl : Int)) := by show _ = _; omega
          have HZC : Hid (zl ≤ cp) := by show _ ≤ _; omega
          have hmb : IsMapB W2 w.heap.size := by
            obtain ⟨es, clock, hb, _⟩ := HOW.out
            exact ⟨es, clock, hb⟩
          have HBX : Hid (∀ w', Only [w.heap.size] W2 w' → w'.cell? ⟨wr.heap.size, 1, none⟩ = some (.int .i64 y)) := fun w' ho => cell_of_row _ _ _ _ _ _ ((ho.block wr.heap.size hbW (by simp; omega)).trans HBB.out)
          have hl64 : zl ≤ 64 := by
            have h1 := (HOK.out 0 y).1
            rw [HLZ.out] at h1
            omega
          have HCL : Hid (∀ w', Only [w.heap.size] W2 w' → Calls Try.prog 30 #[.slice q zl cp] w' fun e u => ∃ v, e = .returned v ∧ RwV zl L v u ∧ Below w'.heap.size w' u) := fun w' ho => by
            have hr := row_take (row_dim HROW.out ho (fun o => hmb.cell o none)) nn.toNat
            rw [HL.out] at hr
            have := lclone_any q cp L w' hr (by rw [HZL.out]; omega) (fun z hz => by
              have h2 := List.mem_of_mem_take (HL.out ▸ hz : z ∈ (M 0 y).take nn.toNat)
              have := ((HOK.out 0 y).2 z h2).1
              omega)
            rw [HZL.out] at this
            refine this.mono ?_
            rintro e u ⟨v, rfl, h1, h2⟩
            obtain ⟨q2, c2, rfl⟩ := h1.slice
            exact ⟨_, rfl, ⟨q2, c2, rfl, h1.lk, by have := h1.cap; rw [HZL.out] at this; exact this⟩, h2⟩
          obtain ⟨R, HR⟩ : ∃ R : World → Prop, Hid (R = fun u => ∃ q2 c2, zl ≤ c2 ∧ LkRow u q2 L ∧ u.ownsMap Try.prog 64 eR w.heap.size (k + 1) (E.put (kl 1 y) (.held (.slice q2 zl c2))) ∧ Only [w.heap.size] W2 u) := ⟨_, rfl⟩
          have HRK : Hid (∀ u u', R u → Bm u u' → R u') := fun u u' h hb => by
            rw [HR.out] at h ⊢
            obtain ⟨q2, c2, j1, j2, j3, j4⟩ := h
            exact ⟨q2, c2, j1, j2.below hb, j3.kept (Only.grow (b := u'.heap.size) (Only.of_below hb _)) (by have := j3.lt; have := Below.size hb; simp; omega), j4.trans (Only.of_below hb _)⟩
          have HUP : Hid (∀ w', Bm W2 w' → ∀ q2 c2, LkRow w' q2 L → zl ≤ c2 → ∃ w2, (Instr.mapUpdate 58 (.map (some w.heap.size)) (.agg #[.int .i64 1, .int .i64 y]) (.slice q2 zl c2)).run Try.prog w' = .ok () w2 ∧ Rows w' w2 ∧ Only [w.heap.size] w' w2 ∧ R w2) := fun w' hb q2 c2 hr hc => by
            have how : w'.ownsMap Try.prog 64 eR w.heap.size k E := HOW.out.kept (Only.grow (b := w'.heap.size) (Only.of_below hb _)) (by have := HOW.out.lt; have := Below.size hb; simp; omega)
            obtain ⟨w2, hrun, ho', ht⟩ := how.store law under58 (by unfold maxLen; omega) (key_mk in1 hy) (val := .slice q2 zl c2) (d := .held (.slice q2 zl c2)) (ps := []) rfl
            obtain ⟨hm1, _⟩ := turned_map ht
            have hon := turned_only ht
            have hrr : Rows w' w2 := Rows.dim hon (fun o => hm1.cell o none)
            refine ⟨w2, hrun, hrr, hon, ?_⟩
            rw [HR.out]
            exact ⟨q2, c2, hc, hrr _ _ hr, ho', (Only.of_below hb _).trans hon⟩
          clear hz1 hmb hbx hpr
          go_upto_region 10 with fail
          rw [← hW2]
          clear hW2
          have K : ∀ u u', (R) u → Bm u u' → (R) u' := HRK.out
          have hd0 := C8.below_drewN 1 W2 W2.heap.size
          refine wp_region_sa (fk10 (w.heap.size) (wr.heap.size) lz cp zl nn y q L) Rows (Lm 11 W2 [w.heap.size] (R)) (by kernel_rfl) (Rows.below hd0) (fun _ _ _ h k => h.trans k) (fk10_kept (w.heap.size) (wr.heap.size) lz cp zl nn y q L) (by kernel_rfl) ⟨Only.of_below hd0 _, fun _ => hd0, fun h => by cases h⟩ ?_ ?_
          · intro i o a' w' f hi inv hS hfi hfw hpre
            have hlt : i < 12 := (Array.getElem?_eq_some_iff.1 hi).1
            obtain rfl|rfl|rfl|rfl|rfl|rfl|rfl|rfl|rfl|rfl|rfl|rfl : i = 0 ∨ i = 1 ∨ i = 2 ∨ i = 3 ∨ i = 4 ∨ i = 5 ∨ i = 6 ∨ i = 7 ∨ i = 8 ∨ i = 9 ∨ i = 10 ∨ i = 11 := by omega
            · obtain rfl := Option.some.inj hi
              have h0 : a'.tmps.getD 5 undef = (.map (some w.heap.size)) := by rw [inv.old 5 (notDst_spec (by kernel_rfl))]; rfl
              exact rm_value K _ rfl rfl (rfl) (by decide) hS h0
            · obtain rfl := Option.some.inj hi
              have h0 : a'.tmps.getD 6 undef = (.pointer (some ⟨wr.heap.size, 0, none⟩)) := by rw [inv.old 6 (notDst_spec (by kernel_rfl))]; rfl
              exact rm_value K _ rfl rfl (fa_run 64 1 6 wr.heap.size rfl h0 (fun w => by simp [go_sem])) (by decide) hS rfl
            · obtain rfl := Option.some.inj hi
              have h0 : a'.tmps.getD 32 undef = (.pointer (some ⟨wr.heap.size, 1, none⟩)) := pre_of hpre 1 32 (by kernel_rfl) (by kernel_rfl)
              exact rm_value K _ rfl rfl (load_run 3 32 wr.heap.size (1) _ rfl h0 (ld3 (HBX.out w' hS.1))) (by decide) hS rfl
            · obtain rfl := Option.some.inj hi
              have h0 : a'.tmps.getD 33 undef = (.int .i64 y) := pre_of hpre 2 33 (by kernel_rfl) (by kernel_rfl)
              exact rm_value K _ rfl rfl (buildPl_run 33 y rfl h0) (by decide) hS rfl
            · obtain rfl := Option.some.inj hi
              have h0 : a'.tmps.getD 7 undef = (.slice q lz cp) := by rw [inv.old 7 (notDst_spec (by kernel_rfl))]; rfl
              exact rm_value K _ rfl rfl (rfl) (by decide) hS h0
            · obtain rfl := Option.some.inj hi
              have h0 : a'.tmps.getD 1 undef = (.int .i64 nn) := by rw [inv.old 1 (notDst_spec (by kernel_rfl))]; rfl
              exact rm_value K _ rfl rfl (rfl) (by decide) hS h0
            · obtain rfl := Option.some.inj hi
              have h0 : a'.tmps.getD 7 undef = (.slice q lz cp) := by rw [inv.old 7 (notDst_spec (by kernel_rfl))]; rfl
              exact rm_value K _ rfl rfl (rfl) (by decide) hS h0
            · obtain rfl := Option.some.inj hi
              have h0 : a'.tmps.getD 37 undef = (.slice q lz cp) := pre_of hpre 6 37 (by kernel_rfl) (by kernel_rfl)
              exact rm_value K _ rfl rfl (lenM_run 37 q lz cp rfl h0) (by decide) hS rfl
            · obtain rfl := Option.some.inj hi
              have h0 : a'.tmps.getD 36 undef = (.int .i64 nn) := pre_of hpre 5 36 (by kernel_rfl) (by kernel_rfl)
              have h1 : a'.tmps.getD 38 undef = (.int .i64 (lz : Int)) := pre_of hpre 7 38 (by kernel_rfl) (by kernel_rfl)
              exact rm_value K _ rfl rfl (minM_run 36 38 _ _ _ rfl h0 h1 HMIN.out) (by decide) hS rfl
            · obtain rfl := Option.some.inj hi
              have h0 : a'.tmps.getD 35 undef = (.slice q lz cp) := pre_of hpre 4 35 (by kernel_rfl) (by kernel_rfl)
              have h1 : a'.tmps.getD 39 undef = (.int .i64 (zl : Int)) := pre_of hpre 8 39 (by kernel_rfl) (by kernel_rfl)
              exact rm_value K _ rfl rfl (sliceM_run 35 39 q lz cp zl rfl h0 h1 (slice_h q lz cp zl HZC.out w')) (by decide) hS rfl
            · obtain rfl := Option.some.inj hi
              have h0 : a'.tmps.getD 40 undef = (.slice q zl cp) := pre_of hpre 9 40 (by kernel_rfl) (by kernel_rfl)
              refine rm_quiet K 30 #[a'.tmps.getD 40 undef] rfl rfl (by kernel_rfl) (by decide) hS ?_
              rw [h0]
              exact (HCL.out w' hS.1).mono (by rintro x u ⟨v, rfl, h1, h2⟩; exact ⟨_, rfl, h2, h1⟩)
            · obtain rfl := Option.some.inj hi
              have h0 : a'.tmps.getD 31 undef = (.map (some w.heap.size)) := pre_of hpre 0 31 (by kernel_rfl) (by kernel_rfl)
              have h1 : a'.tmps.getD 34 undef = (.agg #[.int .i64 1, .int .i64 y]) := pre_of hpre 3 34 (by kernel_rfl) (by kernel_rfl)
              obtain ⟨q2, c2, e2, k2, r2⟩ := pre_of hpre 10 41 (by kernel_rfl) (by kernel_rfl)
              have hb := hS.2.1 hfi
              obtain ⟨w2, r1, r2, r3, r4⟩ := HUP.out w' hb q2 c2 k2 r2
              exact rm_last rfl rfl (upM_run 31 34 41 _ _ _ rfl h0 h1 e2 r1) rfl rfl hS r2 r3 r4 rfl
          intro a' w13 f inv hS hall hd
          have hR : (R) w13 := hS.2.2 (hall 11 (by decide))
          have hdf : a'.defers = [] := inv.defers
          have e := frame_of [31, 32, 33, 34, 35, 36, 37, 38, 39, 40, 41] inv.size (fun t ht => inv.old t (dstsIn_spec (ts := [31, 32, 33, 34, 35, 36, 37, 38, 39, 40, 41]) (by kernel_rfl) t ht))
          clear inv hd hall hS hd0 K
          obtain ⟨tmps, defers⟩ := a'
          obtain rfl : defers = [] := hdf
          replace e : tmps = List.foldl (fun G t => G.setIfInBounds t (tmps.getD t undef)) _ [31, 32, 33, 34, 35, 36, 37, 38, 39, 40, 41] := e
          simp only [List.foldl_cons, List.foldl_nil] at e
          generalize tmps.getD 31 undef = x31 at *
          generalize tmps.getD 32 undef = x32 at *
          generalize tmps.getD 33 undef = x33 at *
          generalize tmps.getD 34 undef = x34 at *
          generalize tmps.getD 35 undef = x35 at *
          generalize tmps.getD 36 undef = x36 at *
          generalize tmps.getD 37 undef = x37 at *
          generalize tmps.getD 38 undef = x38 at *
          generalize tmps.getD 39 undef = x39 at *
          generalize tmps.getD 40 undef = x40 at *
          generalize tmps.getD 41 undef = x41 at *
          simp only [List.setIfInBounds_toArray, List.set_cons_succ, List.set_cons_zero] at e
          subst e
          rw [HR.out] at hR
          obtain ⟨q2, c2, j1, j2, j3, j4⟩ := hR
          have HE : Hid (FkL w w13 b m D (fun z => left z && !z.sameKey (kl 0 y)) cnt1 Dc (E.put (kl 1 y) (.held (.slice q2 zl c2))) (k + 1) M nn) := by
            have hmb : IsMapB W2 w.heap.size := by
              obtain ⟨es, clock, hb, _⟩ := HOW.out
              exact ⟨es, clock, hb⟩
            have hrr : Rows W2 w13 := Rows.dim j4 (fun o => hmb.cell o none)
            refine ⟨HRG.out.kept (Only.grow j4) (by simp; omega) (by simp), by omega, j3, ?_, Only.later HON.out j4 (fun x hx => by simp at hx; omega)⟩
            have := FkI.put (HFK.out.turn hrr) HOW.out.isMap HY.out.1 hn0 HY.out.2 (q := q2) (cp := c2) (by rw [HL.out]; exact j2) (by rw [HL.out, HZL.out]; exact j1)
            rwa [HL.out, HZL.out] at this
          clear j1 j2 j3 j4
          go_wp2_with fail
          refine ⟨⟨_, cnt1, Dc, _, k + 1, HE⟩, ?_⟩
          rw [HE.out.rg.left_eq, HLE.out]
          omega
        · have HE : Hid (FkL w W2 b m D (fun z => left z && !z.sameKey (kl 0 y)) cnt1 Dc E k M nn) := ⟨HRG.out, by omega, HOW.out, HFK.out.skip HY.out.1 hn0, HON.out⟩
          go_wp2_with fail
          rw [← hW2]
          refine ⟨⟨_, cnt1, Dc, E, k, HE⟩, ?_⟩
          rw [HE.out.rg.left_eq, HLE.out]
          omega
end Go.Proofs.Ytchoiioeeepoaaa.V19
