/- maps.Copy at the server's logs. -/
import Derived.Test.YtchoiioeeepoaaaV19A
import Derived.Maps.RangeWalk
import Derived.Lib.SlMapMerge
import Derived.Deep.RegionWith
import Derived.Deep.Cut
import Derived.Deep.CutRange
namespace Go.Proofs.Ytchoiioeeepoaaa.V19
open Go.RowKit C8 E9 F17 Go.Maps
theorem invK : ∀ key kl, keyOf Try.prog 64 key = some kl → ∃ x : Int × Int, key = .agg #[.int .i64 x.1, .int .i64 x.2] := fun _ _ h => by
  obtain ⟨x, c, rfl, _⟩ := key_inv h
  exact ⟨(x, c), rfl⟩
set_option maxHeartbeats 4000000 in
set_option maxRecDepth 20000 in
theorem Copy_any (bd bs nd ns : Nat) (Dd Ds : DataW Value) (w : World) (hd : w.ownsMap Try.prog 64 eR bd nd Dd) (hs : w.ownsMap Try.prog 64 eR bs ns Ds) (hne : bd ≠ bs) (hroom : nd + Maps.size Ds ≤ maxLen) :
    Calls Try.prog 31 #[.map (some bd), .map (some bs)] w fun e w' => e = .returned (.tuple #[]) ∧ ∃ Dout, w'.ownsMap Try.prog 64 eR bd (nd + Maps.size Ds) Dout ∧ Merged Dout Dd Ds (fun _ => false) ∧ w.grownBy w' (some bd) := by
  have hbd := hd.lt
  have hbs := hs.lt
  go_enter Try.func31, Try.ntmps31
  go_wp2_with (first | (at_range; refine wpList_range_own _ rfl _ 58 rfl 64 31 law under58 eR bs ns _ rfl hs ?_; intro w0 hrg0 hg0 hs0))
  go_frame
  go_loopw [8] (fun _ wr => ∃ (left : Lit → Bool) (cnt : Nat) (Dout : DataW Value), wr.ranges Try.prog 64 eR bs w.heap.size ns Ds left cnt ∧ cnt ≤ Maps.size Ds ∧
      wr.ownsMap Try.prog 64 eR bd (nd + (Maps.size Ds - cnt)) Dout ∧ Merged Dout Dd Ds left ∧ w.grownBy wr (some bd))
    (fun _ wr => wr.rangeLeft bs w.heap.size)
  case atStart =>
    exact ⟨_, _, Dd, hrg0, Nat.le_refl _, (hd.kept hg0 (by simp)).mono (by omega), merged_start Dd Ds, hg0.but _⟩
  case round =>
    obtain ⟨left, cnt, Dout, hrg, hcs, hout, hM, hgw⟩ := hrel
    go_wp2_with (first | (at_next; refine wpList_next_ranges _ rfl _ rfl 64 law eR (fun x : Int × Int => .agg #[.int .i64 x.1, .int .i64 x.2]) id invK (fun v _ _ => ⟨v, rfl⟩) bs w.heap.size ns _ _ _ rfl hrg ?_ ?_))
    · intro hc0 hl0
      go_wp2_with fail
      go_end0
      subst hc0
      obtain rfl : left = fun _ => false := funext hl0
      exact ⟨rfl, Dout, by simpa using hout, hM, hgw⟩
    · intro x y c kl yd yp w1 cnt1 hkey hlx hv hat hrg1 hlt hg1 hs1 hen
      obtain ⟨x', y', e, hx, hy, rfl⟩ := key_inv hkey
      simp only [pl, Value.agg.injEq] at e
      injection e with e
      simp at e
      obtain ⟨rfl, rfl⟩ := e
      have e := eR_inv hv
      simp only [Prod.mk.injEq] at e
      obtain ⟨rfl, rfl⟩ := e
      obtain ⟨W2, hW2⟩ : ∃ W2, W2 = w1.alloc (.cells #[.int .i64 x, .int .i64 y] 64) := ⟨_, rfl⟩
      have hg2 : w1.grownBy W2 none := by rw [hW2]; exact World.grownBy_alloc w1 _ _
      have hbx : W2.heap[w1.heap.size]? = some (.cells #[.int .i64 x, .int .i64 y] 64 (0, 0)) := by rw [hW2]; exact heap_alloc_new w1 _
      have hrg2 := hrg1.kept hg2 (by simp) (by simp)
      have hout1 := (hout.kept hg1 (fun e => by have := Option.some.inj e; omega)).kept hg2 (by simp)
      have hroom2 : nd + (size Ds - cnt) < maxLen := by omega
      obtain ⟨w3, hrun, hout3, ht⟩ := hout1.store law under58 hroom2 (key_mk hx hy) (val := c) (d := .held c) (ps := []) rfl
      have hg3 := ht.grown
      have hrg3 := hrg2.kept hg3 (fun e => hne (Option.some.inj e).symm) (fun e => by have := Option.some.inj e; omega)
      have d0 : W2.cell? ⟨w1.heap.size, 0, none⟩ = some (.int .i64 x) := cell_of_row _ _ _ _ _ _ hbx
      have d1 : W2.cell? ⟨w1.heap.size, 1, none⟩ = some (.int .i64 y) := cell_of_row _ _ _ _ _ _ hbx
      rw [hs1] at d0 d1
      have HE : Hid (w3.ranges Try.prog 64 eR bs w.heap.size ns Ds (fun z => left z && !z.sameKey (kl x y)) cnt1 ∧ w3.ownsMap Try.prog 64 eR bd (nd + (size Ds - cnt) + 1) (Dout.put (kl x y) (.held c)) ∧ w.grownBy w3 (some bd)) :=
        ⟨hrg3, hout3, ((hgw.andThen hg1 (fun j hj => .inl (by cases hj; exact Nat.le_refl _))).andThen hg2 (fun j hj => by cases hj)).andThen hg3 (fun j hj => .inr hj)⟩
      have HMM : Hid (Merged (Dout.put (kl x y) (.held c)) Dd Ds (fun z => left z && !z.sameKey (kl x y))) := merged_step hM hout.isMap (kl_key x y) hat
      clear hg2 hg3 hrg2 hrg3 hout3 ht hout1 hbx hg1
      unfold pl at hrun
      go_upto_region 3 with fail
      rw [← hW2]
      clear hW2
      go_wp2_with fail
      refine ⟨⟨_, cnt1, _, HE.out.1, by omega, HE.out.2.1.mono (by omega), HMM.out, HE.out.2.2⟩, ?_⟩
      rw [HE.out.1.left_eq, hrg.left_eq]
      exact hlt
end Go.Proofs.Ytchoiioeeepoaaa.V19
