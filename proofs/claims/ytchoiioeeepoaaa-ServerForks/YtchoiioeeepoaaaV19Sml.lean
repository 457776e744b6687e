/- The contract of the statements' own small. -/
import Derived.Test.YtchoiioeeepoaaaV19Str
namespace Go.Proofs.Ytchoiioeeepoaaa.V19
open Go.RowKit C8 E9 F17
/-- A step of a play. -/
structure OpD where
  kind : Int
  n : Int
  fr : Fr
  raw : List Nat
/-- Its eight cells. -/
def OpV (o : OpD) (q : Option Addr) (c : Nat) (sp : Option Addr) (sc : Nat) (rp : Option Addr) (rc : Nat) : Array Value :=
  #[.int .i64 o.kind, .int .i64 o.n, .int .i64 o.fr.kind, .int .i64 o.fr.coll, .int .i64 o.fr.idx, .slice q o.fr.links.length c, .slice sp o.fr.sum.length sc, .slice rp o.raw.length rc]
structure OpAt (w : World) (o : OpD) (q : Option Addr) (sp : Option Addr) (sc : Nat) (rp : Option Addr) (rc : Nat) : Prop where
  fr : FrAt w o.fr q sp sc
  raw : Src w (.slice rp o.raw.length rc) o.raw
  lr : o.raw.length ≤ 9223372036854775807
/-- The steps behind a slice. -/
def OpRow (w : World) (q : Option Addr) (os : List OpD) : Prop := ∀ j (h : j < os.length), ∃ b o lq lc sp sc rp rc, q = some ⟨b, o, none⟩ ∧ b < w.heap.size ∧
  (∀ k (_ : k < 8), w.cell? ⟨b, o + j * 8 + k, none⟩ = (OpV os[j] lq lc sp sc rp rc)[k]?) ∧ OpAt w os[j] lq sp sc rp rc
theorem OpAt.below {w w' : World} {o : OpD} {q sp rp : Option Addr} {sc rc : Nat} (h : OpAt w o q sp sc rp rc) (hb : Below w.heap.size w w') : OpAt w' o q sp sc rp rc := ⟨h.fr.below hb, h.raw.below hb, h.lr⟩
theorem OpRow.below {w w' : World} {q : Option Addr} {os : List OpD} (h : OpRow w q os) (hb : Below w.heap.size w w') : OpRow w' q os := fun j hj => by
  obtain ⟨b, o, lq, lc, sp, sc, rp, rc, h1, h2, h3, h4⟩ := h j hj
  exact ⟨b, o, lq, lc, sp, sc, rp, rc, h1, Nat.lt_of_lt_of_le h2 hb.size, fun k hk => (hb.cell (p := ⟨b, o + j * 8 + k, none⟩) h2).trans (h3 k hk), h4.below hb⟩
/-- Can a step be gone through with? -/
def smO (o : OpD) : Bool := decide (o.fr.links.length ≤ 10) && decide (o.raw.length ≤ 33000) && o.fr.links.all (fun y => decide (y.length ≤ 4200))
def smB (os : List OpD) (m : Int) : Bool := os.all smO && decide ((os.length : Int) ≤ m)
theorem smB_no {os : List OpD} {m : Int} {o : OpD} (ho : o ∈ os) (h : smO o = false) : smB os m = false := by
  unfold smB
  rw [Bool.and_eq_false_iff]
  left
  rw [List.all_eq_false]
  exact ⟨o, ho, by simp [h]⟩
set_option maxHeartbeats 8000000 in
set_option maxRecDepth 20000 in
theorem small_any (q : Option Addr) (cp : Nat) (os : List OpD) (m : Int) (w : World) (h : OpRow w q os) (hl : os.length ≤ 9223372036854775807) :
    Calls Try.prog 10 #[.slice q os.length cp, .int .i64 m] w fun e w' => e = .returned (.bool (smB os m)) ∧ Below w.heap.size w w' := by
  obtain ⟨n, HN⟩ : ∃ n, Hid (os.length = n) := ⟨_, rfl⟩
  have HA : Hid (OpRow w q os) := h
  have hn : n ≤ 9223372036854775807 := by rw [← HN.out]; exact hl
  rw [HN.out]
  clear h hl
  go_enter Try.func10, Try.ntmps10
  go_wp2_with fail
  go_loopw [11] (fun i wr => ∃ j : Nat, j ≤ n ∧ i = .int .i64 j ∧ Hid (Below w.heap.size w wr) ∧ Hid (∀ o ∈ os.take j, smO o = true)) (fun i _ => n - (intOf i).toNat)
  case atStart => exact ⟨0, by omega, rfl, Below.refl _ w, fun o ho => by simp at ho⟩
  case round =>
    obtain ⟨j, hj, rfl, HB, HG⟩ := hrel
    by_cases hlt : j < n
    · have ja : j < os.length := by rw [HN.out]; exact hlt
      obtain ⟨b, o, lq, lc, sp, sc, rp, rc, rfl, k1, k2, k3⟩ := HA.out j ja
      obtain ⟨y, HY⟩ : ∃ y : OpD, Hid (os[j] = y) := ⟨os[j], rfl⟩
      rw [HY.out] at k2 k3
      have e : ∀ k, k < 8 → wr.cell? ⟨b, o + j * 8 + k, none⟩ = (OpV y lq lc sp sc rp rc)[k]? := fun k hk => (HB.out.cell (p := ⟨b, o + j * 8 + k, none⟩) k1).trans (k2 k hk)
      have e0 := e 0 (by omega)
      have e1 := e 1 (by omega)
      have e2 := e 2 (by omega)
      have e3 := e 3 (by omega)
      have e4 := e 4 (by omega)
      have e5 := e 5 (by omega)
      have e6 := e 6 (by omega)
      have e7 := e 7 (by omega)
      simp [OpV] at e0 e1 e2 e3 e4 e5 e6 e7
      have j1 : (j : Int) < (n : Int) := by omega
      have j0 : (0 : Int) ≤ (j : Int) := by omega
      obtain ⟨z1, HZ1⟩ : ∃ k, Hid (y.fr.links.length = k) := ⟨_, rfl⟩
      obtain ⟨z2, HZ2⟩ : ∃ k, Hid (y.raw.length = k) := ⟨_, rfl⟩
      rw [HZ1.out] at e5
      rw [HZ2.out] at e7
      have HK : Hid (OpAt w y lq sp sc rp rc) := k3
      clear e k1 k2 k3
      obtain ⟨W2, hW2⟩ : ∃ W2, W2 = wr.alloc (.cells #[.int .i64 y.kind, .int .i64 y.n, .int .i64 y.fr.kind, .int .i64 y.fr.coll, .int .i64 y.fr.idx, .slice lq z1 lc, .slice sp y.fr.sum.length sc, .slice rp z2 rc] 36) := ⟨_, rfl⟩
      have hbx : W2.heap[wr.heap.size]? = some (.cells #[.int .i64 y.kind, .int .i64 y.n, .int .i64 y.fr.kind, .int .i64 y.fr.coll, .int .i64 y.fr.idx, .slice lq z1 lc, .slice sp y.fr.sum.length sc, .slice rp z2 rc] 36 (0, 0)) := by rw [hW2]; exact heap_alloc_new wr _
      have f5 : W2.cell? ⟨wr.heap.size, 5, none⟩ = some (.slice lq z1 lc) := cell_of_row _ _ _ _ _ _ hbx
      have f7 : W2.cell? ⟨wr.heap.size, 7, none⟩ = some (.slice rp z2 rc) := cell_of_row _ _ _ _ _ _ hbx
      have HB2 : Hid (Below w.heap.size w W2) := by rw [hW2]; exact HB.out.alloc HB.out.size _
      have HM : Hid (y ∈ os) := by rw [← HY.out]; exact List.getElem_mem _
      clear hbx
      go_upto_region 4 with fail
      rw [← hW2]
      clear hW2
      have HNO : smO y = false → Hid (smB os m = false) := fun h => smB_no HM.out h
      by_cases b1 : (10 : Int) < (z1 : Int)
      · have h9 := HNO (by unfold smO; rw [HZ1.out, decide_eq_false (by omega)]; rfl)
        go_wp2_with fail
        go_ret
        exact ⟨by rw [h9.out]; rfl, HB2.out⟩
      by_cases b2 : (33000 : Int) < (z2 : Int)
      · have h9 := HNO (by unfold smO; rw [HZ2.out, decide_eq_false (p := z2 ≤ 33000) (by omega), Bool.and_false]; rfl)
        go_wp2_with fail
        go_ret
        exact ⟨by rw [h9.out]; rfl, HB2.out⟩
      go_wp2_with fail
      go_loopw [30] (fun i wx => ∃ k : Nat, k ≤ z1 ∧ i = .int .i64 k ∧ W2 = wx ∧ Hid (∀ l ∈ y.fr.links.take k, l.length ≤ 4200)) (fun i _ => z1 - (intOf i).toNat)
      case atStart => exact ⟨0, by omega, rfl, rfl, fun o ho => by simp at ho⟩
      case round =>
        obtain ⟨k, hk, rfl, rfl, HH⟩ := hrel
        by_cases hkt : k < z1
        · have ka : k < y.fr.links.length := by rw [HZ1.out]; exact hkt
          obtain ⟨b', o', bp, bc, rfl, k2, k3, k4, k5⟩ := (HK.out.fr.links.below HB2.out) k ka
          have k1 : (k : Int) < (z1 : Int) := by omega
          have k0 : (0 : Int) ≤ (k : Int) := by omega
          obtain ⟨l, HL⟩ : ∃ l : List Nat, Hid (y.fr.links[k] = l) := ⟨y.fr.links[k], rfl⟩
          have HLM : Hid (l ∈ y.fr.links) := by rw [← HL.out]; exact List.getElem_mem _
          rw [HL.out] at k3
          obtain ⟨z3, HZ3⟩ : ∃ k, Hid (l.length = k) := ⟨_, rfl⟩
          rw [HZ3.out] at k3
          clear k2 k4 k5
          by_cases b3 : (4200 : Int) < (z3 : Int)
          · have h9 := HNO (by
              unfold smO
              rw [Bool.and_eq_false_iff]
              right
              rw [List.all_eq_false]
              exact ⟨l, HLM.out, by rw [HZ3.out]; simp; omega⟩)
            go_wp2_with fail
            go_ret
            exact ⟨by rw [h9.out]; rfl, HB2.out⟩
          go_wp2_with fail
          refine ⟨⟨k + 1, by omega, by simp, trivial, fun z hz => ?_⟩, ?_⟩
          · rw [List.take_succ_eq_append_getElem ka, HL.out] at hz
            rcases List.mem_append.1 hz with hz | hz
            · exact HH.out z hz
            · rw [List.mem_singleton.1 hz, HZ3.out]
              omega
          · simp only [intOf]
            omega
        · obtain rfl : k = z1 := by omega
          have k1 : ¬ (k : Int) < (k : Int) := by omega
          have HS : Hid (smO y = true) := by
            show _ = _
            unfold smO
            rw [HZ1.out, HZ2.out, decide_eq_true (by omega), decide_eq_true (by omega), Bool.true_and, Bool.true_and, List.all_eq_true]
            intro l hl
            have := HH.out l (by rw [List.take_of_length_le (by rw [HZ1.out]; omega)]; exact hl)
            simpa using this
          go_wp2_with fail
          refine ⟨⟨j + 1, by omega, by simp, HB2, fun z hz => ?_⟩, ?_⟩
          · rw [List.take_succ_eq_append_getElem ja, HY.out] at hz
            rcases List.mem_append.1 hz with hz | hz
            · exact HG.out z hz
            · rw [List.mem_singleton.1 hz]
              exact HS.out
          · simp only [intOf]
            omega
    · obtain rfl : j = n := by omega
      have j1 : ¬ (j : Int) < (j : Int) := by omega
      have HE : Hid (smB os m = decide ((j : Int) ≤ m)) := by
        show _ = _
        unfold smB
        have : os.all smO = true := by
          rw [List.all_eq_true]
          intro o ho
          exact HG.out o (by rw [List.take_of_length_le (by rw [HN.out]; omega)]; exact ho)
        rw [this, HN.out, Bool.true_and]
      go_wp2_with fail
      go_ret
      exact ⟨by rw [HE.out]; rfl, HB.out⟩
end Go.Proofs.Ytchoiioeeepoaaa.V19
