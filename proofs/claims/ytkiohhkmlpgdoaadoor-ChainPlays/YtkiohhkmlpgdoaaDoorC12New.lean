/- The contract of New: whatever the suite's Sum is. -/
import Derived.Test.YtkiohhkmlpgdoaaDoorC12App
import Derived.Test.YtkiohhkmlpgdoaaDoorC8Put2
import Derived.Lib.SlBytesConst
namespace Go.Proofs.YtkiohhkmlpgdoaaDoor.S7
open Go.RowKit
/-- The bytes that are summed for no links. -/
def first (n : Nat) : List Nat := C8.Cd.be 6 n
def lock6 : List Nat := [108, 111, 99, 107, 101, 116]
theorem first_length (n : Nat) : (first n).length = 6 := C8.Cd.be_length 6 n
theorem first_small (n : Nat) : ∀ x ∈ first n, x < 256 := C8.Cd.be_lt 6 n
theorem New_low (w : World) (sv : Value) (n : Int) (h : n < 1) : Calls Tryd.prog 12 #[sv, .int .i64 n] w fun e w' => e = .returned (.tuple #[.pointer none, .int .i64 12]) ∧ Below w.heap.size w w' := by
  go_enter Tryd.func12, Tryd.ntmps12
  go_wp2_with fail
  go_ret2
  exact ⟨rfl, Below.refl _ _⟩
theorem put_one (w : World) (n : Int) : Calls Tryd.prog 25 #[.slice (some ⟨w.heap.size, 0, none⟩) 1 1] (w.alloc (.cells #[.iface 3 (.int .i64 n)] 20)) fun e w' => C8.PutSays w.heap.size [⟨false, n, []⟩] e w w' := by
  refine (C8.Put_any [⟨false, n, []⟩] (some ⟨w.heap.size, 0, none⟩) 1 (w.alloc (.cells #[.iface 3 (.int .i64 n)] 20)) (by simp) (fun j hj => ?_)).mono ?_
  · have e : j = 0 := by simpa using hj
    subst e
    exact ⟨w.heap.size, 0, .iface 3 (.int .i64 n), rfl, by simp, by rw [cell_of_row _ _ _ _ _ _ (heap_alloc_new w _)]; rfl, fun x hx => by simp at hx, .inl ⟨rfl, rfl⟩⟩
  · rintro e w' ⟨hb, h⟩
    refine ⟨(below_alloc' w _).trans (hb.mono (below_alloc' w _).size), ?_⟩
    rcases h with ⟨h1, v, h2, h3⟩ | h
    · exact .inl ⟨h1, v, h2, own_older h3 (below_alloc' w _).size⟩
    · exact .inr h
set_option maxHeartbeats 1000000 in
theorem New_high (w : World) (sp : Option Addr) (n : Int) (h : 1099511627776 < n) : Calls Tryd.prog 12 #[.pointer sp, .int .i64 n] w fun e w' => e = .returned (.tuple #[.pointer none, .int .i64 12]) ∧ Below w.heap.size w w' := by
  have HP : Hid (Calls Tryd.prog 25 #[.slice (some ⟨w.heap.size, 0, none⟩) 1 1] (w.alloc (.cells #[.iface 3 (.int .i64 n)] 20)) fun e w' => e = .returned (.tuple #[.slice none 0 0, .int .i64 12]) ∧ Below w.heap.size w w') := by
    refine (put_one w n).mono ?_
    rintro e w' ⟨hb, ⟨h1, _⟩ | ⟨h1, rfl⟩⟩
    · simp [C8.Cd.err, C8.Cd.wrong] at h1
      omega
    · refine ⟨?_, hb⟩
      have e1 : C8.Cd.err [⟨false, n, []⟩] = 12 := by
        simp [C8.Cd.err, C8.Cd.wrong, h]
      rw [e1]
      rfl
  have h1 : ¬ n < 1 := by omega
  go_enter Tryd.func12, Tryd.ntmps12
  go_wp2_with fail
  refine HP.out.mono ?_
  rintro e w1 ⟨rfl, hb⟩
  have HB : Hid (Below w.heap.size w w1) := hb
  clear hb HP
  go_wp2_with fail
  go_ret2
  exact ⟨rfl, HB.out⟩
/-- What a call turns, where what is new is let go. -/
theorem Only.old {bs cs : List Nat} {w w1 w2 : World} (hb : Below w.heap.size w w1) (h : Only (bs ++ cs) w1 w2) (hc : ∀ y ∈ cs, w.heap.size ≤ y) : Only bs w w2 :=
  ⟨h.os.trans hb.os, h.tape.trans hb.tape, h.output.trans hb.output, Nat.le_trans hb.size h.size, fun k hk hn => (h.block k (Nat.lt_of_lt_of_le hk hb.size) (fun e => (List.mem_append.1 e).elim hn (fun e => by have := hc k e; omega))).trans (hb.block k hk)⟩
set_option maxHeartbeats 4000000 in
set_option maxRecDepth 10000 in
theorem New_any (B p : Nat) (w : World) (n : Nat) (r : List Nat) (bs : List Nat) (I : World → Prop) (hB : B ≤ w.heap.size) (hn : 1 ≤ n ∧ n ≤ 1099511627776) (hr : ∀ x ∈ r, x < 256)
    (hsum : ∀ w1 g a1 a2, Src w1 a1 lock6 → Src w1 a2 (first n) → w1.cell? ⟨g, 0, none⟩ = some a1 → w1.cell? ⟨g, 1, none⟩ = some a2 → Below w.heap.size w w1 → Calls Tryd.prog 35 #[.pointer (some ⟨p, 0, none⟩), .slice (some ⟨g, 0, none⟩) 2 2] w1 fun e w' => ∃ u, e = .returned u ∧ w'.ownsRow w1.heap.size 5 1 u r.length (ints .u8 r) ∧ I w' ∧ Only bs w1 w')
    (hbs : ∀ y ∈ bs, B ≤ y ∧ y < w.heap.size ∧ ∀ o, w.heap[y]? = some o → tyOf o ∈ TS)
    (hI : ∀ w1 w2 c lv' sv' ls' ss', I w1 → ChIs B w1 c p lv' sv' ls' ss' → Only (fp c lv' sv') w1 w2 → I w2) :
    Calls Tryd.prog 12 #[.pointer (some ⟨p, 0, none⟩), .int .i64 (n : Int)] w fun e w' => ∃ c sv, e = .returned (.tuple #[.pointer (some ⟨c, 0, none⟩), .int .i64 0]) ∧ ChIs B w' c p (.slice none 0 0) sv [] [r] ∧ I w' ∧ Only bs w w' ∧ w.heap.size ≤ c ∧ (∀ g, sv.ownBlock = some g → w.heap.size ≤ g) := by
  have HP : Hid (Calls Tryd.prog 25 #[.slice (some ⟨w.heap.size, 0, none⟩) 1 1] (w.alloc (.cells #[.iface 3 (.int .i64 (n : Int))] 20)) fun e w' => ∃ v, e = .returned (.tuple #[v, .int .i64 0]) ∧ Src w' v (first n) ∧ Below w.heap.size w w') := by
    refine (put_one w n).mono ?_
    rintro e w' ⟨hb, ⟨h1, v, h2, h3⟩ | ⟨h1, _⟩⟩
    · refine ⟨v, h2, Src.own (base := w.heap.size) (first_small n) (n := 6) ?_, hb⟩
      have e1 : C8.Cd.enc [⟨false, (n : Int), []⟩] = first n := by simp [C8.Cd.enc, C8.Cd.one, first]
      rw [e1, first_length] at h3
      exact h3
    · exfalso
      apply h1
      simp [C8.Cd.err, C8.Cd.wrong]
      omega
  have HAD : Hid (∀ w2 c a1 a2, Below w.heap.size w w2 → w.heap.size ≤ c → w2.heap[c]? = some (.cells #[.pointer (some ⟨p, 0, none⟩), .slice none 0 0, .slice none 0 0] 73 (0, 0)) → Src w2 a1 lock6 → Src w2 a2 (first n) → Calls Tryd.prog 26 #[.pointer (some ⟨c, 0, none⟩), a1, a2] w2 fun e w' => e = .returned (.tuple #[]) ∧ ∃ sv, ChIs B w' c p (.slice none 0 0) sv [] [r] ∧ I w' ∧ Only bs w w' ∧ w.heap.size ≤ c ∧ (∀ g, sv.ownBlock = some g → w.heap.size ≤ g)) := by
    intro w2 c a1 a2 hb hc hbx h1 h2
    refine (addSum_any B c p (.slice none 0 0) (.slice none 0 0) [] [] w2 a1 a2 lock6 (first n) r bs I ⟨Nat.le_trans hB hc, hbx, ⟨[], RowB.nil _ _⟩, ⟨[], RowB.nil _ _⟩, fun b hb => by cases hb⟩ (Nat.le_trans hB hb.size) h1 h2 (by simp) hr (fun w3 g k1 k2 k3 => hsum w3 g a1 a2 (h1.below k3) (h2.below k3) k1 k2 (hb.trans (k3.mono hb.size)))
      (fun y hy => ⟨(hbs y hy).1, fun e => ?_, Nat.lt_of_lt_of_le (hbs y hy).2.1 hb.size, fun o ho => (hbs y hy).2.2 o (by rw [← hb.block y (hbs y hy).2.1]; exact ho)⟩) (fun w3 w4 k1 k2 k3 => hI w3 w4 c _ _ _ _ k1 k2 k3)).mono ?_
    · have := (hbs y hy).2.1
      rcases mem_fp.1 e with e | e | e
      · omega
      · cases e
      · cases e
    · rintro e w3 ⟨rfl, sv, k1, k2, k3, g, k4, k5⟩
      refine ⟨rfl, sv, k1, k2, Only.old hb k3 (fun y hy => ?_), hc, fun g' hg' => ?_⟩
      · rcases mem_fp.1 hy with e | e | e
        · omega
        · cases e
        · cases e
      · rw [k4] at hg'
        cases hg'
        rcases k5 with e | e
        · cases e
        · exact Nat.le_trans hb.size e
  have q1 : ¬ (n : Int) < 1 := by omega
  clear hsum hbs hI hr hB hn
  go_enter Tryd.func12, Tryd.ntmps12
  go_wp2_with fail
  refine HP.out.mono ?_
  rintro e w1 ⟨v, rfl, hv, hb⟩
  have HS : Hid (Src w1 v (first n)) := hv
  have HB : Hid (Below w.heap.size w w1) := hb
  obtain ⟨vp, vc, rfl, -⟩ := hv.slice
  rw [first_length] at HS ⊢
  clear hv hb HP
  have hcv := Lib.run_convert_bytes_const (P := Tryd.prog) (w1.alloc (.cells #[.pointer (some ⟨p, 0, none⟩), .slice none 0 0, .slice none 0 0] 73)) 23 5 #[.int .u8 108, .int .u8 111, .int .u8 99, .int .u8 107, .int .u8 101, .int .u8 116] 6 6 Tryd.underlying23 Tryd.underlying5
  have hsz : (w1.alloc (.cells #[.pointer (some ⟨p, 0, none⟩), .slice none 0 0, .slice none 0 0] 73)).heap.size = w1.heap.size + 1 := by simp
  rw [hsz] at hcv
  generalize hW3 : (w1.alloc (.cells #[.pointer (some ⟨p, 0, none⟩), .slice none 0 0, .slice none 0 0] 73)).alloc (.cells #[.int .u8 108, .int .u8 111, .int .u8 99, .int .u8 107, .int .u8 101, .int .u8 116] 5 (6, 7)) = w3 at hcv
  have hb3 : Below w1.heap.size w1 w3 := by
    rw [← hW3]
    exact (below_alloc' w1 _).trans ((below_alloc' _ _).mono (below_alloc' w1 _).size)
  have hc3 : w3.heap[w1.heap.size]? = some (.cells #[.pointer (some ⟨p, 0, none⟩), .slice none 0 0, .slice none 0 0] 73 (0, 0)) := by
    rw [← hW3, (below_alloc' _ _).block _ (by simp)]
    exact heap_alloc_new w1 _
  have hs3 : Src w3 (.slice (some ⟨w1.heap.size + 1, 0, none⟩) 6 6) lock6 := by
    have h0 : w3.heap[w1.heap.size + 1]? = some (.cells #[.int .u8 108, .int .u8 111, .int .u8 99, .int .u8 107, .int .u8 101, .int .u8 116] 5 (6, 7)) := by
      rw [← hW3, ← hsz]
      exact heap_alloc_new _ _
    exact Src.row (by decide) (by decide) (rangeAt_of_row (t := 5) (fr := (6, 7)) h0) rfl
  have HA3 : Hid (Calls Tryd.prog 26 #[.pointer (some ⟨w1.heap.size, 0, none⟩), .slice (some ⟨w1.heap.size + 1, 0, none⟩) 6 6, .slice vp 6 vc] w3 fun e w' => e = .returned (.tuple #[]) ∧ ∃ sv, ChIs B w' w1.heap.size p (.slice none 0 0) sv [] [r] ∧ I w' ∧ Only bs w w' ∧ w.heap.size ≤ w1.heap.size ∧ (∀ g, sv.ownBlock = some g → w.heap.size ≤ g)) := HAD.out w3 w1.heap.size _ _ (HB.out.trans (hb3.mono HB.out.size)) HB.out.size hc3 hs3 (HS.out.below hb3)
  clear HAD HS hs3 hc3 hb3 hW3 hsz
  go_wp2_with fail
  refine HA3.out.mono ?_
  rintro e w4 ⟨rfl, sv, k1, k2, k3, k4, k5⟩
  have HZ : Hid (ChIs B w4 w1.heap.size p (.slice none 0 0) sv [] [r] ∧ I w4 ∧ Only bs w w4 ∧ w.heap.size ≤ w1.heap.size ∧ (∀ g, sv.ownBlock = some g → w.heap.size ≤ g)) := ⟨k1, k2, k3, k4, k5⟩
  clear k1 k2 k3 k4 k5 HA3
  go_wp2_with fail
  go_ret2
  exact ⟨_, _, rfl, HZ.out⟩
end Go.Proofs.YtkiohhkmlpgdoaaDoor.S7
