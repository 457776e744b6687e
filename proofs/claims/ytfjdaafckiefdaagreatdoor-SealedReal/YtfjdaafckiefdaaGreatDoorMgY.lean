/- Leaves of ring: who may be, which epochs; numbers in bytes; nonces; copies. -/
import Derived.Test.YtfjdaafckiefdaaGreatDoorMgC
import Derived.Test.YtfjdaafckiefdaaGreatDoorMgT
import Derived.Test.YtfjdaafckiefdaaGreatDoorMgM
import Derived.Test.YtfjdaafckiefdaaGreatDoorMgO
import Derived.Lib.SlBytesConst
import Derived.Deep.QuietTactic
import Derived.BigQuiet
import Derived.Test.YtfjdaafckiefdaaGreatDoorS15Spec
namespace Go.Proofs.YtfjdaafckiefdaaGreatDoor.S7
open Go.RowKit
theorem below_alloc' (w : World) (o : Obj) : Below w.heap.size w (w.alloc o) := (Below.refl _ _).alloc (Nat.le_refl _) _
def six (n : Nat) : List Nat := C8.Cd.be 6 n
theorem six_length (n : Nat) : (six n).length = 6 := C8.Cd.be_length 6 n
theorem six_small (n : Nat) : ∀ x ∈ six n, x < 256 := C8.Cd.be_lt 6 n
def non (a b : Nat) : List Nat := six a ++ six b
theorem non_length (a b : Nat) : (non a b).length = 12 := by unfold non; rw [List.length_append, six_length, six_length]
theorem non_small (a b : Nat) : ∀ x ∈ non a b, x < 256 := fun x hx => (List.mem_append.1 hx).elim (six_small a x) (six_small b x)
theorem isPerson_yes (w : World) (n : Int) (h : 1 ≤ n ∧ n ≤ 16) : Calls Tryz.prog 140 #[.int .i64 n] w fun e w' => e = .returned (.bool true) ∧ w' = w := by
  obtain ⟨h1, h2⟩ := h
  go_enter Tryz.func140, Tryz.ntmps140
  go_wp2_with fail
  go_ret
  exact ⟨rfl, rfl⟩
theorem put1 (w : World) (n : Nat) (hn : n ≤ 1099511627776) : Calls Tryz.prog 43 #[.slice (some ⟨w.heap.size, 0, none⟩) 1 1] (w.alloc (.cells #[.iface 3 (.int .i64 (n : Int))] 20)) fun e w' => ∃ v, e = .returned (.tuple #[v, .int .i64 0]) ∧ w'.ownsRow w.heap.size 5 1 v 6 (ints .u8 (six n)) ∧ Below w.heap.size w w' := by
  refine (C8.Put_any [⟨false, n, []⟩] (some ⟨w.heap.size, 0, none⟩) 1 (w.alloc (.cells #[.iface 3 (.int .i64 (n : Int))] 20)) (by simp) (fun j hj => ?_)).mono ?_
  · have e : j = 0 := by simpa using hj
    subst e
    exact ⟨w.heap.size, 0, .iface 3 (.int .i64 (n : Int)), rfl, by simp, by rw [cell_of_row _ _ _ _ _ _ (heap_alloc_new w _)]; rfl, fun x hx => by simp at hx, .inl ⟨rfl, rfl⟩⟩
  · rintro e w' ⟨hb, h⟩
    have hb' : Below w.heap.size w w' := (below_alloc' w _).trans (hb.mono (below_alloc' w _).size)
    rcases h with ⟨h1, v, h2, h3⟩ | ⟨h1, _⟩
    · refine ⟨v, h2, ?_, hb'⟩
      have e1 : C8.Cd.enc [⟨false, (n : Int), []⟩] = six n := by simp [C8.Cd.enc, C8.Cd.one, six]
      rw [e1, six_length] at h3
      exact own_older h3 (below_alloc' w _).size
    · exfalso
      apply h1
      simp [C8.Cd.err, C8.Cd.wrong]
      omega
theorem put2p (w : World) (a b : Int) : C8.PartsIs (w.alloc (.cells #[.iface 3 (.int .i64 a), .iface 3 (.int .i64 b)] 20)) (w.alloc (.cells #[.iface 3 (.int .i64 a), .iface 3 (.int .i64 b)] 20)).heap.size (some ⟨w.heap.size, 0, none⟩) [⟨false, a, []⟩, ⟨false, b, []⟩] := by
  intro j hj
  have hj' : j < 2 := by simpa using hj
  obtain rfl | rfl : j = 0 ∨ j = 1 := by omega
  · exact ⟨w.heap.size, 0, .iface 3 (.int .i64 a), rfl, by simp, by rw [cell_of_row _ _ _ _ _ _ (heap_alloc_new w _)]; rfl, fun x hx => by simp at hx, .inl ⟨rfl, rfl⟩⟩
  · exact ⟨w.heap.size, 0, .iface 3 (.int .i64 b), rfl, by simp, by rw [cell_of_row _ _ _ _ _ _ (heap_alloc_new w _)]; rfl, fun x hx => by simp at hx, .inl ⟨rfl, rfl⟩⟩
theorem put2 (w : World) (a b : Nat) (ha : a ≤ 1099511627776) (hb0 : b ≤ 1099511627776) : Calls Tryz.prog 43 #[.slice (some ⟨w.heap.size, 0, none⟩) 2 2] (w.alloc (.cells #[.iface 3 (.int .i64 (a : Int)), .iface 3 (.int .i64 (b : Int))] 20)) fun e w' => ∃ v, e = .returned (.tuple #[v, .int .i64 0]) ∧ w'.ownsRow w.heap.size 5 1 v 12 (ints .u8 (non a b)) ∧ Below w.heap.size w w' := by
  refine (C8.Put_any [⟨false, a, []⟩, ⟨false, b, []⟩] (some ⟨w.heap.size, 0, none⟩) 2 _ (by simp) (put2p w a b)).mono ?_
  rintro e w' ⟨hb, h⟩
  have hb' : Below w.heap.size w w' := (below_alloc' w _).trans (hb.mono (below_alloc' w _).size)
  rcases h with ⟨h1, v, h2, h3⟩ | ⟨h1, _⟩
  · refine ⟨v, h2, ?_, hb'⟩
    have e1 : C8.Cd.enc [⟨false, (a : Int), []⟩, ⟨false, (b : Int), []⟩] = non a b := by simp [C8.Cd.enc, C8.Cd.one, six, non]
    rw [e1, non_length] at h3
    exact own_older h3 (below_alloc' w _).size
  · exfalso
    apply h1
    have e1 : ¬ (((a : Int) < 0) ∨ 1099511627776 < (a : Int)) := by omega
    have e2 : ¬ (((b : Int) < 0) ∨ 1099511627776 < (b : Int)) := by omega
    simp only [C8.Cd.err, C8.Cd.wrong, Bool.false_eq_true, if_false, if_neg e1, if_neg e2]
    simp
theorem Nonce_ok (w : World) (a b : Nat) (ha : a ≤ 4294967295) (hb0 : b ≤ 1099511627776) : Calls Tryz.prog 107 #[.int .i64 (a : Int), .int .i64 (b : Int)] w fun e w' => ∃ v, e = .returned (.tuple #[v, .int .i64 0]) ∧ w'.ownsRow w.heap.size 5 1 v 12 (ints .u8 (non a b)) ∧ Below w.heap.size w w' := by
  have HP : Hid (Calls Tryz.prog 43 #[.slice (some ⟨w.heap.size, 0, none⟩) 2 2] (w.alloc (.cells #[.iface 3 (.int .i64 (a : Int)), .iface 3 (.int .i64 (b : Int))] 20)) fun e w' => ∃ v, e = .returned (.tuple #[v, .int .i64 0]) ∧ w'.ownsRow w.heap.size 5 1 v 12 (ints .u8 (non a b)) ∧ Below w.heap.size w w') := put2 w a b (by omega) hb0
  have h0 : ¬ (4294967295 : Int) < (a : Int) := by omega
  clear ha hb0
  go_enter Tryz.func107, Tryz.ntmps107
  go_wp2_with fail
  refine HP.out.mono ?_
  rintro e w1 ⟨v, rfl, ho, hb⟩
  have HO : Hid (w1.ownsRow w.heap.size 5 1 v 12 (ints .u8 (non a b)) ∧ Below w.heap.size w w1) := ⟨ho, hb⟩
  clear ho hb HP
  go_wp2_with fail
  go_ret2
  exact ⟨_, rfl, HO.out⟩
set_option maxHeartbeats 400000 in
theorem clone_any {l : List Nat} (v : Value) (w : World) (hv : Src w v l) (hl : l.length ≤ 50000) :
    Calls Tryz.prog 90 #[v] w fun e w' => ∃ u, e = .returned u ∧ w'.ownsRow w.heap.size 5 1 u l.length (ints .u8 l) ∧ Below w.heap.size w w' := by
  have HV : Hid (Src w v l) := hv
  have HL : Hid (l.length ≤ 50000) := hl
  have key : ∀ ad n c, v = .slice (some ad) n c → Calls Tryz.prog 90 #[v] w fun e w' => ∃ u, e = .returned u ∧ w'.ownsRow w.heap.size 5 1 u l.length (ints .u8 l) ∧ Below w.heap.size w w' := by
    intro ad n c e
    subst e
    clear hv hl
    have hnil : (binOp .eql 22 (.slice (some ad) n c) (.slice none 0 0)).run Tryz.prog w = .ok (.bool false) w := Lib.run_eql_slice_nil w 22 5 (some ad) n c 0 0 Tryz.underlying22
    go_enter Tryz.func90, Tryz.ntmps90
    go_wp2_with (first | with_reducible (refine stop_builtin .append ?_))
    refine Stop.go ?_
    have hb5 : Below w.heap.size w (w.alloc (.cells #[] 5)) := (Below.refl _ _).alloc (Nat.le_refl _) _
    have he : (w.alloc (.cells #[] 5)).ownsRow w.heap.size 5 1 (.slice (some ⟨w.heap.size, 0, none⟩) 0 0) 0 (ints .u8 []) :=
      ⟨rfl, .inr ⟨w.heap.size, 0, #[], rfl, Nat.le_refl _, heap_alloc_new w _, Nat.le_refl _, by unfold maxLen; decide, rfl, rfl⟩⟩
    refine law_append_src w.heap.size _ 0 [] _ l rfl rfl he (HV.out.below hb5) (by have := HL.out; omega) (by simp) ?_
    intro u w1 ho hg
    have HB : Hid (Below w.heap.size w w1) := hb5.trans (below_append he hg (by simp))
    have HO : Hid (w1.ownsRow w.heap.size 5 1 u (0 + l.length) (ints .u8 ([] ++ l))) := ho
    clear ho hg hb5 he
    go_wp2_with fail
    go_ret
    exact ⟨_, rfl, by have := HO.out; rw [Nat.zero_add] at this; exact this, HB.out⟩
  rcases hv.2 with ⟨rfl, rfl⟩ | ⟨ad, c, rfl, rfl⟩ | ⟨b, o, c, rfl, _⟩
  · clear key hv hl
    have hnil : (binOp .eql 22 (.slice none 0 0) (.slice none 0 0)).run Tryz.prog w = .ok (.bool true) w := Lib.run_eql_slice_nil w 22 5 none 0 0 0 0 Tryz.underlying22
    go_enter Tryz.func90, Tryz.ntmps90
    go_wp2_with fail
    go_ret
    exact ⟨_, rfl, own_none _ _ _ _, Below.refl _ _⟩
  · exact key _ _ _ rfl
  · exact key _ _ _ rfl
set_option maxHeartbeats 1000000 in
theorem Code_two (k l1 l2 : List Nat) (g o c : Nat) (kv v u : Value) (p q m x : Nat) (L : List Su.Thing) (w : World) (h : SuIs w p q m x L) (hk : Src w kv k) (hc : w.cell? ⟨g, o, none⟩ = some v) (hc2 : w.cell? ⟨g, o + 1, none⟩ = some u) (hv : Src w v l1) (hu : Src w u l2) (hcp : 2 ≤ c) (hl : l1.length ≤ 50000) (hl2 : l2.length ≤ 50000) (hL : L.length < 1000000) :
    Calls Tryz.prog 106 #[.pointer (some ⟨p, 0, none⟩), kv, .slice (some ⟨g, o, none⟩) 2 c] w fun e w' => ∃ v, e = .returned v ∧ w'.ownsRow w.heap.size 5 1 v 32 (ints .u8 (Su.sign 77 (Su.num L 77 k (l1 ++ l2)))) ∧ SuIs w' p q m x (Su.add L 77 k (l1 ++ l2)) ∧ Only [p, m] w w' := by
  have hsm : ∀ y ∈ l1 ++ l2, y < 256 := fun y hy => (List.mem_append.1 hy).elim (hv.small y) (hu.small y)
  have HJ : Hid (∀ n, Calls Tryz.prog 128 #[.slice (some ⟨g, o, none⟩) 2 c] (w.drewN n) fun e w' => e = .returned (.string (strB (l1 ++ l2))) ∧ Below w.heap.size w w') := fun n =>
    (joined_two g o c v u (w.drewN n) hc hc2 (hv.below (below_drewN n _ _)) (hu.below (below_drewN n _ _)) hcp hl hl2).mono (fun _ _ ⟨h1, h2⟩ => ⟨h1, (below_drewN n w w.heap.size).trans h2⟩)
  have HK : Hid (∀ w1, Below w.heap.size w w1 → (convert 22 9 kv).run Tryz.prog w1 = .ok (.string (strB k)) w1) := fun w1 hb => conv_src (hk.below hb)
  have HG : Hid (∀ w1, Below w.heap.size w w1 → Calls Tryz.prog 127 #[.pointer (some ⟨p, 0, none⟩), thingV 77 k (l1 ++ l2)] w1 fun e w' => ∃ v, e = .returned v ∧ w'.ownsRow w1.heap.size 5 1 v 32 (ints .u8 (Su.sign 77 (Su.num L 77 k (l1 ++ l2)))) ∧ SuIs w' p q m x (Su.add L 77 k (l1 ++ l2)) ∧ Only [p, m] w1 w') := fun w1 hb => signOf_any 77 k (l1 ++ l2) p q m x L w1 (h.below hb) (.inr rfl) hk.small hsm hL
  have hcv := HK.out w.drew (below_drewN 1 _ _)
  obtain ⟨_, _, c2, _⟩ := cells3 h.box
  obtain ⟨pk, ck, rfl, _⟩ := hk.slice
  clear h hc hc2 hv hu hl hl2 hk hsm
  generalize k.length = kl at *
  generalize l1 ++ l2 = l at *
  go_enter Tryz.func106, Tryz.ntmps106
  go_wp2_with fail
  go_region_with ((first
    | (go_at_call 128; refine (HJ.out 1).mono ?_; rintro e w1 ⟨rfl, hb1⟩; have hcv1 := HK.out w1 hb1; have HB1 : Hid (Below w.heap.size w w1) := hb1; clear hb1)
    | (go_at_call 127; refine (HG.out _ HB1.out).mono ?_; rintro e w2 ⟨u, rfl, ho, hs, hn⟩; have HO : Hid (w2.ownsRow w.heap.size 5 1 u 32 (ints .u8 (Su.sign 77 (Su.num L 77 k l)))) := own_older ho HB1.out.size; have HS : Hid (SuIs w2 p q m x (Su.add L 77 k l)) := hs; have HN : Hid (Only [p, m] w w2) := (Only.of_below HB1.out _).trans hn; clear ho hs hn)))
  all_goals
    go_wp2_with fail
    go_ret
    exact ⟨_, rfl, HO.out, HS.out, HN.out⟩
end Go.Proofs.YtfjdaafckiefdaaGreatDoor.S7
/- Leaves of sealed: bounds, which records are right, the front, the nonce, two texts. -/
namespace Go.Proofs.YtfjdaafckiefdaaGreatDoor.S15
open Go.RowKit C8 E9
theorem hid {p : Prop} (h : p) : Hid p := h
/-- A record as a value: its five cells. -/
def RecV (r : Rec) (q : Option Addr) (c : Nat) : Array Value := #[.int .i64 r.coll, .int .i64 r.epoch, .int .i64 r.writer, .int .i64 r.count, .slice q r.box.length c]
set_option maxHeartbeats 1000000 in
theorem sw_yes (n lo hi : Int) (w : World) (h1 : lo ≤ n) (h2 : n ≤ hi) : Calls Tryz.prog 45 #[.int .i64 n, .int .i64 lo, .int .i64 hi] w fun e w' => e = .returned (.bool true) ∧ w' = w := by
  go_enter Tryz.func45, Tryz.ntmps45
  go_wp2_with fail
  go_ret
  exact ⟨rfl, rfl⟩
set_option maxHeartbeats 1000000 in
theorem sw_no (n lo hi : Int) (w : World) (h : n < lo ∨ hi < n) : Calls Tryz.prog 45 #[.int .i64 n, .int .i64 lo, .int .i64 hi] w fun e w' => e = .returned (.bool false) ∧ w' = w := by
  by_cases h1 : lo ≤ n
  · have h2 : ¬ n ≤ hi := by omega
    clear h
    go_enter Tryz.func45, Tryz.ntmps45
    go_wp2_with fail
    go_ret
    exact ⟨rfl, rfl⟩
  · clear h
    go_enter Tryz.func45, Tryz.ntmps45
    go_wp2_with fail
    go_ret
    exact ⟨rfl, rfl⟩
theorem sw_any (n lo hi : Int) (w : World) : Calls Tryz.prog 45 #[.int .i64 n, .int .i64 lo, .int .i64 hi] w fun e w' => e = .returned (.bool (decide (lo ≤ n ∧ n ≤ hi))) ∧ w' = w := by
  by_cases h : lo ≤ n ∧ n ≤ hi
  · rw [decide_eq_true h]; exact sw_yes n lo hi w h.1 h.2
  · rw [decide_eq_false h]; exact sw_no n lo hi w (by omega)
set_option maxHeartbeats 2000000 in
theorem rnum_any (r : Rec) (q : Option Addr) (c : Nat) (w : World) : Calls Tryz.prog 44 #[.agg (RecV r q c)] w fun e w' => e = .returned (.bool (rnum r)) ∧ Below w.heap.size w w' := by
  obtain ⟨a1, a2, a3, a4, a5⟩ := r
  have HB : Hid (∀ o1, Below w.heap.size w (w.alloc o1)) := fun o1 => (Below.refl _ w).alloc (Nat.le_refl _) o1
  obtain ⟨R, HR⟩ : ∃ R, Hid (rnum ⟨a1, a2, a3, a4, a5⟩ = R) := ⟨_, rfl⟩
  show Calls Tryz.prog _ _ w fun e w' => e = .returned (.bool (rnum ⟨a1, a2, a3, a4, a5⟩)) ∧ _
  rw [HR.out]
  obtain ⟨b1, H1⟩ : ∃ b, Hid (decide ((1 : Int) ≤ a1 ∧ a1 ≤ 1099511627776) = b) := ⟨_, rfl⟩
  obtain ⟨b2, H2⟩ : ∃ b, Hid (decide ((0 : Int) ≤ a2 ∧ a2 ≤ 16) = b) := ⟨_, rfl⟩
  obtain ⟨b3, H3⟩ : ∃ b, Hid (decide ((1 : Int) ≤ a3 ∧ a3 ≤ 16) = b) := ⟨_, rfl⟩
  obtain ⟨b4, H4⟩ : ∃ b, Hid (decide ((1 : Int) ≤ a4 ∧ a4 ≤ 1099511627776) = b) := ⟨_, rfl⟩
  have HQ : Hid (R = (b1 && (b2 && (b3 && b4)))) := by
    show R = _
    rw [← HR.out, ← H1.out, ← H2.out, ← H3.out, ← H4.out]
    simp only [rnum, Bool.decide_and]
  clear HR
  show Calls Tryz.prog _ #[.agg #[.int .i64 a1, .int .i64 a2, .int .i64 a3, .int .i64 a4, .slice q a5.length c]] w _
  generalize a5.length = n5 at *
  cases b1 with
  | false =>
    go_enter Tryz.func44, Tryz.ntmps44
    go_wp2_with (first | (go_at_call 45; refine (sw_any _ _ _ _).mono ?_; rintro e w1 ⟨he, rfl⟩; rw [H1.out] at he; subst he))
    go_ret
    exact ⟨by rw [HQ.out]; rfl, HB.out _⟩
  | true =>
    cases b2 with
    | false =>
      go_enter Tryz.func44, Tryz.ntmps44
      go_wp2_with (first | (go_at_call 45; refine (sw_any _ _ _ _).mono ?_; rintro e w1 ⟨he, rfl⟩; (first | rw [H1.out] at he | rw [H2.out] at he); subst he))
      go_ret
      exact ⟨by rw [HQ.out]; rfl, HB.out _⟩
    | true =>
      cases b3 with
      | false =>
        go_enter Tryz.func44, Tryz.ntmps44
        go_wp2_with (first | (go_at_call 45; refine (sw_any _ _ _ _).mono ?_; rintro e w1 ⟨he, rfl⟩; (first | rw [H1.out] at he | rw [H2.out] at he | rw [H3.out] at he); subst he))
        go_ret
        exact ⟨by rw [HQ.out]; rfl, HB.out _⟩
      | true =>
        go_enter Tryz.func44, Tryz.ntmps44
        go_wp2_with (first | (go_at_call 45; refine (sw_any _ _ _ _).mono ?_; rintro e w1 ⟨he, rfl⟩; (first | rw [H1.out] at he | rw [H2.out] at he | rw [H3.out] at he | rw [H4.out] at he); subst he))
        go_ret
        exact ⟨by rw [HQ.out]; rfl, HB.out _⟩
set_option maxHeartbeats 2000000 in
theorem rright_any (r : Rec) (q : Option Addr) (c : Nat) (w : World) : Calls Tryz.prog 11 #[.agg (RecV r q c)] w fun e w' => e = .returned (.bool (rright r)) ∧ Below w.heap.size w w' := by
  have HN : Hid (∀ w1, Calls Tryz.prog 44 #[.agg #[.int .i64 r.coll, .int .i64 r.epoch, .int .i64 r.writer, .int .i64 r.count, .slice q r.box.length c]] w1 fun e w' => e = .returned (.bool (rnum r)) ∧ Below w1.heap.size w1 w') := fun w1 => rnum_any r q c w1
  obtain ⟨R, HR⟩ : ∃ R, Hid (rright r = R) := ⟨_, rfl⟩
  obtain ⟨b1, H1⟩ : ∃ b, Hid (rnum r = b) := ⟨_, rfl⟩
  obtain ⟨b2, H2⟩ : ∃ b, Hid (decide ((80 : Int) ≤ (r.box.length : Int) ∧ (r.box.length : Int) ≤ 2064) = b) := ⟨_, rfl⟩
  have HQ : Hid (R = (b1 && b2)) := by
    show R = _
    rw [← HR.out, ← H1.out, ← H2.out]
    unfold rright
    congr 1
    rw [decide_eq_decide]
    omega
  rw [HR.out]
  rw [H1.out] at HN
  clear HR H1
  show Calls Tryz.prog _ #[.agg #[.int .i64 r.coll, .int .i64 r.epoch, .int .i64 r.writer, .int .i64 r.count, .slice q r.box.length c]] w _
  generalize r.box.length = n5 at *
  generalize r.coll = a1 at *
  generalize r.epoch = a2 at *
  generalize r.writer = a3 at *
  generalize r.count = a4 at *
  have HB : Hid (∀ o1 w', Below (w.alloc o1).heap.size (w.alloc o1) w' → Below w.heap.size w w') := fun o1 w' hb => ((Below.refl _ w).alloc (Nat.le_refl _) o1).trans (hb.mono (by simp))
  have HC : Hid (∀ cs w', Below (w.alloc (.cells cs 24)).heap.size (w.alloc (.cells cs 24)) w' → w'.heap[w.heap.size]? = some (.cells cs 24 (0, 0))) := fun cs w' hb => (hb.block w.heap.size (by simp)).trans (heap_alloc_new w _)
  cases b1 with
  | false =>
    go_enter Tryz.func11, Tryz.ntmps11
    go_wp2_with fail
    refine (HN.out _).mono ?_
    rintro e w1 ⟨rfl, hb⟩
    have HZ : Hid (Below w.heap.size w w1) := HB.out _ _ hb
    clear hb HN HC HB
    go_wp2_with fail
    go_ret
    exact ⟨by rw [HQ.out]; rfl, HZ.out⟩
  | true =>
    go_enter Tryz.func11, Tryz.ntmps11
    go_wp2_with fail
    refine (HN.out _).mono ?_
    rintro e w1 ⟨rfl, hb⟩
    have c4 : w1.cell? ⟨w.heap.size, 4, none⟩ = some (.slice q n5 c) := by rw [cell_of_row _ _ _ _ _ _ (HC.out _ _ hb)]; rfl
    have HZ : Hid (Below w.heap.size w w1) := HB.out _ _ hb
    clear hb HN HC HB
    go_wp2_with (first | (go_at_call 45; refine (sw_any _ _ _ _).mono ?_; rintro e w1 ⟨he, rfl⟩; rw [H2.out] at he; subst he))
    go_ret
    exact ⟨by rw [HQ.out]; rfl, HZ.out⟩
theorem parts_at (w : World) (vs : List Value) (ps : List Pt) (_hl : vs.length = ps.length)
    (h : ∀ j (hj : j < ps.length), ∃ v, vs[j]? = some v ∧ PartIs (w.alloc (.cells vs.toArray 20)) (w.alloc (.cells vs.toArray 20)).heap.size v ps[j]) :
    PartsIs (w.alloc (.cells vs.toArray 20)) (w.alloc (.cells vs.toArray 20)).heap.size (some ⟨w.heap.size, 0, none⟩) ps := by
  intro j hj
  obtain ⟨v, hv, hp⟩ := h j hj
  exact ⟨w.heap.size, 0, v, rfl, by simp, by rw [cell_of_row _ _ _ _ _ _ (heap_alloc_new w _), Nat.zero_add]; simpa using hv, hp⟩
/-- Put of parts that are right. -/
theorem put_at (w : World) (vs : List Value) (ps : List Pt) (hl : vs.length = ps.length) (h20 : ps.length ≤ 20) (he : Cd.err ps = 0)
    (h : ∀ w1, Below w.heap.size w w1 → w.heap.size < w1.heap.size → ∀ j (hj : j < ps.length), ∃ v, vs[j]? = some v ∧ PartIs w1 w1.heap.size v ps[j]) :
    Calls Tryz.prog 43 #[.slice (some ⟨w.heap.size, 0, none⟩) ps.length ps.length] (w.alloc (.cells vs.toArray 20)) fun e w' => ∃ v, e = .returned (.tuple #[v, .int .i64 0]) ∧ w'.ownsRow w.heap.size 5 1 v (Cd.enc ps).length (ints .u8 (Cd.enc ps)) ∧ Below w.heap.size w w' := by
  have hb := S7.below_alloc' w (.cells vs.toArray 20)
  refine (Put_any ps (some ⟨w.heap.size, 0, none⟩) ps.length _ h20 (parts_at w vs ps hl (h _ hb (by simp)))).mono ?_
  rintro e w' ⟨h1, ⟨_, v, h2, h3⟩ | ⟨h2, _⟩⟩
  · exact ⟨v, h2, S7.own_older h3 hb.size, hb.trans (h1.mono hb.size)⟩
  · exact absurd he h2
theorem part_num (w : World) (B : Nat) (n : Int) : PartIs w B (.iface 3 (.int .i64 n)) (num n) := ⟨(fun x hx => by cases hx), .inl ⟨rfl, rfl⟩⟩
theorem part_txt {w w1 : World} {v : Value} {l : List Nat} (h : Src w v l) (hl : l.length ≤ 100000) (hb : Below w.heap.size w w1) : PartIs w1 w1.heap.size (.iface 22 v) (txt l) :=
  ⟨h.small, .inr ⟨rfl, by show l.length ≤ _; omega, .inl ⟨v, rfl, h.below hb, fun h0 b hv => by
    obtain ⟨_, ⟨rfl, _⟩ | ⟨_, _, rfl, e⟩ | ⟨b', o, c, rfl, _, hr⟩⟩ := h
    · cases hv
    · exact absurd e h0
    · cases hv
      exact Nat.lt_of_lt_of_le (range_lt hr (by intro e; apply h0; have := congrArg List.length e; rw [ints_length] at this; exact List.eq_nil_of_length_eq_zero this)) hb.size⟩⟩⟩
theorem put4 (w : World) (r : Rec) (he : rnum r = true) :
    Calls Tryz.prog 43 #[.slice (some ⟨w.heap.size, 0, none⟩) 4 4] (w.alloc (.cells #[.iface 3 (.int .i64 r.coll), .iface 3 (.int .i64 r.epoch), .iface 3 (.int .i64 r.writer), .iface 3 (.int .i64 r.count)] 20)) fun e w' => ∃ v, e = .returned (.tuple #[v, .int .i64 0]) ∧ w'.ownsRow w.heap.size 5 1 v 24 (ints .u8 (rfront r)) ∧ Below w.heap.size w w' := by
  have h := put_at w [.iface 3 (.int .i64 r.coll), .iface 3 (.int .i64 r.epoch), .iface 3 (.int .i64 r.writer), .iface 3 (.int .i64 r.count)] (fpts r) rfl (by simp [fpts]) (rnum_err he) (fun w1 _ _ j hj => by
    have hj' : j < 4 := hj
    obtain rfl | rfl | rfl | rfl : j = 0 ∨ j = 1 ∨ j = 2 ∨ j = 3 := by omega
    · exact ⟨_, rfl, part_num _ _ _⟩
    · exact ⟨_, rfl, part_num _ _ _⟩
    · exact ⟨_, rfl, part_num _ _ _⟩
    · exact ⟨_, rfl, part_num _ _ _⟩)
  have hl := rfront_length r
  unfold rfront at hl
  rw [hl] at h
  exact h
theorem put5 (w : World) (r : Rec) (v : Value) (hv : Src w v r.box) (he : rright r = true) :
    Calls Tryz.prog 43 #[.slice (some ⟨w.heap.size, 0, none⟩) 5 5] (w.alloc (.cells #[.iface 3 (.int .i64 r.coll), .iface 3 (.int .i64 r.epoch), .iface 3 (.int .i64 r.writer), .iface 3 (.int .i64 r.count), .iface 22 v] 20)) fun e w' => ∃ v, e = .returned (.tuple #[v, .int .i64 0]) ∧ w'.ownsRow w.heap.size 5 1 v (rbytes r).length (ints .u8 (rbytes r)) ∧ Below w.heap.size w w' :=
  put_at w [.iface 3 (.int .i64 r.coll), .iface 3 (.int .i64 r.epoch), .iface 3 (.int .i64 r.writer), .iface 3 (.int .i64 r.count), .iface 22 v] (rpts r) rfl (by simp [rpts]) (rright_err he) (fun w1 hb _ j hj => by
    have hj' : j < 5 := hj
    obtain rfl | rfl | rfl | rfl | rfl : j = 0 ∨ j = 1 ∨ j = 2 ∨ j = 3 ∨ j = 4 := by omega
    · exact ⟨_, rfl, part_num _ _ _⟩
    · exact ⟨_, rfl, part_num _ _ _⟩
    · exact ⟨_, rfl, part_num _ _ _⟩
    · exact ⟨_, rfl, part_num _ _ _⟩
    · exact ⟨_, rfl, part_txt hv (by have := ((rright_iff r).1 he).2; omega) hb⟩)
/-- Two texts, as they are put into a bucket. -/
def twoL (a b : List Nat) : List Nat := Cd.enc [txt a, txt b]
theorem twoL_length (a b : List Nat) : (twoL a b).length = a.length + b.length + 4 := by
  unfold twoL
  simp only [Cd.enc, one_txt, List.length_append, Cd.be_length, List.length_nil]
  omega
theorem putT (w : World) (a b : List Nat) (v u : Value) (hv : Src w v a) (hu : Src w u b) (ha : a.length ≤ 4096) (hb0 : b.length ≤ 4096) :
    Calls Tryz.prog 43 #[.slice (some ⟨w.heap.size, 0, none⟩) 2 2] (w.alloc (.cells #[.iface 22 v, .iface 22 u] 20)) fun e w' => ∃ v, e = .returned (.tuple #[v, .int .i64 0]) ∧ w'.ownsRow w.heap.size 5 1 v (a.length + b.length + 4) (ints .u8 (twoL a b)) ∧ Below w.heap.size w w' := by
  have h := put_at w [.iface 22 v, .iface 22 u] [txt a, txt b] rfl (by simp) (err_cons (wrong_txt ha) (err_cons (wrong_txt hb0) rfl)) (fun w1 hb _ j hj => by
    have hj' : j < 2 := hj
    obtain rfl | rfl : j = 0 ∨ j = 1 := by omega
    · exact ⟨_, rfl, part_txt hv (by omega) hb⟩
    · exact ⟨_, rfl, part_txt hu (by omega) hb⟩)
  have hl := twoL_length a b
  unfold twoL at hl
  rw [hl] at h
  exact h
/-- What is marked: the collection's number and the text of an entry's bytes. -/
def markL (n : Int) (b : List Nat) : List Nat := Cd.enc [num n, txt b]
theorem markL_length (n : Int) (b : List Nat) : (markL n b).length = b.length + 8 := by
  unfold markL
  simp only [Cd.enc, one_num, one_txt, List.length_append, Cd.be_length, List.length_nil]
  omega
theorem markL_small (n : Int) {b : List Nat} (h : ∀ x ∈ b, x < 256) : ∀ x ∈ markL n b, x < 256 := by
  refine Cd.enc_lt fun p hp => ?_
  simp only [List.mem_cons, List.not_mem_nil, or_false] at hp
  rcases hp with rfl | rfl
  · intro x hx; cases hx
  · exact h
theorem twoL_small {a b : List Nat} (h : ∀ x ∈ a, x < 256) (h' : ∀ x ∈ b, x < 256) : ∀ x ∈ twoL a b, x < 256 := by
  refine Cd.enc_lt fun p hp => ?_
  simp only [List.mem_cons, List.not_mem_nil, or_false] at hp
  rcases hp with rfl | rfl
  · exact h
  · exact h'
theorem putM (w : World) (n : Int) (b : List Nat) (u : Value) (hu : Src w u b) (h0 : 0 ≤ n) (h1 : n ≤ 1099511627776) (hb0 : b.length ≤ 4096) :
    Calls Tryz.prog 43 #[.slice (some ⟨w.heap.size, 0, none⟩) 2 2] (w.alloc (.cells #[.iface 3 (.int .i64 n), .iface 22 u] 20)) fun e w' => ∃ v, e = .returned (.tuple #[v, .int .i64 0]) ∧ w'.ownsRow w.heap.size 5 1 v (b.length + 8) (ints .u8 (markL n b)) ∧ Below w.heap.size w w' := by
  have h := put_at w [.iface 3 (.int .i64 n), .iface 22 u] [num n, txt b] rfl (by simp) (err_cons (wrong_num h0 h1) (err_cons (wrong_txt hb0) rfl)) (fun w1 hb _ j hj => by
    have hj' : j < 2 := hj
    obtain rfl | rfl : j = 0 ∨ j = 1 := by omega
    · exact ⟨_, rfl, part_num _ _ _⟩
    · exact ⟨_, rfl, part_txt hu (by omega) hb⟩)
  have hl := markL_length n b
  unfold markL at hl
  rw [hl] at h
  exact h
/-- The record stands in its box. -/
theorem rec_cells {w : World} {b : Nat} {a1 a2 a3 a4 : Int} {v : Value} (h : w.heap[b]? = some (.cells #[.int .i64 a1, .int .i64 a2, .int .i64 a3, .int .i64 a4, v] 24 (0, 0))) :
    w.cell? ⟨b, 0, none⟩ = some (.int .i64 a1) ∧ w.cell? ⟨b, 1, none⟩ = some (.int .i64 a2) ∧ w.cell? ⟨b, 2, none⟩ = some (.int .i64 a3) ∧ w.cell? ⟨b, 3, none⟩ = some (.int .i64 a4) ∧ w.cell? ⟨b, 4, none⟩ = some v ∧ ∀ i, w.frozen? ⟨b, i, none⟩ = false := by
  refine ⟨?_, ?_, ?_, ?_, ?_, fun i => frozen_of_row _ _ _ _ _ h⟩ <;> (rw [cell_of_row _ _ _ _ _ _ h]; rfl)
set_option maxHeartbeats 2000000 in
theorem front_any (r : Rec) (q : Option Addr) (c : Nat) (w : World) (he : rnum r = true) : Calls Tryz.prog 65 #[.agg (RecV r q c)] w fun e w' => ∃ v, e = .returned v ∧ w'.ownsRow w.heap.size 5 1 v 24 (ints .u8 (rfront r)) ∧ Below w.heap.size w w' := by
  have hb0 := S7.below_alloc' w (.cells (RecV r q c) 24)
  have HP : Hid (Calls Tryz.prog 43 #[.slice (some ⟨(w.alloc (.cells (RecV r q c) 24)).heap.size, 0, none⟩) 4 4] ((w.alloc (.cells (RecV r q c) 24)).alloc (.cells #[.iface 3 (.int .i64 r.coll), .iface 3 (.int .i64 r.epoch), .iface 3 (.int .i64 r.writer), .iface 3 (.int .i64 r.count)] 20)) fun e w' => ∃ v, e = .returned (.tuple #[v, .int .i64 0]) ∧ w'.ownsRow w.heap.size 5 1 v 24 (ints .u8 (rfront r)) ∧ Below w.heap.size w w') := by
    refine (put4 _ r he).mono ?_
    rintro e w' ⟨v, h1, h2, h3⟩
    exact ⟨v, h1, S7.own_older h2 hb0.size, hb0.trans (h3.mono hb0.size)⟩
  have hc := rec_cells (heap_alloc_new w (.cells (RecV r q c) 24))
  obtain ⟨c0, c1, c2, c3, c4, -⟩ := hc
  unfold RecV at *
  generalize r.box.length = n5 at *
  generalize hW : w.alloc (.cells #[.int .i64 r.coll, .int .i64 r.epoch, .int .i64 r.writer, .int .i64 r.count, .slice q n5 c] 24) = W at *
  have hz : W.heap.size = w.heap.size + 1 := by rw [← hW]; simp
  rw [hz] at HP
  go_enter Tryz.func65, Tryz.ntmps65
  clear hb0 he
  go_wp2_with fail
  refine HP.out.mono ?_
  rintro e w1 ⟨v, rfl, ho, hb⟩
  have HZ : Hid (w1.ownsRow w.heap.size 5 1 v 24 (ints .u8 (rfront r)) ∧ Below w.heap.size w w1) := ⟨ho, hb⟩
  clear ho hb HP
  go_wp2_with fail
  go_ret
  exact ⟨_, rfl, HZ.out⟩
set_option maxHeartbeats 2000000 in
theorem nonce_any (r : Rec) (q : Option Addr) (c : Nat) (w : World) (he : rnum r = true) : Calls Tryz.prog 64 #[.agg (RecV r q c)] w fun e w' => ∃ v, e = .returned v ∧ w'.ownsRow w.heap.size 5 1 v 12 (ints .u8 (S7.non r.writer.toNat r.count.toNat)) ∧ Below w.heap.size w w' := by
  have hb0 := S7.below_alloc' w (.cells (RecV r q c) 24)
  obtain ⟨-, -, n3, n4⟩ := (rnum_iff r).1 he
  have HP : Hid (Calls Tryz.prog 107 #[.int .i64 r.writer, .int .i64 r.count] (w.alloc (.cells (RecV r q c) 24)) fun e w' => ∃ v, e = .returned (.tuple #[v, .int .i64 0]) ∧ w'.ownsRow w.heap.size 5 1 v 12 (ints .u8 (S7.non r.writer.toNat r.count.toNat)) ∧ Below w.heap.size w w') := by
    have h := S7.Nonce_ok (w.alloc (.cells (RecV r q c) 24)) r.writer.toNat r.count.toNat (by omega) (by omega)
    rw [Int.toNat_of_nonneg (by omega), Int.toNat_of_nonneg (by omega)] at h
    refine h.mono ?_
    rintro e w' ⟨v, h1, h2, h3⟩
    exact ⟨v, h1, S7.own_older h2 hb0.size, hb0.trans (h3.mono hb0.size)⟩
  have hc := rec_cells (heap_alloc_new w (.cells (RecV r q c) 24))
  obtain ⟨c0, c1, c2, c3, c4, -⟩ := hc
  unfold RecV at *
  generalize r.box.length = n5 at *
  generalize S7.non r.writer.toNat r.count.toNat = nn at *
  generalize hW : w.alloc (.cells #[.int .i64 r.coll, .int .i64 r.epoch, .int .i64 r.writer, .int .i64 r.count, .slice q n5 c] 24) = W at *
  go_enter Tryz.func64, Tryz.ntmps64
  clear hb0 he n3 n4
  go_wp2_with fail
  refine HP.out.mono ?_
  rintro e w1 ⟨v, rfl, ho, hb⟩
  have HZ : Hid (w1.ownsRow w.heap.size 5 1 v 12 (ints .u8 nn) ∧ Below w.heap.size w w1) := ⟨ho, hb⟩
  clear ho hb HP
  go_wp2_with fail
  go_ret
  exact ⟨_, rfl, HZ.out⟩
theorem two_any (a b : List Nat) (v u : Value) (w : World) (hv : Src w v a) (hu : Src w u b) (ha : a.length ≤ 4096) (hb0 : b.length ≤ 4096) : Calls Tryz.prog 62 #[v, u] w fun e w' => ∃ x, e = .returned x ∧ w'.ownsRow w.heap.size 5 1 x (a.length + b.length + 4) (ints .u8 (twoL a b)) ∧ Below w.heap.size w w' := by
  have HP : Hid (Calls Tryz.prog 43 #[.slice (some ⟨w.heap.size, 0, none⟩) 2 2] (w.alloc (.cells #[.iface 22 v, .iface 22 u] 20)) fun e w' => ∃ v, e = .returned (.tuple #[v, .int .i64 0]) ∧ w'.ownsRow w.heap.size 5 1 v (a.length + b.length + 4) (ints .u8 (twoL a b)) ∧ Below w.heap.size w w') := putT w a b v u hv hu ha hb0
  obtain ⟨vq, vc, rfl, -⟩ := hv.slice
  obtain ⟨uq, uc, rfl, -⟩ := hu.slice
  clear hv hu ha hb0
  generalize twoL a b = z at *
  generalize a.length + b.length + 4 = zl at *
  generalize a.length = al at *
  generalize b.length = bl at *
  go_enter Tryz.func62, Tryz.ntmps62
  go_wp2_with fail
  refine HP.out.mono ?_
  rintro e w1 ⟨x, rfl, ho, hb⟩
  have HZ : Hid (w1.ownsRow w.heap.size 5 1 x zl (ints .u8 z) ∧ Below w.heap.size w w1) := ⟨ho, hb⟩
  clear ho hb HP
  go_wp2_with fail
  go_ret
  exact ⟨_, rfl, HZ.out⟩
end Go.Proofs.YtfjdaafckiefdaaGreatDoor.S15
/- Keys of ring, whatever the suite: keyOf, personKey, Member, Writer, lock, Wrap, Unwrap. -/
namespace Go.Proofs.YtfjdaafckiefdaaGreatDoor.S7
open Go.RowKit
def wriB : List Nat := [119, 114, 105, 116, 101, 114]
theorem wriS : (⟨#[119, 114, 105, 116, 101, 114]⟩ : ByteArray) = strB wriB := by rfl
/-- What is turned: these blocks alone, nothing below a bound, and of what was there blocks of these types alone. -/
structure Fr (bs : List Nat) (ts : List (Option TypeId)) (B : Nat) (w w' : World) : Prop where
  only : Only bs w w'
  kx : Kx ts B w w'
section
variable {bs : List Nat} {ts : List (Option TypeId)} {B : Nat} {w w' w'' : World}
theorem Fr.trans (h : Fr bs ts B w w') (k : Fr bs ts B w' w'') : Fr bs ts B w w'' := ⟨h.only.trans k.only, h.kx.trans k.kx⟩
theorem Fr.of_below (h : Below w.heap.size w w') (hB : B ≤ w.heap.size) : Fr bs ts B w w' := ⟨Only.of_below h _, Kx.of_below h hB⟩
theorem Fr.size (h : Fr bs ts B w w') : w.heap.size ≤ w'.heap.size := h.only.size
end
section
variable {bs : List Nat} {ts : List (Option TypeId)} {B : Nat} {w : World} {I : World → Prop} {r : List Nat} {p : Nat} {kv : Value}
set_option maxHeartbeats 1000000 in
theorem keyOf_any (sl : List Nat) (n : Nat) (hB : B ≤ w.heap.size) (hn : n ≤ 1099511627776) (hs : ∀ x ∈ sl, x < 256)
    (hcode : ∀ w1 g a1 a2, Src w1 a1 sl → Src w1 a2 (six n) → w1.cell? ⟨g, 0, none⟩ = some a1 → w1.cell? ⟨g, 1, none⟩ = some a2 → Below w.heap.size w w1 → Calls Tryz.prog 106 #[.pointer (some ⟨p, 0, none⟩), kv, .slice (some ⟨g, 0, none⟩) 2 2] w1 fun e w' => ∃ u, e = .returned u ∧ w'.ownsRow w1.heap.size 5 1 u 32 (ints .u8 r) ∧ I w' ∧ Fr bs ts B w1 w') :
    Calls Tryz.prog 141 #[.pointer (some ⟨p, 0, none⟩), kv, .string (strB sl), .int .i64 (n : Int)] w fun e w' => ∃ u, e = .returned u ∧ w'.ownsRow w.heap.size 5 1 u 32 (ints .u8 r) ∧ I w' ∧ Fr bs ts B w w' := by
  have HN : Hid (n ≤ 1099511627776) := hn
  have HB : Hid (B ≤ w.heap.size) := hB
  have HS : Hid (∀ x ∈ sl, x < 256) := hs
  have HC : Hid (∀ w1 g a1 a2, Src w1 a1 sl → Src w1 a2 (six n) → w1.cell? ⟨g, 0, none⟩ = some a1 → w1.cell? ⟨g, 1, none⟩ = some a2 → Below w.heap.size w w1 → Calls Tryz.prog 106 #[.pointer (some ⟨p, 0, none⟩), kv, .slice (some ⟨g, 0, none⟩) 2 2] w1 fun e w' => ∃ u, e = .returned u ∧ w'.ownsRow w1.heap.size 5 1 u 32 (ints .u8 r) ∧ I w' ∧ Fr bs ts B w1 w') := hcode
  clear hcode hn hB hs
  go_enter Tryz.func141, Tryz.ntmps141
  go_wp2_with fail
  refine (put1 w n HN.out).mono ?_
  rintro e w1 ⟨v, rfl, ho, hb⟩
  obtain ⟨vq, vc, rfl⟩ := own_slice ho
  obtain ⟨sv, w2, hcv, hs2, hb2, -⟩ := bytes_src w1 sl HS.out
  obtain ⟨sq, sc, rfl, -⟩ := hs2.slice
  have hba := below_alloc' w2 (.cells #[.slice sq sl.length sc, .slice vq 6 vc] 22)
  have hh := heap_alloc_new w2 (.cells #[.slice sq sl.length sc, .slice vq 6 vc] 22)
  have hW : Below w.heap.size w (w2.alloc (.cells #[.slice sq sl.length sc, .slice vq 6 vc] 22)) := (hb.trans (hb2.mono hb.size)).trans (hba.mono (Nat.le_trans hb.size hb2.size))
  have HCC : Hid (Calls Tryz.prog 106 #[.pointer (some ⟨p, 0, none⟩), kv, .slice (some ⟨w2.heap.size, 0, none⟩) 2 2] (w2.alloc (.cells #[.slice sq sl.length sc, .slice vq 6 vc] 22)) fun e w' => ∃ u, e = .returned u ∧ w'.ownsRow w.heap.size 5 1 u 32 (ints .u8 r) ∧ I w' ∧ Fr bs ts B w w') := by
    refine (HC.out _ w2.heap.size _ _ (hs2.below hba) (((Src.own (six_small n) ho).below hb2).below hba) (by rw [cell_of_row _ _ _ _ _ _ hh]; rfl) (by rw [cell_of_row _ _ _ _ _ _ hh]; rfl) hW).mono ?_
    rintro e w' ⟨u, rfl, h1, h2, h3⟩
    exact ⟨u, rfl, own_older h1 hW.size, h2, (Fr.of_below hW HB.out).trans h3⟩
  clear hs2 hb2 ho hb hba hh hW HC HN HB HS
  generalize sl.length = ln at *
  go_wp2_with fail
  refine HCC.out.mono ?_
  rintro e w3 ⟨u, rfl, h1, h2, h3⟩
  have HZ : Hid (w3.ownsRow w.heap.size 5 1 u 32 (ints .u8 r) ∧ I w3 ∧ Fr bs ts B w w3) := ⟨h1, h2, h3⟩
  clear h1 h2 h3 HCC hcv
  go_wp2_with fail
  go_ret
  exact ⟨_, rfl, HZ.out⟩
end
theorem personKey_yes (w : World) (sp kv sv : Value) (n : Int) (h : 1 ≤ n ∧ n ≤ 16) (R : Value → World → Prop) (hk : Calls Tryz.prog 141 #[sp, kv, sv, .int .i64 n] w fun e w' => ∃ u, e = .returned u ∧ R u w') : Calls Tryz.prog 126 #[sp, kv, sv, .int .i64 n] w fun e w' => ∃ u, e = .returned (.tuple #[u, .int .i64 0]) ∧ R u w' := by
  have HP : Hid (Calls Tryz.prog 140 #[.int .i64 n] w fun e w' => e = .returned (.bool true) ∧ w' = w) := isPerson_yes w n h
  have HK : Hid (Calls Tryz.prog 141 #[sp, kv, sv, .int .i64 n] w fun e w' => ∃ u, e = .returned u ∧ R u w') := hk
  clear h hk
  go_enter Tryz.func126, Tryz.ntmps126
  go_wp2_with fail
  refine HP.out.mono ?_
  rintro e w1 ⟨rfl, hw⟩
  obtain rfl : w = w1 := hw.symm
  clear hw HP
  go_wp2_with fail
  refine HK.out.mono ?_
  rintro e w1 ⟨u, rfl, hr⟩
  have HR : Hid (R u w1) := hr
  clear hr HK
  go_wp2_with fail
  go_ret2
  exact ⟨_, rfl, HR.out⟩
theorem Writer_yes (w : World) (sp kv : Value) (n : Int) (h : 1 ≤ n ∧ n ≤ 16) (R : Value → World → Prop) (hk : Calls Tryz.prog 141 #[sp, kv, .string (strB wriB), .int .i64 n] w fun e w' => ∃ u, e = .returned u ∧ R u w') : Calls Tryz.prog 105 #[sp, kv, .int .i64 n] w fun e w' => ∃ u, e = .returned (.tuple #[u, .int .i64 0]) ∧ R u w' := by
  have HP : Hid (Calls Tryz.prog 126 #[sp, kv, .string ⟨#[119, 114, 105, 116, 101, 114]⟩, .int .i64 n] w fun e w' => ∃ u, e = .returned (.tuple #[u, .int .i64 0]) ∧ R u w') := by rw [wriS]; exact personKey_yes w sp kv _ n h R hk
  clear h hk
  go_enter Tryz.func105, Tryz.ntmps105
  go_wp2_with fail
  refine HP.out.mono ?_
  rintro e w1 ⟨u, rfl, hr⟩
  have HR : Hid (R u w1) := hr
  clear hr HP
  go_wp2_with fail
  go_ret2
  exact ⟨_, rfl, HR.out⟩
section
variable {bs : List Nat} {ts : List (Option TypeId)} {B : Nat} {w : World} {I : World → Prop} {r : List Nat} {sp kv : Value}
end
section
variable {bs : List Nat} {ts : List (Option TypeId)} {B : Nat} {w : World} {I : World → Prop} {r : List Nat} {sp kv : Value}
end
end Go.Proofs.YtfjdaafckiefdaaGreatDoor.S7
