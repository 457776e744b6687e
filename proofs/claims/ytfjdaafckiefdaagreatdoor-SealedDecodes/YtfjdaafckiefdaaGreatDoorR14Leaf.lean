/- Leaves of ring: who may be, which epochs; numbers in bytes; nonces; copies. -/
import Derived.Test.YtfjdaafckiefdaaGreatDoorMgC
import Derived.Test.YtfjdaafckiefdaaGreatDoorMgT
import Derived.Test.YtfjdaafckiefdaaGreatDoorC12Join
import Derived.Test.YtfjdaafckiefdaaGreatDoorMgO
import Derived.Lib.SlBytesConst
import Derived.Deep.QuietTactic
import Derived.BigQuiet
namespace Go.Proofs.YtfjdaafckiefdaaGreatDoor.S7
open Go.RowKit
theorem below_alloc' (w : World) (o : Obj) : Below w.heap.size w (w.alloc o) := (Below.refl _ _).alloc (Nat.le_refl _) _
def six (n : Nat) : List Nat := C8.Cd.be 6 n
theorem six_length (n : Nat) : (six n).length = 6 := C8.Cd.be_length 6 n
theorem six_small (n : Nat) : ∀ x ∈ six n, x < 256 := C8.Cd.be_lt 6 n
theorem six_inj {m n : Nat} (hm : m ≤ 1099511627776) (hn : n ≤ 1099511627776) (h : six m = six n) : m = n := C8.Cd.be_inj (by omega) (by omega) h
def non (a b : Nat) : List Nat := six a ++ six b
theorem non_length (a b : Nat) : (non a b).length = 12 := by unfold non; rw [List.length_append, six_length, six_length]
theorem non_small (a b : Nat) : ∀ x ∈ non a b, x < 256 := fun x hx => (List.mem_append.1 hx).elim (six_small a x) (six_small b x)
theorem non_inj {a b c d : Nat} (ha : a ≤ 1099511627776) (hb : b ≤ 1099511627776) (hc : c ≤ 1099511627776) (hd : d ≤ 1099511627776) (h : non a b = non c d) : a = c ∧ b = d := by
  obtain ⟨h1, h2⟩ := List.append_inj h (by rw [six_length, six_length])
  exact ⟨six_inj ha hc h1, six_inj hb hd h2⟩
theorem isPerson_yes (w : World) (n : Int) (h : 1 ≤ n ∧ n ≤ 16) : Calls Tryz.prog 140 #[.int .i64 n] w fun e w' => e = .returned (.bool true) ∧ w' = w := by
  obtain ⟨h1, h2⟩ := h
  go_enter Tryz.func140, Tryz.ntmps140
  go_wp2_with fail
  go_ret
  exact ⟨rfl, rfl⟩
theorem isPerson_no (w : World) (n : Int) (h : ¬ (1 ≤ n ∧ n ≤ 16)) : Calls Tryz.prog 140 #[.int .i64 n] w fun e w' => e = .returned (.bool false) ∧ w' = w := by
  by_cases h1 : 1 ≤ n
  · have h2 : ¬ n ≤ 16 := fun e => h ⟨h1, e⟩
    clear h
    go_enter Tryz.func140, Tryz.ntmps140
    go_wp2_with fail
    go_ret
    exact ⟨rfl, rfl⟩
  · clear h
    go_enter Tryz.func140, Tryz.ntmps140
    go_wp2_with fail
    go_ret
    exact ⟨rfl, rfl⟩
theorem put1 (w : World) (n : Nat) (hn : n ≤ 1099511627776) : Calls Tryz.prog 43 #[.slice (some ⟨w.heap.size, 0, none⟩) 1 1] (w.alloc (.cells #[.iface 3 (.int .i64 (n : Int))] 20)) fun e w' => ∃ v, e = .returned (.tuple #[v, .int .i64 0]) ∧ w'.ownsRow w.heap.size 5 1 v 6 (ints .u8 (six n)) ∧ Below w.heap.size w w' := by
  refine (C8.Put_any [⟨false, n, []⟩] (some ⟨w.heap.size, 0, none⟩) 1 (w.alloc (.cells #[.iface 3 (.int .i64 (n : Int))] 20)) (by simp) (fun j hj => ?_)).mono ?_
  · have e : j = 0 := by simpa using hj
    subst e
    exact ⟨w.heap.size, 0, .iface 3 (.int .i64 (n : Int)), rfl, by simp, by rw [cell_of_row _ _ _ _ _ _ (heap_alloc_new w _)]; rfl, fun x hx => by simp at hx, .inl ⟨rfl, rfl⟩⟩
  · rintro e w' ⟨hb, h⟩
    have hb' : Below w.heap.size w w' := (below_alloc' w _).trans (hb.mono (below_alloc' w _).size)
    rcases h with ⟨h1, v, h2, h3⟩ | ⟨h1, _⟩
    · refine ⟨v, h2, ?_, hb'⟩
      have e1 : C8.Cd.enc [⟨false, (n : Int), []⟩] = six n := by simp [C8.Cd.enc, C8.Cd.one, six]
      rw [e1, six_length] at h3
      exact own_older h3 (below_alloc' w _).size
    · exfalso
      apply h1
      simp [C8.Cd.err, C8.Cd.wrong]
      omega
theorem put2p (w : World) (a b : Int) : C8.PartsIs (w.alloc (.cells #[.iface 3 (.int .i64 a), .iface 3 (.int .i64 b)] 20)) (w.alloc (.cells #[.iface 3 (.int .i64 a), .iface 3 (.int .i64 b)] 20)).heap.size (some ⟨w.heap.size, 0, none⟩) [⟨false, a, []⟩, ⟨false, b, []⟩] := by
  intro j hj
  have hj' : j < 2 := by simpa using hj
  obtain rfl | rfl : j = 0 ∨ j = 1 := by omega
  · exact ⟨w.heap.size, 0, .iface 3 (.int .i64 a), rfl, by simp, by rw [cell_of_row _ _ _ _ _ _ (heap_alloc_new w _)]; rfl, fun x hx => by simp at hx, .inl ⟨rfl, rfl⟩⟩
  · exact ⟨w.heap.size, 0, .iface 3 (.int .i64 b), rfl, by simp, by rw [cell_of_row _ _ _ _ _ _ (heap_alloc_new w _)]; rfl, fun x hx => by simp at hx, .inl ⟨rfl, rfl⟩⟩
theorem put2 (w : World) (a b : Nat) (ha : a ≤ 1099511627776) (hb0 : b ≤ 1099511627776) : Calls Tryz.prog 43 #[.slice (some ⟨w.heap.size, 0, none⟩) 2 2] (w.alloc (.cells #[.iface 3 (.int .i64 (a : Int)), .iface 3 (.int .i64 (b : Int))] 20)) fun e w' => ∃ v, e = .returned (.tuple #[v, .int .i64 0]) ∧ w'.ownsRow w.heap.size 5 1 v 12 (ints .u8 (non a b)) ∧ Below w.heap.size w w' := by
  refine (C8.Put_any [⟨false, a, []⟩, ⟨false, b, []⟩] (some ⟨w.heap.size, 0, none⟩) 2 _ (by simp) (put2p w a b)).mono ?_
  rintro e w' ⟨hb, h⟩
  have hb' : Below w.heap.size w w' := (below_alloc' w _).trans (hb.mono (below_alloc' w _).size)
  rcases h with ⟨h1, v, h2, h3⟩ | ⟨h1, _⟩
  · refine ⟨v, h2, ?_, hb'⟩
    have e1 : C8.Cd.enc [⟨false, (a : Int), []⟩, ⟨false, (b : Int), []⟩] = non a b := by simp [C8.Cd.enc, C8.Cd.one, six, non]
    rw [e1, non_length] at h3
    exact own_older h3 (below_alloc' w _).size
  · exfalso
    apply h1
    have e1 : ¬ (((a : Int) < 0) ∨ 1099511627776 < (a : Int)) := by omega
    have e2 : ¬ (((b : Int) < 0) ∨ 1099511627776 < (b : Int)) := by omega
    simp only [C8.Cd.err, C8.Cd.wrong, Bool.false_eq_true, if_false, if_neg e1, if_neg e2]
    simp
theorem put2_bad (w : World) (a b : Int) (h : a < 0 ∨ 1099511627776 < a ∨ b < 0 ∨ 1099511627776 < b) : Calls Tryz.prog 43 #[.slice (some ⟨w.heap.size, 0, none⟩) 2 2] (w.alloc (.cells #[.iface 3 (.int .i64 a), .iface 3 (.int .i64 b)] 20)) fun e w' => e = .returned (.tuple #[.slice none 0 0, .int .i64 12]) ∧ Below w.heap.size w w' := by
  have e1 : C8.Cd.err [⟨false, a, []⟩, ⟨false, b, []⟩] = 12 := by
    by_cases ha : a < 0 ∨ 1099511627776 < a
    · simp only [C8.Cd.err, C8.Cd.wrong, Bool.false_eq_true, if_false, if_pos ha]
      simp
    · have hb : b < 0 ∨ 1099511627776 < b := by omega
      simp only [C8.Cd.err, C8.Cd.wrong, Bool.false_eq_true, if_false, if_neg ha, if_pos hb]
      simp
  refine (C8.Put_any [⟨false, a, []⟩, ⟨false, b, []⟩] (some ⟨w.heap.size, 0, none⟩) 2 _ (by simp) (put2p w a b)).mono ?_
  rintro e w' ⟨hb, h⟩
  have hb' : Below w.heap.size w w' := (below_alloc' w _).trans (hb.mono (below_alloc' w _).size)
  rcases h with ⟨h1, _⟩ | ⟨_, rfl⟩
  · rw [e1] at h1
    omega
  · rw [e1]
    exact ⟨rfl, hb'⟩
theorem Nonce_big (w : World) (a b : Int) (h : 4294967295 < a) : Calls Tryz.prog 107 #[.int .i64 a, .int .i64 b] w fun e w' => e = .returned (.tuple #[.slice none 0 0, .int .i64 12]) ∧ Below w.heap.size w w' := by
  go_enter Tryz.func107, Tryz.ntmps107
  go_wp2_with fail
  go_ret2
  exact ⟨rfl, Below.refl _ _⟩
theorem Nonce_bad (w : World) (a b : Int) (h : ¬ (0 ≤ a ∧ a ≤ 4294967295 ∧ 0 ≤ b ∧ b ≤ 1099511627776)) : Calls Tryz.prog 107 #[.int .i64 a, .int .i64 b] w fun e w' => e = .returned (.tuple #[.slice none 0 0, .int .i64 12]) ∧ Below w.heap.size w w' := by
  by_cases h0 : 4294967295 < a
  · exact Nonce_big w a b h0
  · have HP : Hid (Calls Tryz.prog 43 #[.slice (some ⟨w.heap.size, 0, none⟩) 2 2] (w.alloc (.cells #[.iface 3 (.int .i64 a), .iface 3 (.int .i64 b)] 20)) fun e w' => e = .returned (.tuple #[.slice none 0 0, .int .i64 12]) ∧ Below w.heap.size w w') := put2_bad w a b (by omega)
    clear h
    go_enter Tryz.func107, Tryz.ntmps107
    go_wp2_with fail
    refine HP.out.mono ?_
    rintro e w1 ⟨rfl, hb⟩
    have HB : Hid (Below w.heap.size w w1) := hb
    clear hb HP
    go_wp2_with fail
    go_ret2
    exact ⟨rfl, HB.out⟩
theorem Nonce_ok (w : World) (a b : Nat) (ha : a ≤ 4294967295) (hb0 : b ≤ 1099511627776) : Calls Tryz.prog 107 #[.int .i64 (a : Int), .int .i64 (b : Int)] w fun e w' => ∃ v, e = .returned (.tuple #[v, .int .i64 0]) ∧ w'.ownsRow w.heap.size 5 1 v 12 (ints .u8 (non a b)) ∧ Below w.heap.size w w' := by
  have HP : Hid (Calls Tryz.prog 43 #[.slice (some ⟨w.heap.size, 0, none⟩) 2 2] (w.alloc (.cells #[.iface 3 (.int .i64 (a : Int)), .iface 3 (.int .i64 (b : Int))] 20)) fun e w' => ∃ v, e = .returned (.tuple #[v, .int .i64 0]) ∧ w'.ownsRow w.heap.size 5 1 v 12 (ints .u8 (non a b)) ∧ Below w.heap.size w w') := put2 w a b (by omega) hb0
  have h0 : ¬ (4294967295 : Int) < (a : Int) := by omega
  clear ha hb0
  go_enter Tryz.func107, Tryz.ntmps107
  go_wp2_with fail
  refine HP.out.mono ?_
  rintro e w1 ⟨v, rfl, ho, hb⟩
  have HO : Hid (w1.ownsRow w.heap.size 5 1 v 12 (ints .u8 (non a b)) ∧ Below w.heap.size w w1) := ⟨ho, hb⟩
  clear ho hb HP
  go_wp2_with fail
  go_ret2
  exact ⟨_, rfl, HO.out⟩
set_option maxHeartbeats 400000 in
theorem clone_any {l : List Nat} (v : Value) (w : World) (hv : Src w v l) (hl : l.length ≤ 50000) :
    Calls Tryz.prog 90 #[v] w fun e w' => ∃ u, e = .returned u ∧ w'.ownsRow w.heap.size 5 1 u l.length (ints .u8 l) ∧ Below w.heap.size w w' := by
  have HV : Hid (Src w v l) := hv
  have HL : Hid (l.length ≤ 50000) := hl
  have key : ∀ ad n c, v = .slice (some ad) n c → Calls Tryz.prog 90 #[v] w fun e w' => ∃ u, e = .returned u ∧ w'.ownsRow w.heap.size 5 1 u l.length (ints .u8 l) ∧ Below w.heap.size w w' := by
    intro ad n c e
    subst e
    clear hv hl
    have hnil : (binOp .eql 22 (.slice (some ad) n c) (.slice none 0 0)).run Tryz.prog w = .ok (.bool false) w := Lib.run_eql_slice_nil w 22 5 (some ad) n c 0 0 Tryz.underlying22
    go_enter Tryz.func90, Tryz.ntmps90
    go_wp2_with (first | with_reducible (refine stop_builtin .append ?_))
    refine Stop.go ?_
    have hb5 : Below w.heap.size w (w.alloc (.cells #[] 5)) := (Below.refl _ _).alloc (Nat.le_refl _) _
    have he : (w.alloc (.cells #[] 5)).ownsRow w.heap.size 5 1 (.slice (some ⟨w.heap.size, 0, none⟩) 0 0) 0 (ints .u8 []) :=
      ⟨rfl, .inr ⟨w.heap.size, 0, #[], rfl, Nat.le_refl _, heap_alloc_new w _, Nat.le_refl _, by unfold maxLen; decide, rfl, rfl⟩⟩
    refine law_append_src w.heap.size _ 0 [] _ l rfl rfl he (HV.out.below hb5) (by have := HL.out; omega) (by simp) ?_
    intro u w1 ho hg
    have HB : Hid (Below w.heap.size w w1) := hb5.trans (below_append he hg (by simp))
    have HO : Hid (w1.ownsRow w.heap.size 5 1 u (0 + l.length) (ints .u8 ([] ++ l))) := ho
    clear ho hg hb5 he
    go_wp2_with fail
    go_ret
    exact ⟨_, rfl, by have := HO.out; rw [Nat.zero_add] at this; exact this, HB.out⟩
  rcases hv.2 with ⟨rfl, rfl⟩ | ⟨ad, c, rfl, rfl⟩ | ⟨b, o, c, rfl, _⟩
  · clear key hv hl
    have hnil : (binOp .eql 22 (.slice none 0 0) (.slice none 0 0)).run Tryz.prog w = .ok (.bool true) w := Lib.run_eql_slice_nil w 22 5 none 0 0 0 0 Tryz.underlying22
    go_enter Tryz.func90, Tryz.ntmps90
    go_wp2_with fail
    go_ret
    exact ⟨_, rfl, own_none _ _ _ _, Below.refl _ _⟩
  · exact key _ _ _ rfl
  · exact key _ _ _ rfl
set_option maxHeartbeats 1000000 in
theorem Code_two (k l1 l2 : List Nat) (g o c : Nat) (kv v u : Value) (p q m x : Nat) (L : List Su.Thing) (w : World) (h : SuIs w p q m x L) (hk : Src w kv k) (hc : w.cell? ⟨g, o, none⟩ = some v) (hc2 : w.cell? ⟨g, o + 1, none⟩ = some u) (hv : Src w v l1) (hu : Src w u l2) (hcp : 2 ≤ c) (hl : l1.length ≤ 50000) (hl2 : l2.length ≤ 50000) (hL : L.length < 1000000) :
    Calls Tryz.prog 106 #[.pointer (some ⟨p, 0, none⟩), kv, .slice (some ⟨g, o, none⟩) 2 c] w fun e w' => ∃ v, e = .returned v ∧ w'.ownsRow w.heap.size 5 1 v 32 (ints .u8 (Su.sign 77 (Su.num L 77 k (l1 ++ l2)))) ∧ SuIs w' p q m x (Su.add L 77 k (l1 ++ l2)) ∧ Only [p, m] w w' := by
  have hsm : ∀ y ∈ l1 ++ l2, y < 256 := fun y hy => (List.mem_append.1 hy).elim (hv.small y) (hu.small y)
  have HJ : Hid (∀ n, Calls Tryz.prog 128 #[.slice (some ⟨g, o, none⟩) 2 c] (w.drewN n) fun e w' => e = .returned (.string (strB (l1 ++ l2))) ∧ Below w.heap.size w w') := fun n =>
    (joined_two g o c v u (w.drewN n) hc hc2 (hv.below (below_drewN n _ _)) (hu.below (below_drewN n _ _)) hcp hl hl2).mono (fun _ _ ⟨h1, h2⟩ => ⟨h1, (below_drewN n w w.heap.size).trans h2⟩)
  have HK : Hid (∀ w1, Below w.heap.size w w1 → (convert 22 9 kv).run Tryz.prog w1 = .ok (.string (strB k)) w1) := fun w1 hb => conv_src (hk.below hb)
  have HG : Hid (∀ w1, Below w.heap.size w w1 → Calls Tryz.prog 127 #[.pointer (some ⟨p, 0, none⟩), thingV 77 k (l1 ++ l2)] w1 fun e w' => ∃ v, e = .returned v ∧ w'.ownsRow w1.heap.size 5 1 v 32 (ints .u8 (Su.sign 77 (Su.num L 77 k (l1 ++ l2)))) ∧ SuIs w' p q m x (Su.add L 77 k (l1 ++ l2)) ∧ Only [p, m] w1 w') := fun w1 hb => signOf_any 77 k (l1 ++ l2) p q m x L w1 (h.below hb) (.inr rfl) hk.small hsm hL
  have hcv := HK.out w.drew (below_drewN 1 _ _)
  obtain ⟨_, _, c2, _⟩ := cells3 h.box
  obtain ⟨pk, ck, rfl, _⟩ := hk.slice
  clear h hc hc2 hv hu hl hl2 hk hsm
  generalize k.length = kl at *
  generalize l1 ++ l2 = l at *
  go_enter Tryz.func106, Tryz.ntmps106
  go_wp2_with fail
  go_region_with ((first
    | (go_at_call 128; refine (HJ.out 1).mono ?_; rintro e w1 ⟨rfl, hb1⟩; have hcv1 := HK.out w1 hb1; have HB1 : Hid (Below w.heap.size w w1) := hb1; clear hb1)
    | (go_at_call 127; refine (HG.out _ HB1.out).mono ?_; rintro e w2 ⟨u, rfl, ho, hs, hn⟩; have HO : Hid (w2.ownsRow w.heap.size 5 1 u 32 (ints .u8 (Su.sign 77 (Su.num L 77 k l)))) := own_older ho HB1.out.size; have HS : Hid (SuIs w2 p q m x (Su.add L 77 k l)) := hs; have HN : Hid (Only [p, m] w w2) := (Only.of_below HB1.out _).trans hn; clear ho hs hn)))
  all_goals
    go_wp2_with fail
    go_ret
    exact ⟨_, rfl, HO.out, HS.out, HN.out⟩
end Go.Proofs.YtfjdaafckiefdaaGreatDoor.S7
