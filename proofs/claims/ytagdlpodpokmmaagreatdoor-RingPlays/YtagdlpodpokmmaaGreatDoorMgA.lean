/- Leaves of ring: who may be, which epochs; numbers in bytes; nonces; copies. -/
import Derived.Test.YtagdlpodpokmmaaGreatDoorMgC
import Derived.Test.YtagdlpodpokmmaaGreatDoorS7SigD
import Derived.Test.YtagdlpodpokmmaaGreatDoorC12Join
import Derived.Test.YtagdlpodpokmmaaGreatDoorS7Use
import Derived.Lib.SlBytesConst
import Derived.Deep.QuietTactic
import Derived.BigQuiet
import Derived.WalkSpells
namespace Go.Proofs.YtagdlpodpokmmaaGreatDoor.S7
open Go.RowKit
theorem below_alloc' (w : World) (o : Obj) : Below w.heap.size w (w.alloc o) := (Below.refl _ _).alloc (Nat.le_refl _) _
def six (n : Nat) : List Nat := C8.Cd.be 6 n
theorem six_length (n : Nat) : (six n).length = 6 := C8.Cd.be_length 6 n
theorem six_small (n : Nat) : ∀ x ∈ six n, x < 256 := C8.Cd.be_lt 6 n
theorem six_inj {m n : Nat} (hm : m ≤ 1099511627776) (hn : n ≤ 1099511627776) (h : six m = six n) : m = n := C8.Cd.be_inj (by omega) (by omega) h
def non (a b : Nat) : List Nat := six a ++ six b
theorem non_length (a b : Nat) : (non a b).length = 12 := by unfold non; rw [List.length_append, six_length, six_length]
theorem non_small (a b : Nat) : ∀ x ∈ non a b, x < 256 := fun x hx => (List.mem_append.1 hx).elim (six_small a x) (six_small b x)
theorem non_inj {a b c d : Nat} (ha : a ≤ 1099511627776) (hb : b ≤ 1099511627776) (hc : c ≤ 1099511627776) (hd : d ≤ 1099511627776) (h : non a b = non c d) : a = c ∧ b = d := by
  obtain ⟨h1, h2⟩ := List.append_inj h (by rw [six_length, six_length])
  exact ⟨six_inj ha hc h1, six_inj hb hd h2⟩
theorem isPerson_yes (w : World) (n : Int) (h : 1 ≤ n ∧ n ≤ 16) : Calls Tryz.prog 28 #[.int .i64 n] w fun e w' => e = .returned (.bool true) ∧ w' = w := by
  obtain ⟨h1, h2⟩ := h
  go_enter Tryz.func28, Tryz.ntmps28
  go_wp2_with fail
  go_ret
  exact ⟨rfl, rfl⟩
theorem isPerson_no (w : World) (n : Int) (h : ¬ (1 ≤ n ∧ n ≤ 16)) : Calls Tryz.prog 28 #[.int .i64 n] w fun e w' => e = .returned (.bool false) ∧ w' = w := by
  by_cases h1 : 1 ≤ n
  · have h2 : ¬ n ≤ 16 := fun e => h ⟨h1, e⟩
    clear h
    go_enter Tryz.func28, Tryz.ntmps28
    go_wp2_with fail
    go_ret
    exact ⟨rfl, rfl⟩
  · clear h
    go_enter Tryz.func28, Tryz.ntmps28
    go_wp2_with fail
    go_ret
    exact ⟨rfl, rfl⟩
theorem isLater_yes (w : World) (n : Int) (h : 1 ≤ n ∧ n ≤ 16) : Calls Tryz.prog 29 #[.int .i64 n] w fun e w' => e = .returned (.bool true) ∧ w' = w := by
  obtain ⟨h1, h2⟩ := h
  have h3 : 0 < n := by omega
  clear h1
  go_enter Tryz.func29, Tryz.ntmps29
  go_wp2_with fail
  go_ret
  exact ⟨rfl, rfl⟩
theorem isLater_no (w : World) (n : Int) (h : ¬ (1 ≤ n ∧ n ≤ 16)) : Calls Tryz.prog 29 #[.int .i64 n] w fun e w' => e = .returned (.bool false) ∧ w' = w := by
  by_cases h1 : 0 < n
  · have h2 : ¬ n ≤ 16 := fun e => h ⟨by omega, e⟩
    clear h
    go_enter Tryz.func29, Tryz.ntmps29
    go_wp2_with fail
    go_ret
    exact ⟨rfl, rfl⟩
  · clear h
    go_enter Tryz.func29, Tryz.ntmps29
    go_wp2_with fail
    go_ret
    exact ⟨rfl, rfl⟩
theorem put1 (w : World) (n : Nat) (hn : n ≤ 1099511627776) : Calls Tryz.prog 38 #[.slice (some ⟨w.heap.size, 0, none⟩) 1 1] (w.alloc (.cells #[.iface 3 (.int .i64 (n : Int))] 20)) fun e w' => ∃ v, e = .returned (.tuple #[v, .int .i64 0]) ∧ w'.ownsRow w.heap.size 5 1 v 6 (ints .u8 (six n)) ∧ Below w.heap.size w w' := by
  refine (C8.Put_any [⟨false, n, []⟩] (some ⟨w.heap.size, 0, none⟩) 1 (w.alloc (.cells #[.iface 3 (.int .i64 (n : Int))] 20)) (by simp) (fun j hj => ?_)).mono ?_
  · have e : j = 0 := by simpa using hj
    subst e
    exact ⟨w.heap.size, 0, .iface 3 (.int .i64 (n : Int)), rfl, by simp, by rw [cell_of_row _ _ _ _ _ _ (heap_alloc_new w _)]; rfl, fun x hx => by simp at hx, .inl ⟨rfl, rfl⟩⟩
  · rintro e w' ⟨hb, h⟩
    have hb' : Below w.heap.size w w' := (below_alloc' w _).trans (hb.mono (below_alloc' w _).size)
    rcases h with ⟨h1, v, h2, h3⟩ | ⟨h1, _⟩
    · refine ⟨v, h2, ?_, hb'⟩
      have e1 : C8.Cd.enc [⟨false, (n : Int), []⟩] = six n := by simp [C8.Cd.enc, C8.Cd.one, six]
      rw [e1, six_length] at h3
      exact own_older h3 (below_alloc' w _).size
    · exfalso
      apply h1
      simp [C8.Cd.err, C8.Cd.wrong]
      omega
theorem put2p (w : World) (a b : Int) : C8.PartsIs (w.alloc (.cells #[.iface 3 (.int .i64 a), .iface 3 (.int .i64 b)] 20)) (w.alloc (.cells #[.iface 3 (.int .i64 a), .iface 3 (.int .i64 b)] 20)).heap.size (some ⟨w.heap.size, 0, none⟩) [⟨false, a, []⟩, ⟨false, b, []⟩] := by
  intro j hj
  have hj' : j < 2 := by simpa using hj
  obtain rfl | rfl : j = 0 ∨ j = 1 := by omega
  · exact ⟨w.heap.size, 0, .iface 3 (.int .i64 a), rfl, by simp, by rw [cell_of_row _ _ _ _ _ _ (heap_alloc_new w _)]; rfl, fun x hx => by simp at hx, .inl ⟨rfl, rfl⟩⟩
  · exact ⟨w.heap.size, 0, .iface 3 (.int .i64 b), rfl, by simp, by rw [cell_of_row _ _ _ _ _ _ (heap_alloc_new w _)]; rfl, fun x hx => by simp at hx, .inl ⟨rfl, rfl⟩⟩
theorem put2 (w : World) (a b : Nat) (ha : a ≤ 1099511627776) (hb0 : b ≤ 1099511627776) : Calls Tryz.prog 38 #[.slice (some ⟨w.heap.size, 0, none⟩) 2 2] (w.alloc (.cells #[.iface 3 (.int .i64 (a : Int)), .iface 3 (.int .i64 (b : Int))] 20)) fun e w' => ∃ v, e = .returned (.tuple #[v, .int .i64 0]) ∧ w'.ownsRow w.heap.size 5 1 v 12 (ints .u8 (non a b)) ∧ Below w.heap.size w w' := by
  refine (C8.Put_any [⟨false, a, []⟩, ⟨false, b, []⟩] (some ⟨w.heap.size, 0, none⟩) 2 _ (by simp) (put2p w a b)).mono ?_
  rintro e w' ⟨hb, h⟩
  have hb' : Below w.heap.size w w' := (below_alloc' w _).trans (hb.mono (below_alloc' w _).size)
  rcases h with ⟨h1, v, h2, h3⟩ | ⟨h1, _⟩
  · refine ⟨v, h2, ?_, hb'⟩
    have e1 : C8.Cd.enc [⟨false, (a : Int), []⟩, ⟨false, (b : Int), []⟩] = non a b := by simp [C8.Cd.enc, C8.Cd.one, six, non]
    rw [e1, non_length] at h3
    exact own_older h3 (below_alloc' w _).size
  · exfalso
    apply h1
    have e1 : ¬ (((a : Int) < 0) ∨ 1099511627776 < (a : Int)) := by omega
    have e2 : ¬ (((b : Int) < 0) ∨ 1099511627776 < (b : Int)) := by omega
    simp only [C8.Cd.err, C8.Cd.wrong, Bool.false_eq_true, if_false, if_neg e1, if_neg e2]
    simp
theorem put2_bad (w : World) (a b : Int) (h : a < 0 ∨ 1099511627776 < a ∨ b < 0 ∨ 1099511627776 < b) : Calls Tryz.prog 38 #[.slice (some ⟨w.heap.size, 0, none⟩) 2 2] (w.alloc (.cells #[.iface 3 (.int .i64 a), .iface 3 (.int .i64 b)] 20)) fun e w' => e = .returned (.tuple #[.slice none 0 0, .int .i64 12]) ∧ Below w.heap.size w w' := by
  have e1 : C8.Cd.err [⟨false, a, []⟩, ⟨false, b, []⟩] = 12 := by
    by_cases ha : a < 0 ∨ 1099511627776 < a
    · simp only [C8.Cd.err, C8.Cd.wrong, Bool.false_eq_true, if_false, if_pos ha]
      simp
    · have hb : b < 0 ∨ 1099511627776 < b := by omega
      simp only [C8.Cd.err, C8.Cd.wrong, Bool.false_eq_true, if_false, if_neg ha, if_pos hb]
      simp
  refine (C8.Put_any [⟨false, a, []⟩, ⟨false, b, []⟩] (some ⟨w.heap.size, 0, none⟩) 2 _ (by simp) (put2p w a b)).mono ?_
  rintro e w' ⟨hb, h⟩
  have hb' : Below w.heap.size w w' := (below_alloc' w _).trans (hb.mono (below_alloc' w _).size)
  rcases h with ⟨h1, _⟩ | ⟨_, rfl⟩
  · rw [e1] at h1
    omega
  · rw [e1]
    exact ⟨rfl, hb'⟩
theorem Nonce_big (w : World) (a b : Int) (h : 4294967295 < a) : Calls Tryz.prog 18 #[.int .i64 a, .int .i64 b] w fun e w' => e = .returned (.tuple #[.slice none 0 0, .int .i64 12]) ∧ Below w.heap.size w w' := by
  go_enter Tryz.func18, Tryz.ntmps18
  go_wp2_with fail
  go_ret2
  exact ⟨rfl, Below.refl _ _⟩
theorem Nonce_bad (w : World) (a b : Int) (h : ¬ (0 ≤ a ∧ a ≤ 4294967295 ∧ 0 ≤ b ∧ b ≤ 1099511627776)) : Calls Tryz.prog 18 #[.int .i64 a, .int .i64 b] w fun e w' => e = .returned (.tuple #[.slice none 0 0, .int .i64 12]) ∧ Below w.heap.size w w' := by
  by_cases h0 : 4294967295 < a
  · exact Nonce_big w a b h0
  · have HP : Hid (Calls Tryz.prog 38 #[.slice (some ⟨w.heap.size, 0, none⟩) 2 2] (w.alloc (.cells #[.iface 3 (.int .i64 a), .iface 3 (.int .i64 b)] 20)) fun e w' => e = .returned (.tuple #[.slice none 0 0, .int .i64 12]) ∧ Below w.heap.size w w') := put2_bad w a b (by omega)
    clear h
    go_enter Tryz.func18, Tryz.ntmps18
    go_wp2_with fail
    refine HP.out.mono ?_
    rintro e w1 ⟨rfl, hb⟩
    have HB : Hid (Below w.heap.size w w1) := hb
    clear hb HP
    go_wp2_with fail
    go_ret2
    exact ⟨rfl, HB.out⟩
theorem Nonce_ok (w : World) (a b : Nat) (ha : a ≤ 4294967295) (hb0 : b ≤ 1099511627776) : Calls Tryz.prog 18 #[.int .i64 (a : Int), .int .i64 (b : Int)] w fun e w' => ∃ v, e = .returned (.tuple #[v, .int .i64 0]) ∧ w'.ownsRow w.heap.size 5 1 v 12 (ints .u8 (non a b)) ∧ Below w.heap.size w w' := by
  have HP : Hid (Calls Tryz.prog 38 #[.slice (some ⟨w.heap.size, 0, none⟩) 2 2] (w.alloc (.cells #[.iface 3 (.int .i64 (a : Int)), .iface 3 (.int .i64 (b : Int))] 20)) fun e w' => ∃ v, e = .returned (.tuple #[v, .int .i64 0]) ∧ w'.ownsRow w.heap.size 5 1 v 12 (ints .u8 (non a b)) ∧ Below w.heap.size w w') := put2 w a b (by omega) hb0
  have h0 : ¬ (4294967295 : Int) < (a : Int) := by omega
  clear ha hb0
  go_enter Tryz.func18, Tryz.ntmps18
  go_wp2_with fail
  refine HP.out.mono ?_
  rintro e w1 ⟨v, rfl, ho, hb⟩
  have HO : Hid (w1.ownsRow w.heap.size 5 1 v 12 (ints .u8 (non a b)) ∧ Below w.heap.size w w1) := ⟨ho, hb⟩
  clear ho hb HP
  go_wp2_with fail
  go_ret2
  exact ⟨_, rfl, HO.out⟩
set_option maxHeartbeats 400000 in
theorem clone_any {l : List Nat} (v : Value) (w : World) (hv : Src w v l) (hl : l.length ≤ 50000) :
    Calls Tryz.prog 37 #[v] w fun e w' => ∃ u, e = .returned u ∧ w'.ownsRow w.heap.size 5 1 u l.length (ints .u8 l) ∧ Below w.heap.size w w' := by
  have HV : Hid (Src w v l) := hv
  have HL : Hid (l.length ≤ 50000) := hl
  have key : ∀ ad n c, v = .slice (some ad) n c → Calls Tryz.prog 37 #[v] w fun e w' => ∃ u, e = .returned u ∧ w'.ownsRow w.heap.size 5 1 u l.length (ints .u8 l) ∧ Below w.heap.size w w' := by
    intro ad n c e
    subst e
    clear hv hl
    have hnil : (binOp .eql 22 (.slice (some ad) n c) (.slice none 0 0)).run Tryz.prog w = .ok (.bool false) w := Lib.run_eql_slice_nil w 22 5 (some ad) n c 0 0 Tryz.underlying22
    go_enter Tryz.func37, Tryz.ntmps37
    go_wp2_with (first | with_reducible (refine stop_builtin .append ?_))
    refine Stop.go ?_
    have hb5 : Below w.heap.size w (w.alloc (.cells #[] 5)) := (Below.refl _ _).alloc (Nat.le_refl _) _
    have he : (w.alloc (.cells #[] 5)).ownsRow w.heap.size 5 1 (.slice (some ⟨w.heap.size, 0, none⟩) 0 0) 0 (ints .u8 []) :=
      ⟨rfl, .inr ⟨w.heap.size, 0, #[], rfl, Nat.le_refl _, heap_alloc_new w _, Nat.le_refl _, by unfold maxLen; decide, rfl, rfl⟩⟩
    refine law_append_src w.heap.size _ 0 [] _ l rfl rfl he (HV.out.below hb5) (by have := HL.out; omega) (by simp) ?_
    intro u w1 ho hg
    have HB : Hid (Below w.heap.size w w1) := hb5.trans (below_append he hg (by simp))
    have HO : Hid (w1.ownsRow w.heap.size 5 1 u (0 + l.length) (ints .u8 ([] ++ l))) := ho
    clear ho hg hb5 he
    go_wp2_with fail
    go_ret
    exact ⟨_, rfl, by have := HO.out; rw [Nat.zero_add] at this; exact this, HB.out⟩
  rcases hv.2 with ⟨rfl, rfl⟩ | ⟨ad, c, rfl, rfl⟩ | ⟨b, o, c, rfl, _⟩
  · clear key hv hl
    have hnil : (binOp .eql 22 (.slice none 0 0) (.slice none 0 0)).run Tryz.prog w = .ok (.bool true) w := Lib.run_eql_slice_nil w 22 5 none 0 0 0 0 Tryz.underlying22
    go_enter Tryz.func37, Tryz.ntmps37
    go_wp2_with fail
    go_ret
    exact ⟨_, rfl, own_none _ _ _ _, Below.refl _ _⟩
  · exact key _ _ _ rfl
  · exact key _ _ _ rfl
set_option maxHeartbeats 1000000 in
theorem Code_two (k l1 l2 : List Nat) (g o c : Nat) (kv v u : Value) (p q m x : Nat) (L : List Su.Thing) (w : World) (h : SuIs w p q m x L) (hk : Src w kv k) (hc : w.cell? ⟨g, o, none⟩ = some v) (hc2 : w.cell? ⟨g, o + 1, none⟩ = some u) (hv : Src w v l1) (hu : Src w u l2) (hcp : 2 ≤ c) (hl : l1.length ≤ 50000) (hl2 : l2.length ≤ 50000) (hL : L.length < 1000000) :
    Calls Tryz.prog 43 #[.pointer (some ⟨p, 0, none⟩), kv, .slice (some ⟨g, o, none⟩) 2 c] w fun e w' => ∃ v, e = .returned v ∧ w'.ownsRow w.heap.size 5 1 v 32 (ints .u8 (Su.sign 77 (Su.num L 77 k (l1 ++ l2)))) ∧ SuIs w' p q m x (Su.add L 77 k (l1 ++ l2)) ∧ Only [p, m] w w' := by
  have hsm : ∀ y ∈ l1 ++ l2, y < 256 := fun y hy => (List.mem_append.1 hy).elim (hv.small y) (hu.small y)
  have HJ : Hid (∀ n, Calls Tryz.prog 61 #[.slice (some ⟨g, o, none⟩) 2 c] (w.drewN n) fun e w' => e = .returned (.string (strB (l1 ++ l2))) ∧ Below w.heap.size w w') := fun n =>
    (joined_two g o c v u (w.drewN n) hc hc2 (hv.below (below_drewN n _ _)) (hu.below (below_drewN n _ _)) hcp hl hl2).mono (fun _ _ ⟨h1, h2⟩ => ⟨h1, (below_drewN n w w.heap.size).trans h2⟩)
  have HK : Hid (∀ w1, Below w.heap.size w w1 → (convert 22 9 kv).run Tryz.prog w1 = .ok (.string (strB k)) w1) := fun w1 hb => conv_src (hk.below hb)
  have HG : Hid (∀ w1, Below w.heap.size w w1 → Calls Tryz.prog 60 #[.pointer (some ⟨p, 0, none⟩), thingV 77 k (l1 ++ l2)] w1 fun e w' => ∃ v, e = .returned v ∧ w'.ownsRow w1.heap.size 5 1 v 32 (ints .u8 (Su.sign 77 (Su.num L 77 k (l1 ++ l2)))) ∧ SuIs w' p q m x (Su.add L 77 k (l1 ++ l2)) ∧ Only [p, m] w1 w') := fun w1 hb => signOf_any 77 k (l1 ++ l2) p q m x L w1 (h.below hb) (.inr rfl) hk.small hsm hL
  have hcv := HK.out w.drew (below_drewN 1 _ _)
  obtain ⟨_, _, c2, _⟩ := cells3 h.box
  obtain ⟨pk, ck, rfl, _⟩ := hk.slice
  clear h hc hc2 hv hu hl hl2 hk hsm
  generalize k.length = kl at *
  generalize l1 ++ l2 = l at *
  go_enter Tryz.func43, Tryz.ntmps43
  go_wp2_with fail
  go_region_with ((first
    | (go_at_call 61; refine (HJ.out 1).mono ?_; rintro e w1 ⟨rfl, hb1⟩; have hcv1 := HK.out w1 hb1; have HB1 : Hid (Below w.heap.size w w1) := hb1; clear hb1)
    | (go_at_call 60; refine (HG.out _ HB1.out).mono ?_; rintro e w2 ⟨u, rfl, ho, hs, hn⟩; have HO : Hid (w2.ownsRow w.heap.size 5 1 u 32 (ints .u8 (Su.sign 77 (Su.num L 77 k l)))) := own_older ho HB1.out.size; have HS : Hid (SuIs w2 p q m x (Su.add L 77 k l)) := hs; have HN : Hid (Only [p, m] w w2) := (Only.of_below HB1.out _).trans hn; clear ho hs hn)))
  all_goals
    go_wp2_with fail
    go_ret
    exact ⟨_, rfl, HO.out, HS.out, HN.out⟩
end Go.Proofs.YtagdlpodpokmmaaGreatDoor.S7
/- Keys of ring, whatever the suite: keyOf, personKey, Member, Writer, lock, Wrap, Unwrap. -/
namespace Go.Proofs.YtagdlpodpokmmaaGreatDoor.S7
open Go.RowKit
def memB : List Nat := [109, 101, 109, 98, 101, 114]
def wriB : List Nat := [119, 114, 105, 116, 101, 114]
def epoB : List Nat := [101, 112, 111, 99, 104]
def wraB : List Nat := [119, 114, 97, 112]
theorem memS : (⟨#[109, 101, 109, 98, 101, 114]⟩ : ByteArray) = strB memB := by rfl
theorem wriS : (⟨#[119, 114, 105, 116, 101, 114]⟩ : ByteArray) = strB wriB := by rfl
theorem epoS : (⟨#[101, 112, 111, 99, 104]⟩ : ByteArray) = strB epoB := by rfl
/-- What is turned: these blocks alone, nothing below a bound, and of what was there blocks of these types alone. -/
structure Fr (bs : List Nat) (ts : List (Option TypeId)) (B : Nat) (w w' : World) : Prop where
  only : Only bs w w'
  kx : Kx ts B w w'
section
variable {bs : List Nat} {ts : List (Option TypeId)} {B : Nat} {w w' w'' : World}
theorem Fr.trans (h : Fr bs ts B w w') (k : Fr bs ts B w' w'') : Fr bs ts B w w'' := ⟨h.only.trans k.only, h.kx.trans k.kx⟩
theorem Fr.of_below (h : Below w.heap.size w w') (hB : B ≤ w.heap.size) : Fr bs ts B w w' := ⟨Only.of_below h _, Kx.of_below h hB⟩
theorem Fr.size (h : Fr bs ts B w w') : w.heap.size ≤ w'.heap.size := h.only.size
end
section
variable {bs : List Nat} {ts : List (Option TypeId)} {B : Nat} {w : World} {I : World → Prop} {r : List Nat} {p : Nat} {kv : Value}
set_option maxHeartbeats 1000000 in
theorem keyOf_any (sl : List Nat) (n : Nat) (hB : B ≤ w.heap.size) (hn : n ≤ 1099511627776) (hs : ∀ x ∈ sl, x < 256)
    (hcode : ∀ w1 g a1 a2, Src w1 a1 sl → Src w1 a2 (six n) → w1.cell? ⟨g, 0, none⟩ = some a1 → w1.cell? ⟨g, 1, none⟩ = some a2 → Below w.heap.size w w1 → Calls Tryz.prog 43 #[.pointer (some ⟨p, 0, none⟩), kv, .slice (some ⟨g, 0, none⟩) 2 2] w1 fun e w' => ∃ u, e = .returned u ∧ w'.ownsRow w1.heap.size 5 1 u 32 (ints .u8 r) ∧ I w' ∧ Fr bs ts B w1 w') :
    Calls Tryz.prog 24 #[.pointer (some ⟨p, 0, none⟩), kv, .string (strB sl), .int .i64 (n : Int)] w fun e w' => ∃ u, e = .returned u ∧ w'.ownsRow w.heap.size 5 1 u 32 (ints .u8 r) ∧ I w' ∧ Fr bs ts B w w' := by
  have HN : Hid (n ≤ 1099511627776) := hn
  have HB : Hid (B ≤ w.heap.size) := hB
  have HS : Hid (∀ x ∈ sl, x < 256) := hs
  have HC : Hid (∀ w1 g a1 a2, Src w1 a1 sl → Src w1 a2 (six n) → w1.cell? ⟨g, 0, none⟩ = some a1 → w1.cell? ⟨g, 1, none⟩ = some a2 → Below w.heap.size w w1 → Calls Tryz.prog 43 #[.pointer (some ⟨p, 0, none⟩), kv, .slice (some ⟨g, 0, none⟩) 2 2] w1 fun e w' => ∃ u, e = .returned u ∧ w'.ownsRow w1.heap.size 5 1 u 32 (ints .u8 r) ∧ I w' ∧ Fr bs ts B w1 w') := hcode
  clear hcode hn hB hs
  go_enter Tryz.func24, Tryz.ntmps24
  go_wp2_with fail
  refine (put1 w n HN.out).mono ?_
  rintro e w1 ⟨v, rfl, ho, hb⟩
  obtain ⟨vq, vc, rfl⟩ := own_slice ho
  obtain ⟨sv, w2, hcv, hs2, hb2, -⟩ := bytes_src w1 sl HS.out
  obtain ⟨sq, sc, rfl, -⟩ := hs2.slice
  have hba := below_alloc' w2 (.cells #[.slice sq sl.length sc, .slice vq 6 vc] 22)
  have hh := heap_alloc_new w2 (.cells #[.slice sq sl.length sc, .slice vq 6 vc] 22)
  have hW : Below w.heap.size w (w2.alloc (.cells #[.slice sq sl.length sc, .slice vq 6 vc] 22)) := (hb.trans (hb2.mono hb.size)).trans (hba.mono (Nat.le_trans hb.size hb2.size))
  have HCC : Hid (Calls Tryz.prog 43 #[.pointer (some ⟨p, 0, none⟩), kv, .slice (some ⟨w2.heap.size, 0, none⟩) 2 2] (w2.alloc (.cells #[.slice sq sl.length sc, .slice vq 6 vc] 22)) fun e w' => ∃ u, e = .returned u ∧ w'.ownsRow w.heap.size 5 1 u 32 (ints .u8 r) ∧ I w' ∧ Fr bs ts B w w') := by
    refine (HC.out _ w2.heap.size _ _ (hs2.below hba) (((Src.own (six_small n) ho).below hb2).below hba) (by rw [cell_of_row _ _ _ _ _ _ hh]; rfl) (by rw [cell_of_row _ _ _ _ _ _ hh]; rfl) hW).mono ?_
    rintro e w' ⟨u, rfl, h1, h2, h3⟩
    exact ⟨u, rfl, own_older h1 hW.size, h2, (Fr.of_below hW HB.out).trans h3⟩
  clear hs2 hb2 ho hb hba hh hW HC HN HB HS
  generalize sl.length = ln at *
  go_wp2_with fail
  refine HCC.out.mono ?_
  rintro e w3 ⟨u, rfl, h1, h2, h3⟩
  have HZ : Hid (w3.ownsRow w.heap.size 5 1 u 32 (ints .u8 r) ∧ I w3 ∧ Fr bs ts B w w3) := ⟨h1, h2, h3⟩
  clear h1 h2 h3 HCC hcv
  go_wp2_with fail
  go_ret
  exact ⟨_, rfl, HZ.out⟩
end
theorem personKey_no (w : World) (sp kv sv : Value) (n : Int) (h : ¬ (1 ≤ n ∧ n ≤ 16)) : Calls Tryz.prog 25 #[sp, kv, sv, .int .i64 n] w fun e w' => e = .returned (.tuple #[.slice none 0 0, .int .i64 12]) ∧ w' = w := by
  have HP : Hid (Calls Tryz.prog 28 #[.int .i64 n] w fun e w' => e = .returned (.bool false) ∧ w' = w) := isPerson_no w n h
  clear h
  go_enter Tryz.func25, Tryz.ntmps25
  go_wp2_with fail
  refine HP.out.mono ?_
  rintro e w1 ⟨rfl, hw⟩
  obtain rfl : w = w1 := hw.symm
  clear hw HP
  go_wp2_with fail
  go_ret2
  exact ⟨rfl, rfl⟩
theorem personKey_yes (w : World) (sp kv sv : Value) (n : Int) (h : 1 ≤ n ∧ n ≤ 16) (R : Value → World → Prop) (hk : Calls Tryz.prog 24 #[sp, kv, sv, .int .i64 n] w fun e w' => ∃ u, e = .returned u ∧ R u w') : Calls Tryz.prog 25 #[sp, kv, sv, .int .i64 n] w fun e w' => ∃ u, e = .returned (.tuple #[u, .int .i64 0]) ∧ R u w' := by
  have HP : Hid (Calls Tryz.prog 28 #[.int .i64 n] w fun e w' => e = .returned (.bool true) ∧ w' = w) := isPerson_yes w n h
  have HK : Hid (Calls Tryz.prog 24 #[sp, kv, sv, .int .i64 n] w fun e w' => ∃ u, e = .returned u ∧ R u w') := hk
  clear h hk
  go_enter Tryz.func25, Tryz.ntmps25
  go_wp2_with fail
  refine HP.out.mono ?_
  rintro e w1 ⟨rfl, hw⟩
  obtain rfl : w = w1 := hw.symm
  clear hw HP
  go_wp2_with fail
  refine HK.out.mono ?_
  rintro e w1 ⟨u, rfl, hr⟩
  have HR : Hid (R u w1) := hr
  clear hr HK
  go_wp2_with fail
  go_ret2
  exact ⟨_, rfl, HR.out⟩
theorem Member_no (w : World) (sp kv : Value) (n : Int) (h : ¬ (1 ≤ n ∧ n ≤ 16)) : Calls Tryz.prog 9 #[sp, kv, .int .i64 n] w fun e w' => e = .returned (.tuple #[.slice none 0 0, .int .i64 12]) ∧ w' = w := by
  have HP : Hid (∀ sv, Calls Tryz.prog 25 #[sp, kv, sv, .int .i64 n] w fun e w' => e = .returned (.tuple #[.slice none 0 0, .int .i64 12]) ∧ w' = w) := fun sv => personKey_no w sp kv sv n h
  clear h
  go_enter Tryz.func9, Tryz.ntmps9
  go_wp2_with fail
  refine (HP.out _).mono ?_
  rintro e w1 ⟨rfl, hw⟩
  obtain rfl : w = w1 := hw.symm
  clear hw HP
  go_wp2_with fail
  go_ret2
  exact ⟨rfl, rfl⟩
theorem Writer_no (w : World) (sp kv : Value) (n : Int) (h : ¬ (1 ≤ n ∧ n ≤ 16)) : Calls Tryz.prog 8 #[sp, kv, .int .i64 n] w fun e w' => e = .returned (.tuple #[.slice none 0 0, .int .i64 12]) ∧ w' = w := by
  have HP : Hid (∀ sv, Calls Tryz.prog 25 #[sp, kv, sv, .int .i64 n] w fun e w' => e = .returned (.tuple #[.slice none 0 0, .int .i64 12]) ∧ w' = w) := fun sv => personKey_no w sp kv sv n h
  clear h
  go_enter Tryz.func8, Tryz.ntmps8
  go_wp2_with fail
  refine (HP.out _).mono ?_
  rintro e w1 ⟨rfl, hw⟩
  obtain rfl : w = w1 := hw.symm
  clear hw HP
  go_wp2_with fail
  go_ret2
  exact ⟨rfl, rfl⟩
theorem Member_yes (w : World) (sp kv : Value) (n : Int) (h : 1 ≤ n ∧ n ≤ 16) (R : Value → World → Prop) (hk : Calls Tryz.prog 24 #[sp, kv, .string (strB memB), .int .i64 n] w fun e w' => ∃ u, e = .returned u ∧ R u w') : Calls Tryz.prog 9 #[sp, kv, .int .i64 n] w fun e w' => ∃ u, e = .returned (.tuple #[u, .int .i64 0]) ∧ R u w' := by
  have HP : Hid (Calls Tryz.prog 25 #[sp, kv, .string ⟨#[109, 101, 109, 98, 101, 114]⟩, .int .i64 n] w fun e w' => ∃ u, e = .returned (.tuple #[u, .int .i64 0]) ∧ R u w') := by rw [memS]; exact personKey_yes w sp kv _ n h R hk
  clear h hk
  go_enter Tryz.func9, Tryz.ntmps9
  go_wp2_with fail
  refine HP.out.mono ?_
  rintro e w1 ⟨u, rfl, hr⟩
  have HR : Hid (R u w1) := hr
  clear hr HP
  go_wp2_with fail
  go_ret2
  exact ⟨_, rfl, HR.out⟩
theorem Writer_yes (w : World) (sp kv : Value) (n : Int) (h : 1 ≤ n ∧ n ≤ 16) (R : Value → World → Prop) (hk : Calls Tryz.prog 24 #[sp, kv, .string (strB wriB), .int .i64 n] w fun e w' => ∃ u, e = .returned u ∧ R u w') : Calls Tryz.prog 8 #[sp, kv, .int .i64 n] w fun e w' => ∃ u, e = .returned (.tuple #[u, .int .i64 0]) ∧ R u w' := by
  have HP : Hid (Calls Tryz.prog 25 #[sp, kv, .string ⟨#[119, 114, 105, 116, 101, 114]⟩, .int .i64 n] w fun e w' => ∃ u, e = .returned (.tuple #[u, .int .i64 0]) ∧ R u w') := by rw [wriS]; exact personKey_yes w sp kv _ n h R hk
  clear h hk
  go_enter Tryz.func8, Tryz.ntmps8
  go_wp2_with fail
  refine HP.out.mono ?_
  rintro e w1 ⟨u, rfl, hr⟩
  have HR : Hid (R u w1) := hr
  clear hr HP
  go_wp2_with fail
  go_ret2
  exact ⟨_, rfl, HR.out⟩
section
variable {bs : List Nat} {ts : List (Option TypeId)} {B : Nat} {w : World} {I : World → Prop} {r : List Nat} {sp kv : Value}
set_option maxHeartbeats 1000000 in
theorem lock_any (who : Int) (ep : Nat) (hB : B ≤ w.heap.size) (h5 : some 5 ∉ ts) (hep : ep ≤ 1099511627776)
    (hk : ∀ w1, Below w.heap.size w w1 → Calls Tryz.prog 24 #[sp, kv, .string (strB memB), .int .i64 who] w1 fun e w' => ∃ u, e = .returned u ∧ w'.ownsRow w1.heap.size 5 1 u 32 (ints .u8 r) ∧ I w' ∧ Fr bs ts B w1 w') :
    Calls Tryz.prog 30 #[sp, kv, .int .i64 who, .int .i64 (ep : Int)] w fun e w' => ∃ u nv, e = .returned (.tuple #[u, nv]) ∧ w'.ownsRow w.heap.size 5 1 u 32 (ints .u8 r) ∧ By B w' nv (non 0 ep) ∧ I w' ∧ Fr bs ts B w w' := by
  have HN : Hid (Calls Tryz.prog 18 #[.int .i64 0, .int .i64 (ep : Int)] w fun e w' => ∃ v, e = .returned (.tuple #[v, .int .i64 0]) ∧ w'.ownsRow w.heap.size 5 1 v 12 (ints .u8 (non 0 ep)) ∧ Below w.heap.size w w') := Nonce_ok w 0 ep (by omega) hep
  have HB : Hid (B ≤ w.heap.size ∧ some 5 ∉ ts) := ⟨hB, h5⟩
  have HK : Hid (∀ w1, Below w.heap.size w w1 → Calls Tryz.prog 24 #[sp, kv, .string ⟨#[109, 101, 109, 98, 101, 114]⟩, .int .i64 who] w1 fun e w' => ∃ u, e = .returned u ∧ w'.ownsRow w1.heap.size 5 1 u 32 (ints .u8 r) ∧ I w' ∧ Fr bs ts B w1 w') := by rw [memS]; exact hk
  clear hB h5 hep hk
  go_enter Tryz.func30, Tryz.ntmps30
  go_wp2_with fail
  refine HN.out.mono ?_
  rintro e w1 ⟨v, rfl, ho, hb⟩
  have HO : Hid (By B w1 v (non 0 ep) ∧ Below w.heap.size w w1) := ⟨By.own (non_small 0 ep) ho, hb⟩
  clear ho hb HN
  go_wp2_with fail
  refine (HK.out w1 HO.out.2).mono ?_
  rintro e w2 ⟨u, rfl, h1, h2, h3⟩
  have HZ : Hid (w2.ownsRow w.heap.size 5 1 u 32 (ints .u8 r) ∧ By B w2 v (non 0 ep) ∧ I w2 ∧ Fr bs ts B w w2) := ⟨own_older h1 HO.out.2.size, HO.out.1.kx h3.kx HB.out.2, h2, (Fr.of_below HO.out.2 HB.out.1).trans h3⟩
  clear h1 h2 h3 HO HK HB
  go_wp2_with fail
  go_ret2
  exact ⟨_, _, rfl, HZ.out⟩
end
section
variable {bs : List Nat} {ts : List (Option TypeId)} {B : Nat} {w : World} {I : World → Prop} {r : List Nat} {sp kv : Value}
theorem Wrap_range (w : World) (sp kv tv : Value) (who ep : Int) (h : ¬ ((1 ≤ who ∧ who ≤ 16) ∧ 1 ≤ ep ∧ ep ≤ 16)) : Calls Tryz.prog 11 #[sp, kv, .int .i64 who, .int .i64 ep, tv] w fun e w' => e = .returned (.tuple #[.slice none 0 0, .int .i64 12]) ∧ w' = w := by
  by_cases h1 : 1 ≤ who ∧ who ≤ 16
  · have HP : Hid (Calls Tryz.prog 28 #[.int .i64 who] w fun e w' => e = .returned (.bool true) ∧ w' = w) := isPerson_yes w who h1
    have HL : Hid (Calls Tryz.prog 29 #[.int .i64 ep] w fun e w' => e = .returned (.bool false) ∧ w' = w) := isLater_no w ep (fun e => h ⟨h1, e⟩)
    clear h h1
    go_enter Tryz.func11, Tryz.ntmps11
    go_wp2_with fail
    refine HP.out.mono ?_
    rintro e w1 ⟨rfl, hw⟩
    obtain rfl : w = w1 := hw.symm
    clear hw
    go_wp2_with fail
    refine HL.out.mono ?_
    rintro e w1 ⟨rfl, hw⟩
    obtain rfl : w = w1 := hw.symm
    clear hw
    go_wp2_with fail
    go_ret2
    exact ⟨rfl, rfl⟩
  · have HP : Hid (Calls Tryz.prog 28 #[.int .i64 who] w fun e w' => e = .returned (.bool false) ∧ w' = w) := isPerson_no w who h1
    clear h h1
    go_enter Tryz.func11, Tryz.ntmps11
    go_wp2_with fail
    refine HP.out.mono ?_
    rintro e w1 ⟨rfl, hw⟩
    obtain rfl : w = w1 := hw.symm
    clear hw
    go_wp2_with fail
    go_ret2
    exact ⟨rfl, rfl⟩
theorem Wrap_size (w : World) (sp kv : Value) (q : Option Addr) (n c : Nat) (who ep : Int) (h : (1 ≤ who ∧ who ≤ 16) ∧ 1 ≤ ep ∧ ep ≤ 16) (hn : n ≠ 32) : Calls Tryz.prog 11 #[sp, kv, .int .i64 who, .int .i64 ep, .slice q n c] w fun e w' => e = .returned (.tuple #[.slice none 0 0, .int .i64 11]) ∧ w' = w := by
  have HP : Hid (Calls Tryz.prog 28 #[.int .i64 who] w fun e w' => e = .returned (.bool true) ∧ w' = w) := isPerson_yes w who h.1
  have HL : Hid (Calls Tryz.prog 29 #[.int .i64 ep] w fun e w' => e = .returned (.bool true) ∧ w' = w) := isLater_yes w ep h.2
  have h1 : ((n : Int) == 32) = false := by rw [beq_eq_false_iff_ne]; omega
  clear h hn
  go_enter Tryz.func11, Tryz.ntmps11
  go_wp2_with fail
  refine HP.out.mono ?_
  rintro e w1 ⟨rfl, hw⟩
  obtain rfl : w = w1 := hw.symm
  clear hw
  go_wp2_with fail
  refine HL.out.mono ?_
  rintro e w1 ⟨rfl, hw⟩
  obtain rfl : w = w1 := hw.symm
  clear hw
  go_wp2_with fail
  go_ret2
  exact ⟨rfl, rfl⟩
theorem wrap_lit (w : World) : Src (w.alloc (.cells #[.int .u8 119, .int .u8 114, .int .u8 97, .int .u8 112] 5 (4, 5))) (.slice (some ⟨w.heap.size, 0, none⟩) 4 4) wraB ∧ By w.heap.size (w.alloc (.cells #[.int .u8 119, .int .u8 114, .int .u8 97, .int .u8 112] 5 (4, 5))) (.slice (some ⟨w.heap.size, 0, none⟩) 4 4) wraB := by
  have h0 : (w.alloc (.cells #[.int .u8 119, .int .u8 114, .int .u8 97, .int .u8 112] 5 (4, 5))).heap[w.heap.size]? = some (.cells #[.int .u8 119, .int .u8 114, .int .u8 97, .int .u8 112] 5 (4, 5)) := heap_alloc_new w _
  have hr := rangeAt_of_row (t := 5) (fr := (4, 5)) h0
  exact ⟨Src.row (by decide) (by decide) hr rfl, by decide, .inr (.inr ⟨w.heap.size, 0, 4, rfl, by decide, hr, .inr ⟨_, _, h0⟩⟩)⟩
set_option maxHeartbeats 2000000 in
theorem Wrap_ok (who : Int) (ep : Nat) (q : Option Addr) (c : Nat) (t : List Nat) (hB : B ≤ w.heap.size) (h5 : some 5 ∉ ts) (hw : 1 ≤ who ∧ who ≤ 16) (hep : 1 ≤ ep ∧ ep ≤ 16) (ht : By B w (.slice q 32 c) t) (R : Value → World → Prop)
    (hk : ∀ w1, Below w.heap.size w w1 → Calls Tryz.prog 24 #[sp, kv, .string (strB memB), .int .i64 who] w1 fun e w' => ∃ u, e = .returned u ∧ w'.ownsRow w1.heap.size 5 1 u 32 (ints .u8 r) ∧ I w' ∧ Fr bs ts B w1 w')
    (hr : ∀ x ∈ r, x < 256) (hI : ∀ w1 w2, I w1 → Below w1.heap.size w1 w2 → I w2)
    (hseal : ∀ w1 u nv ov, I w1 → By B w1 u r → By B w1 nv (non 0 ep) → By B w1 ov wraB → By B w1 (.slice q 32 c) t → B ≤ w1.heap.size → Calls Tryz.prog 31 #[sp, u, nv, ov, .slice q 32 c] w1 fun e w' => ∃ v, e = .returned (.tuple #[v, .int .i64 0]) ∧ R v w' ∧ Fr bs ts B w1 w') :
    Calls Tryz.prog 11 #[sp, kv, .int .i64 who, .int .i64 (ep : Int), .slice q 32 c] w fun e w' => ∃ v, e = .returned (.tuple #[v, .int .i64 0]) ∧ R v w' ∧ Fr bs ts B w w' := by
  have HP : Hid (Calls Tryz.prog 28 #[.int .i64 who] w fun e w' => e = .returned (.bool true) ∧ w' = w) := isPerson_yes w who hw
  have HL : Hid (Calls Tryz.prog 29 #[.int .i64 (ep : Int)] w fun e w' => e = .returned (.bool true) ∧ w' = w) := isLater_yes w ep (by omega)
  have HK : Hid (Calls Tryz.prog 30 #[sp, kv, .int .i64 who, .int .i64 (ep : Int)] w fun e w' => ∃ u nv, e = .returned (.tuple #[u, nv]) ∧ w'.ownsRow w.heap.size 5 1 u 32 (ints .u8 r) ∧ By B w' nv (non 0 ep) ∧ I w' ∧ Fr bs ts B w w') := lock_any who ep hB h5 (by omega) hk
  have HT : Hid (By B w (.slice q 32 c) t ∧ some 5 ∉ ts ∧ (∀ x ∈ r, x < 256) ∧ B ≤ w.heap.size ∧ ∀ w1 w2, I w1 → Below w1.heap.size w1 w2 → I w2) := ⟨ht, h5, hr, hB, hI⟩
  have HS : Hid (∀ w1 u nv ov, I w1 → By B w1 u r → By B w1 nv (non 0 ep) → By B w1 ov wraB → By B w1 (.slice q 32 c) t → B ≤ w1.heap.size → Calls Tryz.prog 31 #[sp, u, nv, ov, .slice q 32 c] w1 fun e w' => ∃ v, e = .returned (.tuple #[v, .int .i64 0]) ∧ R v w' ∧ Fr bs ts B w1 w') := hseal
  clear hB h5 hw hep ht hk hr hI hseal
  go_enter Tryz.func11, Tryz.ntmps11
  go_wp2_with fail
  refine HP.out.mono ?_
  rintro e w1 ⟨rfl, hw⟩
  obtain rfl : w = w1 := hw.symm
  clear hw
  go_wp2_with fail
  refine HL.out.mono ?_
  rintro e w1 ⟨rfl, hw⟩
  obtain rfl : w = w1 := hw.symm
  clear hw
  go_wp2_with fail
  refine HK.out.mono ?_
  rintro e w1 ⟨u, nv, rfl, h1, h2, h3, h4⟩
  have hcv := Lib.run_convert_bytes_const (P := Tryz.prog) w1 22 5 #[.int .u8 119, .int .u8 114, .int .u8 97, .int .u8 112] 4 4 Tryz.underlying22 Tryz.underlying5
  have hb2 : Below w1.heap.size w1 (w1.alloc (.cells #[.int .u8 119, .int .u8 114, .int .u8 97, .int .u8 112] 5 (4, 5))) := below_alloc' w1 _
  have hl := (wrap_lit w1).2
  generalize hW2 : w1.alloc (.cells #[.int .u8 119, .int .u8 114, .int .u8 97, .int .u8 112] 5 (4, 5)) = w2 at hcv hb2 hl
  have hB1 : B ≤ w1.heap.size := Nat.le_trans HT.out.2.2.2.1 h4.size
  have hlB : By B w2 (.slice (some ⟨w1.heap.size, 0, none⟩) 4 4) wraB := by
    obtain ⟨hs, h | h | ⟨b, o, c, e1, e2, e3, e4 | e4⟩⟩ := hl
    · exact ⟨hs, .inl h⟩
    · exact ⟨hs, .inr (.inl h)⟩
    · cases e1; omega
    · exact ⟨hs, .inr (.inr ⟨b, o, c, e1, e2, e3, .inr e4⟩)⟩
  have HC : Hid (Calls Tryz.prog 31 #[sp, u, nv, .slice (some ⟨w1.heap.size, 0, none⟩) 4 4, .slice q 32 c] w2 fun e w' => ∃ v, e = .returned (.tuple #[v, .int .i64 0]) ∧ R v w' ∧ Fr bs ts B w w') := by
    refine (HS.out w2 u nv _ (HT.out.2.2.2.2 _ _ h3 hb2) ((By.own (B := B) HT.out.2.2.1 h1).below hb2) (h2.below hb2) hlB ((HT.out.1.kx h4.kx HT.out.2.1).below hb2) (Nat.le_trans hB1 hb2.size)).mono ?_
    rintro e w' ⟨v, rfl, k1, k2⟩
    exact ⟨v, rfl, k1, (h4.trans (Fr.of_below hb2 hB1)).trans k2⟩
  clear h1 h2 h3 h4 hb2 hl hB1 hlB hW2 HS HT HK HP HL
  go_wp2_with fail
  refine HC.out.mono ?_
  rintro e w3 ⟨v, rfl, k1, k2⟩
  have HZ : Hid (R v w3 ∧ Fr bs ts B w w3) := ⟨k1, k2⟩
  clear k1 k2 HC hcv
  go_wp2_with fail
  go_ret2
  exact ⟨_, rfl, HZ.out⟩
end
end Go.Proofs.YtagdlpodpokmmaaGreatDoor.S7
/- Unwrap, whatever the suite. -/
namespace Go.Proofs.YtagdlpodpokmmaaGreatDoor.S7
open Go.RowKit
theorem Unwrap_range (w : World) (sp kv tv : Value) (who ep : Int) (h : ¬ ((1 ≤ who ∧ who ≤ 16) ∧ 1 ≤ ep ∧ ep ≤ 16)) : Calls Tryz.prog 13 #[sp, kv, .int .i64 who, .int .i64 ep, tv] w fun e w' => e = .returned (.tuple #[.slice none 0 0, .int .i64 12]) ∧ w' = w := by
  by_cases h1 : 1 ≤ who ∧ who ≤ 16
  · have HP : Hid (Calls Tryz.prog 28 #[.int .i64 who] w fun e w' => e = .returned (.bool true) ∧ w' = w) := isPerson_yes w who h1
    have HL : Hid (Calls Tryz.prog 29 #[.int .i64 ep] w fun e w' => e = .returned (.bool false) ∧ w' = w) := isLater_no w ep (fun e => h ⟨h1, e⟩)
    clear h h1
    go_enter Tryz.func13, Tryz.ntmps13
    go_wp2_with fail
    refine HP.out.mono ?_
    rintro e w1 ⟨rfl, hw⟩
    obtain rfl : w = w1 := hw.symm
    clear hw
    go_wp2_with fail
    refine HL.out.mono ?_
    rintro e w1 ⟨rfl, hw⟩
    obtain rfl : w = w1 := hw.symm
    clear hw
    go_wp2_with fail
    go_ret2
    exact ⟨rfl, rfl⟩
  · have HP : Hid (Calls Tryz.prog 28 #[.int .i64 who] w fun e w' => e = .returned (.bool false) ∧ w' = w) := isPerson_no w who h1
    clear h h1
    go_enter Tryz.func13, Tryz.ntmps13
    go_wp2_with fail
    refine HP.out.mono ?_
    rintro e w1 ⟨rfl, hw⟩
    obtain rfl : w = w1 := hw.symm
    clear hw
    go_wp2_with fail
    go_ret2
    exact ⟨rfl, rfl⟩
/-- A text of a key's size. -/
def un32 (r : Option (List Nat)) : Option (List Nat) := match r with
  | some t => if t.length = 32 then some t else none
  | none => none
section
variable {bs : List Nat} {ts : List (Option TypeId)} {B : Nat} {w : World} {I : World → Prop} {r : List Nat} {sp kv bv : Value}
set_option maxHeartbeats 2000000 in
theorem Unwrap_any (who : Int) (ep : Nat) (b : List Nat) (rr : Option (List Nat)) (hB : B ≤ w.heap.size) (h5 : some 5 ∉ ts) (hw : 1 ≤ who ∧ who ≤ 16) (hep : 1 ≤ ep ∧ ep ≤ 16) (hb : By B w bv b)
    (hk : ∀ w1, Below w.heap.size w w1 → Calls Tryz.prog 24 #[sp, kv, .string (strB memB), .int .i64 who] w1 fun e w' => ∃ u, e = .returned u ∧ w'.ownsRow w1.heap.size 5 1 u 32 (ints .u8 r) ∧ I w' ∧ Fr bs ts B w1 w')
    (hr : ∀ x ∈ r, x < 256) (hI : ∀ w1 w2, I w1 → Below w1.heap.size w1 w2 → I w2)
    (hopen : ∀ w1 u nv ov, I w1 → By B w1 u r → By B w1 nv (non 0 ep) → By B w1 ov wraB → By B w1 bv b → B ≤ w1.heap.size → Calls Tryz.prog 34 #[sp, u, nv, ov, bv] w1 fun e w' => OpenSays w1.heap.size rr e w' ∧ Below w1.heap.size w1 w') :
    Calls Tryz.prog 13 #[sp, kv, .int .i64 who, .int .i64 (ep : Int), bv] w fun e w' => OpenSays w.heap.size (un32 rr) e w' ∧ I w' ∧ Fr bs ts B w w' := by
  have HP : Hid (Calls Tryz.prog 28 #[.int .i64 who] w fun e w' => e = .returned (.bool true) ∧ w' = w) := isPerson_yes w who hw
  have HL : Hid (Calls Tryz.prog 29 #[.int .i64 (ep : Int)] w fun e w' => e = .returned (.bool true) ∧ w' = w) := isLater_yes w ep (by omega)
  have HK : Hid (Calls Tryz.prog 30 #[sp, kv, .int .i64 who, .int .i64 (ep : Int)] w fun e w' => ∃ u nv, e = .returned (.tuple #[u, nv]) ∧ w'.ownsRow w.heap.size 5 1 u 32 (ints .u8 r) ∧ By B w' nv (non 0 ep) ∧ I w' ∧ Fr bs ts B w w') := lock_any who ep hB h5 (by omega) hk
  have HT : Hid (By B w bv b ∧ some 5 ∉ ts ∧ (∀ x ∈ r, x < 256) ∧ B ≤ w.heap.size ∧ ∀ w1 w2, I w1 → Below w1.heap.size w1 w2 → I w2) := ⟨hb, h5, hr, hB, hI⟩
  have HS : Hid (∀ w1 u nv ov, I w1 → By B w1 u r → By B w1 nv (non 0 ep) → By B w1 ov wraB → By B w1 bv b → B ≤ w1.heap.size → Calls Tryz.prog 34 #[sp, u, nv, ov, bv] w1 fun e w' => OpenSays w1.heap.size rr e w' ∧ Below w1.heap.size w1 w') := hopen
  clear hB h5 hw hep hb hk hr hI hopen
  go_enter Tryz.func13, Tryz.ntmps13
  go_wp2_with fail
  refine HP.out.mono ?_
  rintro e w1 ⟨rfl, hw⟩
  obtain rfl : w = w1 := hw.symm
  clear hw
  go_wp2_with fail
  refine HL.out.mono ?_
  rintro e w1 ⟨rfl, hw⟩
  obtain rfl : w = w1 := hw.symm
  clear hw
  go_wp2_with fail
  refine HK.out.mono ?_
  rintro e w1 ⟨u, nv, rfl, h1, h2, h3, h4⟩
  have hcv := Lib.run_convert_bytes_const (P := Tryz.prog) w1 22 5 #[.int .u8 119, .int .u8 114, .int .u8 97, .int .u8 112] 4 4 Tryz.underlying22 Tryz.underlying5
  have hb2 : Below w1.heap.size w1 (w1.alloc (.cells #[.int .u8 119, .int .u8 114, .int .u8 97, .int .u8 112] 5 (4, 5))) := below_alloc' w1 _
  have hl := (wrap_lit w1).2
  generalize hW2 : w1.alloc (.cells #[.int .u8 119, .int .u8 114, .int .u8 97, .int .u8 112] 5 (4, 5)) = w2 at hcv hb2 hl
  have hB1 : B ≤ w1.heap.size := Nat.le_trans HT.out.2.2.2.1 h4.size
  have hlB : By B w2 (.slice (some ⟨w1.heap.size, 0, none⟩) 4 4) wraB := by
    obtain ⟨hs, h | h | ⟨b, o, c, e1, e2, e3, e4 | e4⟩⟩ := hl
    · exact ⟨hs, .inl h⟩
    · exact ⟨hs, .inr (.inl h)⟩
    · cases e1; omega
    · exact ⟨hs, .inr (.inr ⟨b, o, c, e1, e2, e3, .inr e4⟩)⟩
  have HC : Hid (Calls Tryz.prog 34 #[sp, u, nv, .slice (some ⟨w1.heap.size, 0, none⟩) 4 4, bv] w2 fun e w' => OpenSays w.heap.size rr e w' ∧ I w' ∧ Fr bs ts B w w') := by
    refine (HS.out w2 u nv _ (HT.out.2.2.2.2 _ _ h3 hb2) ((By.own (B := B) HT.out.2.2.1 h1).below hb2) (h2.below hb2) hlB ((HT.out.1.kx h4.kx HT.out.2.1).below hb2) (Nat.le_trans hB1 hb2.size)).mono ?_
    rintro e w' ⟨k1, k2⟩
    refine ⟨?_, HT.out.2.2.2.2 _ _ (HT.out.2.2.2.2 _ _ h3 hb2) k2, (h4.trans (Fr.of_below hb2 hB1)).trans (Fr.of_below k2 (Nat.le_trans hB1 hb2.size))⟩
    cases rr with
    | none => exact k1
    | some t =>
      obtain ⟨v, e1, e2, e3⟩ := k1
      exact ⟨v, e1, e2, fun b hb => ⟨Nat.le_trans (Nat.le_trans h4.size hb2.size) (e3 b hb).1, (e3 b hb).2⟩⟩
  clear h1 h2 h3 h4 hb2 hl hB1 hlB hW2 HS HT HK HP HL
  go_wp2_with fail
  refine HC.out.mono ?_
  rintro e w3 ⟨k1, k2, k3⟩
  have HZ : Hid (I w3 ∧ Fr bs ts B w w3) := ⟨k2, k3⟩
  clear k2 k3 HC hcv
  cases rr with
  | none =>
    replace k1 : e = .returned (.tuple #[.slice none 0 0, .int .i64 20]) := k1
    subst k1
    go_wp2_with fail
    go_ret2
    exact ⟨rfl, HZ.out⟩
  | some t =>
    obtain ⟨v, rfl, hs, hv⟩ := k1
    have HV : Hid (Src w3 v t ∧ Nb w.heap.size w3 v) := ⟨hs, hv⟩
    obtain ⟨vq, vc, rfl, -⟩ := hs.slice
    clear hs hv
    by_cases h32 : t.length = 32
    · have HU : Hid (un32 (some t) = some t) := by show un32 _ = _; simp [un32, h32]
      rw [h32] at HV ⊢
      clear h32
      go_wp2_with fail
      go_ret2
      rw [HU.out]
      exact ⟨⟨_, rfl, HV.out⟩, HZ.out⟩
    · have HU : Hid (un32 (some t) = none) := by show un32 _ = _; simp [un32, h32]
      have h1 : ((t.length : Int) == 32) = false := by rw [beq_eq_false_iff_ne]; omega
      clear h32 HV
      go_wp2_with fail
      go_ret2
      rw [HU.out]
      exact ⟨rfl, HZ.out⟩
end
end Go.Proofs.YtagdlpodpokmmaaGreatDoor.S7
/- A ring in memory: has, Key, Learn, Newest, New. -/
namespace Go.Proofs.YtagdlpodpokmmaaGreatDoor.S7
open Go.RowKit
/-- A ring: its own block of seventeen cells, and what keys it has. -/
structure RgIs (B : Nat) (w : World) (r : Nat) (xs : List Value) (ks : Nat → Option (List Nat)) : Prop where
  low : B ≤ r
  box : w.heap[r]? = some (.cells xs.toArray 65 (0, 0))
  len : xs.length = 17
  no : ∀ i, i < 17 → ks i = none → xs[i]? = some (.slice none 0 0)
  yes : ∀ i l, i < 17 → ks i = some l → l.length = 32 ∧ ∃ ad c, xs[i]? = some (.slice (some ad) 32 c) ∧ By B w (.slice (some ad) 32 c) l
section
variable {B : Nat} {w w' : World} {r : Nat} {xs : List Value} {ks : Nat → Option (List Nat)} {ts : List (Option TypeId)}
theorem RgIs.lt (h : RgIs B w r xs ks) : r < w.heap.size := (Array.getElem?_eq_some_iff.1 h.box).1
theorem RgIs.cell (h : RgIs B w r xs ks) (i : Nat) : w.cell? ⟨r, i, none⟩ = xs[i]? := by
  rw [cell_of_row _ _ _ _ _ _ h.box]
  simp
theorem RgIs.froz (h : RgIs B w r xs ks) (i : Nat) : w.frozen? ⟨r, i, none⟩ = false := frozen_of_row _ _ _ _ _ h.box
theorem RgIs.below (h : RgIs B w r xs ks) (hb : Below w.heap.size w w') : RgIs B w' r xs ks :=
  ⟨h.low, (hb.block r h.lt).trans h.box, h.len, h.no, fun i l h1 h2 => by
    obtain ⟨h3, ad, c, h4, h5⟩ := h.yes i l h1 h2
    exact ⟨h3, ad, c, h4, h5.below hb⟩⟩
theorem RgIs.kx (h : RgIs B w r xs ks) (hk : Kx ts B w w') (h5 : some 5 ∉ ts) (hr : some 65 ∉ ts) : RgIs B w' r xs ks :=
  ⟨h.low, hk.row r _ h.box hr, h.len, h.no, fun i l h1 h2 => by
    obtain ⟨h3, ad, c, h4, h6⟩ := h.yes i l h1 h2
    exact ⟨h3, ad, c, h4, h6.kx hk h5⟩⟩
set_option maxHeartbeats 1000000 in
theorem has_out (w : World) (rp : Value) (i : Int) (hi : i < 0 ∨ 17 ≤ i) : Calls Tryz.prog 36 #[rp, .int .i64 i] w fun e w' => e = .returned (.bool false) ∧ w' = w := by
  by_cases h1 : 0 ≤ i
  · have h2 : ¬ i < 17 := by omega
    clear hi
    go_enter Tryz.func36, Tryz.ntmps36
    go_wp2_with fail
    go_ret
    exact ⟨rfl, rfl⟩
  · clear hi
    go_enter Tryz.func36, Tryz.ntmps36
    go_wp2_with fail
    go_ret
    exact ⟨rfl, rfl⟩
set_option maxHeartbeats 1000000 in
theorem has_no (h : RgIs B w r xs ks) (j : Nat) (hj : j < 17) (hk : ks j = none) : Calls Tryz.prog 36 #[.pointer (some ⟨r, 0, none⟩), .int .i64 (j : Int)] w fun e w' => e = .returned (.bool false) ∧ w' = w := by
  have hc : w.cell? ⟨r, j, none⟩ = some (.slice none 0 0) := (h.cell j).trans (h.no j hj hk)
  have hnil : (binOp .neq 22 (.slice none 0 0) (.slice none 0 0)).run Tryz.prog w = .ok (.bool false) w := run_neq_slice_nil_any w 22 5 none 0 0 0 0 Tryz.underlying22
  have h1 : (0 : Int) ≤ (j : Int) := by omega
  have h2 : (j : Int) < 17 := by omega
  clear h hk
  go_enter Tryz.func36, Tryz.ntmps36
  go_wp2_with fail
  go_ret
  exact ⟨rfl, rfl⟩
set_option maxHeartbeats 1000000 in
theorem has_yes (h : RgIs B w r xs ks) (j : Nat) (hj : j < 17) {l : List Nat} (hk : ks j = some l) : Calls Tryz.prog 36 #[.pointer (some ⟨r, 0, none⟩), .int .i64 (j : Int)] w fun e w' => e = .returned (.bool true) ∧ w' = w := by
  obtain ⟨_, ad, c, hx, _⟩ := h.yes j l hj hk
  have hc : w.cell? ⟨r, j, none⟩ = some (.slice (some ad) 32 c) := (h.cell j).trans hx
  have hnil : (binOp .neq 22 (.slice (some ad) 32 c) (.slice none 0 0)).run Tryz.prog w = .ok (.bool true) w := run_neq_slice_nil_any w 22 5 (some ad) 32 c 0 0 Tryz.underlying22
  have h1 : (0 : Int) ≤ (j : Int) := by omega
  have h2 : (j : Int) < 17 := by omega
  clear h hk hx
  go_enter Tryz.func36, Tryz.ntmps36
  go_wp2_with fail
  go_ret
  exact ⟨rfl, rfl⟩
theorem has_any (h : RgIs B w r xs ks) (j : Nat) (hj : j < 17) : Calls Tryz.prog 36 #[.pointer (some ⟨r, 0, none⟩), .int .i64 (j : Int)] w fun e w' => e = .returned (.bool (ks j).isSome) ∧ w' = w := by
  cases hk : ks j with
  | none => exact has_no h j hj hk
  | some l => exact has_yes h j hj hk
/-- The greatest with a key, of so many. -/
def nw (ks : Nat → Option (List Nat)) : Nat → Nat
  | 0 => 0
  | j + 1 => if (ks j).isSome = true then j else nw ks j
theorem nw_le (ks : Nat → Option (List Nat)) : ∀ j, nw ks j ≤ j
  | 0 => Nat.le_refl _
  | j + 1 => by
    unfold nw
    split
    · omega
    · exact Nat.le_trans (nw_le ks j) (Nat.le_succ _)
set_option maxHeartbeats 1000000 in
theorem Newest_any (h : RgIs B w r xs ks) : Calls Tryz.prog 20 #[.pointer (some ⟨r, 0, none⟩)] w fun e w' => e = .returned (.int .i64 (nw ks 17 : Int)) ∧ w' = w := by
  have HH : Hid (∀ j : Nat, j < 17 → Calls Tryz.prog 36 #[.pointer (some ⟨r, 0, none⟩), .int .i64 (j : Int)] w fun e w' => e = .returned (.bool (ks j).isSome) ∧ w' = w) := fun j hj => has_any h j hj
  clear h
  go_enter Tryz.func20, Tryz.ntmps20
  go_wp2_with fail
  go_loopw [3, 5] (fun v i wr => ∃ j : Nat, j ≤ 17 ∧ i = .int .i64 j ∧ v = .int .i64 (nw ks j : Int) ∧ Hid (wr = w)) (fun _ i _ => 17 - (intOf i).toNat)
  case atStart => exact ⟨0, by omega, rfl, rfl, rfl⟩
  case round =>
    obtain ⟨j, hj, rfl, rfl, hw⟩ := hrel
    obtain rfl : w = wr := hw.out.symm
    clear hw
    have j0 : (0 : Int) ≤ (j : Int) := by omega
    by_cases hlt : j < 17
    · have j1 : (j : Int) < 17 := by omega
      have HN : Hid (nw ks (j + 1) = if (ks j).isSome = true then j else nw ks j) := rfl
      go_wp2_with fail
      refine (HH.out j hlt).mono ?_
      rintro e w1 ⟨rfl, hw⟩
      obtain rfl : w = w1 := hw.symm
      clear hw
      cases hb : (ks j).isSome with
      | true =>
        rw [hb, if_pos rfl] at HN
        clear hb
        go_wp2_with fail
        refine ⟨⟨j + 1, by omega, by simp, by rw [HN.out], trivial⟩, ?_⟩
        simp only [intOf]
        omega
      | false =>
        rw [hb, if_neg (by decide)] at HN
        clear hb
        go_wp2_with fail
        refine ⟨⟨j + 1, by omega, by simp, by rw [HN.out], trivial⟩, ?_⟩
        simp only [intOf]
        omega
    · obtain rfl : j = 17 := by omega
      clear HH
      go_wp2_with fail
      go_ret
      exact ⟨rfl, rfl⟩
theorem Key_out (w : World) (r : Nat) (i : Int) (hh : Calls Tryz.prog 36 #[.pointer (some ⟨r, 0, none⟩), .int .i64 i] w fun e w' => e = .returned (.bool false) ∧ w' = w) : Calls Tryz.prog 17 #[.pointer (some ⟨r, 0, none⟩), .int .i64 i] w fun e w' => e = .returned (.tuple #[.slice none 0 0, .bool false]) ∧ w' = w := by
  have HH : Hid (Calls Tryz.prog 36 #[.pointer (some ⟨r, 0, none⟩), .int .i64 i] w fun e w' => e = .returned (.bool false) ∧ w' = w) := hh
  clear hh
  go_enter Tryz.func17, Tryz.ntmps17
  go_wp2_with fail
  refine HH.out.mono ?_
  rintro e w1 ⟨rfl, hw⟩
  obtain rfl : w = w1 := hw.symm
  clear hw
  go_wp2_with fail
  go_ret2
  exact ⟨rfl, rfl⟩
set_option maxHeartbeats 1000000 in
theorem Key_yes (h : RgIs B w r xs ks) (j : Nat) (hj : j < 17) {l : List Nat} (hk : ks j = some l) : Calls Tryz.prog 17 #[.pointer (some ⟨r, 0, none⟩), .int .i64 (j : Int)] w fun e w' => ∃ u, e = .returned (.tuple #[u, .bool true]) ∧ w'.ownsRow w.heap.size 5 1 u 32 (ints .u8 l) ∧ Below w.heap.size w w' := by
  have HH : Hid (Calls Tryz.prog 36 #[.pointer (some ⟨r, 0, none⟩), .int .i64 (j : Int)] w fun e w' => e = .returned (.bool true) ∧ w' = w) := has_yes h j hj hk
  obtain ⟨h32, ad, c, hx, hby⟩ := h.yes j l hj hk
  have hc : w.cell? ⟨r, j, none⟩ = some (.slice (some ad) 32 c) := (h.cell j).trans hx
  have HC : Hid (Calls Tryz.prog 37 #[.slice (some ad) 32 c] w fun e w' => ∃ u, e = .returned u ∧ w'.ownsRow w.heap.size 5 1 u 32 (ints .u8 l) ∧ Below w.heap.size w w') := by
    have := clone_any _ w hby.src (by omega)
    rw [h32] at this
    exact this
  have h1 : (0 : Int) ≤ (j : Int) := by omega
  have h2 : (j : Int) < 17 := by omega
  clear h hk hx hby h32
  go_enter Tryz.func17, Tryz.ntmps17
  go_wp2_with fail
  refine HH.out.mono ?_
  rintro e w1 ⟨rfl, hw⟩
  obtain rfl : w = w1 := hw.symm
  clear hw
  go_wp2_with fail
  refine HC.out.mono ?_
  rintro e w1 ⟨u, rfl, h3, h4⟩
  have HZ : Hid (w1.ownsRow w.heap.size 5 1 u 32 (ints .u8 l) ∧ Below w.heap.size w w1) := ⟨h3, h4⟩
  clear h3 h4 HC HH
  go_wp2_with fail
  go_ret2
  exact ⟨_, rfl, HZ.out⟩
/-- What keys there are behind one more. -/
def lrn (ks : Nat → Option (List Nat)) (j : Nat) (l : List Nat) : Nat → Option (List Nat) := fun i => if i = j then some l else ks i
theorem RgIs.put (h : RgIs B w r xs ks) {j : Nat} (hj : j < 17) {ad : Addr} {c : Nat} {l : List Nat} (hl : l.length = 32) (hb : By B w (.slice (some ad) 32 c) l) (hB : B ≤ w.heap.size) :
    RgIs B (w.setCell ⟨r, j, none⟩ (.slice (some ad) 32 c)) r (xs.set j (.slice (some ad) 32 c)) (lrn ks j l) ∧ Kx [some 65] B w (w.setCell ⟨r, j, none⟩ (.slice (some ad) 32 c)) ∧ Only [r] w (w.setCell ⟨r, j, none⟩ (.slice (some ad) 32 c)) := by
  have ho : Only [r] w (w.setCell ⟨r, j, none⟩ (.slice (some ad) 32 c)) := Only.setCell _ _ _ (by simp)
  have hk : Kx [some 65] B w (w.setCell ⟨r, j, none⟩ (.slice (some ad) 32 c)) := Kx.of_only ho hB (fun y hy => by
    rw [List.mem_singleton.1 hy]
    exact ⟨h.low, fun o ho => by rw [h.box] at ho; cases ho; simp [tyOf]⟩)
  refine ⟨⟨h.low, ?_, by rw [List.length_set]; exact h.len, fun i hi hn => ?_, fun i m hi hm => ?_⟩, hk, ho⟩
  · have := heap_setCell_same w r j xs.toArray 65 (.slice (some ad) 32 c) h.box
    rw [this]
    simp
  · unfold lrn at hn
    by_cases e : i = j
    · rw [if_pos e] at hn; cases hn
    · rw [if_neg e] at hn
      rw [List.getElem?_set_ne (Ne.symm e)]
      exact h.no i hi hn
  · unfold lrn at hm
    by_cases e : i = j
    · rw [if_pos e] at hm
      cases hm
      subst e
      exact ⟨hl, ad, c, by rw [List.getElem?_set_self (by rw [h.len]; exact hj)], hb.kx hk (by decide)⟩
    · rw [if_neg e] at hm
      obtain ⟨h3, ad', c', h4, h6⟩ := h.yes i m hi hm
      exact ⟨h3, ad', c', by rw [List.getElem?_set_ne (Ne.symm e)]; exact h4, h6.kx hk (by decide)⟩
theorem Learn_range (w : World) (rp tv : Value) (i : Int) (h : ¬ (1 ≤ i ∧ i ≤ 16)) : Calls Tryz.prog 15 #[rp, .int .i64 i, tv] w fun e w' => e = .returned (.int .i64 12) ∧ w' = w := by
  have HL : Hid (Calls Tryz.prog 29 #[.int .i64 i] w fun e w' => e = .returned (.bool false) ∧ w' = w) := isLater_no w i h
  clear h
  go_enter Tryz.func15, Tryz.ntmps15
  go_wp2_with fail
  refine HL.out.mono ?_
  rintro e w1 ⟨rfl, hw⟩
  obtain rfl : w = w1 := hw.symm
  clear hw
  go_wp2_with fail
  go_ret
  exact ⟨rfl, rfl⟩
theorem Learn_size (w : World) (rp : Value) (i : Int) (h : 1 ≤ i ∧ i ≤ 16) (q : Option Addr) (n c : Nat) (hn : n ≠ 32) : Calls Tryz.prog 15 #[rp, .int .i64 i, .slice q n c] w fun e w' => e = .returned (.int .i64 11) ∧ w' = w := by
  have HL : Hid (Calls Tryz.prog 29 #[.int .i64 i] w fun e w' => e = .returned (.bool true) ∧ w' = w) := isLater_yes w i h
  have h1 : ((n : Int) == 32) = false := by rw [beq_eq_false_iff_ne]; omega
  clear h hn
  go_enter Tryz.func15, Tryz.ntmps15
  go_wp2_with fail
  refine HL.out.mono ?_
  rintro e w1 ⟨rfl, hw⟩
  obtain rfl : w = w1 := hw.symm
  clear hw
  go_wp2_with fail
  go_ret
  exact ⟨rfl, rfl⟩
theorem Learn_twice (h : RgIs B w r xs ks) (j : Nat) (hj : 1 ≤ j ∧ j ≤ 16) {l : List Nat} (hk : ks j = some l) (q : Option Addr) (c : Nat) : Calls Tryz.prog 15 #[.pointer (some ⟨r, 0, none⟩), .int .i64 (j : Int), .slice q 32 c] w fun e w' => e = .returned (.int .i64 31) ∧ w' = w := by
  have HL : Hid (Calls Tryz.prog 29 #[.int .i64 (j : Int)] w fun e w' => e = .returned (.bool true) ∧ w' = w) := isLater_yes w j (by omega)
  have HH : Hid (Calls Tryz.prog 36 #[.pointer (some ⟨r, 0, none⟩), .int .i64 (j : Int)] w fun e w' => e = .returned (.bool true) ∧ w' = w) := has_yes h j (by omega) hk
  clear h hk hj
  go_enter Tryz.func15, Tryz.ntmps15
  go_wp2_with fail
  refine HL.out.mono ?_
  rintro e w1 ⟨rfl, hw⟩
  obtain rfl : w = w1 := hw.symm
  clear hw
  go_wp2_with fail
  refine HH.out.mono ?_
  rintro e w1 ⟨rfl, hw⟩
  obtain rfl : w = w1 := hw.symm
  clear hw
  go_wp2_with fail
  go_ret
  exact ⟨rfl, rfl⟩
set_option maxHeartbeats 2000000 in
theorem Learn_ok (h : RgIs B w r xs ks) (j : Nat) (hj : 1 ≤ j ∧ j ≤ 16) (hk : ks j = none) (q : Option Addr) (c : Nat) (l : List Nat) (hl : Src w (.slice q 32 c) l) (hB : B ≤ w.heap.size) : Calls Tryz.prog 15 #[.pointer (some ⟨r, 0, none⟩), .int .i64 (j : Int), .slice q 32 c] w fun e w' => e = .returned (.int .i64 0) ∧ (∃ xs', RgIs B w' r xs' (lrn ks j l)) ∧ Kx [some 65] B w w' ∧ Only [r] w w' := by
  have HL : Hid (Calls Tryz.prog 29 #[.int .i64 (j : Int)] w fun e w' => e = .returned (.bool true) ∧ w' = w) := isLater_yes w j (by omega)
  have HH : Hid (Calls Tryz.prog 36 #[.pointer (some ⟨r, 0, none⟩), .int .i64 (j : Int)] w fun e w' => e = .returned (.bool false) ∧ w' = w) := has_no h j (by omega) hk
  have hll : l.length = 32 := by
    obtain ⟨p', c', e, _⟩ := hl.slice
    simp only [Value.slice.injEq] at e
    exact e.2.1.symm
  have HC : Hid (∀ n, Calls Tryz.prog 37 #[.slice q 32 c] (w.drewN n) fun e w1 => ∃ ad cc, e = .returned (.slice (some ad) 32 cc) ∧ w1.cell? ⟨r, j, none⟩ = some (.slice none 0 0) ∧ w1.frozen? ⟨r, j, none⟩ = false ∧ (∃ xs', RgIs B (w1.setCell ⟨r, j, none⟩ (.slice (some ad) 32 cc)) r xs' (lrn ks j l)) ∧ Kx [some 65] B w (w1.setCell ⟨r, j, none⟩ (.slice (some ad) 32 cc)) ∧ Only [r] w (w1.setCell ⟨r, j, none⟩ (.slice (some ad) 32 cc))) := fun n => by
    have hb0 := below_drewN n w w.heap.size
    refine (clone_any _ (w.drewN n) (hl.below hb0) (by omega)).mono ?_
    rintro e w1 ⟨u, rfl, ho, hb⟩
    rw [hll] at ho
    obtain ⟨gg, cc, rfl, _⟩ := own_cell ho (by decide)
    have hb1 : Below w.heap.size w w1 := hb0.trans hb
    have h1 := h.below hb1
    have hB1 : B ≤ w1.heap.size := Nat.le_trans hB hb1.size
    obtain ⟨k1, k2, k3⟩ := h1.put (j := j) (by omega) hll (By.own (B := B) hl.small ho) hB1
    exact ⟨_, cc, rfl, (h1.cell j).trans (h1.no j (by omega) hk), h1.froz j, ⟨_, k1⟩, (Kx.of_below hb1 hB).trans k2, (Only.of_below hb1 _).trans k3⟩
  have h1 : (0 : Int) ≤ (j : Int) := by omega
  have h2 : (j : Int) < 17 := by omega
  clear h hk hj hl hB hll
  go_enter Tryz.func15, Tryz.ntmps15
  go_wp2_with fail
  refine HL.out.mono ?_
  rintro e w1 ⟨rfl, hw⟩
  obtain rfl : w = w1 := hw.symm
  clear hw
  go_wp2_with fail
  refine HH.out.mono ?_
  rintro e w1 ⟨rfl, hw⟩
  obtain rfl : w = w1 := hw.symm
  clear hw
  go_wp2_with fail
  go_region_with ((go_at_call 37; refine (HC.out 1).mono ?_; rintro e w1 ⟨ad, cc, rfl, e1, e2, e3, e4, e5⟩; have HZ : Hid ((∃ xs', RgIs B (w1.setCell ⟨r, j, none⟩ (.slice (some ad) 32 cc)) r xs' (lrn ks j l)) ∧ Kx [some 65] B w (w1.setCell ⟨r, j, none⟩ (.slice (some ad) 32 cc)) ∧ Only [r] w (w1.setCell ⟨r, j, none⟩ (.slice (some ad) 32 cc))) := ⟨e3, e4, e5⟩; clear e3 e4 e5))
  all_goals
    go_wp2_with fail
    go_ret
    exact ⟨rfl, HZ.out⟩
end
def nil17 : List Value := List.replicate 17 (.slice none 0 0)
section
variable {bs : List Nat} {ts : List (Option TypeId)} {B : Nat} {w : World} {I : World → Prop} {l : List Nat} {sp kv : Value}
set_option maxHeartbeats 2000000 in
theorem New_any (hB : B ≤ w.heap.size) (h5 : some 5 ∉ ts) (hrg : some 65 ∉ ts) (hl : l.length = 32) (hs : ∀ x ∈ l, x < 256)
    (hk : ∀ w1, Below w.heap.size w w1 → Calls Tryz.prog 24 #[sp, kv, .string (strB epoB), .int .i64 0] w1 fun e w' => ∃ u, e = .returned u ∧ w'.ownsRow w1.heap.size 5 1 u 32 (ints .u8 l) ∧ I w' ∧ Fr bs ts B w1 w')
    (hI : ∀ w1 w2 r, I w1 → w.heap.size ≤ r → Only [r] w1 w2 → I w2) :
    Calls Tryz.prog 6 #[sp, kv] w fun e w' => ∃ r xs, e = .returned (.pointer (some ⟨r, 0, none⟩)) ∧ w.heap.size ≤ r ∧ RgIs B w' r xs (lrn (fun _ => none) 0 l) ∧ I w' ∧ Only bs w w' ∧ Kx (some 65 :: ts) B w w' := by
  have HK : Hid (∀ n, Calls Tryz.prog 24 #[sp, kv, .string ⟨#[101, 112, 111, 99, 104]⟩, .int .i64 0] ((w.alloc (.cells nil17.toArray 65)).drewN n) fun e w1 => ∃ ad cc, e = .returned (.slice (some ad) 32 cc) ∧ w1.cell? ⟨w.heap.size, 0, none⟩ = some (.slice none 0 0) ∧ w1.frozen? ⟨w.heap.size, 0, none⟩ = false ∧ (∃ xs', RgIs B (w1.setCell ⟨w.heap.size, 0, none⟩ (.slice (some ad) 32 cc)) w.heap.size xs' (lrn (fun _ => none) 0 l)) ∧ I (w1.setCell ⟨w.heap.size, 0, none⟩ (.slice (some ad) 32 cc)) ∧ Only bs w (w1.setCell ⟨w.heap.size, 0, none⟩ (.slice (some ad) 32 cc)) ∧ Kx (some 65 :: ts) B w (w1.setCell ⟨w.heap.size, 0, none⟩ (.slice (some ad) 32 cc))) := fun n => by
    have hb0 : Below w.heap.size w ((w.alloc (.cells nil17.toArray 65)).drewN n) := (below_alloc' w _).trans (below_drewN n _ _)
    have hr0 : RgIs B ((w.alloc (.cells nil17.toArray 65)).drewN n) w.heap.size nil17 (fun _ => none) := ⟨hB, heap_alloc_new w _, rfl, fun i hi _ => by unfold nil17; rw [List.getElem?_replicate, if_pos hi], fun i m _ hm => by cases hm⟩
    rw [epoS]
    refine (hk _ hb0).mono ?_
    rintro e w1 ⟨u, rfl, ho, hi, hf⟩
    obtain ⟨gg, cc, rfl, _⟩ := own_cell ho (by decide)
    have h1 := hr0.kx hf.kx h5 hrg
    have hB1 : B ≤ w1.heap.size := Nat.le_trans hB (Nat.le_trans hb0.size hf.size)
    obtain ⟨k1, k2, k3⟩ := h1.put (j := 0) (by omega) hl (By.own (B := B) hs ho) hB1
    refine ⟨_, cc, rfl, (h1.cell 0).trans (h1.no 0 (by omega) rfl), h1.froz 0, ⟨_, k1⟩, hI w1 _ _ hi (Nat.le_refl _) k3, ?_, ?_⟩
    · have ho1 : Only bs w w1 := (Only.of_below hb0 bs).trans hf.only
      exact ⟨k3.os.trans ho1.os, k3.tape.trans ho1.tape, k3.output.trans ho1.output, Nat.le_trans ho1.size k3.size, fun k hk hn => (k3.block k (Nat.lt_of_lt_of_le hk ho1.size) (fun e => by have := List.mem_singleton.1 e; omega)).trans (ho1.block k hk hn)⟩
    · exact (((Kx.of_below hb0 hB).trans hf.kx).mono (fun t ht => List.mem_cons_of_mem _ ht)).trans (k2.mono (fun t ht => by rw [List.mem_singleton.1 ht]; exact List.mem_cons_self))
  clear hB h5 hrg hl hs hk hI
  have HNL : Hid (nil17.toArray = #[.slice none 0 0, .slice none 0 0, .slice none 0 0, .slice none 0 0, .slice none 0 0, .slice none 0 0, .slice none 0 0, .slice none 0 0, .slice none 0 0, .slice none 0 0, .slice none 0 0, .slice none 0 0, .slice none 0 0, .slice none 0 0, .slice none 0 0, .slice none 0 0, .slice none 0 0]) := rfl
  rw [HNL.out] at HK
  clear HNL
  go_enter Tryz.func6, Tryz.ntmps6
  go_wp2_with fail
  go_region_with ((go_at_call 24; refine (HK.out 1).mono ?_; rintro e w1 ⟨ad, cc, rfl, e1, e2, e3, e4, e5, e6⟩; have HZ : Hid ((∃ xs', RgIs B (w1.setCell ⟨w.heap.size, 0, none⟩ (.slice (some ad) 32 cc)) w.heap.size xs' (lrn (fun _ => none) 0 l)) ∧ I (w1.setCell ⟨w.heap.size, 0, none⟩ (.slice (some ad) 32 cc)) ∧ Only bs w (w1.setCell ⟨w.heap.size, 0, none⟩ (.slice (some ad) 32 cc)) ∧ Kx (some 65 :: ts) B w (w1.setCell ⟨w.heap.size, 0, none⟩ (.slice (some ad) 32 cc))) := ⟨e3, e4, e5, e6⟩; clear e3 e4 e5 e6))
  all_goals
    go_wp2_with fail
    go_ret
    obtain ⟨xs', hx⟩ := HZ.out.1
    exact ⟨_, xs', rfl, Nat.le_refl _, hx, HZ.out.2⟩
end
end Go.Proofs.YtagdlpodpokmmaaGreatDoor.S7
