/- Leaves of ring: who may be, which epochs; numbers in bytes; nonces; copies. -/
import Derived.Test.YtagdlpodpokmmaaDoorC8Put2
import Derived.Test.YtagdlpodpokmmaaDoorS7SigD
import Derived.Test.YtagdlpodpokmmaaDoorC12Join
import Derived.Test.YtagdlpodpokmmaaDoorS7Use
import Derived.Lib.SlBytesConst
import Derived.Deep.QuietTactic
import Derived.BigQuiet
import Derived.WalkSpells
import Derived.Test.YtagdlpodpokmmaaDoorS7Facts
namespace Go.Proofs.YtagdlpodpokmmaaDoor.S7
open Go.RowKit
theorem below_alloc' (w : World) (o : Obj) : Below w.heap.size w (w.alloc o) := (Below.refl _ _).alloc (Nat.le_refl _) _
def six (n : Nat) : List Nat := C8.Cd.be 6 n
theorem six_length (n : Nat) : (six n).length = 6 := C8.Cd.be_length 6 n
theorem six_small (n : Nat) : ∀ x ∈ six n, x < 256 := C8.Cd.be_lt 6 n
theorem six_inj {m n : Nat} (hm : m ≤ 1099511627776) (hn : n ≤ 1099511627776) (h : six m = six n) : m = n := C8.Cd.be_inj (by omega) (by omega) h
def non (a b : Nat) : List Nat := six a ++ six b
theorem non_length (a b : Nat) : (non a b).length = 12 := by unfold non; rw [List.length_append, six_length, six_length]
theorem non_small (a b : Nat) : ∀ x ∈ non a b, x < 256 := fun x hx => (List.mem_append.1 hx).elim (six_small a x) (six_small b x)
theorem non_inj {a b c d : Nat} (ha : a ≤ 1099511627776) (hb : b ≤ 1099511627776) (hc : c ≤ 1099511627776) (hd : d ≤ 1099511627776) (h : non a b = non c d) : a = c ∧ b = d := by
  obtain ⟨h1, h2⟩ := List.append_inj h (by rw [six_length, six_length])
  exact ⟨six_inj ha hc h1, six_inj hb hd h2⟩
theorem isPerson_yes (w : World) (n : Int) (h : 1 ≤ n ∧ n ≤ 16) : Calls Tryd.prog 25 #[.int .i64 n] w fun e w' => e = .returned (.bool true) ∧ w' = w := by
  obtain ⟨h1, h2⟩ := h
  go_enter Tryd.func25, Tryd.ntmps25
  go_wp2_with fail
  go_ret
  exact ⟨rfl, rfl⟩
theorem isPerson_no (w : World) (n : Int) (h : ¬ (1 ≤ n ∧ n ≤ 16)) : Calls Tryd.prog 25 #[.int .i64 n] w fun e w' => e = .returned (.bool false) ∧ w' = w := by
  by_cases h1 : 1 ≤ n
  · have h2 : ¬ n ≤ 16 := fun e => h ⟨h1, e⟩
    clear h
    go_enter Tryd.func25, Tryd.ntmps25
    go_wp2_with fail
    go_ret
    exact ⟨rfl, rfl⟩
  · clear h
    go_enter Tryd.func25, Tryd.ntmps25
    go_wp2_with fail
    go_ret
    exact ⟨rfl, rfl⟩
theorem isLater_yes (w : World) (n : Int) (h : 1 ≤ n ∧ n ≤ 16) : Calls Tryd.prog 26 #[.int .i64 n] w fun e w' => e = .returned (.bool true) ∧ w' = w := by
  obtain ⟨h1, h2⟩ := h
  have h3 : 0 < n := by omega
  clear h1
  go_enter Tryd.func26, Tryd.ntmps26
  go_wp2_with fail
  go_ret
  exact ⟨rfl, rfl⟩
theorem isLater_no (w : World) (n : Int) (h : ¬ (1 ≤ n ∧ n ≤ 16)) : Calls Tryd.prog 26 #[.int .i64 n] w fun e w' => e = .returned (.bool false) ∧ w' = w := by
  by_cases h1 : 0 < n
  · have h2 : ¬ n ≤ 16 := fun e => h ⟨by omega, e⟩
    clear h
    go_enter Tryd.func26, Tryd.ntmps26
    go_wp2_with fail
    go_ret
    exact ⟨rfl, rfl⟩
  · clear h
    go_enter Tryd.func26, Tryd.ntmps26
    go_wp2_with fail
    go_ret
    exact ⟨rfl, rfl⟩
theorem put1 (w : World) (n : Nat) (hn : n ≤ 1099511627776) : Calls Tryd.prog 32 #[.slice (some ⟨w.heap.size, 0, none⟩) 1 1] (w.alloc (.cells #[.iface 3 (.int .i64 (n : Int))] 20)) fun e w' => ∃ v, e = .returned (.tuple #[v, .int .i64 0]) ∧ w'.ownsRow w.heap.size 5 1 v 6 (ints .u8 (six n)) ∧ Below w.heap.size w w' := by
  refine (C8.Put_any [⟨false, n, []⟩] (some ⟨w.heap.size, 0, none⟩) 1 (w.alloc (.cells #[.iface 3 (.int .i64 (n : Int))] 20)) (by simp) (fun j hj => ?_)).mono ?_
  · have e : j = 0 := by simpa using hj
    subst e
    exact ⟨w.heap.size, 0, .iface 3 (.int .i64 (n : Int)), rfl, by simp, by rw [cell_of_row _ _ _ _ _ _ (heap_alloc_new w _)]; rfl, fun x hx => by simp at hx, .inl ⟨rfl, rfl⟩⟩
  · rintro e w' ⟨hb, h⟩
    have hb' : Below w.heap.size w w' := (below_alloc' w _).trans (hb.mono (below_alloc' w _).size)
    rcases h with ⟨h1, v, h2, h3⟩ | ⟨h1, _⟩
    · refine ⟨v, h2, ?_, hb'⟩
      have e1 : C8.Cd.enc [⟨false, (n : Int), []⟩] = six n := by simp [C8.Cd.enc, C8.Cd.one, six]
      rw [e1, six_length] at h3
      exact own_older h3 (below_alloc' w _).size
    · exfalso
      apply h1
      simp [C8.Cd.err, C8.Cd.wrong]
      omega
theorem put2p (w : World) (a b : Int) : C8.PartsIs (w.alloc (.cells #[.iface 3 (.int .i64 a), .iface 3 (.int .i64 b)] 20)) (w.alloc (.cells #[.iface 3 (.int .i64 a), .iface 3 (.int .i64 b)] 20)).heap.size (some ⟨w.heap.size, 0, none⟩) [⟨false, a, []⟩, ⟨false, b, []⟩] := by
  intro j hj
  have hj' : j < 2 := by simpa using hj
  obtain rfl | rfl : j = 0 ∨ j = 1 := by omega
  · exact ⟨w.heap.size, 0, .iface 3 (.int .i64 a), rfl, by simp, by rw [cell_of_row _ _ _ _ _ _ (heap_alloc_new w _)]; rfl, fun x hx => by simp at hx, .inl ⟨rfl, rfl⟩⟩
  · exact ⟨w.heap.size, 0, .iface 3 (.int .i64 b), rfl, by simp, by rw [cell_of_row _ _ _ _ _ _ (heap_alloc_new w _)]; rfl, fun x hx => by simp at hx, .inl ⟨rfl, rfl⟩⟩
theorem put2 (w : World) (a b : Nat) (ha : a ≤ 1099511627776) (hb0 : b ≤ 1099511627776) : Calls Tryd.prog 32 #[.slice (some ⟨w.heap.size, 0, none⟩) 2 2] (w.alloc (.cells #[.iface 3 (.int .i64 (a : Int)), .iface 3 (.int .i64 (b : Int))] 20)) fun e w' => ∃ v, e = .returned (.tuple #[v, .int .i64 0]) ∧ w'.ownsRow w.heap.size 5 1 v 12 (ints .u8 (non a b)) ∧ Below w.heap.size w w' := by
  refine (C8.Put_any [⟨false, a, []⟩, ⟨false, b, []⟩] (some ⟨w.heap.size, 0, none⟩) 2 _ (by simp) (put2p w a b)).mono ?_
  rintro e w' ⟨hb, h⟩
  have hb' : Below w.heap.size w w' := (below_alloc' w _).trans (hb.mono (below_alloc' w _).size)
  rcases h with ⟨h1, v, h2, h3⟩ | ⟨h1, _⟩
  · refine ⟨v, h2, ?_, hb'⟩
    have e1 : C8.Cd.enc [⟨false, (a : Int), []⟩, ⟨false, (b : Int), []⟩] = non a b := by simp [C8.Cd.enc, C8.Cd.one, six, non]
    rw [e1, non_length] at h3
    exact own_older h3 (below_alloc' w _).size
  · exfalso
    apply h1
    have e1 : ¬ (((a : Int) < 0) ∨ 1099511627776 < (a : Int)) := by omega
    have e2 : ¬ (((b : Int) < 0) ∨ 1099511627776 < (b : Int)) := by omega
    simp only [C8.Cd.err, C8.Cd.wrong, Bool.false_eq_true, if_false, if_neg e1, if_neg e2]
    simp
theorem put2_bad (w : World) (a b : Int) (h : a < 0 ∨ 1099511627776 < a ∨ b < 0 ∨ 1099511627776 < b) : Calls Tryd.prog 32 #[.slice (some ⟨w.heap.size, 0, none⟩) 2 2] (w.alloc (.cells #[.iface 3 (.int .i64 a), .iface 3 (.int .i64 b)] 20)) fun e w' => e = .returned (.tuple #[.slice none 0 0, .int .i64 12]) ∧ Below w.heap.size w w' := by
  have e1 : C8.Cd.err [⟨false, a, []⟩, ⟨false, b, []⟩] = 12 := by
    by_cases ha : a < 0 ∨ 1099511627776 < a
    · simp only [C8.Cd.err, C8.Cd.wrong, Bool.false_eq_true, if_false, if_pos ha]
      simp
    · have hb : b < 0 ∨ 1099511627776 < b := by omega
      simp only [C8.Cd.err, C8.Cd.wrong, Bool.false_eq_true, if_false, if_neg ha, if_pos hb]
      simp
  refine (C8.Put_any [⟨false, a, []⟩, ⟨false, b, []⟩] (some ⟨w.heap.size, 0, none⟩) 2 _ (by simp) (put2p w a b)).mono ?_
  rintro e w' ⟨hb, h⟩
  have hb' : Below w.heap.size w w' := (below_alloc' w _).trans (hb.mono (below_alloc' w _).size)
  rcases h with ⟨h1, _⟩ | ⟨_, rfl⟩
  · rw [e1] at h1
    omega
  · rw [e1]
    exact ⟨rfl, hb'⟩
theorem Nonce_big (w : World) (a b : Int) (h : 4294967295 < a) : Calls Tryd.prog 16 #[.int .i64 a, .int .i64 b] w fun e w' => e = .returned (.tuple #[.slice none 0 0, .int .i64 12]) ∧ Below w.heap.size w w' := by
  go_enter Tryd.func16, Tryd.ntmps16
  go_wp2_with fail
  go_ret2
  exact ⟨rfl, Below.refl _ _⟩
theorem Nonce_bad (w : World) (a b : Int) (h : ¬ (0 ≤ a ∧ a ≤ 4294967295 ∧ 0 ≤ b ∧ b ≤ 1099511627776)) : Calls Tryd.prog 16 #[.int .i64 a, .int .i64 b] w fun e w' => e = .returned (.tuple #[.slice none 0 0, .int .i64 12]) ∧ Below w.heap.size w w' := by
  by_cases h0 : 4294967295 < a
  · exact Nonce_big w a b h0
  · have HP : Hid (Calls Tryd.prog 32 #[.slice (some ⟨w.heap.size, 0, none⟩) 2 2] (w.alloc (.cells #[.iface 3 (.int .i64 a), .iface 3 (.int .i64 b)] 20)) fun e w' => e = .returned (.tuple #[.slice none 0 0, .int .i64 12]) ∧ Below w.heap.size w w') := put2_bad w a b (by omega)
    clear h
    go_enter Tryd.func16, Tryd.ntmps16
    go_wp2_with fail
    refine HP.out.mono ?_
    rintro e w1 ⟨rfl, hb⟩
    have HB : Hid (Below w.heap.size w w1) := hb
    clear hb HP
    go_wp2_with fail
    go_ret2
    exact ⟨rfl, HB.out⟩
theorem Nonce_ok (w : World) (a b : Nat) (ha : a ≤ 4294967295) (hb0 : b ≤ 1099511627776) : Calls Tryd.prog 16 #[.int .i64 (a : Int), .int .i64 (b : Int)] w fun e w' => ∃ v, e = .returned (.tuple #[v, .int .i64 0]) ∧ w'.ownsRow w.heap.size 5 1 v 12 (ints .u8 (non a b)) ∧ Below w.heap.size w w' := by
  have HP : Hid (Calls Tryd.prog 32 #[.slice (some ⟨w.heap.size, 0, none⟩) 2 2] (w.alloc (.cells #[.iface 3 (.int .i64 (a : Int)), .iface 3 (.int .i64 (b : Int))] 20)) fun e w' => ∃ v, e = .returned (.tuple #[v, .int .i64 0]) ∧ w'.ownsRow w.heap.size 5 1 v 12 (ints .u8 (non a b)) ∧ Below w.heap.size w w') := put2 w a b (by omega) hb0
  have h0 : ¬ (4294967295 : Int) < (a : Int) := by omega
  clear ha hb0
  go_enter Tryd.func16, Tryd.ntmps16
  go_wp2_with fail
  refine HP.out.mono ?_
  rintro e w1 ⟨v, rfl, ho, hb⟩
  have HO : Hid (w1.ownsRow w.heap.size 5 1 v 12 (ints .u8 (non a b)) ∧ Below w.heap.size w w1) := ⟨ho, hb⟩
  clear ho hb HP
  go_wp2_with fail
  go_ret2
  exact ⟨_, rfl, HO.out⟩
set_option maxHeartbeats 400000 in
theorem clone_any {l : List Nat} (v : Value) (w : World) (hv : Src w v l) (hl : l.length ≤ 50000) :
    Calls Tryd.prog 23 #[v] w fun e w' => ∃ u, e = .returned u ∧ w'.ownsRow w.heap.size 5 1 u l.length (ints .u8 l) ∧ Below w.heap.size w w' := by
  have HV : Hid (Src w v l) := hv
  have HL : Hid (l.length ≤ 50000) := hl
  have key : ∀ ad n c, v = .slice (some ad) n c → Calls Tryd.prog 23 #[v] w fun e w' => ∃ u, e = .returned u ∧ w'.ownsRow w.heap.size 5 1 u l.length (ints .u8 l) ∧ Below w.heap.size w w' := by
    intro ad n c e
    subst e
    clear hv hl
    have hnil : (binOp .eql 22 (.slice (some ad) n c) (.slice none 0 0)).run Tryd.prog w = .ok (.bool false) w := Lib.run_eql_slice_nil w 22 5 (some ad) n c 0 0 Tryd.underlying22
    go_enter Tryd.func23, Tryd.ntmps23
    go_wp2_with (first | with_reducible (refine stop_builtin .append ?_))
    refine Stop.go ?_
    have hb5 : Below w.heap.size w (w.alloc (.cells #[] 5)) := (Below.refl _ _).alloc (Nat.le_refl _) _
    have he : (w.alloc (.cells #[] 5)).ownsRow w.heap.size 5 1 (.slice (some ⟨w.heap.size, 0, none⟩) 0 0) 0 (ints .u8 []) :=
      ⟨rfl, .inr ⟨w.heap.size, 0, #[], rfl, Nat.le_refl _, heap_alloc_new w _, Nat.le_refl _, by unfold maxLen; decide, rfl, rfl⟩⟩
    refine law_append_src w.heap.size _ 0 [] _ l rfl rfl he (HV.out.below hb5) (by have := HL.out; omega) (by simp) ?_
    intro u w1 ho hg
    have HB : Hid (Below w.heap.size w w1) := hb5.trans (below_append he hg (by simp))
    have HO : Hid (w1.ownsRow w.heap.size 5 1 u (0 + l.length) (ints .u8 ([] ++ l))) := ho
    clear ho hg hb5 he
    go_wp2_with fail
    go_ret
    exact ⟨_, rfl, by have := HO.out; rw [Nat.zero_add] at this; exact this, HB.out⟩
  rcases hv.2 with ⟨rfl, rfl⟩ | ⟨ad, c, rfl, rfl⟩ | ⟨b, o, c, rfl, _⟩
  · clear key hv hl
    have hnil : (binOp .eql 22 (.slice none 0 0) (.slice none 0 0)).run Tryd.prog w = .ok (.bool true) w := Lib.run_eql_slice_nil w 22 5 none 0 0 0 0 Tryd.underlying22
    go_enter Tryd.func23, Tryd.ntmps23
    go_wp2_with fail
    go_ret
    exact ⟨_, rfl, own_none _ _ _ _, Below.refl _ _⟩
  · exact key _ _ _ rfl
  · exact key _ _ _ rfl
set_option maxHeartbeats 1000000 in
theorem Code_two (k l1 l2 : List Nat) (g o c : Nat) (kv v u : Value) (p q m x : Nat) (L : List Su.Thing) (w : World) (h : SuIs w p q m x L) (hk : Src w kv k) (hc : w.cell? ⟨g, o, none⟩ = some v) (hc2 : w.cell? ⟨g, o + 1, none⟩ = some u) (hv : Src w v l1) (hu : Src w u l2) (hcp : 2 ≤ c) (hl : l1.length ≤ 50000) (hl2 : l2.length ≤ 50000) (hL : L.length < 1000000) :
    Calls Tryd.prog 56 #[.pointer (some ⟨p, 0, none⟩), kv, .slice (some ⟨g, o, none⟩) 2 c] w fun e w' => ∃ v, e = .returned v ∧ w'.ownsRow w.heap.size 5 1 v 32 (ints .u8 (Su.sign 77 (Su.num L 77 k (l1 ++ l2)))) ∧ SuIs w' p q m x (Su.add L 77 k (l1 ++ l2)) ∧ Only [p, m] w w' := by
  have hsm : ∀ y ∈ l1 ++ l2, y < 256 := fun y hy => (List.mem_append.1 hy).elim (hv.small y) (hu.small y)
  have HJ : Hid (∀ n, Calls Tryd.prog 72 #[.slice (some ⟨g, o, none⟩) 2 c] (w.drewN n) fun e w' => e = .returned (.string (strB (l1 ++ l2))) ∧ Below w.heap.size w w') := fun n =>
    (joined_two g o c v u (w.drewN n) hc hc2 (hv.below (below_drewN n _ _)) (hu.below (below_drewN n _ _)) hcp hl hl2).mono (fun _ _ ⟨h1, h2⟩ => ⟨h1, (below_drewN n w w.heap.size).trans h2⟩)
  have HK : Hid (∀ w1, Below w.heap.size w w1 → (convert 22 9 kv).run Tryd.prog w1 = .ok (.string (strB k)) w1) := fun w1 hb => conv_src (hk.below hb)
  have HG : Hid (∀ w1, Below w.heap.size w w1 → Calls Tryd.prog 71 #[.pointer (some ⟨p, 0, none⟩), thingV 77 k (l1 ++ l2)] w1 fun e w' => ∃ v, e = .returned v ∧ w'.ownsRow w1.heap.size 5 1 v 32 (ints .u8 (Su.sign 77 (Su.num L 77 k (l1 ++ l2)))) ∧ SuIs w' p q m x (Su.add L 77 k (l1 ++ l2)) ∧ Only [p, m] w1 w') := fun w1 hb => signOf_any 77 k (l1 ++ l2) p q m x L w1 (h.below hb) (.inr rfl) hk.small hsm hL
  have hcv := HK.out w.drew (below_drewN 1 _ _)
  obtain ⟨_, _, c2, _⟩ := cells3 h.box
  obtain ⟨pk, ck, rfl, _⟩ := hk.slice
  clear h hc hc2 hv hu hl hl2 hk hsm
  generalize k.length = kl at *
  generalize l1 ++ l2 = l at *
  go_enter Tryd.func56, Tryd.ntmps56
  go_wp2_with fail
  go_region_with ((first
    | (go_at_call 72; refine (HJ.out 1).mono ?_; rintro e w1 ⟨rfl, hb1⟩; have hcv1 := HK.out w1 hb1; have HB1 : Hid (Below w.heap.size w w1) := hb1; clear hb1)
    | (go_at_call 71; refine (HG.out _ HB1.out).mono ?_; rintro e w2 ⟨u, rfl, ho, hs, hn⟩; have HO : Hid (w2.ownsRow w.heap.size 5 1 u 32 (ints .u8 (Su.sign 77 (Su.num L 77 k l)))) := own_older ho HB1.out.size; have HS : Hid (SuIs w2 p q m x (Su.add L 77 k l)) := hs; have HN : Hid (Only [p, m] w w2) := (Only.of_below HB1.out _).trans hn; clear ho hs hn)))
  all_goals
    go_wp2_with fail
    go_ret
    exact ⟨_, rfl, HO.out, HS.out, HN.out⟩
end Go.Proofs.YtagdlpodpokmmaaDoor.S7
/- Keys of ring, whatever the suite: keyOf, personKey, Member, Writer, lock, Wrap, Unwrap. -/
namespace Go.Proofs.YtagdlpodpokmmaaDoor.S7
open Go.RowKit
def memB : List Nat := [109, 101, 109, 98, 101, 114]
def wriB : List Nat := [119, 114, 105, 116, 101, 114]
def epoB : List Nat := [101, 112, 111, 99, 104]
def wraB : List Nat := [119, 114, 97, 112]
theorem memS : (⟨#[109, 101, 109, 98, 101, 114]⟩ : ByteArray) = strB memB := by rfl
theorem wriS : (⟨#[119, 114, 105, 116, 101, 114]⟩ : ByteArray) = strB wriB := by rfl
theorem epoS : (⟨#[101, 112, 111, 99, 104]⟩ : ByteArray) = strB epoB := by rfl
/-- What is turned: these blocks alone, nothing below a bound, and of what was there blocks of these types alone. -/
structure Fr (bs : List Nat) (ts : List (Option TypeId)) (B : Nat) (w w' : World) : Prop where
  only : Only bs w w'
  kx : Kx ts B w w'
section
variable {bs : List Nat} {ts : List (Option TypeId)} {B : Nat} {w w' w'' : World}
theorem Fr.trans (h : Fr bs ts B w w') (k : Fr bs ts B w' w'') : Fr bs ts B w w'' := ⟨h.only.trans k.only, h.kx.trans k.kx⟩
theorem Fr.of_below (h : Below w.heap.size w w') (hB : B ≤ w.heap.size) : Fr bs ts B w w' := ⟨Only.of_below h _, Kx.of_below h hB⟩
theorem Fr.size (h : Fr bs ts B w w') : w.heap.size ≤ w'.heap.size := h.only.size
end
section
variable {bs : List Nat} {ts : List (Option TypeId)} {B : Nat} {w : World} {I : World → Prop} {r : List Nat} {p : Nat} {kv : Value}
set_option maxHeartbeats 1000000 in
theorem keyOf_any (sl : List Nat) (n : Nat) (hB : B ≤ w.heap.size) (hn : n ≤ 1099511627776) (hs : ∀ x ∈ sl, x < 256)
    (hcode : ∀ w1 g a1 a2, Src w1 a1 sl → Src w1 a2 (six n) → w1.cell? ⟨g, 0, none⟩ = some a1 → w1.cell? ⟨g, 1, none⟩ = some a2 → Below w.heap.size w w1 → Calls Tryd.prog 56 #[.pointer (some ⟨p, 0, none⟩), kv, .slice (some ⟨g, 0, none⟩) 2 2] w1 fun e w' => ∃ u, e = .returned u ∧ w'.ownsRow w1.heap.size 5 1 u 32 (ints .u8 r) ∧ I w' ∧ Fr bs ts B w1 w') :
    Calls Tryd.prog 37 #[.pointer (some ⟨p, 0, none⟩), kv, .string (strB sl), .int .i64 (n : Int)] w fun e w' => ∃ u, e = .returned u ∧ w'.ownsRow w.heap.size 5 1 u 32 (ints .u8 r) ∧ I w' ∧ Fr bs ts B w w' := by
  have HN : Hid (n ≤ 1099511627776) := hn
  have HB : Hid (B ≤ w.heap.size) := hB
  have HS : Hid (∀ x ∈ sl, x < 256) := hs
  have HC : Hid (∀ w1 g a1 a2, Src w1 a1 sl → Src w1 a2 (six n) → w1.cell? ⟨g, 0, none⟩ = some a1 → w1.cell? ⟨g, 1, none⟩ = some a2 → Below w.heap.size w w1 → Calls Tryd.prog 56 #[.pointer (some ⟨p, 0, none⟩), kv, .slice (some ⟨g, 0, none⟩) 2 2] w1 fun e w' => ∃ u, e = .returned u ∧ w'.ownsRow w1.heap.size 5 1 u 32 (ints .u8 r) ∧ I w' ∧ Fr bs ts B w1 w') := hcode
  clear hcode hn hB hs
  go_enter Tryd.func37, Tryd.ntmps37
  go_wp2_with fail
  refine (put1 w n HN.out).mono ?_
  rintro e w1 ⟨v, rfl, ho, hb⟩
  obtain ⟨vq, vc, rfl⟩ := own_slice ho
  obtain ⟨sv, w2, hcv, hs2, hb2, -⟩ := bytes_src w1 sl HS.out
  obtain ⟨sq, sc, rfl, -⟩ := hs2.slice
  have hba := below_alloc' w2 (.cells #[.slice sq sl.length sc, .slice vq 6 vc] 22)
  have hh := heap_alloc_new w2 (.cells #[.slice sq sl.length sc, .slice vq 6 vc] 22)
  have hW : Below w.heap.size w (w2.alloc (.cells #[.slice sq sl.length sc, .slice vq 6 vc] 22)) := (hb.trans (hb2.mono hb.size)).trans (hba.mono (Nat.le_trans hb.size hb2.size))
  have HCC : Hid (Calls Tryd.prog 56 #[.pointer (some ⟨p, 0, none⟩), kv, .slice (some ⟨w2.heap.size, 0, none⟩) 2 2] (w2.alloc (.cells #[.slice sq sl.length sc, .slice vq 6 vc] 22)) fun e w' => ∃ u, e = .returned u ∧ w'.ownsRow w.heap.size 5 1 u 32 (ints .u8 r) ∧ I w' ∧ Fr bs ts B w w') := by
    refine (HC.out _ w2.heap.size _ _ (hs2.below hba) (((Src.own (six_small n) ho).below hb2).below hba) (by rw [cell_of_row _ _ _ _ _ _ hh]; rfl) (by rw [cell_of_row _ _ _ _ _ _ hh]; rfl) hW).mono ?_
    rintro e w' ⟨u, rfl, h1, h2, h3⟩
    exact ⟨u, rfl, own_older h1 hW.size, h2, (Fr.of_below hW HB.out).trans h3⟩
  clear hs2 hb2 ho hb hba hh hW HC HN HB HS
  generalize sl.length = ln at *
  go_wp2_with fail
  refine HCC.out.mono ?_
  rintro e w3 ⟨u, rfl, h1, h2, h3⟩
  have HZ : Hid (w3.ownsRow w.heap.size 5 1 u 32 (ints .u8 r) ∧ I w3 ∧ Fr bs ts B w w3) := ⟨h1, h2, h3⟩
  clear h1 h2 h3 HCC hcv
  go_wp2_with fail
  go_ret
  exact ⟨_, rfl, HZ.out⟩
end
theorem personKey_no (w : World) (sp kv sv : Value) (n : Int) (h : ¬ (1 ≤ n ∧ n ≤ 16)) : Calls Tryd.prog 24 #[sp, kv, sv, .int .i64 n] w fun e w' => e = .returned (.tuple #[.slice none 0 0, .int .i64 12]) ∧ w' = w := by
  have HP : Hid (Calls Tryd.prog 25 #[.int .i64 n] w fun e w' => e = .returned (.bool false) ∧ w' = w) := isPerson_no w n h
  clear h
  go_enter Tryd.func24, Tryd.ntmps24
  go_wp2_with fail
  refine HP.out.mono ?_
  rintro e w1 ⟨rfl, hw⟩
  obtain rfl : w = w1 := hw.symm
  clear hw HP
  go_wp2_with fail
  go_ret2
  exact ⟨rfl, rfl⟩
theorem personKey_yes (w : World) (sp kv sv : Value) (n : Int) (h : 1 ≤ n ∧ n ≤ 16) (R : Value → World → Prop) (hk : Calls Tryd.prog 37 #[sp, kv, sv, .int .i64 n] w fun e w' => ∃ u, e = .returned u ∧ R u w') : Calls Tryd.prog 24 #[sp, kv, sv, .int .i64 n] w fun e w' => ∃ u, e = .returned (.tuple #[u, .int .i64 0]) ∧ R u w' := by
  have HP : Hid (Calls Tryd.prog 25 #[.int .i64 n] w fun e w' => e = .returned (.bool true) ∧ w' = w) := isPerson_yes w n h
  have HK : Hid (Calls Tryd.prog 37 #[sp, kv, sv, .int .i64 n] w fun e w' => ∃ u, e = .returned u ∧ R u w') := hk
  clear h hk
  go_enter Tryd.func24, Tryd.ntmps24
  go_wp2_with fail
  refine HP.out.mono ?_
  rintro e w1 ⟨rfl, hw⟩
  obtain rfl : w = w1 := hw.symm
  clear hw HP
  go_wp2_with fail
  refine HK.out.mono ?_
  rintro e w1 ⟨u, rfl, hr⟩
  have HR : Hid (R u w1) := hr
  clear hr HK
  go_wp2_with fail
  go_ret2
  exact ⟨_, rfl, HR.out⟩
theorem Member_no (w : World) (sp kv : Value) (n : Int) (h : ¬ (1 ≤ n ∧ n ≤ 16)) : Calls Tryd.prog 10 #[sp, kv, .int .i64 n] w fun e w' => e = .returned (.tuple #[.slice none 0 0, .int .i64 12]) ∧ w' = w := by
  have HP : Hid (∀ sv, Calls Tryd.prog 24 #[sp, kv, sv, .int .i64 n] w fun e w' => e = .returned (.tuple #[.slice none 0 0, .int .i64 12]) ∧ w' = w) := fun sv => personKey_no w sp kv sv n h
  clear h
  go_enter Tryd.func10, Tryd.ntmps10
  go_wp2_with fail
  refine (HP.out _).mono ?_
  rintro e w1 ⟨rfl, hw⟩
  obtain rfl : w = w1 := hw.symm
  clear hw HP
  go_wp2_with fail
  go_ret2
  exact ⟨rfl, rfl⟩
theorem Writer_no (w : World) (sp kv : Value) (n : Int) (h : ¬ (1 ≤ n ∧ n ≤ 16)) : Calls Tryd.prog 11 #[sp, kv, .int .i64 n] w fun e w' => e = .returned (.tuple #[.slice none 0 0, .int .i64 12]) ∧ w' = w := by
  have HP : Hid (∀ sv, Calls Tryd.prog 24 #[sp, kv, sv, .int .i64 n] w fun e w' => e = .returned (.tuple #[.slice none 0 0, .int .i64 12]) ∧ w' = w) := fun sv => personKey_no w sp kv sv n h
  clear h
  go_enter Tryd.func11, Tryd.ntmps11
  go_wp2_with fail
  refine (HP.out _).mono ?_
  rintro e w1 ⟨rfl, hw⟩
  obtain rfl : w = w1 := hw.symm
  clear hw HP
  go_wp2_with fail
  go_ret2
  exact ⟨rfl, rfl⟩
theorem Member_yes (w : World) (sp kv : Value) (n : Int) (h : 1 ≤ n ∧ n ≤ 16) (R : Value → World → Prop) (hk : Calls Tryd.prog 37 #[sp, kv, .string (strB memB), .int .i64 n] w fun e w' => ∃ u, e = .returned u ∧ R u w') : Calls Tryd.prog 10 #[sp, kv, .int .i64 n] w fun e w' => ∃ u, e = .returned (.tuple #[u, .int .i64 0]) ∧ R u w' := by
  have HP : Hid (Calls Tryd.prog 24 #[sp, kv, .string ⟨#[109, 101, 109, 98, 101, 114]⟩, .int .i64 n] w fun e w' => ∃ u, e = .returned (.tuple #[u, .int .i64 0]) ∧ R u w') := by rw [memS]; exact personKey_yes w sp kv _ n h R hk
  clear h hk
  go_enter Tryd.func10, Tryd.ntmps10
  go_wp2_with fail
  refine HP.out.mono ?_
  rintro e w1 ⟨u, rfl, hr⟩
  have HR : Hid (R u w1) := hr
  clear hr HP
  go_wp2_with fail
  go_ret2
  exact ⟨_, rfl, HR.out⟩
theorem Writer_yes (w : World) (sp kv : Value) (n : Int) (h : 1 ≤ n ∧ n ≤ 16) (R : Value → World → Prop) (hk : Calls Tryd.prog 37 #[sp, kv, .string (strB wriB), .int .i64 n] w fun e w' => ∃ u, e = .returned u ∧ R u w') : Calls Tryd.prog 11 #[sp, kv, .int .i64 n] w fun e w' => ∃ u, e = .returned (.tuple #[u, .int .i64 0]) ∧ R u w' := by
  have HP : Hid (Calls Tryd.prog 24 #[sp, kv, .string ⟨#[119, 114, 105, 116, 101, 114]⟩, .int .i64 n] w fun e w' => ∃ u, e = .returned (.tuple #[u, .int .i64 0]) ∧ R u w') := by rw [wriS]; exact personKey_yes w sp kv _ n h R hk
  clear h hk
  go_enter Tryd.func11, Tryd.ntmps11
  go_wp2_with fail
  refine HP.out.mono ?_
  rintro e w1 ⟨u, rfl, hr⟩
  have HR : Hid (R u w1) := hr
  clear hr HP
  go_wp2_with fail
  go_ret2
  exact ⟨_, rfl, HR.out⟩
section
variable {bs : List Nat} {ts : List (Option TypeId)} {B : Nat} {w : World} {I : World → Prop} {r : List Nat} {sp kv : Value}
set_option maxHeartbeats 1000000 in
theorem lock_any (who : Int) (ep : Nat) (hB : B ≤ w.heap.size) (h5 : some 5 ∉ ts) (hep : ep ≤ 1099511627776)
    (hk : ∀ w1, Below w.heap.size w w1 → Calls Tryd.prog 37 #[sp, kv, .string (strB memB), .int .i64 who] w1 fun e w' => ∃ u, e = .returned u ∧ w'.ownsRow w1.heap.size 5 1 u 32 (ints .u8 r) ∧ I w' ∧ Fr bs ts B w1 w') :
    Calls Tryd.prog 27 #[sp, kv, .int .i64 who, .int .i64 (ep : Int)] w fun e w' => ∃ u nv, e = .returned (.tuple #[u, nv]) ∧ w'.ownsRow w.heap.size 5 1 u 32 (ints .u8 r) ∧ By B w' nv (non 0 ep) ∧ I w' ∧ Fr bs ts B w w' := by
  have HN : Hid (Calls Tryd.prog 16 #[.int .i64 0, .int .i64 (ep : Int)] w fun e w' => ∃ v, e = .returned (.tuple #[v, .int .i64 0]) ∧ w'.ownsRow w.heap.size 5 1 v 12 (ints .u8 (non 0 ep)) ∧ Below w.heap.size w w') := Nonce_ok w 0 ep (by omega) hep
  have HB : Hid (B ≤ w.heap.size ∧ some 5 ∉ ts) := ⟨hB, h5⟩
  have HK : Hid (∀ w1, Below w.heap.size w w1 → Calls Tryd.prog 37 #[sp, kv, .string ⟨#[109, 101, 109, 98, 101, 114]⟩, .int .i64 who] w1 fun e w' => ∃ u, e = .returned u ∧ w'.ownsRow w1.heap.size 5 1 u 32 (ints .u8 r) ∧ I w' ∧ Fr bs ts B w1 w') := by rw [memS]; exact hk
  clear hB h5 hep hk
  go_enter Tryd.func27, Tryd.ntmps27
  go_wp2_with fail
  refine HN.out.mono ?_
  rintro e w1 ⟨v, rfl, ho, hb⟩
  have HO : Hid (By B w1 v (non 0 ep) ∧ Below w.heap.size w w1) := ⟨By.own (non_small 0 ep) ho, hb⟩
  clear ho hb HN
  go_wp2_with fail
  refine (HK.out w1 HO.out.2).mono ?_
  rintro e w2 ⟨u, rfl, h1, h2, h3⟩
  have HZ : Hid (w2.ownsRow w.heap.size 5 1 u 32 (ints .u8 r) ∧ By B w2 v (non 0 ep) ∧ I w2 ∧ Fr bs ts B w w2) := ⟨own_older h1 HO.out.2.size, HO.out.1.kx h3.kx HB.out.2, h2, (Fr.of_below HO.out.2 HB.out.1).trans h3⟩
  clear h1 h2 h3 HO HK HB
  go_wp2_with fail
  go_ret2
  exact ⟨_, _, rfl, HZ.out⟩
end
section
variable {bs : List Nat} {ts : List (Option TypeId)} {B : Nat} {w : World} {I : World → Prop} {r : List Nat} {sp kv : Value}
theorem Wrap_range (w : World) (sp kv tv : Value) (who ep : Int) (h : ¬ ((1 ≤ who ∧ who ≤ 16) ∧ 1 ≤ ep ∧ ep ≤ 16)) : Calls Tryd.prog 12 #[sp, kv, .int .i64 who, .int .i64 ep, tv] w fun e w' => e = .returned (.tuple #[.slice none 0 0, .int .i64 12]) ∧ w' = w := by
  by_cases h1 : 1 ≤ who ∧ who ≤ 16
  · have HP : Hid (Calls Tryd.prog 25 #[.int .i64 who] w fun e w' => e = .returned (.bool true) ∧ w' = w) := isPerson_yes w who h1
    have HL : Hid (Calls Tryd.prog 26 #[.int .i64 ep] w fun e w' => e = .returned (.bool false) ∧ w' = w) := isLater_no w ep (fun e => h ⟨h1, e⟩)
    clear h h1
    go_enter Tryd.func12, Tryd.ntmps12
    go_wp2_with fail
    refine HP.out.mono ?_
    rintro e w1 ⟨rfl, hw⟩
    obtain rfl : w = w1 := hw.symm
    clear hw
    go_wp2_with fail
    refine HL.out.mono ?_
    rintro e w1 ⟨rfl, hw⟩
    obtain rfl : w = w1 := hw.symm
    clear hw
    go_wp2_with fail
    go_ret2
    exact ⟨rfl, rfl⟩
  · have HP : Hid (Calls Tryd.prog 25 #[.int .i64 who] w fun e w' => e = .returned (.bool false) ∧ w' = w) := isPerson_no w who h1
    clear h h1
    go_enter Tryd.func12, Tryd.ntmps12
    go_wp2_with fail
    refine HP.out.mono ?_
    rintro e w1 ⟨rfl, hw⟩
    obtain rfl : w = w1 := hw.symm
    clear hw
    go_wp2_with fail
    go_ret2
    exact ⟨rfl, rfl⟩
theorem Wrap_size (w : World) (sp kv : Value) (q : Option Addr) (n c : Nat) (who ep : Int) (h : (1 ≤ who ∧ who ≤ 16) ∧ 1 ≤ ep ∧ ep ≤ 16) (hn : n ≠ 32) : Calls Tryd.prog 12 #[sp, kv, .int .i64 who, .int .i64 ep, .slice q n c] w fun e w' => e = .returned (.tuple #[.slice none 0 0, .int .i64 11]) ∧ w' = w := by
  have HP : Hid (Calls Tryd.prog 25 #[.int .i64 who] w fun e w' => e = .returned (.bool true) ∧ w' = w) := isPerson_yes w who h.1
  have HL : Hid (Calls Tryd.prog 26 #[.int .i64 ep] w fun e w' => e = .returned (.bool true) ∧ w' = w) := isLater_yes w ep h.2
  have h1 : ((n : Int) == 32) = false := by rw [beq_eq_false_iff_ne]; omega
  clear h hn
  go_enter Tryd.func12, Tryd.ntmps12
  go_wp2_with fail
  refine HP.out.mono ?_
  rintro e w1 ⟨rfl, hw⟩
  obtain rfl : w = w1 := hw.symm
  clear hw
  go_wp2_with fail
  refine HL.out.mono ?_
  rintro e w1 ⟨rfl, hw⟩
  obtain rfl : w = w1 := hw.symm
  clear hw
  go_wp2_with fail
  go_ret2
  exact ⟨rfl, rfl⟩
theorem wrap_lit (w : World) : Src (w.alloc (.cells #[.int .u8 119, .int .u8 114, .int .u8 97, .int .u8 112] 5 (4, 5))) (.slice (some ⟨w.heap.size, 0, none⟩) 4 4) wraB ∧ By w.heap.size (w.alloc (.cells #[.int .u8 119, .int .u8 114, .int .u8 97, .int .u8 112] 5 (4, 5))) (.slice (some ⟨w.heap.size, 0, none⟩) 4 4) wraB := by
  have h0 : (w.alloc (.cells #[.int .u8 119, .int .u8 114, .int .u8 97, .int .u8 112] 5 (4, 5))).heap[w.heap.size]? = some (.cells #[.int .u8 119, .int .u8 114, .int .u8 97, .int .u8 112] 5 (4, 5)) := heap_alloc_new w _
  have hr := rangeAt_of_row (t := 5) (fr := (4, 5)) h0
  exact ⟨Src.row (by decide) (by decide) hr rfl, by decide, .inr (.inr ⟨w.heap.size, 0, 4, rfl, by decide, hr, .inr ⟨_, _, h0⟩⟩)⟩
set_option maxHeartbeats 2000000 in
theorem Wrap_ok (who : Int) (ep : Nat) (q : Option Addr) (c : Nat) (t : List Nat) (hB : B ≤ w.heap.size) (h5 : some 5 ∉ ts) (hw : 1 ≤ who ∧ who ≤ 16) (hep : 1 ≤ ep ∧ ep ≤ 16) (ht : By B w (.slice q 32 c) t) (R : Value → World → Prop)
    (hk : ∀ w1, Below w.heap.size w w1 → Calls Tryd.prog 37 #[sp, kv, .string (strB memB), .int .i64 who] w1 fun e w' => ∃ u, e = .returned u ∧ w'.ownsRow w1.heap.size 5 1 u 32 (ints .u8 r) ∧ I w' ∧ Fr bs ts B w1 w')
    (hr : ∀ x ∈ r, x < 256) (hI : ∀ w1 w2, I w1 → Below w1.heap.size w1 w2 → I w2)
    (hseal : ∀ w1 u nv ov, I w1 → By B w1 u r → By B w1 nv (non 0 ep) → By B w1 ov wraB → By B w1 (.slice q 32 c) t → B ≤ w1.heap.size → Calls Tryd.prog 28 #[sp, u, nv, ov, .slice q 32 c] w1 fun e w' => ∃ v, e = .returned (.tuple #[v, .int .i64 0]) ∧ R v w' ∧ Fr bs ts B w1 w') :
    Calls Tryd.prog 12 #[sp, kv, .int .i64 who, .int .i64 (ep : Int), .slice q 32 c] w fun e w' => ∃ v, e = .returned (.tuple #[v, .int .i64 0]) ∧ R v w' ∧ Fr bs ts B w w' := by
  have HP : Hid (Calls Tryd.prog 25 #[.int .i64 who] w fun e w' => e = .returned (.bool true) ∧ w' = w) := isPerson_yes w who hw
  have HL : Hid (Calls Tryd.prog 26 #[.int .i64 (ep : Int)] w fun e w' => e = .returned (.bool true) ∧ w' = w) := isLater_yes w ep (by omega)
  have HK : Hid (Calls Tryd.prog 27 #[sp, kv, .int .i64 who, .int .i64 (ep : Int)] w fun e w' => ∃ u nv, e = .returned (.tuple #[u, nv]) ∧ w'.ownsRow w.heap.size 5 1 u 32 (ints .u8 r) ∧ By B w' nv (non 0 ep) ∧ I w' ∧ Fr bs ts B w w') := lock_any who ep hB h5 (by omega) hk
  have HT : Hid (By B w (.slice q 32 c) t ∧ some 5 ∉ ts ∧ (∀ x ∈ r, x < 256) ∧ B ≤ w.heap.size ∧ ∀ w1 w2, I w1 → Below w1.heap.size w1 w2 → I w2) := ⟨ht, h5, hr, hB, hI⟩
  have HS : Hid (∀ w1 u nv ov, I w1 → By B w1 u r → By B w1 nv (non 0 ep) → By B w1 ov wraB → By B w1 (.slice q 32 c) t → B ≤ w1.heap.size → Calls Tryd.prog 28 #[sp, u, nv, ov, .slice q 32 c] w1 fun e w' => ∃ v, e = .returned (.tuple #[v, .int .i64 0]) ∧ R v w' ∧ Fr bs ts B w1 w') := hseal
  clear hB h5 hw hep ht hk hr hI hseal
  go_enter Tryd.func12, Tryd.ntmps12
  go_wp2_with fail
  refine HP.out.mono ?_
  rintro e w1 ⟨rfl, hw⟩
  obtain rfl : w = w1 := hw.symm
  clear hw
  go_wp2_with fail
  refine HL.out.mono ?_
  rintro e w1 ⟨rfl, hw⟩
  obtain rfl : w = w1 := hw.symm
  clear hw
  go_wp2_with fail
  refine HK.out.mono ?_
  rintro e w1 ⟨u, nv, rfl, h1, h2, h3, h4⟩
  have hcv := Lib.run_convert_bytes_const (P := Tryd.prog) w1 22 5 #[.int .u8 119, .int .u8 114, .int .u8 97, .int .u8 112] 4 4 Tryd.underlying22 Tryd.underlying5
  have hb2 : Below w1.heap.size w1 (w1.alloc (.cells #[.int .u8 119, .int .u8 114, .int .u8 97, .int .u8 112] 5 (4, 5))) := below_alloc' w1 _
  have hl := (wrap_lit w1).2
  generalize hW2 : w1.alloc (.cells #[.int .u8 119, .int .u8 114, .int .u8 97, .int .u8 112] 5 (4, 5)) = w2 at hcv hb2 hl
  have hB1 : B ≤ w1.heap.size := Nat.le_trans HT.out.2.2.2.1 h4.size
  have hlB : By B w2 (.slice (some ⟨w1.heap.size, 0, none⟩) 4 4) wraB := by
    obtain ⟨hs, h | h | ⟨b, o, c, e1, e2, e3, e4 | e4⟩⟩ := hl
    · exact ⟨hs, .inl h⟩
    · exact ⟨hs, .inr (.inl h)⟩
    · cases e1; omega
    · exact ⟨hs, .inr (.inr ⟨b, o, c, e1, e2, e3, .inr e4⟩)⟩
  have HC : Hid (Calls Tryd.prog 28 #[sp, u, nv, .slice (some ⟨w1.heap.size, 0, none⟩) 4 4, .slice q 32 c] w2 fun e w' => ∃ v, e = .returned (.tuple #[v, .int .i64 0]) ∧ R v w' ∧ Fr bs ts B w w') := by
    refine (HS.out w2 u nv _ (HT.out.2.2.2.2 _ _ h3 hb2) ((By.own (B := B) HT.out.2.2.1 h1).below hb2) (h2.below hb2) hlB ((HT.out.1.kx h4.kx HT.out.2.1).below hb2) (Nat.le_trans hB1 hb2.size)).mono ?_
    rintro e w' ⟨v, rfl, k1, k2⟩
    exact ⟨v, rfl, k1, (h4.trans (Fr.of_below hb2 hB1)).trans k2⟩
  clear h1 h2 h3 h4 hb2 hl hB1 hlB hW2 HS HT HK HP HL
  go_wp2_with fail
  refine HC.out.mono ?_
  rintro e w3 ⟨v, rfl, k1, k2⟩
  have HZ : Hid (R v w3 ∧ Fr bs ts B w w3) := ⟨k1, k2⟩
  clear k1 k2 HC hcv
  go_wp2_with fail
  go_ret2
  exact ⟨_, rfl, HZ.out⟩
end
end Go.Proofs.YtagdlpodpokmmaaDoor.S7
/- Unwrap, whatever the suite. -/
namespace Go.Proofs.YtagdlpodpokmmaaDoor.S7
open Go.RowKit
theorem Unwrap_range (w : World) (sp kv tv : Value) (who ep : Int) (h : ¬ ((1 ≤ who ∧ who ≤ 16) ∧ 1 ≤ ep ∧ ep ≤ 16)) : Calls Tryd.prog 13 #[sp, kv, .int .i64 who, .int .i64 ep, tv] w fun e w' => e = .returned (.tuple #[.slice none 0 0, .int .i64 12]) ∧ w' = w := by
  by_cases h1 : 1 ≤ who ∧ who ≤ 16
  · have HP : Hid (Calls Tryd.prog 25 #[.int .i64 who] w fun e w' => e = .returned (.bool true) ∧ w' = w) := isPerson_yes w who h1
    have HL : Hid (Calls Tryd.prog 26 #[.int .i64 ep] w fun e w' => e = .returned (.bool false) ∧ w' = w) := isLater_no w ep (fun e => h ⟨h1, e⟩)
    clear h h1
    go_enter Tryd.func13, Tryd.ntmps13
    go_wp2_with fail
    refine HP.out.mono ?_
    rintro e w1 ⟨rfl, hw⟩
    obtain rfl : w = w1 := hw.symm
    clear hw
    go_wp2_with fail
    refine HL.out.mono ?_
    rintro e w1 ⟨rfl, hw⟩
    obtain rfl : w = w1 := hw.symm
    clear hw
    go_wp2_with fail
    go_ret2
    exact ⟨rfl, rfl⟩
  · have HP : Hid (Calls Tryd.prog 25 #[.int .i64 who] w fun e w' => e = .returned (.bool false) ∧ w' = w) := isPerson_no w who h1
    clear h h1
    go_enter Tryd.func13, Tryd.ntmps13
    go_wp2_with fail
    refine HP.out.mono ?_
    rintro e w1 ⟨rfl, hw⟩
    obtain rfl : w = w1 := hw.symm
    clear hw
    go_wp2_with fail
    go_ret2
    exact ⟨rfl, rfl⟩
/-- A text of a key's size. -/
def un32 (r : Option (List Nat)) : Option (List Nat) := match r with
  | some t => if t.length = 32 then some t else none
  | none => none
section
variable {bs : List Nat} {ts : List (Option TypeId)} {B : Nat} {w : World} {I : World → Prop} {r : List Nat} {sp kv bv : Value}
set_option maxHeartbeats 2000000 in
theorem Unwrap_any (who : Int) (ep : Nat) (b : List Nat) (rr : Option (List Nat)) (hB : B ≤ w.heap.size) (h5 : some 5 ∉ ts) (hw : 1 ≤ who ∧ who ≤ 16) (hep : 1 ≤ ep ∧ ep ≤ 16) (hb : By B w bv b)
    (hk : ∀ w1, Below w.heap.size w w1 → Calls Tryd.prog 37 #[sp, kv, .string (strB memB), .int .i64 who] w1 fun e w' => ∃ u, e = .returned u ∧ w'.ownsRow w1.heap.size 5 1 u 32 (ints .u8 r) ∧ I w' ∧ Fr bs ts B w1 w')
    (hr : ∀ x ∈ r, x < 256) (hI : ∀ w1 w2, I w1 → Below w1.heap.size w1 w2 → I w2)
    (hopen : ∀ w1 u nv ov, I w1 → By B w1 u r → By B w1 nv (non 0 ep) → By B w1 ov wraB → By B w1 bv b → B ≤ w1.heap.size → Calls Tryd.prog 29 #[sp, u, nv, ov, bv] w1 fun e w' => OpenSays w1.heap.size rr e w' ∧ Below w1.heap.size w1 w') :
    Calls Tryd.prog 13 #[sp, kv, .int .i64 who, .int .i64 (ep : Int), bv] w fun e w' => OpenSays w.heap.size (un32 rr) e w' ∧ I w' ∧ Fr bs ts B w w' := by
  have HP : Hid (Calls Tryd.prog 25 #[.int .i64 who] w fun e w' => e = .returned (.bool true) ∧ w' = w) := isPerson_yes w who hw
  have HL : Hid (Calls Tryd.prog 26 #[.int .i64 (ep : Int)] w fun e w' => e = .returned (.bool true) ∧ w' = w) := isLater_yes w ep (by omega)
  have HK : Hid (Calls Tryd.prog 27 #[sp, kv, .int .i64 who, .int .i64 (ep : Int)] w fun e w' => ∃ u nv, e = .returned (.tuple #[u, nv]) ∧ w'.ownsRow w.heap.size 5 1 u 32 (ints .u8 r) ∧ By B w' nv (non 0 ep) ∧ I w' ∧ Fr bs ts B w w') := lock_any who ep hB h5 (by omega) hk
  have HT : Hid (By B w bv b ∧ some 5 ∉ ts ∧ (∀ x ∈ r, x < 256) ∧ B ≤ w.heap.size ∧ ∀ w1 w2, I w1 → Below w1.heap.size w1 w2 → I w2) := ⟨hb, h5, hr, hB, hI⟩
  have HS : Hid (∀ w1 u nv ov, I w1 → By B w1 u r → By B w1 nv (non 0 ep) → By B w1 ov wraB → By B w1 bv b → B ≤ w1.heap.size → Calls Tryd.prog 29 #[sp, u, nv, ov, bv] w1 fun e w' => OpenSays w1.heap.size rr e w' ∧ Below w1.heap.size w1 w') := hopen
  clear hB h5 hw hep hb hk hr hI hopen
  go_enter Tryd.func13, Tryd.ntmps13
  go_wp2_with fail
  refine HP.out.mono ?_
  rintro e w1 ⟨rfl, hw⟩
  obtain rfl : w = w1 := hw.symm
  clear hw
  go_wp2_with fail
  refine HL.out.mono ?_
  rintro e w1 ⟨rfl, hw⟩
  obtain rfl : w = w1 := hw.symm
  clear hw
  go_wp2_with fail
  refine HK.out.mono ?_
  rintro e w1 ⟨u, nv, rfl, h1, h2, h3, h4⟩
  have hcv := Lib.run_convert_bytes_const (P := Tryd.prog) w1 22 5 #[.int .u8 119, .int .u8 114, .int .u8 97, .int .u8 112] 4 4 Tryd.underlying22 Tryd.underlying5
  have hb2 : Below w1.heap.size w1 (w1.alloc (.cells #[.int .u8 119, .int .u8 114, .int .u8 97, .int .u8 112] 5 (4, 5))) := below_alloc' w1 _
  have hl := (wrap_lit w1).2
  generalize hW2 : w1.alloc (.cells #[.int .u8 119, .int .u8 114, .int .u8 97, .int .u8 112] 5 (4, 5)) = w2 at hcv hb2 hl
  have hB1 : B ≤ w1.heap.size := Nat.le_trans HT.out.2.2.2.1 h4.size
  have hlB : By B w2 (.slice (some ⟨w1.heap.size, 0, none⟩) 4 4) wraB := by
    obtain ⟨hs, h | h | ⟨b, o, c, e1, e2, e3, e4 | e4⟩⟩ := hl
    · exact ⟨hs, .inl h⟩
    · exact ⟨hs, .inr (.inl h)⟩
    · cases e1; omega
    · exact ⟨hs, .inr (.inr ⟨b, o, c, e1, e2, e3, .inr e4⟩)⟩
  have HC : Hid (Calls Tryd.prog 29 #[sp, u, nv, .slice (some ⟨w1.heap.size, 0, none⟩) 4 4, bv] w2 fun e w' => OpenSays w.heap.size rr e w' ∧ I w' ∧ Fr bs ts B w w') := by
    refine (HS.out w2 u nv _ (HT.out.2.2.2.2 _ _ h3 hb2) ((By.own (B := B) HT.out.2.2.1 h1).below hb2) (h2.below hb2) hlB ((HT.out.1.kx h4.kx HT.out.2.1).below hb2) (Nat.le_trans hB1 hb2.size)).mono ?_
    rintro e w' ⟨k1, k2⟩
    refine ⟨?_, HT.out.2.2.2.2 _ _ (HT.out.2.2.2.2 _ _ h3 hb2) k2, (h4.trans (Fr.of_below hb2 hB1)).trans (Fr.of_below k2 (Nat.le_trans hB1 hb2.size))⟩
    cases rr with
    | none => exact k1
    | some t =>
      obtain ⟨v, e1, e2, e3⟩ := k1
      exact ⟨v, e1, e2, fun b hb => Nat.le_trans (Nat.le_trans h4.size hb2.size) (e3 b hb)⟩
  clear h1 h2 h3 h4 hb2 hl hB1 hlB hW2 HS HT HK HP HL
  go_wp2_with fail
  refine HC.out.mono ?_
  rintro e w3 ⟨k1, k2, k3⟩
  have HZ : Hid (I w3 ∧ Fr bs ts B w w3) := ⟨k2, k3⟩
  clear k2 k3 HC hcv
  cases rr with
  | none =>
    replace k1 : e = .returned (.tuple #[.slice none 0 0, .int .i64 20]) := k1
    subst k1
    go_wp2_with fail
    go_ret2
    exact ⟨rfl, HZ.out⟩
  | some t =>
    obtain ⟨v, rfl, hs, hv⟩ := k1
    have HV : Hid (Src w3 v t ∧ ∀ b, v.ownBlock = some b → w.heap.size ≤ b) := ⟨hs, hv⟩
    obtain ⟨vq, vc, rfl, -⟩ := hs.slice
    clear hs hv
    by_cases h32 : t.length = 32
    · have HU : Hid (un32 (some t) = some t) := by show un32 _ = _; simp [un32, h32]
      rw [h32] at HV ⊢
      clear h32
      go_wp2_with fail
      go_ret2
      rw [HU.out]
      exact ⟨⟨_, rfl, HV.out⟩, HZ.out⟩
    · have HU : Hid (un32 (some t) = none) := by show un32 _ = _; simp [un32, h32]
      have h1 : ((t.length : Int) == 32) = false := by rw [beq_eq_false_iff_ne]; omega
      clear h32 HV
      go_wp2_with fail
      go_ret2
      rw [HU.out]
      exact ⟨rfl, HZ.out⟩
end
end Go.Proofs.YtagdlpodpokmmaaDoor.S7
/- A ring in memory: has, Key, Learn, Newest, New. -/
namespace Go.Proofs.YtagdlpodpokmmaaDoor.S7
open Go.RowKit
/-- A ring: its own block of seventeen cells, and what keys it has. -/
structure RgIs (B : Nat) (w : World) (r : Nat) (xs : List Value) (ks : Nat → Option (List Nat)) : Prop where
  low : B ≤ r
  box : w.heap[r]? = some (.cells xs.toArray 70 (0, 0))
  len : xs.length = 17
  no : ∀ i, i < 17 → ks i = none → xs[i]? = some (.slice none 0 0)
  yes : ∀ i l, i < 17 → ks i = some l → l.length = 32 ∧ ∃ ad c, xs[i]? = some (.slice (some ad) 32 c) ∧ By B w (.slice (some ad) 32 c) l
section
variable {B : Nat} {w w' : World} {r : Nat} {xs : List Value} {ks : Nat → Option (List Nat)} {ts : List (Option TypeId)}
theorem RgIs.lt (h : RgIs B w r xs ks) : r < w.heap.size := (Array.getElem?_eq_some_iff.1 h.box).1
theorem RgIs.cell (h : RgIs B w r xs ks) (i : Nat) : w.cell? ⟨r, i, none⟩ = xs[i]? := by
  rw [cell_of_row _ _ _ _ _ _ h.box]
  simp
theorem RgIs.froz (h : RgIs B w r xs ks) (i : Nat) : w.frozen? ⟨r, i, none⟩ = false := frozen_of_row _ _ _ _ _ h.box
theorem RgIs.below (h : RgIs B w r xs ks) (hb : Below w.heap.size w w') : RgIs B w' r xs ks :=
  ⟨h.low, (hb.block r h.lt).trans h.box, h.len, h.no, fun i l h1 h2 => by
    obtain ⟨h3, ad, c, h4, h5⟩ := h.yes i l h1 h2
    exact ⟨h3, ad, c, h4, h5.below hb⟩⟩
theorem RgIs.kx (h : RgIs B w r xs ks) (hk : Kx ts B w w') (h5 : some 5 ∉ ts) (hr : some 70 ∉ ts) : RgIs B w' r xs ks :=
  ⟨h.low, hk.row r _ h.box hr, h.len, h.no, fun i l h1 h2 => by
    obtain ⟨h3, ad, c, h4, h6⟩ := h.yes i l h1 h2
    exact ⟨h3, ad, c, h4, h6.kx hk h5⟩⟩
set_option maxHeartbeats 1000000 in
theorem has_out (w : World) (rp : Value) (i : Int) (hi : i < 0 ∨ 17 ≤ i) : Calls Tryd.prog 38 #[rp, .int .i64 i] w fun e w' => e = .returned (.bool false) ∧ w' = w := by
  by_cases h1 : 0 ≤ i
  · have h2 : ¬ i < 17 := by omega
    clear hi
    go_enter Tryd.func38, Tryd.ntmps38
    go_wp2_with fail
    go_ret
    exact ⟨rfl, rfl⟩
  · clear hi
    go_enter Tryd.func38, Tryd.ntmps38
    go_wp2_with fail
    go_ret
    exact ⟨rfl, rfl⟩
set_option maxHeartbeats 1000000 in
theorem has_no (h : RgIs B w r xs ks) (j : Nat) (hj : j < 17) (hk : ks j = none) : Calls Tryd.prog 38 #[.pointer (some ⟨r, 0, none⟩), .int .i64 (j : Int)] w fun e w' => e = .returned (.bool false) ∧ w' = w := by
  have hc : w.cell? ⟨r, j, none⟩ = some (.slice none 0 0) := (h.cell j).trans (h.no j hj hk)
  have hnil : (binOp .neq 22 (.slice none 0 0) (.slice none 0 0)).run Tryd.prog w = .ok (.bool false) w := run_neq_slice_nil_any w 22 5 none 0 0 0 0 Tryd.underlying22
  have h1 : (0 : Int) ≤ (j : Int) := by omega
  have h2 : (j : Int) < 17 := by omega
  clear h hk
  go_enter Tryd.func38, Tryd.ntmps38
  go_wp2_with fail
  go_ret
  exact ⟨rfl, rfl⟩
set_option maxHeartbeats 1000000 in
theorem has_yes (h : RgIs B w r xs ks) (j : Nat) (hj : j < 17) {l : List Nat} (hk : ks j = some l) : Calls Tryd.prog 38 #[.pointer (some ⟨r, 0, none⟩), .int .i64 (j : Int)] w fun e w' => e = .returned (.bool true) ∧ w' = w := by
  obtain ⟨_, ad, c, hx, _⟩ := h.yes j l hj hk
  have hc : w.cell? ⟨r, j, none⟩ = some (.slice (some ad) 32 c) := (h.cell j).trans hx
  have hnil : (binOp .neq 22 (.slice (some ad) 32 c) (.slice none 0 0)).run Tryd.prog w = .ok (.bool true) w := run_neq_slice_nil_any w 22 5 (some ad) 32 c 0 0 Tryd.underlying22
  have h1 : (0 : Int) ≤ (j : Int) := by omega
  have h2 : (j : Int) < 17 := by omega
  clear h hk hx
  go_enter Tryd.func38, Tryd.ntmps38
  go_wp2_with fail
  go_ret
  exact ⟨rfl, rfl⟩
theorem has_any (h : RgIs B w r xs ks) (j : Nat) (hj : j < 17) : Calls Tryd.prog 38 #[.pointer (some ⟨r, 0, none⟩), .int .i64 (j : Int)] w fun e w' => e = .returned (.bool (ks j).isSome) ∧ w' = w := by
  cases hk : ks j with
  | none => exact has_no h j hj hk
  | some l => exact has_yes h j hj hk
/-- The greatest with a key, of so many. -/
def nw (ks : Nat → Option (List Nat)) : Nat → Nat
  | 0 => 0
  | j + 1 => if (ks j).isSome = true then j else nw ks j
theorem nw_le (ks : Nat → Option (List Nat)) : ∀ j, nw ks j ≤ j
  | 0 => Nat.le_refl _
  | j + 1 => by
    unfold nw
    split
    · omega
    · exact Nat.le_trans (nw_le ks j) (Nat.le_succ _)
set_option maxHeartbeats 1000000 in
theorem Newest_any (h : RgIs B w r xs ks) : Calls Tryd.prog 22 #[.pointer (some ⟨r, 0, none⟩)] w fun e w' => e = .returned (.int .i64 (nw ks 17 : Int)) ∧ w' = w := by
  have HH : Hid (∀ j : Nat, j < 17 → Calls Tryd.prog 38 #[.pointer (some ⟨r, 0, none⟩), .int .i64 (j : Int)] w fun e w' => e = .returned (.bool (ks j).isSome) ∧ w' = w) := fun j hj => has_any h j hj
  clear h
  go_enter Tryd.func22, Tryd.ntmps22
  go_wp2_with fail
  go_loopw [3, 5] (fun v i wr => ∃ j : Nat, j ≤ 17 ∧ i = .int .i64 j ∧ v = .int .i64 (nw ks j : Int) ∧ Hid (wr = w)) (fun _ i _ => 17 - (intOf i).toNat)
  case atStart => exact ⟨0, by omega, rfl, rfl, rfl⟩
  case round =>
    obtain ⟨j, hj, rfl, rfl, hw⟩ := hrel
    obtain rfl : w = wr := hw.out.symm
    clear hw
    have j0 : (0 : Int) ≤ (j : Int) := by omega
    by_cases hlt : j < 17
    · have j1 : (j : Int) < 17 := by omega
      have HN : Hid (nw ks (j + 1) = if (ks j).isSome = true then j else nw ks j) := rfl
      go_wp2_with fail
      refine (HH.out j hlt).mono ?_
      rintro e w1 ⟨rfl, hw⟩
      obtain rfl : w = w1 := hw.symm
      clear hw
      cases hb : (ks j).isSome with
      | true =>
        rw [hb, if_pos rfl] at HN
        clear hb
        go_wp2_with fail
        refine ⟨⟨j + 1, by omega, by simp, by rw [HN.out], trivial⟩, ?_⟩
        simp only [intOf]
        omega
      | false =>
        rw [hb, if_neg (by decide)] at HN
        clear hb
        go_wp2_with fail
        refine ⟨⟨j + 1, by omega, by simp, by rw [HN.out], trivial⟩, ?_⟩
        simp only [intOf]
        omega
    · obtain rfl : j = 17 := by omega
      clear HH
      go_wp2_with fail
      go_ret
      exact ⟨rfl, rfl⟩
theorem Key_out (w : World) (r : Nat) (i : Int) (hh : Calls Tryd.prog 38 #[.pointer (some ⟨r, 0, none⟩), .int .i64 i] w fun e w' => e = .returned (.bool false) ∧ w' = w) : Calls Tryd.prog 21 #[.pointer (some ⟨r, 0, none⟩), .int .i64 i] w fun e w' => e = .returned (.tuple #[.slice none 0 0, .bool false]) ∧ w' = w := by
  have HH : Hid (Calls Tryd.prog 38 #[.pointer (some ⟨r, 0, none⟩), .int .i64 i] w fun e w' => e = .returned (.bool false) ∧ w' = w) := hh
  clear hh
  go_enter Tryd.func21, Tryd.ntmps21
  go_wp2_with fail
  refine HH.out.mono ?_
  rintro e w1 ⟨rfl, hw⟩
  obtain rfl : w = w1 := hw.symm
  clear hw
  go_wp2_with fail
  go_ret2
  exact ⟨rfl, rfl⟩
set_option maxHeartbeats 1000000 in
theorem Key_yes (h : RgIs B w r xs ks) (j : Nat) (hj : j < 17) {l : List Nat} (hk : ks j = some l) : Calls Tryd.prog 21 #[.pointer (some ⟨r, 0, none⟩), .int .i64 (j : Int)] w fun e w' => ∃ u, e = .returned (.tuple #[u, .bool true]) ∧ w'.ownsRow w.heap.size 5 1 u 32 (ints .u8 l) ∧ Below w.heap.size w w' := by
  have HH : Hid (Calls Tryd.prog 38 #[.pointer (some ⟨r, 0, none⟩), .int .i64 (j : Int)] w fun e w' => e = .returned (.bool true) ∧ w' = w) := has_yes h j hj hk
  obtain ⟨h32, ad, c, hx, hby⟩ := h.yes j l hj hk
  have hc : w.cell? ⟨r, j, none⟩ = some (.slice (some ad) 32 c) := (h.cell j).trans hx
  have HC : Hid (Calls Tryd.prog 23 #[.slice (some ad) 32 c] w fun e w' => ∃ u, e = .returned u ∧ w'.ownsRow w.heap.size 5 1 u 32 (ints .u8 l) ∧ Below w.heap.size w w') := by
    have := clone_any _ w hby.src (by omega)
    rw [h32] at this
    exact this
  have h1 : (0 : Int) ≤ (j : Int) := by omega
  have h2 : (j : Int) < 17 := by omega
  clear h hk hx hby h32
  go_enter Tryd.func21, Tryd.ntmps21
  go_wp2_with fail
  refine HH.out.mono ?_
  rintro e w1 ⟨rfl, hw⟩
  obtain rfl : w = w1 := hw.symm
  clear hw
  go_wp2_with fail
  refine HC.out.mono ?_
  rintro e w1 ⟨u, rfl, h3, h4⟩
  have HZ : Hid (w1.ownsRow w.heap.size 5 1 u 32 (ints .u8 l) ∧ Below w.heap.size w w1) := ⟨h3, h4⟩
  clear h3 h4 HC HH
  go_wp2_with fail
  go_ret2
  exact ⟨_, rfl, HZ.out⟩
/-- What keys there are behind one more. -/
def lrn (ks : Nat → Option (List Nat)) (j : Nat) (l : List Nat) : Nat → Option (List Nat) := fun i => if i = j then some l else ks i
theorem RgIs.put (h : RgIs B w r xs ks) {j : Nat} (hj : j < 17) {ad : Addr} {c : Nat} {l : List Nat} (hl : l.length = 32) (hb : By B w (.slice (some ad) 32 c) l) (hB : B ≤ w.heap.size) :
    RgIs B (w.setCell ⟨r, j, none⟩ (.slice (some ad) 32 c)) r (xs.set j (.slice (some ad) 32 c)) (lrn ks j l) ∧ Kx [some 70] B w (w.setCell ⟨r, j, none⟩ (.slice (some ad) 32 c)) ∧ Only [r] w (w.setCell ⟨r, j, none⟩ (.slice (some ad) 32 c)) := by
  have ho : Only [r] w (w.setCell ⟨r, j, none⟩ (.slice (some ad) 32 c)) := Only.setCell _ _ _ (by simp)
  have hk : Kx [some 70] B w (w.setCell ⟨r, j, none⟩ (.slice (some ad) 32 c)) := Kx.of_only ho hB (fun y hy => by
    rw [List.mem_singleton.1 hy]
    exact ⟨h.low, fun o ho => by rw [h.box] at ho; cases ho; simp [tyOf]⟩)
  refine ⟨⟨h.low, ?_, by rw [List.length_set]; exact h.len, fun i hi hn => ?_, fun i m hi hm => ?_⟩, hk, ho⟩
  · have := heap_setCell_same w r j xs.toArray 70 (.slice (some ad) 32 c) h.box
    rw [this]
    simp
  · unfold lrn at hn
    by_cases e : i = j
    · rw [if_pos e] at hn; cases hn
    · rw [if_neg e] at hn
      rw [List.getElem?_set_ne (Ne.symm e)]
      exact h.no i hi hn
  · unfold lrn at hm
    by_cases e : i = j
    · rw [if_pos e] at hm
      cases hm
      subst e
      exact ⟨hl, ad, c, by rw [List.getElem?_set_self (by rw [h.len]; exact hj)], hb.kx hk (by decide)⟩
    · rw [if_neg e] at hm
      obtain ⟨h3, ad', c', h4, h6⟩ := h.yes i m hi hm
      exact ⟨h3, ad', c', by rw [List.getElem?_set_ne (Ne.symm e)]; exact h4, h6.kx hk (by decide)⟩
theorem Learn_range (w : World) (rp tv : Value) (i : Int) (h : ¬ (1 ≤ i ∧ i ≤ 16)) : Calls Tryd.prog 20 #[rp, .int .i64 i, tv] w fun e w' => e = .returned (.int .i64 12) ∧ w' = w := by
  have HL : Hid (Calls Tryd.prog 26 #[.int .i64 i] w fun e w' => e = .returned (.bool false) ∧ w' = w) := isLater_no w i h
  clear h
  go_enter Tryd.func20, Tryd.ntmps20
  go_wp2_with fail
  refine HL.out.mono ?_
  rintro e w1 ⟨rfl, hw⟩
  obtain rfl : w = w1 := hw.symm
  clear hw
  go_wp2_with fail
  go_ret
  exact ⟨rfl, rfl⟩
theorem Learn_size (w : World) (rp : Value) (i : Int) (h : 1 ≤ i ∧ i ≤ 16) (q : Option Addr) (n c : Nat) (hn : n ≠ 32) : Calls Tryd.prog 20 #[rp, .int .i64 i, .slice q n c] w fun e w' => e = .returned (.int .i64 11) ∧ w' = w := by
  have HL : Hid (Calls Tryd.prog 26 #[.int .i64 i] w fun e w' => e = .returned (.bool true) ∧ w' = w) := isLater_yes w i h
  have h1 : ((n : Int) == 32) = false := by rw [beq_eq_false_iff_ne]; omega
  clear h hn
  go_enter Tryd.func20, Tryd.ntmps20
  go_wp2_with fail
  refine HL.out.mono ?_
  rintro e w1 ⟨rfl, hw⟩
  obtain rfl : w = w1 := hw.symm
  clear hw
  go_wp2_with fail
  go_ret
  exact ⟨rfl, rfl⟩
theorem Learn_twice (h : RgIs B w r xs ks) (j : Nat) (hj : 1 ≤ j ∧ j ≤ 16) {l : List Nat} (hk : ks j = some l) (q : Option Addr) (c : Nat) : Calls Tryd.prog 20 #[.pointer (some ⟨r, 0, none⟩), .int .i64 (j : Int), .slice q 32 c] w fun e w' => e = .returned (.int .i64 31) ∧ w' = w := by
  have HL : Hid (Calls Tryd.prog 26 #[.int .i64 (j : Int)] w fun e w' => e = .returned (.bool true) ∧ w' = w) := isLater_yes w j (by omega)
  have HH : Hid (Calls Tryd.prog 38 #[.pointer (some ⟨r, 0, none⟩), .int .i64 (j : Int)] w fun e w' => e = .returned (.bool true) ∧ w' = w) := has_yes h j (by omega) hk
  clear h hk hj
  go_enter Tryd.func20, Tryd.ntmps20
  go_wp2_with fail
  refine HL.out.mono ?_
  rintro e w1 ⟨rfl, hw⟩
  obtain rfl : w = w1 := hw.symm
  clear hw
  go_wp2_with fail
  refine HH.out.mono ?_
  rintro e w1 ⟨rfl, hw⟩
  obtain rfl : w = w1 := hw.symm
  clear hw
  go_wp2_with fail
  go_ret
  exact ⟨rfl, rfl⟩
set_option maxHeartbeats 2000000 in
theorem Learn_ok (h : RgIs B w r xs ks) (j : Nat) (hj : 1 ≤ j ∧ j ≤ 16) (hk : ks j = none) (q : Option Addr) (c : Nat) (l : List Nat) (hl : Src w (.slice q 32 c) l) (hB : B ≤ w.heap.size) : Calls Tryd.prog 20 #[.pointer (some ⟨r, 0, none⟩), .int .i64 (j : Int), .slice q 32 c] w fun e w' => e = .returned (.int .i64 0) ∧ (∃ xs', RgIs B w' r xs' (lrn ks j l)) ∧ Kx [some 70] B w w' ∧ Only [r] w w' := by
  have HL : Hid (Calls Tryd.prog 26 #[.int .i64 (j : Int)] w fun e w' => e = .returned (.bool true) ∧ w' = w) := isLater_yes w j (by omega)
  have HH : Hid (Calls Tryd.prog 38 #[.pointer (some ⟨r, 0, none⟩), .int .i64 (j : Int)] w fun e w' => e = .returned (.bool false) ∧ w' = w) := has_no h j (by omega) hk
  have hll : l.length = 32 := by
    obtain ⟨p', c', e, _⟩ := hl.slice
    simp only [Value.slice.injEq] at e
    exact e.2.1.symm
  have HC : Hid (∀ n, Calls Tryd.prog 23 #[.slice q 32 c] (w.drewN n) fun e w1 => ∃ ad cc, e = .returned (.slice (some ad) 32 cc) ∧ w1.cell? ⟨r, j, none⟩ = some (.slice none 0 0) ∧ w1.frozen? ⟨r, j, none⟩ = false ∧ (∃ xs', RgIs B (w1.setCell ⟨r, j, none⟩ (.slice (some ad) 32 cc)) r xs' (lrn ks j l)) ∧ Kx [some 70] B w (w1.setCell ⟨r, j, none⟩ (.slice (some ad) 32 cc)) ∧ Only [r] w (w1.setCell ⟨r, j, none⟩ (.slice (some ad) 32 cc))) := fun n => by
    have hb0 := below_drewN n w w.heap.size
    refine (clone_any _ (w.drewN n) (hl.below hb0) (by omega)).mono ?_
    rintro e w1 ⟨u, rfl, ho, hb⟩
    rw [hll] at ho
    obtain ⟨gg, cc, rfl, _⟩ := own_cell ho (by decide)
    have hb1 : Below w.heap.size w w1 := hb0.trans hb
    have h1 := h.below hb1
    have hB1 : B ≤ w1.heap.size := Nat.le_trans hB hb1.size
    obtain ⟨k1, k2, k3⟩ := h1.put (j := j) (by omega) hll (By.own (B := B) hl.small ho) hB1
    exact ⟨_, cc, rfl, (h1.cell j).trans (h1.no j (by omega) hk), h1.froz j, ⟨_, k1⟩, (Kx.of_below hb1 hB).trans k2, (Only.of_below hb1 _).trans k3⟩
  have h1 : (0 : Int) ≤ (j : Int) := by omega
  have h2 : (j : Int) < 17 := by omega
  clear h hk hj hl hB hll
  go_enter Tryd.func20, Tryd.ntmps20
  go_wp2_with fail
  refine HL.out.mono ?_
  rintro e w1 ⟨rfl, hw⟩
  obtain rfl : w = w1 := hw.symm
  clear hw
  go_wp2_with fail
  refine HH.out.mono ?_
  rintro e w1 ⟨rfl, hw⟩
  obtain rfl : w = w1 := hw.symm
  clear hw
  go_wp2_with fail
  go_region_with ((go_at_call 23; refine (HC.out 1).mono ?_; rintro e w1 ⟨ad, cc, rfl, e1, e2, e3, e4, e5⟩; have HZ : Hid ((∃ xs', RgIs B (w1.setCell ⟨r, j, none⟩ (.slice (some ad) 32 cc)) r xs' (lrn ks j l)) ∧ Kx [some 70] B w (w1.setCell ⟨r, j, none⟩ (.slice (some ad) 32 cc)) ∧ Only [r] w (w1.setCell ⟨r, j, none⟩ (.slice (some ad) 32 cc))) := ⟨e3, e4, e5⟩; clear e3 e4 e5))
  all_goals
    go_wp2_with fail
    go_ret
    exact ⟨rfl, HZ.out⟩
end
def nil17 : List Value := List.replicate 17 (.slice none 0 0)
section
variable {bs : List Nat} {ts : List (Option TypeId)} {B : Nat} {w : World} {I : World → Prop} {l : List Nat} {sp kv : Value}
set_option maxHeartbeats 2000000 in
theorem New_any (hB : B ≤ w.heap.size) (h5 : some 5 ∉ ts) (hrg : some 70 ∉ ts) (hl : l.length = 32) (hs : ∀ x ∈ l, x < 256)
    (hk : ∀ w1, Below w.heap.size w w1 → Calls Tryd.prog 37 #[sp, kv, .string (strB epoB), .int .i64 0] w1 fun e w' => ∃ u, e = .returned u ∧ w'.ownsRow w1.heap.size 5 1 u 32 (ints .u8 l) ∧ I w' ∧ Fr bs ts B w1 w')
    (hI : ∀ w1 w2 r, I w1 → w.heap.size ≤ r → Only [r] w1 w2 → I w2) :
    Calls Tryd.prog 19 #[sp, kv] w fun e w' => ∃ r xs, e = .returned (.pointer (some ⟨r, 0, none⟩)) ∧ w.heap.size ≤ r ∧ RgIs B w' r xs (lrn (fun _ => none) 0 l) ∧ I w' ∧ Only bs w w' ∧ Kx (some 70 :: ts) B w w' := by
  have HK : Hid (∀ n, Calls Tryd.prog 37 #[sp, kv, .string ⟨#[101, 112, 111, 99, 104]⟩, .int .i64 0] ((w.alloc (.cells nil17.toArray 70)).drewN n) fun e w1 => ∃ ad cc, e = .returned (.slice (some ad) 32 cc) ∧ w1.cell? ⟨w.heap.size, 0, none⟩ = some (.slice none 0 0) ∧ w1.frozen? ⟨w.heap.size, 0, none⟩ = false ∧ (∃ xs', RgIs B (w1.setCell ⟨w.heap.size, 0, none⟩ (.slice (some ad) 32 cc)) w.heap.size xs' (lrn (fun _ => none) 0 l)) ∧ I (w1.setCell ⟨w.heap.size, 0, none⟩ (.slice (some ad) 32 cc)) ∧ Only bs w (w1.setCell ⟨w.heap.size, 0, none⟩ (.slice (some ad) 32 cc)) ∧ Kx (some 70 :: ts) B w (w1.setCell ⟨w.heap.size, 0, none⟩ (.slice (some ad) 32 cc))) := fun n => by
    have hb0 : Below w.heap.size w ((w.alloc (.cells nil17.toArray 70)).drewN n) := (below_alloc' w _).trans (below_drewN n _ _)
    have hr0 : RgIs B ((w.alloc (.cells nil17.toArray 70)).drewN n) w.heap.size nil17 (fun _ => none) := ⟨hB, heap_alloc_new w _, rfl, fun i hi _ => by unfold nil17; rw [List.getElem?_replicate, if_pos hi], fun i m _ hm => by cases hm⟩
    rw [epoS]
    refine (hk _ hb0).mono ?_
    rintro e w1 ⟨u, rfl, ho, hi, hf⟩
    obtain ⟨gg, cc, rfl, _⟩ := own_cell ho (by decide)
    have h1 := hr0.kx hf.kx h5 hrg
    have hB1 : B ≤ w1.heap.size := Nat.le_trans hB (Nat.le_trans hb0.size hf.size)
    obtain ⟨k1, k2, k3⟩ := h1.put (j := 0) (by omega) hl (By.own (B := B) hs ho) hB1
    refine ⟨_, cc, rfl, (h1.cell 0).trans (h1.no 0 (by omega) rfl), h1.froz 0, ⟨_, k1⟩, hI w1 _ _ hi (Nat.le_refl _) k3, ?_, ?_⟩
    · have ho1 : Only bs w w1 := (Only.of_below hb0 bs).trans hf.only
      exact ⟨k3.os.trans ho1.os, k3.tape.trans ho1.tape, k3.output.trans ho1.output, Nat.le_trans ho1.size k3.size, fun k hk hn => (k3.block k (Nat.lt_of_lt_of_le hk ho1.size) (fun e => by have := List.mem_singleton.1 e; omega)).trans (ho1.block k hk hn)⟩
    · exact (((Kx.of_below hb0 hB).trans hf.kx).mono (fun t ht => List.mem_cons_of_mem _ ht)).trans (k2.mono (fun t ht => by rw [List.mem_singleton.1 ht]; exact List.mem_cons_self))
  clear hB h5 hrg hl hs hk hI
  have HNL : Hid (nil17.toArray = #[.slice none 0 0, .slice none 0 0, .slice none 0 0, .slice none 0 0, .slice none 0 0, .slice none 0 0, .slice none 0 0, .slice none 0 0, .slice none 0 0, .slice none 0 0, .slice none 0 0, .slice none 0 0, .slice none 0 0, .slice none 0 0, .slice none 0 0, .slice none 0 0, .slice none 0 0]) := rfl
  rw [HNL.out] at HK
  clear HNL
  go_enter Tryd.func19, Tryd.ntmps19
  go_wp2_with fail
  go_region_with ((go_at_call 37; refine (HK.out 1).mono ?_; rintro e w1 ⟨ad, cc, rfl, e1, e2, e3, e4, e5, e6⟩; have HZ : Hid ((∃ xs', RgIs B (w1.setCell ⟨w.heap.size, 0, none⟩ (.slice (some ad) 32 cc)) w.heap.size xs' (lrn (fun _ => none) 0 l)) ∧ I (w1.setCell ⟨w.heap.size, 0, none⟩ (.slice (some ad) 32 cc)) ∧ Only bs w (w1.setCell ⟨w.heap.size, 0, none⟩ (.slice (some ad) 32 cc)) ∧ Kx (some 70 :: ts) B w (w1.setCell ⟨w.heap.size, 0, none⟩ (.slice (some ad) 32 cc))) := ⟨e3, e4, e5, e6⟩; clear e3 e4 e5 e6))
  all_goals
    go_wp2_with fail
    go_ret
    obtain ⟨xs', hx⟩ := HZ.out.1
    exact ⟨_, xs', rfl, Nat.le_refl _, hx, HZ.out.2⟩
end
end Go.Proofs.YtagdlpodpokmmaaDoor.S7
/- Ring by signs: contracts. -/
namespace Go.Proofs.YtagdlpodpokmmaaDoor.S7
open Go.RowKit
/-- The types whose blocks a suite of signs turns. -/
abbrev TU : List (Option TypeId) := [none, some 53]
/-- A suite of signs above a bound. -/
structure Sw (B : Nat) (w : World) (p q m x : Nat) (L : List Su.Thing) : Prop where
  su : SuIs w p q m x L
  lo : B ≤ p ∧ B ≤ q ∧ B ≤ m ∧ B ≤ x
def mk (L : List Su.Thing) (k s : List Nat) (n : Nat) : List Nat := Su.sign 77 (Su.num L 77 k (s ++ six n))
def adk (L : List Su.Thing) (k s : List Nat) (n : Nat) : List Su.Thing := Su.add L 77 k (s ++ six n)
theorem mk_length (L : List Su.Thing) (k s : List Nat) (n : Nat) : (mk L k s n).length = 32 := Su.sign_length _ _
theorem mk_small (L : List Su.Thing) (k s : List Nat) (n : Nat) : ∀ x ∈ mk L k s n, x < 256 := Su.sign_lt (by omega) _
theorem adk_length (L : List Su.Thing) (k s : List Nat) (n : Nat) : (adk L k s n).length ≤ L.length + 1 := (Su.add_length L 77 k _).2
/-- No text is too long. -/
def Shr (L : List Su.Thing) : Prop := ∀ u ∈ L, u.2.2.2.2.length ≤ 50000
theorem Shr.nil : Shr [] := fun u hu => by simp at hu
theorem Shr.snoc {L : List Su.Thing} {t : Su.Thing} (h : Shr L) (ht : t.2.2.2.2.length ≤ 50000) : Shr (L ++ [t]) := fun u hu => by
  rcases List.mem_append.1 hu with e | e
  · exact h u e
  · rw [List.mem_singleton.1 e]; exact ht
theorem Shr.adk {L : List Su.Thing} (h : Shr L) (k s : List Nat) (n : Nat) (hs : s.length ≤ 100) : Shr (adk L k s n) := by
  unfold S7.adk Su.add
  split
  · exact h
  · exact h.snoc (by show (s ++ six n).length ≤ 50000; rw [List.length_append, six_length]; omega)
section
variable {B : Nat} {w w' : World} {p q m x : Nat} {L : List Su.Thing} {bs : List Nat}
theorem Sw.below (h : Sw B w p q m x L) (hb : Below w.heap.size w w') : Sw B w' p q m x L := ⟨h.su.below hb, h.lo⟩
theorem Sw.ty (h : Sw B w p q m x L) : ∀ y ∈ [p, m, x], B ≤ y ∧ ∀ o, w.heap[y]? = some o → tyOf o ∈ TU := fun y hy => by
  obtain ⟨es, k, hm, _⟩ := h.su.nums
  obtain ⟨es', k', hx, _⟩ := h.su.boxes
  have hlo := h.lo
  simp only [List.mem_cons, List.not_mem_nil, or_false] at hy
  rcases hy with rfl | rfl | rfl
  · exact ⟨hlo.1, fun o ho => by rw [h.su.box] at ho; cases ho; simp [TU, tyOf]⟩
  · exact ⟨hlo.2.2.1, fun o ho => by rw [hm] at ho; cases ho; simp [TU, tyOf]⟩
  · exact ⟨hlo.2.2.2, fun o ho => by rw [hx] at ho; cases ho; simp [TU, tyOf]⟩
theorem Sw.fr (h : Sw B w p q m x L) (ho : Only bs w w') (hs : ∀ y ∈ bs, y ∈ [p, m, x]) (hB : B ≤ w.heap.size) : Fr [p, m, x] TU B w w' := by
  have ho' : Only [p, m, x] w w' := ho.more hs
  exact ⟨ho', Kx.of_only ho' hB h.ty⟩
theorem Sw.off (h : Sw B w p q m x L) {r : Nat} (ho : Only [r] w w') (hr : r ≠ p ∧ r ≠ q ∧ r ≠ m ∧ r ≠ x) : Sw B w' p q m x L :=
  ⟨h.su.only ho ⟨by simp; exact fun e => hr.1 e.symm, by simp; exact fun e => hr.2.1 e.symm, by simp; exact fun e => hr.2.2.1 e.symm, by simp; exact fun e => hr.2.2.2 e.symm⟩, h.lo⟩
theorem Sw.kx (h : Sw B w p q m x L) {ts : List (Option TypeId)} (hk : Kx ts B w w') (h1 : none ∉ ts) (h2 : some 53 ∉ ts) (h3 : some 64 ∉ ts) : Sw B w' p q m x L := by
  obtain ⟨es, k, hm, _⟩ := h.su.nums
  obtain ⟨es', k', hx, _⟩ := h.su.boxes
  refine ⟨h.su.kept (fun k hk' => ?_), h.lo⟩
  rcases hk' with rfl | rfl | rfl | rfl
  · exact (hk.row _ _ h.su.box h2).trans h.su.box.symm
  · exact (hk.row _ _ h.su.signs h3).trans h.su.signs.symm
  · exact (hk.row _ _ hm h1).trans hm.symm
  · exact (hk.row _ _ hx h1).trans hx.symm
theorem sub_pm {p m x : Nat} : ∀ y ∈ [p, m], y ∈ [p, m, x] := fun y hy => by simp only [List.mem_cons, List.not_mem_nil, or_false] at hy ⊢; omega
theorem sub_px {p m x : Nat} : ∀ y ∈ [p, x], y ∈ [p, m, x] := fun y hy => by simp only [List.mem_cons, List.not_mem_nil, or_false] at hy ⊢; omega
theorem tu5 : some 5 ∉ TU := by decide
theorem turg : some 70 ∉ TU := by decide
theorem Signs_sw (hB : B ≤ w.heap.size) : Calls Tryd.prog 17 #[] w fun e w' => ∃ p q m x, e = .returned (.pointer (some ⟨p, 0, none⟩)) ∧ Sw B w' p q m x [] ∧ Below w.heap.size w w' :=
  (Signs_new w).mono (fun _ _ ⟨p, q, m, x, h1, h2, h3, h4⟩ => ⟨p, q, m, x, h1, ⟨h2, by omega⟩, h3⟩)
theorem Key_s (h : Sw B w p q m x L) (hL : L.length < 1000000) (hB : B ≤ w.heap.size) : Calls Tryd.prog 18 #[.pointer (some ⟨p, 0, none⟩)] w fun e w' => ∃ v, e = .returned v ∧ w'.ownsRow w.heap.size 5 1 v 32 (ints .u8 (Su.sign 75 (L.length + 1))) ∧ Sw B w' p q m x (L ++ [(75, [], [], [], [])]) ∧ Fr [p, m, x] TU B w w' := by
  refine (Key_signs p q m x L w h.su hL).mono ?_
  rintro e w' ⟨v, rfl, h1, h2, h3⟩
  exact ⟨v, rfl, h1, ⟨h2, h.lo⟩, h.fr h3 (fun y hy => by rw [List.mem_singleton.1 hy]; simp) hB⟩
theorem keyOf_s {kv : Value} {k : List Nat} (h : Sw B w p q m x L) (hL : L.length < 1000000) (hB : B ≤ w.heap.size) (hk : By B w kv k) (s : List Nat) (hs : ∀ y ∈ s, y < 256) (hsl : s.length ≤ 100) (n : Nat) (hn : n ≤ 1099511627776) :
    Calls Tryd.prog 37 #[.pointer (some ⟨p, 0, none⟩), kv, .string (strB s), .int .i64 (n : Int)] w fun e w' => ∃ u, e = .returned u ∧ w'.ownsRow w.heap.size 5 1 u 32 (ints .u8 (mk L k s n)) ∧ Sw B w' p q m x (adk L k s n) ∧ Fr [p, m, x] TU B w w' := by
  refine keyOf_any s n hB hn hs (fun w1 g a1 a2 h1 h2 h3 h4 h5 => ?_)
  have hw1 := h.below h5
  refine (Code_two k s (six n) g 0 2 kv a1 a2 p q m x L w1 hw1.su (hk.below h5).src h3 h4 h1 h2 (by omega) (by omega) (by rw [six_length]; omega) hL).mono ?_
  rintro e w' ⟨v, rfl, k1, k2, k3⟩
  exact ⟨v, rfl, k1, ⟨k2, h.lo⟩, hw1.fr k3 sub_pm (Nat.le_trans hB h5.size)⟩
theorem mem_ok : (∀ y ∈ memB, y < 256) ∧ memB.length ≤ 100 := by decide
theorem wri_ok : (∀ y ∈ wriB, y < 256) ∧ wriB.length ≤ 100 := by decide
theorem epo_ok : (∀ y ∈ epoB, y < 256) ∧ epoB.length ≤ 100 := by decide
theorem Member_s {kv : Value} {k : List Nat} (h : Sw B w p q m x L) (hL : L.length < 1000000) (hB : B ≤ w.heap.size) (hk : By B w kv k) (n : Nat) (hn : 1 ≤ n ∧ n ≤ 16) :
    Calls Tryd.prog 10 #[.pointer (some ⟨p, 0, none⟩), kv, .int .i64 (n : Int)] w fun e w' => ∃ u, e = .returned (.tuple #[u, .int .i64 0]) ∧ w'.ownsRow w.heap.size 5 1 u 32 (ints .u8 (mk L k memB n)) ∧ Sw B w' p q m x (adk L k memB n) ∧ Fr [p, m, x] TU B w w' :=
  Member_yes w _ kv n (by omega) _ (keyOf_s h hL hB hk memB mem_ok.1 mem_ok.2 n (by omega))
theorem Writer_s {kv : Value} {k : List Nat} (h : Sw B w p q m x L) (hL : L.length < 1000000) (hB : B ≤ w.heap.size) (hk : By B w kv k) (n : Nat) (hn : 1 ≤ n ∧ n ≤ 16) :
    Calls Tryd.prog 11 #[.pointer (some ⟨p, 0, none⟩), kv, .int .i64 (n : Int)] w fun e w' => ∃ u, e = .returned (.tuple #[u, .int .i64 0]) ∧ w'.ownsRow w.heap.size 5 1 u 32 (ints .u8 (mk L k wriB n)) ∧ Sw B w' p q m x (adk L k wriB n) ∧ Fr [p, m, x] TU B w w' :=
  Writer_yes w _ kv n (by omega) _ (keyOf_s h hL hB hk wriB wri_ok.1 wri_ok.2 n (by omega))
/-- The box of a wrapped key. -/
def bxT (L : List Su.Thing) (k : List Nat) (who ep : Nat) (t : List Nat) : Su.Thing := (66, mk L k memB who, non 0 ep, wraB, t)
theorem Wrap_s {kv : Value} {k : List Nat} (h : Sw B w p q m x L) (hL : L.length < 900000) (hB : B ≤ w.heap.size) (hk : By B w kv k) (who ep : Nat) (hw : 1 ≤ who ∧ who ≤ 16) (he : 1 ≤ ep ∧ ep ≤ 16) {tq : Option Addr} {tc : Nat} {t : List Nat} (ht : By B w (.slice tq 32 tc) t) (htl : t.length = 32) :
    Calls Tryd.prog 12 #[.pointer (some ⟨p, 0, none⟩), kv, .int .i64 (who : Int), .int .i64 (ep : Int), .slice tq 32 tc] w fun e w' => ∃ v, e = .returned (.tuple #[v, .int .i64 0]) ∧ (w'.ownsRow w.heap.size 5 1 v 48 (ints .u8 (Su.box ((adk L k memB who).length + 1) 32)) ∧ Sw B w' p q m x (adk L k memB who ++ [bxT L k who ep t])) ∧ Fr [p, m, x] TU B w w' := by
  refine Wrap_ok (r := mk L k memB who) (I := fun w' => w.heap.size ≤ w'.heap.size ∧ Sw B w' p q m x (adk L k memB who)) (who : Int) ep tq tc t hB tu5 (by omega) he ht _ (fun w1 h1 => ?_) (mk_small _ _ _ _) (fun w1 w2 h1 h2 => ⟨Nat.le_trans h1.1 h2.size, h1.2.below h2⟩) (fun w1 u nv ov h1 h2 h3 h4 h5 h6 => ?_)
  · refine (keyOf_s (h.below h1) (by omega) (Nat.le_trans hB h1.size) (hk.below h1) memB mem_ok.1 mem_ok.2 who (by omega)).mono ?_
    rintro e w' ⟨v, rfl, k1, k2, k3⟩
    exact ⟨v, rfl, k1, ⟨Nat.le_trans h1.size k3.size, k2⟩, k3⟩
  · have hin : ∀ w2, Only [p, x] w1 w2 → Kx TU B w1 w2 := fun w2 ho => (h1.2.fr ho sub_px h6).kx
    refine (Seal_ok (mk L k memB who) (non 0 ep) wraB t u nv ov (.slice tq 32 tc) p q m x (adk L k memB who) w1 h1.2.su (fun w2 ho => (h2.kx (hin w2 ho) tu5).src) (fun w2 ho => (h3.kx (hin w2 ho) tu5).src) (fun w2 ho => (h4.kx (hin w2 ho) tu5).src) (fun w2 ho => (h5.kx (hin w2 ho) tu5).src) (mk_length _ _ _ _) (non_length 0 ep) (by omega) (by have := adk_length L k memB who; omega)).mono ?_
    rintro e w' ⟨v, rfl, k1, k2, k3⟩
    rw [htl] at k1
    exact ⟨v, rfl, ⟨own_older k1 h1.1, ⟨k2, h.lo⟩⟩, h1.2.fr k3 sub_px h6⟩
theorem Unwrap_s {kv bv : Value} {k b : List Nat} (h : Sw B w p q m x L) (hL : L.length < 900000) (hS : Shr L) (hB : B ≤ w.heap.size) (hk : By B w kv k) (who ep : Nat) (hw : 1 ≤ who ∧ who ≤ 16) (he : 1 ≤ ep ∧ ep ≤ 16) (hb : By B w bv b) (hbl : b.length ≤ 60000) {rr : Option (List Nat)} (hrr : Su.opens (mk L k memB who) (non 0 ep) wraB b 0 (adk L k memB who) = rr) :
    Calls Tryd.prog 13 #[.pointer (some ⟨p, 0, none⟩), kv, .int .i64 (who : Int), .int .i64 (ep : Int), bv] w fun e w' => OpenSays w.heap.size (un32 rr) e w' ∧ Sw B w' p q m x (adk L k memB who) ∧ Fr [p, m, x] TU B w w' := by
  subst hrr
  refine Unwrap_any (r := mk L k memB who) (I := fun w' => Sw B w' p q m x (adk L k memB who)) (who : Int) ep b _ hB tu5 (by omega) he hb (fun w1 h1 => ?_) (mk_small _ _ _ _) (fun w1 w2 h1 h2 => h1.below h2) (fun w1 u nv ov h1 h2 h3 h4 h5 h6 => ?_)
  · exact keyOf_s (h.below h1) (by omega) (Nat.le_trans hB h1.size) (hk.below h1) memB mem_ok.1 mem_ok.2 who (by omega)
  · exact Open_any (mk L k memB who) (non 0 ep) wraB b u nv ov bv p q m x (adk L k memB who) w1 h1.su h2.src h3.src h4.src h5.src (mk_length _ _ _ _) (non_length 0 ep) hbl (by have := adk_length L k memB who; omega) (hS.adk k memB who mem_ok.2)
theorem New_s {kv : Value} {k : List Nat} (h : Sw B w p q m x L) (hL : L.length < 900000) (hB : B ≤ w.heap.size) (hk : By B w kv k) :
    Calls Tryd.prog 19 #[.pointer (some ⟨p, 0, none⟩), kv] w fun e w' => ∃ r xs, e = .returned (.pointer (some ⟨r, 0, none⟩)) ∧ w.heap.size ≤ r ∧ RgIs B w' r xs (lrn (fun _ => none) 0 (mk L k epoB 0)) ∧ Sw B w' p q m x (adk L k epoB 0) ∧ Only [p, m, x] w w' ∧ Kx (some 70 :: TU) B w w' := by
  refine New_any (I := fun w' => Sw B w' p q m x (adk L k epoB 0)) hB tu5 turg (mk_length _ _ _ _) (mk_small _ _ _ _) (fun w1 h1 => ?_) (fun w1 w2 r h1 h2 h3 => ?_)
  · exact keyOf_s (h.below h1) (by omega) (Nat.le_trans hB h1.size) (hk.below h1) epoB epo_ok.1 epo_ok.2 0 (by omega)
  · have hl := h.su.lt
    exact h1.off h3 (by omega)
end
/-- A text that stands in the program. -/
theorem lit_by (B : Nat) (w : World) (l : List Nat) (cs : Array Value) (fr : Nat × Nat) {n : Nat} (hn : l.length = n) (hs : ∀ x ∈ l, x < 256) (hc : cs.toList = ints .u8 l) : By B (w.alloc (.cells cs 5 fr)) (.slice (some ⟨w.heap.size, 0, none⟩) n n) l := by
  have h0 : (w.alloc (.cells cs 5 fr)).heap[w.heap.size]? = some (.cells cs 5 fr) := heap_alloc_new w _
  have hr := rangeAt_of_row (t := 5) (fr := fr) h0
  rw [hc] at hr
  subst hn
  exact ⟨hs, .inr (.inr ⟨w.heap.size, 0, _, rfl, Nat.le_refl _, hr, .inr ⟨_, _, h0⟩⟩)⟩
end Go.Proofs.YtagdlpodpokmmaaDoor.S7
