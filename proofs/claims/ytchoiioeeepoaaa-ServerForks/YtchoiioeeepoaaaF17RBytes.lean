/- The document's Bytes of frames. -/
import Derived.Test.YtchoiioeeepoaaaF17Ap
import Derived.Test.YtchoiioeeepoaaaC8RText
import Derived.Deep.CutRange
namespace Go.Proofs.Ytchoiioeeepoaaa.F17
open Go.RowKit C8 E9
theorem ne_be (k : Nat) : Cd.be 6 k ≠ [] := fun e => by have := congrArg List.length e; rw [Cd.be_length] at this; simp at this
theorem cells5 {w : World} {b : Nat} {a1 a2 a3 a4 v : Value} {t : TypeId} (h : w.heap[b]? = some (.cells #[a1, a2, a3, a4, v] t (0, 0))) : w.cell? ⟨b, 0, none⟩ = some a1 ∧ w.cell? ⟨b, 1, none⟩ = some a2 ∧ w.cell? ⟨b, 2, none⟩ = some a3 ∧ w.cell? ⟨b, 3, none⟩ = some a4 ∧ w.cell? ⟨b, 4, none⟩ = some v := by
  refine ⟨?_, ?_, ?_, ?_, ?_⟩ <;> (rw [cell_of_row _ _ _ _ _ _ h]; rfl)
theorem enc_take {ls : List (List Nat)} {j : Nat} (h : j < ls.length) : Cd.enc (lpts (ls.take (j + 1))) = Cd.enc (lpts (ls.take j)) ++ (Cd.be 2 ls[j].length ++ ls[j]) := by
  rw [lpts_take h, Cd.enc_append]
  simp only [Cd.enc, one_txt, List.append_nil]
theorem enc_take_le (ls : List (List Nat)) (j : Nat) : (Cd.enc (lpts (ls.take j))).length ≤ (Cd.enc (lpts ls)).length := by
  have : lpts (ls.take j) = (lpts ls).take j := by unfold lpts; rw [List.map_take]
  rw [this]
  exact enc_sub _ _
def rf1 (W : World) (k1 k2 : Nat) : Nat → Value → World → Prop
  | 0 => IsV (.pointer (some ⟨W.heap.size, 0, none⟩))
  | 1 => IsV (.int .i64 (k1 : Int))
  | 2 => fun _ _ => True
  | 3 => IsV (.pointer (some ⟨W.heap.size, 1, none⟩))
  | 4 => IsV (.int .i64 (k2 : Int))
  | 5 => fun _ _ => True
  | 6 => fun _ _ => True
  | 7 => fun _ _ => True
  | _ => fun _ _ => True
theorem rf1_kept (W : World) (k1 k2 : Nat) {N : Nat} : ∀ i v w w', rf1 W k1 k2 i v w → Below N w w' → rf1 W k1 k2 i v w'
  | 0, _, _, _, h, _ => h
  | 1, _, _, _, h, _ => h
  | 2, _, _, _, h, _ => h
  | 3, _, _, _, h, _ => h
  | 4, _, _, _, h, _ => h
  | 5, _, _, _, h, _ => h
  | 6, _, _, _, h, _ => h
  | 7, _, _, _, h, _ => h
  | _ + 8, _, _, _, _, _ => trivial
set_option maxHeartbeats 8000000 in
theorem rb_walk (k1 k2 k3 : Nat) (ls : List (List Nat)) (t : List Nat) (q : Option Addr) (c : Nat) (sp : Option Addr) (sc : Nat) (W : World) (b1 : k1 ≤ 1099511627776) (b2 : k2 ≤ 1099511627776) (b3 : k3 ≤ 1099511627776) (bl : ls.length ≤ 8) (be : ∀ x ∈ ls, 1 ≤ x.length ∧ x.length ≤ 4096) (bt : t.length ≤ 32) (hq : LkRow W q ls) (ht : Src W (.slice sp t.length sc) t) :
    Calls Try.prog 13 #[.agg #[.int .i64 (k1 : Int), .int .i64 (k2 : Int), .int .i64 (k3 : Int), .slice q ls.length c, .slice sp t.length sc]] W fun e w' => ∃ v, e = .returned v ∧ w'.ownsRow W.heap.size 5 1 v (24 + (Cd.enc (lpts ls)).length + (2 + t.length)) (ints .u8 (Cd.be 6 k1 ++ Cd.be 6 k2 ++ Cd.be 6 k3 ++ Cd.be 6 ls.length ++ Cd.enc (lpts ls) ++ (Cd.be 2 t.length ++ t))) ∧ Below W.heap.size W w' := by
  have NUM : ∀ (k : Nat), k ≤ 1099511627776 → Hid (∀ W, Calls Try.prog 23 #[.int .i64 (k : Int)] W fun e w' => ∃ v, e = .returned v ∧ w'.ownsRow W.heap.size 5 1 v 6 (ints .u8 (Cd.be 6 k)) ∧ Below W.heap.size W w') := fun k hk W => RefNum_any k W hk
  have N1 := NUM k1 b1
  have N2 := NUM k2 b2
  have N3 := NUM k3 b3
  have N4 := NUM ls.length (by omega)
  have HEL : Hid ((Cd.enc (lpts ls)).length ≤ 33000) := Nat.le_trans (enc_lpts ls be) (by show _ ≤ _; omega)
  have HA : Hid (LkRow W q ls) := hq
  have HBE : Hid (∀ x ∈ ls, 1 ≤ x.length ∧ x.length ≤ 4096) := be
  obtain ⟨n, HN⟩ : ∃ n, Hid (ls.length = n) := ⟨_, rfl⟩
  have l8 : (n : Int) ≤ 8 := by have := HN.out; omega
  have HTX : Hid (∀ w, Below W.heap.size W w → Calls Try.prog 24 #[.slice sp t.length sc] w fun e w' => ∃ v, e = .returned v ∧ w'.ownsRow w.heap.size 5 1 v (2 + t.length) (ints .u8 (Cd.be 2 t.length ++ t)) ∧ Below w.heap.size w w') := fun w h => RefText_any _ t w (ht.below h) (by omega)
  have HTS : Hid (∀ x ∈ Cd.be 2 t.length ++ t, x < 256) := fun x hx => by
    rcases List.mem_append.1 hx with h | h
    · exact Cd.be_lt 2 _ x h
    · exact ht.small x h
  have HTL : Hid (t.length ≤ 32) := bt
  rw [HN.out] at N4 ⊢
  clear NUM b1 b2 b3 bl be bt hq ht
  generalize hm : t.length = m at *
  obtain ⟨T, HT⟩ : ∃ T, Hid (Cd.be 2 m ++ t = T) := ⟨_, rfl⟩
  have HTLN : Hid (T.length = 2 + m) := by show _ = _; rw [← HT.out, List.length_append, Cd.be_length, hm]
  rw [HT.out] at HTX HTS ⊢
  clear HT hm
  obtain ⟨res, HRES⟩ : ∃ R : Value → World → Prop, Hid ((fun v w' => w'.ownsRow W.heap.size 5 1 v (24 + (Cd.enc (lpts ls)).length + (2 + m)) (ints .u8 (Cd.be 6 k1 ++ Cd.be 6 k2 ++ Cd.be 6 k3 ++ Cd.be 6 n ++ Cd.enc (lpts ls) ++ T)) ∧ Below W.heap.size W w') = R) := ⟨_, rfl⟩
  have HFIN : Hid (∀ v w', w'.ownsRow W.heap.size 5 1 v (24 + (Cd.enc (lpts ls)).length + (2 + m)) (ints .u8 (Cd.be 6 k1 ++ Cd.be 6 k2 ++ Cd.be 6 k3 ++ Cd.be 6 n ++ Cd.enc (lpts ls) ++ T)) → Below W.heap.size W w' → res v w') := fun v w' h1 h2 => by
    rw [← HRES.out]
    exact ⟨h1, h2⟩
  suffices hh : Calls Try.prog 13 #[.agg #[.int .i64 (k1 : Int), .int .i64 (k2 : Int), .int .i64 (k3 : Int), .slice q n c, .slice sp m sc]] W fun e w' => ∃ v, e = .returned v ∧ res v w' by
    rw [← HRES.out] at hh
    exact hh
  clear HRES
  go_enter Try.func13, Try.ntmps13
  go_upto_region 1 with fail
  have B1 : Hid (Below W.heap.size W (W.alloc (.cells #[.int .i64 (k1 : Int), .int .i64 (k2 : Int), .int .i64 (k3 : Int), .slice q n c, .slice sp m sc] 37))) := bel_alloc (Nat.le_refl _) _
  have HM : Hid (∀ w, Below (W.alloc (.cells #[.int .i64 (k1 : Int), .int .i64 (k2 : Int), .int .i64 (k3 : Int), .slice q n c, .slice sp m sc] 37)).heap.size (W.alloc (.cells #[.int .i64 (k1 : Int), .int .i64 (k2 : Int), .int .i64 (k3 : Int), .slice q n c, .slice sp m sc] 37)) w → w.cell? ⟨W.heap.size, 0, none⟩ = some (.int .i64 (k1 : Int)) ∧ w.cell? ⟨W.heap.size, 1, none⟩ = some (.int .i64 (k2 : Int)) ∧ w.cell? ⟨W.heap.size, 2, none⟩ = some (.int .i64 (k3 : Int)) ∧ w.cell? ⟨W.heap.size, 3, none⟩ = some (.slice q n c) ∧ w.cell? ⟨W.heap.size, 4, none⟩ = some (.slice sp m sc)) := fun w h => cells5 ((h.block W.heap.size (by simp)).trans (heap_alloc_new W (.cells #[.int .i64 (k1 : Int), .int .i64 (k2 : Int), .int .i64 (k3 : Int), .slice q n c, .slice sp m sc] 37)))
  have HZ1 : Hid (W.heap.size ≤ (W.alloc (.cells #[.int .i64 (k1 : Int), .int .i64 (k2 : Int), .int .i64 (k3 : Int), .slice q n c, .slice sp m sc] 37)).heap.size) := B1.out.size
  generalize (W.alloc (.cells #[.int .i64 (k1 : Int), .int .i64 (k2 : Int), .int .i64 (k3 : Int), .slice q n c, .slice sp m sc] 37)) = W1 at *
  have KU : Upk [⟨2, some 6, 7, none, (fun v w => w.ownsRow W1.heap.size 5 1 v 6 (ints .u8 (Cd.be 6 k1)))⟩, ⟨5, some 6, 10, none, (fun v w => Src w v (Cd.be 6 k2))⟩, ⟨6, some 7, 11, none, (fun v w => w.ownsRow W1.heap.size 5 1 v 12 (ints .u8 (Cd.be 6 k1 ++ Cd.be 6 k2)))⟩, ⟨7, none, 3, some 6, (fun v w => w.ownsRow W1.heap.size 5 1 v 12 (ints .u8 (Cd.be 6 k1 ++ Cd.be 6 k2)))⟩] := (allu (fun v x y h hb => own_only h (Only.of_below hb []) (fun _ _ e => by simp at e)) (allu (fun v x y h hb => h.below hb) (allu (fun v x y h hb => own_only h (Only.of_below hb []) (fun _ _ e => by simp at e)) (allu (fun v x y h hb => own_only h (Only.of_below hb []) (fun _ _ e => by simp at e)) all0u))))
  have hd0 := C8.below_drewN 1 W1 W1.heap.size
  refine wp_region_sa (rf1 W k1 k2) (fun u u' => Below (W1.heap.size) u u') (Ap (W1.heap.size) [⟨2, some 6, 7, none, (fun v w => w.ownsRow W1.heap.size 5 1 v 6 (ints .u8 (Cd.be 6 k1)))⟩, ⟨5, some 6, 10, none, (fun v w => Src w v (Cd.be 6 k2))⟩, ⟨6, some 7, 11, none, (fun v w => w.ownsRow W1.heap.size 5 1 v 12 (ints .u8 (Cd.be 6 k1 ++ Cd.be 6 k2)))⟩, ⟨7, none, 3, some 6, (fun v w => w.ownsRow W1.heap.size 5 1 v 12 (ints .u8 (Cd.be 6 k1 ++ Cd.be 6 k2)))⟩]) (by kernel_rfl) hd0 (fun _ _ _ h k => h.trans k) (rf1_kept W k1 k2) (by kernel_rfl) (Ap.start (Nat.le_refl _)) ?_ ?_
  · intro i o a' w' f hi inv hS hfi hfw hpre
    have hlt : i < 8 := (Array.getElem?_eq_some_iff.1 hi).1
    obtain rfl|rfl|rfl|rfl|rfl|rfl|rfl|rfl : i = 0 ∨ i = 1 ∨ i = 2 ∨ i = 3 ∨ i = 4 ∨ i = 5 ∨ i = 6 ∨ i = 7 := by omega
    · obtain rfl := Option.some.inj hi
      have h0 : a'.tmps.getD 1 undef = (.pointer (some ⟨W.heap.size, 0, none⟩)) := by rw [inv.old 1 (notDst_spec (by kernel_rfl))]; rfl
      exact ap_value _ rfl rfl (fa_run 37 0 1 W.heap.size rfl h0 (fun w => by simp [go_sem])) (allu ⟨(by decide : (0 : Nat) ≠ 2), (by decide : (some 5 : Option Tmp) ≠ some 7)⟩ (allu ⟨(by decide : (0 : Nat) ≠ 5), (by decide : (some 5 : Option Tmp) ≠ some 10)⟩ (allu ⟨(by decide : (0 : Nat) ≠ 6), (by decide : (some 5 : Option Tmp) ≠ some 11)⟩ (allu ⟨(by decide : (0 : Nat) ≠ 7), (by decide : (some 5 : Option Tmp) ≠ some 3)⟩ all0u)))) hS rfl
    · obtain rfl := Option.some.inj hi
      have h0 : a'.tmps.getD 5 undef = (.pointer (some ⟨W.heap.size, 0, none⟩)) := pre_of hpre 0 5 (by kernel_rfl) (by kernel_rfl)
      exact ap_value _ rfl rfl (load_run 3 5 W.heap.size (0) _ rfl h0 (ld3 (HM.out w' inv.grow).1)) (allu ⟨(by decide : (1 : Nat) ≠ 2), (by decide : (some 6 : Option Tmp) ≠ some 7)⟩ (allu ⟨(by decide : (1 : Nat) ≠ 5), (by decide : (some 6 : Option Tmp) ≠ some 10)⟩ (allu ⟨(by decide : (1 : Nat) ≠ 6), (by decide : (some 6 : Option Tmp) ≠ some 11)⟩ (allu ⟨(by decide : (1 : Nat) ≠ 7), (by decide : (some 6 : Option Tmp) ≠ some 3)⟩ all0u)))) hS rfl
    · obtain rfl := Option.some.inj hi
      have h0 : a'.tmps.getD 6 undef = (.int .i64 (k1 : Int)) := pre_of hpre 1 6 (by kernel_rfl) (by kernel_rfl)
      refine ap_quiet KU 23 #[a'.tmps.getD 6 undef] rfl rfl (by kernel_rfl) 7 rfl (by rw [inv.size]; exact (by decide : 7 < 43)) (allu (.inl ⟨rfl, rfl, rfl⟩) (allu (.inr ⟨(by decide : (2 : Nat) ≠ 5), (by decide : (some 7 : Option Tmp) ≠ some 10)⟩) (allu (.inr ⟨(by decide : (2 : Nat) ≠ 6), (by decide : (some 7 : Option Tmp) ≠ some 11)⟩) (allu (.inr ⟨(by decide : (2 : Nat) ≠ 7), (by decide : (some 7 : Option Tmp) ≠ some 3)⟩) all0u)))) hS ?_
      rw [h0]
      exact (N1.out w').mono (by rintro x u ⟨v, rfl, h1, h2⟩; exact ⟨v, rfl, h2, trivial, (allu (fun _ => own_older h1 hS.siz) (allu (fun h => absurd (show (2 : Nat) = 5 from h) (by decide)) (allu (fun h => absurd (show (2 : Nat) = 6 from h) (by decide)) (allu (fun h => absurd (show (2 : Nat) = 7 from h) (by decide)) all0u))))⟩)
    · obtain rfl := Option.some.inj hi
      have h0 : a'.tmps.getD 1 undef = (.pointer (some ⟨W.heap.size, 0, none⟩)) := by rw [inv.old 1 (notDst_spec (by kernel_rfl))]; rfl
      exact ap_value _ rfl rfl (fa_run 37 1 1 W.heap.size rfl h0 (fun w => by simp [go_sem])) (allu ⟨(by decide : (3 : Nat) ≠ 2), (by decide : (some 8 : Option Tmp) ≠ some 7)⟩ (allu ⟨(by decide : (3 : Nat) ≠ 5), (by decide : (some 8 : Option Tmp) ≠ some 10)⟩ (allu ⟨(by decide : (3 : Nat) ≠ 6), (by decide : (some 8 : Option Tmp) ≠ some 11)⟩ (allu ⟨(by decide : (3 : Nat) ≠ 7), (by decide : (some 8 : Option Tmp) ≠ some 3)⟩ all0u)))) hS rfl
    · obtain rfl := Option.some.inj hi
      have h0 : a'.tmps.getD 8 undef = (.pointer (some ⟨W.heap.size, 1, none⟩)) := pre_of hpre 3 8 (by kernel_rfl) (by kernel_rfl)
      exact ap_value _ rfl rfl (load_run 3 8 W.heap.size (1) _ rfl h0 (ld3 (HM.out w' inv.grow).2.1)) (allu ⟨(by decide : (4 : Nat) ≠ 2), (by decide : (some 9 : Option Tmp) ≠ some 7)⟩ (allu ⟨(by decide : (4 : Nat) ≠ 5), (by decide : (some 9 : Option Tmp) ≠ some 10)⟩ (allu ⟨(by decide : (4 : Nat) ≠ 6), (by decide : (some 9 : Option Tmp) ≠ some 11)⟩ (allu ⟨(by decide : (4 : Nat) ≠ 7), (by decide : (some 9 : Option Tmp) ≠ some 3)⟩ all0u)))) hS rfl
    · obtain rfl := Option.some.inj hi
      have h0 : a'.tmps.getD 9 undef = (.int .i64 (k2 : Int)) := pre_of hpre 4 9 (by kernel_rfl) (by kernel_rfl)
      refine ap_quiet KU 23 #[a'.tmps.getD 9 undef] rfl rfl (by kernel_rfl) 10 rfl (by rw [inv.size]; exact (by decide : 10 < 43)) (allu (.inr ⟨(by decide : (5 : Nat) ≠ 2), (by decide : (some 10 : Option Tmp) ≠ some 7)⟩) (allu (.inl ⟨rfl, rfl, rfl⟩) (allu (.inr ⟨(by decide : (5 : Nat) ≠ 6), (by decide : (some 10 : Option Tmp) ≠ some 11)⟩) (allu (.inr ⟨(by decide : (5 : Nat) ≠ 7), (by decide : (some 10 : Option Tmp) ≠ some 3)⟩) all0u)))) hS ?_
      rw [h0]
      exact (N2.out w').mono (by rintro x u ⟨v, rfl, h1, h2⟩; exact ⟨v, rfl, h2, trivial, (allu (fun h => absurd (show (5 : Nat) = 2 from h) (by decide)) (allu (fun _ => Src.own (Cd.be_lt 6 k2) h1) (allu (fun h => absurd (show (5 : Nat) = 6 from h) (by decide)) (allu (fun h => absurd (show (5 : Nat) = 7 from h) (by decide)) all0u))))⟩)
    · obtain rfl := Option.some.inj hi
      have hu := hS.use ⟨2, some 6, 7, none, (fun v w => w.ownsRow W1.heap.size 5 1 v 6 (ints .u8 (Cd.be 6 k1)))⟩ List.mem_cons_self (been_of hfw 2 (by kernel_rfl)) (fun k hk => by cases hk; exact hfi)
      have hx := hS.use ⟨5, some 6, 10, none, (fun v w => Src w v (Cd.be 6 k2))⟩ (List.mem_cons_of_mem _ List.mem_cons_self) (been_of hfw 5 (by kernel_rfl)) (fun k hk => by cases hk; exact hfi)
      refine ap_append (st := 7) (xt := 10) (d := 11) rfl rfl rfl _ _ 6 (Cd.be 6 k1) (Cd.be 6 k2) rfl rfl hu hx (by rw [Cd.be_length]; omega) (ne_be _) rfl (by rw [inv.size]; exact (by decide : 11 < 43)) hfi hS (fun v2 w2 h2 => ⟨(allu (.inl ⟨⟨6, rfl, .inl rfl⟩, (by decide : (2 : Nat) ≠ 6)⟩) (allu (.inl ⟨⟨6, rfl, .inl rfl⟩, (by decide : (5 : Nat) ≠ 6)⟩) (allu (.inr (.inl ⟨rfl, rfl, (by rw [Cd.be_length] at h2; exact h2), fun k hk => by cases hk⟩)) (allu (.inr (.inr ⟨rfl, (by decide : (7 : Nat) ≠ 6)⟩)) all0u)))), trivial⟩)
    · obtain rfl := Option.some.inj hi
      have hu := hS.use ⟨6, some 7, 11, none, (fun v w => w.ownsRow W1.heap.size 5 1 v 12 (ints .u8 (Cd.be 6 k1 ++ Cd.be 6 k2)))⟩ (List.mem_cons_of_mem _ (List.mem_cons_of_mem _ List.mem_cons_self)) (been_of hfw 6 (by kernel_rfl)) (fun k hk => by cases hk; exact hfi)
      exact ap_up (a'.tmps.getD 11 undef) rfl rfl rfl (Below.refl _ _) 3 rfl (by rw [inv.size]; exact (by decide : 3 < 43)) hfi (allu (.inl ⟨⟨6, rfl, .inr (been_of hfw 6 (by kernel_rfl))⟩, (by decide : (2 : Nat) ≠ 7)⟩) (allu (.inl ⟨⟨6, rfl, .inr (been_of hfw 6 (by kernel_rfl))⟩, (by decide : (5 : Nat) ≠ 7)⟩) (allu (.inl ⟨⟨7, rfl, .inl rfl⟩, (by decide : (6 : Nat) ≠ 7)⟩) (allu (.inr (.inl ⟨rfl, rfl, hu, fun k hk => by cases hk; exact been_of hfw 6 (by kernel_rfl)⟩)) all0u)))) hS trivial
  intro a' w3 f inv hS hall hd
  have hu3 := hS.use ⟨7, none, 3, some 6, (fun v w => w.ownsRow W1.heap.size 5 1 v 12 (ints .u8 (Cd.be 6 k1 ++ Cd.be 6 k2)))⟩ (List.mem_cons_of_mem _ (List.mem_cons_of_mem _ (List.mem_cons_of_mem _ List.mem_cons_self))) (hall 7 (by decide)) (fun k hk => by cases hk)
  have hgrow : Below (W1.heap.size) W1 w3 := inv.grow
  have hdf : a'.defers = [] := inv.defers
  have e := frame_of [3, 5, 6, 7, 8, 9, 10, 11] inv.size (fun t ht => inv.old t (dstsIn_spec (ts := [3, 5, 6, 7, 8, 9, 10, 11]) (by kernel_rfl) t ht))
  clear inv hd hall hS KU hd0
  obtain ⟨tmps, defers⟩ := a'
  obtain rfl : defers = [] := hdf
  replace e : tmps = List.foldl (fun G t => G.setIfInBounds t (tmps.getD t undef)) _ [3, 5, 6, 7, 8, 9, 10, 11] := e
  simp only [List.foldl_cons, List.foldl_nil] at e
  replace hu3 : ((fun v w => w.ownsRow W1.heap.size 5 1 v 12 (ints .u8 (Cd.be 6 k1 ++ Cd.be 6 k2)))) (tmps.getD 3 undef) w3 := hu3
  generalize tmps.getD 3 undef = x3 at *
  generalize tmps.getD 5 undef = x5 at *
  generalize tmps.getD 6 undef = x6 at *
  generalize tmps.getD 7 undef = x7 at *
  generalize tmps.getD 8 undef = x8 at *
  generalize tmps.getD 9 undef = x9 at *
  generalize tmps.getD 10 undef = x10 at *
  generalize tmps.getD 11 undef = x11 at *
  simp only [List.setIfInBounds_toArray, List.set_cons_succ, List.set_cons_zero] at e
  subst e
  have G3 : Hid (w3.ownsRow W1.heap.size 5 1 x3 12 (ints .u8 (Cd.be 6 k1 ++ Cd.be 6 k2)) ∧ Below W1.heap.size W1 w3) := ⟨hu3, hgrow⟩
  clear hu3 hgrow N1 N2
  obtain ⟨c0, c1, c2, c3, c4⟩ := HM.out w3 G3.out.2
  obtain ⟨uq, uc, rfl⟩ := own_slice G3.out.1
  go_wp2_with fail
  refine (N3.out _).mono ?_
  rintro e w4 ⟨v4, rfl, h1, h2⟩
  have G4 : Hid (w4.ownsRow W1.heap.size 5 1 (.slice uq 12 uc) 12 (ints .u8 (Cd.be 6 k1 ++ Cd.be 6 k2)) ∧ Src w4 v4 (Cd.be 6 k3) ∧ Below W1.heap.size W1 w4) := ⟨own_only G3.out.1 (Only.of_below h2 []) (fun _ _ e => by simp at e), Src.own (Cd.be_lt 6 k3) h1, G3.out.2.trans (bel_le h2 G3.out.2.size)⟩
  clear h1 h2 G3 c0 c1 c2 c3 c4 N3
  obtain ⟨vq4, vc4, hv4, -⟩ := G4.out.2.1.slice
  subst hv4
  obtain ⟨m4, HM4⟩ : ∃ m, Hid ((Cd.be 6 k3).length = m) := ⟨_, rfl⟩
  rw [HM4.out]
  go_wp2_with (first | with_reducible (refine stop_builtin .append ?_))
  refine Stop.go ?_
  refine law_append_src W1.heap.size (.slice uq 12 uc) 12 (Cd.be 6 k1 ++ Cd.be 6 k2) _ (Cd.be 6 k3) rfl rfl G4.out.1 (by rw [← HM4.out]; exact G4.out.2.1) (by rw [Cd.be_length]; decide) G4.out.2.2.size ?_
  intro v5 w5 h1 h2
  have G5 : Hid (w5.ownsRow W1.heap.size 5 1 v5 18 (ints .u8 (Cd.be 6 k1 ++ Cd.be 6 k2 ++ Cd.be 6 k3)) ∧ Below W1.heap.size W1 w5) := ⟨by rw [Cd.be_length] at h1; exact h1, G4.out.2.2.trans (below_append G4.out.1 h2 G4.out.2.2.size)⟩
  clear h1 h2 G4 HM4
  obtain ⟨c0, c1, c2, c3, c4⟩ := HM.out w5 G5.out.2
  obtain ⟨uq5, uc5, rfl⟩ := own_slice G5.out.1
  go_wp2_with fail
  refine (N4.out _).mono ?_
  rintro e w6 ⟨v6, rfl, h1, h2⟩
  have G6 : Hid (w6.ownsRow W1.heap.size 5 1 (.slice uq5 18 uc5) 18 (ints .u8 (Cd.be 6 k1 ++ Cd.be 6 k2 ++ Cd.be 6 k3)) ∧ Src w6 v6 (Cd.be 6 n) ∧ Below W1.heap.size W1 w6) := ⟨own_only G5.out.1 (Only.of_below h2 []) (fun _ _ e => by simp at e), Src.own (Cd.be_lt 6 n) h1, G5.out.2.trans (bel_le h2 G5.out.2.size)⟩
  clear h1 h2 G5 c0 c1 c2 c3 c4 N4
  obtain ⟨vq6, vc6, hv6, -⟩ := G6.out.2.1.slice
  subst hv6
  obtain ⟨m6, HM6⟩ : ∃ m, Hid ((Cd.be 6 n).length = m) := ⟨_, rfl⟩
  rw [HM6.out]
  go_wp2_with (first | with_reducible (refine stop_builtin .append ?_))
  refine Stop.go ?_
  refine law_append_src W1.heap.size (.slice uq5 18 uc5) 18 (Cd.be 6 k1 ++ Cd.be 6 k2 ++ Cd.be 6 k3) _ (Cd.be 6 n) rfl rfl G6.out.1 (by rw [← HM6.out]; exact G6.out.2.1) (by rw [Cd.be_length]; decide) G6.out.2.2.size ?_
  intro v7 w7 h1 h2
  obtain ⟨H, HH⟩ : ∃ H, Hid (Cd.be 6 k1 ++ Cd.be 6 k2 ++ Cd.be 6 k3 ++ Cd.be 6 n = H) := ⟨_, rfl⟩
  have G7 : Hid (w7.ownsRow W1.heap.size 5 1 v7 24 (ints .u8 H) ∧ Below W1.heap.size W1 w7) := ⟨by rw [Cd.be_length, HH.out] at h1; exact h1, G6.out.2.2.trans (below_append G6.out.1 h2 G6.out.2.2.size)⟩
  rw [HH.out] at HFIN
  clear h1 h2 G6 HM6 HH
  go_wp2_with fail
  go_loopw [3, 4] (fun sl iv wr => ∃ j : Nat, j ≤ n ∧ iv = .int .i64 j ∧ Hid (Below W1.heap.size W1 wr) ∧ Hid (wr.ownsRow W1.heap.size 5 1 sl (24 + (Cd.enc (lpts (ls.take j))).length) (ints .u8 (H ++ Cd.enc (lpts (ls.take j)))))) (fun _ iv _ => n - (intOf iv).toNat)
  case atStart => exact ⟨0, by omega, rfl, G7.out.2, by show World.ownsRow _ _ _ _ _ _ _; simp only [List.take_zero, lpts, List.map_nil, Cd.enc, List.append_nil, List.length_nil]; exact G7.out.1⟩
  case round =>
    obtain ⟨j, hj, rfl, HBR, HO⟩ := hrel
    clear G7
    obtain ⟨c0, c1, c2, c3, c4⟩ := HM.out wr HBR.out
    have HBW : Hid (Below W.heap.size W wr) := B1.out.trans (bel_le HBR.out HZ1.out)
    by_cases hlt : j < n
    · have ja : j < ls.length := by rw [HN.out]; exact hlt
      obtain ⟨b, o, bp, bc, rfl, k2', k3', k4', k5'⟩ := HA.out j ja
      have d0 := (HBW.out.cell (p := ⟨b, o + j, none⟩) k2').trans k3'
      have j1 : (j : Int) < (n : Int) := by omega
      have j0 : (0 : Int) ≤ (j : Int) := by omega
      have hx := HBE.out _ (List.getElem_mem ja)
      have HTK : Hid (Cd.enc (lpts (ls.take (j + 1))) = Cd.enc (lpts (ls.take j)) ++ (Cd.be 2 ls[j].length ++ ls[j])) := enc_take ja
      have HLE : Hid ((Cd.enc (lpts (ls.take j))).length ≤ 33000) := Nat.le_trans (enc_take_le ls j) HEL.out
      have HXL : Hid ((Cd.be 2 ls[j].length ++ ls[j]).length = 2 + ls[j].length ∧ ls[j].length ≤ 4096) := ⟨by rw [List.length_append, Cd.be_length], hx.2⟩
      have HXS : Hid (∀ x ∈ Cd.be 2 ls[j].length ++ ls[j], x < 256) := fun x hx => by
        rcases List.mem_append.1 hx with h | h
        · exact Cd.be_lt 2 _ x h
        · exact k4'.small x h
      have HTX2 := RefText_any _ ls[j] wr (k4'.below HBW.out) hx.2
      clear k3' k4' k5' hx
      generalize ls[j] = x at *
      generalize Cd.be 2 x.length ++ x = X at *
      generalize x.length = xl at *
      clear ja
      obtain ⟨uq7, uc7, rfl⟩ := own_slice HO.out
      obtain ⟨z, HZ⟩ : ∃ z, Hid ((Cd.enc (lpts (ls.take j))).length = z) := ⟨_, rfl⟩
      rw [HZ.out] at HO HLE
      try rw [HZ.out]
      go_wp2_with fail
      refine HTX2.mono ?_
      rintro e w8 ⟨v8, rfl, h1, h2⟩
      have G8 : Hid (w8.ownsRow W1.heap.size 5 1 (.slice uq7 (24 + z) uc7) (24 + z) (ints .u8 (H ++ Cd.enc (lpts (ls.take j)))) ∧ Src w8 v8 X ∧ Below W1.heap.size W1 w8) := ⟨own_only HO.out (Only.of_below h2 []) (fun _ _ e => by simp at e), Src.own HXS.out (by rw [HXL.out.1] at *; exact h1), HBR.out.trans (bel_le h2 HBR.out.size)⟩
      clear h1 h2 HO c0 c1 c2 c3 c4 HTX2 d0
      obtain ⟨vq8, vc8, hv8, -⟩ := G8.out.2.1.slice
      subst hv8
      obtain ⟨m8, HM8⟩ : ∃ m, Hid (X.length = m) := ⟨_, rfl⟩
      rw [HM8.out]
      go_wp2_with (first | with_reducible (refine stop_builtin .append ?_))
      refine Stop.go ?_
      refine law_append_src W1.heap.size (.slice uq7 (24 + z) uc7) (24 + z) (H ++ Cd.enc (lpts (ls.take j))) _ X rfl rfl G8.out.1 (by rw [← HM8.out]; exact G8.out.2.1) (by have := HXL.out; have := HLE.out; omega) G8.out.2.2.size ?_
      intro v9 w9 h1 h2
      have HB9 : Hid (Below W1.heap.size W1 w9) := G8.out.2.2.trans (below_append G8.out.1 h2 G8.out.2.2.size)
      have HO9 : Hid (w9.ownsRow W1.heap.size 5 1 v9 (24 + (Cd.enc (lpts (ls.take (j + 1)))).length) (ints .u8 (H ++ Cd.enc (lpts (ls.take (j + 1)))))) := by
        show World.ownsRow _ _ _ _ _ _ _
        rw [HTK.out, List.length_append, HZ.out, ← List.append_assoc, ← Nat.add_assoc]
        exact h1
      clear h1 h2 G8 HM8
      go_wp2_with fail
      refine ⟨⟨j + 1, by omega, by simp, HB9, HO9⟩, ?_⟩
      simp only [intOf]
      omega
    · obtain rfl : j = n := by omega
      have j1 : ¬ (j : Int) < (j : Int) := by omega
      have HO2 : Hid (wr.ownsRow W1.heap.size 5 1 u3 (24 + (Cd.enc (lpts ls)).length) (ints .u8 (H ++ Cd.enc (lpts ls)))) := by
        have := HO.out
        rwa [List.take_of_length_le (by rw [HN.out]; omega)] at this
      clear HO
      obtain ⟨uq7, uc7, rfl⟩ := own_slice HO2.out
      obtain ⟨z, HZ⟩ : ∃ z, Hid ((Cd.enc (lpts ls)).length = z) := ⟨_, rfl⟩
      rw [HZ.out] at HO2 HEL HFIN
      try rw [HZ.out]
      go_wp2_with fail
      refine (HTX.out _ HBW.out).mono ?_
      rintro e w8 ⟨v8, rfl, h1, h2⟩
      have G8 : Hid (w8.ownsRow W1.heap.size 5 1 (.slice uq7 (24 + z) uc7) (24 + z) (ints .u8 (H ++ Cd.enc (lpts ls))) ∧ Src w8 v8 T ∧ Below W1.heap.size W1 w8) := ⟨own_only HO2.out (Only.of_below h2 []) (fun _ _ e => by simp at e), Src.own HTS.out h1, HBR.out.trans (bel_le h2 HBR.out.size)⟩
      clear h1 h2 HO2 c0 c1 c2 c3 c4
      obtain ⟨vq8, vc8, hv8, -⟩ := G8.out.2.1.slice
      subst hv8
      obtain ⟨m8, HM8⟩ : ∃ m, Hid (T.length = m) := ⟨_, rfl⟩
      rw [HM8.out]
      go_wp2_with (first | with_reducible (refine stop_builtin .append ?_))
      refine Stop.go ?_
      refine law_append_src W1.heap.size (.slice uq7 (24 + z) uc7) (24 + z) (H ++ Cd.enc (lpts ls)) _ T rfl rfl G8.out.1 (by rw [← HM8.out]; exact G8.out.2.1) (by have := HTLN.out; have := HTL.out; have := HEL.out; omega) G8.out.2.2.size ?_
      intro v9 w9 h1 h2
      have HB9 : Hid (Below W.heap.size W w9) := B1.out.trans (bel_le (G8.out.2.2.trans (below_append G8.out.1 h2 G8.out.2.2.size)) HZ1.out)
      have HO9 : Hid (res v9 w9) := HFIN.out _ _ (by rw [← HTLN.out]; exact own_older h1 HZ1.out) HB9.out
      clear h1 h2 G8 HM8
      go_wp2_with fail
      go_ret
      exact ⟨_, rfl, HO9.out⟩
theorem rBytes_any (f : Fr) (v : Value) (W : World) (h : FrIs W v f) (hr : right f = true) : Calls Try.prog 13 #[v] W fun e w' => ∃ v, e = .returned v ∧ w'.ownsRow W.heap.size 5 1 v (bytes f).length (ints .u8 (bytes f)) ∧ Below W.heap.size W w' := by
  obtain ⟨q, c, sp, sc, rfl, h⟩ := h
  obtain ⟨h1, h2, h3, h4, h5, h6⟩ := right_bounds hr
  obtain ⟨r1, r2, r3, ls, t⟩ := f
  simp only at h1 h2 h3 h4 h5 h6
  obtain ⟨k1, rfl⟩ : ∃ k : Nat, r1 = (k : Int) := ⟨r1.toNat, (Int.toNat_of_nonneg (by omega)).symm⟩
  obtain ⟨k2, rfl⟩ : ∃ k : Nat, r2 = (k : Int) := ⟨r2.toNat, (Int.toNat_of_nonneg (by omega)).symm⟩
  obtain ⟨k3, rfl⟩ : ∃ k : Nat, r3 = (k : Int) := ⟨r3.toNat, (Int.toNat_of_nonneg (by omega)).symm⟩
  have HE : bytes ⟨(k1 : Int), (k2 : Int), (k3 : Int), ls, t⟩ = Cd.be 6 k1 ++ Cd.be 6 k2 ++ Cd.be 6 k3 ++ Cd.be 6 ls.length ++ Cd.enc (lpts ls) ++ (Cd.be 2 t.length ++ t) := by
    rw [bytes_eq]
    simp only [one_num, one_txt, List.append_assoc, Int.toNat_natCast]
  have HL : (bytes ⟨(k1 : Int), (k2 : Int), (k3 : Int), ls, t⟩).length = 24 + (Cd.enc (lpts ls)).length + (2 + t.length) := by
    rw [HE]
    simp only [List.length_append, Cd.be_length]
  rw [HL, HE]
  exact rb_walk k1 k2 k3 ls t q c sp sc W (by omega) (by omega) (by omega) h4 h5 h6 h.links h.sum
end Go.Proofs.Ytchoiioeeepoaaa.F17
