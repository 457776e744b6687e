/- The contracts of addPart and Put. -/
import Derived.Test.YtchoiioeeepoaaaC8Put
import Derived.Lib.ConvBytes
namespace Go.Proofs.Ytchoiioeeepoaaa.C8
open Go.RowKit
theorem str_src (w : World) (l : List Nat) (hl : ∀ x ∈ l, x < 256) : ∃ c w1, (convert 9 32 (.string (strB l))).run Try.prog w = .ok (.slice (some ⟨w.heap.size, 0, none⟩) l.length c) w1 ∧ Src w1 (.slice (some ⟨w.heap.size, 0, none⟩) l.length c) l ∧ Below w.heap.size w w1 := by
  have hr := Lib.run_convert_string_bytes (P := Try.prog) w 9 32 5 (strB l) Try.underlying9 Try.underlying32 Try.underlying5
  refine ⟨grownCap w (strB l).size 0 5, Lib.bytesWorld w 5 (strB l), ?_, ?_, ?_⟩
  · rw [hr, strB_size]
  · refine Src.row hl ?_ ?_ rfl
    · have := grownCap_ge w (strB l).size 0 5
      rw [strB_size] at this ⊢
      exact this
    · intro j u hu
      have hj : j < l.length := by
        have := (List.getElem?_eq_some_iff.1 hu).1
        rwa [ints_length] at this
      rw [Nat.zero_add, Lib.bytesWorld_cell w 5 (strB l) j (by rw [strB_size]; exact hj), strB_list]
      rw [ints_get _ _ _ hj] at hu
      rw [← hu]
      have hx : l[j] < 256 := hl _ (List.getElem_mem hj)
      simp [Sp.nth, hj, Nat.mod_eq_of_lt hx]
  · exact ⟨rfl, rfl, rfl, by rw [Lib.bytesWorld_size]; omega, fun k hk => Lib.bytesWorld_at_old w 5 (strB l) k hk⟩
theorem law_convert {P : Program} {ops : Array Oper} {rest : List Oper} {dst : Option Tmp} {T : TypeId} {pos : String} {after : Array Edge} {a : Act} {w : World} {Q : Exit → Act → World → Prop} {ty tz : TypeId} {x : Operand} (v0 v1 : Value) (w1 : World)
    (hx : a.eval x = v0) (hrun : (convert ty tz v0).run P w = .ok v1 w1) (h : wpList P ops Q rest (a.put dst v1) w1) :
    wpList P ops Q ({ dst := dst, op := .convert ty tz x, type := T, pos := pos, after := after, guard := none } :: rest) a w := by
  refine wpList_plain rfl fun K' hK' => ?_
  unfold Oper.wp
  simp [execOp, hx, hrun, Result.andThen]
  exact hK' _ _ h
theorem stop_convert {P : Program} {ops : Array Oper} {rest : List Oper} {dst : Option Tmp} {T : TypeId} {pos : String} {after : Array Edge} {a : Act} {w : World} {Q : Exit → Act → World → Prop} (ty tz : TypeId) {x : Operand}
    (h : Stop (wpList P ops Q ({ dst := dst, op := .convert ty tz x, type := T, pos := pos, after := after, guard := none } :: rest) a w)) :
    wpList P ops Q ({ dst := dst, op := .convert ty tz x, type := T, pos := pos, after := after, guard := none } :: rest) a w := h
theorem as3_3 (v : Value) (w : World) : (Instr.typeAssert (.iface 3 v) 20 3 true).run Try.prog w = .ok (.tuple #[v, .bool true]) w := by kernel_rfl
theorem as25_3 (v : Value) (w : World) : (Instr.typeAssert (.iface 32 v) 20 3 true).run Try.prog w = .ok (.tuple #[.int .i64 0, .bool false]) w := by kernel_rfl
theorem as9_3 (v : Value) (w : World) : (Instr.typeAssert (.iface 9 v) 20 3 true).run Try.prog w = .ok (.tuple #[.int .i64 0, .bool false]) w := by kernel_rfl
theorem as25_25 (v : Value) (w : World) : (Instr.typeAssert (.iface 32 v) 20 32 true).run Try.prog w = .ok (.tuple #[v, .bool true]) w := by kernel_rfl
theorem as9_25 (v : Value) (w : World) : (Instr.typeAssert (.iface 9 v) 20 32 true).run Try.prog w = .ok (.tuple #[.slice none 0 0, .bool false]) w := by kernel_rfl
theorem as9_9 (v : Value) (w : World) : (Instr.typeAssert (.iface 9 v) 20 9 true).run Try.prog w = .ok (.tuple #[v, .bool true]) w := by kernel_rfl
attribute [local go_sem] as3_3 as25_3 as9_3 as25_25 as9_25 as9_9
/-- What was handed to Put is a part; its bytes, where it has any, lie below. -/
def PartIs (w : World) (base : Nat) (u : Value) (p : Pt) : Prop :=
  (∀ x ∈ p.text, x < 256) ∧ ((p.isText = false ∧ u = .iface 3 (.int .i64 p.n)) ∨ (p.isText = true ∧ p.text.length ≤ 9223372036854775807 ∧ ((∃ s, u = .iface 32 s ∧ Old base w s p.text) ∨ u = .iface 9 (.string (strB p.text)))))
theorem PartIs.below {w w' : World} {base : Nat} {u : Value} {p : Pt} (h : PartIs w base u p) (hb : Below w.heap.size w w') : PartIs w' base u p := by
  obtain ⟨h0, h1 | ⟨h1, h2, ⟨s, h3, h4⟩ | h3⟩⟩ := h
  · exact ⟨h0, .inl h1⟩
  · exact ⟨h0, .inr ⟨h1, h2, .inl ⟨s, h3, h4.below hb⟩⟩⟩
  · exact ⟨h0, .inr ⟨h1, h2, .inr h3⟩⟩
theorem bel_le {w w' : World} {a b : Nat} (h : Below b w w') (hab : a ≤ b) : Below a w w' := ⟨h.os, h.tape, h.output, h.size, fun k hk => h.block k (Nat.lt_of_lt_of_le hk hab)⟩
theorem own_below {base e size n : Nat} {w w' : World} {v : Value} {xs : List Value} (h : w.ownsRow base e size v n xs) (hb : Below w.heap.size w w') : w'.ownsRow base e size v n xs :=
  own_only (bs := []) h (Only.of_below hb []) (fun _ _ hx => by cases hx)
set_option maxHeartbeats 1000000 in
theorem addPart_num_ok (l : List Nat) (v : Value) (n base m : Nat) (w : World) (hown : w.ownsRow base 5 1 v n (ints .u8 l)) (hn : n ≤ 80000) (hbase : base ≤ w.heap.size) (hm : m ≤ 1099511627776) :
    Calls Try.prog 59 #[v, .iface 3 (.int .i64 (m : Int))] w fun e w' => ∃ v', e = .returned (.tuple #[v', .int .i64 0]) ∧ w'.ownsRow base 5 1 v' (n + 6) (ints .u8 (l ++ Cd.be 6 m)) ∧ Below base w w' := by
  have HC := fun W (h : W = w) => (h ▸ addNumber_ok l v n base m w hown (by omega) hbase hm : Calls Try.prog 60 #[v, .int .i64 (m : Int)] W fun e w' => ∃ v', e = .returned (.tuple #[v', .int .i64 0]) ∧ w'.ownsRow base 5 1 v' (n + 6) (ints .u8 (l ++ Cd.be 6 m)) ∧ Grow v v' w w')
  have HG : Hid (∀ v' w', Grow v v' w w' → Below base w w') := fun v' w' h => h.below hown hbase
  clear hown hbase
  go_enter Try.func59, Try.ntmps59
  go_wp2_with (first | (go_at_call 60; refine (HC _ rfl).mono ?_; rintro e w1 ⟨v1, rfl, h1, h2⟩; have HO1 : Hid (w1.ownsRow base 5 1 v1 (n + 6) (ints .u8 (l ++ Cd.be 6 m))) := h1; have HG1 : Hid (Below base w w1) := HG.out _ _ h2; clear h1 h2))
  go_ret2
  exact ⟨_, rfl, HO1.out, HG1.out⟩
set_option maxHeartbeats 1000000 in
theorem addPart_num_bad (v : Value) (m : Int) (w : World) (hm : m < 0 ∨ 1099511627776 < m) :
    Calls Try.prog 59 #[v, .iface 3 (.int .i64 m)] w fun e w' => e = .returned (.tuple #[.slice none 0 0, .int .i64 12]) ∧ Below w.heap.size w w' := by
  have HM : Hid (m < 0 ∨ 1099511627776 < m) := hm
  clear hm
  go_enter Try.func59, Try.ntmps59
  go_wp2_with (first | (go_at_call 60; refine (addNumber_bad v m _ HM.out).mono ?_; rintro e w1 ⟨rfl, rfl⟩))
  go_ret2
  exact ⟨rfl, Below.refl _ _⟩
set_option maxHeartbeats 1000000 in
theorem addPart_text_ok (l : List Nat) (v : Value) (n base : Nat) (sv : Value) (t : List Nat) (w : World) (hown : w.ownsRow base 5 1 v n (ints .u8 l)) (hn : n ≤ 80000) (hbase : base ≤ w.heap.size) (hs : Src w sv t) (ht : t.length ≤ 4096) (ho : t ≠ [] → ∀ b, sv.ownBlock = some b → v.ownBlock ≠ some b) :
    Calls Try.prog 59 #[v, .iface 32 sv] w fun e w' => ∃ v', e = .returned (.tuple #[v', .int .i64 0]) ∧ w'.ownsRow base 5 1 v' (n + 2 + t.length) (ints .u8 (l ++ Cd.be 2 t.length ++ t)) ∧ Below base w w' := by
  have HC := fun W (h : W = w) => (h ▸ addText_ok l v n base sv t w hown hn hbase hs ht ho : Calls Try.prog 61 #[v, sv] W fun e w' => ∃ v', e = .returned (.tuple #[v', .int .i64 0]) ∧ w'.ownsRow base 5 1 v' (n + 2 + t.length) (ints .u8 (l ++ Cd.be 2 t.length ++ t)) ∧ Grow v v' w w')
  have HG : Hid (∀ v' w', Grow v v' w w' → Below base w w') := fun v' w' h => h.below hown hbase
  clear hown hbase hs ho
  go_enter Try.func59, Try.ntmps59
  go_wp2_with (first | (go_at_call 61; refine (HC _ rfl).mono ?_; rintro e w1 ⟨v1, rfl, h1, h2⟩; have HO1 : Hid (w1.ownsRow base 5 1 v1 (n + 2 + t.length) (ints .u8 (l ++ Cd.be 2 t.length ++ t))) := h1; have HG1 : Hid (Below base w w1) := HG.out _ _ h2; clear h1 h2))
  go_ret2
  exact ⟨_, rfl, HO1.out, HG1.out⟩
set_option maxHeartbeats 1000000 in
theorem addPart_text_bad (v : Value) (sp : Option Addr) (n sc : Nat) (w : World) (hn : 4096 < n) (hm : n ≤ 9223372036854775807) :
    Calls Try.prog 59 #[v, .iface 32 (.slice sp n sc)] w fun e w' => e = .returned (.tuple #[.slice none 0 0, .int .i64 11]) ∧ Below w.heap.size w w' := by
  go_enter Try.func59, Try.ntmps59
  go_wp2_with (first | (go_at_call 61; refine (addText_bad v sp n sc _ hn hm).mono ?_; rintro e w1 ⟨rfl, rfl⟩))
  go_ret2
  exact ⟨rfl, Below.refl _ _⟩
set_option maxHeartbeats 1000000 in
theorem addPart_str_ok (l : List Nat) (v : Value) (n base : Nat) (t : List Nat) (w : World) (hown : w.ownsRow base 5 1 v n (ints .u8 l)) (hn : n ≤ 80000) (hbase : base ≤ w.heap.size) (hl : ∀ x ∈ t, x < 256) (ht : t.length ≤ 4096) :
    Calls Try.prog 59 #[v, .iface 9 (.string (strB t))] w fun e w' => ∃ v', e = .returned (.tuple #[v', .int .i64 0]) ∧ w'.ownsRow base 5 1 v' (n + 2 + t.length) (ints .u8 (l ++ Cd.be 2 t.length ++ t)) ∧ Below base w w' := by
  obtain ⟨c, w1, hr, hs1, hb1⟩ := str_src w t hl
  have ho1 := own_below hown hb1
  have hbase1 := Nat.le_trans hbase hb1.size
  have HC := fun W (h : W = w1) => (h ▸ addText_ok l v n base (.slice (some ⟨w.heap.size, 0, none⟩) t.length c) t w1 ho1 hn hbase1 hs1 ht (fun _ b hb hv => by cases hb; have := (hown.lt _ hv).2; exact absurd this (Nat.lt_irrefl _)) : Calls Try.prog 61 #[v, .slice (some ⟨w.heap.size, 0, none⟩) t.length c] W fun e w' => ∃ v', e = .returned (.tuple #[v', .int .i64 0]) ∧ w'.ownsRow base 5 1 v' (n + 2 + t.length) (ints .u8 (l ++ Cd.be 2 t.length ++ t)) ∧ Grow v v' w1 w')
  have HG : Hid (∀ v' w', Grow v v' w1 w' → Below base w w') := fun v' w' h => (bel_le hb1 hbase).trans (h.below ho1 hbase1)
  have HR : Hid ((convert 9 32 (.string (strB t))).run Try.prog w = .ok (.slice (some ⟨w.heap.size, 0, none⟩) t.length c) w1) := hr
  clear hown hbase hr hs1 hb1 ho1 hbase1
  generalize strB t = st at *
  go_enter Try.func59, Try.ntmps59
  go_wp2_with (first | with_reducible (refine stop_convert 9 32 ?_))
  refine Stop.go ?_
  refine law_convert (.string st) _ w1 rfl HR.out ?_
  generalize w.heap.size = g at *
  clear HR
  go_wp2_with (first | (go_at_call 61; refine (HC _ rfl).mono ?_; rintro e w2 ⟨v1, rfl, h1, h2⟩; have HO1 : Hid (w2.ownsRow base 5 1 v1 (n + 2 + t.length) (ints .u8 (l ++ Cd.be 2 t.length ++ t))) := h1; have HG1 : Hid (Below base w w2) := HG.out _ _ h2; clear h1 h2))
  go_ret2
  exact ⟨_, rfl, HO1.out, HG1.out⟩
set_option maxHeartbeats 1000000 in
theorem addPart_str_bad (v : Value) (t : List Nat) (w : World) (hl : ∀ x ∈ t, x < 256) (hn : 4096 < t.length) (hm : t.length ≤ 9223372036854775807) :
    Calls Try.prog 59 #[v, .iface 9 (.string (strB t))] w fun e w' => e = .returned (.tuple #[.slice none 0 0, .int .i64 11]) ∧ Below w.heap.size w w' := by
  obtain ⟨c, w1, hr, -, hb1⟩ := str_src w t hl
  have HR : Hid ((convert 9 32 (.string (strB t))).run Try.prog w = .ok (.slice (some ⟨w.heap.size, 0, none⟩) t.length c) w1) := hr
  have HB : Hid (Below w.heap.size w w1) := hb1
  clear hr hb1
  generalize strB t = st at *
  go_enter Try.func59, Try.ntmps59
  go_wp2_with (first | with_reducible (refine stop_convert 9 32 ?_))
  refine Stop.go ?_
  refine law_convert (.string st) _ w1 rfl HR.out ?_
  clear HR
  go_wp2_with (first | (go_at_call 61; refine (addText_bad v _ t.length c _ hn hm).mono ?_; rintro e w2 ⟨rfl, rfl⟩))
  go_ret2
  exact ⟨rfl, HB.out⟩
theorem addPart_ok (l : List Nat) (v : Value) (n base : Nat) (u : Value) (p : Pt) (w : World) (hown : w.ownsRow base 5 1 v n (ints .u8 l)) (hn : n ≤ 80000) (hbase : base ≤ w.heap.size) (hp : PartIs w base u p) (hw : Cd.wrong p = 0) :
    Calls Try.prog 59 #[v, u] w fun e w' => ∃ v', e = .returned (.tuple #[v', .int .i64 0]) ∧ w'.ownsRow base 5 1 v' (n + (Cd.one p).length) (ints .u8 (l ++ Cd.one p)) ∧ Below base w w' := by
  obtain ⟨h0, ⟨h1, rfl⟩ | ⟨h1, h2, h3⟩⟩ := hp
  · have hw' : 0 ≤ p.n ∧ p.n ≤ 1099511627776 := by
      unfold Cd.wrong at hw
      rw [if_neg (by rw [h1]; decide)] at hw
      split at hw
      · contradiction
      · omega
    have e1 : Cd.one p = Cd.be 6 p.n.toNat := by unfold Cd.one; rw [if_neg (by rw [h1]; decide)]
    have e2 : p.n = (p.n.toNat : Int) := by omega
    rw [e1, Cd.be_length]
    have := addPart_num_ok l v n base p.n.toNat w hown hn hbase (by omega)
    rwa [← e2] at this
  · have hw' : p.text.length ≤ 4096 := by
      unfold Cd.wrong at hw
      rw [if_pos h1] at hw
      split at hw
      · contradiction
      · omega
    have e1 : Cd.one p = Cd.be 2 p.text.length ++ p.text := by unfold Cd.one; rw [if_pos h1]
    rw [e1, List.length_append, Cd.be_length, ← Nat.add_assoc, ← List.append_assoc]
    rcases h3 with ⟨s, rfl, h4⟩ | rfl
    · exact addPart_text_ok l v n base s p.text w hown hn hbase h4.1 hw' (own_apart hown h4.2)
    · exact addPart_str_ok l v n base p.text w hown hn hbase h0 hw'
theorem addPart_bad (v : Value) (base : Nat) (u : Value) (p : Pt) (w : World) (hp : PartIs w base u p) (hw : Cd.wrong p ≠ 0) :
    Calls Try.prog 59 #[v, u] w fun e w' => e = .returned (.tuple #[.slice none 0 0, .int .i64 (Cd.wrong p : Nat)]) ∧ Below w.heap.size w w' := by
  obtain ⟨h0, ⟨h1, rfl⟩ | ⟨h1, h2, h3⟩⟩ := hp
  · have hx : p.n < 0 ∨ 1099511627776 < p.n := by
      unfold Cd.wrong at hw
      rw [if_neg (by rw [h1]; decide)] at hw
      split at hw
      · assumption
      · contradiction
    have e1 : Cd.wrong p = 12 := by unfold Cd.wrong; rw [if_neg (by rw [h1]; decide), if_pos hx]
    rw [e1]
    exact addPart_num_bad v p.n w hx
  · have hx : 4096 < p.text.length := by
      unfold Cd.wrong at hw
      rw [if_pos h1] at hw
      split at hw
      · assumption
      · contradiction
    have e1 : Cd.wrong p = 11 := by unfold Cd.wrong; rw [if_pos h1, if_pos hx]
    rw [e1]
    rcases h3 with ⟨s, rfl, h4⟩ | rfl
    · obtain ⟨sp, sc, rfl, -⟩ := h4.1.slice
      exact addPart_text_bad v sp _ sc w hx h2
    · exact addPart_str_bad v p.text w h0 hx h2
/-- A slice of parts as any values. -/
def PartsIs (w : World) (base : Nat) (q : Option Addr) (ps : List Pt) : Prop :=
  ∀ j (h : j < ps.length), ∃ b o u, q = some ⟨b, o, none⟩ ∧ b < w.heap.size ∧ w.cell? ⟨b, o + j, none⟩ = some u ∧ PartIs w base u ps[j]
/-- What Put tells. -/
def PutSays (base : Nat) (ps : List Pt) (e : Ending) (w w' : World) : Prop :=
  Below base w w' ∧ ((Cd.err ps = 0 ∧ ∃ v, e = .returned (.tuple #[v, .int .i64 0]) ∧ w'.ownsRow base 5 1 v (Cd.enc ps).length (ints .u8 (Cd.enc ps))) ∨ (Cd.err ps ≠ 0 ∧ e = .returned (.tuple #[.slice none 0 0, .int .i64 (Cd.err ps : Nat)])))
set_option maxHeartbeats 2000000 in
theorem Put_any (ps : List Pt) (q : Option Addr) (c : Nat) (w : World) (hl : ps.length ≤ 20) (hp : PartsIs w w.heap.size q ps) :
    Calls Try.prog 57 #[.slice q ps.length c] w fun e w' => PutSays w.heap.size ps e w w' := by
  have HP : Hid (PartsIs w w.heap.size q ps) := hp
  obtain ⟨n, HN⟩ : ∃ n, Hid (ps.length = n) := ⟨_, rfl⟩
  rw [HN.out] at hl ⊢
  clear hp
  have l1 : (n : Int) ≤ 20 := by omega
  go_enter Try.func57, Try.ntmps57
  go_wp2_with fail
  go_loopw [4, 10] (fun sl i wr => ∃ j : Nat, j ≤ n ∧ i = .int .i64 j ∧ Hid (wr.ownsRow w.heap.size 5 1 sl (Cd.enc (ps.take j)).length (ints .u8 (Cd.enc (ps.take j)))) ∧ Hid (Below w.heap.size w wr) ∧ Hid (Cd.err (ps.take j) = 0)) (fun _ i _ => n - (intOf i).toNat)
  case atStart => exact ⟨0, by omega, rfl, own_none _ _ _ _, Below.refl _ _, rfl⟩
  case round =>
    obtain ⟨j, hj, rfl, HO, HB, HE⟩ := hrel
    by_cases hlt : j < n
    · have hjp : j < ps.length := by rw [HN.out]; exact hlt
      obtain ⟨b, o, u, rfl, hb, hc, hpart⟩ := HP.out j hjp
      have d1 := (HB.out.cell (p := ⟨b, o + j, none⟩) hb).trans hc
      have HPT : Hid (PartIs wr w.heap.size u ps[j]) := hpart.below HB.out
      have j1 : (j : Int) < (n : Int) := by omega
      have j0 : (0 : Int) ≤ (j : Int) := by omega
      have HL : Hid ((Cd.enc (ps.take j)).length ≤ 80000) := by
        have h1 := Cd.enc_length_le (Cd.wrong_of_err HE.out)
        have h2 : (ps.take j).length ≤ 19 := by rw [List.length_take]; omega
        show _ ≤ _
        omega
      have HS : Hid (w.heap.size ≤ wr.heap.size) := HB.out.size
      clear hc hpart
      by_cases hw : Cd.wrong ps[j] = 0
      · have HE2 : Hid (Cd.err (ps.take (j + 1)) = 0) := Cd.err_take_succ HE.out hjp hw
        have HC2 : Hid (Cd.enc (ps.take (j + 1)) = Cd.enc (ps.take j) ++ Cd.one ps[j]) := by
          show _ = _
          rw [List.take_succ_eq_append_getElem hjp, Cd.enc_snoc]
        have HC : ∀ W, W = wr → Calls Try.prog 59 #[u4, u] W fun e w' => ∃ v', e = .returned (.tuple #[v', .int .i64 0]) ∧ Hid (w'.ownsRow w.heap.size 5 1 v' (Cd.enc (ps.take (j + 1))).length (ints .u8 (Cd.enc (ps.take (j + 1))))) ∧ Hid (Below w.heap.size w w') := by
          rintro W rfl
          refine (addPart_ok _ u4 _ w.heap.size u ps[j] W HO.out HL.out HS.out HPT.out hw).mono ?_
          rintro e w' ⟨v', rfl, h1, h2⟩
          refine ⟨v', rfl, ?_, HB.out.trans h2⟩
          show World.ownsRow _ _ _ _ _ _ _
          rw [HC2.out, List.length_append]
          exact h1
        clear hw HC2 HL HPT HO HE hjp
        go_wp2_with (first | (go_at_call 59; refine (HC _ rfl).mono ?_; rintro e w1 ⟨v1, rfl, HO1, HB1⟩))
        refine ⟨⟨j + 1, by omega, by simp, HO1, HB1, HE2⟩, ?_⟩
        simp only [intOf]
        omega
      · have HE2 : Hid (Cd.err ps = Cd.wrong ps[j]) := Cd.err_take HE.out hjp hw
        obtain ⟨er, HER⟩ : ∃ er, Hid (Cd.err ps = er) := ⟨_, rfl⟩
        have HC : ∀ W, W = wr → Calls Try.prog 59 #[u4, u] W fun e w' => e = .returned (.tuple #[.slice none 0 0, .int .i64 (er : Nat)]) ∧ Hid (Below w.heap.size w w') := by
          rintro W rfl
          refine (addPart_bad u4 w.heap.size u ps[j] W HPT.out hw).mono ?_
          rintro e w' ⟨rfl, h2⟩
          exact ⟨by rw [← HER.out, HE2.out], HB.out.trans (bel_le h2 HS.out)⟩
        have HNZ : Hid (Cd.err ps ≠ 0) := by show _ ≠ _; rw [HE2.out]; exact hw
        have hz : ¬ (er : Int) = 0 := by have := HNZ.out; rw [HER.out] at this; omega
        clear hw HL HPT HO HE hjp HE2
        go_wp2_with (first | (go_at_call 59; refine (HC _ rfl).mono ?_; rintro e w1 ⟨rfl, HB1⟩))
        go_ret2
        exact ⟨HB1.out, .inr ⟨HNZ.out, by rw [HER.out]; rfl⟩⟩
    · obtain rfl : j = n := by omega
      have j1 : ¬ (j : Int) < (j : Int) := by omega
      have HE0 : Hid (Cd.err ps = 0) := by have := HE.out; rwa [List.take_of_length_le (by rw [HN.out]; omega)] at this
      have HO0 : Hid (wr.ownsRow w.heap.size 5 1 u4 (Cd.enc ps).length (ints .u8 (Cd.enc ps))) := by have := HO.out; rwa [List.take_of_length_le (by rw [HN.out]; omega)] at this
      clear HE HO
      go_wp2_with fail
      go_ret2
      exact ⟨HB.out, .inl ⟨HE0.out, _, rfl, HO0.out⟩⟩
end Go.Proofs.Ytchoiioeeepoaaa.C8
