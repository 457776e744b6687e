/- The walk of TallySums. -/
import Derived.Test.YtbppipnnmmddaaaT6MakesW
import Derived.Test.YtbppipnnmmddaaaT6Struct
import Derived.Test.YtbppipnnmmddaaaT6Sum
import Derived.Test.YtbppipnnmmddaaaT6App
import Derived.Lib.SmallJoins
namespace Go.Proofs.Ytbppipnnmmddaaa
open Go.RowKit Ieee
/-- Behind a slice lie pairs. -/
def PRow (w : World) (p : Option Addr) (D : List (Int × Int)) : Prop :=
  ∀ j (h : j < D.length), ∃ b o, p = some ⟨b, o, none⟩ ∧ b < w.heap.size ∧ w.cell? ⟨b, o + j * 2, none⟩ = some (.int .i64 D[j].1) ∧ w.cell? ⟨b, o + j * 2 + 1, none⟩ = some (.int .i64 D[j].2)
/-- Values that are the numbers of pairs. -/
def Cs (xs : List Value) (D : List (Int × Int)) : Prop := ∀ k (h : k < D.length), ∃ a b, xs[k]? = some (.complex .f64 a b) ∧ U a D[k].1 ∧ U b D[k].2
theorem Cs.snoc {xs : List Value} {D : List (Int × Int)} {j : Nat} (hl : xs.length = j) (h : Cs xs (D.take j)) (hj : j < D.length) {a b : Nat} (ha : U a D[j].1) (hb : U b D[j].2) : Cs (xs ++ [.complex .f64 a b]) (D.take (j + 1)) := fun k hk => by
  have hk' : k < j + 1 := by simp at hk; omega
  by_cases e : k = j
  · subst e
    refine ⟨a, b, by rw [List.getElem?_append_right (by omega)]; simp [hl], ?_, ?_⟩ <;> rw [List.getElem_take] <;> assumption
  · obtain ⟨a', b', h1, h2, h3⟩ := h k (by simp; omega)
    rw [List.getElem_take] at h2 h3
    refine ⟨a', b', by rw [List.getElem?_append_left (by omega)]; exact h1, ?_, ?_⟩ <;> rw [List.getElem_take] <;> assumption
theorem Steps.snoc {D : List (Int × Int)} {j : Nat} (h : Steps (D.take j)) (hj : j < D.length) (hs : Sp2 D[j].1 D[j].2) : Steps (D.take (j + 1)) := fun k hk => by
  have hk' : k < j + 1 := by simp at hk; omega
  rw [List.getElem_take]
  by_cases e : k = j
  · subst e; exact hs
  · have := h k (by simp; omega)
    rwa [List.getElem_take] at this
theorem Row.of_own {w : World} {base : Nat} {v : Value} {n : Nat} {xs : List Value} {q : Option Addr} {c : Nat} {D : List (Int × Int)} (hown : w.ownsRow base 25 1 v n xs) (hv : v = .slice q n c) (hn : D.length = n) (h : Cs xs D) : Row w q D := fun j hj => by
  obtain ⟨a, b, h1, h2, h3⟩ := h j hj
  obtain ⟨hl, ⟨h0, h0'⟩ | ⟨g, cap, cur, he, hg, hh, hnn, hm, hc, ht⟩⟩ := hown
  · omega
  · rw [hv] at he
    cases he
    refine ⟨g, 0, a, b, rfl, ?_, h2, h3⟩
    rw [cell_of_row _ _ _ _ _ _ hh, Nat.zero_add]
    rw [← ht, Nat.mul_one, List.getElem?_take_of_lt (by omega)] at h1
    simpa using h1
theorem At1.next1 {w0 W W' : World} {x y : Int} (h : At1 w0 x y W) (b : Below (w0.heap.size + 1) W W') : At1 w0 x y W' :=
  ⟨h.bel.trans (belowLe b (by omega)), Nat.lt_of_lt_of_le h.sz b.size, h.p.below b (by omega)⟩
theorem Sum_some (D : List (Int × Int)) (a b : Nat) (m n m' n' : Int) (p : Option Addr) (nn c : Nat) (w : World) (hx : U a m) (hy : U b n) (hr1 : Rt m n) (h : Row w p D) (hs : Steps D) (hn : D.length = nn) (hl : nn ≤ 40) (hS : sums m n D = some (m', n')) : Calls Try.prog 15 #[.complex .f64 a b, .slice p nn c] w fun e w' => ∃ x y, e = .returned (.tuple #[.complex .f64 x y, .int .i64 0]) ∧ U x m' ∧ U y n' ∧ Below w.heap.size w w' :=
  (Sum_ok D a b m n p nn c w hx hy hr1 h hs hn hl).mono fun e w' ⟨k, h1, h2⟩ => by
    rcases h1 with ⟨m2, n2, h, x, y, he, hx', hy'⟩ | ⟨h, _⟩
    · rw [hS] at h
      cases h
      exact ⟨x, y, he, hx', hy', below_of h2⟩
    · rw [hS] at h
      cases h
theorem Sum_out (D : List (Int × Int)) (a b : Nat) (m n : Int) (p : Option Addr) (nn c : Nat) (w : World) (hx : U a m) (hy : U b n) (hr1 : Rt m n) (h : Row w p D) (hs : Steps D) (hn : D.length = nn) (hl : nn ≤ 40) (hS : sums m n D = none) : Calls Try.prog 15 #[.complex .f64 a b, .slice p nn c] w fun e w' => e = .returned (.tuple #[.complex .f64 0 0, .int .i64 12]) ∧ Below w.heap.size w w' :=
  (Sum_ok D a b m n p nn c w hx hy hr1 h hs hn hl).mono fun e w' ⟨k, h1, h2⟩ => by
    rcases h1 with ⟨m2, n2, h, _⟩ | ⟨_, he⟩
    · rw [hS] at h
      cases h
    · exact ⟨he, below_of h2⟩
set_option maxHeartbeats 8000000 in
theorem sums_main (x y : Int) (D : List (Int × Int)) (p : Option Addr) (n c : Nat) (w : World) (h : Rt x y) (hp : PRow w p D) (hn : D.length = n) (hl : n ≤ 40) : Calls Try.prog 5 #[.agg #[.int .i64 x, .int .i64 y], .slice p n c] w fun e w' => e = .returned (.bool true) ∧ Below w.heap.size w w' := by
  have HR : Hid (Rt x y) := h
  have HP : Hid (PRow w p D) := hp
  have HN : Hid (D.length = n) := hn
  clear h hp hn
  go_enter Try.func5, Try.ntmps5
  go_wp2_with (first
    | (go_at_call 9; refine (anchor_any _).mono ?_; rintro e w1 ⟨rfl, b1⟩; have a1 : At1 w x y w1 := (At1.start w x y).next b1; have c0 := a1.p.c0; have c1 := a1.p.c1; clear b1)
    | (go_at_call 11; refine (right_yes x y HR.out _).mono ?_; rintro e w2 ⟨rfl, b1⟩; have a2 : At1 w x y w2 := At1.next (by assumption) b1; clear b1))
  clear c0 c1 a1
  have A2 : Hid (At1 w x y w2) := a2
  clear a2
  go_loopw [5, 25] (fun lv i wr => ∃ (j : Nat) (xs : List Value), j ≤ n ∧ i = .int .i64 j ∧ Hid (wr.ownsRow (w.heap.size + 1) 25 1 lv j xs) ∧ Hid (At1 w x y wr) ∧ Hid (xs.length = j) ∧ Hid (Cs xs (D.take j)) ∧ Hid (Steps (D.take j))) (fun _ i _ => n - (intOf i).toNat)
  case atStart => exact ⟨0, [], by omega, rfl, own_none _ _ _ _, A2.out, rfl, fun k hk => absurd hk (by simp), fun k hk => absurd hk (by simp)⟩
  case round =>
    obtain ⟨j, xs, hj, rfl, HO, HA, HX, HC, HST⟩ := hrel
    by_cases hlt : j < n
    · obtain ⟨b, o, rfl, hb, k1, k2⟩ := HP.out j (by rw [HN.out]; exact hlt)
      have d1 := (HA.out.bel.cell (p := ⟨b, o + j * 2, none⟩) hb).trans k1
      have d2 := (HA.out.bel.cell (p := ⟨b, o + j * 2 + 1, none⟩) hb).trans k2
      have j1 : (j : Int) < (n : Int) := by omega
      clear k1 k2
      have hjD : j < D.length := by rw [HN.out]; exact hlt
      have HS1 : Hid (Sp2 D[j].1 D[j].2 → Steps (D.take (j + 1))) := fun h => HST.out.snoc hjD h
      have HC1 : Hid (∀ a b, U a D[j].1 → U b D[j].2 → Cs (xs ++ [.complex .f64 a b]) (D.take (j + 1))) := fun a b h1 h2 => HC.out.snoc HX.out hjD h1 h2
      generalize hd : D[j] = d at *
      clear hd hjD
      obtain ⟨dx, dy⟩ := d
      simp only at d1 d2
      by_cases hsp : Sp2 dx dy
      · have HSP : Hid (Sp2 dx dy) := hsp
        have HY : Hid (dx.natAbs < 2 ^ 53 ∧ dy.natAbs < 2 ^ 53) := by obtain ⟨_, _, _, _⟩ := hsp; exact ⟨by omega, by omega⟩
        clear hsp
        go_wp2_with (first
          | (go_at_call 20; refine (step_yes dx dy HSP.out _).mono ?_; rintro e w3 ⟨rfl, b1⟩; have a3 : At1 wr dx dy w3 := (At1.start wr dx dy).next b1; have e0 := a3.p.c0; have e1 := a3.p.c1; clear b1)
          | (go_at_call 13; refine (number_U dx dy HY.out.1 HY.out.2 _).mono ?_; rintro e w4 ⟨r, s, rfl, hr, hs, b1⟩; have A4 : Hid (At1 wr dx dy w4) := At1.next (by assumption) b1; clear b1)
          | with_reducible refine stop_builtin .append ?_)
        refine Stop.go ?_
        have hBW : Below wr.heap.size wr (w4.alloc (Obj.cells #[Value.complex FloatKind.f64 r s] 25)) := A4.out.bel.alloc (Nat.le_of_lt A4.out.sz) _
        have hO2 := own_below HO.out hBW
        have hsz : w.heap.size + 1 ≤ wr.heap.size := HA.out.sz
        with_reducible refine law_append_c (w.heap.size + 1) u5 j xs w4.heap.size 1 r s rfl rfl hO2 ?ca (by omega) ?cb ?_
        case ca => exact Joins.cell_alloc_mark_at w4 _ 25 (0, 0) _ 0 rfl
        case cb => exact Nat.le_trans hsz hBW.size
        intro v' w5 h1 h2
        have HO5 : Hid (w5.ownsRow (w.heap.size + 1) 25 1 v' (j + 1) (xs ++ [.complex .f64 r s])) := h1
        have HA5 : Hid (At1 w x y w5) := HA.out.next1 (below_grown' (hBW.mono hsz) h2 hO2 (Nat.le_trans hsz hBW.size) (Nat.le_refl _))
        have HX5 : Hid ((xs ++ [Value.complex .f64 r s]).length = j + 1) := by show _ = _; simp [HX.out]
        have HC5 : Hid (Cs (xs ++ [.complex .f64 r s]) (D.take (j + 1))) := HC1.out r s hr hs
        have HS5 : Hid (Steps (D.take (j + 1))) := HS1.out HSP.out
        clear hBW hO2 h1 h2 HC1 HS1 HC HST HX HO HA A4 hr hs
        generalize xs ++ [Value.complex .f64 r s] = xs2 at *
        go_wp2_with fail
        refine ⟨⟨j + 1, xs2, by omega, by simp, HO5, HA5, HX5, HC5, HS5⟩, ?_⟩
        simp only [intOf]
        omega
      · have HSP : Hid (¬ Sp2 dx dy) := hsp
        clear hsp
        go_wp2_with (go_at_call 20; refine (step_no dx dy HSP.out _).mono ?_; rintro e w3 ⟨rfl, b1⟩; have B3 : Hid (Below w.heap.size w w3) := HA.out.bel.trans (((At1.start wr dx dy).next b1).bel.mono (Nat.le_of_lt HA.out.sz)); clear b1)
        go_ret
        exact ⟨rfl, B3.out⟩
    · obtain rfl : j = n := by omega
      have j1 : ¬ (j : Int) < (j : Int) := by omega
      have HC0 : Hid (Cs xs D) := by have := HC.out; rwa [List.take_of_length_le (by rw [HN.out]; omega)] at this
      have HS0 : Hid (Steps D) := by have := HST.out; rwa [List.take_of_length_le (by rw [HN.out]; omega)] at this
      obtain ⟨q, c', rfl⟩ := own_slice HO.out
      have e0 := HA.out.p.c0
      have e1 := HA.out.p.c1
      clear HC HST
      cases hS : sums x y D with
      | none =>
        have HSN : Hid (sums x y D = none) := hS
        clear hS
        go_wp2_with (first
          | (go_at_call 13; refine (number_U x y HR.out.x HR.out.y _).mono ?_; rintro e w3 ⟨r, s, rfl, hr, hs, b1⟩; have A3 : Hid (At1 w x y w3) := HA.out.next b1; have HO3 : Hid (w3.ownsRow (w.heap.size + 1) 25 1 (.slice q j c') j xs) := own_below HO.out b1; have f0 := A3.out.p.c0; have f1 := A3.out.p.c1; clear b1)
          | (go_at_call 15; refine (Sum_out D r s x y q j c' _ hr hs HR.out (Row.of_own HO3.out rfl HN.out HC0.out) HS0.out HN.out hl HSN.out).mono ?_; rintro e w4 ⟨rfl, b1⟩; have A4 : Hid (At1 w x y w4) := A3.out.next b1; have g0 := A4.out.p.c0; have g1 := A4.out.p.c1; clear b1))
        have A5 : Hid (At1 w4 x y (w4.alloc (bx x y))) := At1.start w4 x y
        have B4 : Hid (Below w.heap.size w w4 ∧ w.heap.size ≤ w4.heap.size) := ⟨A4.out.bel, Nat.le_of_lt A4.out.sz⟩
        clear A4 A3 HO3 HO HA e0 e1 f0 f1 g0 g1 HC0 A2
        go_loopw [48] (fun i wr => ∃ (j2 : Nat) (m1 n1 : Int), j2 ≤ j ∧ i = .int .i64 j2 ∧ Hid (At1 w4 m1 n1 wr) ∧ Hid (Rt m1 n1) ∧ Hid (sums x y D = sums m1 n1 (D.drop j2))) (fun i _ => j - (intOf i).toNat)
        case atStart => exact ⟨0, x, y, by omega, rfl, A5.out, HR.out, rfl⟩
        case round =>
          obtain ⟨j2, m1, n1, hj2, rfl, HA2, HR2, HE⟩ := hrel
          by_cases hlt2 : j2 < j
          · obtain ⟨b, o, rfl, hb, k1, k2⟩ := HP.out j2 (by rw [HN.out]; exact hlt2)
            have hbw : Below w.heap.size w wr := B4.out.1.trans (HA2.out.bel.mono B4.out.2)
            have d1 := (hbw.cell (p := ⟨b, o + j2 * 2, none⟩) hb).trans k1
            have d2 := (hbw.cell (p := ⟨b, o + j2 * 2 + 1, none⟩) hb).trans k2
            have j3 : (j2 : Int) < (j : Int) := by omega
            have hjD : j2 < D.length := by rw [HN.out]; exact hlt2
            have hsp := HS0.out j2 hjD
            have hdr : D.drop j2 = D[j2] :: D.drop (j2 + 1) := List.drop_eq_getElem_cons _
            generalize hd : D[j2] = d at *
            obtain ⟨dx, dy⟩ := d
            simp only at d1 d2 hsp
            have HE2 : Hid (sums x y D = if Rq (m1 + dx) (n1 + dy) then sums (m1 + dx) (n1 + dy) (D.drop (j2 + 1)) else none) := by
              show _ = _
              rw [HE.out, hdr]
              rfl
            have f0 := HA2.out.p.c0
            have f1 := HA2.out.p.c1
            have g0 : wr.frozen? ⟨w4.heap.size, 0, none⟩ = false := frozen_of_row _ _ _ _ _ HA2.out.p
            have g1 : wr.frozen? ⟨w4.heap.size, 1, none⟩ = false := frozen_of_row _ _ _ _ _ HA2.out.p
            have hlt4 := HA2.out.sz
            have l1 : IntKind.i64.wrap (m1 + dx) = m1 + dx := by obtain ⟨_, _, _, _⟩ := HR2.out; obtain ⟨_, _, _, _⟩ := hsp; exact i64_id _ (by omega)
            have l2 : IntKind.i64.wrap (n1 + dy) = n1 + dy := by obtain ⟨_, _, _, _⟩ := HR2.out; obtain ⟨_, _, _, _⟩ := hsp; exact i64_id _ (by omega)
            have l3 : -9223372036854775808 ≤ m1 + dx ∧ m1 + dx ≤ 9223372036854775807 := by obtain ⟨_, _, _, _⟩ := HR2.out; obtain ⟨_, _, _, _⟩ := hsp; omega
            have l4 : -9223372036854775808 ≤ n1 + dy ∧ n1 + dy ≤ 9223372036854775807 := by obtain ⟨_, _, _, _⟩ := HR2.out; obtain ⟨_, _, _, _⟩ := hsp; omega
            clear k1 k2 hdr hd hjD hsp HE hbw
            by_cases hR : Rt (m1 + dx) (n1 + dy)
            · have HR3 : Hid (Rt (m1 + dx) (n1 + dy)) := hR
              have HE3 : Hid (sums x y D = sums (m1 + dx) (n1 + dy) (D.drop (j2 + 1))) := HE2.out.trans (if_pos hR)
              have HA3 : Hid (At1 w4 (m1 + dx) (n1 + dy) (((wr.setCell ⟨w4.heap.size, 0, none⟩ (.int .i64 (m1 + dx))).setCell ⟨w4.heap.size, 1, none⟩ (.int .i64 (n1 + dy))).alloc (bx dx dy))) := HA2.out.set (m1 + dx) (n1 + dy) dx dy
              clear HE2 hR HA2 HR2
              go_wp2_with (go_at_call 11; refine (right_yes _ _ HR3.out _).mono ?_; rintro e w6 ⟨rfl, b1⟩; have A6 : Hid (At1 w4 (m1 + dx) (n1 + dy) w6) := HA3.out.next b1; clear b1)
              refine ⟨⟨j2 + 1, m1 + dx, n1 + dy, by omega, by simp, A6, HR3, HE3⟩, ?_⟩
              simp only [intOf]
              omega
            · have HR3 : Hid (¬ Rt (m1 + dx) (n1 + dy)) := hR
              have HA3 : Hid (At1 w4 (m1 + dx) (n1 + dy) (((wr.setCell ⟨w4.heap.size, 0, none⟩ (.int .i64 (m1 + dx))).setCell ⟨w4.heap.size, 1, none⟩ (.int .i64 (n1 + dy))).alloc (bx dx dy))) := HA2.out.set (m1 + dx) (n1 + dy) dx dy
              have q0 := eq_t U0 U0 rfl
              clear HE2 hR HA2 HR2
              go_wp2_with (go_at_call 11; refine (right_no _ _ HR3.out _).mono ?_; rintro e w6 ⟨rfl, b1⟩; have A6 : Hid (At1 w4 (m1 + dx) (n1 + dy) w6) := HA3.out.next b1; clear b1)
              go_ret
              exact ⟨rfl, B4.out.1.trans (A6.out.bel.mono B4.out.2)⟩
          · exfalso
            have he : sums m1 n1 (D.drop j2) = some (m1, n1) := by
              rw [List.drop_eq_nil_of_le (by rw [HN.out]; omega)]
              rfl
            have := HSN.out.symm.trans (HE.out.trans he)
            cases this
      | some mn =>
        obtain ⟨m', n'⟩ := mn
        have HSN : Hid (sums x y D = some (m', n')) := hS
        clear hS
        go_wp2_with (first
          | (go_at_call 13; refine (number_U x y HR.out.x HR.out.y _).mono ?_; rintro e w3 ⟨r, s, rfl, hr, hs, b1⟩; have A3 : Hid (At1 w x y w3) := HA.out.next b1; have HO3 : Hid (w3.ownsRow (w.heap.size + 1) 25 1 (.slice q j c') j xs) := own_below HO.out b1; have f0 := A3.out.p.c0; have f1 := A3.out.p.c1; clear b1)
          | (go_at_call 15; refine (Sum_some D r s x y m' n' q j c' _ hr hs HR.out (Row.of_own HO3.out rfl HN.out HC0.out) HS0.out HN.out hl HSN.out).mono ?_; rintro e w4 ⟨rt, st, rfl, hrt, hst, b1⟩; have A4 : Hid (At1 w x y w4) := A3.out.next b1; have g0 := A4.out.p.c0; have g1 := A4.out.p.c1; clear b1))
        have A5 : Hid (At1 w4 x y (w4.alloc (bx x y))) := At1.start w4 x y
        have B4 : Hid (Below w.heap.size w w4 ∧ w.heap.size ≤ w4.heap.size) := ⟨A4.out.bel, Nat.le_of_lt A4.out.sz⟩
        clear A4 A3 HO3 HO HA e0 e1 f0 f1 g0 g1 HC0 A2
        go_loopw [48] (fun i wr => ∃ (j2 : Nat) (m1 n1 : Int), j2 ≤ j ∧ i = .int .i64 j2 ∧ Hid (At1 w4 m1 n1 wr) ∧ Hid (Rt m1 n1) ∧ Hid (sums x y D = sums m1 n1 (D.drop j2))) (fun i _ => j - (intOf i).toNat)
        case atStart => exact ⟨0, x, y, by omega, rfl, A5.out, HR.out, rfl⟩
        case round =>
          obtain ⟨j2, m1, n1, hj2, rfl, HA2, HR2, HE⟩ := hrel
          by_cases hlt2 : j2 < j
          · obtain ⟨b, o, rfl, hb, k1, k2⟩ := HP.out j2 (by rw [HN.out]; exact hlt2)
            have hbw : Below w.heap.size w wr := B4.out.1.trans (HA2.out.bel.mono B4.out.2)
            have d1 := (hbw.cell (p := ⟨b, o + j2 * 2, none⟩) hb).trans k1
            have d2 := (hbw.cell (p := ⟨b, o + j2 * 2 + 1, none⟩) hb).trans k2
            have j3 : (j2 : Int) < (j : Int) := by omega
            have hjD : j2 < D.length := by rw [HN.out]; exact hlt2
            have hsp := HS0.out j2 hjD
            have hdr : D.drop j2 = D[j2] :: D.drop (j2 + 1) := List.drop_eq_getElem_cons _
            generalize hd : D[j2] = d at *
            obtain ⟨dx, dy⟩ := d
            simp only at d1 d2 hsp
            have HE2 : Hid (sums x y D = if Rq (m1 + dx) (n1 + dy) then sums (m1 + dx) (n1 + dy) (D.drop (j2 + 1)) else none) := by
              show _ = _
              rw [HE.out, hdr]
              rfl
            have f0 := HA2.out.p.c0
            have f1 := HA2.out.p.c1
            have g0 : wr.frozen? ⟨w4.heap.size, 0, none⟩ = false := frozen_of_row _ _ _ _ _ HA2.out.p
            have g1 : wr.frozen? ⟨w4.heap.size, 1, none⟩ = false := frozen_of_row _ _ _ _ _ HA2.out.p
            have hlt4 := HA2.out.sz
            have l1 : IntKind.i64.wrap (m1 + dx) = m1 + dx := by obtain ⟨_, _, _, _⟩ := HR2.out; obtain ⟨_, _, _, _⟩ := hsp; exact i64_id _ (by omega)
            have l2 : IntKind.i64.wrap (n1 + dy) = n1 + dy := by obtain ⟨_, _, _, _⟩ := HR2.out; obtain ⟨_, _, _, _⟩ := hsp; exact i64_id _ (by omega)
            have l3 : -9223372036854775808 ≤ m1 + dx ∧ m1 + dx ≤ 9223372036854775807 := by obtain ⟨_, _, _, _⟩ := HR2.out; obtain ⟨_, _, _, _⟩ := hsp; omega
            have l4 : -9223372036854775808 ≤ n1 + dy ∧ n1 + dy ≤ 9223372036854775807 := by obtain ⟨_, _, _, _⟩ := HR2.out; obtain ⟨_, _, _, _⟩ := hsp; omega
            clear k1 k2 hdr hd hjD hsp HE hbw
            by_cases hR : Rt (m1 + dx) (n1 + dy)
            · have HR3 : Hid (Rt (m1 + dx) (n1 + dy)) := hR
              have HE3 : Hid (sums x y D = sums (m1 + dx) (n1 + dy) (D.drop (j2 + 1))) := HE2.out.trans (if_pos hR)
              have HA3 : Hid (At1 w4 (m1 + dx) (n1 + dy) (((wr.setCell ⟨w4.heap.size, 0, none⟩ (.int .i64 (m1 + dx))).setCell ⟨w4.heap.size, 1, none⟩ (.int .i64 (n1 + dy))).alloc (bx dx dy))) := HA2.out.set (m1 + dx) (n1 + dy) dx dy
              clear HE2 hR HA2 HR2
              go_wp2_with (go_at_call 11; refine (right_yes _ _ HR3.out _).mono ?_; rintro e w6 ⟨rfl, b1⟩; have A6 : Hid (At1 w4 (m1 + dx) (n1 + dy) w6) := HA3.out.next b1; clear b1)
              refine ⟨⟨j2 + 1, m1 + dx, n1 + dy, by omega, by simp, A6, HR3, HE3⟩, ?_⟩
              simp only [intOf]
              omega
            · exfalso
              have := HSN.out.symm.trans (HE2.out.trans (if_neg hR))
              cases this
          · obtain rfl : j2 = j := by omega
            have j3 : ¬ (j2 : Int) < (j2 : Int) := by omega
            have he : sums m1 n1 (D.drop j2) = some (m1, n1) := by
              rw [List.drop_eq_nil_of_le (by rw [HN.out]; omega)]
              rfl
            have hh := HSN.out.symm.trans (HE.out.trans he)
            simp only [Option.some.injEq, Prod.mk.injEq] at hh
            obtain ⟨rfl, rfl⟩ := hh
            have f0 := HA2.out.p.c0
            have f1 := HA2.out.p.c1
            clear he HE
            go_wp2_with (go_at_call 13; refine (number_U _ _ HR2.out.x HR2.out.y _).mono ?_; rintro e w6 ⟨r2, s2, rfl, hr2, hs2, b1⟩; have A6 : Hid (At1 w4 m' n' w6) := HA2.out.next b1; have q1 := eq_t hrt hr2 rfl; have q2 := eq_t hst hs2 rfl; clear b1)
            go_ret
            exact ⟨rfl, B4.out.1.trans (A6.out.bel.mono B4.out.2)⟩
end Go.Proofs.Ytbppipnnmmddaaa
