/- The contract of the server's push. -/
import Derived.Test.YtchoiioeeepoaaaV19A
import Derived.Deep.RegionWith
import Derived.Deep.Cut
import Derived.Deep.CutRange
import Derived.ScopeJumps
import Derived.Test.YtchoiioeeepoaaaF17Dec
import Derived.Test.YtchoiioeeepoaaaF17RSame
import Derived.Test.YtchoiioeeepoaaaC8Put2
namespace Go.Proofs.Ytchoiioeeepoaaa.V19
open Go.RowKit C8 E9 F17
theorem ld64 {b : Nat} {x y : Value} {w : World} (h : w.heap[b]? = some (.cells #[x, y] 64 (0, 0))) : (Instr.loadAt 64 (.pointer (some ⟨b, 0, none⟩))).run Try.prog w = .ok (.agg #[x, y]) w := by
  obtain ⟨fs, hu, _⟩ := ok64_inv is64
  simp only [Instr.loadAt, Instr.sureAddr, Sem.run_bind, Sem.run_pure, Result.andThen_ok, run_loadVar_row (P := Try.prog) w b 64 64 #[x, y] (0, 0) _ h hu rfl (by kernel_rfl)]
/-- What push may suppose of links. -/
def LinksOk (ls : Ls) : Prop := ls.length ≤ 8 ∧ ∀ y ∈ ls, (1 ≤ y.length ∧ y.length ≤ 4096) ∧ ∀ z ∈ y, z < 256
def PushSays (p b m : Nat) (M : St) (x c : Int) (ls : Ls) (w : World) (e : Ending) (w' : World) : Prop :=
  e = .returned (.int .i64 (pushA M x c ls).2) ∧ SvAt w' p b (m + 1) (pushA M x c ls).1 ∧ Only [b] w w'
theorem PushSays.full {p b m : Nat} {M : St} {x c : Int} {ls : Ls} {w w' : World} (h : SvAt w p b m M) (hb : Below w.heap.size w w') (hf : 64 < (add (M x c) ls).length) : PushSays p b m M x c ls w (.returned (.int .i64 33)) w' := by
  have e : pushA M x c ls = (M, 33) := by unfold pushA; rw [if_pos hf]
  unfold PushSays
  rw [e]
  exact ⟨rfl, (h.below hb).mono (by omega), Only.of_below hb _⟩
theorem PushSays.done {p b m : Nat} {M : St} {x c : Int} {ls : Ls} {w w' : World} (h : SvAt w' p b (m + 1) (upd M x c (add (M x c) ls))) (hb : Only [b] w w') (hf : ¬ 64 < (add (M x c) ls).length) : PushSays p b m M x c ls w (.returned (.int .i64 0)) w' := by
  have e : pushA M x c ls = (upd M x c (add (M x c) ls), 0) := by unfold pushA; rw [if_neg hf]
  unfold PushSays
  rw [e]
  exact ⟨rfl, h, hb⟩
set_option maxHeartbeats 8000000 in
set_option maxRecDepth 20000 in
theorem push_any (p b m : Nat) (M : St) (x c : Int) (q : Option Addr) (cp : Nat) (ls : Ls) (w : World) (h : SvAt w p b m M) (hx : x = 0 ∨ x = 1) (hc : In64 c) (hok : Wf (M x c)) (hm : m ≤ 900000) (hl : LkRow w q ls) (hls : LinksOk ls) :
    Calls Try.prog 25 #[.pointer (some ⟨p, 0, none⟩), pl x c, .slice q ls.length cp] w fun e w' => PushSays p b m M x c ls w e w' := by
  have hx64 : In64 x := by unfold In64; rcases hx with rfl | rfl <;> decide
  obtain ⟨log, HLG⟩ : ∃ log, Hid (M x c = log) := ⟨_, rfl⟩
  obtain ⟨n, HN⟩ : ∃ n, Hid (ls.length = n) := ⟨_, rfl⟩
  obtain ⟨n0, HN0⟩ : ∃ n0, Hid (log.length = n0) := ⟨_, rfl⟩
  obtain ⟨W1, hW1⟩ : ∃ W1, W1 = w.alloc (.cells #[.int .i64 x, .int .i64 c] 64) := ⟨_, rfl⟩
  have hb1 : Below w.heap.size w W1 := by rw [hW1]; exact (Below.refl _ w).alloc (Nat.le_refl _) _
  have hs1 : W1.heap.size = w.heap.size + 1 := by rw [hW1]; simp
  have hbox : W1.heap[w.heap.size]? = some (.cells #[.int .i64 x, .int .i64 c] 64 (0, 0)) := by rw [hW1]; exact heap_alloc_new w _
  have hS1 : SvAt W1.drew p b m M := (h.below hb1).below (Below.refl _ W1).drew
  obtain ⟨lq, lcp, hlk, HL0, -⟩ := hS1.look hx64 hc
  have hwf : Wf log := HLG.out ▸ hok
  rw [HLG.out] at hlk HL0
  rw [HN0.out] at hlk
  have HCL : ∀ W, W = W1.drew → Calls Try.prog 30 #[.slice lq n0 lcp] W fun e w' => ∃ v, e = .returned v ∧ Hid (LRow w' (w.heap.size + 1) v n0 log ∧ Below (w.heap.size + 1) W1 w') := by
    rintro W rfl
    rw [← HN0.out]
    refine (lclone_any lq lcp log _ HL0 (by have := hwf.1; omega) (fun y hy => by have := (hwf.2 y hy).1; omega)).mono ?_
    rintro e w' ⟨v, rfl, h1, h2⟩
    have e1 : W1.drew.heap.size = w.heap.size + 1 := hs1
    rw [e1] at h1 h2
    exact ⟨v, rfl, h1, ((Below.refl _ W1).drew).trans h2⟩
  have d0 : W1.drew.cell? ⟨p, 0, none⟩ = some (.map (some b)) := cell_of_row _ _ _ _ _ _ hS1.cell
  have d2 : W1.drew.cell? ⟨w.heap.size, 0, none⟩ = some (.int .i64 x) := cell_of_row _ _ _ _ _ _ hbox
  have d3 : W1.drew.cell? ⟨w.heap.size, 1, none⟩ = some (.int .i64 c) := cell_of_row _ _ _ _ _ _ hbox
  have HX : Hid (x = 0 ∨ x = 1) := hx
  have HSV : Hid (SvAt w p b m M) := h
  have HIC : Hid (In64 c) := hc
  have HWF : Hid (Wf log) := hwf
  have HLS : Hid (LinksOk ls) := hls
  have HLK : Hid (LkRow w q ls) := hl
  have HB1 : Hid (Below w.heap.size w W1) := hb1
  have HS1 : Hid (W1.heap.size = w.heap.size + 1) := hs1
  have HBX : Hid (W1.heap[w.heap.size]? = some (.cells #[.int .i64 x, .int .i64 c] 64 (0, 0))) := hbox
  have HS : Hid (∀ e w', PushSays p b m M x c ls w e w' → PushSays p b m M x c ls w e w') := fun _ _ h => h
  have hn8 : n ≤ 8 := by rw [← HN.out]; exact hls.1
  have l1 : (n : Int) ≤ 8 := by omega
  rw [HN.out]
  unfold pl at hlk ⊢
  clear h hx hc hok hl hls hb1 hs1 hbox hS1 HL0 hwf hx64
  go_enter Try.func25, Try.ntmps25
  go_upto_region 1 with fail
  rw [← hW1]
  clear hW1
  go_cut [7] from 10 to 16 (fun v7 wx => Hid (LRow wx (w.heap.size + 1) v7 n0 log ∧ Below (w.heap.size + 1) W1 wx))
  case first =>
    go_region_with (go_at_call 30; refine (HCL _ rfl).mono ?_; rintro e w1 ⟨v, rfl, H1⟩)
    all_goals (go_wp2_with fail; go_meet; exact H1)
  case rest =>
    obtain ⟨h1, h2⟩ := hcut.out
    have HW : Hid (LRow wc (w.heap.size + 1) u7 n0 log) := h1
    have HB : Hid (Below (w.heap.size + 1) W1 wc) := h2
    clear h1 h2 hcut hlk HCL d0 d2 d3
    go_wp2_with fail
    go_loopw [7, 19] (fun sl i wr => ∃ j : Nat, j ≤ n ∧ i = .int .i64 j ∧ Hid (LRow wr (w.heap.size + 1) sl (add log (ls.take j)).length (add log (ls.take j))) ∧ Hid (Below (w.heap.size + 1) W1 wr)) (fun _ i _ => n - (intOf i).toNat)
    case atStart => exact ⟨0, by omega, rfl, by show LRow _ _ _ _ _; simp only [List.take_zero, add_nil]; rw [HN0.out]; exact HW.out, HB⟩
    case round =>
      obtain ⟨j, hj, rfl, HO, HBr⟩ := hrel
      clear HW HB
      obtain ⟨cur, HCU⟩ : ∃ cur, Hid (add log (ls.take j) = cur) := ⟨_, rfl⟩
      obtain ⟨k, HK⟩ : ∃ k, Hid (cur.length = k) := ⟨_, rfl⟩
      rw [HCU.out, HK.out] at HO
      have hk : k ≤ 72 := by
        have h1 := (add_length (ls := ls.take j) (log := log)).2
        have h2 := HWF.out.1
        have h3 := HLS.out.1
        rw [HCU.out, HK.out, List.length_take] at h1
        omega
      obtain ⟨uq, uc, rfl⟩ := HO.out.slice
      by_cases hlt : j < n
      · have ja : j < ls.length := by rw [HN.out]; exact hlt
        have hW1 : w.heap.size ≤ wr.heap.size := by have := HBr.out.size; have := HS1.out; omega
        have HBW : Hid (Below w.heap.size w wr) := HB1.out.trans (HBr.out.mono (Nat.le_succ _))
        obtain ⟨bb, o, bp, bc, rfl, k2, k3, k4, k5⟩ := HLK.out j ja
        have d1 := (HBW.out.cell (p := ⟨bb, o + j, none⟩) k2).trans k3
        have j1 : (j : Int) < (n : Int) := by omega
        have j0 : (0 : Int) ≤ (j : Int) := by omega
        obtain ⟨y, HY⟩ : ∃ y : List Nat, Hid (ls[j] = y) := ⟨ls[j], rfl⟩
        rw [HY.out] at d1 k4
        have hy : y ∈ ls := by rw [← HY.out]; exact List.getElem_mem _
        have HYW : Hid (y.length ≤ 4096 ∧ ∀ z ∈ y, z < 256) := ⟨(HLS.out.2 y hy).1.2, (HLS.out.2 y hy).2⟩
        have HT : Hid (add log (ls.take (j + 1)) = if y ∈ cur then cur else cur ++ [y]) := by
          show _ = _
          rw [add_take ja, HY.out, HCU.out]
        have HSR : Hid (Src wr (.slice bp y.length bc) y) := k4.below HBW.out
        have HHC : ∀ W, W = wr → Calls Try.prog 41 #[.slice uq k uc, .slice bp y.length bc] W fun e w' => e = .returned (.bool (decide (y ∈ cur))) ∧ Hid (Below wr.heap.size wr w') := by
          rintro W rfl
          rw [← HK.out]
          exact (has_any uq uc cur bp y.length bc y W HO.out.lk (by rw [HK.out]; omega) HSR.out).mono (by rintro e w' ⟨rfl, h2⟩; exact ⟨rfl, h2⟩)
        clear k2 k3 k4 k5 hy
        by_cases hmem : y ∈ cur
        · have HT2 : Hid (add log (ls.take (j + 1)) = cur) := by
            have := HT.out
            rw [if_pos hmem] at this
            exact this
          rw [decide_eq_true hmem] at HHC
          clear hmem HT
          go_wp2_with (first | (go_at_call 41; refine (HHC _ rfl).mono ?_; rintro e w1 ⟨rfl, H1⟩))
          refine ⟨⟨j + 1, by omega, by simp, ?_, ?_⟩, ?_⟩
          · show LRow _ _ _ _ _
            rw [HT2.out, HK.out]
            exact HO.out.below H1.out
          · exact HBr.out.trans (H1.out.mono (by have := HS1.out; have := HBr.out.size; omega))
          · simp only [intOf]
            omega
        · have HT2 : Hid (add log (ls.take (j + 1)) = cur ++ [y]) := by
            have := HT.out
            rw [if_neg hmem] at this
            exact this
          rw [decide_eq_false hmem] at HHC
          have HC : ∀ W, Hid (Below wr.heap.size wr W) → Calls Try.prog 33 #[.slice bp y.length bc] W fun e w' => ∃ v, e = .returned v ∧ Hid (w'.ownsRow W.heap.size 5 1 v y.length (ints .u8 y) ∧ Below W.heap.size W w') := by
            intro W HWb
            refine (bclone_any _ _ W (HSR.out.below HWb.out) (by have := HYW.out.1; omega)).mono ?_
            rintro e w' ⟨v, rfl, h1, h2⟩
            exact ⟨v, rfl, h1, h2⟩
          clear hmem HT
          go_wp2_with (first | (go_at_call 41; refine (HHC _ rfl).mono ?_; rintro e w1 ⟨rfl, H1⟩) | (go_at_call 33; refine (HC _ H1).mono ?_; rintro e w2 ⟨v1, rfl, H2⟩; obtain ⟨vq, vc, rfl⟩ := own_slice H2.out.1) | with_reducible (refine stop_builtin .append ?_))
          refine Stop.go ?_
          obtain ⟨h1, h2⟩ := H2.out
          have hsz : w.heap.size + 1 ≤ wr.heap.size := by have := HS1.out; have := HBr.out.size; omega
          have hsz1 := H1.out.size
          have hsz2 := h2.size
          have hb2 : Below w2.heap.size w2 (w2.alloc (.cells #[.slice vq y.length vc] 32)) := (Below.refl _ w2).alloc (Nat.le_refl _) _
          have hO1 := HO.out.below H1.out
          have hO : LRow (w2.alloc (.cells #[.slice vq y.length vc] 32)) (w.heap.size + 1) (.slice uq k uc) k cur := (hO1.below h2).below hb2
          have hkk : LkC (w2.alloc (.cells #[.slice vq y.length vc] 32)) (Value.slice uq k uc).ownBlock (.slice vq y.length vc) y := (LkC.of_own h1 HYW.out.2 (by have := HYW.out.1; omega) (fun k hk => (hO1.lt k hk).2)).below hb2
          refine law_append_link (w.heap.size + 1) (.slice uq k uc) k cur w2.heap.size (.slice vq y.length vc) y rfl rfl hO (one32 w2 (.slice vq y.length vc)) hkk (by omega) (by simp; omega) ?_
          intro v' w3 k1 k2 _
          have HO2 : Hid (LRow w3 (w.heap.size + 1) v' (add log (ls.take (j + 1))).length (add log (ls.take (j + 1)))) := by
            show LRow _ _ _ _ _
            rw [HT2.out, List.length_append, HK.out]
            exact k1
          have HB2 : Hid (Below (w.heap.size + 1) W1 w3) := (HBr.out.trans (H1.out.mono hsz)).trans ((h2.mono (by omega)).trans ((hb2.mono (by omega)).trans (hO.grown k2 (by simp; omega))))
          clear h1 h2 hb2 hO hO1 hkk k1 k2 H1 H2 HO HT2 HY HC HHC hsz hsz1 hsz2
          go_wp2_with fail
          refine ⟨⟨j + 1, by omega, by simp, HO2, HB2⟩, ?_⟩
          simp only [intOf]
          omega
      · obtain rfl : j = n := by omega
        have j1 : ¬ (j : Int) < (j : Int) := by omega
        have HCU2 : Hid (add log ls = cur) := by
          have := HCU.out
          rw [List.take_of_length_le (by rw [HN.out]; omega)] at this
          exact this
        have HBW : Hid (Below w.heap.size w wr) := HB1.out.trans (HBr.out.mono (Nat.le_succ _))
        by_cases h64 : 64 < k
        · have q1 : (64 : Int) < (k : Int) := by omega
          clear HO
          go_wp2_with fail
          go_ret
          exact PushSays.full HSV.out HBW.out (by rw [HLG.out, HCU2.out, HK.out]; exact h64)
        · have q1 : ¬ (64 : Int) < (k : Int) := by omega
          have hS2 : SvAt wr.drew p b m M := (HSV.out.below HBW.out).below (Below.refl _ wr).drew
          have hlk2 : LkRow wr.drew uq cur := (HO.out.lk).below (Below.refl _ wr).drew
          obtain ⟨w9, hmu, hS9, hO9⟩ := hS2.put HX.out HIC.out (by omega) (cp := uc) hlk2 HO.out.cap
          have d0 : wr.drew.cell? ⟨p, 0, none⟩ = some (.map (some b)) := cell_of_row _ _ _ _ _ _ hS2.cell
          have hbx := (HBr.out.block w.heap.size (Nat.lt_succ_self _)).trans HBX.out
          have d2 : wr.drew.cell? ⟨w.heap.size, 0, none⟩ = some (.int .i64 x) := cell_of_row _ _ _ _ _ _ hbx
          have d3 : wr.drew.cell? ⟨w.heap.size, 1, none⟩ = some (.int .i64 c) := cell_of_row _ _ _ _ _ _ hbx
          have HEND : Hid (PushSays p b m M x c ls w (.returned (.int .i64 0)) w9) := by
            refine PushSays.done ?_ ((Only.of_below (HBW.out.drew) _).trans hO9) (by rw [HLG.out, HCU2.out, HK.out]; exact h64)
            rw [HLG.out, HCU2.out]
            exact hS9
          unfold pl at hmu
          rw [HK.out] at hmu
          clear HO hS2 hlk2 hS9 hO9 hbx
          go_upto_region 10 with fail
          go_cut [] from 36 to 41 (fun wx => wx = w9)
          case first =>
            go_region
            all_goals (go_wp2_with fail; go_meet; rfl)
          case rest =>
            obtain rfl := hcut
            go_wp2_with fail
            go_ret
            exact HEND.out
end Go.Proofs.Ytchoiioeeepoaaa.V19
/- The contract of batch. -/
namespace Go.Proofs.Ytchoiioeeepoaaa.V19
open Go.RowKit C8 E9 F17
theorem wp_scope_from {P : Program} {Q : Exit → Act → World → Prop} {a : Act} {w : World} {c B : Code} (l : Nat) (J : Act → World → Prop) (μ : Act → World → Nat) (hf : findLabel c l = some (.seq .skip B))
    (pass : ∀ a w, J a w → B.wp P (Exit.jump l (fun a' w' => J a' w' ∧ μ a' w' < μ a w) Q) a w)
    (first : (∀ a w, J a w → B.wp P (Exit.jump l J Q) a w) → c.wp P (Exit.jump l J Q) a w) : (Code.scope c).wp P Q a w := by
  refine wp_scope_jumps l J μ hf (first (fun a w h => Code.wp_mono ?_ (pass a w h))) (fun a w h => wp_seq (wp_skip (pass a w h)))
  intro e a w h
  cases e <;> first | exact h | exact ⟨h.1, h.2.1⟩
theorem fit_le (c i : Int) (ls : Ls) : ∀ k, fit c i ls k ≤ k
  | 0 => Nat.le_refl _
  | k + 1 => by
    unfold fit
    split
    · exact Nat.le_refl _
    · exact Nat.le_succ_of_le (fit_le c i ls k)
theorem fit_ok (c i : Int) (ls : Ls) {k : Nat} (h : (F17.bytes ⟨3, c, i, ls.take k, []⟩).length ≤ 32768) : fit c i ls k = k := by
  cases k with
  | zero => rfl
  | succ k => unfold fit; rw [if_pos h]
theorem fit_no (c i : Int) (ls : Ls) {k : Nat} (h : 32768 < (F17.bytes ⟨3, c, i, ls.take (k + 1), []⟩).length) : fit c i ls (k + 1) = fit c i ls k := by
  rw [fit, if_neg (by omega)]
theorem bat_right {c i : Int} {ls : Ls} (hc : 1 ≤ c ∧ c ≤ 1099511627776) (hi : 0 ≤ i ∧ i ≤ 64) (hw : Wf ls) {k : Nat} (hk : k ≤ 8) : F17.right ⟨3, c, i, ls.take k, []⟩ = true := by
  unfold F17.right F17.lks F17.byKind
  simp only [Bool.and_eq_true, decide_eq_true_eq]
  refine ⟨⟨⟨hc, hi⟩, ?_, ?_⟩, ?_⟩
  · rw [List.length_take]
    omega
  · exact (F17.lok_iff _).2 (fun x hx => (hw.2 x (List.mem_of_mem_take hx)).1)
  · rfl
theorem bat_zero (c i : Int) (ls : Ls) : (F17.bytes ⟨3, c, i, ls.take 0, []⟩).length ≤ 32768 := by
  rw [F17.bytes_eq]
  simp only [List.take_zero, List.length_append]
  have e1 : ∀ n : Int, (Cd.one (num n)).length = 6 := fun n => by
    show (Cd.be 6 _).length = 6
    rw [Cd.be_length]
  have e2 : (Cd.one (txt [])).length = 2 := by
    show (Cd.be 2 _ ++ []).length = 2
    rw [List.append_nil, Cd.be_length]
  have e3 : (Cd.enc (F17.lpts [])).length = 0 := rfl
  simp only [e1, e2, e3]
  omega
theorem row_take {w : World} {q : Option Addr} {ls : Ls} (h : LkRow w q ls) (k : Nat) : LkRow w q (ls.take k) := fun j hj => by
  have h1 : j < ls.length := by rw [List.length_take] at hj; omega
  obtain ⟨b, o, bp, bc, k1, k2, k3, k4, k5⟩ := h j h1
  have e : (ls.take k)[j] = ls[j] := by simp
  exact ⟨b, o, bp, bc, k1, k2, by rw [e]; exact k3, by rw [e]; exact k4, by rw [e]; exact k5⟩
theorem slice_h (q : Option Addr) (n cp k : Nat) (h : k ≤ cp) (w : World) : (Instr.slice 31 (.slice q n cp) none (some (.int .i64 (k : Int))) none).run Try.prog w = .ok (.slice q k cp) w := by
  have hs : (sizeOf (Try.prog.elem 31)).run Try.prog w = .ok 1 w := by kernel_rfl
  rw [run_slice_h (ht := Try.underlying31) (h0 := by omega) (h2 := by omega), hs]
  simp only [Result.andThen, sliced]
  cases q with
  | none => simp
  | some ad =>
    simp [Addr.add]
theorem cons_of {n : Nat} : ∀ (l : List Value), l.length = n + 1 → ∃ x l', l = x :: l' ∧ l'.length = n
  | x :: l', h => ⟨x, l', rfl, by simpa using h⟩
def bJ (c i : Int) (q : Option Addr) (n cp : Nat) (ls : Ls) (w : World) (top : Nat) (a : Act) (w' : World) : Prop :=
  ∃ (k : Nat) (v : Value) (l : List Value), k ≤ top ∧ fit c i ls top = fit c i ls k ∧ Below w.heap.size w w' ∧ w'.heap[w.heap.size]? = some (.cells #[.int .i64 3, .int .i64 c, .int .i64 i, v, .slice none 0 0] 34 (0, 0)) ∧ l.length = 22 ∧
    a = { tmps := (.int .i64 c :: .int .i64 i :: .slice q n cp :: undef :: undef :: undef :: .slice none 0 0 :: .pointer (some ⟨w.heap.size, 0, none⟩) :: .int .i64 (k : Int) :: l).toArray, defers := [] }
def bMu (a : Act) (_ : World) : Nat := (intOf (a.tmps.getD 8 undef)).toNat
set_option maxHeartbeats 8000000 in
set_option maxRecDepth 20000 in
theorem batch_any (c i : Int) (q : Option Addr) (cp : Nat) (ls : Ls) (w : World) (hl : LkRow w q ls) (hcp : ls.length ≤ cp) (hc : 1 ≤ c ∧ c ≤ 1099511627776) (hi : 0 ≤ i ∧ i ≤ 64) (hw : Wf ls) :
    Calls Try.prog 42 #[.int .i64 c, .int .i64 i, .slice q ls.length cp] w fun e w' => ∃ v, e = .returned v ∧ Src w' v (bat c i ls) ∧ Below w.heap.size w w' := by
  obtain ⟨n, HN⟩ : ∃ n, Hid (ls.length = n) := ⟨_, rfl⟩
  have HL : Hid (LkRow w q ls) := hl
  have HC : Hid (1 ≤ c ∧ c ≤ 1099511627776) := hc
  have HI : Hid (0 ≤ i ∧ i ≤ 64) := hi
  have HW : Hid (Wf ls) := hw
  have hn : n ≤ 64 := by have := hw.1; have := HN.out; omega
  have l1 : (n : Int) ≤ 64 := by omega
  rw [HN.out] at hcp ⊢
  have hmin : (min (n : Int) 8) = ((min n 8 : Nat) : Int) := by omega
  clear hl hc hi hw
  go_enter Try.func42, Try.ntmps42
  go_wp2_with fail
  refine wp_scope_from 0 (bJ c i q n cp ls w (min n 8)) bMu rfl ?_ ?_
  · rintro a' w' ⟨k, v, l, hk, hf, hb, hg, hll, rfl⟩
    obtain ⟨x1, l1, rfl, h1⟩ := cons_of l hll; clear hll
    obtain ⟨x2, l2, rfl, h2⟩ := cons_of l1 h1; clear h1
    obtain ⟨x3, l3, rfl, h3⟩ := cons_of l2 h2; clear h2
    obtain ⟨x4, l4, rfl, h4⟩ := cons_of l3 h3; clear h3
    obtain ⟨x5, l5, rfl, h5⟩ := cons_of l4 h4; clear h4
    obtain ⟨x6, l6, rfl, h6⟩ := cons_of l5 h5; clear h5
    obtain ⟨x7, l7, rfl, h7⟩ := cons_of l6 h6; clear h6
    obtain ⟨x8, l8, rfl, h8⟩ := cons_of l7 h7; clear h7
    obtain ⟨x9, l9, rfl, h9⟩ := cons_of l8 h8; clear h8
    obtain ⟨x10, l10, rfl, h10⟩ := cons_of l9 h9; clear h9
    obtain ⟨x11, l11, rfl, h11⟩ := cons_of l10 h10; clear h10
    obtain ⟨x12, l12, rfl, h12⟩ := cons_of l11 h11; clear h11
    obtain ⟨x13, l13, rfl, h13⟩ := cons_of l12 h12; clear h12
    obtain ⟨x14, l14, rfl, h14⟩ := cons_of l13 h13; clear h13
    obtain ⟨x15, l15, rfl, h15⟩ := cons_of l14 h14; clear h14
    obtain ⟨x16, l16, rfl, h16⟩ := cons_of l15 h15; clear h15
    obtain ⟨x17, l17, rfl, h17⟩ := cons_of l16 h16; clear h16
    obtain ⟨x18, l18, rfl, h18⟩ := cons_of l17 h17; clear h17
    obtain ⟨x19, l19, rfl, h19⟩ := cons_of l18 h18; clear h18
    obtain ⟨x20, l20, rfl, h20⟩ := cons_of l19 h19; clear h19
    obtain ⟨x21, l21, rfl, h21⟩ := cons_of l20 h20; clear h20
    obtain ⟨x22, l22, rfl, h22⟩ := cons_of l21 h21; clear h21
    obtain rfl := List.eq_nil_of_length_eq_zero h22; clear h22
    have HF : Hid (fit c i ls (min n 8) = fit c i ls k) := hf
    have HB : Hid (Below w.heap.size w w') := hb
    have HG : Hid (w'.heap[w.heap.size]? = some (.cells #[.int .i64 3, .int .i64 c, .int .i64 i, v, .slice none 0 0] 34 (0, 0))) := hg
    have d0 : w'.cell? ⟨w.heap.size, 0, none⟩ = some (.int .i64 3) := cell_of_row _ _ _ _ _ _ hg
    have d1 : w'.cell? ⟨w.heap.size, 1, none⟩ = some (.int .i64 c) := cell_of_row _ _ _ _ _ _ hg
    have d2 : w'.cell? ⟨w.heap.size, 2, none⟩ = some (.int .i64 i) := cell_of_row _ _ _ _ _ _ hg
    have d3 : w'.cell? ⟨w.heap.size, 3, none⟩ = some v := cell_of_row _ _ _ _ _ _ hg
    have d4 : w'.cell? ⟨w.heap.size, 4, none⟩ = some (.slice none 0 0) := cell_of_row _ _ _ _ _ _ hg
    have f3 : w'.frozen? ⟨w.heap.size, 3, none⟩ = false := frozen_of_row _ _ _ _ _ hg
    have hsl := slice_h q n cp k (by omega)
    obtain ⟨w2, HW2⟩ : ∃ w2, Hid (w2 = w'.setCell ⟨w.heap.size, 3, none⟩ (.slice q k cp)) := ⟨_, rfl⟩
    have hb2 : Below w.heap.size w w2 := by rw [HW2.out]; exact hb.setCell (p := ⟨w.heap.size, 3, none⟩) (Nat.le_refl _) _
    have hg2 : w2.heap[w.heap.size]? = some (.cells #[.int .i64 3, .int .i64 c, .int .i64 i, .slice q k cp, .slice none 0 0] 34 (0, 0)) := by
      rw [HW2.out]
      exact heap_setCell_same _ _ 3 _ 34 _ hg
    have HG2 : Hid (w2.heap[w.heap.size]? = some (.cells #[.int .i64 3, .int .i64 c, .int .i64 i, .slice q k cp, .slice none 0 0] 34 (0, 0))) := hg2
    have HB2 : Hid (Below w.heap.size w w2) := hb2
    have hlen : (ls.take k).length = k := by rw [List.length_take]; have := HN.out; omega
    have hrt := bat_right HC.out HI.out HW.out (k := k) (by omega)
    have hfr : FrIs w2 (.agg #[.int .i64 3, .int .i64 c, .int .i64 i, .slice q k cp, .slice none 0 0]) ⟨3, c, i, ls.take k, []⟩ :=
      ⟨q, cp, none, 0, by simp only [FrV, hlen]; rfl, row_take (HL.out.below hb2) k, Src.nil _, by simp only [hlen]; omega, Nat.zero_le _⟩
    have k1 : (0 : Int) ≤ (k : Int) := by omega
    have k2 : (k : Int) ≤ 64 := by omega
    by_cases hz : (F17.bytes ⟨3, c, i, ls.take k, []⟩).length ≤ 32768
    · have HE : ∀ W, W = w'.setCell ⟨w.heap.size, 3, none⟩ (.slice q k cp) → Calls Try.prog 40 #[.agg #[.int .i64 3, .int .i64 c, .int .i64 i, .slice q k cp, .slice none 0 0]] W fun e w3 => ∃ v, e = .returned (.tuple #[v, .int .i64 0]) ∧ Hid (Src w3 v (bat c i ls) ∧ Below w.heap.size w w3) := by
        rintro W hW
        rw [← HW2.out] at hW
        subst hW
        refine (Encode_any _ _ W hfr).mono ?_
        rintro e w3 ⟨h1, ⟨_, _, v, rfl, h2⟩ | ⟨_, h2, _⟩ | ⟨h2, _⟩⟩
        · refine ⟨v, rfl, ?_, hb2.trans (h1.mono hb2.size)⟩
          have e1 : bat c i ls = F17.bytes ⟨3, c, i, ls.take k, []⟩ := by
            unfold bat
            rw [HN.out, HF.out, fit_ok c i ls hz]
          rw [e1]
          exact Src.own (F17.bytes_small ⟨fun y hy => (HW.out.2 y (List.mem_of_mem_take hy)).2, fun x hx => by simp at hx⟩) h2
        · omega
        · rw [hrt] at h2
          cases h2
      clear hb hg hb2 hg2 hfr hrt hlen hf
      go_wp2_with (first | (go_at_call 40; refine (HE _ rfl).mono ?_; rintro e w3 ⟨v3, rfl, H3⟩))
      simp only [Exit.jump]
      go_ret
      exact ⟨_, rfl, H3.out.1, H3.out.2⟩
    · have hkp : 0 < k := by
        rcases Nat.eq_zero_or_pos k with rfl | h
        · exact absurd (bat_zero c i ls) hz
        · exact h
      have HE : ∀ W, W = w'.setCell ⟨w.heap.size, 3, none⟩ (.slice q k cp) → Calls Try.prog 40 #[.agg #[.int .i64 3, .int .i64 c, .int .i64 i, .slice q k cp, .slice none 0 0]] W fun e w3 => e = .returned (.tuple #[.slice none 0 0, .int .i64 11]) ∧ Hid (Below w2.heap.size w2 w3) := by
        rintro W hW
        rw [← HW2.out] at hW
        subst hW
        refine (Encode_any _ _ W hfr).mono ?_
        rintro e w3 ⟨h1, ⟨_, h2, _⟩ | ⟨_, h2, rfl⟩ | ⟨h2, _⟩⟩
        · exact absurd h2 hz
        · exact ⟨rfl, h1⟩
        · rw [hrt] at h2
          cases h2
      have HF2 : Hid (fit c i ls (min n 8) = fit c i ls (k - 1)) := by
        show _ = _
        rw [HF.out, show k = (k - 1) + 1 from by omega, fit_no c i ls (by rw [show (k - 1) + 1 = k from by omega]; omega)]
        rfl
      have k3 : ((k : Int) - 1) = ((k - 1 : Nat) : Int) := by omega
      clear hb hg hb2 hg2 hfr hrt hlen hf hz
      go_wp2_with (first | (go_at_call 40; refine (HE _ rfl).mono ?_; rintro e w3 ⟨rfl, H3⟩))
      go_step3
      refine ⟨rfl, ⟨k - 1, .slice q k cp, _, by omega, HF2.out, HB2.out.trans (H3.out.mono HB2.out.size), (H3.out.block _ (Array.getElem?_eq_some_iff.1 HG2.out).1).trans HG2.out, ?_, rfl⟩, ?_⟩
      · rfl
      · simp [bMu, intOf]
        omega
  · intro hp
    have h0 : ∀ t : Nat, t = min n 8 → ∀ l : List Value, l.length = 22 → bJ c i q n cp ls w (min n 8) { tmps := (.int .i64 c :: .int .i64 i :: .slice q n cp :: undef :: undef :: undef :: .slice none 0 0 :: .pointer (some ⟨w.heap.size, 0, none⟩) :: .int .i64 (t : Int) :: l).toArray, defers := [] } (w.alloc (.cells #[.int .i64 3, .int .i64 c, .int .i64 i, .slice none 0 0, .slice none 0 0] 34)) := by
      rintro t rfl l hl
      exact ⟨_, _, l, Nat.le_refl _, rfl, (Below.refl _ w).alloc (Nat.le_refl _) _, heap_alloc_new w _, hl, rfl⟩
    by_cases h8 : n ≤ 8
    · have q8 : (n : Int) ≤ 8 := by omega
      have q9 : ¬ (8 : Int) < (n : Int) := by omega
      go_wp2_with fail
      go_step3
      rename_i K hK
      refine hK _ _ (hp _ _ (h0 n (by omega) _ ?_))
      rfl
    · have q8 : ¬ (n : Int) ≤ 8 := by omega
      have q9 : (8 : Int) < (n : Int) := by omega
      go_wp2_with fail
      go_step3
      rename_i K hK
      refine hK _ _ (hp _ _ (h0 8 (by omega) _ ?_))
      rfl
end Go.Proofs.Ytchoiioeeepoaaa.V19
/- The contract of the server's pull. -/
namespace Go.Proofs.Ytchoiioeeepoaaa.V19
open Go.RowKit C8 E9 F17
def dropQ (q : Option Addr) (cp i : Nat) : Option Addr := if cp = i then q else q.map (·.add i)
theorem slice_l (q : Option Addr) (n cp i : Nat) (h : i ≤ n) (w : World) : (Instr.slice 31 (.slice q n cp) (some (.int .i64 (i : Int))) none none).run Try.prog w = .ok (.slice (dropQ q cp i) (n - i) (cp - i)) w := by
  have hs : (sizeOf (Try.prog.elem 31)).run Try.prog w = .ok 1 w := by kernel_rfl
  rw [run_slice_l (ht := Try.underlying31) (h0 := by omega) (h1 := by omega), hs]
  simp only [Result.andThen, sliced, dropQ, Int.toNat_natCast, Nat.mul_one]
theorem row_drop {w : World} {q : Option Addr} {ls : Ls} {cp : Nat} (h : LkRow w q ls) (hc : ls.length ≤ cp) (i : Nat) : LkRow w (dropQ q cp i) (ls.drop i) := fun j hj => by
  have h1 : i + j < ls.length := by rw [List.length_drop] at hj; omega
  obtain ⟨b, o, bp, bc, k1, k2, k3, k4, k5⟩ := h (i + j) h1
  have e : (ls.drop i)[j] = ls[i + j] := by simp
  refine ⟨b, o + i, bp, bc, ?_, k2, by rw [e, Nat.add_assoc]; exact k3, by rw [e]; exact k4, by rw [e]; exact k5⟩
  unfold dropQ
  rw [if_neg (by omega), k1]
  simp [Addr.add_mid]
def PullSays (M : St) (x c i : Int) (w : World) (e : Ending) (w' : World) : Prop :=
  ∃ v, e = .returned (.tuple #[v, .int .i64 (pullA M x c i).2]) ∧ Src w' v (pullA M x c i).1 ∧ Below w.heap.size w w'
theorem PullSays.more {M : St} {x c i : Int} {w w' : World} (hb : Below w.heap.size w w') (hf : ((M x c).length : Int) < i) : PullSays M x c i w (.returned (.tuple #[.slice none 0 0, .int .i64 14])) w' := by
  have e : pullA M x c i = ([], 14) := by unfold pullA; rw [if_pos hf]
  unfold PullSays
  rw [e]
  exact ⟨_, rfl, Src.nil _, hb⟩
theorem PullSays.done {M : St} {x c i : Int} {w w' : World} {v : Value} (hs : Src w' v (bat c i ((M x c).drop i.toNat))) (hb : Below w.heap.size w w') (hf : ¬ ((M x c).length : Int) < i) : PullSays M x c i w (.returned (.tuple #[v, .int .i64 0])) w' := by
  have e : pullA M x c i = (bat c i ((M x c).drop i.toNat), 0) := by unfold pullA; rw [if_neg hf]
  unfold PullSays
  rw [e]
  exact ⟨_, rfl, hs, hb⟩
set_option maxHeartbeats 8000000 in
set_option maxRecDepth 20000 in
theorem pull_any (p b m : Nat) (M : St) (x c i : Int) (w : World) (h : SvAt w p b m M) (hx : In64 x) (hc : 1 ≤ c ∧ c ≤ 1099511627776) (hi : 0 ≤ i ∧ i ≤ 64) (hok : Wf (M x c)) :
    Calls Try.prog 26 #[.pointer (some ⟨p, 0, none⟩), pl x c, .int .i64 i] w fun e w' => PullSays M x c i w e w' := by
  have hic : In64 c := by unfold In64; omega
  obtain ⟨i, rfl⟩ := Int.eq_ofNat_of_zero_le hi.1
  obtain ⟨log, HLG⟩ : ∃ log, Hid (M x c = log) := ⟨_, rfl⟩
  obtain ⟨n, HN⟩ : ∃ n, Hid (log.length = n) := ⟨_, rfl⟩
  obtain ⟨W1, hW1⟩ : ∃ W1, W1 = w.alloc (.cells #[.int .i64 x, .int .i64 c] 64) := ⟨_, rfl⟩
  have hb1 : Below w.heap.size w W1 := by rw [hW1]; exact (Below.refl _ w).alloc (Nat.le_refl _) _
  have hbox : W1.heap[w.heap.size]? = some (.cells #[.int .i64 x, .int .i64 c] 64 (0, 0)) := by rw [hW1]; exact heap_alloc_new w _
  have hS1 : SvAt W1.drew p b m M := (h.below hb1).below (Below.refl _ W1).drew
  obtain ⟨q, cp, hlk, HL0, hcp⟩ := hS1.look hx hic
  rw [HLG.out] at hlk HL0 hok hcp
  rw [HN.out] at hlk hcp
  have d0 : W1.drew.cell? ⟨p, 0, none⟩ = some (.map (some b)) := cell_of_row _ _ _ _ _ _ hS1.cell
  have d2 : W1.drew.cell? ⟨w.heap.size, 0, none⟩ = some (.int .i64 x) := cell_of_row _ _ _ _ _ _ hbox
  have d3 : W1.drew.cell? ⟨w.heap.size, 1, none⟩ = some (.int .i64 c) := cell_of_row _ _ _ _ _ _ hbox
  have HOK : Hid (Wf log) := hok
  have HL : Hid (LkRow W1.drew q log) := HL0
  have HB1 : Hid (Below w.heap.size w W1.drew) := hb1.drew
  have HC : Hid (1 ≤ c ∧ c ≤ 1099511627776) := hc
  have HI : Hid (0 ≤ (i : Int) ∧ (i : Int) ≤ 64) := hi
  have hn : n ≤ 64 := by have := hok.1; have := HN.out; omega
  have l1 : (n : Int) ≤ 64 := by omega
  have l2 : (i : Int) ≤ 64 := hi.2
  unfold pl at hlk ⊢
  clear h hx hc hi hok hb1 hbox hS1 HL0 hic
  go_enter Try.func26, Try.ntmps26
  go_upto_region 1 with fail
  rw [← hW1]
  clear hW1
  go_cut [8] from 9 to 14 (fun v8 wx => v8 = .slice q n cp ∧ wx = W1.drew)
  case first =>
    go_region
    all_goals (go_wp2_with fail; go_meet; exact ⟨rfl, rfl⟩)
  case rest =>
    obtain ⟨rfl, rfl⟩ := hcut
    clear hlk
    by_cases hgt : (n : Int) < (i : Int)
    · go_wp2_with fail
      go_ret2
      exact PullSays.more HB1.out (by rw [HLG.out, HN.out]; exact hgt)
    · have hle : i ≤ n := by omega
      have hsl := slice_l q n cp i hle
      have HBC : ∀ W, W = W1.drew.drew → Calls Try.prog 42 #[.int .i64 c, .int .i64 (i : Int), .slice (dropQ q cp i) (n - i) (cp - i)] W fun e w' => ∃ v, e = .returned v ∧ Hid (Src w' v (bat c i (log.drop i)) ∧ Below w.heap.size w w') := by
        rintro W rfl
        have hb2 : Below w.heap.size w W1.drew.drew := HB1.out.drew
        have hlen : (log.drop i).length = n - i := by rw [List.length_drop, HN.out]
        rw [← hlen]
        have hld : LkRow W1.drew.drew q log := HL.out.below (Below.refl _ _).drew
        have hw2 : Wf (log.drop i) := ⟨by rw [hlen]; omega, fun y hy => HOK.out.2 y (List.mem_of_mem_drop hy)⟩
        refine (batch_any c i _ _ (log.drop i) _ (row_drop hld (by rw [HN.out]; exact hcp) i) (by rw [hlen]; omega) HC.out HI.out hw2).mono ?_
        rintro e w' ⟨v, rfl, h1, h2⟩
        exact ⟨v, rfl, h1, hb2.trans (h2.mono hb2.size)⟩
      go_upto_region 4 with fail
      go_region_with (go_at_call 42; refine (HBC _ rfl).mono ?_; rintro e w1 ⟨v1, rfl, H1⟩)
      all_goals (go_wp2_with fail; go_ret2; exact PullSays.done (by rw [HLG.out]; exact H1.out.1) H1.out.2 (by rw [HLG.out, HN.out]; omega))
end Go.Proofs.Ytchoiioeeepoaaa.V19
/- The contract of Handle. -/
namespace Go.Proofs.Ytchoiioeeepoaaa.V19
open Go.RowKit C8 E9 F17
def HandleSays (p b m : Nat) (M : St) (x : Int) (l : List Nat) (w : World) (e : Ending) (w' : World) : Prop :=
  ∃ v, e = .returned (.tuple #[v, .int .i64 (hd M x l).2.2]) ∧ SvAt w' p b (m + 1) (hd M x l).1 ∧ Src w' v (hd M x l).2.1 ∧ Only [b] w w'
theorem HandleSays.plain {p b m : Nat} {M : St} {x : Int} {l : List Nat} {w w' : World} {n : Int} (h : SvAt w p b m M) (hb : Below w.heap.size w w') (he : hd M x l = (M, [], n)) : HandleSays p b m M x l w (.returned (.tuple #[.slice none 0 0, .int .i64 n])) w' := by
  unfold HandleSays
  rw [he]
  exact ⟨_, rfl, (h.below hb).mono (by omega), Src.nil _, Only.of_below hb _⟩
theorem HandleSays.of {p b m : Nat} {M M' : St} {x : Int} {l r : List Nat} {w w' : World} {n : Int} {v : Value} (he : hd M x l = (M', r, n)) (h1 : SvAt w' p b (m + 1) M') (h2 : Src w' v r) (h3 : Only [b] w w') : HandleSays p b m M x l w (.returned (.tuple #[v, .int .i64 n])) w' := by
  unfold HandleSays
  rw [he]
  exact ⟨_, rfl, h1, h2, h3⟩
set_option maxHeartbeats 8000000 in
set_option maxRecDepth 20000 in
theorem Handle_any (p b m : Nat) (M : St) (x : Int) (sv : Value) (l : List Nat) (w : World) (h : SvAt w p b m M) (hx64 : In64 x) (hok : Ok M) (hm : m ≤ 900000) (hs : Src w sv l) :
    Calls Try.prog 14 #[.pointer (some ⟨p, 0, none⟩), .int .i64 x, sv] w fun e w' => HandleSays p b m M x l w e w' := by
  have HSV : Hid (SvAt w p b m M) := h
  have HOK : Hid (Ok M) := hok
  have HSM : Hid (∀ y ∈ l, y < 256) := hs.small
  have b1 := hx64.1
  have b2 := hx64.2
  by_cases hneg : x < 0
  · have HE : Hid (hd M x l = (M, [], 12)) := by unfold hd; exact if_pos (.inl hneg)
    clear h hs hok
    go_enter Try.func14, Try.ntmps14
    go_wp2_with fail
    go_ret2
    exact HandleSays.plain HSV.out (Below.refl _ _) HE.out
  have n1 : ¬ x < 0 := hneg
  by_cases hbig : 2 ≤ x
  · have HE : Hid (hd M x l = (M, [], 12)) := by unfold hd; exact if_pos (.inr hbig)
    clear h hs hok hneg
    go_enter Try.func14, Try.ntmps14
    go_wp2_with fail
    go_ret2
    exact HandleSays.plain HSV.out (Below.refl _ _) HE.out
  have HX : Hid (x = 0 ∨ x = 1) := by show _ ∨ _; omega
  have hcond : ¬ (x < 0 ∨ 2 ≤ x) := by omega
  have HD := Decode_any sv l w hs
  clear hs hok
  by_cases hlen : 32768 < l.length
  · have HE : Hid (hd M x l = (M, [], 11)) := by unfold hd; rw [if_neg hcond, if_pos hlen]; rfl
    have HC : Calls Try.prog 21 #[sv] w fun e w' => e = .returned (.tuple #[.agg z5, .int .i64 11]) ∧ Hid (Below w.heap.size w w') := HD.mono (by
      rintro e w' ⟨h1, ⟨_, rfl⟩ | ⟨h2, _⟩⟩
      · exact ⟨rfl, h1⟩
      · omega)
    unfold z5 at HC
    clear HD h hneg hcond
    go_enter Try.func14, Try.ntmps14
    go_wp2_with (first | (go_at_call 21; refine HC.mono ?_; rintro e w1 ⟨rfl, H1⟩))
    go_ret2
    exact HandleSays.plain HSV.out (H1.out.alloc H1.out.size _) HE.out
  cases hdc : F17.dec l with
  | none =>
    have HE : Hid (hd M x l = (M, [], 10)) := by unfold hd; rw [if_neg hcond, if_neg hlen, hdc]; rfl
    have HC : Calls Try.prog 21 #[sv] w fun e w' => e = .returned (.tuple #[.agg z5, .int .i64 10]) ∧ Hid (Below w.heap.size w w') := HD.mono (by
      rintro e w' ⟨h1, ⟨h2, rfl⟩ | ⟨_, ⟨F, v, h2, _⟩ | ⟨_, rfl⟩⟩⟩
      · omega
      · rw [hdc] at h2; cases h2
      · exact ⟨rfl, h1⟩)
    unfold z5 at HC
    clear HD h hneg hcond
    go_enter Try.func14, Try.ntmps14
    go_wp2_with (first | (go_at_call 21; refine HC.mono ?_; rintro e w1 ⟨rfl, H1⟩))
    go_ret2
    exact HandleSays.plain HSV.out (H1.out.alloc H1.out.size _) HE.out
  | some f =>
    obtain ⟨fk, fc, fi, fl, fs⟩ := f
    have hrt := ((F17.dec_iff l HSM.out _).1 hdc).1
    obtain ⟨r1, r2, r3, r4, r5, r6⟩ := F17.right_bounds hrt
    simp only at r1 r2 r3 r4 r5 r6
    have HE : Hid (hd M x l = if fk = 1 then ((pushA M x fc fl).1, [], (pushA M x fc fl).2) else if fk = 2 then (M, pullA M x fc fi) else (M, [], 13)) := by
      unfold hd
      rw [if_neg hcond, if_neg hlen, hdc]
      rfl
    have HLS : Hid (LinksOk fl) := ⟨r4, fun y hy => ⟨r5 y hy, dec_small HSM.out hdc y hy⟩⟩
    obtain ⟨n, HN⟩ : ∃ n, Hid (fl.length = n) := ⟨_, rfl⟩
    obtain ⟨n2, HN2⟩ : ∃ n2, Hid (fs.length = n2) := ⟨_, rfl⟩
    have HC : Calls Try.prog 21 #[sv] w fun e w' => ∃ q cp sp sc, e = .returned (.tuple #[.agg #[.int .i64 fk, .int .i64 fc, .int .i64 fi, .slice q n cp, .slice sp n2 sc], .int .i64 0]) ∧ Hid (Below w.heap.size w w' ∧ LkRow w' q fl) := HD.mono (by
      rintro e w' ⟨h1, ⟨h2, rfl⟩ | ⟨_, ⟨F, v, h2, rfl, h3⟩ | ⟨h2, _⟩⟩⟩
      · omega
      · rw [hdc] at h2
        cases h2
        obtain ⟨q, c, sp, sc, rfl, h4⟩ := h3.is
        refine ⟨q, c, sp, sc, ?_, h1, h4.links⟩
        rw [← HN.out, ← HN2.out]
        rfl
      · rw [hdc] at h2; cases h2)
    have HR : Hid ((1 ≤ fc ∧ fc ≤ 1099511627776) ∧ (0 ≤ fi ∧ fi ≤ 64)) := ⟨r2, r3⟩
    have e1 := r1.1
    have e2 := r1.2
    clear HD h hneg hcond hrt r2 r3 r4 r5 r6 hdc r1 hlen
    by_cases hk1 : fk = 1
    · subst hk1
      have HE1 : Hid (hd M x l = ((pushA M x fc fl).1, [], (pushA M x fc fl).2)) := HE.out.trans (if_pos rfl)
      have HP : ∀ w1 W q cp, Hid (Below w.heap.size w w1 ∧ LkRow w1 q fl) → Below w1.heap.size w1 W → Calls Try.prog 25 #[.pointer (some ⟨p, 0, none⟩), .agg #[.int .i64 x, .int .i64 fc], .slice q n cp] W fun e w' => e = .returned (.int .i64 (pushA M x fc fl).2) ∧ Hid (SvAt w' p b (m + 1) (pushA M x fc fl).1 ∧ Only [b] w w') := by
        intro w1 W q cp H1 hW
        have hbW : Below w.heap.size w W := H1.out.1.trans (hW.mono H1.out.1.size)
        rw [← HN.out]
        refine (push_any p b m M x fc q cp fl W (HSV.out.below hbW) HX.out (by have := HR.out.1; unfold In64; omega) (HOK.out _ _) hm (H1.out.2.below hW) HLS.out).mono ?_
        rintro e w' ⟨rfl, h1, h2⟩
        exact ⟨rfl, h1, (Only.of_below hbW _).trans h2⟩
      clear HE e1 e2
      go_enter Try.func14, Try.ntmps14
      go_wp2_with (first | (go_at_call 21; refine HC.mono ?_; rintro e w1 ⟨q, cp, sp, sc, rfl, H1⟩) | (go_at_call 25; refine (HP _ _ _ _ H1 ?_).mono ?_; exact ((Below.refl _ _).alloc (Nat.le_refl _) _).alloc (by simp) _; rintro e w2 ⟨rfl, H2⟩))
      go_ret2
      exact HandleSays.of HE1.out H2.out.1 (Src.nil _) H2.out.2
    by_cases hk2 : fk = 2
    · subst hk2
      have HE1 : Hid (hd M x l = (M, pullA M x fc fi)) := HE.out.trans (by rw [if_neg (by decide), if_pos rfl])
      have HP : ∀ w1 W, Hid (Below w.heap.size w w1) → Below w1.heap.size w1 W → Calls Try.prog 26 #[.pointer (some ⟨p, 0, none⟩), .agg #[.int .i64 x, .int .i64 fc], .int .i64 fi] W fun e w' => ∃ v, e = .returned (.tuple #[v, .int .i64 (pullA M x fc fi).2]) ∧ Hid (Src w' v (pullA M x fc fi).1 ∧ Below w.heap.size w w') := by
        intro w1 W H1 hW
        have hbW : Below w.heap.size w W := H1.out.trans (hW.mono H1.out.size)
        refine (pull_any p b m M x fc fi W (HSV.out.below hbW) hx64 HR.out.1 HR.out.2 (HOK.out _ _)).mono ?_
        rintro e w' ⟨v, rfl, h1, h2⟩
        exact ⟨v, rfl, h1, hbW.trans (h2.mono hbW.size)⟩
      clear HE e1 e2 hk1
      go_enter Try.func14, Try.ntmps14
      go_wp2_with (first | (go_at_call 21; refine HC.mono ?_; rintro e w1 ⟨q, cp, sp, sc, rfl, H1⟩) | (go_at_call 26; refine (HP _ _ H1.out.1 ?_).mono ?_; exact ((Below.refl _ _).alloc (Nat.le_refl _) _).alloc (by simp) _; rintro e w2 ⟨v, rfl, H2⟩))
      go_ret2
      exact HandleSays.of (n := (pullA M x fc fi).2) HE1.out ((HSV.out.below H2.out.2).mono (by omega)) H2.out.1 (Only.of_below H2.out.2 _)
    have HE1 : Hid (hd M x l = (M, [], 13)) := HE.out.trans (by rw [if_neg hk1, if_neg hk2])
    clear HE e1 e2
    go_enter Try.func14, Try.ntmps14
    go_wp2_with (first | (go_at_call 21; refine HC.mono ?_; rintro e w1 ⟨q, cp, sp, sc, rfl, H1⟩))
    go_ret2
    exact HandleSays.plain HSV.out ((H1.out.1.alloc H1.out.1.size _).alloc (by have := H1.out.1.size; simp; omega) _) HE1.out
end Go.Proofs.Ytchoiioeeepoaaa.V19
/- The contracts of the statements' own push and same. -/
namespace Go.Proofs.Ytchoiioeeepoaaa.V19
open Go.RowKit C8 E9 F17
/-- The strings behind a slice. -/
def StrRow (w : World) (q : Option Addr) (ls : Ls) : Prop := ∀ j (h : j < ls.length), ∃ b o, q = some ⟨b, o, none⟩ ∧ b < w.heap.size ∧ w.cell? ⟨b, o + j, none⟩ = some (.string (strB ls[j]))
theorem StrRow.below {w w' : World} {q : Option Addr} {ls : Ls} (h : StrRow w q ls) (hb : Below w.heap.size w w') : StrRow w' q ls := fun j hj => by
  obtain ⟨b, o, h1, h2, h3⟩ := h j hj
  exact ⟨b, o, h1, Nat.lt_of_lt_of_le h2 hb.size, (hb.cell (p := ⟨b, o + j, none⟩) h2).trans h3⟩
def pf (c : Int) (ls : Ls) : Fr := ⟨1, c, 0, ls, []⟩
theorem pf_right {c : Int} {ls : Ls} (hc : 1 ≤ c ∧ c ≤ 1099511627776) (h0 : 1 ≤ ls.length) (h : LinksOk ls) : F17.right (pf c ls) = true := by
  unfold F17.right F17.lks F17.byKind pf
  simp only [Bool.and_eq_true, decide_eq_true_eq]
  refine ⟨⟨⟨hc, by omega⟩, h.1, (F17.lok_iff _).2 (fun x hx => (h.2 x hx).1)⟩, ?_⟩
  show (decide True && decide (0 < ls.length) && decide True) = true
  simp
  omega
theorem LkC.conv {w w1 : World} {g : Option Nat} {y : List Nat} {c : Nat} (hs : Src w1 (.slice (some ⟨w.heap.size, 0, none⟩) y.length c) y) (hl : y.length ≤ 1000000) (hg : ∀ k, g = some k → k < w.heap.size) : LkC w1 g (.slice (some ⟨w.heap.size, 0, none⟩) y.length c) y := by
  refine ⟨_, _, rfl, hs, hl, fun h0 b hb => ?_⟩
  cases hb
  refine ⟨fun e => ?_, (Old.of hs).2 h0 _ rfl⟩
  have := hg _ e.symm
  simp at this
theorem src_no {w w' : World} {v : Value} {l : List Nat} {m : Nat} (h : Src w v l) (ho : Only [m] w w') (hm : ∀ o z, w.cell? ⟨m, o, none⟩ ≠ some (.int .u8 z)) : Src w' v l := by
  obtain ⟨hs, h1 | h1 | ⟨b, o, c', rfl, hc, hr⟩⟩ := h
  · exact ⟨hs, .inl h1⟩
  · exact ⟨hs, .inr (.inl h1)⟩
  · cases l with
    | nil => exact ⟨hs, .inr (.inl ⟨_, _, rfl, rfl⟩)⟩
    | cons x r =>
      have hb : b ≠ m := fun e => by
        have := hr 0 (.int .u8 (x : Int)) (by simp [ints])
        rw [e] at this
        exact hm _ _ this
      exact ⟨hs, .inr (.inr ⟨b, o, c', rfl, hc, range_kept hr (ho.block b (range_lt hr (by simp [ints])) (by simpa using hb))⟩)⟩
theorem box_no {w : World} {g : Nat} {a b c : Int} {q q' : Option Addr} {n m n' m' : Nat} {t : TypeId} (h : w.heap[g]? = some (.cells #[.int .i64 a, .int .i64 b, .int .i64 c, .slice q n m, .slice q' n' m'] t (0, 0))) (o : Nat) (z : Int) : w.cell? ⟨g, o, none⟩ ≠ some (.int .u8 z) := by
  rw [cell_of_row _ _ _ _ _ _ h]
  match o with
  | 0 | 1 | 2 | 3 | 4 => simp
  | _ + 5 => simp
theorem LRow.no {w w' : World} {base n m : Nat} {v : Value} {ls : Ls} (h : LRow w base v n ls) (ho : Only [m] w w') (hm : ∀ o z, w.cell? ⟨m, o, none⟩ ≠ some (.int .u8 z)) (hb : m < base) : LRow w' base v n ls := by
  obtain ⟨e0, xs, e2, e3⟩ := h
  refine ⟨e0, xs, own_only e2 ho (own_off e2 (by simpa using hb)), fun jj u z u1 u2 => ?_⟩
  obtain ⟨bp, bc, m1, m2, m3, m4⟩ := e3 jj u z u1 u2
  exact ⟨bp, bc, m1, src_no m2 ho hm, m3, fun z0 b hb => ⟨(m4 z0 b hb).1, Nat.lt_of_lt_of_le (m4 z0 b hb).2 ho.size⟩⟩
set_option maxHeartbeats 8000000 in
set_option maxRecDepth 20000 in
theorem lpush_any (c : Int) (q : Option Addr) (cp : Nat) (ls : Ls) (w : World) (h : StrRow w q ls) (hc : 1 ≤ c ∧ c ≤ 1099511627776) (h0 : 1 ≤ ls.length) (hls : LinksOk ls) (hb : (F17.bytes (pf c ls)).length ≤ 32768) :
    Calls Try.prog 22 #[.int .i64 c, .slice q ls.length cp] w fun e w' => ∃ v, e = .returned v ∧ Src w' v (F17.bytes (pf c ls)) ∧ Below w.heap.size w w' := by
  obtain ⟨n, HN⟩ : ∃ n, Hid (ls.length = n) := ⟨_, rfl⟩
  have HA : Hid (StrRow w q ls) := h
  have HLS : Hid (LinksOk ls) := hls
  have HR : Hid (F17.right (pf c ls) = true) := pf_right hc h0 hls
  have HBY : Hid ((F17.bytes (pf c ls)).length ≤ 32768) := hb
  have hn : n ≤ 8 := by rw [← HN.out]; exact hls.1
  have l1 : (n : Int) ≤ 8 := by omega
  rw [HN.out]
  clear h hc h0 hls hb
  go_enter Try.func22, Try.ntmps22
  go_wp2_with fail
  go_loopw [14] (fun i wr => ∃ j : Nat, j ≤ n ∧ i = .int .i64 j ∧ Hid (∃ q1 c1, wr.heap[w.heap.size]? = some (.cells #[.int .i64 1, .int .i64 c, .int .i64 0, .slice q1 j c1, .slice none 0 0] 34 (0, 0)) ∧ LRow wr (w.heap.size + 1) (.slice q1 j c1) j (ls.take j)) ∧ Hid (Below w.heap.size w wr)) (fun i _ => n - (intOf i).toNat)
  case atStart =>
    refine ⟨0, by omega, rfl, ⟨none, 0, heap_alloc_new w _, ?_⟩, (Below.refl _ w).alloc (Nat.le_refl _) _⟩
    simp only [List.take_zero]
    exact LRow.nil _ _
  case round =>
    obtain ⟨j, hj, rfl, HO, HB⟩ := hrel
    obtain ⟨q1, c1, hg, hrow⟩ := HO.out
    have HG : Hid (wr.heap[w.heap.size]? = some (.cells #[.int .i64 1, .int .i64 c, .int .i64 0, .slice q1 j c1, .slice none 0 0] 34 (0, 0))) := hg
    have HRW : Hid (LRow wr (w.heap.size + 1) (.slice q1 j c1) j (ls.take j)) := hrow
    have d0 : wr.cell? ⟨w.heap.size, 0, none⟩ = some (.int .i64 1) := cell_of_row _ _ _ _ _ _ hg
    have d1 : wr.cell? ⟨w.heap.size, 1, none⟩ = some (.int .i64 c) := cell_of_row _ _ _ _ _ _ hg
    have d2 : wr.cell? ⟨w.heap.size, 2, none⟩ = some (.int .i64 0) := cell_of_row _ _ _ _ _ _ hg
    have d3 : wr.cell? ⟨w.heap.size, 3, none⟩ = some (.slice q1 j c1) := cell_of_row _ _ _ _ _ _ hg
    have d4 : wr.cell? ⟨w.heap.size, 4, none⟩ = some (.slice none 0 0) := cell_of_row _ _ _ _ _ _ hg
    clear hg hrow HO
    by_cases hlt : j < n
    · have ja : j < ls.length := by rw [HN.out]; exact hlt
      obtain ⟨bb, o, rfl, k2, k3⟩ := HA.out j ja
      have e1 := (HB.out.cell (p := ⟨bb, o + j, none⟩) k2).trans k3
      have j1 : (j : Int) < (n : Int) := by omega
      have j0 : (0 : Int) ≤ (j : Int) := by omega
      obtain ⟨y, HY⟩ : ∃ y : List Nat, Hid (ls[j] = y) := ⟨ls[j], rfl⟩
      rw [HY.out] at e1
      have hy : y ∈ ls := by rw [← HY.out]; exact List.getElem_mem _
      have HYW : Hid (y.length ≤ 4096 ∧ ∀ z ∈ y, z < 256) := ⟨(HLS.out.2 y hy).1.2, (HLS.out.2 y hy).2⟩
      have HT : Hid (ls.take (j + 1) = ls.take j ++ [y]) := by
        show _ = _
        rw [List.take_succ_eq_append_getElem ja, HY.out]
      obtain ⟨yc, w1, hrun, hs1, hb1⟩ := str_src wr y HYW.out.2
      have HRUN : Hid ((convert 9 32 (.string (strB y))).run Try.prog wr = .ok (.slice (some ⟨wr.heap.size, 0, none⟩) y.length yc) w1) := hrun
      have HS1 : Hid (Src w1 (.slice (some ⟨wr.heap.size, 0, none⟩) y.length yc) y) := hs1
      have HB1 : Hid (Below wr.heap.size wr w1) := hb1
      generalize strB y = sy at *
      clear k3 hy hrun hs1 hb1
      go_wp2_with (first | with_reducible (refine stop_convert 9 32 ?_))
      refine Stop.go ?_
      refine law_convert _ _ w1 rfl HRUN.out ?_
      go_wp2_with (first | with_reducible (refine stop_builtin .append ?_))
      refine Stop.go ?_
      have hw0 : w.heap.size + 1 ≤ wr.heap.size := (Array.getElem?_eq_some_iff.1 HG.out).1
      have hsz := HB1.out.size
      have hb2 : Below w1.heap.size w1 (w1.alloc (.cells #[.slice (some ⟨wr.heap.size, 0, none⟩) y.length yc] 32)) := (Below.refl _ w1).alloc (Nat.le_refl _) _
      have hO : LRow (w1.alloc (.cells #[.slice (some ⟨wr.heap.size, 0, none⟩) y.length yc] 32)) (w.heap.size + 1) (.slice q1 j c1) j (ls.take j) := (HRW.out.below HB1.out).below hb2
      have hk : LkC (w1.alloc (.cells #[.slice (some ⟨wr.heap.size, 0, none⟩) y.length yc] 32)) (Value.slice q1 j c1).ownBlock (.slice (some ⟨wr.heap.size, 0, none⟩) y.length yc) y := (LkC.conv HS1.out (by have := HYW.out.1; omega) (fun k hk => (HRW.out.lt k hk).2)).below hb2
      refine law_append_link (w.heap.size + 1) (.slice q1 j c1) j (ls.take j) w1.heap.size (.slice (some ⟨wr.heap.size, 0, none⟩) y.length yc) y rfl rfl hO (one32 w1 _) hk (by omega) (by simp; omega) ?_
      intro v' w3 k1 k2' _
      obtain ⟨vq, vc, rfl⟩ := k1.slice
      have hb3 : Below (w.heap.size + 1) wr w3 := (HB1.out.mono hw0).trans ((hb2.mono (by omega)).trans (hO.grown k2' (by simp; omega)))
      have hg3 := (hb3.block w.heap.size (Nat.lt_succ_self _)).trans HG.out
      have f3 : w3.frozen? ⟨w.heap.size, 3, none⟩ = false := frozen_of_row _ _ _ _ _ hg3
      have c3 : w3.cell? ⟨w.heap.size, 3, none⟩ = some (.slice q1 j c1) := cell_of_row _ _ _ _ _ _ hg3
      have HG3 : Hid (w3.heap[w.heap.size]? = some (.cells #[.int .i64 1, .int .i64 c, .int .i64 0, .slice q1 j c1, .slice none 0 0] 34 (0, 0))) := hg3
      have HK1 : Hid (LRow w3 (w.heap.size + 1) (.slice vq (j + 1) vc) (j + 1) (ls.take (j + 1))) := by
        show LRow _ _ _ _ _
        rw [HT.out]
        exact k1
      have HB3 : Hid (Below w.heap.size w w3) := HB.out.trans (hb3.mono (Nat.le_succ _))
      clear hw0 hsz hb2 hO hk k1 k2' hb3 hg3 HRUN HS1 HB1 HT HY HG HRW d0 d1 d2 d3 d4
      go_wp2_with fail
      refine ⟨⟨j + 1, by omega, by simp, ⟨vq, vc, ?_, ?_⟩, HB3.out.setCell (p := ⟨w.heap.size, 3, none⟩) (Nat.le_refl _) _⟩, ?_⟩
      · exact heap_setCell_same _ _ 3 _ 34 _ HG3.out
      · exact HK1.out.no (Only.setCell _ _ _ (by simp)) (box_no HG3.out) (Nat.lt_succ_self _)
      · simp only [intOf]
        omega
    · obtain rfl : j = n := by omega
      have j1 : ¬ (j : Int) < (j : Int) := by omega
      have hT : ls.take j = ls := List.take_of_length_le (by rw [HN.out]; omega)
      have hrow := HRW.out
      rw [hT] at hrow
      have HFR : Hid (FrIs wr (.agg #[.int .i64 1, .int .i64 c, .int .i64 0, .slice q1 j c1, .slice none 0 0]) (pf c ls)) :=
        ⟨q1, c1, none, 0, by simp only [FrV, pf, HN.out]; rfl, hrow.lk, Src.nil _, by simp only [pf, HN.out]; omega, Nat.zero_le _⟩
      have HE : ∀ W, W = wr → Calls Try.prog 40 #[.agg #[.int .i64 1, .int .i64 c, .int .i64 0, .slice q1 j c1, .slice none 0 0]] W fun e w' => ∃ v, e = .returned (.tuple #[v, .int .i64 0]) ∧ Hid (Src w' v (F17.bytes (pf c ls)) ∧ Below w.heap.size w w') := by
        rintro W rfl
        refine (Encode_any _ _ W HFR.out).mono ?_
        rintro e w3 ⟨h1, ⟨_, _, v, rfl, h2⟩ | ⟨_, h2, _⟩ | ⟨h2, _⟩⟩
        · exact ⟨v, rfl, Src.own (F17.bytes_small HFR.out.small) h2, HB.out.trans (h1.mono HB.out.size)⟩
        · have := HBY.out
          omega
        · rw [HR.out] at h2
          cases h2
      clear hT hrow
      go_wp2_with (first | (go_at_call 40; refine (HE _ rfl).mono ?_; rintro e w1 ⟨v, rfl, H1⟩))
      go_ret
      exact ⟨_, rfl, H1.out.1, H1.out.2⟩
/-- Two lists of links. -/
theorem same_any (q q' : Option Addr) (cp cp' : Nat) (ls ms : Ls) (w : World) (h : LkRow w q ls) (h' : LkRow w q' ms) (hl : ls.length ≤ 9223372036854775807) (hl' : ms.length ≤ 9223372036854775807) :
    Calls Try.prog 18 #[.slice q ls.length cp, .slice q' ms.length cp'] w fun e w' => e = .returned (.bool (decide (ls = ms))) ∧ Below w.heap.size w w' := by
  have h1 : FrIs w (.agg #[.int .i64 0, .int .i64 0, .int .i64 0, .slice q ls.length cp, .slice none 0 0]) ⟨0, 0, 0, ls, []⟩ := ⟨q, cp, none, 0, rfl, h, Src.nil _, hl, Nat.zero_le _⟩
  have h2 : FrIs w (.agg #[.int .i64 0, .int .i64 0, .int .i64 0, .slice q' ms.length cp', .slice none 0 0]) ⟨0, 0, 0, ms, []⟩ := ⟨q', cp', none, 0, rfl, h', Src.nil _, hl', Nat.zero_le _⟩
  have HC : Calls Try.prog 32 #[.agg #[.int .i64 0, .int .i64 0, .int .i64 0, .slice q ls.length cp, .slice none 0 0], .agg #[.int .i64 0, .int .i64 0, .int .i64 0, .slice q' ms.length cp', .slice none 0 0]] w fun e w' => e = .returned (.bool (decide (ls = ms))) ∧ Hid (Below w.heap.size w w') := by
    refine (rSame_any _ _ _ _ w h1 h2).mono ?_
    rintro e w' ⟨rfl, hb⟩
    have e1 : F17.same ⟨0, 0, 0, ls, []⟩ ⟨0, 0, 0, ms, []⟩ = decide (ls = ms) := by simp [F17.same]
    exact ⟨by rw [e1], hb⟩
  clear h h' hl hl' h1 h2
  generalize ls.length = n at *
  generalize ms.length = m at *
  go_enter Try.func18, Try.ntmps18
  go_wp2_with (first | (go_at_call 32; refine HC.mono ?_; rintro e w1 ⟨rfl, H1⟩))
  go_ret
  exact ⟨rfl, H1.out⟩
end Go.Proofs.Ytchoiioeeepoaaa.V19
