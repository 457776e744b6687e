/- The contract of the server's push. -/
import Derived.Test.YtchoiioeeepoaaaV19Log
import Derived.Deep.RegionWith
import Derived.Deep.Cut
import Derived.Deep.CutRange
namespace Go.Proofs.Ytchoiioeeepoaaa.V19
open Go.RowKit C8 E9 F17
theorem ld64 {b : Nat} {x y : Value} {w : World} (h : w.heap[b]? = some (.cells #[x, y] 64 (0, 0))) : (Instr.loadAt 64 (.pointer (some ⟨b, 0, none⟩))).run Try.prog w = .ok (.agg #[x, y]) w := by
  obtain ⟨fs, hu, _⟩ := ok64_inv is64
  simp only [Instr.loadAt, Instr.sureAddr, Sem.run_bind, Sem.run_pure, Result.andThen_ok, run_loadVar_row (P := Try.prog) w b 64 64 #[x, y] (0, 0) _ h hu rfl (by kernel_rfl)]
/-- What push may suppose of links. -/
def LinksOk (ls : Ls) : Prop := ls.length ≤ 8 ∧ ∀ y ∈ ls, (1 ≤ y.length ∧ y.length ≤ 4096) ∧ ∀ z ∈ y, z < 256
def PushSays (p b m : Nat) (M : St) (x c : Int) (ls : Ls) (w : World) (e : Ending) (w' : World) : Prop :=
  e = .returned (.int .i64 (pushA M x c ls).2) ∧ SvAt w' p b (m + 1) (pushA M x c ls).1 ∧ Only [b] w w'
theorem PushSays.full {p b m : Nat} {M : St} {x c : Int} {ls : Ls} {w w' : World} (h : SvAt w p b m M) (hb : Below w.heap.size w w') (hf : 64 < (add (M x c) ls).length) : PushSays p b m M x c ls w (.returned (.int .i64 33)) w' := by
  have e : pushA M x c ls = (M, 33) := by unfold pushA; rw [if_pos hf]
  unfold PushSays
  rw [e]
  exact ⟨rfl, (h.below hb).mono (by omega), Only.of_below hb _⟩
theorem PushSays.done {p b m : Nat} {M : St} {x c : Int} {ls : Ls} {w w' : World} (h : SvAt w' p b (m + 1) (upd M x c (add (M x c) ls))) (hb : Only [b] w w') (hf : ¬ 64 < (add (M x c) ls).length) : PushSays p b m M x c ls w (.returned (.int .i64 0)) w' := by
  have e : pushA M x c ls = (upd M x c (add (M x c) ls), 0) := by unfold pushA; rw [if_neg hf]
  unfold PushSays
  rw [e]
  exact ⟨rfl, h, hb⟩
set_option maxHeartbeats 8000000 in
set_option maxRecDepth 20000 in
theorem push_any (p b m : Nat) (M : St) (x c : Int) (q : Option Addr) (cp : Nat) (ls : Ls) (w : World) (h : SvAt w p b m M) (hx : x = 0 ∨ x = 1) (hc : In64 c) (hok : Wf (M x c)) (hm : m ≤ 900000) (hl : LkRow w q ls) (hls : LinksOk ls) :
    Calls Try.prog 25 #[.pointer (some ⟨p, 0, none⟩), pl x c, .slice q ls.length cp] w fun e w' => PushSays p b m M x c ls w e w' := by
  have hx64 : In64 x := by unfold In64; rcases hx with rfl | rfl <;> decide
  obtain ⟨log, HLG⟩ : ∃ log, Hid (M x c = log) := ⟨_, rfl⟩
  obtain ⟨n, HN⟩ : ∃ n, Hid (ls.length = n) := ⟨_, rfl⟩
  obtain ⟨n0, HN0⟩ : ∃ n0, Hid (log.length = n0) := ⟨_, rfl⟩
  obtain ⟨W1, hW1⟩ : ∃ W1, W1 = w.alloc (.cells #[.int .i64 x, .int .i64 c] 64) := ⟨_, rfl⟩
  have hb1 : Below w.heap.size w W1 := by rw [hW1]; exact (Below.refl _ w).alloc (Nat.le_refl _) _
  have hs1 : W1.heap.size = w.heap.size + 1 := by rw [hW1]; simp
  have hbox : W1.heap[w.heap.size]? = some (.cells #[.int .i64 x, .int .i64 c] 64 (0, 0)) := by rw [hW1]; exact heap_alloc_new w _
  have hS1 : SvAt W1.drew p b m M := (h.below hb1).below (Below.refl _ W1).drew
  obtain ⟨lq, lcp, hlk, HL0, -⟩ := hS1.look hx64 hc
  have hwf : Wf log := HLG.out ▸ hok
  rw [HLG.out] at hlk HL0
  rw [HN0.out] at hlk
  have HCL : ∀ W, W = W1.drew → Calls Try.prog 30 #[.slice lq n0 lcp] W fun e w' => ∃ v, e = .returned v ∧ Hid (LRow w' (w.heap.size + 1) v n0 log ∧ Below (w.heap.size + 1) W1 w') := by
    rintro W rfl
    rw [← HN0.out]
    refine (lclone_any lq lcp log _ HL0 (by have := hwf.1; omega) (fun y hy => by have := (hwf.2 y hy).1; omega)).mono ?_
    rintro e w' ⟨v, rfl, h1, h2⟩
    have e1 : W1.drew.heap.size = w.heap.size + 1 := hs1
    rw [e1] at h1 h2
    exact ⟨v, rfl, h1, ((Below.refl _ W1).drew).trans h2⟩
  have d0 : W1.drew.cell? ⟨p, 0, none⟩ = some (.map (some b)) := cell_of_row _ _ _ _ _ _ hS1.cell
  have d2 : W1.drew.cell? ⟨w.heap.size, 0, none⟩ = some (.int .i64 x) := cell_of_row _ _ _ _ _ _ hbox
  have d3 : W1.drew.cell? ⟨w.heap.size, 1, none⟩ = some (.int .i64 c) := cell_of_row _ _ _ _ _ _ hbox
  have HX : Hid (x = 0 ∨ x = 1) := hx
  have HSV : Hid (SvAt w p b m M) := h
  have HIC : Hid (In64 c) := hc
  have HWF : Hid (Wf log) := hwf
  have HLS : Hid (LinksOk ls) := hls
  have HLK : Hid (LkRow w q ls) := hl
  have HB1 : Hid (Below w.heap.size w W1) := hb1
  have HS1 : Hid (W1.heap.size = w.heap.size + 1) := hs1
  have HBX : Hid (W1.heap[w.heap.size]? = some (.cells #[.int .i64 x, .int .i64 c] 64 (0, 0))) := hbox
  have HS : Hid (∀ e w', PushSays p b m M x c ls w e w' → PushSays p b m M x c ls w e w') := fun _ _ h => h
  have hn8 : n ≤ 8 := by rw [← HN.out]; exact hls.1
  have l1 : (n : Int) ≤ 8 := by omega
  rw [HN.out]
  unfold pl at hlk ⊢
  clear h hx hc hok hl hls hb1 hs1 hbox hS1 HL0 hwf hx64
  go_enter Try.func25, Try.ntmps25
  go_upto_region 1 with fail
  rw [← hW1]
  clear hW1
  go_cut [7] from 10 to 16 (fun v7 wx => Hid (LRow wx (w.heap.size + 1) v7 n0 log ∧ Below (w.heap.size + 1) W1 wx))
  case first =>
    go_region_with (go_at_call 30; refine (HCL _ rfl).mono ?_; rintro e w1 ⟨v, rfl, H1⟩)
    all_goals (go_wp2_with fail; go_meet; exact H1)
  case rest =>
    obtain ⟨h1, h2⟩ := hcut.out
    have HW : Hid (LRow wc (w.heap.size + 1) u7 n0 log) := h1
    have HB : Hid (Below (w.heap.size + 1) W1 wc) := h2
    clear h1 h2 hcut hlk HCL d0 d2 d3
    go_wp2_with fail
    go_loopw [7, 19] (fun sl i wr => ∃ j : Nat, j ≤ n ∧ i = .int .i64 j ∧ Hid (LRow wr (w.heap.size + 1) sl (add log (ls.take j)).length (add log (ls.take j))) ∧ Hid (Below (w.heap.size + 1) W1 wr)) (fun _ i _ => n - (intOf i).toNat)
    case atStart => exact ⟨0, by omega, rfl, by show LRow _ _ _ _ _; simp only [List.take_zero, add_nil]; rw [HN0.out]; exact HW.out, HB⟩
    case round =>
      obtain ⟨j, hj, rfl, HO, HBr⟩ := hrel
      clear HW HB
      obtain ⟨cur, HCU⟩ : ∃ cur, Hid (add log (ls.take j) = cur) := ⟨_, rfl⟩
      obtain ⟨k, HK⟩ : ∃ k, Hid (cur.length = k) := ⟨_, rfl⟩
      rw [HCU.out, HK.out] at HO
      have hk : k ≤ 72 := by
        have h1 := (add_length (ls := ls.take j) (log := log)).2
        have h2 := HWF.out.1
        have h3 := HLS.out.1
        rw [HCU.out, HK.out, List.length_take] at h1
        omega
      obtain ⟨uq, uc, rfl⟩ := HO.out.slice
      by_cases hlt : j < n
      · have ja : j < ls.length := by rw [HN.out]; exact hlt
        have hW1 : w.heap.size ≤ wr.heap.size := by have := HBr.out.size; have := HS1.out; omega
        have HBW : Hid (Below w.heap.size w wr) := HB1.out.trans (HBr.out.mono (Nat.le_succ _))
        obtain ⟨bb, o, bp, bc, rfl, k2, k3, k4, k5⟩ := HLK.out j ja
        have d1 := (HBW.out.cell (p := ⟨bb, o + j, none⟩) k2).trans k3
        have j1 : (j : Int) < (n : Int) := by omega
        have j0 : (0 : Int) ≤ (j : Int) := by omega
        obtain ⟨y, HY⟩ : ∃ y : List Nat, Hid (ls[j] = y) := ⟨ls[j], rfl⟩
        rw [HY.out] at d1 k4
        have hy : y ∈ ls := by rw [← HY.out]; exact List.getElem_mem _
        have HYW : Hid (y.length ≤ 4096 ∧ ∀ z ∈ y, z < 256) := ⟨(HLS.out.2 y hy).1.2, (HLS.out.2 y hy).2⟩
        have HT : Hid (add log (ls.take (j + 1)) = if y ∈ cur then cur else cur ++ [y]) := by
          show _ = _
          rw [add_take ja, HY.out, HCU.out]
        have HSR : Hid (Src wr (.slice bp y.length bc) y) := k4.below HBW.out
        have HHC : ∀ W, W = wr → Calls Try.prog 41 #[.slice uq k uc, .slice bp y.length bc] W fun e w' => e = .returned (.bool (decide (y ∈ cur))) ∧ Hid (Below wr.heap.size wr w') := by
          rintro W rfl
          rw [← HK.out]
          exact (has_any uq uc cur bp y.length bc y W HO.out.lk (by rw [HK.out]; omega) HSR.out).mono (by rintro e w' ⟨rfl, h2⟩; exact ⟨rfl, h2⟩)
        clear k2 k3 k4 k5 hy
        by_cases hmem : y ∈ cur
        · have HT2 : Hid (add log (ls.take (j + 1)) = cur) := by
            have := HT.out
            rw [if_pos hmem] at this
            exact this
          rw [decide_eq_true hmem] at HHC
          clear hmem HT
          go_wp2_with (first | (go_at_call 41; refine (HHC _ rfl).mono ?_; rintro e w1 ⟨rfl, H1⟩))
          refine ⟨⟨j + 1, by omega, by simp, ?_, ?_⟩, ?_⟩
          · show LRow _ _ _ _ _
            rw [HT2.out, HK.out]
            exact HO.out.below H1.out
          · exact HBr.out.trans (H1.out.mono (by have := HS1.out; have := HBr.out.size; omega))
          · simp only [intOf]
            omega
        · have HT2 : Hid (add log (ls.take (j + 1)) = cur ++ [y]) := by
            have := HT.out
            rw [if_neg hmem] at this
            exact this
          rw [decide_eq_false hmem] at HHC
          have HC : ∀ W, Hid (Below wr.heap.size wr W) → Calls Try.prog 33 #[.slice bp y.length bc] W fun e w' => ∃ v, e = .returned v ∧ Hid (w'.ownsRow W.heap.size 5 1 v y.length (ints .u8 y) ∧ Below W.heap.size W w') := by
            intro W HWb
            refine (bclone_any _ _ W (HSR.out.below HWb.out) (by have := HYW.out.1; omega)).mono ?_
            rintro e w' ⟨v, rfl, h1, h2⟩
            exact ⟨v, rfl, h1, h2⟩
          clear hmem HT
          go_wp2_with (first | (go_at_call 41; refine (HHC _ rfl).mono ?_; rintro e w1 ⟨rfl, H1⟩) | (go_at_call 33; refine (HC _ H1).mono ?_; rintro e w2 ⟨v1, rfl, H2⟩; obtain ⟨vq, vc, rfl⟩ := own_slice H2.out.1) | with_reducible (refine stop_builtin .append ?_))
          refine Stop.go ?_
          obtain ⟨h1, h2⟩ := H2.out
          have hsz : w.heap.size + 1 ≤ wr.heap.size := by have := HS1.out; have := HBr.out.size; omega
          have hsz1 := H1.out.size
          have hsz2 := h2.size
          have hb2 : Below w2.heap.size w2 (w2.alloc (.cells #[.slice vq y.length vc] 32)) := (Below.refl _ w2).alloc (Nat.le_refl _) _
          have hO1 := HO.out.below H1.out
          have hO : LRow (w2.alloc (.cells #[.slice vq y.length vc] 32)) (w.heap.size + 1) (.slice uq k uc) k cur := (hO1.below h2).below hb2
          have hkk : LkC (w2.alloc (.cells #[.slice vq y.length vc] 32)) (Value.slice uq k uc).ownBlock (.slice vq y.length vc) y := (LkC.of_own h1 HYW.out.2 (by have := HYW.out.1; omega) (fun k hk => (hO1.lt k hk).2)).below hb2
          refine law_append_link (w.heap.size + 1) (.slice uq k uc) k cur w2.heap.size (.slice vq y.length vc) y rfl rfl hO (one32 w2 (.slice vq y.length vc)) hkk (by omega) (by simp; omega) ?_
          intro v' w3 k1 k2 _
          have HO2 : Hid (LRow w3 (w.heap.size + 1) v' (add log (ls.take (j + 1))).length (add log (ls.take (j + 1)))) := by
            show LRow _ _ _ _ _
            rw [HT2.out, List.length_append, HK.out]
            exact k1
          have HB2 : Hid (Below (w.heap.size + 1) W1 w3) := (HBr.out.trans (H1.out.mono hsz)).trans ((h2.mono (by omega)).trans ((hb2.mono (by omega)).trans (hO.grown k2 (by simp; omega))))
          clear h1 h2 hb2 hO hO1 hkk k1 k2 H1 H2 HO HT2 HY HC HHC hsz hsz1 hsz2
          go_wp2_with fail
          refine ⟨⟨j + 1, by omega, by simp, HO2, HB2⟩, ?_⟩
          simp only [intOf]
          omega
      · obtain rfl : j = n := by omega
        have j1 : ¬ (j : Int) < (j : Int) := by omega
        have HCU2 : Hid (add log ls = cur) := by
          have := HCU.out
          rw [List.take_of_length_le (by rw [HN.out]; omega)] at this
          exact this
        have HBW : Hid (Below w.heap.size w wr) := HB1.out.trans (HBr.out.mono (Nat.le_succ _))
        by_cases h64 : 64 < k
        · have q1 : (64 : Int) < (k : Int) := by omega
          clear HO
          go_wp2_with fail
          go_ret
          exact PushSays.full HSV.out HBW.out (by rw [HLG.out, HCU2.out, HK.out]; exact h64)
        · have q1 : ¬ (64 : Int) < (k : Int) := by omega
          have hS2 : SvAt wr.drew p b m M := (HSV.out.below HBW.out).below (Below.refl _ wr).drew
          have hlk2 : LkRow wr.drew uq cur := (HO.out.lk).below (Below.refl _ wr).drew
          obtain ⟨w9, hmu, hS9, hO9⟩ := hS2.put HX.out HIC.out (by omega) (cp := uc) hlk2 HO.out.cap
          have d0 : wr.drew.cell? ⟨p, 0, none⟩ = some (.map (some b)) := cell_of_row _ _ _ _ _ _ hS2.cell
          have hbx := (HBr.out.block w.heap.size (Nat.lt_succ_self _)).trans HBX.out
          have d2 : wr.drew.cell? ⟨w.heap.size, 0, none⟩ = some (.int .i64 x) := cell_of_row _ _ _ _ _ _ hbx
          have d3 : wr.drew.cell? ⟨w.heap.size, 1, none⟩ = some (.int .i64 c) := cell_of_row _ _ _ _ _ _ hbx
          have HEND : Hid (PushSays p b m M x c ls w (.returned (.int .i64 0)) w9) := by
            refine PushSays.done ?_ ((Only.of_below (HBW.out.drew) _).trans hO9) (by rw [HLG.out, HCU2.out, HK.out]; exact h64)
            rw [HLG.out, HCU2.out]
            exact hS9
          unfold pl at hmu
          rw [HK.out] at hmu
          clear HO hS2 hlk2 hS9 hO9 hbx
          go_upto_region 10 with fail
          go_cut [] from 36 to 41 (fun wx => wx = w9)
          case first =>
            go_region
            all_goals (go_wp2_with fail; go_meet; rfl)
          case rest =>
            obtain rfl := hcut
            go_wp2_with fail
            go_ret
            exact HEND.out
end Go.Proofs.Ytchoiioeeepoaaa.V19
