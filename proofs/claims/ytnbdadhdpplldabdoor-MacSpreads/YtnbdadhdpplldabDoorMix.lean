/- The contract of sha.mix: a block's sixty-four rounds, by goto. -/
import Derived.Test.YtnbdadhdpplldabDoorLeaves
import Derived.WalkMore
import Derived.ScopeJumps
namespace Go.Proofs.YtnbdadhdpplldabDoor
open Go.RowKit
def Tab (w : World) : Prop := ∀ i, i < 64 → w.cell? ⟨0, i, none⟩ = some (.int .u32 (Sp.nth Sp.K i : Nat))
theorem turned_e (x : Nat) (w : World) (hx : x < 4294967296) : Calls Tryd.prog 34 #[.int .u32 x, .int .i64 6, .int .i64 11, .int .i64 25] w fun e w' => e = .returned (.int .u32 (Sp.turned x 6 11 25 : Nat)) ∧ w' = w := by
  have h := turned_any x 6 11 25 w hx (by decide) (by decide) (by decide) (by decide) (by decide) (by decide)
  simpa only [Int.cast_ofNat_Int] using h
theorem turned_a (x : Nat) (w : World) (hx : x < 4294967296) : Calls Tryd.prog 34 #[.int .u32 x, .int .i64 2, .int .i64 13, .int .i64 22] w fun e w' => e = .returned (.int .u32 (Sp.turned x 2 13 22 : Nat)) ∧ w' = w := by
  have h := turned_any x 2 13 22 w hx (by decide) (by decide) (by decide) (by decide) (by decide) (by decide)
  simpa only [Int.cast_ofNat_Int] using h
def mixW (w : World) (s : Sp.S8) (ws : List Nat) : World := ((w.alloc (Obj.cells (arr .u32 s.list) 54)).alloc (Obj.cells (arr .u32 ws) 60)).alloc
  (Obj.cells
    #[Value.int IntKind.u32 0, Value.int IntKind.u32 0, Value.int IntKind.u32 0, Value.int IntKind.u32 0,
      Value.int IntKind.u32 0, Value.int IntKind.u32 0, Value.int IntKind.u32 0, Value.int IntKind.u32 0]
    54)
section
variable (w : World) (s : Sp.S8) (ws : List Nat)
theorem mixW_eq : (((w.alloc (Obj.cells (arr .u32 s.list) 54)).alloc (Obj.cells (arr .u32 ws) 60)).alloc
  (Obj.cells
    #[Value.int IntKind.u32 0, Value.int IntKind.u32 0, Value.int IntKind.u32 0, Value.int IntKind.u32 0,
      Value.int IntKind.u32 0, Value.int IntKind.u32 0, Value.int IntKind.u32 0, Value.int IntKind.u32 0]
    54)) = mixW w s ws := rfl
theorem mixW_0 : (mixW w s ws).heap[w.heap.size]? = some (Obj.cells (arr .u32 s.list) 54) := by
  show (((w.heap.push _).push _).push _)[_]? = _
  rw [Array.getElem?_push_lt (by simp; omega), Array.getElem_push_lt (by simp), Array.getElem_push_eq]
theorem mixW_1 : (mixW w s ws).heap[w.heap.size + 1]? = some (Obj.cells (arr .u32 ws) 60) := by
  show (((w.heap.push _).push _).push _)[_]? = _
  rw [Array.getElem?_push_lt (by simp), Array.getElem_push, dif_neg (by simp)]
theorem mixW_2 : (mixW w s ws).heap[w.heap.size + 1 + 1]? = some (Obj.cells #[Value.int IntKind.u32 0, Value.int IntKind.u32 0, Value.int IntKind.u32 0, Value.int IntKind.u32 0,
      Value.int IntKind.u32 0, Value.int IntKind.u32 0, Value.int IntKind.u32 0, Value.int IntKind.u32 0] 54) := by
  show (((w.heap.push _).push _).push _)[_]? = _
  rw [Array.getElem?_push, if_pos (by simp)]
theorem there2 (n : Nat) : ((mixW w s ws).drewN n).there (w.heap.size + 1 + 1) 0 8 := fun j hj => by
  simp only [World.cell?_drewN, World.frozen?_drewN, Nat.zero_add]
  rw [cell_of_row _ _ _ _ _ _ (mixW_2 w s ws), frozen_of_row _ _ _ _ _ (mixW_2 w s ws)]
  exact ⟨by simp; omega, rfl⟩
theorem mixW_below : Below w.heap.size w (mixW w s ws) :=
  (((Below.refl _ _).alloc (Nat.le_refl _) _).alloc (by simp) _).alloc (by simp; omega) _
theorem mixW_size : (mixW w s ws).heap.size = w.heap.size + 3 := by simp [mixW]
end

def mixJ (w : World) (s : Sp.S8) (ws : List Nat) (a' : Act) (w' : World) : Prop :=
  ∃ (t n : Nat) (r : Sp.S8) (l : List Value), t < 64 ∧ r = Sp.rounds s ws t ∧ w' = (mixW w s ws).drewN n ∧ l.length = 102 ∧ a' = { tmps := (.agg (arr .u32 s.list) :: .agg (arr .u32 ws) :: .pointer (some ⟨w.heap.size, 0, none⟩) :: .pointer (some ⟨w.heap.size + 1, 0, none⟩) :: .pointer (some ⟨w.heap.size + 1 + 1, 0, none⟩) :: .int .u32 r.a :: .int .u32 r.b :: .int .u32 r.c :: .int .u32 r.d :: .int .u32 r.e :: .int .u32 r.f :: .int .u32 r.g :: .int .u32 r.h :: .int .i64 t :: l).toArray, defers := [] }

theorem cons_of {n : Nat} : ∀ (l : List Value), l.length = n + 1 → ∃ x l', l = x :: l' ∧ l'.length = n
  | x :: l', h => ⟨x, l', rfl, by simpa using h⟩
def mixMu (a' : Act) (_ : World) : Nat := 64 - (intOf (a'.tmps.getD 13 undef)).toNat

set_option maxHeartbeats 2000000 in
theorem mix_any (s : Sp.S8) (ws : List Nat) (w : World) (hs : s.ok) (hl : ws.length = 64) (hT : Tab w) :
    Calls Tryd.prog 28 #[.agg (arr .u32 s.list), .agg (arr .u32 ws)] w fun e w' => e = .returned (.agg (arr .u32 (Sp.mix s ws).list)) ∧ Below w.heap.size w w' := by
  have c0 : (mixW w s ws).cell? ⟨w.heap.size, 0, none⟩ = some (.int .u32 s.a) := by rw [cell_of_row _ _ _ _ _ _ (mixW_0 w s ws)]; rfl
  have c1 : (mixW w s ws).cell? ⟨w.heap.size, 1, none⟩ = some (.int .u32 s.b) := by rw [cell_of_row _ _ _ _ _ _ (mixW_0 w s ws)]; rfl
  have c2 : (mixW w s ws).cell? ⟨w.heap.size, 2, none⟩ = some (.int .u32 s.c) := by rw [cell_of_row _ _ _ _ _ _ (mixW_0 w s ws)]; rfl
  have c3 : (mixW w s ws).cell? ⟨w.heap.size, 3, none⟩ = some (.int .u32 s.d) := by rw [cell_of_row _ _ _ _ _ _ (mixW_0 w s ws)]; rfl
  have c4 : (mixW w s ws).cell? ⟨w.heap.size, 4, none⟩ = some (.int .u32 s.e) := by rw [cell_of_row _ _ _ _ _ _ (mixW_0 w s ws)]; rfl
  have c5 : (mixW w s ws).cell? ⟨w.heap.size, 5, none⟩ = some (.int .u32 s.f) := by rw [cell_of_row _ _ _ _ _ _ (mixW_0 w s ws)]; rfl
  have c6 : (mixW w s ws).cell? ⟨w.heap.size, 6, none⟩ = some (.int .u32 s.g) := by rw [cell_of_row _ _ _ _ _ _ (mixW_0 w s ws)]; rfl
  have c7 : (mixW w s ws).cell? ⟨w.heap.size, 7, none⟩ = some (.int .u32 s.h) := by rw [cell_of_row _ _ _ _ _ _ (mixW_0 w s ws)]; rfl
  have hlt : 0 < w.heap.size := by have := World.block_lt_of_cell? w ⟨0, 0, none⟩ (hT 0 (by decide)); exact this
  have cK : ∀ t, t < 64 → (mixW w s ws).cell? ⟨0, t, none⟩ = some (.int .u32 (Sp.nth Sp.K t : Nat)) := fun t ht => by rw [(mixW_below w s ws).cell (by exact hlt)]; exact hT t ht
  have cW : ∀ t, t < 64 → (mixW w s ws).cell? ⟨w.heap.size + 1, t, none⟩ = some (.int .u32 (Sp.nth ws t : Nat)) := fun t ht => by rw [cell_of_row _ _ _ _ _ _ (mixW_1 w s ws)]; exact arr_get _ _ _ (by omega)
  have HK : Hid (∀ t, t < 64 → (mixW w s ws).cell? ⟨0, t, none⟩ = some (.int .u32 (Sp.nth Sp.K t : Nat))) := cK
  have HW : Hid (∀ t, t < 64 → (mixW w s ws).cell? ⟨w.heap.size + 1, t, none⟩ = some (.int .u32 (Sp.nth ws t : Nat))) := cW
  have k0 := cK 0 (by decide)
  have w0 := cW 0 (by decide)
  clear cK cW hT hlt
  go_enter Tryd.func28, Tryd.ntmps28
  go_wp2
  rw [mixW_eq]
  refine wp_scope_jumps 0 (mixJ w s ws) mixMu rfl ?_ ?_
  · go_wp2
    go_quiet (fail)
    go_wp2
    go_step3
    go_wp2
    go_quiet ((go_at_call 34; exact quiet_more (turned_e s.e _ hs.2.2.2.2.1)))
    go_wp2_with (go_at_call 34; refine (turned_a s.a _ hs.1).mono ?_; rintro e w' ⟨rfl, rfl⟩)
    go_step3
    rw [Sp.chI hs.2.2.2.2.1 hs.2.2.2.2.2.1 hs.2.2.2.2.2.2.1, Sp.majI hs.1 hs.2.1 hs.2.2.1, Sp.newA, Sp.newE]
    refine ⟨rfl, 1, _, Sp.rounds s ws 1, _, by decide, rfl, rfl, ?_, rfl⟩
    rfl
  · rintro a' w' ⟨t, n, r, l, ht, hr, rfl, hll, rfl⟩
    obtain ⟨u14, l14, rfl, h14⟩ := cons_of l hll; clear hll
    obtain ⟨u15, l15, rfl, h15⟩ := cons_of l14 h14; clear h14
    obtain ⟨u16, l16, rfl, h16⟩ := cons_of l15 h15; clear h15
    obtain ⟨u17, l17, rfl, h17⟩ := cons_of l16 h16; clear h16
    obtain ⟨u18, l18, rfl, h18⟩ := cons_of l17 h17; clear h17
    obtain ⟨u19, l19, rfl, h19⟩ := cons_of l18 h18; clear h18
    obtain ⟨u20, l20, rfl, h20⟩ := cons_of l19 h19; clear h19
    obtain ⟨u21, l21, rfl, h21⟩ := cons_of l20 h20; clear h20
    obtain ⟨u22, l22, rfl, h22⟩ := cons_of l21 h21; clear h21
    obtain ⟨u23, l23, rfl, h23⟩ := cons_of l22 h22; clear h22
    obtain ⟨u24, l24, rfl, h24⟩ := cons_of l23 h23; clear h23
    obtain ⟨u25, l25, rfl, h25⟩ := cons_of l24 h24; clear h24
    obtain ⟨u26, l26, rfl, h26⟩ := cons_of l25 h25; clear h25
    obtain ⟨u27, l27, rfl, h27⟩ := cons_of l26 h26; clear h26
    obtain ⟨u28, l28, rfl, h28⟩ := cons_of l27 h27; clear h27
    obtain ⟨u29, l29, rfl, h29⟩ := cons_of l28 h28; clear h28
    obtain ⟨u30, l30, rfl, h30⟩ := cons_of l29 h29; clear h29
    obtain ⟨u31, l31, rfl, h31⟩ := cons_of l30 h30; clear h30
    obtain ⟨u32, l32, rfl, h32⟩ := cons_of l31 h31; clear h31
    obtain ⟨u33, l33, rfl, h33⟩ := cons_of l32 h32; clear h32
    obtain ⟨u34, l34, rfl, h34⟩ := cons_of l33 h33; clear h33
    obtain ⟨u35, l35, rfl, h35⟩ := cons_of l34 h34; clear h34
    obtain ⟨u36, l36, rfl, h36⟩ := cons_of l35 h35; clear h35
    obtain ⟨u37, l37, rfl, h37⟩ := cons_of l36 h36; clear h36
    obtain ⟨u38, l38, rfl, h38⟩ := cons_of l37 h37; clear h37
    obtain ⟨u39, l39, rfl, h39⟩ := cons_of l38 h38; clear h38
    obtain ⟨u40, l40, rfl, h40⟩ := cons_of l39 h39; clear h39
    obtain ⟨u41, l41, rfl, h41⟩ := cons_of l40 h40; clear h40
    obtain ⟨u42, l42, rfl, h42⟩ := cons_of l41 h41; clear h41
    obtain ⟨u43, l43, rfl, h43⟩ := cons_of l42 h42; clear h42
    obtain ⟨u44, l44, rfl, h44⟩ := cons_of l43 h43; clear h43
    obtain ⟨u45, l45, rfl, h45⟩ := cons_of l44 h44; clear h44
    obtain ⟨u46, l46, rfl, h46⟩ := cons_of l45 h45; clear h45
    obtain ⟨u47, l47, rfl, h47⟩ := cons_of l46 h46; clear h46
    obtain ⟨u48, l48, rfl, h48⟩ := cons_of l47 h47; clear h47
    obtain ⟨u49, l49, rfl, h49⟩ := cons_of l48 h48; clear h48
    obtain ⟨u50, l50, rfl, h50⟩ := cons_of l49 h49; clear h49
    obtain ⟨u51, l51, rfl, h51⟩ := cons_of l50 h50; clear h50
    obtain ⟨u52, l52, rfl, h52⟩ := cons_of l51 h51; clear h51
    obtain ⟨u53, l53, rfl, h53⟩ := cons_of l52 h52; clear h52
    obtain ⟨u54, l54, rfl, h54⟩ := cons_of l53 h53; clear h53
    obtain ⟨u55, l55, rfl, h55⟩ := cons_of l54 h54; clear h54
    obtain ⟨u56, l56, rfl, h56⟩ := cons_of l55 h55; clear h55
    obtain ⟨u57, l57, rfl, h57⟩ := cons_of l56 h56; clear h56
    obtain ⟨u58, l58, rfl, h58⟩ := cons_of l57 h57; clear h57
    obtain ⟨u59, l59, rfl, h59⟩ := cons_of l58 h58; clear h58
    obtain ⟨u60, l60, rfl, h60⟩ := cons_of l59 h59; clear h59
    obtain ⟨u61, l61, rfl, h61⟩ := cons_of l60 h60; clear h60
    obtain ⟨u62, l62, rfl, h62⟩ := cons_of l61 h61; clear h61
    obtain ⟨u63, l63, rfl, h63⟩ := cons_of l62 h62; clear h62
    obtain ⟨u64, l64, rfl, h64⟩ := cons_of l63 h63; clear h63
    obtain ⟨u65, l65, rfl, h65⟩ := cons_of l64 h64; clear h64
    obtain ⟨u66, l66, rfl, h66⟩ := cons_of l65 h65; clear h65
    obtain ⟨u67, l67, rfl, h67⟩ := cons_of l66 h66; clear h66
    obtain ⟨u68, l68, rfl, h68⟩ := cons_of l67 h67; clear h67
    obtain ⟨u69, l69, rfl, h69⟩ := cons_of l68 h68; clear h68
    obtain ⟨u70, l70, rfl, h70⟩ := cons_of l69 h69; clear h69
    obtain ⟨u71, l71, rfl, h71⟩ := cons_of l70 h70; clear h70
    obtain ⟨u72, l72, rfl, h72⟩ := cons_of l71 h71; clear h71
    obtain ⟨u73, l73, rfl, h73⟩ := cons_of l72 h72; clear h72
    obtain ⟨u74, l74, rfl, h74⟩ := cons_of l73 h73; clear h73
    obtain ⟨u75, l75, rfl, h75⟩ := cons_of l74 h74; clear h74
    obtain ⟨u76, l76, rfl, h76⟩ := cons_of l75 h75; clear h75
    obtain ⟨u77, l77, rfl, h77⟩ := cons_of l76 h76; clear h76
    obtain ⟨u78, l78, rfl, h78⟩ := cons_of l77 h77; clear h77
    obtain ⟨u79, l79, rfl, h79⟩ := cons_of l78 h78; clear h78
    obtain ⟨u80, l80, rfl, h80⟩ := cons_of l79 h79; clear h79
    obtain ⟨u81, l81, rfl, h81⟩ := cons_of l80 h80; clear h80
    obtain ⟨u82, l82, rfl, h82⟩ := cons_of l81 h81; clear h81
    obtain ⟨u83, l83, rfl, h83⟩ := cons_of l82 h82; clear h82
    obtain ⟨u84, l84, rfl, h84⟩ := cons_of l83 h83; clear h83
    obtain ⟨u85, l85, rfl, h85⟩ := cons_of l84 h84; clear h84
    obtain ⟨u86, l86, rfl, h86⟩ := cons_of l85 h85; clear h85
    obtain ⟨u87, l87, rfl, h87⟩ := cons_of l86 h86; clear h86
    obtain ⟨u88, l88, rfl, h88⟩ := cons_of l87 h87; clear h87
    obtain ⟨u89, l89, rfl, h89⟩ := cons_of l88 h88; clear h88
    obtain ⟨u90, l90, rfl, h90⟩ := cons_of l89 h89; clear h89
    obtain ⟨u91, l91, rfl, h91⟩ := cons_of l90 h90; clear h90
    obtain ⟨u92, l92, rfl, h92⟩ := cons_of l91 h91; clear h91
    obtain ⟨u93, l93, rfl, h93⟩ := cons_of l92 h92; clear h92
    obtain ⟨u94, l94, rfl, h94⟩ := cons_of l93 h93; clear h93
    obtain ⟨u95, l95, rfl, h95⟩ := cons_of l94 h94; clear h94
    obtain ⟨u96, l96, rfl, h96⟩ := cons_of l95 h95; clear h95
    obtain ⟨u97, l97, rfl, h97⟩ := cons_of l96 h96; clear h96
    obtain ⟨u98, l98, rfl, h98⟩ := cons_of l97 h97; clear h97
    obtain ⟨u99, l99, rfl, h99⟩ := cons_of l98 h98; clear h98
    obtain ⟨u100, l100, rfl, h100⟩ := cons_of l99 h99; clear h99
    obtain ⟨u101, l101, rfl, h101⟩ := cons_of l100 h100; clear h100
    obtain ⟨u102, l102, rfl, h102⟩ := cons_of l101 h101; clear h101
    obtain ⟨u103, l103, rfl, h103⟩ := cons_of l102 h102; clear h102
    obtain ⟨u104, l104, rfl, h104⟩ := cons_of l103 h103; clear h103
    obtain ⟨u105, l105, rfl, h105⟩ := cons_of l104 h104; clear h104
    obtain ⟨u106, l106, rfl, h106⟩ := cons_of l105 h105; clear h105
    obtain ⟨u107, l107, rfl, h107⟩ := cons_of l106 h106; clear h106
    obtain ⟨u108, l108, rfl, h108⟩ := cons_of l107 h107; clear h107
    obtain ⟨u109, l109, rfl, h109⟩ := cons_of l108 h108; clear h108
    obtain ⟨u110, l110, rfl, h110⟩ := cons_of l109 h109; clear h109
    obtain ⟨u111, l111, rfl, h111⟩ := cons_of l110 h110; clear h110
    obtain ⟨u112, l112, rfl, h112⟩ := cons_of l111 h111; clear h111
    obtain ⟨u113, l113, rfl, h113⟩ := cons_of l112 h112; clear h112
    obtain ⟨u114, l114, rfl, h114⟩ := cons_of l113 h113; clear h113
    obtain ⟨u115, l115, rfl, h115⟩ := cons_of l114 h114; clear h114
    obtain rfl := List.eq_nil_of_length_eq_zero h115; clear h115
    have hro : r.ok := hr ▸ Sp.rounds_ok hs ws t
    have HR : Hid (r = Sp.rounds s ws t) := hr
    clear hr k0 w0
    have kt := HK.out t ht
    have wt := HW.out t ht
    by_cases hlast : t < 63
    · go_wp2
      go_quiet ((go_at_call 34; exact quiet_more (turned_e r.e _ hro.2.2.2.2.1)))
      go_wp2_with (go_at_call 34; refine (turned_a r.a _ hro.1).mono ?_; rintro e w' ⟨rfl, rfl⟩)
      go_step3
      rw [Sp.chI hro.2.2.2.2.1 hro.2.2.2.2.2.1 hro.2.2.2.2.2.2.1, Sp.majI hro.1 hro.2.1 hro.2.2.1, Sp.newA, Sp.newE, show ((t : Int) + 1) = ((t + 1 : Nat) : Int) from rfl]
      refine ⟨rfl, ⟨t + 1, _, Sp.round r (Sp.nth Sp.K t) (Sp.nth ws t), _, by omega, ?_, rfl, ?_, rfl⟩, ?_⟩
      · show _ = Sp.round (Sp.rounds s ws t) _ _
        rw [← HR.out]
      · rfl
      · show 64 - (intOf (Value.int .i64 ((t + 1 : Nat) : Int))).toNat < 64 - (intOf (Value.int .i64 (t : Int))).toNat
        simp only [intOf, Int.toNat_natCast]
        omega
    · obtain rfl : t = 63 := by omega
      go_wp2
      go_quiet ((go_at_call 34; exact quiet_more (turned_e r.e _ hro.2.2.2.2.1)))
      go_wp2_with (first | (go_at_call 34; refine (turned_a r.a _ hro.1).mono ?_; rintro e w' ⟨rfl, rfl⟩) | with_reducible (refine stop_store 54 ?_))
      refine Stop.go ?_
      rw [Sp.chI hro.2.2.2.2.1 hro.2.2.2.2.2.1 hro.2.2.2.2.2.2.1, Sp.majI hro.1 hro.2.1 hro.2.2.1]
      with_reducible refine law_store8 (w.heap.size + 1 + 1) 0 .u32 ?x0 ?x1 ?x2 ?x3 ?x4 ?x5 ?x6 ?x7 ?sx ?sy ?st info54 ?sk
      case sx => exact rfl
      case sy => exact rfl
      case st => exact there2 w s ws _
      go_wp2
      simp only [Exit.jump]
      rw [Sp.lasts]
      have em : Sp.mix s ws = s.plus (Sp.round r (Sp.nth Sp.K 63) (Sp.nth ws 63)) := by
        show s.plus (Sp.round (Sp.rounds s ws 63) _ _) = _
        rw [← HR.out]
      refine bodyPost_ret (v := .agg (arr .u32 (Sp.mix s ws).list)) (results_row rfl _ _ (w.heap.size + 1 + 1) 0 (ints .u32 (Sp.mix s ws).list) _ rfl ?_ Tryd.underlying54 rfl info54) rfl ⟨rfl, ?_⟩
      · rw [← em]
        exact World.rangeAt_setCells_same _ _ _ _ (there2 w s ws _)
      · exact Below.setCells _ _ _ (by simpa using below_drewN (mixW_below w s ws) _) (by omega)
end Go.Proofs.YtnbdadhdpplldabDoor
