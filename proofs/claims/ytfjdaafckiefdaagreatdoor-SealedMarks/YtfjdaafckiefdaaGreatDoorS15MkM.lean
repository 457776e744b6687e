/- The statement on what another member seals in a writer's name. -/
import Derived.Test.YtfjdaafckiefdaaGreatDoorS15Mk
import Derived.Test.YtfjdaafckiefdaaGreatDoorMgU
import Derived.Test.YtfjdaafckiefdaaGreatDoorS15Same
import Derived.Test.YtfjdaafckiefdaaGreatDoorMgAC
import Derived.Test.YtfjdaafckiefdaaGreatDoorMgJ
import Derived.Test.YtfjdaafckiefdaaGreatDoorB13RP
import Derived.Test.YtfjdaafckiefdaaGreatDoorMgV
namespace Go.Proofs.YtfjdaafckiefdaaGreatDoor.S15
open Go.RowKit C8 E9
open S7 (Fr Kx By Sw TU Shr)
def ByV2 (B : Nat) (l : List Nat) (v : Value) (w : World) : Prop := By B w v l
theorem ByV2.kx {B : Nat} {l : List Nat} {v : Value} {w w' : World} {ts : List (Option TypeId)} (h : ByV2 B l v w) (hk : Kx ts B w w') (h5 : some 5 ∉ ts) : ByV2 B l v w' := S7.By.kx h hk h5
def SrcM (l : List Nat) (v : Value) (w : World) : Prop := Src w v l
def NumW (wn : Nat) (v : Value) (_ : World) : Prop := ∃ q n c, v = .agg #[.int .i64 1, .int .i64 0, .int .i64 (wn : Int), .int .i64 1, .slice q n c]
def SealB (B n : Nat) (l : List Nat) (v : Value) (w : World) : Prop := ∃ q c, v = .tuple #[.slice q n c, .int .i64 0] ∧ By B w (.slice q n c) l
def SlB (B n : Nat) (l : List Nat) (v : Value) (w : World) : Prop := ∃ q c, v = .slice q n c ∧ By B w (.slice q n c) l
def ToldV (l : List Nat) (n : Nat) (v : Value) (w : World) : Prop := ∃ q c, v = .tuple #[.slice q n c, .int .i64 0] ∧ Src w (.slice q n c) l
def SlT (l : List Nat) (n : Nat) (v : Value) (w : World) : Prop := ∃ q c, v = .slice q n c ∧ Src w (.slice q n c) l
theorem kx_below0 {B : Nat} {u u' : World} (h : Kx (([] : List (Option TypeId)) ++ ([] : List (Option TypeId))) B u u') : Below u.heap.size u u' :=
  ⟨h.low.os, h.low.tape, h.low.output, h.low.size, fun k hk => by
    have e : u.heap[k]? = some u.heap[k] := Array.getElem?_eq_getElem hk
    rw [e]
    exact h.row k _ e (by simp)⟩
theorem SrcM.below {l : List Nat} {v : Value} {w w' : World} (h : SrcM l v w) (hb : Below w.heap.size w w') : SrcM l v w' := C8.Src.below h hb
theorem by_arg2 {B : Nat} {W w : World} {v : Value} {l : List Nat} (h : Src W v l) (hB : B = W.heap.size) (hb : Below B W w) : By B w v l := by
  subst hB
  obtain ⟨hs, h1 | h1 | ⟨b, o, c, rfl, hc, hr⟩⟩ := h
  · exact ⟨hs, .inl h1⟩
  · exact ⟨hs, .inr (.inl h1)⟩
  · by_cases h0 : l = []
    · subst h0
      exact ⟨hs, .inr (.inl ⟨_, _, rfl, rfl⟩)⟩
    · have hlt := range_lt hr (ints_ne h0)
      exact ⟨hs, .inr (.inr ⟨b, o, c, rfl, hc, range_kept hr (hb.block b hlt), .inl hlt⟩)⟩
theorem stc_run {o : Oper} {a' : Act} {w' : World} (t u : Tmp) (b i : Nat) (v old : Value) (ho : o.op = .store 22 (.tmp t) (.tmp u)) (h0 : a'.tmps.getD t undef = .pointer (some ⟨b, i, none⟩)) {q : Option Addr} {n c : Nat} (h1 : a'.tmps.getD u undef = .slice q n c) (hc : w'.cell? ⟨b, i, none⟩ = some old) (hf : w'.frozen? ⟨b, i, none⟩ = false) (hv : v = .slice q n c := by rfl) : (execOp a'.eval o).run Tryz.prog w' = .ok .skip (w'.setCell ⟨b, i, none⟩ v) := by
  subst hv
  have he : a'.eval (.tmp t) = .pointer (some ⟨b, i, none⟩) := h0
  have hg : a'.eval (.tmp u) = .slice q n c := h1
  unfold execOp
  simp only [ho]
  generalize a'.eval = r at *
  simp [he, hg, go_sem, hc, hf]
theorem only_st {w : World} {b : Nat} {x0 x1 x2 x3 x4 : Value} {t : TypeId} (h : w.heap[b]? = some (.cells #[x0, x1, x2, x3, x4] t (0, 0))) (i : Nat) (v : Value) (hi : i = 4 := by rfl) : S7.Only [b] w (w.setCell ⟨b, i, none⟩ v) ∧ (w.setCell ⟨b, i, none⟩ v).heap[b]? = some (.cells #[x0, x1, x2, x3, v] t (0, 0)) := by
  subst hi
  exact ⟨S7.Only.setCell _ _ _ (by simp), heap_setCell_same _ b 4 _ t v h⟩
theorem eqM_run {o : Oper} {a' : Act} {w' : World} (s t : Tmp) (x y : ByteArray) (ho : o.op = .binOp .eql 9 (.tmp s) (.tmp t) 9) (h0 : a'.tmps.getD s undef = .string x) (h1 : a'.tmps.getD t undef = .string y) : (execOp a'.eval o).run Tryz.prog w' = .ok (.value (.bool (x.toList == y.toList))) w' := by
  have he : a'.eval (.tmp s) = .string x := h0
  have hc : a'.eval (.tmp t) = .string y := h1
  unfold execOp
  simp only [ho]
  rw [he, hc]
  simp [go_sem]
/-- What stands: the entry's box. -/
structure M1 (W : World) (e3 : Nat) (x : Obj) (w : World) : Prop where
  bel : Below e3 W w
  low : e3 ≤ w.heap.size
  ra : w.heap[e3]? = some x
theorem M1.only {W w w' : World} {e3 : Nat} {x : Obj} {bs : List Nat} (h : M1 W e3 x w) (ho : S7.Only bs w w') (hb : Below e3 w w') (h4 : e3 ∉ bs) : M1 W e3 x w' := ⟨h.bel.trans hb, Nat.le_trans h.low ho.size, row_old ho h4 h.ra⟩
theorem M1.below {W w w' : World} {e3 : Nat} {x : Obj} (h : M1 W e3 x w) (hb : Below w.heap.size w w') : M1 W e3 x w' := h.only (bs := []) (S7.Only.of_below hb _) (hb.mono h.low) (by simp)
structure Mq (W : World) (e3 e9 p q m x : Nat) (o3 o9 : Obj) (L : List S7.Su.Thing) (kv : Value) (w : World) : Prop where
  m1 : M1 W e3 o3 w
  r9 : w.heap[e9]? = some o9
  sw : Sw e3 w p q m x L
  kb : By e3 w kv aK
theorem Mq.below {W w w' : World} {e3 e9 p q m x : Nat} {o3 o9 : Obj} {L : List S7.Su.Thing} {kv : Value} (h : Mq W e3 e9 p q m x o3 o9 L kv w) (hb : Below w.heap.size w w') : Mq W e3 e9 p q m x o3 o9 L kv w' :=
  ⟨h.m1.below hb, (hb.block e9 (Array.getElem?_eq_some_iff.1 h.r9).1).trans h.r9, h.sw.below hb, h.kb.below hb⟩
theorem Mq.fr {W w w' : World} {e3 e9 p q m x : Nat} {o3 o9 : Obj} {L L' : List S7.Su.Thing} {kv : Value} (h : Mq W e3 e9 p q m x o3 o9 L kv w) (hf : Fr [p, m, x] TU e3 w w') (h3 : e3 ∉ [p, m, x]) (h9 : e9 ∉ [p, m, x]) (hs : Sw e3 w' p q m x L') : Mq W e3 e9 p q m x o3 o9 L' kv w' :=
  ⟨h.m1.only hf.only hf.kx.low h3, row_old hf.only h9 h.r9, hs, h.kb.kx hf.kx (by decide)⟩
theorem padL_small {l : List Nat} (h : ∀ x ∈ l, x < 256) (hl : l.length ≤ 2046) : ∀ x ∈ padL l, x < 256 := fun x hx => by
  unfold padL at hx
  simp only [List.mem_cons, List.mem_append] at hx
  rcases hx with rfl | rfl | h1 | h1
  · omega
  · omega
  · exact h x h1
  · rw [List.eq_of_mem_replicate h1]; omega
theorem two_of (a b : List Nat) : (Cd.be 2 a.length ++ a) ++ (Cd.be 2 b.length ++ b) = twoL a b := by
  unfold twoL
  simp [Cd.enc, one_txt]
theorem row_b {w w' : World} {b : Nat} {o : Obj} (h : w.heap[b]? = some o) (hb : Below w.heap.size w w') : w'.heap[b]? = some o := (hb.block b (Array.getElem?_eq_some_iff.1 h).1).trans h
def mk12 (wn : Nat) (pt : List Nat) (e3 e9 p bl pn : Nat) (kq pq : Option Addr) (kc pc : Nat) : Nat → Value → World → Prop
  | 0 => IsV (.pointer (some ⟨p, 0, none⟩))
  | 1 => IsV (.slice kq 32 kc)
  | 2 => IsV (.pointer (some ⟨e9, 2, none⟩))
  | 3 => IsV (.int .i64 (wn : Int))
  | 4 => ByV2 e3 (S7.non wn 1)
  | 5 => NumW wn
  | 6 => ByV2 e3 (rfront (mR wn))
  | 7 => IsV (.slice pq pn pc)
  | 8 => ByV2 e3 (pt)
  | 9 => SealB e3 bl (mB1 pt)
  | 10 => SealB e3 bl (mB1 pt)
  | 11 => SlB e3 bl (mB1 pt)
  | 12 => IsV (.int .i64 0)
  | 13 => IsV (.pointer (some ⟨e9, 4, none⟩))
  | 14 => IsV undef
  | _ => fun _ _ => True
theorem mk12_kept (wn : Nat) (pt : List Nat) (e3 e9 p bl pn : Nat) (kq pq : Option Addr) (kc pc : Nat) : ∀ i v w w', mk12 wn pt e3 e9 p bl pn kq pq kc pc i v w → Kx (([] : List (Option TypeId)) ++ (some 24 :: TU)) e3 w w' → mk12 wn pt e3 e9 p bl pn kq pq kc pc i v w'
  | 0, _, _, _, h, _ => h
  | 1, _, _, _, h, _ => h
  | 2, _, _, _, h, _ => h
  | 3, _, _, _, h, _ => h
  | 4, _, _, _, h, ho => h.kx ho (by decide)
  | 5, _, _, _, h, _ => h
  | 6, _, _, _, h, ho => h.kx ho (by decide)
  | 7, _, _, _, h, _ => h
  | 8, _, _, _, h, ho => h.kx ho (by decide)
  | 9, _, _, _, h, ho => (by obtain ⟨z1, z2, h1, h2⟩ := h; exact ⟨z1, z2, h1, h2.kx ho (by decide)⟩)
  | 10, _, _, _, h, ho => (by obtain ⟨z1, z2, h1, h2⟩ := h; exact ⟨z1, z2, h1, h2.kx ho (by decide)⟩)
  | 11, _, _, _, h, ho => (by obtain ⟨z1, z2, h1, h2⟩ := h; exact ⟨z1, z2, h1, h2.kx ho (by decide)⟩)
  | 12, _, _, _, h, _ => h
  | 13, _, _, _, h, _ => h
  | 14, _, _, _, h, _ => h
  | _ + 15, _, _, _, _, _ => trivial
def mk18 (wn : Nat) (e9 e12 p : Nat) (kq oq : Option Addr) (kc ol oc : Nat) (tl : List Nat) (tn : Nat) : Nat → Value → World → Prop
  | 0 => IsV (.pointer (some ⟨p, 0, none⟩))
  | 1 => IsV (.slice kq 32 kc)
  | 2 => IsV (.pointer (some ⟨e9, 2, none⟩))
  | 3 => IsV (.int .i64 (wn : Int))
  | 4 => SrcM (S7.non wn 1)
  | 5 => IsV (.agg #[.int .i64 1, .int .i64 0, .int .i64 (wn : Int), .int .i64 1, .slice oq ol oc])
  | 6 => SrcM (rfront (mR wn))
  | 7 => IsV (.pointer (some ⟨e12, 4, none⟩))
  | 8 => IsV (.slice oq ol oc)
  | 9 => ToldV tl tn
  | 10 => ToldV tl tn
  | 11 => SlT tl tn
  | 12 => IsV (.int .i64 0)
  | 13 => SlT tl tn
  | 14 => IsV (.int .i64 0)
  | _ => fun _ _ => True
theorem mk18_kept (wn : Nat) (e9 e12 p : Nat) (kq oq : Option Addr) (kc ol oc : Nat) (tl : List Nat) (tn : Nat) {e3 : Nat} : ∀ i v w w', mk18 wn e9 e12 p kq oq kc ol oc tl tn i v w → Kx (([] : List (Option TypeId)) ++ ([] : List (Option TypeId))) e3 w w' → mk18 wn e9 e12 p kq oq kc ol oc tl tn i v w'
  | 0, _, _, _, h, _ => h
  | 1, _, _, _, h, _ => h
  | 2, _, _, _, h, _ => h
  | 3, _, _, _, h, _ => h
  | 4, _, _, _, h, ho => h.below (kx_below0 ho)
  | 5, _, _, _, h, _ => h
  | 6, _, _, _, h, ho => h.below (kx_below0 ho)
  | 7, _, _, _, h, _ => h
  | 8, _, _, _, h, _ => h
  | 9, _, _, _, h, ho => (by obtain ⟨z1, z2, h1, h2⟩ := h; exact ⟨z1, z2, h1, h2.below (kx_below0 ho)⟩)
  | 10, _, _, _, h, ho => (by obtain ⟨z1, z2, h1, h2⟩ := h; exact ⟨z1, z2, h1, h2.below (kx_below0 ho)⟩)
  | 11, _, _, _, h, ho => (by obtain ⟨z1, z2, h1, h2⟩ := h; exact ⟨z1, z2, h1, h2.below (kx_below0 ho)⟩)
  | 12, _, _, _, h, _ => h
  | 13, _, _, _, h, ho => (by obtain ⟨z1, z2, h1, h2⟩ := h; exact ⟨z1, z2, h1, h2.below (kx_below0 ho)⟩)
  | 14, _, _, _, h, _ => h
  | _ + 15, _, _, _, _, _ => trivial
def mk19 (pt : List Nat) (pn : Nat) (pq tq : Option Addr) (pc tc : Nat) (tl : List Nat) (tn : Nat) (tb : Bool) : Nat → Value → World → Prop
  | 0 => IsV (.slice tq tn tc)
  | 1 => IsV (.string (strB tl))
  | 2 => IsV (.slice pq pn pc)
  | 3 => SrcM (pt)
  | 4 => IsV (.string (strB pt))
  | 5 => IsV (.bool tb)
  | _ => fun _ _ => True
theorem mk19_kept (pt : List Nat) (pn : Nat) (pq tq : Option Addr) (pc tc : Nat) (tl : List Nat) (tn : Nat) (tb : Bool) {e3 : Nat} : ∀ i v w w', mk19 pt pn pq tq pc tc tl tn tb i v w → Kx (([] : List (Option TypeId)) ++ ([] : List (Option TypeId))) e3 w w' → mk19 pt pn pq tq pc tc tl tn tb i v w'
  | 0, _, _, _, h, _ => h
  | 1, _, _, _, h, _ => h
  | 2, _, _, _, h, _ => h
  | 3, _, _, _, h, ho => h.below (kx_below0 ho)
  | 4, _, _, _, h, _ => h
  | 5, _, _, _, h, _ => h
  | _ + 6, _, _, _, _, _ => trivial
set_option maxHeartbeats 16000000 in
set_option maxRecDepth 20000 in
theorem marks_main (e : En) (a1 a2 a3 a6 a7 a8 : Int) (np vp wp : Option Addr) (nl nc vl vc wl wc : Nat) (q1 q2 : Option Addr) (n c n2 c2 : Nat) (k mk : List Nat) (W : World) (ha : EnIs W (.agg #[.int .i64 a1, .int .i64 a2, .int .i64 a3, .slice np nl nc, .slice vp vl vc, .int .i64 a6, .int .i64 a7, .int .i64 a8, .slice wp wl wc]) e) (hw : e.writer = a2) (hw1 : right e = true → 1 ≤ a2 ∧ a2 ≤ 16) (hk : Src W (.slice q1 n c) k) (hm : Src W (.slice q2 n2 c2) mk) (hml : mk.length = n2) :
    Calls Tryz.prog 7 #[.agg #[.int .i64 a1, .int .i64 a2, .int .i64 a3, .slice np nl nc, .slice vp vl vc, .int .i64 a6, .int .i64 a7, .int .i64 a8, .slice wp wl wc], .slice q1 n c, .slice q2 n2 c2] W fun y w' => y = .returned (.bool true) ∧ Below W.heap.size W w' := by
  have HA := hid ha
  have HK := hid hk
  have HM := hid hm
  have HML := hid hml
  have HW := hid hw
  have HW1 := hid hw1
  clear ha hk hm hml hw hw1
  go_enter Tryz.func7, Tryz.ntmps7
  go_wp2_with fail
  have hb0 := S7.below_alloc' W (.cells #[.int .i64 a1, .int .i64 a2, .int .i64 a3, .slice np nl nc, .slice vp vl vc, .int .i64 a6, .int .i64 a7, .int .i64 a8, .slice wp wl wc] 49)
  have hw0 := heap_alloc_new W (.cells #[.int .i64 a1, .int .i64 a2, .int .i64 a3, .slice np nl nc, .slice vp vl vc, .int .i64 a6, .int .i64 a7, .int .i64 a8, .slice wp wl wc] 49)
  refine (anchor_any _).mono ?_
  rintro y w1 ⟨rfl, h1⟩
  have H1 : Hid (M1 W W.heap.size (.cells #[.int .i64 a1, .int .i64 a2, .int .i64 a3, .slice np nl nc, .slice vp vl vc, .int .i64 a6, .int .i64 a7, .int .i64 a8, .slice wp wl wc] 49 (0, 0)) w1) := ⟨hb0.trans (h1.mono hb0.size), Nat.le_trans hb0.size h1.size, row_b hw0 h1⟩
  clear hb0 hw0 h1
  obtain ⟨e3, HE3⟩ : ∃ e3, Hid (e3 = W.heap.size) := ⟨_, rfl⟩
  rw [← HE3.out] at H1 ⊢
  have HW0 : Hid (∀ w, Below e3 W w → Below W.heap.size W w) := fun w h => by rw [← HE3.out]; exact h
  have HFI : Hid (∀ w, Below e3 W w → Below W.heap.size W w) := HW0
  obtain ⟨se, HSS⟩ : ∃ sa, Hid (small e = sa) := ⟨_, rfl⟩
  obtain ⟨re, HRR⟩ : ∃ sa, Hid (right e = sa) := ⟨_, rfl⟩
  have HSA : Hid (∀ w, Below e3 W w → Calls Tryz.prog 20 #[.agg #[.int .i64 a1, .int .i64 a2, .int .i64 a3, .slice np nl nc, .slice vp vl vc, .int .i64 a6, .int .i64 a7, .int .i64 a8, .slice wp wl wc]] w fun y w' => y = .returned (.bool se) ∧ Below w.heap.size w w') := fun w h => by rw [← HSS.out]; exact small_any e _ w (HA.out.below (HW0.out w h))
  have HRA : Hid (∀ w, Below e3 W w → Calls Tryz.prog 37 #[.agg #[.int .i64 a1, .int .i64 a2, .int .i64 a3, .slice np nl nc, .slice vp vl vc, .int .i64 a6, .int .i64 a7, .int .i64 a8, .slice wp wl wc]] w fun y w' => y = .returned (.bool re) ∧ Below w.heap.size w w') := fun w h => by rw [← HRR.out]; exact Right_any e _ w (HA.out.below (HW0.out w h))
  obtain ⟨c0, c1, d2, c3, c4, c5, c6, c7, c8⟩ := e9_cells H1.out.ra
  cases se with
  | false =>
    go_wp2_with fail
    refine (HSA.out _ H1.out.bel).mono ?_
    rintro y w2 ⟨rfl, h2⟩
    have G2 : Hid (Below e3 W w2) := (H1.out.below h2).bel
    clear h2 c0 c1 d2 c3 c4 c5 c6 c7 c8
    go_wp2_with fail
    go_ret
    exact ⟨rfl, HW0.out _ G2.out⟩
  | true =>
    go_wp2_with fail
    refine (HSA.out _ H1.out.bel).mono ?_
    rintro y w2 ⟨rfl, h2⟩
    have H2 := hid (H1.out.below h2)
    clear h2 c0 c1 d2 c3 c4 c5 c6 c7 c8 H1 HSA
    obtain ⟨c0, c1, d2, c3, c4, c5, c6, c7, c8⟩ := e9_cells H2.out.ra
    cases re with
    | false =>
      go_wp2_with fail
      refine (HRA.out _ H2.out.bel).mono ?_
      rintro y w3 ⟨rfl, h2⟩
      have G2 : Hid (Below e3 W w3) := (H2.out.below h2).bel
      clear h2 c0 c1 d2 c3 c4 c5 c6 c7 c8
      go_wp2_with fail
      go_ret
      exact ⟨rfl, HW0.out _ G2.out⟩
    | true =>
      go_wp2_with fail
      refine (HRA.out _ H2.out.bel).mono ?_
      rintro y w3 ⟨rfl, h2⟩
      have H3 := hid (H2.out.below h2)
      clear h2 c0 c1 d2 c3 c4 c5 c6 c7 c8 H2 HRA
      by_cases hn : 100 < (n : Int)
      · go_wp2_with fail
        go_ret
        exact ⟨rfl, HW0.out _ H3.out.bel⟩
      by_cases hn2 : 100 < (n2 : Int)
      · go_wp2_with fail
        go_ret
        exact ⟨rfl, HW0.out _ H3.out.bel⟩
      obtain ⟨w1', w2'⟩ := HW1.out HRR.out
      obtain ⟨wn, rfl⟩ : ∃ wn : Nat, a2 = (wn : Int) := ⟨a2.toNat, (Int.toNat_of_nonneg (by omega)).symm⟩
      have HWN : Hid (1 ≤ wn ∧ wn ≤ 16) := ⟨by omega, by omega⟩
      clear w1' w2' HW1
      go_wp2_with fail
      refine (S7.Signs_sw (B := w3.heap.size) (Nat.le_refl _)).mono ?_
      rintro y w4 ⟨p, q, m, x, rfl, s1, s2⟩
      have H4 := hid (H3.out.below s2)
      have HLT : Hid (e3 < w3.heap.size ∧ p < w4.heap.size ∧ m < w4.heap.size ∧ x < w4.heap.size) := ⟨(Array.getElem?_eq_some_iff.1 H3.out.ra).1, s1.su.lt.1, s1.su.lt.2.2.1, s1.su.lt.2.2.2⟩
      have HPM : Hid (∀ b, b < w3.heap.size ∨ w4.heap.size ≤ b → b ∉ [p, m, x]) := fun b hb => by
        have h1 := s1.lo
        have h2 := HLT.out
        simp
        omega
      have HSW4 : Hid (Sw e3 w4 p q m x []) := ⟨s1.su, by have h1 := s1.lo; have h2 := HLT.out; omega⟩
      have HB4 : Hid (e3 ≤ w4.heap.size) := H4.out.low
      have HN2 : Hid (n2 ≤ 100) := by show _ ≤ _; omega
      clear s1 s2 H3 hn hn2
      go_wp2_with fail
      refine (S7.Key_s HSW4.out (by decide) HB4.out).mono ?_
      rintro y w5 ⟨kv, rfl, h1, h2, h3⟩
      obtain ⟨kq, kc, rfl⟩ := S7.own_slice h1
      have H5 := hid (H4.out.only h3.only h3.kx.low (HPM.out _ (.inl HLT.out.1)))
      have HSW5 : Hid (Sw e3 w5 p q m x aL0) := h2
      have HKB : Hid (By e3 w5 (.slice kq 32 kc) aK) := By.own (S7.Su.sign_lt (by decide) _) h1
      have HZ5 : Hid (w4.heap.size ≤ w5.heap.size) := h3.size
      clear h1 h2 h3 H4 HSW4
      obtain ⟨c0, c1, d2, c3, c4, c5, c6, c7, c8⟩ := e9_cells H5.out.ra
      have HMK := hid (made3_any W e3 e (.agg #[.int .i64 a1, .int .i64 (wn : Int), .int .i64 a3, .slice np nl nc, .slice vp vl vc, .int .i64 a6, .int .i64 a7, .int .i64 a8, .slice wp wl wc]) (w5.alloc (.cells #[.int .i64 1, .int .i64 0, .int .i64 (wn : Int), .int .i64 1, .slice none 0 0] 24)) (by have := (S7.below_alloc' w5 (.cells #[.int .i64 1, .int .i64 0, .int .i64 (wn : Int), .int .i64 1, .slice none 0 0] 24)).size; exact Nat.le_trans H5.out.low this) (HW0.out _ (H5.out.below (S7.below_alloc' w5 (.cells #[.int .i64 1, .int .i64 0, .int .i64 (wn : Int), .int .i64 1, .slice none 0 0] 24))).bel) HA.out (by have := (small_of HSS.out).2.2.2; omega))
      have hx9 := e9_cells (H5.out.below (S7.below_alloc' w5 (.cells #[.int .i64 1, .int .i64 0, .int .i64 (wn : Int), .int .i64 1, .slice none 0 0] 24))).ra
      obtain ⟨f0, f1, f2, f3, f4, f5, f6, f7, f8⟩ := hx9
      go_wp2_with fail
      refine HMK.out.mono ?_
      rintro y w6 ⟨v, rfl, h1, h2⟩
      have hb6 := S7.below_alloc' w5 (.cells #[.int .i64 1, .int .i64 0, .int .i64 (wn : Int), .int .i64 1, .slice none 0 0] 24)
      have Q6 : Hid (Mq W e3 w5.heap.size p q m x (.cells #[.int .i64 a1, .int .i64 (wn : Int), .int .i64 a3, .slice np nl nc, .slice vp vl vc, .int .i64 a6, .int .i64 a7, .int .i64 a8, .slice wp wl wc] 49 (0, 0)) (.cells #[.int .i64 1, .int .i64 0, .int .i64 (wn : Int), .int .i64 1, .slice none 0 0] 24 (0, 0)) aL0 (.slice kq 32 kc) w6) := ⟨(H5.out.below hb6).below h2, row_b (heap_alloc_new w5 (.cells #[.int .i64 1, .int .i64 0, .int .i64 (wn : Int), .int .i64 1, .slice none 0 0] 24)) h2, (HSW5.out.below hb6).below h2, (HKB.out.below hb6).below h2⟩
      have HN9 : Hid (w5.heap.size ∉ [p, m, x]) := HPM.out _ (.inr HZ5.out)
      have HN3 : Hid (e3 ∉ [p, m, x]) := HPM.out _ (.inl HLT.out.1)
      have HE9 : Hid (e3 ≤ w5.heap.size) := H5.out.low
      have HE39 : Hid (e3 < w5.heap.size) := (Array.getElem?_eq_some_iff.1 H5.out.ra).1
      clear hb6 h2 c0 c1 d2 c3 c4 c5 c6 c7 c8 f0 f1 f2 f3 f4 f5 f6 f7 f8 HSW5 HKB HMK H5
      generalize w5.heap.size = e9 at *
      obtain ⟨mp4, mc4, mp5, mc5, mq9, mk9, mxs, rfl, hm1⟩ := h1
      have HEO : Hid (EnOf W e3 w6 (.agg (EnV e mp4 mc4 mp5 mc5 mq9 mk9)) e) := ⟨mp4, mc4, mp5, mc5, mq9, mk9, mxs, rfl, hm1⟩
      clear hm1
      unfold EnV at *
      have hb7 := S7.below_alloc' w6 (.cells #[.int .i64 e.kind, .int .i64 e.writer, .int .i64 e.seq, .slice mp4 e.name.length mc4, .slice mp5 e.value.length mc5, .int .i64 e.who, .int .i64 e.rights, .int .i64 e.epoch, .slice mq9 e.wraps.length mk9] 59)
      have HYA := hid (rBytes_any e _ _ ((HEO.out.below hb7).is (HW0.out _ (Q6.out.below hb7).m1.bel)) HRR.out)
      have Q7 := hid (Q6.out.below hb7)
      obtain ⟨f0, f1, f2, f3, f4, f5, f6, f7, f8⟩ := e9_cells (heap_alloc_new w6 (.cells #[.int .i64 e.kind, .int .i64 e.writer, .int .i64 e.seq, .slice mp4 e.name.length mc4, .slice mp5 e.value.length mc5, .int .i64 e.who, .int .i64 e.rights, .int .i64 e.epoch, .slice mq9 e.wraps.length mk9] 59))
      clear hb7 Q6 HEO
      go_wp2_with fail
      refine HYA.out.mono ?_
      rintro y w7 ⟨v, rfl, h1, h2⟩
      have Q8 := hid (Q7.out.below h2)
      have HBL : Hid ((E9.bytes e).length ≤ 1000 ∧ 18 ≤ (E9.bytes e).length) := bytes_length HRR.out
      have HBS : Hid (Src w7 v (E9.bytes e)) := h1
      obtain ⟨vq, vk, rfl, -⟩ := h1.slice
      have HT1 : Hid (Calls Tryz.prog 38 #[.slice vq (E9.bytes e).length vk] w7 fun y w' => ∃ q c, y = .returned (.slice q (2 + (E9.bytes e).length) c) ∧ w'.ownsRow w7.heap.size 5 1 (.slice q (2 + (E9.bytes e).length) c) (2 + (E9.bytes e).length) (ints .u8 (Cd.be 2 (E9.bytes e).length ++ E9.bytes e)) ∧ Below w7.heap.size w7 w') := by
        refine (RefText_any _ (E9.bytes e) w7 HBS.out (by have := HBL.out; omega)).mono ?_
        rintro y w' ⟨u, rfl, k1, k2⟩
        obtain ⟨q, c, rfl⟩ := own_slice k1
        exact ⟨q, c, rfl, k1, k2⟩
      clear h1 h2 Q7 HYA f0 f1 f2 f3 f4 f5 f6 f7 f8 HBS
      obtain ⟨nb, HNB⟩ : ∃ nb, Hid ((E9.bytes e).length = nb) := ⟨_, rfl⟩
      rw [HNB.out] at HT1 ⊢
      go_wp2_with fail
      refine HT1.out.mono ?_
      rintro y w7b ⟨tq1, tc1, rfl, h1, h2⟩
      have Q8b := hid (Q8.out.below h2)
      have HO1 : Hid (w7b.ownsRow w7.heap.size 5 1 (.slice tq1 (2 + nb) tc1) (2 + nb) (ints .u8 (Cd.be 2 nb ++ E9.bytes e)) ∧ w7.heap.size ≤ w7b.heap.size ∧ e3 ≤ w7.heap.size) := ⟨h1, h2.size, Q8.out.m1.low⟩
      have HB7 : Hid (Below w7.heap.size w7 w7b) := h2
      clear h1 h2 HT1
      have HT2 : Hid (Calls Tryz.prog 38 #[.slice q2 n2 c2] w7b fun y w' => ∃ v, y = .returned v ∧ Src w' v (Cd.be 2 n2 ++ mk) ∧ Below w7b.heap.size w7b w') := by
        have h := RefText_any _ mk w7b (HM.out.below (HW0.out _ Q8b.out.m1.bel)) (by have := HML.out; have := HN2.out; omega)
        rw [HML.out] at h
        refine h.mono ?_
        rintro y w' ⟨u, rfl, k1, k2⟩
        refine ⟨u, rfl, Src.own (fun x hx => ?_) k1, k2⟩
        rcases List.mem_append.1 hx with h | h
        · exact Cd.be_lt 2 _ x h
        · exact HM.out.small x h
      go_wp2_with fail
      refine HT2.out.mono ?_
      rintro y w7c ⟨v, rfl, h1, h2⟩
      have HB7c : Hid (Below w7.heap.size w7 w7c) := HB7.out.trans (h2.mono HB7.out.size)
      have HO2 : Hid (w7c.ownsRow w7.heap.size 5 1 (.slice tq1 (2 + nb) tc1) (2 + nb) (ints .u8 (Cd.be 2 nb ++ E9.bytes e)) ∧ w7.heap.size ≤ w7c.heap.size ∧ e3 ≤ w7.heap.size ∧ Src w7c v (Cd.be 2 n2 ++ mk)) := ⟨own_only HO1.out.1 (Only.of_below h2 []) (fun _ _ e => by simp at e), Nat.le_trans HO1.out.2.1 h2.size, HO1.out.2.2, h1⟩
      obtain ⟨vq3, vk3, hv3, -⟩ := h1.slice
      subst hv3
      have HL3 : Hid ((Cd.be 2 n2 ++ mk).length = 2 + n2) := by show _ = _; rw [List.length_append, Cd.be_length, HML.out]
      clear h1 h2 HT2 Q8b HO1 HB7
      rw [HL3.out] at HO2 ⊢
      go_wp2_with (first | with_reducible (refine stop_builtin .append ?_))
      refine Stop.go ?_
      refine law_append_src w7.heap.size (.slice tq1 (2 + nb) tc1) (2 + nb) (Cd.be 2 nb ++ E9.bytes e) _ (Cd.be 2 n2 ++ mk) rfl rfl HO2.out.1 HO2.out.2.2.2 (by rw [HL3.out]; have := HBL.out; have := HNB.out; have := HN2.out; omega) HO2.out.2.1 ?_
      intro v4 w8 h1 h2
      have hbw : Below w7.heap.size w7c w8 := below_append HO2.out.1 h2 HO2.out.2.1
      have HPL : Hid ((twoL (E9.bytes e) mk).length = 2 + nb + (2 + n2)) := by show _ = _; rw [twoL_length, HNB.out, HML.out]; omega
      rw [HL3.out] at h1
      have e1 : (Cd.be 2 nb ++ E9.bytes e) ++ (Cd.be 2 n2 ++ mk) = twoL (E9.bytes e) mk := by rw [← HNB.out, ← HML.out]; exact two_of _ _
      rw [e1] at h1
      obtain ⟨pq, pc, rfl⟩ := own_slice h1
      have HSM2 : Hid (∀ x ∈ twoL (E9.bytes e) mk, x < 256) := twoL_small (by
        obtain ⟨_, _, _, _, _, _, _, hat⟩ := HA.out
        exact bytes_small HA.out.small) HM.out.small
      have Q9 : Hid (Mq W e3 e9 p q m x (.cells #[.int .i64 a1, .int .i64 (wn : Int), .int .i64 a3, .slice np nl nc, .slice vp vl vc, .int .i64 a6, .int .i64 a7, .int .i64 a8, .slice wp wl wc] 49 (0, 0)) (.cells #[.int .i64 1, .int .i64 0, .int .i64 (wn : Int), .int .i64 1, .slice none 0 0] 24 (0, 0)) aL0 (.slice kq 32 kc) w8 ∧ By e3 w8 (.slice pq (2 + nb + (2 + n2)) pc) (twoL (E9.bytes e) mk)) := ⟨Q8.out.below (HB7c.out.trans hbw), By.own HSM2.out h1⟩
      clear h1 h2 hbw e1 Q8 HB7c HO2 HL3
      obtain ⟨pn, HPN⟩ : ∃ pn, Hid (2 + nb + (2 + n2) = pn) := ⟨_, rfl⟩
      rw [HPN.out] at Q9 HPL ⊢
      have HSZ : Hid (∀ w, Calls Tryz.prog 35 #[.int .i64 (pn : Int)] w fun y w' => y = .returned (.int .i64 ((bsz pn : Nat) : Int)) ∧ Below w.heap.size w w') := fun w => by
        have := RSize_any (pn : Int) w (by have := HPN.out; have := HBL.out; have := HNB.out; have := HN2.out; omega)
        rw [rsz_nat] at this
        exact this
      go_wp2_with fail
      refine (HSZ.out _).mono ?_
      rintro y w9 ⟨rfl, h1⟩
      have Q10 : Hid (Mq W e3 e9 p q m x (.cells #[.int .i64 a1, .int .i64 (wn : Int), .int .i64 a3, .slice np nl nc, .slice vp vl vc, .int .i64 a6, .int .i64 a7, .int .i64 a8, .slice wp wl wc] 49 (0, 0)) (.cells #[.int .i64 1, .int .i64 0, .int .i64 (wn : Int), .int .i64 1, .slice none 0 0] 24 (0, 0)) aL0 (.slice kq 32 kc) w9 ∧ By e3 w9 (.slice pq pn pc) (twoL (E9.bytes e) mk)) := ⟨Q9.out.1.below h1, Q9.out.2.below h1⟩
      clear h1 Q9 HSZ
      by_cases hz : bsz pn = 0
      · have hz0 : ((bsz pn : Nat) : Int) = 0 := by omega
        rw [hz0]
        go_wp2_with fail
        go_ret
        exact ⟨rfl, HW0.out _ Q10.out.1.m1.bel⟩
      have HPS : Hid (pn ≤ 2046) := Nat.le_of_not_lt (fun h => hz (bsz_none h))
      have hz1 : (((bsz pn : Nat) : Int) == 0) = false := by rw [beq_eq_false_iff_ne]; omega
      have hz2 : ¬ ((bsz pn : Nat) : Int) = 0 := by omega
      go_upto_region 12 with fail
      clear hz hz1 hz2
      generalize ((bsz pn : Nat) : Int) = zz at *
      obtain ⟨pt, HPT⟩ : ∃ pt, Hid (padL (twoL (E9.bytes e) mk) = pt) := ⟨_, rfl⟩
      have HPTL : Hid (pt.length ≤ 2048) := by show _ ≤ _; rw [← HPT.out, padL_length (by rw [HPL.out]; exact HPS.out)]; exact (bsz_le (by rw [HPL.out]; exact HPS.out)).2.1
      have HPTS : Hid (∀ x ∈ pt, x < 256) := by rw [← HPT.out]; exact padL_small HSM2.out (by rw [HPL.out]; have := HPS.out; omega)
      have HNO : Hid (∀ w, Calls Tryz.prog 29 #[.int .i64 (wn : Int), .int .i64 1] w fun y w' => ∃ v, y = .returned v ∧ w'.ownsRow w.heap.size 5 1 v 12 (ints .u8 (S7.non wn 1)) ∧ Below w.heap.size w w') := fun w => S7.rNonce2_any w wn 1 (by have := HWN.out; omega) (by decide)
      have HFR : Hid (∀ w q n c, Calls Tryz.prog 31 #[.agg #[.int .i64 1, .int .i64 0, .int .i64 (wn : Int), .int .i64 1, .slice q n c]] w fun y w' => ∃ v, y = .returned v ∧ w'.ownsRow w.heap.size 5 1 v 24 (ints .u8 (rfront (mR wn))) ∧ Below w.heap.size w w') := fun w q n c => by
        have h := rFront_any 1 0 wn 1 q n c w (by decide) (by decide) (by have := HWN.out; omega) (by decide)
        rw [rfront_m wn []] at h
        exact h
      have HRP : Hid (∀ w, Src w (.slice pq pn pc) (twoL (E9.bytes e) mk) → Calls Tryz.prog 39 #[.slice pq pn pc] w fun y w' => ∃ v, y = .returned v ∧ w'.ownsRow w.heap.size 5 1 v (bsz pn) (ints .u8 pt) ∧ Below w.heap.size w w') := fun w h => by
        rw [← HPT.out]
        exact RPad_any _ pn pc w h HPL.out HPS.out
      have HPA : Hid (∀ w, Kx (([] : List (Option TypeId)) ++ (some 24 :: TU)) e3 w9 w → Calls Tryz.prog 39 #[.slice pq pn pc] w fun y w' => ∃ v, y = .returned v ∧ By e3 w' v pt ∧ Below w.heap.size w w') := fun w h => (HRP.out w (Q10.out.2.kx h (by decide)).src).mono (by
        rintro y w' ⟨v, rfl, k1, k2⟩
        exact ⟨v, rfl, By.own HPTS.out k1, k2⟩)
      obtain ⟨bl, HBN⟩ : ∃ bl, Hid ((mB1 pt).length = bl) := ⟨_, rfl⟩
      have HSE : Hid (∀ w nv fv pv, Sw e3 w p q m x aL0 → Kx (([] : List (Option TypeId)) ++ (some 24 :: TU)) e3 w9 w → ByV2 e3 (S7.non wn 1) nv w → ByV2 e3 (rfront (mR wn)) fv w → ByV2 e3 pt pv w → Calls Tryz.prog 30 #[.pointer (some ⟨p, 0, none⟩), .slice kq 32 kc, nv, fv, pv] w fun y w' => ∃ v bq bc, v = .tuple #[.slice bq bl bc, .int .i64 0] ∧ y = .returned v ∧ By e3 w' (.slice bq bl bc) (mB1 pt) ∧ Sw e3 w' p q m x (mL1 wn pt) ∧ Fr [p, m, x] TU e3 w w') := fun w nv fv pv g1 g2 g3 g4 g5 => by
        have hB : e3 ≤ w.heap.size := Nat.le_trans Q10.out.1.m1.low g2.low.size
        have hin : ∀ w2, S7.Only [p, x] w w2 → Kx TU e3 w w2 := fun w2 ho => (g1.fr ho S7.sub_px hB).kx
        have hkey : By e3 w (.slice kq 32 kc) aK := Q10.out.1.kb.kx g2 (by decide)
        have k32 : aK.length = 32 := S7.Su.sign_length _ _
        refine (S7.Seal_ok aK (S7.non wn 1) (rfront (mR wn)) pt (.slice kq 32 kc) nv fv pv p q m x aL0 w g1.su (fun w2 ho => (hkey.kx (hin w2 ho) (by decide)).src) (fun w2 ho => (S7.By.kx g3 (hin w2 ho) (by decide)).src) (fun w2 ho => (S7.By.kx g4 (hin w2 ho) (by decide)).src) (fun w2 ho => (S7.By.kx g5 (hin w2 ho) (by decide)).src) k32 (S7.non_length _ _) (by have := HPTL.out; omega) (by decide)).mono ?_
        rintro y w' ⟨v, rfl, k1, k2, k3⟩
        obtain ⟨bq, bc, rfl⟩ := S7.own_slice k1
        have e2 : pt.length + 16 = bl := by rw [← HBN.out]; unfold mB1; rw [S7.Su.box_length]
        rw [e2] at k1 ⊢
        exact ⟨_, bq, bc, rfl, rfl, By.own (S7.Su.box_lt _ _) k1, ⟨k2, g1.lo⟩, g1.fr k3 S7.sub_px hB⟩
      have HSW := hid Q10.out.1.sw
      have HR9 := hid Q10.out.1.r9
      have HLO9 := hid Q10.out.1.m1.low
      have K : Amk [9, 14] (fun j W => match j with | 0 => Sw e3 W p q m x aL0 ∧ W.heap[e9]? = some (.cells #[.int .i64 1, .int .i64 0, .int .i64 (wn : Int), .int .i64 1, .slice none 0 0] 24 (0, 0)) | 1 => Sw e3 W p q m x (mL1 wn pt) ∧ W.heap[e9]? = some (.cells #[.int .i64 1, .int .i64 0, .int .i64 (wn : Int), .int .i64 1, .slice none 0 0] 24 (0, 0)) | _ => Sw e3 W p q m x (mL1 wn pt) ∧ ∃ bq bc, W.heap[e9]? = some (.cells #[.int .i64 1, .int .i64 0, .int .i64 (wn : Int), .int .i64 1, .slice bq bl bc] 24 (0, 0)) ∧ By e3 W (.slice bq bl bc) (mB1 pt)) e3 (some 24 :: TU) ([] : List (Option TypeId)) [] w9 := ⟨HLO9.out, all0, all0, all0, all0, (fun j u u' h hk => by match j, h with | 0, h => exact ⟨h.1.kx hk (by decide) (by decide) (by decide), hk.row _ _ h.2 (by simp)⟩ | 1, h => exact ⟨h.1.kx hk (by decide) (by decide) (by decide), hk.row _ _ h.2 (by simp)⟩ | _ + 2, h => obtain ⟨h1, q, c, h2, h3⟩ := h; exact ⟨h1.kx hk (by decide) (by decide) (by decide), q, c, hk.row _ _ h2 (by simp), h3.kx hk (by simp)⟩)⟩
      have hd0 := S7.below_drewN 1 w9 w9.heap.size
      refine wp_region_sa (mk12 wn pt e3 e9 p bl pn kq pq kc pc) (fun u u' => Kx (([] : List (Option TypeId)) ++ (some 24 :: TU)) e3 u u') (Am ([p, m, x] ++ [e9]) [9, 14] (fun j W => match j with | 0 => Sw e3 W p q m x aL0 ∧ W.heap[e9]? = some (.cells #[.int .i64 1, .int .i64 0, .int .i64 (wn : Int), .int .i64 1, .slice none 0 0] 24 (0, 0)) | 1 => Sw e3 W p q m x (mL1 wn pt) ∧ W.heap[e9]? = some (.cells #[.int .i64 1, .int .i64 0, .int .i64 (wn : Int), .int .i64 1, .slice none 0 0] 24 (0, 0)) | _ => Sw e3 W p q m x (mL1 wn pt) ∧ ∃ bq bc, W.heap[e9]? = some (.cells #[.int .i64 1, .int .i64 0, .int .i64 (wn : Int), .int .i64 1, .slice bq bl bc] 24 (0, 0)) ∧ By e3 W (.slice bq bl bc) (mB1 pt)) w9 []) (by kernel_rfl) (Kx.of_below hd0 K.low) (fun _ _ _ h k => h.trans k) (mk12_kept wn pt e3 e9 p bl pn kq pq kc pc) (by kernel_rfl) (Am.start (S7.Only.of_below hd0 _) (⟨HSW.out.below hd0, (hd0.block _ (Array.getElem?_eq_some_iff.1 HR9.out).1).trans HR9.out⟩)) ?_ ?_
      · intro i o a' w' f hi inv hS hfi hfw hpre
        have hlt : i < 15 := (Array.getElem?_eq_some_iff.1 hi).1
        obtain rfl|rfl|rfl|rfl|rfl|rfl|rfl|rfl|rfl|rfl|rfl|rfl|rfl|rfl|rfl : i = 0 ∨ i = 1 ∨ i = 2 ∨ i = 3 ∨ i = 4 ∨ i = 5 ∨ i = 6 ∨ i = 7 ∨ i = 8 ∨ i = 9 ∨ i = 10 ∨ i = 11 ∨ i = 12 ∨ i = 13 ∨ i = 14 := by omega
        · obtain rfl := Option.some.inj hi
          have h0 : a'.tmps.getD 7 undef = (.pointer (some ⟨p, 0, none⟩)) := by rw [inv.old 7 (notDst_spec (by kernel_rfl))]; rfl
          exact am_value K _ rfl rfl (rfl) (by decide) all0 all0 hS h0
        · obtain rfl := Option.some.inj hi
          have h0 : a'.tmps.getD 8 undef = (.slice kq 32 kc) := by rw [inv.old 8 (notDst_spec (by kernel_rfl))]; rfl
          exact am_value K _ rfl rfl (rfl) (by decide) all0 all0 hS h0
        · obtain rfl := Option.some.inj hi
          have h0 : a'.tmps.getD 9 undef = (.pointer (some ⟨e9, 0, none⟩)) := by rw [inv.old 9 (notDst_spec (by kernel_rfl))]; rfl
          exact am_value K _ rfl rfl (fa_run 24 2 9 e9 rfl h0 (fun w => by simp [go_sem])) (by decide) all0 all0 hS rfl
        · obtain rfl := Option.some.inj hi
          have h0 : a'.tmps.getD 61 undef = (.pointer (some ⟨e9, 2, none⟩)) := pre_of hpre 2 61 (by kernel_rfl) (by kernel_rfl)
          have hrm := hS.seq
          obtain ⟨kk, _, _, hRk⟩ := hrm
          obtain ⟨yq, yn, yc, hrow⟩ : ∃ q n c, w'.heap[e9]? = some (.cells #[.int .i64 1, .int .i64 0, .int .i64 (wn : Int), .int .i64 1, .slice q n c] 24 (0, 0)) := by
            match kk, hRk with
            | 0, h => exact ⟨_, _, _, h.2⟩
            | 1, h => exact ⟨_, _, _, h.2⟩
            | _ + 2, h => obtain ⟨_, q, c, h2, _⟩ := h; exact ⟨q, _, c, h2⟩
          exact am_value K _ rfl rfl (load_run 3 61 e9 (2) _ rfl h0 (ld3 (rec_cells hrow).2.2.1)) (by decide) all0 all0 hS rfl
        · obtain rfl := Option.some.inj hi
          have h0 : a'.tmps.getD 62 undef = (.int .i64 (wn : Int)) := pre_of hpre 3 62 (by kernel_rfl) (by kernel_rfl)
          refine am_quiet K 29 #[a'.tmps.getD 62 undef, .int .i64 1] rfl rfl (by kernel_rfl) (by decide) all0 all0 hS ?_
          rw [h0]
          exact (HNO.out w').mono (by rintro y u ⟨v, rfl, k1, k2⟩; exact ⟨_, rfl, k2, By.own (S7.non_small _ _) k1⟩)
        · obtain rfl := Option.some.inj hi
          have h0 : a'.tmps.getD 9 undef = (.pointer (some ⟨e9, 0, none⟩)) := by rw [inv.old 9 (notDst_spec (by kernel_rfl))]; rfl
          have hrm := hS.seq
          obtain ⟨kk, _, _, hRk⟩ := hrm
          obtain ⟨yq, yn, yc, hrow⟩ : ∃ q n c, w'.heap[e9]? = some (.cells #[.int .i64 1, .int .i64 0, .int .i64 (wn : Int), .int .i64 1, .slice q n c] 24 (0, 0)) := by
            match kk, hRk with
            | 0, h => exact ⟨_, _, _, h.2⟩
            | 1, h => exact ⟨_, _, _, h.2⟩
            | _ + 2, h => obtain ⟨_, q, c, h2, _⟩ := h; exact ⟨q, _, c, h2⟩
          exact am_value K _ rfl rfl (load_run 24 9 e9 (0) _ rfl h0 (ld24r ⟨hrow, rfl⟩)) (by decide) all0 all0 hS ⟨_, _, _, rfl⟩
        · obtain rfl := Option.some.inj hi
          obtain ⟨nq0, nn0, nk0, e0⟩ := pre_of hpre 5 64 (by kernel_rfl) (by kernel_rfl)
          refine am_quiet K 31 #[a'.tmps.getD 64 undef] rfl rfl (by kernel_rfl) (by decide) all0 all0 hS ?_
          rw [e0]
          exact (HFR.out w' _ _ _).mono (by rintro y u ⟨v, rfl, k1, k2⟩; exact ⟨_, rfl, k2, By.own (rfront_small _) k1⟩)
        · obtain rfl := Option.some.inj hi
          have h0 : a'.tmps.getD 11 undef = (.slice pq pn pc) := by rw [inv.old 11 (notDst_spec (by kernel_rfl))]; rfl
          exact am_value K _ rfl rfl (rfl) (by decide) all0 all0 hS h0
        · obtain rfl := Option.some.inj hi
          have h0 : a'.tmps.getD 66 undef = (.slice pq pn pc) := pre_of hpre 7 66 (by kernel_rfl) (by kernel_rfl)
          refine am_quiet K 39 #[a'.tmps.getD 66 undef] rfl rfl (by kernel_rfl) (by decide) all0 all0 hS ?_
          rw [h0]
          exact (HPA.out w' inv.grow).mono (by rintro y u ⟨v, rfl, k1, k2⟩; exact ⟨_, rfl, k2, k1⟩)
        · obtain rfl := Option.some.inj hi
          have h0 : a'.tmps.getD 59 undef = (.pointer (some ⟨p, 0, none⟩)) := pre_of hpre 0 59 (by kernel_rfl) (by kernel_rfl)
          have h1 : a'.tmps.getD 60 undef = (.slice kq 32 kc) := pre_of hpre 1 60 (by kernel_rfl) (by kernel_rfl)
          have h2 := pre_of hpre 4 63 (by kernel_rfl) (by kernel_rfl)
          have h3 := pre_of hpre 6 65 (by kernel_rfl) (by kernel_rfl)
          have h4 := pre_of hpre 8 67 (by kernel_rfl) (by kernel_rfl)
          refine am_call K (k := 0) 30 #[a'.tmps.getD 59 undef, a'.tmps.getD 60 undef, a'.tmps.getD 63 undef, a'.tmps.getD 65 undef, a'.tmps.getD 67 undef] rfl rfl (by kernel_rfl) rfl (by decide) hfi (fun c h _ => absurd rfl h) all0 all0 hS (fun hR => ?_)
          rw [h0, h1]
          exact (HSE.out w' _ _ _ hR.1 inv.grow h2 h3 h4).mono (by rintro y u ⟨v, bq, bc, rfl, rfl, k1, k2, k3⟩; exact ⟨_, rfl, fr_more (bs := [p, m, x]) (ts := TU) k3 (fun y hy => List.mem_append_left [e9] hy) (fun t ht => List.mem_cons_of_mem _ ht), ⟨k2, row_old k3.only HN9.out hR.2⟩, ⟨bq, bc, rfl, k1⟩⟩)
        · obtain rfl := Option.some.inj hi
          have h0 := pre_of hpre 9 68 (by kernel_rfl) (by kernel_rfl)
          exact am_value K _ rfl rfl (rfl) (by decide) all0 all0 hS h0
        · obtain rfl := Option.some.inj hi
          obtain ⟨bq0, bc0, e0, f0⟩ := pre_of hpre 10 58 (by kernel_rfl) (by kernel_rfl)
          exact am_value K _ rfl rfl (ext_run 58 0 _ _ rfl e0 rfl) (by decide) all0 all0 hS ⟨_, _, rfl, f0⟩
        · obtain rfl := Option.some.inj hi
          obtain ⟨bq0, bc0, e0, f0⟩ := pre_of hpre 10 58 (by kernel_rfl) (by kernel_rfl)
          exact am_value K _ rfl rfl (ext_run 58 1 _ _ rfl e0 rfl) (by decide) all0 all0 hS rfl
        · obtain rfl := Option.some.inj hi
          have h0 : a'.tmps.getD 9 undef = (.pointer (some ⟨e9, 0, none⟩)) := by rw [inv.old 9 (notDst_spec (by kernel_rfl))]; rfl
          exact am_value K _ rfl rfl (fa_run 24 4 9 e9 rfl h0 (fun w => by simp [go_sem])) (by decide) all0 all0 hS rfl
        · obtain rfl := Option.some.inj hi
          have h0 : a'.tmps.getD 71 undef = (.pointer (some ⟨e9, 4, none⟩)) := pre_of hpre 13 71 (by kernel_rfl) (by kernel_rfl)
          obtain ⟨bq0, bc0, e1', f0⟩ := pre_of hpre 11 69 (by kernel_rfl) (by kernel_rfl)
          refine am_last K (k := 1) rfl rfl rfl (by decide) hfi (fun c _ hc => by cases hc; exact been_of hfw 9 (by kernel_rfl)) hS (fun hR => ?_)
          have ho := only_st hR.2 4 (.slice bq0 bl bc0)
          refine ⟨_, stc_run 71 69 e9 4 (.slice bq0 bl bc0) _ rfl h0 e1' (cell4 hR.2) (frozen_of_row _ _ _ _ _ hR.2), ho.1.more (fun y hy => by rw [List.mem_singleton.1 hy]; exact List.mem_append_right _ List.mem_cons_self), ?_, ?_, rfl⟩
          · exact Kx.of_only ho.1 (Nat.le_trans K.low hS.old.size) (fun y hy => by rw [List.mem_singleton.1 hy]; exact ⟨HE9.out, fun o ho => by rw [hR.2] at ho; cases ho; exact List.mem_cons_self⟩)
          · have hkx : Kx [some 24] e3 w' _ := Kx.of_only ho.1 (Nat.le_trans K.low hS.old.size) (fun y hy => by rw [List.mem_singleton.1 hy]; exact ⟨HE9.out, fun o ho => by rw [hR.2] at ho; cases ho; exact List.mem_cons_self⟩)
            exact ⟨hR.1.kx hkx (by decide) (by decide) (by decide), bq0, bc0, ho.2, f0.kx hkx (by decide)⟩
      intro a' w10 f inv hS hall hd
      have hk12 := hd 12 70 (by kernel_rfl)
      have hR := hS.seq.done (fun c hc => hall c (by simp only [List.mem_cons, List.not_mem_nil, or_false] at hc; show c < 15; omega))
      have hold : S7.Only ([p, m, x] ++ [e9]) w9 w10 := hS.old
      have hgrow : Kx (([] : List (Option TypeId)) ++ (some 24 :: TU)) e3 w9 w10 := inv.grow
      have hdf : a'.defers = [] := inv.defers
      have e := frame_of [58, 59, 60, 61, 62, 63, 64, 65, 66, 67, 68, 69, 70, 71] inv.size (fun t ht => inv.old t (dstsIn_spec (ts := [58, 59, 60, 61, 62, 63, 64, 65, 66, 67, 68, 69, 70, 71]) (by kernel_rfl) t ht))
      clear inv hd hall hS K hd0
      obtain ⟨tmps, defers⟩ := a'
      obtain rfl : defers = [] := hdf
      replace e : tmps = List.foldl (fun G t => G.setIfInBounds t (tmps.getD t undef)) _ [58, 59, 60, 61, 62, 63, 64, 65, 66, 67, 68, 69, 70, 71] := e
      simp only [List.foldl_cons, List.foldl_nil] at e
      replace hk12 : tmps.getD 70 undef = (.int .i64 0) := hk12
      generalize tmps.getD 58 undef = x58 at *
      generalize tmps.getD 59 undef = x59 at *
      generalize tmps.getD 60 undef = x60 at *
      generalize tmps.getD 61 undef = x61 at *
      generalize tmps.getD 62 undef = x62 at *
      generalize tmps.getD 63 undef = x63 at *
      generalize tmps.getD 64 undef = x64 at *
      generalize tmps.getD 65 undef = x65 at *
      generalize tmps.getD 66 undef = x66 at *
      generalize tmps.getD 67 undef = x67 at *
      generalize tmps.getD 68 undef = x68 at *
      generalize tmps.getD 69 undef = x69 at *
      generalize tmps.getD 70 undef = x70 at *
      generalize tmps.getD 71 undef = x71 at *
      simp only [List.setIfInBounds_toArray, List.set_cons_succ, List.set_cons_zero] at e
      subst e
      subst hk12
      obtain ⟨hs1, bq, bc, hrow, hby⟩ := hR
      have HB9 : Hid (e3 ∉ [p, m, x] ++ [e9]) := by
        show _ ∉ _
        rw [List.mem_append]
        rintro (h | h)
        · exact HN3.out h
        · rw [List.mem_singleton] at h
          have := HE39.out
          omega
      have QA : Hid (Mq W e3 e9 p q m x (.cells #[.int .i64 a1, .int .i64 (wn : Int), .int .i64 a3, .slice np nl nc, .slice vp vl vc, .int .i64 a6, .int .i64 a7, .int .i64 a8, .slice wp wl wc] 49 (0, 0)) (.cells #[.int .i64 1, .int .i64 0, .int .i64 (wn : Int), .int .i64 1, .slice bq bl bc] 24 (0, 0)) (mL1 wn pt) (.slice kq 32 kc) w10) := ⟨Q10.out.1.m1.only hold hgrow.low HB9.out, hrow, hs1, Q10.out.1.kb.kx hgrow (by decide)⟩
      have HPB : Hid (By e3 w10 (.slice pq pn pc) (twoL (E9.bytes e) mk) ∧ By e3 w10 (.slice bq bl bc) (mB1 pt)) := ⟨Q10.out.2.kx hgrow (by decide), hby⟩
      clear hs1 hrow hby hold hgrow HSW HR9 HLO9 HSE HPA Q10 HB9
      have k32 : aK.length = 32 := S7.Su.sign_length _ _
      obtain ⟨ol, HOL⟩ : ∃ ol, Hid ((mOwn k wn pt e).box.length = ol) := ⟨_, rfl⟩
      have HAR : Hid (∀ w, Below w10.heap.size w10 w → By e3 w (.slice q1 n c) k ∧ EnIs w (.agg #[.int .i64 a1, .int .i64 (wn : Int), .int .i64 a3, .slice np nl nc, .slice vp vl vc, .int .i64 a6, .int .i64 a7, .int .i64 a8, .slice wp wl wc]) e) := fun w h => by
        have h1 := (QA.out.below h).m1.bel
        exact ⟨by_arg2 HK.out HE3.out h1, HA.out.below (HW0.out _ h1)⟩
      have HSL : Hid (Calls Tryz.prog 22 #[.pointer (some ⟨p, 0, none⟩), .slice q1 n c, .slice kq 32 kc, .agg #[.int .i64 1, .int .i64 0, .int .i64 (wn : Int), .int .i64 1, .slice bq bl bc], .agg #[.int .i64 a1, .int .i64 (wn : Int), .int .i64 a3, .slice np nl nc, .slice vp vl vc, .int .i64 a6, .int .i64 a7, .int .i64 a8, .slice wp wl wc]] w10 fun y w' => ∃ oq oc, y = .returned (.tuple #[.agg #[.int .i64 1, .int .i64 0, .int .i64 (wn : Int), .int .i64 1, .slice oq ol oc], .int .i64 0]) ∧ By e3 w' (.slice oq ol oc) (mOwn k wn pt e).box ∧ Mq W e3 e9 p q m x (.cells #[.int .i64 a1, .int .i64 (wn : Int), .int .i64 a3, .slice np nl nc, .slice vp vl vc, .int .i64 a6, .int .i64 a7, .int .i64 a8, .slice wp wl wc] 49 (0, 0)) (.cells #[.int .i64 1, .int .i64 0, .int .i64 (wn : Int), .int .i64 1, .slice bq bl bc] 24 (0, 0)) (mL2 k wn pt e) (.slice kq 32 kc) w' ∧ By e3 w' (.slice pq pn pc) (twoL (E9.bytes e) mk) ∧ By e3 w' (.slice bq bl bc) (mB1 pt) ∧ Fr [p, m, x] TU e3 w10 w') := by
        have hB := QA.out.m1.low
        have hs := Seal_s (L := mL1 wn pt) (k := k) (ke := aK) (mR1 wn pt) bq bc e (.agg #[.int .i64 a1, .int .i64 (wn : Int), .int .i64 a3, .slice np nl nc, .slice vp vl vc, .int .i64 a6, .int .i64 a7, .int .i64 a8, .slice wp wl wc]) QA.out.sw (by rw [mL1_length]; decide) hB (HAR.out _ (Below.refl _ _)).1 (by rw [k32]; exact QA.out.kb) (HAR.out _ (Below.refl _ _)).2
        have e1 : RecV (mR1 wn pt) bq bc = #[.int .i64 1, .int .i64 0, .int .i64 (wn : Int), .int .i64 1, .slice bq bl bc] := by unfold RecV mR1 mR Rec.with; rw [HBN.out]
        rw [k32, e1] at hs
        refine hs.mono ?_
        rintro y w' (⟨er, h1, _⟩ | ⟨_, oq, oc, h1, h2, h3, h4⟩)
        · rw [k32, m_err HWN.out.1 HWN.out.2 pt HRR.out HW.out] at h1
          cases h1
        · have e2 : RecV ((mR1 wn pt).with (boxL (mL1 wn pt) k (mR1 wn pt) e)) oq oc = #[.int .i64 1, .int .i64 0, .int .i64 (wn : Int), .int .i64 1, .slice oq (mOwn k wn pt e).box.length oc] := rfl
          have e3' : (boxL (mL1 wn pt) k (mR1 wn pt) e).length = ol := HOL.out
          rw [e2, HOL.out] at h1
          rw [e3'] at h2
          exact ⟨oq, oc, h1, h2, QA.out.fr h4 HN3.out HN9.out h3, HPB.out.1.kx h4.kx (by decide), HPB.out.2.kx h4.kx (by decide), h4⟩
      obtain ⟨c0, c1, d2, c3, c4, -⟩ := rec_cells QA.out.r9
      obtain ⟨f0, f1, f2, f3, f4, f5, f6, f7, f8⟩ := e9_cells QA.out.m1.ra
      go_wp2_with fail
      refine HSL.out.mono ?_
      rintro y w11 ⟨oq, oc, rfl, g1, g2, g3, g4, g5⟩
      clear HSL c0 c1 d2 c3 c4 f0 f1 f2 f3 f4 f5 f6 f7 f8
      go_upto_region 14 with fail
      have hb11 := S7.below_alloc' w11 (.cells #[.int .i64 1, .int .i64 0, .int .i64 (wn : Int), .int .i64 1, .slice oq ol oc] 24)
      have QB : Hid (Mq W e3 e9 p q m x (.cells #[.int .i64 a1, .int .i64 (wn : Int), .int .i64 a3, .slice np nl nc, .slice vp vl vc, .int .i64 a6, .int .i64 a7, .int .i64 a8, .slice wp wl wc] 49 (0, 0)) (.cells #[.int .i64 1, .int .i64 0, .int .i64 (wn : Int), .int .i64 1, .slice bq bl bc] 24 (0, 0)) (mL2 k wn pt e) (.slice kq 32 kc) (w11.alloc (.cells #[.int .i64 1, .int .i64 0, .int .i64 (wn : Int), .int .i64 1, .slice oq ol oc] 24)) ∧ By e3 (w11.alloc (.cells #[.int .i64 1, .int .i64 0, .int .i64 (wn : Int), .int .i64 1, .slice oq ol oc] 24)) (.slice oq ol oc) (mOwn k wn pt e).box ∧ By e3 (w11.alloc (.cells #[.int .i64 1, .int .i64 0, .int .i64 (wn : Int), .int .i64 1, .slice oq ol oc] 24)) (.slice pq pn pc) (twoL (E9.bytes e) mk) ∧ By e3 (w11.alloc (.cells #[.int .i64 1, .int .i64 0, .int .i64 (wn : Int), .int .i64 1, .slice oq ol oc] 24)) (.slice bq bl bc) (mB1 pt) ∧ (w11.alloc (.cells #[.int .i64 1, .int .i64 0, .int .i64 (wn : Int), .int .i64 1, .slice oq ol oc] 24)).heap[w11.heap.size]? = some (.cells #[.int .i64 1, .int .i64 0, .int .i64 (wn : Int), .int .i64 1, .slice oq ol oc] 24 (0, 0)) ∧ w4.heap.size ≤ w11.heap.size) := ⟨g2.below hb11, g1.below hb11, g3.below hb11, g4.below hb11, heap_alloc_new w11 _, by have h1 := HZ5.out; have h2 := QA.out.r9; have h3 := (Array.getElem?_eq_some_iff.1 h2).1; have h4 := g5.size; omega⟩
      clear g1 g2 g3 g4 g5 hb11 QA HPB
      generalize hW12 : w11.alloc (.cells #[.int .i64 1, .int .i64 0, .int .i64 (wn : Int), .int .i64 1, .slice oq ol oc] 24) = w12 at *
      clear hW12
      generalize w11.heap.size = e12 at *
      have HN12 : Hid (e12 ∉ [p, m, x]) := HPM.out _ (.inr QB.out.2.2.2.2.2)
      have HAR2 : Hid (∀ w, Below e3 W w → By e3 w (.slice q1 n c) k) := fun w h => by_arg2 HK.out HE3.out h
      clear HAR
      obtain ⟨gx, HGX⟩ : ∃ gx : Int, Hid ((if mk = mS k wn pt e then 0 else 22) = gx) := ⟨_, rfl⟩
      have HO1 : Hid (Calls Tryz.prog 25 #[.pointer (some ⟨p, 0, none⟩), .slice q1 n c, .slice kq 32 kc, .agg #[.int .i64 1, .int .i64 0, .int .i64 (wn : Int), .int .i64 1, .slice bq bl bc]] w12 fun y w' => Op9 y gx (fun _ c => mk ≠ mS k wn pt e → c = 0) ∧ Mq W e3 e9 p q m x (.cells #[.int .i64 a1, .int .i64 (wn : Int), .int .i64 a3, .slice np nl nc, .slice vp vl vc, .int .i64 a6, .int .i64 a7, .int .i64 a8, .slice wp wl wc] 49 (0, 0)) (.cells #[.int .i64 1, .int .i64 0, .int .i64 (wn : Int), .int .i64 1, .slice bq bl bc] 24 (0, 0)) (mL2 k wn pt e) (.slice kq 32 kc) w' ∧ By e3 w' (.slice oq ol oc) (mOwn k wn pt e).box ∧ By e3 w' (.slice pq pn pc) (twoL (E9.bytes e) mk) ∧ w'.heap[e12]? = some (.cells #[.int .i64 1, .int .i64 0, .int .i64 (wn : Int), .int .i64 1, .slice oq ol oc] 24 (0, 0))) := by
        have h := marks_open1 (wn := wn) (mk := mk) (k := k) (sv := .slice q1 n c) (e := e) HWN.out.1 HWN.out.2 HRR.out HW.out (by rw [HPL.out]; exact HPS.out) bq bc (by rw [HPT.out]; exact QB.out.1.sw) QB.out.1.m1.low (HAR2.out _ QB.out.1.m1.bel) QB.out.1.kb (by rw [HPT.out, HBN.out]; exact QB.out.2.2.2.1)
        rw [HPT.out] at h
        have e1 : RecV (mR1 wn pt) bq bc = #[.int .i64 1, .int .i64 0, .int .i64 (wn : Int), .int .i64 1, .slice bq bl bc] := by unfold RecV mR1 mR Rec.with; rw [HBN.out]
        rw [e1, HGX.out] at h
        refine h.mono ?_
        rintro y w' ⟨h1, h2, h3⟩
        exact ⟨h3, QB.out.1.fr h2 HN3.out HN9.out h1, QB.out.2.1.kx h2.kx (by decide), QB.out.2.2.1.kx h2.kx (by decide), row_old h2.only HN12.out QB.out.2.2.2.2.1⟩
      obtain ⟨c0, c1, d2, c3, c4, -⟩ := rec_cells QB.out.1.r9
      go_wp2_with fail
      refine HO1.out.mono ?_
      rintro y w13 ⟨⟨g1, g2, g3, g6, g7, g8, gn4, gk4, gn5, gk5, gn9, gk9, gq4, gq5, gq9, rfl, hg⟩, g10, g11, g12, g13⟩
      have HG1 := hid hg
      clear HO1 c0 c1 d2 c3 c4 hg QB
      go_upto_region 15 with fail
      have hb13 := S7.below_alloc' w13 (.cells #[.int .i64 g1, .int .i64 g2, .int .i64 g3, .slice gq4 gn4 gk4, .slice gq5 gn5 gk5, .int .i64 g6, .int .i64 g7, .int .i64 g8, .slice gq9 gn9 gk9] 49)
      have QC : Hid (Mq W e3 e9 p q m x (.cells #[.int .i64 a1, .int .i64 (wn : Int), .int .i64 a3, .slice np nl nc, .slice vp vl vc, .int .i64 a6, .int .i64 a7, .int .i64 a8, .slice wp wl wc] 49 (0, 0)) (.cells #[.int .i64 1, .int .i64 0, .int .i64 (wn : Int), .int .i64 1, .slice bq bl bc] 24 (0, 0)) (mL2 k wn pt e) (.slice kq 32 kc) (w13.alloc (.cells #[.int .i64 g1, .int .i64 g2, .int .i64 g3, .slice gq4 gn4 gk4, .slice gq5 gn5 gk5, .int .i64 g6, .int .i64 g7, .int .i64 g8, .slice gq9 gn9 gk9] 49)) ∧ By e3 (w13.alloc (.cells #[.int .i64 g1, .int .i64 g2, .int .i64 g3, .slice gq4 gn4 gk4, .slice gq5 gn5 gk5, .int .i64 g6, .int .i64 g7, .int .i64 g8, .slice gq9 gn9 gk9] 49)) (.slice oq ol oc) (mOwn k wn pt e).box ∧ By e3 (w13.alloc (.cells #[.int .i64 g1, .int .i64 g2, .int .i64 g3, .slice gq4 gn4 gk4, .slice gq5 gn5 gk5, .int .i64 g6, .int .i64 g7, .int .i64 g8, .slice gq9 gn9 gk9] 49)) (.slice pq pn pc) (twoL (E9.bytes e) mk) ∧ (w13.alloc (.cells #[.int .i64 g1, .int .i64 g2, .int .i64 g3, .slice gq4 gn4 gk4, .slice gq5 gn5 gk5, .int .i64 g6, .int .i64 g7, .int .i64 g8, .slice gq9 gn9 gk9] 49)).heap[e12]? = some (.cells #[.int .i64 1, .int .i64 0, .int .i64 (wn : Int), .int .i64 1, .slice oq ol oc] 24 (0, 0)) ∧ (w13.alloc (.cells #[.int .i64 g1, .int .i64 g2, .int .i64 g3, .slice gq4 gn4 gk4, .slice gq5 gn5 gk5, .int .i64 g6, .int .i64 g7, .int .i64 g8, .slice gq9 gn9 gk9] 49)).heap[w13.heap.size]? = some (.cells #[.int .i64 g1, .int .i64 g2, .int .i64 g3, .slice gq4 gn4 gk4, .slice gq5 gn5 gk5, .int .i64 g6, .int .i64 g7, .int .i64 g8, .slice gq9 gn9 gk9] 49 (0, 0)) ∧ w4.heap.size ≤ w13.heap.size) := ⟨g10.below hb13, g11.below hb13, g12.below hb13, row_b g13 hb13, heap_alloc_new w13 _, by have h1 := HZ5.out; have h3 := (Array.getElem?_eq_some_iff.1 g10.r9).1; omega⟩
      clear g10 g11 g12 g13 hb13
      generalize hW14 : w13.alloc (.cells #[.int .i64 g1, .int .i64 g2, .int .i64 g3, .slice gq4 gn4 gk4, .slice gq5 gn5 gk5, .int .i64 g6, .int .i64 g7, .int .i64 g8, .slice gq9 gn9 gk9] 49) = w14 at *
      clear hW14
      generalize w13.heap.size = e14 at *
      have HN14 : Hid (e14 ∉ [p, m, x]) := HPM.out _ (.inr QC.out.2.2.2.2.2)
      have HO2 : Hid (Calls Tryz.prog 25 #[.pointer (some ⟨p, 0, none⟩), .slice q1 n c, .slice kq 32 kc, .agg #[.int .i64 1, .int .i64 0, .int .i64 (wn : Int), .int .i64 1, .slice oq ol oc]] w14 fun y w' => Op9 y 0 (fun v _ => EnIs w' v e) ∧ Mq W e3 e9 p q m x (.cells #[.int .i64 a1, .int .i64 (wn : Int), .int .i64 a3, .slice np nl nc, .slice vp vl vc, .int .i64 a6, .int .i64 a7, .int .i64 a8, .slice wp wl wc] 49 (0, 0)) (.cells #[.int .i64 1, .int .i64 0, .int .i64 (wn : Int), .int .i64 1, .slice bq bl bc] 24 (0, 0)) (mL2 k wn pt e) (.slice kq 32 kc) w' ∧ By e3 w' (.slice oq ol oc) (mOwn k wn pt e).box ∧ By e3 w' (.slice pq pn pc) (twoL (E9.bytes e) mk) ∧ w'.heap[e12]? = some (.cells #[.int .i64 1, .int .i64 0, .int .i64 (wn : Int), .int .i64 1, .slice oq ol oc] 24 (0, 0)) ∧ w'.heap[e14]? = some (.cells #[.int .i64 g1, .int .i64 g2, .int .i64 g3, .slice gq4 gn4 gk4, .slice gq5 gn5 gk5, .int .i64 g6, .int .i64 g7, .int .i64 g8, .slice gq9 gn9 gk9] 49 (0, 0))) := by
        have h := marks_open2 (wn := wn) (t := pt) (k := k) (sv := .slice q1 n c) (e := e) HWN.out.1 HWN.out.2 HRR.out HW.out (by have := HPTL.out; omega) oq oc QC.out.1.sw QC.out.1.m1.low (HAR2.out _ QC.out.1.m1.bel) QC.out.1.kb (by rw [HOL.out]; exact QC.out.2.1)
        have e1 : RecV (mOwn k wn pt e) oq oc = #[.int .i64 1, .int .i64 0, .int .i64 (wn : Int), .int .i64 1, .slice oq (mOwn k wn pt e).box.length oc] := rfl
        rw [e1, HOL.out] at h
        refine h.mono ?_
        rintro y w' ⟨h1, h2, h3⟩
        exact ⟨h3, QC.out.1.fr h2 HN3.out HN9.out h1, QC.out.2.1.kx h2.kx (by decide), QC.out.2.2.1.kx h2.kx (by decide), row_old h2.only HN12.out QC.out.2.2.2.1, row_old h2.only HN14.out QC.out.2.2.2.2.1⟩
      obtain ⟨c0, c1, d2, c3, c4, -⟩ := rec_cells QC.out.2.2.2.1
      go_wp2_with fail
      refine HO2.out.mono ?_
      rintro y w14b ⟨⟨u1, u2, u3, u6, u7, u8, un4, uk4, un5, uk5, un9, uk9, uq4, uq5, uq9, rfl, hu⟩, g10, g11, g12, g13, g14⟩
      clear HO2 c0 c1 d2 c3 c4 QC
      go_upto_region 18 with fail
      have hb15 := S7.below_alloc' w14b (.cells #[.int .i64 u1, .int .i64 u2, .int .i64 u3, .slice uq4 un4 uk4, .slice uq5 un5 uk5, .int .i64 u6, .int .i64 u7, .int .i64 u8, .slice uq9 un9 uk9] 49)
      have QD : Hid (Mq W e3 e9 p q m x (.cells #[.int .i64 a1, .int .i64 (wn : Int), .int .i64 a3, .slice np nl nc, .slice vp vl vc, .int .i64 a6, .int .i64 a7, .int .i64 a8, .slice wp wl wc] 49 (0, 0)) (.cells #[.int .i64 1, .int .i64 0, .int .i64 (wn : Int), .int .i64 1, .slice bq bl bc] 24 (0, 0)) (mL2 k wn pt e) (.slice kq 32 kc) (w14b.alloc (.cells #[.int .i64 u1, .int .i64 u2, .int .i64 u3, .slice uq4 un4 uk4, .slice uq5 un5 uk5, .int .i64 u6, .int .i64 u7, .int .i64 u8, .slice uq9 un9 uk9] 49)) ∧ By e3 (w14b.alloc (.cells #[.int .i64 u1, .int .i64 u2, .int .i64 u3, .slice uq4 un4 uk4, .slice uq5 un5 uk5, .int .i64 u6, .int .i64 u7, .int .i64 u8, .slice uq9 un9 uk9] 49)) (.slice oq ol oc) (mOwn k wn pt e).box ∧ By e3 (w14b.alloc (.cells #[.int .i64 u1, .int .i64 u2, .int .i64 u3, .slice uq4 un4 uk4, .slice uq5 un5 uk5, .int .i64 u6, .int .i64 u7, .int .i64 u8, .slice uq9 un9 uk9] 49)) (.slice pq pn pc) (twoL (E9.bytes e) mk) ∧ (w14b.alloc (.cells #[.int .i64 u1, .int .i64 u2, .int .i64 u3, .slice uq4 un4 uk4, .slice uq5 un5 uk5, .int .i64 u6, .int .i64 u7, .int .i64 u8, .slice uq9 un9 uk9] 49)).heap[e12]? = some (.cells #[.int .i64 1, .int .i64 0, .int .i64 (wn : Int), .int .i64 1, .slice oq ol oc] 24 (0, 0)) ∧ (w14b.alloc (.cells #[.int .i64 u1, .int .i64 u2, .int .i64 u3, .slice uq4 un4 uk4, .slice uq5 un5 uk5, .int .i64 u6, .int .i64 u7, .int .i64 u8, .slice uq9 un9 uk9] 49)).heap[e14]? = some (.cells #[.int .i64 g1, .int .i64 g2, .int .i64 g3, .slice gq4 gn4 gk4, .slice gq5 gn5 gk5, .int .i64 g6, .int .i64 g7, .int .i64 g8, .slice gq9 gn9 gk9] 49 (0, 0)) ∧ (w14b.alloc (.cells #[.int .i64 u1, .int .i64 u2, .int .i64 u3, .slice uq4 un4 uk4, .slice uq5 un5 uk5, .int .i64 u6, .int .i64 u7, .int .i64 u8, .slice uq9 un9 uk9] 49)).heap[w14b.heap.size]? = some (.cells #[.int .i64 u1, .int .i64 u2, .int .i64 u3, .slice uq4 un4 uk4, .slice uq5 un5 uk5, .int .i64 u6, .int .i64 u7, .int .i64 u8, .slice uq9 un9 uk9] 49 (0, 0)) ∧ EnIs (w14b.alloc (.cells #[.int .i64 u1, .int .i64 u2, .int .i64 u3, .slice uq4 un4 uk4, .slice uq5 un5 uk5, .int .i64 u6, .int .i64 u7, .int .i64 u8, .slice uq9 un9 uk9] 49)) (.agg #[.int .i64 u1, .int .i64 u2, .int .i64 u3, .slice uq4 un4 uk4, .slice uq5 un5 uk5, .int .i64 u6, .int .i64 u7, .int .i64 u8, .slice uq9 un9 uk9]) e) := ⟨g10.below hb15, g11.below hb15, g12.below hb15, row_b g13 hb15, row_b g14 hb15, heap_alloc_new w14b _, hu.below hb15⟩
      clear g10 g11 g12 g13 g14 hb15 hu
      generalize hW15 : w14b.alloc (.cells #[.int .i64 u1, .int .i64 u2, .int .i64 u3, .slice uq4 un4 uk4, .slice uq5 un5 uk5, .int .i64 u6, .int .i64 u7, .int .i64 u8, .slice uq9 un9 uk9] 49) = w15 at *
      clear hW15
      generalize w14b.heap.size = e16 at *
      have H9R := hid QD.out.1.r9
      have H12R := hid QD.out.2.2.2.1
      have HLO15 := hid QD.out.1.m1.low
      obtain ⟨tl, HTL⟩ : ∃ tl, Hid (plainL (mL1 wn pt) k (mR1 wn pt) e = tl) := ⟨_, rfl⟩
      obtain ⟨tn, HTN⟩ : ∃ tn, Hid (tl.length = tn) := ⟨_, rfl⟩
      have HOT : Hid (∀ w nv fv, Below w15.heap.size w15 w → SrcM (S7.non wn 1) nv w → SrcM (rfront (mR wn)) fv w → Calls Tryz.prog 40 #[.pointer (some ⟨p, 0, none⟩), .slice kq 32 kc, nv, fv, .slice oq ol oc] w fun y w' => ∃ tq tc, y = .returned (.tuple #[.slice tq tn tc, .int .i64 0]) ∧ Src w' (.slice tq tn tc) tl ∧ Below w.heap.size w w') := fun w nv fv g1 g2 g3 => by
        have QW := QD.out.1.below g1
        have hl2 := mL2_length k wn pt e
        have hob : Src w (.slice oq ol oc) (mOwn k wn pt e).box := (QD.out.2.1.below g1).src
        have hbl : (mOwn k wn pt e).box.length ≤ 60000 := by
          have h1 := ((rright_iff _).1 (seal_right (mL1 wn pt) k (mR1 wn pt) HRR.out (mR_num HWN.out.1 HWN.out.2 _)).1).2.2
          exact Nat.le_trans h1 (by decide)
        refine (S7.Open_any aK (S7.non wn 1) (rfront (mR wn)) (mOwn k wn pt e).box (.slice kq 32 kc) nv fv (.slice oq ol oc) p q m x (mL2 k wn pt e) w QW.sw.su QW.kb.src g2 g3 hob k32 (S7.non_length _ _) hbl (by omega) (endL_shr (mL1_shr (by have := HPTL.out; omega)) k aK _ HRR.out)).mono ?_
        rintro y w' ⟨h1, h2⟩
        have ho := m_opens2 k wn pt e
        have ho' : S7.Su.opens aK (S7.non wn 1) (rfront (mR wn)) (mOwn k wn pt e).box 0 (mL2 k wn pt e) = some tl := by rw [← HTL.out]; exact ho
        rw [ho'] at h1
        obtain ⟨v, j1, j2, _⟩ := h1
        obtain ⟨tq, tc, rfl, -⟩ := j2.slice
        rw [HTN.out] at j1 j2
        exact ⟨tq, tc, j1, j2, h2⟩
      have K : Amk [] (fun _ _ => True) e3 ([] : List (Option TypeId)) ([] : List (Option TypeId)) [] w15 := ⟨HLO15.out, all0, all0, all0, all0, fun _ _ _ _ _ => trivial⟩
      have hd0 := S7.below_drewN 1 w15 w15.heap.size
      refine wp_region_sa (mk18 wn e9 e12 p kq oq kc ol oc tl tn) (fun u u' => Kx (([] : List (Option TypeId)) ++ ([] : List (Option TypeId))) e3 u u') (Am [] [] (fun _ _ => True) w15 []) (by kernel_rfl) (Kx.of_below hd0 K.low) (fun _ _ _ h k => h.trans k) (mk18_kept wn e9 e12 p kq oq kc ol oc tl tn) (by kernel_rfl) (Am.start (S7.Only.of_below hd0 _) (trivial)) ?_ ?_
      · intro i o a' w' f hi inv hS hfi hfw hpre
        have hlt : i < 15 := (Array.getElem?_eq_some_iff.1 hi).1
        obtain rfl|rfl|rfl|rfl|rfl|rfl|rfl|rfl|rfl|rfl|rfl|rfl|rfl|rfl|rfl : i = 0 ∨ i = 1 ∨ i = 2 ∨ i = 3 ∨ i = 4 ∨ i = 5 ∨ i = 6 ∨ i = 7 ∨ i = 8 ∨ i = 9 ∨ i = 10 ∨ i = 11 ∨ i = 12 ∨ i = 13 ∨ i = 14 := by omega
        · obtain rfl := Option.some.inj hi
          have h0 : a'.tmps.getD 7 undef = (.pointer (some ⟨p, 0, none⟩)) := by rw [inv.old 7 (notDst_spec (by kernel_rfl))]; rfl
          exact am_value K _ rfl rfl (rfl) (by decide) all0 all0 hS h0
        · obtain rfl := Option.some.inj hi
          have h0 : a'.tmps.getD 8 undef = (.slice kq 32 kc) := by rw [inv.old 8 (notDst_spec (by kernel_rfl))]; rfl
          exact am_value K _ rfl rfl (rfl) (by decide) all0 all0 hS h0
        · obtain rfl := Option.some.inj hi
          have h0 : a'.tmps.getD 9 undef = (.pointer (some ⟨e9, 0, none⟩)) := by rw [inv.old 9 (notDst_spec (by kernel_rfl))]; rfl
          exact am_value K _ rfl rfl (fa_run 24 2 9 e9 rfl h0 (fun w => by simp [go_sem])) (by decide) all0 all0 hS rfl
        · obtain rfl := Option.some.inj hi
          have h0 : a'.tmps.getD 104 undef = (.pointer (some ⟨e9, 2, none⟩)) := pre_of hpre 2 104 (by kernel_rfl) (by kernel_rfl)
          exact am_value K _ rfl rfl (load_run 3 104 e9 (2) _ rfl h0 (ld3 (rec_cells (row_old hS.old (by simp) H9R.out)).2.2.1)) (by decide) all0 all0 hS rfl
        · obtain rfl := Option.some.inj hi
          have h0 : a'.tmps.getD 105 undef = (.int .i64 (wn : Int)) := pre_of hpre 3 105 (by kernel_rfl) (by kernel_rfl)
          refine am_quiet K 29 #[a'.tmps.getD 105 undef, .int .i64 1] rfl rfl (by kernel_rfl) (by decide) all0 all0 hS ?_
          rw [h0]
          exact (HNO.out w').mono (by rintro y u ⟨v, rfl, k1, k2⟩; exact ⟨_, rfl, k2, Src.own (S7.non_small _ _) k1⟩)
        · obtain rfl := Option.some.inj hi
          have h0 : a'.tmps.getD 12 undef = (.pointer (some ⟨e12, 0, none⟩)) := by rw [inv.old 12 (notDst_spec (by kernel_rfl))]; rfl
          exact am_value K _ rfl rfl (load_run 24 12 e12 (0) _ rfl h0 (ld24r ⟨row_old hS.old (by simp) H12R.out, rfl⟩)) (by decide) all0 all0 hS rfl
        · obtain rfl := Option.some.inj hi
          have h0 : a'.tmps.getD 107 undef = (.agg #[.int .i64 1, .int .i64 0, .int .i64 (wn : Int), .int .i64 1, .slice oq ol oc]) := pre_of hpre 5 107 (by kernel_rfl) (by kernel_rfl)
          refine am_quiet K 31 #[a'.tmps.getD 107 undef] rfl rfl (by kernel_rfl) (by decide) all0 all0 hS ?_
          rw [h0]
          exact (HFR.out w' _ _ _).mono (by rintro y u ⟨v, rfl, k1, k2⟩; exact ⟨_, rfl, k2, Src.own (rfront_small _) k1⟩)
        · obtain rfl := Option.some.inj hi
          have h0 : a'.tmps.getD 12 undef = (.pointer (some ⟨e12, 0, none⟩)) := by rw [inv.old 12 (notDst_spec (by kernel_rfl))]; rfl
          exact am_value K _ rfl rfl (fa_run 24 4 12 e12 rfl h0 (fun w => by simp [go_sem])) (by decide) all0 all0 hS rfl
        · obtain rfl := Option.some.inj hi
          have h0 : a'.tmps.getD 109 undef = (.pointer (some ⟨e12, 4, none⟩)) := pre_of hpre 7 109 (by kernel_rfl) (by kernel_rfl)
          exact am_value K _ rfl rfl (load_run 22 109 e12 (4) _ rfl h0 (ld22 (cell4 (row_old hS.old (by simp) H12R.out)))) (by decide) all0 all0 hS rfl
        · obtain rfl := Option.some.inj hi
          have h0 : a'.tmps.getD 102 undef = (.pointer (some ⟨p, 0, none⟩)) := pre_of hpre 0 102 (by kernel_rfl) (by kernel_rfl)
          have h1 : a'.tmps.getD 103 undef = (.slice kq 32 kc) := pre_of hpre 1 103 (by kernel_rfl) (by kernel_rfl)
          have h2 := pre_of hpre 4 106 (by kernel_rfl) (by kernel_rfl)
          have h3 := pre_of hpre 6 108 (by kernel_rfl) (by kernel_rfl)
          have h4 : a'.tmps.getD 110 undef = (.slice oq ol oc) := pre_of hpre 8 110 (by kernel_rfl) (by kernel_rfl)
          refine am_quiet K 40 #[a'.tmps.getD 102 undef, a'.tmps.getD 103 undef, a'.tmps.getD 106 undef, a'.tmps.getD 108 undef, a'.tmps.getD 110 undef] rfl rfl (by kernel_rfl) (by decide) all0 all0 hS ?_
          rw [h0, h1, h4]
          exact (HOT.out w' _ _ (kx_below0 inv.grow) h2 h3).mono (by rintro y u ⟨tq, tc, rfl, k1, k2⟩; exact ⟨_, rfl, k2, ⟨tq, tc, rfl, k1⟩⟩)
        · obtain rfl := Option.some.inj hi
          have h0 := pre_of hpre 9 111 (by kernel_rfl) (by kernel_rfl)
          exact am_value K _ rfl rfl (rfl) (by decide) all0 all0 hS h0
        · obtain rfl := Option.some.inj hi
          obtain ⟨tq0, tc0, e0, f0⟩ := pre_of hpre 10 101 (by kernel_rfl) (by kernel_rfl)
          exact am_value K _ rfl rfl (ext_run 101 0 _ _ rfl e0 rfl) (by decide) all0 all0 hS ⟨_, _, rfl, f0⟩
        · obtain rfl := Option.some.inj hi
          obtain ⟨tq0, tc0, e0, f0⟩ := pre_of hpre 10 101 (by kernel_rfl) (by kernel_rfl)
          exact am_value K _ rfl rfl (ext_run 101 1 _ _ rfl e0 rfl) (by decide) all0 all0 hS rfl
        · obtain rfl := Option.some.inj hi
          have h0 := pre_of hpre 11 112 (by kernel_rfl) (by kernel_rfl)
          exact am_value K _ rfl rfl (rfl) (by decide) all0 all0 hS h0
        · obtain rfl := Option.some.inj hi
          have h0 := pre_of hpre 12 113 (by kernel_rfl) (by kernel_rfl)
          exact am_value K _ rfl rfl (rfl) (by decide) all0 all0 hS h0
      intro a' w16 f inv hS hall hd
      have hk13 := hd 13 18 (by kernel_rfl)
      have hk14 := hd 14 19 (by kernel_rfl)
      have hold : S7.Only [] w15 w16 := hS.old
      have hgrow : Kx (([] : List (Option TypeId)) ++ ([] : List (Option TypeId))) e3 w15 w16 := inv.grow
      have hdf : a'.defers = [] := inv.defers
      have e := frame_of [18, 19, 101, 102, 103, 104, 105, 106, 107, 108, 109, 110, 111, 112, 113] inv.size (fun t ht => inv.old t (dstsIn_spec (ts := [18, 19, 101, 102, 103, 104, 105, 106, 107, 108, 109, 110, 111, 112, 113]) (by kernel_rfl) t ht))
      clear inv hd hall hS K hd0
      obtain ⟨tmps, defers⟩ := a'
      obtain rfl : defers = [] := hdf
      replace e : tmps = List.foldl (fun G t => G.setIfInBounds t (tmps.getD t undef)) _ [18, 19, 101, 102, 103, 104, 105, 106, 107, 108, 109, 110, 111, 112, 113] := e
      simp only [List.foldl_cons, List.foldl_nil] at e
      replace hk13 : SlT tl tn (tmps.getD 18 undef) w16 := hk13
      replace hk14 : tmps.getD 19 undef = (.int .i64 0) := hk14
      generalize tmps.getD 18 undef = x18 at *
      generalize tmps.getD 19 undef = x19 at *
      generalize tmps.getD 101 undef = x101 at *
      generalize tmps.getD 102 undef = x102 at *
      generalize tmps.getD 103 undef = x103 at *
      generalize tmps.getD 104 undef = x104 at *
      generalize tmps.getD 105 undef = x105 at *
      generalize tmps.getD 106 undef = x106 at *
      generalize tmps.getD 107 undef = x107 at *
      generalize tmps.getD 108 undef = x108 at *
      generalize tmps.getD 109 undef = x109 at *
      generalize tmps.getD 110 undef = x110 at *
      generalize tmps.getD 111 undef = x111 at *
      generalize tmps.getD 112 undef = x112 at *
      generalize tmps.getD 113 undef = x113 at *
      simp only [List.setIfInBounds_toArray, List.set_cons_succ, List.set_cons_zero] at e
      subst e
      subst hk14
      have HB16 : Hid (Below w15.heap.size w15 w16) := kx_below0 hgrow
      obtain ⟨tq, tc, rfl, hts⟩ := hk13
      have HT16 : Hid (Src w16 (.slice tq tn tc) tl) := hts
      clear hts hold hgrow HNO HFR HOT H9R H12R
      obtain ⟨tb, HTB0⟩ : ∃ tb, Hid (decide (tl = pt) = tb) := ⟨_, rfl⟩
      have HTB : Hid (((strB tl).toList == (strB pt).toList) = tb) := by
        show _ = _
        rw [← HTB0.out]
        exact strB_beqL HT16.out.small HPTS.out
      have QE := hid (QD.out.1.below HB16.out)
      have HLO16 := hid QE.out.m1.low
      have HTS : Hid (∀ w, Below w16.heap.size w16 w → Src w (.slice tq tn tc) tl) := fun w h => HT16.out.below h
      have HPS2 : Hid (∀ w, Below w16.heap.size w16 w → Calls Tryz.prog 39 #[.slice pq pn pc] w fun y w' => ∃ v, y = .returned v ∧ SrcM pt v w' ∧ Below w.heap.size w w') := fun w h => (HRP.out w ((QD.out.2.2.1.below HB16.out).below h).src).mono (by
        rintro y w' ⟨v, rfl, k1, k2⟩
        exact ⟨v, rfl, Src.own HPTS.out k1, k2⟩)
      go_upto_region 19 with fail
      have K : Amk [] (fun _ _ => True) e3 ([] : List (Option TypeId)) ([] : List (Option TypeId)) [] w16 := ⟨HLO16.out, all0, all0, all0, all0, fun _ _ _ _ _ => trivial⟩
      have hd0 := S7.below_drewN 1 w16 w16.heap.size
      refine wp_region_sa (mk19 pt pn pq tq pc tc tl tn tb) (fun u u' => Kx (([] : List (Option TypeId)) ++ ([] : List (Option TypeId))) e3 u u') (Am [] [] (fun _ _ => True) w16 []) (by kernel_rfl) (Kx.of_below hd0 K.low) (fun _ _ _ h k => h.trans k) (mk19_kept pt pn pq tq pc tc tl tn tb) (by kernel_rfl) (Am.start (S7.Only.of_below hd0 _) (trivial)) ?_ ?_
      · intro i o a' w' f hi inv hS hfi hfw hpre
        have hlt : i < 6 := (Array.getElem?_eq_some_iff.1 hi).1
        obtain rfl|rfl|rfl|rfl|rfl|rfl : i = 0 ∨ i = 1 ∨ i = 2 ∨ i = 3 ∨ i = 4 ∨ i = 5 := by omega
        · obtain rfl := Option.some.inj hi
          have h0 : a'.tmps.getD 18 undef = (.slice tq tn tc) := by rw [inv.old 18 (notDst_spec (by kernel_rfl))]; rfl
          exact am_value K _ rfl rfl (rfl) (by decide) all0 all0 hS h0
        · obtain rfl := Option.some.inj hi
          have h0 : a'.tmps.getD 114 undef = (.slice tq tn tc) := pre_of hpre 0 114 (by kernel_rfl) (by kernel_rfl)
          exact am_value K _ rfl rfl (conv_run 114 rfl (by rw [h0]; exact HTS.out w' (kx_below0 inv.grow))) (by decide) all0 all0 hS rfl
        · obtain rfl := Option.some.inj hi
          have h0 : a'.tmps.getD 11 undef = (.slice pq pn pc) := by rw [inv.old 11 (notDst_spec (by kernel_rfl))]; rfl
          exact am_value K _ rfl rfl (rfl) (by decide) all0 all0 hS h0
        · obtain rfl := Option.some.inj hi
          have h0 : a'.tmps.getD 116 undef = (.slice pq pn pc) := pre_of hpre 2 116 (by kernel_rfl) (by kernel_rfl)
          refine am_quiet K 39 #[a'.tmps.getD 116 undef] rfl rfl (by kernel_rfl) (by decide) all0 all0 hS ?_
          rw [h0]
          exact (HPS2.out w' (kx_below0 inv.grow)).mono (by rintro y u ⟨v, rfl, k1, k2⟩; exact ⟨_, rfl, k2, k1⟩)
        · obtain rfl := Option.some.inj hi
          have h0 := pre_of hpre 3 117 (by kernel_rfl) (by kernel_rfl)
          exact am_value K _ rfl rfl (conv_run 117 rfl h0) (by decide) all0 all0 hS rfl
        · obtain rfl := Option.some.inj hi
          have h0 : a'.tmps.getD 115 undef = (.string (strB tl)) := pre_of hpre 1 115 (by kernel_rfl) (by kernel_rfl)
          have h1 : a'.tmps.getD 118 undef = (.string (strB pt)) := pre_of hpre 4 118 (by kernel_rfl) (by kernel_rfl)
          exact am_value K _ rfl rfl (eqM_run 115 118 _ _ rfl h0 h1) (by decide) all0 all0 hS (by show Value.bool _ = _; rw [HTB.out])
      intro a' w17 f inv hS hall hd
      have hk5 := hd 5 119 (by kernel_rfl)
      have hold : S7.Only [] w16 w17 := hS.old
      have hgrow : Kx (([] : List (Option TypeId)) ++ ([] : List (Option TypeId))) e3 w16 w17 := inv.grow
      have hdf : a'.defers = [] := inv.defers
      have e := frame_of [114, 115, 116, 117, 118, 119] inv.size (fun t ht => inv.old t (dstsIn_spec (ts := [114, 115, 116, 117, 118, 119]) (by kernel_rfl) t ht))
      clear inv hd hall hS K hd0
      obtain ⟨tmps, defers⟩ := a'
      obtain rfl : defers = [] := hdf
      replace e : tmps = List.foldl (fun G t => G.setIfInBounds t (tmps.getD t undef)) _ [114, 115, 116, 117, 118, 119] := e
      simp only [List.foldl_cons, List.foldl_nil] at e
      replace hk5 : tmps.getD 119 undef = (.bool tb) := hk5
      generalize tmps.getD 114 undef = x114 at *
      generalize tmps.getD 115 undef = x115 at *
      generalize tmps.getD 116 undef = x116 at *
      generalize tmps.getD 117 undef = x117 at *
      generalize tmps.getD 118 undef = x118 at *
      generalize tmps.getD 119 undef = x119 at *
      simp only [List.setIfInBounds_toArray, List.set_cons_succ, List.set_cons_zero] at e
      subst e
      subst hk5
      have HB17 : Hid (Below w15.heap.size w15 w17) := HB16.out.trans ((kx_below0 hgrow).mono HB16.out.size)
      have QF := hid (QD.out.1.below HB17.out)
      clear hold hgrow HTS HPS2 QE HRP
      have HTM : Hid (tb = true ↔ mk = mS k wn pt e) := by
        show _ ↔ _
        rw [← HTB0.out, decide_eq_true_iff, ← HTL.out]
        have h := marks_told (k := k) (wn := wn) (mk := mk) HRR.out (by rw [HPL.out]; exact HPS.out)
        rw [HPT.out] at h
        exact h
      cases tb with
      | true =>
        have e0 : gx = 0 := by rw [← HGX.out]; exact if_pos (HTM.out.1 rfl)
        subst e0
        go_wp2_with fail
        go_ret
        exact ⟨rfl, HW0.out _ QF.out.m1.bel⟩
      | false =>
        have hne : mk ≠ mS k wn pt e := fun h => by have := HTM.out.2 h; cases this
        have e0 : gx = 22 := by rw [← HGX.out]; exact if_neg hne
        have e1 : g1 = 0 := HG1.out hne
        subst e0 e1
        obtain ⟨r0, r1, r2, r3, r4, r5, r6, r7, r8⟩ := e9_cells (row_b QD.out.2.2.2.2.2.1 HB17.out)
        obtain ⟨f0, f1, f2, f3, f4, f5, f6, f7, f8⟩ := e9_cells QF.out.m1.ra
        have HSA2 : Hid (Calls Tryz.prog 41 #[.agg #[.int .i64 u1, .int .i64 u2, .int .i64 u3, .slice uq4 un4 uk4, .slice uq5 un5 uk5, .int .i64 u6, .int .i64 u7, .int .i64 u8, .slice uq9 un9 uk9], .agg #[.int .i64 a1, .int .i64 (wn : Int), .int .i64 a3, .slice np nl nc, .slice vp vl vc, .int .i64 a6, .int .i64 a7, .int .i64 a8, .slice wp wl wc]] w17 fun y w' => y = .returned (.bool true) ∧ Below e3 W w' ∧ w'.heap[e14]? = some (.cells #[.int .i64 0, .int .i64 g2, .int .i64 g3, .slice gq4 gn4 gk4, .slice gq5 gn5 gk5, .int .i64 g6, .int .i64 g7, .int .i64 g8, .slice gq9 gn9 gk9] 49 (0, 0))) := by
          refine (Same_any e e _ _ w17 (QD.out.2.2.2.2.2.2.below HB17.out) (HA.out.below (HW0.out _ QF.out.m1.bel))).mono ?_
          rintro y w' ⟨rfl, h1⟩
          rw [(same_iff e e).2 rfl]
          exact ⟨rfl, QF.out.m1.bel.trans (h1.mono QF.out.m1.low), row_b (row_b QD.out.2.2.2.2.1 HB17.out) h1⟩
        go_wp2_with fail
        refine HSA2.out.mono ?_
        rintro y w18 ⟨rfl, h1, h2⟩
        have HZ : Hid (Below e3 W w18) := h1
        clear h1 r0 r1 r2 r3 r4 r5 r6 r7 r8 f0 f1 f2 f3 f4 f5 f6 f7 f8 HSA2
        obtain ⟨r0, -⟩ := e9_cells h2
        clear h2
        go_wp2_with fail
        go_ret
        exact ⟨rfl, HW0.out _ HZ.out⟩
set_option maxRecDepth 10000 in
theorem marks_law (e : En) (va : Value) (q1 q2 : Option Addr) (n c n2 c2 : Nat) (W : World) (ha : EnIs W va e) (hk : RowIs W q1 n c) (hm : RowIs W q2 n2 c2) :
    Calls Tryz.prog 7 #[va, .slice q1 n c, .slice q2 n2 c2] W fun y w' => y = .returned (.bool true) ∧ Below W.heap.size W w' := by
  obtain ⟨k, hkl, hks⟩ := Src.of hk
  obtain ⟨mk, hml, hms⟩ := Src.of hm
  have ha' := ha
  obtain ⟨np, nc, vp, vc, wq, wc, rfl, -⟩ := ha
  exact marks_main e e.kind e.writer e.seq e.who e.rights e.epoch np vp wq e.name.length nc e.value.length vc e.wraps.length wc q1 q2 n c n2 c2 k mk W ha' rfl (fun hr => ((right_iff e).1 hr).1) hks hms hml
end Go.Proofs.YtfjdaafckiefdaaGreatDoor.S15
