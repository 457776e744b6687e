/- RingLearns: a map from numbers to texts; the walk. -/
import Derived.Test.YtagdlpodpokmmaaDoorR14Anc
import Derived.Test.YtagdlpodpokmmaaDoorS7Args
namespace Go.Proofs.YtagdlpodpokmmaaDoor.S7
open Go.RowKit Go.ChangeShapes Go.WideShapes
/-- Numbers that came in. -/
def IntsIs (w : World) (a : Option Addr) (len : Nat) : Prop := len ≤ 9223372036854775807 ∧ ∃ z : Nat → Int, ∀ i, i < len → ∃ b o, a = some ⟨b, o, none⟩ ∧ b < w.heap.size ∧ w.cell? ⟨b, o + i, none⟩ = some (.int .i64 (z i))
theorem intsIs_nil (w : World) (a : Option Addr) : IntsIs w a 0 := ⟨by omega, fun _ => 0, fun i hi => by omega⟩
theorem intsIs_of {w : World} {x : Addr} {len cap : Nat} {zs : List Int} (hl : len ≤ cap) (hm : cap ≤ maxLen) (hz : zs.length = cap)
    (hcell : ∀ i, i < zs.length → w.cell? (x.add i) = some (.int .i64 (zs.getD i 0))) (_hwz : ∀ n ∈ zs, (Lit.int .i64 n).wf = true) : IntsIs w (some x) len := by
  refine ⟨by unfold maxLen at hm; omega, fun i => zs.getD i 0, fun i hi => ?_⟩
  have h0 := hcell 0 (by omega)
  have hx0 : x.add 0 = x := by obtain ⟨b, o, s⟩ := x; unfold Addr.add; split <;> simp_all
  rw [hx0] at h0
  have hsp : x.spot = none := by
    cases hs : x.spot with
    | none => rfl
    | some q =>
      unfold World.cell? at h0
      split at h0
      · simp [hs] at h0
      · cases h0
  obtain ⟨b, o, s⟩ := x
  simp only at hsp
  subst hsp
  have h1 := hcell i (by omega)
  rw [Addr.add_mid] at h1
  exact ⟨b, o, rfl, World.block_lt_of_cell? w _ h0, h1⟩
/-- The entries of the statement's map. -/
def wan (es : List (Nat × List Nat)) : List (Value × Value) := es.map (fun e => (.int .i64 (e.1 : Int), .string (strB e.2)))
def fnd (es : List (Nat × List Nat)) (N : Int) : Option (List Nat) := match es with
  | [] => none
  | e :: r => if N = (e.1 : Int) then some e.2 else fnd r N
theorem look_wan (N : Int) : ∀ es, look (sameN N) (wan es) = (fnd es N).map (fun l => .string (strB l))
  | [] => rfl
  | e :: r => by
    have ih := look_wan N r
    show (if (N == (e.1 : Int)) = true then _ else look (sameN N) (wan r)) = _
    unfold fnd
    by_cases h : N = (e.1 : Int)
    · rw [if_pos h, if_pos (by rw [h]; exact beq_self_eq_true _)]; rfl
    · rw [if_neg h, if_neg (by simpa using h), ih]
theorem keys_wan (es : List (Nat × List Nat)) : ∀ e ∈ wan es, ∃ a, e.1 = .int .i64 a := fun e he => by
  obtain ⟨u, _, rfl⟩ := List.mem_map.1 he
  exact ⟨_, rfl⟩
theorem fnd_snoc (es : List (Nat × List Nat)) (j : Nat) (l : List Nat) (N : Int) (h : fnd es (j : Int) = none) : fnd (es ++ [(j, l)]) N = if N = (j : Int) then some l else fnd es N := by
  induction es with
  | nil =>
    show fnd [(j, l)] N = _
    unfold fnd
    by_cases e : N = (j : Int)
    · rw [if_pos e, if_pos e]
    · rw [if_neg e, if_neg e]; rfl
  | cons e r ih =>
    have h1 : ¬ (j : Int) = (e.1 : Int) ∧ fnd r (j : Int) = none := by
      unfold fnd at h
      by_cases e1 : (j : Int) = (e.1 : Int)
      · rw [if_pos e1] at h; cases h
      · rw [if_neg e1] at h; exact ⟨e1, h⟩
    have ih' := ih h1.2
    show fnd (e :: (r ++ [(j, l)])) N = _
    unfold fnd
    by_cases e1 : N = (e.1 : Int)
    · rw [if_pos e1, if_pos e1, if_neg (fun e2 => h1.1 (e2.symm.trans e1))]
    · rw [if_neg e1, if_neg e1, ih']
theorem underM : Tryd.prog.underlying 42 = some (.map 3 9) := by kernel_rfl
theorem zero9 (w : World) : (zeroValue 9).run Tryd.prog w = .ok (.string ⟨#[]⟩) w := by kernel_rfl
section
variable {w : World} {b : Nat} {es : List (Nat × List Nat)}
theorem lookup_wan (h : MapIs w b (wan es)) (N : Int) : (Instr.lookup 42 (.map (some b)) (.int .i64 N) true).run Tryd.prog w = .ok (match fnd es N with | some l => .tuple #[.string (strB l), .bool true] | none => .tuple #[.string ⟨#[]⟩, .bool false]) w := by
  obtain ⟨ms, c, hb, he⟩ := h
  obtain ⟨r, h1, h2⟩ := find_int w N ms.toList (fun e hx => keys_wan es (e.key, e.val) (by rw [← he]; exact List.mem_map.2 ⟨e, hx, rfl⟩))
  have h3 := run_look (P := Tryd.prog) underM hb (run_check_int w ms.isEmpty N) h1 (zero9 w)
  rw [h3, h2, he, look_wan]
  cases fnd es N <;> rfl
theorem lookup_wan1 (h : MapIs w b (wan es)) (N : Int) : (Instr.lookup 42 (.map (some b)) (.int .i64 N) false).run Tryd.prog w = .ok (match fnd es N with | some l => .string (strB l) | none => .string ⟨#[]⟩) w := by
  obtain ⟨ms, c, hb, he⟩ := h
  obtain ⟨r, h1, h2⟩ := find_int w N ms.toList (fun e hx => keys_wan es (e.key, e.val) (by rw [← he]; exact List.mem_map.2 ⟨e, hx, rfl⟩))
  have hz := zero9 w
  have hc := run_check_int w ms.isEmpty N
  rw [he, look_wan] at h2
  have h3 : (Instr.lookup 42 (.map (some b)) (.int .i64 N) false).run Tryd.prog w = .ok (match r.map (·.2) with | some v => v | none => .string ⟨#[]⟩) w := by
    cases r with
    | none => simp [Instr.lookup, run_underlying underM, MapKept.run_getObj_map hb, hc, h1, hz, Result.andThen]
    | some p => simp [Instr.lookup, run_underlying underM, MapKept.run_getObj_map hb, hc, h1, Result.andThen]
  rw [h3, h2]
  cases fnd es N <;> rfl
theorem put_wan (h : MapIs w b (wan es)) (j : Nat) (l : List Nat) (hf : fnd es (j : Int) = none) : ∃ w', (Instr.mapUpdate 42 (.map (some b)) (.int .i64 (j : Int)) (.string (strB l))).run Tryd.prog w = .ok () w' ∧ MapIs w' b (wan (es ++ [(j, l)])) ∧ w.grownBy w' (some b) := by
  obtain ⟨ms, c, hb, he⟩ := h
  obtain ⟨r, h1, h2⟩ := find_int w (j : Int) ms.toList (fun e hx => keys_wan es (e.key, e.val) (by rw [← he]; exact List.mem_map.2 ⟨e, hx, rfl⟩))
  rw [he, look_wan, hf] at h2
  have hr : r = none := by cases r with
    | none => rfl
    | some p => cases h2
  subst hr
  have h3 := run_put (P := Tryd.prog) (val := .string (strB l)) underM hb (run_check_int w false (j : Int)) h1
  obtain ⟨k1, k2⟩ := setBlock_is (key := .int .i64 (j : Int)) (val := .string (strB l)) hb he
  refine ⟨_, h3, ?_, k2⟩
  have : wan (es ++ [(j, l)]) = wan es ++ [(.int .i64 (j : Int), .string (strB l))] := by simp [wan]
  rw [this]
  exact k1
end
theorem nw_lt (ks : Nat → Option (List Nat)) (n : Nat) : nw ks (n + 1) ≤ n := by
  unfold nw
  split
  · omega
  · exact nw_le ks n
theorem nw_lrn (ks : Nat → Option (List Nat)) (j : Nat) (l : List Nat) : ∀ n, j < n → nw (lrn ks j l) n = max (nw ks n) j
  | 0, h => by omega
  | n + 1, h => by
    by_cases e : n = j
    · subst e
      have h1 : nw (lrn ks n l) (n + 1) = n := by unfold nw; rw [if_pos (by simp [lrn])]
      have h2 := nw_lt ks n
      rw [h1]
      omega
    · have h1 : lrn ks j l n = ks n := by unfold lrn; rw [if_neg e]
      have ih := nw_lrn ks j l n (by omega)
      have h2 := nw_le ks n
      unfold nw
      rw [h1]
      split
      · omega
      · exact ih
/-- What stands between two rounds: the suite, the ring, the map. -/
structure Le (B : Nat) (w : World) (p q m x r b : Nat) (L : List Su.Thing) (ks : Nat → Option (List Nat)) (es : List (Nat × List Nat)) : Prop where
  sw : Sw B w p q m x L
  rg : ∃ xs, RgIs B w r xs ks
  mp : MapIs w b (wan es)
  lo : B ≤ b ∧ b ≠ p ∧ b ≠ q ∧ b ≠ m ∧ b ≠ x
  same : ∀ j : Nat, 1 ≤ j → j ≤ 16 → fnd es (j : Int) = ks j
  out : ∀ N : Int, ¬ (1 ≤ N ∧ N ≤ 16) → fnd es N = none
  zero : ∃ l, ks 0 = some l
  size : B ≤ w.heap.size
section
variable {B : Nat} {w w' : World} {p q m x r b : Nat} {L : List Su.Thing} {ks : Nat → Option (List Nat)} {es : List (Nat × List Nat)}
theorem Le.below (h : Le B w p q m x r b L ks es) (hb : Below w.heap.size w w') : Le B w' p q m x r b L ks es := by
  obtain ⟨xs, hx⟩ := h.rg
  exact ⟨h.sw.below hb, ⟨xs, hx.below hb⟩, h.mp.kept (hb.block b h.mp.lt), h.lo, h.same, h.out, h.zero, Nat.le_trans h.size hb.size⟩
theorem Le.key (h : Le B w p q m x r b L ks es) {L' : List Su.Thing} (hs : Sw B w' p q m x L') (hf : Fr [p, m, x] TU B w w') : Le B w' p q m x r b L' ks es := by
  obtain ⟨xs, hx⟩ := h.rg
  have hlo := h.lo
  exact ⟨hs, ⟨xs, hx.kx hf.kx tu5 turg⟩, h.mp.kept (hf.only.block b h.mp.lt (by simp only [List.mem_cons, List.not_mem_nil, or_false]; omega)), h.lo, h.same, h.out, h.zero, Nat.le_trans h.size hf.size⟩
theorem Le.learn (h : Le B w p q m x r b L ks es) (hk : Kx [some 70] B w w') : Sw B w' p q m x L ∧ MapIs w' b (wan es) := by
  obtain ⟨ms, c, hb, _⟩ := h.mp
  exact ⟨h.sw.kx hk (by decide) (by decide) (by decide), h.mp.kept ((hk.row b _ hb (by simp [tyOf])).trans hb.symm)⟩
end
theorem strE : strB [] = ⟨#[]⟩ := rfl
theorem str_ne {l : List Nat} (h : l.length = 32) : ((strB l).toList == (⟨#[]⟩ : ByteArray).toList) = false := by
  rw [beq_eq_false_iff_ne]
  intro e
  have := congrArg List.length e
  rw [ByteArray.toList_eq, ByteArray.toList_eq, strB_list, List.length_map, h] at this
  simp at this
theorem str_ne' {l : List Nat} (h : l.length = 32) : ¬ (strB l).toList = [] ∧ (strB l).toList.isEmpty = false := by
  have h1 : (strB l).toList.length = 32 := by rw [ByteArray.toList_eq, strB_list, List.length_map, h]
  have h2 : ¬ (strB l).toList = [] := fun e => by rw [e] at h1; simp at h1
  exact ⟨h2, by rw [List.isEmpty_eq_false_iff]; exact h2⟩
set_option maxHeartbeats 16000000 in
set_option maxRecDepth 20000 in
theorem learns_main (w : World) (a0 a1 : Option Addr) (l0 c0 n c1 : Nat) (s : List Nat) (h0 : Src w (.slice a0 l0 c0) s) (h1 : IntsIs w a1 n) (k0 : l0 ≤ 100) (k1 : n ≤ 30) :
    Calls Tryd.prog 6 #[.slice a0 l0 c0, .slice a1 n c1] w fun e w' => e = .returned (.bool true) ∧ Below w.heap.size w w' := by
  obtain ⟨B, hBe⟩ : ∃ B, B = w.heap.size := ⟨_, rfl⟩
  have HBE : Hid (B = w.heap.size) := hBe
  rw [← hBe]
  have H0 : Hid (∀ w', Below B w w' → By B w' (.slice a0 l0 c0) s) := fun w' hb => by
    rw [HBE.out] at hb
    exact (By.old h0 (by rw [HBE.out]; exact Nat.le_refl _)).below hb
  obtain ⟨_, z, hz⟩ := h1
  have HZ : Hid (∀ w', Below B w w' → ∀ i, i < n → ∃ b o, a1 = some ⟨b, o, none⟩ ∧ w'.cell? ⟨b, o + i, none⟩ = some (.int .i64 (z i))) := fun w' hb i hi => by
    obtain ⟨b, o, h1, h2, h3⟩ := hz i hi
    exact ⟨b, o, h1, (hb.cell (p := ⟨b, o + i, none⟩) (by rw [HBE.out]; exact h2)).trans h3⟩
  clear hBe h0 hz
  have q0 : ¬ (100 : Int) < (l0 : Int) := by omega
  have q1 : ¬ (30 : Int) < (n : Int) := by omega
  have n0 : (0 : Int) ≤ (n : Int) := by omega
  have n1 : (n : Int) ≤ 30 := by omega
  clear k0
  go_enter Tryd.func6, Tryd.ntmps6
  go_wp2_with fail
  refine (anchor_any w).mono ?_
  rintro e w1 ⟨rfl, hb1⟩
  rw [← HBE.out] at hb1
  have HB1 : Hid (Below B w w1 ∧ B ≤ w1.heap.size) := ⟨hb1, by have := hb1.size; rw [HBE.out]; exact this⟩
  clear hb1
  go_wp2_with fail
  refine (Signs_sw HB1.out.2).mono ?_
  rintro e w2 ⟨p, q, m, x, rfl, h1, h2⟩
  have G2 : Hid (Sw B w2 p q m x [] ∧ Below B w w2 ∧ B ≤ w2.heap.size) := ⟨h1, HB1.out.1.trans (h2.mono HB1.out.2), Nat.le_trans HB1.out.2 h2.size⟩
  clear h1 h2 HB1
  go_wp2_with fail
  refine (New_s G2.out.1 (by decide) G2.out.2.2 (H0.out w2 G2.out.2.1)).mono ?_
  rintro e w3 ⟨r, xs, rfl, h1, h2, h3, h4, h5⟩
  have G3 : Hid (Le B (w3.alloc (.map #[] 0)) p q m x r w3.heap.size (adk [] s epoB 0) (lrn (fun _ => none) 0 (mk [] s epoB 0)) [] ∧ Below B w (w3.alloc (.map #[] 0))) := by
    have hba := below_alloc' w3 (.map #[] 0)
    have hlt := h3.su.lt
    have hB3 : B ≤ w3.heap.size := Nat.le_trans G2.out.2.2 h4.size
    refine ⟨⟨h3.below hba, ⟨xs, h2.below hba⟩, MapIs.made w3, ⟨hB3, by omega, by omega, by omega, by omega⟩, fun j hj1 hj2 => ?_, fun N _ => rfl, ⟨_, if_pos rfl⟩, Nat.le_trans hB3 hba.size⟩, (G2.out.2.1.trans h5.low).trans (hba.mono hB3)⟩
    show none = lrn (fun _ => none) 0 (mk [] s epoB 0) j
    unfold lrn
    rw [if_neg (by omega)]
  have HL3 : Hid ((adk [] s epoB 0).length ≤ 1) := adk_length [] s epoB 0
  have HNW : Hid (nw (lrn (fun _ => none) 0 (mk [] s epoB 0)) 17 = 0) := a_nw _
  clear h1 h2 h3 h4 h5 G2
  have hmm : (Instr.makeMap 42 none).run Tryd.prog w3 = .ok (.map (some w3.heap.size)) (w3.alloc (.map #[] 0)) := rfl
  go_wp2_with fail
  clear hmm
  generalize w3.alloc (.map #[] 0) = W3 at *
  generalize w3.heap.size = b at *
  go_loopw [8, 35] (fun nv i wr => ∃ (j : Nat) (L : List Su.Thing) (ks : Nat → Option (List Nat)) (es : List (Nat × List Nat)), j ≤ n ∧ i = .int .i64 j ∧ nv = .int .i64 (nw ks 17 : Int) ∧ L.length ≤ j + 1 ∧ Hid (Le B wr p q m x r b L ks es ∧ Below B w wr)) (fun _ i _ => n - (intOf i).toNat)
  case atStart => exact ⟨0, _, _, _, by omega, rfl, by rw [HNW.out]; rfl, HL3.out, G3⟩
  case round =>
    obtain ⟨j, L, ks, es, hj, rfl, rfl, hL, GJ⟩ := hrel
    clear G3 HL3 HNW
    have j0 : (0 : Int) ≤ (j : Int) := by omega
    by_cases hlt : j < n
    · have j1 : (j : Int) < (n : Int) := by omega
      obtain ⟨bb, ob, hq, hcell⟩ := HZ.out wr GJ.out.2 j hlt
      subst hq
      generalize z j = ev at *
      have hnw := nw_le ks 17
      have hnw0 : (0 : Int) ≤ (nw ks 17 : Int) := by omega
      go_wp2_with fail
      refine (Key_s GJ.out.1.sw (by omega) GJ.out.1.size).mono ?_
      rintro e w5 ⟨kv, rfl, h1, h2, h3⟩
      obtain ⟨kq, kc, rfl⟩ := own_slice h1
      obtain ⟨L', HL'⟩ : ∃ L', Hid (L ++ [(75, [], [], [], [])] = L' ∧ L'.length ≤ j + 2) := ⟨_, rfl, by rw [List.length_append]; show _ + 1 ≤ _; omega⟩
      rw [HL'.out.1] at h2
      have hl2 := HL'.out.2
      obtain ⟨kl, HKL⟩ : ∃ kl, Hid (Su.sign 75 (L.length + 1) = kl ∧ kl.length = 32 ∧ ∀ y ∈ kl, y < 256) := ⟨_, rfl, Su.sign_length _ _, Su.sign_lt (by decide) _⟩
      rw [HKL.out.1] at h1
      have G5 : Hid (Le B w5 p q m x r b L' ks es ∧ Below B w w5 ∧ By B w5 (.slice kq 32 kc) kl) := ⟨GJ.out.1.key h2 h3, GJ.out.2.trans h3.kx.low, By.own HKL.out.2.2 h1⟩
      clear h1 h2 h3 GJ HL' hcell hL
      by_cases hr : 1 ≤ ev ∧ ev ≤ 16
      · obtain ⟨jj, rfl⟩ : ∃ jj : Nat, ev = (jj : Int) := ⟨ev.toNat, by omega⟩
        have r1 : ¬ (jj : Int) < 1 := by omega
        have r2 : ¬ (16 : Int) < (jj : Int) := by omega
        have hjj : 1 ≤ jj ∧ jj ≤ 16 := by omega
        clear hr
        have hsame := G5.out.1.same jj hjj.1 hjj.2
        obtain ⟨xs5, hx5⟩ := G5.out.1.rg
        cases hk : ks jj with
        | some lo =>
          rw [hk] at hsame
          have hlk := lookup_wan G5.out.1.mp (jj : Int)
          rw [hsame] at hlk
          have HLT := Learn_twice hx5 jj hjj hk kq kc
          clear hx5 hsame hk
          go_wp2_with fail
          refine HLT.mono ?_
          rintro e w6 ⟨rfl, hw⟩
          obtain rfl : w5 = w6 := hw.symm
          clear hw HLT
          replace hlk : (Instr.lookup 42 (.map (some b)) (.int .i64 (jj : Int)) true).run Tryd.prog w5 = .ok (.tuple #[.string (strB lo), .bool true]) w5 := hlk
          go_wp2_with fail
          refine ⟨⟨j + 1, L', ks, es, by omega, by simp, rfl, by omega, G5.out.1, G5.out.2.1⟩, ?_⟩
          simp only [intOf]
          omega
        | none =>
          rw [hk] at hsame
          have HLK := Learn_ok hx5 jj hjj hk kq kc kl G5.out.2.2.src G5.out.1.size
          have HHK : Hid (ks jj = none) := hk
          clear hx5 hk
          go_wp2_with fail
          refine HLK.mono ?_
          rintro e w6 ⟨rfl, h1, h2, h3⟩
          obtain ⟨hs6, hm6⟩ := G5.out.1.learn h2
          have hlk := lookup_wan hm6 (jj : Int)
          rw [hsame] at hlk
          replace hlk : (Instr.lookup 42 (.map (some b)) (.int .i64 (jj : Int)) true).run Tryd.prog w6 = .ok (.tuple #[.string ⟨#[]⟩, .bool false]) w6 := hlk
          have hcv := conv_src (G5.out.2.2.kx h2 (by decide)).src
          obtain ⟨w7, hput, hm7, hg7⟩ := put_wan hm6 jj kl hsame
          have HNX : Hid ((max (nw ks 17 : Int) (jj : Int)) = (nw (lrn ks jj kl) 17 : Int)) := by
            show _ = _
            rw [nw_lrn ks jj kl 17 (by omega)]
            omega
          have G7 : Hid (Le B w7 p q m x r b L' (lrn ks jj kl) (es ++ [(jj, kl)]) ∧ Below B w w7) := by
            have hlo := G5.out.1.lo
            have ho7 : Only [b] w6 w7 := Only.of_grown hg7 (fun y hy => by cases hy; simp)
            have hB6 : B ≤ w6.heap.size := Nat.le_trans G5.out.1.size h3.size
            obtain ⟨ms, mc, hmb, _⟩ := hm6
            have hk7 : Kx [none] B w6 w7 := Kx.of_only ho7 hB6 (fun y hy => by rw [List.mem_singleton.1 hy]; exact ⟨hlo.1, fun o ho => by rw [hmb] at ho; cases ho; simp [tyOf]⟩)
            obtain ⟨xs6, hx6⟩ := h1
            refine ⟨⟨hs6.off ho7 ⟨hlo.2.1, hlo.2.2.1, hlo.2.2.2.1, hlo.2.2.2.2⟩, ⟨xs6, hx6.kx hk7 (by decide) (by decide)⟩, hm7, hlo, fun i hi1 hi2 => ?_, fun N hN => ?_, ?_, Nat.le_trans hB6 ho7.size⟩, (G5.out.2.1.trans h2.low).trans hk7.low⟩
            · rw [fnd_snoc es jj kl _ hsame]
              unfold lrn
              by_cases e : i = jj
              · rw [if_pos e, if_pos (by omega)]
              · rw [if_neg e, if_neg (by omega)]
                exact G5.out.1.same i hi1 hi2
            · rw [fnd_snoc es jj kl _ hsame, if_neg (by omega)]
              exact G5.out.1.out N hN
            · obtain ⟨l, hl⟩ := G5.out.1.zero
              exact ⟨l, by unfold lrn; rw [if_neg (by omega)]; exact hl⟩
          clear h1 h2 h3 hs6 hm6 hm7 hg7 hsame HLK G5 HHK HKL
          go_wp2_with fail
          refine ⟨⟨j + 1, L', lrn ks jj kl, es ++ [(jj, kl)], by omega, by simp, ?_, by omega, G7⟩, ?_⟩
          · rw [← HNX.out]
          · simp only [intOf]
            omega
      · have hlk := lookup_wan G5.out.1.mp ev
        rw [G5.out.1.out ev hr] at hlk
        replace hlk : (Instr.lookup 42 (.map (some b)) (.int .i64 ev) true).run Tryd.prog w5 = .ok (.tuple #[.string ⟨#[]⟩, .bool false]) w5 := hlk
        have HLR := Learn_range w5 (.pointer (some ⟨r, 0, none⟩)) (.slice kq 32 kc) ev hr
        go_wp2_with fail
        refine HLR.mono ?_
        rintro e w6 ⟨rfl, hw⟩
        obtain rfl : w5 = w6 := hw.symm
        clear hw HLR
        by_cases r1 : ev < 1
        · clear hr
          go_wp2_with fail
          refine ⟨⟨j + 1, L', ks, es, by omega, by simp, rfl, by omega, G5.out.1, G5.out.2.1⟩, ?_⟩
          simp only [intOf]
          omega
        · have r2 : 16 < ev := by omega
          clear hr
          go_wp2_with fail
          refine ⟨⟨j + 1, L', ks, es, by omega, by simp, rfl, by omega, G5.out.1, G5.out.2.1⟩, ?_⟩
          simp only [intOf]
          omega
    · obtain rfl : j = n := by omega
      have j1 : ¬ (j : Int) < (j : Int) := by omega
      clear HZ H0 hlt
      have hnw0 : (0 : Int) ≤ (nw ks 17 : Int) := by omega
      obtain ⟨nwv, HNV⟩ : ∃ nwv, Hid (nw ks 17 = nwv) := ⟨_, rfl⟩
      rw [HNV.out]
      rw [HNV.out] at hnw0
      go_wp2_with fail
      rename World => wr0
      have GJ0 : Hid (Le B wr0 p q m x r b L ks es ∧ Below B w wr0) := GJ
      clear GJ
      go_loopw [74] (fun i wr => ∃ jj : Nat, jj ≤ 17 ∧ i = .int .i64 jj ∧ Hid (Le B wr p q m x r b L ks es ∧ Below B w wr)) (fun i _ => 17 - (intOf i).toNat)
      case atStart => exact ⟨0, by omega, rfl, GJ0⟩
      case round =>
        obtain ⟨jj, hjj, rfl, GK⟩ := hrel
        clear GJ0
        have i0 : (0 : Int) ≤ (jj : Int) := by omega
        obtain ⟨xs5, hx5⟩ := GK.out.1.rg
        by_cases hlt : jj < 17
        · have i1 : (jj : Int) < 17 := by omega
          by_cases hz0 : jj = 0
          · subst hz0
            obtain ⟨l, hl⟩ := GK.out.1.zero
            have HKY := Key_yes hx5 0 (by omega) hl
            clear hx5 hl
            go_wp2_with fail
            refine HKY.mono ?_
            rintro e w6 ⟨u, rfl, h1, h2⟩
            have G6 : Hid (Le B w6 p q m x r b L ks es ∧ Below B w w6) := ⟨GK.out.1.below h2, GK.out.2.trans (h2.mono GK.out.1.size)⟩
            clear h1 h2 HKY GK
            go_wp2_with fail
            refine ⟨⟨1, by omega, by simp, G6⟩, ?_⟩
            simp only [intOf]
            omega
          · have i2 : (0 : Int) < (jj : Int) := by omega
            have hsame := GK.out.1.same jj (by omega) (by omega)
            cases hk : ks jj with
            | some l =>
              rw [hk] at hsame
              have h32 := (hx5.yes jj l hlt hk).1
              have HKY := Key_yes hx5 jj hlt hk
              clear hx5 hk
              go_wp2_with fail
              refine HKY.mono ?_
              rintro e w6 ⟨u, rfl, h1, h2⟩
              obtain ⟨uq, uc, rfl⟩ := own_slice h1
              have G6 : Hid (Le B w6 p q m x r b L ks es ∧ Below B w w6) := ⟨GK.out.1.below h2, GK.out.2.trans (h2.mono GK.out.1.size)⟩
              have hlk := lookup_wan1 G6.out.1.mp (jj : Int)
              rw [hsame] at hlk
              replace hlk : (Instr.lookup 42 (.map (some b)) (.int .i64 (jj : Int)) false).run Tryd.prog w6 = .ok (.string (strB l)) w6 := hlk
              have hne := str_ne h32
              have i3 : 0 < jj := by omega
              have hne4 := (str_ne' h32).1
              have hne5 := (str_ne' h32).2
              have hsm : ∀ y ∈ l, y < 256 := by
                obtain ⟨xs6, hx6⟩ := G6.out.1.rg
                exact (hx6.yes jj l hlt (by rw [← hsame]; exact (G6.out.1.same jj (by omega) (by omega)).symm)).2.elim (fun ad h => h.elim (fun c h => h.2.src.small))
              have hcv := conv_src (Src.own hsm h1)
              clear h1 h2 HKY GK hsame h32 hsm
              generalize strB l = sl at *
              go_wp2_with fail
              refine ⟨⟨jj + 1, by omega, by simp, G6⟩, ?_⟩
              simp only [intOf]
              omega
            | none =>
              rw [hk] at hsame
              have HKY := Key_out wr r (jj : Int) (has_no hx5 jj hlt hk)
              clear hx5 hk
              go_wp2_with fail
              refine HKY.mono ?_
              rintro e w6 ⟨rfl, hw⟩
              obtain rfl : wr = w6 := hw.symm
              have hlk := lookup_wan1 GK.out.1.mp (jj : Int)
              rw [hsame] at hlk
              replace hlk : (Instr.lookup 42 (.map (some b)) (.int .i64 (jj : Int)) false).run Tryd.prog wr = .ok (.string ⟨#[]⟩) wr := hlk
              have hcv := conv_src (Src.nil wr)
              rw [strE] at hcv
              replace hcv : (convert 22 9 (.slice none 0 0)).run Tryd.prog wr = .ok (.string ⟨#[]⟩) wr := hcv
              clear hw HKY hsame
              go_wp2_with fail
              refine ⟨⟨jj + 1, by omega, by simp, GK⟩, ?_⟩
              simp only [intOf]
              omega
        · obtain rfl : jj = 17 := by omega
          have HNW := Newest_any hx5
          rw [HNV.out] at HNW
          clear hx5
          go_wp2_with fail
          refine HNW.mono ?_
          rintro e w6 ⟨rfl, hw⟩
          obtain rfl : wr = w6 := hw.symm
          clear hw HNW
          go_wp2_with fail
          go_ret
          exact ⟨rfl, GK.out.2⟩
set_option maxHeartbeats 4000000 in
theorem learns_law (w : World) (a0 a1 : Option Addr) (l0 c0 n c1 : Nat) (h0 : RowIs w a0 l0 c0) (h1 : IntsIs w a1 n) :
    Calls Tryd.prog 6 #[.slice a0 l0 c0, .slice a1 n c1] w fun e w' => e = .returned (.bool true) ∧ Below w.heap.size w w' := by
  obtain ⟨s, _, hs⟩ := Src.of h0
  by_cases q0 : (100 : Int) < (l0 : Int)
  · clear hs h0 h1
    go_enter Tryd.func6, Tryd.ntmps6
    go_wp2_with fail
    refine (anchor_any w).mono ?_
    rintro e w1 ⟨rfl, hb1⟩
    have HB1 : Hid (Below w.heap.size w w1) := hb1
    clear hb1
    go_wp2_with fail
    go_ret
    exact ⟨rfl, HB1.out⟩
  by_cases q1 : (30 : Int) < (n : Int)
  · clear hs h0 h1
    go_enter Tryd.func6, Tryd.ntmps6
    go_wp2_with fail
    refine (anchor_any w).mono ?_
    rintro e w1 ⟨rfl, hb1⟩
    have HB1 : Hid (Below w.heap.size w w1) := hb1
    clear hb1
    go_wp2_with fail
    go_ret
    exact ⟨rfl, HB1.out⟩
  exact learns_main w a0 a1 l0 c0 n c1 s hs h1 (by omega) (by omega)
end Go.Proofs.YtagdlpodpokmmaaDoor.S7
