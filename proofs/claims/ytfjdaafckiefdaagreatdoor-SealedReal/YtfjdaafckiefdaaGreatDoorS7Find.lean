/- The contract of find. -/
import Derived.Test.YtfjdaafckiefdaaGreatDoorMgK
namespace Go.Proofs.YtfjdaafckiefdaaGreatDoor.S7
open Go.RowKit
def zeroC : Value := .agg #[.string ⟨#[]⟩, .string ⟨#[]⟩, .string ⟨#[]⟩, .string ⟨#[]⟩]
/-- What find tells. -/
def findSays (r : Option Su.Thing) : Value := match r with
  | some u => .tuple #[contentV u, .bool true]
  | none => .tuple #[zeroC, .bool false]
theorem cells4 {w : World} {p : Nat} {a b c d : Value} {t : TypeId} (h : w.heap[p]? = some (.cells #[a, b, c, d] t (0, 0))) :
    w.cell? ⟨p, 0, none⟩ = some a ∧ w.cell? ⟨p, 1, none⟩ = some b ∧ w.cell? ⟨p, 2, none⟩ = some c ∧ w.cell? ⟨p, 3, none⟩ = some d ∧ ∀ i, w.frozen? ⟨p, i, none⟩ = false :=
  ⟨by rw [cell_of_row _ _ _ _ _ _ h]; rfl, by rw [cell_of_row _ _ _ _ _ _ h]; rfl, by rw [cell_of_row _ _ _ _ _ _ h]; rfl, by rw [cell_of_row _ _ _ _ _ _ h]; rfl, fun i => frozen_of_row _ _ _ _ _ h⟩
set_option maxHeartbeats 400000 in
set_option maxRecDepth 10000 in
theorem find_short (a : Option Addr) (n c : Nat) (q : Nat) (w : World) (hn : n < 16) :
    Calls Tryz.prog 86 #[.pointer (some ⟨q, 0, none⟩), .slice a n c] w fun e w' => e = .returned (findSays none) ∧ Below w.heap.size w w' := by
  have g : (n : Int) < 16 := by omega
  go_enter Tryz.func86, Tryz.ntmps86
  go_wp2_with fail
  exact bodyPost_ret (v := findSays none) (by simp [results, Tryz.results86, go_sem, findSays, zeroC]) rfl ⟨rfl, (Below.refl _ _).alloc (Nat.le_refl _) _⟩
set_option maxHeartbeats 400000 in
set_option maxRecDepth 10000 in
theorem find_none (bs : List Nat) (b o c : Nat) (q m x : Nat) (L : List Su.Thing) (w : World) (hq : w.heap[q]? = some (.cells #[.map (some m), .map (some x)] 91 (0, 0))) (hx : MapIs w x (boxes 0 L)) (hs : ∀ y ∈ bs, y < 256) (hr : w.rangeAt b o (ints .u8 bs)) (h16 : 16 ≤ bs.length) (hc : bs.length ≤ c) (hbl : bs.length ≤ 60000) (hN : Su.boxAt (Su.signed (Su.last bs)) 0 L = none) :
    Calls Tryz.prog 86 #[.pointer (some ⟨q, 0, none⟩), .slice (some ⟨b, o, none⟩) bs.length c] w fun e w' => e = .returned (findSays none) ∧ Below w.heap.size w w' := by
  have HRN : Hid (∀ w1, Below w.heap.size w w1 → Calls Tryz.prog 119 #[.slice (some ⟨b, o + (bs.length - 8), none⟩) 8 (c - (bs.length - 8))] w1 fun e w' => e = .returned (.int .i64 (Su.signed (Su.last bs))) ∧ w' = w1) := fun w1 hb =>
    readNumber_any (bs.drop (bs.length - 8)) b (o + (bs.length - 8)) _ w1 (by rw [List.length_drop]; omega) (fun y hy => hs y (List.mem_of_mem_drop hy)) (rangeAt_below hb (fun j u hu => by
      rw [Nat.add_assoc]
      apply hr
      rw [← hu]
      simp [ints]))
  have HLK : Hid (∀ w1, Below w.heap.size w w1 → (Instr.lookup 89 (.map (some x)) (.int .i64 (Su.signed (Su.last bs))) true).run Tryz.prog w1 = .ok (findSays none) w1 ∧ w1.cell? ⟨q, 1, none⟩ = some (.map (some x))) := fun w1 hb => by
    have h1 := lookup_boxes (N := Su.signed (Su.last bs)) (hx.kept (hb.block x hx.lt))
    rw [hN] at h1
    exact ⟨h1, (cells2 ((hb.block q (Array.getElem?_eq_some_iff.1 hq).1).trans hq)).2⟩
  generalize Su.signed (Su.last bs) = N at *
  unfold findSays zeroC at HLK
  clear hq hx hs hr hN
  obtain ⟨n, hn⟩ : ∃ n, bs.length = n + 8 := ⟨bs.length - 8, by omega⟩
  rw [hn, Nat.add_sub_cancel] at HRN
  rw [hn] at h16 hc hbl ⊢
  have HNL : Hid (bs.length = n + 8) := hn
  clear hn
  have g1 : ¬ (n : Int) + 8 < 16 := by omega
  have g2 : (n : Int) + 8 - 8 = (n : Int) := by omega
  have g3 : (0 : Int) ≤ (n : Int) := by omega
  have g4 : (n : Int) ≤ (n : Int) + 8 := by omega
  have g5 : (n : Int) + 8 ≤ (c : Int) := by omega
  have g6 : (n : Int) + 8 ≤ 60000 := by omega
  have HR9 : Hid (Calls Tryz.prog 119 #[.slice (some ⟨b, o + n, none⟩) 8 (c - n)] (w.alloc (.cells #[.string ⟨#[]⟩, .string ⟨#[]⟩, .string ⟨#[]⟩, .string ⟨#[]⟩] 121)) fun e w' => e = .returned (.int .i64 N) ∧ w' = w.alloc (.cells #[.string ⟨#[]⟩, .string ⟨#[]⟩, .string ⟨#[]⟩, .string ⟨#[]⟩] 121)) := HRN.out _ ((Below.refl _ _).alloc (Nat.le_refl _) _)
  clear HRN
  obtain ⟨hk1, hk2⟩ := HLK.out (w.alloc (.cells #[.string ⟨#[]⟩, .string ⟨#[]⟩, .string ⟨#[]⟩, .string ⟨#[]⟩] 121)) ((Below.refl _ _).alloc (Nat.le_refl _) _)
  go_enter Tryz.func86, Tryz.ntmps86
  go_wp2_with fail
  refine HR9.out.mono ?_
  rintro e w1 ⟨rfl, rfl⟩
  go_wp2_with fail
  exact bodyPost_ret (v := findSays none) (by simp [results, Tryz.results86, go_sem, findSays, zeroC]) rfl ⟨rfl, ((Below.refl _ _).alloc (Nat.le_refl _) _).alloc (by simp) _⟩
set_option maxHeartbeats 400000 in
set_option maxRecDepth 10000 in
theorem find_some (bs : List Nat) (b o c : Nat) (q m x : Nat) (L : List Su.Thing) (u : Su.Thing) (w : World) (hq : w.heap[q]? = some (.cells #[.map (some m), .map (some x)] 91 (0, 0))) (hx : MapIs w x (boxes 0 L)) (hs : ∀ y ∈ bs, y < 256) (hr : w.rangeAt b o (ints .u8 bs)) (h16 : 16 ≤ bs.length) (hc : bs.length ≤ c) (hbl : bs.length ≤ 60000) (hN : Su.boxAt (Su.signed (Su.last bs)) 0 L = some u) (hu : u.2.2.2.2.length ≤ 50000) (hL : L.length < 1000000) :
    Calls Tryz.prog 86 #[.pointer (some ⟨q, 0, none⟩), .slice (some ⟨b, o, none⟩) bs.length c] w fun e w' => e = .returned (findSays (if Su.box (Su.last bs) u.2.2.2.2.length = bs then some u else none)) ∧ Below w.heap.size w w' := by
  have HRN : Hid (∀ w1, Below w.heap.size w w1 → Calls Tryz.prog 119 #[.slice (some ⟨b, o + (bs.length - 8), none⟩) 8 (c - (bs.length - 8))] w1 fun e w' => e = .returned (.int .i64 (Su.signed (Su.last bs))) ∧ w' = w1) := fun w1 hb =>
    readNumber_any (bs.drop (bs.length - 8)) b (o + (bs.length - 8)) _ w1 (by rw [List.length_drop]; omega) (fun y hy => hs y (List.mem_of_mem_drop hy)) (rangeAt_below hb (fun j u hu => by
      rw [Nat.add_assoc]
      apply hr
      rw [← hu]
      simp [ints]))
  have HLK : Hid (∀ w1, Below w.heap.size w w1 → (Instr.lookup 89 (.map (some x)) (.int .i64 (Su.signed (Su.last bs))) true).run Tryz.prog w1 = .ok (findSays (some u)) w1 ∧ w1.cell? ⟨q, 1, none⟩ = some (.map (some x))) := fun w1 hb => by
    have h1 := lookup_boxes (N := Su.signed (Su.last bs)) (hx.kept (hb.block x hx.lt))
    rw [hN] at h1
    exact ⟨h1, (cells2 ((hb.block q (Array.getElem?_eq_some_iff.1 hq).1).trans hq)).2⟩
  have hsg : Su.signed (Su.last bs) = (Su.last bs : Int) ∧ Su.last bs < 1000001 := by
    have h1 := Su.boxAt_le 0 L u hN
    have h2 : Su.signed (Su.last bs) = (Su.last bs : Int) := by
      have h3 := Su.last_lt hs
      revert h1
      unfold Su.signed
      split
      · intro _; rfl
      · intro h1; omega
    refine ⟨h2, ?_⟩
    omega
  have HBX : Hid (∀ w1, Calls Tryz.prog 77 #[.int .i64 (Su.last bs : Int), .int .i64 (u.2.2.2.2.length : Int)] w1 fun e w' => ∃ v, e = .returned v ∧ w'.ownsRow w1.heap.size 5 1 v (u.2.2.2.2.length + 16) (ints .u8 (Su.box (Su.last bs) u.2.2.2.2.length)) ∧ Below w1.heap.size w1 w') := fun w1 => boxOf_any (Su.last bs) u.2.2.2.2.length w1 hu (by omega)
  have HEQ : Hid (∀ w1 v, Below w.heap.size w w1 → w1.ownsRow w.heap.size 5 1 v (u.2.2.2.2.length + 16) (ints .u8 (Su.box (Su.last bs) u.2.2.2.2.length)) → Calls Tryz.prog 87 #[.slice (some ⟨b, o, none⟩) bs.length c, v] w1 fun e w' => e = .returned (.bool (decide (bs = Su.box (Su.last bs) u.2.2.2.2.length))) ∧ w' = w1) := fun w1 v hb ho => equal_any _ _ w1 (Src.row hs hc (rangeAt_below hb hr) rfl) (Src.own (Su.box_lt _ _) ho)
  rw [hsg.1] at HRN HLK
  have HSL : Hid ((strB u.2.2.2.2).size = u.2.2.2.2.length) := strB_size _
  obtain ⟨R, hR⟩ : ∃ R, (if Su.box (Su.last bs) u.2.2.2.2.length = bs then some u else none) = R := ⟨_, rfl⟩
  rw [hR]
  have HR1 : Hid (bs = Su.box (Su.last bs) u.2.2.2.2.length → R = some u) := fun h => by rw [← hR, if_pos h.symm]
  have HR0 : Hid (bs ≠ Su.box (Su.last bs) u.2.2.2.2.length → R = none) := fun h => by rw [← hR, if_neg (fun e => h e.symm)]
  clear hR hsg hu hL
  generalize Su.box (Su.last bs) u.2.2.2.2.length = B at *
  generalize Su.last bs = N at *
  unfold findSays contentV at HLK
  clear hq hx hs hr hN
  obtain ⟨n, hn⟩ : ∃ n, bs.length = n + 8 := ⟨bs.length - 8, by omega⟩
  rw [hn, Nat.add_sub_cancel] at HRN
  rw [hn] at HEQ
  rw [hn] at h16 hc hbl ⊢
  have HNL : Hid (bs.length = n + 8) := hn
  clear hn
  have g1 : ¬ (n : Int) + 8 < 16 := by omega
  have g2 : (n : Int) + 8 - 8 = (n : Int) := by omega
  have g3 : (0 : Int) ≤ (n : Int) := by omega
  have g4 : (n : Int) ≤ (n : Int) + 8 := by omega
  have g5 : (n : Int) + 8 ≤ (c : Int) := by omega
  have g6 : (n : Int) + 8 ≤ 60000 := by omega
  have HR9 : Hid (Calls Tryz.prog 119 #[.slice (some ⟨b, o + n, none⟩) 8 (c - n)] (w.alloc (.cells #[.string ⟨#[]⟩, .string ⟨#[]⟩, .string ⟨#[]⟩, .string ⟨#[]⟩] 121)) fun e w' => e = .returned (.int .i64 N) ∧ w' = w.alloc (.cells #[.string ⟨#[]⟩, .string ⟨#[]⟩, .string ⟨#[]⟩, .string ⟨#[]⟩] 121)) := HRN.out _ ((Below.refl _ _).alloc (Nat.le_refl _) _)
  clear HRN
  obtain ⟨hk1, hk2⟩ := HLK.out (w.alloc (.cells #[.string ⟨#[]⟩, .string ⟨#[]⟩, .string ⟨#[]⟩, .string ⟨#[]⟩] 121)) ((Below.refl _ _).alloc (Nat.le_refl _) _)
  go_enter Tryz.func86, Tryz.ntmps86
  go_wp2_with fail
  refine HR9.out.mono ?_
  rintro e w1 ⟨rfl, rfl⟩
  go_wp2_with fail
  clear hk1 hk2 HR9 HLK
  rw [HSL.out]
  have hb2 : Below w.heap.size w ((w.alloc (.cells #[.string ⟨#[]⟩, .string ⟨#[]⟩, .string ⟨#[]⟩, .string ⟨#[]⟩] 121)).alloc (.cells #[.string (strB u.2.1), .string (strB u.2.2.1), .string (strB u.2.2.2.1), .string (strB u.2.2.2.2)] 121)) := ((Below.refl _ _).alloc (Nat.le_refl _) _).alloc (by simp) _
  have hz2 : ((w.alloc (.cells #[.string ⟨#[]⟩, .string ⟨#[]⟩, .string ⟨#[]⟩, .string ⟨#[]⟩] 121)).alloc (.cells #[.string (strB u.2.1), .string (strB u.2.2.1), .string (strB u.2.2.2.1), .string (strB u.2.2.2.2)] 121)).heap[w.heap.size]? = some (.cells #[.string ⟨#[]⟩, .string ⟨#[]⟩, .string ⟨#[]⟩, .string ⟨#[]⟩] 121 (0, 0)) := by
    rw [Below.heap_alloc _ _ _ (by simp)]
    exact heap_alloc_new w _
  have hy2 : ((w.alloc (.cells #[.string ⟨#[]⟩, .string ⟨#[]⟩, .string ⟨#[]⟩, .string ⟨#[]⟩] 121)).alloc (.cells #[.string (strB u.2.1), .string (strB u.2.2.1), .string (strB u.2.2.2.1), .string (strB u.2.2.2.2)] 121)).heap[w.heap.size + 1]? = some (.cells #[.string (strB u.2.1), .string (strB u.2.2.1), .string (strB u.2.2.2.1), .string (strB u.2.2.2.2)] 121 (0, 0)) := by
    have := heap_alloc_new (w.alloc (.cells #[.string ⟨#[]⟩, .string ⟨#[]⟩, .string ⟨#[]⟩, .string ⟨#[]⟩] 121)) (.cells #[.string (strB u.2.1), .string (strB u.2.2.1), .string (strB u.2.2.2.1), .string (strB u.2.2.2.2)] 121)
    rwa [show (w.alloc (.cells #[.string ⟨#[]⟩, .string ⟨#[]⟩, .string ⟨#[]⟩, .string ⟨#[]⟩] 121)).heap.size = w.heap.size + 1 from by simp] at this
  generalize (w.alloc (.cells #[.string ⟨#[]⟩, .string ⟨#[]⟩, .string ⟨#[]⟩, .string ⟨#[]⟩] 121)).alloc (.cells #[.string (strB u.2.1), .string (strB u.2.2.1), .string (strB u.2.2.2.1), .string (strB u.2.2.2.2)] 121) = w2 at *
  refine (HBX.out w2).mono ?_
  rintro e w3 ⟨v, rfl, ho3, hb3⟩
  have hz3 := (hb3.block _ (Array.getElem?_eq_some_iff.1 hz2).1).trans hz2
  have hy3 := (hb3.block _ (Array.getElem?_eq_some_iff.1 hy2).1).trans hy2
  have HB3 : Hid (Below w.heap.size w w3) := hb2.trans (hb3.mono hb2.size)
  have HO3 : Hid (w3.ownsRow w.heap.size 5 1 v (u.2.2.2.2.length + 16) (ints .u8 B)) := own_older ho3 hb2.size
  obtain ⟨z0, z1, z2, z3, zf⟩ := cells4 hz3
  obtain ⟨y0, y1, y2, y3, _⟩ := cells4 hy3
  have zf0 := zf 0
  have zf1 := zf 1
  have zf2 := zf 2
  have zf3 := zf 3
  clear ho3 hb3 hz3 hy3 hz2 hy2 hb2 zf HBX
  obtain ⟨qv, cv, rfl⟩ := own_slice HO3.out
  go_wp2_with fail
  refine (HEQ.out w3 _ HB3.out HO3.out).mono ?_
  rintro e w4 ⟨rfl, rfl⟩
  by_cases hB : bs = B
  · have HRE : Hid (R = some u) := HR1.out hB
    rw [decide_eq_true hB]
    clear hB HEQ
    go_wp2_with fail
    exact bodyPost_ret (v := findSays (some u)) (by simp [results, Tryz.results86, go_sem, findSays, contentV, z0, z1, z2, z3]) rfl ⟨by rw [HRE.out], (((HB3.out.setCell (Nat.le_refl _) _).setCell (Nat.le_refl _) _).setCell (Nat.le_refl _) _).setCell (Nat.le_refl _) _⟩
  · have HRE : Hid (R = none) := HR0.out hB
    rw [decide_eq_false hB]
    clear hB HEQ
    go_wp2_with fail
    exact bodyPost_ret (v := findSays none) (by simp [results, Tryz.results86, go_sem, findSays, zeroC, z0, z1, z2, z3]) rfl ⟨by rw [HRE.out], (((HB3.out.setCell (Nat.le_refl _) _).setCell (Nat.le_refl _) _).setCell (Nat.le_refl _) _).setCell (Nat.le_refl _) _⟩
/-- Which of the list a box is. -/
def found (L : List Su.Thing) (bs : List Nat) : Option Su.Thing := if bs.length < 16 then none else match Su.boxAt (Su.signed (Su.last bs)) 0 L with
  | some u => if Su.box (Su.last bs) u.2.2.2.2.length = bs then some u else none
  | none => none
theorem found_mem {L : List Su.Thing} {bs : List Nat} {u : Su.Thing} (h : found L bs = some u) : u ∈ L := by
  unfold found at h
  split at h
  · cases h
  · cases hb : Su.boxAt (Su.signed (Su.last bs)) 0 L with
    | none => rw [hb] at h; cases h
    | some v =>
      rw [hb] at h
      simp only at h
      split at h
      · cases h
        exact (Su.boxAt_le 0 L u hb).1
      · cases h
theorem opens_found {L : List Su.Thing} {k n o bs : List Nat} (hs : ∀ y ∈ bs, y < 256) (hL : L.length < 1000000) :
    Su.opens k n o bs 0 L = (found L bs).bind fun u => if u.2.1 = k ∧ u.2.2.1 = n ∧ u.2.2.2.1 = o then some u.2.2.2.2 else none := by
  unfold found
  by_cases h16 : bs.length < 16
  · rw [Su.opens_short h16, if_pos h16]; rfl
  · rw [if_neg h16, Su.opens_by (Su.last_lt hs) 0 L (by omega)]
    cases hb : Su.boxAt (Su.signed (Su.last bs)) 0 L with
    | none => rfl
    | some u =>
      simp only
      by_cases h1 : Su.box (Su.last bs) u.2.2.2.2.length = bs
      · rw [if_pos h1, Option.bind_some]
        by_cases h2 : u.2.1 = k ∧ u.2.2.1 = n ∧ u.2.2.2.1 = o
        · rw [if_pos ⟨h1, h2⟩, if_pos h2]
        · rw [if_neg (fun h => h2 h.2), if_neg h2]
      · rw [if_neg h1, if_neg (fun h => h1 h.1)]; rfl
/-- find, of any bytes. -/
theorem find_any (bs : List Nat) (v : Value) (q m x : Nat) (L : List Su.Thing) (w : World) (hq : w.heap[q]? = some (.cells #[.map (some m), .map (some x)] 91 (0, 0))) (hx : MapIs w x (boxes 0 L)) (hv : Src w v bs) (hbl : bs.length ≤ 60000) (hL : L.length < 1000000) (hS : ∀ u ∈ L, u.2.2.2.2.length ≤ 50000) :
    Calls Tryz.prog 86 #[.pointer (some ⟨q, 0, none⟩), v] w fun e w' => e = .returned (findSays (found L bs)) ∧ Below w.heap.size w w' := by
  unfold found
  by_cases h16 : bs.length < 16
  · rw [if_pos h16]
    obtain ⟨p, c, rfl, _⟩ := hv.slice
    exact find_short p bs.length c q w h16
  · rw [if_neg h16]
    obtain ⟨hs, ⟨_, rfl⟩ | ⟨_, _, _, rfl⟩ | ⟨b, o, c, rfl, hc, hr⟩⟩ := hv
    · exact absurd (by decide) h16
    · exact absurd (by decide) h16
    · cases hb : Su.boxAt (Su.signed (Su.last bs)) 0 L with
      | none => exact find_none bs b o c q m x L w hq hx hs hr (by omega) hc hbl hb
      | some u => exact find_some bs b o c q m x L u w hq hx hs hr (by omega) hc hbl hb (hS u (Su.boxAt_le 0 L u hb).1) hL
end Go.Proofs.YtfjdaafckiefdaaGreatDoor.S7
