/- The contract of Open of a suite of signs. -/
import Derived.Test.YtfjdaafckiefdaaGreatDoorS7Find
namespace Go.Proofs.YtfjdaafckiefdaaGreatDoor.S7
open Go.RowKit
set_option maxHeartbeats 1000000 in
set_option maxRecDepth 10000 in
theorem Open_none (kv nv ov bv : Value) (pk pn po pb : Option Addr) (kl ck nl cn ol co bl cb : Nat) (p q : Nat) (w : World) (hkv : kv = .slice pk kl ck) (hnv : nv = .slice pn nl cn) (hov : ov = .slice po ol co) (hbv : bv = .slice pb bl cb)
    (c2 : w.cell? ⟨p, 2, none⟩ = some (.pointer (some ⟨q, 0, none⟩)))
    (HSZ : Hid (∀ w1, Calls Tryz.prog 75 #[kv, nv] w1 fun e w' => e = .returned (.bool true) ∧ w' = w1))
    (HF : Hid (Calls Tryz.prog 86 #[.pointer (some ⟨q, 0, none⟩), bv] w fun e w' => e = .returned (findSays none) ∧ Below w.heap.size w w')) :
    Calls Tryz.prog 40 #[.pointer (some ⟨p, 0, none⟩), kv, nv, ov, bv] w fun e w' => e = .returned (.tuple #[.slice none 0 0, .int .i64 20]) ∧ Below w.heap.size w w' := by
  subst hkv hnv hov hbv
  go_enter Tryz.func40, Tryz.ntmps40
  go_wp2_with fail
  refine (HSZ.out _).mono ?_
  rintro e w1 ⟨rfl, rfl⟩
  clear HSZ
  go_wp2_with fail
  refine HF.out.mono ?_
  rintro e w2 ⟨rfl, hb⟩
  have HB : Hid (Below w1.heap.size w1 w2) := hb
  clear hb HF c2
  unfold findSays zeroC
  go_wp2_with fail
  go_quiet (fail)
  go_wp2_with fail
  refine bodyPost_ret (results_tmp2 rfl _ _ _) rfl ?_
  exact ⟨rfl, (HB.out.alloc HB.out.size _).trans (below_drewN _ _ _)⟩
theorem held76 : Tryz.prog.stoodInHeld 118 = false := by kernel_rfl
theorem under76 : Tryz.prog.underlying 118 = some (.struct (Tryz.prog.fieldsOf 118)) := by kernel_rfl
theorem fields76' : (Tryz.prog.fieldsOf 118).toList.map (fun f => (f.name, f.type, f.offset)) = [("key", 9, 0), ("nonce", 9, 1), ("other", 9, 2)] := by kernel_rfl
theorem fields76 : ∃ f g h : Field, (Tryz.prog.fieldsOf 118).toList = [f, g, h] ∧ f.name = "key" ∧ f.type = 9 ∧ f.offset = 0 ∧ g.name = "nonce" ∧ g.type = 9 ∧ g.offset = 1 ∧ h.name = "other" ∧ h.type = 9 ∧ h.offset = 2 := by
  have h := fields76'
  match hl : (Tryz.prog.fieldsOf 118).toList with
  | [] => rw [hl] at h; simp at h
  | [_] => rw [hl] at h; simp at h
  | [_, _] => rw [hl] at h; simp at h
  | [f, g, k] =>
    rw [hl] at h
    simp only [List.map_cons, List.map_nil, List.cons.injEq, Prod.mk.injEq, and_true] at h
    obtain ⟨⟨a1, a2, a3⟩, ⟨b1, b2, b3⟩, c1, c2, c3⟩ := h
    exact ⟨f, g, k, rfl, a1, a2, a3, b1, b2, b3, c1, c2, c3⟩
  | _ :: _ :: _ :: _ :: _ => rw [hl] at h; simp at h
theorem run_neq_lock (w : World) (a b c x y z : ByteArray) : (binOp .neq 118 (.agg #[.string a, .string b, .string c]) (.agg #[.string x, .string y, .string z])).run Tryz.prog w = .ok (.bool !((a.toList == x.toList) && (b.toList == y.toList) && (c.toList == z.toList))) w := by
  have key : (Op.equal 118 (.agg #[.string a, .string b, .string c]) (.agg #[.string x, .string y, .string z])).run Tryz.prog w = .ok ((a.toList == x.toList) && (b.toList == y.toList) && (c.toList == z.toList)) w := by
    unfold Op.equal Op.maxDepth
    rw [show (10000 : Nat) = 9999 + 1 from rfl]
    obtain ⟨f, g, h, hl, f1, f2, f3, g1, g2, g3, h1, h2, h3⟩ := fields76
    rw [run_equalIn_struct w 9999 118 _ _ under76 held76, hl]
    have h9 : Tryz.prog.underlying 9 = some .string := Tryz.underlying9
    have e2 : ∀ a b : ByteArray, (Op.equalIn 9999 9 (.string a) (.string b)).run Tryz.prog w = .ok (a.toList == b.toList) w := fun a b => run_equalIn_string w 9998 9 a b h9
    simp only [Op.eqFields]
    simp [part, isAgg, run_underlying h9, e2, f1, f2, f3, g1, g2, g3, h1, h2, h3]
    by_cases a1 : a.toList = x.toList <;> by_cases a2 : b.toList = y.toList <;> by_cases a3 : c.toList = z.toList <;> simp [a1, a2, a3]
  simp [binOp, key]
/-- A slice of a block of bytes that is new. -/
def Nb (base : Nat) (w : World) (v : Value) : Prop := ∀ b, v.ownBlock = some b → base ≤ b ∧ ∃ cs fr, w.heap[b]? = some (.cells cs 5 fr)
theorem bytes_src (w : World) (l : List Nat) (hl : ∀ y ∈ l, y < 256) : ∃ v w', (convert 9 22 (.string (strB l))).run Tryz.prog w = .ok v w' ∧ Src w' v l ∧ Below w.heap.size w w' ∧ Nb w.heap.size w' v := by
  refine ⟨_, _, run_bytes_of_string w 9 22 5 (strB l) Tryz.underlying9 Tryz.underlying22 Tryz.underlying5, ?_, ?_, ?_⟩
  · rw [strB_size]
    generalize hc : grownCap w l.length 0 5 = c
    have hcl : l.length ≤ c := by rw [← hc]; exact grownCap_ge _ _ _ _
    refine Src.row hl hcl ?_ rfl
    intro j u hu
    rw [Nat.zero_add]
    have hj : j < l.length := by
      have := (List.getElem?_eq_some_iff.1 hu).1
      rwa [ints_length] at this
    rw [ints_get .u8 l j hj] at hu
    have hnew : (w.drew.alloc (.cells (bytesRow (strB l) c) 5 ((bytesRow (strB l) c).size, (bytesRow (strB l) c).size + 1))).heap[w.heap.size]? = some (.cells (bytesRow (strB l) c) 5 ((bytesRow (strB l) c).size, (bytesRow (strB l) c).size + 1)) := heap_alloc_new w.drew _
    rw [cell_of_row _ _ _ _ _ _ hnew, ← Option.some.inj hu]
    have hd : j < (strB l).data.size := by
      have := strB_size l
      rw [← ByteArray.size_data] at this
      omega
    have e1 : (strB l).data[j] = UInt8.ofNat (Sp.nth l j) := by
      have e2 : (strB l).data.toList[j]? = some (UInt8.ofNat (Sp.nth l j)) := by
        rw [strB_list, List.getElem?_map, Sp.nth_of hj]; rfl
      rw [Array.getElem?_toList] at e2
      rw [Array.getElem?_eq_getElem hd] at e2
      exact Option.some.inj e2
    have e3 : Sp.nth l j < 256 := Sp.nth_lt (by decide) hl j
    unfold bytesRow
    rw [Array.getElem?_append_left (by simpa using hd)]
    simp only [Array.getElem?_map, Option.map_eq_some_iff]
    refine ⟨_, Array.getElem?_eq_getElem hd, ?_⟩
    rw [e1]
    simp [Nat.mod_eq_of_lt e3]
  · exact ((Below.refl w.heap.size w).drew).alloc (Nat.le_refl _) _
  · intro b hb
    cases hb
    exact ⟨Nat.le_refl _, _, _, heap_alloc_new w.drew _⟩
end Go.Proofs.YtfjdaafckiefdaaGreatDoor.S7
/- The contract of Open of a suite of signs, where the box is found. -/
namespace Go.Proofs.YtfjdaafckiefdaaGreatDoor.S7
open Go.RowKit
set_option maxHeartbeats 1000000 in
set_option maxRecDepth 10000 in
theorem Open_same (u : Su.Thing) (k n o : List Nat) (kv nv ov bv : Value) (pk pn po pb : Option Addr) (kl ck nl cn ol co bl cb : Nat) (p q : Nat) (w : World) (hkv : kv = .slice pk kl ck) (hnv : nv = .slice pn nl cn) (hov : ov = .slice po ol co) (hbv : bv = .slice pb bl cb)
    (c2 : w.cell? ⟨p, 2, none⟩ = some (.pointer (some ⟨q, 0, none⟩)))
    (HSZ : Hid (∀ w1, Calls Tryz.prog 75 #[kv, nv] w1 fun e w' => e = .returned (.bool true) ∧ w' = w1))
    (HLK : Hid (∀ w1, Below w.heap.size w w1 → Calls Tryz.prog 76 #[kv, nv, ov] w1 fun e w' => e = .returned (.agg (lockV k n o)) ∧ Below w1.heap.size w1 w'))
    (HF : Hid (Calls Tryz.prog 86 #[.pointer (some ⟨q, 0, none⟩), bv] w fun e w' => e = .returned (findSays (some u)) ∧ Below w.heap.size w w'))
    (hu : ∀ y ∈ u.2.2.2.2, y < 256) (hq : u.2.1 = k ∧ u.2.2.1 = n ∧ u.2.2.2.1 = o) :
    Calls Tryz.prog 40 #[.pointer (some ⟨p, 0, none⟩), kv, nv, ov, bv] w fun e w' => ∃ v, e = .returned (.tuple #[v, .int .i64 0]) ∧ Src w' v u.2.2.2.2 ∧ Below w.heap.size w w' ∧ Nb w.heap.size w' v := by
  obtain ⟨rfl, rfl, rfl⟩ := hq
  have HU : Hid (∀ y ∈ u.2.2.2.2, y < 256) := hu
  subst hkv hnv hov hbv
  have hneq : ∀ w, (binOp .neq 118 (.agg (lockV u.2.1 u.2.2.1 u.2.2.2.1)) (.agg (lockV u.2.1 u.2.2.1 u.2.2.2.1))).run Tryz.prog w = .ok (.bool false) w := fun w => by
    have := run_neq_lock w (strB u.2.1) (strB u.2.2.1) (strB u.2.2.2.1) (strB u.2.1) (strB u.2.2.1) (strB u.2.2.2.1)
    unfold lockV
    simpa using this
  unfold lockV at hneq HLK
  clear hu
  go_enter Tryz.func40, Tryz.ntmps40
  go_wp2_with fail
  refine (HSZ.out _).mono ?_
  rintro e w1 ⟨rfl, rfl⟩
  clear HSZ
  go_wp2_with fail
  refine HF.out.mono ?_
  rintro e w2 ⟨rfl, hb⟩
  have HB : Hid (Below w1.heap.size w1 w2) := hb
  clear hb HF c2
  unfold findSays contentV
  have HB3 : Hid (Below w1.heap.size w1 (w2.alloc (.cells #[.string (strB u.2.1), .string (strB u.2.2.1), .string (strB u.2.2.2.1), .string (strB u.2.2.2.2)] 121))) := HB.out.alloc HB.out.size _
  have HN3 : Hid ((w2.alloc (.cells #[.string (strB u.2.1), .string (strB u.2.2.1), .string (strB u.2.2.2.1), .string (strB u.2.2.2.2)] 121)).heap[w2.heap.size]? = some (.cells #[.string (strB u.2.1), .string (strB u.2.2.1), .string (strB u.2.2.2.1), .string (strB u.2.2.2.2)] 121 (0, 0))) := heap_alloc_new w2 _
  have HLK4 : Hid (Calls Tryz.prog 76 #[.slice pk kl ck, .slice pn nl cn, .slice po ol co] (w2.alloc (.cells #[.string (strB u.2.1), .string (strB u.2.2.1), .string (strB u.2.2.2.1), .string (strB u.2.2.2.2)] 121)).drew fun e w' => e = .returned (.agg #[.string (strB u.2.1), .string (strB u.2.2.1), .string (strB u.2.2.2.1)]) ∧ Below (w2.alloc (.cells #[.string (strB u.2.1), .string (strB u.2.2.1), .string (strB u.2.2.2.1), .string (strB u.2.2.2.2)] 121)).heap.size (w2.alloc (.cells #[.string (strB u.2.1), .string (strB u.2.2.1), .string (strB u.2.2.2.1), .string (strB u.2.2.2.2)] 121)) w') := (HLK.out _ (HB3.out.trans (below_drewN 1 _ _))).mono (fun _ _ ⟨h1, h2⟩ => ⟨h1, (below_drewN 1 _ _).trans h2⟩)
  clear HLK
  go_wp2_with fail
  go_region_with ((go_at_call 76; refine HLK4.out.mono ?_; rintro e w4 ⟨rfl, hb4⟩; obtain ⟨y0, y1, y2, y3, _⟩ := cells4 ((hb4.block _ (Array.getElem?_eq_some_iff.1 HN3.out).1).trans HN3.out); have HB4 : Hid (Below w1.heap.size w1 w4) := HB3.out.trans (hb4.mono HB3.out.size); clear hb4; obtain ⟨v5, w5, hcv5, hs5, hb5, ho5⟩ := bytes_src w4 u.2.2.2.2 HU.out; have HS5 : Hid (Src w5 v5 u.2.2.2.2) := hs5; have HB5 : Hid (Below w1.heap.size w1 w5) := HB4.out.trans (hb5.mono HB4.out.size); have HO5 : Hid (Nb w1.heap.size w5 v5) := fun b hb => ⟨Nat.le_trans HB4.out.size (ho5 b hb).1, (ho5 b hb).2⟩; clear hs5 hb5 ho5))
  all_goals
    go_wp2_with fail
    refine bodyPost_ret (results_tmp2 rfl _ _ _) rfl ?_
    exact ⟨_, rfl, HS5.out, HB5.out, HO5.out⟩
end Go.Proofs.YtfjdaafckiefdaaGreatDoor.S7
/- The contract of Open of a suite of signs, where the box is found. -/
namespace Go.Proofs.YtfjdaafckiefdaaGreatDoor.S7
open Go.RowKit
set_option maxHeartbeats 1000000 in
set_option maxRecDepth 10000 in
theorem Open_other (u : Su.Thing) (k n o : List Nat) (kv nv ov bv : Value) (pk pn po pb : Option Addr) (kl ck nl cn ol co bl cb : Nat) (p q : Nat) (w : World) (hkv : kv = .slice pk kl ck) (hnv : nv = .slice pn nl cn) (hov : ov = .slice po ol co) (hbv : bv = .slice pb bl cb)
    (c2 : w.cell? ⟨p, 2, none⟩ = some (.pointer (some ⟨q, 0, none⟩)))
    (HSZ : Hid (∀ w1, Calls Tryz.prog 75 #[kv, nv] w1 fun e w' => e = .returned (.bool true) ∧ w' = w1))
    (HLK : Hid (∀ w1, Below w.heap.size w w1 → Calls Tryz.prog 76 #[kv, nv, ov] w1 fun e w' => e = .returned (.agg (lockV k n o)) ∧ Below w1.heap.size w1 w'))
    (HF : Hid (Calls Tryz.prog 86 #[.pointer (some ⟨q, 0, none⟩), bv] w fun e w' => e = .returned (findSays (some u)) ∧ Below w.heap.size w w'))
    (hneq : ∀ w, (binOp .neq 118 (.agg (lockV u.2.1 u.2.2.1 u.2.2.2.1)) (.agg (lockV k n o))).run Tryz.prog w = .ok (.bool true) w) :
    Calls Tryz.prog 40 #[.pointer (some ⟨p, 0, none⟩), kv, nv, ov, bv] w fun e w' => e = .returned (.tuple #[.slice none 0 0, .int .i64 20]) ∧ Below w.heap.size w w' := by
  subst hkv hnv hov hbv
  unfold lockV at hneq HLK
  go_enter Tryz.func40, Tryz.ntmps40
  go_wp2_with fail
  refine (HSZ.out _).mono ?_
  rintro e w1 ⟨rfl, rfl⟩
  clear HSZ
  go_wp2_with fail
  refine HF.out.mono ?_
  rintro e w2 ⟨rfl, hb⟩
  have HB : Hid (Below w1.heap.size w1 w2) := hb
  clear hb HF c2
  unfold findSays contentV
  have HB3 : Hid (Below w1.heap.size w1 (w2.alloc (.cells #[.string (strB u.2.1), .string (strB u.2.2.1), .string (strB u.2.2.2.1), .string (strB u.2.2.2.2)] 121))) := HB.out.alloc HB.out.size _
  have HN3 : Hid ((w2.alloc (.cells #[.string (strB u.2.1), .string (strB u.2.2.1), .string (strB u.2.2.2.1), .string (strB u.2.2.2.2)] 121)).heap[w2.heap.size]? = some (.cells #[.string (strB u.2.1), .string (strB u.2.2.1), .string (strB u.2.2.2.1), .string (strB u.2.2.2.2)] 121 (0, 0))) := heap_alloc_new w2 _
  have HLK4 : Hid (Calls Tryz.prog 76 #[.slice pk kl ck, .slice pn nl cn, .slice po ol co] (w2.alloc (.cells #[.string (strB u.2.1), .string (strB u.2.2.1), .string (strB u.2.2.2.1), .string (strB u.2.2.2.2)] 121)).drew fun e w' => e = .returned (.agg #[.string (strB k), .string (strB n), .string (strB o)]) ∧ Below (w2.alloc (.cells #[.string (strB u.2.1), .string (strB u.2.2.1), .string (strB u.2.2.2.1), .string (strB u.2.2.2.2)] 121)).heap.size (w2.alloc (.cells #[.string (strB u.2.1), .string (strB u.2.2.1), .string (strB u.2.2.2.1), .string (strB u.2.2.2.2)] 121)) w') := (HLK.out _ (HB3.out.trans (below_drewN 1 _ _))).mono (fun _ _ ⟨h1, h2⟩ => ⟨h1, (below_drewN 1 _ _).trans h2⟩)
  clear HLK
  go_wp2_with fail
  go_region_with ((go_at_call 76; refine HLK4.out.mono ?_; rintro e w4 ⟨rfl, hb4⟩; obtain ⟨y0, y1, y2, y3, _⟩ := cells4 ((hb4.block _ (Array.getElem?_eq_some_iff.1 HN3.out).1).trans HN3.out); have HB4 : Hid (Below w1.heap.size w1 w4) := HB3.out.trans (hb4.mono HB3.out.size); clear hb4))
  all_goals
    go_wp2_with fail
    refine bodyPost_ret (results_tmp2 rfl _ _ _) rfl ?_
    exact ⟨rfl, HB4.out⟩
end Go.Proofs.YtfjdaafckiefdaaGreatDoor.S7
/- The contract of Open of a suite of signs, of any bytes. -/
namespace Go.Proofs.YtfjdaafckiefdaaGreatDoor.S7
open Go.RowKit
/-- What Open tells. -/
def OpenSays (base : Nat) (r : Option (List Nat)) (e : Ending) (w' : World) : Prop := match r with
  | some t => ∃ v, e = .returned (.tuple #[v, .int .i64 0]) ∧ Src w' v t ∧ Nb base w' v
  | none => e = .returned (.tuple #[.slice none 0 0, .int .i64 20])
theorem Open_any (k n o bs : List Nat) (kv nv ov bv : Value) (p q m x : Nat) (L : List Su.Thing) (w : World) (h : SuIs w p q m x L) (hk : Src w kv k) (hn : Src w nv n) (ho : Src w ov o) (hb : Src w bv bs)
    (lk : k.length = 32) (ln : n.length = 12) (hbl : bs.length ≤ 60000) (hL : L.length < 1000000) (hS : ∀ u ∈ L, u.2.2.2.2.length ≤ 50000) :
    Calls Tryz.prog 40 #[.pointer (some ⟨p, 0, none⟩), kv, nv, ov, bv] w fun e w' => OpenSays w.heap.size (Su.opens k n o bs 0 L) e w' ∧ Below w.heap.size w w' := by
  have HSZ : Hid (∀ w1, Calls Tryz.prog 75 #[kv, nv] w1 fun e w' => e = .returned (.bool true) ∧ w' = w1) := fun w1 => by
    obtain ⟨pk, ck, rfl, _⟩ := hk.slice
    obtain ⟨pn, cn, rfl, _⟩ := hn.slice
    rw [lk, ln]
    exact sizes_ok _ _ _ _ w1
  have HLK : Hid (∀ w1, Below w.heap.size w w1 → Calls Tryz.prog 76 #[kv, nv, ov] w1 fun e w' => e = .returned (.agg (lockV k n o)) ∧ Below w1.heap.size w1 w') := fun w1 h1 => lockOf_any _ _ _ w1 (hk.below h1) (hn.below h1) (ho.below h1)
  have HF : Hid (Calls Tryz.prog 86 #[.pointer (some ⟨q, 0, none⟩), bv] w fun e w' => e = .returned (findSays (found L bs)) ∧ Below w.heap.size w w') := find_any bs bv q m x L w h.signs h.boxes hb hbl hL hS
  obtain ⟨_, _, c2, _⟩ := cells3 h.box
  obtain ⟨pk, ck, ek, _⟩ := hk.slice
  obtain ⟨pn, cn, en, _⟩ := hn.slice
  obtain ⟨po, co, eo, _⟩ := ho.slice
  obtain ⟨pb, cb, eb, _⟩ := hb.slice
  rw [opens_found hb.small hL]
  cases hf : found L bs with
  | none =>
    rw [hf] at HF
    exact Open_none kv nv ov bv pk pn po pb _ ck _ cn _ co _ cb p q w ek en eo eb c2 HSZ HF
  | some u =>
    rw [hf] at HF
    have hu := h.fine u (found_mem hf)
    rw [Option.bind_some]
    by_cases hq : u.2.1 = k ∧ u.2.2.1 = n ∧ u.2.2.2.1 = o
    · rw [if_pos hq]
      refine (Open_same u k n o kv nv ov bv pk pn po pb _ ck _ cn _ co _ cb p q w ek en eo eb c2 HSZ HLK HF hu.2.2.2 hq).mono ?_
      rintro e w' ⟨v, rfl, h1, h2, h3⟩
      exact ⟨⟨v, rfl, h1, h3⟩, h2⟩
    · rw [if_neg hq]
      refine Open_other u k n o kv nv ov bv pk pn po pb _ ck _ cn _ co _ cb p q w ek en eo eb c2 HSZ HLK HF (fun w1 => ?_)
      unfold lockV
      rw [run_neq_lock, strB_beqL hu.1 hk.small, strB_beqL hu.2.1 hn.small, strB_beqL hu.2.2.1 ho.small]
      have : (decide (u.2.1 = k) && decide (u.2.2.1 = n) && decide (u.2.2.2.1 = o)) = false := by
        rw [Bool.eq_false_iff]
        intro e
        simp only [Bool.and_eq_true, decide_eq_true_eq] at e
        exact hq ⟨e.1.1, e.1.2, e.2⟩
      rw [this]
      rfl
end Go.Proofs.YtfjdaafckiefdaaGreatDoor.S7
/- What the statements' walks use of the contracts: a new suite; sums and codes of one part that is laid for the call; a text that stands in the program. -/
namespace Go.Proofs.YtfjdaafckiefdaaGreatDoor.S7
open Go.RowKit
theorem law_convert {P : Program} {ops : Array Oper} {rest : List Oper} {dst : Option Tmp} {T : TypeId} {pos : String} {after : Array Edge} {a : Act} {w : World} {Q : Exit → Act → World → Prop} {ty tz : TypeId} {x : Operand} (v0 v1 : Value) (w1 : World)
    (hx : a.eval x = v0) (hrun : (convert ty tz v0).run P w = .ok v1 w1) (h : wpList P ops Q rest (a.put dst v1) w1) :
    wpList P ops Q ({ dst := dst, op := .convert ty tz x, type := T, pos := pos, after := after, guard := none } :: rest) a w := by
  refine wpList_plain rfl fun K' hK' => ?_
  unfold Oper.wp
  simp [execOp, hx, hrun, Result.andThen]
  exact hK' _ _ h
theorem Signs_new (w : World) : Calls Tryz.prog 17 #[] w fun e w' => ∃ p q m x, e = .returned (.pointer (some ⟨p, 0, none⟩)) ∧ SuIs w' p q m x [] ∧ Below w.heap.size w w' ∧ (w.heap.size ≤ p ∧ w.heap.size ≤ q ∧ w.heap.size ≤ m ∧ w.heap.size ≤ x) :=
  (Signs_any w).mono (fun _ _ ⟨h1, h2, h3, _⟩ => ⟨_, _, _, _, h1, h2, h3, by omega⟩)
theorem cell_part (w : World) (v : Value) : (w.alloc (.cells #[v] 22)).cell? ⟨w.heap.size, 0, none⟩ = some v := by
  rw [cell_of_row _ _ _ _ _ _ (heap_alloc_new w _)]
  rfl
/-- A sign that was told stays what it is, whatever is asked of suites that were there. -/
theorem own_stays {w w' : World} {B : Nat} {v : Value} {n : Nat} {l : List Nat} {bs : List Nat} (h : w.ownsRow B 5 1 v n (ints .u8 l)) (ho : Only bs w w') (hs : ∀ y ∈ bs, y < B) : w'.ownsRow B 5 1 v n (ints .u8 l) :=
  own_only h ho (own_off h hs)
end Go.Proofs.YtfjdaafckiefdaaGreatDoor.S7
