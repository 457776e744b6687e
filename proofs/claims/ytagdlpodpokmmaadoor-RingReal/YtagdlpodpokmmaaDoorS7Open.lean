/- The contract of Open of a suite of signs. -/
import Derived.Test.YtagdlpodpokmmaaDoorS7Find
namespace Go.Proofs.YtagdlpodpokmmaaDoor.S7
open Go.RowKit
set_option maxHeartbeats 1000000 in
theorem Open_bad (a b : Option Addr) (n c m d : Nat) (o t : Value) (p q mb x : Nat) (L : List Su.Thing) (w : World) (h : SuIs w p q mb x L) (hn : n ≠ 32 ∨ m ≠ 12) :
    Calls Tryd.prog 29 #[.pointer (some ⟨p, 0, none⟩), .slice a n c, .slice b m d, o, t] w fun e w' => e = .returned (.tuple #[.slice none 0 0, .int .i64 11]) ∧ w' = w := by
  have HX : Hid (Calls Tryd.prog 40 #[.slice a n c, .slice b m d] w fun e w' => e = .returned (.bool false) ∧ w' = w) := sizes_bad a b n c m d w hn
  obtain ⟨_, _, c2, _⟩ := cells3 h.box
  clear h hn
  go_enter Tryd.func29, Tryd.ntmps29
  go_wp2_with fail
  refine HX.out.mono ?_
  rintro e w1 ⟨rfl, rfl⟩
  go_wp2_with fail
  refine bodyPost_ret (results_tmp2 rfl _ _ _) rfl ?_
  exact ⟨rfl, rfl⟩
set_option maxHeartbeats 1000000 in
set_option maxRecDepth 10000 in
theorem Open_none (kv nv ov bv : Value) (pk pn po pb : Option Addr) (kl ck nl cn ol co bl cb : Nat) (p q : Nat) (w : World) (hkv : kv = .slice pk kl ck) (hnv : nv = .slice pn nl cn) (hov : ov = .slice po ol co) (hbv : bv = .slice pb bl cb)
    (c2 : w.cell? ⟨p, 2, none⟩ = some (.pointer (some ⟨q, 0, none⟩)))
    (HSZ : Hid (∀ w1, Calls Tryd.prog 40 #[kv, nv] w1 fun e w' => e = .returned (.bool true) ∧ w' = w1))
    (HF : Hid (Calls Tryd.prog 44 #[.pointer (some ⟨q, 0, none⟩), bv] w fun e w' => e = .returned (findSays none) ∧ Below w.heap.size w w')) :
    Calls Tryd.prog 29 #[.pointer (some ⟨p, 0, none⟩), kv, nv, ov, bv] w fun e w' => e = .returned (.tuple #[.slice none 0 0, .int .i64 20]) ∧ Below w.heap.size w w' := by
  subst hkv hnv hov hbv
  go_enter Tryd.func29, Tryd.ntmps29
  go_wp2_with fail
  refine (HSZ.out _).mono ?_
  rintro e w1 ⟨rfl, rfl⟩
  clear HSZ
  go_wp2_with fail
  refine HF.out.mono ?_
  rintro e w2 ⟨rfl, hb⟩
  have HB : Hid (Below w1.heap.size w1 w2) := hb
  clear hb HF c2
  unfold findSays zeroC
  go_wp2_with fail
  go_quiet (fail)
  go_wp2_with fail
  refine bodyPost_ret (results_tmp2 rfl _ _ _) rfl ?_
  exact ⟨rfl, (HB.out.alloc HB.out.size _).trans (below_drewN _ _ _)⟩
theorem held76 : Tryd.prog.stoodInHeld 74 = false := by kernel_rfl
theorem under76 : Tryd.prog.underlying 74 = some (.struct (Tryd.prog.fieldsOf 74)) := by kernel_rfl
theorem fields76' : (Tryd.prog.fieldsOf 74).toList.map (fun f => (f.name, f.type, f.offset)) = [("key", 9, 0), ("nonce", 9, 1), ("other", 9, 2)] := by kernel_rfl
theorem fields76 : ∃ f g h : Field, (Tryd.prog.fieldsOf 74).toList = [f, g, h] ∧ f.name = "key" ∧ f.type = 9 ∧ f.offset = 0 ∧ g.name = "nonce" ∧ g.type = 9 ∧ g.offset = 1 ∧ h.name = "other" ∧ h.type = 9 ∧ h.offset = 2 := by
  have h := fields76'
  match hl : (Tryd.prog.fieldsOf 74).toList with
  | [] => rw [hl] at h; simp at h
  | [_] => rw [hl] at h; simp at h
  | [_, _] => rw [hl] at h; simp at h
  | [f, g, k] =>
    rw [hl] at h
    simp only [List.map_cons, List.map_nil, List.cons.injEq, Prod.mk.injEq, and_true] at h
    obtain ⟨⟨a1, a2, a3⟩, ⟨b1, b2, b3⟩, c1, c2, c3⟩ := h
    exact ⟨f, g, k, rfl, a1, a2, a3, b1, b2, b3, c1, c2, c3⟩
  | _ :: _ :: _ :: _ :: _ => rw [hl] at h; simp at h
theorem run_neq_lock (w : World) (a b c x y z : ByteArray) : (binOp .neq 74 (.agg #[.string a, .string b, .string c]) (.agg #[.string x, .string y, .string z])).run Tryd.prog w = .ok (.bool !((a.toList == x.toList) && (b.toList == y.toList) && (c.toList == z.toList))) w := by
  have key : (Op.equal 74 (.agg #[.string a, .string b, .string c]) (.agg #[.string x, .string y, .string z])).run Tryd.prog w = .ok ((a.toList == x.toList) && (b.toList == y.toList) && (c.toList == z.toList)) w := by
    unfold Op.equal Op.maxDepth
    rw [show (10000 : Nat) = 9999 + 1 from rfl]
    obtain ⟨f, g, h, hl, f1, f2, f3, g1, g2, g3, h1, h2, h3⟩ := fields76
    rw [run_equalIn_struct w 9999 74 _ _ under76 held76, hl]
    have h9 : Tryd.prog.underlying 9 = some .string := Tryd.underlying9
    have e2 : ∀ a b : ByteArray, (Op.equalIn 9999 9 (.string a) (.string b)).run Tryd.prog w = .ok (a.toList == b.toList) w := fun a b => run_equalIn_string w 9998 9 a b h9
    simp only [Op.eqFields]
    simp [part, isAgg, run_underlying h9, e2, f1, f2, f3, g1, g2, g3, h1, h2, h3]
    by_cases a1 : a.toList = x.toList <;> by_cases a2 : b.toList = y.toList <;> by_cases a3 : c.toList = z.toList <;> simp [a1, a2, a3]
  simp [binOp, key]
theorem bytes_src (w : World) (l : List Nat) (hl : ∀ y ∈ l, y < 256) : ∃ v w', (convert 9 22 (.string (strB l))).run Tryd.prog w = .ok v w' ∧ Src w' v l ∧ Below w.heap.size w w' ∧ ∀ b, v.ownBlock = some b → w.heap.size ≤ b := by
  refine ⟨_, _, run_bytes_of_string w 9 22 5 (strB l) Tryd.underlying9 Tryd.underlying22 Tryd.underlying5, ?_, ?_, ?_⟩
  · rw [strB_size]
    generalize hc : grownCap w l.length 0 5 = c
    have hcl : l.length ≤ c := by rw [← hc]; exact grownCap_ge _ _ _ _
    refine Src.row hl hcl ?_ rfl
    intro j u hu
    rw [Nat.zero_add]
    have hj : j < l.length := by
      have := (List.getElem?_eq_some_iff.1 hu).1
      rwa [ints_length] at this
    rw [ints_get .u8 l j hj] at hu
    have hnew : (w.drew.alloc (.cells (bytesRow (strB l) c) 5 ((bytesRow (strB l) c).size, (bytesRow (strB l) c).size + 1))).heap[w.heap.size]? = some (.cells (bytesRow (strB l) c) 5 ((bytesRow (strB l) c).size, (bytesRow (strB l) c).size + 1)) := heap_alloc_new w.drew _
    rw [cell_of_row _ _ _ _ _ _ hnew, ← Option.some.inj hu]
    have hd : j < (strB l).data.size := by
      have := strB_size l
      rw [← ByteArray.size_data] at this
      omega
    have e1 : (strB l).data[j] = UInt8.ofNat (Sp.nth l j) := by
      have e2 : (strB l).data.toList[j]? = some (UInt8.ofNat (Sp.nth l j)) := by
        rw [strB_list, List.getElem?_map, Sp.nth_of hj]; rfl
      rw [Array.getElem?_toList] at e2
      rw [Array.getElem?_eq_getElem hd] at e2
      exact Option.some.inj e2
    have e3 : Sp.nth l j < 256 := Sp.nth_lt (by decide) hl j
    unfold bytesRow
    rw [Array.getElem?_append_left (by simpa using hd)]
    simp only [Array.getElem?_map, Option.map_eq_some_iff]
    refine ⟨_, Array.getElem?_eq_getElem hd, ?_⟩
    rw [e1]
    simp [Nat.mod_eq_of_lt e3]
  · exact ((Below.refl w.heap.size w).drew).alloc (Nat.le_refl _) _
  · intro b hb
    cases hb
    exact Nat.le_refl _
end Go.Proofs.YtagdlpodpokmmaaDoor.S7
