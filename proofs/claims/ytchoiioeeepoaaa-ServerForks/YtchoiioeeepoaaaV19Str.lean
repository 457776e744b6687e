/- Strings that are handed in; how the statements put two rows of them together; a server among rows that are kept. -/
import Derived.Test.YtchoiioeeepoaaaV19AncW
import Derived.Deep.Strs
namespace Go.Proofs.Ytchoiioeeepoaaa.V19
open Go.RowKit C8 E9 F17
open Go.ChangeShapes Go.WideShapes Go.ChangeAt
/-- All bytes of these strings are bytes, and no string is too long. -/
def StrOk (ls : Ls) : Prop := ∀ y ∈ ls, y.length ≤ 9223372036854775807 ∧ ∀ z ∈ y, z < 256
theorem strB_back (s : ByteArray) : strB (s.data.toList.map UInt8.toNat) = s := by
  have h : (strB (s.data.toList.map UInt8.toNat)).data.toList = s.data.toList := by
    rw [strB_list, List.map_map]
    conv => rhs; rw [← List.map_id s.data.toList]
    exact List.map_congr_left (fun x _ => by simp)
  have h2 : (strB (s.data.toList.map UInt8.toNat)).data = s.data := Array.toList_inj.1 h
  cases s
  cases hx : strB _
  rw [hx] at h2
  exact congrArg _ h2
theorem strs_of {H : Type} {enc : TypeId × Value → H} {P : Program} {w : World} {base : Nat} {held : Bool} {t e : TypeId} {fuel : Nat} {a : Option Addr} {len cap : Nat} {x : DataW H × List MemPlace} (ht : P.underlying t = some (.slice e)) (he : P.underlying e = some .string) (ce : P.cellsOf e = 1)
    (h : DataW.trod enc P w base (fun _ => true) held fuel t [Value.slice a len cap] = some x) :
    len ≤ 9223372036854775807 ∧ ∃ ls : Ls, ls.length = len ∧ StrRow w a ls ∧ StrOk ls := by
  rcases Go.Deep.open_strs ht he ce h with ⟨hcs, _⟩ | ⟨ad, l, c, m, Sx, hcs, hb, hl, hm, hmm, _, hx⟩
  · simp at hcs
    obtain ⟨rfl, rfl, rfl⟩ := hcs
    exact ⟨by omega, [], rfl, fun j hj => absurd hj (by simp), fun y hy => by simp at hy⟩
  · simp at hcs
    obtain ⟨rfl, rfl, rfl⟩ := hcs
    simp only [if_true] at hmm
    unfold maxLen at hm hx
    refine ⟨by omega, (List.range len).map fun i => (Sx i).data.toList.map UInt8.toNat, by simp, fun j hj => ?_, fun y hy => ?_⟩
    · have hj' : j < len := by simpa using hj
      obtain ⟨h1, h2⟩ := hx j (by omega)
      obtain ⟨b, o, s⟩ := ad
      have hsp : s = none := by
        have := (hx 0 (by omega)).1
        rw [add_nought] at this
        exact spot_of this
      subst hsp
      rw [Addr.add_mid] at h1
      refine ⟨b, o, rfl, World.block_lt_of_cell? w _ h1, ?_⟩
      rw [h1]
      simp only [List.getElem_map, List.getElem_range]
      rw [strB_back]
    · obtain ⟨i, hi, rfl⟩ := List.mem_map.1 hy
      obtain ⟨h1, h2⟩ := hx i (by have := List.mem_range.1 hi; omega)
      refine ⟨?_, fun z hz => ?_⟩
      · rw [List.length_map, Array.length_toList, ByteArray.size_data]
        exact h2
      · obtain ⟨u, _, rfl⟩ := List.mem_map.1 hz
        exact u.toNat_lt
theorem info9 : ∃ i, Try.prog.info? 9 = some i ∧ i.size = 1 ∧ i.bytes = 16 ∧ i.zero = some (.string ByteArray.empty) := info_of (by kernel_rfl)
/-- A row of one's own of strings. -/
def OwnS (w : World) (base : Nat) (v : Value) (n : Nat) (ls : Ls) : Prop := w.ownsRow base 9 1 v n (ls.map fun y => .string (strB y))
theorem OwnS.empty (w : World) : OwnS (w.alloc (.cells #[] 9)) w.heap.size (.slice (some ⟨w.heap.size, 0, none⟩) 0 0) 0 [] :=
  ⟨rfl, .inr ⟨w.heap.size, 0, #[], rfl, Nat.le_refl _, heap_alloc_new w _, Nat.le_refl _, by unfold maxLen; omega, rfl, rfl⟩⟩
theorem OwnS.slice {w : World} {base n : Nat} {v : Value} {ls : Ls} (h : OwnS w base v n ls) : ∃ q c, v = .slice q n c := own_slice h
theorem OwnS.row {w : World} {base n m c : Nat} {q : Option Addr} {ls : Ls} (h : OwnS w base (.slice q m c) n ls) : StrRow w q ls := fun j hj => by
  obtain ⟨hl, h2⟩ := h
  have hn : ls.length = n := by simpa using hl
  rcases h2 with ⟨e, h0⟩ | ⟨g, cap, cur, e, hg, hh, hnc, hm, hc, ht⟩
  · omega
  · cases e
    refine ⟨g, 0, rfl, (Array.getElem?_eq_some_iff.1 hh).1, ?_⟩
    rw [cell_of_row _ _ _ _ _ _ hh, Nat.zero_add]
    have h9 : (ls.map fun y => Value.string (strB y))[j]? = some (.string (strB ls[j])) := by simp [hj]
    rw [← ht, List.getElem?_take_of_lt (by omega)] at h9
    simpa using h9
theorem OwnS.grown {w w' : World} {base n : Nat} {v : Value} {ls : Ls} (h : OwnS w base v n ls) (hg : w.grownBy w' v.ownBlock) (hb : base ≤ w.heap.size) : Below base w w' :=
  (Below.refl base w).grown hg hb (fun k hk => (World.ownsRow.lt h k hk).1)
theorem law_append_strs {ops : Array Oper} {rest : List Oper} {dst : Option Tmp} {T : TypeId} {pos : String} {after : Array Edge} {a : Act} {w : World} {Q : Exit → Act → World → Prop} {so xo : Operand}
    (base : Nat) (v : Value) (n : Nat) (ls : Ls) (q : Option Addr) (m c : Nat) (ms : Ls) (hs : a.eval so = v) (hx : a.eval xo = .slice q m c) (hown : OwnS w base v n ls) (hm : ms.length = m) (h0 : 1 ≤ m) (hr : StrRow w q ms)
    (hn : n + m ≤ 1000000) (hbase : base ≤ w.heap.size)
    (h : ∀ v' w', OwnS w' base v' (n + m) (ls ++ ms) → w.grownBy w' v.ownBlock → wpList Try.prog ops Q rest (a.put dst v') w') :
    wpList Try.prog ops Q ({ dst := dst, op := .call { callee := .builtin .append, args := #[so, xo], argTypes := #[54, 54] }, type := T, pos := pos, after := after, guard := none } :: rest) a w := by
  obtain ⟨i, hi, hsz, hby, hz⟩ := info9
  obtain ⟨b, o, rfl, _, _⟩ := hr 0 (by omega)
  refine wpList_append_own_at _ rfl so xo 54 rfl base 9 i _ 1 16 Try.underlying54 hi hz hsz hby rfl (by decide) v n _ hs hown ⟨b, o, none⟩ m c (ms.map fun y => .string (strB y)) hx (by simp [hm]) (fun j u hj => ?_) (fun u hu => ?_) (by unfold maxLen; omega) (by omega) hbase (fun v' w' k1 k2 _ _ => h v' w' ?_ k2)
  · have hj' : j < ms.length := by
      rcases Nat.lt_or_ge j ms.length with h1 | h1
      · exact h1
      · rw [List.getElem?_eq_none (by simpa using h1)] at hj
        cases hj
    obtain ⟨b', o', e, _, k3⟩ := hr j hj'
    cases e
    rw [Addr.add_mid, k3]
    simpa [hj'] using hj
  · obtain ⟨y, _, rfl⟩ := List.mem_map.1 hu
    rfl
  · unfold OwnS
    rw [List.map_append]
    exact k1
/-- A server, and rows of links that are kept. -/
structure Sk (w W : World) (p b m : Nat) (M : St) (R : List (Option Addr × Ls)) : Prop where
  sv : SvIn w W p b m M
  rows : ∀ r ∈ R, LkRow W r.1 r.2
section
variable {w W W' : World} {p b m : Nat} {M : St} {R : List (Option Addr × Ls)}
theorem Sk.step (h : Sk w W p b m M R) (hb : Below W.heap.size W W') : Sk w W' p b m M R := ⟨h.sv.step hb, fun r hr => (h.rows r hr).below hb⟩
theorem Sk.new {w0 w : World} (h0 : Below w0.heap.size w0 w) : Calls Try.prog 11 #[] w fun e w' => ∃ p b, e = .returned (.pointer (some ⟨p, 0, none⟩)) ∧ Hid (Sk w0 w' p b 0 none0 []) := by
  refine (SvIn.new' h0).mono ?_
  rintro e w' ⟨p, b, rfl, H⟩
  exact ⟨p, b, rfl, H.out.1, fun r hr => by cases hr⟩
theorem Sk.handle (h : Sk w W p b m M R) {x : Int} {v : Value} {l r : List Nat} {M' : St} {er : Int} (he : hd M x l = (M', r, er)) (hs : Src W v l) (hx : In64 x) (hm : m ≤ 900000) :
    Calls Try.prog 14 #[.pointer (some ⟨p, 0, none⟩), .int .i64 x, v] W fun e w' => ∃ v', e = .returned (.tuple #[v', .int .i64 er]) ∧ Hid (Sk w w' p b (m + 1) M' R ∧ Src w' v' r) := by
  refine (h.sv.handle hs hx hm).mono ?_
  rintro e w' ⟨v', rfl, H⟩
  rw [he] at H ⊢
  exact ⟨v', rfl, ⟨H.out.1, fun r hr => row_off (h.rows r hr) H.out.2.2.1 H.out.2.2.2⟩, H.out.2.1⟩
theorem Sk.log (h : Sk w W p b m M R) {x c : Int} {n : Nat} (hx : In64 x) (hc : In64 c) (hn : (M x c).length = n) :
    Calls Try.prog 19 #[.pointer (some ⟨p, 0, none⟩), .int .i64 x, .int .i64 c] W fun e w' => ∃ q cp, e = .returned (.slice q n cp) ∧ Hid (Sk w w' p b m M ((q, M x c) :: R) ∧ Below W.heap.size W w') := by
  refine (h.sv.log hx hc).mono ?_
  rintro e w' ⟨q, cp, rfl, H⟩
  obtain ⟨h1, h2, h3⟩ := H.out
  subst hn
  refine ⟨q, cp, rfl, ⟨h2, fun r hr => ?_⟩, h3⟩
  rcases List.mem_cons.1 hr with rfl | hr
  · exact h1.lk
  · exact (h.rows r hr).below h3
theorem Sk.push (h : Sk w W p b m M R) {c : Int} {q : Option Addr} {n cp : Nat} {ls : Ls} (hr : StrRow w q ls) (hn : ls.length = n) (hc : 1 ≤ c ∧ c ≤ 1099511627776) (h0 : 1 ≤ ls.length) (hls : LinksOk ls) (hb : (F17.bytes (pf c ls)).length ≤ 32768) :
    Calls Try.prog 22 #[.int .i64 c, .slice q n cp] W fun e w' => ∃ v, e = .returned v ∧ Hid (Sk w w' p b m M R ∧ Src w' v (F17.bytes (pf c ls))) := by
  subst hn
  refine (lpush_any c q cp ls W (hr.below h.sv.bel) hc h0 hls hb).mono ?_
  rintro e w' ⟨v, rfl, h1, h2⟩
  exact ⟨v, rfl, h.step h2, h1⟩
theorem Sk.same (h : Sk w W p b m M R) {q q' : Option Addr} {n n' cp cp' : Nat} {ls ms : Ls} (h1 : (q, ls) ∈ R) (h2 : (q', ms) ∈ R) (hn : ls.length = n) (hn' : ms.length = n') (hl : n ≤ 9223372036854775807) (hl' : n' ≤ 9223372036854775807) :
    Calls Try.prog 18 #[.slice q n cp, .slice q' n' cp'] W fun e w' => e = .returned (.bool (decide (ls = ms))) ∧ Hid (Sk w w' p b m M R) := by
  subst hn
  subst hn'
  refine (same_any q q' cp cp' ls ms W (h.rows _ h1) (h.rows _ h2) hl hl').mono ?_
  rintro e w' ⟨rfl, hb⟩
  exact ⟨rfl, h.step hb⟩
end
theorem enc_small : ∀ ls : Ls, (∀ x ∈ ls, x.length ≤ 100) → (Cd.enc (F17.lpts ls)).length ≤ 102 * ls.length
  | [], _ => by simp [F17.lpts, Cd.enc]
  | x :: r, h => by
    have h1 := h x (by simp)
    have h2 := enc_small r (fun y hy => h y (by simp [hy]))
    have e : F17.lpts (x :: r) = txt x :: F17.lpts r := rfl
    rw [e]
    have e2 : (Cd.one (txt x)).length = x.length + 2 := by
      show (Cd.be 2 _ ++ x).length = _
      rw [List.length_append, Cd.be_length]
      omega
    simp only [Cd.enc, List.length_append, List.length_cons] at h2 ⊢
    rw [e2]
    omega
theorem pf_small {c : Int} {ls : Ls} (hl : ls.length ≤ 8) (h : ∀ x ∈ ls, x.length ≤ 100) : (F17.bytes (pf c ls)).length ≤ 32768 := by
  have h0 := enc_small ls h
  rw [F17.bytes_eq]
  have e1 : ∀ n : Int, (Cd.one (num n)).length = 6 := fun n => by
    show (Cd.be 6 _).length = 6
    rw [Cd.be_length]
  have e2 : (Cd.one (txt [])).length = 2 := by
    show (Cd.be 2 _ ++ []).length = 2
    rw [List.append_nil, Cd.be_length]
  simp only [List.length_append, pf, e1, e2]
  omega
/-- A push of links to a log that has room for them. -/
theorem hd_pushed {M : St} {x c : Int} {ls : Ls} (hx : x = 0 ∨ x = 1) (hc : 1 ≤ c ∧ c ≤ 1099511627776) (h0 : 1 ≤ ls.length) (hls : LinksOk ls) (hb : (F17.bytes (pf c ls)).length ≤ 32768) (h : (M x c).length + ls.length ≤ 64) :
    hd M x (F17.bytes (pf c ls)) = (upd M x c (add (M x c) ls), [], 0) := by
  rw [hd_push hx (pf_right hc h0 hls) hb, pushA_ok rfl (by have := (add_length (ls := ls) (log := M x c)).2; omega)]
theorem upd_same (M : St) (x c : Int) (l : Ls) : upd M x c l x c = l := by unfold upd; rw [if_pos ⟨rfl, rfl⟩]
theorem upd_other (M : St) {x c y d : Int} (l : Ls) (h : ¬ (y = x ∧ d = c)) : upd M x c l y d = M y d := by unfold upd; rw [if_neg h]
end Go.Proofs.Ytchoiioeeepoaaa.V19
