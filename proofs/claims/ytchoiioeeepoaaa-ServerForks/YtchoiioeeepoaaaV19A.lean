/- The key of a log: a place as it stands in the map; how an element of the map reads. -/
import Derived.Test.YtchoiioeeepoaaaF17Leaf
import Derived.DeepKeys4
import Derived.Maps.OwnSet
import Derived.Test.YtchoiioeeepoaaaF17D4
import Derived.Test.YtchoiioeeepoaaaF17Enc
import Derived.Test.YtchoiioeeepoaaaE9Leaf
import Derived.Test.YtchoiioeeepoaaaF17Rot
namespace Go.Proofs.Ytchoiioeeepoaaa.V19
open Go.RowKit C8 E9 F17
open Go.Maps (Keyed)
/-- A place. -/
def pl (br c : Int) : Value := .agg #[.int .i64 br, .int .i64 c]
theorem laid : laidOutB Try.prog = true := by kernel_rfl
theorem row64 : (64 : TypeId) < Try.prog.types.size := of_decide_eq_true (by kernel_rfl)
theorem wide64 : (match Try.prog.underlying 64 with | some (.array _ _) | some (.struct _) => true | _ => false) = true := by kernel_rfl
theorem law : Keyed Try.prog 64 := Keyed.of_law (deep_law_laid laid (m := 2) (by omega) row64 (by kernel_rfl) wide64)
theorem deep64 : Try.prog.keyType 64 = true := by kernel_rfl
theorem cells64 : Try.prog.cellsOf 64 = 2 := by kernel_rfl
theorem cells3 : Try.prog.cellsOf 3 = 1 := by kernel_rfl
def ok64 : Option TypeDesc → Bool
  | some (.struct fs) => decide (fs.size = 2) && fs.all (·.name != "_") && decide (fs[0]!.type = 3) && decide (fs[0]!.offset = 0) && decide (fs[1]!.type = 3) && decide (fs[1]!.offset = 1)
  | _ => false
theorem ok64_inv {o : Option TypeDesc} (h : ok64 o = true) : ∃ fs : Array Field, o = some (.struct fs) ∧ fs.toList = [fs[0]!, fs[1]!] ∧ (fs.all (·.name != "_") = true ∧ fs[0]!.type = 3 ∧ fs[0]!.offset = 0 ∧ fs[1]!.type = 3 ∧ fs[1]!.offset = 1) := by
  match o, h with
  | some (.struct fs), hc =>
    simp only [ok64, Bool.and_eq_true, decide_eq_true_eq] at hc
    obtain ⟨⟨⟨⟨⟨a1, a2⟩, a3⟩, a4⟩, a5⟩, a6⟩ := hc
    refine ⟨fs, rfl, ?_, a2, a3, a4, a5, a6⟩
    apply List.ext_getElem
    · simp [a1]
    · intro j h1 h2
      simp at h2
      match j, h2 with
      | 0, _ => simp [a1]
      | 1, _ => simp [a1]
theorem is64 : ok64 (Try.prog.underlying 64) = true := by kernel_rfl
theorem size64 : ∃ n, Try.prog.types.size + 1 = n + 2 := by
  have h : (64 : Nat) < Try.prog.types.size := row64
  exact ⟨Try.prog.types.size - 1, by omega⟩
theorem lits64 (d : Nat) (x : Value) (y : Value) : Try.prog.keyLits (d + 2) 64 [x, y] = (Try.prog.keyLits (d + 1) 3 [x]).bind fun a => (Try.prog.keyLits (d + 1) 3 [y]).bind fun b => some (a ++ b) := by
  obtain ⟨fs, hu, hf, h2, h3, h4, h5, h6⟩ := ok64_inv is64
  show Program.keyLits Try.prog ((d + 1) + 1) 64 [x, y] = _
  conv => lhs; unfold Program.keyLits
  simp only [hu]
  rw [if_pos ⟨by rw [cells64]; rfl, h2⟩, hf]
  simp only [List.mapM_cons, List.mapM_nil, h3, h4, h5, h6, cells3]
  simp only [List.drop_zero, List.take_succ_cons, List.take_zero, List.drop_succ_cons]
  cases Try.prog.keyLits (d + 1) 3 [x] <;> cases Try.prog.keyLits (d + 1) 3 [y] <;> simp [bind, pure]
theorem arr2 {cs : Array Value} (h : cs.size = 2) : ∃ x y, cs = #[x, y] := by
  obtain ⟨l⟩ := cs
  match l, h with
  | [x, y], _ => exact ⟨x, y, rfl⟩
/-- The key that a place reads as. -/
def kl (br c : Int) : Lit := .string (keyBytes [.int .i64 br, .int .i64 c])
def In64 (x : Int) : Prop := -9223372036854775808 ≤ x ∧ x ≤ 9223372036854775807
theorem wf64 {x : Int} : (Lit.int .i64 x).wf = true ↔ In64 x := by
  simp only [Lit.wf, Bool.and_eq_true, decide_eq_true_eq]
  have e1 : IntKind.min .i64 = -9223372036854775808 := by decide
  have e2 : IntKind.max .i64 = 9223372036854775807 := by decide
  rw [e1, e2]
  rfl
theorem lits3 (d : Nat) (x : Int) : Try.prog.keyLits (d + 1) 3 [.int .i64 x] = if (Lit.int .i64 x).wf = true then some [.int .i64 x] else none := by
  unfold Program.keyLits
  simp [Try.underlying3]
theorem lits3_inv {d : Nat} {v : Value} {l : List Lit} (h : Try.prog.keyLits (d + 1) 3 [v] = some l) : ∃ x, v = .int .i64 x ∧ In64 x ∧ l = [.int .i64 x] := by
  unfold Program.keyLits at h
  simp only [Try.underlying3] at h
  cases v <;> simp at h
  obtain ⟨⟨rfl, h1⟩, rfl⟩ := h
  exact ⟨_, rfl, wf64.1 h1, rfl⟩
theorem key_mk {br c : Int} (h1 : In64 br) (h2 : In64 c) : keyOf Try.prog 64 (pl br c) = some (kl br c) := by
  have hu := wide64
  unfold keyOf
  split at hu
  · rename_i h
    rw [h]
    simp only [pl, Value.formed, h, cells64, deep64, Value.cells]
    obtain ⟨n, hn⟩ := size64
    rw [hn, lits64, lits3, lits3, if_pos (wf64.2 h1), if_pos (wf64.2 h2)]
    rfl
  · rename_i h
    rw [h]
    simp only [pl, Value.formed, h, cells64, deep64, Value.cells]
    obtain ⟨n, hn⟩ := size64
    rw [hn, lits64, lits3, lits3, if_pos (wf64.2 h1), if_pos (wf64.2 h2)]
    rfl
  · cases hu
theorem key_inv {v : Value} {l : Lit} (h : keyOf Try.prog 64 v = some l) : ∃ br c, v = pl br c ∧ In64 br ∧ In64 c ∧ l = kl br c := by
  have hu := wide64
  unfold keyOf at h
  have key : ∀ d : TypeDesc, Try.prog.underlying 64 = some d → (match d with | .array _ _ | .struct _ => True | _ => False) → (if Try.prog.keyType 64 && v.formed Try.prog 64 then (Try.prog.keyLits (Try.prog.types.size + 1) 64 v.cells.toList).map fun ls => Lit.string (keyBytes ls) else none) = some l → ∃ br c, v = pl br c ∧ In64 br ∧ In64 c ∧ l = kl br c := by
    intro d hd hm h
    rw [deep64, Bool.true_and] at h
    by_cases hf : v.formed Try.prog 64 = true
    · rw [if_pos hf] at h
      unfold Value.formed at hf
      cases v with
      | agg cs =>
        have hs : cs.size = 2 := by
          simp only [hd] at hf
          cases d <;> simp [cells64] at hm hf <;> exact hf
        obtain ⟨x, y, rfl⟩ : ∃ x y, cs = #[x, y] := arr2 hs
        obtain ⟨n, hn⟩ := size64
        rw [hn] at h
        simp only [Value.cells] at h
        rw [lits64] at h
        cases ha : Try.prog.keyLits (n + 1) 3 [x] with
        | none => rw [ha] at h; cases h
        | some a =>
          cases hb : Try.prog.keyLits (n + 1) 3 [y] with
          | none => rw [ha, hb] at h; cases h
          | some b =>
            rw [ha, hb] at h
            obtain ⟨x, rfl, h1, rfl⟩ := lits3_inv ha
            obtain ⟨y, rfl, h2, rfl⟩ := lits3_inv hb
            exact ⟨x, y, rfl, h1, h2, (Option.some.inj h).symm⟩
      | _ => simp only [hd] at hf; cases d <;> simp at hm hf
    · rw [if_neg hf] at h
      cases h
  split at hu
  · rename_i hd
    rw [hd] at h
    exact key _ hd trivial h
  · rename_i hd
    rw [hd] at h
    exact key _ hd trivial h
  · cases hu
theorem kl_inj {a b c d : Int} (h1 : In64 a) (h2 : In64 b) (h3 : In64 c) (h4 : In64 d) (h : kl a b = kl c d) : a = c ∧ b = d := by
  have := law.inj (key_mk h1 h2) (h ▸ key_mk h3 h4)
  simp [pl] at this
  exact this
theorem kl_key (br c : Int) : WideAt.IsKeyLit (kl br c) := trivial
/-- An element reads as itself. -/
def eR (v : Value) : Option (DataW Value × List MemPlace) := some (.held v, [])
theorem eR_inv {v : Value} {z : DataW Value × List MemPlace} (h : eR v = some z) : z = (.held v, []) := (Option.some.inj h).symm
theorem zero31 (w : World) : (zeroValue 31).run Try.prog w = .ok (.slice none 0 0) w := by kernel_rfl
theorem under58 : Try.prog.underlying 58 = some (.map 64 31) := by kernel_rfl
end Go.Proofs.Ytchoiioeeepoaaa.V19
/- The server's logs by plain mathematics, and a server as it stands in memory. -/
namespace Go.Proofs.Ytchoiioeeepoaaa.V19
open Go.RowKit C8 E9 F17
open Go.Maps (Keyed)
abbrev Ls := List (List Nat)
/-- The logs, by branch and collection. -/
abbrev St := Int → Int → Ls
def none0 : St := fun _ _ => []
def upd (M : St) (x c : Int) (l : Ls) : St := fun y d => if y = x ∧ d = c then l else M y d
/-- Links that aren't there yet, put behind the last one. -/
def add (log ls : Ls) : Ls := ls.foldl (fun l x => if x ∈ l then l else l ++ [x]) log
/-- How many links a frame has room for. -/
def fit (c i : Int) (ls : Ls) : Nat → Nat
  | 0 => 0
  | k + 1 => if (F17.bytes ⟨3, c, i, ls.take (k + 1), []⟩).length ≤ 32768 then k + 1 else fit c i ls k
def bat (c i : Int) (ls : Ls) : List Nat := F17.bytes ⟨3, c, i, ls.take (fit c i ls (min ls.length 8)), []⟩
def pushA (M : St) (x c : Int) (ls : Ls) : St × Int := if 64 < (add (M x c) ls).length then (M, 33) else (upd M x c (add (M x c) ls), 0)
def pullA (M : St) (x c i : Int) : List Nat × Int := if ((M x c).length : Int) < i then ([], 14) else (bat c i ((M x c).drop i.toNat), 0)
/-- What Handle answers. -/
def hd (M : St) (x : Int) (l : List Nat) : St × List Nat × Int :=
  if x < 0 ∨ 2 ≤ x then (M, [], 12) else if 32768 < l.length then (M, [], 11) else match F17.dec l with
  | none => (M, [], 10)
  | some f => if f.kind = 1 then ((pushA M x f.coll f.links).1, [], (pushA M x f.coll f.links).2) else if f.kind = 2 then (M, pullA M x f.coll f.idx) else (M, [], 13)
def forkM (n : Int) (M : St) : St := fun x c => if x = 1 then (M 0 c).take n.toNat else M x c
/-- What logs keep to. -/
def Wf (l : Ls) : Prop := l.length ≤ 64 ∧ ∀ x ∈ l, (1 ≤ x.length ∧ x.length ≤ 4096) ∧ ∀ y ∈ x, y < 256
def Ok (M : St) : Prop := ∀ x c, Wf (M x c)
theorem wf_nil : Wf [] := ⟨by simp, by simp⟩
theorem ok_none : Ok none0 := fun _ _ => wf_nil
theorem ok_upd {M : St} (h : Ok M) {l : Ls} (hl : Wf l) (x c : Int) : Ok (upd M x c l) := fun y d => by
  unfold upd
  split
  · exact hl
  · exact h y d
theorem wf_take {l : Ls} (h : Wf l) (n : Nat) : Wf (l.take n) := ⟨by rw [List.length_take]; have := h.1; omega, fun x hx => h.2 x (List.mem_of_mem_take hx)⟩
theorem ok_fork {M : St} (h : Ok M) (n : Int) : Ok (forkM n M) := fun x c => by
  unfold forkM
  split
  · exact wf_take (h 0 c) _
  · exact h x c
theorem add_nil (log : Ls) : add log [] = log := rfl
theorem add_cons (log : Ls) (x : List Nat) (r : Ls) : add log (x :: r) = add (if x ∈ log then log else log ++ [x]) r := rfl
theorem add_take {log ls : Ls} {j : Nat} (h : j < ls.length) : add log (ls.take (j + 1)) = if ls[j] ∈ add log (ls.take j) then add log (ls.take j) else add log (ls.take j) ++ [ls[j]] := by
  rw [List.take_succ_eq_append_getElem h]
  simp only [add, List.foldl_append, List.foldl_cons, List.foldl_nil]
  rfl
theorem mem_add : ∀ {ls log : Ls} {x : List Nat}, x ∈ add log ls ↔ x ∈ log ∨ x ∈ ls
  | [], log, x => by simp [add_nil]
  | y :: r, log, x => by
    rw [add_cons, mem_add]
    by_cases h : y ∈ log
    · rw [if_pos h]
      constructor
      · rintro (h1 | h1)
        · exact .inl h1
        · exact .inr (List.mem_cons_of_mem _ h1)
      · rintro (h1 | h1)
        · exact .inl h1
        · rcases List.mem_cons.1 h1 with rfl | h1
          · exact .inl h
          · exact .inr h1
    · rw [if_neg h]
      simp [or_assoc]
theorem add_length : ∀ {ls log : Ls}, log.length ≤ (add log ls).length ∧ (add log ls).length ≤ log.length + ls.length
  | [], log => by simp [add_nil]
  | y :: r, log => by
    rw [add_cons]
    have := add_length (ls := r) (log := if y ∈ log then log else log ++ [y])
    split at this
    · rename_i h
      rw [if_pos h]
      simp only [List.length_cons]
      omega
    · rename_i h
      rw [if_neg h]
      simp only [List.length_cons, List.length_append, List.length_nil] at this ⊢
      omega
theorem ok_push {M : St} (h : Ok M) {x c : Int} {ls : Ls} (hl : ∀ y ∈ ls, (1 ≤ y.length ∧ y.length ≤ 4096) ∧ ∀ z ∈ y, z < 256) : Ok (pushA M x c ls).1 := by
  unfold pushA
  split
  · exact h
  · rename_i h1
    refine ok_upd h ⟨by omega, fun y hy => ?_⟩ x c
    rcases mem_add.1 hy with hy | hy
    · exact (h x c).2 y hy
    · exact hl y hy
theorem dec_small {l : List Nat} {f : Fr} (hl : ∀ x ∈ l, x < 256) (h : F17.dec l = some f) : ∀ y ∈ f.links, ∀ z ∈ y, z < 256 := by
  obtain ⟨h1, h2⟩ := (F17.dec_iff l hl f).1 h
  intro y hy z hz
  refine hl z ?_
  rw [← h2, F17.bytes_eq]
  simp only [List.mem_append]
  refine .inr (.inr (.inr (.inr (.inl ?_))))
  obtain ⟨a, b, hab⟩ := List.append_of_mem hy
  have e : F17.lpts f.links = F17.lpts a ++ (txt y :: F17.lpts b) := by rw [hab]; simp [F17.lpts]
  rw [e]
  have e2 : Cd.enc (F17.lpts a ++ (txt y :: F17.lpts b)) = Cd.enc (F17.lpts a) ++ (Cd.one (txt y) ++ Cd.enc (F17.lpts b)) := by rw [Cd.enc_append]; rfl
  rw [e2]
  simp only [List.mem_append]
  refine .inr (.inl ?_)
  have e3 : Cd.one (txt y) = Cd.be 2 y.length ++ y := rfl
  rw [e3]
  exact List.mem_append.2 (.inr hz)
theorem ok_hd {M : St} (h : Ok M) {x : Int} {l : List Nat} (hl : ∀ y ∈ l, y < 256) : Ok (hd M x l).1 := by
  unfold hd
  split
  · exact h
  · split
    · exact h
    · split
      · exact h
      · rename_i f hf
        split
        · exact ok_push h (fun y hy => ⟨(F17.right_bounds ((F17.dec_iff l hl f).1 hf).1).2.2.2.2.1 y hy, dec_small hl hf y hy⟩)
        · split <;> exact h
/-- A block that is a map. -/
def IsMapB (w : World) (b : Nat) : Prop := ∃ es clock, w.heap[b]? = some (.map es clock)
theorem IsMapB.cell {w : World} {b : Nat} (h : IsMapB w b) (o : Nat) (sp : Option Nat) : w.cell? ⟨b, o, sp⟩ = none := by
  obtain ⟨es, clock, h⟩ := h
  simp [World.cell?, h]
theorem src_off {w w' : World} {v : Value} {l : List Nat} {m : Nat} (h : Src w v l) (ho : Only [m] w w') (hm : IsMapB w m) : Src w' v l := by
  obtain ⟨hs, h1 | h1 | ⟨b, o, c', rfl, hc, hr⟩⟩ := h
  · exact ⟨hs, .inl h1⟩
  · exact ⟨hs, .inr (.inl h1)⟩
  · cases l with
    | nil => exact ⟨hs, .inr (.inl ⟨_, _, rfl, rfl⟩)⟩
    | cons x r =>
      have hb : b ≠ m := fun e => by
        have := hr 0 (.int .u8 (x : Int)) (by simp [ints])
        rw [e, hm.cell] at this
        cases this
      exact ⟨hs, .inr (.inr ⟨b, o, c', rfl, hc, range_kept hr (ho.block b (range_lt hr (by simp [ints])) (by simpa using hb))⟩)⟩
theorem row_off {w w' : World} {q : Option Addr} {ls : Ls} {m : Nat} (h : LkRow w q ls) (ho : Only [m] w w') (hm : IsMapB w m) : LkRow w' q ls := fun j hj => by
  obtain ⟨b, o, bp, bc, h1, h2, h3, h4, h5⟩ := h j hj
  have hb : b ≠ m := fun e => by
    rw [e, hm.cell] at h3
    cases h3
  refine ⟨b, o, bp, bc, h1, Nat.lt_of_lt_of_le h2 ho.size, ?_, src_off h4 ho hm, h5⟩
  rw [World.cell?_of_block (a := ⟨b, o + j, none⟩) (ho.block b h2 (by simpa using hb))]
  exact h3
/-- A server in memory: its struct lies in block p, its map in block b. -/
structure SvAt (w : World) (p b n : Nat) (M : St) : Prop where
  cell : w.heap[p]? = some (.cells #[.map (some b)] 60 (0, 0))
  own : ∃ D, w.ownsMap Try.prog 64 eR b n D ∧ (∀ x c, In64 x → In64 c → Maps.has D (kl x c) = true → x = 0 ∨ x = 1) ∧ ∀ x c, In64 x → In64 c → ∃ q cp, D.atKey (kl x c) (.held (.slice none 0 0)) = .held (.slice q (M x c).length cp) ∧ LkRow w q (M x c) ∧ (M x c).length ≤ cp
section
variable {w w' : World} {p b n : Nat} {M : St}
theorem SvAt.isMap (h : SvAt w p b n M) : IsMapB w b := by
  obtain ⟨D, ⟨es, clock, hb, _⟩, _⟩ := h.own
  exact ⟨es, clock, hb⟩
theorem SvAt.ltp (h : SvAt w p b n M) : p < w.heap.size := (Array.getElem?_eq_some_iff.1 h.cell).1
theorem SvAt.ltb (h : SvAt w p b n M) : b < w.heap.size := by
  obtain ⟨es, clock, hb⟩ := h.isMap
  exact (Array.getElem?_eq_some_iff.1 hb).1
theorem SvAt.ne (h : SvAt w p b n M) : p ≠ b := fun e => by
  obtain ⟨es, clock, hb⟩ := h.isMap
  have := h.cell
  rw [e, hb] at this
  cases this
theorem SvAt.below (h : SvAt w p b n M) (hb : Below w.heap.size w w') : SvAt w' p b n M := by
  obtain ⟨D, ho, h2, hl⟩ := h.own
  refine ⟨(hb.block p h.ltp).trans h.cell, D, ?_, h2, fun x c hx hc => ?_⟩
  · obtain ⟨es, clock, hm, r⟩ := ho
    exact ⟨es, clock, (hb.block b h.ltb).trans hm, r⟩
  · obtain ⟨q, cp, h3, h4, h5⟩ := hl x c hx hc
    exact ⟨q, cp, h3, h4.below hb, h5⟩
theorem SvAt.mono (h : SvAt w p b n M) {n' : Nat} (hn : n ≤ n') : SvAt w p b n' M := by
  obtain ⟨D, ho, h2, hl⟩ := h.own
  exact ⟨h.cell, D, ho.mono hn, h2, hl⟩
/-- Under what turns just another map. -/
theorem SvAt.off {m : Nat} (h : SvAt w p b n M) (ho : Only [m] w w') (hm : IsMapB w m) (hne : b ≠ m) : SvAt w' p b n M := by
  obtain ⟨D, hw, h2, hl⟩ := h.own
  have hp : p ≠ m := fun e => by
    obtain ⟨es, clock, hb⟩ := hm
    have := h.cell
    rw [e, hb] at this
    cases this
  refine ⟨(ho.block p h.ltp (by simpa using hp)).trans h.cell, D, ?_, h2, fun x c hx hc => ?_⟩
  · obtain ⟨es, clock, hm, r⟩ := hw
    have hlt := (Array.getElem?_eq_some_iff.1 hm).1
    exact ⟨es, clock, (ho.block b hlt (by simpa using hne)).trans hm, r⟩
  · obtain ⟨q, cp, h3, h4, h5⟩ := hl x c hx hc
    exact ⟨q, cp, h3, row_off h4 ho hm, h5⟩
theorem SvAt.look (h : SvAt w p b n M) {x c : Int} (hx : In64 x) (hc : In64 c) : ∃ q cp, (Instr.lookup 58 (.map (some b)) (pl x c) false).run Try.prog w = .ok (.slice q (M x c).length cp) w ∧ LkRow w q (M x c) ∧ (M x c).length ≤ cp := by
  obtain ⟨D, ho, _, hl⟩ := h.own
  obtain ⟨v, ps, hrun, hv⟩ := ho.lookup law under58 (zero31 w) (zd := .held (.slice none 0 0)) rfl (key_mk hx hc)
  obtain ⟨q, cp, h1, h2, h3⟩ := hl x c hx hc
  rw [h1] at hv
  have e := eR_inv hv
  simp only [Prod.mk.injEq, DataW.held.injEq] at e
  exact ⟨q, cp, by rw [hrun, ← e.1], h2, h3⟩
theorem turned_only {w w' : World} {b : Nat} (h : w.mapTurned w' b) : Only [b] w w' := Only.of_grown h.grown (fun x hx => by cases hx; simp)
theorem turned_map {w w' : World} {b : Nat} (h : w.mapTurned w' b) : IsMapB w b ∧ IsMapB w' b := by
  obtain ⟨es, clock, es', clock', hb, rfl⟩ := h
  exact ⟨⟨es, clock, hb⟩, ⟨es', clock', ChangeMaps.heap_setBlock_same hb _⟩⟩
theorem SvAt.put (h : SvAt w p b n M) {x c : Int} (hx : x = 0 ∨ x = 1) (hc : In64 c) (hn : n ≤ 1000000) {q : Option Addr} {cp : Nat} {l : Ls} (hr : LkRow w q l) (hcp : l.length ≤ cp) :
    ∃ w', (Instr.mapUpdate 58 (.map (some b)) (pl x c) (.slice q l.length cp)).run Try.prog w = .ok () w' ∧ SvAt w' p b (n + 1) (upd M x c l) ∧ Only [b] w w' := by
  have hx64 : In64 x := by unfold In64; rcases hx with rfl | rfl <;> decide
  have hmap := h.isMap
  have hlp := h.ltp
  have hne := h.ne
  have hcell := h.cell
  obtain ⟨D, ho, h2, hl⟩ := h.own
  have him := ho.isMap
  obtain ⟨w', hrun, ho', ht⟩ := ho.store law under58 (by unfold maxLen; omega) (key_mk hx64 hc) (val := .slice q l.length cp) (d := .held (.slice q l.length cp)) (ps := []) rfl
  have hon := turned_only ht
  refine ⟨w', hrun, ⟨(hon.block p hlp (by simpa using hne)).trans hcell, _, ho', fun y d hy hd hh => ?_, fun y d hy hd => ?_⟩, hon⟩
  · by_cases e : kl y d = kl x c
    · obtain ⟨rfl, rfl⟩ := kl_inj hy hd hx64 hc e
      exact hx
    · rw [Maps.has_put_other e] at hh
      exact h2 y d hy hd hh
  · by_cases e : y = x ∧ d = c
    · obtain ⟨rfl, rfl⟩ := e
      refine ⟨q, cp, ?_, ?_, ?_⟩
      · rw [Maps.atKey_put_same him (kl_key _ _)]
        simp [upd]
      · simp only [upd, and_self, if_true]
        exact row_off hr hon hmap
      · simp only [upd, and_self, if_true]
        exact hcp
    · have ek : kl y d ≠ kl x c := fun e1 => e (kl_inj hy hd hx64 hc e1)
      obtain ⟨q', cp', h3, h4, h5⟩ := hl y d hy hd
      refine ⟨q', cp', ?_, ?_, ?_⟩
      · rw [Maps.atKey_put_other ek, h3]
        simp only [upd, if_neg e]
      · simp only [upd, if_neg e]
        exact row_off h4 hon hmap
      · simp only [upd, if_neg e]
        exact h5
end
end Go.Proofs.Ytchoiioeeepoaaa.V19
/- The contracts of New, has and what it calls. -/
namespace Go.Proofs.Ytchoiioeeepoaaa.V19
open Go.RowKit C8 E9 F17
set_option maxHeartbeats 1000000 in
theorem New_any (w : World) : Calls Try.prog 11 #[] w fun e w' => ∃ p b, e = .returned (.pointer (some ⟨p, 0, none⟩)) ∧ SvAt w' p b 0 none0 ∧ w.heap.size ≤ p ∧ w.heap.size ≤ b ∧ Below w.heap.size w w' := by
  go_enter Try.func11, Try.ntmps11
  have hmk := run_makeMap (P := Try.prog) 58 w
  go_wp2_with fail
  go_ret
  have h0 := heap_alloc_new (w.alloc (.map #[] 0)) (.cells #[.map (some w.heap.size)] 60)
  rw [show (w.alloc (.map #[] 0)).heap.size = w.heap.size + 1 from by simp] at h0
  have ho : ((w.alloc (.map #[] 0)).alloc (.cells #[.map (some w.heap.size)] 60)).ownsMap Try.prog 64 eR w.heap.size 0 (.map []) := (World.ownsMap_made w Try.prog 64 eR).alloc _
  have hl : ∀ x c, In64 x → In64 c → ∃ q cp, (DataW.map [] : DataW Value).atKey (kl x c) (.held (.slice none 0 0)) = .held (.slice q (none0 x c).length cp) ∧ LkRow ((w.alloc (.map #[] 0)).alloc (.cells #[.map (some w.heap.size)] 60)) q (none0 x c) ∧ (none0 x c).length ≤ cp := fun x c _ _ => ⟨none, 0, rfl, LkRow.nil _ _, Nat.le_refl _⟩
  have hh : ∀ x c, In64 x → In64 c → Maps.has (DataW.map [] : DataW Value) (kl x c) = true → x = 0 ∨ x = 1 := by
    intro x c _ _ h
    cases h
  exact ⟨_, _, rfl, ⟨h0, _, ho, hh, hl⟩, by simp, Nat.le_refl _, ((Below.refl _ w).alloc (Nat.le_refl _) _).alloc (by simp) _⟩
set_option maxHeartbeats 1000000 in
theorem has1_any (p q : Option Addr) (n m c d g : Nat) (l k : List Nat) (w : World) (h1 : Src w (.slice p n c) l) (h2 : Src w (.slice q m d) k) (hg : w.cell? ⟨g, 0, none⟩ = some (.slice q m d)) :
    Calls Try.prog 54 #[.slice p n c, .pointer (some ⟨g, 0, none⟩)] w fun e w' => e = .returned (.bool (decide (l = k))) ∧ w' = w := by
  have HE := equal_any p q n m c d l k w h1 h2
  clear h1 h2
  go_enter Try.func54, Try.ntmps54
  go_wp2_with (first | (go_at_call 55; refine HE.mono ?_; rintro e w1 ⟨rfl, rfl⟩))
  go_ret
  exact ⟨rfl, rfl⟩
set_option maxHeartbeats 4000000 in
theorem index_any (q : Option Addr) (cp g : Nat) (ls : Ls) (kq : Option Addr) (km kc : Nat) (k : List Nat) (w : World) (h : LkRow w q ls) (hl : ls.length ≤ 9223372036854775807) (hk : Src w (.slice kq km kc) k) (hg : w.cell? ⟨g, 0, none⟩ = some (.slice kq km kc)) :
    Calls Try.prog 58 #[.slice q ls.length cp, .func (.func 54) #[] #[.pointer (some ⟨g, 0, none⟩)]] w fun e w' => ∃ i : Int, e = .returned (.int .i64 i) ∧ (0 ≤ i ↔ k ∈ ls) ∧ w' = w := by
  obtain ⟨n, HN⟩ : ∃ n, Hid (ls.length = n) := ⟨_, rfl⟩
  have HA : Hid (LkRow w q ls) := h
  have HK : Hid (Src w (.slice kq km kc) k) := hk
  have HG : Hid (w.cell? ⟨g, 0, none⟩ = some (.slice kq km kc)) := hg
  rw [HN.out] at hl
  rw [HN.out]
  have HMEM : Hid (∀ x, (k ∈ ls ↔ x = true) → (x = true ↔ k ∈ ls)) := fun x h => h.symm
  clear h hk hg
  have l1 : (n : Int) ≤ 9223372036854775807 := by omega
  go_enter Try.func58, Try.ntmps58
  go_wp2_with fail
  go_loopw [8] (fun i wr => ∃ j : Nat, j ≤ n ∧ i = .int .i64 j ∧ w = wr ∧ Hid (k ∉ ls.take j)) (fun i _ => n - (intOf i).toNat)
  case atStart => exact ⟨0, by omega, rfl, rfl, by show k ∉ _; simp⟩
  case round =>
    obtain ⟨j, hj, rfl, rfl, HE⟩ := hrel
    by_cases hlt : j < n
    · have ja : j < ls.length := by rw [HN.out]; exact hlt
      obtain ⟨b, o, bp, bc, rfl, k2, k3, k4, k5⟩ := HA.out j ja
      have j1 : (j : Int) < (n : Int) := by omega
      have j0 : (0 : Int) ≤ (j : Int) := by omega
      obtain ⟨x, HX⟩ : ∃ x : List Nat, Hid (ls[j] = x) := ⟨ls[j], rfl⟩
      rw [HX.out] at k3 k4 k5
      have HC : ∀ W, W = w → Calls Try.prog 54 #[.slice bp x.length bc, .pointer (some ⟨g, 0, none⟩)] W fun e w' => e = .returned (.bool (decide (x = k))) ∧ w' = W := by
        rintro W rfl
        exact has1_any _ _ _ _ _ _ _ _ _ _ k4 HK.out HG.out
      clear k4
      by_cases hx : x = k
      · have HD : decide (x = k) = true := decide_eq_true hx
        rw [HD] at HC
        have HI : Hid (k ∈ ls) := by
          show k ∈ ls
          rw [← hx, ← HX.out]
          exact List.getElem_mem _
        clear hx HD
        go_wp2_with (first | (go_at_call 54; refine (HC _ rfl).mono ?_; rintro e w1 ⟨rfl, rfl⟩))
        go_ret
        exact ⟨_, rfl, ⟨fun _ => HI.out, fun _ => by omega⟩, rfl⟩
      · have HD : decide (x = k) = false := decide_eq_false hx
        rw [HD] at HC
        have HI : Hid (k ∉ ls.take (j + 1)) := by
          show k ∉ _
          rw [List.take_succ_eq_append_getElem ja]
          intro h
          rcases List.mem_append.1 h with h | h
          · exact HE.out h
          · rw [HX.out] at h
            exact hx (List.mem_singleton.1 h).symm
        clear hx HD
        go_wp2_with (first | (go_at_call 54; refine (HC _ rfl).mono ?_; rintro e w1 ⟨rfl, rfl⟩))
        refine ⟨⟨j + 1, by omega, by simp, trivial, HI⟩, ?_⟩
        simp only [intOf]
        omega
    · obtain rfl : j = n := by omega
      have j1 : ¬ (j : Int) < (j : Int) := by omega
      have HI : Hid (k ∉ ls) := by
        show k ∉ ls
        have := HE.out
        rw [List.take_of_length_le (by rw [HN.out]; omega)] at this
        exact this
      go_wp2_with fail
      go_ret
      exact ⟨_, rfl, ⟨fun h => by omega, fun h => absurd h HI.out⟩, rfl⟩
set_option maxHeartbeats 1000000 in
theorem contains_any (q : Option Addr) (cp g : Nat) (ls : Ls) (kq : Option Addr) (km kc : Nat) (k : List Nat) (w : World) (h : LkRow w q ls) (hl : ls.length ≤ 9223372036854775807) (hk : Src w (.slice kq km kc) k) (hg : w.cell? ⟨g, 0, none⟩ = some (.slice kq km kc)) :
    Calls Try.prog 53 #[.slice q ls.length cp, .func (.func 54) #[] #[.pointer (some ⟨g, 0, none⟩)]] w fun e w' => e = .returned (.bool (decide (k ∈ ls))) ∧ w' = w := by
  have HC : ∀ W, W = w → Calls Try.prog 58 #[.slice q ls.length cp, .func (.func 54) #[] #[.pointer (some ⟨g, 0, none⟩)]] W fun e w' => ∃ i : Int, e = .returned (.int .i64 i) ∧ Hid (0 ≤ i ↔ k ∈ ls) ∧ w' = W := by
    rintro W rfl
    exact index_any _ _ _ _ _ _ _ _ _ h hl hk hg
  clear h hk hg
  generalize ls.length = n at *
  go_enter Try.func53, Try.ntmps53
  go_wp2_with (first | (go_at_call 58; refine (HC _ rfl).mono ?_; rintro e w1 ⟨i, rfl, HI, rfl⟩))
  go_ret
  refine ⟨?_, rfl⟩
  have := HI.out
  by_cases hm : k ∈ ls
  · simp [hm, this.2 hm]
  · have h1 : ¬ 0 ≤ i := fun h => hm (this.1 h)
    simp [hm]
    omega
set_option maxHeartbeats 1000000 in
theorem has_any (q : Option Addr) (cp : Nat) (ls : Ls) (kq : Option Addr) (km kc : Nat) (k : List Nat) (w : World) (h : LkRow w q ls) (hl : ls.length ≤ 9223372036854775807) (hk : Src w (.slice kq km kc) k) :
    Calls Try.prog 41 #[.slice q ls.length cp, .slice kq km kc] w fun e w' => e = .returned (.bool (decide (k ∈ ls))) ∧ Below w.heap.size w w' := by
  have HC : ∀ W, W = w.alloc (.cells #[.slice kq km kc] 32) → Calls Try.prog 53 #[.slice q ls.length cp, .func (.func 54) #[] #[.pointer (some ⟨w.heap.size, 0, none⟩)]] W fun e w' => e = .returned (.bool (decide (k ∈ ls))) ∧ w' = W := by
    rintro W rfl
    have hb : Below w.heap.size w (w.alloc (.cells #[.slice kq km kc] 32)) := (Below.refl _ w).alloc (Nat.le_refl _) _
    exact contains_any _ _ _ _ _ _ _ _ _ (h.below hb) hl (hk.below hb) (cell_of_row _ _ _ _ _ _ (heap_alloc_new w _))
  clear h hk
  generalize ls.length = n at *
  have hmf : ∀ (fn : Fn) (first cap : Array Value) (w : World), (Instr.makeFunc fn first cap).run Try.prog w = .ok (.func fn first cap) w := fun _ _ _ _ => rfl
  go_enter Try.func41, Try.ntmps41
  go_wp2_with (first | (go_at_call 53; refine (HC _ rfl).mono ?_; rintro e w1 ⟨rfl, rfl⟩))
  go_ret
  exact ⟨rfl, (Below.refl _ w).alloc (Nat.le_refl _) _⟩
end Go.Proofs.Ytchoiioeeepoaaa.V19
/- Rows of links of one's own; how they grow; the contracts of the clones. -/
namespace Go.Proofs.Ytchoiioeeepoaaa.V19
open Go.RowKit C8 E9 F17
/-- A link in a cell: its bytes lie in a block that stands, and not in block g. -/
def LkC (w : World) (g : Option Nat) (y : Value) (x : List Nat) : Prop :=
  ∃ bp bc, y = .slice bp x.length bc ∧ Src w y x ∧ x.length ≤ 1000000 ∧ (x ≠ [] → ∀ b, y.ownBlock = some b → some b ≠ g ∧ b < w.heap.size)
def AreC (w : World) (g : Option Nat) (xs : List Value) (ls : Ls) : Prop := ∀ (j : Nat) (u : Value) (y : List Nat), xs[j]? = some u → ls[j]? = some y → LkC w g u y
/-- A row of one's own of links. -/
def LRow (w : World) (base : Nat) (v : Value) (n : Nat) (ls : Ls) : Prop := ls.length = n ∧ ∃ xs, w.ownsRow base 32 1 v n xs ∧ AreC w v.ownBlock xs ls
section
variable {w w' : World} {g g' : Option Nat} {y v : Value} {x : List Nat} {ls : Ls} {xs : List Value} {base n : Nat}
theorem LkC.turn (h : LkC w g y x) (ho : Only g.toList w w') (hg : g' = g ∨ ∃ k, g' = some k ∧ w.heap.size ≤ k) : LkC w' g' y x := by
  obtain ⟨bp, bc, h1, h2, h3, h4⟩ := h
  refine ⟨bp, bc, h1, ?_, h3, fun h0 b hb => ?_⟩
  · by_cases h0 : x = []
    · subst h0
      exact h2.empty w'
    · refine h2.only ho (fun b hb hm => ?_)
      simp only [Option.mem_toList] at hm
      exact (h4 h0 b hb).1 hm.symm
  · obtain ⟨k1, k2⟩ := h4 h0 b hb
    refine ⟨?_, Nat.lt_of_lt_of_le k2 ho.size⟩
    rcases hg with rfl | ⟨k, rfl, hk⟩
    · exact k1
    · intro e
      cases e
      omega
theorem LkC.below (h : LkC w g y x) (hb : Below w.heap.size w w') : LkC w' g y x := h.turn (Only.of_below hb _) (.inl rfl)
theorem AreC.turn (h : AreC w g xs ls) (ho : Only g.toList w w') (hg : g' = g ∨ ∃ k, g' = some k ∧ w.heap.size ≤ k) : AreC w' g' xs ls := fun j u y h1 h2 => (h j u y h1 h2).turn ho hg
theorem AreC.nil (w : World) (g : Option Nat) (xs : List Value) : AreC w g xs [] := fun j u y _ h => by simp at h
theorem AreC.append {ys : List Value} {ms : Ls} (h : AreC w g xs ls) (hl : xs.length = ls.length) (k : AreC w g ys ms) : AreC w g (xs ++ ys) (ls ++ ms) := fun j u y h1 h2 => by
  by_cases hj : j < ls.length
  · rw [List.getElem?_append_left (by omega)] at h1
    rw [List.getElem?_append_left hj] at h2
    exact h j u y h1 h2
  · rw [List.getElem?_append_right (by omega)] at h1
    rw [List.getElem?_append_right (by omega)] at h2
    rw [hl] at h1
    exact k _ u y h1 h2
theorem LRow.nil (w : World) (base : Nat) : LRow w base (.slice none 0 0) 0 [] := ⟨rfl, [], own_none _ _ _ _, AreC.nil _ _ _⟩
theorem LRow.turn (h : LRow w base v n ls) (ho : Only [] w w') : LRow w' base v n ls := by
  obtain ⟨h1, xs, h2, h3⟩ := h
  refine ⟨h1, xs, own_only h2 ho (fun b _ hm => by cases hm), h3.turn (ho.more (fun _ h => by cases h)) (.inl rfl)⟩
theorem LRow.below (h : LRow w base v n ls) (hb : Below w.heap.size w w') : LRow w' base v n ls := h.turn (Only.of_below hb _)
theorem LRow.slice (h : LRow w base v n ls) : ∃ q c, v = .slice q n c := by
  obtain ⟨_, xs, h2, _⟩ := h
  exact own_slice h2
theorem LRow.lk {q : Option Addr} {m c : Nat} (h : LRow w base (.slice q m c) n ls) : LkRow w q ls := fun j hj => by
  obtain ⟨h1, xs, ⟨hl, h2⟩, h3⟩ := h
  have hx : j < xs.length := by omega
  obtain ⟨bp, bc, k1, k2, k3, k4⟩ := h3 j xs[j] ls[j] (List.getElem?_eq_getElem hx) (List.getElem?_eq_getElem hj)
  rcases h2 with ⟨e, h0⟩ | ⟨g, cap, cur, e, hg, hh, hnc, hm, hc, ht⟩
  · omega
  · cases e
    refine ⟨g, 0, bp, bc, rfl, (Array.getElem?_eq_some_iff.1 hh).1, ?_, by rw [← k1]; exact k2, by omega⟩
    rw [cell_of_row _ _ _ _ _ _ hh, Nat.zero_add]
    obtain ⟨u, hu⟩ : ∃ u, xs[j] = u := ⟨_, rfl⟩
    have h9 : xs[j]? = some u := by rw [← hu]; exact List.getElem?_eq_getElem hx
    rw [← ht, List.getElem?_take_of_lt (by omega)] at h9
    rw [← k1, hu]
    simpa using h9
theorem LRow.cap {q : Option Addr} {m c : Nat} (h : LRow w base (.slice q m c) n ls) : ls.length ≤ c := by
  obtain ⟨h1, xs, ⟨hl, h2⟩, h3⟩ := h
  rcases h2 with ⟨e, h0⟩ | ⟨g, cap, cur, e, hg, hh, hnc, _⟩
  · cases e
    omega
  · cases e
    omega
theorem LRow.lt (h : LRow w base v n ls) : ∀ k, v.ownBlock = some k → base ≤ k ∧ k < w.heap.size := by
  obtain ⟨_, xs, h2, _⟩ := h
  exact h2.lt
theorem LRow.only {m : Nat} (h : LRow w base v n ls) (ho : Only [m] w w') (hm : IsMapB w m) : LRow w' base v n ls := by
  obtain ⟨h1, xs, h2, h3⟩ := h
  refine ⟨h1, xs, own_only h2 ho (fun b hb hmm => ?_), fun j u y h4 h5 => ?_⟩
  · rcases h2.2 with ⟨rfl, _⟩ | ⟨g, cap, cur, rfl, hg, hh, _⟩
    · cases hb
    · cases hb
      obtain ⟨es, clock, he⟩ := hm
      have e : g = m := List.mem_singleton.1 hmm
      rw [e, he] at hh
      cases hh
  · obtain ⟨bp, bc, k1, k2, k3, k4⟩ := h3 j u y h4 h5
    exact ⟨bp, bc, k1, src_off k2 ho hm, k3, fun h0 b hb => ⟨(k4 h0 b hb).1, Nat.lt_of_lt_of_le (k4 h0 b hb).2 ho.size⟩⟩
/-- A row of bytes of one's own is a link. -/
theorem LkC.of_own {A : Nat} (h : w.ownsRow A 5 1 y x.length (ints .u8 x)) (hs : ∀ z ∈ x, z < 256) (hl : x.length ≤ 1000000) (hg : ∀ k, g = some k → k < A) : LkC w g y x := by
  obtain ⟨q, c, rfl⟩ := own_slice h
  refine ⟨q, c, rfl, Src.own hs h, hl, fun h0 b hb => ?_⟩
  have := h.lt b hb
  refine ⟨fun e => ?_, this.2⟩
  have := hg b e.symm
  omega
end
theorem one32 (w : World) (y : Value) : (w.alloc (.cells #[y] 32)).rangeAt w.heap.size 0 [y] := fun j u hu => by
  rw [cell_of_row _ _ _ _ _ _ (heap_alloc_new w _), Nat.zero_add]
  simpa using hu
theorem law_append_links {ops : Array Oper} {rest : List Oper} {dst : Option Tmp} {T : TypeId} {pos : String} {after : Array Edge} {a : Act} {w : World} {Q : Exit → Act → World → Prop} {so xo : Operand}
    (base : Nat) (v : Value) (n : Nat) (ls : Ls) (ad : Addr) (m c : Nat) (news : List Value) (ms : Ls) (hs : a.eval so = v) (hx : a.eval xo = .slice (some ad) m c) (hown : LRow w base v n ls) (hm : ms.length = m) (hl : news.length = m) (hc : ∀ j u, news[j]? = some u → w.cell? (ad.add j) = some u) (hk : AreC w v.ownBlock news ms)
    (hn : n + m ≤ 1000000) (hbase : base ≤ w.heap.size)
    (h : ∀ v' w', LRow w' base v' (n + m) (ls ++ ms) → w.grownBy w' v.ownBlock → (v'.ownBlock = v.ownBlock ∨ v'.ownBlock = some w.heap.size) → wpList Try.prog ops Q rest (a.put dst v') w') :
    wpList Try.prog ops Q ({ dst := dst, op := .call { callee := .builtin .append, args := #[so, xo], argTypes := #[31, 31] }, type := T, pos := pos, after := after, guard := none } :: rest) a w := by
  obtain ⟨i, hi, hsz, hby, hz⟩ := info23e
  obtain ⟨h1, xs, h2, h3⟩ := hown
  have hu : ∀ u ∈ news, u.oneCell' = true := fun u hu => by
    obtain ⟨j, hj, rfl⟩ := List.getElem_of_mem hu
    obtain ⟨bp, bc, k1, _⟩ := hk j news[j] (ms[j]'(by omega)) (List.getElem?_eq_getElem hj) (List.getElem?_eq_getElem (by omega))
    rw [k1]
    rfl
  refine wpList_append_own_at _ rfl so xo 31 rfl base 32 i _ 1 24 Try.underlying31 hi hz hsz hby rfl (by decide) v n xs hs h2 ad m c news hx (by omega) hc hu (by unfold maxLen; omega) (by omega) hbase (fun v' w' k1 k2 _ k3 => h v' w' ⟨by rw [List.length_append]; omega, xs ++ news, k1, ?_⟩ k2 k3)
  have ho : Only v.ownBlock.toList w w' := Only.of_grown k2 (fun x hx => by rw [hx]; simp)
  have hg : v'.ownBlock = v.ownBlock ∨ ∃ k, v'.ownBlock = some k ∧ w.heap.size ≤ k := k3.elim .inl (fun e => .inr ⟨_, e, Nat.le_refl _⟩)
  exact (h3.turn ho hg).append (by have := h2.1; omega) (hk.turn ho hg)
/-- One link is put behind the last one. -/
theorem law_append_link {ops : Array Oper} {rest : List Oper} {dst : Option Tmp} {T : TypeId} {pos : String} {after : Array Edge} {a : Act} {w : World} {Q : Exit → Act → World → Prop} {so xo : Operand}
    (base : Nat) (v : Value) (n : Nat) (ls : Ls) (g : Nat) (y : Value) (x : List Nat) (hs : a.eval so = v) (hx : a.eval xo = .slice (some ⟨g, 0, none⟩) 1 1) (hown : LRow w base v n ls) (hc : w.rangeAt g 0 [y]) (hk : LkC w v.ownBlock y x)
    (hn : n + 1 ≤ 1000000) (hbase : base ≤ w.heap.size)
    (h : ∀ v' w', LRow w' base v' (n + 1) (ls ++ [x]) → w.grownBy w' v.ownBlock → (v'.ownBlock = v.ownBlock ∨ v'.ownBlock = some w.heap.size) → wpList Try.prog ops Q rest (a.put dst v') w') :
    wpList Try.prog ops Q ({ dst := dst, op := .call { callee := .builtin .append, args := #[so, xo], argTypes := #[31, 31] }, type := T, pos := pos, after := after, guard := none } :: rest) a w := by
  refine law_append_links base v n ls ⟨g, 0, none⟩ 1 1 [y] [x] hs hx hown rfl rfl (fun j u hu => by rw [Addr.add_mid]; exact hc j u hu) (fun j u z h1 h2 => ?_) hn hbase h
  match j, h1, h2 with
  | 0, h1, h2 =>
    cases h1
    cases h2
    exact hk
theorem LRow.grown {w w' : World} {base n : Nat} {v : Value} {ls : Ls} (h : LRow w base v n ls) (hg : w.grownBy w' v.ownBlock) (hb : base ≤ w.heap.size) : Below base w w' :=
  (Below.refl base w).grown hg hb (fun k hk => (h.lt k hk).1)
set_option maxHeartbeats 1000000 in
theorem bclone_any (sv : Value) (l : List Nat) (w : World) (hs : Src w sv l) (hl : l.length ≤ 900000) :
    Calls Try.prog 33 #[sv] w fun e w' => ∃ v, e = .returned v ∧ w'.ownsRow w.heap.size 5 1 v l.length (ints .u8 l) ∧ Below w.heap.size w w' := by
  rcases hs.cases with ⟨rfl, rfl⟩ | ⟨ad, c, rfl⟩
  · have hnil : (binOp .eql 32 (.slice none 0 0) (.slice none 0 0)).run Try.prog w = .ok (.bool true) w := Lib.run_eql_slice_nil w 32 5 none 0 0 0 0 Try.underlying32
    go_enter Try.func33, Try.ntmps33
    go_wp2_with fail
    go_ret
    exact ⟨_, rfl, own_none _ _ _ _, Below.refl _ _⟩
  · have HS : Hid (Src w (.slice (some ad) l.length c) l) := hs
    have hnil : (binOp .eql 32 (.slice (some ad) l.length c) (.slice none 0 0)).run Try.prog w = .ok (.bool false) w := Lib.run_eql_slice_nil w 32 5 (some ad) l.length c 0 0 Try.underlying32
    clear hs
    go_enter Try.func33, Try.ntmps33
    go_wp2_with (first | with_reducible (refine stop_builtin .append ?_))
    refine Stop.go ?_
    have hs1 : Src (w.alloc (.cells #[] 5)) (.slice (some ad) l.length c) l := HS.out.below ((Below.refl _ w).alloc (Nat.le_refl _) _)
    refine law_append_grow w.heap.size (.slice (some ⟨w.heap.size, 0, none⟩) 0 0) 0 [] _ l rfl rfl (own_built w) hs1 (by omega) (by simp) ?_
    intro v w1 h1 h2
    have HO : Hid (w1.ownsRow w.heap.size 5 1 v l.length (ints .u8 l)) := by
      rw [Nat.zero_add] at h1
      exact h1
    have HB : Hid (Below w.heap.size w w1) := ((Below.refl _ w).alloc (Nat.le_refl _) _).trans (h2.below (own_built w) (by simp))
    clear h1 h2 hs1
    go_wp2_with fail
    go_ret
    exact ⟨_, rfl, HO.out, HB.out⟩
/-- The cells of a row of links. -/
theorem row_cells {w : World} {q : Option Addr} {ls : Ls} (h : LkRow w q ls) : ∃ xs : List Value, xs.length = ls.length ∧ (∀ ad, q = some ad → ∀ (j : Nat) (u : Value), xs[j]? = some u → w.cell? (ad.add j) = some u) ∧ ∀ (j : Nat) (u : Value) (y : List Nat), xs[j]? = some u → ls[j]? = some y → ∃ bp bc, u = .slice bp y.length bc ∧ Src w u y := by
  refine ⟨(List.range ls.length).map (fun j => match q with | some ad => (w.cell? (ad.add j)).getD undef | none => undef), by simp, fun ad e j u hu => ?_, fun j u y hu hy => ?_⟩
  · subst e
    obtain ⟨hj, hu⟩ := List.getElem?_eq_some_iff.1 hu
    have hj' : j < ls.length := by simpa using hj
    obtain ⟨b, o, bp, bc, h1, h2, h3, h4, h5⟩ := h j hj'
    cases h1
    simp only [List.getElem_map, List.getElem_range] at hu
    rw [Addr.add_mid] at hu ⊢
    rw [h3] at hu ⊢
    rw [← hu]
    rfl
  · obtain ⟨hj, hy⟩ := List.getElem?_eq_some_iff.1 hy
    subst hy
    obtain ⟨hj2, hu⟩ := List.getElem?_eq_some_iff.1 hu
    obtain ⟨b, o, bp, bc, h1, h2, h3, h4, h5⟩ := h j hj
    subst h1
    simp only [List.getElem_map, List.getElem_range] at hu
    rw [Addr.add_mid, h3] at hu
    refine ⟨bp, bc, hu.symm, ?_⟩
    rw [← hu]
    exact h4
theorem own32 (w : World) : LRow (w.alloc (.cells #[] 32)) w.heap.size (.slice (some ⟨w.heap.size, 0, none⟩) 0 0) 0 [] :=
  ⟨rfl, [], ⟨rfl, .inr ⟨w.heap.size, 0, #[], rfl, Nat.le_refl _, heap_alloc_new w _, Nat.le_refl _, by unfold maxLen; omega, rfl, rfl⟩⟩, AreC.nil _ _ _⟩
set_option maxHeartbeats 1000000 in
theorem lclone_any (q : Option Addr) (cp : Nat) (ls : Ls) (w : World) (h : LkRow w q ls) (hn : ls.length ≤ 900000) (hs : ∀ x ∈ ls, x.length ≤ 1000000) :
    Calls Try.prog 30 #[.slice q ls.length cp] w fun e w' => ∃ v, e = .returned v ∧ LRow w' w.heap.size v ls.length ls ∧ Below w.heap.size w w' := by
  obtain ⟨n, HN⟩ : ∃ n, Hid (ls.length = n) := ⟨_, rfl⟩
  have HL : Hid (LkRow w q ls) := h
  rw [HN.out] at hn ⊢
  cases q with
  | none =>
    have h0 : ls = [] := by
      cases ls with
      | nil => rfl
      | cons x r => obtain ⟨_, _, _, _, e, _⟩ := h 0 (by simp); cases e
    subst h0
    have e0 : n = 0 := HN.out.symm
    subst e0
    have hnil : (binOp .eql 31 (.slice none 0 cp) (.slice none 0 0)).run Try.prog w = .ok (.bool true) w := Lib.run_eql_slice_nil w 31 32 none 0 cp 0 0 Try.underlying31
    clear h
    go_enter Try.func30, Try.ntmps30
    go_wp2_with fail
    go_ret
    exact ⟨_, rfl, LRow.nil _ _, Below.refl _ _⟩
  | some ad =>
    obtain ⟨xs, x1, x2, x3⟩ := row_cells h
    have hnil : (binOp .eql 31 (.slice (some ad) n cp) (.slice none 0 0)).run Try.prog w = .ok (.bool false) w := Lib.run_eql_slice_nil w 31 32 (some ad) n cp 0 0 Try.underlying31
    have hb : Below w.heap.size w (w.alloc (.cells #[] 32)) := (Below.refl _ w).alloc (Nat.le_refl _) _
    have HC : Hid (∀ (j : Nat) (u : Value), xs[j]? = some u → (w.alloc (.cells #[] 32)).cell? (ad.add j) = some u) := fun j u hu => (hb.cell (World.block_lt_of_cell? w _ (x2 ad rfl j u hu))).trans (x2 ad rfl j u hu)
    have HK : Hid (AreC (w.alloc (.cells #[] 32)) (some w.heap.size) xs ls) := fun j u y hu hy => by
      obtain ⟨bp, bc, k1, k2⟩ := x3 j u y hu hy
      refine ⟨bp, bc, k1, k2.below hb, hs y (List.mem_of_getElem? hy), fun h0 b hbb => ?_⟩
      have := (Old.of k2).2 h0 b hbb
      refine ⟨fun e => ?_, Nat.lt_of_lt_of_le this hb.size⟩
      cases e
      omega
    have HX : Hid (xs.length = n) := x1.trans HN.out
    have HB : Hid (Below w.heap.size w (w.alloc (.cells #[] 32))) := hb
    clear h x1 x2 x3 hb
    go_enter Try.func30, Try.ntmps30
    go_wp2_with (first | with_reducible (refine stop_builtin .append ?_))
    refine Stop.go ?_
    refine law_append_links w.heap.size (.slice (some ⟨w.heap.size, 0, none⟩) 0 0) 0 [] ad n cp xs ls rfl rfl (own32 w) HN.out HX.out HC.out HK.out (by omega) (by simp) ?_
    intro v w1 h1 h2 _
    have HO : Hid (LRow w1 w.heap.size v n ls) := by
      rw [Nat.zero_add] at h1
      exact h1
    have HB1 : Hid (Below w.heap.size w w1) := HB.out.trans ((own32 w).grown h2 (by simp))
    clear h1 h2
    go_wp2_with fail
    go_ret
    exact ⟨_, rfl, HO.out, HB1.out⟩
end Go.Proofs.Ytchoiioeeepoaaa.V19
/- The contract of Log. -/
namespace Go.Proofs.Ytchoiioeeepoaaa.V19
open Go.RowKit C8 E9 F17
set_option maxHeartbeats 4000000 in
theorem Log_any (p b m : Nat) (M : St) (x c : Int) (w : World) (h : SvAt w p b m M) (hx : In64 x) (hc : In64 c) (hok : Wf (M x c)) :
    Calls Try.prog 19 #[.pointer (some ⟨p, 0, none⟩), .int .i64 x, .int .i64 c] w fun e w' => ∃ v, e = .returned v ∧ LRow w' w.heap.size v (M x c).length (M x c) ∧ Below w.heap.size w w' := by
  obtain ⟨q, cp, hlk, HL, -⟩ := h.look hx hc
  have d0 : w.cell? ⟨p, 0, none⟩ = some (.map (some b)) := cell_of_row _ _ _ _ _ _ h.cell
  generalize M x c = ls at *
  obtain ⟨n, HN⟩ : ∃ n, Hid (ls.length = n) := ⟨_, rfl⟩
  have HA : Hid (LkRow w q ls) := HL
  have HW : Hid (Wf ls) := hok
  have hn : n ≤ 64 := by have := HN.out; have := hok.1; omega
  rw [HN.out] at hlk ⊢
  unfold pl at hlk
  clear h HL hok hx hc
  have l1 : (n : Int) ≤ 64 := by omega
  go_enter Try.func19, Try.ntmps19
  go_wp2_with fail
  go_loopw [7, 19] (fun sl i wr => ∃ j : Nat, j ≤ n ∧ i = .int .i64 j ∧ Hid (LRow wr w.heap.size sl j (ls.take j)) ∧ Hid (Below w.heap.size w wr)) (fun _ i _ => n - (intOf i).toNat)
  case atStart => exact ⟨0, by omega, rfl, by show LRow _ _ _ _ _; exact LRow.nil _ _, Below.refl _ _⟩
  case round =>
    obtain ⟨j, hj, rfl, HO, HB⟩ := hrel
    by_cases hlt : j < n
    · have ja : j < ls.length := by rw [HN.out]; exact hlt
      obtain ⟨bb, o, bp, bc, rfl, k2, k3, k4, k5⟩ := HA.out j ja
      have d1 := (HB.out.cell (p := ⟨bb, o + j, none⟩) k2).trans k3
      have j1 : (j : Int) < (n : Int) := by omega
      have j0 : (0 : Int) ≤ (j : Int) := by omega
      obtain ⟨y, HY⟩ : ∃ y : List Nat, Hid (ls[j] = y) := ⟨ls[j], rfl⟩
      rw [HY.out] at d1 k4
      have hy : y ∈ ls := by rw [← HY.out]; exact List.getElem_mem _
      have HYW : Hid (y.length ≤ 4096 ∧ ∀ z ∈ y, z < 256) := ⟨(HW.out.2 y hy).1.2, (HW.out.2 y hy).2⟩
      have HT : Hid (ls.take (j + 1) = ls.take j ++ [y]) := by
        show _ = _
        rw [List.take_succ_eq_append_getElem ja, HY.out]
      have HC : ∀ W, W = wr → Calls Try.prog 33 #[.slice bp y.length bc] W fun e w' => ∃ v, e = .returned v ∧ Hid (w'.ownsRow W.heap.size 5 1 v y.length (ints .u8 y) ∧ Below W.heap.size W w') := by
        rintro W rfl
        refine (bclone_any _ _ W (k4.below HB.out) (by have := HYW.out.1; omega)).mono ?_
        rintro e w' ⟨v, rfl, h1, h2⟩
        exact ⟨v, rfl, h1, h2⟩
      clear k3 k4 k5 hy hlk d0
      go_wp2_with (first | (go_at_call 33; refine (HC _ rfl).mono ?_; rintro e w1 ⟨v1, rfl, H1⟩; obtain ⟨vq, vc, rfl⟩ := own_slice H1.out.1) | with_reducible (refine stop_builtin .append ?_))
      refine Stop.go ?_
      obtain ⟨h1, h2⟩ := H1.out
      have hb2 : Below w1.heap.size w1 (w1.alloc (.cells #[.slice vq y.length vc] 32)) := (Below.refl _ w1).alloc (Nat.le_refl _) _
      have hO : LRow (w1.alloc (.cells #[.slice vq y.length vc] 32)) w.heap.size u7 j (ls.take j) := (HO.out.below h2).below hb2
      have hk : LkC (w1.alloc (.cells #[.slice vq y.length vc] 32)) u7.ownBlock (.slice vq y.length vc) y := (LkC.of_own h1 HYW.out.2 (by have := HYW.out.1; omega) (fun k hk => (HO.out.lt k hk).2)).below hb2
      refine law_append_link w.heap.size u7 j (ls.take j) w1.heap.size (.slice vq y.length vc) y rfl rfl hO (one32 w1 (.slice vq y.length vc)) hk (by omega) (by have := HB.out.size; have := h2.size; simp; omega) ?_
      intro v' w2 k1 k2 _
      have HO2 : Hid (LRow w2 w.heap.size v' (j + 1) (ls.take (j + 1))) := by
        show LRow _ _ _ _ _
        rw [HT.out]
        exact k1
      have HB2 : Hid (Below w.heap.size w w2) := (HB.out.trans (h2.mono HB.out.size)).trans ((hb2.mono (Nat.le_trans HB.out.size h2.size)).trans (hO.grown k2 (by have := HB.out.size; have := h2.size; simp; omega)))
      clear h1 h2 hb2 hO hk k1 k2 H1 HO HT HY
      go_wp2_with fail
      refine ⟨⟨j + 1, by omega, by simp, HO2, HB2⟩, ?_⟩
      simp only [intOf]
      omega
    · obtain rfl : j = n := by omega
      have j1 : ¬ (j : Int) < (j : Int) := by omega
      have HO2 : Hid (LRow wr w.heap.size u7 j ls) := by
        have := HO.out
        rw [List.take_of_length_le (by rw [HN.out]; omega)] at this
        exact this
      clear HO
      go_wp2_with fail
      go_ret
      exact ⟨_, rfl, HO2.out, HB.out⟩
end Go.Proofs.Ytchoiioeeepoaaa.V19
