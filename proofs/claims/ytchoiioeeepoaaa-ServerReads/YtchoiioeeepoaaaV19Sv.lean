/- The server's logs by plain mathematics, and a server as it stands in memory. -/
import Derived.Test.YtchoiioeeepoaaaV19Key
import Derived.Test.YtchoiioeeepoaaaF17D4
import Derived.Test.YtchoiioeeepoaaaF17Enc
namespace Go.Proofs.Ytchoiioeeepoaaa.V19
open Go.RowKit C8 E9 F17
open Go.Maps (Keyed)
abbrev Ls := List (List Nat)
/-- The logs, by branch and collection. -/
abbrev St := Int → Int → Ls
def none0 : St := fun _ _ => []
def upd (M : St) (x c : Int) (l : Ls) : St := fun y d => if y = x ∧ d = c then l else M y d
/-- Links that aren't there yet, put behind the last one. -/
def add (log ls : Ls) : Ls := ls.foldl (fun l x => if x ∈ l then l else l ++ [x]) log
/-- How many links a frame has room for. -/
def fit (c i : Int) (ls : Ls) : Nat → Nat
  | 0 => 0
  | k + 1 => if (F17.bytes ⟨3, c, i, ls.take (k + 1), []⟩).length ≤ 32768 then k + 1 else fit c i ls k
def bat (c i : Int) (ls : Ls) : List Nat := F17.bytes ⟨3, c, i, ls.take (fit c i ls (min ls.length 8)), []⟩
def pushA (M : St) (x c : Int) (ls : Ls) : St × Int := if 64 < (add (M x c) ls).length then (M, 33) else (upd M x c (add (M x c) ls), 0)
def pullA (M : St) (x c i : Int) : List Nat × Int := if ((M x c).length : Int) < i then ([], 14) else (bat c i ((M x c).drop i.toNat), 0)
/-- What Handle answers. -/
def hd (M : St) (x : Int) (l : List Nat) : St × List Nat × Int :=
  if x < 0 ∨ 2 ≤ x then (M, [], 12) else if 32768 < l.length then (M, [], 11) else match F17.dec l with
  | none => (M, [], 10)
  | some f => if f.kind = 1 then ((pushA M x f.coll f.links).1, [], (pushA M x f.coll f.links).2) else if f.kind = 2 then (M, pullA M x f.coll f.idx) else (M, [], 13)
def forkM (n : Int) (M : St) : St := fun x c => if x = 1 then (M 0 c).take n.toNat else M x c
/-- What logs keep to. -/
def Wf (l : Ls) : Prop := l.length ≤ 64 ∧ ∀ x ∈ l, (1 ≤ x.length ∧ x.length ≤ 4096) ∧ ∀ y ∈ x, y < 256
def Ok (M : St) : Prop := ∀ x c, Wf (M x c)
theorem wf_nil : Wf [] := ⟨by simp, by simp⟩
theorem ok_none : Ok none0 := fun _ _ => wf_nil
theorem ok_upd {M : St} (h : Ok M) {l : Ls} (hl : Wf l) (x c : Int) : Ok (upd M x c l) := fun y d => by
  unfold upd
  split
  · exact hl
  · exact h y d
theorem wf_take {l : Ls} (h : Wf l) (n : Nat) : Wf (l.take n) := ⟨by rw [List.length_take]; have := h.1; omega, fun x hx => h.2 x (List.mem_of_mem_take hx)⟩
theorem ok_fork {M : St} (h : Ok M) (n : Int) : Ok (forkM n M) := fun x c => by
  unfold forkM
  split
  · exact wf_take (h 0 c) _
  · exact h x c
theorem add_nil (log : Ls) : add log [] = log := rfl
theorem add_cons (log : Ls) (x : List Nat) (r : Ls) : add log (x :: r) = add (if x ∈ log then log else log ++ [x]) r := rfl
theorem add_take {log ls : Ls} {j : Nat} (h : j < ls.length) : add log (ls.take (j + 1)) = if ls[j] ∈ add log (ls.take j) then add log (ls.take j) else add log (ls.take j) ++ [ls[j]] := by
  rw [List.take_succ_eq_append_getElem h]
  simp only [add, List.foldl_append, List.foldl_cons, List.foldl_nil]
  rfl
theorem mem_add : ∀ {ls log : Ls} {x : List Nat}, x ∈ add log ls ↔ x ∈ log ∨ x ∈ ls
  | [], log, x => by simp [add_nil]
  | y :: r, log, x => by
    rw [add_cons, mem_add]
    by_cases h : y ∈ log
    · rw [if_pos h]
      constructor
      · rintro (h1 | h1)
        · exact .inl h1
        · exact .inr (List.mem_cons_of_mem _ h1)
      · rintro (h1 | h1)
        · exact .inl h1
        · rcases List.mem_cons.1 h1 with rfl | h1
          · exact .inl h
          · exact .inr h1
    · rw [if_neg h]
      simp [or_assoc]
theorem add_length : ∀ {ls log : Ls}, log.length ≤ (add log ls).length ∧ (add log ls).length ≤ log.length + ls.length
  | [], log => by simp [add_nil]
  | y :: r, log => by
    rw [add_cons]
    have := add_length (ls := r) (log := if y ∈ log then log else log ++ [y])
    split at this
    · rename_i h
      rw [if_pos h]
      simp only [List.length_cons]
      omega
    · rename_i h
      rw [if_neg h]
      simp only [List.length_cons, List.length_append, List.length_nil] at this ⊢
      omega
theorem ok_push {M : St} (h : Ok M) {x c : Int} {ls : Ls} (hl : ∀ y ∈ ls, (1 ≤ y.length ∧ y.length ≤ 4096) ∧ ∀ z ∈ y, z < 256) : Ok (pushA M x c ls).1 := by
  unfold pushA
  split
  · exact h
  · rename_i h1
    refine ok_upd h ⟨by omega, fun y hy => ?_⟩ x c
    rcases mem_add.1 hy with hy | hy
    · exact (h x c).2 y hy
    · exact hl y hy
theorem dec_small {l : List Nat} {f : Fr} (hl : ∀ x ∈ l, x < 256) (h : F17.dec l = some f) : ∀ y ∈ f.links, ∀ z ∈ y, z < 256 := by
  obtain ⟨h1, h2⟩ := (F17.dec_iff l hl f).1 h
  intro y hy z hz
  refine hl z ?_
  rw [← h2, F17.bytes_eq]
  simp only [List.mem_append]
  refine .inr (.inr (.inr (.inr (.inl ?_))))
  obtain ⟨a, b, hab⟩ := List.append_of_mem hy
  have e : F17.lpts f.links = F17.lpts a ++ (txt y :: F17.lpts b) := by rw [hab]; simp [F17.lpts]
  rw [e]
  have e2 : Cd.enc (F17.lpts a ++ (txt y :: F17.lpts b)) = Cd.enc (F17.lpts a) ++ (Cd.one (txt y) ++ Cd.enc (F17.lpts b)) := by rw [Cd.enc_append]; rfl
  rw [e2]
  simp only [List.mem_append]
  refine .inr (.inl ?_)
  have e3 : Cd.one (txt y) = Cd.be 2 y.length ++ y := rfl
  rw [e3]
  exact List.mem_append.2 (.inr hz)
theorem ok_hd {M : St} (h : Ok M) {x : Int} {l : List Nat} (hl : ∀ y ∈ l, y < 256) : Ok (hd M x l).1 := by
  unfold hd
  split
  · exact h
  · split
    · exact h
    · split
      · exact h
      · rename_i f hf
        split
        · exact ok_push h (fun y hy => ⟨(F17.right_bounds ((F17.dec_iff l hl f).1 hf).1).2.2.2.2.1 y hy, dec_small hl hf y hy⟩)
        · split <;> exact h
/-- A block that is a map. -/
def IsMapB (w : World) (b : Nat) : Prop := ∃ es clock, w.heap[b]? = some (.map es clock)
theorem IsMapB.cell {w : World} {b : Nat} (h : IsMapB w b) (o : Nat) (sp : Option Nat) : w.cell? ⟨b, o, sp⟩ = none := by
  obtain ⟨es, clock, h⟩ := h
  simp [World.cell?, h]
theorem src_off {w w' : World} {v : Value} {l : List Nat} {m : Nat} (h : Src w v l) (ho : Only [m] w w') (hm : IsMapB w m) : Src w' v l := by
  obtain ⟨hs, h1 | h1 | ⟨b, o, c', rfl, hc, hr⟩⟩ := h
  · exact ⟨hs, .inl h1⟩
  · exact ⟨hs, .inr (.inl h1)⟩
  · cases l with
    | nil => exact ⟨hs, .inr (.inl ⟨_, _, rfl, rfl⟩)⟩
    | cons x r =>
      have hb : b ≠ m := fun e => by
        have := hr 0 (.int .u8 (x : Int)) (by simp [ints])
        rw [e, hm.cell] at this
        cases this
      exact ⟨hs, .inr (.inr ⟨b, o, c', rfl, hc, range_kept hr (ho.block b (range_lt hr (by simp [ints])) (by simpa using hb))⟩)⟩
theorem row_off {w w' : World} {q : Option Addr} {ls : Ls} {m : Nat} (h : LkRow w q ls) (ho : Only [m] w w') (hm : IsMapB w m) : LkRow w' q ls := fun j hj => by
  obtain ⟨b, o, bp, bc, h1, h2, h3, h4, h5⟩ := h j hj
  have hb : b ≠ m := fun e => by
    rw [e, hm.cell] at h3
    cases h3
  refine ⟨b, o, bp, bc, h1, Nat.lt_of_lt_of_le h2 ho.size, ?_, src_off h4 ho hm, h5⟩
  rw [World.cell?_of_block (a := ⟨b, o + j, none⟩) (ho.block b h2 (by simpa using hb))]
  exact h3
/-- A server in memory: its struct lies in block p, its map in block b. -/
structure SvAt (w : World) (p b n : Nat) (M : St) : Prop where
  cell : w.heap[p]? = some (.cells #[.map (some b)] 60 (0, 0))
  own : ∃ D, w.ownsMap Try.prog 64 eR b n D ∧ (∀ x c, In64 x → In64 c → Maps.has D (kl x c) = true → x = 0 ∨ x = 1) ∧ ∀ x c, In64 x → In64 c → ∃ q cp, D.atKey (kl x c) (.held (.slice none 0 0)) = .held (.slice q (M x c).length cp) ∧ LkRow w q (M x c) ∧ (M x c).length ≤ cp
section
variable {w w' : World} {p b n : Nat} {M : St}
theorem SvAt.isMap (h : SvAt w p b n M) : IsMapB w b := by
  obtain ⟨D, ⟨es, clock, hb, _⟩, _⟩ := h.own
  exact ⟨es, clock, hb⟩
theorem SvAt.ltp (h : SvAt w p b n M) : p < w.heap.size := (Array.getElem?_eq_some_iff.1 h.cell).1
theorem SvAt.ltb (h : SvAt w p b n M) : b < w.heap.size := by
  obtain ⟨es, clock, hb⟩ := h.isMap
  exact (Array.getElem?_eq_some_iff.1 hb).1
theorem SvAt.ne (h : SvAt w p b n M) : p ≠ b := fun e => by
  obtain ⟨es, clock, hb⟩ := h.isMap
  have := h.cell
  rw [e, hb] at this
  cases this
theorem SvAt.below (h : SvAt w p b n M) (hb : Below w.heap.size w w') : SvAt w' p b n M := by
  obtain ⟨D, ho, h2, hl⟩ := h.own
  refine ⟨(hb.block p h.ltp).trans h.cell, D, ?_, h2, fun x c hx hc => ?_⟩
  · obtain ⟨es, clock, hm, r⟩ := ho
    exact ⟨es, clock, (hb.block b h.ltb).trans hm, r⟩
  · obtain ⟨q, cp, h3, h4, h5⟩ := hl x c hx hc
    exact ⟨q, cp, h3, h4.below hb, h5⟩
theorem SvAt.mono (h : SvAt w p b n M) {n' : Nat} (hn : n ≤ n') : SvAt w p b n' M := by
  obtain ⟨D, ho, h2, hl⟩ := h.own
  exact ⟨h.cell, D, ho.mono hn, h2, hl⟩
/-- Under what turns just another map. -/
theorem SvAt.off {m : Nat} (h : SvAt w p b n M) (ho : Only [m] w w') (hm : IsMapB w m) (hne : b ≠ m) : SvAt w' p b n M := by
  obtain ⟨D, hw, h2, hl⟩ := h.own
  have hp : p ≠ m := fun e => by
    obtain ⟨es, clock, hb⟩ := hm
    have := h.cell
    rw [e, hb] at this
    cases this
  refine ⟨(ho.block p h.ltp (by simpa using hp)).trans h.cell, D, ?_, h2, fun x c hx hc => ?_⟩
  · obtain ⟨es, clock, hm, r⟩ := hw
    have hlt := (Array.getElem?_eq_some_iff.1 hm).1
    exact ⟨es, clock, (ho.block b hlt (by simpa using hne)).trans hm, r⟩
  · obtain ⟨q, cp, h3, h4, h5⟩ := hl x c hx hc
    exact ⟨q, cp, h3, row_off h4 ho hm, h5⟩
theorem SvAt.look (h : SvAt w p b n M) {x c : Int} (hx : In64 x) (hc : In64 c) : ∃ q cp, (Instr.lookup 58 (.map (some b)) (pl x c) false).run Try.prog w = .ok (.slice q (M x c).length cp) w ∧ LkRow w q (M x c) ∧ (M x c).length ≤ cp := by
  obtain ⟨D, ho, _, hl⟩ := h.own
  obtain ⟨v, ps, hrun, hv⟩ := ho.lookup law under58 (zero31 w) (zd := .held (.slice none 0 0)) rfl (key_mk hx hc)
  obtain ⟨q, cp, h1, h2, h3⟩ := hl x c hx hc
  rw [h1] at hv
  have e := eR_inv hv
  simp only [Prod.mk.injEq, DataW.held.injEq] at e
  exact ⟨q, cp, by rw [hrun, ← e.1], h2, h3⟩
theorem turned_only {w w' : World} {b : Nat} (h : w.mapTurned w' b) : Only [b] w w' := Only.of_grown h.grown (fun x hx => by cases hx; simp)
theorem turned_map {w w' : World} {b : Nat} (h : w.mapTurned w' b) : IsMapB w b ∧ IsMapB w' b := by
  obtain ⟨es, clock, es', clock', hb, rfl⟩ := h
  exact ⟨⟨es, clock, hb⟩, ⟨es', clock', ChangeMaps.heap_setBlock_same hb _⟩⟩
theorem SvAt.put (h : SvAt w p b n M) {x c : Int} (hx : x = 0 ∨ x = 1) (hc : In64 c) (hn : n ≤ 1000000) {q : Option Addr} {cp : Nat} {l : Ls} (hr : LkRow w q l) (hcp : l.length ≤ cp) :
    ∃ w', (Instr.mapUpdate 58 (.map (some b)) (pl x c) (.slice q l.length cp)).run Try.prog w = .ok () w' ∧ SvAt w' p b (n + 1) (upd M x c l) ∧ Only [b] w w' := by
  have hx64 : In64 x := by unfold In64; rcases hx with rfl | rfl <;> decide
  have hmap := h.isMap
  have hlp := h.ltp
  have hne := h.ne
  have hcell := h.cell
  obtain ⟨D, ho, h2, hl⟩ := h.own
  have him := ho.isMap
  obtain ⟨w', hrun, ho', ht⟩ := ho.store law under58 (by unfold maxLen; omega) (key_mk hx64 hc) (val := .slice q l.length cp) (d := .held (.slice q l.length cp)) (ps := []) rfl
  have hon := turned_only ht
  refine ⟨w', hrun, ⟨(hon.block p hlp (by simpa using hne)).trans hcell, _, ho', fun y d hy hd hh => ?_, fun y d hy hd => ?_⟩, hon⟩
  · by_cases e : kl y d = kl x c
    · obtain ⟨rfl, rfl⟩ := kl_inj hy hd hx64 hc e
      exact hx
    · rw [Maps.has_put_other e] at hh
      exact h2 y d hy hd hh
  · by_cases e : y = x ∧ d = c
    · obtain ⟨rfl, rfl⟩ := e
      refine ⟨q, cp, ?_, ?_, ?_⟩
      · rw [Maps.atKey_put_same him (kl_key _ _)]
        simp [upd]
      · simp only [upd, and_self, if_true]
        exact row_off hr hon hmap
      · simp only [upd, and_self, if_true]
        exact hcp
    · have ek : kl y d ≠ kl x c := fun e1 => e (kl_inj hy hd hx64 hc e1)
      obtain ⟨q', cp', h3, h4, h5⟩ := hl y d hy hd
      refine ⟨q', cp', ?_, ?_, ?_⟩
      · rw [Maps.atKey_put_other ek, h3]
        simp only [upd, if_neg e]
      · simp only [upd, if_neg e]
        exact row_off h4 hon hmap
      · simp only [upd, if_neg e]
        exact h5
end
end Go.Proofs.Ytchoiioeeepoaaa.V19
