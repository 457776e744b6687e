/- How every statement begins: a server of one's own; the anchor, the document's example. -/
import Derived.Test.YtchoiioeeepoaaaV19B
import Derived.Test.YtchoiioeeepoaaaF17RBytes
namespace Go.Proofs.Ytchoiioeeepoaaa.V19
open Go.RowKit C8 E9 F17
/-- A server that was made since w. -/
structure SvIn (w W : World) (p b m : Nat) (M : St) : Prop where
  at_ : SvAt W p b m M
  bel : Below w.heap.size w W
  ltb : w.heap.size ≤ b
  ok : Ok M
section
variable {w W W' : World} {p b m : Nat} {M : St}
theorem SvIn.step (h : SvIn w W p b m M) (hb : Below W.heap.size W W') : SvIn w W' p b m M := ⟨h.at_.below hb, h.bel.trans (hb.mono h.bel.size), h.ltb, h.ok⟩
theorem SvIn.new (w : World) : Calls Try.prog 11 #[] w fun e w' => ∃ p b, e = .returned (.pointer (some ⟨p, 0, none⟩)) ∧ Hid (SvIn w w' p b 0 none0) := by
  refine (New_any w).mono ?_
  rintro e w' ⟨p, b, rfl, h1, h2, h3, h4⟩
  exact ⟨p, b, rfl, h1, h4, h3, ok_none⟩
theorem SvIn.new' {w0 w : World} (h0 : Below w0.heap.size w0 w) : Calls Try.prog 11 #[] w fun e w' => ∃ p b, e = .returned (.pointer (some ⟨p, 0, none⟩)) ∧ Hid (SvIn w0 w' p b 0 none0 ∧ Below w.heap.size w w') := by
  refine (New_any w).mono ?_
  rintro e w' ⟨p, b, rfl, h1, h2, h3, h4⟩
  exact ⟨p, b, rfl, ⟨h1, h0.trans (h4.mono h0.size), Nat.le_trans h0.size h3, ok_none⟩, h4⟩
theorem SvIn.handle (h : SvIn w W p b m M) {x : Int} {v : Value} {l : List Nat} (hs : Src W v l) (hx : In64 x) (hm : m ≤ 900000) :
    Calls Try.prog 14 #[.pointer (some ⟨p, 0, none⟩), .int .i64 x, v] W fun e w' => ∃ v', e = .returned (.tuple #[v', .int .i64 (hd M x l).2.2]) ∧ Hid (SvIn w w' p b (m + 1) (hd M x l).1 ∧ Src w' v' (hd M x l).2.1 ∧ Only [b] W w' ∧ IsMapB W b) := by
  refine (Handle_any p b m M x v l W h.at_ hx h.ok hm hs).mono ?_
  rintro e w' ⟨v', rfl, h1, h2, h3⟩
  exact ⟨v', rfl, ⟨h1, h.bel.trans (h3.below h.bel.size (by simpa using h.ltb)), h.ltb, ok_hd h.ok hs.small⟩, h2, h3, h.at_.isMap⟩
theorem SvIn.log (h : SvIn w W p b m M) {x c : Int} (hx : In64 x) (hc : In64 c) :
    Calls Try.prog 19 #[.pointer (some ⟨p, 0, none⟩), .int .i64 x, .int .i64 c] W fun e w' => ∃ q cp, e = .returned (.slice q (M x c).length cp) ∧ Hid (LRow w' W.heap.size (.slice q (M x c).length cp) (M x c).length (M x c) ∧ SvIn w w' p b m M ∧ Below W.heap.size W w') := by
  refine (Log_any p b m M x c W h.at_ hx hc (h.ok x c)).mono ?_
  rintro e w' ⟨v, rfl, h1, h2⟩
  obtain ⟨q, cp, rfl⟩ := h1.slice
  exact ⟨q, cp, rfl, h1, h.step h2, h2⟩
end
theorem hd_push {M : St} {x c : Int} {ls : Ls} (hx : x = 0 ∨ x = 1) (hr : F17.right (pf c ls) = true) (hb : (F17.bytes (pf c ls)).length ≤ 32768) : hd M x (F17.bytes (pf c ls)) = ((pushA M x c ls).1, [], (pushA M x c ls).2) := by
  unfold hd
  rw [if_neg (by omega), if_neg (by omega), F17.dec_own hr]
  rfl
def gf (c i : Int) : Fr := ⟨2, c, i, [], []⟩
theorem gf_right {c i : Int} (hc : 1 ≤ c ∧ c ≤ 1099511627776) (hi : 0 ≤ i ∧ i ≤ 64) : F17.right (gf c i) = true := by
  unfold F17.right gf
  rw [decide_eq_true hc, decide_eq_true hi]
  rfl
theorem gf_len (c i : Int) : (F17.bytes (gf c i)).length = 26 := by
  rw [F17.bytes_eq]
  have e1 : ∀ n : Int, (Cd.one (num n)).length = 6 := fun n => by
    show (Cd.be 6 _).length = 6
    rw [Cd.be_length]
  have e2 : (Cd.one (txt [])).length = 2 := by
    show (Cd.be 2 _ ++ []).length = 2
    rw [List.append_nil, Cd.be_length]
  have e3 : (Cd.enc (F17.lpts [])).length = 0 := rfl
  simp only [List.length_append, gf, e1, e2, e3]
theorem hd_pull {M : St} {x c i : Int} (hx : x = 0 ∨ x = 1) (hc : 1 ≤ c ∧ c ≤ 1099511627776) (hi : 0 ≤ i ∧ i ≤ 64) : hd M x (F17.bytes (gf c i)) = (M, pullA M x c i) := by
  unfold hd
  rw [if_neg (by omega), gf_len, if_neg (by omega), F17.dec_own (gf_right hc hi)]
  rfl
theorem gf_is (w : World) (c i : Int) : FrIs w (.agg #[.int .i64 2, .int .i64 c, .int .i64 i, .slice none 0 0, .slice none 0 0]) (gf c i) := ⟨none, 0, none, 0, rfl, LkRow.nil _ _, Src.nil _, Nat.zero_le _, Nat.zero_le _⟩
theorem gBytes_any (c i : Int) (W : World) (hc : 1 ≤ c ∧ c ≤ 1099511627776) (hi : 0 ≤ i ∧ i ≤ 64) : Calls Try.prog 13 #[.agg #[.int .i64 2, .int .i64 c, .int .i64 i, .slice none 0 0, .slice none 0 0]] W fun e w' => ∃ v, e = .returned v ∧ Hid (Src w' v (F17.bytes (gf c i)) ∧ Below W.heap.size W w') := by
  refine (rBytes_any (gf c i) _ W (gf_is W c i) (gf_right hc hi)).mono ?_
  rintro e w' ⟨v, rfl, h1, h2⟩
  exact ⟨v, rfl, Src.own (F17.bytes_small (gf_is W c i).small) h1, h2⟩
theorem pushA_ok {M : St} {x c : Int} {ls r : Ls} (h : add (M x c) ls = r) (hr : r.length ≤ 64) : pushA M x c ls = (upd M x c r, 0) := by
  unfold pushA
  rw [h, if_neg (by omega)]
/-- Two strings that the statement wrote out. -/
theorem str2 (w : World) (x y : Nat) (bx by_ : ByteArray) (hx : strB [x] = bx) (hy : strB [y] = by_) : StrRow (w.alloc (.cells #[.string bx, .string by_] 9)) (some ⟨w.heap.size, 0, none⟩) [[x], [y]] := by
  have h0 := heap_alloc_new w (.cells #[.string bx, .string by_] 9)
  have hb : w.heap.size < (w.alloc (.cells #[.string bx, .string by_] 9)).heap.size := by simp
  intro j hj
  match j, hj with
  | 0, _ => exact ⟨_, _, rfl, hb, by rw [cell_of_row _ _ _ _ _ _ h0]; simp [hx]⟩
  | 1, _ => exact ⟨_, _, rfl, hb, by rw [cell_of_row _ _ _ _ _ _ h0]; simp [hy]⟩
theorem ex_push (x y : Nat) (bx by_ : ByteArray) (w : World) (hx : strB [x] = bx) (hy : strB [y] = by_) (h1 : x < 256) (h2 : y < 256) (hb : (F17.bytes (pf 1 [[x], [y]])).length ≤ 32768) :
    Calls Try.prog 22 #[.int .i64 1, .slice (some ⟨w.heap.size, 0, none⟩) 2 2] (w.alloc (.cells #[.string bx, .string by_] 9)) fun e w' => ∃ v, e = .returned v ∧ Hid (Src w' v (F17.bytes (pf 1 [[x], [y]])) ∧ Below w.heap.size w w') := by
  refine (lpush_any 1 _ 2 [[x], [y]] _ (str2 w x y bx by_ hx hy) (by omega) (by simp) ⟨by simp, ?_⟩ hb).mono ?_
  · intro z hz
    simp only [List.mem_cons, List.not_mem_nil, or_false] at hz
    rcases hz with rfl | rfl
    · exact ⟨by simp, fun a ha => by rw [List.mem_singleton.1 ha]; exact h1⟩
    · exact ⟨by simp, fun a ha => by rw [List.mem_singleton.1 ha]; exact h2⟩
  · rintro e w' ⟨v, rfl, k1, k2⟩
    exact ⟨v, rfl, k1, ((Below.refl _ w).alloc (Nat.le_refl _) _).trans (k2.mono (by simp))⟩
theorem ex1 : (F17.bytes (pf 1 [[97], [98]])).length ≤ 32768 := by decide
theorem ex2 : (F17.bytes (pf 1 [[98], [99]])).length ≤ 32768 := by decide
theorem ex3 : F17.right (pf 1 [[97], [98]]) = true := by decide
theorem ex4 : F17.right (pf 1 [[98], [99]]) = true := by decide
def exM1 : St := upd none0 0 1 [[97], [98]]
def exM2 : St := upd exM1 0 1 [[97], [98], [99]]
def exF3 : Fr := ⟨3, 1, 1, [[98], [99]], []⟩
theorem ex5 : hd none0 0 (F17.bytes (pf 1 [[97], [98]])) = (exM1, [], 0) := by
  rw [hd_push (.inl rfl) ex3 ex1, pushA_ok (M := none0) (x := 0) (c := 1) (ls := [[97], [98]]) (r := [[97], [98]]) (by rfl) (by decide)]
  rfl
theorem ex6 : hd exM1 0 (F17.bytes (pf 1 [[98], [99]])) = (exM2, [], 0) := by
  rw [hd_push (.inl rfl) ex4 ex2, pushA_ok (M := exM1) (x := 0) (c := 1) (ls := [[98], [99]]) (r := [[97], [98], [99]]) (by decide) (by decide)]
  rfl
theorem ex7 : F17.right exF3 = true := by decide
theorem ex8 : (F17.bytes exF3).length = 32 := by decide
theorem ex9 : bat 1 1 [[98], [99]] = F17.bytes exF3 := by
  unfold bat
  have e : fit 1 1 [[98], [99]] (min [[98], [99]].length 8) = 2 := fit_ok 1 1 [[98], [99]] (k := 2) (by
    have := ex8
    show (F17.bytes exF3).length ≤ 32768
    omega)
  rw [e]
  rfl
theorem ex10 : hd exM2 0 (F17.bytes (gf 1 1)) = (exM2, F17.bytes exF3, 0) := by
  rw [hd_pull (.inl rfl) (by omega) (by omega)]
  have e : pullA exM2 0 1 1 = (bat 1 1 [[98], [99]], 0) := rfl
  rw [e, ex9]
end Go.Proofs.Ytchoiioeeepoaaa.V19
