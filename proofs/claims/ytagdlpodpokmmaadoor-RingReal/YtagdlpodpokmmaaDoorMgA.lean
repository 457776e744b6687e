/- The plain mathematics of the boxes of layer 5, over what layers 3 and 4 have: what is tagged, boxes, and what opens them. -/
import Derived.Test.YtagdlpodpokmmaaDoorC3Own
import Derived.Test.YtagdlpodpokmmaaDoorP4Own
import Derived.Laws.AppendOwnNone
import Derived.Test.YtagdlpodpokmmaaDoorM2Eq
namespace Go.Proofs.YtagdlpodpokmmaaDoor.A5
open Sp C3 P4
namespace Ae
/-- How many noughts fill a row up to a multiple of 16. -/
def lack (n : Nat) : Nat := (16 - n % 16) % 16
def fill (l : List Nat) : List Nat := l ++ List.replicate (lack l.length) 0
/-- A number in eight bytes, the lowest first. -/
def eight (n : Nat) : List Nat := Po.digs 256 8 n
def tagged (other s : List Nat) : List Nat := fill other ++ fill s ++ eight other.length ++ eight s.length
/-- The one-time key. -/
def once (key nonce : List Nat) : List Nat := (Ch.blockOf key 0 nonce).take 32
def tagOf (key nonce other s : List Nat) : List Nat := Po.tag (once key nonce) (tagged other s)
def box (key nonce other text : List Nat) : List Nat := Ch.xor key 1 nonce text ++ tagOf key nonce other (Ch.xor key 1 nonce text)
/-- The text whose box it is, if it is one. -/
def opens (key nonce other b : List Nat) : Option (List Nat) :=
  if b.length < 16 then none
  else if tagOf key nonce other (b.take (b.length - 16)) = b.drop (b.length - 16) then some (Ch.xor key 1 nonce (b.take (b.length - 16)))
  else none
theorem lack_le (n : Nat) : lack n < 16 := Nat.mod_lt _ (by decide)
theorem lack_mod (n : Nat) : (n + lack n) % 16 = 0 := by unfold lack; omega
theorem fill_length (l : List Nat) : (fill l).length = l.length + lack l.length := by simp [fill]
theorem fill_lt {l : List Nat} (h : ∀ x ∈ l, x < 256) : ∀ x ∈ fill l, x < 256 := fun x hx => by
  rcases List.mem_append.1 hx with h1 | h1
  · exact h x h1
  · rw [List.eq_of_mem_replicate h1]; decide
theorem eight_length (n : Nat) : (eight n).length = 8 := Po.digs_length _ _ _
theorem eight_lt (n : Nat) : ∀ x ∈ eight n, x < 256 := Po.digs_lt (by decide) _ _
theorem eight_small {n : Nat} (h : n < 256) : eight n = [n, 0, 0, 0, 0, 0, 0, 0] := by
  simp [eight, Po.digs, Nat.mod_eq_of_lt h, Nat.div_eq_of_lt h]
theorem tagged_length (other s : List Nat) : (tagged other s).length = other.length + lack other.length + (s.length + lack s.length) + 16 := by
  simp [tagged, fill_length, eight_length]
  omega
theorem tagged_lt {other s : List Nat} (ho : ∀ x ∈ other, x < 256) (hs : ∀ x ∈ s, x < 256) : ∀ x ∈ tagged other s, x < 256 := fun x hx => by
  unfold tagged at hx
  rcases List.mem_append.1 hx with h | h
  · rcases List.mem_append.1 h with h | h
    · rcases List.mem_append.1 h with h | h
      · exact fill_lt ho x h
      · exact fill_lt hs x h
    · exact eight_lt _ x h
  · exact eight_lt _ x h
theorem once_length (key nonce : List Nat) : (once key nonce).length = 32 := by rw [once, List.length_take, Ch.blockOf, Ch.block_length]; rfl
theorem once_lt (key nonce : List Nat) : ∀ x ∈ once key nonce, x < 256 := fun x hx => Ch.block_lt _ x (List.mem_of_mem_take hx)
theorem tagOf_length (key nonce other s : List Nat) : (tagOf key nonce other s).length = 16 := Po.tag_length _ _
theorem tagOf_lt (key nonce other s : List Nat) : ∀ x ∈ tagOf key nonce other s, x < 256 := Po.tag_lt _ _
theorem box_length (key nonce other text : List Nat) : (box key nonce other text).length = text.length + 16 := by
  rw [box, List.length_append, tagOf_length, Ch.xor_length]
theorem box_lt {key nonce other text : List Nat} (ht : ∀ x ∈ text, x < 256) : ∀ x ∈ box key nonce other text, x < 256 := fun x hx => by
  rcases List.mem_append.1 hx with h | h
  · exact Ch.xor_lt _ _ _ ht x h
  · exact tagOf_lt _ _ _ _ x h
theorem box_text (key nonce other text : List Nat) : (box key nonce other text).take ((box key nonce other text).length - 16) = Ch.xor key 1 nonce text := by
  have h : (box key nonce other text).length - 16 = (Ch.xor key 1 nonce text).length := by rw [box_length, Ch.xor_length]; omega
  rw [h, box, List.take_left]
theorem box_tag (key nonce other text : List Nat) : (box key nonce other text).drop ((box key nonce other text).length - 16) = tagOf key nonce other (Ch.xor key 1 nonce text) := by
  have h : (box key nonce other text).length - 16 = (Ch.xor key 1 nonce text).length := by rw [box_length, Ch.xor_length]; omega
  rw [h, box, List.drop_left]
/-- A box is opened to its text. -/
theorem opens_box (key nonce other text : List Nat) : opens key nonce other (box key nonce other text) = some text := by
  unfold opens
  rw [if_neg (by rw [box_length]; omega), box_text, box_tag, if_pos rfl, Ch.xor_xor]
theorem opens_short {key nonce other b : List Nat} (h : b.length < 16) : opens key nonce other b = none := by
  unfold opens
  rw [if_pos h]
/-- What is opened has a box: itself. -/
theorem opens_some {key nonce other b text : List Nat} (h : opens key nonce other b = some text) : box key nonce other text = b := by
  unfold opens at h
  split at h
  · cases h
  · split at h
    · have e := Option.some.inj h
      rw [← e, box, Ch.xor_xor]
      rename_i h2
      rw [h2, List.take_append_drop]
    · cases h
/-- A box whose tag has another byte is none. -/
theorem opens_spoilt {key nonce other text : List Nat} {i x : Nat} (hi : i < 16) (hx : x ≠ nth (tagOf key nonce other (Ch.xor key 1 nonce text)) i) :
    opens key nonce other ((box key nonce other text).set (text.length + i) x) = none := by
  have hl : ((box key nonce other text).set (text.length + i) x).length = text.length + 16 := by rw [List.length_set, box_length]
  unfold opens
  rw [if_neg (by rw [hl]; omega), hl, Nat.add_sub_cancel]
  have e1 : ((box key nonce other text).set (text.length + i) x).take text.length = Ch.xor key 1 nonce text := by
    rw [box, List.set_append_right _ _ (by rw [Ch.xor_length]; omega)]
    have : text.length = (Ch.xor key 1 nonce text).length := by rw [Ch.xor_length]
    rw [this, List.take_left]
  have e2 : ((box key nonce other text).set (text.length + i) x).drop text.length = (tagOf key nonce other (Ch.xor key 1 nonce text)).set i x := by
    rw [box, List.set_append_right _ _ (by rw [Ch.xor_length]; omega), Ch.xor_length, Nat.add_sub_cancel_left]
    have : text.length = (Ch.xor key 1 nonce text).length := by rw [Ch.xor_length]
    conv => lhs; rw [this]
    rw [List.drop_left]
  rw [e1, e2, if_neg]
  intro h
  apply hx
  have h1 : nth _ i = nth _ i := congrArg (fun l => nth l i) h
  rw [h1]
  simp [nth, tagOf_length, hi]
/-- A bit turned makes another byte. -/
theorem turned_ne {x b : Nat} (h : 0 < b) : x ^^^ b ≠ x := fun e => by
  have : x ^^^ (x ^^^ b) = x ^^^ x := by rw [e]
  rw [← Nat.xor_assoc, Nat.xor_self, Nat.zero_xor] at this
  omega
/-- Boxes are as far apart as their texts, ahead of the tags. -/
theorem box_apart (key nonce o1 o2 a b : List Nat) (i : Nat) (ha : i < a.length) (hb : i < b.length) : nth (box key nonce o1 a) i ^^^ nth (box key nonce o2 b) i = nth a i ^^^ nth b i := by
  rw [box, box, nth_append_left (by rw [Ch.xor_length]; exact ha), nth_append_left (by rw [Ch.xor_length]; exact hb), Ch.xor_nth _ _ _ _ ha, Ch.xor_nth _ _ _ _ hb]
  generalize Ch.byteAt key 1 nonce i = k
  generalize nth a i = x
  generalize nth b i = y
  rw [Nat.xor_comm y k, Nat.xor_assoc, ← Nat.xor_assoc k k, Nat.xor_self, Nat.zero_xor]
end Ae
end Go.Proofs.YtagdlpodpokmmaaDoor.A5
/- Bytes that are read, as the calls of this layer take them; append of them to a row of one's own. -/
namespace Go.Proofs.YtagdlpodpokmmaaDoor.A5
open Go.RowKit P4
/-- A slice that holds these bytes: nil, or empty anywhere, or a row. -/
def Src (w : World) (v : Value) (l : List Nat) : Prop :=
  (∀ x ∈ l, x < 256) ∧ ((v = .slice none 0 0 ∧ l = []) ∨ (∃ ad c, v = .slice (some ad) 0 c ∧ l = []) ∨ ∃ b o c, v = .slice (some ⟨b, o, none⟩) l.length c ∧ l.length ≤ c ∧ w.rangeAt b o (ints .u8 l))
section
variable {w w' : World} {v : Value} {l : List Nat}
theorem Src.text {p : Option Addr} {n c : Nat} (h : Src w (.slice p n c) l) : l.length = n ∧ n ≤ c ∧ TextIs w p l := by
  obtain ⟨hs, ⟨e, rfl⟩ | ⟨ad, c', e, rfl⟩ | ⟨b, o, c', e, hc, hr⟩⟩ := h
  · cases e; exact ⟨rfl, Nat.le_refl _, hs, fun h => absurd rfl h⟩
  · cases e; exact ⟨rfl, Nat.zero_le _, hs, fun h => absurd rfl h⟩
  · cases e; exact ⟨rfl, hc, hs, fun _ => ⟨b, o, rfl, hr⟩⟩
theorem Src.slice (h : Src w v l) : ∃ p c, v = .slice p l.length c := by
  obtain ⟨hs, ⟨rfl, rfl⟩ | ⟨ad, c', rfl, rfl⟩ | ⟨b, o, c', rfl, hc, hr⟩⟩ := h
  · exact ⟨_, _, rfl⟩
  · exact ⟨_, _, rfl⟩
  · exact ⟨_, _, rfl⟩
theorem Src.below (h : Src w v l) (hb : Below w.heap.size w w') : Src w' v l := by
  obtain ⟨hs, h1 | h1 | ⟨b, o, c', rfl, hc, hr⟩⟩ := h
  · exact ⟨hs, .inl h1⟩
  · exact ⟨hs, .inr (.inl h1)⟩
  · exact ⟨hs, .inr (.inr ⟨b, o, c', rfl, hc, rangeAt_below hb hr⟩)⟩
theorem Src.nil (w : World) : Src w (.slice none 0 0) [] := ⟨fun x hx => by simp at hx, .inl ⟨rfl, rfl⟩⟩
theorem Src.row {b o c : Nat} (hs : ∀ x ∈ l, x < 256) (hc : l.length ≤ c) (hr : w.rangeAt b o (ints .u8 l)) {n : Nat} (hn : l.length = n) : Src w (.slice (some ⟨b, o, none⟩) n c) l := by
  subst hn
  exact ⟨hs, .inr (.inr ⟨b, o, c, rfl, hc, hr⟩)⟩
theorem Src.own {base n : Nat} (hs : ∀ x ∈ l, x < 256) (h : w.ownsRow base 5 1 v n (ints .u8 l)) : Src w v l := by
  by_cases h0 : n = 0
  · subst h0
    have hl : l = [] := by
      have := h.1
      rw [ints_length] at this
      exact List.eq_nil_of_length_eq_zero (by omega)
    subst hl
    rcases h.2 with ⟨rfl, _⟩ | ⟨g, cap, cur, rfl, _⟩
    · exact ⟨hs, .inl ⟨rfl, rfl⟩⟩
    · exact ⟨hs, .inr (.inl ⟨_, _, rfl, rfl⟩)⟩
  · have hl : l.length = n := by
      have := h.1
      rw [ints_length] at this
      omega
    obtain ⟨g, c, rfl, _, _, hc, hr⟩ := own_cell h (by omega)
    exact Src.row hs (by omega) hr hl
/-- What came in. -/
theorem Src.of {a : Option Addr} {len cap : Nat} (h : RowIs w a len cap) : ∃ l, l.length = len ∧ Src w (.slice a len cap) l := by
  rcases h with ⟨rfl, rfl⟩ | ⟨b, o, l, rfl, hl, hc, hm, hs, hr, hb⟩
  · refine ⟨[], rfl, fun x hx => by simp at hx, ?_⟩
    cases a with
    | none => exact .inl ⟨rfl, rfl⟩
    | some x => exact .inr (.inl ⟨_, _, rfl, rfl⟩)
  · exact ⟨l, hl, Src.row hs (by omega) hr hl⟩
/-- The beginning, and the end, of a row. -/
theorem range_drop {b o : Nat} (h : w.rangeAt b o (ints .u8 l)) (n : Nat) : w.rangeAt b (o + n) (ints .u8 (l.drop n)) := fun j u hu => by
  rw [Nat.add_assoc]
  apply h
  rw [← hu]
  simp [ints]
end
theorem law_append_src {ops : Array Oper} {rest : List Oper} {dst : Option Tmp} {T : TypeId} {pos : String} {after : Array Edge} {a : Act} {w : World} {Q : Exit → Act → World → Prop} {st xt : Tmp}
    (base : Nat) (v : Value) (n : Nat) (l : List Nat) (sv : Value) (news : List Nat) (hs : a.eval (.tmp st) = v) (hx : a.eval (.tmp xt) = sv) (hown : w.ownsRow base 5 1 v n (ints .u8 l)) (hsv : Src w sv news)
    (hn : n + news.length ≤ 100000) (hbase : base ≤ w.heap.size)
    (h : ∀ v' w', w'.ownsRow base 5 1 v' (n + news.length) (ints .u8 (l ++ news)) → Below base w w' → wpList Tryd.prog ops Q rest (a.put dst v') w') :
    wpList Tryd.prog ops Q ({ dst := dst, op := .call { callee := .builtin .append, args := #[.tmp st, .tmp xt], argTypes := #[22, 22] }, type := T, pos := pos, after := after, guard := none } :: rest) a w := by
  obtain ⟨i, hi, hsz, hby, hz⟩ := info5e
  have key : ∀ ad c, sv = .slice (some ad) news.length c → (∀ j u, (ints .u8 news)[j]? = some u → w.cell? (ad.add j) = some u) → wpList Tryd.prog ops Q ({ dst := dst, op := .call { callee := .builtin .append, args := #[.tmp st, .tmp xt], argTypes := #[22, 22] }, type := T, pos := pos, after := after, guard := none } :: rest) a w := by
    intro ad c e hc
    subst e
    refine wpList_append_own _ rfl (.tmp st) (.tmp xt) 22 rfl base 5 i _ 1 1 Tryd.underlying22 hi hz hsz hby rfl (by decide) v n (ints .u8 l) hs hown ad news.length c (ints .u8 news) hx (by rw [ints_length]; omega) hc (fun u hu => by obtain ⟨q, _, rfl⟩ := List.mem_map.1 hu; rfl) (by unfold maxLen; omega) (by omega) hbase (fun v' w' h1 h2 _ => h v' w' (by rw [ints_append]; exact h1) (below_append hown h2 hbase))
  rcases hsv with ⟨hb, ⟨rfl, rfl⟩ | ⟨ad, c, rfl, rfl⟩ | ⟨b, o, c, rfl, hc, hr⟩⟩
  · refine wpList_append_own_none rfl (.tmp st) (.tmp xt) 22 rfl base 5 i 1 Tryd.underlying22 hi v n (ints .u8 l) hs hown hx (h v w ?_ (Below.refl _ _))
    simpa [ints] using hown
  · exact key ad c rfl (fun j u hu => by simp [ints] at hu)
  · exact key ⟨b, o, none⟩ c rfl (fun j u hu => by rw [Addr.add_mid]; exact hr j u hu)
end Go.Proofs.YtagdlpodpokmmaaDoor.A5
/- The contracts of fillUp and appendCount. -/
namespace Go.Proofs.YtagdlpodpokmmaaDoor.A5
open Go.RowKit P4
theorem lack_step {n k : Nat} (h : (n + k) % 16 ≠ 0) (hk : k ≤ Ae.lack n) : k + 1 ≤ Ae.lack n := by unfold Ae.lack at *; omega
theorem lack_done {n k : Nat} (h : (n + k) % 16 = 0) (hk : k ≤ Ae.lack n) : k = Ae.lack n := by unfold Ae.lack at *; omega
theorem rep_snoc (l : List Nat) (k : Nat) : l ++ List.replicate (k + 1) 0 = (l ++ List.replicate k 0) ++ [0] := by rw [List.replicate_succ', List.append_assoc]
theorem one_src (w : World) (x : Nat) (h : x < 256) : Src (w.alloc (.cells #[.int .u8 (x : Int)] 5)) (.slice (some ⟨w.heap.size, 0, none⟩) 1 1) [x] :=
  Src.row (fun y hy => by rw [List.mem_singleton.1 hy]; exact h) (Nat.le_refl 1) (rangeAt_of_row (t := 5) (fr := (0, 0)) (heap_alloc_new w _)) rfl
set_option maxHeartbeats 1000000 in
theorem fillUp_any (l : List Nat) (v : Value) (n base : Nat) (w : World) (hown : w.ownsRow base 5 1 v n (ints .u8 l)) (hn : n ≤ 90000) (hbase : base ≤ w.heap.size) :
    Calls Tryd.prog 95 #[v] w fun e w' => ∃ v', e = .returned v' ∧ w'.ownsRow base 5 1 v' (n + Ae.lack n) (ints .u8 (l ++ List.replicate (Ae.lack n) 0)) ∧ Below base w w' := by
  have HO0 : Hid (w.ownsRow base 5 1 v n (ints .u8 l)) := hown
  have HBS : Hid (base ≤ w.heap.size) := hbase
  have HLK : Hid (Ae.lack n < 16) := Ae.lack_le n
  clear hown hbase
  obtain ⟨q0, c0, rfl⟩ := own_slice HO0.out
  go_enter Tryd.func95, Tryd.ntmps95
  go_wp2_with fail
  go_loopw [0] (fun sl wr => ∃ k : Nat, k ≤ Ae.lack n ∧ Hid (wr.ownsRow base 5 1 sl (n + k) (ints .u8 (l ++ List.replicate k 0))) ∧ Hid (Below base w wr)) (fun sl _ => match sl with | .slice _ m _ => n + Ae.lack n - m | _ => 0)
  case atStart =>
    have h0 : w.ownsRow base 5 1 (.slice q0 n c0) (n + 0) (ints .u8 (l ++ List.replicate 0 0)) := by simpa using HO0.out
    exact ⟨0, Nat.zero_le _, h0, Below.refl _ _⟩
  case round =>
    obtain ⟨k, hk, HO, HW⟩ := hrel
    obtain ⟨q, cq, rfl⟩ := own_slice HO.out
    have HB2 : Hid (base ≤ wr.heap.size) := Nat.le_trans HBS.out HW.out.size
    by_cases h16 : (n + k) % 16 = 0
    · have HKE : Hid (k = Ae.lack n) := lack_done h16 hk
      have g1 : ((n + k : Nat) : Int) % 16 = 0 := by omega
      go_wp2_with fail
      go_ret
      obtain rfl := HKE.out
      exact ⟨_, rfl, HO.out, HW.out⟩
    · have g1 : ¬ ((n + k : Nat) : Int) % 16 = 0 := by omega
      have HK1 : Hid (k + 1 ≤ Ae.lack n) := lack_step h16 hk
      have HKL := HLK.out
      go_wp2_with (first | with_reducible (refine stop_builtin .append ?_))
      refine Stop.go ?_
      have HO2 : Hid ((wr.alloc (Obj.cells #[.int .u8 ((0 : Nat) : Int)] 5)).ownsRow base 5 1 (.slice q (n + k) cq) (n + k) (ints .u8 (l ++ List.replicate k 0))) := ownsRow_alloc HO.out _
      have HW2 : Hid (Below base w (wr.alloc (Obj.cells #[.int .u8 ((0 : Nat) : Int)] 5))) := HW.out.alloc HB2.out _
      refine law_append_src base _ (n + k) (l ++ List.replicate k 0) (.slice (some ⟨wr.heap.size, 0, none⟩) 1 1) [0] rfl rfl HO2.out (one_src wr 0 (by decide)) (by simp; omega) (by have := HB2.out; simp; omega) ?_
      intro v' w' hown' hb'
      have HO3 : Hid (w'.ownsRow base 5 1 v' (n + (k + 1)) (ints .u8 (l ++ List.replicate (k + 1) 0))) := by
        rw [rep_snoc]
        exact hown'
      have HW3 : Hid (Below base w w') := HW2.out.trans hb'
      obtain ⟨q', c', rfl⟩ := own_slice hown'
      clear hown' hb' HO HW HO2 HW2
      go_wp2_with fail
      go_roundw
      case rel => exact ⟨k + 1, HK1.out, HO3.out, HW3.out⟩
      case measure => have := HK1.out; simp; omega
theorem digs_nth (b : Nat) : ∀ k i v, i < k → Sp.nth (Po.digs b k v) i = v / b ^ i % b
  | 0, _, _, h => by omega
  | k + 1, 0, v, _ => by simp [Po.digs, Sp.nth]
  | k + 1, i + 1, v, h => by
    have := digs_nth b k i (v / b) (by omega)
    rw [Nat.pow_succ, Nat.mul_comm, ← Nat.div_div_eq_div_mul]
    exact this
theorem shr_byte {m i x : Nat} (h : x = m / 256 ^ i % 256) : (m : Int) / 2 ^ (8 * i) % 256 = (x : Int) := by
  subst h
  have e : (256 : Nat) ^ i = 2 ^ (8 * i) := by rw [show (256 : Nat) = 2 ^ 8 from rfl, ← Nat.pow_mul]
  rw [e, Int.natCast_emod, Int.natCast_ediv, Int.natCast_pow]
  rfl
set_option maxHeartbeats 1000000 in
theorem count_any (l : List Nat) (v : Value) (n base m : Nat) (w : World) (hown : w.ownsRow base 5 1 v n (ints .u8 l)) (hn : n ≤ 90000) (hbase : base ≤ w.heap.size) (_ : m < 4611686018427387904) :
    Calls Tryd.prog 96 #[v, .int .i64 (m : Int)] w fun e w' => ∃ v', e = .returned v' ∧ w'.ownsRow base 5 1 v' (n + 8) (ints .u8 (l ++ Ae.eight m)) ∧ Below base w w' := by
  have HO0 : Hid (w.ownsRow base 5 1 v n (ints .u8 l)) := hown
  have HBS : Hid (base ≤ w.heap.size) := hbase
  have HEL : Hid ((Ae.eight m).length = 8) := Ae.eight_length m
  have HEN : Hid (∀ i, i < 8 → Sp.nth (Ae.eight m) i = m / 256 ^ i % 256) := fun i hi => digs_nth 256 8 i m hi
  obtain ⟨E, hE⟩ : ∃ E, Ae.eight m = E := ⟨_, rfl⟩
  rw [hE] at HEL HEN ⊢
  clear hown hbase hE
  obtain ⟨q0, c0, rfl⟩ := own_slice HO0.out
  go_enter Tryd.func96, Tryd.ntmps96
  go_wp2_with fail
  go_loopw [0, 6] (fun sl u wr => ∃ i : Nat, i ≤ 8 ∧ u = .int .i64 i ∧ Hid (wr.ownsRow base 5 1 sl (n + i) (ints .u8 (l ++ E.take i))) ∧ Hid (Below base w wr)) (fun _ u _ => 8 - (intOf u).toNat)
  case atStart =>
    have h0 : w.ownsRow base 5 1 (.slice q0 n c0) (n + 0) (ints .u8 (l ++ E.take 0)) := by simpa using HO0.out
    exact ⟨0, by omega, rfl, h0, Below.refl _ _⟩
  case round =>
    obtain ⟨i, hi, rfl, HO, HW⟩ := hrel
    obtain ⟨q, cq, rfl⟩ := own_slice HO.out
    have HB2 : Hid (base ≤ wr.heap.size) := Nat.le_trans HBS.out HW.out.size
    by_cases hlt : i < 8
    · have HTS : Hid (E.take (i + 1) = E.take i ++ [Sp.nth E i]) := Po.take_succ_nth (by rw [HEL.out]; exact hlt)
      have g1 : (i : Int) < 8 := by omega
      have i0 : (0 : Int) ≤ (i : Int) := by omega
      go_wp2_with (first | with_reducible (refine stop_builtin .append ?_))
      refine Stop.go ?_
      have HEI : Sp.nth E i < 256 := by rw [HEN.out i hlt]; exact Nat.mod_lt _ (by decide)
      rw [shr_byte (HEN.out i hlt)]
      generalize Sp.nth E i = x at *
      have HO2 : Hid ((wr.alloc (Obj.cells #[.int .u8 (x : Int)] 5)).ownsRow base 5 1 (.slice q (n + i) cq) (n + i) (ints .u8 (l ++ E.take i))) := ownsRow_alloc HO.out _
      have HW2 : Hid (Below base w (wr.alloc (Obj.cells #[.int .u8 (x : Int)] 5))) := HW.out.alloc HB2.out _
      refine law_append_src base _ (n + i) (l ++ E.take i) (.slice (some ⟨wr.heap.size, 0, none⟩) 1 1) [x] rfl rfl HO2.out (one_src wr x HEI) (by simp; omega) (by have := HB2.out; simp; omega) ?_
      intro v' w' hown' hb'
      have HO3 : Hid (w'.ownsRow base 5 1 v' (n + (i + 1)) (ints .u8 (l ++ E.take (i + 1)))) := by
        rw [HTS.out, ← List.append_assoc]
        exact hown'
      have HW3 : Hid (Below base w w') := HW2.out.trans hb'
      clear hown' hb' HO HW HO2 HW2 HTS
      go_wp2_with fail
      go_roundw
      case rel =>
        first
          | exact ⟨i + 1, by omega, by go_num, HO3.out, HW3.out⟩
          | ((repeat apply Exists.intro)
             refine ⟨⟨i + 1, by omega, ?_, HO3.out, HW3.out⟩, rfl⟩
             go_num)
      case measure => simp [intOf]; omega
    · obtain rfl : i = 8 := by omega
      have h1 := HO.out
      rw [List.take_of_length_le (by rw [HEL.out]; exact Nat.le_refl _)] at h1
      have HO1 : Hid (wr.ownsRow base 5 1 (.slice q (n + 8) cq) (n + 8) (ints .u8 (l ++ E))) := h1
      clear h1 HO
      go_wp2_with fail
      go_ret
      exact ⟨_, rfl, HO1.out, HW.out⟩
end Go.Proofs.YtagdlpodpokmmaaDoor.A5
/- The contracts of tagged and tagOf. -/
namespace Go.Proofs.YtagdlpodpokmmaaDoor.A5
open Go.RowKit P4
theorem lack_add (n m : Nat) : Ae.lack (n + Ae.lack n + m) = Ae.lack m := by unfold Ae.lack; omega
set_option maxHeartbeats 1000000 in
theorem tagged_any (lo ls : List Nat) (o s : Value) (w : World) (ho : Src w o lo) (hs : Src w s ls) (hol : lo.length ≤ 40000) (hsl : ls.length ≤ 40000) :
    Calls Tryd.prog 78 #[o, s] w fun e w' => ∃ v, e = .returned v ∧ w'.ownsRow w.heap.size 5 1 v (Ae.tagged lo ls).length (ints .u8 (Ae.tagged lo ls)) ∧ Below w.heap.size w w' := by
  have HO : Hid (Src w o lo) := ho
  have HS : Hid (Src w s ls) := hs
  have HLO : Hid (lo.length ≤ 40000) := hol
  have HLS : Hid (ls.length ≤ 40000) := hsl
  have HK1 : Hid (Ae.lack lo.length < 16) := Ae.lack_le _
  have HK2 : Hid (Ae.lack ls.length < 16) := Ae.lack_le _
  have HTL : Hid ((Ae.tagged lo ls).length = lo.length + Ae.lack lo.length + ls.length + Ae.lack ls.length + 8 + 8) := by
    show _ = _
    rw [Ae.tagged_length]; omega
  have HTE : Hid (Ae.tagged lo ls = ((((lo ++ List.replicate (Ae.lack lo.length) 0) ++ ls) ++ List.replicate (Ae.lack ls.length) 0) ++ Ae.eight lo.length) ++ Ae.eight ls.length) := by
    show _ = _
    simp [Ae.tagged, Ae.fill]
  obtain ⟨TG, hTG⟩ : ∃ TG, Ae.tagged lo ls = TG := ⟨_, rfl⟩
  rw [hTG] at HTL HTE ⊢
  clear ho hs hol hsl hTG
  obtain ⟨po, co, rfl⟩ := HO.out.slice
  obtain ⟨ps, cs, rfl⟩ := HS.out.slice
  obtain ⟨no, hno⟩ : ∃ n, lo.length = n := ⟨_, rfl⟩
  obtain ⟨ns, hns⟩ : ∃ n, ls.length = n := ⟨_, rfl⟩
  rw [hno] at HO HLO HK1 HTL HTE ⊢
  rw [hns] at HS HLS HK2 HTL HTE ⊢
  have HNO : Hid (lo.length = no) := hno
  have HNS : Hid (ls.length = ns) := hns
  clear hno hns
  have n1 : (no : Int) ≤ 40000 := by have := HLO.out; omega
  have n2 : (ns : Int) ≤ 40000 := by have := HLS.out; omega
  go_enter Tryd.func78, Tryd.ntmps78
  go_wp2_with (first | with_reducible (refine stop_builtin .append ?_))
  refine Stop.go ?_
  refine law_append_src w.heap.size (.slice none 0 0) 0 [] (.slice po no co) lo rfl rfl (own_none _ _ _ _) HO.out (by have := HLO.out; have := HNO.out; omega) (Nat.le_refl _) ?_
  intro v1 w1 hown1 hb1
  rw [HNO.out, List.nil_append, Nat.zero_add] at hown1
  have HO1 : Hid (w1.ownsRow w.heap.size 5 1 v1 no (ints .u8 lo)) := hown1
  have HB1 : Hid (Below w.heap.size w w1) := hb1
  clear hown1 hb1
  go_wp2_with (first | with_reducible (refine stop_builtin .append ?_))
  refine (fillUp_any lo v1 no w.heap.size w1 HO1.out (by have := HLO.out; omega) HB1.out.size).mono ?_
  rintro e w2 ⟨v2, rfl, hown2, hb2⟩
  have HO2 : Hid (w2.ownsRow w.heap.size 5 1 v2 (no + Ae.lack no) (ints .u8 (lo ++ List.replicate (Ae.lack no) 0))) := hown2
  have HB2 : Hid (Below w.heap.size w w2) := HB1.out.trans hb2
  clear hown2 hb2 HO1 HB1
  go_wp2_with (first | with_reducible (refine stop_builtin .append ?_))
  refine Stop.go ?_
  refine law_append_src w.heap.size v2 (no + Ae.lack no) (lo ++ List.replicate (Ae.lack no) 0) (.slice ps ns cs) ls rfl rfl HO2.out (HS.out.below HB2.out) (by have := HLO.out; have := HLS.out; have := HK1.out; rw [HNS.out]; omega) HB2.out.size ?_
  intro v3 w3 hown3 hb3
  rw [HNS.out] at hown3
  have HO3 : Hid (w3.ownsRow w.heap.size 5 1 v3 (no + Ae.lack no + ns) (ints .u8 (lo ++ List.replicate (Ae.lack no) 0 ++ ls))) := hown3
  have HB3 : Hid (Below w.heap.size w w3) := HB2.out.trans hb3
  clear hown3 hb3 HO2 HB2
  go_wp2_with (first | with_reducible (refine stop_builtin .append ?_))
  refine (fillUp_any _ v3 _ w.heap.size w3 HO3.out (by have := HLO.out; have := HLS.out; have := HK1.out; omega) HB3.out.size).mono ?_
  rintro e w4 ⟨v4, rfl, hown4, hb4⟩
  rw [lack_add] at hown4
  have HO4 : Hid (w4.ownsRow w.heap.size 5 1 v4 (no + Ae.lack no + ns + Ae.lack ns) (ints .u8 (lo ++ List.replicate (Ae.lack no) 0 ++ ls ++ List.replicate (Ae.lack ns) 0))) := hown4
  have HB4 : Hid (Below w.heap.size w w4) := HB3.out.trans hb4
  clear hown4 hb4 HO3 HB3
  go_wp2_with fail
  refine (count_any _ v4 _ w.heap.size no w4 HO4.out (by have := HLO.out; have := HLS.out; have := HK1.out; have := HK2.out; omega) HB4.out.size (by omega)).mono ?_
  rintro e w5 ⟨v5, rfl, hown5, hb5⟩
  have HO5 : Hid (w5.ownsRow w.heap.size 5 1 v5 (no + Ae.lack no + ns + Ae.lack ns + 8) (ints .u8 (lo ++ List.replicate (Ae.lack no) 0 ++ ls ++ List.replicate (Ae.lack ns) 0 ++ Ae.eight no))) := hown5
  have HB5 : Hid (Below w.heap.size w w5) := HB4.out.trans hb5
  clear hown5 hb5 HO4 HB4
  go_wp2_with fail
  refine (count_any _ v5 _ w.heap.size ns w5 HO5.out (by have := HLO.out; have := HLS.out; have := HK1.out; have := HK2.out; omega) HB5.out.size (by omega)).mono ?_
  rintro e w6 ⟨v6, rfl, hown6, hb6⟩
  have HO6 : Hid (w6.ownsRow w.heap.size 5 1 v6 TG.length (ints .u8 TG)) := by
    rw [HTL.out, HTE.out]
    exact hown6
  have HB6 : Hid (Below w.heap.size w w6) := HB5.out.trans hb6
  clear hown6 hb6 HO5 HB5
  go_wp2_with fail
  go_ret
  exact ⟨_, rfl, HO6.out, HB6.out⟩
set_option maxHeartbeats 1000000 in
theorem tagOf_any (key lo ls : List Nat) (bk ok ck : Nat) (o s : Value) (w : World) (hk : key.length = 32) (hkb : ∀ x ∈ key, x < 256) (hkr : w.rangeAt bk ok (ints .u8 key)) (hck : 32 ≤ ck) (ho : Src w o lo) (hs : Src w s ls) (hol : lo.length ≤ 40000) (hsl : ls.length ≤ 40000) :
    Calls Tryd.prog 59 #[.slice (some ⟨bk, ok, none⟩) 32 ck, o, s] w fun e w' => ∃ v, e = .returned v ∧ w'.ownsRow w.heap.size 5 1 v 16 (ints .u8 (Po.tag key (Ae.tagged lo ls))) ∧ Below w.heap.size w w' := by
  have HX : Hid (Calls Tryd.prog 78 #[o, s] w fun e w' => ∃ v, e = .returned v ∧ w'.ownsRow w.heap.size 5 1 v (Ae.tagged lo ls).length (ints .u8 (Ae.tagged lo ls)) ∧ Below w.heap.size w w') := tagged_any lo ls o s w ho hs hol hsl
  have HTB : Hid (∀ x ∈ Ae.tagged lo ls, x < 256) := Ae.tagged_lt ho.1 hs.1
  have HTL : Hid ((Ae.tagged lo ls).length ≤ 90000) := by
    show _ ≤ _
    rw [Ae.tagged_length]
    have := Ae.lack_le lo.length
    have := Ae.lack_le ls.length
    omega
  obtain ⟨po, co, rfl⟩ := ho.slice
  obtain ⟨ps, cs, rfl⟩ := hs.slice
  generalize Ae.tagged lo ls = TG at *
  have HKL : Hid (key.length = 32) := hk
  have HKB : Hid (∀ x ∈ key, x < 256) := hkb
  have HKR : Hid (w.rangeAt bk ok (ints .u8 key)) := hkr
  clear hk hkb hkr ho hs hol hsl
  obtain ⟨T, hT⟩ : ∃ T, Po.tag key TG = T := ⟨_, rfl⟩
  have HT : Hid (Po.tag key TG = T) := hT
  rw [hT]
  clear hT
  go_enter Tryd.func59, Tryd.ntmps59
  go_wp2_with fail
  refine HX.out.mono ?_
  rintro e w1 ⟨v1, rfl, hown1, hb1⟩
  have HSV : Hid (Src w1 v1 TG) := Src.own HTB.out hown1
  obtain ⟨p1, c1, rfl⟩ := HSV.out.slice
  have HB1 : Hid (Below w.heap.size w w1) := hb1
  clear hown1 hb1 HX
  go_wp2_with fail
  obtain ⟨_, hc1, ht1⟩ := HSV.out.text
  refine (tag_ok key TG bk ok ck TG.length c1 p1 w1 HKL.out HKB.out (rangeAt_below HB1.out HKR.out) hck ht1 rfl (by have := HTL.out; omega) hc1).mono ?_
  rintro e w2 ⟨v2, rfl, hown2, hb2⟩
  rw [HT.out] at hown2
  have HO2 : Hid (w2.ownsRow w.heap.size 5 1 v2 16 (ints .u8 T)) := own_base hown2 HB1.out.size
  have HB2 : Hid (Below w.heap.size w w2) := HB1.out.trans (hb2.mono HB1.out.size)
  clear hown2 hb2 HB1 ht1 hc1
  go_wp2_with fail
  go_ret
  exact ⟨_, rfl, HO2.out, HB2.out⟩
end Go.Proofs.YtagdlpodpokmmaaDoor.A5
/- The contracts of onceKey and Seal. -/
namespace Go.Proofs.YtagdlpodpokmmaaDoor.A5
open Go.RowKit P4
theorem arAt_range {w : World} {g : Nat} {l : List Nat} (h : C3.ArAt w g l) : w.rangeAt g 0 (ints .u8 l) := rangeAt_of_row h
theorem bRow_range {w : World} {g : Nat} {l : List Nat} (h : C3.BRow w g l) : w.rangeAt g 0 (ints .u8 l) := rangeAt_of_row h
theorem bRow_own {w : World} {base g n : Nat} {l : List Nat} (h : C3.BRow w g l) (hb : base ≤ g) (hl : l.length = n) (hn : n ≤ 1000000) : w.ownsRow base 5 1 (.slice (some ⟨g, 0, none⟩) n n) n (ints .u8 l) := by
  refine ⟨by rw [ints_length]; omega, .inr ⟨g, n, arr .u8 l, rfl, hb, h, Nat.le_refl _, by unfold maxLen; omega, by rw [arr_size]; omega, ?_⟩⟩
  rw [arr_list, List.take_of_length_le (by rw [ints_length]; omega)]
theorem sizeBad {n m : Nat} (h : n ≠ 32 ∨ m ≠ 12) (z : Int) : C3.Bad n m z 11 := by
  rcases h with h | h
  · exact .inl ⟨.inl h, rfl⟩
  · exact .inl ⟨.inr h, rfl⟩
set_option maxHeartbeats 1000000 in
theorem once_ok (key nonce : List Nat) (bk ok ck bn on cn : Nat) (w : World) (hk : key.length = 32) (hn : nonce.length = 12) (hK : C3.SliceIs w bk ok key) (hN : C3.SliceIs w bn on nonce) (hck : 32 ≤ ck) (hcn : 12 ≤ cn) :
    Calls Tryd.prog 57 #[.slice (some ⟨bk, ok, none⟩) 32 ck, .slice (some ⟨bn, on, none⟩) 12 cn] w fun e w' => ∃ g, e = .returned (.tuple #[.slice (some ⟨g, 0, none⟩) 32 64, .int .i64 0]) ∧ w.heap.size ≤ g ∧ w'.rangeAt g 0 (ints .u8 (Ae.once key nonce)) ∧ Below w.heap.size w w' := by
  have HX : Hid (Calls Tryd.prog 73 #[.slice (some ⟨bk, ok, none⟩) 32 ck, .int .i64 0, .slice (some ⟨bn, on, none⟩) 12 cn] w fun e w' => ∃ g, e = .returned (.tuple #[.slice (some ⟨g, 0, none⟩) 64 64, .int .i64 0]) ∧ w.heap.size ≤ g ∧ w'.rangeAt g 0 (ints .u8 (Ae.once key nonce)) ∧ Below w.heap.size w w') := by
    refine (C3.Block_ok key nonce bk ok ck bn on cn 0 w hk hn hK hN (by decide) hck hcn).mono ?_
    rintro e w1 ⟨g, rfl, hg, hr, hb⟩
    exact ⟨g, rfl, hg, range_take (arAt_range hr) 32, hb⟩
  generalize Ae.once key nonce = O at *
  clear hk hn hK hN
  go_enter Tryd.func57, Tryd.ntmps57
  go_wp2_with fail
  refine HX.out.mono ?_
  rintro e w1 ⟨g, rfl, hg, hr, hb⟩
  have HG : Hid (w.heap.size ≤ g) := hg
  have HR : Hid (w1.rangeAt g 0 (ints .u8 O)) := hr
  have HB : Hid (Below w.heap.size w w1) := hb
  clear hg hr hb HX
  go_wp2_with fail
  refine bodyPost_ret (results_tmp2 rfl _ _ _) rfl ?_
  exact ⟨g, rfl, HG.out, HR.out, HB.out⟩
set_option maxHeartbeats 1000000 in
theorem once_bad (p q : Option Addr) (n c m d : Nat) (w : World) (h : n ≠ 32 ∨ m ≠ 12) :
    Calls Tryd.prog 57 #[.slice p n c, .slice q m d] w fun e' w' => e' = .returned (.tuple #[.slice none 0 0, .int .i64 11]) ∧ w' = w := by
  have HX : Hid (Calls Tryd.prog 73 #[.slice p n c, .int .i64 0, .slice q m d] w fun e' w' => e' = .returned (.tuple #[.slice none 0 0, .int .i64 11]) ∧ w' = w) := C3.Block_bad p q n c m d 0 11 w (sizeBad h 0)
  clear h
  go_enter Tryd.func57, Tryd.ntmps57
  go_wp2_with fail
  refine HX.out.mono ?_
  rintro e' w' ⟨rfl, rfl⟩
  go_wp2_with fail
  refine bodyPost_ret (results_tmp2 rfl _ _ _) rfl ?_
  exact ⟨rfl, rfl⟩
set_option maxHeartbeats 1000000 in
theorem Seal_bad (p q : Option Addr) (n c m d : Nat) (o x : Value) (w : World) (h : n ≠ 32 ∨ m ≠ 12) :
    Calls Tryd.prog 39 #[.slice p n c, .slice q m d, o, x] w fun e' w' => e' = .returned (.tuple #[.slice none 0 0, .int .i64 11]) ∧ w' = w := by
  have HX : Hid (Calls Tryd.prog 57 #[.slice p n c, .slice q m d] w fun e' w' => e' = .returned (.tuple #[.slice none 0 0, .int .i64 11]) ∧ w' = w) := once_bad p q n c m d w h
  clear h
  go_enter Tryd.func39, Tryd.ntmps39
  go_wp2_with fail
  refine HX.out.mono ?_
  rintro e' w' ⟨rfl, rfl⟩
  go_wp2_with fail
  refine bodyPost_ret (results_tmp2 rfl _ _ _) rfl ?_
  exact ⟨rfl, rfl⟩
set_option maxHeartbeats 1000000 in
theorem Seal_ok (key nonce lo lt : List Nat) (bk ok ck bn on cn : Nat) (o x : Value) (w : World) (hk : key.length = 32) (hn : nonce.length = 12) (hK : C3.SliceIs w bk ok key) (hN : C3.SliceIs w bn on nonce) (hck : 32 ≤ ck) (hcn : 12 ≤ cn)
    (ho : Src w o lo) (hx : Src w x lt) (hol : lo.length ≤ 40000) (htl : lt.length ≤ 40000) :
    Calls Tryd.prog 39 #[.slice (some ⟨bk, ok, none⟩) 32 ck, .slice (some ⟨bn, on, none⟩) 12 cn, o, x] w fun e w' => ∃ v, e = .returned (.tuple #[v, .int .i64 0]) ∧ w'.ownsRow w.heap.size 5 1 v (lt.length + 16) (ints .u8 (Ae.box key nonce lo lt)) ∧ Below w.heap.size w w' := by
  have HX : Hid (Calls Tryd.prog 57 #[.slice (some ⟨bk, ok, none⟩) 32 ck, .slice (some ⟨bn, on, none⟩) 12 cn] w fun e w' => ∃ g, e = .returned (.tuple #[.slice (some ⟨g, 0, none⟩) 32 64, .int .i64 0]) ∧ w.heap.size ≤ g ∧ w'.rangeAt g 0 (ints .u8 (Ae.once key nonce)) ∧ Below w.heap.size w w') := once_ok key nonce bk ok ck bn on cn w hk hn hK hN hck hcn
  obtain ⟨px, cx, rfl⟩ := hx.slice
  obtain ⟨po, co, rfl⟩ := ho.slice
  have HY : Hid (∀ w1, Below w.heap.size w w1 → Calls Tryd.prog 58 #[.slice (some ⟨bk, ok, none⟩) 32 ck, .int .i64 1, .slice (some ⟨bn, on, none⟩) 12 cn, .slice px lt.length cx] w1 fun e w' => ∃ g, e = .returned (.tuple #[.slice (some ⟨g, 0, none⟩) lt.length lt.length, .int .i64 0]) ∧ w1.heap.size ≤ g ∧ C3.BRow w' g (C3.Ch.xor key 1 nonce lt) ∧ Below w1.heap.size w1 w') := fun w1 hb =>
    C3.XOR_ok key nonce lt bk ok ck bn on cn 1 lt.length cx px w1 hk hn (hK.below hb) (hN.below hb) (by decide) hck hcn (hx.below hb).text.2.2 rfl (by omega)
  have HSL : Hid ((C3.Ch.xor key 1 nonce lt).length = lt.length) := C3.Ch.xor_length _ _ _ _
  have HSB : Hid (∀ y ∈ C3.Ch.xor key 1 nonce lt, y < 256) := C3.Ch.xor_lt _ _ _ hx.1
  have HOL : Hid ((Ae.once key nonce).length = 32) := Ae.once_length _ _
  have HOB : Hid (∀ y ∈ Ae.once key nonce, y < 256) := Ae.once_lt _ _
  have HTL : Hid ((Po.tag (Ae.once key nonce) (Ae.tagged lo (C3.Ch.xor key 1 nonce lt))).length = 16) := Po.tag_length _ _
  have HTB : Hid (∀ y ∈ Po.tag (Ae.once key nonce) (Ae.tagged lo (C3.Ch.xor key 1 nonce lt)), y < 256) := Po.tag_lt _ _
  have hB : Ae.box key nonce lo lt = C3.Ch.xor key 1 nonce lt ++ Po.tag (Ae.once key nonce) (Ae.tagged lo (C3.Ch.xor key 1 nonce lt)) := rfl
  rw [hB]
  have HO : Hid (Src w (.slice po lo.length co) lo) := ho
  have HLO : Hid (lo.length ≤ 40000) := hol
  obtain ⟨no, hno⟩ : ∃ n, lo.length = n := ⟨_, rfl⟩
  rw [hno] at HO HLO hol
  rw [hno]
  have HNO : Hid (lo.length = no) := hno
  obtain ⟨nt, hnt⟩ : ∃ n, lt.length = n := ⟨_, rfl⟩
  rw [hnt] at HY HSL htl ⊢
  clear hk hn hK hN ho hx hnt hno hB
  generalize C3.Ch.xor key 1 nonce lt = S at *
  generalize Ae.once key nonce = O at *
  obtain ⟨T, hT⟩ : ∃ T, Po.tag O (Ae.tagged lo S) = T := ⟨_, rfl⟩
  rw [hT] at HTL HTB ⊢
  have HT : Hid (Po.tag O (Ae.tagged lo S) = T) := hT
  clear hT
  go_enter Tryd.func39, Tryd.ntmps39
  go_wp2_with fail
  refine HX.out.mono ?_
  rintro e w1 ⟨g, rfl, hg, hr, hb⟩
  have HR : Hid (w1.rangeAt g 0 (ints .u8 O)) := hr
  have HB1 : Hid (Below w.heap.size w w1) := hb
  clear hg hr hb HX
  go_wp2_with fail
  refine (HY.out w1 HB1.out).mono ?_
  rintro e w2 ⟨h, rfl, hg, hr, hb⟩
  have HR2 : Hid (w2.rangeAt g 0 (ints .u8 O)) := rangeAt_below hb HR.out
  have HS2 : Hid (w2.ownsRow w.heap.size 5 1 (.slice (some ⟨h, 0, none⟩) nt nt) nt (ints .u8 S)) := bRow_own hr (Nat.le_trans HB1.out.size hg) HSL.out (by omega)
  have HB2 : Hid (Below w.heap.size w w2) := HB1.out.trans (hb.mono HB1.out.size)
  clear hg hr hb HY HR HB1
  go_wp2_with (first | with_reducible (refine stop_builtin .append ?_))
  refine (tagOf_any O lo S g 0 64 _ _ w2 HOL.out HOB.out HR2.out (by decide) (HO.out.below HB2.out) (Src.own HSB.out HS2.out) (by rw [HNO.out]; exact hol) (by rw [HSL.out]; exact htl)).mono ?_
  rintro e w3 ⟨v3, rfl, hown3, hb3⟩
  rw [HT.out] at hown3
  have HT3 : Hid (Src w3 v3 T) := Src.own HTB.out hown3
  have HS3 : Hid (w3.ownsRow w.heap.size 5 1 (.slice (some ⟨h, 0, none⟩) nt nt) nt (ints .u8 S)) := own_below HS2.out hb3
  have HB3 : Hid (Below w.heap.size w w3) := HB2.out.trans (hb3.mono HB2.out.size)
  clear hown3 hb3 HR2 HS2 HB2
  go_wp2_with (first | with_reducible (refine stop_builtin .append ?_))
  refine Stop.go ?_
  refine law_append_src w.heap.size (.slice (some ⟨h, 0, none⟩) nt nt) nt S v3 T rfl rfl HS3.out HT3.out (by rw [HTL.out]; omega) HB3.out.size ?_
  intro v4 w4 hown4 hb4
  rw [HTL.out] at hown4
  have HO4 : Hid (w4.ownsRow w.heap.size 5 1 v4 (nt + 16) (ints .u8 (S ++ T))) := hown4
  have HB4 : Hid (Below w.heap.size w w4) := HB3.out.trans hb4
  clear hown4 hb4 HS3 HT3 HB3
  go_wp2_with fail
  refine bodyPost_ret (results_tmp2 rfl _ _ _) rfl ?_
  exact ⟨_, rfl, HO4.out, HB4.out⟩
end Go.Proofs.YtagdlpodpokmmaaDoor.A5
/- The contract of Open. -/
namespace Go.Proofs.YtagdlpodpokmmaaDoor.A5
open Go.RowKit P4
/-- What Open tells. -/
def OpenSays (base : Nat) (r : Option (List Nat)) (e : Ending) (w' : World) : Prop := match r with
  | some t => ∃ v, e = .returned (.tuple #[v, .int .i64 0]) ∧ w'.ownsRow base 5 1 v t.length (ints .u8 t)
  | none => e = .returned (.tuple #[.slice none 0 0, .int .i64 20])
set_option maxHeartbeats 1000000 in
theorem Open_bad (p q : Option Addr) (n c m d : Nat) (o x : Value) (w : World) (h : n ≠ 32 ∨ m ≠ 12) :
    Calls Tryd.prog 43 #[.slice p n c, .slice q m d, o, x] w fun e' w' => e' = .returned (.tuple #[.slice none 0 0, .int .i64 11]) ∧ w' = w := by
  have HX : Hid (Calls Tryd.prog 57 #[.slice p n c, .slice q m d] w fun e' w' => e' = .returned (.tuple #[.slice none 0 0, .int .i64 11]) ∧ w' = w) := once_bad p q n c m d w h
  clear h
  go_enter Tryd.func43, Tryd.ntmps43
  go_wp2_with fail
  refine HX.out.mono ?_
  rintro e' w' ⟨rfl, rfl⟩
  go_wp2_with fail
  refine bodyPost_ret (results_tmp2 rfl _ _ _) rfl ?_
  exact ⟨rfl, rfl⟩
set_option maxHeartbeats 1000000 in
theorem Open_short (key nonce : List Nat) (bk ok ck bn on cn n cb : Nat) (po pb : Option Addr) (no co : Nat) (w : World) (hk : key.length = 32) (hn : nonce.length = 12) (hK : C3.SliceIs w bk ok key) (hN : C3.SliceIs w bn on nonce) (hck : 32 ≤ ck) (hcn : 12 ≤ cn) (h16 : n < 16) :
    Calls Tryd.prog 43 #[.slice (some ⟨bk, ok, none⟩) 32 ck, .slice (some ⟨bn, on, none⟩) 12 cn, .slice po no co, .slice pb n cb] w fun e w' => e = .returned (.tuple #[.slice none 0 0, .int .i64 20]) ∧ Below w.heap.size w w' := by
  have HX : Hid (Calls Tryd.prog 57 #[.slice (some ⟨bk, ok, none⟩) 32 ck, .slice (some ⟨bn, on, none⟩) 12 cn] w fun e w' => ∃ g, e = .returned (.tuple #[.slice (some ⟨g, 0, none⟩) 32 64, .int .i64 0]) ∧ w.heap.size ≤ g ∧ w'.rangeAt g 0 (ints .u8 (Ae.once key nonce)) ∧ Below w.heap.size w w') := once_ok key nonce bk ok ck bn on cn w hk hn hK hN hck hcn
  have g1 : (n : Int) - 16 < 0 := by omega
  have g2 : (n : Int) < 16 := by omega
  clear hk hn hK hN
  go_enter Tryd.func43, Tryd.ntmps43
  go_wp2_with fail
  refine HX.out.mono ?_
  rintro e w1 ⟨g, rfl, hg, hr, hb⟩
  have HB1 : Hid (Below w.heap.size w w1) := hb
  clear hg hr hb HX
  go_wp2_with fail
  refine bodyPost_ret (results_tmp2 rfl _ _ _) rfl ?_
  exact ⟨rfl, HB1.out⟩
set_option maxHeartbeats 1000000 in
theorem Open_long (key nonce lo ls lt : List Nat) (bk ok ck bn on cn bb ob cb k : Nat) (o : Value) (w : World) (hk : key.length = 32) (hn : nonce.length = 12) (hK : C3.SliceIs w bk ok key) (hN : C3.SliceIs w bn on nonce) (hck : 32 ≤ ck) (hcn : 12 ≤ cn)
    (ho : Src w o lo) (hol : lo.length ≤ 40000) (hsl : ls.length = k) (htl : lt.length = 16) (hkl : k ≤ 40000) (hcb : k + 16 ≤ cb) (hlb : ∀ x ∈ ls ++ lt, x < 256) (hr : w.rangeAt bb ob (ints .u8 (ls ++ lt))) :
    Calls Tryd.prog 43 #[.slice (some ⟨bk, ok, none⟩) 32 ck, .slice (some ⟨bn, on, none⟩) 12 cn, o, .slice (some ⟨bb, ob, none⟩) (k + 16) cb] w fun e w' => OpenSays w.heap.size (if Ae.tagOf key nonce lo ls = lt then some (C3.Ch.xor key 1 nonce ls) else none) e w' ∧ Below w.heap.size w w' := by
  have HX : Hid (Calls Tryd.prog 57 #[.slice (some ⟨bk, ok, none⟩) 32 ck, .slice (some ⟨bn, on, none⟩) 12 cn] w fun e w' => ∃ g, e = .returned (.tuple #[.slice (some ⟨g, 0, none⟩) 32 64, .int .i64 0]) ∧ w.heap.size ≤ g ∧ w'.rangeAt g 0 (ints .u8 (Ae.once key nonce)) ∧ Below w.heap.size w w') := once_ok key nonce bk ok ck bn on cn w hk hn hK hN hck hcn
  have HSr : Hid (∀ w1, Below w.heap.size w w1 → Src w1 (.slice (some ⟨bb, ob, none⟩) k cb) ls) := fun w1 hb => Src.below (Src.row (fun x hx => hlb x (List.mem_append_left _ hx)) (by omega) (by have := range_take hr k; rwa [← hsl, List.take_left] at this) hsl) hb
  have HTr : Hid (∀ w1, Below w.heap.size w w1 → w1.rangeAt bb (ob + k) (ints .u8 lt)) := fun w1 hb => rangeAt_below hb (by have := range_drop hr k; rwa [← hsl, List.drop_left, hsl] at this)
  have HTB0 : Hid (∀ x ∈ lt, x < 256) := fun x hx => hlb x (List.mem_append_right _ hx)
  have HTL0 : Hid (lt.length = 16) := htl
  have HY : Hid (∀ w1, Below w.heap.size w w1 → Calls Tryd.prog 58 #[.slice (some ⟨bk, ok, none⟩) 32 ck, .int .i64 1, .slice (some ⟨bn, on, none⟩) 12 cn, .slice (some ⟨bb, ob, none⟩) k cb] w1 fun e w' => ∃ g, e = .returned (.tuple #[.slice (some ⟨g, 0, none⟩) k k, .int .i64 0]) ∧ w1.heap.size ≤ g ∧ C3.BRow w' g (C3.Ch.xor key 1 nonce ls) ∧ Below w1.heap.size w1 w') := fun w1 hb =>
    C3.XOR_ok key nonce ls bk ok ck bn on cn 1 k cb _ w1 hk hn (hK.below hb) (hN.below hb) (by decide) hck hcn (HSr.out w1 hb).text.2.2 hsl (by omega)
  have HSL : Hid ((C3.Ch.xor key 1 nonce ls).length = k) := by show _ = _; rw [C3.Ch.xor_length, hsl]
  have HOL : Hid ((Ae.once key nonce).length = 32) := Ae.once_length _ _
  have HOB : Hid (∀ y ∈ Ae.once key nonce, y < 256) := Ae.once_lt _ _
  have HTL : Hid ((Ae.tagOf key nonce lo ls).length = 16) := Ae.tagOf_length _ _ _ _
  have HTB : Hid (∀ y ∈ Ae.tagOf key nonce lo ls, y < 256) := Ae.tagOf_lt _ _ _ _
  have HT : Hid (Po.tag (Ae.once key nonce) (Ae.tagged lo ls) = Ae.tagOf key nonce lo ls) := rfl
  have HLS : Hid (ls.length ≤ 40000) := by show _ ≤ _; omega
  have HO : Hid (Src w o lo) := ho
  have HLO : Hid (lo.length ≤ 40000) := hol
  obtain ⟨po, co, rfl⟩ := ho.slice
  obtain ⟨no, hno⟩ : ∃ n, lo.length = n := ⟨_, rfl⟩
  rw [hno] at HO ⊢
  clear hk hn hK hN ho hol hno hsl htl hlb hr
  generalize C3.Ch.xor key 1 nonce ls = S at *
  generalize Ae.tagOf key nonce lo ls = T at *
  generalize Ae.once key nonce = O at *
  obtain ⟨R, hR⟩ : ∃ R, (if T = lt then some S else none) = R := ⟨_, rfl⟩
  rw [hR]
  have HR1 : Hid (lt = T → R = some S) := fun h => by rw [← hR, if_pos h.symm]
  have HR0 : Hid (lt ≠ T → R = none) := fun h => by rw [← hR, if_neg (fun e => h e.symm)]
  clear hR
  have g1 : ¬ ((k : Int) + 16 - 16 < 0) := by omega
  have g2 : (k : Int) + 16 - 16 = (k : Int) := by omega
  have g3 : (k : Int) ≤ (cb : Int) := by omega
  have g4 : (k : Int) ≤ (k : Int) + 16 := by omega
  have g5 : (0 : Int) ≤ (k : Int) := by omega
  have g6 : (k : Int) + 16 ≤ (cb : Int) := by omega
  go_enter Tryd.func43, Tryd.ntmps43
  go_wp2_with fail
  refine HX.out.mono ?_
  rintro e w1 ⟨g, rfl, hg, hr, hb⟩
  have HR : Hid (w1.rangeAt g 0 (ints .u8 O)) := hr
  have HB1 : Hid (Below w.heap.size w w1) := hb
  clear hg hr hb HX
  go_wp2_with fail
  go_quiet (fail)
  go_wp2_with fail
  have hd : Below w1.heap.size w1 (w1.drewN nq) := ⟨rfl, rfl, rfl, Nat.le_refl _, fun _ _ => rfl⟩
  have HR2 : Hid ((w1.drewN nq).rangeAt g 0 (ints .u8 O)) := rangeAt_below hd HR.out
  have HB2 : Hid (Below w.heap.size w (w1.drewN nq)) := HB1.out.trans (hd.mono HB1.out.size)
  clear hd HR HB1
  generalize w1.drewN nq = w2 at *
  refine (tagOf_any O lo ls g 0 64 _ _ w2 HOL.out HOB.out HR2.out (by decide) (HO.out.below HB2.out) (HSr.out w2 HB2.out) HLO.out HLS.out).mono ?_
  rintro e w3 ⟨v3, rfl, hown3, hb3⟩
  rw [HT.out] at hown3
  obtain ⟨g3, c3, rfl, _, _, _, hr3⟩ := own_cell hown3 (by decide)
  have HT3 : Hid (w3.rangeAt g3 0 (ints .u8 T)) := hr3
  have HB3 : Hid (Below w.heap.size w w3) := HB2.out.trans (hb3.mono HB2.out.size)
  clear hown3 hb3 HR2 HB2 hr3
  go_wp2_with fail
  refine (M2.equal_any lt T (some ⟨bb, ob + k, none⟩) (some ⟨g3, 0, none⟩) 16 (cb - k) 16 c3 w3 HTL0.out HTL.out ⟨HTB0.out, fun _ => ⟨_, _, rfl, HTr.out w3 HB3.out⟩⟩ ⟨HTB.out, fun _ => ⟨_, _, rfl, HT3.out⟩⟩ (by decide) (by decide)).mono ?_
  rintro e w4 ⟨rfl, rfl⟩
  by_cases hT : lt = T
  · have HRE : Hid (R = some S) := HR1.out hT
    rw [decide_eq_true hT]
    go_wp2_with fail
    refine (HY.out w4 HB3.out).mono ?_
    rintro e w5 ⟨g5, rfl, hg5, hr5, hb5⟩
    have HO5 : Hid (w5.ownsRow w.heap.size 5 1 (.slice (some ⟨g5, 0, none⟩) k k) k (ints .u8 S)) := bRow_own hr5 (Nat.le_trans HB3.out.size hg5) HSL.out (by omega)
    have HB5 : Hid (Below w.heap.size w w5) := HB3.out.trans (hb5.mono HB3.out.size)
    clear hg5 hr5 hb5
    go_wp2_with fail
    refine bodyPost_ret (results_tmp2 rfl _ _ _) rfl ?_
    rw [HRE.out]
    exact ⟨⟨_, rfl, by rw [HSL.out]; exact HO5.out⟩, HB5.out⟩
  · have HRE : Hid (R = none) := HR0.out hT
    rw [decide_eq_false hT]
    go_wp2_with fail
    refine bodyPost_ret (results_tmp2 rfl _ _ _) rfl ?_
    rw [HRE.out]
    exact ⟨rfl, HB3.out⟩
/-- Open, of a right key and nonce. -/
theorem Open_any (key nonce lo lb : List Nat) (bk ok ck bn on cn : Nat) (o x : Value) (w : World) (hk : key.length = 32) (hn : nonce.length = 12) (hK : C3.SliceIs w bk ok key) (hN : C3.SliceIs w bn on nonce) (hck : 32 ≤ ck) (hcn : 12 ≤ cn)
    (ho : Src w o lo) (hx : Src w x lb) (hol : lo.length ≤ 40000) (hbl : lb.length ≤ 40000) :
    Calls Tryd.prog 43 #[.slice (some ⟨bk, ok, none⟩) 32 ck, .slice (some ⟨bn, on, none⟩) 12 cn, o, x] w fun e w' => OpenSays w.heap.size (Ae.opens key nonce lo lb) e w' ∧ Below w.heap.size w w' := by
  obtain ⟨px, cx, rfl⟩ := hx.slice
  by_cases h : lb.length < 16
  · rw [Ae.opens_short h]
    obtain ⟨po, co, rfl⟩ := ho.slice
    exact Open_short key nonce bk ok ck bn on cn _ cx po px _ co w hk hn hK hN hck hcn h
  · obtain ⟨_, hc, hs, hT⟩ := hx.text
    obtain ⟨b, ob, rfl, hr⟩ := hT (by intro e; subst e; exact h (by decide))
    unfold Ae.opens
    rw [if_neg h]
    have hl : lb.length = lb.length - 16 + 16 := by omega
    have ha : lb = lb.take (lb.length - 16) ++ lb.drop (lb.length - 16) := (List.take_append_drop _ _).symm
    have := Open_long key nonce lo (lb.take (lb.length - 16)) (lb.drop (lb.length - 16)) bk ok ck bn on cn b ob cx (lb.length - 16) o w hk hn hK hN hck hcn ho hol (by rw [List.length_take]; omega) (by rw [List.length_drop]; omega) (by omega) (by omega) (by rw [← ha]; exact hs) (by rw [← ha]; exact hr)
    rw [← hl] at this
    exact this
end Go.Proofs.YtagdlpodpokmmaaDoor.A5
