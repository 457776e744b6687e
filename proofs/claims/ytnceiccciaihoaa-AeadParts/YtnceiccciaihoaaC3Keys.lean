/- What the statements over arrays have in common: the two arrays in blocks of their own, XOR and Block over them, texts. -/
import Derived.Test.YtnceiccciaihoaaC3Anchor
namespace Go.Proofs.Ytnceiccciaihoaa.C3
open Go.RowKit
theorem TextIs.below {w w' : World} {p : Option Addr} {l : List Nat} (h : TextIs w p l) (hb : Below w.heap.size w w') : TextIs w' p l :=
  ⟨h.1, fun h0 => by obtain ⟨b, o, rfl, hr⟩ := h.2 h0; exact ⟨b, o, rfl, rangeAt_below hb hr⟩⟩
theorem TextIs.take {w : World} {p : Option Addr} {l : List Nat} (h : TextIs w p l) (n : Nat) : TextIs w p (l.take n) :=
  ⟨fun x hx => h.1 x (List.mem_of_mem_take hx), fun h0 => by
    obtain ⟨b, o, rfl, hr⟩ := h.2 (by intro e; rw [e] at h0; simp at h0)
    exact ⟨b, o, rfl, rangeAt_take hr n⟩⟩
theorem BRow.text {w : World} {g : Nat} {l : List Nat} (h : BRow w g l) (hs : ∀ x ∈ l, x < 256) : TextIs w (some ⟨g, 0, none⟩) l := ⟨hs, fun _ => ⟨g, 0, rfl, rangeAt_of_row h⟩⟩
/-- The world behind the two arrays' blocks. -/
def knW (w : World) (key nonce : List Nat) : World := (w.alloc (Obj.cells (arr .u8 key) 31)).alloc (Obj.cells (arr .u8 nonce) 32)
theorem knW_below (w : World) (key nonce : List Nat) : Below w.heap.size w (knW w key nonce) := ((Below.refl _ _).alloc (Nat.le_refl _) _).alloc (by simp) _
theorem knW_key (w : World) (key nonce : List Nat) (h : ∀ x ∈ key, x < 256) : SliceIs (knW w key nonce) w.heap.size 0 key := by
  refine ⟨h, rangeAt_of_row (t := 31) (fr := (0, 0)) ?_⟩
  show ((w.heap.push _).push _)[_]? = _
  rw [Array.getElem?_push_lt (by simp), Array.getElem_push_eq]
  rfl
theorem knW_nonce (w : World) (key nonce : List Nat) (h : ∀ x ∈ nonce, x < 256) : SliceIs (knW w key nonce) (w.heap.size + 1) 0 nonce := by
  refine ⟨h, rangeAt_of_row (t := 32) (fr := (0, 0)) ?_⟩
  show ((w.heap.push _).push _)[_]? = _
  rw [Array.getElem?_push, if_pos (by simp)]
  rfl
/-- XOR over them, in any later world. -/
def XorAll (W : World) (K : Nat) (key nonce : List Nat) : Prop := ∀ (w' : World) (c n ct : Nat) (pt : Option Addr) (text : List Nat), Below W.heap.size W w' → c < 4294967296 → TextIs w' pt text → text.length = n → n ≤ 1000000 →
  Calls Try.prog 14 #[.slice (some ⟨K, 0, none⟩) 32 32, .int .i64 c, .slice (some ⟨K + 1, 0, none⟩) 12 12, .slice pt n ct] w' fun e w2 => ∃ g, e = .returned (.tuple #[.slice (some ⟨g, 0, none⟩) n n, .int .i64 0]) ∧ w'.heap.size ≤ g ∧ BRow w2 g (Ch.xor key c nonce text) ∧ Below w'.heap.size w' w2
theorem xorAll_of {w : World} {key nonce : List Nat} (hk : key.length = 32) (hn : nonce.length = 12) (hks : ∀ x ∈ key, x < 256) (hns : ∀ x ∈ nonce, x < 256) : XorAll (knW w key nonce) w.heap.size key nonce :=
  fun w' c n ct pt text hb hc hT htl hnl => XOR_ok key nonce text w.heap.size 0 32 (w.heap.size + 1) 0 12 c n ct pt w' hk hn ((knW_key w key nonce hks).below hb) ((knW_nonce w key nonce hns).below hb) hc (by decide) (by decide) hT htl hnl
def BlockAll (W : World) (K : Nat) (key nonce : List Nat) : Prop := ∀ (w' : World) (c : Nat), Below W.heap.size W w' → c < 4294967296 →
  Calls Try.prog 15 #[.slice (some ⟨K, 0, none⟩) 32 32, .int .i64 c, .slice (some ⟨K + 1, 0, none⟩) 12 12] w' fun e w2 => ∃ g, e = .returned (.tuple #[.slice (some ⟨g, 0, none⟩) 64 64, .int .i64 0]) ∧ w'.heap.size ≤ g ∧ ArAt w2 g (Ch.blockOf key c nonce) ∧ Below w'.heap.size w' w2
theorem blockAll_of {w : World} {key nonce : List Nat} (hk : key.length = 32) (hn : nonce.length = 12) (hks : ∀ x ∈ key, x < 256) (hns : ∀ x ∈ nonce, x < 256) : BlockAll (knW w key nonce) w.heap.size key nonce :=
  fun w' c hb hc => Block_ok key nonce w.heap.size 0 32 (w.heap.size + 1) 0 12 c w' hk hn ((knW_key w key nonce hks).below hb) ((knW_nonce w key nonce hns).below hb) hc (by decide) (by decide)
theorem below_trans3 {B : Nat} {a b c : World} (h : Below B a b) (hB : B ≤ b.heap.size) (h' : Below b.heap.size b c) : Below B a c := h.trans (h'.mono hB)
theorem strB_eq (l : List Nat) : ((strB l).toList == (strB l).toList) = true := by simp
end Go.Proofs.Ytnceiccciaihoaa.C3
