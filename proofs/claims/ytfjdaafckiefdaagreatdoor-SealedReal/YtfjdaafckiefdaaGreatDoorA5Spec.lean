/- The plain mathematics of the boxes of layer 5, over what layers 3 and 4 have: what is tagged, boxes, and what opens them. -/
import Derived.Test.YtfjdaafckiefdaaGreatDoorC3Own
import Derived.Test.YtfjdaafckiefdaaGreatDoorP4Own
namespace Go.Proofs.YtfjdaafckiefdaaGreatDoor.A5
open Sp C3 P4
namespace Ae
/-- How many noughts fill a row up to a multiple of 16. -/
def lack (n : Nat) : Nat := (16 - n % 16) % 16
def fill (l : List Nat) : List Nat := l ++ List.replicate (lack l.length) 0
/-- A number in eight bytes, the lowest first. -/
def eight (n : Nat) : List Nat := Po.digs 256 8 n
def tagged (other s : List Nat) : List Nat := fill other ++ fill s ++ eight other.length ++ eight s.length
/-- The one-time key. -/
def once (key nonce : List Nat) : List Nat := (Ch.blockOf key 0 nonce).take 32
def tagOf (key nonce other s : List Nat) : List Nat := Po.tag (once key nonce) (tagged other s)
def box (key nonce other text : List Nat) : List Nat := Ch.xor key 1 nonce text ++ tagOf key nonce other (Ch.xor key 1 nonce text)
/-- The text whose box it is, if it is one. -/
def opens (key nonce other b : List Nat) : Option (List Nat) :=
  if b.length < 16 then none
  else if tagOf key nonce other (b.take (b.length - 16)) = b.drop (b.length - 16) then some (Ch.xor key 1 nonce (b.take (b.length - 16)))
  else none
theorem lack_le (n : Nat) : lack n < 16 := Nat.mod_lt _ (by decide)
theorem fill_length (l : List Nat) : (fill l).length = l.length + lack l.length := by simp [fill]
theorem fill_lt {l : List Nat} (h : ∀ x ∈ l, x < 256) : ∀ x ∈ fill l, x < 256 := fun x hx => by
  rcases List.mem_append.1 hx with h1 | h1
  · exact h x h1
  · rw [List.eq_of_mem_replicate h1]; decide
theorem eight_length (n : Nat) : (eight n).length = 8 := Po.digs_length _ _ _
theorem eight_lt (n : Nat) : ∀ x ∈ eight n, x < 256 := Po.digs_lt (by decide) _ _
theorem tagged_length (other s : List Nat) : (tagged other s).length = other.length + lack other.length + (s.length + lack s.length) + 16 := by
  simp [tagged, fill_length, eight_length]
  omega
theorem tagged_lt {other s : List Nat} (ho : ∀ x ∈ other, x < 256) (hs : ∀ x ∈ s, x < 256) : ∀ x ∈ tagged other s, x < 256 := fun x hx => by
  unfold tagged at hx
  rcases List.mem_append.1 hx with h | h
  · rcases List.mem_append.1 h with h | h
    · rcases List.mem_append.1 h with h | h
      · exact fill_lt ho x h
      · exact fill_lt hs x h
    · exact eight_lt _ x h
  · exact eight_lt _ x h
theorem once_length (key nonce : List Nat) : (once key nonce).length = 32 := by rw [once, List.length_take, Ch.blockOf, Ch.block_length]; rfl
theorem once_lt (key nonce : List Nat) : ∀ x ∈ once key nonce, x < 256 := fun x hx => Ch.block_lt _ x (List.mem_of_mem_take hx)
theorem tagOf_length (key nonce other s : List Nat) : (tagOf key nonce other s).length = 16 := Po.tag_length _ _
theorem tagOf_lt (key nonce other s : List Nat) : ∀ x ∈ tagOf key nonce other s, x < 256 := Po.tag_lt _ _
theorem box_length (key nonce other text : List Nat) : (box key nonce other text).length = text.length + 16 := by
  rw [box, List.length_append, tagOf_length, Ch.xor_length]
theorem box_lt {key nonce other text : List Nat} (ht : ∀ x ∈ text, x < 256) : ∀ x ∈ box key nonce other text, x < 256 := fun x hx => by
  rcases List.mem_append.1 hx with h | h
  · exact Ch.xor_lt _ _ _ ht x h
  · exact tagOf_lt _ _ _ _ x h
theorem box_text (key nonce other text : List Nat) : (box key nonce other text).take ((box key nonce other text).length - 16) = Ch.xor key 1 nonce text := by
  have h : (box key nonce other text).length - 16 = (Ch.xor key 1 nonce text).length := by rw [box_length, Ch.xor_length]; omega
  rw [h, box, List.take_left]
theorem box_tag (key nonce other text : List Nat) : (box key nonce other text).drop ((box key nonce other text).length - 16) = tagOf key nonce other (Ch.xor key 1 nonce text) := by
  have h : (box key nonce other text).length - 16 = (Ch.xor key 1 nonce text).length := by rw [box_length, Ch.xor_length]; omega
  rw [h, box, List.drop_left]
/-- A box is opened to its text. -/
theorem opens_box (key nonce other text : List Nat) : opens key nonce other (box key nonce other text) = some text := by
  unfold opens
  rw [if_neg (by rw [box_length]; omega), box_text, box_tag, if_pos rfl, Ch.xor_xor]
theorem opens_short {key nonce other b : List Nat} (h : b.length < 16) : opens key nonce other b = none := by
  unfold opens
  rw [if_pos h]
/-- A box whose tag has another byte is none. -/
theorem opens_spoilt {key nonce other text : List Nat} {i x : Nat} (hi : i < 16) (hx : x ≠ nth (tagOf key nonce other (Ch.xor key 1 nonce text)) i) :
    opens key nonce other ((box key nonce other text).set (text.length + i) x) = none := by
  have hl : ((box key nonce other text).set (text.length + i) x).length = text.length + 16 := by rw [List.length_set, box_length]
  unfold opens
  rw [if_neg (by rw [hl]; omega), hl, Nat.add_sub_cancel]
  have e1 : ((box key nonce other text).set (text.length + i) x).take text.length = Ch.xor key 1 nonce text := by
    rw [box, List.set_append_right _ _ (by rw [Ch.xor_length]; omega)]
    have : text.length = (Ch.xor key 1 nonce text).length := by rw [Ch.xor_length]
    rw [this, List.take_left]
  have e2 : ((box key nonce other text).set (text.length + i) x).drop text.length = (tagOf key nonce other (Ch.xor key 1 nonce text)).set i x := by
    rw [box, List.set_append_right _ _ (by rw [Ch.xor_length]; omega), Ch.xor_length, Nat.add_sub_cancel_left]
    have : text.length = (Ch.xor key 1 nonce text).length := by rw [Ch.xor_length]
    conv => lhs; rw [this]
    rw [List.drop_left]
  rw [e1, e2, if_neg]
  intro h
  apply hx
  have h1 : nth _ i = nth _ i := congrArg (fun l => nth l i) h
  rw [h1]
  simp [nth, tagOf_length, hi]
/-- A bit turned makes another byte. -/
theorem turned_ne {x b : Nat} (h : 0 < b) : x ^^^ b ≠ x := fun e => by
  have : x ^^^ (x ^^^ b) = x ^^^ x := by rw [e]
  rw [← Nat.xor_assoc, Nat.xor_self, Nat.zero_xor] at this
  omega
end Ae
end Go.Proofs.YtfjdaafckiefdaaGreatDoor.A5
