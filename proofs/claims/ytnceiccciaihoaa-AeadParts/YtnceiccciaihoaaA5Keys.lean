/- What the statements over arrays have in common: Seal and Open over the two arrays' blocks, in any later world. -/
import Derived.Test.YtnceiccciaihoaaA5Anchor
import Derived.Test.YtnceiccciaihoaaC3Keys
namespace Go.Proofs.Ytnceiccciaihoaa.A5
open Go.RowKit P4
def SealAll (W : World) (K : Nat) (key nonce : List Nat) : Prop := ∀ (w' : World) (o x : Value) (lo lx : List Nat) (n : Nat), Below W.heap.size W w' → Src w' o lo → Src w' x lx → lx.length = n → lo.length ≤ 40000 → n ≤ 40000 →
  Calls Try.prog 10 #[.slice (some ⟨K, 0, none⟩) 32 32, .slice (some ⟨K + 1, 0, none⟩) 12 12, o, x] w' fun e w2 => ∃ v, e = .returned (.tuple #[v, .int .i64 0]) ∧ w2.ownsRow w'.heap.size 5 1 v (n + 16) (ints .u8 (Ae.box key nonce lo lx)) ∧ Below w'.heap.size w' w2
theorem sealAll_of {w : World} {key nonce : List Nat} (hk : key.length = 32) (hn : nonce.length = 12) (hks : ∀ x ∈ key, x < 256) (hns : ∀ x ∈ nonce, x < 256) : SealAll (C3.knW w key nonce) w.heap.size key nonce :=
  fun w' o x lo lx n hb ho hx hn' hol hxl => hn' ▸ Seal_ok key nonce lo lx w.heap.size 0 32 (w.heap.size + 1) 0 12 o x w' hk hn ((C3.knW_key w key nonce hks).below hb) ((C3.knW_nonce w key nonce hns).below hb) (by decide) (by decide) ho hx hol (by omega)
def OpenAll (W : World) (K : Nat) (key nonce : List Nat) : Prop := ∀ (w' : World) (o x : Value) (lo lx : List Nat), Below W.heap.size W w' → Src w' o lo → Src w' x lx → lo.length ≤ 40000 → lx.length ≤ 40000 →
  Calls Try.prog 12 #[.slice (some ⟨K, 0, none⟩) 32 32, .slice (some ⟨K + 1, 0, none⟩) 12 12, o, x] w' fun e w2 => OpenSays w'.heap.size (Ae.opens key nonce lo lx) e w2 ∧ Below w'.heap.size w' w2
theorem openAll_of {w : World} {key nonce : List Nat} (hk : key.length = 32) (hn : nonce.length = 12) (hks : ∀ x ∈ key, x < 256) (hns : ∀ x ∈ nonce, x < 256) : OpenAll (C3.knW w key nonce) w.heap.size key nonce :=
  fun w' o x lo lx hb ho hx hol hxl => Open_any key nonce lo lx w.heap.size 0 32 (w.heap.size + 1) 0 12 o x w' hk hn ((C3.knW_key w key nonce hks).below hb) ((C3.knW_nonce w key nonce hns).below hb) (by decide) (by decide) ho hx hol hxl
theorem below_drewN {B : Nat} {a w : World} (h : Below B a w) (n : Nat) : Below B a (w.drewN n) := ⟨h.os, h.tape, h.output, h.size, h.block⟩
theorem Src.drewN {w : World} {v : Value} {l : List Nat} (h : Src w v l) (n : Nat) : Src (w.drewN n) v l := h.below (below_drewN (Below.refl _ _) n)
end Go.Proofs.Ytnceiccciaihoaa.A5
