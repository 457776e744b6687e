/- One chain, with blocks that no element of it lies in: Sg. -/
import Derived.Test.YtkiohhkmlpgdoaaDoorZ12New
namespace Go.Proofs.YtkiohhkmlpgdoaaDoor.S7.Zz
open Go.RowKit
section
variable {B : Nat} {Z : List Nat} {w w' : World} {p q m x : Nat} {L : List Su.Thing} {c p' : Nat} {lv sv : Value} {ls ss : List (List Nat)}
theorem su_off (h : SuIs w p q m x L) (hc : ChIs B Z w c p' lv sv ls ss) : p ∉ fp c lv sv ∧ q ∉ fp c lv sv ∧ m ∉ fp c lv sv ∧ x ∉ fp c lv sv := by
  obtain ⟨xs, hx⟩ := hc.links
  obtain ⟨ys, hy⟩ := hc.sums
  obtain ⟨es, k, hm, _⟩ := h.nums
  obtain ⟨es', k', hm', _⟩ := h.boxes
  have key : ∀ (y : Nat) (o : Obj), w.heap[y]? = some o → (∀ cs fr, o ≠ .cells cs 73 fr) → (∀ cs fr, o ≠ .cells cs 23 fr) → y ∉ fp c lv sv := by
    intro y o ho h1 h2 e
    rcases mem_fp.1 e with rfl | e | e
    · rw [hc.box] at ho
      exact h1 _ _ (Option.some.inj ho).symm
    · obtain ⟨_, cs, h3⟩ := hx.ty y e
      rw [h3] at ho
      exact h2 _ _ (Option.some.inj ho).symm
    · obtain ⟨_, cs, h3⟩ := hy.ty y e
      rw [h3] at ho
      exact h2 _ _ (Option.some.inj ho).symm
  exact ⟨key p _ h.box (fun cs fr e => by cases e) (fun cs fr e => by cases e), key q _ h.signs (fun cs fr e => by cases e) (fun cs fr e => by cases e), key m _ hm (fun cs fr e => by cases e) (fun cs fr e => by cases e), key x _ hm' (fun cs fr e => by cases e) (fun cs fr e => by cases e)⟩
theorem su_ch (h : SuIs w p q m x L) (hc : ChIs B Z w c p' lv sv ls ss) (ho : Only (fp c lv sv) w w') : SuIs w' p q m x L := h.only ho (su_off h hc)
end
theorem New_s (B : Nat) (Z : List Nat) (p q m x : Nat) (L : List Su.Thing) (w : World) (n : Nat) (h : Sw B w p q m x L) (hL : L.length < 1000000) (hZ : ∀ z ∈ Z, z < w.heap.size) (hB : B ≤ w.heap.size) (hn : 1 ≤ n ∧ n ≤ 1099511627776) :
    Calls Tryd.prog 12 #[.pointer (some ⟨p, 0, none⟩), .int .i64 (n : Int)] w fun e w' => ∃ c sv, e = .returned (.tuple #[.pointer (some ⟨c, 0, none⟩), .int .i64 0]) ∧ ChIs B Z w' c p (.slice none 0 0) sv [] [sg L (lock6 ++ first n)] ∧ Sw B w' p q m x (ad L (lock6 ++ first n)) ∧ Only [p, m] w w' ∧ w.heap.size ≤ c ∧ (∀ g, sv.ownBlock = some g → w.heap.size ≤ g) := by
  refine (New_any B Z p w n (sg L (lock6 ++ first n)) [p, m] (fun w' => SuIs w' p q m x (ad L (lock6 ++ first n))) hB hn (sg_small _ _) hZ (fun w1 g a1 a2 h1 h2 h3 h4 h5 => ?_) (fun y hy => ⟨?_, h.su.ty y hy⟩) (fun w1 w2 c lv' sv' ls' ss' h1 h2 h3 => su_ch h1 h2 h3)).mono ?_
  · rw [sg_length]
    refine Sum_two lock6 (first n) g 0 2 a1 a2 p q m x L w1 (h.su.below h5) h3 h4 h1 h2 (by omega) (by decide) (by rw [first_length]; omega) hL
  · rcases List.mem_cons.1 hy with rfl | hy
    · exact h.lo.1
    · rw [List.mem_singleton.1 hy]; exact h.lo.2.2.1
  · rintro e w' ⟨c, sv, rfl, h1, h2, h3⟩
    exact ⟨c, sv, rfl, h1, ⟨h2, h.lo⟩, h3⟩
theorem Append_s (B : Nat) (Z : List Nat) (c p q m x : Nat) (L : List Su.Thing) (lv sv : Value) (ls ss : List (List Nat)) (w : World) (bp : Option Addr) (bn bc : Nat) (b l : List Nat) (hs : Sw B w p q m x L) (hL : L.length < 1000000) (h : ChIs B Z w c p lv sv ls ss) (hB : B ≤ w.heap.size) (hb : By B w (.slice bp bn bc) b) (hbn : 1 ≤ bn ∧ bn ≤ 4096) (hls : ls.length < 64) (hl : ss[ls.length]? = some l) (hll : l.length ≤ 50000) (hm : ss.length ≤ 1000) (hZ : ∀ z ∈ Z, z < w.heap.size) :
    Calls Tryd.prog 14 #[.pointer (some ⟨c, 0, none⟩), .slice bp bn bc] w fun e w' => e = .returned (.int .i64 0) ∧ ∃ lv' sv', ChIs B Z w' c p lv' sv' (ls ++ [b]) (ss ++ [sg L (l ++ b)]) ∧ Sw B w' p q m x (ad L (l ++ b)) ∧ Only ([p, m] ++ fp c lv sv) w w' ∧ Mv w.heap.size sv sv' ∧ Mv w.heap.size lv lv' := by
  have hbl : b.length ≤ 4096 := by
    obtain ⟨p', c', e, _⟩ := hb.src.slice
    simp only [Value.slice.injEq] at e
    have := e.2.1
    omega
  refine (Append_any B Z c p lv sv ls ss w bp bn bc b l (sg L (l ++ b)) [p, m] (fun w' => SuIs w' p q m x (ad L (l ++ b))) h hB hb hbn hls hl hm hZ (sg_small _ _) (fun w1 g a1 a2 h1 h2 h3 h4 h5 => ?_) (fun y hy => ⟨?_, ?_, hs.su.ty y hy⟩) (fun w1 w2 lv' sv' ls' ss' h1 h2 h3 => su_ch h1 h2 h3)).mono ?_
  · rw [sg_length]
    exact Sum_two l b g 0 2 a1 a2 p q m x L w1 (hs.su.below h5) h3 h4 h1 h2 (by omega) hll (by omega) hL
  · rcases List.mem_cons.1 hy with rfl | hy
    · exact hs.lo.1
    · rw [List.mem_singleton.1 hy]; exact hs.lo.2.2.1
  · have := su_off hs.su h
    rcases List.mem_cons.1 hy with rfl | hy
    · exact this.1
    · rw [List.mem_singleton.1 hy]; exact this.2.2.1
  · rintro e w' ⟨rfl, lv', sv', h1, h2, h3⟩
    exact ⟨rfl, lv', sv', h1, ⟨h2, hs.lo⟩, h3⟩
end Go.Proofs.YtkiohhkmlpgdoaaDoor.S7.Zz
