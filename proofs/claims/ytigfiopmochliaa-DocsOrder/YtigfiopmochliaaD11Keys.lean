/- The contracts of Clone, and of the sorted names that All asks for; bytes that were just made. -/
import Derived.Test.YtigfiopmochliaaD11Lay
import Derived.Test.YtigfiopmochliaaD11Apply
import Derived.Shelf.SlIter.Nil
namespace Go.Proofs.Ytigfiopmochliaa.D11
open Go.RowKit C8 E9 Go.Shelf Go.Maps Go.Sort
set_option maxHeartbeats 1000000 in
theorem Clone_any (w : World) (p b : Nat) (L : Col) (h : DcIs w p b L) : Calls Try.prog 23 #[.pointer (some ⟨p, 0, none⟩)] w fun e w' => ∃ p' b', e = .returned (.pointer (some ⟨p', 0, none⟩)) ∧ DcIs w' p' b' L ∧ w.heap.size ≤ p' ∧ w.heap.size ≤ b' ∧ Below w.heap.size w w' := by
  have hc := h.cell
  have HC : Calls Try.prog 30 #[.map (some b)] w fun e w' => e = .returned (.map (some w.heap.size)) ∧ w'.ownsMap Try.prog 9 elV w.heap.size L.length (dat L) ∧ w'.ownsMap Try.prog 9 elV b L.length (dat L) ∧ Below w.heap.size w w' := AnyW.maps_Clone_owns Try.cloneA 9 elV b L.length (dat L) w h.own
  have HL : Hid (Ok L ∧ L.length ≤ 1000000) := ⟨h.ok, h.few⟩
  clear h
  go_enter Try.func23, Try.ntmps23
  go_wp2_with (first | (go_at_call 30; refine HC.mono ?_; rintro e w1 ⟨rfl, h1, h2, h3⟩))
  go_ret
  refine ⟨_, _, rfl, ⟨heap_alloc_new w1 _, h1.alloc _, HL.out.1, HL.out.2⟩, h3.size, Nat.le_refl _, h3.trans (bel_alloc h3.size _)⟩
theorem encStr_u (k : List Nat) : encStr (u k) = .string (strB k) := by
  have : encStr (u k) = .string ⟨(u k).toArray⟩ := rfl
  rw [this]
  congr 1
  exact bytes_eq rfl
/-- slices.Sort's two contracts. -/
theorem sortsA (m : Nat) : AnyZ.SortsIn Try.prog Try.sortedA_ren Fence.wide m :=
  ⟨fun blk off cap ss W hH hblk hsz => callsIn_wide.2 (AnyM.slices_Sort_string Try.sortA blk off cap ss W hH hblk hsz),
   fun p cap W => callsIn_wide.2 (AnyM.slices_Sort_string_none Try.sortA p cap W)⟩
theorem Keys_any (w : World) (b : Nat) : Calls Try.prog 29 #[.map (some b)] w fun e w' => e = .returned (.func (.func 38) #[] #[.pointer (some ⟨w.heap.size, 0, none⟩)]) ∧ w' = w.alloc (.cells #[.map (some b)] 62) :=
  (callsIn_wide (n := 5)).1 (AnyZ.keys_in Try.keysA Fence.wide 5 trivial rfl (some b) w)
theorem Sorted_any (w : World) (b : Nat) (L : Col) (hown : w.ownsMap Try.prog 9 elV b L.length (dat L)) (hok : Ok L) (hf : L.length ≤ 1000000) :
    Calls Try.prog 28 #[.func (.func 38) #[] #[.pointer (some ⟨w.heap.size, 0, none⟩)]] (w.alloc (.cells #[.map (some b)] 62)) fun e w' => ∃ v, e = .returned v ∧ w'.ownsRow w.heap.size 9 1 v L.length (L.map fun p => .string (strB p.1)) ∧ Below w.heap.size w w' := by
  have hbl := hown.lt
  have hmax : Maps.size (dat L) ≤ maxLen := by rw [dat_size]; unfold maxLen; omega
  have hbytes : Maps.size (dat L) * 16 ≤ 140737488355328 := by rw [dat_size]; omega
  have hseq : SeqGives Fence.wide 2 Try.prog 38 #[.pointer (some ⟨w.heap.size, 0, none⟩)] encStr (fun ss => ss.Perm (strKeys (dat L))) (Maps.size (dat L)) (w.alloc (.cells #[.map (some b)] 62)) :=
    AnyZ.keys_gives (ρ := Try.keysA_ren) { Try.keysA with } Fence.wide _ trivial rfl (by omega) w.heap.size b L.length (dat L) _ (by simp) (by simp) (hown.alloc _)
  have cS := AnyZ.sorted_in Try.sortedA Fence.wide 5 trivial trivial trivial trivial rfl (by omega) (sortsA _) (enters_of Try.func37 (by kernel_rfl) rfl) 38 #[.pointer (some ⟨w.heap.size, 0, none⟩)] trivial (enters_of Try.func38 (by kernel_rfl) rfl) _ _ hmax hbytes _ hseq
  change CallsIn _ _ Try.prog 28 _ _ _ at cS
  refine ((callsIn_wide (n := 5)).1 cS).mono ?_
  rintro e w' ⟨v, ss, rfl, hS, hrow, hnil, hb⟩
  refine ⟨v, rfl, ?_, (bel_alloc (Nat.le_refl _) _).trans (bel_le hb (by simp))⟩
  have hlen : ss.length = L.length := by
    have := hS.length_eq
    rw [dat_keys, List.length_map] at this
    exact this
  have e1 := sorted_keys hok hS
  rw [e1, hlen, List.map_map] at hrow
  have e2 : (encStr ∘ fun p : List Nat × List Nat => u p.1) = fun p => .string (strB p.1) := funext fun p => encStr_u p.1
  rw [e2] at hrow
  obtain ⟨h1, h2⟩ := hrow
  refine ⟨h1, h2.imp id ?_⟩
  rintro ⟨g, cap, cur, a1, a2, a3⟩
  exact ⟨g, cap, cur, a1, by simp at a2; omega, a3⟩
/-- Bytes in a block of their own, from a place on. -/
def Byt (A : Nat) (w : World) (v : Value) (l : List Nat) : Prop := Src w v l ∧ ∃ g c cs fr, v = .slice (some ⟨g, 0, none⟩) l.length c ∧ A ≤ g ∧ w.heap[g]? = some (.cells cs 5 fr) ∧ l.length ≤ cs.size ∧ fr.1 = cs.size
theorem Byt.only {A : Nat} {w w' : World} {v : Value} {l : List Nat} {bs : List Nat} (h : Byt A w v l) (ho : Only bs w w') (hn : ∀ g ∈ bs, ∀ cs fr, w.heap[g]? ≠ some (.cells cs 5 fr)) : Byt A w' v l := by
  obtain ⟨hs, g, c, cs, fr, rfl, hA, hg, h1, h2⟩ := h
  have hgb : g ∉ bs := fun e => hn g e cs fr hg
  exact ⟨hs.only ho (Off.at (ad := ⟨g, 0, none⟩) hgb), g, c, cs, fr, rfl, hA, (ho.block g (Array.getElem?_eq_some_iff.1 hg).1 hgb).trans hg, h1, h2⟩
theorem Byt.below {A : Nat} {w w' : World} {v : Value} {l : List Nat} (h : Byt A w v l) (hb : Below w.heap.size w w') : Byt A w' v l := h.only (Only.of_below hb []) (fun g hg => by cases hg)
theorem Byt.low {A B : Nat} {w : World} {v : Value} {l : List Nat} (h : Byt A w v l) (hb : B ≤ A) : Byt B w v l := by
  obtain ⟨hs, g, c, cs, fr, e, hA, hr⟩ := h
  exact ⟨hs, g, c, cs, fr, e, Nat.le_trans hb hA, hr⟩
theorem str_byt (w : World) (l : List Nat) (hl : ∀ x ∈ l, x < 256) : ∃ c w1, (convert 9 23 (.string (strB l))).run Try.prog w = .ok (.slice (some ⟨w.heap.size, 0, none⟩) l.length c) w1 ∧ Byt w.heap.size w1 (.slice (some ⟨w.heap.size, 0, none⟩) l.length c) l ∧ Below w.heap.size w w1 := by
  obtain ⟨c, w1, h1, h2, h3⟩ := str_src w l hl
  have hr := Lib.run_convert_string_bytes (P := Try.prog) w 9 23 5 (strB l) Try.underlying9 Try.underlying23 Try.underlying5
  rw [h1] at hr
  injection hr with e1 e2
  refine ⟨c, w1, h1, ⟨h2, w.heap.size, c, _, _, rfl, Nat.le_refl _, by rw [e2]; exact Lib.bytesWorld_at_new w 5 (strB l), ?_, rfl⟩, h3⟩
  have hle : (strB l).size ≤ (Lib.bytesCells w 5 (strB l)).size := by
    by_cases h0 : (strB l).size = 0
    · omega
    · have := Lib.bytesWorld_cell w 5 (strB l) ((strB l).size - 1) (by omega)
      rw [cell_of_row _ _ _ _ _ _ (Lib.bytesWorld_at_new w 5 (strB l))] at this
      have := (Array.getElem?_eq_some_iff.1 this).1
      omega
  rw [strB_size] at hle
  exact hle
end Go.Proofs.Ytigfiopmochliaa.D11
