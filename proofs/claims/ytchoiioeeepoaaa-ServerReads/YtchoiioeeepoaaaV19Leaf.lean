/- The contracts of New, has and what it calls. -/
import Derived.Test.YtchoiioeeepoaaaV19Sv
import Derived.Test.YtchoiioeeepoaaaE9Leaf
namespace Go.Proofs.Ytchoiioeeepoaaa.V19
open Go.RowKit C8 E9 F17
set_option maxHeartbeats 1000000 in
theorem New_any (w : World) : Calls Try.prog 11 #[] w fun e w' => ∃ p b, e = .returned (.pointer (some ⟨p, 0, none⟩)) ∧ SvAt w' p b 0 none0 ∧ w.heap.size ≤ p ∧ w.heap.size ≤ b ∧ Below w.heap.size w w' := by
  go_enter Try.func11, Try.ntmps11
  have hmk := run_makeMap (P := Try.prog) 58 w
  go_wp2_with fail
  go_ret
  have h0 := heap_alloc_new (w.alloc (.map #[] 0)) (.cells #[.map (some w.heap.size)] 60)
  rw [show (w.alloc (.map #[] 0)).heap.size = w.heap.size + 1 from by simp] at h0
  have ho : ((w.alloc (.map #[] 0)).alloc (.cells #[.map (some w.heap.size)] 60)).ownsMap Try.prog 64 eR w.heap.size 0 (.map []) := (World.ownsMap_made w Try.prog 64 eR).alloc _
  have hl : ∀ x c, In64 x → In64 c → ∃ q cp, (DataW.map [] : DataW Value).atKey (kl x c) (.held (.slice none 0 0)) = .held (.slice q (none0 x c).length cp) ∧ LkRow ((w.alloc (.map #[] 0)).alloc (.cells #[.map (some w.heap.size)] 60)) q (none0 x c) ∧ (none0 x c).length ≤ cp := fun x c _ _ => ⟨none, 0, rfl, LkRow.nil _ _, Nat.le_refl _⟩
  have hh : ∀ x c, In64 x → In64 c → Maps.has (DataW.map [] : DataW Value) (kl x c) = true → x = 0 ∨ x = 1 := by
    intro x c _ _ h
    cases h
  exact ⟨_, _, rfl, ⟨h0, _, ho, hh, hl⟩, by simp, Nat.le_refl _, ((Below.refl _ w).alloc (Nat.le_refl _) _).alloc (by simp) _⟩
set_option maxHeartbeats 1000000 in
theorem has1_any (p q : Option Addr) (n m c d g : Nat) (l k : List Nat) (w : World) (h1 : Src w (.slice p n c) l) (h2 : Src w (.slice q m d) k) (hg : w.cell? ⟨g, 0, none⟩ = some (.slice q m d)) :
    Calls Try.prog 54 #[.slice p n c, .pointer (some ⟨g, 0, none⟩)] w fun e w' => e = .returned (.bool (decide (l = k))) ∧ w' = w := by
  have HE := equal_any p q n m c d l k w h1 h2
  clear h1 h2
  go_enter Try.func54, Try.ntmps54
  go_wp2_with (first | (go_at_call 55; refine HE.mono ?_; rintro e w1 ⟨rfl, rfl⟩))
  go_ret
  exact ⟨rfl, rfl⟩
set_option maxHeartbeats 4000000 in
theorem index_any (q : Option Addr) (cp g : Nat) (ls : Ls) (kq : Option Addr) (km kc : Nat) (k : List Nat) (w : World) (h : LkRow w q ls) (hl : ls.length ≤ 9223372036854775807) (hk : Src w (.slice kq km kc) k) (hg : w.cell? ⟨g, 0, none⟩ = some (.slice kq km kc)) :
    Calls Try.prog 58 #[.slice q ls.length cp, .func (.func 54) #[] #[.pointer (some ⟨g, 0, none⟩)]] w fun e w' => ∃ i : Int, e = .returned (.int .i64 i) ∧ (0 ≤ i ↔ k ∈ ls) ∧ w' = w := by
  obtain ⟨n, HN⟩ : ∃ n, Hid (ls.length = n) := ⟨_, rfl⟩
  have HA : Hid (LkRow w q ls) := h
  have HK : Hid (Src w (.slice kq km kc) k) := hk
  have HG : Hid (w.cell? ⟨g, 0, none⟩ = some (.slice kq km kc)) := hg
  rw [HN.out] at hl
  rw [HN.out]
  have HMEM : Hid (∀ x, (k ∈ ls ↔ x = true) → (x = true ↔ k ∈ ls)) := fun x h => h.symm
  clear h hk hg
  have l1 : (n : Int) ≤ 9223372036854775807 := by omega
  go_enter Try.func58, Try.ntmps58
  go_wp2_with fail
  go_loopw [8] (fun i wr => ∃ j : Nat, j ≤ n ∧ i = .int .i64 j ∧ w = wr ∧ Hid (k ∉ ls.take j)) (fun i _ => n - (intOf i).toNat)
  case atStart => exact ⟨0, by omega, rfl, rfl, by show k ∉ _; simp⟩
  case round =>
    obtain ⟨j, hj, rfl, rfl, HE⟩ := hrel
    by_cases hlt : j < n
    · have ja : j < ls.length := by rw [HN.out]; exact hlt
      obtain ⟨b, o, bp, bc, rfl, k2, k3, k4, k5⟩ := HA.out j ja
      have j1 : (j : Int) < (n : Int) := by omega
      have j0 : (0 : Int) ≤ (j : Int) := by omega
      obtain ⟨x, HX⟩ : ∃ x : List Nat, Hid (ls[j] = x) := ⟨ls[j], rfl⟩
      rw [HX.out] at k3 k4 k5
      have HC : ∀ W, W = w → Calls Try.prog 54 #[.slice bp x.length bc, .pointer (some ⟨g, 0, none⟩)] W fun e w' => e = .returned (.bool (decide (x = k))) ∧ w' = W := by
        rintro W rfl
        exact has1_any _ _ _ _ _ _ _ _ _ _ k4 HK.out HG.out
      clear k4
      by_cases hx : x = k
      · have HD : decide (x = k) = true := decide_eq_true hx
        rw [HD] at HC
        have HI : Hid (k ∈ ls) := by
          show k ∈ ls
          rw [← hx, ← HX.out]
          exact List.getElem_mem _
        clear hx HD
        go_wp2_with (first | (go_at_call 54; refine (HC _ rfl).mono ?_; rintro e w1 ⟨rfl, rfl⟩))
        go_ret
        exact ⟨_, rfl, ⟨fun _ => HI.out, fun _ => by omega⟩, rfl⟩
      · have HD : decide (x = k) = false := decide_eq_false hx
        rw [HD] at HC
        have HI : Hid (k ∉ ls.take (j + 1)) := by
          show k ∉ _
          rw [List.take_succ_eq_append_getElem ja]
          intro h
          rcases List.mem_append.1 h with h | h
          · exact HE.out h
          · rw [HX.out] at h
            exact hx (List.mem_singleton.1 h).symm
        clear hx HD
        go_wp2_with (first | (go_at_call 54; refine (HC _ rfl).mono ?_; rintro e w1 ⟨rfl, rfl⟩))
        refine ⟨⟨j + 1, by omega, by simp, trivial, HI⟩, ?_⟩
        simp only [intOf]
        omega
    · obtain rfl : j = n := by omega
      have j1 : ¬ (j : Int) < (j : Int) := by omega
      have HI : Hid (k ∉ ls) := by
        show k ∉ ls
        have := HE.out
        rw [List.take_of_length_le (by rw [HN.out]; omega)] at this
        exact this
      go_wp2_with fail
      go_ret
      exact ⟨_, rfl, ⟨fun h => by omega, fun h => absurd h HI.out⟩, rfl⟩
set_option maxHeartbeats 1000000 in
theorem contains_any (q : Option Addr) (cp g : Nat) (ls : Ls) (kq : Option Addr) (km kc : Nat) (k : List Nat) (w : World) (h : LkRow w q ls) (hl : ls.length ≤ 9223372036854775807) (hk : Src w (.slice kq km kc) k) (hg : w.cell? ⟨g, 0, none⟩ = some (.slice kq km kc)) :
    Calls Try.prog 53 #[.slice q ls.length cp, .func (.func 54) #[] #[.pointer (some ⟨g, 0, none⟩)]] w fun e w' => e = .returned (.bool (decide (k ∈ ls))) ∧ w' = w := by
  have HC : ∀ W, W = w → Calls Try.prog 58 #[.slice q ls.length cp, .func (.func 54) #[] #[.pointer (some ⟨g, 0, none⟩)]] W fun e w' => ∃ i : Int, e = .returned (.int .i64 i) ∧ Hid (0 ≤ i ↔ k ∈ ls) ∧ w' = W := by
    rintro W rfl
    exact index_any _ _ _ _ _ _ _ _ _ h hl hk hg
  clear h hk hg
  generalize ls.length = n at *
  go_enter Try.func53, Try.ntmps53
  go_wp2_with (first | (go_at_call 58; refine (HC _ rfl).mono ?_; rintro e w1 ⟨i, rfl, HI, rfl⟩))
  go_ret
  refine ⟨?_, rfl⟩
  have := HI.out
  by_cases hm : k ∈ ls
  · simp [hm, this.2 hm]
  · have h1 : ¬ 0 ≤ i := fun h => hm (this.1 h)
    simp [hm]
    omega
set_option maxHeartbeats 1000000 in
theorem has_any (q : Option Addr) (cp : Nat) (ls : Ls) (kq : Option Addr) (km kc : Nat) (k : List Nat) (w : World) (h : LkRow w q ls) (hl : ls.length ≤ 9223372036854775807) (hk : Src w (.slice kq km kc) k) :
    Calls Try.prog 41 #[.slice q ls.length cp, .slice kq km kc] w fun e w' => e = .returned (.bool (decide (k ∈ ls))) ∧ Below w.heap.size w w' := by
  have HC : ∀ W, W = w.alloc (.cells #[.slice kq km kc] 32) → Calls Try.prog 53 #[.slice q ls.length cp, .func (.func 54) #[] #[.pointer (some ⟨w.heap.size, 0, none⟩)]] W fun e w' => e = .returned (.bool (decide (k ∈ ls))) ∧ w' = W := by
    rintro W rfl
    have hb : Below w.heap.size w (w.alloc (.cells #[.slice kq km kc] 32)) := (Below.refl _ w).alloc (Nat.le_refl _) _
    exact contains_any _ _ _ _ _ _ _ _ _ (h.below hb) hl (hk.below hb) (cell_of_row _ _ _ _ _ _ (heap_alloc_new w _))
  clear h hk
  generalize ls.length = n at *
  have hmf : ∀ (fn : Fn) (first cap : Array Value) (w : World), (Instr.makeFunc fn first cap).run Try.prog w = .ok (.func fn first cap) w := fun _ _ _ _ => rfl
  go_enter Try.func41, Try.ntmps41
  go_wp2_with (first | (go_at_call 53; refine (HC _ rfl).mono ?_; rintro e w1 ⟨rfl, rfl⟩))
  go_ret
  exact ⟨rfl, (Below.refl _ w).alloc (Nat.le_refl _) _⟩
end Go.Proofs.Ytchoiioeeepoaaa.V19
