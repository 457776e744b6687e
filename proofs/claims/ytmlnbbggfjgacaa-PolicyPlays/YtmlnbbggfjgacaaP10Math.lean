/- What an entry makes of a right policy: it is right, and who may do what. -/
import Derived.Test.YtmlnbbggfjgacaaP10Apply
namespace Go.Proofs.Ytmlnbbggfjgacaa.P10
open Go.RowKit C8 E9
theorem mok_of : ∀ {ms : List (Int × Int)} {last : Int}, Rise ms → (∀ m ∈ ms, last < m.1 ∧ m.1 ≤ 16 ∧ 1 ≤ m.2 ∧ m.2 ≤ 7) → mok last ms = true
  | [], _, _, _ => rfl
  | x :: r, last, hr, hb => by
    obtain ⟨h1, h2⟩ := rise_cons hr
    have hx := hb x List.mem_cons_self
    unfold mok
    simp only [Bool.and_eq_true, decide_eq_true_eq]
    exact ⟨⟨⟨by omega, hx.2.1⟩, hx.2.2⟩, mok_of h1 (fun m hm => ⟨h2 m hm, (hb m (List.mem_cons_of_mem _ hm)).2⟩)⟩
theorem rise_wout {who : Int} : ∀ {ms : List (Int × Int)}, Rise ms → Rise (wout ms who) ∧ ∀ x ∈ wout ms who, x ∈ ms ∧ x.1 ≠ who
  | [], _ => ⟨fun i j _ hj _ => absurd hj (by simp [wout]), fun x hx => by simp [wout] at hx⟩
  | x :: r, h => by
    obtain ⟨h1, h2⟩ := rise_cons h
    obtain ⟨h3, h4⟩ := rise_wout (who := who) h1
    by_cases hx : x.1 = who
    · have e : wout (x :: r) who = wout r who := by unfold wout; rw [List.filter_cons_of_neg (by simp [hx])]
      rw [e]
      exact ⟨h3, fun y hy => ⟨List.mem_cons_of_mem _ (h4 y hy).1, (h4 y hy).2⟩⟩
    · have e : wout (x :: r) who = x :: wout r who := by unfold wout; rw [List.filter_cons_of_pos (by simp [hx])]
      rw [e]
      refine ⟨fun i j hij hj hi => ?_, fun y hy => ?_⟩
      · cases j with
        | zero => omega
        | succ j =>
          cases i with
          | zero => exact h2 _ (h4 _ (List.getElem_mem (by simpa using hj))).1
          | succ i => exact h3 i j (by omega) (by simpa using hj) (by simpa using hi)
      · rcases List.mem_cons.1 hy with rfl | hy
        · exact ⟨List.mem_cons_self, hx⟩
        · exact ⟨List.mem_cons_of_mem _ (h4 y hy).1, (h4 y hy).2⟩
theorem rts_none {w : Int} : ∀ {ms : List (Int × Int)}, (∀ x ∈ ms, x.1 ≠ w) → rts ms w = 0
  | [], _ => rfl
  | x :: r, h => by rw [rts, if_neg (h x List.mem_cons_self)]; exact rts_none (fun y hy => h y (List.mem_cons_of_mem _ hy))
theorem rts_wout {who w : Int} : ∀ (ms : List (Int × Int)), rts (wout ms who) w = if w = who then 0 else rts ms w
  | [] => by simp [wout, rts]
  | x :: r => by
    have ih := rts_wout (who := who) (w := w) r
    by_cases hx : x.1 = who
    · have e : wout (x :: r) who = wout r who := by unfold wout; rw [List.filter_cons_of_neg (by simp [hx])]
      rw [e, ih, rts]
      by_cases hw : w = who
      · rw [if_pos hw, if_pos hw]
      · rw [if_neg hw, if_neg hw, if_neg (by omega)]
    · have e : wout (x :: r) who = x :: wout r who := by unfold wout; rw [List.filter_cons_of_pos (by simp [hx])]
      rw [e, rts, rts, ih]
      by_cases hw : w = who
      · rw [if_pos hw, if_pos hw, if_neg (by omega)]
      · rw [if_neg hw, if_neg hw]
/-- Who a number belongs to is found wherever it stands, if no number is there twice. -/
theorem rts_mem : ∀ {ms : List (Int × Int)}, (ms.map (·.1)).Nodup → ∀ x ∈ ms, rts ms x.1 = x.2
  | [], _, x, hx => by cases hx
  | y :: r, h, x, hx => by
    rw [List.map_cons, List.nodup_cons] at h
    rw [rts]
    rcases List.mem_cons.1 hx with rfl | hx
    · rw [if_pos rfl]
    · rw [if_neg (fun e => h.1 (by rw [e]; exact List.mem_map_of_mem hx))]
      exact rts_mem h.2 x hx
theorem rts_perm {a b : List (Int × Int)} (hp : a.Perm b) (hb : (b.map (·.1)).Nodup) (w : Int) : rts a w = rts b w := by
  have ha : (a.map (·.1)).Nodup := (hp.map _).nodup_iff.2 hb
  by_cases h : ∃ x ∈ b, x.1 = w
  · obtain ⟨x, hx, rfl⟩ := h
    rw [rts_mem hb x hx, rts_mem ha x (hp.mem_iff.2 hx)]
  · rw [rts_none (fun x hx e => h ⟨x, hx, e⟩), rts_none (fun x hx e => h ⟨x, hp.mem_iff.1 hx, e⟩)]
theorem rise_nodup {ms : List (Int × Int)} (h : Rise ms) : (ms.map (·.1)).Nodup := by
  rw [List.nodup_iff_pairwise_ne, List.pairwise_map]
  rw [List.pairwise_iff_getElem]
  intro i j hi hj hij
  have := h i j hij hj hi
  omega
theorem nodup_rise {ms : List (Int × Int)} (h : (ms.map (·.1)).Nodup) (hs : ∀ i j, i < j → (hj : j < ms.length) → (hi : i < ms.length) → ms[i].1 ≤ ms[j].1) : Rise ms := by
  intro i j hij hj hi
  have h1 := hs i j hij hj hi
  rw [List.nodup_iff_pairwise_ne, List.pairwise_map, List.pairwise_iff_getElem] at h
  have h2 := h i j hi hj hij
  omega
/-- What an entry that may be makes of a policy: its rights. -/
def rafter (p : Pol) (e : En) (w : Int) : Int := if e.kind = 3 ∧ w = e.who then e.rights else if e.kind = 4 ∧ w = e.who then 0 else rts p.ms w
theorem may_of {p : Pol} {e : En} (h : may p e = 0) : pright p = true ∧ right e = true ∧ allows p e = true ∧ (e.kind = 5 → fits p e = true) := by
  unfold may at h
  by_cases h1 : pright p = true ∧ right e = true
  · rw [if_pos h1] at h
    by_cases h2 : allows p e = true
    · rw [if_pos h2] at h
      refine ⟨h1.1, h1.2, h2, fun h5 => ?_⟩
      cases hf : fits p e with
      | true => rfl
      | false => rw [if_pos ⟨h5, hf⟩] at h; cases h
    · rw [if_neg h2] at h; cases h
  · rw [if_neg h1] at h; cases h
theorem ap_after {p p' : Pol} {e : En} (h0 : may p e = 0) (h : ApOk p e p') : pright p' = true ∧ p'.f = p.f ∧ p'.e = (if e.kind = 5 then e.epoch else p.e) ∧ (∀ w, rts p'.ms w = rafter p e w) := by
  obtain ⟨hp, hr, ha, hf⟩ := may_of h0
  obtain ⟨hp1, hp2, hm, hf7, hne⟩ := pright_of hp
  obtain ⟨hfe, h⟩ := h
  have hri := mok_rise hm
  have hat := mok_at hm
  obtain ⟨hw1, hw2, hk⟩ := (right_iff e).1 hr
  have key : mok 0 p'.ms = true ∧ p'.e = (if e.kind = 5 then e.epoch else p.e) ∧ (∀ w, rts p'.ms w = rafter p e w) := by
    by_cases h3 : e.kind = 3
    · rw [if_pos h3] at h
      obtain ⟨he, hperm, hs⟩ := h
      obtain ⟨hr1, hr2⟩ := rise_wout (who := e.who) hri
      have hnd : ((wout p.ms e.who ++ [(e.who, e.rights)]).map (·.1)).Nodup := by
        rw [List.map_append, List.nodup_append]
        refine ⟨rise_nodup hr1, by simp, ?_⟩
        intro a ha b hb
        obtain ⟨x, hx, rfl⟩ := List.mem_map.1 ha
        simp at hb
        subst hb
        exact (hr2 x hx).2
      have hb : ∀ m ∈ p'.ms, (0 : Int) < m.1 ∧ m.1 ≤ 16 ∧ 1 ≤ m.2 ∧ m.2 ≤ 7 := fun m hm' => by
        rcases List.mem_append.1 (hperm.mem_iff.1 hm') with h | h
        · exact hat m (hr2 m h).1
        · simp at h
          subst h
          rcases hk with ⟨k, _⟩ | ⟨k, _⟩ | ⟨k, _, _, h1, h2, _⟩ | ⟨k, _⟩ | ⟨k, _⟩
          · omega
          · omega
          · simp only; omega
          · omega
          · omega
      refine ⟨mok_of (nodup_rise ((hperm.map _).nodup_iff.2 hnd) hs) hb, by rw [he, if_neg (by omega)], fun w => ?_⟩
      rw [rts_perm hperm hnd]
      unfold rafter
      by_cases hw : w = e.who
      · subst hw
        rw [if_pos ⟨h3, rfl⟩]
        exact rts_mem hnd (e.who, e.rights) (by simp)
      · rw [if_neg (fun x => hw x.2), if_neg (fun x => hw x.2)]
        have : ∀ l : List (Int × Int), rts (l ++ [(e.who, e.rights)]) w = rts l w := by
          intro l
          induction l with
          | nil => simp [rts]; intro x; exact absurd x.symm hw
          | cons a l ih => rw [List.cons_append, rts, rts, ih]
        rw [this, rts_wout, if_neg hw]
    · rw [if_neg h3] at h
      by_cases h4 : e.kind = 4
      · rw [if_pos h4] at h
        obtain ⟨hr1, hr2⟩ := rise_wout (who := e.who) hri
        refine ⟨?_, by rw [h.1, if_neg (by omega)], fun w => ?_⟩
        · rw [h.2]
          exact mok_of hr1 (fun m hm' => hat m (hr2 m hm').1)
        · rw [h.2, rts_wout]
          unfold rafter
          by_cases hw : w = e.who
          · rw [if_pos hw, if_neg (fun x => h3 x.1), if_pos ⟨h4, hw⟩]
          · rw [if_neg hw, if_neg (fun x => hw x.2), if_neg (fun x => hw x.2)]
      · rw [if_neg h4] at h
        have hra : ∀ w, rts p.ms w = rafter p e w := fun w => by
          unfold rafter
          rw [if_neg (fun x => h3 x.1), if_neg (fun x => h4 x.1)]
        by_cases h5 : e.kind = 5
        · rw [if_pos h5] at h
          exact ⟨by rw [h.2]; exact hm, by rw [h.1, if_pos h5], fun w => by rw [h.2]; exact hra w⟩
        · rw [if_neg h5] at h
          exact ⟨by rw [h.2]; exact hm, by rw [h.1, if_neg h5], fun w => by rw [h.2]; exact hra w⟩
  refine ⟨?_, hfe, key.2.1, key.2.2⟩
  unfold pright
  simp only [Bool.and_eq_true, decide_eq_true_eq]
  refine ⟨⟨⟨by rw [hfe]; exact hp1, ?_⟩, key.1⟩, ?_⟩
  · rw [key.2.1]
    by_cases h5 : e.kind = 5
    · rw [if_pos h5]
      rcases hk with ⟨k, _⟩ | ⟨k, _⟩ | ⟨k, _⟩ | ⟨k, _⟩ | ⟨k, _, _, _, _, h1, _⟩
      · omega
      · omega
      · omega
      · omega
      · omega
    · rw [if_neg h5]; exact hp2
  · rw [key.2.2, hfe]
    unfold rafter
    have hne' : e.kind = 3 ∨ e.kind = 4 → p.f ≠ e.who := fun hk34 => by
      unfold allows at ha
      rw [if_neg (by omega), if_pos hk34] at ha
      simp only [decide_eq_true_eq] at ha
      omega
    rw [if_neg (fun x => hne' (.inl x.1) x.2), if_neg (fun x => hne' (.inr x.1) x.2)]
    exact hf7
end Go.Proofs.Ytmlnbbggfjgacaa.P10
