/- Chains of a suite of signs: New, Append; several chains side by side; what the sums tell. -/
import Derived.Test.YtkiohhkmlpgdoaaDoorC12New
import Derived.Test.YtkiohhkmlpgdoaaDoorS7Facts
namespace Go.Proofs.YtkiohhkmlpgdoaaDoor.S7
open Go.RowKit
def sg (L : List Su.Thing) (t : List Nat) : List Nat := Su.sign 72 (Su.num L 72 [] t)
def ad (L : List Su.Thing) (t : List Nat) : List Su.Thing := Su.add L 72 [] t
theorem sg_length (L : List Su.Thing) (t : List Nat) : (sg L t).length = 32 := Su.sign_length _ _
theorem sg_small (L : List Su.Thing) (t : List Nat) : ∀ x ∈ sg L t, x < 256 := Su.sign_lt (by omega) _
theorem ad_length (L : List Su.Thing) (t : List Nat) : (ad L t).length ≤ L.length + 1 := (Su.add_length L 72 [] t).2
/-- A suite of signs above a bound. -/
structure Sw (B : Nat) (w : World) (p q m x : Nat) (L : List Su.Thing) : Prop where
  su : SuIs w p q m x L
  lo : B ≤ p ∧ B ≤ q ∧ B ≤ m ∧ B ≤ x
section
variable {B : Nat} {w w' : World} {p q m x : Nat} {L : List Su.Thing} {c p' : Nat} {lv sv : Value} {ls ss : List (List Nat)}
theorem Sw.below (h : Sw B w p q m x L) (hb : Below w.heap.size w w') : Sw B w' p q m x L := ⟨h.su.below hb, h.lo⟩
theorem SuIs.off (h : SuIs w p q m x L) (hc : ChIs B w c p' lv sv ls ss) : p ∉ fp c lv sv ∧ q ∉ fp c lv sv ∧ m ∉ fp c lv sv ∧ x ∉ fp c lv sv := by
  obtain ⟨xs, hx⟩ := hc.links
  obtain ⟨ys, hy⟩ := hc.sums
  obtain ⟨es, k, hm, _⟩ := h.nums
  obtain ⟨es', k', hm', _⟩ := h.boxes
  have key : ∀ (y : Nat) (o : Obj), w.heap[y]? = some o → (∀ cs fr, o ≠ .cells cs 73 fr) → (∀ cs fr, o ≠ .cells cs 23 fr) → y ∉ fp c lv sv := by
    intro y o ho h1 h2 e
    rcases mem_fp.1 e with rfl | e | e
    · rw [hc.box] at ho
      exact h1 _ _ (Option.some.inj ho).symm
    · obtain ⟨_, cs, h3⟩ := hx.ty y e
      rw [h3] at ho
      exact h2 _ _ (Option.some.inj ho).symm
    · obtain ⟨_, cs, h3⟩ := hy.ty y e
      rw [h3] at ho
      exact h2 _ _ (Option.some.inj ho).symm
  exact ⟨key p _ h.box (fun cs fr e => by cases e) (fun cs fr e => by cases e), key q _ h.signs (fun cs fr e => by cases e) (fun cs fr e => by cases e), key m _ hm (fun cs fr e => by cases e) (fun cs fr e => by cases e), key x _ hm' (fun cs fr e => by cases e) (fun cs fr e => by cases e)⟩
theorem SuIs.ch (h : SuIs w p q m x L) (hc : ChIs B w c p' lv sv ls ss) (ho : Only (fp c lv sv) w w') : SuIs w' p q m x L := h.only ho (h.off hc)
theorem SuIs.ty (h : SuIs w p q m x L) : ∀ y ∈ [p, m], y < w.heap.size ∧ ∀ o, w.heap[y]? = some o → tyOf o ∈ TS := fun y hy => by
  have hl := h.lt
  obtain ⟨es, k, hm, _⟩ := h.nums
  rcases List.mem_cons.1 hy with rfl | hy
  · exact ⟨hl.1, fun o ho => by rw [h.box] at ho; cases ho; simp [TS, tyOf]⟩
  · rw [List.mem_singleton.1 hy]
    exact ⟨hl.2.2.1, fun o ho => by rw [hm] at ho; cases ho; simp [TS, tyOf]⟩
end
theorem New_s (B p q m x : Nat) (L : List Su.Thing) (w : World) (n : Nat) (h : Sw B w p q m x L) (hL : L.length < 1000000) (hB : B ≤ w.heap.size) (hn : 1 ≤ n ∧ n ≤ 1099511627776) :
    Calls Tryd.prog 12 #[.pointer (some ⟨p, 0, none⟩), .int .i64 (n : Int)] w fun e w' => ∃ c sv, e = .returned (.tuple #[.pointer (some ⟨c, 0, none⟩), .int .i64 0]) ∧ ChIs B w' c p (.slice none 0 0) sv [] [sg L (lock6 ++ first n)] ∧ Sw B w' p q m x (ad L (lock6 ++ first n)) ∧ Only [p, m] w w' ∧ w.heap.size ≤ c ∧ (∀ g, sv.ownBlock = some g → w.heap.size ≤ g) := by
  refine (New_any B p w n (sg L (lock6 ++ first n)) [p, m] (fun w' => SuIs w' p q m x (ad L (lock6 ++ first n))) hB hn (sg_small _ _) (fun w1 g a1 a2 h1 h2 h3 h4 h5 => ?_) (fun y hy => ⟨?_, h.su.ty y hy⟩) (fun w1 w2 c lv' sv' ls' ss' h1 h2 h3 => h1.ch h2 h3)).mono ?_
  · rw [sg_length]
    refine Sum_two lock6 (first n) g 0 2 a1 a2 p q m x L w1 (h.su.below h5) h3 h4 h1 h2 (by omega) (by decide) (by rw [first_length]; omega) hL
  · rcases List.mem_cons.1 hy with rfl | hy
    · exact h.lo.1
    · rw [List.mem_singleton.1 hy]; exact h.lo.2.2.1
  · rintro e w' ⟨c, sv, rfl, h1, h2, h3⟩
    exact ⟨c, sv, rfl, h1, ⟨h2, h.lo⟩, h3⟩
theorem Append_s (B c p q m x : Nat) (L : List Su.Thing) (lv sv : Value) (ls ss : List (List Nat)) (w : World) (bp : Option Addr) (bn bc : Nat) (b l : List Nat) (hs : Sw B w p q m x L) (hL : L.length < 1000000) (h : ChIs B w c p lv sv ls ss) (hB : B ≤ w.heap.size) (hb : By B w (.slice bp bn bc) b) (hbn : 1 ≤ bn ∧ bn ≤ 4096) (hls : ls.length < 64) (hl : ss[ls.length]? = some l) (hll : l.length ≤ 50000) (hm : ss.length ≤ 1000) :
    Calls Tryd.prog 14 #[.pointer (some ⟨c, 0, none⟩), .slice bp bn bc] w fun e w' => e = .returned (.int .i64 0) ∧ ∃ lv' sv', ChIs B w' c p lv' sv' (ls ++ [b]) (ss ++ [sg L (l ++ b)]) ∧ Sw B w' p q m x (ad L (l ++ b)) ∧ Only ([p, m] ++ fp c lv sv) w w' ∧ Mv w.heap.size sv sv' ∧ Mv w.heap.size lv lv' := by
  have hbl : b.length ≤ 4096 := by
    obtain ⟨p', c', e, _⟩ := hb.src.slice
    simp only [Value.slice.injEq] at e
    have := e.2.1
    omega
  refine (Append_any B c p lv sv ls ss w bp bn bc b l (sg L (l ++ b)) [p, m] (fun w' => SuIs w' p q m x (ad L (l ++ b))) h hB hb hbn hls hl hm (sg_small _ _) (fun w1 g a1 a2 h1 h2 h3 h4 h5 => ?_) (fun y hy => ⟨?_, ?_, hs.su.ty y hy⟩) (fun w1 w2 lv' sv' ls' ss' h1 h2 h3 => h1.ch h2 h3)).mono ?_
  · rw [sg_length]
    exact Sum_two l b g 0 2 a1 a2 p q m x L w1 (hs.su.below h5) h3 h4 h1 h2 (by omega) hll (by omega) hL
  · rcases List.mem_cons.1 hy with rfl | hy
    · exact hs.lo.1
    · rw [List.mem_singleton.1 hy]; exact hs.lo.2.2.1
  · have := hs.su.off h
    rcases List.mem_cons.1 hy with rfl | hy
    · exact this.1
    · rw [List.mem_singleton.1 hy]; exact this.2.2.1
  · rintro e w' ⟨rfl, lv', sv', h1, h2, h3⟩
    exact ⟨rfl, lv', sv', h1, ⟨h2, hs.lo⟩, h3⟩
/-! several chains -/
/-- Two chains have nothing in common. -/
def Apart (c : Nat) (lv sv : Value) (d : Nat) (lv' sv' : Value) : Prop := c ≠ d ∧ Ap lv lv' ∧ Ap lv sv' ∧ Ap sv lv' ∧ Ap sv sv'
theorem Apart.symm {c d : Nat} {lv sv lv' sv' : Value} (h : Apart c lv sv d lv' sv') : Apart d lv' sv' c lv sv := ⟨h.1.symm, h.2.1.symm, h.2.2.2.1.symm, h.2.2.1.symm, h.2.2.2.2.symm⟩
theorem Ap.mv {H : Nat} {v v1 v' : Value} (h : Ap v v') (hm : Mv H v v1) (hl : ∀ b, v'.ownBlock = some b → b < H) : Ap v1 v' := fun b hb e => by
  obtain ⟨g, h1, h2⟩ := hm
  rw [h1] at hb
  cases hb
  rcases h2 with h2 | h2
  · exact h b h2 e
  · have := hl b e
    omega
section
variable {B : Nat} {w w' : World} {c d p p' q m x : Nat} {lv sv lv' sv' lv1 sv1 : Value} {ls ss ls' ss' : List (List Nat)} {L : List Su.Thing}
theorem ChIs.lts (h : ChIs B w c p lv sv ls ss) : (∀ b, lv.ownBlock = some b → b < w.heap.size) ∧ ∀ b, sv.ownBlock = some b → b < w.heap.size := by
  obtain ⟨xs, hx⟩ := h.links
  obtain ⟨ys, hy⟩ := h.sums
  exact ⟨hx.lt, hy.lt⟩
theorem Apart.mv (h : Apart c lv sv d lv' sv') (hd : ChIs B w d p' lv' sv' ls' ss') (hl : Mv w.heap.size lv lv1) (hs : Mv w.heap.size sv sv1) : Apart c lv1 sv1 d lv' sv' :=
  ⟨h.1, h.2.1.mv hl hd.lts.1, h.2.2.1.mv hl hd.lts.2, h.2.2.2.1.mv hs hd.lts.1, h.2.2.2.2.mv hs hd.lts.2⟩
/-- A chain stays while another one goes on. -/
theorem ChIs.other (hd : ChIs B w d p' lv' sv' ls' ss') (hs : Sw B w p q m x L) (hc : ChIs B w c p lv sv ls ss) (ho : Only ([p, m] ++ fp c lv sv) w w') (hB : B ≤ w.heap.size) (ha : Apart c lv sv d lv' sv') : ChIs B w' d p' lv' sv' ls' ss' := by
  have hk : Kx TS B w w' := Kx.of_only ho hB (fun y hy => by
    rcases List.mem_append.1 hy with e | e
    · refine ⟨?_, (hs.su.ty y e).2⟩
      rcases List.mem_cons.1 e with rfl | e
      · exact hs.lo.1
      · rw [List.mem_singleton.1 e]; exact hs.lo.2.2.1
    · exact hc.fpty y e)
  have hoff := hs.su.off hd
  have hpm : ∀ y, y ∈ fp d lv' sv' → y ∉ [p, m] := fun y hy e => by
    rcases List.mem_cons.1 e with rfl | e
    · exact hoff.1 hy
    · rw [List.mem_singleton.1 e] at hy
      exact hoff.2.2.1 hy
  obtain ⟨xs, hx⟩ := hd.links
  obtain ⟨ys, hy⟩ := hd.sums
  obtain ⟨zs, hz⟩ := hc.links
  obtain ⟨us, hu⟩ := hc.sums
  refine hd.keep hk (by decide) (ho.block d hd.lt (fun e => ?_)) (fun b hb => ho.block b (hx.lt b hb) (fun e => ?_)) (fun b hb => ho.block b (hy.lt b hb) (fun e => ?_))
  · rcases List.mem_append.1 e with e | e
    · exact hpm d (mem_fp.2 (.inl rfl)) e
    · rcases mem_fp.1 e with e | e | e
      · exact ha.1 e.symm
      · obtain ⟨_, cs, h3⟩ := hz.ty d e
        rw [hd.box] at h3
        cases h3
      · obtain ⟨_, cs, h3⟩ := hu.ty d e
        rw [hd.box] at h3
        cases h3
  · rcases List.mem_append.1 e with e | e
    · exact hpm b (mem_fp.2 (.inr (.inl hb))) e
    · rcases mem_fp.1 e with rfl | e | e
      · obtain ⟨_, cs, h3⟩ := hx.ty b hb
        rw [hc.box] at h3
        cases h3
      · exact ha.2.1 b e hb
      · exact ha.2.2.2.1 b e hb
  · rcases List.mem_append.1 e with e | e
    · exact hpm b (mem_fp.2 (.inr (.inr hb))) e
    · rcases mem_fp.1 e with rfl | e | e
      · obtain ⟨_, cs, h3⟩ := hy.ty b hb
        rw [hc.box] at h3
        cases h3
      · exact ha.2.2.1 b e hb
      · exact ha.2.2.2.2 b e hb
end
/-! what the sums tell -/
/-- The sums of a chain, by the list of signs. -/
structure Chn (L : List Su.Thing) (n : Nat) (ls ss : List (List Nat)) : Prop where
  len : ss.length = ls.length + 1
  zero : ∃ k, Su.pos 72 [] (lock6 ++ first n) 0 L = some k ∧ ss[0]? = some (Su.sign 72 k)
  next : ∀ (i : Nat) (a b : List Nat), ss[i]? = some a → ls[i]? = some b → ∃ k, Su.pos 72 [] (a ++ b) 0 L = some k ∧ ss[i + 1]? = some (Su.sign 72 k)
section
variable {L M : List Su.Thing} {n n' : Nat} {ls ss ls' ss' : List (List Nat)}
theorem Chn.more (h : Chn L n ls ss) (M : List Su.Thing) : Chn (L ++ M) n ls ss := by
  obtain ⟨k, h1, h2⟩ := h.zero
  refine ⟨h.len, ⟨k, Su.pos_stays h1, h2⟩, fun i a b h3 h4 => ?_⟩
  obtain ⟨k, h5, h6⟩ := h.next i a b h3 h4
  exact ⟨k, Su.pos_stays h5, h6⟩
theorem Chn.ad (h : Chn L n ls ss) (t : List Nat) : Chn (ad L t) n ls ss := by
  obtain ⟨M, hM⟩ := Su.add_eq L 72 [] t
  unfold S7.ad
  rw [hM]
  exact h.more M
theorem Chn.new (L : List Su.Thing) (n : Nat) : Chn (S7.ad L (lock6 ++ first n)) n [] [sg L (lock6 ++ first n)] :=
  ⟨rfl, ⟨_, Su.pos_add L 72 [] _, rfl⟩, fun i a b _ h => by simp at h⟩
theorem Chn.last (h : Chn L n ls ss) : ∃ l, ss[ls.length]? = some l := ⟨_, List.getElem?_eq_getElem (by rw [h.len]; omega)⟩
theorem Chn.push (h : Chn L n ls ss) {a b : List Nat} (ha : ss[ls.length]? = some a) : Chn (S7.ad L (a ++ b)) n (ls ++ [b]) (ss ++ [sg L (a ++ b)]) := by
  have h' := h.ad (a ++ b)
  obtain ⟨k, h1, h2⟩ := h'.zero
  refine ⟨by simp [h.len], ⟨k, h1, ?_⟩, fun i x y hx hy => ?_⟩
  · rw [List.getElem?_append_left (get_lt h2)]; exact h2
  · rcases snoc_get hy with ⟨b1, b2⟩ | ⟨b1, rfl⟩
    · rcases snoc_get hx with ⟨a1, a2⟩ | ⟨a1, _⟩
      · obtain ⟨k, h5, h6⟩ := h'.next i x y a2 b2
        exact ⟨k, h5, by rw [List.getElem?_append_left (get_lt h6)]; exact h6⟩
      · have := h.len; omega
    · subst b1
      rw [List.getElem?_append_left (by have := h.len; omega), ha] at hx
      cases hx
      exact ⟨_, Su.pos_add L 72 [] _, by rw [← h.len]; simp [sg]⟩
theorem Chn.size (h : Chn L n ls ss) {i : Nat} {r : List Nat} (hr : ss[i]? = some r) : r.length = 32 ∧ ∀ x ∈ r, x < 256 := by
  have key : ∃ k, r = Su.sign 72 k := by
    cases i with
    | zero =>
      obtain ⟨k, _, h2⟩ := h.zero
      rw [h2] at hr
      exact ⟨k, (Option.some.inj hr).symm⟩
    | succ i =>
      have h1 := get_lt hr
      have hl := h.len
      obtain ⟨k, _, h6⟩ := h.next i ss[i] ls[i] (List.getElem?_eq_getElem (by omega)) (List.getElem?_eq_getElem (by omega))
      rw [h6] at hr
      exact ⟨k, (Option.some.inj hr).symm⟩
  obtain ⟨k, rfl⟩ := key
  exact ⟨Su.sign_length _ _, Su.sign_lt (by omega) _⟩
theorem pos_text {L : List Su.Thing} {t t' : List Nat} {k : Nat} (h : Su.pos 72 [] t 0 L = some k) (h' : Su.pos 72 [] t' 0 L = some k) : t = t' := by
  obtain ⟨u, h1, _, _, h2⟩ := Su.pos_get 72 [] t 0 L k h
  obtain ⟨u', h1', _, _, h2'⟩ := Su.pos_get 72 [] t' 0 L k h'
  rw [h1] at h1'
  cases h1'
  exact h2.symm.trans h2'
theorem sign_text {L : List Su.Thing} (hL : L.length < 1000000) {t t' : List Nat} {k k' : Nat} (h : Su.pos 72 [] t 0 L = some k) (h' : Su.pos 72 [] t' 0 L = some k') : Su.sign 72 k = Su.sign 72 k' ↔ t = t' := by
  have h1 := (Su.pos_le 0 L k h).2
  have h2 := (Su.pos_le 0 L k' h').2
  rw [Su.sign_inj (by omega) (by omega)]
  constructor
  · rintro ⟨_, rfl⟩
    exact pos_text h h'
  · rintro rfl
    rw [h] at h'
    exact ⟨rfl, Option.some.inj h'⟩
theorem first_inj {m n : Nat} (hm : m ≤ 1099511627776) (hn : n ≤ 1099511627776) (h : first m = first n) : m = n := C8.Cd.be_inj (by omega) (by omega) h
/-- Two chains of one suite have the same sum of a length just if their numbers and their links up to there are the same. -/
theorem forks (hL : L.length < 1000000) (h : Chn L n ls ss) (h' : Chn L n' ls' ss') (hn : n ≤ 1099511627776) (hn' : n' ≤ 1099511627776) : ∀ i, i ≤ ls.length → i ≤ ls'.length → (ss[i]? = ss'[i]? ↔ n = n' ∧ ls.take i = ls'.take i)
  | 0, _, _ => by
    obtain ⟨k, h1, h2⟩ := h.zero
    obtain ⟨k', h1', h2'⟩ := h'.zero
    rw [h2, h2', Option.some.injEq, sign_text hL h1 h1']
    constructor
    · intro e
      exact ⟨first_inj hn hn' (List.append_cancel_left e), rfl⟩
    · rintro ⟨rfl, _⟩
      rfl
  | i + 1, hi, hi' => by
    have hl := h.len
    have hl' := h'.len
    have ea : ss[i]? = some ss[i] := List.getElem?_eq_getElem (by omega)
    have eb : ls[i]? = some ls[i] := List.getElem?_eq_getElem (by omega)
    have ea' : ss'[i]? = some ss'[i] := List.getElem?_eq_getElem (by omega)
    have eb' : ls'[i]? = some ls'[i] := List.getElem?_eq_getElem (by omega)
    obtain ⟨k, h1, h2⟩ := h.next i _ _ ea eb
    obtain ⟨k', h1', h2'⟩ := h'.next i _ _ ea' eb'
    have ih := forks hL h h' hn hn' i (by omega) (by omega)
    rw [ea, ea', Option.some.injEq] at ih
    rw [h2, h2', Option.some.injEq, sign_text hL h1 h1', List.take_succ_eq_append_getElem (by omega), List.take_succ_eq_append_getElem (by omega)]
    constructor
    · intro e
      obtain ⟨e1, e2⟩ := List.append_inj e (by rw [(h.size ea).1, (h'.size ea').1])
      obtain ⟨e3, e4⟩ := ih.1 e1
      exact ⟨e3, by rw [e4, e2]⟩
    · rintro ⟨e1, e2⟩
      obtain ⟨e3, e4⟩ := List.append_inj e2 (by simp; omega)
      rw [ih.2 ⟨e1, e3⟩, List.cons.inj e4 |>.1]
end
end Go.Proofs.YtkiohhkmlpgdoaaDoor.S7
