/- A server beside a row of one's own; what batches hold; a log of links that came one by one. -/
import Derived.Test.YtchoiioeeepoaaaV19Rg
import Derived.Laws.OwnMore
namespace Go.Proofs.Ytchoiioeeepoaaa.V19
open Go.RowKit C8 E9 F17
set_option maxHeartbeats 8000000 in
set_option maxRecDepth 20000 in
/-- A pull turns nothing that stood. -/
theorem ask_any (p b m : Nat) (M : St) (x c i : Int) (sv : Value) (w : World) (h : SvAt w p b m M) (hx : x = 0 ∨ x = 1) (hok : Ok M) (hc : 1 ≤ c ∧ c ≤ 1099511627776) (hi : 0 ≤ i ∧ i ≤ 64) (hs : Src w sv (F17.bytes (gf c i))) :
    Calls Try.prog 14 #[.pointer (some ⟨p, 0, none⟩), .int .i64 x, sv] w fun e w' => ∃ v, e = .returned (.tuple #[v, .int .i64 (pullA M x c i).2]) ∧ Hid (Src w' v (pullA M x c i).1 ∧ Below w.heap.size w w') := by
  have HSV : Hid (SvAt w p b m M) := h
  have HOK : Hid (Ok M) := hok
  have hx64 : In64 x := by unfold In64; omega
  have HC : Calls Try.prog 21 #[sv] w fun e w' => ∃ q cp sp sc, e = .returned (.tuple #[.agg #[.int .i64 2, .int .i64 c, .int .i64 i, .slice q 0 cp, .slice sp 0 sc], .int .i64 0]) ∧ Hid (Below w.heap.size w w') := (Decode_any sv _ w hs).mono (by
    rintro e w' ⟨h1, ⟨h2, rfl⟩ | ⟨_, ⟨F, v, h2, rfl, h3⟩ | ⟨h2, _⟩⟩⟩
    · rw [gf_len] at h2
      omega
    · rw [F17.dec_own (gf_right hc hi)] at h2
      cases h2
      obtain ⟨q, c, sp, sc, rfl, h4⟩ := h3.is
      exact ⟨q, c, sp, sc, rfl, h1⟩
    · rw [F17.dec_own (gf_right hc hi)] at h2
      cases h2)
  have HP : ∀ w1 W, Hid (Below w.heap.size w w1) → Below w1.heap.size w1 W → Calls Try.prog 26 #[.pointer (some ⟨p, 0, none⟩), .agg #[.int .i64 x, .int .i64 c], .int .i64 i] W fun e w' => ∃ v, e = .returned (.tuple #[v, .int .i64 (pullA M x c i).2]) ∧ Hid (Src w' v (pullA M x c i).1 ∧ Below w.heap.size w w') := by
    intro w1 W H1 hW
    have hbW : Below w.heap.size w W := H1.out.trans (hW.mono H1.out.size)
    refine (pull_any p b m M x c i W (HSV.out.below hbW) hx64 hc hi (HOK.out _ _)).mono ?_
    rintro e w' ⟨v, rfl, h1, h2⟩
    exact ⟨v, rfl, h1, hbW.trans (h2.mono hbW.size)⟩
  have n1 : ¬ x < 0 := by omega
  have n2 : ¬ 2 ≤ x := by omega
  clear h hok hs hc hi hx hx64
  go_enter Try.func14, Try.ntmps14
  go_wp2_with (first | (go_at_call 21; refine HC.mono ?_; rintro e w1 ⟨q, cp, sp, sc, rfl, H1⟩) | (go_at_call 26; refine (HP _ _ H1 ?_).mono ?_; exact ((Below.refl _ _).alloc (Nat.le_refl _) _).alloc (by simp) _; rintro e w2 ⟨v, rfl, H2⟩))
  go_ret2
  exact ⟨v, rfl, H2.out⟩
/-- A batch is read. -/
theorem dec_batch {W : World} {base n : Nat} {v : Value} {ls : Ls} (h : LRow W base v n ls) {u : Value} {F : Fr} {k : Nat} (hs : Src W u (F17.bytes F)) (hr : F17.right F = true) (hl : (F17.bytes F).length ≤ 32768) (hk : F.links.length = k) (h0 : F.sum = []) :
    Calls Try.prog 21 #[u] W fun e w' => ∃ lq lc sp sc, e = .returned (.tuple #[.agg #[.int .i64 F.kind, .int .i64 F.coll, .int .i64 F.idx, .slice lq k lc, .slice sp 0 sc], .int .i64 0]) ∧ Hid (Below W.heap.size W w' ∧
      (1 ≤ k → ∃ ad, lq = some ad) ∧ ∃ news : List Value, news.length = k ∧ (∀ ad, lq = some ad → ∀ (j : Nat) (u : Value), news[j]? = some u → w'.cell? (ad.add j) = some u) ∧ AreC w' v.ownBlock news F.links) := by
  refine (Decode_any u _ W hs).mono ?_
  rintro e w' ⟨h1, ⟨h2, rfl⟩ | ⟨_, ⟨F', v2, h2, rfl, h3⟩ | ⟨h2, _⟩⟩⟩
  · omega
  · rw [F17.dec_own hr] at h2
    cases h2
    obtain ⟨q2, c2, sp, sc, rfl, h4⟩ := h3.is
    obtain ⟨news, n1, n2, n3⟩ := new_links h3 v.ownBlock (fun k hk => (h.lt k hk).2) (fun y hy => by
      have := (F17.right_bounds hr).2.2.2.2.1 y hy
      omega)
    exact ⟨q2, c2, sp, sc, by simp only [FrV, hk, h0]; rfl, h1, fun h9 => by
      obtain ⟨b, o, _, _, h5, _⟩ := h4.links 0 (by omega)
      exact ⟨_, h5⟩, news, n1.trans hk, n2, n3⟩
  · rw [F17.dec_own hr] at h2
    cases h2
/-- No link is put behind the last one. -/
theorem law_append_zero {ops : Array Oper} {rest : List Oper} {dst : Option Tmp} {T : TypeId} {pos : String} {after : Array Edge} {a : Act} {w : World} {Q : Exit → Act → World → Prop} {so xo : Operand}
    (base : Nat) (v : Value) (n : Nat) (ls : Ls) (q : Option Addr) (c : Nat) (hs : a.eval so = v) (hx : a.eval xo = .slice q 0 c) (hown : LRow w base v n ls) (h : wpList Try.prog ops Q rest (a.put dst v) w) :
    wpList Try.prog ops Q ({ dst := dst, op := .call { callee := .builtin .append, args := #[so, xo], argTypes := #[31, 31] }, type := T, pos := pos, after := after, guard := none } :: rest) a w := by
  obtain ⟨i, hi, hsz, hby, hz⟩ := info23e
  obtain ⟨h1, xs, h2, h3⟩ := hown
  have hrun : (Builtin.append_ #[31, 31] T #[v, .slice q 0 c]).run Try.prog w = .ok v w := by
    rcases h2.2 with ⟨rfl, rfl⟩ | ⟨g, cap, cur, rfl, _, _, hnc, _⟩
    · cases q <;> simp [Builtin.append_, run_underlying Try.underlying31, sizeOf, typeInfo, hi, Builtin.lenOf, Builtin.firstCells, loadCells, loadCellsFrom]
    · cases q <;> simp [Builtin.append_, run_underlying Try.underlying31, sizeOf, typeInfo, hi, Builtin.lenOf, Builtin.firstCells, hnc, storeCells, loadCells, loadCellsFrom]
  refine wpList_plain rfl fun K hK => ?_
  unfold Oper.wp
  simp [execOp, resolve, invoke, builtin, hs, hx, hrun, Result.andThen]
  exact hK _ _ h
/-- A batch holds the next links: one at least, where there is one. -/
theorem bat_is {c i : Int} {ls : Ls} (hc : 1 ≤ c ∧ c ≤ 1099511627776) (hi : 0 ≤ i ∧ i ≤ 64) (hw : Wf ls) :
    ∃ k, k ≤ 8 ∧ k ≤ ls.length ∧ (1 ≤ ls.length → 1 ≤ k) ∧ bat c i ls = F17.bytes ⟨3, c, i, ls.take k, []⟩ ∧ (F17.bytes ⟨3, c, i, ls.take k, []⟩).length ≤ 32768 ∧ F17.right ⟨3, c, i, ls.take k, []⟩ = true := by
  have key : ∀ k, k ≤ 8 → k ≤ ls.length → fit c i ls k ≤ k ∧ (1 ≤ k → 1 ≤ fit c i ls k) ∧ (F17.bytes ⟨3, c, i, ls.take (fit c i ls k), []⟩).length ≤ 32768 := by
    intro k
    induction k with
    | zero => exact fun _ _ => ⟨Nat.le_refl _, fun h => by omega, bat_zero c i ls⟩
    | succ k ih =>
      intro h8 hk
      by_cases hf : (F17.bytes ⟨3, c, i, ls.take (k + 1), []⟩).length ≤ 32768
      · rw [fit_ok c i ls hf]
        exact ⟨Nat.le_refl _, fun h => h, hf⟩
      · rw [fit_no c i ls (by omega)]
        obtain ⟨h1, h2, h3⟩ := ih (by omega) (by omega)
        refine ⟨by omega, fun _ => ?_, h3⟩
        by_cases h0 : k = 0
        · exfalso
          subst h0
          apply hf
          have h4 := enc_lpts (ls.take 1) (fun x hx => (hw.2 x (List.mem_of_mem_take hx)).1)
          rw [len_of]
          have h5 : (ls.take 1).length = 1 := by rw [List.length_take]; omega
          rw [h5] at h4
          show 26 + (Cd.enc (F17.lpts (ls.take 1))).length ≤ 32768
          omega
        · exact h2 (by omega)
  obtain ⟨h1, h2, h3⟩ := key (min ls.length 8) (by omega) (by omega)
  exact ⟨fit c i ls (min ls.length 8), by omega, by omega, fun h => h2 (by omega), rfl, h3, bat_right hc hi hw (by omega)⟩
def okl (y : List Nat) : Bool := decide (1 ≤ y.length ∧ y.length ≤ 4096)
/-- The log of links that were pushed one by one. -/
def lg (ls : Ls) : Ls := add [] (ls.filter okl)
theorem add_app (log a c : Ls) : add log (a ++ c) = add (add log a) c := by
  unfold add
  rw [List.foldl_append]
theorem lg_take {ls : Ls} {j : Nat} (h : j < ls.length) : lg (ls.take (j + 1)) = if okl ls[j] = true then add (lg (ls.take j)) [ls[j]] else lg (ls.take j) := by
  unfold lg
  rw [List.take_succ_eq_append_getElem h, List.filter_append]
  by_cases ho : okl ls[j] = true
  · rw [if_pos ho, ← add_app]
    simp [ho]
  · rw [if_neg ho]
    simp [ho]
theorem lg_len (ls : Ls) : (lg ls).length ≤ ls.length := by
  have h1 := (add_length (ls := ls.filter okl) (log := [])).2
  have h2 := List.length_filter_le okl ls
  unfold lg
  simp only [List.length_nil] at h1
  omega
theorem lg_wf {ls : Ls} (h : ls.length ≤ 64) (hs : ∀ y ∈ ls, ∀ z ∈ y, z < 256) : Wf (lg ls) := ⟨by have := lg_len ls; omega, fun y hy => by
  rcases mem_add.1 hy with hy | hy
  · cases hy
  · obtain ⟨h1, h2⟩ := List.mem_filter.1 hy
    exact ⟨of_decide_eq_true h2, hs y h1⟩⟩
theorem right_one (y : List Nat) (hs : ∀ z ∈ y, z < 256) : F17.right (pf 1 [y]) = okl y := by
  by_cases h : okl y = true
  · rw [h]
    exact pf_right (by omega) (by simp) ⟨by simp, fun z hz => by rw [List.mem_singleton.1 hz]; exact ⟨of_decide_eq_true h, hs⟩⟩
  · rw [Bool.eq_false_iff.2 h]
    refine Bool.eq_false_iff.2 (fun h1 => h ?_)
    exact decide_eq_true ((right_all h1).2.2 y (by simp))
end Go.Proofs.Ytchoiioeeepoaaa.V19
