/- The contract of the document's roots. -/
import Derived.Test.YtnbdadhdpplldabDoorRefRoot
import Derived.Test.YtnbdadhdpplldabDoorRefTab
namespace Go.Proofs.YtnbdadhdpplldabDoor
open Go.RowKit
theorem own_slice {w : World} {base e size : Nat} {v : Value} {n : Nat} {xs : List Value} (h : w.ownsRow base e size v n xs) : ∃ q c, v = .slice q n c := by
  obtain ⟨_, ⟨rfl, rfl⟩ | ⟨g, cap, cur, rfl, _⟩⟩ := h
  · exact ⟨none, 0, rfl⟩
  · exact ⟨_, cap, rfl⟩
theorem own_none (w : World) (base e size : Nat) : w.ownsRow base e size (.slice none 0 0) 0 [] := ⟨by simp, .inl ⟨rfl, rfl⟩⟩
theorem own_below {w w' : World} {base e size : Nat} {v : Value} {n : Nat} {xs : List Value} (h : w.ownsRow base e size v n xs) (hb : Below w.heap.size w w') : w'.ownsRow base e size v n xs :=
  h.kept (row := none) ⟨hb.os, hb.tape, hb.output, hb.size, fun k hk _ => hb.block k hk⟩ (by cases hv : v.ownBlock <;> simp)
theorem ints_new (w : World) (l : List Nat) : (w.alloc (.cells (arr .i64 l) 3)).rangeAt w.heap.size 0 (ints .i64 l) := rangeAt_of_row (heap_alloc_new w _)
/-- append of numbers to a row of one's own. -/
theorem law_append_ints {ops : Array Oper} {rest : List Oper} {dst : Option Tmp} {T : TypeId} {pos : String} {after : Array Edge} {a : Act} {w : World} {Q : Exit → Act → World → Prop} {st xt : Tmp}
    (base : Nat) (v : Value) (n : Nat) (l : List Nat) (g c : Nat) (m : Nat) (news : List Nat) (hs : a.eval (.tmp st) = v) (hx : a.eval (.tmp xt) = .slice (some ⟨g, 0, none⟩) m c) (hm : news.length = m) (hown : w.ownsRow base 3 1 v n (ints .i64 l)) (hr : w.rangeAt g 0 (ints .i64 news))
    (hn : n + m ≤ 100000) (hbase : base ≤ w.heap.size)
    (h : ∀ v' w', w'.ownsRow base 3 1 v' (n + m) (ints .i64 (l ++ news)) → w.grownBy w' v.ownBlock → wpList Tryd.prog ops Q rest (a.put dst v') w') :
    wpList Tryd.prog ops Q ({ dst := dst, op := .call { callee := .builtin .append, args := #[.tmp st, .tmp xt], argTypes := #[47, 47] }, type := T, pos := pos, after := after, guard := none } :: rest) a w := by
  obtain ⟨i, hi, hsz, hby, hz⟩ := info3e
  refine wpList_append_own _ rfl (.tmp st) (.tmp xt) 47 rfl base 3 i _ 1 8 Tryd.underlying47 hi hz hsz hby rfl (by decide) v n (ints .i64 l) hs hown ⟨g, 0, none⟩ m c (ints .i64 news) hx (by rw [ints_length]; omega) (fun j u hu => by rw [Addr.add_mid]; exact hr j u hu) (fun u hu => by obtain ⟨q, _, rfl⟩ := List.mem_map.1 hu; rfl) (by unfold maxLen; omega) (by omega) hbase (fun v' w' h1 h2 _ => h v' w' (by rw [ints_append]; exact h1) h2)
theorem below_grown' {B base : Nat} {a w w' : World} {v : Value} {e size n : Nat} {xs : List Value} (h : Below B a w) (hg : w.grownBy w' v.ownBlock) (hown : w.ownsRow base e size v n xs) (hB : B ≤ w.heap.size) (hb : B ≤ base) : Below B a w' :=
  h.grown hg hB (fun k hk => Nat.le_trans hb (hown.lt k hk).1)
namespace Rf
theorem prime_goes {p d : Nat} {b : Bool} (h : d * d ≤ p) (hd : 2 ≤ d) : primeTo p (p + 1 - d) d b = primeTo p (p + 1 - (d + 1)) (d + 1) (b && p % d != 0) := by
  have hle : d ≤ p := Nat.le_trans (Nat.le_mul_of_pos_left d (by omega)) h
  obtain ⟨f, hf⟩ : ∃ f, p + 1 - d = f + 1 := ⟨p - d, by omega⟩
  rw [hf, show p + 1 - (d + 1) = f from by omega, primeTo, if_pos h]
theorem prime_stops {p d : Nat} {b : Bool} (h : ¬ d * d ≤ p) : primeTo p (p + 1 - d) d b = b := by
  cases hf : p + 1 - d with
  | zero => rfl
  | succ f => rw [primeTo, if_neg h]
theorem roots_goes {n p : Nat} {cube : Bool} {o R : List Nat} (hR : rootsTo n cube (400 - p) p o = R) (hl : R.length = n) (h : o.length < n) : p < 400 ∧ rootsTo n cube (400 - (p + 1)) (p + 1) (if prime p then o ++ [root p cube] else o) = R := by
  by_cases hp : p < 400
  · refine ⟨hp, ?_⟩
    obtain ⟨f, hf⟩ : ∃ f, 400 - p = f + 1 := ⟨400 - p - 1, by omega⟩
    rw [hf, rootsTo, if_pos h] at hR
    rw [show 400 - (p + 1) = f from by omega]
    exact hR
  · rw [show 400 - p = 0 from by omega] at hR
    have : o = R := hR
    subst this
    omega
theorem roots_stops {n p f : Nat} {cube : Bool} {o R : List Nat} (hR : rootsTo n cube f p o = R) (h : ¬ o.length < n) : o = R := by
  cases f with
  | zero => exact hR
  | succ f => rw [rootsTo, if_neg h] at hR; exact hR
end Rf
theorem root_any (p : Nat) (cube : Bool) (w : World) (hp : 2 ≤ p) (hp2 : p ≤ 400) :
    Calls Tryd.prog 32 #[.int .i64 p, .bool cube] w fun e w' => e = .returned (.int .i64 (Rf.root p cube : Nat)) ∧ Below w.heap.size w w' := by
  cases cube
  · exact root_false p w hp hp2
  · exact root_true p w hp hp2
set_option maxHeartbeats 1000000 in
theorem roots_any (n : Nat) (cube : Bool) (w : World) (R : List Nat) (hR : Rf.roots n cube = R) (hl : R.length = n) (hn : n ≤ 64) :
    Calls Tryd.prog 24 #[.int .i64 n, .bool cube] w fun e w' => ∃ v, e = .returned v ∧ w'.ownsRow w.heap.size 3 1 v n (ints .i64 R) ∧ Below w.heap.size w w' := by
  have HR : Hid (Rf.rootsTo n cube (400 - 2) 2 [] = R) := hR
  have HL : Hid (R.length = n) := hl
  clear hR hl
  go_enter Tryd.func24, Tryd.ntmps24
  go_wp2
  go_loopw [5, 6] (fun sl i wr => ∃ (p : Nat) (o : List Nat), 2 ≤ p ∧ p ≤ 400 ∧ o.length ≤ n ∧ i = .int .i64 p ∧ Hid (wr.ownsRow w.heap.size 3 1 sl o.length (ints .i64 o)) ∧ Hid (Rf.rootsTo n cube (400 - p) p o = R) ∧ Hid (Below w.heap.size w wr)) (fun _ i _ => 400 - (intOf i).toNat)
  case atStart => exact ⟨2, [], by omega, by omega, by simp, rfl, own_none _ _ _ _, HR.out, Below.refl _ _⟩
  case round =>
    clear HR
    obtain ⟨p, o, hp, hp2, hol, rfl, HO, HR, HB⟩ := hrel
    obtain ⟨q, c, rfl⟩ := own_slice HO.out
    by_cases hlt : o.length < n
    · have hltI : (o.length : Int) < (n : Int) := by omega
      obtain ⟨hp3, hnx⟩ := Rf.roots_goes HR.out HL.out hlt
      have HNX : Hid (Rf.rootsTo n cube (400 - (p + 1)) (p + 1) (if Rf.prime p then o ++ [Rf.root p cube] else o) = R) := hnx
      clear hnx HR
      go_wp2
      go_loop [7, 8] (fun bv i => ∃ (d : Nat) (b : Bool), 2 ≤ d ∧ d ≤ p + 1 ∧ i = .int .i64 d ∧ bv = .bool b ∧ Hid (Rf.primeTo p (p + 1 - d) d b = Rf.prime p)) (fun _ i => p + 1 - (intOf i).toNat)
      case atStart => exact ⟨2, true, by omega, by omega, rfl, rfl, rfl⟩
      case round =>
        obtain ⟨d, b, hd, hd2, rfl, rfl, HP⟩ := hrel
        obtain ⟨s, hs⟩ : ∃ s, d * d = s := ⟨_, rfl⟩
        have hsb : s ≤ 160801 := by rw [← hs]; exact Nat.mul_le_mul (show d ≤ 401 by omega) (show d ≤ 401 by omega)
        have hsd : d ≤ s := by rw [← hs]; exact Nat.le_mul_of_pos_right _ (by omega)
        have hsi : (d : Int) * (d : Int) = (s : Int) := by rw [← hs]; simp
        have HS : Hid (d * d = s) := hs
        clear hs
        have d0 : (d : Int) ≠ 0 := by omega
        have d1 : (0 : Int) < (d : Int) := by omega
        by_cases hg : s ≤ p
        · have hgI : (s : Int) ≤ (p : Int) := by omega
          have hpg := Rf.prime_goes (b := b) (show d * d ≤ p by rw [HS.out]; exact hg) hd
          have HPG : Hid (Rf.primeTo p (p + 1 - (d + 1)) (d + 1) (b && p % d != 0) = Rf.prime p) := by rw [← hpg]; exact HP.out
          have HMI : Hid (((p : Int) % (d : Int) != 0) = (p % d != 0)) := by
            show _ = _
            rw [← Int.natCast_emod]
            by_cases h0 : p % d = 0
            · simp [h0]
            · have h1 : ((p % d : Nat) : Int) ≠ 0 := by omega
              rw [bne_iff_ne.2 h1, bne_iff_ne.2 h0]
          clear hpg HP
          cases b
          · go_wp2
            go_round
            case rel => exact ⟨d + 1, false, by omega, by omega, by go_num, rfl, HPG.out⟩
            case measure => simp [intOf]; omega
          · go_wp2
            go_round
            case rel => exact ⟨d + 1, p % d != 0, by omega, by omega, by go_num, by rw [HMI.out], by have := HPG.out; rw [Bool.true_and] at this; exact this⟩
            case measure => simp [intOf]; omega
        · have hgI : ¬ (s : Int) ≤ (p : Int) := by omega
          have hbp : b = Rf.prime p := by rw [← HP.out]; exact (Rf.prime_stops (by rw [HS.out]; exact hg)).symm
          cases b
          · have HNX' : Hid (Rf.rootsTo n cube (400 - (p + 1)) (p + 1) o = R) := by
              have := HNX.out
              rw [← hbp, if_neg (by decide)] at this
              exact this
            clear HNX hbp HP
            go_wp2
            go_roundw
            case rel => exact ⟨p + 1, o, by omega, by omega, by omega, by go_num, HO.out, HNX'.out, HB.out⟩
            case measure => simp [intOf]; omega
          · have HNX' : Hid (Rf.rootsTo n cube (400 - (p + 1)) (p + 1) (o ++ [Rf.root p cube]) = R) := by
              have := HNX.out
              rw [← hbp, if_pos rfl] at this
              exact this
            clear HNX hbp HP
            go_wp2_with fail
            refine (root_any p cube wr hp hp2).mono ?_
            rintro e w2 ⟨rfl, hb2⟩
            have hbA : Below w.heap.size w w2 := HB.out.trans (hb2.mono HB.out.size)
            have HBA : Hid (Below w.heap.size w w2) := hbA
            have HOA : Hid (w2.ownsRow w.heap.size 3 1 (Value.slice q o.length c) o.length (ints IntKind.i64 o)) := own_below HO.out hb2
            clear HO HB hb2 hbA
            go_wp2_with (with_reducible (refine stop_builtin .append ?_))
            refine Stop.go ?_
            have hrg : (w2.alloc (.cells #[.int .i64 (Rf.root p cube : Nat)] 3)).rangeAt w2.heap.size 0 (ints .i64 [Rf.root p cube]) := ints_new w2 [Rf.root p cube]
            have hsz2 := HBA.out.size
            with_reducible refine law_append_ints w.heap.size (.slice q o.length c) o.length o w2.heap.size 1 1 [Rf.root p cube] ?asv ?axv rfl (own_below HOA.out ((Below.refl _ _).alloc (Nat.le_refl _) _)) hrg (by omega) (by simp; omega) ?ak
            case asv => exact rfl
            case axv => exact rfl
            intro v3 w3 hown3 hg3
            have hb3 : Below w.heap.size w w3 := below_grown' (HBA.out.alloc HBA.out.size _) hg3 (own_below HOA.out ((Below.refl _ _).alloc (Nat.le_refl _) _)) (by simp; have := HBA.out.size; omega) (Nat.le_refl _)
            have HO3 : Hid (w3.ownsRow w.heap.size 3 1 v3 (o ++ [Rf.root p cube]).length (ints .i64 (o ++ [Rf.root p cube]))) := by
              rw [List.length_append]; exact hown3
            have HB3 : Hid (Below w.heap.size w w3) := hb3
            clear hown3 hg3 hb3 HOA HBA hrg
            go_wp2
            go_roundw
            case rel => exact ⟨p + 1, o ++ [Rf.root p cube], by omega, by omega, by simp; omega, by go_num, HO3.out, HNX'.out, HB3.out⟩
            case measure => simp [intOf]; omega
    · have hltI : ¬ (o.length : Int) < (n : Int) := by omega
      have hoR := Rf.roots_stops HR.out hlt
      subst hoR
      have hln := HL.out
      go_wp2
      go_ret
      exact ⟨_, rfl, by rw [← hln]; exact HO.out, HB.out⟩
end Go.Proofs.YtnbdadhdpplldabDoor
