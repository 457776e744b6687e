/- The document's Sum, Code, Key and Seal: contracts. -/
import Derived.Test.YtagdlpodpokmmaaGreatDoorS7SigO
import Derived.Test.YtagdlpodpokmmaaGreatDoorS7St
namespace Go.Proofs.YtagdlpodpokmmaaGreatDoor.S7
open Go.RowKit
set_option maxHeartbeats 1000000 in
theorem rCode_any (kv : Value) (k : List Nat) (tv : Value) (t : List Nat) (B d : Nat) (L : List Su.Thing) (w : World) (h : Doc B w d L) (hk : By B w kv k) (ht : By B w tv t) (hB : B ≤ w.heap.size) (hL : L.length < 1000000) :
    Calls Tryz.prog 26 #[.pointer (some ⟨d, 0, none⟩), kv, tv] w fun e w' => ∃ v, e = .returned v ∧ w'.ownsRow w.heap.size 5 1 v 32 (ints .u8 (Su.sign 77 (Su.num L 77 k t))) ∧ Doc B w' d (Su.add L 77 k t) ∧ Kx [some 30, some 83] B w w' := by
  have HO : Hid (Calls Tryz.prog 45 #[.pointer (some ⟨d, 0, none⟩), .agg #[.int .i64 77, kv, .slice none 0 0, .slice none 0 0, tv]] w fun e w' => e = .returned (.int .i64 (Su.num L 77 k t : Int)) ∧ Doc B w' d (Su.add L 77 k t) ∧ Kx [some 30, some 83] B w w') := once_any 77 kv tv k t B d L w h hk ht hB hL
  obtain ⟨m, HM⟩ : ∃ m, Hid (Su.num L 77 k t = m) := ⟨_, rfl⟩
  have HML : Hid (m ≤ 1099511627776) := by have := (Su.num_le L 77 k t).2; rw [HM.out] at this; show _ ≤ _; omega
  rw [HM.out] at HO ⊢
  have HB : Hid (B ≤ w.heap.size) := hB
  obtain ⟨pt, ct, rfl, _⟩ := ht.src.slice
  obtain ⟨pk, ck, rfl, _⟩ := hk.src.slice
  clear hk
  generalize k.length = kl at *
  clear h ht hB hL
  generalize t.length = tl at *
  go_enter Tryz.func26, Tryz.ntmps26
  go_wp2_with fail
  refine HO.out.mono ?_
  rintro e w1 ⟨rfl, hd, hk1⟩
  have HD1 : Hid (Doc B w1 d (Su.add L 77 k t)) := hd
  have HK1 : Hid (Kx [some 30, some 83] B w w1) := hk1
  clear hd hk1 HO
  go_wp2_with fail
  refine (rSign_any 77 m w1 (by decide) HML.out).mono ?_
  rintro e w2 ⟨v, rfl, ho, hb⟩
  have HO2 : Hid (w2.ownsRow w.heap.size 5 1 v 32 (ints .u8 (Su.sign 77 m))) := own_older ho HK1.out.low.size
  have HD2 : Hid (Doc B w2 d (Su.add L 77 k t)) := HD1.out.below hb
  have HK2 : Hid (Kx [some 30, some 83] B w w2) := HK1.out.trans (Kx.of_below hb (Nat.le_trans HB.out HK1.out.low.size))
  clear ho hb HD1 HK1
  go_wp2_with fail
  go_ret
  exact ⟨_, rfl, HO2.out, HD2.out, HK2.out⟩

set_option maxHeartbeats 1000000 in
theorem rSeal_bad (p : Value) (a b : Option Addr) (n c m d : Nat) (o t : Value) (w : World) (hn : n ≠ 32 ∨ m ≠ 12) :
    Calls Tryz.prog 33 #[p, .slice a n c, .slice b m d, o, t] w fun e w' => e = .returned (.tuple #[.slice none 0 0, .int .i64 11]) ∧ w' = w := by
  by_cases h1 : n = 32
  · subst h1
    have h2 : ¬ (m : Int) = 12 := by omega
    clear hn
    go_enter Tryz.func33, Tryz.ntmps33
    go_wp2_with fail
    refine bodyPost_ret (results_tmp2 rfl _ _ _) rfl ?_
    exact ⟨rfl, rfl⟩
  · have h2 : ¬ (n : Int) = 32 := by omega
    clear hn
    go_enter Tryz.func33, Tryz.ntmps33
    go_wp2_with fail
    refine bodyPost_ret (results_tmp2 rfl _ _ _) rfl ?_
    exact ⟨rfl, rfl⟩
set_option maxHeartbeats 1000000 in
theorem rSeal_ok (k nn o t : List Nat) (kv nv ov tv : Value) (B d : Nat) (L : List Su.Thing) (w : World) (h : Doc B w d L) (hk : By B w kv k) (hn : By B w nv nn) (ho : By B w ov o) (ht : By B w tv t) (lk : k.length = 32) (ln : nn.length = 12) (lt : t.length ≤ 50000) (hB : B ≤ w.heap.size) (hL : L.length < 1000000) :
    Calls Tryz.prog 33 #[.pointer (some ⟨d, 0, none⟩), kv, nv, ov, tv] w fun e w' => ∃ v, e = .returned (.tuple #[v, .int .i64 0]) ∧ w'.ownsRow w.heap.size 5 1 v (t.length + 16) (ints .u8 (Su.box (L.length + 1) t.length)) ∧ Doc B w' d (L ++ [(66, k, nn, o, t)]) ∧ Kx [some 30, some 83] B w w' := by
  obtain ⟨v, cs, hd⟩ := h
  have HD : Hid (DocIs B w d v cs L) := hd
  obtain ⟨vp, vc, rfl⟩ := own_slice hd.row
  obtain ⟨n, HN⟩ : ∃ n, Hid (L.length = n) := ⟨_, rfl⟩
  rw [HN.out] at HD
  have n1 : (n : Int) < 1000000 := by have := HN.out; omega
  have n0 : (0 : Int) ≤ (n : Int) := by omega
  have HB : Hid (B ≤ w.heap.size) := hB
  have HOW : Hid (∀ w', Below w.heap.size w w' → w'.ownsRow B 83 5 (.slice vp n vc) n (flat cs)) := fun w' hb => by have := (HD.out.below hb).row; rwa [HN.out] at this
  have hc0 : w.cell? ⟨d, 0, none⟩ = some (.slice vp n vc) := by rw [cell_of_row _ _ _ _ _ _ HD.out.box]; rfl
  rw [HN.out]
  have HT : Hid (∀ w', Below w.heap.size w w' → ThIs B w' (66, kv, nv, ov, tv) (66, k, nn, o, t)) := fun w' hb => ⟨rfl, hk.below hb, hn.below hb, ho.below hb, ht.below hb⟩
  obtain ⟨pk, ck, rfl, _⟩ := hk.src.slice
  obtain ⟨pn, cn, rfl, _⟩ := hn.src.slice
  obtain ⟨po, co, rfl, _⟩ := ho.src.slice
  obtain ⟨pt, ct, rfl, _⟩ := ht.src.slice
  rw [lk, ln] at HT
  rw [lk, ln]
  have t1 : (t.length : Int) ≤ 50000 := by omega
  have HTL : Hid (t.length ≤ 50000) := lt
  clear hd hB hL hk hn ho ht
  generalize t.length = tl at *
  generalize o.length = ol at *
  go_enter Tryz.func33, Tryz.ntmps33
  go_wp2_with (first | with_reducible (refine stop_builtin .append ?_))
  refine Stop.go ?_
  refine law_append_thing B (.slice vp n vc) n (flat cs) w.heap.size (66, .slice pk 32 ck, .slice pn 12 cn, .slice po ol co, .slice pt tl ct) rfl rfl (HOW.out _ (below_alloc w _)) (rangeAt_of_row (t := 83) (fr := (0, 0)) (heap_alloc_new w _)) (by simp [cl5, Value.oneCell']) (by omega) (by show B ≤ (w.heap.push _).size; have := HB.out; simp; omega) ?_
  intro v' w2 ho hg
  have HP := doc_push (66, .slice pk 32 ck, .slice pn 12 cn, .slice po ol co, .slice pt tl ct) (66, k, nn, o, t) (HD.out.below (below_alloc w _)) (by show B ≤ (w.heap.push _).size; have := HB.out; simp; omega) (by rw [HN.out]; exact ho) hg (HT.out _ (below_alloc w _))
  obtain ⟨vp', vc', rfl⟩ := own_slice ho
  have HZ1 : Hid (Doc B (w2.setCell ⟨d, 0, none⟩ (.slice vp' (n + 1) vc')) d (L ++ [(66, k, nn, o, t)])) := ⟨_, _, HP.1⟩
  have HZ2 : Hid (Kx [some 30, some 83] B w (w2.setCell ⟨d, 0, none⟩ (.slice vp' (n + 1) vc'))) := (Kx.of_below (below_alloc w _) HB.out).trans HP.2
  have HZ0 := HP.1.box
  have hc2 : w2.cell? ⟨d, 0, none⟩ = some (.slice vp n vc) := by
    have hne : (Value.slice vp n vc).ownBlock ≠ some d := fun e => by
      obtain ⟨_, ⟨e1, _⟩ | ⟨g, cap, cur, e1, _, hh, _⟩⟩ := HD.out.row
      · cases e1; cases e
      · cases e1
        cases e
        rw [HD.out.box] at hh
        cases hh
    rw [World.cell?_of_block (a := ⟨d, 0, none⟩) (hg.block d (by show d < (w.heap.push _).size; have := (Array.getElem?_eq_some_iff.1 HD.out.box).1; simp; omega) (Ne.symm hne))]
    exact ((below_alloc w _).cell (p := ⟨d, 0, none⟩) (Array.getElem?_eq_some_iff.1 HD.out.box).1).trans hc0
  have hf2 : w2.frozen? ⟨d, 0, none⟩ = false := by
    have h3 : w2.heap[d]? = some (.cells #[.slice vp n vc] 30 (0, 0)) := by
      have hne : (Value.slice vp n vc).ownBlock ≠ some d := fun e => by
        obtain ⟨_, ⟨e1, _⟩ | ⟨g, cap, cur, e1, _, hh, _⟩⟩ := HD.out.row
        · cases e1; cases e
        · cases e1
          cases e
          rw [HD.out.box] at hh
          cases hh
      exact (hg.block d (by show d < (w.heap.push _).size; have := (Array.getElem?_eq_some_iff.1 HD.out.box).1; simp; omega) (Ne.symm hne)).trans (((below_alloc w _).block d (Array.getElem?_eq_some_iff.1 HD.out.box).1).trans HD.out.box)
    exact frozen_of_row _ _ _ _ _ h3
  clear HP HZ0 ho hg
  go_wp2_with fail
  refine (rbox_any (n + 1) tl _ HTL.out (by omega)).mono ?_
  rintro e w4 ⟨u, rfl, ho, hb⟩
  have HO4 : Hid (w4.ownsRow w.heap.size 5 1 u (tl + 16) (ints .u8 (Su.box (n + 1) tl))) := own_older ho HZ2.out.low.size
  have HD4 : Hid (Doc B w4 d (L ++ [(66, k, nn, o, t)])) := HZ1.out.below hb
  have HK4 : Hid (Kx [some 30, some 83] B w w4) := HZ2.out.trans (Kx.of_below hb (Nat.le_trans HB.out HZ2.out.low.size))
  clear ho hb
  go_wp2_with fail
  refine bodyPost_ret (results_tmp2 rfl _ _ _) rfl ?_
  exact ⟨_, rfl, HO4.out, HD4.out, HK4.out⟩
end Go.Proofs.YtagdlpodpokmmaaGreatDoor.S7
