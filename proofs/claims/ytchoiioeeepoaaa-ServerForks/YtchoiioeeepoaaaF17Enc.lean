/- The contract of Encode. -/
import Derived.Test.YtchoiioeeepoaaaF17Right
import Derived.Test.YtchoiioeeepoaaaE9Enc
namespace Go.Proofs.Ytchoiioeeepoaaa.F17
open Go.RowKit C8 E9
/-- What Encode tells. -/
def EncSays (f : Fr) (w : World) (e : Ending) (w' : World) : Prop :=
  Below w.heap.size w w' ∧ ((right f = true ∧ (bytes f).length ≤ 32768 ∧ ∃ v, e = .returned (.tuple #[v, .int .i64 0]) ∧ w'.ownsRow w.heap.size 5 1 v (bytes f).length (ints .u8 (bytes f))) ∨ (right f = true ∧ 32768 < (bytes f).length ∧ e = .returned (.tuple #[.slice none 0 0, .int .i64 11])) ∨ (right f = false ∧ e = .returned (.tuple #[.slice none 0 0, .int .i64 10])))
/-- What written tells of right parts. -/
def WriSays (f : Fr) (w : World) (e : Ending) (w' : World) : Prop :=
  Below w.heap.size w w' ∧ (((bytes f).length ≤ 32768 ∧ ∃ v, e = .returned (.tuple #[v, .int .i64 0]) ∧ w'.ownsRow w.heap.size 5 1 v (bytes f).length (ints .u8 (bytes f))) ∨ (32768 < (bytes f).length ∧ e = .returned (.tuple #[.slice none 0 0, .int .i64 11])))
set_option maxHeartbeats 2000000 in
theorem written_any (f : Fr) (q : Option Addr) (c n : Nat) (w : World) (hr : right f = true) (hn : n = (pts f).length) (hp : PartsIs w w.heap.size q (pts f)) :
    Calls Try.prog 52 #[.slice q n c] w fun e w' => WriSays f w e w' := by
  have HP : ∀ W, W = w → Calls Try.prog 57 #[.slice q n c] W fun e w' => ∃ vq vc, e = .returned (.tuple #[.slice vq (bytes f).length vc, .int .i64 0]) ∧ Hid (w'.ownsRow w.heap.size 5 1 (.slice vq (bytes f).length vc) (bytes f).length (ints .u8 (bytes f)) ∧ Below w.heap.size w w') := by
    rintro W rfl
    subst hn
    refine (Put_ok (pts f) q c W (Nat.le_trans (pts_length hr) (by omega)) (right_err hr) (Nat.le_trans (bytes_length hr).1 (by omega)) hp).mono ?_
    rintro e w' ⟨v, rfl, h1, h2⟩
    obtain ⟨vq, vc, rfl⟩ := own_slice h1
    exact ⟨vq, vc, rfl, h1, h2⟩
  obtain ⟨S, HS⟩ : ∃ S, Hid (WriSays f w = S) := ⟨_, rfl⟩
  rw [HS.out]
  have HY : Hid (∀ w' v, (bytes f).length ≤ 32768 → w'.ownsRow w.heap.size 5 1 v (bytes f).length (ints .u8 (bytes f)) → Below w.heap.size w w' → S (.returned (.tuple #[v, .int .i64 0])) w') := fun w' v h1 h2 h3 => by
    rw [← HS.out]
    exact ⟨h3, .inl ⟨h1, v, rfl, h2⟩⟩
  have HN : Hid (∀ w', 32768 < (bytes f).length → Below w.heap.size w w' → S (.returned (.tuple #[.slice none 0 0, .int .i64 11])) w') := fun w' h1 h3 => by
    rw [← HS.out]
    exact ⟨h3, .inr ⟨h1, rfl⟩⟩
  clear HS hp hn hr
  generalize ints .u8 (bytes f) = xs at *
  generalize (bytes f).length = m at *
  by_cases hm : 32768 < m
  · have h1 : (32768 : Int) < (m : Int) := by omega
    replace HN : Hid (∀ w', Below w.heap.size w w' → S (.returned (.tuple #[.slice none 0 0, .int .i64 11])) w') := fun w' h => HN.out w' hm h
    clear HY hm
    go_enter Try.func52, Try.ntmps52
    go_wp2_with (first | (go_at_call 57; refine (HP _ rfl).mono ?_; rintro e w1 ⟨vq, vc, rfl, HO⟩))
    exact HN.out _ HO.out.2
  · have h1 : ¬ (32768 : Int) < (m : Int) := by omega
    replace HY : Hid (∀ w' v, w'.ownsRow w.heap.size 5 1 v m xs → Below w.heap.size w w' → S (.returned (.tuple #[v, .int .i64 0])) w') := fun w' v h h2 => HY.out w' v (by omega) h h2
    clear HN hm
    go_enter Try.func52, Try.ntmps52
    go_wp2_with (first | (go_at_call 57; refine (HP _ rfl).mono ?_; rintro e w1 ⟨vq, vc, rfl, HO⟩))
    exact HY.out _ _ HO.out.1 HO.out.2
theorem own4 (w : World) (x y z u : Value) : (w.alloc (.cells #[x, y, z, u] 20)).ownsRow w.heap.size 20 1 (.slice (some ⟨w.heap.size, 0, none⟩) 4 4) 4 [x, y, z, u] :=
  ⟨rfl, .inr ⟨w.heap.size, 4, #[x, y, z, u], rfl, Nat.le_refl _, heap_alloc_new w _, Nat.le_refl _, by unfold maxLen; omega, rfl, rfl⟩⟩
theorem lpts_take {ls : List (List Nat)} {j : Nat} (h : j < ls.length) : lpts (ls.take (j + 1)) = lpts (ls.take j) ++ [txt ls[j]] := by
  unfold lpts
  rw [List.take_succ_eq_append_getElem h, List.map_append]
  rfl
set_option maxHeartbeats 8000000 in
theorem Encode_any (f : Fr) (v : Value) (w : World) (hf : FrIs w v f) :
    Calls Try.prog 40 #[v] w fun e w' => EncSays f w e w' := by
  have hF := hf
  obtain ⟨q, c, sp, sc, rfl, hA⟩ := hf
  have hb0 : ∀ o, Below w.heap.size w (w.alloc o) := fun o => bel_alloc (Nat.le_refl _) o
  have HNO : Hid (right f = false → ∀ W, Below w.heap.size w W → EncSays f w (.returned (.tuple #[.slice none 0 0, .int .i64 10])) W) := fun hr W h => ⟨h, .inr (.inr ⟨hr, rfl⟩)⟩
  have HWR : right f = true → ∀ W q2 n2 c2, Hid (n2 = (pts f).length ∧ PartsIs W W.heap.size q2 (pts f)) → Hid (Below w.heap.size w W) → Calls Try.prog 52 #[.slice q2 n2 c2] W fun e w' => ∃ v2 n3, e = .returned (.tuple #[v2, n3]) ∧ Hid (EncSays f w (.returned (.tuple #[v2, n3])) w') := fun hr W q2 n2 c2 h1 h2 => by
    refine (written_any f q2 c2 n2 W hr h1.out.1 h1.out.2).mono ?_
    rintro e w' ⟨h3, ⟨h4, v, rfl, h5⟩ | ⟨h4, rfl⟩⟩
    · exact ⟨_, _, rfl, h2.out.trans (bel_le h3 h2.out.size), .inl ⟨hr, h4, v, rfl, own_older h5 h2.out.size⟩⟩
    · exact ⟨_, _, rfl, h2.out.trans (bel_le h3 h2.out.size), .inr (.inl ⟨hr, h4, rfl⟩)⟩
  obtain ⟨S, HS⟩ : ∃ S, Hid (EncSays f w = S) := ⟨_, rfl⟩
  rw [HS.out] at HNO HWR ⊢
  clear HS
  have HRT := fun W (hW : Below w.heap.size w W) => Right_any f _ W (hF.below hW)
  cases hr : right f with
  | false =>
    rw [hr] at HRT
    replace HNO : Hid (∀ W, Below w.heap.size w W → S (.returned (.tuple #[.slice none 0 0, .int .i64 10])) W) := HNO.out hr
    clear HWR hr hF hA
    obtain ⟨k, cl, i, ls, t⟩ := f
    simp only [FrV] at HRT ⊢
    generalize ls.length = n at *
    generalize t.length = m at *
    have HR1 : ∀ W, W = w.alloc (.cells #[.int .i64 k, .int .i64 cl, .int .i64 i, .slice q n c, .slice sp m sc] 34) → Calls Try.prog 39 #[.agg #[.int .i64 k, .int .i64 cl, .int .i64 i, .slice q n c, .slice sp m sc]] W fun e w' => e = .returned (.bool false) ∧ Hid (Below w.heap.size w w') := by
      rintro W rfl
      refine (HRT _ (hb0 _)).mono ?_
      rintro e w' ⟨rfl, h2⟩
      exact ⟨rfl, (hb0 _).trans (bel_le h2 (hb0 (.cells #[.int .i64 k, .int .i64 cl, .int .i64 i, .slice q n c, .slice sp m sc] 34)).size)⟩
    clear HRT hb0
    go_enter Try.func40, Try.ntmps40
    go_wp2_with (first | (go_at_call 39; refine (HR1 _ rfl).mono ?_; rintro e w1 ⟨rfl, HB1⟩))
    exact HNO.out _ HB1.out
  | true =>
    rw [hr] at HRT
    replace HWR := HWR hr
    have HLL : Hid (f.links.length ≤ 8) := (right_bounds hr).2.2.2.1
    have HPT : Hid (pts f = ([num f.kind, num f.coll, num f.idx, num (f.links.length : Int)] ++ lpts f.links) ++ [txt f.sum]) := rfl
    clear HNO hr hF
    have HLR : Hid (LkRow w q f.links) := hA.links
    have HSM : Hid (Src w (.slice sp f.sum.length sc) f.sum ∧ f.sum.length ≤ 9223372036854775807) := ⟨hA.sum, hA.lt⟩
    clear hA
    generalize hps : pts f = ps at *
    clear hps
    obtain ⟨k, cl, i, ls, t⟩ := f
    simp only [FrV] at HRT HLL HPT HLR HSM ⊢
    obtain ⟨n, HN⟩ : ∃ n, Hid (ls.length = n) := ⟨_, rfl⟩
    rw [HN.out] at HRT HLL HPT ⊢
    obtain ⟨m, HM⟩ : ∃ m, Hid (t.length = m) := ⟨_, rfl⟩
    rw [HM.out] at HRT HSM ⊢
    have HR1 : ∀ W, W = w.alloc (.cells #[.int .i64 k, .int .i64 cl, .int .i64 i, .slice q n c, .slice sp m sc] 34) → Calls Try.prog 39 #[.agg #[.int .i64 k, .int .i64 cl, .int .i64 i, .slice q n c, .slice sp m sc]] W fun e w' => e = .returned (.bool true) ∧ Hid (Below w.heap.size w w' ∧ w.heap.size < w'.heap.size ∧ w'.heap[w.heap.size]? = some (.cells #[.int .i64 k, .int .i64 cl, .int .i64 i, .slice q n c, .slice sp m sc] 34 (0, 0))) := by
      rintro W rfl
      refine (HRT _ (hb0 _)).mono ?_
      rintro e w' ⟨rfl, h2⟩
      have hh := (h2.block w.heap.size (by simp)).trans (heap_alloc_new w (.cells #[.int .i64 k, .int .i64 cl, .int .i64 i, .slice q n c, .slice sp m sc] 34))
      exact ⟨rfl, (hb0 _).trans (bel_le h2 (hb0 (.cells #[.int .i64 k, .int .i64 cl, .int .i64 i, .slice q n c, .slice sp m sc] 34)).size), (Array.getElem?_eq_some_iff.1 hh).1, hh⟩
    clear HRT hb0
    have l8 : (n : Int) ≤ 8 := by have := HLL.out; omega
    go_enter Try.func40, Try.ntmps40
    go_wp2_with fail
    refine (HR1 _ rfl).mono ?_
    rintro e w1 ⟨rfl, HB1⟩
    clear HR1
    have d0 : w1.cell? ⟨w.heap.size, 0, none⟩ = some (.int .i64 k) := by rw [cell_of_row _ _ _ _ _ _ HB1.out.2.2]; rfl
    have d1 : w1.cell? ⟨w.heap.size, 1, none⟩ = some (.int .i64 cl) := by rw [cell_of_row _ _ _ _ _ _ HB1.out.2.2]; rfl
    have d2 : w1.cell? ⟨w.heap.size, 2, none⟩ = some (.int .i64 i) := by rw [cell_of_row _ _ _ _ _ _ HB1.out.2.2]; rfl
    have d3 : w1.cell? ⟨w.heap.size, 3, none⟩ = some (.slice q n c) := by rw [cell_of_row _ _ _ _ _ _ HB1.out.2.2]; rfl
    have e3 : ∀ o, (w1.alloc o).cell? ⟨w.heap.size, 3, none⟩ = some (.slice q n c) := fun o => ((bel_alloc (Nat.le_refl _) o).cell (p := ⟨w.heap.size, 3, none⟩) HB1.out.2.1).trans d3
    have HD4 : Hid (w1.cell? ⟨w.heap.size, 4, none⟩ = some (.slice sp m sc)) := by
      show _ = _
      rw [cell_of_row _ _ _ _ _ _ HB1.out.2.2]; rfl
    have HA : Hid (∃ xs, (w1.alloc (.cells #[.iface 3 (.int .i64 k), .iface 3 (.int .i64 cl), .iface 3 (.int .i64 i), .iface 3 (.int .i64 n)] 20)).ownsRow w1.heap.size 20 1 (.slice (some ⟨w1.heap.size, 0, none⟩) 4 4) (4 + 0) xs ∧ AreP (w1.alloc (.cells #[.iface 3 (.int .i64 k), .iface 3 (.int .i64 cl), .iface 3 (.int .i64 i), .iface 3 (.int .i64 n)] 20)) w1.heap.size xs ([num k, num cl, num i, num (n : Int)] ++ lpts (ls.take 0))) :=
      ⟨_, own4 w1 _ _ _ _, num_is _ _ _, num_is _ _ _, num_is _ _ _, num_is _ _ _, trivial⟩
    have HB2 : Hid (Below w1.heap.size w1 (w1.alloc (.cells #[.iface 3 (.int .i64 k), .iface 3 (.int .i64 cl), .iface 3 (.int .i64 i), .iface 3 (.int .i64 n)] 20))) := bel_alloc (Nat.le_refl _) _
    go_wp2_with fail
    clear d0 d1 d2 d3 e3
    generalize w1.alloc (.cells #[.iface 3 (.int .i64 k), .iface 3 (.int .i64 cl), .iface 3 (.int .i64 i), .iface 3 (.int .i64 n)] 20) = wz at *
    obtain ⟨B, HBB⟩ : ∃ B, Hid (w1.heap.size = B) := ⟨_, rfl⟩
    rw [HBB.out] at HA HB2 ⊢
    go_loopw [4, 27] (fun sl iv wr => ∃ j : Nat, j ≤ n ∧ iv = .int .i64 j ∧ Hid (Below B w1 wr) ∧ Hid (∃ xs, wr.ownsRow B 20 1 sl (4 + j) xs ∧ AreP wr B xs ([num k, num cl, num i, num (n : Int)] ++ lpts (ls.take j)))) (fun _ iv _ => n - (intOf iv).toNat)
    case atStart => exact ⟨0, by omega, rfl, HB2, HA⟩
    case round =>
      obtain ⟨j, hj, rfl, HBR, HAR⟩ := hrel
      have HLB : Hid (w.heap.size < B) := by have := HB1.out.2.1; rw [HBB.out] at this; exact this
      have HBW : Hid (Below w.heap.size w wr) := HB1.out.1.trans (bel_le HBR.out (Nat.le_of_lt HLB.out))
      obtain ⟨xs, HO, HX⟩ : ∃ xs, Hid (wr.ownsRow B 20 1 u4 (4 + j) xs) ∧ Hid (AreP wr B xs ([num k, num cl, num i, num (n : Int)] ++ lpts (ls.take j))) := HAR.out
      have HSZ : Hid (B ≤ wr.heap.size) := by
        have := HBR.out.size
        rw [HBB.out] at this
        exact this
      have hA : ∀ o, Below wr.heap.size wr (wr.alloc o) := fun o => bel_alloc (Nat.le_refl _) o
      clear HAR
      by_cases hlt : j < n
      · have ja : j < ls.length := by rw [HN.out]; exact hlt
        obtain ⟨b, o, bp, bc, rfl, k2, k3, k4, k5⟩ := HLR.out j ja
        have d0 := (HBW.out.cell (p := ⟨b, o + j, none⟩) k2).trans k3
        have j1 : (j : Int) < (n : Int) := by omega
        have j0 : (0 : Int) ≤ (j : Int) := by omega
        have HT : Hid ([num k, num cl, num i, num (n : Int)] ++ lpts (ls.take (j + 1)) = ([num k, num cl, num i, num (n : Int)] ++ lpts (ls.take j)) ++ [txt ls[j]]) := by
          show _ = _
          rw [lpts_take ja, List.append_assoc]
        have HPW : Hid (∀ W, Below w.heap.size w W → AreP W B [.iface 32 (.slice bp ls[j].length bc)] [txt ls[j]]) := fun W hW => ⟨txt_is (((Old.of k4).keep hW).up (Nat.le_of_lt HLB.out)) k5, trivial⟩
        clear k3 k4 k5
        generalize ls[j] = x at *
        generalize x.length = xl at *
        clear ja
        go_wp2_with (first | with_reducible (refine stop_builtin .append ?_))
        refine Stop.go ?_
        refine law_append_any B u4 (4 + j) xs wr.heap.size 1 [.iface 32 (.slice bp xl bc)] rfl rfl rfl (own_below HO.out (hA _)) (range_of wr [.iface 32 (.slice bp xl bc)] 20) (by simp; rfl) (by omega) (Nat.le_trans HSZ.out (hA _).size) ?_
        intro v2 w2 h1 h2
        have hb2 := below_append (own_below HO.out (hA _)) h2 (Nat.le_trans HSZ.out (hA _).size)
        have hb3 : Below B wr w2 := (bel_le (hA _) HSZ.out).trans hb2
        have HBR2 : Hid (Below B w1 w2) := HBR.out.trans hb3
        have HAR2 : Hid (∃ xs, w2.ownsRow B 20 1 v2 (4 + (j + 1)) xs ∧ AreP w2 B xs ([num k, num cl, num i, num (n : Int)] ++ lpts (ls.take (j + 1)))) := ⟨_, h1, by rw [HT.out]; exact AreP.append (AreP.keep hb3 HX.out) (HPW.out _ (HBW.out.trans (bel_le hb3 (Nat.le_of_lt HLB.out))))⟩
        clear h1 h2 hA hb2 hb3 HO HX HT HPW
        go_wp2_with fail
        refine ⟨⟨j + 1, by omega, by simp, HBR2, HAR2⟩, ?_⟩
        simp only [intOf]
        omega
      · obtain rfl : j = n := by omega
        have j1 : ¬ (j : Int) < (j : Int) := by omega
        have e4 : wr.cell? ⟨w.heap.size, 4, none⟩ = some (.slice sp m sc) := (HBR.out.cell (p := ⟨w.heap.size, 4, none⟩) HLB.out).trans HD4.out
        have HXX : Hid (AreP wr B xs ([num k, num cl, num i, num (j : Int)] ++ lpts ls)) := by
          have := HX.out
          rwa [List.take_of_length_le (by rw [HN.out]; omega)] at this
        have HPW : Hid (∀ W, Below w.heap.size w W → AreP W B [.iface 32 (.slice sp m sc)] [txt t]) := fun W hW => by
          have hh := HSM.out
          rw [← HM.out] at hh ⊢
          exact ⟨txt_is (((Old.of hh.1).keep hW).up (Nat.le_of_lt HLB.out)) hh.2, trivial⟩
        have HLN : Hid (4 + j + 1 = ps.length) := by
          show _ = _
          rw [HPT.out]
          simp [lpts, HN.out]
          omega
        clear HX
        go_wp2_with (first | with_reducible (refine stop_builtin .append ?_))
        refine Stop.go ?_
        refine law_append_any B u4 (4 + j) xs wr.heap.size 1 [.iface 32 (.slice sp m sc)] rfl rfl rfl (own_below HO.out (hA _)) (range_of wr [.iface 32 (.slice sp m sc)] 20) (by simp; rfl) (by omega) (Nat.le_trans HSZ.out (hA _).size) ?_
        intro v2 w2 h1 h2
        have hb2 := below_append (own_below HO.out (hA _)) h2 (Nat.le_trans HSZ.out (hA _).size)
        have hb3 : Below B wr w2 := (bel_le (hA _) HSZ.out).trans hb2
        obtain ⟨q2, c2, rfl⟩ := own_slice h1
        have HB5 : Hid (Below w.heap.size w w2) := HBW.out.trans (bel_le hb3 (Nat.le_of_lt HLB.out))
        have HPP : Hid (4 + j + 1 = ps.length ∧ PartsIs w2 w2.heap.size q2 ps) := by
          refine ⟨HLN.out, ?_⟩
          rw [HPT.out]
          exact (AreP.append (AreP.keep hb3 HXX.out) (HPW.out _ HB5.out)).row h1 (Nat.le_trans HSZ.out hb3.size)
        clear h1 h2 hA hb2 hb3 HO HXX HPW e4 HLN
        go_wp2_with (first | (go_at_call 52; refine (HWR _ _ _ _ HPP HB5).mono ?_; rintro e w3 ⟨v3, n3, rfl, HF⟩))
        exact HF.out
end Go.Proofs.Ytchoiioeeepoaaa.F17
