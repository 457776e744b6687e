/- The document's answer: XOR. -/
import Derived.Test.YtnceiccciaihoaaC3Inv2
import Derived.Deep.RegionLaw
namespace Go.Proofs.Ytnceiccciaihoaa.C3
open Go.RowKit
theorem append_where {P : Program} (w : World) (base : Nat) (t ty e : TypeId) (i : TypeInfo) (z : Value) (ht : P.underlying t = some (.slice e)) (hi : P.info? e = some i) (hz : i.zero = some z) (hsize : i.size = 1) (hby : i.bytes = 1)
    (v : Value) (n : Nat) (xs : List Value) (hown : w.ownsRow base e 1 v n xs)
    (a : Addr) (m c : Nat) (news : List Value) (hl : news.length = m * 1) (hnews : ∀ j u, news[j]? = some u → w.cell? (a.add j) = some u) (h1 : ∀ u ∈ news, u.oneCell' = true)
    (h63 : n + m ≤ 100000) (hm : 0 < m) {v' : Value} {w' : World} (hrun : (Builtin.append_ #[t, t] ty #[v, .slice (some a) m c]).run P w = .ok v' w') : v'.ownBlock = v.ownBlock ∨ v'.ownBlock = some w.heap.size := by
  rcases hown.2 with ⟨rfl, rfl⟩ | ⟨g, cap, cur, rfl, hbg, hg, hnc, hcm, hcs, htake⟩
  · have hr := run_append_nil (P := P) w t ty e i z ht hi hz a m c news (by rw [hsize]; exact hl) hnews (by omega) (by omega) (by rw [hby]; omega)
    rw [hr] at hrun
    simp only [Result.ok.injEq] at hrun
    exact .inr (by rw [← hrun.1]; rfl)
  · by_cases hroom : n + m ≤ cap
    · have hr := run_append_room (P := P) w t ty e i ht hi g n cap cur hg a m c news (by rw [hsize]; exact hl) hnews h1 hroom (by rw [hsize, hl, hcs]; omega)
      rw [hr] at hrun
      simp only [Result.ok.injEq] at hrun
      exact .inl (by rw [← hrun.1]; rfl)
    · have hr := run_append_grow (P := P) w t ty e i z ht hi hz ⟨g, 0, none⟩ n cap xs (by rw [hsize]; exact hown.1) (hown.cells (g := g) rfl) a m c news (by rw [hsize]; exact hl) hnews (by omega) (by omega) (growslice_fits (by omega) (by rw [hby]; omega))
      rw [hr] at hrun
      simp only [Result.ok.injEq] at hrun
      exact .inr (by rw [← hrun.1]; rfl)
theorem step_append_bytes {ops : Array Oper} {o : Oper} {a : Act} {w : World} {K : Act → World → Prop} {Q : Exit → Act → World → Prop} {E : Prop} (hg : o.guard = none) (s x : Operand)
    (hop : o.op = Op.call { callee := Callee.builtin Builtin.append, args := #[s, x], argTypes := #[22, 22] })
    (base : Nat) (v : Value) (n : Nat) (l : List Nat) (g c : Nat) (m : Nat) (news : List Nat) (hs : a.eval s = v) (hx : a.eval x = .slice (some ⟨g, 0, none⟩) m c) (hm : news.length = m) (hown : w.ownsRow base 5 1 v n (ints .u8 l)) (hr : w.rangeAt g 0 (ints .u8 news))
    (hn : n + m ≤ 100000) (hm0 : 0 < m) (hbase : base ≤ w.heap.size)
    (hK : ∀ v' w', Hid (w'.ownsRow base 5 1 v' (n + m) (ints .u8 (l ++ news))) → Hid (w.grownBy w' v.ownBlock) → Hid (v'.ownBlock = v.ownBlock ∨ v'.ownBlock = some w.heap.size) → K (a.put o.dst v') w') :
    if Region.wanted o (yielded ops a.tmps) = true then Oper.wp Try.prog o a w K Q else E := by
  have hw : Region.wanted o (yielded ops a.tmps) = true := by simp [Region.wanted, hg]
  rw [if_pos hw]
  obtain ⟨i, hi, hsz, hby, hz⟩ := info5e
  have hc : ∀ j u, (ints .u8 news)[j]? = some u → w.cell? ((⟨g, 0, none⟩ : Addr).add j) = some u := fun j u hu => by rw [Addr.add_mid]; exact hr j u hu
  have ho : ∀ u ∈ ints .u8 news, u.oneCell' = true := fun u hu => by obtain ⟨q, _, rfl⟩ := List.mem_map.1 hu; rfl
  obtain ⟨v', w', hrun, r1, r2, _⟩ := run_append_own (P := Try.prog) w base 22 o.type 5 i _ 1 1 Try.underlying22 hi hz hsz hby rfl (by decide) v n (ints .u8 l) hown ⟨g, 0, none⟩ m c (ints .u8 news) (by rw [ints_length]; omega) hc ho (by unfold maxLen; omega) (by omega) hbase
  have r3 := append_where w base 22 o.type 5 i _ Try.underlying22 hi hz hsz hby v n (ints .u8 l) hown ⟨g, 0, none⟩ m c (ints .u8 news) (by rw [ints_length]; omega) hc ho hn hm0 hrun
  rw [← ints_append] at r1
  unfold Oper.wp
  simp [execOp, hop, resolve, invoke, builtin, hs, hx, hrun, Result.andThen]
  exact hK v' w' r1 r2 r3
theorem rangeAt_grownO {w w' : World} {b o : Nat} {row : Option Nat} {cs : List Value} (h : w.rangeAt b o cs) (hg : w.grownBy w' row) (hb : some b ≠ row) : w'.rangeAt b o cs := fun j v hv => by
  have hc := h j v hv
  have := hg.block b (World.block_lt_of_cell? w _ hc) hb
  rw [← hc]
  unfold World.cell?
  rw [this]
set_option maxRecDepth 8000 in
set_option maxHeartbeats 4000000 in
theorem rxor_any (key nonce text : List Nat) (bk ok ck bn on cn c n ct : Nat) (pt : Option Addr) (w : World) (hk : key.length = 32) (hn : nonce.length = 12) (hK : SliceIs w bk ok key) (hN : SliceIs w bn on nonce) (hc : c < 4294967296)
    (hT : TextIs w pt text) (htl : text.length = n) (hnl : n ≤ 1000) :
    Calls Try.prog 19 #[.slice (some ⟨bk, ok, none⟩) 32 ck, .int .i64 c, .slice (some ⟨bn, on, none⟩) 12 cn, .slice pt n ct] w fun e w' => ∃ v, e = .returned v ∧ w'.ownsRow w.heap.size 5 1 v n (ints .u8 (Ch.xor key c nonce text)) ∧ Below w.heap.size w w' := by
  have HY : Hid (∀ (w1 : World) (d : Nat), Below w.heap.size w w1 → d < 4294967296 → Calls Try.prog 34 #[.slice (some ⟨bk, ok, none⟩) 32 ck, .int .i64 d, .slice (some ⟨bn, on, none⟩) 12 cn] w1 fun e w' => ∃ g cp, e = .returned (.slice (some ⟨g, 0, none⟩) 64 cp) ∧ w1.heap.size ≤ g ∧ 64 ≤ cp ∧ w'.rangeAt g 0 (ints .u8 (Ch.blockOf key d nonce)) ∧ Below w1.heap.size w1 w') := fun w1 d hb hd => by
    have := rblock_any key nonce bk ok ck bn on cn d w1 hk hn (hK.below hb) (hN.below hb) hd
    exact this
  have HT : Hid (TextIs w pt text) := hT
  have HTL : Hid (text.length = n) := htl
  clear hk hn hK hN hT htl
  have n0 : (n : Int) ≤ 1000 := by omega
  go_enter Try.func19, Try.ntmps19
  go_wp2_with fail
  go_loopw [9, 10] (fun sl i wr => ∃ k : Nat, 64 * k < n + 64 ∧ i = .int .i64 ((64 * k : Nat) : Int) ∧ Hid (wr.ownsRow w.heap.size 5 1 sl (min (64 * k) n) (ints .u8 (Ch.xorTo key c nonce text (min (64 * k) n)))) ∧ Hid (Below w.heap.size w wr)) (fun _ i _ => n - (intOf i).toNat)
  case atStart => exact ⟨0, by omega, rfl, by rw [show min (64 * 0) n = 0 from by omega]; exact own_none _ _ _ _, Below.refl _ _⟩
  case round =>
    obtain ⟨k, hk, rfl, HO, HB⟩ := hrel
    by_cases hlt : 64 * k < n
    · obtain ⟨A, hA⟩ : ∃ A, 64 * k = A := ⟨_, rfl⟩
      rw [hA] at hlt hk HO
      rw [hA]
      rw [show min A n = A from by omega] at HO
      obtain ⟨q, cq, rfl⟩ := own_slice HO.out
      obtain ⟨bt, ot, rfl, hrt⟩ := HT.out.2 (by intro e; have := HTL.out; rw [e] at this; simp at this; omega)
      have HRT : Hid (w.rangeAt bt ot (ints .u8 text)) := hrt
      have HTS : Hid (∀ x ∈ text, x < 256) := HT.out.1
      clear hrt HT
      obtain ⟨d, hde⟩ : ∃ d, (c + k) % 4294967296 = d := ⟨_, rfl⟩
      have hd : d < 4294967296 := by omega
      have HC : Hid (Calls Try.prog 34 #[.slice (some ⟨bk, ok, none⟩) 32 ck, .int .i64 d, .slice (some ⟨bn, on, none⟩) 12 cn] wr fun e w' => ∃ g cp, e = .returned (.slice (some ⟨g, 0, none⟩) 64 cp) ∧ wr.heap.size ≤ g ∧ 64 ≤ cp ∧ w'.rangeAt g 0 (ints .u8 (Ch.blockOf key d nonce)) ∧ Below wr.heap.size wr w') := HY.out wr d HB.out hd
      have HBL : Hid ((Ch.blockOf key d nonce).length = 64) := Ch.block_length _
      have HBS : Hid (∀ x ∈ Ch.blockOf key d nonce, x < 256) := Ch.block_lt _
      have HBY : Hid (∀ j, j < 64 → Ch.byteAt key c nonce (A + j) = Sp.nth (Ch.blockOf key d nonce) j) := fun j hj => by
        unfold Ch.byteAt
        rw [show (A + j) / 64 = k from by omega, show (A + j) % 64 = j from by omega, hde]
      generalize Ch.blockOf key d nonce = B at *
      have a0 : (A : Int) < (n : Int) := by omega
      have a00 : (0 : Int) ≤ (A : Int) := by omega
      have ak : (A : Int) / 64 = (k : Int) := by omega
      have ak' : (A : Int).tdiv 64 = (k : Int) := by rw [Int.tdiv_eq_ediv_of_nonneg (by omega)]; exact ak
      have ad : ((c : Int) + (k : Int)) % 4294967296 = (d : Int) := by omega
      have ad' : ((c : Int) + (k : Int)).tmod 4294967296 = (d : Int) := by rw [Int.tmod_eq_emod_of_nonneg (by omega)]; exact ad
      have av : IntKind.i64.wrap ((c : Int) + (k : Int)) = (c : Int) + (k : Int) := i64_id _ (by omega)
      have HAK : Hid (64 * k = A) := hA
      clear hA hde
      go_wp2_with fail
      refine HC.out.mono ?_
      rintro e w2 ⟨gb, cp, rfl, hgb, hcp, hrb, hb2⟩
      have hsw := HB.out.size
      have HO2 : Hid (w2.ownsRow w.heap.size 5 1 (.slice q A cq) A (ints .u8 (Ch.xorTo key c nonce text A))) := own_below HO.out hb2
      have HB2 : Hid (Below w.heap.size w w2) := HB.out.trans (hb2.mono hsw)
      have HRB : Hid (w2.rangeAt gb 0 (ints .u8 B)) := hrb
      have hgl : gb < w2.heap.size := by
        have := hrb 0 _ (ints_get .u8 B 0 (by rw [HBL.out]; decide))
        exact World.block_lt_of_cell? w2 _ this
      have hqb : ∀ z, (Value.slice q A cq).ownBlock = some z → z ≠ gb := fun z hz => by
        have := (HO.out.lt z hz).2
        omega
      have HQB : Hid (∀ z, (Value.slice q A cq).ownBlock = some z → z ≠ gb) := hqb
      clear hgb hrb hb2 HO HB HC hqb
      obtain ⟨M, hM⟩ : ∃ M, min 64 (n - A) = M := ⟨_, rfl⟩
      have hM1 : M ≤ 64 := by omega
      have hM2 : A + M ≤ n := by omega
      have hM3 : M = 64 ∨ A + M = n := by omega
      clear hM
      go_wp2_with fail
      generalize hW2 : w2 = W2 at *
      clear hW2
      go_loopw [9, 12] (fun sl i wr => ∃ j E : Nat, j ≤ M ∧ E = A + j ∧ i = .int .i64 E ∧ Hid (wr.ownsRow w.heap.size 5 1 sl E (ints .u8 (Ch.xorTo key c nonce text E))) ∧ Hid (Below w.heap.size w wr) ∧ Hid (wr.rangeAt gb 0 (ints .u8 B)) ∧ Hid (gb < wr.heap.size) ∧ Hid (∀ z, sl.ownBlock = some z → z ≠ gb)) (fun _ i _ => n - (intOf i).toNat)
      case atStart => exact ⟨0, A, by omega, rfl, rfl, HO2.out, HB2.out, HRB.out, hgl, HQB.out⟩
      case round =>
        clear HO2 HB2 HRB hgl HQB
        obtain ⟨j, E, hj, hE, rfl, HO, HB, HRB, HGL, HQB⟩ := hrel
        obtain ⟨q2, cq2, rfl⟩ := own_slice HO.out
        have e64 : IntKind.i64.wrap ((A : Int) + 64) = (A : Int) + 64 := i64_id _ (by omega)
        by_cases hjl : j < M
        · have E1 : (E : Int) < (A : Int) + 64 := by omega
          have E2 : (E : Int) < (n : Int) := by omega
          have E3 : (E : Int) - (A : Int) = (j : Int) := by omega
          have E4 : (0 : Int) ≤ (E : Int) := by omega
          have j0 : (0 : Int) ≤ (j : Int) := by omega
          have j1 : (j : Int) < 64 := by omega
          have vj : IntKind.i64.wrap (j : Int) = (j : Int) := i64_id _ (by omega)
          have c1 := range_cell (rangeAt_below HB.out HRT.out) E (by rw [HTL.out]; omega)
          have c2 := range_cell HRB.out j (by rw [HBL.out]; omega)
          rw [Nat.zero_add] at c2
          have x1 : Sp.nth text E < 256 := Sp.nth_lt (by decide) HTS.out _
          have x2 : Sp.nth B j < 256 := Sp.nth_lt (by decide) HBS.out _
          have hx := u8_xor_nat _ _ x1 x2
          have HNX : Hid (Ch.xorTo key c nonce text (E + 1) = Ch.xorTo key c nonce text E ++ [Sp.nth text E ^^^ Sp.nth B j]) := by
            show _ = _
            rw [Ch.xorTo_succ, hE, HBY.out j (by omega)]
          generalize Sp.nth text E = y1 at *
          generalize Sp.nth B j = y2 at *
          have hbn := HB.out.size
          have HE : Hid (E = A + j) := hE
          clear hE x1 x2
          go_wp2_with fail
          go_region_law ((refine step_append_bytes rfl (.tmp 40) (.tmp 52) rfl w.heap.size (.slice q2 E cq2) E (Ch.xorTo key c nonce text E) wr.heap.size 1 1 [y1 ^^^ y2] rfl rfl rfl (own_below HO.out ((below_drewN (Below.refl _ _) _).alloc (Nat.le_refl _) _)) (rangeAt_of_row (heap_alloc_new (wr.drewN _) _)) (by omega) (by decide) (by simp; omega) ?_; intro v3 w3 HO3 HG3 HW3))
          all_goals
            (have hbA : Below wr.heap.size wr ((wr.drewN 1).alloc (Obj.cells (arr .u8 [y1 ^^^ y2]) 5)) := (below_drewN (Below.refl _ _) 1).alloc (Nat.le_refl _) _
             have hg3 : World.grownBy ((wr.drewN 1).alloc (Obj.cells (arr .u8 [y1 ^^^ y2]) 5)) w3 (Value.slice q2 E cq2).ownBlock := HG3.out
             have hob := own_below HO.out hbA
             have HB4 : Hid (Below w.heap.size w w3) := below_grown' (HB.out.trans (hbA.mono hbn)) hg3 hob (by simp; omega) (Nat.le_refl _)
             have HO4 : Hid (w3.ownsRow w.heap.size 5 1 v3 (E + 1) (ints .u8 (Ch.xorTo key c nonce text (E + 1)))) := by
               rw [HNX.out]
               exact HO3.out
             have hne : some gb ≠ (Value.slice q2 E cq2).ownBlock := fun e => HQB.out gb e.symm rfl
             have HRB4 : Hid (w3.rangeAt gb 0 (ints .u8 B)) := rangeAt_grownO (rangeAt_below hbA HRB.out) hg3 hne
             have hgl := HGL.out
             have hsz3 := hg3.size
             have hsA : ((wr.drewN 1).alloc (Obj.cells (arr .u8 [y1 ^^^ y2]) 5)).heap.size = wr.heap.size + 1 := by simp
             have HGL4 : Hid (gb < w3.heap.size) := by
               show _ < _
               omega
             have hw3 : v3.ownBlock = (Value.slice q2 E cq2).ownBlock ∨ v3.ownBlock = some (wr.heap.size + 1) := by
               have := HW3.out
               simpa using this
             have HQB4 : Hid (∀ z, v3.ownBlock = some z → z ≠ gb) := fun z hz => by
               rcases hw3 with h | h
               · exact HQB.out z (h ▸ hz)
               · rw [h] at hz
                 have := Option.some.inj hz
                 omega
             clear hbA hg3 hob HO3 HG3 HW3 hne HRB HGL HQB HB HO hgl hsz3 hsA hw3 HNX c1 c2
             go_wp2_with fail
             go_roundw
             case rel => exact ⟨j + 1, E + 1, by omega, (by have := HE.out; omega), by go_num, HO4.out, HB4.out, HRB4.out, HGL4.out, HQB4.out⟩
             case measure => simp [intOf]; omega)
        · obtain rfl : j = M := by omega
          clear HRB HGL HQB HBY HBS HBL HRT HTS
          by_cases h1 : (E : Int) < (A : Int) + 64
          · have h2 : ¬ (E : Int) < (n : Int) := by omega
            have HE : Hid (E = A + j) := hE
            clear hE
            go_wp2_with fail
            go_roundw
            case rel =>
              refine ⟨k + 1, (by have := HAK.out; omega), (by have := HAK.out; go_num), ?_, HB.out⟩
              rw [show min (64 * (k + 1)) n = E from by have := HAK.out; have := HE.out; omega]
              exact HO.out
            case measure => simp [intOf]; omega
          · have h2 : (A : Int) + 64 ≤ (E : Int) := by omega
            have HE : Hid (E = A + j) := hE
            clear hE
            go_wp2_with fail
            go_roundw
            case rel =>
              refine ⟨k + 1, (by have := HAK.out; omega), (by have := HAK.out; go_num), ?_, HB.out⟩
              rw [show min (64 * (k + 1)) n = E from by have := HAK.out; have := HE.out; omega]
              exact HO.out
            case measure => simp [intOf]; omega
    · have hO := HO.out
      rw [show min (64 * k) n = n from by omega, show Ch.xorTo key c nonce text n = Ch.xor key c nonce text from by rw [Ch.xor, HTL.out]] at hO
      have H9 : Hid (wr.ownsRow w.heap.size 5 1 u9 n (ints .u8 (Ch.xor key c nonce text))) := hO
      obtain ⟨q, cq, rfl⟩ := own_slice H9.out
      have l0 : ¬ (((64 * k : Nat) : Int) < (n : Int)) := by omega
      clear hO HO HY HT
      generalize ((64 * k : Nat) : Int) = zA at *
      go_wp2_with fail
      go_ret
      exact ⟨_, rfl, H9.out, HB.out⟩
end Go.Proofs.Ytnceiccciaihoaa.C3
