/- The contract of Handle. -/
import Derived.Test.YtchoiioeeepoaaaV19Pull
import Derived.Test.YtchoiioeeepoaaaF17Dec
namespace Go.Proofs.Ytchoiioeeepoaaa.V19
open Go.RowKit C8 E9 F17
def HandleSays (p b m : Nat) (M : St) (x : Int) (l : List Nat) (w : World) (e : Ending) (w' : World) : Prop :=
  ∃ v, e = .returned (.tuple #[v, .int .i64 (hd M x l).2.2]) ∧ SvAt w' p b (m + 1) (hd M x l).1 ∧ Src w' v (hd M x l).2.1 ∧ Only [b] w w'
theorem HandleSays.plain {p b m : Nat} {M : St} {x : Int} {l : List Nat} {w w' : World} {n : Int} (h : SvAt w p b m M) (hb : Below w.heap.size w w') (he : hd M x l = (M, [], n)) : HandleSays p b m M x l w (.returned (.tuple #[.slice none 0 0, .int .i64 n])) w' := by
  unfold HandleSays
  rw [he]
  exact ⟨_, rfl, (h.below hb).mono (by omega), Src.nil _, Only.of_below hb _⟩
theorem HandleSays.of {p b m : Nat} {M M' : St} {x : Int} {l r : List Nat} {w w' : World} {n : Int} {v : Value} (he : hd M x l = (M', r, n)) (h1 : SvAt w' p b (m + 1) M') (h2 : Src w' v r) (h3 : Only [b] w w') : HandleSays p b m M x l w (.returned (.tuple #[v, .int .i64 n])) w' := by
  unfold HandleSays
  rw [he]
  exact ⟨_, rfl, h1, h2, h3⟩
set_option maxHeartbeats 8000000 in
set_option maxRecDepth 20000 in
theorem Handle_any (p b m : Nat) (M : St) (x : Int) (sv : Value) (l : List Nat) (w : World) (h : SvAt w p b m M) (hx64 : In64 x) (hok : Ok M) (hm : m ≤ 900000) (hs : Src w sv l) :
    Calls Try.prog 14 #[.pointer (some ⟨p, 0, none⟩), .int .i64 x, sv] w fun e w' => HandleSays p b m M x l w e w' := by
  have HSV : Hid (SvAt w p b m M) := h
  have HOK : Hid (Ok M) := hok
  have HSM : Hid (∀ y ∈ l, y < 256) := hs.small
  have b1 := hx64.1
  have b2 := hx64.2
  by_cases hneg : x < 0
  · have HE : Hid (hd M x l = (M, [], 12)) := by unfold hd; exact if_pos (.inl hneg)
    clear h hs hok
    go_enter Try.func14, Try.ntmps14
    go_wp2_with fail
    go_ret2
    exact HandleSays.plain HSV.out (Below.refl _ _) HE.out
  have n1 : ¬ x < 0 := hneg
  by_cases hbig : 2 ≤ x
  · have HE : Hid (hd M x l = (M, [], 12)) := by unfold hd; exact if_pos (.inr hbig)
    clear h hs hok hneg
    go_enter Try.func14, Try.ntmps14
    go_wp2_with fail
    go_ret2
    exact HandleSays.plain HSV.out (Below.refl _ _) HE.out
  have HX : Hid (x = 0 ∨ x = 1) := by show _ ∨ _; omega
  have hcond : ¬ (x < 0 ∨ 2 ≤ x) := by omega
  have HD := Decode_any sv l w hs
  clear hs hok
  by_cases hlen : 32768 < l.length
  · have HE : Hid (hd M x l = (M, [], 11)) := by unfold hd; rw [if_neg hcond, if_pos hlen]; rfl
    have HC : Calls Try.prog 21 #[sv] w fun e w' => e = .returned (.tuple #[.agg z5, .int .i64 11]) ∧ Hid (Below w.heap.size w w') := HD.mono (by
      rintro e w' ⟨h1, ⟨_, rfl⟩ | ⟨h2, _⟩⟩
      · exact ⟨rfl, h1⟩
      · omega)
    unfold z5 at HC
    clear HD h hneg hcond
    go_enter Try.func14, Try.ntmps14
    go_wp2_with (first | (go_at_call 21; refine HC.mono ?_; rintro e w1 ⟨rfl, H1⟩))
    go_ret2
    exact HandleSays.plain HSV.out (H1.out.alloc H1.out.size _) HE.out
  cases hdc : F17.dec l with
  | none =>
    have HE : Hid (hd M x l = (M, [], 10)) := by unfold hd; rw [if_neg hcond, if_neg hlen, hdc]; rfl
    have HC : Calls Try.prog 21 #[sv] w fun e w' => e = .returned (.tuple #[.agg z5, .int .i64 10]) ∧ Hid (Below w.heap.size w w') := HD.mono (by
      rintro e w' ⟨h1, ⟨h2, rfl⟩ | ⟨_, ⟨F, v, h2, _⟩ | ⟨_, rfl⟩⟩⟩
      · omega
      · rw [hdc] at h2; cases h2
      · exact ⟨rfl, h1⟩)
    unfold z5 at HC
    clear HD h hneg hcond
    go_enter Try.func14, Try.ntmps14
    go_wp2_with (first | (go_at_call 21; refine HC.mono ?_; rintro e w1 ⟨rfl, H1⟩))
    go_ret2
    exact HandleSays.plain HSV.out (H1.out.alloc H1.out.size _) HE.out
  | some f =>
    obtain ⟨fk, fc, fi, fl, fs⟩ := f
    have hrt := ((F17.dec_iff l HSM.out _).1 hdc).1
    obtain ⟨r1, r2, r3, r4, r5, r6⟩ := F17.right_bounds hrt
    simp only at r1 r2 r3 r4 r5 r6
    have HE : Hid (hd M x l = if fk = 1 then ((pushA M x fc fl).1, [], (pushA M x fc fl).2) else if fk = 2 then (M, pullA M x fc fi) else (M, [], 13)) := by
      unfold hd
      rw [if_neg hcond, if_neg hlen, hdc]
      rfl
    have HLS : Hid (LinksOk fl) := ⟨r4, fun y hy => ⟨r5 y hy, dec_small HSM.out hdc y hy⟩⟩
    obtain ⟨n, HN⟩ : ∃ n, Hid (fl.length = n) := ⟨_, rfl⟩
    obtain ⟨n2, HN2⟩ : ∃ n2, Hid (fs.length = n2) := ⟨_, rfl⟩
    have HC : Calls Try.prog 21 #[sv] w fun e w' => ∃ q cp sp sc, e = .returned (.tuple #[.agg #[.int .i64 fk, .int .i64 fc, .int .i64 fi, .slice q n cp, .slice sp n2 sc], .int .i64 0]) ∧ Hid (Below w.heap.size w w' ∧ LkRow w' q fl) := HD.mono (by
      rintro e w' ⟨h1, ⟨h2, rfl⟩ | ⟨_, ⟨F, v, h2, rfl, h3⟩ | ⟨h2, _⟩⟩⟩
      · omega
      · rw [hdc] at h2
        cases h2
        obtain ⟨q, c, sp, sc, rfl, h4⟩ := h3.is
        refine ⟨q, c, sp, sc, ?_, h1, h4.links⟩
        rw [← HN.out, ← HN2.out]
        rfl
      · rw [hdc] at h2; cases h2)
    have HR : Hid ((1 ≤ fc ∧ fc ≤ 1099511627776) ∧ (0 ≤ fi ∧ fi ≤ 64)) := ⟨r2, r3⟩
    have e1 := r1.1
    have e2 := r1.2
    clear HD h hneg hcond hrt r2 r3 r4 r5 r6 hdc r1 hlen
    by_cases hk1 : fk = 1
    · subst hk1
      have HE1 : Hid (hd M x l = ((pushA M x fc fl).1, [], (pushA M x fc fl).2)) := HE.out.trans (if_pos rfl)
      have HP : ∀ w1 W q cp, Hid (Below w.heap.size w w1 ∧ LkRow w1 q fl) → Below w1.heap.size w1 W → Calls Try.prog 25 #[.pointer (some ⟨p, 0, none⟩), .agg #[.int .i64 x, .int .i64 fc], .slice q n cp] W fun e w' => e = .returned (.int .i64 (pushA M x fc fl).2) ∧ Hid (SvAt w' p b (m + 1) (pushA M x fc fl).1 ∧ Only [b] w w') := by
        intro w1 W q cp H1 hW
        have hbW : Below w.heap.size w W := H1.out.1.trans (hW.mono H1.out.1.size)
        rw [← HN.out]
        refine (push_any p b m M x fc q cp fl W (HSV.out.below hbW) HX.out (by have := HR.out.1; unfold In64; omega) (HOK.out _ _) hm (H1.out.2.below hW) HLS.out).mono ?_
        rintro e w' ⟨rfl, h1, h2⟩
        exact ⟨rfl, h1, (Only.of_below hbW _).trans h2⟩
      clear HE e1 e2
      go_enter Try.func14, Try.ntmps14
      go_wp2_with (first | (go_at_call 21; refine HC.mono ?_; rintro e w1 ⟨q, cp, sp, sc, rfl, H1⟩) | (go_at_call 25; refine (HP _ _ _ _ H1 ?_).mono ?_; exact ((Below.refl _ _).alloc (Nat.le_refl _) _).alloc (by simp) _; rintro e w2 ⟨rfl, H2⟩))
      go_ret2
      exact HandleSays.of HE1.out H2.out.1 (Src.nil _) H2.out.2
    by_cases hk2 : fk = 2
    · subst hk2
      have HE1 : Hid (hd M x l = (M, pullA M x fc fi)) := HE.out.trans (by rw [if_neg (by decide), if_pos rfl])
      have HP : ∀ w1 W, Hid (Below w.heap.size w w1) → Below w1.heap.size w1 W → Calls Try.prog 26 #[.pointer (some ⟨p, 0, none⟩), .agg #[.int .i64 x, .int .i64 fc], .int .i64 fi] W fun e w' => ∃ v, e = .returned (.tuple #[v, .int .i64 (pullA M x fc fi).2]) ∧ Hid (Src w' v (pullA M x fc fi).1 ∧ Below w.heap.size w w') := by
        intro w1 W H1 hW
        have hbW : Below w.heap.size w W := H1.out.trans (hW.mono H1.out.size)
        refine (pull_any p b m M x fc fi W (HSV.out.below hbW) hx64 HR.out.1 HR.out.2 (HOK.out _ _)).mono ?_
        rintro e w' ⟨v, rfl, h1, h2⟩
        exact ⟨v, rfl, h1, hbW.trans (h2.mono hbW.size)⟩
      clear HE e1 e2 hk1
      go_enter Try.func14, Try.ntmps14
      go_wp2_with (first | (go_at_call 21; refine HC.mono ?_; rintro e w1 ⟨q, cp, sp, sc, rfl, H1⟩) | (go_at_call 26; refine (HP _ _ H1.out.1 ?_).mono ?_; exact ((Below.refl _ _).alloc (Nat.le_refl _) _).alloc (by simp) _; rintro e w2 ⟨v, rfl, H2⟩))
      go_ret2
      exact HandleSays.of (n := (pullA M x fc fi).2) HE1.out ((HSV.out.below H2.out.2).mono (by omega)) H2.out.1 (Only.of_below H2.out.2 _)
    have HE1 : Hid (hd M x l = (M, [], 13)) := HE.out.trans (by rw [if_neg hk1, if_neg hk2])
    clear HE e1 e2
    go_enter Try.func14, Try.ntmps14
    go_wp2_with (first | (go_at_call 21; refine HC.mono ?_; rintro e w1 ⟨q, cp, sp, sc, rfl, H1⟩))
    go_ret2
    exact HandleSays.plain HSV.out ((H1.out.1.alloc H1.out.1.size _).alloc (by have := H1.out.1.size; simp; omega) _) HE1.out
end Go.Proofs.Ytchoiioeeepoaaa.V19
