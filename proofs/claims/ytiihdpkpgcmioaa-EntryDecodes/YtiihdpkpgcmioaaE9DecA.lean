/- The contract of Decode. -/
import Derived.Test.YtiihdpkpgcmioaaE9Dk0
import Derived.Test.YtiihdpkpgcmioaaE9Dk1
import Derived.Test.YtiihdpkpgcmioaaE9Dk2
import Derived.Test.YtiihdpkpgcmioaaE9Dk3
import Derived.Test.YtiihdpkpgcmioaaE9Dk4
import Derived.Test.YtiihdpkpgcmioaaE9Dk5
namespace Go.Proofs.Ytiihdpkpgcmioaa.E9
open Go.RowKit C8
theorem rN_count {s s' : Sta} {n : Int} (h : rN 0 16 s = (n, s')) : ∃ c : Nat, n = (c : Int) ∧ c ≤ 16 := by
  unfold rN at h
  split at h
  · cases h
    exact ⟨0, rfl, by omega⟩
  · cases h
    exact ⟨_, rfl, by omega⟩
theorem Decode_any (sv : Value) (l : List Nat) (w : World) (hs : Src w sv l) (hl : l.length ≤ 900000) :
    Calls Try.prog 15 #[sv] w fun e w' => DecSays l w e w' := by
  obtain ⟨k, s1, H1⟩ : ∃ k s1, rN 0 1099511627776 (l, false) = (k, s1) := ⟨_, _, rfl⟩
  obtain ⟨a, s2, H2⟩ : ∃ a s2, rN 1 16 s1 = (a, s2) := ⟨_, _, rfl⟩
  obtain ⟨b, s3, H3⟩ : ∃ b s3, rN 0 1099511627776 s2 = (b, s3) := ⟨_, _, rfl⟩
  by_cases k1 : k = 1
  · subst k1
    obtain ⟨t4, s4, H4⟩ : ∃ t4 s4, rT 0 4096 s3 = (t4, s4) := ⟨_, _, rfl⟩
    obtain ⟨t5, s5, H5⟩ : ∃ t5 s5, rT 0 4096 s4 = (t5, s5) := ⟨_, _, rfl⟩
    exact dk1 sv l w hs hl a b s1 s2 s3 H1 H2 H3 t4 s4 H4 t5 s5 H5 _ rfl
  by_cases k2 : k = 2
  · subst k2
    obtain ⟨t4, s4, H4⟩ : ∃ t4 s4, rT 0 4096 s3 = (t4, s4) := ⟨_, _, rfl⟩
    exact dk2 sv l w hs hl a b s1 s2 s3 H1 H2 H3 t4 s4 H4 _ rfl
  by_cases k3 : k = 3
  · subst k3
    obtain ⟨n4, s4, H4⟩ : ∃ n4 s4, rN 1 16 s3 = (n4, s4) := ⟨_, _, rfl⟩
    obtain ⟨n5, s5, H5⟩ : ∃ n5 s5, rN 0 1099511627776 s4 = (n5, s5) := ⟨_, _, rfl⟩
    exact dk3 sv l w hs hl a b s1 s2 s3 H1 H2 H3 n4 s4 H4 n5 s5 H5 _ rfl
  by_cases k4 : k = 4
  · subst k4
    obtain ⟨n4, s4, H4⟩ : ∃ n4 s4, rN 1 16 s3 = (n4, s4) := ⟨_, _, rfl⟩
    exact dk4 sv l w hs hl a b s1 s2 s3 H1 H2 H3 n4 s4 H4 _ rfl
  by_cases k5 : k = 5
  · subst k5
    obtain ⟨ep, s4, H4⟩ : ∃ ep s4, rN 0 1099511627776 s3 = (ep, s4) := ⟨_, _, rfl⟩
    obtain ⟨c, s5, H5⟩ : ∃ c s5, rN 0 16 s4 = (c, s5) := ⟨_, _, rfl⟩
    obtain ⟨cn, rfl, hcn⟩ := rN_count H5
    obtain ⟨ws, sE, HW⟩ : ∃ ws sE, rW 0 4096 cn s5 = (ws, sE) := ⟨_, _, rfl⟩
    exact dk5 sv l w hs hl a b s1 s2 s3 H1 H2 H3 ep s4 s5 cn H4 H5 hcn ws sE HW _ rfl
  exact dk0 sv l w hs hl k a b s1 s2 s3 H1 H2 H3 k1 k2 k3 k4 k5 _ rfl
end Go.Proofs.Ytiihdpkpgcmioaa.E9
