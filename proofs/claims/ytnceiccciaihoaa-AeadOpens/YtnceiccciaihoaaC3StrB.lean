/- Strings of bytes, put together. -/
import Derived.Test.YtnceiccciaihoaaC3Keys
namespace Go.Proofs.Ytnceiccciaihoaa.C3
theorem strB_fold : ∀ (l : List Nat) (r : ByteArray), ((l.map (fun (n : Nat) => (n : Int))).foldl (fun r n => r.push (UInt8.ofNat n.toNat)) r).data = r.data ++ (l.map fun n => UInt8.ofNat n).toArray
  | [], r => by simp
  | x :: l, r => by
    rw [List.map_cons, List.foldl_cons, strB_fold l]
    simp [ByteArray.push]
theorem strB_data (l : List Nat) : (strB l).data = (l.map fun n => UInt8.ofNat n).toArray := by
  unfold strB
  rw [strB_fold]
  simp
theorem strB_append (a b : List Nat) : strB (a ++ b) = strB a ++ strB b := by
  apply ByteArray.ext
  rw [strB_data, ByteArray.data_append, strB_data, strB_data]
  simp
theorem strB_size (l : List Nat) : (strB l).size = l.length := by
  show (strB l).data.size = _
  rw [strB_data]
  simp
end Go.Proofs.Ytnceiccciaihoaa.C3
