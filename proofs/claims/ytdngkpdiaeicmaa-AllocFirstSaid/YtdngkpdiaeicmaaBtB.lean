/- What BitsB has of plain lemmas. -/
import Derived.Test.YtdngkpdiaeicmaaBtA
namespace Go.Proofs.Ytdngkpdiaeicmaa
open Go.RowKit

theorem hasV_nat (s : ByteArray) (k : Nat) : hasV s (k : Int) = bitN s.data.toList k := by
  unfold hasV
  rw [Int.toNat_natCast]
  by_cases h : inT s k = true
  · rw [h]; rfl
  · have h' : inT s k = false := by simpa using h
    rw [h', bitN_beyond]
    · rfl
    · have := mt inT_iff.2 h
      have e : s.data.toList.length = s.size := by simp
      omega
theorem count_step (l : List UInt8) (k : Nat) : (List.range (k + 1)).countP (bitN l) = (List.range k).countP (bitN l) + (bitN l k).toNat := by
  rw [List.range_succ, List.countP_append]
  cases h : bitN l k <;> simp [h]

/-- The run, for any place and any number. -/
def runV (s : ByteArray) (f n : Int) : Int := if n < 1 then -1 else runN s.data.toList f.toNat n.toNat
theorem clear_step (l : List UInt8) (p k : Nat) : clearB l p (k + 1) = (clearB l p k && !bitN l (p + k)) := by
  unfold clearB
  rw [List.range'_1_concat, List.all_append]
  simp
end Go.Proofs.Ytdngkpdiaeicmaa
