/- Layer 5, for whoever asks only for texts of digests: a digit, as the document has it. (Out of DxA.) -/
import Derived.Test.YtemnfnmkhfgopaaDoorMem
import Derived.Test.YtemnfnmkhfgopaaDoorDigM
namespace Go.Proofs.YtemnfnmkhfgopaaDoor
open Go.RowKit

theorem digit_text : ∀ n, n < 16 → ((⟨#[48, 49, 50, 51, 52, 53, 54, 55, 56, 57, 97, 98, 99, 100, 101, 102]⟩ : ByteArray).extract n (n + 1)) = str [hexB n] := by decide
set_option maxHeartbeats 400000 in
theorem digit_any (n : Nat) (w : World) (h : n < 16) :
    Calls Tryd.prog 26 #[.int .u8 (n : Int)] w fun e w' => e = .returned (.string (str [hexB n])) ∧ w = w' := by
  have HT := Lib.hid (digit_text n h)
  have h1 : (n : Int) < 16 := by omega
  have h2 : ((n : Int) + 1).toNat = n + 1 := by omega
  go_enter Tryd.func26, Tryd.ntmps26
  go_wp2
  go_ret
  exact ⟨retStr HT.out, rfl⟩
end Go.Proofs.YtemnfnmkhfgopaaDoor
