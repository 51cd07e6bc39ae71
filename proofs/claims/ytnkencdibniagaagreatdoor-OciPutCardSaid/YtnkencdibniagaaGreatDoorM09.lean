/- Merged: Byt, Mem, DxA. -/
import Derived.Test.YtnkencdibniagaaGreatDoorM01
import Derived.Test.YtnkencdibniagaaGreatDoorM04
/- Slices of bytes as texts (wants the type []uint8 of the cut). -/
namespace Go.Proofs.YtnkencdibniagaaGreatDoor
open Go.RowKit
/-- 'string(b)' of a slice of the call's own. -/
theorem conv_own {w : World} {base : Nat} {v : Value} {n : Nat} {l : List UInt8} (h : w.ownsRow base 5 1 v n (l.map byteV)) (hn : l.length = n) :
    ∃ a cap, v = .slice a n cap ∧ (convert 132 9 (.slice a n cap)).run Tryz.prog w = .ok (.string (str l)) w := by
  subst hn
  have hh := h
  obtain ⟨_, h⟩ := h
  rcases h with ⟨rfl, h0⟩ | ⟨g, cap, cur, rfl, _, _, _, _, _, _⟩
  · have : l = [] := List.eq_nil_of_length_eq_zero h0
    subst this
    exact ⟨none, 0, rfl, run_convert_bytes_nil w 132 5 Tryz.underlying132 Tryz.underlying5 0 0 9 Tryz.underlying9⟩
  · refine ⟨_, cap, rfl, ?_⟩
    rw [run_convert_bytes_arg w 132 5 Tryz.underlying132 Tryz.underlying5 g 0 l.length cap (l.map fun b => (b.toNat : Int)) (by simp) (fun i hi => ?_) 9 Tryz.underlying9, str_nums]
    rw [Nat.zero_add, hh.cellAt i (by omega), List.getElem?_map, List.getElem?_eq_getElem hi]
    simp [List.getD, List.getElem?_eq_getElem hi, byteV]
end Go.Proofs.YtnkencdibniagaaGreatDoor

/- Digests in memory (wants the type api.Digest of the cut). -/
namespace Go.Proofs.YtnkencdibniagaaGreatDoor
open Go.RowKit
/-- A byte of a digest that is held as a value. -/
theorem idx_row (l : List UInt8) (k : Nat) (hk : k < 32) (hl : l.length = 32) : ∀ w, (Instr.index 24 (.agg (cells8 l)) (.int .i64 (k : Int))).run Tryz.prog w = .ok (.int .u8 ((l.getD k 0).toNat : Int)) w := by
  intro w
  have p1 := run_part_plain (P := Tryz.prog) w (e := 5) (by kernel_rfl) (cells8_get l k (by omega))
  have hs : (sizeOf 5).run Tryz.prog w = .ok 1 w := by kernel_rfl
  have hc : (0 : Int) ≤ (k : Int) ∧ (k : Int) < (32 : Nat) := by omega
  unfold Instr.index
  simp only [asIntOf, Sem.run_bind, Sem.run_pure, Result.andThen_ok, run_underlying Tryz.underlying24]
  rw [if_pos hc]
  simp only [Sem.run_bind, hs, Result.andThen_ok, Nat.mul_one, Int.toNat_natCast, p1]
  rfl
theorem info_digest {l : List UInt8} (hl : l.length = 32) : (Tryz.prog.info? 24).map (·.size) = some (cells8 l).size := by rw [cells8_size, hl]; kernel_rfl
end Go.Proofs.YtnkencdibniagaaGreatDoor

/- Layer 5, for whoever stands on it: a digit, as the document has it. (Out of DigA: it names nothing of the program.) -/
namespace Go.Proofs.YtnkencdibniagaaGreatDoor
open Go.RowKit

theorem digit_text : ∀ n, n < 16 → ((⟨#[48, 49, 50, 51, 52, 53, 54, 55, 56, 57, 97, 98, 99, 100, 101, 102]⟩ : ByteArray).extract n (n + 1)) = str [hexB n] := by decide
set_option maxHeartbeats 400000 in
theorem digit_any (n : Nat) (w : World) (h : n < 16) :
    Calls Tryz.prog 96 #[.int .u8 (n : Int)] w fun e w' => e = .returned (.string (str [hexB n])) ∧ w = w' := by
  have HT := Lib.hid (digit_text n h)
  have h1 : (n : Int) < 16 := by omega
  have h2 : ((n : Int) + 1).toNat = n + 1 := by omega
  go_enter Tryz.func96, Tryz.ntmps96
  go_wp2
  go_ret
  exact ⟨retStr HT.out, rfl⟩
end Go.Proofs.YtnkencdibniagaaGreatDoor

