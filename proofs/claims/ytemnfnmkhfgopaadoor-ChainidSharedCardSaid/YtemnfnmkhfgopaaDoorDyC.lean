/- (Out of DxC.) -/
import Derived.Test.YtemnfnmkhfgopaaDoorDyA
namespace Go.Proofs.YtemnfnmkhfgopaaDoor
open Go.RowKit

theorem take_snoc8 (l : List UInt8) (k : Nat) (h : k < l.length) : l.take (k + 1) = l.take k ++ [l.getD k 0] := by
  rw [List.take_succ_eq_append_getElem h, List.getD_eq_getElem?_getD, List.getElem?_eq_getElem h]; rfl
theorem cells8_at' {w : World} {b : Nat} {l : List UInt8} {t : TypeId} (h : rowC w b (cells8 l) t) {k : Nat} (hk : k < l.length) : w.cell? ⟨b, k, none⟩ = some (.int .u8 ((l.getD k 0).toNat : Int)) := by
  rw [rowC_cell h, cells8_get l k hk]; rfl
theorem text_step (l : List UInt8) (k : Nat) (h : k < l.length) :
    str (nameL ++ hexL (l.take k)) ++ str [hexB ((l.getD k 0).toNat / 16)] ++ str [hexB ((l.getD k 0).toNat % 16)] = str (nameL ++ hexL (l.take (k + 1))) := by
  rw [str_append, str_append, take_snoc8 l k h, hexL_snoc]
  congr 1
  simp
theorem text_size (l : List UInt8) (k : Nat) (h : k ≤ l.length) : (str (nameL ++ hexL (l.take k))).size = 7 + 2 * k := by
  rw [str_size, List.length_append, hexL_length, List.length_take, Nat.min_eq_left h]; rfl
set_option maxRecDepth 100000 in
set_option maxHeartbeats 1000000 in
theorem rtext_any (l : List UInt8) (w : World) (hl : l.length = 32) :
    Calls Tryd.prog 19 #[.agg (cells8 l)] w fun e w' => e = .returned (.string (str (textL l))) ∧ Below w.heap.size w w' := by
  have HL := Lib.hid hl
  clear hl
  go_enter Tryd.func19, Tryd.ntmps19
  go_wp2
  go_loopw [3, 4] (fun s i wr => ∃ k : Nat, k ≤ 32 ∧ i = .int .i64 k ∧ s = .string (str (nameL ++ hexL (l.take k))) ∧ rowC wr w.heap.size (cells8 l) 26 ∧ Below w.heap.size w wr) (fun _ i _ => 32 - (intOf i).toNat)
  case atStart => exact ⟨0, by omega, rfl, rfl, rowC_new w _ _, (Below.refl _ _).alloc (Nat.le_refl _) _⟩
  case round =>
    obtain ⟨k, hk, rfl, rfl, hr, hb⟩ := hrel
    have HR := Lib.hid hr
    have HB := Lib.hid hb
    by_cases hlt : k < 32
    · have hki : (k : Int) < 32 := by omega
      have h0 : (0 : Int) ≤ k := by omega
      have c0 := cells8_at' hr (k := k) (by rw [HL.out]; exact hlt)
      have HS := Lib.hid (text_step l k (by rw [HL.out]; exact hlt))
      have sz := text_size l k (by rw [HL.out]; omega)
      clear hr hb
      obtain ⟨x, hx⟩ : ∃ x, x = (l.getD k 0).toNat := ⟨_, rfl⟩
      have hx2 : x < 256 := by rw [hx]; exact UInt8.toNat_lt _
      rw [← hx] at c0 HS
      clear hx
      have q1 : (x : Int) / 16 = ((x / 16 : Nat) : Int) := by omega
      have q2 : (x : Int) % 16 = ((x % 16 : Nat) : Int) := by omega
      have z1 : (str [hexB (x / 16)]).size = 1 := rfl
      have z2 : (str [hexB (x % 16)]).size = 1 := rfl
      have d1 := fun (w : World) => digit_any (x / 16) w (by omega)
      have d2 := fun (w : World) => digit_any (x % 16) w (by omega)
      rw [← q1] at d1
      rw [← q2] at d2
      clear q1 q2
      go_wp2
      go_quiet ((first
        | (go_at_call 26; exact qs (d1 _))
        | (go_at_call 26; exact qs (d2 _))))
      go_wp2
      go_roundw
      case rel => exact ⟨k + 1, by omega, by go_num, by rw [← HS.out], rowC_drewN HR.out _, below_drewN HB.out _⟩
      case measure => simp [intOf]; omega
    · obtain rfl : k = 32 := by omega
      go_wp2
      go_ret
      exact ⟨retStr (by unfold textL; rw [List.take_of_length_le (by rw [HL.out]; omega)]), HB.out⟩
end Go.Proofs.YtemnfnmkhfgopaaDoor
