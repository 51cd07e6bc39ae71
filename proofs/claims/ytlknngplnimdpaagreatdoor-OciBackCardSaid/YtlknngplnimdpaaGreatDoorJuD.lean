/- Layer 11: a rune as it stands in a string. -/
import Derived.Test.YtlknngplnimdpaaGreatDoorJuC
namespace Go.Proofs.YtlknngplnimdpaaGreatDoor
open Go.RowKit

def escsL : Bs := [34, 92, 98, 102, 110, 114, 116]
/-- Where a rune stands among what is escaped; -1: nowhere. -/
def escI (c : Nat) : Int := if c < 128 then Lib.indexByte escdL (UInt8.ofNat c) else -1
theorem index_any {c : Nat} (hc : scal c) (w : World) : Calls Tryz.prog 163 #[.string ⟨#[34, 92, 8, 12, 10, 13, 9]⟩, .int .i32 (c : Int)] w fun e w' => e = .returned (.int .i64 (escI c)) ∧ Below w.heap.size w w' := by
  unfold escI
  by_cases h : c < 128
  · rw [if_pos h]
    refine (Tryz.strings_IndexRune_ascii ⟨#[34, 92, 8, 12, 10, 13, 9]⟩ (c : Int) w (by omega) (by omega)).mono fun e w' h2 => ?_
    obtain ⟨rfl, rfl⟩ := h2
    exact ⟨rfl, Below.refl _ _⟩
  · rw [if_neg h]
    by_cases h2 : c = 65533
    · subst h2
      exact index_err w
    · exact index_big hc (by omega) h2 w
def escCk (c : Nat) : Bool := match escR c with
  | some b => (List.range 7).any fun i => decide (Lib.indexByte escdL (UInt8.ofNat c) = (i : Int)) && decide (escsL.getD i 0 = b)
  | none => decide (Lib.indexByte escdL (UInt8.ofNat c) = -1)
set_option maxRecDepth 100000 in
theorem esc_ck : ∀ c : Fin 128, escCk c.val = true := by decide
theorem escI_some {c : Nat} (hc : c < 128) {b : UInt8} (h : escR c = some b) : ∃ i : Nat, i < 7 ∧ Lib.indexByte escdL (UInt8.ofNat c) = (i : Int) ∧ escsL.getD i 0 = b := by
  have := esc_ck ⟨c, hc⟩
  unfold escCk at this
  rw [h] at this
  obtain ⟨i, hi, h2⟩ := List.any_eq_true.1 this
  rw [Bool.and_eq_true, decide_eq_true_eq, decide_eq_true_eq] at h2
  exact ⟨i, List.mem_range.1 hi, h2⟩
theorem escI_none {c : Nat} (hc : c < 128) (h : escR c = none) : Lib.indexByte escdL (UInt8.ofNat c) = -1 := by
  have := esc_ck ⟨c, hc⟩
  unfold escCk at this
  rw [h] at this
  simpa using this
theorem esc_ext : ∀ i : Fin 7, (⟨#[92]⟩ : ByteArray) ++ (⟨#[34, 92, 98, 102, 110, 114, 116]⟩ : ByteArray).extract i.val (i.val + 1) = str [92, escsL.getD i.val 0] := by
  intro i
  refine bytes_toList ?_
  revert i
  decide
set_option maxRecDepth 100000 in
set_option maxHeartbeats 4000000 in
theorem printed_any {c : Nat} (hc : scal c) (w : World) (tz : w.cell? ⟨9, 15, none⟩ = some (.int .u8 4)) :
    Calls Tryz.prog 144 #[.int .i32 (c : Int)] w fun e w' => e = .returned (.string (str (printedR c))) ∧ Below w.heap.size w w' := by
  have CI := index_any hc w
  cases he : escR c with
  | some b =>
    have h128 := escR_lt he
    obtain ⟨i, hi, h1, h2⟩ := escI_some h128 he
    have hP : Hid (printedR c = [92, b]) := Lib.hid (by unfold printedR; rw [he])
    have hx : (⟨#[92]⟩ : ByteArray) ++ (⟨#[34, 92, 98, 102, 110, 114, 116]⟩ : ByteArray).extract i (i + 1) = str [92, escsL.getD i 0] := esc_ext ⟨i, hi⟩
    rw [h2] at hx
    have e1 : escI c = (i : Int) := by unfold escI; rw [if_pos h128]; exact h1
    rw [e1] at CI
    have HX := Lib.hid hx
    have i0 : (i : Int) ≤ 6 := by omega
    clear hx tz h1 h2 e1 hi he hc h128
    go_enter Tryz.func144, Tryz.ntmps144
    go_wp2_with (go_at_call 163; ((with_reducible refine CI.mono ?_); rintro e w2 ⟨rfl, hb⟩))
    go_ret
    rw [hP.out, HX.out]
    exact ⟨rfl, hb⟩
  | none =>
    have e1 : escI c = -1 := by
      unfold escI
      by_cases h : c < 128
      · rw [if_pos h]
        exact escI_none h he
      · rw [if_neg h]
    rw [e1] at CI
    have hlt := World.block_lt_of_cell? w _ tz
    have CF := fun w2 (hb : Below w.heap.size w w2) (h32 : c < 32) => fmt_any c h32 w2 ((hb.cell hlt).trans tz)
    by_cases h16 : c < 16
    · have hP : Hid ((⟨#[92, 117, 48, 48, 48]⟩ : ByteArray) ++ str (hexS c) = str (printedR c)) := Lib.hid (by
        show str [92, 117, 48, 48, 48] ++ str (hexS c) = _
        rw [str_append]; unfold printedR hexS; rw [he, if_pos h16]; simp [h16])
      have hs : (str (hexS c)).size = 1 := by rw [str_size]; unfold hexS; rw [if_pos h16]; rfl
      have h16' : (c : Int) < 16 := by omega
      have h0 : (0 : Int) ≤ c := by omega
      have CF' := fun w2 (hb : Below w.heap.size w w2) => CF w2 hb (by omega)
      generalize str (hexS c) = s at *
      clear CF tz hlt hc h16 he e1
      go_enter Tryz.func144, Tryz.ntmps144
      go_wp2_with (first
        | (go_at_call 163; ((with_reducible refine CI.mono ?_); rintro e w2 ⟨rfl, hb⟩))
        | (go_at_call 164; ((with_reducible refine (CF' _ hb).mono ?_); rintro e w3 ⟨rfl, hb3⟩)))
      go_ret
      rw [hP.out]
      exact ⟨rfl, hb.trans (hb3.mono hb.size)⟩
    by_cases h32 : c < 32
    · have hP : Hid ((⟨#[92, 117, 48, 48]⟩ : ByteArray) ++ str (hexS c) = str (printedR c)) := Lib.hid (by
        show str [92, 117, 48, 48] ++ str (hexS c) = _
        rw [str_append]; unfold printedR hexS; rw [he, if_neg h16]; simp [h16, h32])
      have hs : (str (hexS c)).size = 2 := by rw [str_size]; unfold hexS; rw [if_neg h16]; rfl
      have h16' : ¬ (c : Int) < 16 := by omega
      have h32' : (c : Int) < 32 := by omega
      have h0 : (0 : Int) ≤ c := by omega
      have CF' := fun w2 (hb : Below w.heap.size w w2) => CF w2 hb (by omega)
      generalize str (hexS c) = s at *
      clear CF tz hlt hc h16 he e1 h32
      go_enter Tryz.func144, Tryz.ntmps144
      go_wp2_with (first
        | (go_at_call 163; ((with_reducible refine CI.mono ?_); rintro e w2 ⟨rfl, hb⟩))
        | (go_at_call 164; ((with_reducible refine (CF' _ hb).mono ?_); rintro e w3 ⟨rfl, hb3⟩)))
      go_ret
      rw [hP.out]
      exact ⟨rfl, hb.trans (hb3.mono hb.size)⟩
    · have hP : Utf8.encode (c : Int) = str (printedR c) := by
        rw [utf_enc hc]; unfold printedR; rw [he]; simp [h16, h32]
      generalize str (printedR c) = p at *
      have h16' : ¬ (c : Int) < 16 := by omega
      have h32' : ¬ (c : Int) < 32 := by omega
      have d16 : decide ((c : Int) < 16) = false := by simpa using h16'
      have d32 : decide ((c : Int) < 32) = false := by simpa using h32'
      clear h16' h32'
      clear CF tz hlt hc h16 he e1 h32
      go_enter Tryz.func144, Tryz.ntmps144
      go_wp2_with (go_at_call 163; ((with_reducible refine CI.mono ?_); rintro e w2 ⟨rfl, hb⟩))
      go_ret
      exact ⟨rfl, hb⟩
end Go.Proofs.YtlknngplnimdpaaGreatDoor
