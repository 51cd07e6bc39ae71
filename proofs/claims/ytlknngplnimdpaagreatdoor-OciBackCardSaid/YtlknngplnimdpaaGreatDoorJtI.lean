/- Layer 11: the four digits of a unit; both units; escapes. -/
import Derived.Test.YtlknngplnimdpaaGreatDoorJtH
namespace Go.Proofs.YtlknngplnimdpaaGreatDoor
open Go.RowKit

theorem i32_or16 (c n : Nat) (hc : c < 4096) (hn : n < 16) : bits .or .i32 ((c : Int) * 16) (n : Int) = (c : Int) * 16 + (n : Int) := by
  have h1 : ((c : Int) * 16) = ((c * 16 : Nat) : Int) := by omega
  rw [h1]
  show IntKind.i32.wrap ((BitVec.ofInt 32 ((c * 16 : Nat) : Int) ||| BitVec.ofInt 32 (n : Int)).toNat : Int) = _
  rw [BitVec.toNat_or, ofInt_u32 _ (by omega), ofInt_u32 _ (by omega)]
  have e : c * 16 ||| n = c * 16 + n := by
    rw [show c * 16 = c <<< 4 by rw [Nat.shiftLeft_eq], ← Nat.shiftLeft_add_eq_or_of_lt (show n < 2 ^ 4 by omega)]
  rw [e, IntKind.wrap_i32]
  omega
/-- What a reading of a number says of a call that answers it and an error. -/
def saysN (w : World) (q : Nat) (S r : Bs) (lev : Nat) (R : Res Nat) (e : Ending) (w' : World) : Prop :=
  match R with
  | .ok n x => e = .returned (.tuple #[.int .i32 (n : Int), .nilIface]) ∧ okP w q S x lev w'
  | .bad code x => e = .returned (.tuple #[.int .i32 0, errAt S code x]) ∧ badP w q S r w'
theorem saysN_ok {w w' : World} {q : Nat} {S r x : Bs} {lev n : Nat} {R : Res Nat} (hR : R = .ok n x) (h : okP w q S x lev w') : saysN w q S r lev R (.returned (.tuple #[.int .i32 (n : Int), .nilIface])) w' := by
  rw [hR]; exact ⟨rfl, h⟩
theorem saysN_bad {w w' : World} {q : Nat} {S r x : Bs} {lev code : Nat} {R : Res Nat} (hR : R = .bad code x) (h : badP w q S r w') : saysN w q S r lev R (.returned (.tuple #[.int .i32 0, errAt S code x])) w' := by
  rw [hR]; exact ⟨rfl, h⟩
theorem hex_ne {r : Bs} {n : Nat} (h : hexV (hd r) = some n) : r ≠ [] := by
  rintro rfl
  cases h
set_option maxRecDepth 100000 in
set_option maxHeartbeats 2000000 in
theorem unit_any {w : World} {q : Nat} {S r : Bs} {lev : Nat} (hS : okT S) (h : RdAt w q S r lev) :
    Calls Tryz.prog 204 #[.pointer (some ⟨q, 0, none⟩)] w fun e w' => saysN w q S r lev (unitP 4 0 r) e w' := by
  have H := Lib.hid h
  have hN := fun w' r' (h' : RdAt w' q S r' lev) => next_any h'
  clear h
  unfold okT at hS
  have HS := Lib.hid hS
  clear hS
  go_enter Tryz.func204, Tryz.ntmps204
  go_wp2
  go_loopg [7, 4, 5, 6] 4 (fun g t7 t4 t5 t6 wr => ∃ (j c : Nat) (r' : Bs), t7 = .int .i64 (j : Int) ∧ t4 = .int .i32 (c : Int) ∧ j ≤ 4 ∧ Hid (g = 4 - j) ∧ Hid (c < 16 ^ j) ∧ RdAt wr q S r' lev ∧ Hid (unitP (4 - j) c r' = unitP 4 0 r) ∧ Hid (r' <:+ r) ∧ Chg (· = q) w wr)
  case atStart => exact ⟨0, 0, r, rfl, rfl, by omega, Lib.hid rfl, Lib.hid (by decide), H.out, Lib.hid rfl, Lib.hid (List.suffix_refl r), Chg.refl _ _⟩
  case round =>
    obtain ⟨j, c, r', rfl, rfl, hj, HG, HC, h', HP, HSf, hC⟩ := hrel
    by_cases hlt : j < 4
    · have hst : unitP (4 - j) c r' = match hexV (hd r') with | some n => unitP (4 - (j + 1)) (c * 16 + n) r'.tail | none => .bad 10 r' := by
        rw [show 4 - j = (4 - (j + 1)) + 1 by omega, unitP]
        cases hexV (hd r') <;> rfl
      obtain ⟨_, c1, _⟩ := h'.cell
      have f1 := h'.free 1
      have hle := h'.le
      have hSS := HS.out
      generalize hk : S.length - r'.length = k at c1
      have hk2 : k ≤ 4611686018427387904 := by omega
      cases hx : hexV (hd r') with
      | some n =>
        rw [hx] at hst
        have HQ := Lib.hid (show unitP (4 - (j + 1)) (c * 16 + n) r'.tail = unitP 4 0 r from hst.symm.trans HP.out)
        have hn := hexV_lt hx
        have hc4 : c < 4096 := by
          have h1 := HC.out
          have : 16 ^ j ≤ 16 ^ 3 := Nat.pow_le_pow_right (by omega) (by omega)
          omega
        have HC2 := Lib.hid (show c * 16 + n < 16 ^ (j + 1) by have := HC.out; rw [Nat.pow_succ]; omega)
        have HV := fun w => valueOf_some hx w
        have HM := Lib.hid (fun n => (h'.drewN n).move (hex_ne hx) hk.symm)
        have hor := i32_or16 c n hc4 hn
        clear hst hx hk hle hSS
        go_wp2_with (first
          | (go_at_call 132; ((with_reducible refine (hN _ _ h').mono ?_); rintro e w' ⟨rfl, m, rfl⟩))
          | (go_at_call 209; ((with_reducible refine (HV _).mono ?_); rintro e w' ⟨rfl, rfl⟩)))
        go_roundg (4 - (j + 1))
        case measure => have := HG.out; omega
        case rel => exact ⟨j + 1, c * 16 + n, r'.tail, by go_num, by go_num, by omega, Lib.hid rfl, HC2, HM.out _, HQ, Lib.hid ((List.tail_suffix r').trans HSf.out), (hC.drewN _).setCell _ _ (.inl rfl)⟩
      | none =>
        rw [hx] at hst
        have HQ := Lib.hid (show unitP 4 0 r = .bad 10 r' from HP.out.symm.trans hst)
        have HV := fun w => valueOf_none hx w
        have HK := Lib.hid hk
        clear hst hx hk hle hSS
        go_wp2_with (first
          | (go_at_call 132; ((with_reducible refine (hN _ _ h').mono ?_); rintro e w' ⟨rfl, m, rfl⟩))
          | (go_at_call 209; ((with_reducible refine (HV _).mono ?_); rintro e w' ⟨rfl, rfl⟩))
          | (go_at_call 100; ((with_reducible refine (unfit_any k _ rfl _).mono ?_); rintro e w2 ⟨rfl, rfl⟩; unfold errV)))
        go_ret2
        have := saysN_bad (w := w) (w' := wr.drewN m) (q := q) (S := S) (r := r) (lev := lev) HQ.out ⟨⟨r', lev, h'.drewN _, HSf.out⟩, hC.drewN _⟩
        unfold errAt at this
        rw [HK.out] at this
        exact this
    · obtain rfl : j = 4 := by omega
      have HQ := Lib.hid (show unitP 4 0 r = .ok c r' from HP.out.symm)
      clear hlt
      go_wp2
      go_ret2
      exact saysN_ok HQ.out ⟨h', hC⟩
end Go.Proofs.YtlknngplnimdpaaGreatDoor
