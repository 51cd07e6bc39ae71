/- Layer 11: what is taken; where it is wrong; blanks. -/
import Derived.Test.YtlknngplnimdpaaGreatDoorJtA
import Derived.Deep.LoopGhost
namespace Go.Proofs.YtlknngplnimdpaaGreatDoor
open Go.RowKit

/-- An error, and where it stands. -/
def errV (code : Nat) (k : Nat) : Value := .iface 126 (.agg #[.int .i64 (k : Int), .int .i64 (code : Int)])
def errAt (S : Bs) (code : Nat) (r : Bs) : Value := errV code (S.length - r.length)
theorem unfit_any (k : Nat) (x : Int) (hx : x = k) (w : World) : Calls Tryz.prog 100 #[.int .i64 x] w fun e w' => e = .returned (errV 10 k) ∧ w = w' := by
  subst hx
  go_enter Tryz.func100, Tryz.ntmps100
  go_wp2
  go_ret
  exact ⟨rfl, rfl⟩
def takeB (r : Bs) (c : UInt8) : Bool := decide (hd r = c)
def takeR (r : Bs) (c : UInt8) : Bs := if hd r = c then r.tail else r
theorem take_yes {r : Bs} {c : UInt8} (h : hd r = c) : takeB r c = true ∧ takeR r c = r.tail := ⟨by unfold takeB; simpa using h, if_pos h⟩
theorem take_no {r : Bs} {c : UInt8} (h : ¬ hd r = c) : takeB r c = false ∧ takeR r c = r := ⟨by unfold takeB; simpa using h, if_neg h⟩
theorem u8_ne {a b : UInt8} (h : ¬ a = b) : ¬ ((a.toNat : Int) = (b.toNat : Int)) := fun e => h (UInt8.toNat_inj.1 (by omega))
set_option maxHeartbeats 1000000 in
/-- A byte is taken. -/
theorem take_any {w : World} {q : Nat} {S r : Bs} {lev : Nat} (h : RdAt w q S r lev) (hS : okT S) (c : UInt8) (x : Int) (hx : x = (c.toNat : Int)) (hc : c ≠ 0) :
    Calls Tryz.prog 138 #[.pointer (some ⟨q, 0, none⟩), .int .u8 x] w fun e w' => e = .returned (.bool (takeB r c)) ∧ RdAt w' q S (takeR r c) lev ∧ Chg (· = q) w w' := by
  subst hx
  have hN := fun w' (h' : RdAt w' q S r lev) => next_any h'
  have H := Lib.hid h
  by_cases hr : hd r = c
  · have hne : r ≠ [] := ne_hd hr hc
    rw [(take_yes hr).1, (take_yes hr).2]
    rw [hr] at hN
    have hle := h.le
    unfold okT at hS
    obtain ⟨_, c1, _⟩ := h.cell
    have f1 := h.free 1
    generalize hk : S.length - r.length = k at c1
    have hk2 : k ≤ 4611686018427387904 := by omega
    have HM := Lib.hid (fun n => (h.drewN n).move hne hk.symm)
    clear hle hS hk hr h
    go_enter Tryz.func138, Tryz.ntmps138
    go_wp2_with (go_at_call 132; ((with_reducible refine (hN _ H.out).mono ?_); rintro e w' ⟨rfl, n, rfl⟩))
    go_ret
    exact ⟨rfl, HM.out n, ((Chg.refl _ w).drewN n).setCell _ _ (.inl rfl)⟩
  · rw [(take_no hr).1, (take_no hr).2]
    have hne : ((((hd r).toNat : Nat) : Int) != ((c.toNat : Nat) : Int)) = true := by
      rw [bne_iff_ne]; exact u8_ne hr
    clear hr h hS
    go_enter Tryz.func138, Tryz.ntmps138
    go_wp2_with (go_at_call 132; ((with_reducible refine (hN _ H.out).mono ?_); rintro e w' ⟨rfl, n, rfl⟩))
    go_ret
    exact ⟨rfl, H.out.drewN n, (Chg.refl _ w).drewN n⟩
end Go.Proofs.YtlknngplnimdpaaGreatDoor
