/- Layer 11: digits, a number. -/
import Derived.Test.YtlknngplnimdpaaGreatDoorJtC
namespace Go.Proofs.YtlknngplnimdpaaGreatDoor
open Go.RowKit

theorem isDg_iff (c : UInt8) : isDg c = true ↔ 48 ≤ c.toNat ∧ c.toNat ≤ 57 := by
  unfold isDg
  simp [UInt8.le_iff_toNat_le]
set_option maxHeartbeats 1000000 in
theorem isDigit_any (c : UInt8) (w : World) : Calls Tryz.prog 181 #[.int .u8 (c.toNat : Int)] w fun e w' => e = .returned (.bool (isDg c)) ∧ w = w' := by
  have hc := c.toNat_lt
  have hi := isDg_iff c
  generalize c.toNat = n at hc hi ⊢
  generalize isDg c = b at hi ⊢
  by_cases h1 : 48 ≤ n
  · by_cases h2 : n ≤ 57
    · obtain rfl : b = true := hi.2 ⟨h1, h2⟩
      have e1 : decide ((48 : Int) ≤ (n : Int)) = true := by rw [decide_eq_true_eq]; omega
      have e2 : decide ((n : Int) ≤ 57) = true := by rw [decide_eq_true_eq]; omega
      clear hi hc
      go_enter Tryz.func181, Tryz.ntmps181
      go_wp2
      go_ret
      exact ⟨rfl, rfl⟩
    · obtain rfl : b = false := by cases b; rfl; exact absurd (hi.1 rfl).2 h2
      have e1 : decide ((48 : Int) ≤ (n : Int)) = true := by rw [decide_eq_true_eq]; omega
      have e2 : decide ((n : Int) ≤ 57) = false := by rw [decide_eq_false_iff_not]; omega
      clear hi hc h2
      go_enter Tryz.func181, Tryz.ntmps181
      go_wp2
      go_ret
      exact ⟨rfl, rfl⟩
  · obtain rfl : b = false := by cases b; rfl; exact absurd (hi.1 rfl).1 h1
    have e1 : decide ((48 : Int) ≤ (n : Int)) = false := by rw [decide_eq_false_iff_not]; omega
    clear hi hc h1
    go_enter Tryz.func181, Tryz.ntmps181
    go_wp2
    go_ret
    exact ⟨rfl, rfl⟩
theorem dropD_tail {r : Bs} (h : isDg (hd r) = true) : dropD r = dropD r.tail ∧ r.tail.length < r.length ∧ r ≠ [] := by
  cases r with
  | nil => exact absurd h (by decide)
  | cons c r => exact ⟨by rw [dropD, if_pos (show isDg c = true from h)]; rfl, by simp, by simp⟩
/-- What a step leaves of the reader, when it is OK, and when it is wrong. -/
def okP (w : World) (q : Nat) (S x : Bs) (lev : Nat) (w' : World) : Prop := RdAt w' q S x lev ∧ Chg (· = q) w w'
def badP (w : World) (q : Nat) (S r : Bs) (w' : World) : Prop := (∃ x lev, RdAt w' q S x lev ∧ x <:+ r) ∧ Chg (· = q) w w'
theorem dig_yes {r x : Bs} (h : digP r = .ok () x) : (dropD r).length ≠ r.length ∧ dropD r = x := by
  unfold digP at h
  split at h
  · cases h
  · rename_i hn
    rw [Res.ok.injEq] at h
    exact ⟨hn, h.2⟩
theorem dig_no {r x : Bs} {code : Nat} (h : digP r = .bad code x) : (dropD r).length = r.length ∧ dropD r = x ∧ code = 10 ∧ x = r := by
  unfold digP at h
  split at h
  · rename_i hn
    rw [Res.bad.injEq] at h
    refine ⟨hn, ?_, h.1.symm, h.2.symm⟩
    rw [← h.2]
    obtain ⟨t, h1, _⟩ := dropD_pre r
    have : t = [] := List.eq_nil_of_length_eq_zero (by have := congrArg List.length h1; rw [List.length_append] at this; omega)
    rw [this, List.nil_append] at h1
    exact h1.symm
  · cases h
set_option maxHeartbeats 2000000 in
theorem digits_ok {w : World} {q : Nat} {S r x : Bs} {lev : Nat} (hS : okT S) (hx : digP r = .ok () x) (h : RdAt w q S r lev) :
    Calls Tryz.prog 161 #[.pointer (some ⟨q, 0, none⟩)] w fun e w' => e = .returned .nilIface ∧ okP w q S x lev w' := by
  obtain ⟨hx1, hx2⟩ := dig_yes hx
  have HX1 := Lib.hid hx1
  have HX2 := Lib.hid hx2
  have hN := fun w' r' (h' : RdAt w' q S r' lev) => next_any h'
  obtain ⟨_, c1, _⟩ := h.cell
  have H := Lib.hid h
  have HLE := Lib.hid h.le
  unfold okT at hS
  have HS := Lib.hid hS
  generalize hk0 : S.length - r.length = k0 at c1
  have HK0 := Lib.hid hk0
  clear hx hx1 hx2 hk0 h hS
  go_enter Tryz.func161, Tryz.ntmps161
  go_wp2
  go_loopg [] r.length (fun k wr => ∃ r', RdAt wr q S r' lev ∧ Hid (dropD r' = dropD r) ∧ Hid (r'.length = k) ∧ Chg (· = q) w wr)
  case atStart => exact ⟨r, H.out, Lib.hid rfl, Lib.hid rfl, Chg.refl _ _⟩
  case round =>
    clear c1
    obtain ⟨r', h', HD, HK, hC⟩ := hrel
    by_cases hb : isDg (hd r') = true
    · obtain ⟨hd1, hd2, hd3⟩ := dropD_tail hb
      have HD2 := Lib.hid hd1
      have HL := Lib.hid hd2
      obtain ⟨_, c1, _⟩ := h'.cell
      have f1 := h'.free 1
      have hle := h'.le
      have hSS := HS.out
      generalize hk : S.length - r'.length = k at c1
      have hk2 : k ≤ 4611686018427387904 := by omega
      have HM := Lib.hid (fun n => (h'.drewN n).move hd3 hk.symm)
      have hDg := fun w => isDigit_any (hd r') w
      rw [hb] at hDg
      clear hd1 hd2 hd3 hb hk hle hSS
      go_wp2_with (first
        | (go_at_call 132; ((with_reducible refine (hN _ _ h').mono ?_); rintro e w' ⟨rfl, n, rfl⟩))
        | (go_at_call 181; ((with_reducible refine (hDg _).mono ?_); rintro e w' ⟨rfl, rfl⟩)))
      go_roundg (r'.tail.length)
      case measure => rw [← HK.out]; exact HL.out
      case rel => exact ⟨r'.tail, HM.out _, Lib.hid (HD2.out.symm.trans HD.out), Lib.hid rfl, (hC.drewN _).setCell _ _ (.inl rfl)⟩
    · have hb' : isDg (hd r') = false := by simpa using hb
      have HE := Lib.hid (dropD_hd hb')
      obtain ⟨_, c1, _⟩ := h'.cell
      have hle := h'.le
      have hDg := fun w => isDigit_any (hd r') w
      rw [hb'] at hDg
      have hne : (((S.length - r'.length : Nat) : Int) == (k0 : Int)) = false := by
        rw [beq_eq_false_iff_ne]
        have h1 := HX1.out
        have h2 := HK0.out
        have h3 := HLE.out
        rw [← HD.out, HE.out] at h1
        omega
      generalize S.length - r'.length = k at c1 hne
      clear hb hb' hle
      go_wp2_with (first
        | (go_at_call 132; ((with_reducible refine (hN _ _ h').mono ?_); rintro e w' ⟨rfl, n, rfl⟩))
        | (go_at_call 181; ((with_reducible refine (hDg _).mono ?_); rintro e w' ⟨rfl, rfl⟩)))
      go_ret
      refine ⟨rfl, ?_, hC.drewN _⟩
      rw [← HX2.out, ← HD.out, HE.out]
      exact h'.drewN _
set_option maxHeartbeats 2000000 in
theorem digits_bad {w : World} {q : Nat} {S r x : Bs} {lev code : Nat} (hx : digP r = .bad code x) (h : RdAt w q S r lev) :
    Calls Tryz.prog 161 #[.pointer (some ⟨q, 0, none⟩)] w fun e w' => e = .returned (errAt S code x) ∧ badP w q S r w' := by
  obtain ⟨hx1, hx2, rfl, rfl⟩ := dig_no hx
  have hb' : isDg (hd x) = false := by
    rw [← hx2]; exact dropD_stop x
  have hN := next_any h
  obtain ⟨_, c1, _⟩ := h.cell
  have hDg := fun w => isDigit_any (hd x) w
  rw [hb'] at hDg
  have HP := Lib.hid (fun n => (⟨⟨x, lev, h.drewN n, List.suffix_refl x⟩, (Chg.refl _ w).drewN n⟩ : badP w q S x (w.drewN n)))
  unfold errAt
  generalize hk0 : S.length - x.length = k0 at c1 ⊢
  have heq : ((k0 : Int) == (k0 : Int)) = true := by simp
  clear hx hx1 hx2 hb' hk0 h
  go_enter Tryz.func161, Tryz.ntmps161
  go_wp2
  refine wp_loop_rounds 1 ?_
  rw [rounds_succ]
  go_wp2_with (first
    | (go_at_call 132; ((with_reducible refine hN.mono ?_); rintro e w' ⟨rfl, n, rfl⟩))
    | (go_at_call 181; ((with_reducible refine (hDg _).mono ?_); rintro e w' ⟨rfl, rfl⟩))
    | (go_at_call 100; ((with_reducible refine (unfit_any k0 _ rfl _).mono ?_); rintro e w' ⟨rfl, rfl⟩)))
  go_ret
  exact ⟨rfl, HP.out _⟩
end Go.Proofs.YtlknngplnimdpaaGreatDoor
