/- Layer 5: Less, as the document has it and as the program does. -/
import Derived.Test.YtndpdbfkpbflgaaDigA
namespace Go.Proofs.Ytndpdbfkpbflgaa
open Go.RowKit

/-- Two digests in memory, the one behind the other. -/
structure TwoM (W w : World) (l m : List UInt8) : Prop where
  r0 : rowC w W.heap.size (cells8 l) 23
  r1 : rowC w (W.heap.size + 1) (cells8 m) 23
  nx : Below W.heap.size W w
theorem TwoM.start (w : World) (l m : List UInt8) : TwoM w ((w.alloc (.cells (cells8 l) 23)).alloc (.cells (cells8 m) 23)) l m := by
  have h2 := rowC_new (w.alloc (.cells (cells8 l) 23)) (cells8 m) 23
  simp only [size_alloc] at h2
  exact ⟨rowC_alloc (rowC_new w _ _) _, h2, ((Below.refl _ _).alloc (Nat.le_refl _) _).alloc (by simp) _⟩
theorem TwoM.drewN {W w : World} {l m : List UInt8} (h : TwoM W w l m) (n : Nat) : TwoM W (w.drewN n) l m := ⟨h.r0, h.r1, below_drewN h.nx n⟩
theorem cells8_at {w : World} {b : Nat} {l : List UInt8} {t : TypeId} (h : rowC w b (cells8 l) t) {k : Nat} (hk : k < l.length) : w.cell? ⟨b, k, none⟩ = some (.int .u8 ((l.getD k 0).toNat : Int)) := by
  rw [rowC_cell h, cells8_get l k hk]; rfl
theorem u8_ne {a b : UInt8} (h : a ≠ b) : (((a.toNat : Int)) == (b.toNat : Int)) = false ∧ (((a.toNat : Int)) != (b.toNat : Int)) = true := by
  have e : (((a.toNat : Int)) == (b.toNat : Int)) = false := by rw [beq_u8, decide_eq_false h]
  exact ⟨e, by rw [bne, e]; rfl⟩

set_option maxRecDepth 100000 in
set_option maxHeartbeats 1000000 in
theorem less_any (l m : List UInt8) (w : World) (hl : l.length = 32) (hm : m.length = 32) :
    Calls Try.prog 13 #[.agg (cells8 l), .agg (cells8 m)] w fun e w' => e = .returned (.bool (lessL l m)) ∧ Below w.heap.size w w' := by
  obtain ⟨R, hR⟩ : ∃ R, R = lessL l m := ⟨_, rfl⟩
  rw [← hR]
  have HR := Lib.hid hR
  have HL := Lib.hid hl
  have HM := Lib.hid hm
  clear hR hl hm
  go_enter Try.func13, Try.ntmps13
  go_wp2
  go_loopw [6] (fun i wr => ∃ k : Nat, k ≤ 32 ∧ i = .int .i64 k ∧ R = lessL (l.drop k) (m.drop k) ∧ TwoM w wr l m) (fun i _ => 32 - (intOf i).toNat)
  case atStart => exact ⟨0, by omega, rfl, HR.out, TwoM.start w l m⟩
  case round =>
    obtain ⟨k, hk, rfl, hq, hmm⟩ := hrel
    have HQ := Lib.hid hq
    have M := Lib.hid hmm
    clear hq
    by_cases hlt : k < 32
    · have hki : (k : Int) < 32 := by omega
      have h0 : (0 : Int) ≤ k := by omega
      have c0 := cells8_at hmm.r0 (k := k) (by rw [HL.out]; exact hlt)
      have c1 := cells8_at hmm.r1 (k := k) (by rw [HM.out]; exact hlt)
      clear hmm
      by_cases he : l.getD k 0 = m.getD k 0
      · have HS := Lib.hid (lessL_step (l := l) (m := m) (k := k) (by rw [HL.out]; exact hlt) (by rw [HM.out]; exact hlt) he)
        rw [← he] at c1
        generalize (l.getD k 0).toNat = x at c0 c1
        clear he
        go_wp2
        go_quiet (fail)
        go_wp2
        go_roundw
        case rel => exact ⟨k + 1, by omega, by go_num, by rw [← HS.out]; exact HQ.out, M.out.drewN _⟩
        case measure => simp [intOf]; omega
      · have HS := Lib.hid (lessL_at (l := l) (m := m) (k := k) (by rw [HL.out]; exact hlt) (by rw [HM.out]; exact hlt) he)
        obtain ⟨n1, n2⟩ := u8_ne he
        generalize (l.getD k 0).toNat = x at c0 n1 n2 HS
        generalize (m.getD k 0).toNat = y at c1 n1 n2 HS
        clear he
        go_wp2
        go_quiet (fail)
        go_wp2
        replace c0 : (wr.drewN nq).cell? ⟨w.heap.size, k, none⟩ = _ := c0
        replace c1 : (wr.drewN nq).cell? ⟨w.heap.size + 1, k, none⟩ = _ := c1
        have M2 := Lib.hid (M.out.drewN nq)
        clear M
        generalize wr.drewN nq = wq at *
        go_quiet (fail)
        go_wp2
        go_ret
        exact ⟨retBool (by rw [HQ.out, HS.out]), below_drewN M2.out.nx _⟩
    · obtain rfl : k = 32 := by omega
      go_wp2
      go_ret
      exact ⟨retBool (by rw [HQ.out, List.drop_of_length_le (by rw [HL.out]; omega)]; rfl), M.out.nx⟩

set_option maxRecDepth 100000 in
set_option maxHeartbeats 1000000 in
theorem rless_any (l m : List UInt8) (w : World) (hl : l.length = 32) (hm : m.length = 32) :
    Calls Try.prog 14 #[.agg (cells8 l), .agg (cells8 m)] w fun e w' => e = .returned (.bool (lessL l m)) ∧ Below w.heap.size w w' := by
  obtain ⟨R, hR⟩ : ∃ R, R = lessL l m := ⟨_, rfl⟩
  rw [← hR]
  have HR := Lib.hid hR
  have HL := Lib.hid hl
  have HM := Lib.hid hm
  clear hR hl hm
  go_enter Try.func14, Try.ntmps14
  go_wp2
  go_loopw [5] (fun i wr => ∃ k : Nat, k ≤ 32 ∧ i = .int .i64 k ∧ R = lessL (l.drop k) (m.drop k) ∧ TwoM w wr l m) (fun i _ => 32 - (intOf i).toNat)
  case atStart => exact ⟨0, by omega, rfl, HR.out, TwoM.start w l m⟩
  case round =>
    obtain ⟨k, hk, rfl, hq, hmm⟩ := hrel
    have HQ := Lib.hid hq
    have M := Lib.hid hmm
    clear hq
    by_cases hlt : k < 32
    · have hki : (k : Int) < 32 := by omega
      have h0 : (0 : Int) ≤ k := by omega
      have c0 := cells8_at hmm.r0 (k := k) (by rw [HL.out]; exact hlt)
      have c1 := cells8_at hmm.r1 (k := k) (by rw [HM.out]; exact hlt)
      clear hmm
      by_cases he : l.getD k 0 = m.getD k 0
      · have HS := Lib.hid (lessL_step (l := l) (m := m) (k := k) (by rw [HL.out]; exact hlt) (by rw [HM.out]; exact hlt) he)
        rw [← he] at c1
        generalize (l.getD k 0).toNat = x at c0 c1
        clear he
        go_wp2
        go_quiet (fail)
        go_wp2
        go_roundw
        case rel => exact ⟨k + 1, by omega, by go_num, by rw [← HS.out]; exact HQ.out, M.out.drewN _⟩
        case measure => simp [intOf]; omega
      · have HS := Lib.hid (lessL_at (l := l) (m := m) (k := k) (by rw [HL.out]; exact hlt) (by rw [HM.out]; exact hlt) he)
        obtain ⟨n1, n2⟩ := u8_ne he
        generalize (l.getD k 0).toNat = x at c0 n1 n2 HS
        generalize (m.getD k 0).toNat = y at c1 n1 n2 HS
        clear he
        go_wp2
        go_quiet (fail)
        go_wp2
        replace c0 : (wr.drewN nq).cell? ⟨w.heap.size, k, none⟩ = _ := c0
        replace c1 : (wr.drewN nq).cell? ⟨w.heap.size + 1, k, none⟩ = _ := c1
        have M2 := Lib.hid (M.out.drewN nq)
        clear M
        generalize wr.drewN nq = wq at *
        go_quiet (fail)
        go_wp2
        go_ret
        exact ⟨retBool (by rw [HQ.out, HS.out]), below_drewN M2.out.nx _⟩
    · obtain rfl : k = 32 := by omega
      go_wp2
      go_ret
      exact ⟨retBool (by rw [HQ.out, List.drop_of_length_le (by rw [HL.out]; omega)]; rfl), M.out.nx⟩
end Go.Proofs.Ytndpdbfkpbflgaa
