/- Layer 6: the chapter's examples, for any disk that is the document's. -/
import Derived.Test.YtikeobmcnpncjaaSecI
namespace Go.Proofs.Ytikeobmcnpncjaa
open Go.RowKit

theorem own_crash1 {I : Impl} {W w : World} {q : Nat} {d : RD} (h : I.Own W w q d) (hok : d.ok) (hf : d.few) {r : Int} {d' : RD} (hr : d.crash [true] = (d', r)) :
    Calls Try.prog 16 #[.pointer (some ⟨q, 0, none⟩), .slice (some ⟨w.heap.size, 0, none⟩) 1 1] (w.alloc (.cells #[.bool true] 4)) fun e w' => e = .returned (.int .i64 r) ∧ I.Own W w' q d' := by
  obtain ⟨o, h1, h2, h3⟩ := h
  have hb : Below w.heap.size w (w.alloc (.cells #[.bool true] 4)) := (Below.refl _ _).alloc (Nat.le_refl _) _
  have hk : KeepAt (w.alloc (.cells #[.bool true] 4)) (.slice (some ⟨w.heap.size, 0, none⟩) 1 1) [true] :=
    .inr ⟨⟨w.heap.size, 0, none⟩, 1, rfl, fun j hj => by
      obtain rfl : j = 0 := by simp at hj; exact hj
      exact rowC_cell (rowC_new w #[.bool true] 4) 0⟩
  refine (I.crash (I.below h1 hb) hok hf hk (by decide) (fun ad n cap hv _ hob => ?_)).mono fun e w' ⟨he, hp⟩ => ?_
  · simp only [Value.slice.injEq, Option.some.injEq] at hv
    have := I.lt h1 _ hob
    rw [← hv.1] at this
    exact absurd this (Nat.lt_irrefl _)
  · rw [hr] at he hp
    exact ⟨he, Impl.Own.post (h2.trans (hb.mono h2.size)) h3 hp⟩
theorem keep_nil (w : World) : KeepAt w (.slice none 0 0) [] := .inl ⟨rfl, rfl⟩
theorem sp0_ok : sp0.ok := rdNew_ok (by decide) (by decide)
theorem few_of {d : RD} (h1 : d.loose.length ≤ 10) (h2 : d.starts ≤ 10) : d.few := ⟨by omega, by omega⟩
set_option maxRecDepth 100000 in
set_option maxHeartbeats 2000000 in
theorem spun_any (I : Impl) (w : World) :
    Calls Try.prog 8 #[] w fun e w' => e = .returned (.bool true) ∧ Below w.heap.size w w' := by
  have CN : Calls Try.prog 9 #[.int .i64 8] w fun e w' => ∃ q o, e = .returned (.tuple #[.pointer (some ⟨q, 0, none⟩), .int .i64 0]) ∧ I.Inv w' q sp0 o ∧ Below w.heap.size w w' ∧ ∀ k, o k → w.heap.size ≤ k := I.new 8 w (by decide) (by decide)
  obtain ⟨A, hA⟩ : ∃ A, A = secB 97 := ⟨_, rfl⟩
  obtain ⟨B, hB⟩ : ∃ B, B = secB 98 := ⟨_, rfl⟩
  have sA : A.size = 512 := by rw [hA]; exact secB_size _
  have sB : B.size = 512 := by rw [hB]; exact secB_size _
  have CA : ∀ {w' q d}, I.Own w w' q d → Calls Try.prog 23 #[.int .u8 97] w' fun e w'' => e = .returned (.string A) ∧ I.Own w w'' q d := fun h => by rw [hA]; exact own_sector h 97
  have CB : ∀ {w' q d}, I.Own w w' q d → Calls Try.prog 23 #[.int .u8 98] w' fun e w'' => e = .returned (.string B) ∧ I.Own w w'' q d := fun h => by rw [hB]; exact own_sector h 98
  clear hA hB
  have k1 := sp0_ok.write 2 A
  have k2 := k1.write 2 B
  rw [sp_w1 sA] at k1
  rw [sp_w1 sA] at k2
  dsimp only at k2
  rw [sp_w2 sB] at k2
  have k3 := (k2.crash [true])
  dsimp only at k3
  rw [sp_cr] at k3
  have k4 := k3.start
  dsimp only at k4
  rw [sp_st] at k4
  have k5 := k4.fail (n := 1) (by decide) []
  dsimp only at k5
  rw [sp_fa] at k5
  have k6 := k5.flush
  dsimp only at k6
  rw [sp_f1] at k6
  have k7 := k6.flush
  dsimp only at k7
  rw [sp_f2] at k7
  dsimp only at k1 k2 k3 k4 k5 k6 k7
  have n0 : sp0.few := few_of (by decide) (by decide)
  have n1 : RD.few { sp0 with loose := [(2, A)] } := few_of (by simp) (by simp [sp0, rdNew])
  have n2 : (sp2 A B).few := few_of (by simp [sp2]) (by simp [sp2, sp0, rdNew])
  have n3 : ∀ s dn lf, s ≤ 1 → (sp3 A s dn lf).few := fun s dn lf h => few_of (by simp [sp3, sp0, rdNew]) (by simp [sp3]; omega)
  have mA : A.size ≤ maxLen := by rw [sA]; decide
  have mB : B.size ≤ maxLen := by rw [sB]; decide
  have mX : (ByteArray.mk #[120]).size ≤ maxLen := by decide
  have q1 := sp_w1 sA
  have q2 := sp_w2 (a := A) sB
  have q3 := sp_cr A B
  have q4 := sp_st A
  have q6 := sp_w9 A A
  have q7 := sp_wx A
  have q8 := sp_fa A
  have q9 := sp_f1 A
  have q10 := sp_f2 A
  have q5 := sp_rd A
  have K1' := Lib.hid k1
  have K2' := Lib.hid k2
  have K3' := Lib.hid k3
  have K4' := Lib.hid k4
  have K5' := Lib.hid k5
  have K6' := Lib.hid k6
  have K7' := Lib.hid k7
  have N0' := Lib.hid n0
  have N1' := Lib.hid n1
  have N2' := Lib.hid n2
  have N3' := Lib.hid n3
  have MA' := Lib.hid mA
  have MB' := Lib.hid mB
  have MX' := Lib.hid mX
  have Q1' := Lib.hid q1
  have Q2' := Lib.hid q2
  have Q3' := Lib.hid q3
  have Q4' := Lib.hid q4
  have Q5' := Lib.hid q5
  have Q6' := Lib.hid q6
  have Q7' := Lib.hid q7
  have Q8' := Lib.hid q8
  have Q9' := Lib.hid q9
  have Q10' := Lib.hid q10
  clear k1 k2 k3 k4 k5 k6 k7 n0 n1 n2 n3 mA mB mX q1 q2 q3 q4 q5 q6 q7 q8 q9 q10 sA sB
  go_enter Try.func8, Try.ntmps8
  go_wp2_with (first
    | (go_at_call 9; ((with_reducible refine (CN).mono ?_); rintro e w1 ⟨q, o, rfl, hI, hb, ho⟩); have m1 : I.Own w w1 q sp0 := ⟨o, hI, hb, ho⟩; clear hI hb ho)
    | (go_at_call 23; ((with_reducible refine (CA m1).mono ?_); rintro e w2 ⟨rfl, m2⟩))
    | (go_at_call 14; ((with_reducible refine (own_write m2 sp0_ok N0'.out 2 A MA'.out Q1'.out).mono ?_); rintro e w3 ⟨rfl, m3⟩))
    | (go_at_call 23; ((with_reducible refine (CB m3).mono ?_); rintro e w4 ⟨rfl, m4⟩))
    | (go_at_call 14; ((with_reducible refine (own_write m4 K1'.out N1'.out 2 B MB'.out Q2'.out).mono ?_); rintro e w5 ⟨rfl, m5⟩))
    | (go_at_call 16; ((with_reducible refine (own_crash1 m5 K2'.out N2'.out Q3'.out).mono ?_); rintro e w6 ⟨rfl, m6⟩))
    | (go_at_call 17; ((with_reducible refine (own_start m6 K3'.out (N3'.out _ _ _ (by decide)) Q4'.out).mono ?_); rintro e w7 ⟨rfl, m7⟩); have CR := own_read m7 K4'.out (N3'.out _ _ _ (by decide)) 2; rw [Q5'.out] at CR)
    | (go_at_call 13; ((with_reducible refine (CR).mono ?_); rintro e w8 ⟨rfl, m8⟩); clear CR)
    | (go_at_call 23; ((with_reducible refine (CA m8).mono ?_); rintro e w9 ⟨rfl, m9⟩))
    | (go_at_call 23; ((with_reducible refine (CA m9).mono ?_); rintro e w10 ⟨rfl, m10⟩))
    | (go_at_call 14; ((with_reducible refine (own_write m10 K4'.out (N3'.out _ _ _ (by decide)) 9 A MA'.out Q6'.out).mono ?_); rintro e w11 ⟨rfl, m11⟩))
    | (go_at_call 14; ((with_reducible refine (own_write m11 K4'.out (N3'.out _ _ _ (by decide)) 1 ⟨#[120]⟩ MX'.out Q7'.out).mono ?_); rintro e w12 ⟨rfl, m12⟩))
    | (go_at_call 18; ((with_reducible refine (own_fail m12 K4'.out (N3'.out _ _ _ (by decide)) 1 (by decide) (keep_nil _) (by decide) (fun _ _ _ _ _ h _ => by cases h) Q8'.out).mono ?_); rintro e w13 ⟨rfl, m13⟩))
    | (go_at_call 15; ((with_reducible refine (own_flush m13 K5'.out (N3'.out _ _ _ (by decide)) Q9'.out).mono ?_); rintro e w14 ⟨rfl, m14⟩))
    | (go_at_call 15; ((with_reducible refine (own_flush m14 K6'.out (N3'.out _ _ _ (by decide)) Q10'.out).mono ?_); rintro e w15 ⟨rfl, m15⟩); have CU := own_up m15 K7'.out; rw [show (sp3 A 1 true (-1)).down = true from rfl] at CU)
    | (go_at_call 21; ((with_reducible refine (CU).mono ?_); rintro e w16 ⟨rfl, m16⟩)))
  go_ret
  obtain ⟨_, _, hb16, _⟩ := m16
  exact ⟨rfl, hb16⟩
end Go.Proofs.Ytikeobmcnpncjaa
