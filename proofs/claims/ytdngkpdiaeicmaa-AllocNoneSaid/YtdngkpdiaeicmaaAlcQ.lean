/- Layer 8: AllocOf. -/
import Derived.Test.YtdngkpdiaeicmaaAlcP
namespace Go.Proofs.Ytdngkpdiaeicmaa
open Go.RowKit

theorem of_no {w w' : World} {e : Ending} {s : List UInt8} {m : Nat} {Inv : World → Nat → List Bool → (Nat → Prop) → Prop}
    (h : (ofL s m = none ∧ e = .returned (.tuple #[.pointer none, .int .i64 10]) ∧ Below w.heap.size w w') ∨ ∃ L q o, ofL s m = some L ∧ e = .returned (.tuple #[.pointer (some ⟨q, 0, none⟩), .int .i64 0]) ∧ Inv w' q L o ∧ Below w.heap.size w w' ∧ ∀ k, o k → w.heap.size ≤ k)
    (ho : ofL s m = none) : e = .returned (.tuple #[.pointer none, .int .i64 10]) ∧ Below w.heap.size w w' := by
  rcases h with ⟨_, h1, h2⟩ | ⟨L, _, _, h1, _⟩
  · exact ⟨h1, h2⟩
  · rw [ho] at h1; cases h1
theorem of_yes {w w' : World} {e : Ending} {s : List UInt8} {m : Nat} {L : List Bool} {Inv : World → Nat → List Bool → (Nat → Prop) → Prop}
    (h : (ofL s m = none ∧ e = .returned (.tuple #[.pointer none, .int .i64 10]) ∧ Below w.heap.size w w') ∨ ∃ L q o, ofL s m = some L ∧ e = .returned (.tuple #[.pointer (some ⟨q, 0, none⟩), .int .i64 0]) ∧ Inv w' q L o ∧ Below w.heap.size w w' ∧ ∀ k, o k → w.heap.size ≤ k)
    (ho : ofL s m = some L) : ∃ q o, e = .returned (.tuple #[.pointer (some ⟨q, 0, none⟩), .int .i64 0]) ∧ Inv w' q L o ∧ Below w.heap.size w w' := by
  rcases h with ⟨h1, _⟩ | ⟨L', q, o, h1, h2, h3, h4, _⟩
  · rw [ho] at h1; cases h1
  · rw [ho] at h1
    obtain rfl := Option.some.inj h1
    exact ⟨q, o, h2, h3, h4⟩
theorem rof_none {w w' : World} {e : Ending} {s : List UInt8} {m : Nat} (h : RefOf w s m e w') (ho : ofL s m = none) : e = .returned (.tuple #[.pointer none, .int .i64 10]) ∧ Below w.heap.size w w' := by
  rcases h with ⟨_, h1, h2⟩ | ⟨L, _, _, h1, _⟩
  · exact ⟨h1, h2⟩
  · rw [ho] at h1; cases h1
theorem rof_yes {w w' : World} {e : Ending} {s : List UInt8} {m : Nat} {L : List Bool} (h : RefOf w s m e w') (ho : ofL s m = some L) : ∃ p v, e = .returned (.tuple #[.pointer (some ⟨p, 0, none⟩), .int .i64 0]) ∧ RefM w' p v L ∧ Below w.heap.size w w' := by
  rcases h with ⟨h1, _⟩ | ⟨L', p, v, h1, h2, h3, h4, _⟩
  · rw [ho] at h1; cases h1
  · rw [ho] at h1
    obtain rfl := Option.some.inj h1
    exact ⟨p, v, h2, h3, h4⟩
set_option maxRecDepth 100000 in
set_option maxHeartbeats 4000000 in
theorem of_any (I : Impl) (s : ByteArray) (n : Int) (w : World) (hs : s.size ≤ maxLen) (hn : isI n) :
    Calls Try.prog 4 #[.string s, .int .i64 n] w fun e w' => e = .returned (.bool true) ∧ Below w.heap.size w w' := by
  have CU := Lib.hid (fun w' => took_any I w')
  unfold maxLen at hs
  by_cases h6 : 600 < s.size
  · have g1 : (600 : Int) < (s.size : Int) := by omega
    clear h6
    go_enter Try.func4, Try.ntmps4
    go_wp2_with (go_at_call 9; ((with_reducible refine (CU.out _).mono ?_); rintro e w2 ⟨rfl, b2⟩))
    go_ret
    exact ⟨rfl, b2⟩
  have g1 : (s.size : Int) ≤ 600 := by omega
  go_enter Try.func4, Try.ntmps4
  go_wp2
  go_loopw [5] (fun i wr => ∃ kk : Int, -1 ≤ kk ∧ kk ≤ 10 ∧ i = .int .i64 kk ∧ Below w.heap.size w wr) (fun i _ => (11 - intOf i).toNat)
  case atStart => exact ⟨-1, by decide, by decide, rfl, Below.refl _ _⟩
  case round =>
    obtain ⟨kk, hk1, hk2, rfl, hnx⟩ := hrel
    by_cases hlt : kk < 10
    · by_cases h0 : kk < 0
      · obtain ⟨mm, hmm⟩ : ∃ mm : Int, mm = n := ⟨_, rfl⟩
        have hI : isI mm := by rw [hmm]; exact hn
        subst hmm
        by_cases hb : mm < 1 ∨ 4096 < mm
        · have CN := Lib.hid (fun w' => I.ofNo s mm w' hb hI (by omega))
          have CR := Lib.hid (fun w' => rof_no s mm w' hb)
          have HB := Lib.hid hnx
          clear hnx hb
          go_wp2_with (first
            | (go_at_call 23; ((with_reducible refine (CN.out _).mono ?_); rintro e w1 ⟨rfl, b1⟩); have B1 := Lib.hid (HB.out.trans (b1.mono HB.out.size)); clear b1 HB)
            | (go_at_call 24; ((with_reducible refine (CR.out _).mono ?_); rintro e w2 ⟨rfl, rfl⟩)))
          go_roundw
          case rel => exact ⟨kk + 1, by omega, by omega, rfl, B1.out⟩
          case measure => simp [intOf]; omega
        · obtain ⟨m, rfl⟩ : ∃ m : Nat, mm = m := ⟨mm.toNat, by omega⟩
          have CN := Lib.hid (fun w' => I.of s m w' (by omega) (by omega) (by omega))
          have CR := Lib.hid (fun w' => rof_any s m w' (by omega) (by omega) (by omega))
          have HB := Lib.hid hnx
          clear hnx hb hI
          cases ho : ofL s.data.toList m with
          | none =>
            have HO := Lib.hid ho
            clear ho
            go_wp2_with (first
              | (go_at_call 23; ((with_reducible refine (CN.out _).mono ?_); intro e w1 h1); obtain ⟨rfl, b1⟩ := of_no h1 HO.out; have B1 := Lib.hid (HB.out.trans (b1.mono HB.out.size)); clear b1 HB h1)
              | (go_at_call 24; ((with_reducible refine (CR.out _).mono ?_); intro e w2 h2); obtain ⟨rfl, b2⟩ := rof_none h2 HO.out; have B2 := Lib.hid (B1.out.trans (b2.mono B1.out.size)); clear b2 B1 h2))
            go_roundw
            case rel => exact ⟨kk + 1, by omega, by omega, rfl, B2.out⟩
            case measure => simp [intOf]; omega
          | some L =>
            have HO := Lib.hid ho
            have HL := Lib.hid (of_some ho).2
            clear ho
            go_wp2_with (first
              | (go_at_call 23; ((with_reducible refine (CN.out _).mono ?_); intro e w1 h1); obtain ⟨q, o, rfl, i1, b1⟩ := of_yes h1 HO.out; have B1 := Lib.hid (HB.out.trans (b1.mono HB.out.size)); have I1 := Lib.hid i1; clear b1 HB h1 i1)
              | (go_at_call 24; ((with_reducible refine (CR.out _).mono ?_); intro e w2 h2); obtain ⟨p, v, rfl, r2, b2⟩ := rof_yes h2 HO.out; have B2 := Lib.hid (B1.out.trans (b2.mono B1.out.size)); have I2 := Lib.hid (I.below I1.out b2); have R2 := Lib.hid r2; clear b2 B1 h2 r2 I1)
              | (go_at_call 21; ((with_reducible refine (I.bytes I2.out).mono ?_); rintro e w3 ⟨rfl, b3⟩); have B3 := Lib.hid (B2.out.trans (b3.mono B2.out.size)); have I3 := Lib.hid (I.below I2.out b3); have R3 := Lib.hid (R2.out.below b3); clear b3 B2 I2 R2)
              | (go_at_call 22; ((with_reducible refine (rbytes_any R3.out (I.ok I3.out).1 (I.ok I3.out).2).mono ?_); rintro e w4 ⟨rfl, b4⟩); have B4 := Lib.hid (B3.out.trans (b4.mono B3.out.size)); have I4 := Lib.hid (I.below I3.out b4); have R4 := Lib.hid (R3.out.below b4); clear b4 B3 I3 R3)
              | (go_at_call 18; ((with_reducible refine (I.used I4.out).mono ?_); rintro e w5 ⟨rfl, b5⟩); have B5 := Lib.hid (B4.out.trans (b5.mono B4.out.size)); have I5 := Lib.hid (I.below I4.out b5); have R5 := Lib.hid (R4.out.below b5); clear b5 B4 I4 R4)
              | (go_at_call 19; ((with_reducible refine (rused_any R5.out (I.ok I5.out).1 (I.ok I5.out).2).mono ?_); rintro e w6 ⟨rfl, rfl⟩); have CS := I.size I5.out; rw [HL.out] at CS; clear R5)
              | (go_at_call 20; ((with_reducible refine (CS).mono ?_); rintro e w7 ⟨rfl, b7⟩); have B7 := Lib.hid (B5.out.trans (b7.mono B5.out.size)); clear b7 B5 I5 CS))
            go_roundw
            case rel => exact ⟨kk + 1, by omega, by omega, rfl, B7.out⟩
            case measure => simp [intOf]; omega
      · obtain ⟨mm, hmm⟩ : ∃ mm : Int, 8 * (s.size : Int) - kk = mm := ⟨_, rfl⟩
        have hI : isI mm := by unfold isI; omega
        have h0' : 0 ≤ kk := by omega
        by_cases hb : mm < 1 ∨ 4096 < mm
        · have CN := Lib.hid (fun w' => I.ofNo s mm w' hb hI (by omega))
          have CR := Lib.hid (fun w' => rof_no s mm w' hb)
          have HB := Lib.hid hnx
          clear hnx hb
          go_wp2_with (first
            | (go_at_call 23; ((with_reducible refine (CN.out _).mono ?_); rintro e w1 ⟨rfl, b1⟩); have B1 := Lib.hid (HB.out.trans (b1.mono HB.out.size)); clear b1 HB)
            | (go_at_call 24; ((with_reducible refine (CR.out _).mono ?_); rintro e w2 ⟨rfl, rfl⟩)))
          go_roundw
          case rel => exact ⟨kk + 1, by omega, by omega, rfl, B1.out⟩
          case measure => simp [intOf]; omega
        · obtain ⟨m, rfl⟩ : ∃ m : Nat, mm = m := ⟨mm.toNat, by omega⟩
          have CN := Lib.hid (fun w' => I.of s m w' (by omega) (by omega) (by omega))
          have CR := Lib.hid (fun w' => rof_any s m w' (by omega) (by omega) (by omega))
          have HB := Lib.hid hnx
          clear hnx hb hI
          cases ho : ofL s.data.toList m with
          | none =>
            have HO := Lib.hid ho
            clear ho
            go_wp2_with (first
              | (go_at_call 23; ((with_reducible refine (CN.out _).mono ?_); intro e w1 h1); obtain ⟨rfl, b1⟩ := of_no h1 HO.out; have B1 := Lib.hid (HB.out.trans (b1.mono HB.out.size)); clear b1 HB h1)
              | (go_at_call 24; ((with_reducible refine (CR.out _).mono ?_); intro e w2 h2); obtain ⟨rfl, b2⟩ := rof_none h2 HO.out; have B2 := Lib.hid (B1.out.trans (b2.mono B1.out.size)); clear b2 B1 h2))
            go_roundw
            case rel => exact ⟨kk + 1, by omega, by omega, rfl, B2.out⟩
            case measure => simp [intOf]; omega
          | some L =>
            have HO := Lib.hid ho
            have HL := Lib.hid (of_some ho).2
            clear ho
            go_wp2_with (first
              | (go_at_call 23; ((with_reducible refine (CN.out _).mono ?_); intro e w1 h1); obtain ⟨q, o, rfl, i1, b1⟩ := of_yes h1 HO.out; have B1 := Lib.hid (HB.out.trans (b1.mono HB.out.size)); have I1 := Lib.hid i1; clear b1 HB h1 i1)
              | (go_at_call 24; ((with_reducible refine (CR.out _).mono ?_); intro e w2 h2); obtain ⟨p, v, rfl, r2, b2⟩ := rof_yes h2 HO.out; have B2 := Lib.hid (B1.out.trans (b2.mono B1.out.size)); have I2 := Lib.hid (I.below I1.out b2); have R2 := Lib.hid r2; clear b2 B1 h2 r2 I1)
              | (go_at_call 21; ((with_reducible refine (I.bytes I2.out).mono ?_); rintro e w3 ⟨rfl, b3⟩); have B3 := Lib.hid (B2.out.trans (b3.mono B2.out.size)); have I3 := Lib.hid (I.below I2.out b3); have R3 := Lib.hid (R2.out.below b3); clear b3 B2 I2 R2)
              | (go_at_call 22; ((with_reducible refine (rbytes_any R3.out (I.ok I3.out).1 (I.ok I3.out).2).mono ?_); rintro e w4 ⟨rfl, b4⟩); have B4 := Lib.hid (B3.out.trans (b4.mono B3.out.size)); have I4 := Lib.hid (I.below I3.out b4); have R4 := Lib.hid (R3.out.below b4); clear b4 B3 I3 R3)
              | (go_at_call 18; ((with_reducible refine (I.used I4.out).mono ?_); rintro e w5 ⟨rfl, b5⟩); have B5 := Lib.hid (B4.out.trans (b5.mono B4.out.size)); have I5 := Lib.hid (I.below I4.out b5); have R5 := Lib.hid (R4.out.below b5); clear b5 B4 I4 R4)
              | (go_at_call 19; ((with_reducible refine (rused_any R5.out (I.ok I5.out).1 (I.ok I5.out).2).mono ?_); rintro e w6 ⟨rfl, rfl⟩); have CS := I.size I5.out; rw [HL.out] at CS; clear R5)
              | (go_at_call 20; ((with_reducible refine (CS).mono ?_); rintro e w7 ⟨rfl, b7⟩); have B7 := Lib.hid (B5.out.trans (b7.mono B5.out.size)); clear b7 B5 I5 CS))
            go_roundw
            case rel => exact ⟨kk + 1, by omega, by omega, rfl, B7.out⟩
            case measure => simp [intOf]; omega
    · have HB := Lib.hid hnx
      clear hnx
      go_wp2_with (go_at_call 9; ((with_reducible refine (CU.out _).mono ?_); rintro e w2 ⟨rfl, b2⟩))
      go_ret
      exact ⟨rfl, HB.out.trans (b2.mono HB.out.size)⟩
end Go.Proofs.Ytdngkpdiaeicmaa
