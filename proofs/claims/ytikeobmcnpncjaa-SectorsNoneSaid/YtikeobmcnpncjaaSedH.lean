/- Layer 6: the walk of SectorsNone. -/
import Derived.Test.YtikeobmcnpncjaaSedF
import Derived.Test.YtikeobmcnpncjaaSedG
namespace Go.Proofs.Ytikeobmcnpncjaa
open Go.RowKit Go.ChangeShapes Go.WideShapes Go.Deep

theorem acts_one {w : World} {b : Nat} {a : Act1} {v : Value} (h : rowC w b (actC a.kind a.c a.n a.data v) 34) (hk : KeepAt w v a.keep) (hok : a.ok) : ActsAt w (.slice (some ⟨b, 0, none⟩) 1 1) [a] := by
  refine .inr ⟨⟨b, 0, none⟩, 1, rfl, by show 1 ≤ maxLen; decide, fun i a' hi => ?_⟩
  match i, hi with
  | 0, hi =>
    obtain rfl : a = a' := by simpa using hi
    exact ⟨v, rowC_cell h 0, rowC_cell h 1, rowC_cell h 2, rowC_cell h 3, rowC_cell h 4, hk, hok⟩
set_option maxRecDepth 100000 in
set_option maxHeartbeats 4000000 in
theorem sNone_any (I : Impl) {a : Act1} {v : Value} {w : World} (hk : KeepAt w v a.keep) (hok : a.ok) :
    Calls Try.prog 4 #[.agg (actC a.kind a.c a.n a.data v)] w fun e w' => e = .returned (.bool true) ∧ Below w.heap.size w w' := by
  have CU := Lib.hid (fun w' => spun_any I w')
  have b2 : Below w.heap.size w ((w.alloc (.cells (actC a.kind a.c a.n a.data v) 34)).alloc (.cells (actC a.kind a.c a.n a.data v) 34)) := ((Below.refl _ w).alloc (Nat.le_refl _) _).alloc (by rw [size_alloc]; omega) _
  have r1 := rowC_alloc (rowC_new w (actC a.kind a.c a.n a.data v) 34) (.cells (actC a.kind a.c a.n a.data v) 34)
  have r2 := rowC_new (w.alloc (.cells (actC a.kind a.c a.n a.data v) 34)) (actC a.kind a.c a.n a.data v) 34
  rw [size_alloc] at r2
  have CG : Calls Try.prog 7 #[.slice (some ⟨w.heap.size + 1, 0, none⟩) 1 1, .int .i64 1] _ fun e w' => e = .returned (.bool (greatB [a] 1)) ∧ _ = w' := great_any (acts_one r2 (hk.keep b2) hok) 1
  obtain ⟨aK, capK, rfl⟩ := keep_form hk
  obtain ⟨x, hx⟩ : ∃ x, x = a.c.toNat := ⟨_, rfl⟩
  have HV := Lib.hid (show .int .u8 (x : Int) = byteV a.c by rw [hx]; rfl)
  clear hx r2 hk hok
  unfold actC at b2 r1 CG ⊢
  rw [← HV.out] at b2 r1 CG ⊢
  generalize greatB [a] 1 = g at *
  have HB2 := Lib.hid b2
  have HR := Lib.hid r1
  have e0 := rowC_cell r1 0
  clear HV b2 r1 e0
  generalize a.kind = ki at *
  generalize a.n = an at *
  generalize a.data = da at *
  generalize a.keep.length = kl at *
  cases g
  · go_enter Try.func4, Try.ntmps4
    go_wp2_with (go_at_call 7; ((with_reducible refine (CG).mono ?_); rintro e w1 ⟨rfl, rfl⟩))
    clear CG
    generalize ((w.alloc _).alloc _) = w2 at *
    go_loopw [3, 4] (fun dv i wr => ∃ k : Nat, k ≤ 2 ∧ i = .int .i64 k ∧ Hid (NoDisk wr dv) ∧ Hid (Below w.heap.size w wr) ∧ Hid (rowC wr w.heap.size #[.int .u8 (ki : Int), .int .u8 (x : Int), .int .i64 an, .string da, .slice aK kl capK] 34)) (fun _ i _ => 2 - (intOf i).toNat)
    case atStart => exact ⟨0, Nat.zero_le _, rfl, Lib.hid (.inl rfl), HB2, HR⟩
    case round =>
      clear HB2 HR
      obtain ⟨k, hk, rfl, HN, HB, HR⟩ := hrel
      by_cases hlt : k < 2
      · have e2 := rowC_cell HR.out 2
        have g1 : (k : Int) < 2 := by omega
        have CR := Lib.hid (nd_read HN.out an)
        go_wp2_with (first
          | (go_at_call 13; ((with_reducible refine (CR.out).mono ?_); rintro e w3 ⟨rfl, b3⟩); have HN3 := Lib.hid (HN.out.below b3); have HB3 := Lib.hid (HB.out.trans (b3.mono HB.out.size)); have r3 := rowC_below HR.out b3 (rowC_lt HR.out); have HR3 := Lib.hid r3; have e2' := rowC_cell r3 2; have e3' := rowC_cell r3 3; have e4' := rowC_cell r3 4; clear b3 r3 HN HB HR e2)
          | (go_at_call 14; ((with_reducible refine (nd_write HN3.out _ _).mono ?_); rintro e w4 ⟨rfl, rfl⟩))
          | (go_at_call 15; ((with_reducible refine (nd_flush HN3.out).mono ?_); rintro e w4 ⟨rfl, rfl⟩))
          | (go_at_call 16; ((with_reducible refine (nd_crash HN3.out _).mono ?_); rintro e w4 ⟨rfl, rfl⟩))
          | (go_at_call 17; ((with_reducible refine (nd_start HN3.out).mono ?_); rintro e w4 ⟨rfl, rfl⟩))
          | (go_at_call 18; ((with_reducible refine (nd_fail HN3.out _ _).mono ?_); rintro e w4 ⟨rfl, rfl⟩))
          | (go_at_call 19; ((with_reducible refine (nd_size HN3.out).mono ?_); rintro e w4 ⟨rfl, rfl⟩))
          | (go_at_call 20; ((with_reducible refine (nd_loose HN3.out).mono ?_); rintro e w4 ⟨rfl, rfl⟩))
          | (go_at_call 21; ((with_reducible refine (nd_up HN3.out).mono ?_); rintro e w4 ⟨rfl, rfl⟩))
          | (go_at_call 22; ((with_reducible refine (nd_starts HN3.out).mono ?_); rintro e w4 ⟨rfl, rfl⟩)))
        go_roundw
        case rel => exact ⟨k + 1, by omega, by go_num, Lib.hid (.inr ⟨_, rfl, rowC_cell (rowC_new w3 #[.pointer none] 46) 0⟩), Lib.hid (HB3.out.alloc HB3.out.size _), Lib.hid (rowC_alloc HR3.out _)⟩
        case measure => simp [intOf]; omega
      · obtain rfl : k = 2 := by omega
        go_wp2_with (go_at_call 8; ((with_reducible refine (CU.out _).mono ?_); rintro e w9 ⟨rfl, b9⟩))
        go_ret
        exact ⟨rfl, HB.out.trans (b9.mono HB.out.size)⟩
  · go_enter Try.func4, Try.ntmps4
    go_wp2_with (first
      | (go_at_call 7; ((with_reducible refine (CG).mono ?_); rintro e w1 ⟨rfl, rfl⟩))
      | (go_at_call 8; ((with_reducible refine (CU.out _).mono ?_); rintro e w9 ⟨rfl, b9⟩)))
    go_ret
    exact ⟨rfl, HB2.out.trans (b9.mono HB2.out.size)⟩
end Go.Proofs.Ytikeobmcnpncjaa
