/- Layer 8: AllocNone, for any map that is none as the document's. (zeroC: the cells of a Map that New and Of did not make: edit that row for the seat.) -/
import Derived.Test.YtdngkpdiaeicmaaAlcW
namespace Go.Proofs.Ytdngkpdiaeicmaa
open Go.RowKit Go.ChangeShapes Go.WideShapes Go.Deep

abbrev zeroC : Array Value := #[.pointer none]
/-- nil, or a map that New and Of did not make: No w v. -/
structure NoneI where
  No : World → Value → Prop
  nil : ∀ w : World, No w (.pointer none)
  zero : ∀ w : World, No (w.alloc (.cells zeroC 51)) (.pointer (some ⟨w.heap.size, 0, none⟩))
  below : ∀ {w w' : World} {v : Value}, No w v → Below w.heap.size w w' → No w' v
  take : ∀ {w v} (n : Int), No w v → isI n → Calls Try.prog 15 #[v, .int .i64 n] w fun e w' => e = .returned (.tuple #[.slice none 0 0, .bool false]) ∧ Below w.heap.size w w'
  give : ∀ {w v x} {l : List (Int × Int)}, No w v → ExtAt w x l → extOk l → Calls Try.prog 12 #[v, x] w fun e w' => e = .returned (.bool false) ∧ Below w.heap.size w w'
  used : ∀ {w v}, No w v → Calls Try.prog 18 #[v] w fun e w' => e = .returned (.int .i64 0) ∧ Below w.heap.size w w'
  size : ∀ {w v}, No w v → Calls Try.prog 20 #[v] w fun e w' => e = .returned (.int .i64 0) ∧ Below w.heap.size w w'
  bytes : ∀ {w v}, No w v → Calls Try.prog 21 #[v] w fun e w' => e = .returned (.string ⟨#[]⟩) ∧ Below w.heap.size w w'
  copy : ∀ {w v}, No w v → Calls Try.prog 14 #[v] w fun e w' => e = .returned (.pointer none) ∧ Below w.heap.size w w'
theorem acts_one {w : World} {b : Nat} {a : Act1} {v : Value} (h : rowC w b #[.int .u8 (a.kind : Int), .int .i64 a.n, v] 35) (hk : ExtAt w v a.raw) (hok : a.ok) : ActsAt w (.slice (some ⟨b, 0, none⟩) 1 1) [a] := by
  refine .inr ⟨⟨b, 0, none⟩, 1, rfl, by show 1 ≤ maxLen; decide, fun i a' hi => ?_⟩
  match i, hi with
  | 0, hi =>
    obtain rfl : a = a' := by simpa using hi
    exact ⟨v, rowC_cell h 0, rowC_cell h 1, rowC_cell h 2, hk, hok⟩
set_option maxRecDepth 100000 in
set_option maxHeartbeats 4000000 in
theorem none_any (I : Impl) (Z : NoneI) {a : Act1} {v : Value} {w : World} (hk : ExtAt w v a.raw) (hok : a.ok) :
    Calls Try.prog 5 #[.agg #[.int .u8 (a.kind : Int), .int .i64 a.n, v]] w fun e w' => e = .returned (.bool true) ∧ Below w.heap.size w w' := by
  have CU := Lib.hid (fun w' => took_any I w')
  have b2 : Below w.heap.size w ((w.alloc (.cells #[.int .u8 (a.kind : Int), .int .i64 a.n, v] 35)).alloc (.cells #[.int .u8 (a.kind : Int), .int .i64 a.n, v] 35)) := ((Below.refl _ w).alloc (Nat.le_refl _) _).alloc (by rw [size_alloc]; omega) _
  have r1 := rowC_alloc (rowC_new w #[.int .u8 (a.kind : Int), .int .i64 a.n, v] 35) (.cells #[.int .u8 (a.kind : Int), .int .i64 a.n, v] 35)
  have r2 := rowC_new (w.alloc (.cells #[.int .u8 (a.kind : Int), .int .i64 a.n, v] 35)) #[.int .u8 (a.kind : Int), .int .i64 a.n, v] 35
  rw [size_alloc] at r2
  have CG : Calls Try.prog 8 #[.slice (some ⟨w.heap.size + 1, 0, none⟩) 1 1, .int .i64 1] _ fun e w' => e = .returned (.bool (greatB [a] 1)) ∧ _ = w' := great_any (acts_one r2 (hk.below b2) hok) 1
  have HK := Lib.hid hk
  have HEO := Lib.hid hok.raw
  have HIN := Lib.hid hok.n
  obtain ⟨aK, capK, rfl⟩ := hk.form
  clear r2 hk hok
  generalize greatB [a] 1 = g at *
  have HB2 := Lib.hid b2
  have HR := Lib.hid r1
  have e0 := rowC_cell r1 0
  clear b2 r1 e0
  generalize a.kind = ki at *
  generalize a.n = an at *
  generalize a.raw = ra at *
  generalize ra.length = kl at *
  cases g
  · go_enter Try.func5, Try.ntmps5
    go_wp2_with (go_at_call 8; ((with_reducible refine (CG).mono ?_); rintro e w1 ⟨rfl, rfl⟩))
    clear CG
    generalize ((w.alloc _).alloc _) = w2 at *
    go_loopw [3, 4] (fun dv i wr => ∃ k : Nat, k ≤ 2 ∧ i = .int .i64 k ∧ Hid (Z.No wr dv) ∧ Hid (Below w.heap.size w wr) ∧ Hid (rowC wr w.heap.size #[.int .u8 (ki : Int), .int .i64 an, .slice aK kl capK] 35)) (fun _ i _ => 2 - (intOf i).toNat)
    case atStart => exact ⟨0, Nat.zero_le _, rfl, Lib.hid (Z.nil _), HB2, HR⟩
    case round =>
      clear HB2 HR
      obtain ⟨k, hk, rfl, HN, HB, HR⟩ := hrel
      by_cases hlt : k < 2
      · have e1 := rowC_cell HR.out 1
        have g1 : (k : Int) < 2 := by omega
        go_wp2_with (first
          | (go_at_call 15; ((with_reducible refine (Z.take _ HN.out HIN.out).mono ?_); rintro e w3 ⟨rfl, b3⟩); have HN3 := Lib.hid (Z.below HN.out b3); have HB3 := Lib.hid (HB.out.trans (b3.mono HB.out.size)); have r3 := rowC_below HR.out b3 (rowC_lt HR.out); have HR3 := Lib.hid r3; have e2' := rowC_cell r3 2; clear b3 r3 HN HB HR e1)
          | (go_at_call 12; ((with_reducible refine (Z.give HN3.out (HK.out.below HB3.out) HEO.out).mono ?_); rintro e w4 ⟨rfl, b4⟩); have HN4 := Lib.hid (Z.below HN3.out b4); have HB4 := Lib.hid (HB3.out.trans (b4.mono HB3.out.size)); have HR4 := Lib.hid (rowC_below HR3.out b4 (rowC_lt HR3.out)); clear b4 HN3 HB3 HR3 e2')
          | (go_at_call 18; ((with_reducible refine (Z.used HN4.out).mono ?_); rintro e w5 ⟨rfl, b5⟩); have HN5 := Lib.hid (Z.below HN4.out b5); have HB5 := Lib.hid (HB4.out.trans (b5.mono HB4.out.size)); have HR5 := Lib.hid (rowC_below HR4.out b5 (rowC_lt HR4.out)); clear b5 HN4 HB4 HR4)
          | (go_at_call 20; ((with_reducible refine (Z.size HN5.out).mono ?_); rintro e w6 ⟨rfl, b6⟩); have HN6 := Lib.hid (Z.below HN5.out b6); have HB6 := Lib.hid (HB5.out.trans (b6.mono HB5.out.size)); have HR6 := Lib.hid (rowC_below HR5.out b6 (rowC_lt HR5.out)); clear b6 HN5 HB5 HR5)
          | (go_at_call 21; ((with_reducible refine (Z.bytes HN6.out).mono ?_); rintro e w7 ⟨rfl, b7⟩); have HN7 := Lib.hid (Z.below HN6.out b7); have HB7 := Lib.hid (HB6.out.trans (b7.mono HB6.out.size)); have HR7 := Lib.hid (rowC_below HR6.out b7 (rowC_lt HR6.out)); clear b7 HN6 HB6 HR6)
          | (go_at_call 14; ((with_reducible refine (Z.copy HN7.out).mono ?_); rintro e w8 ⟨rfl, b8⟩); have HN8 := Lib.hid (Z.below HN7.out b8); have HB8 := Lib.hid (HB7.out.trans (b8.mono HB7.out.size)); have HR8 := Lib.hid (rowC_below HR7.out b8 (rowC_lt HR7.out)); clear b8 HN7 HB7 HR7))
        go_roundw
        case rel => exact ⟨k + 1, by omega, by go_num, Lib.hid (Z.zero w8), Lib.hid (HB8.out.alloc HB8.out.size _), Lib.hid (rowC_alloc HR8.out _)⟩
        case measure => simp [intOf]; omega
      · obtain rfl : k = 2 := by omega
        go_wp2_with (go_at_call 9; ((with_reducible refine (CU.out _).mono ?_); rintro e w9 ⟨rfl, b9⟩))
        go_ret
        exact ⟨rfl, HB.out.trans (b9.mono HB.out.size)⟩
  · go_enter Try.func5, Try.ntmps5
    go_wp2_with (first
      | (go_at_call 8; ((with_reducible refine (CG).mono ?_); rintro e w1 ⟨rfl, rfl⟩))
      | (go_at_call 9; ((with_reducible refine (CU.out _).mono ?_); rintro e w9 ⟨rfl, b9⟩)))
    go_ret
    exact ⟨rfl, HB2.out.trans (b9.mono HB2.out.size)⟩
theorem none_walk (I : Impl) (Z : NoneI) {H : Type} {enc : TypeId × Value → H} {base : Nat} {sp : Nat → Bool} {held : Bool} {d : DataW H} {p : List MemPlace} (v0 : Value) (W : World)
    (k0 : DataW.Trod enc Try.prog W base sp held 35 v0 d p) :
    Calls Try.prog 5 #[v0] W fun e w' => e = .returned (.bool true) ∧ Below W.heap.size W w' := by
  obtain ⟨fuel, hf⟩ := k0
  obtain ⟨a, v, hc, hk, hok⟩ := open_act hf
  obtain rfl : v0 = .agg #[.int .u8 (a.kind : Int), .int .i64 a.n, v] := by
    cases v0 with
    | agg cs =>
      have : cs.toList = [.int .u8 (a.kind : Int), .int .i64 a.n, v] := hc
      have h2 : cs = #[.int .u8 (a.kind : Int), .int .i64 a.n, v] := by
        apply Array.toList_inj.1
        rw [this]
      rw [h2]
    | _ => simp [Value.cells] at hc
  exact none_any I Z hk hok
end Go.Proofs.Ytdngkpdiaeicmaa
