/- Merged: PtK, TtB. -/
import Derived.Test.YtoallfcpnbhhiaaGreatDoorM11
import Derived.Test.YtoallfcpnbhhiaaGreatDoorM08
import Derived.Deep.DeepCutAuto
/- Layer 14: whiteouts. -/
namespace Go.Proofs.YtoallfcpnbhhiaaGreatDoor
open Go.RowKit

theorem ret3w {a a' : ByteArray} {b b' c c' : Bool} (h : a = a') (h' : b = b') (h'' : c = c') : Ending.returned (.tuple #[.string a, .bool b, .bool c]) = .returned (.tuple #[.string a', .bool b', .bool c']) := by rw [h, h', h'']
theorem mayGo_any (n : List UInt8) (w : World) :
    Calls Tryz.prog 86 #[.string (str n)] w fun e w' => e = .returned (.bool (mayGoB n)) ∧ w = w' := by
  have q1 : (str n).toList.isEmpty = decide (n = []) := empty_lit n
  have q2 : ((str n).toList == [46]) = decide (n = [46]) := eq_lit n [46]
  have q3 : ((str n).toList == [46, 46]) = decide (n = [46, 46]) := eq_lit n [46, 46]
  have CH := fun w => hasP_any n whB w
  rw [show str whB = ⟨#[46, 119, 104, 46]⟩ from rfl] at CH
  have HM := Lib.hid (show mayGoB n = (!decide (n = []) && (!decide (n = [46]) && (!decide (n = [46, 46]) && !decide (whB <+: n)))) from rfl)
  generalize decide (n = []) = b1 at *
  generalize decide (n = [46]) = b2 at *
  generalize decide (n = [46, 46]) = b3 at *
  generalize decide (whB <+: n) = b4 at *
  cases b1 <;> cases b2 <;> cases b3
  all_goals
    go_enter Tryz.func86, Tryz.ntmps86
    go_wp2_with (go_at_call 111; ((with_reducible refine (CH _).mono ?_); rintro e w1 ⟨rfl, rfl⟩))
    go_ret
    exact ⟨retB (by rw [HM.out]; rfl), by trivial⟩
set_option maxRecDepth 100000 in
set_option maxHeartbeats 2000000 in
theorem white_any (s : List UInt8) (hl : s.length ≤ 1000000) (w : World) :
    Calls Tryz.prog 69 #[.string (str s)] w fun e w' => e = .returned (.tuple #[.string (str (whiteL s).1), .bool (whiteL s).2.1, .bool (whiteL s).2.2]) ∧ Below w.heap.size w w' := by
  have q1 : ((str s).toList == [46, 119, 104, 46, 46, 119, 104, 46, 46, 111, 112, 113]) = decide (s = opqB) := eq_lit s opqB
  have HW := Lib.hid (show whiteL s = if s = opqB then ([], true, true) else if (decide (whB <+: s) && mayGoB (s.drop 4)) = true then (s.drop 4, false, true) else ([], false, false) from rfl)
  by_cases h1 : s = opqB
  · have HR := Lib.hid (show whiteL s = ([], true, true) by rw [HW.out, if_pos h1])
    rw [decide_eq_true h1] at q1
    clear h1
    go_enter Tryz.func69, Tryz.ntmps69
    go_wp2
    go_ret3
    exact ⟨ret3w (by rw [HR.out]; rfl) (by rw [HR.out]) (by rw [HR.out]), Below.refl _ _⟩
  rw [decide_eq_false h1] at q1
  by_cases h2 : whB <+: s
  · obtain ⟨n, hn⟩ := h2
    have hd : s.drop 4 = n := by rw [← hn]; rfl
    have CP := fun w => hn ▸ cutP_hit whB n w
    rw [show str whB = ⟨#[46, 119, 104, 46]⟩ from rfl] at CP
    have CM := fun w => mayGo_any n w
    have CC := fun w => clone_any (str n) (by rw [str_size]; have := congrArg List.length hn; rw [List.length_append] at this; omega) w
    rw [hd] at HW
    cases hm : mayGoB n
    · have HR := Lib.hid (show whiteL s = ([], false, false) by rw [HW.out, if_neg h1, hm, Bool.and_false]; rfl)
      rw [hm] at CM
      clear h1 hn hd hm HW
      go_enter Tryz.func69, Tryz.ntmps69
      go_wp2_with (first
        | (go_at_call 85; ((with_reducible refine (CP _).mono ?_); rintro e w1 ⟨rfl, rfl⟩))
        | (go_at_call 86; ((with_reducible refine (CM _).mono ?_); rintro e w2 ⟨rfl, rfl⟩)))
      go_ret3
      exact ⟨ret3w (by rw [HR.out]; rfl) (by rw [HR.out]) (by rw [HR.out]), Below.refl _ _⟩
    · have HR := Lib.hid (show whiteL s = (n, false, true) by rw [HW.out, if_neg h1, hm, Bool.and_true, decide_eq_true ⟨n, hn⟩]; rfl)
      rw [hm] at CM
      clear h1 hn hd hm HW
      go_enter Tryz.func69, Tryz.ntmps69
      go_wp2_with (first
        | (go_at_call 85; ((with_reducible refine (CP _).mono ?_); rintro e w1 ⟨rfl, rfl⟩))
        | (go_at_call 86; ((with_reducible refine (CM _).mono ?_); rintro e w2 ⟨rfl, rfl⟩))
        | (go_at_call 43; ((with_reducible refine (CC _).mono ?_); rintro e w3 ⟨rfl, hB⟩)))
      go_ret3
      exact ⟨ret3w (by rw [HR.out]) (by rw [HR.out]) (by rw [HR.out]), hB⟩
  · have HR := Lib.hid (show whiteL s = ([], false, false) by rw [HW.out, if_neg h1, decide_eq_false h2, Bool.false_and]; rfl)
    have CP := fun w => cutP_miss h2 w
    rw [show str whB = ⟨#[46, 119, 104, 46]⟩ from rfl] at CP
    clear h1 h2 HW
    go_enter Tryz.func69, Tryz.ntmps69
    go_wp2_with (go_at_call 85; obtain ⟨r, CQ⟩ := CP w; ((with_reducible refine CQ.mono ?_); rintro e w1 ⟨rfl, rfl⟩))
    go_ret3
    exact ⟨ret3w (by rw [HR.out]; rfl) (by rw [HR.out]) (by rw [HR.out]), Below.refl _ _⟩
end Go.Proofs.YtoallfcpnbhhiaaGreatDoor
#print axioms Go.Proofs.YtoallfcpnbhhiaaGreatDoor.white_any

/- Layer 16: the program's clone, mayBe, checkRoot. -/
namespace Go.Proofs.YtoallfcpnbhhiaaGreatDoor
open Go.RowKit

set_option maxRecDepth 100000 in
set_option maxHeartbeats 4000000 in
theorem nclone_any (x : Nd) (hp : x.path.length ≤ 1000000) (hd : x.data.length ≤ 1000000) (w : World) :
    Calls Tryz.prog 28 #[.agg #[.string (str x.path), .int .i64 x.kind, .int .i64 x.mode, .string (str x.data)]] w fun e w' =>
      e = .returned (.agg #[.string (str x.path), .int .i64 x.kind, .int .i64 x.mode, .string (str x.data)]) ∧ Below w.heap.size w w' := by
  have HI := Lib.hid info_nd4
  have C1 := fun w => clone_any (str x.path) (by rw [str_size]; omega) w
  have C2 := fun w => clone_any (str x.data) (by rw [str_size]; omega) w
  have HONE := Lib.hid (ndA_one x)
  unfold ndA at HONE
  generalize str x.path = s1 at *
  generalize str x.data = s2 at *
  generalize x.kind = k at *
  generalize x.mode = m at *
  obtain ⟨A, hA⟩ : ∃ A : Array Value, A = #[.string s1, .int .i64 k, .int .i64 m, .string s2] := ⟨_, rfl⟩
  obtain ⟨W0, hW0⟩ : ∃ W0, W0 = (w.alloc (.cells #[.string s1, .int .i64 k, .int .i64 m, .string s2] 32)).alloc (.cells #[.string ⟨#[]⟩, .int .i64 0, .int .i64 0, .string ⟨#[]⟩] 32) := ⟨_, rfl⟩
  have Z0 : rowC W0 w.heap.size A 32 := by rw [hW0, hA]; exact rowC_alloc (rowC_new w _ _) _
  have Y0 : rowC W0 (w.heap.size + 1) #[.string ⟨#[]⟩, .int .i64 0, .int .i64 0, .string ⟨#[]⟩] 32 := by
    rw [hW0]
    have := rowC_new (w.alloc (.cells #[.string s1, .int .i64 k, .int .i64 m, .string s2] 32)) #[.string ⟨#[]⟩, .int .i64 0, .int .i64 0, .string ⟨#[]⟩] 32
    rwa [size_alloc] at this
  have B0 : Below w.heap.size w W0 := by rw [hW0]; exact ((Below.refl _ _).alloc (Nat.le_refl _) _).alloc (by rw [size_alloc]; omega) _
  have HW0 := Lib.hid hW0
  have HST : Hid (∀ a b : World, (rowC a w.heap.size A 32 ∧ (∃ c : Array Value, c.size = 4 ∧ rowC a (w.heap.size + 1) c 32) ∧ Below w.heap.size w a) → Below a.heap.size a b →
      (rowC b w.heap.size A 32 ∧ (∃ c : Array Value, c.size = 4 ∧ rowC b (w.heap.size + 1) c 32) ∧ Below w.heap.size w b)) := Lib.hid fun a b ⟨h1, ⟨c, hc, h2⟩, h3⟩ hb =>
    ⟨rowC_below h1 hb (rowC_lt h1), ⟨c, hc, rowC_below h2 hb (rowC_lt h2)⟩, h3.trans (hb.mono h3.size)⟩
  have HSET : Hid (∀ (a : World) (i : Nat) (u : Value), A.setIfInBounds i u = A → (rowC a w.heap.size A 32 ∧ (∃ c : Array Value, c.size = 4 ∧ rowC a (w.heap.size + 1) c 32) ∧ Below w.heap.size w a) →
      (rowC (a.setCell ⟨w.heap.size, i, none⟩ u) w.heap.size A 32 ∧ (∃ c : Array Value, c.size = 4 ∧ rowC (a.setCell ⟨w.heap.size, i, none⟩ u) (w.heap.size + 1) c 32) ∧ Below w.heap.size w (a.setCell ⟨w.heap.size, i, none⟩ u))) := Lib.hid fun a i u hu ⟨h1, ⟨c, hc, h2⟩, h3⟩ =>
    ⟨by have := rowC_set h1 i u; rwa [hu] at this, ⟨c, hc, rowC_other h2 _ _ (by show w.heap.size + 1 ≠ w.heap.size; omega)⟩, h3.setCell (p := ⟨w.heap.size, i, none⟩) (Nat.le_refl _) _⟩
  have HS0 := Lib.hid (show rowC W0 w.heap.size A 32 ∧ (∃ c : Array Value, c.size = 4 ∧ rowC W0 (w.heap.size + 1) c 32) ∧ Below w.heap.size w W0 from ⟨Z0, ⟨_, rfl, Y0⟩, B0⟩)
  have HA := Lib.hid hA
  have CELLS : Hid (∀ a : World, rowC a w.heap.size A 32 → (∀ i u, A[i]? = some u → a.cell? ⟨w.heap.size, i, none⟩ = some u) ∧ ∀ i, a.frozen? ⟨w.heap.size, i, none⟩ = false) := Lib.hid fun a h => ⟨fun i u hu => (rowC_cell h i).trans hu, fun i => rowC_free h i⟩
  clear hW0 Z0 Y0 B0
  go_enter Tryz.func28, Tryz.ntmps28
  go_upto_region 1 with (fail)
  rw [← HW0.out]
  have a1 : _ = some (Value.string s1) := (CELLS.out _ HS0.out.1).1 0 _ (by rw [hA]; rfl)
  have f1 := (CELLS.out _ HS0.out.1).2 0
  go_upto_region 2 with (go_at_call 43; ((with_reducible refine (C1 _).mono ?_); rintro e w1 ⟨rfl, hB1⟩; have S1 := Lib.hid (HST.out _ w1 HS0.out hB1); have a1 : _ = some (Value.string s1) := (CELLS.out _ S1.out.1).1 0 _ (by rw [hA]; rfl); have f1 := (CELLS.out _ S1.out.1).2 0))
  have T1 := Lib.hid (HSET.out _ 0 (.string s1) (by rw [hA]; rfl) S1.out)
  clear a1 f1 S1 hB1
  generalize w1.setCell ⟨w.heap.size, 0, none⟩ (.string s1) = v1 at *
  have a2 : _ = some (Value.string s2) := (CELLS.out _ T1.out.1).1 3 _ (by rw [hA]; rfl)
  have f2 := (CELLS.out _ T1.out.1).2 3
  go_upto_region 3 with (go_at_call 43; ((with_reducible refine (C2 _).mono ?_); rintro e w2 ⟨rfl, hB2⟩; have S2 := Lib.hid (HST.out _ w2 T1.out hB2); have a2 : _ = some (Value.string s2) := (CELLS.out _ S2.out.1).1 3 _ (by rw [hA]; rfl); have f2 := (CELLS.out _ S2.out.1).2 3))
  have T3 := Lib.hid (HSET.out _ 3 (.string s2) (by rw [hA]; rfl) S2.out)
  clear a2 f2 S2 hB2
  generalize w2.setCell ⟨w.heap.size, 3, none⟩ (.string s2) = v3 at *
  obtain ⟨r1, ⟨c, hc, r2⟩, b3⟩ := T3.out
  have HR1 := Lib.hid r1
  have HR2 := Lib.hid r2
  have HB3 := Lib.hid b3
  have HI5 := Lib.hid (show (Tryz.prog.info? 32).map (·.size) = some A.size by rw [HI.out, hA]; rfl)
  have HAO := Lib.hid (show A.all (·.oneCell') = true by rw [hA]; exact HONE.out)
  have HSZ := Lib.hid (show c.size = A.size by rw [hc, hA]; rfl)
  clear r1 r2 b3 hc T1 T3 C1 C2 CELLS HST HSET HS0
  go_wp2_with (first
    | ((with_reducible show wpList _ _ _ (⟨some 11, .load _ (.tmp 1), _, _, _, _⟩ :: _) _ _); refine wpList_load_row rfl 32 _ rfl w.heap.size rfl 32 A (0, 0) _ HR1.out Tryz.underlying32 rfl HI5.out ?_)
    | ((with_reducible show wpList _ _ _ (⟨none, .store _ (.tmp 2) _, _, _, _, _⟩ :: _) _ _); refine wpList_store_row rfl 32 _ _ rfl (w.heap.size + 1) A rfl rfl 32 c HR2.out HI5.out HSZ.out HAO.out ?_))
  refine bodyPost_ret (results_cell_row rfl _ _ (w.heap.size + 1) 32 A (0, 0) _ rfl (rowC_setRow HR2.out _) Tryz.underlying32 rfl HI5.out) rfl ?_
  exact ⟨by rw [HA.out], below_setRow HB3.out (by omega) _⟩
theorem checkRoot_any (k : Int) (w : World) :
    Calls Tryz.prog 68 #[.int .i64 k] w fun e w' => e = .returned (.int .i64 (if k = 2 then 0 else 71)) ∧ w = w' := by
  by_cases h : k = 2
  · rw [if_pos h]
    subst h
    go_enter Tryz.func68, Tryz.ntmps68
    go_wp2
    go_ret
    exact ⟨rfl, rfl⟩
  · rw [if_neg h]
    have g : (k != 2) = true := by rw [bne_iff_ne]; exact h
    go_enter Tryz.func68, Tryz.ntmps68
    go_wp2
    go_ret
    exact ⟨rfl, rfl⟩
end Go.Proofs.YtoallfcpnbhhiaaGreatDoor
#print axioms Go.Proofs.YtoallfcpnbhhiaaGreatDoor.nclone_any
#print axioms Go.Proofs.YtoallfcpnbhhiaaGreatDoor.checkRoot_any

