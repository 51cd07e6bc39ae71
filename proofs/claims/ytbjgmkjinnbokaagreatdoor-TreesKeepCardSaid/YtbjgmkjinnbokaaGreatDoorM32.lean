/- Merged: UvS, UvT. -/
import Derived.Test.YtbjgmkjinnbokaaGreatDoorM30
import Derived.Test.YtbjgmkjinnbokaaGreatDoorM31
import Derived.Test.YtbjgmkjinnbokaaGreatDoorM19
/- Layer 16: the program's readNodes. -/
namespace Go.Proofs.YtbjgmkjinnbokaaGreatDoor
open Go.RowKit
attribute [local go_sem] wide_fn round_fn

/-- So many nodes, one behind the other; the last word: were they cut off? -/
def readN : Nat → List UInt8 → List Nd × List UInt8 × Bool
  | 0, R => ([], R, false)
  | n + 1, R => if rO R false then ([], R, true) else (rX R :: (readN n (rR6 R)).1, (readN n (rR6 R)).2)
def joinN (l : List Nd) (p : List Nd × List UInt8 × Bool) : List Nd × List UInt8 × Bool := (l ++ p.1, p.2)
theorem readN_off {n : Nat} {R : List UInt8} (l : List Nd) (h : rO R false = true) : (joinN l (readN (n + 1) R)).2.2 = true := by
  rw [readN, if_pos h]
  rfl
theorem readN_on {n : Nat} {R : List UInt8} (l : List Nd) (h : rO R false = false) : joinN l (readN (n + 1) R) = joinN (l ++ [rX R]) (readN n (rR6 R)) := by
  rw [readN, if_neg (by rw [h]; decide)]
  unfold joinN
  rw [List.append_assoc]
  rfl
/-- What all nodes read come to: none if they are cut off. -/
def readS (s : List UInt8) : Option (List Nd × List UInt8) :=
  if takeO 2 s false then none else if (readN (getN (takeV 2 s)) (takeR 2 s)).2.2 then none else some ((readN (getN (takeV 2 s)) (takeR 2 s)).1, (readN (getN (takeV 2 s)) (takeR 2 s)).2.1)
theorem rdnode_x (B : Nat) (R : List UInt8) (o : Bool) (w : World) (h : RdrAt w B R o) :
    Calls Tryz.prog 34 #[.pointer (some ⟨B, 0, none⟩)] w fun e w' => e = .returned (.agg #[.string (str (rX R).path), .int .i64 (rX R).kind, .int .i64 (rX R).mode, .string (str (rX R).data)]) ∧ RdrAt w' B (rR6 R) (rO R o) ∧ Chg (fun j => j = B) w w' := by
  have := rdnode_any B R o w h
  simp only [rX]
  exact this
theorem info_rdr : (Tryz.prog.info? 78).map (·.size) = some 2 := by kernel_rfl
/-- Behind a node that is read, and its own copy. -/
theorem rn_after {w wr w3 : World} {R6 : List UInt8} {OO : Bool} {x : Nd} {a : Option Addr} {k c : Nat} {l : List Nd} (hB : Below w.heap.size w wr ∧ w.heap.size + 1 ≤ wr.heap.size) (hO : OwnsN wr (w.heap.size + 1) (.slice a k c) l)
    (r3 : RdrAt w3 w.heap.size R6 OO) (c3 : Chg (fun j => j = w.heap.size) wr w3) :
    ∃ W2, W2 = w3.alloc (.cells (ndA x) 41) ∧ Hid (Below w.heap.size w W2 ∧ w.heap.size + 1 ≤ W2.heap.size) ∧ Hid (RdrAt W2 w.heap.size R6 OO) ∧ W2.cell? ⟨w.heap.size, 1, none⟩ = some (.bool OO) ∧ Hid (rowC W2 w3.heap.size (ndA x) 41) ∧ Hid (OwnsN W2 (w.heap.size + 1) (.slice a k c) l) := by
  have h3 : Below w.heap.size w w3 := hB.1.trans (c3.below hB.1.size (fun q hq e => by
    have e' : q = w.heap.size := e
    omega))
  have hs3 : w.heap.size + 1 ≤ w3.heap.size := Nat.le_trans hB.2 c3.size
  have hr : RdrAt (w3.alloc (.cells (ndA x) 41)) w.heap.size R6 OO := rowC_alloc r3 _
  have ho : OwnsN w3 (w.heap.size + 1) (.slice a k c) l := c3.owns hO (fun q hq e => by
    have e' : q = w.heap.size := e
    have := (World.ownsRow.lt hO q hq).1
    omega)
  exact ⟨_, rfl, Lib.hid ⟨h3.alloc h3.size _, by rw [size_alloc]; omega⟩, Lib.hid hr, rowC_cell hr 1, Lib.hid (rowC_new w3 _ _), Lib.hid (World.ownsRow.alloc (show w3.ownsRow _ _ _ _ _ _ from ho) _)⟩
set_option maxRecDepth 100000 in
set_option maxHeartbeats 8000000 in
theorem readNodes_any (s : List UInt8) (w : World) :
    Calls Tryz.prog 21 #[.string (str s)] w fun e w' => ((∃ l R a c, readS s = some (l, R) ∧ e = .returned (.tuple #[.slice a l.length c, .bool true]) ∧ l.length ≤ c ∧ NodesAt w' a l ∧ l.length = getN (takeV 2 s) ∧ l.length < 65536 ∧ ∀ x ∈ l, x.path.length ≤ s.length ∧ x.data.length ≤ s.length) ∨ ∃ v, readS s = none ∧ e = .returned (.tuple #[v, .bool false])) ∧ Below w.heap.size w w' := by
  have HI := Lib.hid info_nd4
  have HIR := Lib.hid info_rdr
  obtain ⟨i0, hi, hz0, hz1, hz2⟩ := info_parts info_nd
  obtain ⟨W0, hW0⟩ : ∃ W0, W0 = w.alloc (.cells #[.string (str s), .bool false] 78) := ⟨_, rfl⟩
  have HW0 := Lib.hid hW0
  have HR0 : Hid (RdrAt W0 w.heap.size s false) := Lib.hid (by rw [hW0]; exact rowC_new w _ _)
  have HB0 : Hid (Below w.heap.size w W0 ∧ w.heap.size + 1 ≤ W0.heap.size) := Lib.hid (by rw [hW0]; exact ⟨(Below.refl _ _).alloc (Nat.le_refl _) _, by rw [size_alloc]; exact Nat.le_refl _⟩)
  have hone : Hid ((#[.string (str s), .bool false] : Array Value).all (·.oneCell') = true) := Lib.hid (by simp [Value.oneCell'])
  have CN := rdn2 w.heap.size s false W0 HR0.out
  have hG := getN_small (takeV_le 2 s) (by decide)
  have HG2 : Hid (getN (takeV 2 s) < 65536) := Lib.hid (by
    have h1 := getK_lt (takeV 2 s) (min (takeV 2 s).length 8)
    have h2 : 256 ^ (min (takeV 2 s).length 8) ≤ 256 ^ 2 := Nat.pow_le_pow_right (by omega) (by have := takeV_le 2 s; omega)
    unfold getN
    exact Nat.lt_of_lt_of_le h1 (by simpa using h2))
  have HS : Hid (readS s = if takeO 2 s false then none else if (readN (getN (takeV 2 s)) (takeR 2 s)).2.2 then none else some ((readN (getN (takeV 2 s)) (takeR 2 s)).1, (readN (getN (takeV 2 s)) (takeR 2 s)).2.1)) := Lib.hid rfl
  have HTL := Lib.hid (takeR_len 2 s)
  have HOZ : Hid (takeO 2 s false = true → getN (takeV 2 s) = 0) := Lib.hid fun h => by
    unfold takeO at h
    rw [Bool.or_false, decide_eq_true_eq] at h
    unfold takeV
    rw [if_pos h]
    rfl
  generalize getN (takeV 2 s) = N at *
  generalize takeR 2 s = R0 at *
  generalize takeO 2 s false = O0 at *
  have hN := HG2.out
  clear hW0 hG
  go_enter Tryz.func21, Tryz.ntmps21
  go_upto_region 3 with (first
    | ((with_reducible show wpList _ _ _ (⟨none, .store _ (.tmp 4) _, _, _, _, _⟩ :: _) _ _); refine wpList_store_last rfl 78 _ _ rfl w.heap.size #[.string (str s), .bool false] rfl rfl 78 _ rfl HIR.out rfl hone.out ?_; rw [← HW0.out])
    | (go_at_call 33; ((with_reducible refine CN.mono ?_); rintro e w1 ⟨rfl, r1, c1⟩))
    | go_in)
  have HR1 := Lib.hid r1
  have HB1 : Hid (Below w.heap.size w w1 ∧ w.heap.size + 1 ≤ w1.heap.size) := Lib.hid ⟨HB0.out.1.trans (c1.below (by have := HB0.out.2; omega) (fun k hk e => by omega)), Nat.le_trans HB0.out.2 c1.size⟩
  clear r1 c1 CN HW0 HR0 HB0
  go_loopw [2, 5, 9] (fun v _ i wr => ∃ (l : List Nd) (R : List UInt8) (a : Option Addr) (c k : Nat), k ≤ N ∧ l.length = k ∧ i = .int .i64 (k : Int) ∧ v = .slice a k c ∧ Hid (OwnsN wr (w.heap.size + 1) (.slice a k c) l) ∧ Hid (RdrAt wr w.heap.size R (O0 && true)) ∧ Hid (Below w.heap.size w wr ∧ w.heap.size + 1 ≤ wr.heap.size) ∧ Hid ((O0 = true → k = N) ∧ readN N R0 = joinN l (readN (N - k) R)) ∧ Hid (R.length ≤ s.length) ∧ Hid (∀ x ∈ l, x.path.length ≤ s.length ∧ x.data.length ≤ s.length)) (fun _ _ i _ => N - (intOf i).toNat)
  case atStart => exact ⟨[], R0, none, 0, 0, Nat.zero_le _, rfl, rfl, rfl, Lib.hid (owns_noneN _ _), Lib.hid (by rw [Bool.and_true]; exact HR1.out), HB1, Lib.hid ⟨fun h => (HOZ.out h).symm, by unfold joinN; rw [Nat.sub_zero]; rfl⟩, HTL, Lib.hid (fun x hx => by cases hx)⟩
  case round =>
    obtain ⟨l, R, a, c, k, hk, hlk, rfl, rfl, hO, hR, hB, hJ, hRL, hX⟩ := hrel
    rw [Bool.and_true] at hR
    by_cases hlt : k < N
    · obtain rfl : O0 = false := by
        cases O0
        · rfl
        · have := hJ.out.1 rfl
          omega
      have g1 : (k : Int) < (N : Int) := by omega
      have CD := rdnode_x w.heap.size R false wr hR.out
      have HON := Lib.hid (fun (h : rO R false = false) => readN_on (n := N - (k + 1)) l h)
      have HOF := Lib.hid (fun (h : rO R false = true) => readN_off (n := N - (k + 1)) l h)
      have HXL := Lib.hid (rX_len R)
      have HRL6 := Lib.hid (rR6_len R)
      rw [show N - (k + 1) + 1 = N - k by omega] at HON HOF
      generalize rX R = x at *
      generalize rO R false = OO at *
      generalize rR6 R = R6 at *
      have HONE := Lib.hid (ndA_one x)
      cases OO
      · have HNX := Lib.hid (hJ.out.2.trans (HON.out rfl))
        clear HON HOF
        go_upto_region 7 with (first
        | (go_at_call 34; ((with_reducible refine CD.mono ?_); rintro e w3 ⟨rfl, r3, c3⟩; obtain ⟨W2, hW2, HB2, HR2, b1, HZ2, HO2⟩ := rn_after (x := x) hB.out hO.out r3 c3; have HW2 := Lib.hid hW2; clear r3 c3 hW2))
        | ((with_reducible show wpList _ _ _ (⟨none, .store _ (.tmp 5) _, _, _, _, _⟩ :: _) _ _); refine wpList_store_last rfl 41 _ _ rfl w3.heap.size (ndA x) rfl rfl 41 _ rfl HI.out rfl HONE.out ?_; rw [← HW2.out])
          | go_in)
        have HO4 : Hid ((W2.alloc (.cells (ndA x) 41)).ownsRow (w.heap.size + 1) 41 4 (.slice a k c) k (rowN l)) := Lib.hid (by
          have h2 := World.ownsRow.alloc (show W2.ownsRow _ _ _ _ _ _ from HO2.out) (.cells (ndA x) 41)
          rwa [hlk] at h2)
        have HNEW : Hid (∀ j u, (ndV x)[j]? = some u → (W2.alloc (.cells (ndA x) 41)).cell? ((⟨W2.heap.size, 0, none⟩ : Addr).add j) = some u) := Lib.hid (row_cells (rowC_new W2 (ndA x) 41))
        have HBA : Hid (Below w.heap.size w (W2.alloc (.cells (ndA x) 41)) ∧ w.heap.size + 1 ≤ (W2.alloc (.cells (ndA x) 41)).heap.size) := Lib.hid ⟨HB2.out.1.alloc HB2.out.1.size _, by rw [size_alloc]; have := HB2.out.2; omega⟩
        clear b1 HW2 HO2
        go_wp2_with (first
          | ((with_reducible show wpList _ _ _ (⟨some 15, .load _ (.tmp 5), _, _, _, _⟩ :: _) _ _); refine wpList_load_row rfl 41 _ rfl w3.heap.size rfl 41 (ndA x) (0, 0) _ HZ2.out Tryz.underlying41 rfl HI.out ?_)
          | ((with_reducible show wpList _ _ _ (⟨some 16, .buildSlice _ _ _, _, _, _, _⟩ :: _) _ _); refine wpList_oneR rfl 24 41 4 _ rfl (ndA x) rfl i0 _ Tryz.underlying24 hi hz0 hz1 rfl (by decide) (by decide) ?_)
          | ((with_reducible show wpList _ _ _ (⟨some 17, .call _, _, _, _, _⟩ :: _) _ _); refine wpList_append_lies _ rfl _ _ 24 rfl (w.heap.size + 1) 41 i0 _ 4 48 Tryz.underlying24 hi hz0 hz1 hz2 rfl (by decide) (.slice a k c) k (rowN l) rfl HO4.out ⟨W2.heap.size, 0, none⟩ 1 1 (ndV x) rfl rfl HNEW.out (ndV_one _) (by decide) (by unfold maxLen; omega) (by omega) HBA.out.2 _ rfl ?_; intro g5 c5 w5 ho5 hg5 _ _)
          | go_in)
        have hown5 := World.ownsRow.lt HO4.out
        have HBF : Hid (Below w.heap.size w w5 ∧ w.heap.size + 1 ≤ w5.heap.size) := Lib.hid ⟨HBA.out.1.grown hg5 HBA.out.1.size (fun j hj => by have := (hown5 j hj).1; omega), Nat.le_trans HBA.out.2 hg5.size⟩
        have HOF5 : Hid (OwnsN w5 (w.heap.size + 1) (.slice (some ⟨g5, 0, none⟩) (k + 1) c5) (l ++ [x])) := Lib.hid (by
          show w5.ownsRow _ _ _ _ _ _
          rw [List.length_append, rowN_app, hlk]
          have e : rowN [x] = ndV x := by simp [rowN]
          rw [e]
          exact ho5)
        have HR5 : Hid (RdrAt w5 w.heap.size R6 (false && true)) := Lib.hid (by
          have h1 : RdrAt (W2.alloc (.cells (ndA x) 41)) w.heap.size R6 false := rowC_alloc HR2.out _
          exact ((Chg.refl (fun q => q ≠ w.heap.size) _).grown hg5 (fun q hq => .inl (by have := (hown5 q hq).1; show q ≠ w.heap.size; omega))).rowC h1 (fun h => h rfl))
        have HJ5 : Hid ((false = true → k + 1 = N) ∧ readN N R0 = joinN (l ++ [x]) (readN (N - (k + 1)) R6)) := Lib.hid ⟨fun h => absurd h (by decide), HNX.out⟩
        have HX5 : Hid (∀ y ∈ l ++ [x], y.path.length ≤ s.length ∧ y.data.length ≤ s.length) := Lib.hid fun y hy => by
          rw [List.mem_append, List.mem_singleton] at hy
          rcases hy with hy | rfl
          · exact hX.out y hy
          · have := HXL.out; have := hRL.out; omega
        have HL5 : Hid (R6.length ≤ s.length) := Lib.hid (by have := HRL6.out; have := hRL.out; omega)
        clear ho5 hg5
        go_roundw
        case rel => exact ⟨l ++ [x], R6, _, c5, k + 1, by omega, by rw [List.length_append, hlk]; rfl, by go_num, rfl, HOF5, HR5, HBF, HJ5, HL5, HX5⟩
        case measure => simp [intOf] <;> omega
      · have HNO : Hid (readS s = none) := Lib.hid (by
          rw [HS.out, if_neg (by decide), if_pos]
          rw [hJ.out.2]
          exact HOF.out rfl)
        clear HON HOF
        go_wp2_with (first
        | (go_at_call 34; ((with_reducible refine CD.mono ?_); rintro e w3 ⟨rfl, r3, c3⟩; obtain ⟨W2, hW2, HB2, HR2, b1, HZ2, HO2⟩ := rn_after (x := x) hB.out hO.out r3 c3; have HW2 := Lib.hid hW2; clear r3 c3 hW2))
        | ((with_reducible show wpList _ _ _ (⟨none, .store _ (.tmp 5) _, _, _, _, _⟩ :: _) _ _); refine wpList_store_last rfl 41 _ _ rfl w3.heap.size (ndA x) rfl rfl 41 _ rfl HI.out rfl HONE.out ?_; rw [← HW2.out])
          | go_in)
        go_ret2
        exact ⟨.inr ⟨_, HNO.out, rfl⟩, HB2.out.1⟩
    · obtain rfl : k = N := by omega
      have HCAP := Lib.hid (owns_cap hO.out)
      have HNA := Lib.hid hO.out.nodes
      rw [Nat.sub_self] at hJ
      have bY := fun y : AftW wr => (show y.v.cell? ⟨w.heap.size, 1, none⟩ = some (.bool O0) from rowC_cell (rowC_below hR.out y.h (rowC_lt hR.out)) 1)
      go_upto_region 9 with (fail)
      refine (wpIn_wide (n := 4)).1 ?_
      refine region_quiet (C := fun w' => ∃ y : AftW wr, w' = y.v) (by kernel_rfl) (by kernel_rfl) (by kernel_rfl) ⟨⟨wr.drew, (Below.refl _ _).drew⟩, rfl⟩ ?_
      iterate 6 (gi_big_quiet_step (fail))
      refine wpQuietIn_nil ?_
      rintro _ ⟨y, rfl⟩
      have HBY := Lib.hid (hB.out.1.trans (y.h.mono hB.out.1.size))
      have HNY := Lib.hid (HNA.out.below y.h)
      clear bY
      cases O0
      · have HR : Hid (readS s = some (l, R)) := Lib.hid (by
          rw [HS.out, if_neg (by decide), hJ.out.2]
          simp [joinN, readN])
        generalize y.v = w9 at *
        gi_wp2
        go_wp2
        go_ret2
        exact ⟨.inl ⟨l, R, a, c, HR.out, by rw [hlk]; rfl, HCAP.out, HNY.out, hlk, by rw [hlk]; exact HG2.out, hX.out⟩, HBY.out⟩
      · have HR : Hid (readS s = none) := Lib.hid (by rw [HS.out, if_pos (by decide)])
        generalize y.v = w9 at *
        gi_wp2
        go_wp2
        go_ret2
        exact ⟨.inr ⟨_, HR.out, rfl⟩, HBY.out⟩
end Go.Proofs.YtbjgmkjinnbokaaGreatDoor

/- Layer 16: the program's Get. -/
namespace Go.Proofs.YtbjgmkjinnbokaaGreatDoor
open Go.RowKit
attribute [local go_sem] wide_fn round_fn

def get16 (s : List UInt8) : List Nd × Int :=
  match readS s with
  | none => ([], 10)
  | some (l, _) => if put16 l = (s, 0) then (l, 0) else ([], 10)
set_option maxRecDepth 100000 in
set_option maxHeartbeats 8000000 in
theorem get16_any (s : List UInt8) (hs : s.length ≤ 100000) (w : World) :
    Calls Tryz.prog 8 #[.string (str s)] w fun e w' => (∃ a c, e = .returned (.tuple #[.slice a (get16 s).1.length c, .int .i64 (get16 s).2]) ∧ NodesAt w' a (get16 s).1) ∧ Below w.heap.size w w' := by
  have CR := readNodes_any s w
  have HG : Hid (get16 s = match readS s with | none => ([], 10) | some (l, _) => if put16 l = (s, 0) then (l, 0) else ([], 10)) := Lib.hid rfl
  obtain ⟨Z, hZ⟩ : ∃ Z, Z = get16 s := ⟨_, rfl⟩
  rw [← hZ] at HG ⊢
  clear hZ
  cases hr : readS s with
  | none =>
    have C1 : Calls Tryz.prog 21 #[.string (str s)] w fun e w' => (∃ v, e = .returned (.tuple #[v, .bool false])) ∧ Below w.heap.size w w' := CR.mono fun e w' ⟨h, hb⟩ => ⟨(by
      rcases h with ⟨l, R, a, c, h1, _⟩ | ⟨v, _, h2⟩
      · rw [hr] at h1
        cases h1
      · exact ⟨v, h2⟩), hb⟩
    rw [hr] at HG
    clear CR hr hs
    go_enter Tryz.func8, Tryz.ntmps8
    go_wp2_with (go_at_call 21; ((with_reducible refine C1.mono ?_); rintro e w1 ⟨⟨v, rfl⟩, hb1⟩))
    go_ret2
    exact ⟨⟨none, 0, by rw [HG.out]; rfl, by rw [HG.out]; exact NodesAt.nil _ _⟩, hb1⟩
  | some p =>
    obtain ⟨l, R⟩ := p
    have C1 : Calls Tryz.prog 21 #[.string (str s)] w fun e w' => (∃ a c, e = .returned (.tuple #[.slice a l.length c, .bool true]) ∧ l.length ≤ c ∧ NodesAt w' a l ∧ l.length < 65536 ∧ ∀ x ∈ l, x.path.length ≤ s.length ∧ x.data.length ≤ s.length) ∧ Below w.heap.size w w' := CR.mono fun e w' ⟨h, hb⟩ => ⟨(by
      rcases h with ⟨l', R', a, c, h1, h2, h3, h4, _, h5⟩ | ⟨v, h1, _⟩
      · rw [hr] at h1
        cases h1
        exact ⟨a, c, h2, h3, h4, h5⟩
      · rw [hr] at h1
        cases h1), hb⟩
    rw [hr] at HG
    replace HG : Hid (Z = if put16 l = (s, 0) then (l, 0) else ([], 10)) := Lib.hid HG.out
    clear CR hr
    go_enter Tryz.func8, Tryz.ntmps8
    go_upto_region 4 with (go_at_call 21; ((with_reducible refine C1.mono ?_); rintro e w1 ⟨⟨a, c, rfl, hcap, hna, hlz, hxz⟩, hb1⟩))
    have CP := put16_any l a c (by unfold maxLen; omega) hcap (fun x hx => by have := hxz x hx; omega) w1 hna
    have CC := fun (W : World) (hb : Below w1.heap.size w1 W) => clones_any l a c (by omega) (fun x hx => by have := hxz x hx; omega) W (hna.below hb)
    have HB1 := Lib.hid hb1
    have q := eq_strs (put16 l).1 s
    have HPS : Hid (put16 l = ((put16 l).1, (put16 l).2)) := Lib.hid rfl
    generalize (put16 l).1 = PS at *
    generalize (put16 l).2 = PE at *
    rw [HPS.out] at HG
    obtain ⟨N, hN⟩ : ∃ N, N = l.length := ⟨_, rfl⟩
    have HNL := Lib.hid hN
    rw [← hN] at CP CC ⊢
    clear hcap hlz hxz hb1 hna C1 HPS hN hs
    by_cases hE : PE = 0
    · subst hE
      by_cases hS : PS = s
      · have HZ := Lib.hid (HG.out.trans (if_pos (by rw [hS])))
        rw [decide_eq_true hS] at q
        clear hS HG
        go_wp2_with (first
          | (go_at_call 7; ((with_reducible refine CP.mono ?_); rintro e w2 ⟨rfl, hb2⟩))
          | (go_at_call 22; ((with_reducible refine (CC _ hb2).mono ?_); rintro e w3 ⟨⟨a3, c3, rfl, hn3⟩, hb3⟩)))
        go_ret2
        exact ⟨⟨a3, c3, by rw [HZ.out, HNL.out]; rfl, by rw [HZ.out]; exact hn3⟩, HB1.out.trans ((hb2.trans (hb3.mono hb2.size)).mono HB1.out.size)⟩
      · have HZ := Lib.hid (HG.out.trans (if_neg (fun h => hS (Prod.mk.inj h).1)))
        rw [decide_eq_false hS] at q
        clear hS HG
        go_wp2_with (go_at_call 7; ((with_reducible refine CP.mono ?_); rintro e w2 ⟨rfl, hb2⟩))
        go_ret2
        exact ⟨⟨none, 0, by rw [HZ.out]; rfl, by rw [HZ.out]; exact NodesAt.nil _ _⟩, HB1.out.trans (hb2.mono HB1.out.size)⟩
    · have g : (PE == (0 : Int)) = false := by rw [beq_eq_false_iff_ne]; exact hE
      have HZ := Lib.hid (HG.out.trans (if_neg (fun h => hE (Prod.mk.inj h).2)))
      clear HG
      go_wp2_with (go_at_call 7; ((with_reducible refine CP.mono ?_); rintro e w2 ⟨rfl, hb2⟩))
      go_ret2
      exact ⟨⟨none, 0, by rw [HZ.out]; rfl, by rw [HZ.out]; exact NodesAt.nil _ _⟩, HB1.out.trans (hb2.mono HB1.out.size)⟩
end Go.Proofs.YtbjgmkjinnbokaaGreatDoor

