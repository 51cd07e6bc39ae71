/- Merged: PtG, PtN. -/
import Derived.Test.YtoallfcpnbhhiaaGreatDoorM09
import Derived.Test.YtoallfcpnbhhiaaGreatDoorM08
/- Layer 14: the program's step: what a path's next part says. -/
namespace Go.Proofs.YtoallfcpnbhhiaaGreatDoor
open Go.RowKit

set_option maxRecDepth 100000 in
set_option maxHeartbeats 2000000 in
theorem step_any (base B : Nat) (l : List (List UInt8)) (x : List UInt8) (hl : l.length ≤ 1000000) (hB : B < base) (w : World) (hw : base ≤ w.heap.size) (hk : StkAt w base B l) :
    Calls Tryz.prog 61 #[.pointer (some ⟨B, 0, none⟩), .string (str x)] w fun e w' => e = .returned (.bool (stepP (some l) x).isSome) ∧ (∀ l', stepP (some l) x = some l' → StkAt w' base B l') ∧ StkC base B w w' := by
  have q1 : (str x).toList.isEmpty = decide (x = []) := empty_lit x
  have q2 : ((str x).toList == [46]) = decide (x = [46]) := eq_lit x [46]
  have q3 : ((str x).toList == [46, 46]) = decide (x = [46, 46]) := eq_lit x [46, 46]
  have C1 := fun w hk => cut_any base B l hl hB w hk
  have C2 := fun w hw hk => put_any base B l x hl hB w hw hk
  have C3 := fun w => contains_any x 0 w
  have HK := Lib.hid hk
  have HW := Lib.hid hw
  have HS : Hid (stepP (some l) x = if x = [] ∨ x = [46] then some l else if x = [46, 46] then (if l = [] then none else some l.dropLast) else if (0 : UInt8) ∈ x then none else some (l ++ [x])) := Lib.hid rfl
  by_cases h1 : x = []
  · have HV := Lib.hid (show stepP (some l) x = some l by rw [HS.out, if_pos (.inl h1)])
    rw [decide_eq_true h1] at q1
    clear h1 hk HS C1 C2 C3
    go_enter Tryz.func61, Tryz.ntmps61
    go_wp2
    go_ret
    exact ⟨retB (by rw [HV.out]; rfl), fun l' h => (by rw [HV.out] at h; cases h; exact HK.out), StkC.refl _ _ _⟩
  rw [decide_eq_false h1] at q1
  by_cases h2 : x = [46]
  · have HV := Lib.hid (show stepP (some l) x = some l by rw [HS.out, if_pos (.inr h2)])
    rw [decide_eq_true h2] at q2
    clear h1 h2 hk HS C1 C2 C3
    go_enter Tryz.func61, Tryz.ntmps61
    go_wp2
    go_ret
    exact ⟨retB (by rw [HV.out]; rfl), fun l' h => (by rw [HV.out] at h; cases h; exact HK.out), StkC.refl _ _ _⟩
  rw [decide_eq_false h2] at q2
  have h12 : ¬ (x = [] ∨ x = [46]) := by rintro (h | h); exact h1 h; exact h2 h
  by_cases h3 : x = [46, 46]
  · have HV := Lib.hid (show stepP (some l) x = if l = [] then none else some l.dropLast by rw [HS.out, if_neg h12, if_pos h3])
    rw [decide_eq_true h3] at q3
    clear h1 h2 h3 h12 HS C2 C3
    have CC := C1 w hk
    clear C1 hk
    generalize hb : (!decide (l = [])) = b at *
    have HB := Lib.hid hb
    clear hb
    go_enter Tryz.func61, Tryz.ntmps61
    go_wp2_with (go_at_call 79; ((with_reducible refine CC.mono ?_); rintro e w1 ⟨rfl, hs1, hc1⟩))
    go_ret
    refine ⟨retB ?_, fun l' h => ?_, hc1⟩
    · rw [HV.out, ← HB.out]
      by_cases h0 : l = []
      · rw [if_pos h0, decide_eq_true h0]; rfl
      · rw [if_neg h0, decide_eq_false h0]; rfl
    · rw [HV.out] at h
      by_cases h0 : l = []
      · rw [if_pos h0] at h; cases h
      · rw [if_neg h0] at h; cases h; exact hs1
  rw [decide_eq_false h3] at q3
  by_cases h4 : (0 : UInt8) ∈ x
  · have HV := Lib.hid (show stepP (some l) x = none by rw [HS.out, if_neg h12, if_neg h3, if_pos h4])
    rw [decide_eq_true h4] at C3
    clear h1 h2 h3 h4 h12 HS C1 C2 hk
    go_enter Tryz.func61, Tryz.ntmps61
    go_wp2_with (go_at_call 80; ((with_reducible refine (C3 _).mono ?_); rintro e w1 ⟨rfl, rfl⟩))
    go_ret
    exact ⟨retB (by rw [HV.out]; rfl), fun l' h => (by rw [HV.out] at h; cases h), StkC.refl _ _ _⟩
  · have HV := Lib.hid (show stepP (some l) x = some (l ++ [x]) by rw [HS.out, if_neg h12, if_neg h3, if_neg h4])
    rw [decide_eq_false h4] at C3
    have CC := C2 w hw hk
    clear h1 h2 h3 h4 h12 HS C1 C2 hk
    go_enter Tryz.func61, Tryz.ntmps61
    go_wp2_with (first
      | (go_at_call 80; ((with_reducible refine (C3 _).mono ?_); rintro e w1 ⟨rfl, rfl⟩))
      | (go_at_call 81; ((with_reducible refine CC.mono ?_); rintro e w1 ⟨rfl, hs1, hc1⟩)))
    go_ret
    exact ⟨retB (by rw [HV.out]; rfl), fun l' h => (by rw [HV.out] at h; cases h; exact hs1), hc1⟩
end Go.Proofs.YtoallfcpnbhhiaaGreatDoor

/- Layer 14: strings.SplitSeq at one byte, as a range over it takes it. -/
namespace Go.Proofs.YtoallfcpnbhhiaaGreatDoor
open Go.RowKit Go.Shelf
attribute [local go_sem] Oper.semAt_some

/-- The iterator's boxes: the text that is left, the byte, and how much of it is kept. -/
def boxS (B : Nat) : Nat → Prop := fun b => b = B ∨ b = B + 1 ∨ b = B + 2
structure Boxes (B : Nat) (u : List UInt8) (c : UInt8) (W : World) : Prop where
  s : W.cell? ⟨B, 0, none⟩ = some (.string (str u)) ∧ W.frozen? ⟨B, 0, none⟩ = false
  p : W.cell? ⟨B + 1, 0, none⟩ = some (.string ⟨#[c]⟩) ∧ W.frozen? ⟨B + 1, 0, none⟩ = false
  k : W.cell? ⟨B + 2, 0, none⟩ = some (.int .i64 0) ∧ W.frozen? ⟨B + 2, 0, none⟩ = false
theorem Boxes.kept {B : Nat} {u : List UInt8} {c : UInt8} {W W' : World} (h : Boxes B u c W) (hk : KeepsIn (boxS B) W W') : Boxes B u c W' :=
  ⟨hk B (.inl rfl) _ h.s.1 h.s.2, hk (B + 1) (.inr (.inl rfl)) _ h.p.1 h.p.2, hk (B + 2) (.inr (.inr rfl)) _ h.k.1 h.k.2⟩
theorem Boxes.next {B : Nat} {u : List UInt8} {c : UInt8} {W : World} (h : Boxes B u c W) (r : List UInt8) : Boxes B r c (W.setCell ⟨B, 0, none⟩ (.string (str r))) :=
  ⟨⟨World.cell?_setCell_same' _ _ _ (by rw [h.s.1]; rfl), by rw [World.frozen?_setCell]; exact h.s.2⟩,
    ⟨(World.cell?_setCell_other W ⟨B, 0, none⟩ ⟨B + 1, 0, none⟩ _ (by simp)).trans h.p.1, by rw [World.frozen?_setCell]; exact h.p.2⟩,
    ⟨(World.cell?_setCell_other W ⟨B, 0, none⟩ ⟨B + 2, 0, none⟩ _ (by simp)).trans h.k.1, by rw [World.frozen?_setCell]; exact h.k.2⟩⟩
def leftV (B : Nat) (W : World) : Nat := match W.cell? ⟨B, 0, none⟩ with | some (.string s) => s.size | _ => 0
theorem leftV_of {B : Nat} {u : List UInt8} {W : World} (h : W.cell? ⟨B, 0, none⟩ = some (.string (str u))) : leftV B W = u.length := by
  unfold leftV
  rw [h]
  exact str_size u
set_option maxRecDepth 100000 in
set_option maxHeartbeats 4000000 in
theorem split_iter (n : Nat) (hn : 1 ≤ n) (B : Nat) (S : List UInt8) (c : UInt8) (hS : S.length ≤ 1000000) (w : World) (hb : Boxes B S c w) :
    IterB Tryz.prog n 104 #[.pointer (some ⟨B + 1, 0, none⟩), .pointer (some ⟨B, 0, none⟩), .pointer (some ⟨B + 2, 0, none⟩)] (boxS B) B (cutL S c) w := by
  intro l J Jx W hW hJ hY h0
  have H0 := hb.kept hW
  clear hW hb
  refine callsIn_of_wp Tryz.func104 rfl trivial ?_ rfl
  simp only [Tryz.ntmps104, List.size_toArray, List.length_cons, List.length_nil, Nat.reduceAdd, Nat.reduceSub, Array.replicate_succ, Array.replicate_zero, List.push_toArray, List.append_toArray, List.nil_append, List.cons_append]
  have p1 := H0.p.1
  have hc1 : (⟨#[c]⟩ : ByteArray).size = 1 := rfl
  gi_wp2
  clear p1
  gi_loopw [] (fun wr => ∃ (pre : List (List UInt8)) (u : List UInt8), Hid (cutL S c = pre ++ cutL u c) ∧ u.length ≤ 1000000 ∧ Boxes B u c wr ∧ J pre wr) (fun wr => leftV B wr)
  case atStart => exact ⟨[], S, Lib.hid rfl, hS, H0, h0⟩
  case round =>
    obtain ⟨pre, u, hpl, hu, hB, hj⟩ := hrel
    clear H0 h0
    have CI := fun w => Tryz.strings_Index_one (str u) c w
    rw [show (str u).data.toList = u from rfl] at CI
    have hs := hB.s
    have hp := hB.p
    have hk := hB.k
    have hlv := leftV_of hs.1
    by_cases hm : c ∈ u
    · obtain ⟨a, b, hab, hna⟩ := cut_first hm
      rw [show Lib.indexByte u c = (a.length : Int) by rw [hab]; exact index_at b hna] at CI
      have hpl2 : Hid (cutL S c = (pre ++ [a]) ++ cutL b c) := by
        have e := hpl.out
        rw [hab, cutL_two b hna] at e
        rw [List.append_assoc]
        exact Lib.hid e
      have hpos : 0 < (cutL b c).length := cutL_pos b c
      have hpre : pre ++ [a] <+: cutL S c := ⟨cutL b c, hpl2.out.symm⟩
      have hlen : u.length = a.length + (b.length + 1) := by rw [hab, List.length_append, List.length_cons]
      have HX := Lib.hid (show (str u).extract 0 a.length = str a by rw [hab]; exact part_ahead a b c)
      have HY := Lib.hid (show (str u).extract (a.length + 1) u.length = str b by rw [hab]; exact part_behind a b c)
      have hzu := str_size u
      have s1 : ∀ W, (Instr.slice 9 (.string (str u)) none (some (.int .i64 (a.length : Int))) none).run Tryz.prog W = .ok (.string (str a)) W := fun W => by
        have h := run_slice_string W 9 (str u) .i64 .i64 0 a.length Tryz.underlying9 (by omega) (by omega) (by rw [hzu]; omega)
        rw [← HX.out]
        exact h
      have s2 : ∀ W, (Instr.slice 9 (.string (str u)) (some (.int .i64 ((a.length : Int) + 1))) none none).run Tryz.prog W = .ok (.string (str b)) W := fun W => by
        have h := run_slice_string_l (P := Tryz.prog) (w := W) (t := 9) (s := str u) Tryz.underlying9 .i64 ((a.length : Int) + 1) (by omega) (by rw [hzu]; omega)
        rw [show ((a.length : Int) + 1).toNat = a.length + 1 by omega, hzu, HY.out] at h
        exact h
      have hy' := hY pre a wr hj hpre
      obtain ⟨fn, tmps, assign, body, hy, hR⟩ := hy'
      have c1 : (a.length : Int) ≤ 1000000 := by omega
      clear hab hpre hpos HX HY hzu
      gi_wp2_with (refine ⟨trivial, ?_⟩; gi_at_call 106; refine (callsIn_wide.2 (CI _)).mono ?_; rintro e w' ⟨rfl, rfl⟩)
      refine hR.mono ?_
      rintro e W3 (⟨rfl, hJ3, hk3⟩ | ⟨rfl, hJx3⟩)
      · have hB3 := hB.kept hk3
        have q1 := hB3.s
        have q2 := hB3.p
        clear hB hs hp hk hj hR hy CI
        gi_wp2
        go_roundw
        case rel => exact ⟨pre ++ [a], b, hpl2, by omega, hB3.next b, hJ _ _ _ hJ3⟩
        case measure => rw [leftV_of (hB3.next b).s.1]; omega
      · clear hR hy CI
        gi_wp2
        refine bodyPost_ret (results_none rfl _ _ _) rfl ?_
        exact ⟨⟨_, rfl⟩, .inr ⟨pre ++ [a], ⟨cutL b c, hpl2.out.symm⟩, hJx3⟩⟩
    · rw [index_miss hm] at CI
      rw [cutL_one u c hm] at hpl
      have hy' := hY pre u wr hj ⟨[], by rw [hpl.out, List.append_nil]⟩
      obtain ⟨fn, tmps, assign, body, hy, hR⟩ := hy'
      gi_wp2_with (refine ⟨trivial, ?_⟩; gi_at_call 106; refine (callsIn_wide.2 (CI _)).mono ?_; rintro e w' ⟨rfl, rfl⟩)
      refine hR.mono ?_
      rintro e W3 (⟨rfl, hJ3, hk3⟩ | ⟨rfl, hJx3⟩)
      · clear hB hs hp hk hj hR hy CI
        gi_wp2
        go_end0
        exact ⟨⟨_, rfl⟩, .inl (by rw [hpl.out]; exact hJ3)⟩
      · clear hR hy CI
        gi_wp2
        go_end0
        exact ⟨⟨_, rfl⟩, .inr ⟨pre ++ [u], ⟨[], by rw [hpl.out, List.append_nil]⟩, hJx3⟩⟩
end Go.Proofs.YtoallfcpnbhhiaaGreatDoor

