/- Merged: RpD, RpE, RpF, RpG, RpH, RpJ, RpK. -/
import Derived.Test.YtldbfjcfobdkpaaDoorM01
import Derived.Test.YtldbfjcfobdkpaaDoorJsA
import Derived.Deep.LoopGhost
import Derived.Lib.OthersKept
import Derived.WalkMore
import Derived.Lib.IndexAny
/- Layer 12: the program's way with a part of a path. -/
namespace Go.Proofs.YtldbfjcfobdkpaaDoor
open Go.RowKit

theorem eq_strs (a b : List UInt8) : ((str a).toList == (str b).toList) = decide (a = b) := by
  have h : ∀ l : List UInt8, (str l).toList = l := fun l => by rw [Lib.toList_data]; rfl
  rw [h, h]
  rw [Bool.eq_iff_iff, beq_iff_eq, decide_eq_true_eq]
theorem takew_split (p : UInt8 → Bool) (u : List UInt8) : u = u.takeWhile p ++ u.dropWhile p := (List.takeWhile_append_dropWhile).symm
theorem takew_all (p : UInt8 → Bool) : ∀ u : List UInt8, (u.takeWhile p).all p = true
  | [] => rfl
  | x :: u => by
    rw [List.takeWhile_cons]
    by_cases h : p x = true
    · rw [if_pos h, List.all_cons, h, takew_all p u]; rfl
    · rw [if_neg h]; rfl
theorem dropw_head {p : UInt8 → Bool} : ∀ {u : List UInt8} {x : UInt8} {r : List UInt8}, u.dropWhile p = x :: r → p x = false
  | [], _, _, h => by cases h
  | y :: u, x, r, h => by
    rw [List.dropWhile_cons] at h
    by_cases hy : p y = true
    · rw [if_pos hy] at h
      exact dropw_head h
    · rw [if_neg hy] at h
      have e : y = x := (List.cons.inj h).1
      rw [← e]
      simpa using hy
theorem part_facts (u : List UInt8) : (u.dropWhile wordB = u ∧ partB u = false) ∨ (u.dropWhile wordB ≠ u ∧ u.dropWhile wordB = [] ∧ partB u = true) ∨
    (u.dropWhile wordB ≠ u ∧ u.dropWhile wordB ≠ [] ∧ ∃ g, u.dropWhile wordB = g ++ (u.dropWhile wordB).dropWhile (fun x => !wordB x) ∧ g ≠ [] ∧ partB u = (gapOk g && partB ((u.dropWhile wordB).dropWhile fun x => !wordB x))) := by
  by_cases h1 : u.dropWhile wordB = u
  · exact .inl ⟨h1, part_none h1⟩
  by_cases h2 : u.dropWhile wordB = []
  · refine .inr (.inl ⟨h1, h2, part_word (fun e => h1 (by rw [e]; rfl)) ?_⟩)
    rw [List.all_eq_true]
    exact dropw_nil.1 h2
  · refine .inr (.inr ⟨h1, h2, (u.dropWhile wordB).takeWhile (fun x => !wordB x), takew_split _ _, ?_, ?_⟩)
    · intro e
      obtain ⟨x, r, hx⟩ := List.exists_cons_of_ne_nil h2
      have hh := dropw_head hx
      rw [hx, List.takeWhile_cons, if_pos (by rw [hh]; rfl)] at e
      cases e
    · have hs := takew_split wordB u
      have hs2 := takew_split (fun x => !wordB x) (u.dropWhile wordB)
      have hg0 : (u.dropWhile wordB).takeWhile (fun x => !wordB x) ≠ [] := by
        intro e
        obtain ⟨x, r, hx⟩ := List.exists_cons_of_ne_nil h2
        have hh := dropw_head hx
        rw [hx, List.takeWhile_cons, if_pos (by rw [hh]; rfl)] at e
        cases e
      have ha0 : u.takeWhile wordB ≠ [] := by
        intro e
        rw [e, List.nil_append] at hs
        exact h1 hs.symm
      have hp := part_gap (s := (u.dropWhile wordB).dropWhile fun x => !wordB x) ha0 (takew_all _ _) hg0 (takew_all (fun x => !wordB x) _) (fun x r e => by have := dropw_head e; simpa using this)
      rw [List.append_assoc, ← hs2, ← hs] at hp
      exact hp
def lenV : Value → Nat
  | .string s => s.size
  | _ => 0
set_option maxRecDepth 100000 in
set_option maxHeartbeats 2000000 in
theorem isPart_any (s : List UInt8) (hl : s.length ≤ 1000000) (w : World) :
    Calls Tryd.prog 56 #[.string (str s)] w fun e w' => e = .returned (.bool (partB s)) ∧ Below w.heap.size w w' := by
  obtain ⟨V, hV⟩ : ∃ V, V = partB s := ⟨_, rfl⟩
  rw [← hV]
  go_enter Tryd.func56, Tryd.ntmps56
  go_wp2
  go_loopw [0] (fun v wr => ∃ u : List UInt8, v = .string (str u) ∧ u.length ≤ 1000000 ∧ Hid (V = partB u) ∧ Hid (Below w.heap.size w wr)) (fun v _ => lenV v)
  case atStart => exact ⟨s, rfl, hl, Lib.hid hV, Lib.hid (Below.refl _ _)⟩
  case round =>
    obtain ⟨u, rfl, hu, hP, hB⟩ := hrel
    have CW := fun w => words_any u w
    have CG := fun w => gaps_any (u.dropWhile wordB) w
    have hle := (List.dropWhile_suffix (p := wordB) (l := u)).length_le
    have hle2 := (List.dropWhile_suffix (p := fun x => !wordB x) (l := u.dropWhile wordB)).length_le
    have hf := part_facts u
    have heq := eq_strs (u.dropWhile wordB) u
    have hem := empty_lit (u.dropWhile wordB)
    have hem2 := eq_none (u.dropWhile wordB)
    have hzu := str_size u
    generalize hT : u.dropWhile wordB = T at *
    generalize hr : (T.dropWhile fun x => !wordB x) = r at *
    have hzT := str_size T
    have hzr := str_size r
    clear hT hr hV
    rcases hf with ⟨f1, f2⟩ | ⟨f1, f2, f3⟩ | ⟨f1, f2, g, f3, f4, f5⟩
    · rw [decide_eq_true f1] at heq
      have HR := Lib.hid (hP.out.trans f2)
      clear f1 f2 hP
      go_wp2_with (first
        | (go_at_call 70; ((with_reducible refine (CW _).mono ?_); rintro e w1 ⟨rfl, b1⟩); have B1 := Lib.hid (hB.out.trans (b1.mono hB.out.size)); clear b1 CW))
      go_ret
      exact ⟨retB HR.out.symm, B1.out⟩
    · rw [decide_eq_false f1] at heq
      rw [decide_eq_true f2] at hem hem2
      have HR := Lib.hid (hP.out.trans f3)
      clear f1 f2 f3 hP
      go_wp2_with (first
        | (go_at_call 70; ((with_reducible refine (CW _).mono ?_); rintro e w1 ⟨rfl, b1⟩); have B1 := Lib.hid (hB.out.trans (b1.mono hB.out.size)); clear b1 CW))
      go_ret
      exact ⟨retB HR.out.symm, B1.out⟩
    · rw [decide_eq_false f1] at heq
      rw [decide_eq_false f2] at hem hem2
      have hgl : T.length = g.length + r.length := by rw [f3, List.length_append]
      have hg0 : 0 < g.length := List.length_pos_iff.2 f4
      have CB := fun w => isBetween_any g f4 (by omega) w
      have hex : (str T).extract 0 (T.length - r.length) = str g := by
        rw [extract_str, List.drop_zero, show T.length - r.length = g.length by omega]
        conv => lhs; rw [f3]
        rw [List.take_left]
      rw [show T.length - r.length = g.length by omega] at hex
      have HR := Lib.hid (hP.out.trans f5)
      clear f1 f2 f3 f4 f5 hP
      have c1 : (0 : Int) ≤ (T.length : Int) - (r.length : Int) := by omega
      have c2 : (T.length : Int) - (r.length : Int) ≤ (T.length : Int) := by omega
      have c3 : (T.length : Int) - (r.length : Int) = (g.length : Int) := by omega
      have c4 : (T.length : Int) ≤ 1000000 := by omega
      have c5 : (r.length : Int) ≤ 1000000 := by omega
      have hsl : ∀ W, (Instr.slice 9 (.string (str T)) none (some (.int .i64 (g.length : Int))) none).run Tryd.prog W = .ok (.string (str g)) W := fun W => by
        have h := run_slice_string W 9 (str T) .i64 .i64 0 g.length Tryd.underlying9 (by omega) (by omega) (by rw [hzT]; omega)
        rw [← hex]
        exact h
      have hw : wrap64 ((T.length : Int) - (r.length : Int)) = (g.length : Int) := by rw [c3]; unfold wrap64; omega
      cases hgo : gapOk g
      · rw [hgo, Bool.false_and] at HR
        rw [hgo] at CB
        go_wp2_with (first
          | (go_at_call 73; ((with_reducible refine (CB _).mono ?_); rintro e w3 ⟨rfl, b3⟩); have B3 := Lib.hid (B2.out.trans (b3.mono B2.out.size)); clear b3 CB)
          | (go_at_call 70; ((with_reducible refine (CW _).mono ?_); rintro e w1 ⟨rfl, b1⟩); have B1 := Lib.hid (hB.out.trans (b1.mono hB.out.size)); clear b1 CW)
          | (go_at_call 70; ((with_reducible refine (CG _).mono ?_); rintro e w2 ⟨rfl, b2⟩); have B2 := Lib.hid (B1.out.trans (b2.mono B1.out.size)); clear b2 CG))
        go_ret
        exact ⟨retB HR.out.symm, B3.out⟩
      · rw [hgo, Bool.true_and] at HR
        rw [hgo] at CB
        go_wp2_with (first
          | (go_at_call 73; ((with_reducible refine (CB _).mono ?_); rintro e w3 ⟨rfl, b3⟩); have B3 := Lib.hid (B2.out.trans (b3.mono B2.out.size)); clear b3 CB)
          | (go_at_call 70; ((with_reducible refine (CW _).mono ?_); rintro e w1 ⟨rfl, b1⟩); have B1 := Lib.hid (hB.out.trans (b1.mono hB.out.size)); clear b1 CW)
          | (go_at_call 70; ((with_reducible refine (CG _).mono ?_); rintro e w2 ⟨rfl, b2⟩); have B2 := Lib.hid (B1.out.trans (b2.mono B1.out.size)); clear b2 CG))
        go_roundw
        case rel => exact ⟨r, rfl, by omega, HR, B3⟩
        case measure => show (str r).size < (str u).size; omega
end Go.Proofs.YtldbfjcfobdkpaaDoor

/- Layer 12: strings.SplitSeq at one byte, as a range over it takes it. -/
namespace Go.Proofs.YtldbfjcfobdkpaaDoor
open Go.RowKit Go.Shelf
attribute [local go_sem] Oper.semAt_some

/-- The iterator's boxes: the text that is left, the byte, and how much of it is kept. -/
def boxS (B : Nat) : Nat → Prop := fun b => b = B ∨ b = B + 1 ∨ b = B + 2
structure Boxes (B : Nat) (u : List UInt8) (c : UInt8) (W : World) : Prop where
  s : W.cell? ⟨B, 0, none⟩ = some (.string (str u)) ∧ W.frozen? ⟨B, 0, none⟩ = false
  p : W.cell? ⟨B + 1, 0, none⟩ = some (.string ⟨#[c]⟩) ∧ W.frozen? ⟨B + 1, 0, none⟩ = false
  k : W.cell? ⟨B + 2, 0, none⟩ = some (.int .i64 0) ∧ W.frozen? ⟨B + 2, 0, none⟩ = false
theorem Boxes.kept {B : Nat} {u : List UInt8} {c : UInt8} {W W' : World} (h : Boxes B u c W) (hk : KeepsIn (boxS B) W W') : Boxes B u c W' :=
  ⟨hk B (.inl rfl) _ h.s.1 h.s.2, hk (B + 1) (.inr (.inl rfl)) _ h.p.1 h.p.2, hk (B + 2) (.inr (.inr rfl)) _ h.k.1 h.k.2⟩
theorem Boxes.next {B : Nat} {u : List UInt8} {c : UInt8} {W : World} (h : Boxes B u c W) (r : List UInt8) : Boxes B r c (W.setCell ⟨B, 0, none⟩ (.string (str r))) :=
  ⟨⟨World.cell?_setCell_same' _ _ _ (by rw [h.s.1]; rfl), by rw [World.frozen?_setCell]; exact h.s.2⟩,
    ⟨(World.cell?_setCell_other W ⟨B, 0, none⟩ ⟨B + 1, 0, none⟩ _ (by simp)).trans h.p.1, by rw [World.frozen?_setCell]; exact h.p.2⟩,
    ⟨(World.cell?_setCell_other W ⟨B, 0, none⟩ ⟨B + 2, 0, none⟩ _ (by simp)).trans h.k.1, by rw [World.frozen?_setCell]; exact h.k.2⟩⟩
def leftV (B : Nat) (W : World) : Nat := match W.cell? ⟨B, 0, none⟩ with | some (.string s) => s.size | _ => 0
theorem leftV_of {B : Nat} {u : List UInt8} {W : World} (h : W.cell? ⟨B, 0, none⟩ = some (.string (str u))) : leftV B W = u.length := by
  unfold leftV
  rw [h]
  exact str_size u
set_option maxRecDepth 100000 in
set_option maxHeartbeats 4000000 in
theorem split_iter (n : Nat) (hn : 1 ≤ n) (B : Nat) (S : List UInt8) (c : UInt8) (hS : S.length ≤ 1000000) (w : World) (hb : Boxes B S c w) :
    IterB Tryd.prog n 85 #[.pointer (some ⟨B + 1, 0, none⟩), .pointer (some ⟨B, 0, none⟩), .pointer (some ⟨B + 2, 0, none⟩)] (boxS B) B (cutL S c) w := by
  intro l J Jx W hW hJ hY h0
  have H0 := hb.kept hW
  clear hW hb
  refine callsIn_of_wp Tryd.func85 rfl trivial ?_ rfl
  simp only [Tryd.ntmps85, List.size_toArray, List.length_cons, List.length_nil, Nat.reduceAdd, Nat.reduceSub, Array.replicate_succ, Array.replicate_zero, List.push_toArray, List.append_toArray, List.nil_append, List.cons_append]
  have p1 := H0.p.1
  have hc1 : (⟨#[c]⟩ : ByteArray).size = 1 := rfl
  gi_wp2
  clear p1
  gi_loopw [] (fun wr => ∃ (pre : List (List UInt8)) (u : List UInt8), Hid (cutL S c = pre ++ cutL u c) ∧ u.length ≤ 1000000 ∧ Boxes B u c wr ∧ J pre wr) (fun wr => leftV B wr)
  case atStart => exact ⟨[], S, Lib.hid rfl, hS, H0, h0⟩
  case round =>
    obtain ⟨pre, u, hpl, hu, hB, hj⟩ := hrel
    clear H0 h0
    have CI := fun w => Tryd.strings_Index_one (str u) c w
    rw [show (str u).data.toList = u from rfl] at CI
    have hs := hB.s
    have hp := hB.p
    have hk := hB.k
    have hlv := leftV_of hs.1
    by_cases hm : c ∈ u
    · obtain ⟨a, b, hab, hna⟩ := cut_first hm
      rw [show Lib.indexByte u c = (a.length : Int) by rw [hab]; exact index_at b hna] at CI
      have hpl2 : Hid (cutL S c = (pre ++ [a]) ++ cutL b c) := by
        have e := hpl.out
        rw [hab, cutL_two b hna] at e
        rw [List.append_assoc]
        exact Lib.hid e
      have hpos : 0 < (cutL b c).length := cutL_pos b c
      have hpre : pre ++ [a] <+: cutL S c := ⟨cutL b c, hpl2.out.symm⟩
      have hlen : u.length = a.length + (b.length + 1) := by rw [hab, List.length_append, List.length_cons]
      have HX := Lib.hid (show (str u).extract 0 a.length = str a by rw [hab]; exact part_ahead a b c)
      have HY := Lib.hid (show (str u).extract (a.length + 1) u.length = str b by rw [hab]; exact part_behind a b c)
      have hzu := str_size u
      have s1 : ∀ W, (Instr.slice 9 (.string (str u)) none (some (.int .i64 (a.length : Int))) none).run Tryd.prog W = .ok (.string (str a)) W := fun W => by
        have h := run_slice_string W 9 (str u) .i64 .i64 0 a.length Tryd.underlying9 (by omega) (by omega) (by rw [hzu]; omega)
        rw [← HX.out]
        exact h
      have s2 : ∀ W, (Instr.slice 9 (.string (str u)) (some (.int .i64 ((a.length : Int) + 1))) none none).run Tryd.prog W = .ok (.string (str b)) W := fun W => by
        have h := run_slice_string_l (P := Tryd.prog) (w := W) (t := 9) (s := str u) Tryd.underlying9 .i64 ((a.length : Int) + 1) (by omega) (by rw [hzu]; omega)
        rw [show ((a.length : Int) + 1).toNat = a.length + 1 by omega, hzu, HY.out] at h
        exact h
      have hy' := hY pre a wr hj hpre
      obtain ⟨fn, tmps, assign, body, hy, hR⟩ := hy'
      have c1 : (a.length : Int) ≤ 1000000 := by omega
      clear hab hpre hpos HX HY hzu
      gi_wp2_with (refine ⟨trivial, ?_⟩; gi_at_call 58; refine (callsIn_wide.2 (CI _)).mono ?_; rintro e w' ⟨rfl, rfl⟩)
      refine hR.mono ?_
      rintro e W3 (⟨rfl, hJ3, hk3⟩ | ⟨rfl, hJx3⟩)
      · have hB3 := hB.kept hk3
        have q1 := hB3.s
        have q2 := hB3.p
        clear hB hs hp hk hj hR hy CI
        gi_wp2
        go_roundw
        case rel => exact ⟨pre ++ [a], b, hpl2, by omega, hB3.next b, hJ _ _ _ hJ3⟩
        case measure => rw [leftV_of (hB3.next b).s.1]; omega
      · clear hR hy CI
        gi_wp2
        refine bodyPost_ret (results_none rfl _ _ _) rfl ?_
        exact ⟨⟨_, rfl⟩, .inr ⟨pre ++ [a], ⟨cutL b c, hpl2.out.symm⟩, hJx3⟩⟩
    · rw [index_miss hm] at CI
      rw [cutL_one u c hm] at hpl
      have hy' := hY pre u wr hj ⟨[], by rw [hpl.out, List.append_nil]⟩
      obtain ⟨fn, tmps, assign, body, hy, hR⟩ := hy'
      gi_wp2_with (refine ⟨trivial, ?_⟩; gi_at_call 58; refine (callsIn_wide.2 (CI _)).mono ?_; rintro e w' ⟨rfl, rfl⟩)
      refine hR.mono ?_
      rintro e W3 (⟨rfl, hJ3, hk3⟩ | ⟨rfl, hJx3⟩)
      · clear hB hs hp hk hj hR hy CI
        gi_wp2
        go_end0
        exact ⟨⟨_, rfl⟩, .inl (by rw [hpl.out]; exact hJ3)⟩
      · clear hR hy CI
        gi_wp2
        go_end0
        exact ⟨⟨_, rfl⟩, .inr ⟨pre ++ [u], ⟨[], by rw [hpl.out, List.append_nil]⟩, hJx3⟩⟩
end Go.Proofs.YtldbfjcfobdkpaaDoor

/- Layer 12: the program's paths and domains: ranges over strings.SplitSeq. -/
namespace Go.Proofs.YtldbfjcfobdkpaaDoor
open Go.RowKit Go.Shelf
attribute [local go_sem] Oper.semAt_some

/-- The world in which the iterator's boxes are laid. -/
def boxW (w : World) (s : List UInt8) (c : UInt8) : World := ((w.alloc (.cells #[.string (str s)] 9)).alloc (.cells #[.string ⟨#[c]⟩] 9)).alloc (.cells #[.int .i64 0] 3)
theorem boxW_size (w : World) (s : List UInt8) (c : UInt8) : (boxW w s c).heap.size = w.heap.size + 3 := by unfold boxW; rw [World.size_alloc, World.size_alloc, World.size_alloc]
theorem boxW_below (w : World) (s : List UInt8) (c : UInt8) : Below w.heap.size w (boxW w s c) := (((Below.refl _ w).alloc (Nat.le_refl _) _).alloc (by simp) _).alloc (by simp; omega) _
theorem new_cell (W : World) (v : Value) (t : TypeId) : (W.alloc (.cells #[v] t)).cell? ⟨W.heap.size, 0, none⟩ = some v ∧ (W.alloc (.cells #[v] t)).frozen? ⟨W.heap.size, 0, none⟩ = false := by
  have h : (W.alloc (.cells #[v] t)).heap[W.heap.size]? = some (.cells #[v] t (0, 0)) := World.alloc_heap_new W _
  unfold World.cell? World.frozen?
  rw [h]
  exact ⟨rfl, rfl⟩
theorem cell_alloc {W : World} {b : Nat} {v : Value} (o : Obj) (h : W.cell? ⟨b, 0, none⟩ = some v ∧ W.frozen? ⟨b, 0, none⟩ = false) : (W.alloc o).cell? ⟨b, 0, none⟩ = some v ∧ (W.alloc o).frozen? ⟨b, 0, none⟩ = false :=
  KeepsIn.below (s := fun _ => True) ((Below.refl _ W).alloc (Nat.le_refl _) o) b trivial v h.1 h.2
theorem boxW_boxes (w : World) (s : List UInt8) (c : UInt8) : Boxes w.heap.size s c (boxW w s c) := by
  have h0 := new_cell w (.string (str s)) 9
  have h1 := new_cell (w.alloc (.cells #[.string (str s)] 9)) (.string ⟨#[c]⟩) 9
  have h2 := new_cell ((w.alloc (.cells #[.string (str s)] 9)).alloc (.cells #[.string ⟨#[c]⟩] 9)) (.int .i64 0) 3
  simp only [World.size_alloc] at h1 h2
  exact ⟨cell_alloc _ (cell_alloc _ h0), cell_alloc _ h1, h2⟩
set_option maxHeartbeats 1000000 in
theorem splitSeq_any (s : List UInt8) (c : UInt8) (w : World) :
    Calls Tryd.prog 69 #[.string (str s), .string ⟨#[c]⟩, .int .i64 0] w fun e w' => e = .returned (.func (.func 85) #[] #[.pointer (some ⟨w.heap.size + 1, 0, none⟩), .pointer (some ⟨w.heap.size, 0, none⟩), .pointer (some ⟨w.heap.size + 2, 0, none⟩)]) ∧ w' = boxW w s c := by
  go_enter Tryd.func69, Tryd.ntmps69
  go_wp2
  go_ret
  exact ⟨rfl, rfl⟩
set_option maxHeartbeats 1000000 in
theorem SplitSeq_any (s : List UInt8) (c : UInt8) (w : World) :
    Calls Tryd.prog 55 #[.string (str s), .string ⟨#[c]⟩] w fun e w' => e = .returned (.func (.func 85) #[] #[.pointer (some ⟨w.heap.size + 1, 0, none⟩), .pointer (some ⟨w.heap.size, 0, none⟩), .pointer (some ⟨w.heap.size + 2, 0, none⟩)]) ∧ w' = boxW w s c := by
  have C := fun w => splitSeq_any s c w
  generalize str s = S at *
  go_enter Tryd.func55, Tryd.ntmps55
  go_wp2_with (go_at_call 69; ((with_reducible refine (C _).mono ?_); rintro e w1 ⟨rfl, rfl⟩))
  go_ret
  exact ⟨rfl, rfl⟩
/-- Between two rounds: the answer's box, and all that lay. -/
structure Bt (w : World) (b : Bool) (W : World) : Prop where
  r : W.cell? ⟨w.heap.size, 0, none⟩ = some (.bool b) ∧ W.frozen? ⟨w.heap.size, 0, none⟩ = false
  b : Below w.heap.size w W
theorem Bt.alloc {w W : World} {b : Bool} (h : Bt w b W) (o : Obj) : Bt w b (W.alloc o) := ⟨cell_alloc o h.r, h.b.alloc h.b.size o⟩
theorem Bt.put {w W : World} {b : Bool} (h : Bt w b W) {l : Nat} {o : Obj} (o' : Obj) (hl : w.heap.size ≤ l) (hh : W.heap[l]? = some o) (hc : o.isCells = false) : Bt w b (W.putObj l o') :=
  ⟨KeepsIn.put (fun _ => True) W l o o' hh hc _ trivial _ h.r.1 h.r.2, h.b.grown (grownBy_putObj' W l o') h.b.size (fun k e => by cases e; exact hl)⟩
theorem Bt.own {w W : World} {b : Bool} (h : Bt w b W) {B : Nat} (hB : w.heap.size < B) (v : Value) : Bt w b (W.setCell ⟨B, 0, none⟩ v) :=
  ⟨KeepsIn.setCell (s := fun k => k = w.heap.size) (p := ⟨B, 0, none⟩) (by show ¬ B = w.heap.size; omega) v _ rfl _ h.r.1 h.r.2, h.b.setCell (p := ⟨B, 0, none⟩) (by show w.heap.size ≤ B; omega) v⟩
theorem Bt.set {w W : World} {b : Bool} (h : Bt w b W) (b' : Bool) : Bt w b' (W.setCell ⟨w.heap.size, 0, none⟩ (.bool b')) :=
  ⟨⟨World.cell?_setCell_same' _ _ _ (by rw [h.r.1]; rfl), by rw [World.frozen?_setCell]; exact h.r.2⟩, h.b.setCell (p := ⟨w.heap.size, 0, none⟩) (Nat.le_refl _) _⟩
theorem Bt.below {w W W' : World} {b : Bool} (h : Bt w b W) (hb : Below W.heap.size W W') : Bt w b W' :=
  ⟨KeepsIn.below (s := fun _ => True) hb _ trivial _ h.r.1 h.r.2, h.b.trans (hb.mono h.b.size)⟩
theorem others_below {W W' : World} (h : Below W.heap.size W W') : KeepsOthers W W' := ⟨h.size, fun k _ hk _ => (h.block k (Array.getElem?_eq_some_iff.1 hk).1).trans hk⟩
theorem Bt.shut {w W : World} {b : Bool} (h : Bt w b W) {D : Nat} (hD : w.heap.size ≤ D) (hK : W.heap[D]? = some (.deferred (some []))) : Bt w b (W.putObj D (.deferred none)) := h.put _ hD hK rfl
/-- All so far are such. -/
def sofar (w : World) (q : List UInt8 → Bool) : List (List UInt8) → World → Prop := fun pre W => pre.all q = true ∧ Bt w false W
def noMore (w : World) (q : List UInt8 → Bool) : List (List UInt8) → World → Prop := fun pre W => pre.all q = false ∧ Bt w false W
theorem abode_of {w0 w : World} {B : Nat} (hB : w.heap.size < B) (hle : w.heap.size ≤ w0.heap.size) (p : List (List UInt8) → Prop) : Abode w0 B (fun pre W => p pre ∧ Bt w false W) :=
  ⟨fun _ _ o h => ⟨h.1, h.2.alloc o⟩, fun _ _ _ _ o' h hl hh hc => ⟨h.1, h.2.put o' (Nat.le_trans hle hl) hh hc⟩, fun _ _ v h => ⟨h.1, h.2.own hB v⟩⟩
theorem all_pre {q : List UInt8 → Bool} {pre xs : List (List UInt8)} (h : pre <+: xs) (hq : pre.all q = false) : xs.all q = false := by
  obtain ⟨t, rfl⟩ := h
  rw [List.all_append, hq]
  rfl
set_option maxRecDepth 100000 in
set_option maxHeartbeats 4000000 in
theorem isPath_any (s : List UInt8) (hl : s.length ≤ 1000000) (w : World) :
    Calls Tryd.prog 39 #[.string (str s)] w fun e w' => e = .returned (.bool (pathB s)) ∧ Below w.heap.size w w' := by
  have HV := Lib.hid (show pathB s = (cutL s 47).all partB from rfl)
  have hpc : ∀ p ∈ cutL s 47, p.length ≤ 1000000 := fun p hp => Nat.le_trans (cutL_piece s 47 p hp) hl
  have HPC := Lib.hid hpc
  clear hpc
  refine (callsIn_wide (n := 4)).1 ?_
  refine callsIn_of_wp_marks Tryd.func39 rfl trivial ?_ rfl
  simp only [Tryd.ntmps39, List.size_toArray, List.length_cons, List.length_nil, Nat.reduceAdd, Nat.reduceSub, Array.replicate_succ, Array.replicate_zero, List.push_toArray, List.append_toArray, List.nil_append, List.cons_append]
  have C := fun w => SplitSeq_any s 47 w
  obtain ⟨w0, hw0⟩ : ∃ w0, w0 = w.alloc (.cells #[.bool false] 4) := ⟨_, rfl⟩
  have hs0 : w0.heap.size = w.heap.size + 1 := by rw [hw0]; simp
  have B0 : Bt w false w0 := by
    rw [hw0]
    exact ⟨new_cell w _ _, (Below.refl _ w).alloc (Nat.le_refl _) _⟩
  have hit := split_iter 3 (by omega) w0.heap.size s 47 hl (boxW w0 s 47) (boxW_boxes w0 s 47)
  have B1 : Bt w false (boxW w0 s 47) := B0.below (boxW_below w0 s 47)
  have hs1 := boxW_size w0 s 47
  gi_wp2_with (refine ⟨trivial, ?_⟩; gi_at_call 55; rw [← hw0]; refine (callsIn_wide.2 (C _)).mono ?_; rintro e w' ⟨rfl, rfl⟩)
  rw [← hw0]
  rw [hs0] at hit hs1
  refine range_own (by omega) (gf := 85) (lb := #[.pointer (some ⟨w.heap.size + 1 + 1, 0, none⟩), .pointer (some ⟨w.heap.size + 1, 0, none⟩), .pointer (some ⟨w.heap.size + 1 + 2, 0, none⟩)]) rfl (enters_of Tryd.func85 (by kernel_rfl) rfl)
    hit rfl (sofar w partB) (noMore w partB) (abode_of (by omega) (by omega) _) (abode_of (by omega) (by omega) _) ⟨rfl, B1⟩
    (fun x => { tmps := #[.string (str s), undef, .pointer (some ⟨w.heap.size, 0, none⟩), .string (str x), .string (str s), .func (.func 85) #[] #[.pointer (some ⟨w.heap.size + 1 + 1, 0, none⟩), .pointer (some ⟨w.heap.size + 1, 0, none⟩), .pointer (some ⟨w.heap.size + 1 + 2, 0, none⟩)], .string (str x), undef, undef, undef], defers := [] }) ?assign ?body ?done ?stop
  case assign =>
    intro l x W K hK
    gi_wp2
    simpa using hK
  case body =>
    rintro l pre x W ⟨hp, hB⟩ hpre
    have hx : x.length ≤ 1000000 := HPC.out x (by obtain ⟨t, ht⟩ := hpre; rw [← ht]; simp)
    have CP := fun w => isPart_any x hx w
    have hap : (pre ++ [x]).all partB = partB x := by rw [List.all_append, hp]; simp
    have HAP := Lib.hid hap
    clear hap hpre
    generalize partB x = v at *
    cases v
    · gi_wp2_with (refine ⟨trivial, ?_⟩; gi_at_call 56; refine (CallsIn.inRound l (callsIn_wide.2 (CP _))).mono ?_; rintro e w' ⟨rfl, b1⟩; have hB1 := hB.below b1; have hr1 := hB1.r)
      exact ⟨(others_below b1).trans (KeepsOthers.setCell _ _ _), HAP.out, hB1.set false⟩
    · gi_wp2_with (refine ⟨trivial, ?_⟩; gi_at_call 56; refine (CallsIn.inRound l (callsIn_wide.2 (CP _))).mono ?_; rintro e w' ⟨rfl, b1⟩; have hB1 := hB.below b1; have hr1 := hB1.r)
      exact ⟨others_below b1, KeepsIn.below b1, HAP.out, hB1⟩
  case done =>
    rintro D W hD ⟨hall, hB⟩ hK
    have hr := hB.r
    have HW := Lib.hid (hB.set true)
    have HK2 := Lib.hid (heap_own (b := w.heap.size) (v := .bool true) hK rfl)
    have HD := Lib.hid hD
    have HR := Lib.hid (HV.out.trans hall)
    clear hD hall
    gi_wp2
    have hS := HW.out.shut (by have := HD.out; omega) HK2.out
    have hv := hS.r.1
    refine ⟨by simp, .inl ⟨_, _, rfl, run_takeDeferred HK2.out, ?_⟩⟩
    exact ⟨_, by simp [results, Tryd.f39, go_sem, hv], retB HR.out.symm, hS.b⟩
  case stop =>
    rintro D pre W hD hpre ⟨hall, hB⟩ hK
    have HD := Lib.hid hD
    have HR := Lib.hid (HV.out.trans (all_pre hpre hall))
    clear hD hpre hall
    gi_wp2
    have hS := hB.shut (by have := HD.out; omega) hK
    have hv := hS.r.1
    refine ⟨by simp, .inl ⟨_, _, rfl, run_takeDeferred hK, ?_⟩⟩
    exact ⟨_, by simp [results, Tryd.f39, go_sem, hv], retB HR.out.symm, hS.b⟩
end Go.Proofs.YtldbfjcfobdkpaaDoor

/- Layer 12: the program's domains. -/
namespace Go.Proofs.YtldbfjcfobdkpaaDoor
open Go.RowKit Go.Shelf
attribute [local go_sem] Oper.semAt_some

set_option maxRecDepth 100000 in
set_option maxHeartbeats 4000000 in
theorem isDomain_bare (s : List UInt8) (hl : s.length ≤ 1000000) (hm : (58 : UInt8) ∉ s) (w : World) :
    Calls Tryd.prog 54 #[.string (str s)] w fun e w' => e = .returned (.bool ((cutL s 46).all partsOk)) ∧ Below w.heap.size w w' := by
  obtain ⟨V, hV⟩ : ∃ V, V = (cutL s 46).all partsOk := ⟨_, rfl⟩
  rw [← hV]
  have HV := Lib.hid hV
  have hpc : ∀ p ∈ cutL s 46, p.length ≤ 1000000 := fun p hp => Nat.le_trans (cutL_piece s 46 p hp) hl
  have HPC := Lib.hid hpc
  clear hpc hV
  refine (callsIn_wide (n := 4)).1 ?_
  refine callsIn_of_wp_marks Tryd.func54 rfl trivial ?_ rfl
  simp only [Tryd.ntmps54, List.size_toArray, List.length_cons, List.length_nil, Nat.reduceAdd, Nat.reduceSub, Array.replicate_succ, Array.replicate_zero, List.push_toArray, List.append_toArray, List.nil_append, List.cons_append]
  have CC := fun w => cut_miss hm w
  have C := fun w => SplitSeq_any s 46 w
  have B0 : Bt w false (w.alloc (.cells #[.bool false] 4)) := ⟨new_cell w _ _, (Below.refl _ w).alloc (Nat.le_refl _) _⟩
  gi_wp2_with (refine ⟨trivial, ?_⟩; gi_at_call 33; refine (callsIn_wide.2 (CC _)).mono ?_; rintro e w1 ⟨rfl, b1⟩; have B1 := B0.below b1; have hlt := b1.size; rw [World.size_alloc] at hlt; clear B0 b1)
  refine ⟨trivial, ?_⟩
  gi_wp2_with (refine ⟨trivial, ?_⟩; gi_at_call 55; refine (callsIn_wide.2 (C _)).mono ?_; rintro e w' ⟨rfl, rfl⟩)
  have hit := split_iter 3 (by omega) w1.heap.size s 46 hl (boxW w1 s 46) (boxW_boxes w1 s 46)
  have B2 : Bt w false (boxW w1 s 46) := B1.below (boxW_below w1 s 46)
  have hs1 := boxW_size w1 s 46
  have HLT := Lib.hid hlt
  refine range_own (by omega) (gf := 85) (lb := #[.pointer (some ⟨w1.heap.size + 1, 0, none⟩), .pointer (some ⟨w1.heap.size, 0, none⟩), .pointer (some ⟨w1.heap.size + 2, 0, none⟩)]) rfl (enters_of Tryd.func85 (by kernel_rfl) rfl)
    hit rfl (sofar w partsOk) (noMore w partsOk) (abode_of (by omega) (by omega) _) (abode_of (by omega) (by omega) _) ⟨rfl, B2⟩
    (fun x => { tmps := #[.string (str s), undef, .pointer (some ⟨w.heap.size, 0, none⟩), .string (str s), .string (str []), .bool false, .string (str x), .tuple #[.string (str s), .string (str []), .bool false], .string (str s), .tuple #[.string (str s), .string (str []), .bool false], .string (str s), .string (str []), .bool false, .bool false, .bool false, undef, undef, undef, .bool false, .string (str s), .func (.func 85) #[] #[.pointer (some ⟨w1.heap.size + 1, 0, none⟩), .pointer (some ⟨w1.heap.size, 0, none⟩), .pointer (some ⟨w1.heap.size + 2, 0, none⟩)], .string (str x), undef, undef, undef], defers := [] }) ?assign ?body ?done ?stop
  case assign =>
    intro l x W K hK
    gi_wp2
    simpa using hK
  case body =>
    rintro l pre x W ⟨hp, hB⟩ hpre
    have hx : x.length ≤ 1000000 := HPC.out x (by obtain ⟨t, ht⟩ := hpre; rw [← ht]; simp)
    have CP := fun w => isLabel_any x hx w
    have hap : (pre ++ [x]).all partsOk = partsOk x := by rw [List.all_append, hp]; simp
    have HAP := Lib.hid hap
    clear hap hpre hit hs1 hlt B1 B2 CC C
    generalize partsOk x = v at *
    cases v
    · gi_wp2_with (refine ⟨trivial, ?_⟩; gi_at_call 68; refine (CallsIn.inRound l (callsIn_wide.2 (CP _))).mono ?_; rintro e w' ⟨rfl, b1⟩; have hB1 := hB.below b1; have hr1 := hB1.r)
      exact ⟨(others_below b1).trans (KeepsOthers.setCell _ _ _), HAP.out, hB1.set false⟩
    · gi_wp2_with (refine ⟨trivial, ?_⟩; gi_at_call 68; refine (CallsIn.inRound l (callsIn_wide.2 (CP _))).mono ?_; rintro e w' ⟨rfl, b1⟩; have hB1 := hB.below b1; have hr1 := hB1.r)
      exact ⟨others_below b1, KeepsIn.below b1, HAP.out, hB1⟩
  case done =>
    rintro D W hD ⟨hall, hB⟩ hK
    have hr := hB.r
    have HW := Lib.hid (hB.set true)
    have HK2 := Lib.hid (heap_own (b := w.heap.size) (v := .bool true) hK rfl)
    have HD := Lib.hid (show w.heap.size ≤ D by omega)
    have HR := Lib.hid (HV.out.trans hall)
    clear hD hall hit hs1 hlt B1 B2 CC C
    gi_wp2
    have hS := HW.out.shut HD.out HK2.out
    have hv := hS.r.1
    refine ⟨by simp, .inl ⟨_, _, rfl, run_takeDeferred HK2.out, ?_⟩⟩
    exact ⟨_, by simp [results, Tryd.f54, go_sem, hv], retB HR.out.symm, hS.b⟩
  case stop =>
    rintro D pre W hD hpre ⟨hall, hB⟩ hK
    have HD := Lib.hid (show w.heap.size ≤ D by omega)
    have HR := Lib.hid (HV.out.trans (all_pre hpre hall))
    clear hD hpre hall hit hs1 hlt B1 B2 CC C
    gi_wp2
    have hS := hB.shut HD.out hK
    have hv := hS.r.1
    refine ⟨by simp, .inl ⟨_, _, rfl, run_takeDeferred hK, ?_⟩⟩
    exact ⟨_, by simp [results, Tryd.f54, go_sem, hv], retB HR.out.symm, hS.b⟩
set_option maxRecDepth 100000 in
set_option maxHeartbeats 4000000 in
theorem isDomain_bad (s a b : List UInt8) (hs : s = a ++ 58 :: b) (hl : s.length ≤ 1000000) (hm : (58 : UInt8) ∉ a) (hb : portP b = false) (w : World) :
    Calls Tryd.prog 54 #[.string (str s)] w fun e w' => e = .returned (.bool false) ∧ Below w.heap.size w w' := by
  have CC : ∀ w, Calls Tryd.prog 33 #[.string (str s), .string ⟨#[58]⟩] w fun e w' => e = .returned (.tuple #[.string (str a), .string (str b), .bool true]) ∧ Below w.heap.size w w' := by rw [hs] at hl ⊢; exact fun w => cut_hit a b 58 hm hl w
  have hlb : b.length ≤ 1000000 := by rw [hs, List.length_append, List.length_cons] at hl; omega
  have CP := fun w => isPort_any b hlb w
  rw [hb] at CP
  clear hs hb hm
  refine (callsIn_wide (n := 4)).1 ?_
  refine callsIn_of_wp_marks Tryd.func54 rfl trivial ?_ rfl
  simp only [Tryd.ntmps54, List.size_toArray, List.length_cons, List.length_nil, Nat.reduceAdd, Nat.reduceSub, Array.replicate_succ, Array.replicate_zero, List.push_toArray, List.append_toArray, List.nil_append, List.cons_append]
  have B0 : Bt w false (w.alloc (.cells #[.bool false] 4)) := ⟨new_cell w _ _, (Below.refl _ w).alloc (Nat.le_refl _) _⟩
  gi_wp2_with (refine ⟨trivial, ?_⟩; gi_at_call 33; refine (callsIn_wide.2 (CC _)).mono ?_; rintro e w0 ⟨rfl, b0⟩; have B1 := B0.below b0; have hlt := b0.size; rw [World.size_alloc] at hlt; clear B0 b0)
  refine ⟨trivial, ?_⟩
  gi_wp2_with (gi_at_call 67; refine (callsIn_wide.2 (CP _)).mono ?_; rintro e w1 ⟨rfl, b1⟩; replace B1 := B1.below b1; have hlt1 := b1.size; clear b1; have r1 := B1.r)
  have hS := B1.set false
  have hv := hS.r.1
  exact ⟨_, by simp [results, Tryd.f54, go_sem, hv], rfl, hS.b⟩
set_option maxRecDepth 100000 in
set_option maxHeartbeats 4000000 in
theorem isDomain_port (s a b : List UInt8) (hs : s = a ++ 58 :: b) (hl : s.length ≤ 1000000) (hm : (58 : UInt8) ∉ a) (hb : portP b = true) (w : World) :
    Calls Tryd.prog 54 #[.string (str s)] w fun e w' => e = .returned (.bool ((cutL a 46).all partsOk)) ∧ Below w.heap.size w w' := by
  have CC : ∀ w, Calls Tryd.prog 33 #[.string (str s), .string ⟨#[58]⟩] w fun e w' => e = .returned (.tuple #[.string (str a), .string (str b), .bool true]) ∧ Below w.heap.size w w' := by rw [hs] at hl ⊢; exact fun w => cut_hit a b 58 hm hl w
  have hlab : a.length ≤ 1000000 ∧ b.length ≤ 1000000 := by rw [hs, List.length_append, List.length_cons] at hl; omega
  obtain ⟨hla, hlb⟩ := hlab
  have CP := fun w => isPort_any b hlb w
  rw [hb] at CP
  obtain ⟨V, hV⟩ : ∃ V, V = (cutL a 46).all partsOk := ⟨_, rfl⟩
  rw [← hV]
  have HV := Lib.hid hV
  have hpc : ∀ p ∈ cutL a 46, p.length ≤ 1000000 := fun p hp => Nat.le_trans (cutL_piece a 46 p hp) hla
  have HPC := Lib.hid hpc
  clear hpc hV hs hb hm
  refine (callsIn_wide (n := 4)).1 ?_
  refine callsIn_of_wp_marks Tryd.func54 rfl trivial ?_ rfl
  simp only [Tryd.ntmps54, List.size_toArray, List.length_cons, List.length_nil, Nat.reduceAdd, Nat.reduceSub, Array.replicate_succ, Array.replicate_zero, List.push_toArray, List.append_toArray, List.nil_append, List.cons_append]
  have C := fun w => SplitSeq_any a 46 w
  have B0 : Bt w false (w.alloc (.cells #[.bool false] 4)) := ⟨new_cell w _ _, (Below.refl _ w).alloc (Nat.le_refl _) _⟩
  gi_wp2_with (refine ⟨trivial, ?_⟩; gi_at_call 33; refine (callsIn_wide.2 (CC _)).mono ?_; rintro e w0 ⟨rfl, b0⟩; have B1 := B0.below b0; have hlt := b0.size; rw [World.size_alloc] at hlt; clear B0 b0)
  refine ⟨trivial, ?_⟩
  gi_wp2_with (gi_at_call 67; refine (callsIn_wide.2 (CP _)).mono ?_; rintro e w1 ⟨rfl, b1⟩; replace B1 := B1.below b1; replace hlt := Nat.le_trans hlt b1.size; clear b1)
  gi_wp2_with (refine ⟨trivial, ?_⟩; gi_at_call 55; refine (callsIn_wide.2 (C _)).mono ?_; rintro e w' ⟨rfl, rfl⟩)
  have hit := split_iter 3 (by omega) w1.heap.size a 46 hla (boxW w1 a 46) (boxW_boxes w1 a 46)
  have B2 : Bt w false (boxW w1 a 46) := B1.below (boxW_below w1 a 46)
  have hs1 := boxW_size w1 a 46
  have HLT := Lib.hid hlt
  refine range_own (by omega) (gf := 85) (lb := #[.pointer (some ⟨w1.heap.size + 1, 0, none⟩), .pointer (some ⟨w1.heap.size, 0, none⟩), .pointer (some ⟨w1.heap.size + 2, 0, none⟩)]) rfl (enters_of Tryd.func85 (by kernel_rfl) rfl)
    hit rfl (sofar w partsOk) (noMore w partsOk) (abode_of (by omega) (by omega) _) (abode_of (by omega) (by omega) _) ⟨rfl, B2⟩
    (fun x => { tmps := #[.string (str s), undef, .pointer (some ⟨w.heap.size, 0, none⟩), .string (str a), .string (str b), .bool true, .string (str x), .tuple #[.string (str a), .string (str b), .bool true], .string (str s), .tuple #[.string (str a), .string (str b), .bool true], .string (str a), .string (str b), .bool true, .bool true, .bool true, .string (str b), .bool true, .bool false, .bool false, .string (str a), .func (.func 85) #[] #[.pointer (some ⟨w1.heap.size + 1, 0, none⟩), .pointer (some ⟨w1.heap.size, 0, none⟩), .pointer (some ⟨w1.heap.size + 2, 0, none⟩)], .string (str x), undef, undef, undef], defers := [] }) ?assign ?body ?done ?stop
  case assign =>
    intro l x W K hK
    gi_wp2
    simpa using hK
  case body =>
    rintro l pre x W ⟨hp, hB⟩ hpre
    have hx : x.length ≤ 1000000 := HPC.out x (by obtain ⟨t, ht⟩ := hpre; rw [← ht]; simp)
    have CP := fun w => isLabel_any x hx w
    have hap : (pre ++ [x]).all partsOk = partsOk x := by rw [List.all_append, hp]; simp
    have HAP := Lib.hid hap
    clear hap hpre hit hs1 hlt B1 B2 CC C
    generalize partsOk x = v at *
    cases v
    · gi_wp2_with (refine ⟨trivial, ?_⟩; gi_at_call 68; refine (CallsIn.inRound l (callsIn_wide.2 (CP _))).mono ?_; rintro e w' ⟨rfl, b1⟩; have hB1 := hB.below b1; have hr1 := hB1.r)
      exact ⟨(others_below b1).trans (KeepsOthers.setCell _ _ _), HAP.out, hB1.set false⟩
    · gi_wp2_with (refine ⟨trivial, ?_⟩; gi_at_call 68; refine (CallsIn.inRound l (callsIn_wide.2 (CP _))).mono ?_; rintro e w' ⟨rfl, b1⟩; have hB1 := hB.below b1; have hr1 := hB1.r)
      exact ⟨others_below b1, KeepsIn.below b1, HAP.out, hB1⟩
  case done =>
    rintro D W hD ⟨hall, hB⟩ hK
    have hr := hB.r
    have HW := Lib.hid (hB.set true)
    have HK2 := Lib.hid (heap_own (b := w.heap.size) (v := .bool true) hK rfl)
    have HD := Lib.hid (show w.heap.size ≤ D by omega)
    have HR := Lib.hid (HV.out.trans hall)
    clear hD hall hit hs1 hlt B1 B2 CC C
    gi_wp2
    have hS := HW.out.shut HD.out HK2.out
    have hv := hS.r.1
    refine ⟨by simp, .inl ⟨_, _, rfl, run_takeDeferred HK2.out, ?_⟩⟩
    exact ⟨_, by simp [results, Tryd.f54, go_sem, hv], retB HR.out.symm, hS.b⟩
  case stop =>
    rintro D pre W hD hpre ⟨hall, hB⟩ hK
    have HD := Lib.hid (show w.heap.size ≤ D by omega)
    have HR := Lib.hid (HV.out.trans (all_pre hpre hall))
    clear hD hpre hall hit hs1 hlt B1 B2 CC C
    gi_wp2
    have hS := hB.shut HD.out hK
    have hv := hS.r.1
    refine ⟨by simp, .inl ⟨_, _, rfl, run_takeDeferred hK, ?_⟩⟩
    exact ⟨_, by simp [results, Tryd.f54, go_sem, hv], retB HR.out.symm, hS.b⟩
theorem isDomain_any (s : List UInt8) (hl : s.length ≤ 1000000) (w : World) :
    Calls Tryd.prog 54 #[.string (str s)] w fun e w' => e = .returned (.bool (domainB s)) ∧ Below w.heap.size w w' := by
  by_cases hm : (58 : UInt8) ∈ s
  · obtain ⟨a, b, hs, hn⟩ := cut_first hm
    have hd : domainB s = (portP b && (cutL a 46).all partsOk) := by rw [hs]; exact domain_port hn
    cases hp : portP b
    · rw [hd, hp, Bool.false_and]
      exact isDomain_bad s a b hs hl hn hp w
    · rw [hd, hp, Bool.true_and]
      exact isDomain_port s a b hs hl hn hp w
  · rw [domain_bare hm]
    exact isDomain_bare s hl hm w
end Go.Proofs.YtldbfjcfobdkpaaDoor

/- Layer 12: strings.ContainsAny at a point and a colon, of any text. -/
namespace Go.Proofs.YtldbfjcfobdkpaaDoor
open Go.RowKit

def signL : List UInt8 := [46, 58]
theorem sign_at : ∀ k : Fin 2, (signL.getD k.val 0).toNat < 128 ∧ (signL.getD k.val 0).toNat ≠ 65533 := by decide
structure ItW (w : World) (s : ByteArray) (b k : Nat) (wr : World) : Prop where
  it : wr.heap[b]? = some (.stringIter s k)
  le : k ≤ s.size
  bel : Below w.heap.size w wr
set_option maxRecDepth 100000 in
set_option maxHeartbeats 8000000 in
theorem sign_err (w : World) : Calls Tryd.prog 89 #[.string ⟨#[46, 58]⟩, .int .i32 65533] w fun e w' => e = .returned (.int .i64 (-1)) ∧ Below w.heap.size w w' := by
  rw [show (⟨#[46, 58]⟩ : ByteArray) = str signL from rfl]
  have h0 : Hid (ItW w (str signL) w.heap.size 0 (w.alloc (.stringIter (str signL) 0))) := Lib.hid ⟨heap_alloc_new w _, by decide, (Below.refl _ _).alloc (Nat.le_refl _) _⟩
  have hsz : (str signL).size = 2 := rfl
  have HSZ := Lib.hid hsz
  generalize hs : str signL = s at *
  have HSS := Lib.hid hs
  go_enter Tryd.func89, Tryd.ntmps89
  go_wp2
  go_loopg [] 2 (fun n wr => ∃ k, ItW w s w.heap.size k wr ∧ Hid (n = 2 - k))
  case atStart => exact ⟨0, h0.out, Lib.hid rfl⟩
  case round =>
    obtain ⟨k, hI, HN⟩ := hrel
    by_cases hk : k < 2
    · have hb : (signL.getD k 0).toNat < 128 ∧ (signL.getD k 0).toNat ≠ 65533 := sign_at ⟨k, hk⟩
      have hget : ((s[k]'(by rw [HSZ.out]; exact hk)).toNat : Int) = ((signL.getD k 0).toNat : Int) := by
        subst hs
        have : (str signL)[k]'(by rw [HSZ.out]; exact hk) = signL.getD k 0 := by
          rw [List.getD_eq_getElem?_getD, List.getElem?_eq_getElem (show k < signL.length from hk)]; rfl
        rw [this]
      have hnx := fun ty => Lib.run_next_ascii_at (P := Tryd.prog) wr _ _ _ ty hI.it (by rw [HSZ.out]; exact hk) (by have := hb.1; omega)
      rw [hget] at hnx
      have hne : ¬ ((signL.getD k 0).toNat : Int) = 65533 := by have := hb.2; omega
      generalize ((signL.getD k 0).toNat : Int) = c at hnx hne
      have HI2 := Lib.hid (show ItW w s w.heap.size (k + 1) (wr.iterAt w.heap.size s (k + 1)) by
        exact ⟨Lib.iterAt_heap _ _ _ _ _ hI.it, by rw [HSZ.out]; exact hk, Lib.below_iterAt hI.bel (Nat.le_refl _) _ _⟩)
      generalize wr.iterAt w.heap.size s (k + 1) = wq at *
      clear hI hb hget hs
      go_wp2
      go_roundg (2 - (k + 1))
      case measure => rw [HN.out]; omega
      case rel => exact ⟨k + 1, HI2.out, Lib.hid rfl⟩
    · have hnx := fun ty => Lib.run_next_end_at (P := Tryd.prog) wr _ _ _ ty hI.it (by rw [HSZ.out]; exact hk)
      have HB := Lib.hid hI.bel
      clear hI hs
      go_wp2
      go_ret
      exact ⟨rfl, HB.out⟩
open Go.Lib in
set_option maxHeartbeats 1000000 in
theorem enc_big {c : Nat} (hc : scal c) (h : 128 ≤ c) : ∀ b ∈ encodeRune (c : Int), 128 ≤ b.toNat := by
  unfold scal at hc
  unfold encodeRune
  by_cases h2 : c < 2048
  · rw [encodeRuneZ_two (by omega) (by omega)]
    have e0 : ((192 + (c : Int) / 64).toNat.toUInt8).toNat = 192 + c / 64 := by simp; omega
    have e1 : ((128 + (c : Int) % 64).toNat.toUInt8).toNat = 128 + c % 64 := by simp; omega
    intro b hb
    simp only [List.map_cons, List.map_nil, List.mem_cons, List.not_mem_nil, or_false] at hb
    rcases hb with rfl | rfl <;> omega
  by_cases h3 : c < 65536
  · rw [encodeRuneZ_three (by omega)]
    have e0 : ((224 + (c : Int) / 4096).toNat.toUInt8).toNat = 224 + c / 4096 := by simp; omega
    have e1 : ((128 + (c : Int) / 64 % 64).toNat.toUInt8).toNat = 128 + c / 64 % 64 := by simp; omega
    have e2 : ((128 + (c : Int) % 64).toNat.toUInt8).toNat = 128 + c % 64 := by simp; omega
    intro b hb
    simp only [List.map_cons, List.map_nil, List.mem_cons, List.not_mem_nil, or_false] at hb
    rcases hb with rfl | rfl | rfl <;> omega
  · rw [encodeRuneZ_four (by omega) (by omega)]
    have e0 : ((240 + (c : Int) / 262144).toNat.toUInt8).toNat = 240 + c / 262144 := by simp; omega
    have e1 : ((128 + (c : Int) / 4096 % 64).toNat.toUInt8).toNat = 128 + c / 4096 % 64 := by simp; omega
    have e2 : ((128 + (c : Int) / 64 % 64).toNat.toUInt8).toNat = 128 + c / 64 % 64 := by simp; omega
    have e3 : ((128 + (c : Int) % 64).toNat.toUInt8).toNat = 128 + c % 64 := by simp; omega
    intro b hb
    simp only [List.map_cons, List.map_nil, List.mem_cons, List.not_mem_nil, or_false] at hb
    rcases hb with rfl | rfl | rfl | rfl <;> omega
theorem utf_enc {c : Nat} (hc : scal c) : Utf8.encode (c : Int) = str (Lib.encodeRune (c : Int)) := by
  unfold scal at hc
  refine bytes_toList ?_
  rw [str_toList]
  unfold Lib.encodeRune
  have v : Utf8.valid (c : Int) = true := by simp [Utf8.valid]; omega
  by_cases h1 : c < 128
  · rw [Lib.encodeRuneZ_one (by omega) (by omega)]
    simp [Utf8.encode, v, h1]
  by_cases h2 : c < 2048
  · rw [Lib.encodeRuneZ_two (by omega) (by omega)]
    have e0 : (192 + (c : Int) / 64).toNat = 192 + c / 64 := by omega
    have e1 : (128 + (c : Int) % 64).toNat = 128 + c % 64 := by omega
    simp only [List.map_cons, List.map_nil, e0, e1]
    simp [Utf8.encode, v, h1, h2]
  by_cases h3 : c < 65536
  · rw [Lib.encodeRuneZ_three (by omega)]
    have e0 : (224 + (c : Int) / 4096).toNat = 224 + c / 4096 := by omega
    have e1 : (128 + (c : Int) / 64 % 64).toNat = 128 + c / 64 % 64 := by omega
    have e2 : (128 + (c : Int) % 64).toNat = 128 + c % 64 := by omega
    simp only [List.map_cons, List.map_nil, e0, e1, e2]
    simp [Utf8.encode, v, h1, h2, h3]
  · rw [Lib.encodeRuneZ_four (by omega) (by omega)]
    have e0 : (240 + (c : Int) / 262144).toNat = 240 + c / 262144 := by omega
    have e1 : (128 + (c : Int) / 4096 % 64).toNat = 128 + c / 4096 % 64 := by omega
    have e2 : (128 + (c : Int) / 64 % 64).toNat = 128 + c / 64 % 64 := by omega
    have e3 : (128 + (c : Int) % 64).toNat = 128 + c % 64 := by omega
    simp only [List.map_cons, List.map_nil, e0, e1, e2, e3]
    simp [Utf8.encode, v, h1, h2, h3]
theorem scal_valid {c : Nat} (hc : scal c) : Lib.validRune (c : Int) = true := by
  unfold scal at hc
  unfold Lib.validRune
  simp
  omega
theorem sign_low : ∀ c ∈ signL, c.toNat < 128 := by decide
theorem enc_two {c : Nat} (hc : scal c) (h : 128 ≤ c) : 2 ≤ (Lib.encodeRune (c : Int)).length := by
  unfold scal at hc
  unfold Lib.encodeRune
  rw [List.length_map]
  by_cases h2 : c < 2048
  · rw [Lib.encodeRuneZ_two (by omega) (by omega)]; simp
  by_cases h3 : c < 65536
  · rw [Lib.encodeRuneZ_three (by omega)]; simp
  · rw [Lib.encodeRuneZ_four (by omega) (by omega)]; simp
end Go.Proofs.YtldbfjcfobdkpaaDoor

/- Layer 12: strings.IndexRune at a point and a colon, of runes beyond 127. -/
namespace Go.Proofs.YtldbfjcfobdkpaaDoor
open Go.RowKit

set_option maxRecDepth 100000 in
set_option maxHeartbeats 8000000 in
theorem sign_big {c : Nat} (hc : scal c) (h128 : 128 ≤ c) (hne : c ≠ 65533) (w : World) : Calls Tryd.prog 89 #[.string ⟨#[46, 58]⟩, .int .i32 (c : Int)] w fun e w' => e = .returned (.int .i64 (-1)) ∧ Below w.heap.size w w' := by
  have V := fun w => Tryd.utf8_ValidRune (c : Int) w
  rw [scal_valid hc] at V
  have h1 := enc_two hc h128
  have h2 := enc_le c
  have h3 := enc_big hc h128
  have hE := utf_enc hc
  generalize Lib.encodeRune (c : Int) = l at h1 h2 h3 hE
  have hsz : (str l).size = l.length := str_size l
  have hlast : ∀ n, n < l.length → 128 ≤ (l.getD n 0).toNat := fun n hn => h3 _ (by rw [List.getD_eq_getElem?_getD, List.getElem?_eq_getElem hn]; exact List.getElem_mem hn)
  have hS : (⟨#[46, 58]⟩ : ByteArray) = str signL := rfl
  rw [hS]
  have hs7 : (str signL).size = 2 := rfl
  have c0 : (128 : Int) ≤ c := by omega
  have c1 : ¬ (c : Int) < 128 := by omega
  have c2 : ¬ (c : Int) = 65533 := by omega
  have c3 : ((c : Int) == 65533) = false := by rw [beq_eq_false_iff_ne]; exact c2
  rcases (show l.length = 2 ∨ 3 ≤ l.length by omega) with hl | hl
  · have hsz2 : (str l).size = 2 := by rw [hsz, hl]
    have hval : (str l)[1]'(by rw [hsz2]; decide) = l.getD 1 0 := by
      rw [List.getD_eq_getElem?_getD, List.getElem?_eq_getElem (show 1 < l.length by omega)]; rfl
    have CI' : ∀ w, Calls Tryd.prog 102 #[.string ByteArray.empty, .int .u8 (((str l)[1]'(by rw [hsz2]; decide)).toNat : Int)] w fun e w' => e = .returned (.int .i64 (-1)) ∧ w = w' := fun w => by
      have h0 := Tryd.strings_IndexByte ByteArray.empty (((str l)[1]'(by rw [hsz2]; decide)).toNat : Int) w
      rw [show ByteArray.empty.data.toList = [] from rfl] at h0
      exact h0.mono fun _ _ h => ⟨h.1, h.2.symm⟩
    have hb' : ((((str signL)[1]'(by rw [hs7]; decide)).toNat : Int) != (((str l)[1]'(by rw [hsz2]; decide)).toNat : Int)) = true := by
      rw [bne_iff_ne, hval]
      have := hlast 1 (by omega)
      have e : (str signL)[1]'(by rw [hs7]; decide) = 58 := rfl
      rw [e]
      show ¬ (58 : Int) = _
      omega
    have hsl2 : ∀ W, (Instr.slice 9 (.string (str signL)) (some (.int .i64 2)) none none).run Tryd.prog W = .ok (.string ((str signL).extract 2 2)) W := fun W => by
      have h := run_slice_string_l (P := Tryd.prog) (w := W) (t := 9) (s := str signL) Tryd.underlying9 .i64 2 (by omega) (by rw [hs7]; omega)
      exact h
    have hsl : ∀ W, (Instr.slice 9 (.string (str signL)) (some (.int .i64 (IntKind.i64.wrap 2))) none none).run Tryd.prog W = .ok (.string ((str signL).extract 2 2)) W := fun W => by
      rw [show IntKind.i64.wrap 2 = 2 by decide]
      exact hsl2 W
    clear hlast h1 h2 h3 hval hsz hl hS hc h128 c2
    generalize str signL = s at *
    generalize str l = r at *
    go_enter Tryd.func89, Tryd.ntmps89
    go_wp2_with (go_at_call 103; ((with_reducible refine (V _).mono ?_); rintro e w2 ⟨rfl, rfl⟩))
    go_step3
    go_wp2
    refine wp_loop_rounds 1 ?_
    rw [rounds_succ]
    go_wp2
    go_step3
    go_wp2
    go_quiet (fail)
    go_wp2
    go_quiet ((go_at_call 102; exact qs2 (CI' _)))
    go_wp2
    rw [Exit.noGoto_ret]
    go_wp2
    rw [Exit.noGoto_ret]
    go_wp2
    go_ret
    exact ⟨rfl, below_drewN (Below.refl _ _) _⟩
  · rcases (show l.length = 3 ∨ l.length = 4 by omega) with hl | hl
    · have hsz2 : (str l).size = 3 := by rw [hsz, hl]
      clear hlast h1 h2 h3 hsz hl hS hc h128 c2
      generalize str signL = s at *
      generalize str l = r at *
      go_enter Tryd.func89, Tryd.ntmps89
      go_wp2_with (go_at_call 103; ((with_reducible refine (V _).mono ?_); rintro e w2 ⟨rfl, rfl⟩))
      go_step3
      go_wp2
      refine wp_loop_rounds 1 ?_
      rw [rounds_succ]
      go_wp2
      rw [Exit.noGoto_ret]
      go_wp2
      go_ret
      exact ⟨rfl, Below.refl _ _⟩
    · have hsz2 : (str l).size = 4 := by rw [hsz, hl]
      clear hlast h1 h2 h3 hsz hl hS hc h128 c2
      generalize str signL = s at *
      generalize str l = r at *
      go_enter Tryd.func89, Tryd.ntmps89
      go_wp2_with (go_at_call 103; ((with_reducible refine (V _).mono ?_); rintro e w2 ⟨rfl, rfl⟩))
      go_step3
      go_wp2
      refine wp_loop_rounds 1 ?_
      rw [rounds_succ]
      go_wp2
      rw [Exit.noGoto_ret]
      go_wp2
      go_ret
      exact ⟨rfl, Below.refl _ _⟩
end Go.Proofs.YtldbfjcfobdkpaaDoor

/- Layer 12: strings.ContainsAny at a point and a colon; what stands out. -/
namespace Go.Proofs.YtldbfjcfobdkpaaDoor
open Go.RowKit

def signQ (x : UInt8) : Bool := decide (x = 46) || decide (x = 58)
theorem any_has : ∀ (s : List UInt8), decide (0 ≤ Lib.indexAny s [46, 58]) = s.any signQ
  | [] => rfl
  | b :: l => by
    have ih := any_has l
    have hge := Lib.indexAny_ge [46, 58] l
    have hc : ([46, 58] : List UInt8).contains b = signQ b := by
      unfold signQ
      rw [List.contains_cons, List.contains_cons, List.contains_nil, Bool.or_false]
      rfl
    rw [List.any_cons, ← ih, Lib.indexAny, hc]
    cases signQ b with
    | true => rfl
    | false =>
      rw [if_neg (by simp), Bool.false_or]
      by_cases h : Lib.indexAny l [46, 58] = -1
      · rw [h]; rfl
      · rw [if_neg (by simpa using h), decide_eq_decide]
        omega
/-- Where the first one stands, told rune by rune. -/
theorem index_rune (R : Nat) (hc : scal R) (w : World) : Calls Tryd.prog 89 #[.string ⟨#[46, 58]⟩, .int .i32 (R : Int)] w fun e w' => (∃ i : Int, e = .returned (.int .i64 i) ∧ decide (0 ≤ i) = decide (R = 46 ∨ R = 58)) ∧ Below w.heap.size w w' := by
  by_cases h : R < 128
  · refine (Tryd.strings_IndexRune_ascii ⟨#[46, 58]⟩ (R : Int) w (by omega) (by omega)).mono fun e w' ⟨h1, h2⟩ => ⟨⟨_, h1, ?_⟩, h2 ▸ Below.refl _ _⟩
    rw [show (⟨#[46, 58]⟩ : ByteArray).data.toList = [46, 58] from rfl, index_dec]
    have hb : ((R : Int).toNat.toUInt8).toNat = R := by simp; omega
    refine decide_eq_decide.2 ?_
    simp only [List.mem_cons, List.not_mem_nil, or_false]
    constructor
    · rintro (e | e)
      · left; rw [e] at hb; exact hb.symm
      · right; rw [e] at hb; exact hb.symm
    · rintro (e | e)
      · left; exact UInt8.toNat_inj.1 (by rw [hb, e]; rfl)
      · right; exact UInt8.toNat_inj.1 (by rw [hb, e]; rfl)
  · have hn : decide (R = 46 ∨ R = 58) = false := decide_eq_false (by omega)
    by_cases he : R = 65533
    · subst he
      exact (sign_err w).mono fun e w' ⟨h1, h2⟩ => ⟨⟨_, h1, by rw [hn]; rfl⟩, h2⟩
    · exact (sign_big hc (by omega) he w).mono fun e w' ⟨h1, h2⟩ => ⟨⟨_, h1, by rw [hn]; rfl⟩, h2⟩
/-- From a place on. -/
def anyFrom (s : ByteArray) (pos : Nat) : Bool := (s.data.toList.drop pos).any signQ
theorem signQ_word (x : UInt8) : signQ x = decide (x.toNat = 46 ∨ x.toNat = 58) := by
  unfold signQ
  rw [Bool.eq_iff_iff, Bool.or_eq_true, decide_eq_true_eq, decide_eq_true_eq, decide_eq_true_eq]
  constructor
  · rintro (rfl | rfl)
    · exact .inl rfl
    · exact .inr rfl
  · rintro (h | h)
    · exact .inl (UInt8.toNat_inj.1 h)
    · exact .inr (UInt8.toNat_inj.1 h)
def signN (r : Nat) : Bool := decide (r = 46 ∨ r = 58)
theorem sign_bytes : Bytewise (fun r => !signN r) (fun x => !signQ x) := by
  have h := bytes_high (p := signN) (fun r h => by unfold signN at h; rw [decide_eq_true_eq] at h; omega)
  have e : (fun x : UInt8 => !signN x.toNat) = fun x => !signQ x := funext fun x => by rw [signQ_word]; rfl
  rw [e] at h
  exact h
theorem any_skip {q : UInt8 → Bool} : ∀ (K : Nat) (l : List UInt8), K ≤ l.length → (∀ j, j < K → (!q (l.getD j 0)) = true) → l.any q = (l.drop K).any q
  | 0, _, _, _ => rfl
  | K + 1, [], h, _ => by simp at h
  | K + 1, x :: l, h, hq => by
    have h0 : q x = false := by have := hq 0 (by omega); simpa using this
    rw [List.any_cons, h0, Bool.false_or, List.drop_succ_cons]
    exact any_skip K l (by simpa using h) (fun j hj => by have := hq (j + 1) (by omega); simpa using this)
theorem any_step (s : ByteArray) (pos : Nat) (h : pos < s.size) : anyFrom s pos = (signN (Utf8.decode s pos).1 || anyFrom s (pos + (Utf8.decode s pos).2)) := by
  have hl : pos < s.data.toList.length := by rw [← Lib.size_eq]; exact h
  cases hv : signN (Utf8.decode s pos).1 with
  | true =>
    have hs := sign_bytes.stop s pos h (by rw [hv]; rfl)
    have hq : signQ (s.data.toList.getD pos 0) = true := by simpa using hs
    unfold anyFrom
    rw [List.drop_eq_getElem_cons hl, List.any_cons]
    have e : s.data.toList[pos] = s.data.toList.getD pos 0 := by rw [List.getD_eq_getElem?_getD, List.getElem?_eq_getElem hl]; rfl
    rw [e, hq]
    rfl
  | false =>
    obtain ⟨h1, h2⟩ := sign_bytes.go s pos h (by rw [hv]; rfl)
    rw [Bool.false_or]
    unfold anyFrom
    rw [any_skip (q := signQ) (Utf8.decode s pos).2 (s.data.toList.drop pos) (by rw [List.length_drop, ← Lib.size_eq]; omega) (fun j hj => by rw [Lib.getD_dropU]; exact h2 j hj), List.drop_drop]
theorem any_end (s : ByteArray) (pos : Nat) (h : ¬ pos < s.size) : anyFrom s pos = false := by
  unfold anyFrom
  rw [List.drop_eq_nil_of_le (by rw [← Lib.size_eq]; omega)]
  rfl
theorem scal_at (s : ByteArray) (pos : Nat) : scal (Utf8.decode s pos).1 := by
  rw [Lib.decode_N]
  exact scal_decode _ _ _ _ _ (UInt8.toNat_lt _) (UInt8.toNat_lt _)
set_option maxRecDepth 100000 in
set_option maxHeartbeats 4000000 in
theorem indexAny_short (s : ByteArray) (h8 : s.size ≤ 8) (w : World) :
    Calls Tryd.prog 76 #[.string s, .string ⟨#[46, 58]⟩] w fun e w' => (∃ i : Int, e = .returned (.int .i64 i) ∧ decide (0 ≤ i) = anyFrom s 0) ∧ Below w.heap.size w w' := by
  obtain ⟨A, hA⟩ : ∃ A, A = anyFrom s 0 := ⟨_, rfl⟩
  rw [← hA]
  have h8' : ¬ (8 : Int) < (s.size : Int) := by omega
  have C90 : ∀ w, Calls Tryd.prog 90 #[.int .i64 (s.size : Int)] w fun e w' => e = .returned (.bool false) ∧ w = w' := fun w => by
    go_enter Tryd.func90, Tryd.ntmps90
    go_wp2
    go_ret
    exact ⟨by simp, rfl⟩
  go_enter Tryd.func76, Tryd.ntmps76
  go_wp2_with (go_at_call 90; ((with_reducible refine (C90 _).mono ?_); rintro e w1 ⟨rfl, rfl⟩))
  go_loopg [] s.size (fun n wr => ∃ pos : Nat, wr.heap[w.heap.size]? = some (.stringIter s pos) ∧ Below w.heap.size w wr ∧ Hid (A = anyFrom s pos) ∧ s.size ≤ pos + n)
  case atStart => exact ⟨0, World.iter_heap w s 0, (Below.refl _ w).alloc (Nat.le_refl _) _, Lib.hid hA, by omega⟩
  case round =>
    obtain ⟨pos, hit, hbw, hA2, hfu⟩ := hrel
    clear hA
    by_cases hps : pos < s.size
    · obtain ⟨g', rfl⟩ : ∃ g', gk = g' + 1 := ⟨gk - 1, by omega⟩
      have hnx : ∀ ty, (Instr.next (.pointer (some ⟨w.heap.size, 0, none⟩)) true ty).run Tryd.prog wr = _ := fun ty => Lib.run_next_any_at wr w.heap.size s pos ty hit hps
      have hwd := Lib.width_pos s pos
      have hst := any_step s pos hps
      have hsc := scal_at s pos
      obtain ⟨R, hR⟩ : ∃ R, (Utf8.decode s pos).1 = R := ⟨_, rfl⟩
      obtain ⟨K, hK⟩ : ∃ K, (Utf8.decode s pos).2 = K := ⟨_, rfl⟩
      rw [hR, hK] at hnx hst
      rw [hK] at hwd
      rw [hR] at hsc
      have CR := fun w => index_rune R hsc w
      have hit2 := Lib.iterAt_heap wr w.heap.size s pos (pos + K) hit
      have hbw2 := Lib.below_iterAt hbw (k := w.heap.size) (Nat.le_refl _) s (pos + K)
      obtain ⟨W, hWd⟩ : ∃ W, wr.iterAt w.heap.size s (pos + K) = W := ⟨_, rfl⟩
      rw [hWd] at hnx hit2 hbw2
      clear hWd hR hK hsc
      have hA3 := Lib.hid (hA2.out.trans hst)
      clear hst hA2
      rw [show decide (R = 46 ∨ R = 58) = signN R from rfl] at CR
      cases hs : signN R
      · rw [hs] at CR hA3
        rw [Bool.false_or] at hA3
        go_wp2_with (go_at_call 89; ((with_reducible refine (CR _).mono ?_); rintro e w2 ⟨⟨i, rfl, hi⟩, b2⟩); have hi' : ¬ (0 : Int) ≤ i := of_decide_eq_false hi; have hit3 := b2.block w.heap.size (Array.getElem?_eq_some_iff.1 hit2).1; rw [hit2] at hit3; have hbw3 := hbw2.trans (b2.mono hbw2.size); clear b2)
        go_roundg g'
        case measure => omega
        case rel => exact ⟨pos + K, hit3, hbw3, hA3, by omega⟩
      · rw [hs] at CR hA3
        rw [Bool.true_or] at hA3
        go_wp2_with (go_at_call 89; ((with_reducible refine (CR _).mono ?_); rintro e w2 ⟨⟨i, rfl, hi⟩, b2⟩); have hi' : (0 : Int) ≤ i := of_decide_eq_true hi; have hbw3 := hbw2.trans (b2.mono hbw2.size); clear b2)
        go_ret
        exact ⟨⟨_, rfl, by rw [hA3.out]; exact decide_eq_true (by omega)⟩, hbw3⟩
    · have hnx : ∀ ty, (Instr.next (.pointer (some ⟨w.heap.size, 0, none⟩)) true ty).run Tryd.prog wr = _ := fun ty => Lib.run_next_end_at wr w.heap.size s pos ty hit hps
      have HE := Lib.hid (hA2.out.trans (any_end s pos hps))
      clear hA2
      go_wp2
      go_ret
      exact ⟨⟨_, rfl, by rw [HE.out]; rfl⟩, hbw⟩
theorem signs_low : ∀ (j : Nat) (b : UInt8), (⟨#[46, 58]⟩ : ByteArray).data.toList[j]? = some b → b.toNat < 128 := fun j b hj => by
  have hm : b ∈ ([46, 58] : List UInt8) := List.mem_of_getElem? hj
  rcases List.mem_cons.1 hm with rfl | hm
  · decide
  · rcases List.mem_cons.1 hm with rfl | hm
    · decide
    · cases hm
theorem indexAny_any (s : List UInt8) (hl : s.length ≤ 1000000) (w : World) :
    Calls Tryd.prog 76 #[.string (str s), .string ⟨#[46, 58]⟩] w fun e w' => (∃ i : Int, e = .returned (.int .i64 i) ∧ decide (0 ≤ i) = s.any signQ) ∧ Below w.heap.size w w' := by
  have hz := str_size s
  by_cases h8 : (str s).size ≤ 8
  · exact indexAny_short (str s) h8 w
  · refine (Tryd.strings_IndexAny_long (zero_of_info (P := Tryd.prog) (n := 256) (by kernel_rfl)).1 (str s) ⟨#[46, 58]⟩ w (by decide) (by omega) (by omega) (by decide) signs_low).mono fun e w' ⟨h1, h2⟩ => ⟨⟨_, h1, any_has s⟩, ?_⟩
    rw [h2]
    exact ((Below.refl _ _).alloc (Nat.le_refl _) _).alloc (by simp) _
set_option maxHeartbeats 1000000 in
theorem containsAny_any (s : List UInt8) (hl : s.length ≤ 1000000) (w : World) :
    Calls Tryd.prog 63 #[.string (str s), .string ⟨#[46, 58]⟩] w fun e w' => e = .returned (.bool (s.any signQ)) ∧ Below w.heap.size w w' := by
  have C := fun w => indexAny_any s hl w
  generalize s.any signQ = V at *
  generalize str s = S at *
  go_enter Tryd.func63, Tryd.ntmps63
  go_wp2_with (go_at_call 76; ((with_reducible refine (C _).mono ?_); rintro e w1 ⟨⟨i, rfl, hi⟩, b1⟩))
  go_ret
  exact ⟨rfl, b1⟩
theorem stands_eq (s : List UInt8) : standsB s = (decide (s = localB) || s.any signQ) := rfl
set_option maxHeartbeats 1000000 in
theorem standsOut_any (s : List UInt8) (hl : s.length ≤ 1000000) (w : World) :
    Calls Tryd.prog 47 #[.string (str s)] w fun e w' => e = .returned (.bool (standsB s)) ∧ Below w.heap.size w w' := by
  have C := fun w => containsAny_any s hl w
  have he := eq_local s
  have HV := Lib.hid (stands_eq s)
  generalize standsB s = V at *
  generalize s.any signQ = D at *
  generalize decide (s = localB) = z at *
  cases z <;> (
    go_enter Tryd.func47, Tryd.ntmps47
    go_wp2_with (go_at_call 63; ((with_reducible refine (C _).mono ?_); rintro e w1 ⟨rfl, b1⟩))
    go_ret
    first
      | exact ⟨retB HV.out.symm, b1⟩
      | exact ⟨retB HV.out.symm, Below.refl _ _⟩)
end Go.Proofs.YtldbfjcfobdkpaaDoor

