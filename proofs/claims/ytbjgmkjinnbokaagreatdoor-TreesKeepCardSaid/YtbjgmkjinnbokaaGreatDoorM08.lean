/- Merged: PtN, PtH. -/
import Derived.Test.YtbjgmkjinnbokaaGreatDoorM06
import Derived.Test.YtbjgmkjinnbokaaGreatDoorM07
/- Layer 14: strings.SplitSeq at one byte, as a range over it takes it. -/
namespace Go.Proofs.YtbjgmkjinnbokaaGreatDoor
open Go.RowKit Go.Shelf
attribute [local go_sem] Oper.semAt_some

/-- The iterator's boxes: the text that is left, the byte, and how much of it is kept. -/
def boxS (B : Nat) : Nat → Prop := fun b => b = B ∨ b = B + 1 ∨ b = B + 2
structure Boxes (B : Nat) (u : List UInt8) (c : UInt8) (W : World) : Prop where
  s : W.cell? ⟨B, 0, none⟩ = some (.string (str u)) ∧ W.frozen? ⟨B, 0, none⟩ = false
  p : W.cell? ⟨B + 1, 0, none⟩ = some (.string ⟨#[c]⟩) ∧ W.frozen? ⟨B + 1, 0, none⟩ = false
  k : W.cell? ⟨B + 2, 0, none⟩ = some (.int .i64 0) ∧ W.frozen? ⟨B + 2, 0, none⟩ = false
theorem Boxes.kept {B : Nat} {u : List UInt8} {c : UInt8} {W W' : World} (h : Boxes B u c W) (hk : KeepsIn (boxS B) W W') : Boxes B u c W' :=
  ⟨hk B (.inl rfl) _ h.s.1 h.s.2, hk (B + 1) (.inr (.inl rfl)) _ h.p.1 h.p.2, hk (B + 2) (.inr (.inr rfl)) _ h.k.1 h.k.2⟩
theorem Boxes.next {B : Nat} {u : List UInt8} {c : UInt8} {W : World} (h : Boxes B u c W) (r : List UInt8) : Boxes B r c (W.setCell ⟨B, 0, none⟩ (.string (str r))) :=
  ⟨⟨World.cell?_setCell_same' _ _ _ (by rw [h.s.1]; rfl), by rw [World.frozen?_setCell]; exact h.s.2⟩,
    ⟨(World.cell?_setCell_other W ⟨B, 0, none⟩ ⟨B + 1, 0, none⟩ _ (by simp)).trans h.p.1, by rw [World.frozen?_setCell]; exact h.p.2⟩,
    ⟨(World.cell?_setCell_other W ⟨B, 0, none⟩ ⟨B + 2, 0, none⟩ _ (by simp)).trans h.k.1, by rw [World.frozen?_setCell]; exact h.k.2⟩⟩
def leftV (B : Nat) (W : World) : Nat := match W.cell? ⟨B, 0, none⟩ with | some (.string s) => s.size | _ => 0
theorem leftV_of {B : Nat} {u : List UInt8} {W : World} (h : W.cell? ⟨B, 0, none⟩ = some (.string (str u))) : leftV B W = u.length := by
  unfold leftV
  rw [h]
  exact str_size u
set_option maxRecDepth 100000 in
set_option maxHeartbeats 4000000 in
theorem split_iter (n : Nat) (hn : 1 ≤ n) (B : Nat) (S : List UInt8) (c : UInt8) (hS : S.length ≤ 1000000) (w : World) (hb : Boxes B S c w) :
    IterB Tryz.prog n 95 #[.pointer (some ⟨B + 1, 0, none⟩), .pointer (some ⟨B, 0, none⟩), .pointer (some ⟨B + 2, 0, none⟩)] (boxS B) B (cutL S c) w := by
  intro l J Jx W hW hJ hY h0
  have H0 := hb.kept hW
  clear hW hb
  refine callsIn_of_wp Tryz.func95 rfl trivial ?_ rfl
  simp only [Tryz.ntmps95, List.size_toArray, List.length_cons, List.length_nil, Nat.reduceAdd, Nat.reduceSub, Array.replicate_succ, Array.replicate_zero, List.push_toArray, List.append_toArray, List.nil_append, List.cons_append]
  have p1 := H0.p.1
  have hc1 : (⟨#[c]⟩ : ByteArray).size = 1 := rfl
  gi_wp2
  clear p1
  gi_loopw [] (fun wr => ∃ (pre : List (List UInt8)) (u : List UInt8), Hid (cutL S c = pre ++ cutL u c) ∧ u.length ≤ 1000000 ∧ Boxes B u c wr ∧ J pre wr) (fun wr => leftV B wr)
  case atStart => exact ⟨[], S, Lib.hid rfl, hS, H0, h0⟩
  case round =>
    obtain ⟨pre, u, hpl, hu, hB, hj⟩ := hrel
    clear H0 h0
    have CI := fun w => Tryz.strings_Index_one (str u) c w
    rw [show (str u).data.toList = u from rfl] at CI
    have hs := hB.s
    have hp := hB.p
    have hk := hB.k
    have hlv := leftV_of hs.1
    by_cases hm : c ∈ u
    · obtain ⟨a, b, hab, hna⟩ := cut_first hm
      rw [show Lib.indexByte u c = (a.length : Int) by rw [hab]; exact index_at b hna] at CI
      have hpl2 : Hid (cutL S c = (pre ++ [a]) ++ cutL b c) := by
        have e := hpl.out
        rw [hab, cutL_two b hna] at e
        rw [List.append_assoc]
        exact Lib.hid e
      have hpos : 0 < (cutL b c).length := cutL_pos b c
      have hpre : pre ++ [a] <+: cutL S c := ⟨cutL b c, hpl2.out.symm⟩
      have hlen : u.length = a.length + (b.length + 1) := by rw [hab, List.length_append, List.length_cons]
      have HX := Lib.hid (show (str u).extract 0 a.length = str a by rw [hab]; exact part_ahead a b c)
      have HY := Lib.hid (show (str u).extract (a.length + 1) u.length = str b by rw [hab]; exact part_behind a b c)
      have hzu := str_size u
      have s1 : ∀ W, (Instr.slice 9 (.string (str u)) none (some (.int .i64 (a.length : Int))) none).run Tryz.prog W = .ok (.string (str a)) W := fun W => by
        have h := run_slice_string W 9 (str u) .i64 .i64 0 a.length Tryz.underlying9 (by omega) (by omega) (by rw [hzu]; omega)
        rw [← HX.out]
        exact h
      have s2 : ∀ W, (Instr.slice 9 (.string (str u)) (some (.int .i64 ((a.length : Int) + 1))) none none).run Tryz.prog W = .ok (.string (str b)) W := fun W => by
        have h := run_slice_string_l (P := Tryz.prog) (w := W) (t := 9) (s := str u) Tryz.underlying9 .i64 ((a.length : Int) + 1) (by omega) (by rw [hzu]; omega)
        rw [show ((a.length : Int) + 1).toNat = a.length + 1 by omega, hzu, HY.out] at h
        exact h
      have hy' := hY pre a wr hj hpre
      obtain ⟨fn, tmps, assign, body, hy, hR⟩ := hy'
      have c1 : (a.length : Int) ≤ 1000000 := by omega
      clear hab hpre hpos HX HY hzu
      gi_wp2_with (refine ⟨trivial, ?_⟩; gi_at_call 97; refine (callsIn_wide.2 (CI _)).mono ?_; rintro e w' ⟨rfl, rfl⟩)
      refine hR.mono ?_
      rintro e W3 (⟨rfl, hJ3, hk3⟩ | ⟨rfl, hJx3⟩)
      · have hB3 := hB.kept hk3
        have q1 := hB3.s
        have q2 := hB3.p
        clear hB hs hp hk hj hR hy CI
        gi_wp2
        go_roundw
        case rel => exact ⟨pre ++ [a], b, hpl2, by omega, hB3.next b, hJ _ _ _ hJ3⟩
        case measure => rw [leftV_of (hB3.next b).s.1]; omega
      · clear hR hy CI
        gi_wp2
        refine bodyPost_ret (results_none rfl _ _ _) rfl ?_
        exact ⟨⟨_, rfl⟩, .inr ⟨pre ++ [a], ⟨cutL b c, hpl2.out.symm⟩, hJx3⟩⟩
    · rw [index_miss hm] at CI
      rw [cutL_one u c hm] at hpl
      have hy' := hY pre u wr hj ⟨[], by rw [hpl.out, List.append_nil]⟩
      obtain ⟨fn, tmps, assign, body, hy, hR⟩ := hy'
      gi_wp2_with (refine ⟨trivial, ?_⟩; gi_at_call 97; refine (callsIn_wide.2 (CI _)).mono ?_; rintro e w' ⟨rfl, rfl⟩)
      refine hR.mono ?_
      rintro e W3 (⟨rfl, hJ3, hk3⟩ | ⟨rfl, hJx3⟩)
      · clear hB hs hp hk hj hR hy CI
        gi_wp2
        go_end0
        exact ⟨⟨_, rfl⟩, .inl (by rw [hpl.out]; exact hJ3)⟩
      · clear hR hy CI
        gi_wp2
        go_end0
        exact ⟨⟨_, rfl⟩, .inr ⟨pre ++ [u], ⟨[], by rw [hpl.out, List.append_nil]⟩, hJx3⟩⟩
end Go.Proofs.YtbjgmkjinnbokaaGreatDoor

/- Layer 14: the program's Clean. -/
namespace Go.Proofs.YtbjgmkjinnbokaaGreatDoor
open Go.RowKit Go.Shelf
attribute [local go_sem] Oper.semAt_some

/-- The world in which the iterator's boxes are laid. -/
def boxW (w : World) (s : List UInt8) (c : UInt8) : World := ((w.alloc (.cells #[.string (str s)] 9)).alloc (.cells #[.string ⟨#[c]⟩] 9)).alloc (.cells #[.int .i64 0] 3)
theorem boxW_size (w : World) (s : List UInt8) (c : UInt8) : (boxW w s c).heap.size = w.heap.size + 3 := by unfold boxW; rw [World.size_alloc, World.size_alloc, World.size_alloc]
theorem boxW_below (w : World) (s : List UInt8) (c : UInt8) : Below w.heap.size w (boxW w s c) := (((Below.refl _ w).alloc (Nat.le_refl _) _).alloc (by simp) _).alloc (by simp; omega) _
theorem new_cell (W : World) (v : Value) (t : TypeId) : (W.alloc (.cells #[v] t)).cell? ⟨W.heap.size, 0, none⟩ = some v ∧ (W.alloc (.cells #[v] t)).frozen? ⟨W.heap.size, 0, none⟩ = false := by
  have h : (W.alloc (.cells #[v] t)).heap[W.heap.size]? = some (.cells #[v] t (0, 0)) := World.alloc_heap_new W _
  unfold World.cell? World.frozen?
  rw [h]
  exact ⟨rfl, rfl⟩
theorem cell_alloc {W : World} {b : Nat} {v : Value} (o : Obj) (h : W.cell? ⟨b, 0, none⟩ = some v ∧ W.frozen? ⟨b, 0, none⟩ = false) : (W.alloc o).cell? ⟨b, 0, none⟩ = some v ∧ (W.alloc o).frozen? ⟨b, 0, none⟩ = false :=
  KeepsIn.below (s := fun _ => True) ((Below.refl _ W).alloc (Nat.le_refl _) o) b trivial v h.1 h.2
theorem boxW_boxes (w : World) (s : List UInt8) (c : UInt8) : Boxes w.heap.size s c (boxW w s c) := by
  have h0 := new_cell w (.string (str s)) 9
  have h1 := new_cell (w.alloc (.cells #[.string (str s)] 9)) (.string ⟨#[c]⟩) 9
  have h2 := new_cell ((w.alloc (.cells #[.string (str s)] 9)).alloc (.cells #[.string ⟨#[c]⟩] 9)) (.int .i64 0) 3
  simp only [World.size_alloc] at h1 h2
  exact ⟨cell_alloc _ (cell_alloc _ h0), cell_alloc _ h1, h2⟩
set_option maxHeartbeats 1000000 in
theorem splitSeq_any (s : List UInt8) (c : UInt8) (w : World) :
    Calls Tryz.prog 79 #[.string (str s), .string ⟨#[c]⟩, .int .i64 0] w fun e w' => e = .returned (.func (.func 95) #[] #[.pointer (some ⟨w.heap.size + 1, 0, none⟩), .pointer (some ⟨w.heap.size, 0, none⟩), .pointer (some ⟨w.heap.size + 2, 0, none⟩)]) ∧ w' = boxW w s c := by
  go_enter Tryz.func79, Tryz.ntmps79
  go_wp2
  go_ret
  exact ⟨rfl, rfl⟩
set_option maxHeartbeats 1000000 in
theorem SplitSeq_any (s : List UInt8) (c : UInt8) (w : World) :
    Calls Tryz.prog 53 #[.string (str s), .string ⟨#[c]⟩] w fun e w' => e = .returned (.func (.func 95) #[] #[.pointer (some ⟨w.heap.size + 1, 0, none⟩), .pointer (some ⟨w.heap.size, 0, none⟩), .pointer (some ⟨w.heap.size + 2, 0, none⟩)]) ∧ w' = boxW w s c := by
  have C := fun w => splitSeq_any s c w
  generalize str s = S at *
  go_enter Tryz.func53, Tryz.ntmps53
  go_wp2_with (go_at_call 79; ((with_reducible refine (C _).mono ?_); rintro e w1 ⟨rfl, rfl⟩))
  go_ret
  exact ⟨rfl, rfl⟩
theorem others_below {W W' : World} (h : Below W.heap.size W W') : KeepsOthers W W' := ⟨h.size, fun k _ hk _ => (h.block k (Array.getElem?_eq_some_iff.1 hk).1).trans hk⟩
theorem join_lib : ∀ l : List (List UInt8), joinL l = Lib.join l [47]
  | [] => rfl
  | x :: r => by rw [Lib.join_cons]; rfl
theorem str_data_map (l : List (List UInt8)) : (l.map str).map (·.data.toList) = l := by
  rw [List.map_map]
  conv => rhs; rw [← List.map_id l]
  exact List.map_congr_left fun x _ => rfl
theorem libJoin_any (a : Option Addr) (cap : Nat) (l : List (List UInt8)) (w : World) (hr : RdS w a l) (hn : l.length ≤ 1000000) (hc : l.length ≤ cap) (hl : (joinL l).length ≤ 2000000) :
    Calls Tryz.prog 55 #[.slice a l.length cap, .string ⟨#[47]⟩] w fun e w' => e = .returned (.string (str (joinL l))) ∧ Below w.heap.size w w' := by
  cases l with
  | nil => exact (Tryz.strings_Join_none a cap ⟨#[47]⟩ w).mono fun e w' ⟨h1, h2⟩ => ⟨h1, h2 ▸ Below.refl _ _⟩
  | cons x r =>
    obtain ⟨g, rfl, hlt, _⟩ := hr 0 (by simp)
    have e1 : ((x :: r).map str).length = (x :: r).length := List.length_map ..
    have e2 : Lib.join (((x :: r).map str).map (·.data.toList)) (⟨#[47]⟩ : ByteArray).data.toList = joinL (x :: r) := by rw [str_data_map, join_lib]
    have h := Tryz.strings_Join g 0 cap ((x :: r).map str) ⟨#[47]⟩ w (fun j y hy => by
      rw [List.getElem?_map] at hy
      obtain ⟨z, hz, rfl⟩ := Option.map_eq_some_iff.1 hy
      have hj : j < (x :: r).length := (List.getElem?_eq_some_iff.1 hz).1
      obtain ⟨g', hg', _, hcell⟩ := hr j hj
      cases hg'
      rw [Nat.zero_add, hcell, List.getD_eq_getElem?_getD, hz]
      rfl) hlt (by rw [e1]; omega) (by rw [e1]; exact hc) (by rw [e2]; omega)
    rw [e1, e2] at h
    exact h
theorem StkAt.same {W W' : World} {base B : Nat} {l : List (List UInt8)} (h : StkAt W base B l) (hk : ∀ k, stkS base B k → ∀ cs t fr, W.heap[k]? = some (.cells cs t fr) → W'.heap[k]? = W.heap[k]?) : StkAt W' base B l := by
  obtain ⟨v, hr, ho⟩ := h
  refine ⟨v, (hk B (.inl rfl) _ _ _ hr).trans hr, ?_⟩
  rcases ho with hn | ⟨g, cap, cur, rfl, hbg, hg, rest⟩
  · exact .inl hn
  · exact .inr ⟨g, cap, cur, rfl, hbg, (hk g (.inr hbg) _ _ _ hg).trans hg, rest⟩
/-- The named results, in their boxes. -/
structure ClI (w : World) (r : List UInt8) (e : Int) (W : World) : Prop where
  r : W.cell? ⟨w.heap.size, 0, none⟩ = some (.string (str r)) ∧ W.frozen? ⟨w.heap.size, 0, none⟩ = false
  e : W.cell? ⟨w.heap.size + 1, 0, none⟩ = some (.int .i64 e) ∧ W.frozen? ⟨w.heap.size + 1, 0, none⟩ = false
  b : Below w.heap.size w W
  z : w.heap.size + 6 ≤ W.heap.size
theorem ClI.keeps {w W W' : World} {r : List UInt8} {e : Int} (h : ClI w r e W) (hk : KeepsIn (fun k => k = w.heap.size ∨ k = w.heap.size + 1) W W') (hb : Below w.heap.size w W') (hz : W.heap.size ≤ W'.heap.size) : ClI w r e W' :=
  ⟨hk _ (.inl rfl) _ h.r.1 h.r.2, hk _ (.inr rfl) _ h.e.1 h.e.2, hb, Nat.le_trans h.z hz⟩
theorem ClI.alloc {w W : World} {r : List UInt8} {e : Int} (h : ClI w r e W) (o : Obj) : ClI w r e (W.alloc o) :=
  ⟨cell_alloc o h.r, cell_alloc o h.e, h.b.alloc h.b.size o, by rw [World.size_alloc]; have := h.z; omega⟩
theorem ClI.put {w W : World} {r : List UInt8} {e : Int} (h : ClI w r e W) {l : Nat} {o : Obj} (o' : Obj) (hl : w.heap.size ≤ l) (hh : W.heap[l]? = some o) (hc : o.isCells = false) : ClI w r e (W.putObj l o') :=
  h.keeps (KeepsIn.put _ W l o o' hh hc) (h.b.grown (grownBy_putObj' W l o') h.b.size (fun k e => by cases e; exact hl)) (grownBy_putObj' W l o').size
theorem ClI.own {w W : World} {r : List UInt8} {e : Int} (h : ClI w r e W) (i : Nat) (v : Value) : ClI w r e (W.setCell ⟨w.heap.size + 2 + i, 0, none⟩ v) :=
  h.keeps (KeepsIn.setCell (p := ⟨w.heap.size + 2 + i, 0, none⟩) (by show ¬ (w.heap.size + 2 + i = w.heap.size ∨ w.heap.size + 2 + i = w.heap.size + 1); omega) v) (h.b.setCell (p := ⟨w.heap.size + 2 + i, 0, none⟩) (by show w.heap.size ≤ w.heap.size + 2 + i; omega) v) (by rw [World.size_setCell]; exact Nat.le_refl _)
theorem ClI.setR {w W : World} {r : List UInt8} {e : Int} (h : ClI w r e W) (r' : List UInt8) : ClI w r' e (W.setCell ⟨w.heap.size, 0, none⟩ (.string (str r'))) :=
  ⟨⟨World.cell?_setCell_same' _ _ _ (by rw [h.r.1]; rfl), by rw [World.frozen?_setCell]; exact h.r.2⟩,
    ⟨(World.cell?_setCell_other W ⟨w.heap.size, 0, none⟩ ⟨w.heap.size + 1, 0, none⟩ _ (by simp)).trans h.e.1, by rw [World.frozen?_setCell]; exact h.e.2⟩,
    h.b.setCell (p := ⟨w.heap.size, 0, none⟩) (Nat.le_refl _) _, by rw [World.size_setCell]; exact h.z⟩
theorem ClI.setE {w W : World} {r : List UInt8} {e : Int} (h : ClI w r e W) (e' : Int) : ClI w r e' (W.setCell ⟨w.heap.size + 1, 0, none⟩ (.int .i64 e')) :=
  ⟨⟨(World.cell?_setCell_other W ⟨w.heap.size + 1, 0, none⟩ ⟨w.heap.size, 0, none⟩ _ (by simp)).trans h.r.1, by rw [World.frozen?_setCell]; exact h.r.2⟩,
    ⟨World.cell?_setCell_same' _ _ _ (by rw [h.e.1]; rfl), by rw [World.frozen?_setCell]; exact h.e.2⟩,
    h.b.setCell (p := ⟨w.heap.size + 1, 0, none⟩) (by show w.heap.size ≤ w.heap.size + 1; omega) _, by rw [World.size_setCell]; exact h.z⟩
theorem ClI.below {w W W' : World} {r : List UInt8} {e : Int} (h : ClI w r e W) (hb : Below W.heap.size W W') : ClI w r e W' :=
  h.keeps (KeepsIn.below hb) (h.b.trans (hb.mono h.b.size)) hb.size
theorem ClI.stk {w W W' : World} {r : List UInt8} {e : Int} (h : ClI w r e W) (hc : StkC (w.heap.size + 6) (w.heap.size + 2) W W') : ClI w r e W' := by
  have hno : ∀ k, k = w.heap.size ∨ k = w.heap.size + 1 → W'.heap[k]? = W.heap[k]? := fun k hk => hc.chg.block k (by have := h.z; omega) (by rintro (h | h) <;> omega)
  refine h.keeps (fun b hb v hv hf => ⟨(World.cell?_of_block (hno b hb)).trans hv, (frozen_block (p := ⟨b, 0, none⟩) (hno b hb)).trans hf⟩) ?_ hc.chg.size
  exact h.b.trans (hc.chg.below h.b.size (fun k hk => by rintro (h | h) <;> omega))
theorem keeps_boxes {W W' : World} {H : Nat} (hz : H + 6 ≤ W.heap.size) (hc : StkC (H + 6) (H + 2) W W') : KeepsIn (boxS (H + 3)) W W' := by
  have hno : ∀ k, boxS (H + 3) k → W'.heap[k]? = W.heap[k]? := fun k hk => hc.chg.block k (by unfold boxS at hk; omega) (by unfold boxS at hk; rintro (h | h) <;> omega)
  exact fun b hb v hv hf => ⟨(World.cell?_of_block (hno b hb)).trans hv, (frozen_block (p := ⟨b, 0, none⟩) (hno b hb)).trans hf⟩
/-- Between two rounds. -/
def sofarC (w : World) : List (List UInt8) → World → Prop := fun pre W => ∃ l, foldP pre = some l ∧ l.length ≤ pre.length ∧ ClI w [] 0 W ∧ StkAt W (w.heap.size + 6) (w.heap.size + 2) l
def noMoreC (w : World) : List (List UInt8) → World → Prop := fun pre W => foldP pre = none ∧ ClI w [] 71 W
theorem abode_so {w0 w : World} (hle : w.heap.size ≤ w0.heap.size) : Abode w0 (w.heap.size + 3) (sofarC w) :=
  ⟨fun _ W o ⟨l, h1, h2, h3, h4⟩ => ⟨l, h1, h2, h3.alloc o, h4.same fun k _ cs t fr hk => Below.heap_alloc W o k (Array.getElem?_eq_some_iff.1 hk).1⟩,
   fun _ W i o o' ⟨l, h1, h2, h3, h4⟩ hl hh hc => ⟨l, h1, h2, h3.put o' (Nat.le_trans hle hl) hh hc, h4.same fun k _ cs t fr hk => World.putObj_heap_other (fun e => by subst e; rw [hh] at hk; cases hk; cases hc)⟩,
   fun _ W v ⟨l, h1, h2, h3, h4⟩ => ⟨l, h1, h2, h3.own 1 v, h4.same fun k hk cs t fr _ => heap_setCell_other W ⟨w.heap.size + 3, 0, none⟩ k v (by show k ≠ w.heap.size + 3; rintro rfl; rcases hk with h | h <;> omega)⟩⟩
theorem abode_no {w0 w : World} (hle : w.heap.size ≤ w0.heap.size) : Abode w0 (w.heap.size + 3) (noMoreC w) :=
  ⟨fun _ _ o h => ⟨h.1, h.2.alloc o⟩, fun _ _ _ _ o' h hl hh hc => ⟨h.1, h.2.put o' (Nat.le_trans hle hl) hh hc⟩, fun _ _ v h => ⟨h.1, h.2.own 1 v⟩⟩
theorem foldP_pre {pre xs : List (List UInt8)} (h : pre <+: xs) (hn : foldP pre = none) : foldP xs = none := by
  obtain ⟨t, rfl⟩ := h
  unfold foldP at hn ⊢
  rw [List.foldl_append, hn, fold_none]
theorem step_len {l l' : List (List UInt8)} {x : List UInt8} (h : stepP (some l) x = some l') : l'.length ≤ l.length + 1 := by
  unfold stepP at h
  simp only at h
  split at h
  · cases h; omega
  · split at h
    · split at h
      · cases h
      · cases h; rw [List.length_dropLast]; omega
    · split at h
      · cases h
      · cases h; rw [List.length_append]; simp
/-- How long what stands is. -/
def totL (l : List (List UInt8)) : Nat := (l.map fun x => x.length + 1).sum
theorem totL_append (l m : List (List UInt8)) : totL (l ++ m) = totL l + totL m := by simp [totL]
theorem totL_one (x : List UInt8) : totL [x] = x.length + 1 := by simp [totL]
theorem tot_tail : ∀ r : List (List UInt8), (tailL r).length = totL r
  | [] => rfl
  | y :: r => by
    have e : tailL (y :: r) = (47 :: y) ++ tailL r := by simp [tailL]
    rw [e, List.length_append, tot_tail r, List.length_cons, show y :: r = [y] ++ r from rfl, totL_append, totL_one]
theorem tot_join {x : List UInt8} (r : List (List UInt8)) : (joinL (x :: r)).length + 1 = totL (x :: r) := by
  rw [joinL, List.length_append, tot_tail, show x :: r = [x] ++ r from rfl, totL_append, totL_one]
  omega
theorem join_tot (l : List (List UInt8)) : (joinL l).length ≤ totL l := by
  cases l with
  | nil => exact Nat.zero_le _
  | cons x r => have := tot_join (x := x) r; omega
theorem step_tot {l l' : List (List UInt8)} {x : List UInt8} (h : stepP (some l) x = some l') : totL l' ≤ totL l + (x.length + 1) := by
  unfold stepP at h
  simp only at h
  split at h
  · cases h; omega
  · split at h
    · split at h
      · cases h
      · rename_i hne
        cases h
        obtain ⟨m, y, rfl⟩ := split_end (List.length_pos_iff.2 hne)
        rw [List.dropLast_concat, totL_append]
        omega
    · split at h
      · cases h
      · cases h; rw [totL_append, totL_one]; omega
theorem fold_tot : ∀ (ps : List (List UInt8)) {l l' : List (List UInt8)}, ps.foldl stepP (some l) = some l' → totL l' ≤ totL l + totL ps
  | [], _, _, h => by cases h; simp [totL]
  | x :: ps, l, l', h => by
    rw [List.foldl_cons] at h
    cases e : stepP (some l) x with
    | none => rw [e, fold_none] at h; cases h
    | some m =>
      rw [e] at h
      have h1 := fold_tot ps h
      have h2 := step_tot e
      rw [show x :: ps = [x] ++ ps from rfl, totL_append, totL_one]
      omega
theorem foldP_len {s : List UInt8} {l : List (List UInt8)} (h : foldP (cutL s 47) = some l) : (joinL l).length ≤ s.length + 1 := by
  have h1 := fold_tot _ h
  have h2 := join_tot l
  have h3 := join_cut s
  have hp := cutL_pos s 47
  cases e : cutL s 47 with
  | nil => rw [e] at hp; cases hp
  | cons x r =>
    rw [e] at h1 h3
    have h4 := tot_join (x := x) r
    rw [h3] at h4
    have h5 : totL [] = 0 := rfl
    omega
end Go.Proofs.YtbjgmkjinnbokaaGreatDoor

