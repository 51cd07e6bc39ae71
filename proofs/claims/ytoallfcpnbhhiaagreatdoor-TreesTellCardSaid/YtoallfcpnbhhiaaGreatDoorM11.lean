/- Merged: PtH, PtI. -/
import Derived.Test.YtoallfcpnbhhiaaGreatDoorM10
/- Layer 14: the program's Clean. -/
namespace Go.Proofs.YtoallfcpnbhhiaaGreatDoor
open Go.RowKit Go.Shelf
attribute [local go_sem] Oper.semAt_some

/-- The world in which the iterator's boxes are laid. -/
def boxW (w : World) (s : List UInt8) (c : UInt8) : World := ((w.alloc (.cells #[.string (str s)] 9)).alloc (.cells #[.string ⟨#[c]⟩] 9)).alloc (.cells #[.int .i64 0] 3)
theorem boxW_size (w : World) (s : List UInt8) (c : UInt8) : (boxW w s c).heap.size = w.heap.size + 3 := by unfold boxW; rw [World.size_alloc, World.size_alloc, World.size_alloc]
theorem boxW_below (w : World) (s : List UInt8) (c : UInt8) : Below w.heap.size w (boxW w s c) := (((Below.refl _ w).alloc (Nat.le_refl _) _).alloc (by simp) _).alloc (by simp; omega) _
theorem new_cell (W : World) (v : Value) (t : TypeId) : (W.alloc (.cells #[v] t)).cell? ⟨W.heap.size, 0, none⟩ = some v ∧ (W.alloc (.cells #[v] t)).frozen? ⟨W.heap.size, 0, none⟩ = false := by
  have h : (W.alloc (.cells #[v] t)).heap[W.heap.size]? = some (.cells #[v] t (0, 0)) := World.alloc_heap_new W _
  unfold World.cell? World.frozen?
  rw [h]
  exact ⟨rfl, rfl⟩
theorem cell_alloc {W : World} {b : Nat} {v : Value} (o : Obj) (h : W.cell? ⟨b, 0, none⟩ = some v ∧ W.frozen? ⟨b, 0, none⟩ = false) : (W.alloc o).cell? ⟨b, 0, none⟩ = some v ∧ (W.alloc o).frozen? ⟨b, 0, none⟩ = false :=
  KeepsIn.below (s := fun _ => True) ((Below.refl _ W).alloc (Nat.le_refl _) o) b trivial v h.1 h.2
theorem boxW_boxes (w : World) (s : List UInt8) (c : UInt8) : Boxes w.heap.size s c (boxW w s c) := by
  have h0 := new_cell w (.string (str s)) 9
  have h1 := new_cell (w.alloc (.cells #[.string (str s)] 9)) (.string ⟨#[c]⟩) 9
  have h2 := new_cell ((w.alloc (.cells #[.string (str s)] 9)).alloc (.cells #[.string ⟨#[c]⟩] 9)) (.int .i64 0) 3
  simp only [World.size_alloc] at h1 h2
  exact ⟨cell_alloc _ (cell_alloc _ h0), cell_alloc _ h1, h2⟩
set_option maxHeartbeats 1000000 in
theorem splitSeq_any (s : List UInt8) (c : UInt8) (w : World) :
    Calls Tryz.prog 78 #[.string (str s), .string ⟨#[c]⟩, .int .i64 0] w fun e w' => e = .returned (.func (.func 104) #[] #[.pointer (some ⟨w.heap.size + 1, 0, none⟩), .pointer (some ⟨w.heap.size, 0, none⟩), .pointer (some ⟨w.heap.size + 2, 0, none⟩)]) ∧ w' = boxW w s c := by
  go_enter Tryz.func78, Tryz.ntmps78
  go_wp2
  go_ret
  exact ⟨rfl, rfl⟩
set_option maxHeartbeats 1000000 in
theorem SplitSeq_any (s : List UInt8) (c : UInt8) (w : World) :
    Calls Tryz.prog 60 #[.string (str s), .string ⟨#[c]⟩] w fun e w' => e = .returned (.func (.func 104) #[] #[.pointer (some ⟨w.heap.size + 1, 0, none⟩), .pointer (some ⟨w.heap.size, 0, none⟩), .pointer (some ⟨w.heap.size + 2, 0, none⟩)]) ∧ w' = boxW w s c := by
  have C := fun w => splitSeq_any s c w
  generalize str s = S at *
  go_enter Tryz.func60, Tryz.ntmps60
  go_wp2_with (go_at_call 78; ((with_reducible refine (C _).mono ?_); rintro e w1 ⟨rfl, rfl⟩))
  go_ret
  exact ⟨rfl, rfl⟩
theorem others_below {W W' : World} (h : Below W.heap.size W W') : KeepsOthers W W' := ⟨h.size, fun k _ hk _ => (h.block k (Array.getElem?_eq_some_iff.1 hk).1).trans hk⟩
theorem join_lib : ∀ l : List (List UInt8), joinL l = Lib.join l [47]
  | [] => rfl
  | x :: r => by rw [Lib.join_cons]; rfl
theorem str_data_map (l : List (List UInt8)) : (l.map str).map (·.data.toList) = l := by
  rw [List.map_map]
  conv => rhs; rw [← List.map_id l]
  exact List.map_congr_left fun x _ => rfl
theorem libJoin_any (a : Option Addr) (cap : Nat) (l : List (List UInt8)) (w : World) (hr : RdS w a l) (hn : l.length ≤ 1000000) (hc : l.length ≤ cap) (hl : (joinL l).length ≤ 2000000) :
    Calls Tryz.prog 62 #[.slice a l.length cap, .string ⟨#[47]⟩] w fun e w' => e = .returned (.string (str (joinL l))) ∧ Below w.heap.size w w' := by
  cases l with
  | nil => exact (Tryz.strings_Join_none a cap ⟨#[47]⟩ w).mono fun e w' ⟨h1, h2⟩ => ⟨h1, h2 ▸ Below.refl _ _⟩
  | cons x r =>
    obtain ⟨g, rfl, hlt, _⟩ := hr 0 (by simp)
    have e1 : ((x :: r).map str).length = (x :: r).length := List.length_map ..
    have e2 : Lib.join (((x :: r).map str).map (·.data.toList)) (⟨#[47]⟩ : ByteArray).data.toList = joinL (x :: r) := by rw [str_data_map, join_lib]
    have h := Tryz.strings_Join g 0 cap ((x :: r).map str) ⟨#[47]⟩ w (fun j y hy => by
      rw [List.getElem?_map] at hy
      obtain ⟨z, hz, rfl⟩ := Option.map_eq_some_iff.1 hy
      have hj : j < (x :: r).length := (List.getElem?_eq_some_iff.1 hz).1
      obtain ⟨g', hg', _, hcell⟩ := hr j hj
      cases hg'
      rw [Nat.zero_add, hcell, List.getD_eq_getElem?_getD, hz]
      rfl) hlt (by rw [e1]; omega) (by rw [e1]; exact hc) (by rw [e2]; omega)
    rw [e1, e2] at h
    exact h
theorem StkAt.same {W W' : World} {base B : Nat} {l : List (List UInt8)} (h : StkAt W base B l) (hk : ∀ k, stkS base B k → ∀ cs t fr, W.heap[k]? = some (.cells cs t fr) → W'.heap[k]? = W.heap[k]?) : StkAt W' base B l := by
  obtain ⟨v, hr, ho⟩ := h
  refine ⟨v, (hk B (.inl rfl) _ _ _ hr).trans hr, ?_⟩
  rcases ho with hn | ⟨g, cap, cur, rfl, hbg, hg, rest⟩
  · exact .inl hn
  · exact .inr ⟨g, cap, cur, rfl, hbg, (hk g (.inr hbg) _ _ _ hg).trans hg, rest⟩
/-- The named results, in their boxes. -/
structure ClI (w : World) (r : List UInt8) (e : Int) (W : World) : Prop where
  r : W.cell? ⟨w.heap.size, 0, none⟩ = some (.string (str r)) ∧ W.frozen? ⟨w.heap.size, 0, none⟩ = false
  e : W.cell? ⟨w.heap.size + 1, 0, none⟩ = some (.int .i64 e) ∧ W.frozen? ⟨w.heap.size + 1, 0, none⟩ = false
  b : Below w.heap.size w W
  z : w.heap.size + 6 ≤ W.heap.size
theorem ClI.keeps {w W W' : World} {r : List UInt8} {e : Int} (h : ClI w r e W) (hk : KeepsIn (fun k => k = w.heap.size ∨ k = w.heap.size + 1) W W') (hb : Below w.heap.size w W') (hz : W.heap.size ≤ W'.heap.size) : ClI w r e W' :=
  ⟨hk _ (.inl rfl) _ h.r.1 h.r.2, hk _ (.inr rfl) _ h.e.1 h.e.2, hb, Nat.le_trans h.z hz⟩
theorem ClI.alloc {w W : World} {r : List UInt8} {e : Int} (h : ClI w r e W) (o : Obj) : ClI w r e (W.alloc o) :=
  ⟨cell_alloc o h.r, cell_alloc o h.e, h.b.alloc h.b.size o, by rw [World.size_alloc]; have := h.z; omega⟩
theorem ClI.put {w W : World} {r : List UInt8} {e : Int} (h : ClI w r e W) {l : Nat} {o : Obj} (o' : Obj) (hl : w.heap.size ≤ l) (hh : W.heap[l]? = some o) (hc : o.isCells = false) : ClI w r e (W.putObj l o') :=
  h.keeps (KeepsIn.put _ W l o o' hh hc) (h.b.grown (grownBy_putObj' W l o') h.b.size (fun k e => by cases e; exact hl)) (grownBy_putObj' W l o').size
theorem ClI.own {w W : World} {r : List UInt8} {e : Int} (h : ClI w r e W) (i : Nat) (v : Value) : ClI w r e (W.setCell ⟨w.heap.size + 2 + i, 0, none⟩ v) :=
  h.keeps (KeepsIn.setCell (p := ⟨w.heap.size + 2 + i, 0, none⟩) (by show ¬ (w.heap.size + 2 + i = w.heap.size ∨ w.heap.size + 2 + i = w.heap.size + 1); omega) v) (h.b.setCell (p := ⟨w.heap.size + 2 + i, 0, none⟩) (by show w.heap.size ≤ w.heap.size + 2 + i; omega) v) (by rw [World.size_setCell]; exact Nat.le_refl _)
theorem ClI.setR {w W : World} {r : List UInt8} {e : Int} (h : ClI w r e W) (r' : List UInt8) : ClI w r' e (W.setCell ⟨w.heap.size, 0, none⟩ (.string (str r'))) :=
  ⟨⟨World.cell?_setCell_same' _ _ _ (by rw [h.r.1]; rfl), by rw [World.frozen?_setCell]; exact h.r.2⟩,
    ⟨(World.cell?_setCell_other W ⟨w.heap.size, 0, none⟩ ⟨w.heap.size + 1, 0, none⟩ _ (by simp)).trans h.e.1, by rw [World.frozen?_setCell]; exact h.e.2⟩,
    h.b.setCell (p := ⟨w.heap.size, 0, none⟩) (Nat.le_refl _) _, by rw [World.size_setCell]; exact h.z⟩
theorem ClI.setE {w W : World} {r : List UInt8} {e : Int} (h : ClI w r e W) (e' : Int) : ClI w r e' (W.setCell ⟨w.heap.size + 1, 0, none⟩ (.int .i64 e')) :=
  ⟨⟨(World.cell?_setCell_other W ⟨w.heap.size + 1, 0, none⟩ ⟨w.heap.size, 0, none⟩ _ (by simp)).trans h.r.1, by rw [World.frozen?_setCell]; exact h.r.2⟩,
    ⟨World.cell?_setCell_same' _ _ _ (by rw [h.e.1]; rfl), by rw [World.frozen?_setCell]; exact h.e.2⟩,
    h.b.setCell (p := ⟨w.heap.size + 1, 0, none⟩) (by show w.heap.size ≤ w.heap.size + 1; omega) _, by rw [World.size_setCell]; exact h.z⟩
theorem ClI.below {w W W' : World} {r : List UInt8} {e : Int} (h : ClI w r e W) (hb : Below W.heap.size W W') : ClI w r e W' :=
  h.keeps (KeepsIn.below hb) (h.b.trans (hb.mono h.b.size)) hb.size
theorem ClI.stk {w W W' : World} {r : List UInt8} {e : Int} (h : ClI w r e W) (hc : StkC (w.heap.size + 6) (w.heap.size + 2) W W') : ClI w r e W' := by
  have hno : ∀ k, k = w.heap.size ∨ k = w.heap.size + 1 → W'.heap[k]? = W.heap[k]? := fun k hk => hc.chg.block k (by have := h.z; omega) (by rintro (h | h) <;> omega)
  refine h.keeps (fun b hb v hv hf => ⟨(World.cell?_of_block (hno b hb)).trans hv, (frozen_block (p := ⟨b, 0, none⟩) (hno b hb)).trans hf⟩) ?_ hc.chg.size
  exact h.b.trans (hc.chg.below h.b.size (fun k hk => by rintro (h | h) <;> omega))
theorem keeps_boxes {W W' : World} {H : Nat} (hz : H + 6 ≤ W.heap.size) (hc : StkC (H + 6) (H + 2) W W') : KeepsIn (boxS (H + 3)) W W' := by
  have hno : ∀ k, boxS (H + 3) k → W'.heap[k]? = W.heap[k]? := fun k hk => hc.chg.block k (by unfold boxS at hk; omega) (by unfold boxS at hk; rintro (h | h) <;> omega)
  exact fun b hb v hv hf => ⟨(World.cell?_of_block (hno b hb)).trans hv, (frozen_block (p := ⟨b, 0, none⟩) (hno b hb)).trans hf⟩
/-- Between two rounds. -/
def sofarC (w : World) : List (List UInt8) → World → Prop := fun pre W => ∃ l, foldP pre = some l ∧ l.length ≤ pre.length ∧ ClI w [] 0 W ∧ StkAt W (w.heap.size + 6) (w.heap.size + 2) l
def noMoreC (w : World) : List (List UInt8) → World → Prop := fun pre W => foldP pre = none ∧ ClI w [] 71 W
theorem abode_so {w0 w : World} (hle : w.heap.size ≤ w0.heap.size) : Abode w0 (w.heap.size + 3) (sofarC w) :=
  ⟨fun _ W o ⟨l, h1, h2, h3, h4⟩ => ⟨l, h1, h2, h3.alloc o, h4.same fun k _ cs t fr hk => Below.heap_alloc W o k (Array.getElem?_eq_some_iff.1 hk).1⟩,
   fun _ W i o o' ⟨l, h1, h2, h3, h4⟩ hl hh hc => ⟨l, h1, h2, h3.put o' (Nat.le_trans hle hl) hh hc, h4.same fun k _ cs t fr hk => World.putObj_heap_other (fun e => by subst e; rw [hh] at hk; cases hk; cases hc)⟩,
   fun _ W v ⟨l, h1, h2, h3, h4⟩ => ⟨l, h1, h2, h3.own 1 v, h4.same fun k hk cs t fr _ => heap_setCell_other W ⟨w.heap.size + 3, 0, none⟩ k v (by show k ≠ w.heap.size + 3; rintro rfl; rcases hk with h | h <;> omega)⟩⟩
theorem abode_no {w0 w : World} (hle : w.heap.size ≤ w0.heap.size) : Abode w0 (w.heap.size + 3) (noMoreC w) :=
  ⟨fun _ _ o h => ⟨h.1, h.2.alloc o⟩, fun _ _ _ _ o' h hl hh hc => ⟨h.1, h.2.put o' (Nat.le_trans hle hl) hh hc⟩, fun _ _ v h => ⟨h.1, h.2.own 1 v⟩⟩
theorem foldP_pre {pre xs : List (List UInt8)} (h : pre <+: xs) (hn : foldP pre = none) : foldP xs = none := by
  obtain ⟨t, rfl⟩ := h
  unfold foldP at hn ⊢
  rw [List.foldl_append, hn, fold_none]
theorem step_len {l l' : List (List UInt8)} {x : List UInt8} (h : stepP (some l) x = some l') : l'.length ≤ l.length + 1 := by
  unfold stepP at h
  simp only at h
  split at h
  · cases h; omega
  · split at h
    · split at h
      · cases h
      · cases h; rw [List.length_dropLast]; omega
    · split at h
      · cases h
      · cases h; rw [List.length_append]; simp
/-- How long what stands is. -/
def totL (l : List (List UInt8)) : Nat := (l.map fun x => x.length + 1).sum
theorem totL_append (l m : List (List UInt8)) : totL (l ++ m) = totL l + totL m := by simp [totL]
theorem totL_one (x : List UInt8) : totL [x] = x.length + 1 := by simp [totL]
theorem tot_tail : ∀ r : List (List UInt8), (tailL r).length = totL r
  | [] => rfl
  | y :: r => by
    have e : tailL (y :: r) = (47 :: y) ++ tailL r := by simp [tailL]
    rw [e, List.length_append, tot_tail r, List.length_cons, show y :: r = [y] ++ r from rfl, totL_append, totL_one]
theorem tot_join {x : List UInt8} (r : List (List UInt8)) : (joinL (x :: r)).length + 1 = totL (x :: r) := by
  rw [joinL, List.length_append, tot_tail, show x :: r = [x] ++ r from rfl, totL_append, totL_one]
  omega
theorem join_tot (l : List (List UInt8)) : (joinL l).length ≤ totL l := by
  cases l with
  | nil => exact Nat.zero_le _
  | cons x r => have := tot_join (x := x) r; omega
theorem step_tot {l l' : List (List UInt8)} {x : List UInt8} (h : stepP (some l) x = some l') : totL l' ≤ totL l + (x.length + 1) := by
  unfold stepP at h
  simp only at h
  split at h
  · cases h; omega
  · split at h
    · split at h
      · cases h
      · rename_i hne
        cases h
        obtain ⟨m, y, rfl⟩ := split_end (List.length_pos_iff.2 hne)
        rw [List.dropLast_concat, totL_append]
        omega
    · split at h
      · cases h
      · cases h; rw [totL_append, totL_one]; omega
theorem fold_tot : ∀ (ps : List (List UInt8)) {l l' : List (List UInt8)}, ps.foldl stepP (some l) = some l' → totL l' ≤ totL l + totL ps
  | [], _, _, h => by cases h; simp [totL]
  | x :: ps, l, l', h => by
    rw [List.foldl_cons] at h
    cases e : stepP (some l) x with
    | none => rw [e, fold_none] at h; cases h
    | some m =>
      rw [e] at h
      have h1 := fold_tot ps h
      have h2 := step_tot e
      rw [show x :: ps = [x] ++ ps from rfl, totL_append, totL_one]
      omega
theorem foldP_len {s : List UInt8} {l : List (List UInt8)} (h : foldP (cutL s 47) = some l) : (joinL l).length ≤ s.length + 1 := by
  have h1 := fold_tot _ h
  have h2 := join_tot l
  have h3 := join_cut s
  have hp := cutL_pos s 47
  cases e : cutL s 47 with
  | nil => rw [e] at hp; cases hp
  | cons x r =>
    rw [e] at h1 h3
    have h4 := tot_join (x := x) r
    rw [h3] at h4
    have h5 : totL [] = 0 := rfl
    omega
end Go.Proofs.YtoallfcpnbhhiaaGreatDoor

/- Layer 14: the program's Clean, walked. -/
namespace Go.Proofs.YtoallfcpnbhhiaaGreatDoor
open Go.RowKit Go.Shelf
attribute [local go_sem] Oper.semAt_some

theorem ret2si {a a' : ByteArray} {b b' : Int} (h : a = a') (h' : b = b') : Ending.returned (.tuple #[.string a, .int .i64 b]) = .returned (.tuple #[.string a', .int .i64 b']) := by rw [h, h']
set_option maxRecDepth 100000 in
set_option maxHeartbeats 4000000 in
theorem clean_any (s : List UInt8) (hl : s.length ≤ 900000) (w : World) :
    Calls Tryz.prog 44 #[.string (str s)] w fun e w' => e = .returned (.tuple #[.string (str (cleanL s).1), .int .i64 (cleanL s).2]) ∧ Below w.heap.size w w' := by
  have HV := Lib.hid (show cleanL s = cleanR (foldP (cutL s 47)) from rfl)
  have HLE := Lib.hid (show (cutL s 47).length ≤ 900001 by have := cutL_le s 47; omega)
  have HPC := Lib.hid (fun p (hp : p ∈ cutL s 47) => Nat.le_trans (cutL_piece s 47 p hp) hl)
  refine (callsIn_wide (n := 4)).1 ?_
  refine callsIn_of_wp_marks Tryz.func44 rfl trivial ?_ rfl
  simp only [Tryz.ntmps44, List.size_toArray, List.length_cons, List.length_nil, Nat.reduceAdd, Nat.reduceSub, Array.replicate_succ, Array.replicate_zero, List.push_toArray, List.append_toArray, List.nil_append, List.cons_append]
  have C := fun w => SplitSeq_any s 47 w
  obtain ⟨w0, hw0⟩ : ∃ w0, w0 = ((w.alloc (.cells #[.string (str [])] 9)).alloc (.cells #[.int .i64 0] 27)).alloc (.cells #[.slice none 0 0, .int .i64 0] 109) := ⟨_, rfl⟩
  have hs0 : w0.heap.size = w.heap.size + 3 := by rw [hw0]; simp
  have r0 : ClI w [] 0 (boxW w0 s 47) ∧ StkAt (boxW w0 s 47) (w.heap.size + 6) (w.heap.size + 2) [] := by
    have h0 := new_cell w (.string (str [])) 9
    have h1 := new_cell (w.alloc (.cells #[.string (str [])] 9)) (.int .i64 0) 27
    rw [World.size_alloc] at h1
    have b0 : Below w.heap.size w w0 := by rw [hw0]; exact (((Below.refl _ w).alloc (Nat.le_refl _) _).alloc (by simp) _).alloc (by simp; omega) _
    have b1 := boxW_below w0 s 47
    have k1 : KeepsIn (fun _ => True) w0 (boxW w0 s 47) := KeepsIn.below b1
    have c0 : w0.cell? ⟨w.heap.size, 0, none⟩ = some (.string (str [])) ∧ w0.frozen? ⟨w.heap.size, 0, none⟩ = false := by rw [hw0]; exact cell_alloc _ (cell_alloc _ h0)
    have c1 : w0.cell? ⟨w.heap.size + 1, 0, none⟩ = some (.int .i64 0) ∧ w0.frozen? ⟨w.heap.size + 1, 0, none⟩ = false := by rw [hw0]; exact cell_alloc _ h1
    refine ⟨⟨k1 _ trivial _ c0.1 c0.2, k1 _ trivial _ c1.1 c1.2, b0.trans (b1.mono (by omega)), by rw [boxW_size]; omega⟩, ⟨.slice none 0 0, ?_, .inl ⟨rfl, rfl⟩⟩⟩
    have hr : rowC w0 (w.heap.size + 2) #[.slice none 0 0, .int .i64 0] 109 := by
      rw [hw0]
      have := rowC_new ((w.alloc (.cells #[.string (str [])] 9)).alloc (.cells #[.int .i64 0] 27)) #[.slice none 0 0, .int .i64 0] 109
      simpa [World.size_alloc] using this
    exact rowC_below hr b1 (rowC_lt hr)
  have hit := split_iter 3 (by omega) w0.heap.size s 47 (by omega) (boxW w0 s 47) (boxW_boxes w0 s 47)
  have hs1 := boxW_size w0 s 47
  gi_wp2_with (refine ⟨trivial, ?_⟩; gi_at_call 60; rw [show (⟨#[]⟩ : ByteArray) = str [] from rfl, ← hw0]; refine (callsIn_wide.2 (C _)).mono ?_; rintro e w' ⟨rfl, rfl⟩)
  rw [show (⟨#[]⟩ : ByteArray) = str [] from rfl, ← hw0]
  rw [hs0] at hit hs1
  refine range_own (by omega) (gf := 104) (lb := #[.pointer (some ⟨w.heap.size + 3 + 1, 0, none⟩), .pointer (some ⟨w.heap.size + 3, 0, none⟩), .pointer (some ⟨w.heap.size + 3 + 2, 0, none⟩)]) rfl (enters_of Tryz.func104 (by kernel_rfl) rfl)
    hit rfl (sofarC w) (noMoreC w) (abode_so (by omega)) (abode_no (by omega)) ⟨[], rfl, Nat.zero_le _, r0.1, r0.2⟩
    (fun x => { tmps := #[.string (str s), undef, .pointer (some ⟨w.heap.size, 0, none⟩), .pointer (some ⟨w.heap.size + 1, 0, none⟩), .pointer (some ⟨w.heap.size + 1 + 1, 0, none⟩), .string (str x), .string (str s), .func (.func 104) #[] #[.pointer (some ⟨w.heap.size + 3 + 1, 0, none⟩), .pointer (some ⟨w.heap.size + 3, 0, none⟩), .pointer (some ⟨w.heap.size + 3 + 2, 0, none⟩)], .string (str x), undef, undef, undef, undef, undef, undef, undef, undef, undef, undef, undef, undef, undef, undef, undef, undef], defers := [] }) ?assign ?body ?done ?stop
  case assign =>
    intro l x W K hK
    gi_wp2
    simpa using hK
  case body =>
    rintro j pre x W ⟨l, hp, hlp, hI, hS⟩ hpre
    have hx : x.length ≤ 900000 := HPC.out x (by obtain ⟨t, ht⟩ := hpre; rw [← ht]; simp)
    have hll : l.length ≤ 1000000 := by
      have := hpre.length_le
      have := HLE.out
      rw [List.length_append] at *
      omega
    have CP := step_any (w.heap.size + 6) (w.heap.size + 2) l x hll (by omega) W hI.z hS
    have HP := Lib.hid (foldP_snoc pre x)
    rw [hp] at HP
    have HLP := Lib.hid hlp
    have HB := Lib.hid (fun (W' : World) (hc : StkC (w.heap.size + 6) (w.heap.size + 2) W W') => keeps_boxes (H := w.heap.size) hI.z hc)
    clear hpre hx hll hp hlp hS hit r0
    cases hst : stepP (some l) x with
    | none =>
      rw [hst] at CP
      have HN := Lib.hid (HP.out.trans hst)
      clear hst
      gi_wp2_with (refine ⟨trivial, ?_⟩; gi_at_call 61; refine (CallsIn.inRound j (callsIn_wide.2 CP)).mono ?_; rintro e w' ⟨rfl, _, c1⟩; have hI1 := hI.stk c1; have HK := Lib.hid c1.ko; have hr1 := hI1.r; have he1 := hI1.e)
      exact ⟨(HK.out.trans (KeepsOthers.setCell _ _ _)).trans (KeepsOthers.setCell _ _ _), HN.out, (hI1.setR []).setE 71⟩
    | some l' =>
      rw [hst] at CP
      have HN := Lib.hid (HP.out.trans hst)
      have HLL := Lib.hid (step_len hst)
      clear hst
      gi_wp2_with (refine ⟨trivial, ?_⟩; gi_at_call 61; refine (CallsIn.inRound j (callsIn_wide.2 CP)).mono ?_; rintro e w' ⟨rfl, hs1, c1⟩)
      exact ⟨c1.ko, HB.out _ c1, l', HN.out, by have := HLL.out; have := HLP.out; rw [List.length_append, List.length_singleton]; omega, hI.stk c1, hs1 l' rfl⟩
  case done =>
    rintro D W hD ⟨l, hp, hlp, hI, v, hrow, hown⟩ hK
    have HG := Lib.hid (foldP_good hp)
    have HJ := Lib.hid (foldP_len hp)
    have HVV := Lib.hid (show cleanL s = cleanR (some l) by rw [HV.out, hp])
    have HD := Lib.hid hD
    have HLL := Lib.hid (show l.length ≤ 900001 from Nat.le_trans hlp HLE.out)
    have HTJ := Lib.hid (join_len_take l 100)
    obtain ⟨a, cap, rfl, hcap, _⟩ := hown.form
    have CJ := libJoin_any a cap (l.take 100) W hown.rd (by rw [List.length_take]; omega) hcap (by have := HJ.out; have := HTJ.out; omega)
    obtain ⟨⟨e0, f0⟩, ⟨e1, f1⟩⟩ := row_two hrow
    have e0' : W.cell? ⟨w.heap.size + 1 + 1, 0, none⟩ = some (.slice a (l.take 100).length cap) := e0
    have HROW := Lib.hid hrow
    have HK := Lib.hid hK
    clear e0 f0 e1 f1 hcap hown hrow hit r0 hD hp hlp hK
    obtain ⟨M, hM⟩ : ∃ M, l.length - 100 = M := ⟨_, rfl⟩
    rw [hM] at HROW
    have HM := Lib.hid hM
    clear hM
    obtain ⟨n, hn⟩ : ∃ n, (l.take 100).length = n := ⟨_, rfl⟩
    rw [hn] at CJ e0' HROW
    clear hn
    by_cases h1 : 100 < l.length
    · have HR := Lib.hid (show cleanL s = ([], 3) by rw [HVV.out]; unfold cleanR; simp only; rw [if_pos (by have := good_len HG.out; omega)])
      have g1 : (0 : Int) < (M : Int) := by have := HM.out; omega
      clear h1
      generalize joinL (l.take 100) = r at *
      gi_wp2
      refine ⟨trivial, ?_⟩
      gi_at_call 62
      refine (callsIn_wide.2 CJ).mono ?_
      rintro e w2 ⟨rfl, b2⟩
      have hI2 := hI.below b2
      have hr2 := hI2.r
      have row2 := rowC_other (rowC_below HROW.out b2 (rowC_lt HROW.out)) ⟨w.heap.size, 0, none⟩ (.string (str r)) (by show w.heap.size + 2 ≠ w.heap.size; omega)
      have hK2 := Lib.hid (heap_own (b := w.heap.size) (v := .string (str r)) ((others_below b2).same _ _ HK.out rfl) rfl)
      have e12 : (w2.setCell ⟨w.heap.size, 0, none⟩ (.string (str r))).cell? ⟨w.heap.size + 1 + 1, 1, none⟩ = some (.int .i64 (M : Int)) := (row_two row2).2.1
      have hI3 := hI2.setR r
      have r3 := hI3.r
      have hI4 : ClI w [] 0 ((w2.setCell ⟨w.heap.size, 0, none⟩ (.string (str r))).setCell ⟨w.heap.size, 0, none⟩ (.string ⟨#[]⟩)) := hI3.setR []
      have e4 := hI4.e
      clear row2
      gi_wp2
      have hK3 : Hid _ := Lib.hid (heap_own (b := w.heap.size + 1) (v := .int .i64 3) (heap_own (b := w.heap.size) (v := .string ⟨#[]⟩) hK2.out rfl) rfl)
      have hS := (hI4.setE 3).put (.deferred none) (by have := HD.out; omega) hK3.out rfl
      have hv := hS.r.1
      have hv2 := hS.e.1
      refine ⟨by simp, .inl ⟨_, _, rfl, run_takeDeferred hK3.out, ?_⟩⟩
      exact ⟨.tuple #[.string (str []), .int .i64 3], by simp [results, Tryz.f44, go_sem, hv, hv2], ret2si (by rw [HR.out]) (by rw [HR.out]), hS.b⟩
    · have ht : l.take 100 = l := List.take_of_length_le (by omega)
      have HM0 : M = 0 := by have := HM.out; omega
      subst HM0
      rw [ht] at CJ
      have HRR := Lib.hid (show cleanL s = if 200 < (joinL l).length then ([], 3) else (joinL l, 0) from HVV.out)
      have hlr : (joinL l).length ≤ 900001 := by have := HJ.out; omega
      clear h1 ht HTJ
      generalize joinL l = r at *
      have zr := str_size r
      by_cases h2 : 200 < r.length
      · have HR := Lib.hid (show cleanL s = ([], 3) by rw [HRR.out, if_pos h2])
        have g2 : (200 : Int) < (r.length : Int) := by omega
        gi_wp2
        refine ⟨trivial, ?_⟩
        gi_at_call 62
        refine (callsIn_wide.2 CJ).mono ?_
        rintro e w2 ⟨rfl, b2⟩
        have hI2 := hI.below b2
        have hr2 := hI2.r
        have row2 := rowC_other (rowC_below HROW.out b2 (rowC_lt HROW.out)) ⟨w.heap.size, 0, none⟩ (.string (str r)) (by show w.heap.size + 2 ≠ w.heap.size; omega)
        have hK2 := Lib.hid (heap_own (b := w.heap.size) (v := .string (str r)) ((others_below b2).same _ _ HK.out rfl) rfl)
        have e12 : (w2.setCell ⟨w.heap.size, 0, none⟩ (.string (str r))).cell? ⟨w.heap.size + 1 + 1, 1, none⟩ = some (.int .i64 0) := (row_two row2).2.1
        have hI3 := hI2.setR r
        have r3 := hI3.r
        have hI4 : ClI w [] 0 ((w2.setCell ⟨w.heap.size, 0, none⟩ (.string (str r))).setCell ⟨w.heap.size, 0, none⟩ (.string ⟨#[]⟩)) := hI3.setR []
        have e4 := hI4.e
        clear row2 h2
        gi_wp2
        have hK3 : Hid _ := Lib.hid (heap_own (b := w.heap.size + 1) (v := .int .i64 3) (heap_own (b := w.heap.size) (v := .string ⟨#[]⟩) hK2.out rfl) rfl)
        have hS := (hI4.setE 3).put (.deferred none) (by have := HD.out; omega) hK3.out rfl
        have hv := hS.r.1
        have hv2 := hS.e.1
        refine ⟨by simp, .inl ⟨_, _, rfl, run_takeDeferred hK3.out, ?_⟩⟩
        exact ⟨.tuple #[.string (str []), .int .i64 3], by simp [results, Tryz.f44, go_sem, hv, hv2], ret2si (by rw [HR.out]) (by rw [HR.out]), hS.b⟩
      · have HR := Lib.hid (show cleanL s = (r, 0) by rw [HRR.out, if_neg h2])
        have g2 : ¬ ((200 : Int) < (r.length : Int)) := by omega
        have CC := fun w => clone_any (str r) (by rw [zr]; omega) w
        gi_wp2
        refine ⟨trivial, ?_⟩
        gi_at_call 62
        refine (callsIn_wide.2 CJ).mono ?_
        rintro e w2 ⟨rfl, b2⟩
        have hI2 := hI.below b2
        have hr2 := hI2.r
        have row2 := rowC_other (rowC_below HROW.out b2 (rowC_lt HROW.out)) ⟨w.heap.size, 0, none⟩ (.string (str r)) (by show w.heap.size + 2 ≠ w.heap.size; omega)
        have hK2 := Lib.hid (heap_own (b := w.heap.size) (v := .string (str r)) ((others_below b2).same _ _ HK.out rfl) rfl)
        have e12 : (w2.setCell ⟨w.heap.size, 0, none⟩ (.string (str r))).cell? ⟨w.heap.size + 1 + 1, 1, none⟩ = some (.int .i64 0) := (row_two row2).2.1
        have hI3 := hI2.setR r
        have r3 := hI3.r
        clear row2 h2
        gi_wp2
        refine ⟨trivial, ?_⟩
        gi_at_call 43
        refine (callsIn_wide.2 (CC _)).mono ?_
        rintro e w5 ⟨rfl, b5⟩
        have hI5 := hI3.below b5
        have r5 := hI5.r
        have hI6 := hI5.setR r
        have e6 := hI6.e
        have hK5 := Lib.hid ((others_below b5).same _ _ hK2.out rfl)
        gi_wp2
        have hK6 : Hid _ := Lib.hid (heap_own (b := w.heap.size + 1) (v := .int .i64 0) (heap_own (b := w.heap.size) (v := .string (str r)) hK5.out rfl) rfl)
        have hS := (hI6.setE 0).put (.deferred none) (by have := HD.out; omega) hK6.out rfl
        have hv := hS.r.1
        have hv2 := hS.e.1
        refine ⟨by simp, .inl ⟨_, _, rfl, run_takeDeferred hK6.out, ?_⟩⟩
        exact ⟨.tuple #[.string (str r), .int .i64 0], by simp [results, Tryz.f44, go_sem, hv, hv2], ret2si (by rw [HR.out]) (by rw [HR.out]), hS.b⟩
  case stop =>
    rintro D pre W hD hpre ⟨hall, hI⟩ hK
    have HD := Lib.hid hD
    have HR := Lib.hid (show cleanL s = ([], 71) by rw [HV.out, foldP_pre hpre hall]; rfl)
    clear hD hpre hall hit r0
    gi_wp2
    have hS := hI.put (.deferred none) (by have := HD.out; omega) hK rfl
    have hv := hS.r.1
    have hv2 := hS.e.1
    refine ⟨by simp, .inl ⟨_, _, rfl, run_takeDeferred hK, ?_⟩⟩
    exact ⟨.tuple #[.string (str []), .int .i64 71], by simp [results, Tryz.f44, go_sem, hv, hv2], ret2si (by rw [HR.out]) (by rw [HR.out]), hS.b⟩
end Go.Proofs.YtoallfcpnbhhiaaGreatDoor

