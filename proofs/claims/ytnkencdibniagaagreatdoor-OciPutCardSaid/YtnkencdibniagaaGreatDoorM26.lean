/- Merged: OdM, Bld, OdN. -/
import Derived.Test.YtnkencdibniagaaGreatDoorM25
import Derived.Test.YtnkencdibniagaaGreatDoorM21
import Derived.Great.BuildSlice
/- Layer 13: a descriptor without its platform. -/
namespace Go.Proofs.YtnkencdibniagaaGreatDoor
open Go.RowKit

set_option maxRecDepth 100000 in
set_option maxHeartbeats 8000000 in
theorem readPlain_any (x : JV) (w : World) (y : Option Addr) (m : Nat) (z : Option Addr) (n : Nat) (ho : okR x) (hE : Env2 w) (hH : HoldsC w (fun k => k < w.heap.size) x (.int .i64 x.kind) (.string (str x.text)) (.slice y x.items.length m) (.slice z x.keys.length n)) :
    Calls Tryz.prog 33 #[.agg (row4 x.kind (str x.text) y x.items.length m z x.keys.length n)] w fun e w' => ReadP eDes w (plainV x) e w' := by
  obtain ⟨W0, hW0⟩ : ∃ W0, W0 = (w.alloc (.cells (row4 x.kind (str x.text) y x.items.length m z x.keys.length n) 63)).alloc (.cells (encD zeroD) 28) := ⟨_, rfl⟩
  have s1 := size_alloc w (.cells (row4 x.kind (str x.text) y x.items.length m z x.keys.length n) 63)
  have Z0 : rowC W0 (w.heap.size + 1) (encD zeroD) 28 := by rw [hW0, ← s1]; exact rowC_new _ _ _
  have R0 : rowC W0 w.heap.size (row4 x.kind (str x.text) y x.items.length m z x.keys.length n) 63 := by rw [hW0]; exact rowC_alloc (rowC_new w _ _) _
  have B0 : Below w.heap.size w W0 := by rw [hW0]; exact ((Below.refl _ _).alloc (Nat.le_refl _) _).alloc (by omega) _
  have S0 : W0.heap.size = w.heap.size + 2 := by rw [hW0, size_alloc, s1]
  have CD := readDescriptor_any x W0 y m z n ho (hE.below B0) (HoldsC.mono (fun k hk _ => by show k < W0.heap.size; have hk : k < w.heap.size := hk; omega) _ _ _ _ _ (HoldsC.far hH B0))
  obtain ⟨o, ho_⟩ : ∃ o, o = plainV x := ⟨_, rfl⟩
  rw [← ho_]
  have HOO := Lib.hid ho_
  have HW0 := Lib.hid hW0
  have HR0 := Lib.hid R0
  have HZ0 := Lib.hid Z0
  have HB0 := Lib.hid B0
  have HI := Lib.hid info_V
  have HIP := Lib.hid info_P
  have HID := Lib.hid (fun (d : DV) (h : goodD d) => show (Tryz.prog.info? 28).map (·.size) = some (encD d).size by rw [encD_size d h]; exact info_D)
  have HSZ := Lib.hid (fun (d : DV) (h : goodD d) => show (encD zeroD).size = (encD d).size by rw [encD_size d h]; rfl)
  clear hW0 R0 B0 Z0 ho hE hH ho_
  go_enter Tryz.func33, Tryz.ntmps33
  go_upto_region 1 with (fail)
  rw [show (w.alloc (.cells (row4 x.kind (str x.text) y x.items.length m z x.keys.length n) 63)).alloc (.cells #[.string ⟨#[]⟩, .int .u8 0, .int .u8 0, .int .u8 0, .int .u8 0, .int .u8 0, .int .u8 0, .int .u8 0, .int .u8 0, .int .u8 0, .int .u8 0, .int .u8 0, .int .u8 0, .int .u8 0, .int .u8 0, .int .u8 0, .int .u8 0, .int .u8 0, .int .u8 0, .int .u8 0, .int .u8 0, .int .u8 0, .int .u8 0, .int .u8 0, .int .u8 0, .int .u8 0, .int .u8 0, .int .u8 0, .int .u8 0, .int .u8 0, .int .u8 0, .int .u8 0, .int .u8 0, .int .i64 0, .string ⟨#[]⟩, .string ⟨#[]⟩] 28) = W0 from HW0.out.symm]
  go_upto_region 2 with (first
    | ((with_reducible show wpList _ _ _ (⟨some 7, .load _ _, _, _, _, _⟩ :: _) _ _); refine wpList_load_row rfl 63 _ rfl w.heap.size rfl 63 (row4 x.kind (str x.text) y x.items.length m z x.keys.length n) (0, 0) _ HR0.out Tryz.underlying63 rfl HI.out ?_)
    | (go_at_call 42; ((with_reducible refine CD.mono ?_); rintro e w2 ⟨d, tv, ok, rfl, ⟨rfl, hl⟩, hor, hb⟩; have HOR := Lib.hid hor; have HB := Lib.hid hb; have HG := Lib.hid hl; clear hor hb hl CD))
    | ((with_reducible show wpList _ _ _ (⟨none, .store _ (.tmp 4) _, _, _, _, _⟩ :: _) _ _); refine wpList_store_last rfl 28 _ _ rfl w2.heap.size (encD d) rfl rfl 28 (encD zeroD) rfl (HID.out d HG.out) (HSZ.out d HG.out) (encD_one _) ?_))
  obtain ⟨W2, hW2⟩ : ∃ W2, W2 = w2.alloc (.cells (encD d) 28) := ⟨_, rfl⟩
  rw [← hW2]
  have s2 := HB.out.size
  have D2 : Hid (rowC W2 w2.heap.size (encD d) 28) := Lib.hid (by rw [hW2]; exact rowC_new _ _ _)
  have B2 : Hid (Below w.heap.size w W2) := Lib.hid (by rw [hW2]; exact (HB0.out.trans (HB.out.mono (by omega))).alloc (by omega) _)
  have Z2 : Hid (rowC W2 (w.heap.size + 1) (encD zeroD) 28) := Lib.hid (by rw [hW2]; exact rowC_alloc (rowC_below HZ0.out HB.out (by omega)) _)
  have HTH := Lib.hid (row_there D2.out 34 2 (by rw [encD_size _ HG.out]; decide))
  clear hW2
  go_upto_region 3 with (first
    | ((with_reducible show wpList _ _ _ (⟨some 11, .build _ _, _, _, _, _⟩ :: _) _ _); refine wpList_build_as rfl 26 _ rfl (encP ([], [])) (by kernel_rfl) ?_)
    | ((with_reducible show wpList _ _ _ (⟨none, .store _ (.tmp 12) _, _, _, _, _⟩ :: _) _ _); refine wpList_store_mid rfl 26 _ _ rfl w2.heap.size 34 (encP ([], [])) rfl rfl HTH.out HIP.out (encP_one _) ?_))
  obtain ⟨W3, hW3⟩ : ∃ W3, W3 = W2.setCells w2.heap.size 34 (encP ([], [])).toList := ⟨_, rfl⟩
  rw [← hW3]
  have D3 : Hid (rowC W3 w2.heap.size (encD d.plain) 28) := Lib.hid (by rw [hW3]; obtain ⟨d1, d2, d3, d4, d5⟩ := d; exact rowC_plat (p := ([], [])) D2.out HG.out.1)
  have B3 : Hid (Below w.heap.size w W3) := Lib.hid (by rw [hW3]; exact below_setCells (by omega) _ _ B2.out)
  have Z3 : Hid (rowC W3 (w.heap.size + 1) (encD zeroD) 28) := Lib.hid (by rw [hW3]; exact rowC_setCells_other (by omega) _ _ Z2.out)
  have G3 : Hid (goodD d.plain) := Lib.hid ⟨HG.out.1, HG.out.2.1, by simp [DV.plain], by simp [DV.plain]⟩
  have e0 : Hid (o = some d.plain ∧ ok = true ∨ o = none ∧ ok = false) := Lib.hid (by
    rw [HOO.out]
    unfold plainV
    rcases HOR.out with ⟨h, hk⟩ | ⟨h, hk⟩
    · rw [h]; exact .inl ⟨rfl, hk⟩
    · rw [h]; exact .inr ⟨rfl, hk⟩)
  clear hW3
  generalize d.plain = dp at *
  go_wp2_with (first
    | ((with_reducible show wpList _ _ _ (⟨some 13, .load _ _, _, _, _, _⟩ :: _) _ _); refine wpList_load_row rfl 28 _ rfl w2.heap.size rfl 28 (encD dp) (0, 0) _ D3.out Tryz.underlying28 rfl (HID.out _ G3.out) ?_)
    | ((with_reducible show wpList _ _ _ (⟨none, .store _ (.tmp 2) _, _, _, _, _⟩ :: _) _ _); refine wpList_store_row rfl 28 _ _ rfl (w.heap.size + 1) (encD dp) rfl rfl 28 _ Z3.out (HID.out _ G3.out) (HSZ.out _ G3.out) (encD_one _) ?_))
  refine bodyPost_ret (results_row_tmp rfl _ _ (w.heap.size + 1) 28 (encD dp) _ rfl (rowC_setRow Z3.out _) Tryz.underlying28 rfl (HID.out _ G3.out) (.bool ok) rfl) rfl ?_
  exact ⟨dp, _, ok, rfl, ⟨rfl, G3.out⟩, e0.out, below_setRow B3.out (by omega) _⟩
theorem rd_pln : RdF eDes plainV 33 #[] (fun _ => True) where
  enter := enter_pln
  stay := fun _ _ _ _ => trivial
  call := fun x w y m z n ho hE _ hH => readPlain_any x w y m z n ho hE hH
end Go.Proofs.YtnkencdibniagaaGreatDoor

/- Generic: a slice literal of one row. -/
namespace Go.Proofs.YtnkencdibniagaaGreatDoor
open Go.RowKit

theorem foldl_set : ∀ (l : List Value) (k : Nat) (base : Array Value), k + l.length ≤ base.size →
    ((l.zipIdx k).foldl (fun (a : Array Value) (p : Value × Nat) => a.setIfInBounds (0 + p.2) p.1) base).size = base.size ∧
    ∀ i, ((l.zipIdx k).foldl (fun (a : Array Value) (p : Value × Nat) => a.setIfInBounds (0 + p.2) p.1) base)[i]? = if k ≤ i ∧ i < k + l.length then l[i - k]? else base[i]?
  | [], k, base, _ => by
    refine ⟨rfl, fun i => ?_⟩
    rw [if_neg (by rw [List.length_nil]; omega)]
    rfl
  | c :: l, k, base, h => by
    rw [List.length_cons] at h
    have ih := foldl_set l (k + 1) (base.setIfInBounds (0 + k) c) (by rw [Array.size_setIfInBounds]; omega)
    rw [List.zipIdx_cons, List.foldl_cons]
    refine ⟨ih.1.trans (Array.size_setIfInBounds), fun i => ?_⟩
    rw [ih.2 i, List.length_cons]
    by_cases h1 : k + 1 ≤ i ∧ i < k + 1 + l.length
    · rw [if_pos h1, if_pos (by omega), show i - k = (i - (k + 1)) + 1 by omega, List.getElem?_cons_succ]
    · rw [if_neg h1]
      by_cases h2 : i = k
      · subst h2
        rw [if_pos (by omega), Nat.sub_self, List.getElem?_cons_zero, Nat.zero_add, Array.getElem?_setIfInBounds_self_of_lt (by omega)]
      · rw [if_neg (by omega), Nat.zero_add, Array.getElem?_setIfInBounds_ne (by omega)]
theorem fill_whole (cs base : Array Value) (h : base.size = cs.size) : cs.zipIdx.foldl (fun (a : Array Value) (p : Value × Nat) => a.setIfInBounds (0 + p.2) p.1) base = cs := by
  have h1 := foldl_set cs.toList 0 base (by simp [h])
  have e : cs.zipIdx.foldl (fun (a : Array Value) (p : Value × Nat) => a.setIfInBounds (0 + p.2) p.1) base = (cs.toList.zipIdx 0).foldl (fun (a : Array Value) (p : Value × Nat) => a.setIfInBounds (0 + p.2) p.1) base := by
    rw [← Array.foldl_toList, Array.toList_zipIdx]
  rw [e]
  apply Array.ext_getElem?
  intro i
  rw [h1.2 i]
  by_cases hi : i < cs.size
  · rw [if_pos (by simp; omega), Nat.sub_zero, Array.getElem?_toList]
  · rw [if_neg (by simp; omega), Array.getElem?_eq_none (by omega), Array.getElem?_eq_none (by omega)]
theorem wpList_oneR {P : Program} {ops : Array Oper} {rest : List Oper} {o : Oper} {a : Act} {w : World} {Q : Exit → Act → World → Prop} (hg : o.guard = none) (t e : TypeId) (n : Nat) (x : Operand) (ho : o.op = .buildSlice t 1 #[(0, x)])
    (cells : Array Value) (hx : a.eval x = .agg cells) (ie : TypeInfo) (z : Value) (hu : P.underlying t = some (.slice e)) (hie : P.info? e = some ie) (hz : ie.zero = some z) (hs : ie.size = n) (hn : cells.size = n) (hpos : 0 < n) (hsm : n ≤ 1000)
    (h : wpList P ops Q rest (a.put o.dst (.slice (some ⟨w.heap.size, 0, none⟩) 1 1)) (w.alloc (.cells cells e))) : wpList P ops Q (o :: rest) a w := by
  refine wpList_buildSlice hg t e 1 _ ho cells ie z hu hie hz (by omega) (by omega) ?_ h
  have e1 : (Array.map (fun (x : Nat × Operand) => (x.1, a.eval x.2)) #[(0, x)]).toList = [(0, .agg cells)] := by
    simp [hx]
  show Instr.fill _ _ (Array.map (fun (x : Nat × Operand) => (x.1, a.eval x.2)) #[(0, x)]).toList = some cells
  rw [e1]
  have hb : ((Array.range (1 * ie.size)).map (z.cells[· % z.cells.size]!)).size = cells.size := by simp [hs, hn]
  have hv : (Value.agg cells).cells = cells := rfl
  unfold Instr.fill
  simp only [Nat.zero_mul, hv]
  rw [if_neg (by simp [hs, hn])]
  unfold Instr.fill
  exact congrArg some (fill_whole cells _ hb)
end Go.Proofs.YtnkencdibniagaaGreatDoor

/- Layer 13: a list, each of which is read. -/
namespace Go.Proofs.YtnkencdibniagaaGreatDoor
open Go.RowKit

theorem flat_at {α : Type} {enc : α → List Value} {n : Nat} : ∀ (l : List α), (∀ d ∈ l, (enc d).length = n) → ∀ (i : Nat) (d : α) (j : Nat) (u : Value), l[i]? = some d → (enc d)[j]? = some u → (l.flatMap enc)[n * i + j]? = some u
  | [], _, i, d, j, u, hi, _ => by simp at hi
  | e :: l, h, 0, d, j, u, hi, hj => by
    simp at hi
    subst hi
    rw [List.flatMap_cons, Nat.mul_zero, Nat.zero_add, List.getElem?_append_left (List.getElem?_eq_some_iff.1 hj).1]
    exact hj
  | e :: l, h, i + 1, d, j, u, hi, hj => by
    have he := h e (by simp)
    rw [List.flatMap_cons, List.getElem?_append_right (by rw [he, Nat.mul_succ]; omega), he, show n * (i + 1) + j - n = n * i + j by rw [Nat.mul_succ]; omega]
    exact flat_at l (fun d hd => h d (by simp [hd])) i d j u (by simpa using hi) hj
theorem rows_own {α : Type} {enc : α → Array Value} {n : Nat} {good : α → Prop} {w : World} {bL : Nat} {T : TypeId} {I : Value} {acc : List α} (h : w.ownsRow bL T n I acc.length (acc.flatMap fun d => (enc d).toList)) (hg : ∀ d ∈ acc, good d ∧ (enc d).size = n) :
    RowsE enc n good w (fun k => bL ≤ k) acc I := by
  rcases h.2 with ⟨hv, hn⟩ | ⟨g, cap, cur, hv, hb, _⟩
  · exact .inl ⟨hv, List.eq_nil_of_length_eq_zero hn⟩
  · refine .inr ⟨⟨g, 0, none⟩, cap, hv, fun i d hi => ?_⟩
    have hm := hg d (List.mem_of_getElem? hi)
    refine ⟨hb, hm.1, fun j u hj => ?_⟩
    have := h.cells (g := g) (by rw [hv]; rfl) (n * i + j) u (flat_at acc (fun d hd => by have := (hg d hd).2; simpa using this) i d j u hi hj)
    exact this
theorem mapO_snoc {α : Type} (f : JV → Option α) : ∀ (l : List JV) (x : JV) (acc : List α) (a : α), mapO f l = some acc → f x = some a → mapO f (l ++ [x]) = some (acc ++ [a])
  | [], x, acc, a, h, hx => by
    rw [mapO] at h
    injection h with h
    subst h
    rw [List.nil_append, mapO, hx, mapO]
    rfl
  | y :: l, x, acc, a, h, hx => by
    rw [mapO] at h
    cases hy : f y with
    | none => rw [hy] at h; cases h
    | some b =>
      rw [hy] at h
      cases hr : mapO f l with
      | none => rw [hr] at h; cases h
      | some r =>
        rw [hr] at h
        injection h with h
        subst h
        rw [List.cons_append, mapO, hy, mapO_snoc f l x r a hr hx]
        rfl
theorem mapO_fail {α : Type} (f : JV → Option α) : ∀ (l : List JV) (i : Nat) (x : JV), l[i]? = some x → f x = none → mapO f l = none
  | [], i, x, h, _ => by simp at h
  | y :: l, 0, x, h, hx => by
    simp at h
    subst h
    rw [mapO, hx]
  | y :: l, i + 1, x, h, hx => by
    rw [mapO, mapO_fail f l i x (by simpa using h) hx]
    cases f y <;> rfl
theorem okR.mem {v x : JV} (h : okR v) (hm : x ∈ v.items) : okR x := by
  obtain ⟨k, t, items, keys⟩ := v
  exact h.item hm
theorem items_at {w : World} {x : JV} {y : Option Addr} {m : Nat} {z : Option Addr} {n : Nat} (hH : HoldsC w (fun k => k < w.heap.size) x (.int .i64 x.kind) (.string (str x.text)) (.slice y x.items.length m) (.slice z x.keys.length n)) :
    ∀ i xv, x.items[i]? = some xv → ∃ ad a' b' c' d', y = some ad ∧ ad.block < w.heap.size ∧ at4 w (ad.add (i * 4)) a' b' c' d' ∧ HoldsC w (fun k => k < w.heap.size) xv a' b' c' d' := by
  obtain ⟨kk, t, items, keys⟩ := x
  obtain ⟨_, _, _, ⟨x1, c1, e1, hit⟩, _⟩ := hH.opens
  change Value.slice y items.length m = .slice x1 items.length c1 at e1
  injection e1 with e1 _ e2
  subst e1
  exact hit
/-- What a list has gathered. -/
def LsI {α : Type} (enc : α → Array Value) (n : Nat) (good : α → Prop) (T : TypeId) (f : JV → Option α) (items : List JV) (bL j : Nat) (s : Value) (w : World) : Prop :=
  ∃ acc : List α, mapO f (items.take j) = some acc ∧ acc.length = j ∧ (∀ d ∈ acc, good d ∧ (enc d).size = n) ∧ w.ownsRow bL T n s j (acc.flatMap fun d => (enc d).toList)
theorem enter_lsdes (args : Array Value) (w : World) : (callFunc 78 args).run Tryz.prog w = .ok (.enter 78 args) w := by kernel_rfl
theorem info_des3 : (Tryz.prog.info? 28).map (fun i => (i.zero, i.size, i.bytes)) = some (some (.agg #[.string ⟨#[]⟩, .int .u8 0, .int .u8 0, .int .u8 0, .int .u8 0, .int .u8 0, .int .u8 0, .int .u8 0, .int .u8 0, .int .u8 0, .int .u8 0, .int .u8 0, .int .u8 0, .int .u8 0, .int .u8 0, .int .u8 0, .int .u8 0, .int .u8 0, .int .u8 0, .int .u8 0, .int .u8 0, .int .u8 0, .int .u8 0, .int .u8 0, .int .u8 0, .int .u8 0, .int .u8 0, .int .u8 0, .int .u8 0, .int .u8 0, .int .u8 0, .int .u8 0, .int .u8 0, .int .i64 0, .string ⟨#[]⟩, .string ⟨#[]⟩]), 36, 88) := by kernel_rfl
set_option maxRecDepth 100000 in
set_option maxHeartbeats 16000000 in
theorem list_des {f : JV → Option (DV)} {fn : FuncId} {lb : Array Value} {inv : World → Prop} (R : RdF eDes f fn lb inv) (bl : Nat) (x : JV) (w : World) (y : Option Addr) (m : Nat) (z : Option Addr) (n : Nat) (ho : okR x) (hE : Env2 w) (hi : inv w) (hB : w.cell? ⟨bl, 0, none⟩ = some (.func (.func fn) #[] lb)) (hH : HoldsC w (fun k => k < w.heap.size) x (.int .i64 x.kind) (.string (str x.text)) (.slice y x.items.length m) (.slice z x.keys.length n)) :
    Calls Tryz.prog 78 #[.agg (row4 x.kind (str x.text) y x.items.length m z x.keys.length n), .pointer (some ⟨bl, 0, none⟩)] w fun e w' => ReadP eDess w (listV f x) e w' := by
  obtain ⟨W0, hW0⟩ : ∃ W0, W0 = w.alloc (.cells (row4 x.kind (str x.text) y x.items.length m z x.keys.length n) 63) := ⟨_, rfl⟩
  have R0 : rowC W0 w.heap.size (row4 x.kind (str x.text) y x.items.length m z x.keys.length n) 63 := by rw [hW0]; exact rowC_new w _ _
  have B0 : Below w.heap.size w W0 := by rw [hW0]; exact (Below.refl _ _).alloc (Nat.le_refl _) _
  have S0 : W0.heap.size = w.heap.size + 1 := by rw [hW0, size_alloc]
  obtain ⟨o, ho_⟩ : ∃ o, o = listV f x := ⟨_, rfl⟩
  rw [← ho_]
  have hEn := R.enter
  have q0 : W0.cell? ⟨w.heap.size, 0, none⟩ = some (.int .i64 x.kind) := rowC_cell R0 0
  have HOO := Lib.hid ho_
  have HW0 := Lib.hid hW0
  have HR0 := Lib.hid R0
  have HB0 := Lib.hid B0
  have HI := Lib.hid info_V
  have HOR := Lib.hid ho
  have HE := Lib.hid hE
  have HINV := Lib.hid hi
  have HR := Lib.hid R
  have HBL := Lib.hid hB
  have HHV := Lib.hid hH
  clear hW0 R0 B0 ho hE hi R hH ho_ hB
  by_cases h5 : x.kind = 5
  rotate_left
  · have e0 : Hid (o = none) := Lib.hid (by rw [HOO.out]; unfold listV; rw [if_neg h5])
    go_enter Tryz.func78, Tryz.ntmps78
    go_upto_region 1 with (fail)
    rw [show w.alloc (.cells (row4 x.kind (str x.text) y x.items.length m z x.keys.length n) 63) = W0 from HW0.out.symm]
    go_wp2
    go_ret2
    rw [e0.out]
    exact ⟨[], _, false, rfl, .inl ⟨rfl, rfl⟩, .inr ⟨rfl, rfl⟩, HB0.out⟩
  have HG : Hid (o = mapO f x.items) := Lib.hid (by rw [HOO.out]; unfold listV; rw [if_pos h5])
  have hit : ∀ i xv, x.items[i]? = some xv → ∃ ad a' b' c' d', y = some ad ∧ ad.block < w.heap.size ∧ at4 w (ad.add (i * 4)) a' b' c' d' ∧ HoldsC w (fun k => k < w.heap.size) xv a' b' c' d' := items_at HHV.out
  have HIT := Lib.hid hit
  have hil : x.items.length ≤ 65536 := by
    obtain ⟨kk, t, items, keys⟩ := x
    have h1 := HOR.out.1
    rw [okJ] at h1
    exact h1.2.1.1
  rw [h5] at q0
  obtain ⟨items, hitm⟩ : ∃ items, items = x.items := ⟨_, rfl⟩
  have q2 : W0.cell? ⟨w.heap.size, 2, none⟩ = some (.slice y items.length m) := by rw [hitm]; exact rowC_cell HR0.out 2
  have HMEM := Lib.hid (fun xv (h : xv ∈ items) => HOR.out.mem (x := xv) (by rw [← hitm]; exact h))
  rw [← hitm] at HG HIT hil
  clear hit HOO h5 hitm
  obtain ⟨i0, hi0, hz0, hz1, hz2⟩ := info_parts info_des3
  go_enter Tryz.func78, Tryz.ntmps78
  go_upto_region 1 with (fail)
  rw [show w.alloc (.cells (row4 x.kind (str x.text) y x.items.length m z x.keys.length n) 63) = W0 from HW0.out.symm]
  go_wp2
  go_loopg [3, 15] items.length (fun gk s3 s15 wr => ∃ j : Nat, s15 = .int .i64 (j : Int) ∧ Hid (gk = items.length - j) ∧ Hid (j ≤ items.length) ∧ Hid (LsI encD 36 goodD 28 f items W0.heap.size j s3 wr) ∧ Hid (Below W0.heap.size W0 wr))
  case atStart => exact ⟨0, rfl, Lib.hid rfl, Lib.hid (Nat.zero_le _), Lib.hid ⟨[], rfl, rfl, (fun _ h => (by cases h)), World.ownsRow_nil _ _ _ _⟩, Lib.hid (Below.refl _ _)⟩
  case round =>
    obtain ⟨j, rfl, HN, HNL, HM, HBW⟩ := hrel
    have sw := HBW.out.size
    have hbw : Below w.heap.size w wr := HB0.out.trans (HBW.out.mono (by omega))
    by_cases hj : j < items.length
    · have hj1 : (j : Int) < (items.length : Int) := by omega
      obtain ⟨xv, hxv⟩ : ∃ xv, items[j]? = some xv := ⟨_, List.getElem?_eq_getElem hj⟩
      obtain ⟨ad, a', b', c', d', rfl, hab, h4, hHx⟩ := HIT.out j xv hxv
      obtain ⟨acc, ha1, ha2, ha3, ho⟩ := HM.out
      obtain ⟨xi, ci, rfl⟩ := owns_form ho
      have h4r : at4 wr (ad.add (j * 4)) a' b' c' d' := fun q u hq => by
        have hc := h4 q u hq
        rw [World.cell?_of_block (w := w) (w' := wr) (hbw.block _ (by rw [add_block, add_block]; exact hab))]
        exact hc
      have hHr := HoldsC.far hHx hbw
      obtain ⟨rfl, rfl, ⟨p1, q1, rfl⟩, p2, q2', rfl⟩ := hHx.form
      obtain ⟨W1, hW1⟩ : ∃ W1, W1 = wr.alloc (.cells (row4 xv.kind (str xv.text) p1 xv.items.length q1 p2 xv.keys.length q2') 63) := ⟨_, rfl⟩
      have s1 : W1.heap.size = wr.heap.size + 1 := by rw [hW1]; exact size_alloc _ _
      have R1 : rowC W1 wr.heap.size (row4 xv.kind (str xv.text) p1 xv.items.length q1 p2 xv.keys.length q2') 63 := by rw [hW1]; exact rowC_new _ _ _
      have c1' : Below wr.heap.size wr W1 := by rw [hW1]; exact (Below.refl _ _).alloc (Nat.le_refl _) _
      have bw1 : Below w.heap.size w W1 := hbw.trans (c1'.mono (by omega))
      have hxm : xv ∈ items := List.mem_of_getElem? hxv
      have CR : Calls Tryz.prog fn (#[.agg (row4 xv.kind (str xv.text) p1 xv.items.length q1 p2 xv.keys.length q2')] ++ lb) W1 fun e w' => ReadP eDes W1 (f xv) e w' := HR.out.call xv W1 p1 q1 p2 q2' (HMEM.out xv hxm) (HE.out.below bw1) (HR.out.stay _ _ HINV.out bw1) (HoldsC.mono (fun k hk _ => by show k < W1.heap.size; have hk : k < w.heap.size := hk; omega) _ _ _ _ _ (HoldsC.far hHr (c1'.mono (by omega))))
      have qb : W1.cell? ⟨bl, 0, none⟩ = some (.func (.func fn) #[] lb) := cell_chg (Chg.of_below (s := no) bw1) HBL.out id
      have HA1 := Lib.hid ha1
      have HA2 := Lib.hid ha2
      have HA3 := Lib.hid ha3
      have HO := Lib.hid ho
      have HXV := Lib.hid hxv
      have HR1 := Lib.hid R1
      have HC1 := Lib.hid c1'
      have HW1 := Lib.hid hW1
      have H4R := Lib.hid h4r
      have HBWr := Lib.hid hbw
      have hjm : j ≤ 65536 := by omega
      clear h4r h4 hHx hHr ho ha1 ha2 ha3 hxv R1 c1' hW1 hxm HM hj bw1 hbw
      go_upto_region 6 with (first
        | ((with_reducible show wpList _ _ _ (⟨some 18, .load _ _, _, _, _, _⟩ :: _) _ _); refine wpList_load_at rfl 63 _ rfl (ad.add (j * 4)) rfl [.int .i64 xv.kind, .string (str xv.text), .slice p1 xv.items.length q1, .slice p2 xv.keys.length q2'] _ H4R.out Tryz.underlying63 rfl HI.out ?_)
        | ((with_reducible show wpList _ _ _ (⟨none, .store _ (.tmp 6) _, _, _, _, _⟩ :: _) _ _); refine wpList_store_last rfl 63 _ _ rfl wr.heap.size (row4 xv.kind (str xv.text) p1 xv.items.length q1 p2 xv.keys.length q2') rfl rfl 63 zeroV4 rfl HI.out rfl (row4_all _ _ _ _ _ _ _ _) ?_))
      rw [← HW1.out]
      go_upto_region 7 with (first
        | ((with_reducible show wpList _ _ _ (⟨some 21, .load _ _, _, _, _, _⟩ :: _) _ _); refine wpList_load_row rfl 63 _ rfl wr.heap.size rfl 63 (row4 xv.kind (str xv.text) p1 xv.items.length q1 p2 xv.keys.length q2') (0, 0) _ HR1.out Tryz.underlying63 rfl HI.out ?_)
        | ((with_reducible refine CR.mono ?_); rintro e w3 ⟨d, tv, ok, rfl, ⟨rfl, hgd⟩, hor, hb3⟩; have HGD := Lib.hid hgd; have HOR3 := Lib.hid hor; have HB3 := Lib.hid hb3; have HSZ : Hid ((encD d).size = 36) := Lib.hid (encD_size d hgd); have s3 := hb3.size; clear hgd hor hb3 CR)
        | ((with_reducible show wpList _ _ _ (⟨none, .store _ (.tmp 7) _, _, _, _, _⟩ :: _) _ _); refine wpList_store_last rfl 28 _ _ rfl w3.heap.size (encD d) rfl rfl 28 (encD zeroD) rfl (by rw [HSZ.out]; exact info_D) (by rw [HSZ.out]; rfl) (encD_one _) ?_))
      obtain ⟨W4, hW4⟩ : ∃ W4, W4 = w3.alloc (.cells (encD d) 28) := ⟨_, rfl⟩
      rw [← hW4]
      have s4 : W4.heap.size = w3.heap.size + 1 := by rw [hW4]; exact size_alloc _ _
      have R4 : Hid (rowC W4 w3.heap.size (encD d) 28) := Lib.hid (by rw [hW4]; exact rowC_new _ _ _)
      have c14 : Hid (Below W1.heap.size W1 W4) := Lib.hid (by rw [hW4]; exact HB3.out.alloc (by omega) _)
      have HOW : Hid (W4.ownsRow W0.heap.size 28 36 (.slice xi j ci) j (acc.flatMap fun d => (encD d).toList)) := Lib.hid ((Chg.of_below (s := no) c14.out).owns ((Chg.of_below (s := no) HC1.out).owns HO.out (fun _ _ h => h)) (fun _ _ h => h))
      have B4 : Hid (Below W0.heap.size W0 W4) := Lib.hid ((HBW.out.trans (HC1.out.mono (by omega))).trans (c14.out.mono (by omega)))
      clear hW4
      rcases HOR3.out with ⟨hx, hok⟩ | ⟨hx, hok⟩
      rotate_left
      · subst hok
        have e0 : Hid (o = none) := Lib.hid (by rw [HG.out]; exact mapO_fail f items j xv HXV.out hx)
        go_wp2
        go_ret2
        rw [e0.out]
        exact ⟨[], _, false, rfl, .inl ⟨rfl, rfl⟩, .inr ⟨rfl, rfl⟩, HB0.out.trans (B4.out.mono (by omega))⟩
      subst hok
      have HX := Lib.hid hx
      have HN1 : Hid ((encD d).toList.length = 1 * 36) := Lib.hid (by rw [Array.length_toList, HSZ.out])
      have H1 := Lib.hid (show ∀ u ∈ (encD d).toList, u.oneCell' = true from fun u hu => by
        have := Array.all_eq_true_iff_forall_mem.1 (show (encD d).all (·.oneCell') = true from (encD_one _)) u (by simpa using hu)
        exact this)
      clear hx
      go_upto_region 10 with (first
        | ((with_reducible show wpList _ _ _ (⟨some 28, .load _ _, _, _, _, _⟩ :: _) _ _); refine wpList_load_row rfl 28 _ rfl w3.heap.size rfl 28 (encD d) (0, 0) _ R4.out Tryz.underlying28 rfl (by rw [HSZ.out]; exact info_D) ?_)
        | ((with_reducible show wpList _ _ _ (⟨some 29, .buildSlice _ _ _, _, _, _, _⟩ :: _) _ _); refine wpList_oneR rfl 29 28 36 _ rfl (encD d) rfl i0 _ Tryz.underlying29 hi0 hz0 hz1 HSZ.out (by decide) (by decide) ?_)
        | ((with_reducible show wpList _ _ _ (⟨some 30, _, _, _, _, _⟩ :: _) _ _); refine wpList_append_lies _ rfl _ _ 29 rfl W0.heap.size 28 i0 _ 36 88 Tryz.underlying29 hi0 hz0 hz1 hz2 (by rfl) (by decide) (.slice xi j ci) j (acc.flatMap fun d => (encD d).toList) rfl (HOW.out.alloc _) ⟨W4.heap.size, 0, none⟩ 1 1 (encD d).toList rfl HN1.out (World.news_of_block (heap_alloc_new W4 _)) H1.out (by decide) (by unfold maxLen; omega) (by omega) (by rw [size_alloc]; omega) _ rfl ?_; intro g cap w7 hown7 hgrow7 hat7 hlt7; have HOW7 := Lib.hid hown7; have HG7 := Lib.hid hgrow7; clear hown7 hgrow7 hat7 hlt7))
      go_wp2
      go_roundg (items.length - (j + 1))
      case measure => rw [HN.out]; omega
      case rel =>
        refine ⟨j + 1, rfl, Lib.hid rfl, Lib.hid (by omega), Lib.hid ⟨acc ++ [d], ?_, ?_, ?_, ?_⟩, Lib.hid ?_⟩
        · rw [take_one HXV.out]
          exact mapO_snoc f _ _ _ _ HA1.out HX.out
        · rw [List.length_append, List.length_singleton, HA2.out]
        · intro d' hd'
          rcases List.mem_append.1 hd' with hd' | hd'
          · exact HA3.out d' hd'
          · rw [List.mem_singleton.1 hd']
            exact ⟨HGD.out, HSZ.out⟩
        · rw [List.flatMap_append]
          have := HOW7.out
          simpa using this
        · exact (B4.out.alloc (by omega) _).grown HG7.out (by rw [size_alloc]; omega) (fun k hk => (HOW.out.lt k hk).1)
    · have hj1 : ¬ (j : Int) < (items.length : Int) := by omega
      obtain ⟨acc, ha1, ha2, ha3, ho⟩ := HM.out
      have hln : items.take j = items := List.take_of_length_le (by omega)
      rw [hln] at ha1
      obtain ⟨xi, ci, rfl⟩ := owns_form ho
      have e0 : Hid (o = some acc) := Lib.hid (by rw [HG.out, ha1])
      rw [← ha2] at ho
      have HRW := Lib.hid (rows_own (enc := encD) (good := goodD) ho ha3)
      have HBWr := Lib.hid hbw
      clear hbw ho ha1 ha3 HM hln hj
      go_wp2
      go_ret2
      rw [e0.out]
      exact ⟨acc, _, true, rfl, (by rw [← ha2]; exact eDess.mono HRW.out (fun k hk hlt => ⟨by have hk : W0.heap.size ≤ k := hk; omega, hlt⟩)), .inl ⟨rfl, rfl⟩, HBWr.out⟩
theorem rd_lsdes {f : JV → Option (DV)} {fn : FuncId} {lb : Array Value} {inv : World → Prop} (R : RdF eDes f fn lb inv) (bl : Nat) : RdF eDess (listV f) 78 #[.pointer (some ⟨bl, 0, none⟩)] (fun w => inv w ∧ w.cell? ⟨bl, 0, none⟩ = some (.func (.func fn) #[] lb)) where
  enter := enter_lsdes
  stay := fun _ _ h hb => ⟨R.stay _ _ h.1 hb, cell_chg (Chg.of_below (s := no) hb) h.2 id⟩
  call := fun x w y m z n ho hE hi hH => list_des R bl x w y m z n ho hE hi.1 hi.2 hH
end Go.Proofs.YtnkencdibniagaaGreatDoor

