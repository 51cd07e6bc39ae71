/- Merged: OdF, OcS, OdG. -/
import Derived.Test.YtnkencdibniagaaGreatDoorM18
import Derived.Test.YtnkencdibniagaaGreatDoorM21
import Derived.Test.YtnkencdibniagaaGreatDoorM22
import Derived.Test.YtnkencdibniagaaGreatDoorM10
import Derived.Test.YtnkencdibniagaaGreatDoorM03
import Derived.Test.YtnkencdibniagaaGreatDoorM17
/- Layer 13: what a function that reads a value answers. -/
namespace Go.Proofs.YtnkencdibniagaaGreatDoor
open Go.RowKit

/-- How values of a type lie in memory. -/
structure En (α : Type) where
  at_ : World → (Nat → Prop) → α → Value → Prop
  zero : α
  chg : ∀ {s F : Nat → Prop} {w w' : World} {a : α} {t : Value}, at_ w F a t → Chg s w w' → (∀ k, F k → ¬ s k) → at_ w' F a t
  mono : ∀ {F G : Nat → Prop} {w : World} {a : α} {t : Value}, at_ w F a t → (∀ k, F k → k < w.heap.size → G k) → at_ w G a t
/-- Values that are all in their cells. -/
def En.plain {α : Type} (enc : α → Value) (good : α → Prop) (z : α) : En α :=
  ⟨fun _ _ a t => t = enc a ∧ good a, z, fun h _ _ => h, fun h _ => h⟩
def encP (p : Bs × Bs) : Array Value := #[.string (str p.1), .string (str p.2)]
def encD (d : DV) : Array Value := #[.string (str d.media)] ++ cells8 d.dig ++ #[.int .i64 d.size, .string (str d.os), .string (str d.arch)]
def eInt : En Int := En.plain (fun n => .int .i64 n) (fun _ => True) 0
def eTxt : En Bs := En.plain (fun s => .string (str s)) (fun s => s.length ≤ 281474976710656) []
def eDig : En Bs := En.plain (fun d => .agg (cells8 d)) (fun d => d.length = 32) zero32
def ePla : En (Bs × Bs) := En.plain (fun p => .agg (encP p)) (fun p => p.1.length ≤ 281474976710656 ∧ p.2.length ≤ 281474976710656) ([], [])
def goodD (d : DV) : Prop := d.dig.length = 32 ∧ d.media.length ≤ 281474976710656 ∧ d.os.length ≤ 281474976710656 ∧ d.arch.length ≤ 281474976710656
def zeroD : DV := ⟨[], zero32, 0, [], []⟩
def eDes : En DV := En.plain (fun d => .agg (encD d)) goodD zeroD
/-- What a reading answers. -/
def ReadP {α : Type} (E : En α) (w : World) (o : Option α) (e : Ending) (w' : World) : Prop :=
  ∃ a t ok, e = .returned (.tuple #[t, .bool ok]) ∧ E.at_ w' (fun k => w.heap.size ≤ k ∧ k < w'.heap.size) a t ∧ (o = some a ∧ ok = true ∨ o = none ∧ ok = false) ∧ Below w.heap.size w w'
/-- A value may be read: it is no longer, and no deeper, than memory takes. -/
def okR (v : JV) : Prop := okJ v ∧ hgJ v ≤ 65536
theorem getL_mem : ∀ {ks : List Bs} {xs : List JV} {key : Bs} {x : JV}, getL ks xs key = some x → x ∈ xs
  | [], _, _, _, h => by simp [getL] at h
  | _ :: _, [], _, _, h => by simp [getL] at h
  | k :: ks, y :: xs, key, x, h => by
    rw [getL] at h
    by_cases e : k = key
    · rw [if_pos e] at h
      injection h with h
      rw [h]
      simp
    · rw [if_neg e] at h
      exact List.mem_cons_of_mem _ (getL_mem h)
theorem okR.get {v x : JV} {key : Bs} (h : okR v) (hx : getV v key = some x) : okR x := by
  obtain ⟨k, t, items, keys⟩ := v
  unfold getV at hx
  split at hx
  · have hm : x ∈ items := getL_mem hx
    have h1 := h.1
    have h2 : hgL items ≤ 65536 := h.2
    rw [okJ] at h1
    have := hgL_mem hm
    exact ⟨okJL_mem h1.2.2 x hm, by omega⟩
  · cases hx
theorem okR.item {k : Int} {t : Bs} {items : List JV} {keys : List Bs} (h : okR (.mk k t items keys)) {x : JV} (hm : x ∈ items) : okR x := by
  have h1 := h.1
  have h2 : hgL items ≤ 65536 := h.2
  rw [okJ] at h1
  have := hgL_mem hm
  exact ⟨okJL_mem h1.2.2 x hm, by omega⟩
/-- A function that reads a value. -/
structure RdF {α : Type} (E : En α) (f : JV → Option α) (fn : FuncId) (lb : Array Value) (inv : World → Prop) : Prop where
  enter : ∀ args w1, (callFunc fn args).run Tryz.prog w1 = .ok (.enter fn args) w1
  stay : ∀ w w', inv w → Below w.heap.size w w' → inv w'
  call : ∀ (x : JV) (w : World) (y : Option Addr) (m : Nat) (z : Option Addr) (n : Nat), okR x → Env2 w → inv w → HoldsC w (fun k => k < w.heap.size) x (.int .i64 x.kind) (.string (str x.text)) (.slice y x.items.length m) (.slice z x.keys.length n) →
    Calls Tryz.prog fn (#[.agg #[.int .i64 x.kind, .string (str x.text), .slice y x.items.length m, .slice z x.keys.length n]] ++ lb) w fun e w' => ReadP E w (f x) e w'
theorem ReadP.out {α : Type} {E : En α} {w w0 : World} {o : Option α} {e : Ending} {w' : World} (h : ReadP E w o e w') (hb : Below w0.heap.size w0 w) (hs : w0.heap.size ≤ w.heap.size) : ReadP E w0 o e w' := by
  obtain ⟨a, t, ok, h1, h2, h3, h4⟩ := h
  exact ⟨a, t, ok, h1, E.mono h2 (fun k hk hlt => ⟨Nat.le_trans hs hk.1, hlt⟩), h3, hb.trans (h4.mono hs)⟩
/-- json.Int reads. -/
theorem enter_int (args : Array Value) (w : World) : (callFunc 74 args).run Tryz.prog w = .ok (.enter 74 args) w := by kernel_rfl
theorem enter_text (args : Array Value) (w : World) : (callFunc 81 args).run Tryz.prog w = .ok (.enter 81 args) w := by kernel_rfl
theorem rd_int : RdF eInt intV 74 #[] (fun _ => True) where
  enter := enter_int
  stay := fun _ _ _ _ => trivial
  call := fun x w y m z n ho hE _ _ => by
    refine (int_any x y x.items.length m z x.keys.length n (fun h3 => ?_) w hE).mono ?_
    · obtain ⟨k, t, items, keys⟩ := x
      have h1 := ho.1
      rw [okJ] at h1
      exact h1.1 h3
    · rintro e w' ⟨rfl, hb⟩
      cases h : intV x with
      | some n => exact ⟨n, _, true, rfl, ⟨rfl, trivial⟩, .inl ⟨rfl, rfl⟩, hb⟩
      | none => exact ⟨0, _, false, rfl, ⟨rfl, trivial⟩, .inr ⟨rfl, rfl⟩, hb⟩
theorem rd_text : RdF eTxt textV 81 #[] (fun _ => True) where
  enter := enter_text
  stay := fun _ _ _ _ => trivial
  call := fun x w y m z n _ _ _ hH => by
    have hl : x.text.length ≤ 281474976710656 := by
      obtain ⟨k, t, items, keys⟩ := x
      exact hH.opens.2.2.1
    refine (jtext_any x y x.items.length m z x.keys.length n w).mono ?_
    rintro e w' ⟨rfl, hb⟩
    unfold textV
    split
    · exact ⟨x.text, _, true, rfl, ⟨rfl, hl⟩, .inl ⟨rfl, rfl⟩, hb⟩
    · exact ⟨[], _, false, rfl, ⟨rfl, by simp⟩, .inr ⟨rfl, rfl⟩, hb⟩
end Go.Proofs.YtnkencdibniagaaGreatDoor

/- Layer 13, plain: what is parsed may be read. -/
namespace Go.Proofs.YtnkencdibniagaaGreatDoor
open Go.RowKit

mutual
theorem hg_deep : ∀ v : JV, may v → hgJ v ≤ deep v
  | .mk k t items keys, hm => by
    rw [hgJ, deep]
    by_cases h : k = 5 ∨ k = 6
    · rw [if_pos h]
      exact hg_deepL items (by rw [may] at hm; exact hm.1)
    · rw [if_neg h]
      rw [may] at hm
      rcases hm.2 with ⟨_, _, c, _⟩ | ⟨_, _, c, _⟩ | ⟨_, _, c, _⟩ | ⟨a, _⟩ | ⟨a, _⟩
      · subst c; rw [hgL]; omega
      · subst c; rw [hgL]; omega
      · subst c; rw [hgL]; omega
      · exact absurd (.inl a) h
      · exact absurd (.inr a) h
theorem hg_deepL : ∀ l : List JV, mayL l → hgL l ≤ deepL l + 1
  | [], _ => by rw [hgL]; omega
  | x :: l, hm => by
    rw [mayL] at hm
    have h1 := hg_deep x hm.1
    have h2 := hg_deepL l hm.2
    rw [hgL, deepL]
    omega
end
theorem okR_all {n : Nat} {l : Bs} {v : JV} {r : Bs} (hl : l.length ≤ 65536) (h : allP n l = some (.ok v r)) : okR v := by
  obtain ⟨h1, h2⟩ := all_ok h
  have := hg_deep v h1
  exact ⟨all_good hl h, by omega⟩
end Go.Proofs.YtnkencdibniagaaGreatDoor

/- Layer 13: a part of an object, as it is read. -/
namespace Go.Proofs.YtnkencdibniagaaGreatDoor
open Go.RowKit

/-- Rows of n cells, one behind the other. -/
def RowsE {α : Type} (enc : α → Array Value) (n : Nat) (good : α → Prop) (w : World) (F : Nat → Prop) (l : List α) (t : Value) : Prop :=
  (t = .slice none 0 0 ∧ l = []) ∨ ∃ (ad : Addr) (cap : Nat), t = .slice (some ad) l.length cap ∧ ∀ i d, l[i]? = some d → F ad.block ∧ good d ∧ ∀ j u, (enc d).toList[j]? = some u → w.cell? (ad.add (n * i + j)) = some u
def En.rows {α : Type} (enc : α → Array Value) (n : Nat) (good : α → Prop) (hn : ∀ d, good d → 0 < (enc d).size) : En (List α) where
  at_ := RowsE enc n good
  zero := []
  chg := fun {s F w w' l t} h hc hs => by
    rcases h with h | ⟨ad, cap, h1, h2⟩
    · exact .inl h
    · exact .inr ⟨ad, cap, h1, fun i d hi => ⟨(h2 i d hi).1, (h2 i d hi).2.1, fun j u hu => cell_chg hc ((h2 i d hi).2.2 j u hu) (by rw [add_block]; exact hs _ (h2 i d hi).1)⟩⟩
  mono := fun {F G w l t} h hs => by
    rcases h with h | ⟨ad, cap, h1, h2⟩
    · exact .inl h
    · refine .inr ⟨ad, cap, h1, fun i d hi => ⟨hs _ (h2 i d hi).1 ?_, (h2 i d hi).2⟩⟩
      have h0 := hn d (h2 i d hi).2.1
      have := World.block_lt_of_cell? w _ ((h2 i d hi).2.2 0 _ (by rw [Array.getElem?_toList]; exact Array.getElem?_eq_getElem h0))
      rwa [add_block] at this
theorem encD_size (d : DV) (h : goodD d) : (encD d).size = 36 := by
  unfold encD
  rw [Array.size_append, Array.size_append, cells8_size, h.1]
  rfl
theorem encD_one (d : DV) : (encD d).all (·.oneCell') = true := by
  unfold encD
  rw [Array.all_append, Array.all_append, cells8_one]
  simp [Value.oneCell']
theorem encP_one (p : Bs × Bs) : (encP p).all (·.oneCell') = true := by
  unfold encP
  simp [Value.oneCell']
def eDess : En (List DV) := En.rows encD 36 goodD (fun d h => by rw [encD_size d h]; decide)
def eDigs : En (List Bs) := En.rows cells8 32 (fun d => d.length = 32) (fun d h => by rw [cells8_size, h]; decide)
theorem info_D : (Tryz.prog.info? 28).map (·.size) = some 36 := by kernel_rfl
theorem info_P : (Tryz.prog.info? 26).map (·.size) = some 2 := by kernel_rfl
theorem info_G : (Tryz.prog.info? 24).map (·.size) = some 32 := by kernel_rfl
theorem partV_some {α : Type} {v x : JV} {key : Bs} {f : JV → Option α} (h : getV v key = some x) : partV v key f = f x := by unfold partV; rw [h]; rfl
theorem partV_none {α : Type} {v : JV} {key : Bs} {f : JV → Option α} (h : getV v key = none) : partV v key f = none := by unfold partV; rw [h]; rfl
set_option maxRecDepth 100000 in
set_option maxHeartbeats 8000000 in
theorem part_int {f : JV → Option (Int)} {fn : FuncId} {lb : Array Value} {inv : World → Prop} (R : RdF eInt f fn lb inv) {v : JV} (ho : okR v) (key : Bs) {w : World} {a b c d : Value} (hE : Env2 w) (hi : inv w) (hH : HoldsC w (fun k => k < w.heap.size) v a b c d) :
    Calls Tryz.prog 73 #[.agg #[a, b, c, d], .string (str key), .func (.func fn) #[] lb] w fun e w' => ReadP eInt w (partV v key f) e w' := by
  obtain ⟨rfl, rfl, ⟨x1, c1, rfl⟩, x2, c2, rfl⟩ := hH.form
  obtain ⟨W0, hW0⟩ : ∃ W0, W0 = w.alloc (.cells (row4 v.kind (str v.text) x1 v.items.length c1 x2 v.keys.length c2) 63) := ⟨_, rfl⟩
  have R0 : rowC W0 w.heap.size (row4 v.kind (str v.text) x1 v.items.length c1 x2 v.keys.length c2) 63 := by rw [hW0]; exact rowC_new w _ _
  have B0 : Below w.heap.size w W0 := by rw [hW0]; exact (Below.refl _ _).alloc (Nat.le_refl _) _
  have S0 : W0.heap.size = w.heap.size + 1 := by rw [hW0, size_alloc]
  have CG : Calls Tryz.prog 77 #[.agg (row4 v.kind (str v.text) x1 v.items.length c1 x2 v.keys.length c2), .string (str key)] W0 fun e w' => GetP W0 (getV v key) e w' := get_any ho.1 ho.2 key (w := W0) (HoldsC.mono (fun k hk _ => by show k < W0.heap.size; have hk : k < w.heap.size := hk; omega) _ _ _ _ _ (HoldsC.far hH B0))
  obtain ⟨o, ho_⟩ : ∃ o, o = partV v key f := ⟨_, rfl⟩
  rw [← ho_]
  have hEn := R.enter
  have HOO := Lib.hid ho_
  have HW0 := Lib.hid hW0
  have HR0 := Lib.hid R0
  have HB0 := Lib.hid B0
  have HI := Lib.hid info_V
  have HOR := Lib.hid ho
  have HE := Lib.hid hE
  have HINV := Lib.hid hi
  have HR := Lib.hid R
  clear hW0 R0 B0 ho hE hi R hH ho_
  go_enter Tryz.func73, Tryz.ntmps73
  go_upto_region 1 with (fail)
  rw [show w.alloc (.cells #[.int .i64 v.kind, .string (str v.text), .slice x1 v.items.length c1, .slice x2 v.keys.length c2] 63) = W0 from HW0.out.symm]
  go_upto_region 2 with (first
    | ((with_reducible show wpList _ _ _ (⟨some 10, .load _ _, _, _, _, _⟩ :: _) _ _); refine wpList_load_row rfl 63 _ rfl w.heap.size rfl 63 (row4 v.kind (str v.text) x1 v.items.length c1 x2 v.keys.length c2) (0, 0) _ HR0.out Tryz.underlying63 rfl HI.out ?_)
    | (go_at_call 77; ((with_reducible refine CG.mono ?_); rintro e w2 ⟨x, ok, y, m, z, n, rfl, hV, hor, hb2⟩; have HV := Lib.hid hV; have HB2 := Lib.hid hb2; have HX := Lib.hid hor; clear hV hb2 hor CG))
    | ((with_reducible show wpList _ _ _ (⟨none, .store _ (.tmp 8) _, _, _, _, _⟩ :: _) _ _); refine wpList_store_last rfl 63 _ _ rfl w2.heap.size (row4 x.kind (str x.text) y x.items.length m z x.keys.length n) rfl rfl 63 zeroV4 rfl HI.out rfl (row4_all _ _ _ _ _ _ _ _) ?_))
  obtain ⟨W2, hW2⟩ : ∃ W2, W2 = w2.alloc (.cells (row4 x.kind (str x.text) y x.items.length m z x.keys.length n) 63) := ⟨_, rfl⟩
  rw [← hW2]
  have R2 : Hid (rowC W2 w2.heap.size (row4 x.kind (str x.text) y x.items.length m z x.keys.length n) 63) := Lib.hid (by rw [hW2]; exact rowC_new _ _ _)
  have BB : Hid (Below w2.heap.size w2 W2) := Lib.hid (by rw [hW2]; exact (Below.refl _ _).alloc (Nat.le_refl _) _)
  have s2 := HB2.out.size
  have sb := BB.out.size
  have BT : Hid (Below w.heap.size w W2) := Lib.hid ((HB0.out.trans (HB2.out.mono (by omega))).trans (BB.out.mono (by omega)))
  clear hW2
  rcases HX.out with ⟨hx, hok⟩ | ⟨hx, hok, _⟩
  · subst hok
    have e0 : Hid (o = f x) := Lib.hid (by rw [HOO.out]; exact partV_some hx)
    have CR : Calls Tryz.prog fn (#[.agg (row4 x.kind (str x.text) y x.items.length m z x.keys.length n)] ++ lb) W2 fun e w' => ReadP eInt W2 (f x) e w' := HR.out.call x W2 y m z n (HOR.out.get hx) (HE.out.below BT.out) (HR.out.stay _ _ HINV.out BT.out) (HoldsC.mono (fun k hk hlt => hlt) _ _ _ _ _ (HoldsC.chg (Chg.of_below (s := no) BB.out) (fun _ _ h => h) _ _ _ _ _ HV.out))
    go_wp2_with (first
      | ((with_reducible show wpList _ _ _ (⟨some 19, .load _ _, _, _, _, _⟩ :: _) _ _); refine wpList_load_row rfl 63 _ rfl w2.heap.size rfl 63 (row4 x.kind (str x.text) y x.items.length m z x.keys.length n) (0, 0) _ R2.out Tryz.underlying63 rfl HI.out ?_)
      | ((with_reducible refine CR.mono ?_); rintro e w3 ⟨a3, t3, ok3, rfl, hA, hor3, hb3⟩))
    go_ret2
    rw [e0.out]
    exact (ReadP.out (E := eInt) ⟨a3, t3, ok3, rfl, hA, hor3, hb3⟩ BT.out (by omega))
  · subst hok
    have e0 : Hid (o = none) := Lib.hid (by rw [HOO.out]; exact partV_none hx)
    go_wp2
    go_ret2
    rw [e0.out]
    exact ⟨0, _, false, rfl, ⟨rfl, trivial⟩, .inr ⟨rfl, rfl⟩, BT.out⟩
set_option maxRecDepth 100000 in
set_option maxHeartbeats 8000000 in
theorem part_txt {f : JV → Option (Bs)} {fn : FuncId} {lb : Array Value} {inv : World → Prop} (R : RdF eTxt f fn lb inv) {v : JV} (ho : okR v) (key : Bs) {w : World} {a b c d : Value} (hE : Env2 w) (hi : inv w) (hH : HoldsC w (fun k => k < w.heap.size) v a b c d) :
    Calls Tryz.prog 80 #[.agg #[a, b, c, d], .string (str key), .func (.func fn) #[] lb] w fun e w' => ReadP eTxt w (partV v key f) e w' := by
  obtain ⟨rfl, rfl, ⟨x1, c1, rfl⟩, x2, c2, rfl⟩ := hH.form
  obtain ⟨W0, hW0⟩ : ∃ W0, W0 = w.alloc (.cells (row4 v.kind (str v.text) x1 v.items.length c1 x2 v.keys.length c2) 63) := ⟨_, rfl⟩
  have R0 : rowC W0 w.heap.size (row4 v.kind (str v.text) x1 v.items.length c1 x2 v.keys.length c2) 63 := by rw [hW0]; exact rowC_new w _ _
  have B0 : Below w.heap.size w W0 := by rw [hW0]; exact (Below.refl _ _).alloc (Nat.le_refl _) _
  have S0 : W0.heap.size = w.heap.size + 1 := by rw [hW0, size_alloc]
  have CG : Calls Tryz.prog 77 #[.agg (row4 v.kind (str v.text) x1 v.items.length c1 x2 v.keys.length c2), .string (str key)] W0 fun e w' => GetP W0 (getV v key) e w' := get_any ho.1 ho.2 key (w := W0) (HoldsC.mono (fun k hk _ => by show k < W0.heap.size; have hk : k < w.heap.size := hk; omega) _ _ _ _ _ (HoldsC.far hH B0))
  obtain ⟨o, ho_⟩ : ∃ o, o = partV v key f := ⟨_, rfl⟩
  rw [← ho_]
  have hEn := R.enter
  have HOO := Lib.hid ho_
  have HW0 := Lib.hid hW0
  have HR0 := Lib.hid R0
  have HB0 := Lib.hid B0
  have HI := Lib.hid info_V
  have HOR := Lib.hid ho
  have HE := Lib.hid hE
  have HINV := Lib.hid hi
  have HR := Lib.hid R
  clear hW0 R0 B0 ho hE hi R hH ho_
  go_enter Tryz.func80, Tryz.ntmps80
  go_upto_region 1 with (fail)
  rw [show w.alloc (.cells #[.int .i64 v.kind, .string (str v.text), .slice x1 v.items.length c1, .slice x2 v.keys.length c2] 63) = W0 from HW0.out.symm]
  go_upto_region 2 with (first
    | ((with_reducible show wpList _ _ _ (⟨some 10, .load _ _, _, _, _, _⟩ :: _) _ _); refine wpList_load_row rfl 63 _ rfl w.heap.size rfl 63 (row4 v.kind (str v.text) x1 v.items.length c1 x2 v.keys.length c2) (0, 0) _ HR0.out Tryz.underlying63 rfl HI.out ?_)
    | (go_at_call 77; ((with_reducible refine CG.mono ?_); rintro e w2 ⟨x, ok, y, m, z, n, rfl, hV, hor, hb2⟩; have HV := Lib.hid hV; have HB2 := Lib.hid hb2; have HX := Lib.hid hor; clear hV hb2 hor CG))
    | ((with_reducible show wpList _ _ _ (⟨none, .store _ (.tmp 8) _, _, _, _, _⟩ :: _) _ _); refine wpList_store_last rfl 63 _ _ rfl w2.heap.size (row4 x.kind (str x.text) y x.items.length m z x.keys.length n) rfl rfl 63 zeroV4 rfl HI.out rfl (row4_all _ _ _ _ _ _ _ _) ?_))
  obtain ⟨W2, hW2⟩ : ∃ W2, W2 = w2.alloc (.cells (row4 x.kind (str x.text) y x.items.length m z x.keys.length n) 63) := ⟨_, rfl⟩
  rw [← hW2]
  have R2 : Hid (rowC W2 w2.heap.size (row4 x.kind (str x.text) y x.items.length m z x.keys.length n) 63) := Lib.hid (by rw [hW2]; exact rowC_new _ _ _)
  have BB : Hid (Below w2.heap.size w2 W2) := Lib.hid (by rw [hW2]; exact (Below.refl _ _).alloc (Nat.le_refl _) _)
  have s2 := HB2.out.size
  have sb := BB.out.size
  have BT : Hid (Below w.heap.size w W2) := Lib.hid ((HB0.out.trans (HB2.out.mono (by omega))).trans (BB.out.mono (by omega)))
  clear hW2
  rcases HX.out with ⟨hx, hok⟩ | ⟨hx, hok, _⟩
  · subst hok
    have e0 : Hid (o = f x) := Lib.hid (by rw [HOO.out]; exact partV_some hx)
    have CR : Calls Tryz.prog fn (#[.agg (row4 x.kind (str x.text) y x.items.length m z x.keys.length n)] ++ lb) W2 fun e w' => ReadP eTxt W2 (f x) e w' := HR.out.call x W2 y m z n (HOR.out.get hx) (HE.out.below BT.out) (HR.out.stay _ _ HINV.out BT.out) (HoldsC.mono (fun k hk hlt => hlt) _ _ _ _ _ (HoldsC.chg (Chg.of_below (s := no) BB.out) (fun _ _ h => h) _ _ _ _ _ HV.out))
    go_wp2_with (first
      | ((with_reducible show wpList _ _ _ (⟨some 19, .load _ _, _, _, _, _⟩ :: _) _ _); refine wpList_load_row rfl 63 _ rfl w2.heap.size rfl 63 (row4 x.kind (str x.text) y x.items.length m z x.keys.length n) (0, 0) _ R2.out Tryz.underlying63 rfl HI.out ?_)
      | ((with_reducible refine CR.mono ?_); rintro e w3 ⟨a3, t3, ok3, rfl, hA, hor3, hb3⟩))
    go_ret2
    rw [e0.out]
    exact (ReadP.out (E := eTxt) ⟨a3, t3, ok3, rfl, hA, hor3, hb3⟩ BT.out (by omega))
  · subst hok
    have e0 : Hid (o = none) := Lib.hid (by rw [HOO.out]; exact partV_none hx)
    go_wp2
    go_ret2
    rw [e0.out]
    exact ⟨[], _, false, rfl, ⟨rfl, by simp⟩, .inr ⟨rfl, rfl⟩, BT.out⟩
set_option maxRecDepth 100000 in
set_option maxHeartbeats 8000000 in
theorem part_dess {f : JV → Option (List DV)} {fn : FuncId} {lb : Array Value} {inv : World → Prop} (R : RdF eDess f fn lb inv) {v : JV} (ho : okR v) (key : Bs) {w : World} {a b c d : Value} (hE : Env2 w) (hi : inv w) (hH : HoldsC w (fun k => k < w.heap.size) v a b c d) :
    Calls Tryz.prog 34 #[.agg #[a, b, c, d], .string (str key), .func (.func fn) #[] lb] w fun e w' => ReadP eDess w (partV v key f) e w' := by
  obtain ⟨rfl, rfl, ⟨x1, c1, rfl⟩, x2, c2, rfl⟩ := hH.form
  obtain ⟨W0, hW0⟩ : ∃ W0, W0 = w.alloc (.cells (row4 v.kind (str v.text) x1 v.items.length c1 x2 v.keys.length c2) 63) := ⟨_, rfl⟩
  have R0 : rowC W0 w.heap.size (row4 v.kind (str v.text) x1 v.items.length c1 x2 v.keys.length c2) 63 := by rw [hW0]; exact rowC_new w _ _
  have B0 : Below w.heap.size w W0 := by rw [hW0]; exact (Below.refl _ _).alloc (Nat.le_refl _) _
  have S0 : W0.heap.size = w.heap.size + 1 := by rw [hW0, size_alloc]
  have CG : Calls Tryz.prog 77 #[.agg (row4 v.kind (str v.text) x1 v.items.length c1 x2 v.keys.length c2), .string (str key)] W0 fun e w' => GetP W0 (getV v key) e w' := get_any ho.1 ho.2 key (w := W0) (HoldsC.mono (fun k hk _ => by show k < W0.heap.size; have hk : k < w.heap.size := hk; omega) _ _ _ _ _ (HoldsC.far hH B0))
  obtain ⟨o, ho_⟩ : ∃ o, o = partV v key f := ⟨_, rfl⟩
  rw [← ho_]
  have hEn := R.enter
  have HOO := Lib.hid ho_
  have HW0 := Lib.hid hW0
  have HR0 := Lib.hid R0
  have HB0 := Lib.hid B0
  have HI := Lib.hid info_V
  have HOR := Lib.hid ho
  have HE := Lib.hid hE
  have HINV := Lib.hid hi
  have HR := Lib.hid R
  clear hW0 R0 B0 ho hE hi R hH ho_
  go_enter Tryz.func34, Tryz.ntmps34
  go_upto_region 1 with (fail)
  rw [show w.alloc (.cells #[.int .i64 v.kind, .string (str v.text), .slice x1 v.items.length c1, .slice x2 v.keys.length c2] 63) = W0 from HW0.out.symm]
  go_upto_region 2 with (first
    | ((with_reducible show wpList _ _ _ (⟨some 10, .load _ _, _, _, _, _⟩ :: _) _ _); refine wpList_load_row rfl 63 _ rfl w.heap.size rfl 63 (row4 v.kind (str v.text) x1 v.items.length c1 x2 v.keys.length c2) (0, 0) _ HR0.out Tryz.underlying63 rfl HI.out ?_)
    | (go_at_call 77; ((with_reducible refine CG.mono ?_); rintro e w2 ⟨x, ok, y, m, z, n, rfl, hV, hor, hb2⟩; have HV := Lib.hid hV; have HB2 := Lib.hid hb2; have HX := Lib.hid hor; clear hV hb2 hor CG))
    | ((with_reducible show wpList _ _ _ (⟨none, .store _ (.tmp 8) _, _, _, _, _⟩ :: _) _ _); refine wpList_store_last rfl 63 _ _ rfl w2.heap.size (row4 x.kind (str x.text) y x.items.length m z x.keys.length n) rfl rfl 63 zeroV4 rfl HI.out rfl (row4_all _ _ _ _ _ _ _ _) ?_))
  obtain ⟨W2, hW2⟩ : ∃ W2, W2 = w2.alloc (.cells (row4 x.kind (str x.text) y x.items.length m z x.keys.length n) 63) := ⟨_, rfl⟩
  rw [← hW2]
  have R2 : Hid (rowC W2 w2.heap.size (row4 x.kind (str x.text) y x.items.length m z x.keys.length n) 63) := Lib.hid (by rw [hW2]; exact rowC_new _ _ _)
  have BB : Hid (Below w2.heap.size w2 W2) := Lib.hid (by rw [hW2]; exact (Below.refl _ _).alloc (Nat.le_refl _) _)
  have s2 := HB2.out.size
  have sb := BB.out.size
  have BT : Hid (Below w.heap.size w W2) := Lib.hid ((HB0.out.trans (HB2.out.mono (by omega))).trans (BB.out.mono (by omega)))
  clear hW2
  rcases HX.out with ⟨hx, hok⟩ | ⟨hx, hok, _⟩
  · subst hok
    have e0 : Hid (o = f x) := Lib.hid (by rw [HOO.out]; exact partV_some hx)
    have CR : Calls Tryz.prog fn (#[.agg (row4 x.kind (str x.text) y x.items.length m z x.keys.length n)] ++ lb) W2 fun e w' => ReadP eDess W2 (f x) e w' := HR.out.call x W2 y m z n (HOR.out.get hx) (HE.out.below BT.out) (HR.out.stay _ _ HINV.out BT.out) (HoldsC.mono (fun k hk hlt => hlt) _ _ _ _ _ (HoldsC.chg (Chg.of_below (s := no) BB.out) (fun _ _ h => h) _ _ _ _ _ HV.out))
    go_wp2_with (first
      | ((with_reducible show wpList _ _ _ (⟨some 19, .load _ _, _, _, _, _⟩ :: _) _ _); refine wpList_load_row rfl 63 _ rfl w2.heap.size rfl 63 (row4 x.kind (str x.text) y x.items.length m z x.keys.length n) (0, 0) _ R2.out Tryz.underlying63 rfl HI.out ?_)
      | ((with_reducible refine CR.mono ?_); rintro e w3 ⟨a3, t3, ok3, rfl, hA, hor3, hb3⟩))
    go_ret2
    rw [e0.out]
    exact (ReadP.out (E := eDess) ⟨a3, t3, ok3, rfl, hA, hor3, hb3⟩ BT.out (by omega))
  · subst hok
    have e0 : Hid (o = none) := Lib.hid (by rw [HOO.out]; exact partV_none hx)
    go_wp2
    go_ret2
    rw [e0.out]
    exact ⟨[], _, false, rfl, .inl ⟨rfl, rfl⟩, .inr ⟨rfl, rfl⟩, BT.out⟩
set_option maxRecDepth 100000 in
set_option maxHeartbeats 8000000 in
theorem part_dig {f : JV → Option (Bs)} {fn : FuncId} {lb : Array Value} {inv : World → Prop} (R : RdF eDig f fn lb inv) {v : JV} (ho : okR v) (key : Bs) {w : World} {a b c d : Value} (hE : Env2 w) (hi : inv w) (hH : HoldsC w (fun k => k < w.heap.size) v a b c d) :
    Calls Tryz.prog 82 #[.agg #[a, b, c, d], .string (str key), .func (.func fn) #[] lb] w fun e w' => ReadP eDig w (partV v key f) e w' := by
  obtain ⟨rfl, rfl, ⟨x1, c1, rfl⟩, x2, c2, rfl⟩ := hH.form
  obtain ⟨W0, hW0⟩ : ∃ W0, W0 = (w.alloc (.cells (row4 v.kind (str v.text) x1 v.items.length c1 x2 v.keys.length c2) 63)).alloc (.cells (cells8 zero32) 24) := ⟨_, rfl⟩
  have s1 := size_alloc w (.cells (row4 v.kind (str v.text) x1 v.items.length c1 x2 v.keys.length c2) 63)
  have Z0 : rowC W0 (w.heap.size + 1) (cells8 zero32) 24 := by rw [hW0, ← s1]; exact rowC_new _ _ _
  have R0 : rowC W0 w.heap.size (row4 v.kind (str v.text) x1 v.items.length c1 x2 v.keys.length c2) 63 := by rw [hW0]; exact rowC_alloc (rowC_new w _ _) _
  have B0 : Below w.heap.size w W0 := by rw [hW0]; exact ((Below.refl _ _).alloc (Nat.le_refl _) _).alloc (by omega) _
  have S0 : W0.heap.size = w.heap.size + 2 := by rw [hW0, size_alloc, s1]
  have CG : Calls Tryz.prog 77 #[.agg (row4 v.kind (str v.text) x1 v.items.length c1 x2 v.keys.length c2), .string (str key)] W0 fun e w' => GetP W0 (getV v key) e w' := get_any ho.1 ho.2 key (w := W0) (HoldsC.mono (fun k hk _ => by show k < W0.heap.size; have hk : k < w.heap.size := hk; omega) _ _ _ _ _ (HoldsC.far hH B0))
  obtain ⟨o, ho_⟩ : ∃ o, o = partV v key f := ⟨_, rfl⟩
  rw [← ho_]
  have hEn := R.enter
  have HOO := Lib.hid ho_
  have HW0 := Lib.hid hW0
  have HZ0 := Lib.hid Z0
  have HIT := Lib.hid info_G
  have HR0 := Lib.hid R0
  have HB0 := Lib.hid B0
  have HI := Lib.hid info_V
  have HOR := Lib.hid ho
  have HE := Lib.hid hE
  have HINV := Lib.hid hi
  have HR := Lib.hid R
  clear hW0 R0 B0 Z0 ho hE hi R hH ho_
  go_enter Tryz.func82, Tryz.ntmps82
  go_upto_region 1 with (fail)
  rw [show (w.alloc (.cells #[.int .i64 v.kind, .string (str v.text), .slice x1 v.items.length c1, .slice x2 v.keys.length c2] 63)).alloc (.cells #[.int .u8 0, .int .u8 0, .int .u8 0, .int .u8 0, .int .u8 0, .int .u8 0, .int .u8 0, .int .u8 0, .int .u8 0, .int .u8 0, .int .u8 0, .int .u8 0, .int .u8 0, .int .u8 0, .int .u8 0, .int .u8 0, .int .u8 0, .int .u8 0, .int .u8 0, .int .u8 0, .int .u8 0, .int .u8 0, .int .u8 0, .int .u8 0, .int .u8 0, .int .u8 0, .int .u8 0, .int .u8 0, .int .u8 0, .int .u8 0, .int .u8 0, .int .u8 0] 24) = W0 from HW0.out.symm]
  go_upto_region 2 with (first
    | ((with_reducible show wpList _ _ _ (⟨some 10, .load _ _, _, _, _, _⟩ :: _) _ _); refine wpList_load_row rfl 63 _ rfl w.heap.size rfl 63 (row4 v.kind (str v.text) x1 v.items.length c1 x2 v.keys.length c2) (0, 0) _ HR0.out Tryz.underlying63 rfl HI.out ?_)
    | (go_at_call 77; ((with_reducible refine CG.mono ?_); rintro e w2 ⟨x, ok, y, m, z, n, rfl, hV, hor, hb2⟩; have HV := Lib.hid hV; have HB2 := Lib.hid hb2; have HX := Lib.hid hor; clear hV hb2 hor CG))
    | ((with_reducible show wpList _ _ _ (⟨none, .store _ (.tmp 8) _, _, _, _, _⟩ :: _) _ _); refine wpList_store_last rfl 63 _ _ rfl w2.heap.size (row4 x.kind (str x.text) y x.items.length m z x.keys.length n) rfl rfl 63 zeroV4 rfl HI.out rfl (row4_all _ _ _ _ _ _ _ _) ?_))
  obtain ⟨W2, hW2⟩ : ∃ W2, W2 = w2.alloc (.cells (row4 x.kind (str x.text) y x.items.length m z x.keys.length n) 63) := ⟨_, rfl⟩
  rw [← hW2]
  have R2 : Hid (rowC W2 w2.heap.size (row4 x.kind (str x.text) y x.items.length m z x.keys.length n) 63) := Lib.hid (by rw [hW2]; exact rowC_new _ _ _)
  have BB : Hid (Below w2.heap.size w2 W2) := Lib.hid (by rw [hW2]; exact (Below.refl _ _).alloc (Nat.le_refl _) _)
  have s2 := HB2.out.size
  have sb := BB.out.size
  have BT : Hid (Below w.heap.size w W2) := Lib.hid ((HB0.out.trans (HB2.out.mono (by omega))).trans (BB.out.mono (by omega)))
  have HZ2 : Hid (rowC W2 (w.heap.size + 1) (cells8 zero32) 24) := Lib.hid (rowC_below (rowC_below HZ0.out HB2.out (by omega)) BB.out (by omega))
  clear hW2
  rcases HX.out with ⟨hx, hok⟩ | ⟨hx, hok, _⟩
  · subst hok
    have e0 : Hid (o = f x) := Lib.hid (by rw [HOO.out]; exact partV_some hx)
    have CR : Calls Tryz.prog fn (#[.agg (row4 x.kind (str x.text) y x.items.length m z x.keys.length n)] ++ lb) W2 fun e w' => ReadP eDig W2 (f x) e w' := HR.out.call x W2 y m z n (HOR.out.get hx) (HE.out.below BT.out) (HR.out.stay _ _ HINV.out BT.out) (HoldsC.mono (fun k hk hlt => hlt) _ _ _ _ _ (HoldsC.chg (Chg.of_below (s := no) BB.out) (fun _ _ h => h) _ _ _ _ _ HV.out))
    go_wp2_with (first
      | ((with_reducible show wpList _ _ _ (⟨some 19, .load _ _, _, _, _, _⟩ :: _) _ _); refine wpList_load_row rfl 63 _ rfl w2.heap.size rfl 63 (row4 x.kind (str x.text) y x.items.length m z x.keys.length n) (0, 0) _ R2.out Tryz.underlying63 rfl HI.out ?_)
      | ((with_reducible refine CR.mono ?_); rintro e w3 ⟨a3, t3, ok3, rfl, ⟨rfl, hA2⟩, hor3, hb3⟩; have HA := Lib.hid hA2; clear hA2; have HO3 := Lib.hid hor3; clear hor3; have HZ3 := Lib.hid (rowC_below HZ2.out hb3 (by omega)))
      | ((with_reducible show wpList _ _ _ (⟨none, .store _ (.tmp 6) _, _, _, _, _⟩ :: _) _ _); refine wpList_store_row rfl 24 _ _ rfl (w.heap.size + 1) (cells8 a3) rfl rfl 24 (cells8 zero32) HZ3.out (by rw [cells8_size, HA.out]; exact HIT.out) (by rw [cells8_size, cells8_size, HA.out]; rfl) (cells8_one _) ?_))
    refine bodyPost_ret (results_row_tmp rfl _ _ (w.heap.size + 1) 24 (cells8 a3) _ rfl (rowC_setRow HZ3.out _) Tryz.underlying24 rfl (by rw [cells8_size, HA.out]; exact HIT.out) (.bool ok3) rfl) rfl ?_
    rw [e0.out]
    exact ⟨a3, _, ok3, rfl, ⟨rfl, HA.out⟩, HO3.out, below_setRow (BT.out.trans (hb3.mono (by omega))) (by omega) _⟩
  · subst hok
    have e0 : Hid (o = none) := Lib.hid (by rw [HOO.out]; exact partV_none hx)
    go_wp2_with (first
      | ((with_reducible show wpList _ _ _ (⟨some 17, .load _ _, _, _, _, _⟩ :: _) _ _); refine wpList_load_row rfl 24 _ rfl (w.heap.size + 1) rfl 24 (cells8 zero32) (0, 0) _ HZ2.out Tryz.underlying24 rfl HIT.out ?_)
      | ((with_reducible show wpList _ _ _ (⟨none, .store _ (.tmp 6) _, _, _, _, _⟩ :: _) _ _); refine wpList_store_row rfl 24 _ _ rfl (w.heap.size + 1) (cells8 zero32) rfl rfl 24 (cells8 zero32) HZ2.out HIT.out rfl (cells8_one _) ?_))
    refine bodyPost_ret (results_row_tmp rfl _ _ (w.heap.size + 1) 24 (cells8 zero32) _ rfl (rowC_setRow HZ2.out _) Tryz.underlying24 rfl HIT.out (.bool false) rfl) rfl ?_
    rw [e0.out]
    exact ⟨zero32, _, false, rfl, ⟨rfl, rfl⟩, .inr ⟨rfl, rfl⟩, below_setRow BT.out (by omega) _⟩
set_option maxRecDepth 100000 in
set_option maxHeartbeats 8000000 in
theorem part_pla {f : JV → Option (Bs × Bs)} {fn : FuncId} {lb : Array Value} {inv : World → Prop} (R : RdF ePla f fn lb inv) {v : JV} (ho : okR v) (key : Bs) {w : World} {a b c d : Value} (hE : Env2 w) (hi : inv w) (hH : HoldsC w (fun k => k < w.heap.size) v a b c d) :
    Calls Tryz.prog 116 #[.agg #[a, b, c, d], .string (str key), .func (.func fn) #[] lb] w fun e w' => ReadP ePla w (partV v key f) e w' := by
  obtain ⟨rfl, rfl, ⟨x1, c1, rfl⟩, x2, c2, rfl⟩ := hH.form
  obtain ⟨W0, hW0⟩ : ∃ W0, W0 = (w.alloc (.cells (row4 v.kind (str v.text) x1 v.items.length c1 x2 v.keys.length c2) 63)).alloc (.cells (encP ([], [])) 26) := ⟨_, rfl⟩
  have s1 := size_alloc w (.cells (row4 v.kind (str v.text) x1 v.items.length c1 x2 v.keys.length c2) 63)
  have Z0 : rowC W0 (w.heap.size + 1) (encP ([], [])) 26 := by rw [hW0, ← s1]; exact rowC_new _ _ _
  have R0 : rowC W0 w.heap.size (row4 v.kind (str v.text) x1 v.items.length c1 x2 v.keys.length c2) 63 := by rw [hW0]; exact rowC_alloc (rowC_new w _ _) _
  have B0 : Below w.heap.size w W0 := by rw [hW0]; exact ((Below.refl _ _).alloc (Nat.le_refl _) _).alloc (by omega) _
  have S0 : W0.heap.size = w.heap.size + 2 := by rw [hW0, size_alloc, s1]
  have CG : Calls Tryz.prog 77 #[.agg (row4 v.kind (str v.text) x1 v.items.length c1 x2 v.keys.length c2), .string (str key)] W0 fun e w' => GetP W0 (getV v key) e w' := get_any ho.1 ho.2 key (w := W0) (HoldsC.mono (fun k hk _ => by show k < W0.heap.size; have hk : k < w.heap.size := hk; omega) _ _ _ _ _ (HoldsC.far hH B0))
  obtain ⟨o, ho_⟩ : ∃ o, o = partV v key f := ⟨_, rfl⟩
  rw [← ho_]
  have hEn := R.enter
  have HOO := Lib.hid ho_
  have HW0 := Lib.hid hW0
  have HZ0 := Lib.hid Z0
  have HIT := Lib.hid info_P
  have HR0 := Lib.hid R0
  have HB0 := Lib.hid B0
  have HI := Lib.hid info_V
  have HOR := Lib.hid ho
  have HE := Lib.hid hE
  have HINV := Lib.hid hi
  have HR := Lib.hid R
  clear hW0 R0 B0 Z0 ho hE hi R hH ho_
  go_enter Tryz.func116, Tryz.ntmps116
  go_upto_region 1 with (fail)
  rw [show (w.alloc (.cells #[.int .i64 v.kind, .string (str v.text), .slice x1 v.items.length c1, .slice x2 v.keys.length c2] 63)).alloc (.cells #[.string ⟨#[]⟩, .string ⟨#[]⟩] 26) = W0 from HW0.out.symm]
  go_upto_region 2 with (first
    | ((with_reducible show wpList _ _ _ (⟨some 10, .load _ _, _, _, _, _⟩ :: _) _ _); refine wpList_load_row rfl 63 _ rfl w.heap.size rfl 63 (row4 v.kind (str v.text) x1 v.items.length c1 x2 v.keys.length c2) (0, 0) _ HR0.out Tryz.underlying63 rfl HI.out ?_)
    | (go_at_call 77; ((with_reducible refine CG.mono ?_); rintro e w2 ⟨x, ok, y, m, z, n, rfl, hV, hor, hb2⟩; have HV := Lib.hid hV; have HB2 := Lib.hid hb2; have HX := Lib.hid hor; clear hV hb2 hor CG))
    | ((with_reducible show wpList _ _ _ (⟨none, .store _ (.tmp 8) _, _, _, _, _⟩ :: _) _ _); refine wpList_store_last rfl 63 _ _ rfl w2.heap.size (row4 x.kind (str x.text) y x.items.length m z x.keys.length n) rfl rfl 63 zeroV4 rfl HI.out rfl (row4_all _ _ _ _ _ _ _ _) ?_))
  obtain ⟨W2, hW2⟩ : ∃ W2, W2 = w2.alloc (.cells (row4 x.kind (str x.text) y x.items.length m z x.keys.length n) 63) := ⟨_, rfl⟩
  rw [← hW2]
  have R2 : Hid (rowC W2 w2.heap.size (row4 x.kind (str x.text) y x.items.length m z x.keys.length n) 63) := Lib.hid (by rw [hW2]; exact rowC_new _ _ _)
  have BB : Hid (Below w2.heap.size w2 W2) := Lib.hid (by rw [hW2]; exact (Below.refl _ _).alloc (Nat.le_refl _) _)
  have s2 := HB2.out.size
  have sb := BB.out.size
  have BT : Hid (Below w.heap.size w W2) := Lib.hid ((HB0.out.trans (HB2.out.mono (by omega))).trans (BB.out.mono (by omega)))
  have HZ2 : Hid (rowC W2 (w.heap.size + 1) (encP ([], [])) 26) := Lib.hid (rowC_below (rowC_below HZ0.out HB2.out (by omega)) BB.out (by omega))
  clear hW2
  rcases HX.out with ⟨hx, hok⟩ | ⟨hx, hok, _⟩
  · subst hok
    have e0 : Hid (o = f x) := Lib.hid (by rw [HOO.out]; exact partV_some hx)
    have CR : Calls Tryz.prog fn (#[.agg (row4 x.kind (str x.text) y x.items.length m z x.keys.length n)] ++ lb) W2 fun e w' => ReadP ePla W2 (f x) e w' := HR.out.call x W2 y m z n (HOR.out.get hx) (HE.out.below BT.out) (HR.out.stay _ _ HINV.out BT.out) (HoldsC.mono (fun k hk hlt => hlt) _ _ _ _ _ (HoldsC.chg (Chg.of_below (s := no) BB.out) (fun _ _ h => h) _ _ _ _ _ HV.out))
    go_wp2_with (first
      | ((with_reducible show wpList _ _ _ (⟨some 19, .load _ _, _, _, _, _⟩ :: _) _ _); refine wpList_load_row rfl 63 _ rfl w2.heap.size rfl 63 (row4 x.kind (str x.text) y x.items.length m z x.keys.length n) (0, 0) _ R2.out Tryz.underlying63 rfl HI.out ?_)
      | ((with_reducible refine CR.mono ?_); rintro e w3 ⟨a3, t3, ok3, rfl, ⟨rfl, hA2⟩, hor3, hb3⟩; have HA := Lib.hid hA2; clear hA2; have HO3 := Lib.hid hor3; clear hor3; have HZ3 := Lib.hid (rowC_below HZ2.out hb3 (by omega)))
      | ((with_reducible show wpList _ _ _ (⟨none, .store _ (.tmp 6) _, _, _, _, _⟩ :: _) _ _); refine wpList_store_row rfl 26 _ _ rfl (w.heap.size + 1) (encP a3) rfl rfl 26 (encP ([], [])) HZ3.out (by rw [show (encP a3).size = 2 from rfl]; exact HIT.out) (by rw [show (encP a3).size = 2 from rfl]; rfl) (encP_one _) ?_))
    refine bodyPost_ret (results_row_tmp rfl _ _ (w.heap.size + 1) 26 (encP a3) _ rfl (rowC_setRow HZ3.out _) Tryz.underlying26 rfl (by rw [show (encP a3).size = 2 from rfl]; exact HIT.out) (.bool ok3) rfl) rfl ?_
    rw [e0.out]
    exact ⟨a3, _, ok3, rfl, ⟨rfl, HA.out⟩, HO3.out, below_setRow (BT.out.trans (hb3.mono (by omega))) (by omega) _⟩
  · subst hok
    have e0 : Hid (o = none) := Lib.hid (by rw [HOO.out]; exact partV_none hx)
    go_wp2_with (first
      | ((with_reducible show wpList _ _ _ (⟨some 17, .load _ _, _, _, _, _⟩ :: _) _ _); refine wpList_load_row rfl 26 _ rfl (w.heap.size + 1) rfl 26 (encP ([], [])) (0, 0) _ HZ2.out Tryz.underlying26 rfl HIT.out ?_)
      | ((with_reducible show wpList _ _ _ (⟨none, .store _ (.tmp 6) _, _, _, _, _⟩ :: _) _ _); refine wpList_store_row rfl 26 _ _ rfl (w.heap.size + 1) (encP ([], [])) rfl rfl 26 (encP ([], [])) HZ2.out HIT.out rfl (encP_one _) ?_))
    refine bodyPost_ret (results_row_tmp rfl _ _ (w.heap.size + 1) 26 (encP ([], [])) _ rfl (rowC_setRow HZ2.out _) Tryz.underlying26 rfl HIT.out (.bool false) rfl) rfl ?_
    rw [e0.out]
    exact ⟨([], []), _, false, rfl, ⟨rfl, by simp⟩, .inr ⟨rfl, rfl⟩, below_setRow BT.out (by omega) _⟩
set_option maxRecDepth 100000 in
set_option maxHeartbeats 8000000 in
theorem part_des {f : JV → Option (DV)} {fn : FuncId} {lb : Array Value} {inv : World → Prop} (R : RdF eDes f fn lb inv) {v : JV} (ho : okR v) (key : Bs) {w : World} {a b c d : Value} (hE : Env2 w) (hi : inv w) (hH : HoldsC w (fun k => k < w.heap.size) v a b c d) :
    Calls Tryz.prog 32 #[.agg #[a, b, c, d], .string (str key), .func (.func fn) #[] lb] w fun e w' => ReadP eDes w (partV v key f) e w' := by
  obtain ⟨rfl, rfl, ⟨x1, c1, rfl⟩, x2, c2, rfl⟩ := hH.form
  obtain ⟨W0, hW0⟩ : ∃ W0, W0 = (w.alloc (.cells (row4 v.kind (str v.text) x1 v.items.length c1 x2 v.keys.length c2) 63)).alloc (.cells (encD zeroD) 28) := ⟨_, rfl⟩
  have s1 := size_alloc w (.cells (row4 v.kind (str v.text) x1 v.items.length c1 x2 v.keys.length c2) 63)
  have Z0 : rowC W0 (w.heap.size + 1) (encD zeroD) 28 := by rw [hW0, ← s1]; exact rowC_new _ _ _
  have R0 : rowC W0 w.heap.size (row4 v.kind (str v.text) x1 v.items.length c1 x2 v.keys.length c2) 63 := by rw [hW0]; exact rowC_alloc (rowC_new w _ _) _
  have B0 : Below w.heap.size w W0 := by rw [hW0]; exact ((Below.refl _ _).alloc (Nat.le_refl _) _).alloc (by omega) _
  have S0 : W0.heap.size = w.heap.size + 2 := by rw [hW0, size_alloc, s1]
  have CG : Calls Tryz.prog 77 #[.agg (row4 v.kind (str v.text) x1 v.items.length c1 x2 v.keys.length c2), .string (str key)] W0 fun e w' => GetP W0 (getV v key) e w' := get_any ho.1 ho.2 key (w := W0) (HoldsC.mono (fun k hk _ => by show k < W0.heap.size; have hk : k < w.heap.size := hk; omega) _ _ _ _ _ (HoldsC.far hH B0))
  obtain ⟨o, ho_⟩ : ∃ o, o = partV v key f := ⟨_, rfl⟩
  rw [← ho_]
  have hEn := R.enter
  have HOO := Lib.hid ho_
  have HW0 := Lib.hid hW0
  have HZ0 := Lib.hid Z0
  have HIT := Lib.hid info_D
  have HR0 := Lib.hid R0
  have HB0 := Lib.hid B0
  have HI := Lib.hid info_V
  have HOR := Lib.hid ho
  have HE := Lib.hid hE
  have HINV := Lib.hid hi
  have HR := Lib.hid R
  clear hW0 R0 B0 Z0 ho hE hi R hH ho_
  go_enter Tryz.func32, Tryz.ntmps32
  go_upto_region 1 with (fail)
  rw [show (w.alloc (.cells #[.int .i64 v.kind, .string (str v.text), .slice x1 v.items.length c1, .slice x2 v.keys.length c2] 63)).alloc (.cells #[.string ⟨#[]⟩, .int .u8 0, .int .u8 0, .int .u8 0, .int .u8 0, .int .u8 0, .int .u8 0, .int .u8 0, .int .u8 0, .int .u8 0, .int .u8 0, .int .u8 0, .int .u8 0, .int .u8 0, .int .u8 0, .int .u8 0, .int .u8 0, .int .u8 0, .int .u8 0, .int .u8 0, .int .u8 0, .int .u8 0, .int .u8 0, .int .u8 0, .int .u8 0, .int .u8 0, .int .u8 0, .int .u8 0, .int .u8 0, .int .u8 0, .int .u8 0, .int .u8 0, .int .u8 0, .int .i64 0, .string ⟨#[]⟩, .string ⟨#[]⟩] 28) = W0 from HW0.out.symm]
  go_upto_region 2 with (first
    | ((with_reducible show wpList _ _ _ (⟨some 10, .load _ _, _, _, _, _⟩ :: _) _ _); refine wpList_load_row rfl 63 _ rfl w.heap.size rfl 63 (row4 v.kind (str v.text) x1 v.items.length c1 x2 v.keys.length c2) (0, 0) _ HR0.out Tryz.underlying63 rfl HI.out ?_)
    | (go_at_call 77; ((with_reducible refine CG.mono ?_); rintro e w2 ⟨x, ok, y, m, z, n, rfl, hV, hor, hb2⟩; have HV := Lib.hid hV; have HB2 := Lib.hid hb2; have HX := Lib.hid hor; clear hV hb2 hor CG))
    | ((with_reducible show wpList _ _ _ (⟨none, .store _ (.tmp 8) _, _, _, _, _⟩ :: _) _ _); refine wpList_store_last rfl 63 _ _ rfl w2.heap.size (row4 x.kind (str x.text) y x.items.length m z x.keys.length n) rfl rfl 63 zeroV4 rfl HI.out rfl (row4_all _ _ _ _ _ _ _ _) ?_))
  obtain ⟨W2, hW2⟩ : ∃ W2, W2 = w2.alloc (.cells (row4 x.kind (str x.text) y x.items.length m z x.keys.length n) 63) := ⟨_, rfl⟩
  rw [← hW2]
  have R2 : Hid (rowC W2 w2.heap.size (row4 x.kind (str x.text) y x.items.length m z x.keys.length n) 63) := Lib.hid (by rw [hW2]; exact rowC_new _ _ _)
  have BB : Hid (Below w2.heap.size w2 W2) := Lib.hid (by rw [hW2]; exact (Below.refl _ _).alloc (Nat.le_refl _) _)
  have s2 := HB2.out.size
  have sb := BB.out.size
  have BT : Hid (Below w.heap.size w W2) := Lib.hid ((HB0.out.trans (HB2.out.mono (by omega))).trans (BB.out.mono (by omega)))
  have HZ2 : Hid (rowC W2 (w.heap.size + 1) (encD zeroD) 28) := Lib.hid (rowC_below (rowC_below HZ0.out HB2.out (by omega)) BB.out (by omega))
  clear hW2
  rcases HX.out with ⟨hx, hok⟩ | ⟨hx, hok, _⟩
  · subst hok
    have e0 : Hid (o = f x) := Lib.hid (by rw [HOO.out]; exact partV_some hx)
    have CR : Calls Tryz.prog fn (#[.agg (row4 x.kind (str x.text) y x.items.length m z x.keys.length n)] ++ lb) W2 fun e w' => ReadP eDes W2 (f x) e w' := HR.out.call x W2 y m z n (HOR.out.get hx) (HE.out.below BT.out) (HR.out.stay _ _ HINV.out BT.out) (HoldsC.mono (fun k hk hlt => hlt) _ _ _ _ _ (HoldsC.chg (Chg.of_below (s := no) BB.out) (fun _ _ h => h) _ _ _ _ _ HV.out))
    go_wp2_with (first
      | ((with_reducible show wpList _ _ _ (⟨some 19, .load _ _, _, _, _, _⟩ :: _) _ _); refine wpList_load_row rfl 63 _ rfl w2.heap.size rfl 63 (row4 x.kind (str x.text) y x.items.length m z x.keys.length n) (0, 0) _ R2.out Tryz.underlying63 rfl HI.out ?_)
      | ((with_reducible refine CR.mono ?_); rintro e w3 ⟨a3, t3, ok3, rfl, ⟨rfl, hA2⟩, hor3, hb3⟩; have HA := Lib.hid hA2; clear hA2; have HO3 := Lib.hid hor3; clear hor3; have HZ3 := Lib.hid (rowC_below HZ2.out hb3 (by omega)))
      | ((with_reducible show wpList _ _ _ (⟨none, .store _ (.tmp 6) _, _, _, _, _⟩ :: _) _ _); refine wpList_store_row rfl 28 _ _ rfl (w.heap.size + 1) (encD a3) rfl rfl 28 (encD zeroD) HZ3.out (by rw [encD_size a3 HA.out]; exact HIT.out) (by rw [encD_size a3 HA.out]; rfl) (encD_one _) ?_))
    refine bodyPost_ret (results_row_tmp rfl _ _ (w.heap.size + 1) 28 (encD a3) _ rfl (rowC_setRow HZ3.out _) Tryz.underlying28 rfl (by rw [encD_size a3 HA.out]; exact HIT.out) (.bool ok3) rfl) rfl ?_
    rw [e0.out]
    exact ⟨a3, _, ok3, rfl, ⟨rfl, HA.out⟩, HO3.out, below_setRow (BT.out.trans (hb3.mono (by omega))) (by omega) _⟩
  · subst hok
    have e0 : Hid (o = none) := Lib.hid (by rw [HOO.out]; exact partV_none hx)
    go_wp2_with (first
      | ((with_reducible show wpList _ _ _ (⟨some 17, .load _ _, _, _, _, _⟩ :: _) _ _); refine wpList_load_row rfl 28 _ rfl (w.heap.size + 1) rfl 28 (encD zeroD) (0, 0) _ HZ2.out Tryz.underlying28 rfl HIT.out ?_)
      | ((with_reducible show wpList _ _ _ (⟨none, .store _ (.tmp 6) _, _, _, _, _⟩ :: _) _ _); refine wpList_store_row rfl 28 _ _ rfl (w.heap.size + 1) (encD zeroD) rfl rfl 28 (encD zeroD) HZ2.out HIT.out rfl (encD_one _) ?_))
    refine bodyPost_ret (results_row_tmp rfl _ _ (w.heap.size + 1) 28 (encD zeroD) _ rfl (rowC_setRow HZ2.out _) Tryz.underlying28 rfl HIT.out (.bool false) rfl) rfl ?_
    rw [e0.out]
    exact ⟨zeroD, _, false, rfl, ⟨rfl, ⟨rfl, by simp [zeroD], by simp [zeroD], by simp [zeroD]⟩⟩, .inr ⟨rfl, rfl⟩, below_setRow BT.out (by omega) _⟩
end Go.Proofs.YtnkencdibniagaaGreatDoor

