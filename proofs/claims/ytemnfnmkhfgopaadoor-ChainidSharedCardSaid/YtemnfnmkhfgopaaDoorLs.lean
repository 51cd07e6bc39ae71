/- Lists in slices, of elements of any one fixed size: what comes in, what a call owns, what is appended. (Generic: it names nothing of the cut.) -/
import Derived.Test.YtemnfnmkhfgopaaDoorGn
import Derived.Great.BuildSlice
import Derived.Deep.Slices
import Derived.Deep.Fields
import Derived.Deep.AppendLies
import Derived.Deep.Upon
import Derived.ChangeSame
import Derived.OpenShut
import Derived.ChangeArms
import Derived.Sort.QuietLawsIn
import Derived.Test.YtemnfnmkhfgopaaDoorRnt
namespace Go.Proofs.YtemnfnmkhfgopaaDoor
open Go.RowKit Go.ChangeShapes Go.WideShapes Go.Deep

/-- How an element lies in its cells. -/
structure Els (α : Type) where
  e : TypeId
  s : TypeId
  sz : Nat
  bytes : Nat
  enc : α → List Value
  ok : α → Prop
  len : ∀ {a}, ok a → (enc a).length = sz
  one : ∀ {a}, ok a → ∀ u ∈ enc a, u.oneCell' = true
  pos : 0 < sz
  hs : Tryd.prog.underlying s = some (.slice e)
  info : ∃ i z, Tryd.prog.info? e = some i ∧ i.zero = some z ∧ i.size = sz ∧ i.bytes = bytes ∧ z.cells.size = sz
  cells : Tryd.prog.cellsOf e = sz

theorem ls_add_add (a : Addr) (i j : Nat) : (a.add i).add j = a.add (i + j) := by
  unfold Addr.add
  by_cases h : i = 0
  · subst h; simp
  · by_cases h2 : j = 0
    · subst h2; simp
    · rw [if_neg h, if_neg h2, if_neg (by omega)]
      simp [Nat.add_assoc]
theorem ls_add_blk (a : Addr) (i : Nat) : (a.add i).block = a.block := by unfold Addr.add; split <;> rfl
theorem ls_add_at (g k : Nat) : (⟨g, 0, none⟩ : Addr).add k = ⟨g, k, none⟩ := by
  unfold Addr.add
  by_cases h1 : k = 0 <;> simp [h1]
theorem ls_cell_far {B : Nat} {w w' : World} (h : Below B w w') {p : Addr} (hp : p.block < B) : w'.cell? p = w.cell? p := World.cell?_of_block (h.block p.block hp)
section
variable {α : Type} (E : Els α)
/-- The cells of a list's elements. -/
def Els.row (l : List α) : List Value := l.flatMap E.enc
theorem Els.row_app (l m : List α) : E.row (l ++ m) = E.row l ++ E.row m := by simp [Els.row]
theorem Els.row_one (a : α) : E.row [a] = E.enc a := by simp [Els.row]
theorem Els.row_nil : E.row [] = [] := rfl
theorem Els.row_len {l : List α} (h : ∀ a ∈ l, E.ok a) : (E.row l).length = l.length * E.sz := by
  induction l with
  | nil => simp [Els.row]
  | cons a l ih =>
    have e : E.row (a :: l) = E.enc a ++ E.row l := by simp [Els.row]
    rw [e, List.length_append, E.len (h a (by simp)), ih (fun x hx => h x (by simp [hx])), List.length_cons, Nat.add_mul]
    omega
theorem Els.row_ones {l : List α} (h : ∀ a ∈ l, E.ok a) : ∀ u ∈ E.row l, u.oneCell' = true := fun u hu => by
  obtain ⟨x, hx, hu⟩ := List.mem_flatMap.1 hu
  exact E.one (h x hx) u hu
theorem Els.row_at {l : List α} (h : ∀ a ∈ l, E.ok a) {i : Nat} {x : α} (hx : l[i]? = some x) {j : Nat} (hj : j < E.sz) : (E.row l)[i * E.sz + j]? = (E.enc x)[j]? := by
  obtain ⟨hi, hxe⟩ := List.getElem?_eq_some_iff.1 hx
  have e : E.row l = E.row (l.take i) ++ (E.enc x ++ E.row (l.drop (i + 1))) := by
    conv => lhs; rw [← List.take_append_drop i l, List.drop_eq_getElem_cons hi]
    rw [E.row_app, hxe]
    simp [Els.row]
  have hl : (E.row (l.take i)).length = i * E.sz := by rw [E.row_len (fun a ha => h a (List.mem_of_mem_take ha)), List.length_take, Nat.min_eq_left (by omega)]
  rw [e, List.getElem?_append_right (by omega), hl, Nat.add_sub_cancel_left, List.getElem?_append_left (by rw [E.len (h x (List.mem_of_getElem? hx))]; exact hj)]
/-- A list in a slice, wherever it came from. -/
def Els.At (w : World) (x : Option Addr) (l : List α) : Prop :=
  ∀ i a, l[i]? = some a → E.ok a ∧ ∃ ad, x = some ad ∧ ad.block < w.heap.size ∧ ∀ j v, (E.enc a)[j]? = some v → w.cell? ((ad.add (i * E.sz)).add j) = some v
variable {E}
theorem Els.At.far {B : Nat} {w w' : World} {x : Option Addr} {l : List α} (h : E.At w x l) (hb : Below B w w') (hB : w.heap.size ≤ B) : E.At w' x l := fun i a hi => by
  obtain ⟨h0, ad, ha, hlt, hc⟩ := h i a hi
  refine ⟨h0, ad, ha, Nat.lt_of_lt_of_le hlt hb.size, fun j u hu => ?_⟩
  rw [ls_cell_far hb (by rw [ls_add_blk, ls_add_blk]; omega)]
  exact hc j u hu
theorem Els.At.chg {s : Nat → Prop} {w w' : World} {x : Option Addr} {l : List α} (h : E.At w x l) (hb : Chg s w w') (hs : ∀ ad, x = some ad → ¬ s ad.block) : E.At w' x l := fun i a hi => by
  obtain ⟨h0, ad, ha, hlt, hc⟩ := h i a hi
  refine ⟨h0, ad, ha, Nat.lt_of_lt_of_le hlt hb.size, fun j u hu => ?_⟩
  rw [World.cell?_of_block (w := w) (hb.block _ (by rw [ls_add_blk, ls_add_blk]; exact hlt) (by rw [ls_add_blk, ls_add_blk]; exact hs ad ha))]
  exact hc j u hu
theorem Els.At.ok {w : World} {x : Option Addr} {l : List α} (h : E.At w x l) : ∀ a ∈ l, E.ok a := fun a ha => by
  obtain ⟨i, hi⟩ := List.mem_iff_getElem?.1 ha
  exact (h i a hi).1
theorem Els.At.drewN {w : World} {x : Option Addr} {l : List α} (h : E.At w x l) (n : Nat) : E.At (w.drewN n) x l := h
theorem Els.At.nil (w : World) (x : Option Addr) : E.At w x [] := fun i a hi => by cases hi
theorem Els.At.some_ {w : World} {x : Option Addr} {l : List α} (h : E.At w x l) (hl : 0 < l.length) : ∃ ad, x = some ad ∧ ad.block < w.heap.size := by
  obtain ⟨_, ad, ha, hlt, _⟩ := h 0 l[0] (List.getElem?_eq_getElem hl)
  exact ⟨ad, ha, hlt⟩
theorem Els.At.row {w : World} {ad : Addr} {l : List α} (h : E.At w (some ad) l) : ∀ j u, (E.row l)[j]? = some u → w.cell? (ad.add j) = some u := fun j u hu => by
  have hj := (List.getElem?_eq_some_iff.1 hu).1
  rw [E.row_len h.ok] at hj
  have hp := E.pos
  have hi : j / E.sz < l.length := (Nat.div_lt_iff_lt_mul hp).2 hj
  obtain ⟨_, ad', ha, _, hc⟩ := h (j / E.sz) l[j / E.sz] (List.getElem?_eq_getElem hi)
  obtain rfl := Option.some.inj ha
  have e : j / E.sz * E.sz + j % E.sz = j := by rw [Nat.mul_comm]; exact Nat.div_add_mod j E.sz
  have := hc (j % E.sz) u (by rw [← E.row_at h.ok (List.getElem?_eq_getElem hi) (Nat.mod_lt _ hp), e]; exact hu)
  rw [ls_add_add, e] at this
  exact this
theorem Els.At.lit {w : World} {b : Nat} {l : List α} {t : TypeId} (h : rowC w b (E.row l).toArray t) (hl : ∀ a ∈ l, E.ok a) : E.At w (some ⟨b, 0, none⟩) l := fun i a hi => by
  have ha := hl a (List.mem_of_getElem? hi)
  refine ⟨ha, _, rfl, rowC_lt h, fun j u hu => ?_⟩
  have hj : j < E.sz := by have := (List.getElem?_eq_some_iff.1 hu).1; rwa [E.len ha] at this
  rw [ls_add_add, ls_add_at, rowC_cell h, List.getElem?_toArray, E.row_at hl hi hj]
  exact hu
theorem Els.At.one {w : World} {b : Nat} {a : α} {t : TypeId} (h : rowC w b (E.enc a).toArray t) (ha : E.ok a) : E.At w (some ⟨b, 0, none⟩) [a] :=
  Els.At.lit (by rw [E.row_one]; exact h) (fun x hx => by rw [List.mem_singleton.1 hx]; exact ha)
variable (E)
/-- A list in a slice that the call owns. -/
def Els.Own (w : World) (base : Nat) (v : Value) (l : List α) : Prop := (∀ a ∈ l, E.ok a) ∧ w.ownsRow base E.e E.sz v l.length (E.row l)
variable {E}
theorem Els.Own.nil (w : World) (base : Nat) : E.Own w base (.slice none 0 0) [] := ⟨fun a ha => (by cases ha), World.ownsRow_nil _ _ _ _⟩
theorem Els.Own.form {w : World} {base : Nat} {v : Value} {l : List α} (h : E.Own w base v l) : ∃ a cap, v = .slice a l.length cap := owns_form h.2
theorem Els.Own.some_ {w : World} {base : Nat} {v : Value} {l : List α} (h : E.Own w base v l) (hl : 0 < l.length) : ∃ g cap, v = .slice (some ⟨g, 0, none⟩) l.length cap := owns_some h.2 hl
theorem Els.Own.at {w : World} {base : Nat} {a : Option Addr} {n c : Nat} {l : List α} (h : E.Own w base (.slice a n c) l) : E.At w a l := fun i x hx => by
  have hp : 0 < l.length := by have := (List.getElem?_eq_some_iff.1 hx).1; omega
  obtain ⟨g, c', hv⟩ := owns_some h.2 hp
  simp only [Value.slice.injEq] at hv
  obtain ⟨rfl, rfl, _⟩ := hv
  have hox := h.1 x (List.mem_of_getElem? hx)
  refine ⟨hox, ⟨g, 0, none⟩, rfl, (World.ownsRow.lt h.2 g rfl).2, fun j u hu => ?_⟩
  have hj : j < E.sz := by have := (List.getElem?_eq_some_iff.1 hu).1; rwa [E.len hox] at this
  have hrow : (E.row l)[i * E.sz + j]? = some u := by rw [E.row_at h.1 hx hj]; exact hu
  rw [ls_add_add, ls_add_at, h.2.cellAt _ (by have := (List.getElem?_eq_some_iff.1 hrow).1; have h2 := h.2.1; omega)]
  exact hrow
theorem Els.Own.len_ {w : World} {base : Nat} {a : Option Addr} {n c : Nat} {l : List α} (h : E.Own w base (.slice a n c) l) : n = l.length := by
  obtain ⟨_, _, hv⟩ := h.form
  exact (Value.slice.inj hv).2.1
theorem Els.Own.lt {w : World} {base : Nat} {v : Value} {l : List α} (h : E.Own w base v l) : ∀ k, v.ownBlock = some k → base ≤ k ∧ k < w.heap.size := World.ownsRow.lt h.2
theorem Els.Own.alloc {w : World} {base : Nat} {v : Value} {l : List α} (h : E.Own w base v l) (o : Obj) : E.Own (w.alloc o) base v l := ⟨h.1, World.ownsRow.alloc h.2 o⟩
theorem Els.Own.drewN {w : World} {base : Nat} {v : Value} {l : List α} (h : E.Own w base v l) (n : Nat) : E.Own (w.drewN n) base v l := h
theorem Els.Own.chg {s : Nat → Prop} {w w' : World} {base : Nat} {v : Value} {l : List α} (h : E.Own w base v l) (hc : Chg s w w') (hs : ∀ g, v.ownBlock = some g → ¬ s g) : E.Own w' base v l := ⟨h.1, hc.owns h.2 hs⟩
theorem Els.Own.below {w w' : World} {base : Nat} {v : Value} {l : List α} (h : E.Own w base v l) (hb : Below w.heap.size w w') : E.Own w' base v l :=
  h.chg (Chg.of_below (s := fun _ => False) hb) (fun _ _ h => h)
theorem Els.Own.kept {w w' : World} {base : Nat} {v : Value} {l : List α} {row : Option Nat} (h : E.Own w base v l) (hg : w.grownBy w' row) (hne : v.ownBlock = none ∨ v.ownBlock ≠ row) : E.Own w' base v l := ⟨h.1, World.ownsRow.kept h.2 hg hne⟩
theorem Els.Own.keep {w w' : World} {base : Nat} {v : Value} {l : List α} {row : Option Nat} (h : E.Own w base v l) (hg : w.grownBy w' row) (hne : ∀ g, v.ownBlock = some g → row ≠ some g) : E.Own w' base v l := by
  refine h.kept hg ?_
  cases hv : v.ownBlock with
  | none => exact .inl rfl
  | some g => exact .inr fun e => hne g hv e.symm
theorem Els.Own.base {w : World} {base b' : Nat} {v : Value} {l : List α} (h : E.Own w base v l) (hb : b' ≤ base) : E.Own w b' v l := by
  refine ⟨h.1, h.2.1, ?_⟩
  rcases h.2.2 with hn | ⟨g, cap, cur, hv, h1, hrest⟩
  · exact .inl hn
  · exact .inr ⟨g, cap, cur, hv, Nat.le_trans hb h1, hrest⟩
/-- Elements are appended to a slice of the call's own: at the operation. -/
theorem Els.wp_append {w : World} {o : Oper} {a : Act} {K : Act → World → Prop} {Q : Exit → Act → World → Prop} (s x : Operand)
    (ho : o.op = .call { callee := .builtin .append, args := #[s, x], argTypes := #[E.s, E.s] })
    (base : Nat) (v : Value) (A : List α) (hs : a.eval s = v) (hown : E.Own w base v A)
    (y : Option Addr) (n cy : Nat) (B : List α) (hx : a.eval x = .slice y n cy) (hn : n = B.length) (hB : E.At w y B)
    (h63 : A.length + B.length ≤ maxLen) (hl : (A.length + B.length) * E.bytes ≤ 140737488355328) (hbase : base ≤ w.heap.size)
    (h : ∀ v' w', E.Own w' base v' (A ++ B) → w.grownBy w' v.ownBlock → (v'.ownBlock = v.ownBlock ∨ v'.ownBlock = some w.heap.size) → K (a.put o.dst v') w') :
    Oper.wp Tryd.prog o a w K Q := by
  subst hn
  obtain ⟨i, z, ki, kz0, kz1, kz2, kz3⟩ := E.info
  by_cases hB0 : B = []
  · subst hB0
    have hsrc : Src Tryd.prog i.size E.s (.slice y 0 cy) 0 [] w := by
      cases y with
      | none => exact Src.ofNil w E.hs cy
      | some ad => exact Src.ofSlice w E.hs ad 0 cy [] (by simp) (fun j u hu => by simp at hu) (fun u hu => by cases hu)
    have hfin : ∀ (b' : Option Addr) (n' c' : Nat), v = .slice b' n' c' → n' ≤ c' → Oper.wp Tryd.prog o a w K Q := fun b' n' c' hv hle => by
      have hr := run_append_nothing (P := Tryd.prog) w E.s E.s o.type E.e i E.hs ki b' n' c' hle (.slice y 0 cy) hsrc
      have hx' : a.eval x = .slice y 0 cy := hx
      unfold Oper.wp execOp
      simp only [ho, resolve, invoke, builtin, Sem.run_bind, Sem.run_pure, Result.andThen_ok, List.map_toArray, List.map_cons, List.map_nil, hs, hv, hx', hr]
      rw [← hv]
      exact h _ w (by rw [List.append_nil]; exact hown) ⟨rfl, rfl, rfl, Nat.le_refl _, fun _ _ _ => rfl⟩ (.inl rfl)
    rcases hown.2.2 with ⟨hv, _⟩ | ⟨g, cap, cur, hv, _, _, hc, _⟩
    · exact hfin _ _ _ hv (Nat.le_refl _)
    · exact hfin _ _ _ hv hc
  · have hp : 0 < B.length := List.length_pos_iff.2 hB0
    obtain ⟨ad, rfl, _⟩ := hB.some_ hp
    refine wp_append_lies w s x E.s ho base E.e i z E.sz E.bytes E.hs ki kz0 kz1 kz2 kz3 E.pos v A.length (E.row A) hs hown.2 ad B.length cy (E.row B) hx (E.row_len hB.ok) hB.row (E.row_ones hB.ok) hp h63 hl hbase _ rfl fun g cap w' h2 h3 h4 _ => ?_
    refine h _ w' ⟨fun u hu => ?_, ?_⟩ h3 ?_
    · rcases List.mem_append.1 hu with hu | hu
      · exact hown.1 u hu
      · exact hB.ok u hu
    · rw [List.length_append, E.row_app]
      exact h2
    · rcases h4 with h4 | h4
      · exact .inl h4.symm
      · exact .inr (by rw [h4]; rfl)
/-- The same in a plain region. -/
theorem Els.wpList_append {w : World} {ops : Array Oper} {rest : List Oper} {o : Oper} {a : Act} {Q : Exit → Act → World → Prop} (hw : Region.wanted o (yielded ops a.tmps) = true) (s x : Operand)
    (ho : o.op = .call { callee := .builtin .append, args := #[s, x], argTypes := #[E.s, E.s] })
    (base : Nat) (v : Value) (A : List α) (hs : a.eval s = v) (hown : E.Own w base v A)
    (y : Option Addr) (n cy : Nat) (B : List α) (hx : a.eval x = .slice y n cy) (hn : n = B.length) (hB : E.At w y B)
    (h63 : A.length + B.length ≤ maxLen) (hl : (A.length + B.length) * E.bytes ≤ 140737488355328) (hbase : base ≤ w.heap.size)
    (h : ∀ v' w', E.Own w' base v' (A ++ B) → w.grownBy w' v.ownBlock → (v'.ownBlock = v.ownBlock ∨ v'.ownBlock = some w.heap.size) → wpList Tryd.prog ops Q rest (a.put o.dst v') w') :
    wpList Tryd.prog ops Q (o :: rest) a w := by
  refine wpList_step fun K hK => ?_
  rw [if_pos hw]
  exact Els.wp_append s x ho base v A hs hown y n cy B hx hn hB h63 hl hbase fun v' w' h1 h2 h3 => hK _ _ (h v' w' h1 h2 h3)
/-- The same at a step of a region that draws its order. -/
theorem Els.step_append {w : World} {ops : Array Oper} {o : Oper} {a : Act} {K : Act → World → Prop} {Q : Exit → Act → World → Prop} {F : Prop} (hw : Region.wanted o (yielded ops a.tmps) = true) (s x : Operand)
    (ho : o.op = .call { callee := .builtin .append, args := #[s, x], argTypes := #[E.s, E.s] })
    (base : Nat) (v : Value) (A : List α) (hs : a.eval s = v) (hown : E.Own w base v A)
    (y : Option Addr) (n cy : Nat) (B : List α) (hx : a.eval x = .slice y n cy) (hn : n = B.length) (hB : E.At w y B)
    (h63 : A.length + B.length ≤ maxLen) (hl : (A.length + B.length) * E.bytes ≤ 140737488355328) (hbase : base ≤ w.heap.size)
    (h : ∀ v' w', E.Own w' base v' (A ++ B) → w.grownBy w' v.ownBlock → (v'.ownBlock = v.ownBlock ∨ v'.ownBlock = some w.heap.size) → K (a.put o.dst v') w') :
    if Region.wanted o (yielded ops a.tmps) = true then Oper.wp Tryd.prog o a w K Q else F := by
  rw [if_pos hw]
  exact Els.wp_append s x ho base v A hs hown y n cy B hx hn hB h63 hl hbase h
/-- What holds of an operation outright holds of it where a fence lets everything through (but for rows of functions). -/
theorem ls_wpIn_of {P : Program} {n : Nat} {o : Oper} {a : Act} {w : World} {K : Act → World → Prop} {Q : Exit → Act → World → Prop} (hrow : ∀ r args w', (execOp a.eval o).run P w ≠ .ok (.row r args) w') (h : o.wp P a w K Q) : o.wpIn Fence.wide n P a w K Q := by
  refine ⟨fun f _ => trivial, ?_⟩
  rw [show Fence.wide.round = none from rfl, Oper.semAt_none]
  unfold Oper.wp at h
  generalize hr : (execOp a.eval o).run P w = r at h hrow ⊢
  cases r with
  | ok nx w' =>
    cases nx with
    | value v => exact h
    | skip => exact h
    | defer d => exact h
    | enter f args => exact ⟨fun e => (by cases e), callsIn_wide.2 h⟩
    | row r args => exact absurd rfl (hrow r args w')
    | round => exact h.elim
    | _ => exact h.elim
  | halt x w' => cases x <;> exact h
theorem ls_wpListIn_of {P : Program} {n : Nat} {ops : Array Oper} {rest : List Oper} {o : Oper} {a : Act} {w : World} {Q : Exit → Act → World → Prop} (hg : o.guard = none) (hrow : ∀ r args w', (execOp a.eval o).run P w ≠ .ok (.row r args) w')
    (h : ∀ K : Act → World → Prop, (∀ a w, wpListIn Fence.wide n P ops Q rest a w → K a w) → o.wp P a w K Q) : wpListIn Fence.wide n P ops Q (o :: rest) a w :=
  wpListIn_plain hg fun K hK => ls_wpIn_of hrow (h K hK)
theorem ls_norow_buildSlice {P : Program} {o : Oper} {a : Act} {w : World} {t : TypeId} {len : Nat} {parts : Array (Nat × Operand)} (ho : o.op = .buildSlice t len parts) : ∀ r args w', (execOp a.eval o).run P w ≠ .ok (.row r args) w' := by
  intro r args w' h
  unfold execOp at h
  simp only [ho, Sem.run_bind, Sem.run_pure] at h
  generalize (Instr.buildSlice t len _).run P w = x at h
  cases x <;> simp [Result.andThen] at h
theorem ls_norow_append {P : Program} {o : Oper} {a : Act} {w : World} {args : Array Operand} {ts : Array TypeId} (ho : o.op = .call { callee := .builtin .append, args := args, argTypes := ts }) : ∀ r args w', (execOp a.eval o).run P w ≠ .ok (.row r args) w' := by
  intro r args w' h
  unfold execOp at h
  simp only [ho, resolve, invoke, builtin, Sem.run_bind, Sem.run_pure, Result.andThen_ok] at h
  generalize (Builtin.append_ _ _ _).run P w = x at h
  cases x <;> simp [Result.andThen] at h
/-- The same where a fence lets everything through. -/
theorem Els.wpListIn_append {n' : Nat} {w : World} {ops : Array Oper} {rest : List Oper} {o : Oper} {a : Act} {Q : Exit → Act → World → Prop} (hg : o.guard = none) (s x : Operand)
    (ho : o.op = .call { callee := .builtin .append, args := #[s, x], argTypes := #[E.s, E.s] })
    (base : Nat) (v : Value) (A : List α) (hs : a.eval s = v) (hown : E.Own w base v A)
    (y : Option Addr) (n cy : Nat) (B : List α) (hx : a.eval x = .slice y n cy) (hn : n = B.length) (hB : E.At w y B)
    (h63 : A.length + B.length ≤ maxLen) (hl : (A.length + B.length) * E.bytes ≤ 140737488355328) (hbase : base ≤ w.heap.size)
    (h : ∀ v' w', E.Own w' base v' (A ++ B) → w.grownBy w' v.ownBlock → (v'.ownBlock = v.ownBlock ∨ v'.ownBlock = some w.heap.size) → wpListIn Fence.wide n' Tryd.prog ops Q rest (a.put o.dst v') w') :
    wpListIn Fence.wide n' Tryd.prog ops Q (o :: rest) a w :=
  ls_wpListIn_of hg (ls_norow_append ho) fun _ hK => Els.wp_append s x ho base v A hs hown y n cy B hx hn hB h63 hl hbase fun v' w' h1 h2 h3 => hK _ _ (h v' w' h1 h2 h3)
/-! ### A slice literal -/
theorem Els.wp_lit {w : World} {o : Oper} {a : Act} {K : Act → World → Prop} {Q : Exit → Act → World → Prop} (n : Nat) (parts : Array (Nat × Operand)) (ho : o.op = .buildSlice E.s n parts)
    (l : List α) (hl : ∀ a ∈ l, E.ok a) (hn : l.length = n) (V : α → Value) (hV : ∀ d ∈ l, (V d).cells = (E.enc d).toArray)
    (hp : (parts.map fun (i, x) => (i, a.eval x)).toList = ((l.map V).zipIdx 0).map fun x => (x.2, x.1)) (h0 : 0 < n) (hsm : n * E.sz ≤ 2 ^ 24)
    (h : K (a.put o.dst (.slice (some ⟨w.heap.size, 0, none⟩) n n)) (w.alloc (.cells (E.row l).toArray E.e))) : o.wp Tryd.prog a w K Q := by
  obtain ⟨i, z, ki, kz0, kz1, kz2, kz3⟩ := E.info
  have hp0 := E.pos
  refine wp_buildSlice E.s E.e n parts ho (E.row l).toArray i z E.hs ki kz0 (by rw [kz1]; omega) (by rw [kz1]; exact Nat.ne_of_gt (Nat.mul_pos h0 hp0)) ?_ h
  rw [hp, kz1]
  have hc : ∀ v ∈ l.map V, v.cells.size = E.sz := fun v hv => by
    obtain ⟨d, hd, rfl⟩ := List.mem_map.1 hv
    rw [hV d hd, List.size_toArray, E.len (hl d hd)]
  have := Great.fill_whole hp0 (l.map V) ((Array.range (n * E.sz)).map (z.cells[· % z.cells.size]!)) hc (by simp [hn])
  rw [this]
  congr 2
  clear this hp hn h hc
  rw [List.flatMap_map]
  unfold Els.row
  induction l with
  | nil => rfl
  | cons d l ih =>
    rw [List.flatMap_cons, List.flatMap_cons, hV d (by simp), List.toList_toArray, ih (fun a ha => hl a (by simp [ha])) (fun a ha => hV a (by simp [ha]))]
theorem Els.wpList_lit {w : World} {ops : Array Oper} {rest : List Oper} {o : Oper} {a : Act} {Q : Exit → Act → World → Prop} (hw : Region.wanted o (yielded ops a.tmps) = true) (n : Nat) (parts : Array (Nat × Operand)) (ho : o.op = .buildSlice E.s n parts)
    (l : List α) (hl : ∀ a ∈ l, E.ok a) (hn : l.length = n) (V : α → Value) (hV : ∀ d ∈ l, (V d).cells = (E.enc d).toArray)
    (hp : (parts.map fun (i, x) => (i, a.eval x)).toList = ((l.map V).zipIdx 0).map fun x => (x.2, x.1)) (h0 : 0 < n) (hsm : n * E.sz ≤ 2 ^ 24)
    (h : wpList Tryd.prog ops Q rest (a.put o.dst (.slice (some ⟨w.heap.size, 0, none⟩) n n)) (w.alloc (.cells (E.row l).toArray E.e))) : wpList Tryd.prog ops Q (o :: rest) a w := by
  refine wpList_step fun K hK => ?_
  rw [if_pos hw]
  exact Els.wp_lit n parts ho l hl hn V hV hp h0 hsm (hK _ _ h)
theorem Els.wpListIn_lit {n' : Nat} {w : World} {ops : Array Oper} {rest : List Oper} {o : Oper} {a : Act} {Q : Exit → Act → World → Prop} (hg : o.guard = none) (n : Nat) (parts : Array (Nat × Operand)) (ho : o.op = .buildSlice E.s n parts)
    (l : List α) (hl : ∀ a ∈ l, E.ok a) (hn : l.length = n) (V : α → Value) (hV : ∀ d ∈ l, (V d).cells = (E.enc d).toArray)
    (hp : (parts.map fun (i, x) => (i, a.eval x)).toList = ((l.map V).zipIdx 0).map fun x => (x.2, x.1)) (h0 : 0 < n) (hsm : n * E.sz ≤ 2 ^ 24)
    (h : wpListIn Fence.wide n' Tryd.prog ops Q rest (a.put o.dst (.slice (some ⟨w.heap.size, 0, none⟩) n n)) (w.alloc (.cells (E.row l).toArray E.e))) : wpListIn Fence.wide n' Tryd.prog ops Q (o :: rest) a w :=
  ls_wpListIn_of hg (ls_norow_buildSlice ho) fun _ hK => Els.wp_lit n parts ho l hl hn V hV hp h0 hsm (hK _ _ h)
/-! ### An element is read whole -/
theorem ls_loadVar (w : World) (a : Addr) (ty : TypeId) (cs : List Value) (d : TypeDesc) (hc : ∀ j v, cs[j]? = some v → w.cell? (a.add j) = some v)
    (hu : Tryd.prog.underlying ty = some d) (hd : d.isRow = true) (hi : (Tryd.prog.info? ty).map (·.size) = some cs.length) :
    (loadVar ty a).run Tryd.prog w = .ok (.agg cs.toArray) w := by
  have hl := run_loadCells_list (P := Tryd.prog) w a cs hc
  cases hq : Tryd.prog.info? ty with
  | none => simp [hq] at hi
  | some i =>
    have hs : i.size = cs.length := by simpa [hq] using hi
    have hagg : (isAgg ty).run Tryd.prog w = .ok true w := by
      unfold isAgg
      rw [Sem.run_bind, run_underlying hu w]
      cases d <;> simp_all
    simp [loadVar, Sem.run_bind, hagg, sizeOf, typeInfo, hq, hs, hl]
theorem ls_wpList_load {ops : Array Oper} {rest : List Oper} {op : Oper} {a : Act} {w : World} {Q : Exit → Act → World → Prop} (hw : Region.wanted op (yielded ops a.tmps) = true) (ty : TypeId) (x : Operand) (ho : op.op = .load ty x)
    (p : Addr) (hx : a.eval x = .pointer (some p)) (cs : List Value) (d : TypeDesc) (hc : ∀ j v, cs[j]? = some v → w.cell? (p.add j) = some v)
    (hu : Tryd.prog.underlying ty = some d) (hd : d.isRow = true) (hi : (Tryd.prog.info? ty).map (·.size) = some cs.length)
    (h : wpList Tryd.prog ops Q rest (a.put op.dst (.agg cs.toArray)) w) : wpList Tryd.prog ops Q (op :: rest) a w := by
  rw [wpList, if_pos hw]
  refine .inl ?_
  unfold Oper.wp execOp
  simp only [ho, hx, Instr.loadAt, Instr.sureAddr, Sem.run_bind, Sem.run_pure, Result.andThen_ok, ls_loadVar w p ty cs d hc hu hd hi]
  exact h
/-- In a region that draws its order and only reads (wpStill). -/
theorem ls_wpStill_load {ops : Array Oper} {rest : List Oper} {op : Oper} {a : Act} {w : World} {Q : Act → Prop} (hw : Region.wanted op (yielded ops a.tmps) = true) (ty : TypeId) (x : Operand) (ho : op.op = .load ty x)
    (p : Addr) (hx : a.eval x = .pointer (some p)) (cs : List Value) (d : TypeDesc) (hc : ∀ j v, cs[j]? = some v → w.cell? (p.add j) = some v)
    (hu : Tryd.prog.underlying ty = some d) (hd : d.isRow = true) (hi : (Tryd.prog.info? ty).map (·.size) = some cs.length)
    (h : wpStill Tryd.prog ops w Q rest (a.put op.dst (.agg cs.toArray))) : wpStill Tryd.prog ops w Q (op :: rest) a := by
  refine wpStill_step fun K hK => ?_
  rw [if_pos hw]
  unfold Oper.still execOp
  simp only [ho, hx, Instr.loadAt, Instr.sureAddr, Sem.run_bind, Sem.run_pure, Result.andThen_ok, ls_loadVar w p ty cs d hc hu hd hi]
  exact ⟨rfl, hK _ h⟩
/-- In a region whose class of worlds is C (wpQuietIn). -/
theorem ls_wpQuiet_load {F : Fence} {n : Nat} {ops : Array Oper} {C : World → Prop} {Q : Act → Prop} {o : Oper} {rest : List Oper} {a : Act} (hF : ∀ f, F.fn f) (hw : Region.wanted o (yielded ops a.tmps) = true) (ty : TypeId) (x : Operand) (ho : o.op = .load ty x)
    (p : Addr) (hx : a.eval x = .pointer (some p)) (cs : List Value) (d : TypeDesc) (hc : ∀ w, C w → ∀ j v, cs[j]? = some v → w.cell? (p.add j) = some v)
    (hu : Tryd.prog.underlying ty = some d) (hd : d.isRow = true) (hi : (Tryd.prog.info? ty).map (·.size) = some cs.length)
    (h : wpQuietIn F n Tryd.prog ops C Q rest (a.put o.dst (.agg cs.toArray))) : wpQuietIn F n Tryd.prog ops C Q (o :: rest) a :=
  wpQuietIn_step (fun _ _ f _ => hF f) (fun K hK => by
    rw [if_pos hw]
    exact ⟨.agg cs.toArray, fun w hC => by
    unfold Oper.quietAtIn execOp
    simp only [ho, hx, Instr.loadAt, Instr.sureAddr, Sem.run_bind, Sem.run_pure, Result.andThen_ok, ls_loadVar w p ty cs d (hc w hC) hu hd hi]
    exact ⟨rfl, rfl⟩, hK _ h⟩)
theorem ls_wpListIn_store_row {P : Program} {n : Nat} {ops : Array Oper} {rest : List Oper} {o : Oper} {a : Act} {w : World} {Q : Exit → Act → World → Prop} (hgd : o.guard = none) (ty : TypeId) (x y : Operand) (ho : o.op = .store ty x y)
    (g : Nat) (cells : Array Value) (hx : a.eval x = .pointer (some ⟨g, 0, none⟩)) (hy : a.eval y = .agg cells)
    (t : TypeId) (old : Array Value) (hg : w.heap[g]? = some (.cells old t (0, 0))) (hi : (P.info? ty).map (·.size) = some cells.size)
    (hold : old.size = cells.size) (h1 : cells.all (·.oneCell') = true)
    (h : wpListIn Fence.wide n P ops Q rest (a.put o.dst undef) (w.setRow g cells)) : wpListIn Fence.wide n P ops Q (o :: rest) a w := by
  refine wpListIn_plain hgd fun K hK => ⟨fun f _ => trivial, ?_⟩
  rw [show Fence.wide.round = none from rfl, Oper.semAt_none]
  unfold execOp
  simp only [ho, hx, hy, Instr.storeAt, Instr.sureAddr, Sem.run_bind, Sem.run_pure, Result.andThen_ok, run_storeVar_row w g t ty old cells hg hi hold h1]
  exact hK _ _ h
/-- Worlds that have no more than new blocks. -/
structure Afters (w : World) where
  v : World
  h : Below w.heap.size w v
instance (w : World) : Nonempty (Afters w) := ⟨⟨w, Below.refl _ _⟩⟩
/-! ### A list that comes in -/
section
variable {H : Type} {enc : TypeId × Value → H} {W : World} {base : Nat} {sp : Nat → Bool} {held : Bool}
theorem Els.open (hop : ∀ {fuel : Nat} {cs : List Value} {x : DataW H × List MemPlace}, DataW.trod enc Tryd.prog W base sp held fuel E.e cs = some x → ∃ r : α, E.ok r ∧ cs = E.enc r)
    {fuel : Nat} {v : Value} {x : DataW H × List MemPlace} (h : DataW.trod enc Tryd.prog W base sp held fuel E.s [v] = some x) [Inhabited α] :
    ∃ (l : List α) (xp : Option Addr) (cp : Nat), v = .slice xp l.length cp ∧ E.At W xp l ∧ l.length ≤ maxLen := by
  rcases open_slice E.hs h with ⟨hcs, _⟩ | ⟨a, len, cap, m, n, D, Pl, hcs, _, hl, hm, hmm, hdx, hx⟩
  · exact ⟨[], none, 0, (List.cons.inj hcs).1, (fun i p hi => by cases hi), Nat.zero_le _⟩
  · have hlm : len ≤ m := by rw [hmm]; split <;> omega
    rw [E.cells] at hx
    have key : ∀ i, i < len → ∃ z : α, E.ok z ∧ a.block < W.heap.size ∧ ∀ j v, (E.enc z)[j]? = some v → W.cell? ((a.add (i * E.sz)).add j) = some v := by
      intro i hi
      obtain ⟨cs', h1, h2⟩ := hx i (by omega)
      obtain ⟨_, h3, hat⟩ := World.cells?_some h1
      obtain ⟨r, hr, rfl⟩ := hop h2
      have hp := E.pos
      have hl := E.len hr
      have q0 := hat 0 hp
      rw [Addr.add_zero'] at q0
      have hb := World.block_lt_of_cell? W _ (q0.trans (List.getElem?_eq_getElem (show 0 < (E.enc r).length by omega)))
      rw [ls_add_blk] at hb
      refine ⟨r, hr, hb, fun j v hj => ?_⟩
      have hj4 : j < E.sz := by rw [← hl]; exact (List.getElem?_eq_some_iff.1 hj).1
      exact (hat j hj4).trans hj
    obtain ⟨f, hf⟩ := choose_lt key
    have e1 : ((List.range len).map f).length = len := by rw [List.length_map, List.length_range]
    have e2 : v = .slice (some a) len cap := (List.cons.inj hcs).1
    refine ⟨(List.range len).map f, some a, cap, by rw [e1]; exact e2, fun i p hi => ?_, ?_⟩
    · have hlt : i < len := by
        have := (List.getElem?_eq_some_iff.1 hi).1
        rwa [e1] at this
      rw [List.getElem?_map, List.getElem?_range hlt] at hi
      obtain rfl : f i = p := Option.some.inj hi
      exact ⟨(hf i hlt).1, a, rfl, (hf i hlt).2⟩
    · rw [e1]
      omega
end
end
end Go.Proofs.YtemnfnmkhfgopaaDoor
