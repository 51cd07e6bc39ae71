/- Layer 16: the ground in memory: a map of places. -/
import Derived.Test.YtokeiagcdahmaaaDoorTtF
import Derived.Maps.OwnSet
import Derived.Maps.Ext
import Derived.Maps.RangeWalk
import Derived.Lib.SlMapFilter
namespace Go.Proofs.YtokeiagcdahmaaaDoor
open Go.RowKit Go.Maps

theorem str_inj {a b : List UInt8} (h : str a = str b) : a = b := by
  have := congrArg (fun s : ByteArray => s.data.toList) h
  exact this
theorem plA_inj {p q : Pl} (h : plA p = plA q) : p = q := by
  obtain ⟨⟨p1, p2, p3, p4⟩, p5⟩ := p
  obtain ⟨⟨q1, q2, q3, q4⟩, q5⟩ := q
  have h2 := congrArg Array.toList h
  simp only [plA, List.cons.injEq, Value.string.injEq, Value.int.injEq, true_and, and_true] at h2
  obtain ⟨h1, rfl, rfl, h4, rfl⟩ := h2
  have := str_inj h1
  have := str_inj h4
  subst_vars
  rfl
open Classical in
/-- How a place reads: as itself. -/
noncomputable def plR (v : Value) : Option (DataW Pl × List MemPlace) := if h : ∃ p, v = .agg (plA p) then some (.held (Classical.choose h), []) else none
theorem plR_mk (p : Pl) : plR (.agg (plA p)) = some (.held p, []) := by
  unfold plR
  have h : ∃ q, Value.agg (plA p) = .agg (plA q) := ⟨p, rfl⟩
  rw [dif_pos h]
  have := Classical.choose_spec h
  have e : plA p = plA (Classical.choose h) := by injection this
  rw [← plA_inj e]
theorem plR_inv {v : Value} {z : DataW Pl × List MemPlace} (h : plR v = some z) : ∃ p, v = .agg (plA p) ∧ z = (.held p, []) := by
  unfold plR at h
  split at h
  · rename_i hp
    cases h
    exact ⟨_, Classical.choose_spec hp, rfl⟩
  · cases h
def datG (g : List Pl) : DataW Pl := .map (g.map fun p => (.string p.nd.path, .held p))
theorem string_key (a b : List UInt8) : (Lit.string a).sameKey (.string b) = decide (a = b) := by
  show (a == b) = decide (a = b)
  exact Bool.eq_iff_iff.2 (by rw [beq_iff_eq, decide_eq_true_eq])
theorem filter_dat (g : List Pl) (f : Lit × DataW Pl → Bool) : (g.map fun p => ((Lit.string p.nd.path, DataW.held p) : Lit × DataW Pl)).filter f = (g.filter fun p => f (.string p.nd.path, .held p)).map fun p => (Lit.string p.nd.path, DataW.held p) := by
  rw [List.filter_map]
  rfl
theorem ins_dat (p : Pl) : ∀ g : List Pl, DataW.insert (Lit.string p.nd.path, DataW.held p) (g.map fun q => (Lit.string q.nd.path, DataW.held q)) = (insG p g).map fun q => (Lit.string q.nd.path, DataW.held q)
  | [] => rfl
  | y :: r => by
    rw [List.map_cons]
    unfold DataW.insert insG
    show (if bytesBefore p.nd.path y.nd.path = true then _ else _) = _
    split
    · rfl
    · rw [ins_dat p r]; rfl
theorem dat_put (g : List Pl) (p : Pl) : (datG g).put (.string p.nd.path) (.held p) = datG (putG g p) := by
  unfold datG DataW.put putG
  simp only
  rw [filter_dat, ← ins_dat]
  have e : (fun q : Pl => !(Lit.string q.nd.path).sameKey (.string p.nd.path)) = fun q => !decide (q.nd.path = p.nd.path) := by
    funext q
    rw [string_key]
  rw [e]
theorem dat_look (g : List Pl) (s : List UInt8) (z : DataW Pl) : (datG g).atKey (.string s) z = match lookG g s with | some p => .held p | none => z := by
  unfold datG DataW.atKey lookG
  simp only
  rw [List.find?_map]
  have e : ((fun p : Lit × DataW Pl => p.1.sameKey (.string s)) ∘ fun p : Pl => (Lit.string p.nd.path, DataW.held p)) = fun q : Pl => decide (q.nd.path = s) := by
    funext q
    exact string_key _ _
  rw [e]
  cases List.find? (fun q : Pl => decide (q.nd.path = s)) g <;> rfl
theorem dat_has (g : List Pl) (s : List UInt8) : Maps.has (datG g) (.string s) = (lookG g s).isSome := by
  unfold datG lookG
  rw [has_eq, List.any_map, Bool.eq_iff_iff, List.find?_isSome, List.any_eq_true]
  constructor
  · rintro ⟨p, hp, h⟩
    exact ⟨p, hp, by have := h; simp only [Function.comp, string_key] at this; exact this⟩
  · rintro ⟨p, hp, h⟩
    exact ⟨p, hp, by simp only [Function.comp, string_key]; exact h⟩
theorem dat_size (g : List Pl) : Maps.size (datG g) = g.length := by unfold datG; rw [size_eq, List.length_map]
theorem dat_filter (g : List Pl) (pd : Lit → DataW Pl → Bool) : Lib.deleteFuncD pd (datG g) = datG (g.filter fun p => !pd (.string p.nd.path) (.held p)) := by
  unfold datG Lib.deleteFuncD
  simp only
  rw [filter_dat]
theorem key_path (s : List UInt8) (hs : s.length ≤ maxLen) : keyOf Tryd.prog 9 (.string (str s)) = some (.string s) := Go.WideMaps.keyOf_string_mk Tryd.underlying9 (by rw [str_size]; exact hs)
theorem key_law : Keyed Tryd.prog 9 := string_keyed Tryd.underlying9
theorem zero_pl (w : World) : (zeroValue 54).run Tryd.prog w = .ok (.agg (plA ⟨⟨[], 0, 0, []⟩, 0⟩)) w := by kernel_rfl
/-- The ground's map, at block M. -/
def MapG (w : World) (M : Nat) (g : List Pl) : Prop := w.ownsMap Tryd.prog 9 plR M g.length (datG g)
theorem MapG.of {w : World} {M n : Nat} {g : List Pl} (h : w.ownsMap Tryd.prog 9 plR M n (datG g)) : MapG w M g := by
  obtain ⟨es, clock, hb, F, hs, hD⟩ := h
  refine ⟨es, clock, hb, F, ?_, hD⟩
  have h1 := dat_size g
  rw [hD] at h1
  have e1 : Maps.size (DataW.map ((es.toList.map (WideElems.rg Tryd.prog 9 plR)).foldr DataW.insert [])) = es.size := by simp [Maps.size, length_sorted]
  omega
theorem MapG.lt {w : World} {M : Nat} {g : List Pl} (h : MapG w M g) : M < w.heap.size := World.ownsMap.lt h
theorem MapG.chg {s : Nat → Prop} {w w' : World} {M : Nat} {g : List Pl} (h : MapG w M g) (hc : Chg s w w') (hs : ¬ s M) : MapG w' M g := by
  have hlt := h.lt
  obtain ⟨es, clock, hb, r⟩ := h
  exact ⟨es, clock, (hc.block M hlt hs).trans hb, r⟩
theorem MapG.below {w w' : World} {M : Nat} {g : List Pl} (h : MapG w M g) (hb : Below w.heap.size w w') : MapG w' M g := h.chg (s := fun _ => False) (Chg.of_below hb) id
/-- A place is laid. -/
theorem MapG.put {w : World} {M : Nat} {g : List Pl} (h : MapG w M g) (hn : g.length < maxLen) (p : Pl) (hp : p.nd.path.length ≤ maxLen) :
    ∃ w', (Instr.mapUpdate 50 (.map (some M)) (.string (str p.nd.path)) (.agg (plA p))).run Tryd.prog w = .ok () w' ∧ MapG w' M (putG g p) ∧ w.grownBy w' (some M) := by
  obtain ⟨w', h1, h2, h3⟩ := World.ownsMap.update h key_law Tryd.underlying50 hn (key_path p.nd.path hp) (plR_mk p)
  rw [dat_put] at h2
  exact ⟨w', h1, MapG.of h2, h3⟩
/-- What is looked up. -/
def getG (g : List Pl) (s : List UInt8) : Pl := (lookG g s).getD ⟨⟨[], 0, 0, []⟩, 0⟩
theorem MapG.get {w : World} {M : Nat} {g : List Pl} (h : MapG w M g) (s : List UInt8) (hs : s.length ≤ maxLen) :
    (Instr.lookup 50 (.map (some M)) (.string (str s)) false).run Tryd.prog w = .ok (.agg (plA (getG g s))) w := by
  obtain ⟨v, ps, h1, h2⟩ := World.ownsMap.lookup h key_law Tryd.underlying50 (zero_pl w) (plR_mk _) (key_path s hs)
  obtain ⟨p, rfl, h3⟩ := plR_inv h2
  rw [h1]
  rw [dat_look] at h3
  have : getG g s = p := by
    unfold getG
    cases e : lookG g s with
    | none => rw [e] at h3; simp at h3; exact h3.1
    | some q => rw [e] at h3; simp at h3; exact h3.1
  rw [this]
theorem MapG.get2 {w : World} {M : Nat} {g : List Pl} (h : MapG w M g) (s : List UInt8) (hs : s.length ≤ maxLen) :
    (Instr.lookup 50 (.map (some M)) (.string (str s)) true).run Tryd.prog w = .ok (.tuple #[.agg (plA (getG g s)), .bool (lookG g s).isSome]) w := by
  obtain ⟨v, ps, h1, h2⟩ := World.ownsMap.look_ok h key_law Tryd.underlying50 (zero_pl w) (plR_mk _) (key_path s hs)
  obtain ⟨p, rfl, h3⟩ := plR_inv h2
  rw [h1, dat_has]
  rw [dat_look] at h3
  have : getG g s = p := by
    unfold getG
    cases e : lookG g s with
    | none => rw [e] at h3; simp at h3; exact h3.1
    | some q => rw [e] at h3; simp at h3; exact h3.1
  rw [this]
theorem MapG.len {w : World} {M : Nat} {g : List Pl} (h : MapG w M g) (ty : TypeId) : (Builtin.len_ #[50] ty #[.map (some M)]).run Tryd.prog w = .ok (.int .i64 (g.length : Int)) w := by
  have := World.ownsMap.len h Tryd.underlying50 ty
  rwa [dat_size] at this
theorem MapG.made (w : World) : MapG (w.alloc (.map #[] 0)) w.heap.size [] := World.ownsMap_made w Tryd.prog 9 plR
end Go.Proofs.YtokeiagcdahmaaaDoor
#print axioms Go.Proofs.YtokeiagcdahmaaaDoor.MapG.get2
