/- Merged: TtG, TtH. -/
import Derived.Test.YtbjgmkjinnbokaaGreatDoorM12
import Derived.Maps.OwnSet
import Derived.Maps.Ext
import Derived.Maps.RangeWalk
import Derived.Lib.SlMapFilter
/- Layer 16: the ground in memory: a map of places. -/
namespace Go.Proofs.YtbjgmkjinnbokaaGreatDoor
open Go.RowKit Go.Maps

theorem str_inj {a b : List UInt8} (h : str a = str b) : a = b := by
  have := congrArg (fun s : ByteArray => s.data.toList) h
  exact this
theorem plA_inj {p q : Pl} (h : plA p = plA q) : p = q := by
  obtain ⟨⟨p1, p2, p3, p4⟩, p5⟩ := p
  obtain ⟨⟨q1, q2, q3, q4⟩, q5⟩ := q
  have h2 := congrArg Array.toList h
  simp only [plA, List.cons.injEq, Value.string.injEq, Value.int.injEq, true_and, and_true] at h2
  obtain ⟨h1, rfl, rfl, h4, rfl⟩ := h2
  have := str_inj h1
  have := str_inj h4
  subst_vars
  rfl
open Classical in
/-- How a place reads: as itself. -/
noncomputable def plR (v : Value) : Option (DataW Pl × List MemPlace) := if h : ∃ p, v = .agg (plA p) then some (.held (Classical.choose h), []) else none
theorem plR_mk (p : Pl) : plR (.agg (plA p)) = some (.held p, []) := by
  unfold plR
  have h : ∃ q, Value.agg (plA p) = .agg (plA q) := ⟨p, rfl⟩
  rw [dif_pos h]
  have := Classical.choose_spec h
  have e : plA p = plA (Classical.choose h) := by injection this
  rw [← plA_inj e]
theorem plR_inv {v : Value} {z : DataW Pl × List MemPlace} (h : plR v = some z) : ∃ p, v = .agg (plA p) ∧ z = (.held p, []) := by
  unfold plR at h
  split at h
  · rename_i hp
    cases h
    exact ⟨_, Classical.choose_spec hp, rfl⟩
  · cases h
def datG (g : List Pl) : DataW Pl := .map (g.map fun p => (.string p.nd.path, .held p))
theorem string_key (a b : List UInt8) : (Lit.string a).sameKey (.string b) = decide (a = b) := by
  show (a == b) = decide (a = b)
  exact Bool.eq_iff_iff.2 (by rw [beq_iff_eq, decide_eq_true_eq])
theorem filter_dat (g : List Pl) (f : Lit × DataW Pl → Bool) : (g.map fun p => ((Lit.string p.nd.path, DataW.held p) : Lit × DataW Pl)).filter f = (g.filter fun p => f (.string p.nd.path, .held p)).map fun p => (Lit.string p.nd.path, DataW.held p) := by
  rw [List.filter_map]
  rfl
theorem ins_dat (p : Pl) : ∀ g : List Pl, DataW.insert (Lit.string p.nd.path, DataW.held p) (g.map fun q => (Lit.string q.nd.path, DataW.held q)) = (insG p g).map fun q => (Lit.string q.nd.path, DataW.held q)
  | [] => rfl
  | y :: r => by
    rw [List.map_cons]
    unfold DataW.insert insG
    show (if bytesBefore p.nd.path y.nd.path = true then _ else _) = _
    split
    · rfl
    · rw [ins_dat p r]; rfl
theorem dat_put (g : List Pl) (p : Pl) : (datG g).put (.string p.nd.path) (.held p) = datG (putG g p) := by
  unfold datG DataW.put putG
  simp only
  rw [filter_dat, ← ins_dat]
  have e : (fun q : Pl => !(Lit.string q.nd.path).sameKey (.string p.nd.path)) = fun q => !decide (q.nd.path = p.nd.path) := by
    funext q
    rw [string_key]
  rw [e]
theorem dat_look (g : List Pl) (s : List UInt8) (z : DataW Pl) : (datG g).atKey (.string s) z = match lookG g s with | some p => .held p | none => z := by
  unfold datG DataW.atKey lookG
  simp only
  rw [List.find?_map]
  have e : ((fun p : Lit × DataW Pl => p.1.sameKey (.string s)) ∘ fun p : Pl => (Lit.string p.nd.path, DataW.held p)) = fun q : Pl => decide (q.nd.path = s) := by
    funext q
    exact string_key _ _
  rw [e]
  cases List.find? (fun q : Pl => decide (q.nd.path = s)) g <;> rfl
theorem dat_has (g : List Pl) (s : List UInt8) : Maps.has (datG g) (.string s) = (lookG g s).isSome := by
  unfold datG lookG
  rw [has_eq, List.any_map, Bool.eq_iff_iff, List.find?_isSome, List.any_eq_true]
  constructor
  · rintro ⟨p, hp, h⟩
    exact ⟨p, hp, by have := h; simp only [Function.comp, string_key] at this; exact this⟩
  · rintro ⟨p, hp, h⟩
    exact ⟨p, hp, by simp only [Function.comp, string_key]; exact h⟩
theorem dat_size (g : List Pl) : Maps.size (datG g) = g.length := by unfold datG; rw [size_eq, List.length_map]
theorem dat_filter (g : List Pl) (pd : Lit → DataW Pl → Bool) : Lib.deleteFuncD pd (datG g) = datG (g.filter fun p => !pd (.string p.nd.path) (.held p)) := by
  unfold datG Lib.deleteFuncD
  simp only
  rw [filter_dat]
theorem key_path (s : List UInt8) (hs : s.length ≤ maxLen) : keyOf Tryz.prog 9 (.string (str s)) = some (.string s) := Go.WideMaps.keyOf_string_mk Tryz.underlying9 (by rw [str_size]; exact hs)
theorem key_law : Keyed Tryz.prog 9 := string_keyed Tryz.underlying9
theorem zero_pl (w : World) : (zeroValue 64).run Tryz.prog w = .ok (.agg (plA ⟨⟨[], 0, 0, []⟩, 0⟩)) w := by kernel_rfl
/-- The ground's map, at block M. -/
def MapG (w : World) (M : Nat) (g : List Pl) : Prop := w.ownsMap Tryz.prog 9 plR M g.length (datG g)
theorem MapG.of {w : World} {M n : Nat} {g : List Pl} (h : w.ownsMap Tryz.prog 9 plR M n (datG g)) : MapG w M g := by
  obtain ⟨es, clock, hb, F, hs, hD⟩ := h
  refine ⟨es, clock, hb, F, ?_, hD⟩
  have h1 := dat_size g
  rw [hD] at h1
  have e1 : Maps.size (DataW.map ((es.toList.map (WideElems.rg Tryz.prog 9 plR)).foldr DataW.insert [])) = es.size := by simp [Maps.size, length_sorted]
  omega
theorem MapG.lt {w : World} {M : Nat} {g : List Pl} (h : MapG w M g) : M < w.heap.size := World.ownsMap.lt h
theorem MapG.chg {s : Nat → Prop} {w w' : World} {M : Nat} {g : List Pl} (h : MapG w M g) (hc : Chg s w w') (hs : ¬ s M) : MapG w' M g := by
  have hlt := h.lt
  obtain ⟨es, clock, hb, r⟩ := h
  exact ⟨es, clock, (hc.block M hlt hs).trans hb, r⟩
theorem MapG.below {w w' : World} {M : Nat} {g : List Pl} (h : MapG w M g) (hb : Below w.heap.size w w') : MapG w' M g := h.chg (s := fun _ => False) (Chg.of_below hb) id
/-- A place is laid. -/
theorem MapG.put {w : World} {M : Nat} {g : List Pl} (h : MapG w M g) (hn : g.length < maxLen) (p : Pl) (hp : p.nd.path.length ≤ maxLen) :
    ∃ w', (Instr.mapUpdate 60 (.map (some M)) (.string (str p.nd.path)) (.agg (plA p))).run Tryz.prog w = .ok () w' ∧ MapG w' M (putG g p) ∧ w.grownBy w' (some M) := by
  obtain ⟨w', h1, h2, h3⟩ := World.ownsMap.update h key_law Tryz.underlying60 hn (key_path p.nd.path hp) (plR_mk p)
  rw [dat_put] at h2
  exact ⟨w', h1, MapG.of h2, h3⟩
/-- What is looked up. -/
def getG (g : List Pl) (s : List UInt8) : Pl := (lookG g s).getD ⟨⟨[], 0, 0, []⟩, 0⟩
theorem MapG.get {w : World} {M : Nat} {g : List Pl} (h : MapG w M g) (s : List UInt8) (hs : s.length ≤ maxLen) :
    (Instr.lookup 60 (.map (some M)) (.string (str s)) false).run Tryz.prog w = .ok (.agg (plA (getG g s))) w := by
  obtain ⟨v, ps, h1, h2⟩ := World.ownsMap.lookup h key_law Tryz.underlying60 (zero_pl w) (plR_mk _) (key_path s hs)
  obtain ⟨p, rfl, h3⟩ := plR_inv h2
  rw [h1]
  rw [dat_look] at h3
  have : getG g s = p := by
    unfold getG
    cases e : lookG g s with
    | none => rw [e] at h3; simp at h3; exact h3.1
    | some q => rw [e] at h3; simp at h3; exact h3.1
  rw [this]
theorem MapG.get2 {w : World} {M : Nat} {g : List Pl} (h : MapG w M g) (s : List UInt8) (hs : s.length ≤ maxLen) :
    (Instr.lookup 60 (.map (some M)) (.string (str s)) true).run Tryz.prog w = .ok (.tuple #[.agg (plA (getG g s)), .bool (lookG g s).isSome]) w := by
  obtain ⟨v, ps, h1, h2⟩ := World.ownsMap.look_ok h key_law Tryz.underlying60 (zero_pl w) (plR_mk _) (key_path s hs)
  obtain ⟨p, rfl, h3⟩ := plR_inv h2
  rw [h1, dat_has]
  rw [dat_look] at h3
  have : getG g s = p := by
    unfold getG
    cases e : lookG g s with
    | none => rw [e] at h3; simp at h3; exact h3.1
    | some q => rw [e] at h3; simp at h3; exact h3.1
  rw [this]
theorem MapG.len {w : World} {M : Nat} {g : List Pl} (h : MapG w M g) (ty : TypeId) : (Builtin.len_ #[60] ty #[.map (some M)]).run Tryz.prog w = .ok (.int .i64 (g.length : Int)) w := by
  have := World.ownsMap.len h Tryz.underlying60 ty
  rwa [dat_size] at this
theorem MapG.made (w : World) : MapG (w.alloc (.map #[] 0)) w.heap.size [] := World.ownsMap_made w Tryz.prog 9 plR
end Go.Proofs.YtbjgmkjinnbokaaGreatDoor
#print axioms Go.Proofs.YtbjgmkjinnbokaaGreatDoor.MapG.get2

/- Layer 16: the program's groundOf. -/
namespace Go.Proofs.YtbjgmkjinnbokaaGreatDoor
open Go.RowKit

theorem ground_snoc (l : List Nd) (x : Nd) : groundOf (l ++ [x]) = putG (groundOf l) ⟨x, 0⟩ := by simp [groundOf]
theorem cut_recN {α : Type} (P : List α → Prop) (h0 : P []) (h1 : ∀ l x, P l → P (l ++ [x])) : ∀ l, P l := fun l => by
  rcases List.eq_nil_or_concat l with rfl | ⟨r, x, rfl⟩
  · exact h0
  · rw [List.concat_eq_append]
    exact h1 r x (cut_recN P h0 h1 r)
termination_by l => l.length
decreasing_by rename_i h; rw [h]; simp
theorem ground_len (l : List Nd) : (groundOf l).length ≤ l.length := by
  refine cut_recN (fun l => (groundOf l).length ≤ l.length) (Nat.le_refl _) (fun l x h => ?_) l
  rw [ground_snoc, List.length_append]
  have := put_len (groundOf l) ⟨x, 0⟩
  simp only [List.length_singleton]
  omega
theorem ground_rise (l : List Nd) : Rise (groundOf l) := by
  refine cut_recN (fun l => Rise (groundOf l)) List.Pairwise.nil (fun l x h => ?_) l
  rw [ground_snoc]
  exact rise_put h _
set_option maxRecDepth 100000 in
set_option maxHeartbeats 16000000 in
theorem groundOf_any (l : List Nd) (ad : Option Addr) (c : Nat) (hl : l.length ≤ 1000000) (hp : ∀ x ∈ l, x.path.length ≤ 900000) (w : World) (h : NodesAt w ad l) :
    Calls Tryz.prog 14 #[.slice ad l.length c] w fun e w' => e = .returned (.pointer (some ⟨w.heap.size + 1, 0, none⟩)) ∧ rowC w' (w.heap.size + 1) #[.map (some w.heap.size), .int .i64 0] 62 ∧ MapG w' w.heap.size (groundOf l) ∧ Below w.heap.size w w' := by
  have HI := Lib.hid info_nd4
  have hmm := @run_makeMap Tryz.prog
  have HN := Lib.hid h
  have HP := Lib.hid hp
  have HG : Hid (∀ i, i < l.length → ∃ x, l[i]? = some x ∧ groundOf (l.take (i + 1)) = putG (groundOf (l.take i)) ⟨x, 0⟩) := Lib.hid fun i hi => ⟨_, List.getElem?_eq_getElem hi, by rw [List.take_succ_eq_append_getElem hi, ground_snoc]⟩
  have HGL : Hid (∀ i, (groundOf (l.take i)).length ≤ 1000000) := Lib.hid fun i => by
    have := ground_len (l.take i)
    rw [List.length_take] at this
    omega
  have HALL : Hid (l.take l.length = l) := Lib.hid (List.take_length)
  obtain ⟨N, hN⟩ : ∃ N, N = l.length := ⟨_, rfl⟩
  rw [← hN] at hl HG HALL ⊢
  clear h hp hN
  have HM0 : Hid (MapG (w.alloc (.map #[] 0)) w.heap.size []) := Lib.hid (MapG.made w)
  obtain ⟨W0, hW0⟩ : ∃ W0, W0 = (w.alloc (.map #[] 0)).alloc (.cells #[.map (some w.heap.size), .int .i64 0] 62) := ⟨_, rfl⟩
  have HW0 := Lib.hid hW0
  have HR0 : Hid (rowC W0 (w.heap.size + 1) #[.map (some w.heap.size), .int .i64 0] 62) := Lib.hid (by
    have := rowC_new (w.alloc (.map #[] 0)) #[.map (some w.heap.size), .int .i64 0] 62
    rw [size_alloc] at this
    rw [hW0]; exact this)
  have HMM : Hid (MapG W0 w.heap.size []) := Lib.hid (by rw [hW0]; exact HM0.out.below ((Below.refl _ _).alloc (Nat.le_refl _) _))
  have HB0 : Hid (Below w.heap.size w W0) := Lib.hid (by rw [hW0]; exact ((Below.refl _ _).alloc (Nat.le_refl _) _).alloc (by rw [size_alloc]; omega) _)
  clear hW0 HM0
  go_enter Tryz.func14, Tryz.ntmps14
  go_upto_region 3 with (fail)
  rw [← HW0.out]
  go_loopw [5, 11] (fun _ i wr => ∃ k : Nat, k ≤ N ∧ i = .int .i64 k ∧ Hid (rowC wr (w.heap.size + 1) #[.map (some w.heap.size), .int .i64 0] 62) ∧ Hid (MapG wr w.heap.size (groundOf (l.take k))) ∧ Hid (Below w.heap.size w wr)) (fun _ i _ => N - (intOf i).toNat)
  case atStart => exact ⟨0, Nat.zero_le _, rfl, HR0, HMM, HB0⟩
  case round =>
    obtain ⟨k, hk, rfl, hR, hM, hBr⟩ := hrel
    by_cases hlt : k < N
    · obtain ⟨x, hx, hgs⟩ := HG.out k hlt
      obtain ⟨ax, rfl, hax, hcx⟩ := HN.out k x hx
      have HCX : Hid (∀ W, Below w.heap.size w W → ∀ j u, (ndV x)[j]? = some u → W.cell? ((ax.add (k * 4)).add j) = some u) := Lib.hid fun W hb j u hu => by
        rw [cell_far hb (by rw [add_blk, add_blk]; exact hax)]
        exact hcx j u hu
      have HONE := Lib.hid (ndA_one x)
      have HGS := Lib.hid hgs
      have g1 : (k : Int) < (N : Int) := by omega
      have HXL := Lib.hid (HP.out x (List.mem_of_getElem? hx))
      obtain ⟨W1, hW1⟩ : ∃ W1, W1 = wr.alloc (.cells (ndA x) 41) := ⟨_, rfl⟩
      have HW1 := Lib.hid hW1
      have HB1 : Hid (Below w.heap.size w W1) := Lib.hid (by rw [hW1]; exact hBr.out.alloc hBr.out.size _)
      have HZ1 : Hid (rowC W1 wr.heap.size (ndA x) 41) := Lib.hid (by rw [hW1]; exact rowC_new wr _ _)
      have HR1 : Hid (rowC W1 (w.heap.size + 1) #[.map (some w.heap.size), .int .i64 0] 62) := Lib.hid (by rw [hW1]; exact rowC_alloc hR.out _)
      have HM1 : Hid (MapG W1 w.heap.size (groundOf (l.take k))) := Lib.hid (by rw [hW1]; exact hM.out.below ((Below.refl _ _).alloc (Nat.le_refl _) _))
      have hszr : w.heap.size + 1 < wr.heap.size := rowC_lt hR.out
      clear hW1 hx hcx hgs
      go_upto_region 5 with (first
        | ((with_reducible show wpList _ _ _ (⟨some 14, .load _ _, _, _, _, _⟩ :: _) _ _); refine wpList_load_at rfl 41 _ rfl (ax.add (k * 4)) rfl (ndV x) _ (HCX.out wr hBr.out) Tryz.underlying41 rfl HI.out ?_)
        | ((with_reducible show wpList _ _ _ (⟨none, .store _ (.tmp 5) _, _, _, _, _⟩ :: _) _ _); refine wpList_store_last rfl 41 _ _ rfl wr.heap.size (ndA x) rfl rfl 41 _ rfl HI.out rfl HONE.out ?_))
      rw [← HW1.out]
      try simp only [Act.put]
      have OS : ∀ w', Gn W1 (fun j => j = w.heap.size) w' → w'.rangeAt wr.heap.size 0 (ndV x) ∧ w'.cell? ⟨wr.heap.size, 0, none⟩ = some (.string (str x.path)) ∧ w'.cell? ⟨w.heap.size + 1, 0, none⟩ = some (.map (some w.heap.size)) := fun w' hg =>
        ⟨rowC_range (hg.row HZ1.out (by omega)) 0 _ (fun j u hj => by rw [Nat.zero_add, ← ndV_arr, List.getElem?_toArray]; exact hj), rowC_cell (hg.row HZ1.out (by omega)) 0, rowC_cell (hg.row HR1.out (by omega)) 0⟩
      have SO : ∀ w', Gn W1 (fun j => j = w.heap.size) w' → Gn W1 (fun j => j = w.heap.size) w' := fun _ h => h
      have HEND : Hid (∀ w', Gn W1 (fun j => j = w.heap.size) w' → Below w.heap.size w w' ∧ rowC w' (w.heap.size + 1) #[.map (some w.heap.size), .int .i64 0] 62) := Lib.hid fun w' hg => ⟨HB1.out.trans (hg.below HB1.out.size (fun _ h1 h2 => by omega)), hg.row HR1.out (by omega)⟩
      have ui := Tryz.underlying41
      have ii := info_nd4
      refine wp_region_noPanic ?_
      refine wp_region_held_drew (S := Gn W1 (fun j => j = w.heap.size)) (by kernel_rfl) (Gn.start _ _) (fun hHeld => ?_)
      have HMd : Hid (MapG W1.drew w.heap.size (groundOf (l.take k))) := Lib.hid (HM1.out.chg (s := fun _ => False) (Chg.refl _ _).drew id)
      generalize W1.drew = wd at *
      refine wpAnyH_take (i := 0) (oi := { dst := some 15, op := Op.move (Operand.tmp 3), type := 43, pos := "trees.go:189", after := #[], guard := none }) (v := ?_) rfl (by kernel_rfl) (by kernel_rfl) (by kernel_rfl) (fun _ _ _ h => h) (Or.inl ⟨by rfl, ?_⟩) (by assumption) ?_
      rotate_left
      · intro w hSw
        skip
        clear hSw
        go_simp
        try with_reducible rfl
      try simp only [Act.put, List.setIfInBounds_toArray, List.set_cons_zero, List.set_cons_succ]
      refine wpAnyH_take (i := 1) (oi := { dst := some 16, op := Op.nilCheck (Operand.tmp 15), type := 0, pos := "trees.go:189", after := #[{ on := 0, ground := Ground.data }], guard := none }) (v := ?_) rfl (by kernel_rfl) (by kernel_rfl) (by kernel_rfl) (fun _ _ _ h => h) (Or.inl ⟨by rfl, ?_⟩) (by assumption) ?_
      rotate_left
      · intro w hSw
        skip
        clear hSw
        go_simp
        try with_reducible rfl
      try simp only [Act.put, List.setIfInBounds_toArray, List.set_cons_zero, List.set_cons_succ]
      refine wpAnyH_take (i := 2) (oi := { dst := some 17, op := Op.fieldAddr 62 (Operand.tmp 16) 0, type := 0, pos := "trees.go:189", after := #[{ on := 1, ground := Ground.data }], guard := none }) (v := ?_) rfl (by kernel_rfl) (by kernel_rfl) (by kernel_rfl) (fun _ _ _ h => h) (Or.inl ⟨by rfl, ?_⟩) (by assumption) ?_
      rotate_left
      · intro w hSw
        skip
        clear hSw
        go_simp
        try with_reducible rfl
      try simp only [Act.put, List.setIfInBounds_toArray, List.set_cons_zero, List.set_cons_succ]
      refine wpAnyH_take (i := 4) (oi := { dst := some 19, op := Op.fieldAddr 41 (Operand.tmp 5) 0, type := 0, pos := "trees.go:189", after := #[], guard := none }) (v := ?_) rfl (by kernel_rfl) (by kernel_rfl) (by kernel_rfl) (fun _ _ _ h => h) (Or.inl ⟨by rfl, ?_⟩) (by assumption) ?_
      rotate_left
      · intro w hSw
        skip
        clear hSw
        go_simp
        try with_reducible rfl
      try simp only [Act.put, List.setIfInBounds_toArray, List.set_cons_zero, List.set_cons_succ]
      refine wpAnyH_take (i := 3) (oi := { dst := some 18, op := Op.load 60 (Operand.tmp 17), type := 60, pos := "trees.go:189", after := #[{ on := 2, ground := Ground.data }], guard := none }) (v := ?_) rfl (by kernel_rfl) (by kernel_rfl) (by kernel_rfl) (fun _ _ _ h => h) (Or.inl ⟨by rfl, ?_⟩) (by assumption) ?_
      rotate_left
      · intro w hSw
        have hSw := OS _ hSw
        go_simp
        try with_reducible rfl
      try simp only [Act.put, List.setIfInBounds_toArray, List.set_cons_zero, List.set_cons_succ]
      refine wpAnyH_take (i := 5) (oi := { dst := some 20, op := Op.load 9 (Operand.tmp 19), type := 9, pos := "trees.go:189", after := #[{ on := 4, ground := Ground.data }], guard := none }) (v := ?_) rfl (by kernel_rfl) (by kernel_rfl) (by kernel_rfl) (fun _ _ _ h => h) (Or.inl ⟨by rfl, ?_⟩) (by assumption) ?_
      rotate_left
      · intro w hSw
        have hSw := OS _ hSw
        go_simp
        try with_reducible rfl
      try simp only [Act.put, List.setIfInBounds_toArray, List.set_cons_zero, List.set_cons_succ]
      refine wpAnyH_take (i := 6) (oi := { dst := some 21, op := Op.load 41 (Operand.tmp 5), type := 41, pos := "trees.go:189", after := #[], guard := none }) (v := _) rfl (by kernel_rfl) (by kernel_rfl) (by kernel_rfl) (fun _ _ _ h => h) (yieldsIf_load_mid (by rfl) _ _ rfl _ _ rfl _ _ (by intro w hSw; have hSw := OS _ hSw; go_split_ands; assumption) (by assumption) rfl (by assumption)) (by assumption) ?_
      try simp only [Act.put, List.setIfInBounds_toArray, List.set_cons_zero, List.set_cons_succ]
      refine wpAnyH_take (i := 7) (oi := { dst := some 22, op := Op.build 64 #[(0, Operand.tmp 21)], type := 64, pos := "trees.go:189", after := #[{ on := 6, ground := Ground.data }], guard := none }) (v := .agg (plA ⟨x, 0⟩)) rfl (by kernel_rfl) (by kernel_rfl) (by kernel_rfl) (fun _ _ _ h => h) (Or.inl ⟨by rfl, ?_⟩) (by assumption) ?_
      · intro w hSw
        skip
        clear hSw
        go_simp
        rfl
      try simp only [Act.put, List.setIfInBounds_toArray, List.set_cons_zero, List.set_cons_succ]
      refine wpAnyH_ready (rs := [8]) (by kernel_rfl) (by simp) ?_
      refine (AllReadyH.cons (o := { dst := none, op := Op.mapUpdate 60 (Operand.tmp 18) (Operand.tmp 20) (Operand.tmp 22), type := 0, pos := "trees.go:189", after := #[{ on := 3, ground := Ground.data }, { on := 5, ground := Ground.data }, { on := 7, ground := Ground.data }, { on := 0, ground := Ground.phase }, { on := 1, ground := Ground.phase }, { on := 2, ground := Ground.phase }, { on := 3, ground := Ground.phase }, { on := 4, ground := Ground.phase }, { on := 5, ground := Ground.phase }, { on := 6, ground := Ground.phase }, { on := 7, ground := Ground.phase }], guard := none }) rfl (fun K hK => ?_) AllReadyH.nil)
      obtain ⟨w8, hrun8, hM8, hg8⟩ := HMd.out.put (by have := HGL.out k; unfold maxLen; omega) ⟨x, 0⟩ (by have := HXL.out; unfold maxLen; show x.path.length ≤ _; omega)
      have hrun8b : ∀ v, v = Value.agg (plA ⟨x, 0⟩) → (Instr.mapUpdate 60 (.map (some w.heap.size)) (.string (str x.path)) v).run Tryz.prog wd = .ok () w8 := fun v hv => by rw [hv]; exact hrun8
      have hrun9 := hrun8b _ rfl
      unfold plA at hrun9
      simp only at hrun9
      go_simp
      refine hK.out _ _ (SO _ (Gn.grown (by assumption) hg8 (fun j hj => (by cases hj; exact .inl rfl)))) (fun hHeld2 => ?_)
      clear hK K
      refine wpAnyH_done (by kernel_rfl) ?_ _
      refine NoPanic.normal ?_
      have HF1 := Lib.hid (HEND.out _ (by assumption)).1
      have HF2 := Lib.hid (HEND.out _ (by assumption)).2
      have HM2 : Hid (MapG w8 w.heap.size (groundOf (l.take (k + 1)))) := Lib.hid (by rw [HGS.out]; exact hM8)
      go_wp2
      go_roundw
      case rel => exact ⟨k + 1, by omega, by go_num, HF2, HM2, HF1⟩
      case measure => simp [intOf]; omega
    · obtain rfl : k = N := by omega
      have HMF := hM.out
      rw [HALL.out] at HMF
      go_wp2
      go_ret
      exact ⟨rfl, hR.out, HMF, hBr.out⟩
end Go.Proofs.YtbjgmkjinnbokaaGreatDoor
#print axioms Go.Proofs.YtbjgmkjinnbokaaGreatDoor.groundOf_any

