/- Layer 16: nodes sorted by their paths. -/
import Derived.Test.YtokeiagcdahmaaaDoorTtT
import Derived.Test.YtokeiagcdahmaaaDoorShel2
namespace Go.Proofs.YtokeiagcdahmaaaDoor
open Go.RowKit Go.Lib Go.Sort

def cfN (x y : Nd) : Int := Lib.compareBytes x.path y.path
theorem ltN (x y : Nd) : ltOf cfN x y = bytesBefore x.path y.path := cmp_neg x.path y.path
theorem swoN : SWO (ltOf cfN) where
  irrefl x := by rw [ltN]; exact bb_irr _
  trans x y z h1 h2 := by rw [ltN] at *; exact bb_trans h1 h2
  ntrans x y z h1 h2 := by
    rw [ltN] at *
    cases h : bytesBefore x.path z.path
    · rfl
    · rcases bb_tot x.path y.path with h3 | h3 | h3
      · rw [h3] at h1; cases h1
      · rw [h3, h2] at h; cases h
      · have := bb_trans h3 h
        rw [h2] at this
        cases this
theorem cmpN_any (x y : Nd) (w : World) : Calls Tryd.prog 20 (#[.agg (ndV x).toArray, .agg (ndV y).toArray] ++ #[]) w fun e w' => e = .returned (.int .i64 (cfN x y)) ∧ ∃ q os', w' = grow (w.drewN q) os' := by
  have C := fun W => compare_any x.path y.path W
  have hx : (Value.agg (ndV x).toArray) = .agg #[.string (str x.path), .int .i64 x.kind, .int .i64 x.mode, .string (str x.data)] := rfl
  have hy : (Value.agg (ndV y).toArray) = .agg #[.string (str y.path), .int .i64 y.kind, .int .i64 y.mode, .string (str y.data)] := rfl
  have hcf : cfN x y = Lib.compareBytes x.path y.path := rfl
  rw [hx, hy, hcf]
  clear hx hy hcf
  obtain ⟨W1, hW1⟩ : ∃ W1, W1 = (w.alloc (.cells #[.string (str x.path), .int .i64 x.kind, .int .i64 x.mode, .string (str x.data)] 36)).alloc (.cells #[.string (str y.path), .int .i64 y.kind, .int .i64 y.mode, .string (str y.data)] 36) := ⟨_, rfl⟩
  have HW1 := Lib.hid hW1
  have HE : Hid (∃ q os', W1 = grow (w.drewN q) os') := Lib.hid ⟨0, #[_, _], by rw [hW1, alloc_eq_grow, alloc_eq_grow, grow_grow]; rfl⟩
  have d1 : W1.cell? ⟨w.heap.size, 0, none⟩ = some (.string (str x.path)) := by
    rw [hW1]
    exact rowC_cell (rowC_alloc (rowC_new w #[.string (str x.path), .int .i64 x.kind, .int .i64 x.mode, .string (str x.data)] 36) _) 0
  have d2 : W1.cell? ⟨w.heap.size + 1, 0, none⟩ = some (.string (str y.path)) := by
    have := rowC_new (w.alloc (.cells #[.string (str x.path), .int .i64 x.kind, .int .i64 x.mode, .string (str x.data)] 36)) #[.string (str y.path), .int .i64 y.kind, .int .i64 y.mode, .string (str y.data)] 36
    rw [size_alloc] at this
    rw [hW1]
    exact rowC_cell this 0
  clear hW1
  generalize Lib.compareBytes x.path y.path = cv at *
  generalize str x.path = A at *
  generalize str y.path = B at *
  generalize str x.data = DA at *
  generalize str y.data = DB at *
  go_enter Tryd.func20, Tryd.ntmps20
  go_upto_region 1 with (fail)
  rw [← HW1.out]
  go_wp2_with (go_at_call 21; ((with_reducible refine (C _).mono ?_); rintro e w1 ⟨rfl, rfl⟩))
  go_ret
  exact ⟨rfl, HE.out⟩
theorem chg_sort (w : World) (bk n : Nat) (d : Array Nd) (os : Array Obj) : Chg (fun j => j = bk) w (sortWorldK ndV 4 w bk 0 n d os) := by
  refine ⟨rfl, rfl, rfl, ?_, fun k hk hne => ?_⟩
  · exact size_sortWorldK_c ndV 4 w bk 0 n d os
  · show ((w.heap.modify bk _) ++ os)[k]? = w.heap[k]?
    rw [Array.getElem?_append_left (by rw [Array.size_modify]; exact hk), Array.getElem?_modify, if_neg (fun e => hne e.symm)]
theorem holds_nodes {w : World} {bk : Nat} {d : Array Nd} (h : HoldsK ndV 4 w bk 0 d) (hb : bk < w.heap.size) : NodesAt w (some ⟨bk, 0, none⟩) d.toList := fun i x hx => by
  obtain ⟨hi, hxe⟩ := List.getElem?_eq_some_iff.1 hx
  have hi' : i < d.size := by simpa using hi
  refine ⟨_, rfl, hb, fun j u hu => ?_⟩
  have hj : j < 4 := (List.getElem?_eq_some_iff.1 hu).1
  have := (h.cell hi' hj).1
  rw [add_add]
  rw [Nat.zero_add] at this
  rw [this]
  have hd : d[i]! = x := by
    rw [getElem!_pos d i hi']
    rw [← hxe]
    simp
  rw [hd]
  rw [List.getElem!_eq_getElem?_getD, hu]
  rfl
theorem owns_holds {w : World} {base bk n c : Nat} {l : List Nd} (h : OwnsN w base (.slice (some ⟨bk, 0, none⟩) n c) l) : HoldsK ndV 4 w bk 0 l.toArray := by
  have hn := h.nodes
  have hf : ∀ j, w.frozen? ⟨bk, j, none⟩ = false := fun j => by
    obtain ⟨_, h2⟩ := h
    rcases h2 with ⟨hv, _⟩ | ⟨g, cap, cur, hv, hb, hg, _⟩
    · cases hv
    · simp only [Value.slice.injEq, Option.some.injEq, Addr.mk.injEq] at hv
      obtain ⟨⟨rfl, _⟩, _⟩ := hv
      exact rowC_free (cs := cur) (t := 36) hg j
  intro t ht
  rw [size_flatK] at ht
  have hi : t / 4 < l.length := by
    have : l.toArray.size = l.length := by simp
    omega
  rw [get_flatK _ _ _ _ ht]
  refine ⟨?_, hf _⟩
  obtain ⟨a, ha, _, hc⟩ := hn (t / 4) l[t / 4] (List.getElem?_eq_getElem hi)
  obtain rfl : (⟨bk, 0, none⟩ : Addr) = a := Option.some.inj ha
  have hj : t % 4 < (ndV l[t / 4]).length := Nat.mod_lt _ (by decide)
  have := hc (t % 4) _ (List.getElem?_eq_getElem hj)
  rw [add_add, show t / 4 * 4 + t % 4 = t by omega] at this
  rw [Nat.zero_add, this]
  have hd : l.toArray[t / 4]! = l[t / 4] := by
    rw [getElem!_pos l.toArray (t / 4) (by simpa using hi)]
    simp
  rw [hd, getElem!_pos (ndV l[t / 4]) (t % 4) hj]
  rfl
/-- Two rising lists with the same nodes are one. -/
theorem sorted_one {l m : List Nd} (hp : l.Perm m) (hm : m.Pairwise fun a b => bytesBefore a.path b.path = true) (hl : l.Pairwise fun a b => bytesBefore b.path a.path = false) : l = m := by
  have hnd : m.Pairwise fun a b => a.path ≠ b.path := hm.imp fun h => bb_ne h
  have hnl : l.Pairwise fun a b => a.path ≠ b.path := (hp.pairwise_iff (fun h e => h e.symm)).2 hnd
  have hl2 : l.Pairwise fun a b => bytesBefore a.path b.path = true := by
    refine List.Pairwise.imp₂ ?_ hl hnl
    intro a b h1 h2
    rcases bb_tot a.path b.path with h | h | h
    · exact h
    · exact absurd h h2
    · rw [h] at h1; cases h1
  exact hp.eq_of_pairwise (fun a b _ _ h1 h2 => by rw [bb_asym h1] at h2; cases h2) hl2 hm
theorem insN_none (p : Option Addr) (c : Nat) (fv : Value) (w : World) : Calls Tryd.prog 51 #[.slice p 0 c, .int .i64 0, .int .i64 0, fv] w fun e w' => e = .returned (.tuple #[]) ∧ w = w' := by
  go_enter Tryd.func51, Tryd.ntmps51
  go_wp2
  refine wp_loop_rounds 1 ?_
  rw [rounds_succ]
  go_wp2
  go_end0
  exact ⟨rfl, rfl⟩
theorem pdqN_none (p : Option Addr) (c : Nat) (lim : Int) (fv : Value) (w : World) : Calls Tryd.prog 34 #[.slice p 0 c, .int .i64 0, .int .i64 0, .int .i64 lim, fv] w fun e w' => e = .returned (.tuple #[]) ∧ w = w' := by
  have C := fun W => insN_none p c fv W
  go_enter Tryd.func34, Tryd.ntmps34
  go_wp2
  refine wp_loop_rounds 1 ?_
  rw [rounds_succ]
  go_wp2_with (go_at_call 51; ((with_reducible refine (C _).mono ?_); rintro e w1 ⟨rfl, rfl⟩))
  (try simp only [Exit.inBlock, Exit.then])
  refine bodyPost_ret (results_none rfl _ _ _) rfl ?_
  exact ⟨rfl, rfl⟩
theorem sortN_none (p : Option Addr) (c : Nat) (fv : Value) (w : World) : Calls Tryd.prog 19 #[.slice p 0 c, fv] w fun e w' => e = .returned (.tuple #[]) ∧ w = w' := by
  have C := fun lim W => pdqN_none p c lim fv W
  have CL : ∀ W, Calls Tryd.prog 35 #[.int .u64 0] W fun e w' => e = .returned (.int .i64 (Lib.bitLen 0 : Nat)) ∧ W = w' := fun W =>
    (Any.bits_Len (SlLaysF0.n15.bits (P := Tryd.prog) (ρ := Tryd.sortN_ren) { Tryd.sortN with }) 0 W (by omega) (by omega)).mono fun _ _ ⟨h1, h2⟩ => ⟨h1, h2.symm⟩
  go_enter Tryd.func19, Tryd.ntmps19
  go_wp2_with (first
    | (go_at_call 35; ((with_reducible refine (CL _).mono ?_); rintro e w1 ⟨rfl, rfl⟩))
    | (go_at_call 34; (refine (C _ _).mono ?_; rintro e w2 ⟨rfl, rfl⟩)))
  go_end0
  exact ⟨rfl, rfl⟩
theorem owns_cap {w : World} {base n c : Nat} {a : Option Addr} {l : List Nd} (h : OwnsN w base (.slice a n c) l) : l.length ≤ c := by
  rcases h.2 with ⟨hv, h0⟩ | ⟨g, cap, cur, hv, _, _, hc, _⟩
  · omega
  · simp only [Value.slice.injEq] at hv
    omega
set_option maxHeartbeats 1000000 in
/-- slices.SortFunc of nodes of the call's own. -/
theorem sortN_any (l m : List Nd) (hp : l.Perm m) (hm : m.Pairwise fun a b => bytesBefore a.path b.path = true) (base : Nat) (v : Value) (hl : l.length ≤ 1000000) (w : World) (h : OwnsN w base v l) :
    Calls Tryd.prog 19 #[v, .func (.func 20) #[] #[]] w fun e w' =>
      e = .returned (.tuple #[]) ∧ (∃ ad c, v = .slice ad m.length c ∧ m.length ≤ c ∧ NodesAt w' ad m) ∧ Below base w w' := by
  have hlm := hp.length_eq
  rcases Nat.eq_zero_or_pos l.length with h0 | h0
  · have hl0 : l = [] := List.eq_nil_of_length_eq_zero h0
    subst hl0
    have hm0 : m = [] := List.eq_nil_of_length_eq_zero (by rw [← hlm]; rfl)
    subst hm0
    obtain ⟨a, c, rfl⟩ := h.form
    exact (sortN_none a c _ w).mono fun e w' ⟨he, hw⟩ => ⟨he, ⟨a, c, rfl, Nat.zero_le _, NodesAt.nil _ _⟩, by rw [← hw]; exact Below.refl _ _⟩
  · obtain ⟨bk, c, rfl⟩ := owns_some h h0
    obtain ⟨hb1, hb2⟩ := World.ownsRow.lt h bk rfl
    have hcon := AnyQ.slices_SortFunc Tryd.sortN 4 Tryd.isAgg36 Tryd.sizeOf36 ndV (fun _ => rfl) ndV_one cfN swoN 20 #[] bk 0 c l.toArray w
      (enters_of Tryd.func20 (by kernel_rfl) rfl) (fun _ _ _ _ x y => cmpN_any x y _) (owns_holds h) hb2 (by simp; omega)
    refine Calls.mono (hcon : Calls Tryd.prog 19 _ _ _) ?_
    rintro e w' ⟨rfl, d', n, os, hpi, hsi, rfl⟩
    have hsz : d'.size = l.length := by have := hpi.1; simpa using this
    have hperm : d'.toList.Perm l := by
      have := hpi.2.2
      rw [show l.toArray.size = d'.size by simp [hsz]] at this
      rw [Array.extract_size, show d'.size = l.toArray.size by simp [hsz], Array.extract_size] at this
      simpa using this
    have hs2 : d'.toList.Pairwise fun a b => bytesBefore b.path a.path = false := by
      rw [List.pairwise_iff_getElem]
      intro i j hi hj hij
      have hj' : j < d'.size := by simpa using hj
      have := hsi i j (Nat.zero_le _) hij (by simp; omega)
      rw [ltN, getElem!_pos d' j hj', getElem!_pos d' i (by omega)] at this
      simpa using this
    have hone := sorted_one (hperm.trans hp) hm hs2
    refine ⟨rfl, ⟨_, _, by rw [hlm], ?_, ?_⟩, (chg_sort w bk n d' os).below (by omega) (fun j hj e => by omega)⟩
    · rw [← hlm]
      exact owns_cap h
    have hh := holdsK_sortWorldK_c ndV 4 w bk 0 l.toArray d' n os (owns_holds h) hb2 (by simp [hsz])
    have := holds_nodes hh (by have := size_sortWorldK_c ndV 4 w bk 0 n d' os; omega)
    rw [hone] at this
    exact this
end Go.Proofs.YtokeiagcdahmaaaDoor
#print axioms Go.Proofs.YtokeiagcdahmaaaDoor.sortN_any
