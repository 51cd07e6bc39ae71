/- Merged: TtU, TtV. -/
import Derived.Test.YtbjgmkjinnbokaaGreatDoorM18
import Derived.Test.YtbjgmkjinnbokaaGreatDoorShel2
import Derived.Deep.AppendLies
/- Layer 16: nodes sorted by their paths. -/
namespace Go.Proofs.YtbjgmkjinnbokaaGreatDoor
open Go.RowKit Go.Lib Go.Sort

def cfN (x y : Nd) : Int := Lib.compareBytes x.path y.path
theorem ltN (x y : Nd) : ltOf cfN x y = bytesBefore x.path y.path := cmp_neg x.path y.path
theorem swoN : SWO (ltOf cfN) where
  irrefl x := by rw [ltN]; exact bb_irr _
  trans x y z h1 h2 := by rw [ltN] at *; exact bb_trans h1 h2
  ntrans x y z h1 h2 := by
    rw [ltN] at *
    cases h : bytesBefore x.path z.path
    · rfl
    · rcases bb_tot x.path y.path with h3 | h3 | h3
      · rw [h3] at h1; cases h1
      · rw [h3, h2] at h; cases h
      · have := bb_trans h3 h
        rw [h2] at this
        cases this
theorem cmpN_any (x y : Nd) (w : World) : Calls Tryz.prog 29 (#[.agg (ndV x).toArray, .agg (ndV y).toArray] ++ #[]) w fun e w' => e = .returned (.int .i64 (cfN x y)) ∧ ∃ q os', w' = grow (w.drewN q) os' := by
  have C := fun W => compare_any x.path y.path W
  have hx : (Value.agg (ndV x).toArray) = .agg #[.string (str x.path), .int .i64 x.kind, .int .i64 x.mode, .string (str x.data)] := rfl
  have hy : (Value.agg (ndV y).toArray) = .agg #[.string (str y.path), .int .i64 y.kind, .int .i64 y.mode, .string (str y.data)] := rfl
  have hcf : cfN x y = Lib.compareBytes x.path y.path := rfl
  rw [hx, hy, hcf]
  clear hx hy hcf
  obtain ⟨W1, hW1⟩ : ∃ W1, W1 = (w.alloc (.cells #[.string (str x.path), .int .i64 x.kind, .int .i64 x.mode, .string (str x.data)] 41)).alloc (.cells #[.string (str y.path), .int .i64 y.kind, .int .i64 y.mode, .string (str y.data)] 41) := ⟨_, rfl⟩
  have HW1 := Lib.hid hW1
  have HE : Hid (∃ q os', W1 = grow (w.drewN q) os') := Lib.hid ⟨0, #[_, _], by rw [hW1, alloc_eq_grow, alloc_eq_grow, grow_grow]; rfl⟩
  have d1 : W1.cell? ⟨w.heap.size, 0, none⟩ = some (.string (str x.path)) := by
    rw [hW1]
    exact rowC_cell (rowC_alloc (rowC_new w #[.string (str x.path), .int .i64 x.kind, .int .i64 x.mode, .string (str x.data)] 41) _) 0
  have d2 : W1.cell? ⟨w.heap.size + 1, 0, none⟩ = some (.string (str y.path)) := by
    have := rowC_new (w.alloc (.cells #[.string (str x.path), .int .i64 x.kind, .int .i64 x.mode, .string (str x.data)] 41)) #[.string (str y.path), .int .i64 y.kind, .int .i64 y.mode, .string (str y.data)] 41
    rw [size_alloc] at this
    rw [hW1]
    exact rowC_cell this 0
  clear hW1
  generalize Lib.compareBytes x.path y.path = cv at *
  generalize str x.path = A at *
  generalize str y.path = B at *
  generalize str x.data = DA at *
  generalize str y.data = DB at *
  go_enter Tryz.func29, Tryz.ntmps29
  go_upto_region 1 with (fail)
  rw [← HW1.out]
  go_wp2_with (go_at_call 30; ((with_reducible refine (C _).mono ?_); rintro e w1 ⟨rfl, rfl⟩))
  go_ret
  exact ⟨rfl, HE.out⟩
theorem chg_sort (w : World) (bk n : Nat) (d : Array Nd) (os : Array Obj) : Chg (fun j => j = bk) w (sortWorldK ndV 4 w bk 0 n d os) := by
  refine ⟨rfl, rfl, rfl, ?_, fun k hk hne => ?_⟩
  · exact size_sortWorldK_c ndV 4 w bk 0 n d os
  · show ((w.heap.modify bk _) ++ os)[k]? = w.heap[k]?
    rw [Array.getElem?_append_left (by rw [Array.size_modify]; exact hk), Array.getElem?_modify, if_neg (fun e => hne e.symm)]
theorem holds_nodes {w : World} {bk : Nat} {d : Array Nd} (h : HoldsK ndV 4 w bk 0 d) (hb : bk < w.heap.size) : NodesAt w (some ⟨bk, 0, none⟩) d.toList := fun i x hx => by
  obtain ⟨hi, hxe⟩ := List.getElem?_eq_some_iff.1 hx
  have hi' : i < d.size := by simpa using hi
  refine ⟨_, rfl, hb, fun j u hu => ?_⟩
  have hj : j < 4 := (List.getElem?_eq_some_iff.1 hu).1
  have := (h.cell hi' hj).1
  rw [add_add]
  rw [Nat.zero_add] at this
  rw [this]
  have hd : d[i]! = x := by
    rw [getElem!_pos d i hi']
    rw [← hxe]
    simp
  rw [hd]
  rw [List.getElem!_eq_getElem?_getD, hu]
  rfl
theorem owns_holds {w : World} {base bk n c : Nat} {l : List Nd} (h : OwnsN w base (.slice (some ⟨bk, 0, none⟩) n c) l) : HoldsK ndV 4 w bk 0 l.toArray := by
  have hn := h.nodes
  have hf : ∀ j, w.frozen? ⟨bk, j, none⟩ = false := fun j => by
    obtain ⟨_, h2⟩ := h
    rcases h2 with ⟨hv, _⟩ | ⟨g, cap, cur, hv, hb, hg, _⟩
    · cases hv
    · simp only [Value.slice.injEq, Option.some.injEq, Addr.mk.injEq] at hv
      obtain ⟨⟨rfl, _⟩, _⟩ := hv
      exact rowC_free (cs := cur) (t := 41) hg j
  intro t ht
  rw [size_flatK] at ht
  have hi : t / 4 < l.length := by
    have : l.toArray.size = l.length := by simp
    omega
  rw [get_flatK _ _ _ _ ht]
  refine ⟨?_, hf _⟩
  obtain ⟨a, ha, _, hc⟩ := hn (t / 4) l[t / 4] (List.getElem?_eq_getElem hi)
  obtain rfl : (⟨bk, 0, none⟩ : Addr) = a := Option.some.inj ha
  have hj : t % 4 < (ndV l[t / 4]).length := Nat.mod_lt _ (by decide)
  have := hc (t % 4) _ (List.getElem?_eq_getElem hj)
  rw [add_add, show t / 4 * 4 + t % 4 = t by omega] at this
  rw [Nat.zero_add, this]
  have hd : l.toArray[t / 4]! = l[t / 4] := by
    rw [getElem!_pos l.toArray (t / 4) (by simpa using hi)]
    simp
  rw [hd, getElem!_pos (ndV l[t / 4]) (t % 4) hj]
  rfl
/-- Two rising lists with the same nodes are one. -/
theorem sorted_one {l m : List Nd} (hp : l.Perm m) (hm : m.Pairwise fun a b => bytesBefore a.path b.path = true) (hl : l.Pairwise fun a b => bytesBefore b.path a.path = false) : l = m := by
  have hnd : m.Pairwise fun a b => a.path ≠ b.path := hm.imp fun h => bb_ne h
  have hnl : l.Pairwise fun a b => a.path ≠ b.path := (hp.pairwise_iff (fun h e => h e.symm)).2 hnd
  have hl2 : l.Pairwise fun a b => bytesBefore a.path b.path = true := by
    refine List.Pairwise.imp₂ ?_ hl hnl
    intro a b h1 h2
    rcases bb_tot a.path b.path with h | h | h
    · exact h
    · exact absurd h h2
    · rw [h] at h1; cases h1
  exact hp.eq_of_pairwise (fun a b _ _ h1 h2 => by rw [bb_asym h1] at h2; cases h2) hl2 hm
theorem insN_none (p : Option Addr) (c : Nat) (fv : Value) (w : World) : Calls Tryz.prog 67 #[.slice p 0 c, .int .i64 0, .int .i64 0, fv] w fun e w' => e = .returned (.tuple #[]) ∧ w = w' := by
  go_enter Tryz.func67, Tryz.ntmps67
  go_wp2
  refine wp_loop_rounds 1 ?_
  rw [rounds_succ]
  go_wp2
  go_end0
  exact ⟨rfl, rfl⟩
theorem pdqN_none (p : Option Addr) (c : Nat) (lim : Int) (fv : Value) (w : World) : Calls Tryz.prog 47 #[.slice p 0 c, .int .i64 0, .int .i64 0, .int .i64 lim, fv] w fun e w' => e = .returned (.tuple #[]) ∧ w = w' := by
  have C := fun W => insN_none p c fv W
  go_enter Tryz.func47, Tryz.ntmps47
  go_wp2
  refine wp_loop_rounds 1 ?_
  rw [rounds_succ]
  go_wp2_with (go_at_call 67; ((with_reducible refine (C _).mono ?_); rintro e w1 ⟨rfl, rfl⟩))
  (try simp only [Exit.inBlock, Exit.then])
  refine bodyPost_ret (results_none rfl _ _ _) rfl ?_
  exact ⟨rfl, rfl⟩
theorem sortN_none (p : Option Addr) (c : Nat) (fv : Value) (w : World) : Calls Tryz.prog 28 #[.slice p 0 c, fv] w fun e w' => e = .returned (.tuple #[]) ∧ w = w' := by
  have C := fun lim W => pdqN_none p c lim fv W
  have CL : ∀ W, Calls Tryz.prog 48 #[.int .u64 0] W fun e w' => e = .returned (.int .i64 (Lib.bitLen 0 : Nat)) ∧ W = w' := fun W =>
    (Any.bits_Len (SlLaysF0.n15.bits (P := Tryz.prog) (ρ := Tryz.sortN_ren) { Tryz.sortN with }) 0 W (by omega) (by omega)).mono fun _ _ ⟨h1, h2⟩ => ⟨h1, h2.symm⟩
  go_enter Tryz.func28, Tryz.ntmps28
  go_wp2_with (first
    | (go_at_call 48; ((with_reducible refine (CL _).mono ?_); rintro e w1 ⟨rfl, rfl⟩))
    | (go_at_call 47; (refine (C _ _).mono ?_; rintro e w2 ⟨rfl, rfl⟩)))
  go_end0
  exact ⟨rfl, rfl⟩
theorem owns_cap {w : World} {base n c : Nat} {a : Option Addr} {l : List Nd} (h : OwnsN w base (.slice a n c) l) : l.length ≤ c := by
  rcases h.2 with ⟨hv, h0⟩ | ⟨g, cap, cur, hv, _, _, hc, _⟩
  · omega
  · simp only [Value.slice.injEq] at hv
    omega
set_option maxHeartbeats 1000000 in
/-- slices.SortFunc of nodes of the call's own. -/
theorem sortN_any (l m : List Nd) (hp : l.Perm m) (hm : m.Pairwise fun a b => bytesBefore a.path b.path = true) (base : Nat) (v : Value) (hl : l.length ≤ 1000000) (w : World) (h : OwnsN w base v l) :
    Calls Tryz.prog 28 #[v, .func (.func 29) #[] #[]] w fun e w' =>
      e = .returned (.tuple #[]) ∧ (∃ ad c, v = .slice ad m.length c ∧ m.length ≤ c ∧ NodesAt w' ad m) ∧ Below base w w' := by
  have hlm := hp.length_eq
  rcases Nat.eq_zero_or_pos l.length with h0 | h0
  · have hl0 : l = [] := List.eq_nil_of_length_eq_zero h0
    subst hl0
    have hm0 : m = [] := List.eq_nil_of_length_eq_zero (by rw [← hlm]; rfl)
    subst hm0
    obtain ⟨a, c, rfl⟩ := h.form
    exact (sortN_none a c _ w).mono fun e w' ⟨he, hw⟩ => ⟨he, ⟨a, c, rfl, Nat.zero_le _, NodesAt.nil _ _⟩, by rw [← hw]; exact Below.refl _ _⟩
  · obtain ⟨bk, c, rfl⟩ := owns_some h h0
    obtain ⟨hb1, hb2⟩ := World.ownsRow.lt h bk rfl
    have hcon := AnyQ.slices_SortFunc Tryz.sortN 4 Tryz.isAgg41 Tryz.sizeOf41 ndV (fun _ => rfl) ndV_one cfN swoN 29 #[] bk 0 c l.toArray w
      (enters_of Tryz.func29 (by kernel_rfl) rfl) (fun _ _ _ _ x y => cmpN_any x y _) (owns_holds h) hb2 (by simp; omega)
    refine Calls.mono (hcon : Calls Tryz.prog 28 _ _ _) ?_
    rintro e w' ⟨rfl, d', n, os, hpi, hsi, rfl⟩
    have hsz : d'.size = l.length := by have := hpi.1; simpa using this
    have hperm : d'.toList.Perm l := by
      have := hpi.2.2
      rw [show l.toArray.size = d'.size by simp [hsz]] at this
      rw [Array.extract_size, show d'.size = l.toArray.size by simp [hsz], Array.extract_size] at this
      simpa using this
    have hs2 : d'.toList.Pairwise fun a b => bytesBefore b.path a.path = false := by
      rw [List.pairwise_iff_getElem]
      intro i j hi hj hij
      have hj' : j < d'.size := by simpa using hj
      have := hsi i j (Nat.zero_le _) hij (by simp; omega)
      rw [ltN, getElem!_pos d' j hj', getElem!_pos d' i (by omega)] at this
      simpa using this
    have hone := sorted_one (hperm.trans hp) hm hs2
    refine ⟨rfl, ⟨_, _, by rw [hlm], ?_, ?_⟩, (chg_sort w bk n d' os).below (by omega) (fun j hj e => by omega)⟩
    · rw [← hlm]
      exact owns_cap h
    have hh := holdsK_sortWorldK_c ndV 4 w bk 0 l.toArray d' n os (owns_holds h) hb2 (by simp [hsz])
    have := holds_nodes hh (by have := size_sortWorldK_c ndV 4 w bk 0 n d' os; omega)
    rw [hone] at this
    exact this
end Go.Proofs.YtbjgmkjinnbokaaGreatDoor
#print axioms Go.Proofs.YtbjgmkjinnbokaaGreatDoor.sortN_any

/- Layer 16: the program's nodes. -/
namespace Go.Proofs.YtbjgmkjinnbokaaGreatDoor
open Go.RowKit Go.Maps

theorem perm_left {p : Pl} {left : Lit → Bool} (hl : left (.string p.nd.path) = true) : ∀ {g : List Pl}, Rise g → p ∈ g →
    ((g.filter fun q => !left (.string q.nd.path)).map Pl.nd ++ [p.nd]).Perm ((g.filter fun q => !(left (.string q.nd.path) && !(Lit.string q.nd.path).sameKey (.string p.nd.path))).map Pl.nd)
  | [], _, hp => by cases hp
  | y :: r, hr, hp => by
    obtain ⟨h1, h2⟩ := List.pairwise_cons.1 hr
    by_cases e : y = p
    · subst e
      have hrest : ∀ q ∈ r, (!(left (.string q.nd.path) && !(Lit.string q.nd.path).sameKey (.string y.nd.path))) = !left (.string q.nd.path) := fun q hq => by
        rw [string_key, decide_eq_false (fun e2 => bb_ne (h1 q hq) e2.symm)]
        cases left (Lit.string q.nd.path) <;> rfl
      rw [List.filter_cons_of_neg (by rw [hl]; decide), List.filter_cons_of_pos (by rw [hl, string_key, decide_eq_true rfl]; rfl), List.filter_congr hrest, List.map_cons]
      exact List.perm_append_comm
    · have hpr : p ∈ r := by
        rcases List.mem_cons.1 hp with h | h
        · exact absurd h.symm e
        · exact h
      have ih := perm_left hl h2 hpr
      have hy : (!(left (.string y.nd.path) && !(Lit.string y.nd.path).sameKey (.string p.nd.path))) = !left (.string y.nd.path) := by
        rw [string_key, decide_eq_false (bb_ne (h1 p hpr))]
        cases left (Lit.string y.nd.path) <;> rfl
      cases hly : left (.string y.nd.path) with
      | true =>
        rw [List.filter_cons_of_neg (by rw [hly]; decide), List.filter_cons_of_neg (by rw [hy, hly]; decide)]
        exact ih
      | false =>
        rw [List.filter_cons_of_pos (by rw [hly]; rfl), List.filter_cons_of_pos (by rw [hy, hly]; rfl), List.map_cons, List.map_cons, List.cons_append]
        exact ih.cons _
theorem rise_map {g : List Pl} (h : Rise g) : (g.map Pl.nd).Pairwise fun a b => bytesBefore a.path b.path = true := by
  rw [List.pairwise_map]
  exact h
theorem dat_key {g : List Pl} {kl : Lit} {p : Pl} {s : ByteArray} (hkl : kl = .string s.data.toList) (hat : ∀ zd, (datG g).atKey kl zd = .held p) : p ∈ g ∧ s = str p.nd.path := by
  refine dat_entry (F := fun _ => true) hkl fun zd => ?_
  rw [List.filter_eq_self.2 (fun _ _ => rfl)]
  exact hat zd
theorem owns_noneN (w : World) (base : Nat) : OwnsN w base (.slice none 0 0) [] := ⟨by simp [rowN], .inl ⟨rfl, rfl⟩⟩
set_option maxRecDepth 100000 in
set_option maxHeartbeats 16000000 in
theorem nodes_any (B M : Nat) (g : List Pl) (hR : Rise g) (hlen : g.length ≤ 400000) (hsz : ∀ p ∈ g, p.nd.path.length ≤ 900000 ∧ p.nd.data.length ≤ 900000) (k : Int) (w : World) (h : GrAt w B M g k) :
    Calls Tryz.prog 16 #[.pointer (some ⟨B, 0, none⟩)] w fun e w' => (∃ ad c, e = .returned (.slice ad g.length c) ∧ g.length ≤ c ∧ NodesAt w' ad (g.map Pl.nd)) ∧ Below w.heap.size w w' := by
  have HI5 := Lib.hid info_pl5
  have HI4 := Lib.hid info_nd4
  obtain ⟨i0, hi, hz0, hz1, hz2⟩ := info_parts info_nd
  have HSM := Lib.hid hsz
  have HRM := Lib.hid (rise_map hR)
  have HPL : Hid (∀ (p : Pl) (left : Lit → Bool), left (.string p.nd.path) = true → p ∈ g → ((g.filter fun q => !left (.string q.nd.path)).map Pl.nd ++ [p.nd]).Perm ((g.filter fun q => !(left (.string q.nd.path) && !(Lit.string q.nd.path).sameKey (.string p.nd.path))).map Pl.nd)) := Lib.hid fun p left h1 h2 => perm_left h1 hR h2
  have HK : Hid (∀ {kl : Lit} {p : Pl} {s : ByteArray}, kl = .string s.data.toList → (∀ zd, (datG g).atKey kl zd = .held p) → p ∈ g ∧ s = str p.nd.path) := Lib.hid fun h1 h2 => dat_key h1 h2
  have hown : w.ownsMap Tryz.prog 9 plR M g.length (datG g) := h.map
  have c0 : w.cell? ⟨B, 0, none⟩ = some (.map (some M)) := rowC_cell h.row 0
  have hMw := h.map.lt
  have HST : Hid (((g.filter fun q => !(Maps.has (datG g)) (.string q.nd.path)).map Pl.nd) = []) := Lib.hid (by
    rw [List.filter_eq_nil_iff.2, List.map_nil]
    intro q hq
    rw [dat_has, look_of hR hq]
    simp)
  have HEND : Hid (∀ left : Lit → Bool, (∀ kl, left kl = false) → ((g.filter fun q => !left (.string q.nd.path)).map Pl.nd) = g.map Pl.nd) := Lib.hid fun left hl => by
    rw [List.filter_eq_self.2]
    intro q _
    rw [hl]
    rfl
  have HGL : Hid ((g.map Pl.nd).length = g.length) := Lib.hid (List.length_map _)
  have HFL : Hid (∀ left : Lit → Bool, ((g.filter fun q => !left (.string q.nd.path)).map Pl.nd).length ≤ 400000) := Lib.hid fun left => by
    rw [List.length_map]
    exact Nat.le_trans (List.length_filter_le _ _) hlen
  obtain ⟨n, hn⟩ : ∃ n, n = g.length := ⟨_, rfl⟩
  rw [← hn] at hown HGL hlen ⊢
  clear h hsz hR hn
  go_enter Tryz.func16, Tryz.ntmps16
  go_upto_region 3 with (first
    | (at_range; refine wpList_range_own _ rfl _ 60 rfl 9 64 key_law Tryz.underlying60 plR M n _ rfl hown ?_; intro w0 hrg0 hg0 hs0)
    | go_in)
  go_frame
  have hb0 : Below w.heap.size w w0 := (Below.refl _ _).grown hg0 (Nat.le_refl _) (fun j hj => by cases hj)
  clear hs0
  go_loopw [3, 5, 11] (fun v _ _ wr => ∃ (left : Lit → Bool) (cnt : Nat) (l : List Nd), wr.ranges Tryz.prog 9 plR M w.heap.size n (datG g) left cnt ∧ Hid (Below w.heap.size w wr) ∧ Hid (OwnsN wr (w.heap.size + 1) v l) ∧ Hid (l.Perm ((g.filter fun q => !left (.string q.nd.path)).map Pl.nd)))
    (fun _ _ _ wr => wr.rangeLeft M w.heap.size)
  case atStart => exact ⟨_, _, [], hrg0, Lib.hid hb0, Lib.hid (owns_noneN _ _), Lib.hid (by rw [HST.out])⟩
  case round =>
    obtain ⟨left, cnt, l, hrg, hB, hO, hP⟩ := hrel
    obtain ⟨av, cv, hv⟩ := owns_form hO.out
    obtain ⟨ln, hln⟩ : ∃ ln, ln = l.length := ⟨_, rfl⟩
    have HLN : Hid (l.length = ln) := Lib.hid hln.symm
    rw [← hln] at hv
    have hl400 : ln ≤ 400000 := by rw [hln, hP.out.length_eq]; exact HFL.out left
    subst hv
    clear hln
    have hrl := hrg.lt
    go_wp2_with (first
      | (at_next; refine wpList_next_ranges _ rfl _ rfl 9 key_law plR Value.string (fun p => Value.agg (plA p)) (fun key kl h => (by obtain ⟨s, h1, _⟩ := key_inv h; exact ⟨s, h1⟩)) (fun v y h => (by obtain ⟨p, h1, _⟩ := plR_inv h; exact ⟨p, h1⟩)) M w.heap.size n _ _ _ rfl hrg ?_ ?_)
      | go_in)
    · intro _ hl0
      have HPF : Hid (l.Perm (g.map Pl.nd)) := Lib.hid (by rw [← HEND.out left hl0]; exact hP.out)
      have CS := sortN_any l (g.map Pl.nd) HPF.out HRM.out (w.heap.size + 1) (.slice av ln cv) (by rw [HLN.out]; omega) wr hO.out
      rw [HGL.out] at CS
      clear HSM HPL HK HST HEND HFL hP hO hown hrg
      go_wp2_with (go_at_call 28; (refine CS.mono ?_; rintro e w9 ⟨rfl, hex, hb9⟩))
      obtain ⟨ad, c, he, hcap, hna⟩ := hex
      simp only [Value.slice.injEq] at he
      obtain ⟨rfl, rfl, rfl⟩ := he
      go_ret
      exact ⟨⟨_, _, rfl, hcap, hna⟩, hB.out.trans (hb9.mono (by omega))⟩
    · intro s p kl yd yp w1 cnt1 hkey hlx hv hat hrg1 hlt hg1 hs1 hen
      obtain ⟨s', hs', hkl⟩ := key_inv hkey
      obtain rfl : s = s' := by injection hs'
      rw [plR_mk] at hv
      simp only [Option.some.injEq, Prod.mk.injEq] at hv
      obtain ⟨rfl, rfl⟩ := hv
      obtain ⟨hpG, hsp⟩ := HK.out hkl hat
      have hkl2 : kl = .string p.nd.path := by rw [hkl, hsp]; rfl
      subst hkl2
      subst hsp
      obtain ⟨hp1, hp2⟩ := HSM.out p hpG
      have CC := fun W => nclone_any p.nd (by omega) (by omega) W
      have HNP : Hid ((l ++ [p.nd]).Perm ((g.filter fun q => !(left (.string q.nd.path) && !(Lit.string q.nd.path).sameKey (.string p.nd.path))).map Pl.nd)) := Lib.hid ((hP.out.append_right _).trans (HPL.out p left hlx hpG))
      obtain ⟨W2, hW2⟩ : ∃ W2, W2 = w1.alloc (.cells (plA p) 64) := ⟨_, rfl⟩
      have HB2 : Hid (Below w.heap.size w W2) := Lib.hid (by rw [hW2]; exact (hB.out.grown hg1 hB.out.size (fun j hj => by cases hj; exact Nat.le_refl _)).alloc (by rw [hs1]; exact hB.out.size) _)
      have HZ2 : Hid (rowC W2 w1.heap.size (plA p) 64) := Lib.hid (by rw [hW2]; exact rowC_new w1 _ _)
      have hgA : w1.grownBy W2 none := by rw [hW2]; exact World.grownBy_alloc w1 _ none
      have hrg2 := hrg1.kept hgA (by simp) (by simp)
      have HO2 : Hid (OwnsN W2 (w.heap.size + 1) (.slice av ln cv) l) := Lib.hid (by
        rw [hW2]
        refine World.ownsRow.alloc ?_ _
        have hc : Chg (fun j => j = w.heap.size) wr w1 := (Chg.refl _ _).grown hg1 (fun j hj => by cases hj; exact .inl rfl)
        exact hc.owns hO.out (fun q hq e => by have := (World.ownsRow.lt hO.out q hq).1; omega))
      have HW2 := Lib.hid hW2
      have HRA : Hid (W2.rangeAt w1.heap.size 0 (ndV p.nd)) := Lib.hid (rowC_range HZ2.out 0 _ (fun j u hj => (by
        rw [Nat.zero_add]
        match j, hj with
        | 0, hj => exact hj
        | 1, hj => exact hj
        | 2, hj => exact hj
        | 3, hj => exact hj)))
      have HONE := Lib.hid (plA_one p)
      have HRG : Hid (W2.ranges Tryz.prog 9 plR M w.heap.size n (datG g) (fun z => left z && !z.sameKey (.string p.nd.path)) cnt1) := Lib.hid hrg2
      clear hW2 hs1 hrg1 hg1 hgA hrg2 hat hpG hkl hs' hO hown
      go_wp2_with (first
        | ((with_reducible show wpList _ _ _ (⟨none, .store _ (.tmp 5) _, _, _, _, _⟩ :: _) _ _); refine wpList_store_last rfl 64 _ _ rfl w1.heap.size (plA p) rfl rfl 64 _ rfl HI5.out rfl HONE.out ?_; rw [← HW2.out])
        | ((with_reducible show wpList _ _ _ (⟨some 17, .load _ _, _, _, _, _⟩ :: _) _ _); refine wpList_load_mid rfl 41 _ rfl w1.heap.size 0 rfl (ndV p.nd) _ HRA.out Tryz.underlying41 rfl HI4.out ?_)
        | (go_at_call 27; (refine (CC _).mono ?_; rintro e w3 ⟨rfl, hB3⟩; have HB4 : Hid (Below w.heap.size w (w3.alloc (.cells (ndA p.nd) 41))) := Lib.hid ((HB2.out.trans (hB3.mono HB2.out.size)).alloc (HB2.out.trans (hB3.mono HB2.out.size)).size _); have HRG4 : Hid ((w3.alloc (.cells (ndA p.nd) 41)).ranges Tryz.prog 9 plR M w.heap.size n (datG g) (fun z => left z && !z.sameKey (.string p.nd.path)) cnt1) := Lib.hid ((HRG.out.kept (grown_of_below hB3) (by simp) (by simp)).kept (World.grownBy_alloc w3 _ none) (by simp) (by simp)); have HO4 : Hid ((w3.alloc (.cells (ndA p.nd) 41)).ownsRow (w.heap.size + 1) 41 4 (.slice av ln cv) ln (rowN l)) := Lib.hid (by have h1 : OwnsN w3 (w.heap.size + 1) (.slice av ln cv) l := (Chg.of_below (s := fun _ => False) hB3).owns HO2.out (fun _ _ => id); have h2 := World.ownsRow.alloc h1 (.cells (ndA p.nd) 41); rwa [HLN.out] at h2); have HNEW : Hid (∀ j u, (ndV p.nd)[j]? = some u → (w3.alloc (.cells (ndA p.nd) 41)).cell? ((⟨w3.heap.size, 0, none⟩ : Addr).add j) = some u) := Lib.hid (fun j u hu => by rw [show (⟨w3.heap.size, 0, none⟩ : Addr) = (⟨w3.heap.size, 0, none⟩ : Addr).add 0 from (addr_zero _).symm, add_add, Nat.zero_add, rowC_cell (rowC_new w3 (ndA p.nd) 41) j, ← ndV_arr, List.getElem?_toArray]; exact hu); have HBASE : Hid (w.heap.size + 1 ≤ (w3.alloc (.cells (ndA p.nd) 41)).heap.size) := Lib.hid (by have := HRG4.out.lt; omega); clear hB3))
        | ((with_reducible show wpList _ _ _ (⟨some 19, .buildSlice _ _ _, _, _, _, _⟩ :: _) _ _); refine wpList_oneR rfl 24 41 4 _ rfl (ndA p.nd) rfl i0 _ Tryz.underlying24 hi hz0 hz1 rfl (by decide) (by decide) ?_)
        | ((with_reducible show wpList _ _ _ (⟨some 20, .call _, _, _, _, _⟩ :: _) _ _); refine wpList_append_lies _ rfl _ _ 24 rfl (w.heap.size + 1) 41 i0 _ 4 48 Tryz.underlying24 hi hz0 hz1 hz2 rfl (by decide) (.slice av ln cv) ln (rowN l) rfl HO4.out ⟨w3.heap.size, 0, none⟩ 1 1 (ndV p.nd) rfl rfl HNEW.out (ndV_one _) (by decide) (by unfold maxLen; omega) (by omega) HBASE.out _ rfl ?_; intro g5 c5 w5 ho5 hg5 _ _)
        | go_in)
      have hown5 := World.ownsRow.lt HO4.out
      have hrg5 := HRG4.out.kept hg5 (fun e => by have := (hown5 M e.symm).1; omega) (fun e => by have := (hown5 _ e.symm).1; omega)
      have HBF : Hid (Below w.heap.size w w5) := Lib.hid (HB4.out.grown hg5 HB4.out.size (fun j hj => by have := (hown5 j hj).1; omega))
      have HOF : Hid (OwnsN w5 (w.heap.size + 1) (.slice (some ⟨g5, 0, none⟩) (ln + 1) c5) (l ++ [p.nd])) := Lib.hid (by
        show w5.ownsRow _ _ _ _ _ _
        rw [List.length_append, rowN_app, HLN.out]
        have e : rowN [p.nd] = ndV p.nd := by simp [rowN]
        rw [e]
        exact ho5)
      go_roundw
      case rel => exact ⟨_, cnt1, l ++ [p.nd], hrg5, HBF, HOF, HNP⟩
      case measure => rw [hrg5.left_eq, hrg.left_eq]; exact hlt
end Go.Proofs.YtbjgmkjinnbokaaGreatDoor
#print axioms Go.Proofs.YtbjgmkjinnbokaaGreatDoor.nodes_any

