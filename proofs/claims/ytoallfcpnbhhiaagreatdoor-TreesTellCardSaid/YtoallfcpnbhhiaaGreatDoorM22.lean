/- Merged: TtV, TtW. -/
import Derived.Test.YtoallfcpnbhhiaaGreatDoorM21
import Derived.Deep.AppendLies
/- Layer 16: the program's nodes. -/
namespace Go.Proofs.YtoallfcpnbhhiaaGreatDoor
open Go.RowKit Go.Maps

theorem perm_left {p : Pl} {left : Lit → Bool} (hl : left (.string p.nd.path) = true) : ∀ {g : List Pl}, Rise g → p ∈ g →
    ((g.filter fun q => !left (.string q.nd.path)).map Pl.nd ++ [p.nd]).Perm ((g.filter fun q => !(left (.string q.nd.path) && !(Lit.string q.nd.path).sameKey (.string p.nd.path))).map Pl.nd)
  | [], _, hp => by cases hp
  | y :: r, hr, hp => by
    obtain ⟨h1, h2⟩ := List.pairwise_cons.1 hr
    by_cases e : y = p
    · subst e
      have hrest : ∀ q ∈ r, (!(left (.string q.nd.path) && !(Lit.string q.nd.path).sameKey (.string y.nd.path))) = !left (.string q.nd.path) := fun q hq => by
        rw [string_key, decide_eq_false (fun e2 => bb_ne (h1 q hq) e2.symm)]
        cases left (Lit.string q.nd.path) <;> rfl
      rw [List.filter_cons_of_neg (by rw [hl]; decide), List.filter_cons_of_pos (by rw [hl, string_key, decide_eq_true rfl]; rfl), List.filter_congr hrest, List.map_cons]
      exact List.perm_append_comm
    · have hpr : p ∈ r := by
        rcases List.mem_cons.1 hp with h | h
        · exact absurd h.symm e
        · exact h
      have ih := perm_left hl h2 hpr
      have hy : (!(left (.string y.nd.path) && !(Lit.string y.nd.path).sameKey (.string p.nd.path))) = !left (.string y.nd.path) := by
        rw [string_key, decide_eq_false (bb_ne (h1 p hpr))]
        cases left (Lit.string y.nd.path) <;> rfl
      cases hly : left (.string y.nd.path) with
      | true =>
        rw [List.filter_cons_of_neg (by rw [hly]; decide), List.filter_cons_of_neg (by rw [hy, hly]; decide)]
        exact ih
      | false =>
        rw [List.filter_cons_of_pos (by rw [hly]; rfl), List.filter_cons_of_pos (by rw [hy, hly]; rfl), List.map_cons, List.map_cons, List.cons_append]
        exact ih.cons _
theorem rise_map {g : List Pl} (h : Rise g) : (g.map Pl.nd).Pairwise fun a b => bytesBefore a.path b.path = true := by
  rw [List.pairwise_map]
  exact h
theorem dat_key {g : List Pl} {kl : Lit} {p : Pl} {s : ByteArray} (hkl : kl = .string s.data.toList) (hat : ∀ zd, (datG g).atKey kl zd = .held p) : p ∈ g ∧ s = str p.nd.path := by
  refine dat_entry (F := fun _ => true) hkl fun zd => ?_
  rw [List.filter_eq_self.2 (fun _ _ => rfl)]
  exact hat zd
theorem owns_noneN (w : World) (base : Nat) : OwnsN w base (.slice none 0 0) [] := ⟨by simp [rowN], .inl ⟨rfl, rfl⟩⟩
set_option maxRecDepth 100000 in
set_option maxHeartbeats 16000000 in
theorem nodes_any (B M : Nat) (g : List Pl) (hR : Rise g) (hlen : g.length ≤ 400000) (hsz : ∀ p ∈ g, p.nd.path.length ≤ 900000 ∧ p.nd.data.length ≤ 900000) (k : Int) (w : World) (h : GrAt w B M g k) :
    Calls Tryz.prog 40 #[.pointer (some ⟨B, 0, none⟩)] w fun e w' => (∃ ad c, e = .returned (.slice ad g.length c) ∧ g.length ≤ c ∧ NodesAt w' ad (g.map Pl.nd)) ∧ Below w.heap.size w w' := by
  have HI5 := Lib.hid info_pl5
  have HI4 := Lib.hid info_nd4
  obtain ⟨i0, hi, hz0, hz1, hz2⟩ := info_parts info_nd
  have HSM := Lib.hid hsz
  have HRM := Lib.hid (rise_map hR)
  have HPL : Hid (∀ (p : Pl) (left : Lit → Bool), left (.string p.nd.path) = true → p ∈ g → ((g.filter fun q => !left (.string q.nd.path)).map Pl.nd ++ [p.nd]).Perm ((g.filter fun q => !(left (.string q.nd.path) && !(Lit.string q.nd.path).sameKey (.string p.nd.path))).map Pl.nd)) := Lib.hid fun p left h1 h2 => perm_left h1 hR h2
  have HK : Hid (∀ {kl : Lit} {p : Pl} {s : ByteArray}, kl = .string s.data.toList → (∀ zd, (datG g).atKey kl zd = .held p) → p ∈ g ∧ s = str p.nd.path) := Lib.hid fun h1 h2 => dat_key h1 h2
  have hown : w.ownsMap Tryz.prog 9 plR M g.length (datG g) := h.map
  have c0 : w.cell? ⟨B, 0, none⟩ = some (.map (some M)) := rowC_cell h.row 0
  have hMw := h.map.lt
  have HST : Hid (((g.filter fun q => !(Maps.has (datG g)) (.string q.nd.path)).map Pl.nd) = []) := Lib.hid (by
    rw [List.filter_eq_nil_iff.2, List.map_nil]
    intro q hq
    rw [dat_has, look_of hR hq]
    simp)
  have HEND : Hid (∀ left : Lit → Bool, (∀ kl, left kl = false) → ((g.filter fun q => !left (.string q.nd.path)).map Pl.nd) = g.map Pl.nd) := Lib.hid fun left hl => by
    rw [List.filter_eq_self.2]
    intro q _
    rw [hl]
    rfl
  have HGL : Hid ((g.map Pl.nd).length = g.length) := Lib.hid (List.length_map _)
  have HFL : Hid (∀ left : Lit → Bool, ((g.filter fun q => !left (.string q.nd.path)).map Pl.nd).length ≤ 400000) := Lib.hid fun left => by
    rw [List.length_map]
    exact Nat.le_trans (List.length_filter_le _ _) hlen
  obtain ⟨n, hn⟩ : ∃ n, n = g.length := ⟨_, rfl⟩
  rw [← hn] at hown HGL hlen ⊢
  clear h hsz hR hn
  go_enter Tryz.func40, Tryz.ntmps40
  go_upto_region 3 with (first
    | (at_range; refine wpList_range_own _ rfl _ 100 rfl 9 104 key_law Tryz.underlying100 plR M n _ rfl hown ?_; intro w0 hrg0 hg0 hs0)
    | go_in)
  go_frame
  have hb0 : Below w.heap.size w w0 := (Below.refl _ _).grown hg0 (Nat.le_refl _) (fun j hj => by cases hj)
  clear hs0
  go_loopw [3, 5, 11] (fun v _ _ wr => ∃ (left : Lit → Bool) (cnt : Nat) (l : List Nd), wr.ranges Tryz.prog 9 plR M w.heap.size n (datG g) left cnt ∧ Hid (Below w.heap.size w wr) ∧ Hid (OwnsN wr (w.heap.size + 1) v l) ∧ Hid (l.Perm ((g.filter fun q => !left (.string q.nd.path)).map Pl.nd)))
    (fun _ _ _ wr => wr.rangeLeft M w.heap.size)
  case atStart => exact ⟨_, _, [], hrg0, Lib.hid hb0, Lib.hid (owns_noneN _ _), Lib.hid (by rw [HST.out])⟩
  case round =>
    obtain ⟨left, cnt, l, hrg, hB, hO, hP⟩ := hrel
    obtain ⟨av, cv, hv⟩ := owns_form hO.out
    obtain ⟨ln, hln⟩ : ∃ ln, ln = l.length := ⟨_, rfl⟩
    have HLN : Hid (l.length = ln) := Lib.hid hln.symm
    rw [← hln] at hv
    have hl400 : ln ≤ 400000 := by rw [hln, hP.out.length_eq]; exact HFL.out left
    subst hv
    clear hln
    have hrl := hrg.lt
    go_wp2_with (first
      | (at_next; refine wpList_next_ranges _ rfl _ rfl 9 key_law plR Value.string (fun p => Value.agg (plA p)) (fun key kl h => (by obtain ⟨s, h1, _⟩ := key_inv h; exact ⟨s, h1⟩)) (fun v y h => (by obtain ⟨p, h1, _⟩ := plR_inv h; exact ⟨p, h1⟩)) M w.heap.size n _ _ _ rfl hrg ?_ ?_)
      | go_in)
    · intro _ hl0
      have HPF : Hid (l.Perm (g.map Pl.nd)) := Lib.hid (by rw [← HEND.out left hl0]; exact hP.out)
      have CS := sortN_any l (g.map Pl.nd) HPF.out HRM.out (w.heap.size + 1) (.slice av ln cv) (by rw [HLN.out]; omega) wr hO.out
      rw [HGL.out] at CS
      clear HSM HPL HK HST HEND HFL hP hO hown hrg
      go_wp2_with (go_at_call 56; (refine CS.mono ?_; rintro e w9 ⟨rfl, hex, hb9⟩))
      obtain ⟨ad, c, he, hcap, hna⟩ := hex
      simp only [Value.slice.injEq] at he
      obtain ⟨rfl, rfl, rfl⟩ := he
      go_ret
      exact ⟨⟨_, _, rfl, hcap, hna⟩, hB.out.trans (hb9.mono (by omega))⟩
    · intro s p kl yd yp w1 cnt1 hkey hlx hv hat hrg1 hlt hg1 hs1 hen
      obtain ⟨s', hs', hkl⟩ := key_inv hkey
      obtain rfl : s = s' := by injection hs'
      rw [plR_mk] at hv
      simp only [Option.some.injEq, Prod.mk.injEq] at hv
      obtain ⟨rfl, rfl⟩ := hv
      obtain ⟨hpG, hsp⟩ := HK.out hkl hat
      have hkl2 : kl = .string p.nd.path := by rw [hkl, hsp]; rfl
      subst hkl2
      subst hsp
      obtain ⟨hp1, hp2⟩ := HSM.out p hpG
      have CC := fun W => nclone_any p.nd (by omega) (by omega) W
      have HNP : Hid ((l ++ [p.nd]).Perm ((g.filter fun q => !(left (.string q.nd.path) && !(Lit.string q.nd.path).sameKey (.string p.nd.path))).map Pl.nd)) := Lib.hid ((hP.out.append_right _).trans (HPL.out p left hlx hpG))
      obtain ⟨W2, hW2⟩ : ∃ W2, W2 = w1.alloc (.cells (plA p) 104) := ⟨_, rfl⟩
      have HB2 : Hid (Below w.heap.size w W2) := Lib.hid (by rw [hW2]; exact (hB.out.grown hg1 hB.out.size (fun j hj => by cases hj; exact Nat.le_refl _)).alloc (by rw [hs1]; exact hB.out.size) _)
      have HZ2 : Hid (rowC W2 w1.heap.size (plA p) 104) := Lib.hid (by rw [hW2]; exact rowC_new w1 _ _)
      have hgA : w1.grownBy W2 none := by rw [hW2]; exact World.grownBy_alloc w1 _ none
      have hrg2 := hrg1.kept hgA (by simp) (by simp)
      have HO2 : Hid (OwnsN W2 (w.heap.size + 1) (.slice av ln cv) l) := Lib.hid (by
        rw [hW2]
        refine World.ownsRow.alloc ?_ _
        have hc : Chg (fun j => j = w.heap.size) wr w1 := (Chg.refl _ _).grown hg1 (fun j hj => by cases hj; exact .inl rfl)
        exact hc.owns hO.out (fun q hq e => by have := (World.ownsRow.lt hO.out q hq).1; omega))
      have HW2 := Lib.hid hW2
      have HRA : Hid (W2.rangeAt w1.heap.size 0 (ndV p.nd)) := Lib.hid (rowC_range HZ2.out 0 _ (fun j u hj => (by
        rw [Nat.zero_add]
        match j, hj with
        | 0, hj => exact hj
        | 1, hj => exact hj
        | 2, hj => exact hj
        | 3, hj => exact hj)))
      have HONE := Lib.hid (plA_one p)
      have HRG : Hid (W2.ranges Tryz.prog 9 plR M w.heap.size n (datG g) (fun z => left z && !z.sameKey (.string p.nd.path)) cnt1) := Lib.hid hrg2
      clear hW2 hs1 hrg1 hg1 hgA hrg2 hat hpG hkl hs' hO hown
      go_wp2_with (first
        | ((with_reducible show wpList _ _ _ (⟨none, .store _ (.tmp 5) _, _, _, _, _⟩ :: _) _ _); refine wpList_store_last rfl 104 _ _ rfl w1.heap.size (plA p) rfl rfl 104 _ rfl HI5.out rfl HONE.out ?_; rw [← HW2.out])
        | ((with_reducible show wpList _ _ _ (⟨some 17, .load _ _, _, _, _, _⟩ :: _) _ _); refine wpList_load_mid rfl 32 _ rfl w1.heap.size 0 rfl (ndV p.nd) _ HRA.out Tryz.underlying32 rfl HI4.out ?_)
        | (go_at_call 28; (refine (CC _).mono ?_; rintro e w3 ⟨rfl, hB3⟩; have HB4 : Hid (Below w.heap.size w (w3.alloc (.cells (ndA p.nd) 32))) := Lib.hid ((HB2.out.trans (hB3.mono HB2.out.size)).alloc (HB2.out.trans (hB3.mono HB2.out.size)).size _); have HRG4 : Hid ((w3.alloc (.cells (ndA p.nd) 32)).ranges Tryz.prog 9 plR M w.heap.size n (datG g) (fun z => left z && !z.sameKey (.string p.nd.path)) cnt1) := Lib.hid ((HRG.out.kept (grown_of_below hB3) (by simp) (by simp)).kept (World.grownBy_alloc w3 _ none) (by simp) (by simp)); have HO4 : Hid ((w3.alloc (.cells (ndA p.nd) 32)).ownsRow (w.heap.size + 1) 32 4 (.slice av ln cv) ln (rowN l)) := Lib.hid (by have h1 : OwnsN w3 (w.heap.size + 1) (.slice av ln cv) l := (Chg.of_below (s := fun _ => False) hB3).owns HO2.out (fun _ _ => id); have h2 := World.ownsRow.alloc h1 (.cells (ndA p.nd) 32); rwa [HLN.out] at h2); have HNEW : Hid (∀ j u, (ndV p.nd)[j]? = some u → (w3.alloc (.cells (ndA p.nd) 32)).cell? ((⟨w3.heap.size, 0, none⟩ : Addr).add j) = some u) := Lib.hid (fun j u hu => by rw [show (⟨w3.heap.size, 0, none⟩ : Addr) = (⟨w3.heap.size, 0, none⟩ : Addr).add 0 from (addr_zero _).symm, add_add, Nat.zero_add, rowC_cell (rowC_new w3 (ndA p.nd) 32) j, ← ndV_arr, List.getElem?_toArray]; exact hu); have HBASE : Hid (w.heap.size + 1 ≤ (w3.alloc (.cells (ndA p.nd) 32)).heap.size) := Lib.hid (by have := HRG4.out.lt; omega); clear hB3))
        | ((with_reducible show wpList _ _ _ (⟨some 19, .buildSlice _ _ _, _, _, _, _⟩ :: _) _ _); refine wpList_oneR rfl 22 32 4 _ rfl (ndA p.nd) rfl i0 _ Tryz.underlying22 hi hz0 hz1 rfl (by decide) (by decide) ?_)
        | ((with_reducible show wpList _ _ _ (⟨some 20, .call _, _, _, _, _⟩ :: _) _ _); refine wpList_append_lies _ rfl _ _ 22 rfl (w.heap.size + 1) 32 i0 _ 4 48 Tryz.underlying22 hi hz0 hz1 hz2 rfl (by decide) (.slice av ln cv) ln (rowN l) rfl HO4.out ⟨w3.heap.size, 0, none⟩ 1 1 (ndV p.nd) rfl rfl HNEW.out (ndV_one _) (by decide) (by unfold maxLen; omega) (by omega) HBASE.out _ rfl ?_; intro g5 c5 w5 ho5 hg5 _ _)
        | go_in)
      have hown5 := World.ownsRow.lt HO4.out
      have hrg5 := HRG4.out.kept hg5 (fun e => by have := (hown5 M e.symm).1; omega) (fun e => by have := (hown5 _ e.symm).1; omega)
      have HBF : Hid (Below w.heap.size w w5) := Lib.hid (HB4.out.grown hg5 HB4.out.size (fun j hj => by have := (hown5 j hj).1; omega))
      have HOF : Hid (OwnsN w5 (w.heap.size + 1) (.slice (some ⟨g5, 0, none⟩) (ln + 1) c5) (l ++ [p.nd])) := Lib.hid (by
        show w5.ownsRow _ _ _ _ _ _
        rw [List.length_append, rowN_app, HLN.out]
        have e : rowN [p.nd] = ndV p.nd := by simp [rowN]
        rw [e]
        exact ho5)
      go_roundw
      case rel => exact ⟨_, cnt1, l ++ [p.nd], hrg5, HBF, HOF, HNP⟩
      case measure => rw [hrg5.left_eq, hrg.left_eq]; exact hlt
end Go.Proofs.YtoallfcpnbhhiaaGreatDoor
#print axioms Go.Proofs.YtoallfcpnbhhiaaGreatDoor.nodes_any

/- Layer 16: the program's Apply. -/
namespace Go.Proofs.YtoallfcpnbhhiaaGreatDoor
open Go.RowKit

/-! ### What a ground keeps -/
def SzG (g : List Pl) : Prop := ∀ p ∈ g, p.nd.path.length ≤ 200 ∧ p.nd.data.length ≤ 65536
theorem may_sz {n : Nd} (h : mayN n = true) : n.path.length ≤ 200 ∧ n.data.length ≤ 65536 := by
  unfold mayN at h
  simp only [Bool.and_eq_true, decide_eq_true_eq] at h
  obtain ⟨_, _, _, h4, h5⟩ := h
  refine ⟨by have := clean_len n.path; rw [h4] at this; exact this, ?_⟩
  unfold kindN at h5
  split at h5
  · exact of_decide_eq_true h5
  · split at h5
    · rw [of_decide_eq_true h5]; exact Nat.zero_le _
    · split at h5
      · rw [Bool.and_eq_true] at h5
        have := of_decide_eq_true h5.2
        omega
      · cases h5
theorem sz_put {g : List Pl} (h : SzG g) {p : Pl} (h1 : p.nd.path.length ≤ 200) (h2 : p.nd.data.length ≤ 65536) : SzG (putG g p) := fun q hq => by
  rcases put_mem.1 hq with rfl | ⟨h3, _⟩
  · exact ⟨h1, h2⟩
  · exact h q h3
theorem sz_filter {g : List Pl} (h : SzG g) (f : Pl → Bool) : SzG (g.filter f) := fun q hq => h q (List.mem_filter.1 hq).1
structure OkG (g : List Pl) : Prop where
  r : Rise g
  s : SzG g
theorem ok_put {g : List Pl} (h : OkG g) {p : Pl} (h1 : p.nd.path.length ≤ 200) (h2 : p.nd.data.length ≤ 65536) : OkG (putG g p) := ⟨rise_put h.r p, sz_put h.s h1 h2⟩
theorem ok_filter {g : List Pl} (h : OkG g) (f : Pl → Bool) : OkG (g.filter f) := ⟨rise_filter h.r f, sz_filter h.s f⟩
theorem ok_ground {l : List Nd} (h : ∀ n ∈ l, mayN n = true) : OkG (groundOf l) := by
  refine ⟨ground_rise l, ?_⟩
  have key : ∀ (l : List Nd) (g : List Pl), SzG g → (∀ n ∈ l, mayN n = true) → SzG (l.foldl (fun g n => putG g ⟨n, 0⟩) g) := by
    intro l
    induction l with
    | nil => intro g hg _; exact hg
    | cons n r ih =>
      intro g hg hm
      have := may_sz (hm n (by simp))
      exact ih _ (sz_put hg this.1 this.2) (fun m hmm => hm m (by simp [hmm]))
  exact key l [] (fun p hp => by cases hp) h
theorem enterG_ok (k : Int) : ∀ (n : Nat) (d : List UInt8) (g g' : List Pl), d.length ≤ n → d.length ≤ 200 → OkG g → enterG k d g = some g' → OkG g'
  | 0, d, g, g', hn, _, hg, h => by
    have : d = [] := List.eq_nil_of_length_eq_zero (by omega)
    subst this
    rw [enterG_nil] at h
    cases h
    exact hg
  | n + 1, d, g, g', hn, h2, hg, h => by
    by_cases hd : d = []
    · subst hd
      rw [enterG_nil] at h
      cases h
      exact hg
    · rw [enterG_step k hd] at h
      have hp := parent_lt hd
      cases he : enterG k (parentL d) g with
      | none => rw [he] at h; cases h
      | some g1 =>
        rw [he] at h
        have h1 := enterG_ok k n (parentL d) g g1 (by omega) (by omega) hg he
        simp only at h
        cases hl : lookG g1 d with
        | none =>
          rw [hl] at h
          simp only at h
          cases h
          exact ok_put h1 h2 (Nat.zero_le _)
        | some p =>
          rw [hl] at h
          simp only at h
          have hs := h1.s p (look_some hl).1
          split at h
          · cases h
            exact ok_put h1 hs.1 hs.2
          · cases h
theorem nodeG_may {g : List Pl} {x : En} {p : List UInt8} (h : (nodeG g x p).2 = 0) : mayN (nodeG g x p).1 = true := by
  have pick : ∀ {n : Nd}, (if mayN n = true then (n, (0 : Int)) else (default, 2)).2 = 0 → mayN (if mayN n = true then (n, (0 : Int)) else (default, 2)).1 = true := fun {n} h => by
    cases hm : mayN n
    · rw [hm] at h; cases h
    · exact hm
  unfold nodeG at h ⊢
  by_cases h3 : x.kind = 3
  · rw [if_pos h3] at h ⊢
    by_cases h4 : (linkedG g x.to).2 = 0
    · rw [if_pos h4] at h ⊢
      exact pick h
    · rw [if_neg h4] at h
      exact absurd h h4
  · rw [if_neg h3] at h ⊢
    exact pick h
theorem layG_ok {k : Int} {g : List Pl} {n : Nd} (hg : OkG g) (hm : mayN n = true) : OkG (layG k g n) := by
  have := may_sz hm
  unfold layG
  refine ok_put ?_ this.1 this.2
  split
  · exact ok_filter hg _
  · exact hg
theorem stepT_ok {k : Int} {g : List Pl} {x : En} (hg : OkG g) (h : (stepT k g x).2 = 0) : OkG (stepT k g x).1 := by
  by_cases hce : (cleanL x.name).2 = 0
  rotate_left
  · rw [stepT_err hce]
    exact hg
  · by_cases hp : (cleanL x.name).1 = []
    · rw [stepT_root hce hp]
      exact hg
    · cases hw : (whiteL (baseL (cleanL x.name).1)).2.2 with
      | true =>
        rw [stepT_wh rfl hce hp hw]
        exact ok_filter hg _
      | false =>
        rw [stepT_in rfl hce hp hw] at h ⊢
        have hcl := clean_len x.name
        have hpl := parent_le (cleanL x.name).1
        cases he : enterG k (parentL (cleanL x.name).1) g with
        | none => rw [he] at h; cases h
        | some g1 =>
          rw [he] at h
          have h1 := enterG_ok k _ (parentL (cleanL x.name).1) g g1 (Nat.le_refl _) (by omega) hg he
          simp only at h ⊢
          split at h
          · rename_i h2
            rw [if_pos h2]
            exact layG_ok h1 (nodeG_may h2)
          · rename_i h2
            exact absurd h h2
theorem stepsT_ok {k : Int} : ∀ (l : List En) {g : List Pl}, OkG g → (stepsT k g l).2 = 0 → OkG (stepsT k g l).1
  | [], _, hg, _ => hg
  | x :: r, g, hg, h => by
    rw [stepsT_cons] at h ⊢
    by_cases h0 : (stepT k g x).2 = 0
    · rw [if_pos h0] at h ⊢
      exact stepsT_ok r (stepT_ok hg h0) h
    · rw [if_neg h0] at h
      exact absurd h h0
theorem laysT_ok {k : Int} {l : List En} {g : List Pl} (hg : OkG g) (h : (laysT k g l).2 = 0) : OkG (laysT k g l).1 ∧ (laysT k g l).1.length ≤ 400 := by
  unfold laysT at h ⊢
  split
  · rename_i h1; rw [if_pos h1] at h; cases h
  · rename_i h1
    rw [if_neg h1] at h
    split
    · rename_i h2
      rw [if_pos h2] at h
      split
      · rename_i h3; rw [if_pos h3] at h; cases h
      · exact ⟨stepsT_ok l hg h2, by show (stepsT k g l).1.length ≤ 400; omega⟩
    · rename_i h2
      rw [if_neg h2] at h
      exact absurd h h2
/-! ### Apply -/
theorem applyT_bad {l : List Nd} {x : List En} (h : checkT l ≠ 0) : applyT l x = ([], checkT l) := by unfold applyT; rw [if_neg h]
theorem applyT_no {l : List Nd} {x : List En} (h : checkT l = 0) (h2 : (laysT 1 (groundOf l) x).2 ≠ 0) : applyT l x = ([], (laysT 1 (groundOf l) x).2) := by unfold applyT; rw [if_pos h, if_neg h2]
theorem applyT_ok {l : List Nd} {x : List En} (h : checkT l = 0) (h2 : (laysT 1 (groundOf l) x).2 = 0) : applyT l x = ((laysT 1 (groundOf l) x).1.map Pl.nd, 0) := by unfold applyT; rw [if_pos h, if_pos h2]
theorem check_zero {l : List Nd} (h : checkT l = 0) : l.length ≤ 400 ∧ treeB l = true := by
  unfold checkT at h
  split at h
  · cases h
  · split at h
    · rename_i h2; exact ⟨by omega, h2⟩
    · cases h
theorem tree_may {l : List Nd} (h : treeB l = true) : ∀ n ∈ l, mayN n = true := fun n hn => by
  obtain ⟨i, hi, rfl⟩ := List.getElem_of_mem hn
  exact ((treeB_iff l).1 h i _ (List.getElem?_eq_getElem hi)).1
set_option maxRecDepth 100000 in
set_option maxHeartbeats 16000000 in
theorem apply_any (l : List Nd) (ad : Option Addr) (c : Nat) (hl : l.length ≤ maxLen) (hlc : l.length ≤ c) (hp : ∀ n ∈ l, n.path.length ≤ 900000) (x : List En) (ax : Option Addr) (cx : Nat) (hx : x.length ≤ maxLen) (hsm : ∀ y ∈ x, y.name.length ≤ 900000 ∧ y.to.length ≤ 900000)
    (w : World) (h : NodesAt w ad l) (hE : EnsAt w ax x) :
    Calls Tryz.prog 20 #[.slice ad l.length c, .slice ax x.length cx] w fun e w' =>
      (∃ a' c', e = .returned (.tuple #[.slice a' (applyT l x).1.length c', .int .i64 (applyT l x).2]) ∧ (applyT l x).1.length ≤ c' ∧ NodesAt w' a' (applyT l x).1) ∧ Below w.heap.size w w' := by
  have CC := check_any l ad c hl hlc hp w h
  have HN := Lib.hid h
  have HE := Lib.hid hE
  by_cases hc0 : checkT l = 0
  rotate_left
  · have HR := Lib.hid (applyT_bad (x := x) hc0)
    generalize checkT l = ce at *
    have g1 : (ce != 0) = true := by rw [bne_iff_ne]; exact hc0
    clear hc0
    go_enter Tryz.func20, Tryz.ntmps20
    go_wp2_with (go_at_call 12; (refine CC.mono ?_; rintro e w1 ⟨rfl, hB1⟩))
    go_ret2
    exact ⟨⟨none, 0, by rw [HR.out]; rfl, by rw [HR.out]; exact Nat.le_refl _, by rw [HR.out]; exact NodesAt.nil _ _⟩, hB1⟩
  · obtain ⟨h400, htree⟩ := check_zero hc0
    have hmay := tree_may htree
    have hok := ok_ground hmay
    have HOK := Lib.hid (fun (h2 : (laysT 1 (groundOf l) x).2 = 0) => laysT_ok hok h2)
    have HNO := Lib.hid (fun (h2 : (laysT 1 (groundOf l) x).2 ≠ 0) => applyT_no hc0 h2)
    have HYES := Lib.hid (fun (h2 : (laysT 1 (groundOf l) x).2 = 0) => applyT_ok hc0 h2)
    have CG := fun W (hW : NodesAt W ad l) => groundOf_any l ad c (by omega) hp W hW
    have hgl := ground_len l
    have CL := fun (B M : Nat) W (hb : Below w.heap.size w W) (hB : w.heap.size ≤ B) (hM : w.heap.size ≤ M) (hG : GrAt W B M (groundOf l) 0) => lay_any x ax cx hx hsm B M (groundOf l) (by omega) 0 (by omega) (by omega) w HE.out W hb hB hM hG
    rw [hc0] at CC
    rw [show (0 : Int) + 1 = 1 from rfl] at CL
    clear hc0 hmay htree hok
    generalize hgr : groundOf l = g0 at *
    generalize laysT 1 g0 x = LT at *
    obtain ⟨g1, e1⟩ := LT
    simp only at CL HOK HNO HYES
    have HL4 : Hid (l.length ≤ 1000000) := Lib.hid (by omega)
    by_cases he1 : e1 = 0
    rotate_left
    · have HR := Lib.hid (HNO.out he1)
      have gg : (e1 != 0) = true := by rw [bne_iff_ne]; exact he1
      clear HNO HYES HOK he1
      go_enter Tryz.func20, Tryz.ntmps20
      go_wp2_with (first
        | (go_at_call 12; (refine CC.mono ?_; rintro e w1 ⟨rfl, hB1⟩; have HB1 := Lib.hid hB1; have HN1 := Lib.hid (HN.out.below hB1); clear hB1))
        | (go_at_call 38; (refine (CG _ HN1.out).mono ?_; rintro e w2 ⟨rfl, hr2, hm2, hb2⟩; have HB2 := Lib.hid (HB1.out.trans (hb2.mono HB1.out.size)); have HG2 := Lib.hid (GrAt.mk hr2 hm2); have HZ2 := Lib.hid HB1.out.size; clear hr2 hm2 hb2))
        | (go_at_call 39; (refine (CL _ _ _ HB2.out (by have := HZ2.out; omega) (by have := HZ2.out; omega) HG2.out).mono ?_; rintro e w3 ⟨rfl, _, hC3⟩; have HB3 : Hid (Below w.heap.size w w3) := Lib.hid (HB2.out.trans (Chg.below hC3 HB2.out.size (fun j h1 h2 => by have := HZ2.out; omega))); clear hC3)))
      go_ret2
      exact ⟨⟨none, 0, by rw [HR.out]; rfl, by rw [HR.out]; exact Nat.le_refl _, by rw [HR.out]; exact NodesAt.nil _ _⟩, HB3.out⟩
    · subst he1
      have HR := Lib.hid (HYES.out rfl)
      obtain ⟨hok1, hlen1⟩ := HOK.out rfl
      have CN := fun (B M : Nat) W (hG : GrAt W B M g1 1) => nodes_any B M g1 hok1.r (by omega) (fun p hp => by have := hok1.s p hp; omega) 1 W hG
      have HLN : Hid ((g1.map Pl.nd).length = g1.length) := Lib.hid (List.length_map _)
      clear HNO HYES HOK hok1
      obtain ⟨gl, hgl1⟩ : ∃ gl, gl = g1.length := ⟨_, rfl⟩
      rw [← hgl1] at CN HLN
      clear hgl1
      go_enter Tryz.func20, Tryz.ntmps20
      go_wp2_with (first
        | (go_at_call 12; (refine CC.mono ?_; rintro e w1 ⟨rfl, hB1⟩; have HB1 := Lib.hid hB1; have HN1 := Lib.hid (HN.out.below hB1); clear hB1))
        | (go_at_call 38; (refine (CG _ HN1.out).mono ?_; rintro e w2 ⟨rfl, hr2, hm2, hb2⟩; have HB2 := Lib.hid (HB1.out.trans (hb2.mono HB1.out.size)); have HG2 := Lib.hid (GrAt.mk hr2 hm2); have HZ2 := Lib.hid HB1.out.size; clear hr2 hm2 hb2))
        | (go_at_call 39; (refine (CL _ _ _ HB2.out (by have := HZ2.out; omega) (by have := HZ2.out; omega) HG2.out).mono ?_; rintro e w3 ⟨rfl, hG3, hC3⟩; have HG3 : Hid (GrAt w3 (w1.heap.size + 1) w1.heap.size g1 1) := Lib.hid (by first | exact hG3 | exact hG3 rfl | exact hG3 trivial); have HB3 : Hid (Below w.heap.size w w3) := Lib.hid (HB2.out.trans (Chg.below hC3 HB2.out.size (fun j h1 h2 => by have := HZ2.out; omega))); clear hC3 hG3))
        | (go_at_call 40; (refine (CN _ _ _ HG3.out).mono ?_; rintro e w4 ⟨⟨a4, c4, rfl, hcap, hn4⟩, hb4⟩)))
      go_ret2
      exact ⟨⟨a4, c4, by rw [HR.out, HLN.out]; rfl, by rw [HR.out, HLN.out]; exact hcap, by rw [HR.out]; exact hn4⟩, HB3.out.trans (hb4.mono HB3.out.size)⟩
end Go.Proofs.YtoallfcpnbhhiaaGreatDoor
#print axioms Go.Proofs.YtoallfcpnbhhiaaGreatDoor.apply_any

