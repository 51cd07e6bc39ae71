/- Layer 16: TreesHides walked. -/
import Derived.Test.YtokeiagcdahmaaaDoorTuB
import Derived.Test.YtokeiagcdahmaaaDoorTuE
import Derived.Deep.AppendLies
namespace Go.Proofs.YtokeiagcdahmaaaDoor
open Go.RowKit

def rowEn (l : List En) : List Value := l.flatMap enV
theorem rowEn_app (a b : List En) : rowEn (a ++ b) = rowEn a ++ rowEn b := by simp [rowEn]
theorem rowEn_len (l : List En) : (rowEn l).length = l.length * 5 := by
  induction l with
  | nil => rfl
  | cons x r ih =>
    have : rowEn (x :: r) = enV x ++ rowEn r := rfl
    rw [this, List.length_append, ih, List.length_cons, show (enV x).length = 5 from rfl]
    omega
/-- Entries in a row of the call's own. -/
def OwnsEn (w : World) (base : Nat) (v : Value) (l : List En) : Prop := w.ownsRow base 27 5 v l.length (rowEn l)
theorem OwnsEn.ens {w : World} {base : Nat} {a : Option Addr} {n c : Nat} {l : List En} (h : OwnsEn w base (.slice a n c) l) : EnsAt w a l := fun i x hx => by
  have hp : 0 < l.length := by have := (List.getElem?_eq_some_iff.1 hx).1; omega
  obtain ⟨g, c', hv⟩ := owns_some h hp
  simp only [Value.slice.injEq] at hv
  obtain ⟨rfl, rfl, _⟩ := hv
  refine ⟨⟨g, 0, none⟩, rfl, (World.ownsRow.lt h g rfl).2, fun j u hu => ?_⟩
  have hi : i < l.length := (List.getElem?_eq_some_iff.1 hx).1
  have hj : j < 5 := (List.getElem?_eq_some_iff.1 hu).1
  have hrow : (rowEn l)[i * 5 + j]? = some u := by
    have : rowEn l = rowEn (l.take i) ++ (enV x ++ rowEn (l.drop (i + 1))) := by
      conv => lhs; rw [← List.take_append_drop i l, List.drop_eq_getElem_cons hi]
      rw [rowEn_app]
      have hxe : l[i] = x := by rw [List.getElem?_eq_getElem hi] at hx; exact Option.some.inj hx
      rw [hxe]
      simp [rowEn]
    have hl : (rowEn (l.take i)).length = i * 5 := by rw [rowEn_len, List.length_take]; omega
    rw [this, List.getElem?_append_right (by omega), hl, Nat.add_sub_cancel_left, List.getElem?_append_left (by exact hj)]
    exact hu
  have h2 : w.ownsRow base 27 5 (.slice (some ⟨g, 0, none⟩) l.length c) l.length (rowEn l) := h
  rw [add_add]
  exact (World.ownsRow.cellAt h2 _ (by omega)).trans hrow
theorem owns_noneEn (w : World) (base : Nat) : OwnsEn w base (.slice none 0 0) [] := ⟨by simp [rowEn], .inl ⟨rfl, rfl⟩⟩
def zsL (z : Nat → Nat) (n : Nat) : List Nat := (List.range n).map z
theorem zsL_len (z : Nat → Nat) (n : Nat) : (firstL (zsL z n)).length = n := by simp [firstL, zsL]
theorem owns_first {w : World} {base : Nat} {v : Value} {z : Nat → Nat} {k : Nat} (h : OwnsEn w base v (firstL (zsL z k))) : w.ownsRow base 27 5 v k (rowEn (firstL (zsL z k))) := by
  unfold OwnsEn at h
  rwa [zsL_len] at h
theorem zsL_succ (z : Nat → Nat) (n : Nat) : firstL (zsL z (n + 1)) = firstL (zsL z n) ++ [fileE (pathL (z n)) [49]] := by simp [firstL, zsL, List.range_succ]
theorem pathL_len (n : Nat) : (pathL n).length ≤ 4 := by
  rw [pathL_rs]
  exact (f_len (Nat.mod_lt _ (by decide)) (Nat.mod_lt _ (by decide))).1
theorem first_small (ns : List Nat) : ∀ y ∈ firstL ns, y.name.length ≤ 900000 ∧ y.to.length ≤ 900000 := fun y hy => by
  obtain ⟨n, _, rfl⟩ := List.mem_map.1 hy
  have := pathL_len n
  exact ⟨by show (pathL n).length ≤ 900000; omega, Nat.zero_le _⟩
theorem two_small {a b c d : List UInt8} (ha : a.length ≤ 100) (hb : b.length ≤ 100) : ∀ y ∈ [fileE a c, fileE b d], y.name.length ≤ 900000 ∧ y.to.length ≤ 900000 := fun y hy => by
  simp only [List.mem_cons, List.not_mem_nil, or_false] at hy
  rcases hy with rfl | rfl
  · exact ⟨by show a.length ≤ 900000; omega, Nat.zero_le _⟩
  · exact ⟨by show b.length ≤ 900000; omega, Nat.zero_le _⟩
theorem cond_cases : ∀ bX sa bY bA gone sb bB bK : Bool, ((!bX && (!sa || (!bY && !bA))) || (gone && (sb != bY)) || (!gone && (!sb || (!bY && !bB && bK)))) = false →
    (bX = true ∨ (bX = false ∧ sa = true ∧ (bY = true ∨ (bY = false ∧ bA = true)))) ∧ ((gone = true ∧ ((bY = true ∧ sb = true) ∨ (bY = false ∧ sb = false))) ∨ (gone = false ∧ sb = true ∧ (bY = true ∨ (bY = false ∧ (bB = true ∨ (bB = false ∧ bK = false)))))) := by
  intro bX sa bY bA gone sb bB bK
  cases bX <;> cases sa <;> cases bY <;> cases bA <;> cases gone <;> cases sb <;> cases bB <;> cases bK <;> simp
theorem gone_cases {p : List UInt8} {g : Bool} (h : goneB p = g) : (g = true ∧ 2 < p.length ∧ p.take 2 = [97, 47]) ∨ (g = false ∧ ¬ 2 < p.length) ∨ (g = false ∧ 2 < p.length ∧ p.take 2 ≠ [97, 47]) := by
  unfold goneB at h
  by_cases h1 : 2 < p.length
  · by_cases h2 : p.take 2 = [97, 47]
    · left
      rw [decide_eq_true h1, decide_eq_true h2] at h
      exact ⟨h.symm, h1, h2⟩
    · right; right
      rw [decide_eq_true h1, decide_eq_false h2] at h
      exact ⟨h.symm, h1, h2⟩
  · right; left
    rw [decide_eq_false h1] at h
    exact ⟨h.symm, h1⟩
set_option maxRecDepth 100000 in
set_option maxHeartbeats 64000000 in
theorem hides_any (a0 : Option Addr) (N cap0 : Nat) (nx ny : Nat) (w : World) (z : Nat → Nat)
    (hz : 0 < N → ∃ b off, a0 = some ⟨b, off, none⟩ ∧ b < w.heap.size ∧ ∀ j, j < N → w.cell? ⟨b, off + j, none⟩ = some (.int .u8 (z j : Int)) ∧ z j < 256) (hx : nx < 256) (hy : ny < 256) :
    Calls Tryd.prog 3 #[.slice a0 N cap0, .agg #[.int .u8 (nx : Int), .int .u8 (ny : Int)]] w fun e w' => e = .returned (.bool true) ∧ Below w.heap.size w w' := by
  have CL := fun W => laid_any W
  by_cases hl : 20 < N
  · have g1 : (20 : Int) < (N : Int) := by omega
    have HB0 : Hid (∀ o, Below w.heap.size w (w.alloc o)) := Lib.hid fun o => (Below.refl _ _).alloc (Nat.le_refl _) _
    clear hz hl
    go_enter Tryd.func3, Tryd.ntmps3
    go_wp2_with (go_at_call 4; (refine (CL _).mono ?_; rintro e w1 ⟨rfl, b1⟩))
    go_ret
    exact ⟨rfl, (HB0.out _).trans (b1.mono (HB0.out _).size)⟩
  have hN20 : N ≤ 20 := by omega
  have g1 : ¬ (20 : Int) < (N : Int) := by omega
  obtain ⟨ie, hie, hez, hes, heb⟩ := info_parts info_en
  obtain ⟨i0, hi0, hz0, hz1, hz2⟩ := info_parts info_nd
  have HI := Lib.hid info_nd4
  have HZ := Lib.hid hz
  -- the plain side
  obtain ⟨g, hap, hfam, hg40⟩ := apply_first (zsL z N) (by simp [zsL]; exact hN20)
  have hrx : nx % 3 < 3 := Nat.mod_lt _ (by decide)
  have hsx : nx / 3 % 6 < 6 := Nat.mod_lt _ (by decide)
  have hry : ny % 3 < 3 := Nat.mod_lt _ (by decide)
  have hsy : ny / 3 % 6 < 6 := Nat.mod_lt _ (by decide)
  obtain ⟨M, K, hM, hK, hsM, hsK, hH⟩ := hides hfam hg40 hrx hsx hry hsy
  have hsL := szs_of (fam_sz hfam) (by omega)
  have hwl := f_wlen hrx hsx
  have hxl := f_len hrx hsx
  have hyl := f_len hry hsy
  rw [← pathL_rs] at hM hK hH hwl hxl hyl
  rw [← pathL_rs] at hM hH
  have CPX := fun W => path_any nx hx W
  have CPY := fun W => path_any ny hy W
  have CPZ := fun k (hk : z k < 256) W => path_any (z k) hk W
  obtain ⟨X, hX⟩ : ∃ X, X = pathL nx := ⟨_, rfl⟩
  obtain ⟨Y, hY⟩ : ∃ Y, Y = pathL ny := ⟨_, rfl⟩
  rw [← hX] at hM hH hwl hxl CPX
  rw [← hY] at hM hK hH hyl CPY
  obtain ⟨L, hL⟩ : ∃ L, L = g.map Pl.nd := ⟨_, rfl⟩
  rw [← hL] at hap hM hK hH hsL
  obtain ⟨G, hG⟩ : ∃ G, G = L.length := ⟨_, rfl⟩
  obtain ⟨GM, hGM⟩ : ∃ GM, GM = M.length := ⟨_, rfl⟩
  obtain ⟨GK, hGK⟩ : ∃ GK, GK = K.length := ⟨_, rfl⟩
  have hG100 : G ≤ 100 := by rw [hG]; exact hsL.len
  have hGM100 : GM ≤ 100 := by rw [hGM]; exact hsM.len
  have hGK100 : GK ≤ 100 := by rw [hGK]; exact hsK.len
  have HKL := Lib.hid (applyK hap (nl := 0) (nx := N) (nr := G) rfl (zsL_len z N) hG.symm (by decide) (by omega) (by intro n hn; cases hn) (first_small _))
  have HKM := Lib.hid (applyK hM (nl := G) (nx := 2) (nr := GM) hG.symm rfl hGM.symm (by omega) (by decide) (fun n hn => (hsL.sz n hn).1) (two_small (by omega) (by omega)))
  have HKK := Lib.hid (applyK hK (nl := G) (nx := 2) (nr := GK) hG.symm rfl hGK.symm (by omega) (by decide) (fun n hn => (hsL.sz n hn).1) (two_small (by decide) (by omega)))
  have HFM : Hid (∀ (p : List UInt8) (ad : Option Addr) (c : Nat) (W : World), NodesAt W ad M → Calls Tryd.prog 9 #[.slice ad GM c, .string (str p)] W fun e w' => e = .returned (.tuple #[.agg (ndA ((findN M p).getD nd0)), .bool (findN M p).isSome]) ∧ Below W.heap.size W w') := Lib.hid fun p ad c W h => by
    rw [hGM]
    exact find_any M p ad c (by unfold maxLen; omega) hsM.sz W h
  have HFK : Hid (∀ (p : List UInt8) (ad : Option Addr) (c : Nat) (W : World), NodesAt W ad K → Calls Tryd.prog 9 #[.slice ad GK c, .string (str p)] W fun e w' => e = .returned (.tuple #[.agg (ndA ((findN K p).getD nd0)), .bool (findN K p).isSome]) ∧ Below W.heap.size W w') := Lib.hid fun p ad c W h => by
    rw [hGK]
    exact find_any K p ad c (by unfold maxLen; omega) hsK.sz W h
  have CFZ : ∀ (n : Nat) W, Calls Tryd.prog 5 #[.string (str (pathL n)), .string ⟨#[49]⟩] W fun e w' => e = .returned (.agg (enA (fileE (pathL n) [49]))) ∧ Below W.heap.size W w' := fun n W => file_any (pathL n) [49] W
  have CFY : ∀ W, Calls Tryd.prog 5 #[.string (str Y), .string ⟨#[50]⟩] W fun e w' => e = .returned (.agg (enA (fileE Y [50]))) ∧ Below W.heap.size W w' := fun W => file_any Y [50] W
  have CFX : ∀ W, Calls Tryd.prog 5 #[.string (str (whP X)), .string ⟨#[]⟩] W fun e w' => e = .returned (.agg (enA (fileE (whP X) []))) ∧ Below W.heap.size W w' := fun W => file_any (whP X) [] W
  have CFO : ∀ W, Calls Tryd.prog 5 #[.string ⟨#[97, 47, 46, 119, 104, 46, 46, 119, 104, 46, 46, 111, 112, 113]⟩, .string ⟨#[]⟩] W fun e w' => e = .returned (.agg (enA (fileE opqN []))) ∧ Below W.heap.size W w' := fun W => file_any opqN [] W
  have CWX := fun W => whiteP_any X (by omega) hxl.2 W
  have HH := Lib.hid hH
  have HLT : Hid (∀ i : Nat, i < G → ∃ x, L[i]? = some x) := Lib.hid fun i hi => ⟨L[i]'(by omega), List.getElem?_eq_getElem (by omega)⟩
  have HGN := hH.gone
  obtain ⟨ZY, HZY, hzy⟩ := hH.last
  have qXY := eq_strs X Y
  have hone0 := Lib.hid (ndA_one nd0)
  have HONE := Lib.hid ndA_one
  have gd := guard_nd
  obtain ⟨W0, hW0⟩ : ∃ W0, W0 = w.alloc (.cells #[.int .u8 (nx : Int), .int .u8 (ny : Int)] 23) := ⟨_, rfl⟩
  have HW0 := Lib.hid hW0
  have HR0 : Hid (rowC W0 w.heap.size #[.int .u8 (nx : Int), .int .u8 (ny : Int)] 23) := Lib.hid (by rw [hW0]; exact rowC_new w _ _)
  have HB0 : Hid (Below w.heap.size w W0) := Lib.hid (by rw [hW0]; exact (Below.refl _ _).alloc (Nat.le_refl _) _)
  have HP0 : Hid (w.heap.size + 1 ≤ W0.heap.size) := Lib.hid (by rw [hW0, size_alloc]; exact Nat.le_refl _)
  clear hW0 hz hl hap hM hK hH hsM hsK hsL hL hG hGM hGK hwl hxl hyl hrx hsx hry hsy hX hY hfam
  go_enter Tryd.func3, Tryd.ntmps3
  go_upto_region 1 with (fail)
  rw [← HW0.out]
  go_upto_region 5 with (fail)
  go_loopw [5, 6] (fun v i wr => ∃ k : Nat, k ≤ N ∧ i = .int .i64 k ∧ Hid (OwnsEn wr (w.heap.size + 1) v (firstL (zsL z k))) ∧ Hid (Below (w.heap.size + 1) W0 wr) ∧ Hid (Below w.heap.size w wr) ∧ Hid (rowC wr w.heap.size #[.int .u8 (nx : Int), .int .u8 (ny : Int)] 23)) (fun _ i _ => N - (intOf i).toNat)
  case atStart => exact ⟨0, Nat.zero_le _, rfl, Lib.hid (owns_noneEn _ _), Lib.hid (Below.refl _ _), HB0, HR0⟩
  case round =>
    obtain ⟨k, hk, rfl, hO, hC, hB, hR⟩ := hrel
    obtain ⟨av, cv, hv⟩ := owns_form hO.out
    rw [zsL_len] at hv
    subst hv
    by_cases hlt : k < N
    · obtain ⟨b, off, rfl, hbw, hcell⟩ := HZ.out (by omega)
      obtain ⟨hck, hz256⟩ := hcell k hlt
      have ck : wr.cell? ⟨b, off + k, none⟩ = some (.int .u8 (z k : Int)) := by rw [cell_far hB.out hbw]; exact hck
      have g2 : (k : Int) < (N : Int) := by omega
      have C1 := CPZ k hz256
      have C2 := CFZ (z k)
      have HBW := Lib.hid hbw
      clear hck hcell CPZ CFZ CPX CPY CFY CFX CFO CWX hbw
      go_wp2_with (first
        | (go_at_call 6; (refine (C1 _).mono ?_; rintro e w1 ⟨rfl, hb1⟩))
        | (go_at_call 5; (refine (C2 _).mono ?_; rintro e w2 ⟨rfl, hb2⟩; have HS2 : Hid (Below wr.heap.size wr (w2.alloc (.cells (enA (fileE (pathL (z k)) [49])) 27))) := Lib.hid ((hb1.trans (hb2.mono hb1.size)).alloc (hb1.trans (hb2.mono hb1.size)).size _); have HB2 : Hid (Below w.heap.size w (w2.alloc (.cells (enA (fileE (pathL (z k)) [49])) 27))) := Lib.hid (hB.out.trans (HS2.out.mono hB.out.size)); have HWS : Hid (w.heap.size + 1 ≤ wr.heap.size) := Lib.hid (Nat.le_trans HP0.out hC.out.size); have HC2 : Hid (Below (w.heap.size + 1) W0 (w2.alloc (.cells (enA (fileE (pathL (z k)) [49])) 27))) := Lib.hid (hC.out.trans (HS2.out.mono HWS.out)); have HR2 : Hid (rowC (w2.alloc (.cells (enA (fileE (pathL (z k)) [49])) 27)) w.heap.size #[.int .u8 (nx : Int), .int .u8 (ny : Int)] 23) := Lib.hid (rowC_below hR.out HS2.out (rowC_lt hR.out)); have HO2 : Hid ((w2.alloc (.cells (enA (fileE (pathL (z k)) [49])) 27)).ownsRow (w.heap.size + 1) 27 5 (.slice av k cv) k (rowEn (firstL (zsL z k)))) := Lib.hid (owns_first ((Chg.of_below (s := fun _ => False) HS2.out).owns hO.out (fun _ _ => id))); have HNEW : Hid (∀ j u, (enV (fileE (pathL (z k)) [49]))[j]? = some u → (w2.alloc (.cells (enA (fileE (pathL (z k)) [49])) 27)).cell? ((⟨w2.heap.size, 0, none⟩ : Addr).add j) = some u) := Lib.hid (fun j u hu => by rw [show (⟨w2.heap.size, 0, none⟩ : Addr) = (⟨w2.heap.size, 0, none⟩ : Addr).add 0 from (addr_zero _).symm, add_add, Nat.zero_add, rowC_cell (rowC_new w2 (enA (fileE (pathL (z k)) [49])) 27) j, ← enV_arr, List.getElem?_toArray]; exact hu); have HBASE : Hid (w.heap.size + 1 ≤ (w2.alloc (.cells (enA (fileE (pathL (z k)) [49])) 27)).heap.size) := Lib.hid (Nat.le_trans HWS.out HS2.out.size); clear hb1 hb2))
        | ((with_reducible show wpList _ _ _ (⟨some 43, .buildSlice _ _ _, _, _, _, _⟩ :: _) _ _); refine wpList_oneR rfl 25 27 5 _ rfl (enA (fileE (pathL (z k)) [49])) rfl ie _ Tryd.underlying25 hie hez hes rfl (by decide) (by decide) ?_)
        | ((with_reducible show wpList _ _ _ (⟨some 44, .call _, _, _, _, _⟩ :: _) _ _); refine wpList_append_lies _ rfl _ _ 25 rfl (w.heap.size + 1) 27 ie _ 5 64 Tryd.underlying25 hie hez hes heb rfl (by decide) (.slice av k cv) k (rowEn (firstL (zsL z k))) rfl HO2.out ⟨w2.heap.size, 0, none⟩ 1 1 (enV (fileE (pathL (z k)) [49])) rfl rfl HNEW.out (enV_one _) (by decide) (by unfold maxLen; omega) (by omega) HBASE.out _ rfl ?_; intro g5 c5 w5 ho5 hg5 _ _)
        | go_in)
      have hown5 := World.ownsRow.lt HO2.out
      have HBF : Hid (Below w.heap.size w w5) := Lib.hid (HB2.out.grown hg5 HB2.out.size (fun j hj => by have := (hown5 j hj).1; omega))
      have HCF : Hid (Below (w.heap.size + 1) W0 w5) := Lib.hid (HC2.out.grown hg5 HBASE.out (fun j hj => (hown5 j hj).1))
      have HRF : Hid (rowC w5 w.heap.size #[.int .u8 (nx : Int), .int .u8 (ny : Int)] 23) := Lib.hid (rowC_below HR0.out HCF.out (Nat.lt_succ_self _))
      have HOF : Hid (OwnsEn w5 (w.heap.size + 1) (.slice (some ⟨g5, 0, none⟩) (k + 1) c5) (firstL (zsL z (k + 1)))) := Lib.hid (by
        rw [zsL_succ]
        show w5.ownsRow _ _ _ _ _ _
        rw [List.length_append, rowEn_app, zsL_len]
        have e : rowEn [fileE (pathL (z k)) [49]] = enV (fileE (pathL (z k)) [49]) := by simp [rowEn]
        rw [e]
        exact ho5)
      go_roundw
      case rel => exact ⟨k + 1, by omega, by go_num, HOF, HCF, HBF, HRF⟩
      case measure => simp [intOf]; omega
    · obtain rfl : k = N := by omega
      have HE0 := Lib.hid (OwnsEn.ens hO.out)
      clear CPZ CFZ hO
      go_upto_region 9 with (go_at_call 7; (refine (HKL.out none 0 av cv _ (NodesAt.nil _ _) (Nat.le_refl _) HE0.out).mono ?_; rintro e w1 ⟨a1, c1, rfl, hc1, hn1, hb⟩))
      have HR1 := Lib.hid (rowC_below hR.out hb (rowC_lt hR.out))
      have HB1 := Lib.hid (hB.out.trans (hb.mono hB.out.size))
      have HN1 := Lib.hid hn1
      have HC1 := Lib.hid hc1
      clear hn1 hc1 hb HKL HE0 hB hR
      go_upto_region 11 with (fail)
      have OS : ∀ w', Gn w1 (fun _ => False) w' → w'.cell? ⟨w.heap.size, 0, none⟩ = some (.int .u8 (nx : Int)) ∧ w'.cell? ⟨w.heap.size, 1, none⟩ = some (.int .u8 (ny : Int)) := fun w' hg => ⟨rowC_cell (hg.row HR1.out id) 0, rowC_cell (hg.row HR1.out id) 1⟩
      have HEND : Hid (∀ w', Gn w1 (fun _ => False) w' → Below w1.heap.size w1 w') := Lib.hid fun w' hg => hg.below (Nat.le_refl _) (fun _ _ => id)
      refine wp_region_noPanic ?_
      refine wp_region_held_drew (S := Gn w1 (fun _ => False)) (by kernel_rfl) (Gn.start _ _) (fun hHeld => ?_)
      generalize w1.drew = wd at *
      refine wpAnyH_take (i := 0) (oi := { dst := some 52, op := Op.indexAddr 23 (Operand.tmp 3) (Operand.const (Value.int IntKind.i64 0)), type := 0, pos := "outright.go:104", after := #[], guard := none }) (v := ?_) rfl (by kernel_rfl) (by kernel_rfl) (by kernel_rfl) (fun _ _ _ h => h) (Or.inl ⟨by rfl, ?_⟩) (by assumption) ?_
      rotate_left
      · intro w hSw
        skip
        clear hSw
        go_simp
        try with_reducible rfl
      try simp only [Act.put, List.setIfInBounds_toArray, List.set_cons_zero, List.set_cons_succ]
      refine wpAnyH_take (i := 3) (oi := { dst := some 55, op := Op.indexAddr 23 (Operand.tmp 3) (Operand.const (Value.int IntKind.i64 1)), type := 0, pos := "outright.go:104", after := #[], guard := none }) (v := ?_) rfl (by kernel_rfl) (by kernel_rfl) (by kernel_rfl) (fun _ _ _ h => h) (Or.inl ⟨by rfl, ?_⟩) (by assumption) ?_
      rotate_left
      · intro w hSw
        skip
        clear hSw
        go_simp
        try with_reducible rfl
      try simp only [Act.put, List.setIfInBounds_toArray, List.set_cons_zero, List.set_cons_succ]
      refine wpAnyH_take (i := 1) (oi := { dst := some 53, op := Op.load 5 (Operand.tmp 52), type := 5, pos := "outright.go:104", after := #[{ on := 0, ground := Ground.data }], guard := none }) (v := ?_) rfl (by kernel_rfl) (by kernel_rfl) (by kernel_rfl) (fun _ _ _ h => h) (Or.inl ⟨by rfl, ?_⟩) (by assumption) ?_
      rotate_left
      · intro w hSw
        obtain ⟨y0, y1⟩ := OS _ hSw
        go_simp
        try with_reducible rfl
      try simp only [Act.put, List.setIfInBounds_toArray, List.set_cons_zero, List.set_cons_succ]
      refine wpAnyH_take (i := 4) (oi := { dst := some 56, op := Op.load 5 (Operand.tmp 55), type := 5, pos := "outright.go:104", after := #[{ on := 3, ground := Ground.data }], guard := none }) (v := ?_) rfl (by kernel_rfl) (by kernel_rfl) (by kernel_rfl) (fun _ _ _ h => h) (Or.inl ⟨by rfl, ?_⟩) (by assumption) ?_
      rotate_left
      · intro w hSw
        obtain ⟨y0, y1⟩ := OS _ hSw
        go_simp
        try with_reducible rfl
      try simp only [Act.put, List.setIfInBounds_toArray, List.set_cons_zero, List.set_cons_succ]
      refine wpAnyH_ready (rs := [2]) (by kernel_rfl) (by simp) ?_
      refine (AllReadyH.cons (o := { dst := some 54, op := Op.call { callee := Callee.value (Operand.func 6), args := #[Operand.tmp 53], argTypes := #[5] }, type := 9, pos := "outright.go:104", after := #[{ on := 1, ground := Ground.data }], guard := none }) rfl (fun K hK => ?_) AllReadyH.nil)
      go_simp
      refine (CPX _).mono ?_
      rintro e w2' ⟨rfl, m2'⟩
      refine hK.out _ _ (Gn.call hHeld m2') (fun hHeld => ?_)
      clear hK K
      try simp only [Act.put, List.setIfInBounds_toArray, List.set_cons_zero, List.set_cons_succ]
      refine wpAnyH_ready (rs := [5]) (by kernel_rfl) (by simp) ?_
      refine (AllReadyH.cons (o := { dst := some 57, op := Op.call { callee := Callee.value (Operand.func 6), args := #[Operand.tmp 56], argTypes := #[5] }, type := 9, pos := "outright.go:104", after := #[{ on := 4, ground := Ground.data }, { on := 2, ground := Ground.chain }], guard := none }) rfl (fun K hK => ?_) AllReadyH.nil)
      go_simp
      refine (CPY _).mono ?_
      rintro e w5' ⟨rfl, m5'⟩
      refine hK.out _ _ (Gn.call hHeld m5') (fun hHeld => ?_)
      clear hK K
      try simp only [Act.put, List.setIfInBounds_toArray, List.set_cons_zero, List.set_cons_succ]
      refine wpAnyH_take (i := 6) (oi := { dst := some 9, op := Op.assign (Operand.tmp 54), type := 9, pos := "outright.go:104", after := #[{ on := 2, ground := Ground.data }, { on := 5, ground := Ground.chain }, { on := 0, ground := Ground.phase }, { on := 1, ground := Ground.phase }, { on := 2, ground := Ground.phase }, { on := 3, ground := Ground.textOnly Departure.lateStores }, { on := 4, ground := Ground.textOnly Departure.lateStores }, { on := 5, ground := Ground.textOnly Departure.lateStoresUnsure }], guard := none }) (v := ?_) rfl (by kernel_rfl) (by kernel_rfl) (by kernel_rfl) (fun _ _ _ h => h) (Or.inl ⟨by rfl, ?_⟩) (by assumption) ?_
      rotate_left
      · intro w hSw
        skip
        clear hSw
        go_simp
        try with_reducible rfl
      try simp only [Act.put, List.setIfInBounds_toArray, List.set_cons_zero, List.set_cons_succ]
      refine wpAnyH_take (i := 7) (oi := { dst := some 10, op := Op.assign (Operand.tmp 57), type := 9, pos := "outright.go:104", after := #[{ on := 5, ground := Ground.data }, { on := 6, ground := Ground.chain }, { on := 0, ground := Ground.phase }, { on := 1, ground := Ground.phase }, { on := 2, ground := Ground.phase }, { on := 3, ground := Ground.phase }, { on := 4, ground := Ground.phase }, { on := 5, ground := Ground.phase }, { on := 6, ground := Ground.phase }], guard := none }) (v := ?_) rfl (by kernel_rfl) (by kernel_rfl) (by kernel_rfl) (fun _ _ _ h => h) (Or.inl ⟨by rfl, ?_⟩) (by assumption) ?_
      rotate_left
      · intro w hSw
        skip
        clear hSw
        go_simp
        try with_reducible rfl
      try simp only [Act.put, List.setIfInBounds_toArray, List.set_cons_zero, List.set_cons_succ]
      refine wpAnyH_done (by kernel_rfl) ?_ _
      refine NoPanic.normal ?_
      have hb := HEND.out _ hHeld
      have HB2 := Lib.hid (HB1.out.trans (hb.mono HB1.out.size))
      have HN2 := Lib.hid (HN1.out.below hb)
      clear hHeld hb HEND OS HN1 HB1 HR1
      go_upto_region 13 with (first
        | (go_at_call 5; (refine (CFY _).mono ?_; rintro e f1 ⟨rfl, hb⟩; have HB3 := Lib.hid (HB2.out.trans (hb.mono HB2.out.size)); have HN3 := Lib.hid (HN2.out.below hb); clear hb))
        | (go_at_call 8; (refine (CWX _).mono ?_; rintro e f2 ⟨rfl, hb⟩; have HB4 := Lib.hid (HB3.out.trans (hb.mono HB3.out.size)); have HN4 := Lib.hid (HN3.out.below hb); clear hb))
        | (go_at_call 5; (refine (CFX _).mono ?_; rintro e f3 ⟨rfl, hb⟩; have HB5 := Lib.hid (HB4.out.trans (hb.mono HB4.out.size)); have HN5 := Lib.hid (HN4.out.below hb); clear hb))
        | ((with_reducible show wpList _ _ _ (⟨some 65, .buildSlice _ _ _, _, _, _, _⟩ :: _) _ _); refine wpList_twoE rfl _ _ rfl (fileE Y [50]) (fileE (whP X) []) rfl rfl ?_)
        | (go_at_call 7; (refine (HKM.out a1 c1 (some ⟨_, 0, none⟩) 2 _ (HN5.out.below ((Below.refl _ _).alloc (Nat.le_refl _) _)) HC1.out (ens_two _ _ _)).mono ?_; rintro e w2 ⟨a2, c2, rfl, hc2, hn2, hb⟩; have HB6 := Lib.hid ((HB5.out.alloc HB5.out.size _).trans (hb.mono (HB5.out.alloc HB5.out.size (.cells (enA (fileE Y [50]) ++ enA (fileE (whP X) [])) 27)).size)); have HN6 := Lib.hid ((HN5.out.below ((Below.refl _ _).alloc (Nat.le_refl _) (.cells (enA (fileE Y [50]) ++ enA (fileE (whP X) [])) 27))).below hb); have HM6 := Lib.hid hn2; have HC2 := Lib.hid hc2; clear hb hn2 hc2)))
      clear HB2 HN2 HB3 HN3 HB4 HN4 HB5 HN5 HKM
      go_upto_region 14 with (first
        | (go_at_call 5; (refine (CFO _).mono ?_; rintro e f4 ⟨rfl, hb⟩; have HB7 := Lib.hid (HB6.out.trans (hb.mono HB6.out.size)); have HN7 := Lib.hid (HN6.out.below hb); have HM7 := Lib.hid (HM6.out.below hb); clear hb))
        | (go_at_call 5; (refine (CFY _).mono ?_; rintro e f5 ⟨rfl, hb⟩; have HB8 := Lib.hid (HB7.out.trans (hb.mono HB7.out.size)); have HN8 := Lib.hid (HN7.out.below hb); have HM8 := Lib.hid (HM7.out.below hb); clear hb))
        | ((with_reducible show wpList _ _ _ (⟨some 74, .buildSlice _ _ _, _, _, _, _⟩ :: _) _ _); refine wpList_twoE rfl _ _ rfl (fileE opqN []) (fileE Y [50]) rfl rfl ?_)
        | (go_at_call 7; (refine (HKK.out a1 c1 (some ⟨_, 0, none⟩) 2 _ (HN8.out.below ((Below.refl _ _).alloc (Nat.le_refl _) _)) HC1.out (ens_two _ _ _)).mono ?_; rintro e w3 ⟨a3, c3, rfl, hc3, hn3, hb⟩; have HB9 := Lib.hid ((HB8.out.alloc HB8.out.size _).trans (hb.mono (HB8.out.alloc HB8.out.size (.cells (enA (fileE opqN []) ++ enA (fileE Y [50])) 27)).size)); have HN9 := Lib.hid ((HN8.out.below ((Below.refl _ _).alloc (Nat.le_refl _) (.cells (enA (fileE opqN []) ++ enA (fileE Y [50])) 27))).below hb); have HM9 := Lib.hid ((HM8.out.below ((Below.refl _ _).alloc (Nat.le_refl _) (.cells (enA (fileE opqN []) ++ enA (fileE Y [50])) 27))).below hb); have HK9 := Lib.hid hn3; have HC3 := Lib.hid hc3; clear hb hn3 hc3)))
      clear HB6 HN6 HM6 HB7 HN7 HM7 HB8 HN8 HM8 HKK CFY CFX CFO CWX CPX CPY
      have HF16 := HFM.out X
      simp only [HGN] at HF16
      have bxy : (decide (X = Y) != decide (X = Y)) = false := bne_self_eq_false _
      go_upto_region 19 with (first
        | (go_at_call 9; (refine (HF16 a2 c2 _ HM9.out).mono ?_; rintro e f16 ⟨rfl, hb⟩; have HB10 := Lib.hid (HB9.out.trans (hb.mono HB9.out.size)); have HN10 := Lib.hid (HN9.out.below hb); have HM10 := Lib.hid (HM9.out.below hb); have HK10 := Lib.hid (HK9.out.below hb); clear hb))
        | ((with_reducible show wpList _ _ _ (⟨none, .store _ (.tmp 15) _, _, _, _, _⟩ :: _) _ _); refine wpList_store_last rfl 36 _ _ rfl f16.heap.size (ndA ((findN M X).getD nd0)) rfl rfl 36 _ rfl HI.out rfl (HONE.out _) ?_))
      obtain ⟨wl, hwl⟩ : ∃ wl, wl = f16.alloc (.cells (ndA ((findN M X).getD nd0)) 36) := ⟨_, rfl⟩
      have hb := (Below.refl f16.heap.size f16).alloc (Nat.le_refl _) (.cells (ndA ((findN M X).getD nd0)) 36)
      rw [← hwl] at hb
      rw [← hwl]
      have HBL := Lib.hid (HB10.out.trans (hb.mono HB10.out.size))
      have HNL := Lib.hid (HN10.out.below hb)
      have HML := Lib.hid (HM10.out.below hb)
      have HKZ := Lib.hid (HK10.out.below hb)
      clear hb hwl HB9 HN9 HM9 HK9 HB10 HN10 HM10 HK10 HF16
      go_upto_region 20 with (fail)
      go_loopw [17, 18, 19, 20, 21, 22, 23] (fun i _ _ _ _ _ _ wr => ∃ k : Nat, k ≤ G ∧ i = .int .i64 k ∧ Hid (Below wl.heap.size wl wr)) (fun i _ _ _ _ _ _ _ => G - (intOf i).toNat)
      case atStart => exact ⟨0, Nat.zero_le _, rfl, Lib.hid (Below.refl _ _)⟩
      case round =>
        obtain ⟨i, hi, rfl, hB⟩ := hrel
        by_cases hli : i < G
        · obtain ⟨x, hx⟩ := HLT.out i hli
          have HALL := Lib.hid (HH.out.all x (List.mem_of_getElem? hx))
          obtain ⟨ax, rfl, _, hcx⟩ := (HNL.out.below hB.out) i x hx
          have HCX := Lib.hid hcx
          have g2 : (i : Int) < (G : Int) := by omega
          clear hcx hx
          go_upto_region 23 with (first
            | ((with_reducible show wpList _ _ _ (⟨some 104, .load _ _, _, _, _, _⟩ :: _) _ _); refine wpList_load_at rfl 36 _ rfl (ax.add (i * 4)) rfl (ndV x) _ HCX.out Tryd.underlying36 rfl HI.out ?_)
            | ((with_reducible show wpList _ _ _ (⟨none, .store _ (.tmp 18) _, _, _, _, _⟩ :: _) _ _); refine wpList_store_last rfl 36 _ _ rfl wr.heap.size (ndA x) rfl rfl 36 _ rfl HI.out rfl (HONE.out _) ?_))
          obtain ⟨W1, hW1⟩ : ∃ w', w' = wr.alloc (.cells (ndA x) 36) := ⟨_, rfl⟩
          have hst : Below wr.heap.size wr W1 := by rw [hW1]; exact (Below.refl _ _).alloc (Nat.le_refl _) _
          rw [← hW1]
          have HB1 := Lib.hid (hB.out.trans (hst.mono hB.out.size))
          have HM1 := Lib.hid ((HML.out.below hB.out).below hst)
          have HK1 := Lib.hid ((HKZ.out.below hB.out).below hst)
          have HR1 : Hid (rowC W1 wr.heap.size (ndA x) 36) := Lib.hid (by rw [hW1]; exact rowC_new wr _ _)
          have d0 : W1.cell? ⟨wr.heap.size, 0, none⟩ = some (.string (str x.path)) := rowC_cell HR1.out 0
          clear hst hW1 HCX g2
          obtain ⟨A, hA⟩ : ∃ A, A = (findN M x.path).getD nd0 := ⟨_, rfl⟩
          obtain ⟨sa, hsa⟩ : ∃ b, b = (findN M x.path).isSome := ⟨_, rfl⟩
          obtain ⟨B, hBB⟩ : ∃ A, A = (findN K x.path).getD nd0 := ⟨_, rfl⟩
          obtain ⟨sb, hsb⟩ : ∃ b, b = (findN K x.path).isSome := ⟨_, rfl⟩
          have HF23 := HFM.out x.path
          simp only [← hA, ← hsa] at HF23
          have HF24 := HFK.out x.path
          simp only [← hBB, ← hsb] at HF24
          have HALL2 := HALL.out
          unfold condB at HALL2
          rw [← hA, ← hsa, ← hBB, ← hsb] at HALL2
          have HCO := Lib.hid HALL2
          clear HALL2 HALL hA hsa hBB hsb
          go_upto_region 24 with (first
            | (go_at_call 9; (refine (HF23 a2 c2 _ HM1.out).mono ?_; rintro e f23 ⟨rfl, hb⟩; have HB2 := Lib.hid (HB1.out.trans (hb.mono HB1.out.size)); have HK2 := Lib.hid (HK1.out.below hb); have HR2 := Lib.hid (rowC_below HR1.out hb (rowC_lt HR1.out)); clear hb))
            | ((with_reducible show wpList _ _ _ (⟨none, .store _ (.tmp 19) _, _, _, _, _⟩ :: _) _ _); refine wpList_store_last rfl 36 _ _ rfl f23.heap.size (ndA A) rfl rfl 36 _ rfl HI.out rfl (HONE.out _) ?_))
          obtain ⟨W2, hW2⟩ : ∃ w', w' = f23.alloc (.cells (ndA A) 36) := ⟨_, rfl⟩
          have hst : Below f23.heap.size f23 W2 := by rw [hW2]; exact (Below.refl _ _).alloc (Nat.le_refl _) _
          rw [← hW2]
          have HB3 := Lib.hid (HB2.out.trans (hst.mono HB2.out.size))
          have HK3 := Lib.hid (HK2.out.below hst)
          have HR3 := Lib.hid (rowC_below HR2.out hst (rowC_lt HR2.out))
          have HA3 : Hid (rowC W2 f23.heap.size (ndA A) 36) := Lib.hid (by rw [hW2]; exact rowC_new f23 _ _)
          have e0 : W2.cell? ⟨wr.heap.size, 0, none⟩ = some (.string (str x.path)) := rowC_cell HR3.out 0
          clear hst hW2 HB1 HM1 HK1 HR1 HB2 HK2 HR2 HF23 d0
          go_upto_region 25 with (first
            | (go_at_call 9; (refine (HF24 a3 c3 _ HK3.out).mono ?_; rintro e f24 ⟨rfl, hb⟩; have HB4 := Lib.hid (HB3.out.trans (hb.mono HB3.out.size)); have HR4 := Lib.hid (rowC_below HR3.out hb (rowC_lt HR3.out)); have HA4 := Lib.hid (rowC_below HA3.out hb (rowC_lt HA3.out)); clear hb))
            | ((with_reducible show wpList _ _ _ (⟨none, .store _ (.tmp 21) _, _, _, _, _⟩ :: _) _ _); refine wpList_store_last rfl 36 _ _ rfl f24.heap.size (ndA B) rfl rfl 36 _ rfl HI.out rfl (HONE.out _) ?_))
          obtain ⟨W3, hW3⟩ : ∃ w', w' = f24.alloc (.cells (ndA B) 36) := ⟨_, rfl⟩
          have hst : Below f24.heap.size f24 W3 := by rw [hW3]; exact (Below.refl _ _).alloc (Nat.le_refl _) _
          rw [← hW3]
          have HB3 := Lib.hid (HB4.out.trans (hst.mono HB4.out.size))
          have HR18 := Lib.hid (rowC_below HR4.out hst (rowC_lt HR4.out))
          have HR19 := Lib.hid (rowC_below HA4.out hst (rowC_lt HA4.out))
          have HR21 : Hid (rowC W3 f24.heap.size (ndA B) 36) := Lib.hid (by rw [hW3]; exact rowC_new f24 _ _)
          clear hst hW3 HK3 HR3 HA3 HB4 HR4 HA4 HF24 e0
          have c180 : W3.cell? ⟨wr.heap.size, 0, none⟩ = some (.string (str x.path)) := rowC_cell HR18.out 0
          have c181 : W3.cell? ⟨wr.heap.size, 1, none⟩ = some (.int .i64 x.kind) := rowC_cell HR18.out 1
          have c182 : W3.cell? ⟨wr.heap.size, 2, none⟩ = some (.int .i64 x.mode) := rowC_cell HR18.out 2
          have c183 : W3.cell? ⟨wr.heap.size, 3, none⟩ = some (.string (str x.data)) := rowC_cell HR18.out 3
          have c190 : W3.cell? ⟨f23.heap.size, 0, none⟩ = some (.string (str A.path)) := rowC_cell HR19.out 0
          have c191 : W3.cell? ⟨f23.heap.size, 1, none⟩ = some (.int .i64 A.kind) := rowC_cell HR19.out 1
          have c192 : W3.cell? ⟨f23.heap.size, 2, none⟩ = some (.int .i64 A.mode) := rowC_cell HR19.out 2
          have c193 : W3.cell? ⟨f23.heap.size, 3, none⟩ = some (.string (str A.data)) := rowC_cell HR19.out 3
          have c210 : W3.cell? ⟨f24.heap.size, 0, none⟩ = some (.string (str B.path)) := rowC_cell HR21.out 0
          have c211 : W3.cell? ⟨f24.heap.size, 1, none⟩ = some (.int .i64 B.kind) := rowC_cell HR21.out 1
          have c212 : W3.cell? ⟨f24.heap.size, 2, none⟩ = some (.int .i64 B.mode) := rowC_cell HR21.out 2
          have c213 : W3.cell? ⟨f24.heap.size, 3, none⟩ = some (.string (str B.data)) := rowC_cell HR21.out 3
          have zx := str_size x.path
          have qX := eq_strs x.path X
          have qY := eq_strs x.path Y
          have QA : ∀ W, (Op.equalIn 10000 36 (.agg #[.string (str A.path), .int .i64 A.kind, .int .i64 A.mode, .string (str A.data)]) (.agg #[.string (str x.path), .int .i64 x.kind, .int .i64 x.mode, .string (str x.data)])).run Tryd.prog W = .ok (decide (A = x)) W := fun W => eq_nd W 9998 A x
          have QB : ∀ W, (Op.equalIn 10000 36 (.agg #[.string (str B.path), .int .i64 B.kind, .int .i64 B.mode, .string (str B.data)]) (.agg #[.string (str x.path), .int .i64 x.kind, .int .i64 x.mode, .string (str x.data)])).run Tryd.prog W = .ok (decide (B = x)) W := fun W => eq_nd W 9998 B x
          have q2 : (((str x.path).extract 0 2).toList == [97, 47]) = decide (x.path.take 2 = [97, 47]) := by
            rw [extract_str, List.drop_zero]
            have h := eq_strs (x.path.take 2) [97, 47]
            rwa [show (str [97, 47]).toList = [97, 47] by rw [Lib.toList_data]; rfl] at h
          have HCO2 := HCO.out
          have hgone : ∃ b, goneB x.path = b := ⟨_, rfl⟩
          obtain ⟨go, hgo⟩ := hgone
          rw [hgo] at HCO2
          have hcc := cond_cases _ _ _ _ _ _ _ _ HCO2
          have hgc := gone_cases hgo
          have hkk : ∀ b, b = decide (x.kind = 1) → b = false → ¬ x.kind = 1 := fun b h1 h2 h3 => by rw [h1, decide_eq_true h3] at h2; cases h2
          obtain ⟨bK, hbK⟩ : ∃ b, b = decide (x.kind = 1) := ⟨_, rfl⟩
          have hK1 := hkk bK hbK
          generalize decide (x.path = X) = bX at *
          generalize decide (x.path = Y) = bY at *
          generalize decide (A = x) = bA at *
          generalize decide (B = x) = bB at *
          rw [← hbK] at hcc
          clear HCO HCO2 hkk hbK hgo HFM HFK
          obtain ⟨hc1, hc2⟩ := hcc
          rcases hgc with ⟨rfl, h2, h3⟩ | ⟨rfl, h2⟩ | ⟨rfl, h2, h3⟩
          · rw [decide_eq_true h3] at q2
            have g3 : (2 : Int) < (x.path.length : Int) := by omega
            have g4 : (2 : Int) ≤ (x.path.length : Int) := by omega
            clear h2 h3
            rcases hc2 with ⟨_, hc2⟩ | ⟨hc2, _⟩
            · rcases hc1 with rfl | ⟨rfl, rfl, rfl | ⟨rfl, rfl⟩⟩
              · rcases hc2 with ⟨rfl, rfl⟩ | ⟨rfl, rfl⟩
                · go_wp2
                  refine ⟨⟨i + 1, by omega, by go_num, HB3⟩, ?_⟩
                  simp [intOf]
                  omega
                · go_wp2
                  refine ⟨⟨i + 1, by omega, by go_num, HB3⟩, ?_⟩
                  simp [intOf]
                  omega
              · rcases hc2 with ⟨_, rfl⟩ | ⟨hc2, _⟩
                · go_wp2
                  refine ⟨⟨i + 1, by omega, by go_num, HB3⟩, ?_⟩
                  simp [intOf]
                  omega
                · cases hc2
              · rcases hc2 with ⟨hc2, _⟩ | ⟨_, rfl⟩
                · cases hc2
                · go_wp2
                  refine ⟨⟨i + 1, by omega, by go_num, HB3⟩, ?_⟩
                  simp [intOf]
                  omega
            · cases hc2
          · have g3 : ¬ (2 : Int) < (x.path.length : Int) := by omega
            clear h2 q2
            rcases hc2 with ⟨hc2, _⟩ | ⟨_, rfl, hc2⟩
            · cases hc2
            · rcases hc1 with rfl | ⟨rfl, rfl, rfl | ⟨rfl, rfl⟩⟩
              · rcases hc2 with rfl | ⟨rfl, rfl | ⟨rfl, hk⟩⟩
                · go_wp2
                  refine ⟨⟨i + 1, by omega, by go_num, HB3⟩, ?_⟩
                  simp [intOf]
                  omega
                · go_wp2
                  refine ⟨⟨i + 1, by omega, by go_num, HB3⟩, ?_⟩
                  simp [intOf]
                  omega
                · have hk1 := hK1 hk
                  go_wp2
                  refine ⟨⟨i + 1, by omega, by go_num, HB3⟩, ?_⟩
                  simp [intOf]
                  omega
              · go_wp2
                refine ⟨⟨i + 1, by omega, by go_num, HB3⟩, ?_⟩
                simp [intOf]
                omega
              · rcases hc2 with hc2 | ⟨_, rfl | ⟨rfl, hk⟩⟩
                · cases hc2
                · go_wp2
                  refine ⟨⟨i + 1, by omega, by go_num, HB3⟩, ?_⟩
                  simp [intOf]
                  omega
                · have hk1 := hK1 hk
                  go_wp2
                  refine ⟨⟨i + 1, by omega, by go_num, HB3⟩, ?_⟩
                  simp [intOf]
                  omega
          · rw [decide_eq_false h3] at q2
            have g3 : (2 : Int) < (x.path.length : Int) := by omega
            have g4 : (2 : Int) ≤ (x.path.length : Int) := by omega
            clear h2 h3
            rcases hc2 with ⟨hc2, _⟩ | ⟨_, rfl, hc2⟩
            · cases hc2
            · rcases hc1 with rfl | ⟨rfl, rfl, rfl | ⟨rfl, rfl⟩⟩
              · rcases hc2 with rfl | ⟨rfl, rfl | ⟨rfl, hk⟩⟩
                · go_wp2
                  refine ⟨⟨i + 1, by omega, by go_num, HB3⟩, ?_⟩
                  simp [intOf]
                  omega
                · go_wp2
                  refine ⟨⟨i + 1, by omega, by go_num, HB3⟩, ?_⟩
                  simp [intOf]
                  omega
                · have hk1 := hK1 hk
                  go_wp2
                  refine ⟨⟨i + 1, by omega, by go_num, HB3⟩, ?_⟩
                  simp [intOf]
                  omega
              · go_wp2
                refine ⟨⟨i + 1, by omega, by go_num, HB3⟩, ?_⟩
                simp [intOf]
                omega
              · rcases hc2 with hc2 | ⟨_, rfl | ⟨rfl, hk⟩⟩
                · cases hc2
                · go_wp2
                  refine ⟨⟨i + 1, by omega, by go_num, HB3⟩, ?_⟩
                  simp [intOf]
                  omega
                · have hk1 := hK1 hk
                  go_wp2
                  refine ⟨⟨i + 1, by omega, by go_num, HB3⟩, ?_⟩
                  simp [intOf]
                  omega
        · obtain rfl : i = G := by omega
          have HM0 := Lib.hid (HML.out.below hB.out)
          have HBZ := Lib.hid (HBL.out.trans (hB.out.mono HBL.out.size))
          obtain ⟨zp, zk, zm, zd⟩ := ZY
          obtain rfl : zd = [50] := hzy
          have HF28 := HFM.out Y
          simp only [HZY, Option.getD_some, Option.isSome_some] at HF28
          go_upto_region 29 with (first
            | (go_at_call 9; (refine (HF28 a2 c2 _ HM0.out).mono ?_; rintro e f28 ⟨rfl, hb⟩; have HB1 := Lib.hid (HBZ.out.trans (hb.mono HBZ.out.size)); clear hb))
            | ((with_reducible show wpList _ _ _ (⟨none, .store _ (.tmp 24) _, _, _, _, _⟩ :: _) _ _); refine wpList_store_last rfl 36 _ _ rfl f28.heap.size (ndA ⟨zp, zk, zm, [50]⟩) rfl rfl 36 _ rfl HI.out rfl (HONE.out _) ?_))
          have HBE := Lib.hid (HB1.out.alloc HB1.out.size (.cells (ndA ⟨zp, zk, zm, [50]⟩) 36))
          have cz : (f28.alloc (.cells (ndA ⟨zp, zk, zm, [50]⟩) 36)).cell? ⟨f28.heap.size, 3, none⟩ = some (.string ⟨#[50]⟩) := rowC_cell (rowC_new f28 (ndA ⟨zp, zk, zm, [50]⟩) 36) 3
          generalize f28.alloc (.cells (ndA ⟨zp, zk, zm, [50]⟩) 36) = W9 at *
          clear HB1 HFM HFK HF28
          go_wp2_with (go_at_call 4; (refine (CL _).mono ?_; rintro e w9 ⟨rfl, hb⟩))
          go_ret
          exact ⟨rfl, HBE.out.trans (hb.mono HBE.out.size)⟩
end Go.Proofs.YtokeiagcdahmaaaDoor
#print axioms Go.Proofs.YtokeiagcdahmaaaDoor.hides_any
