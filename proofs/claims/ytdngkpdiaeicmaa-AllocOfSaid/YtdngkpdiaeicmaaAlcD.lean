/- Layer 8: the document's map: Take. -/
import Derived.Test.YtdngkpdiaeicmaaAlcC
namespace Go.Proofs.Ytdngkpdiaeicmaa
open Go.RowKit

theorem info_extent : (Try.prog.info? 41).map (fun i => (i.zero, i.size, i.bytes)) = some (some (.agg #[.int .i64 0, .int .i64 0]), 2, 16) := by kernel_rfl
/-- Extents as cells. -/
def extV (l : List (Int × Int)) : List Value := l.flatMap fun x => [.int .i64 x.1, .int .i64 x.2]
def toI (l : List (Nat × Nat)) : List (Int × Int) := l.map fun x => ((x.1 : Int), (x.2 : Int))
theorem toI_length (l : List (Nat × Nat)) : (toI l).length = l.length := by simp [toI]
theorem extV_length (l : List (Int × Int)) : (extV l).length = 2 * l.length := by
  induction l with
  | nil => rfl
  | cons a r ih => simp only [extV, List.flatMap_cons, List.length_append, List.length_cons, List.length_nil] at ih ⊢; omega
theorem extV_one (l : List (Int × Int)) : ∀ u ∈ extV l, u.oneCell' = true := fun u hu => by
  simp only [extV, List.mem_flatMap, List.mem_cons, List.not_mem_nil, or_false] at hu
  obtain ⟨x, _, rfl | rfl⟩ := hu <;> rfl
theorem extV_snoc (l : List (Int × Int)) (a b : Int) : extV l ++ [.int .i64 a, .int .i64 b] = extV (l ++ [(a, b)]) := by simp [extV]
theorem toI_snoc (l : List (Nat × Nat)) (a b : Nat) : toI l ++ [((a : Int), (b : Int))] = toI (l ++ [(a, b)]) := by simp [toI]
theorem toI_getD (l : List (Nat × Nat)) (k : Nat) : (toI l).getD k (0, 0) = (((l.getD k (0, 0)).1 : Int), ((l.getD k (0, 0)).2 : Int)) := by
  unfold toI
  rw [List.getD_eq_getElem?_getD, List.getD_eq_getElem?_getD, List.getElem?_map]
  cases l[k]? <;> rfl
theorem extV_at : ∀ (l : List (Int × Int)) (k : Nat), k < l.length → (extV l)[k * 2]? = some (.int .i64 (l.getD k (0, 0)).1) ∧ (extV l)[k * 2 + 1]? = some (.int .i64 (l.getD k (0, 0)).2)
  | [], k, h => by simp at h
  | p :: l, 0, _ => ⟨rfl, rfl⟩
  | p :: l, k + 1, h => by
    have ih := extV_at l k (by simpa using h)
    have e1 : (extV (p :: l))[(k + 1) * 2]? = (extV l)[k * 2]? := by
      show ([Value.int .i64 p.1, .int .i64 p.2] ++ extV l)[(k + 1) * 2]? = _
      rw [List.getElem?_append_right (by simp; omega)]
      congr 1
      simp; omega
    have e2 : (extV (p :: l))[(k + 1) * 2 + 1]? = (extV l)[k * 2 + 1]? := by
      show ([Value.int .i64 p.1, .int .i64 p.2] ++ extV l)[(k + 1) * 2 + 1]? = _
      rw [List.getElem?_append_right (by simp; omega)]
      congr 1
      simp; omega
    rw [e1, e2, List.getD_cons_succ]
    exact ih
/-- A list of extents, in a row that the call owns. -/
def OwnsE (w : World) (base : Nat) (v : Value) (l : List (Nat × Nat)) : Prop := w.ownsRow base 41 2 v l.length (extV (toI l))
theorem OwnsE.form {w : World} {base : Nat} {v : Value} {l : List (Nat × Nat)} (h : OwnsE w base v l) : ∃ a cap, v = .slice a l.length cap := owns_form h
theorem OwnsE.nil (w : World) (base : Nat) : OwnsE w base (.slice none 0 0) [] := World.ownsRow_nil _ _ _ _
theorem OwnsE.at {w : World} {base : Nat} {a : Option Addr} {n cap : Nat} {l : List (Nat × Nat)} (h : OwnsE w base (.slice a n cap) l) {k : Nat} (hk : k < l.length) :
    ∃ g, a = some ⟨g, 0, none⟩ ∧ base ≤ g ∧ w.cell? ⟨g, k * 2, none⟩ = some (.int .i64 ((l.getD k (0, 0)).1 : Int)) ∧ w.cell? ⟨g, k * 2 + 1, none⟩ = some (.int .i64 ((l.getD k (0, 0)).2 : Int)) := by
  obtain ⟨g, cap', hv⟩ := owns_some h (by omega)
  simp only [Value.slice.injEq] at hv
  obtain ⟨rfl, rfl, rfl⟩ := hv
  obtain ⟨h1, h2⟩ := extV_at (toI l) k (by rw [toI_length]; exact hk)
  rw [toI_getD] at h1 h2
  exact ⟨g, rfl, (h.lt g rfl).1, (h.cellAt _ (by omega)).trans h1, (h.cellAt _ (by omega)).trans h2⟩
theorem RefM.drewN {w : World} {p : Nat} {v : Value} {L : List Bool} (h : RefM w p v L) (n : Nat) : RefM (w.drewN n) p v L := ⟨rowC_drewN h.r n, h.s⟩
/-- The first loop of Take: nothing was found among the first k, or it was. -/
def FirstS (L : List Bool) (m : Nat) (w : World) (base : Nat) (v : Value) (k : Nat) : Prop :=
  (v = .slice none 0 0 ∧ ∀ j, j < k → runL L j < m) ∨ ∃ j, firstL L m = some j ∧ OwnsE w base v [(j, m)]
theorem first_found {L : List Bool} {m k : Nat} (hk : k < L.length) (h : ∀ j, j < k → runL L j < m) (hm : m ≤ runL L k) : firstL L m = some k := by
  unfold firstL
  rw [List.find?_range_eq_some]
  refine ⟨by simpa using hm, List.mem_range.2 hk, fun j hj => ?_⟩
  have := h j hj
  simpa using this
theorem first_none {L : List Bool} {m : Nat} (h : ∀ j, j < L.length → runL L j < m) : firstL L m = none := by
  unfold firstL
  rw [List.find?_eq_none]
  intro j hj
  have := h j (List.mem_range.1 hj)
  simpa using this
/-- Behind the first loop. -/
theorem first_end {L : List Bool} {m k : Nat} {w : World} {base : Nat} {v : Value} (h : FirstS L m w base v k) (hk : L.length ≤ k) :
    ∃ (A : List (Nat × Nat)) (t : Nat), OwnsE w base v A ∧ A ++ lowL L 0 t = extsL L m ∧ ((A.length = 0 ∧ t = m) ∨ (A.length = 1 ∧ t = 0)) := by
  rcases h with ⟨rfl, hno⟩ | ⟨j, hj, ho⟩
  · refine ⟨[], m, OwnsE.nil _ _, ?_, .inl ⟨rfl, rfl⟩⟩
    unfold extsL
    rw [first_none (fun j hj => hno j (by omega))]
    rfl
  · refine ⟨[(j, m)], 0, ho, ?_, .inr ⟨rfl, rfl⟩⟩
    unfold extsL
    rw [hj, low_end (.inl rfl)]
    rfl
/-- The second loop of Take. -/
def LowS (L : List Bool) (m : Nat) (base : Nat) (w : World) (v l i : Value) : Prop :=
  ∃ (k t : Nat) (A : List (Nat × Nat)), i = .int .i64 k ∧ l = .int .i64 t ∧ k ≤ L.length ∧ t ≤ m ∧ A.length ≤ k + 1 ∧ OwnsE w base v A ∧ A ++ lowL L k t = extsL L m
/-- What Take leaves. -/
def RefTake (w : World) (p : Nat) (v : Value) (L : List Bool) (n : Int) (e : Ending) (w' : World) : Prop :=
  ∃ x, e = .returned (.tuple #[x, .bool (takeL L n).2.1]) ∧ OwnsE w' w.heap.size x (takeL L n).1 ∧ RefM w' p v (takeL L n).2.2 ∧ Chg (fun k => v.ownBlock = some k) w w'
set_option maxRecDepth 100000 in
set_option maxHeartbeats 4000000 in
theorem rtake_any {w : World} {p : Nat} {v : Value} {L : List Bool} (h : RefM w p v L) (h1 : 1 ≤ L.length) (h2 : L.length ≤ 4096) (n : Int) :
    Calls Try.prog 16 #[.pointer (some ⟨p, 0, none⟩), .int .i64 n] w (RefTake w p v L n) := by
  have CU := fun k => rused_any (h.drewN k) h1 h2
  have c0 := h.cell
  have HM := Lib.hid h
  obtain ⟨g, cap, rfl⟩ := owns_some h.s (by omega)
  have hul := usedL_le L
  obtain ⟨N, hN⟩ : ∃ N, N = L.length := ⟨_, rfl⟩
  obtain ⟨U, hU⟩ : ∃ U, U = usedL L := ⟨_, rfl⟩
  rw [← hN] at c0 h1 h2 hul HM
  rw [← hU] at CU hul
  have HN := Lib.hid hN
  by_cases hn1 : n < 1
  · have HR := Lib.hid (show takeL L n = ([], false, L) by unfold takeL; rw [if_pos (.inl hn1)])
    clear h hN hU
    go_enter Try.func16, Try.ntmps16
    go_wp2_with fail
    go_quiet (fail)
    go_wp2
    go_ret2
    refine ⟨.slice none 0 0, by rw [HR.out]; rfl, ?_, ?_, ?_⟩
    · rw [HR.out]; exact OwnsE.nil _ _
    · rw [HR.out]; exact (HN.out ▸ HM.out).drewN _
    · exact (Chg.refl _ _).drewN _
  · have hn2 : decide (n < 1) = false := by simpa using hn1
    by_cases hgt : (N : Int) - (U : Int) < n
    · have HR := Lib.hid (show takeL L n = ([], false, L) by unfold takeL; rw [if_pos (.inr (by omega))])
      clear h hN hU
      go_enter Try.func16, Try.ntmps16
      go_wp2_with fail
      go_quiet ((go_at_call 19; exact qs (CU _)))
      go_wp2
      go_ret2
      refine ⟨.slice none 0 0, by rw [HR.out]; rfl, ?_, ?_, ?_⟩
      · rw [HR.out]; exact OwnsE.nil _ _
      · rw [HR.out]; exact (HN.out ▸ HM.out).drewN _
      · exact (Chg.refl _ _).drewN _
    · obtain ⟨m, rfl⟩ : ∃ m : Nat, n = m := ⟨n.toNat, by omega⟩
      have hm1 : 1 ≤ m := by omega
      have HTL := Lib.hid (show takeL L m = if 8 < (extsL L m).length then ([], false, L) else (extsL L m, true, markL L (extsL L m) true) by unfold takeL; rw [if_neg (by omega), Int.toNat_natCast])
      clear h hN hU
      obtain ⟨j0, ji, jz0, jz1, jz2⟩ := info_parts info_extent
      go_enter Try.func16, Try.ntmps16
      go_wp2_with fail
      go_quiet ((go_at_call 19; exact qs (CU _)))
      go_wp2
      have HQ := Lib.hid (HM.out.drewN nq)
      have HB := Lib.hid (below_drewN (Below.refl w.heap.size w) nq)
      have c0' : (w.drewN nq).cell? ⟨p, 0, none⟩ = some (.slice (some ⟨g, 0, none⟩) N cap) := c0
      have hsz := Lib.hid (show (w.drewN nq).heap.size = w.heap.size from rfl)
      generalize w.drewN nq = w0 at *
      go_loopw [6, 7] (fun v i wr => ∃ k : Nat, k ≤ N ∧ i = .int .i64 k ∧ FirstS L m wr w.heap.size v k ∧ Below w.heap.size w wr) (fun _ i _ => N - (intOf i).toNat)
      case atStart => exact ⟨0, Nat.zero_le _, rfl, .inl ⟨rfl, fun j hj => by omega⟩, HB.out⟩
      case round =>
        obtain ⟨k, hk, rfl, hfs, hnx⟩ := hrel
        clear HQ HB
        have HX := Lib.hid hnx
        have hq := HM.out.below hnx
        have d0 := hq.cell
        have CR := rrun_any hq (HN.out ▸ h1) (HN.out ▸ h2) k (by omega)
        clear hnx c0'
        by_cases hgo : k < N ∧ u6 = .slice none 0 0
        · obtain ⟨hlt, rfl⟩ := hgo
          have hno : ∀ j, j < k → runL L j < m := by
            rcases hfs with ⟨_, h⟩ | ⟨_, _, ho⟩
            · exact h
            · obtain ⟨_, _, hv⟩ := owns_some ho (by simp)
              cases hv
          have HO := Lib.hid hno
          clear hno hfs
          have g1 : (k : Int) < (N : Int) := by omega
          by_cases hrun : m ≤ runL L k
          · have HF := Lib.hid (first_found (by have := HN.out; omega) HO.out hrun)
            have g2 : (m : Int) ≤ (runL L k : Int) := by omega
            generalize runL L k = R at *
            have hsw := Lib.hid HX.out.size
            clear hrun hsz
            go_wp2_with (first
              | (go_at_call 36; ((with_reducible refine CR.mono ?_); rintro e w2 ⟨rfl, rfl⟩))
              | ((with_reducible show wpList _ _ _ (⟨some 51, _, _, _, _, _⟩ :: _) _ _); refine wpList_append_lies _ rfl _ _ 33 rfl w.heap.size 41 j0 (.agg #[.int .i64 0, .int .i64 0]) 2 16 Try.underlying33 ji jz0 jz1 jz2 rfl (by decide) _ 0 [] rfl (World.ownsRow_nil _ _ _ _) _ 1 1 [.int .i64 (k : Int), .int .i64 (m : Int)] rfl rfl (World.news_of_block (heap_alloc_new _ _)) (by intro u hu; simp at hu; rcases hu with rfl | rfl <;> rfl) (by decide) (by unfold maxLen; omega) (by omega) (by have := hsw.out; rw [size_alloc]; omega) _ rfl ?_; intro g1 cap1 w3 hown3 hgrow3 hat hgl; have b3 : Below w.heap.size w w3 := (HX.out.alloc HX.out.size _).grown hgrow3 (by have := hsw.out; rw [size_alloc]; omega) (fun j hj => by cases hj); have HW3 := Lib.hid hown3; have HB3 := Lib.hid b3; clear hown3 hgrow3 hat hgl b3))
            go_roundw
            case rel => exact ⟨k + 1, by omega, by go_num, .inr ⟨k, HF.out, HW3.out⟩, HB3.out⟩
            case measure => simp [intOf]; omega
          · have HF := Lib.hid (show ∀ j, j < k + 1 → runL L j < m from fun j hj => if e : j = k then (by rw [e]; omega) else HO.out j (by omega))
            have g2 : ¬ (m : Int) ≤ (runL L k : Int) := by omega
            generalize runL L k = R at *
            clear hrun
            go_wp2_with (go_at_call 36; ((with_reducible refine CR.mono ?_); rintro e w2 ⟨rfl, rfl⟩))
            go_roundw
            case rel => exact ⟨k + 1, by omega, by go_num, .inl ⟨rfl, HF.out⟩, HX.out⟩
            case measure => simp [intOf]; omega
        · have hend : ∃ (A : List (Nat × Nat)) (t : Nat), OwnsE wr w.heap.size u6 A ∧ A ++ lowL L 0 t = extsL L m ∧ ((A.length = 0 ∧ t = m ∧ k = N) ∨ (A.length = 1 ∧ t = 0)) := by
            by_cases hlt : k < N
            · rcases hfs with ⟨h, _⟩ | ⟨j, hj, ho⟩
              · exact absurd ⟨hlt, h⟩ hgo
              · obtain ⟨A, t, e1, e2, e3⟩ := first_end (k := L.length) (.inr ⟨j, hj, ho⟩) (Nat.le_refl _)
                refine ⟨A, t, e1, e2, ?_⟩
                rcases e3 with e3 | e3
                · obtain ⟨_, _, hv⟩ := owns_some ho (by simp)
                  obtain ⟨_, _, hv2⟩ := owns_form e1
                  rw [hv] at hv2
                  simp only [Value.slice.injEq, e3.1] at hv2
                  exact absurd hv2.2.1 (by simp)
                · exact .inr e3
            · obtain ⟨A, t, e1, e2, e3⟩ := first_end hfs (by have := HN.out; omega)
              exact ⟨A, t, e1, e2, by omega⟩
          clear hfs hgo CR
          obtain ⟨A, t, ho, he, h3⟩ := hend
          obtain ⟨a1, cap1, rfl⟩ := ho.form
          have HO := Lib.hid ho
          have HE := Lib.hid he
          clear ho he
          obtain ⟨z, hz⟩ : ∃ z, z = A.length := ⟨_, rfl⟩
          rw [← hz] at h3 HO ⊢
          have HZ := Lib.hid hz
          clear hz
          have h4 : (z = 0 ∧ m = t ∧ N = k) ∨ (z = 1 ∧ t = 0 ∧ k < N) ∨ (z = 1 ∧ t = 0 ∧ N = k) := by omega
          clear h3
          rcases h4 with ⟨rfl, rfl, rfl⟩ | ⟨rfl, rfl, hlt⟩ | ⟨rfl, rfl, rfl⟩
          all_goals
            go_wp2
            go_loopw [6, 8, 9] (fun v l i wr => LowS L m w.heap.size wr v l i ∧ Below w.heap.size w wr) (fun _ _ i _ => N + 1 - (intOf i).toNat)
            case atStart =>
              have hO := HO.out
              rw [HZ.out] at hO
              have hzl := HZ.out
              refine ⟨?_, HX.out⟩
              rw [HZ.out]
              first
                | exact ⟨0, m, A, rfl, rfl, Nat.zero_le _, Nat.le_refl _, by omega, hO, HE.out⟩
                | exact ⟨0, 0, A, rfl, rfl, Nat.zero_le _, Nat.zero_le _, by omega, hO, HE.out⟩
            case round =>
              obtain ⟨⟨k, t, A, rfl, rfl, hk, ht, hAk, ho, he⟩, hnx⟩ := hrel
              rw [← HN.out] at hk
              clear HX HO HE HZ hq d0
              have hq := HM.out.below hnx
              have d0 := hq.cell
              have HX := Lib.hid hnx
              have HE := Lib.hid he
              obtain ⟨a1, cap1, rfl⟩ := ho.form
              have HO := Lib.hid ho
              obtain ⟨z, hz⟩ : ∃ z, z = A.length := ⟨_, rfl⟩
              rw [← hz] at hAk HO ⊢
              have HZ := Lib.hid hz
              clear hz ho he hnx
              by_cases hgo : k < N ∧ 0 < t
              · obtain ⟨hlt, ht0⟩ := hgo
                have CR := rrun_any hq (HN.out ▸ h1) (HN.out ▸ h2) k (by omega)
                have g1 : (k : Int) < (N : Int) := by omega
                have g2 : (0 : Int) < (t : Int) := by omega
                have hrl := run_le L k
                rw [← HN.out] at hrl
                have HU := Lib.hid (show runL L k = 0 → lowL L k t = lowL L (k + 1) t from low_used ht0 (by have := HN.out; omega))
                have HF := Lib.hid (show ∀ c, c = min (runL L k) t → 0 < c → lowL L k t = (k, c) :: lowL L (k + c) (t - c) from fun c hc hp => low_free ht0 (by have := HN.out; omega) hc hp)
                generalize runL L k = R at *
                clear hq
                by_cases hr0 : R = 0
                · have HE2 := Lib.hid (show A ++ lowL L (k + 1) t = extsL L m by rw [← HU.out hr0]; exact HE.out)
                  subst hr0
                  clear HU HF hrl
                  go_wp2_with (go_at_call 36; ((with_reducible refine CR.mono ?_); rintro e w2 ⟨rfl, rfl⟩))
                  go_roundw
                  case rel => exact ⟨⟨k + 1, t, A, by go_num, rfl, by have := HN.out; omega, ht, by have := HZ.out; omega, by have := HO.out; rw [HZ.out] at this ⊢; exact this, HE2.out⟩, HX.out⟩
                  case measure => simp [intOf]; omega
                · have hsw := Lib.hid HX.out.size
                  obtain ⟨c, hc⟩ : ∃ c, c = min R t := ⟨_, rfl⟩
                  have hc0 : 0 < c := by omega
                  have HL := Lib.hid (HF.out c hc hc0)
                  have HE2 := Lib.hid (show (A ++ [(k, c)]) ++ lowL L (k + c) (t - c) = extsL L m by rw [List.append_assoc, List.singleton_append, ← HL.out]; exact HE.out)
                  have hkc : k + c ≤ N := by omega
                  have hct : c ≤ t := by omega
                  have HXS := Lib.hid (extV_snoc (toI A) (k : Int) (c : Int))
                  have HXT := Lib.hid (toI_snoc A k c)
                  have H1 := Lib.hid (extV_one (toI A))
                  have hc2 : (R ≤ t ∧ c = R) ∨ (t < R ∧ c = t) := by omega
                  clear HU HF hrl HL hr0 hsz hc
                  rcases hc2 with ⟨hRt, hcR⟩ | ⟨hRt, hcR⟩
                  all_goals
                    have i1 := Int.ofNat_lt.2 hc0
                    rw [hcR] at hkc hct HE2 HXS HXT hc0 i1
                    clear hcR c
                    have i2 : (k : Int) < (N : Int) := g1
                    go_wp2_with (first
                      | (go_at_call 36; ((with_reducible refine CR.mono ?_); rintro e w2 ⟨rfl, rfl⟩))
                      | ((with_reducible show wpList _ _ _ (⟨some 81, _, _, _, _, _⟩ :: _) _ _); refine wpList_append_lies _ rfl _ _ 33 rfl w.heap.size 41 j0 (.agg #[.int .i64 0, .int .i64 0]) 2 16 Try.underlying33 ji jz0 jz1 jz2 rfl (by decide) _ z (extV (toI A)) rfl (World.ownsRow.alloc (by have := HO.out; unfold OwnsE at this; rw [HZ.out] at this ⊢; exact this) _) _ 1 1 [.int .i64 (k : Int), .int .i64 _] rfl rfl (World.news_of_block (heap_alloc_new _ _)) (by intro u hu; simp at hu; rcases hu with rfl | rfl <;> rfl) (by decide) (by unfold maxLen; omega) (by omega) (by have := hsw.out; rw [size_alloc]; omega) _ rfl ?_; intro g1 cap1' w3 hown3 hgrow3 hat hgl; have b3 : Below w.heap.size w w3 := (HX.out.alloc HX.out.size _).grown hgrow3 (by have := hsw.out; rw [size_alloc]; omega) (fun j hj => by have h9 := HO.out; exact (h9.lt j hj).1); rw [HXS.out, HXT.out] at hown3; have HW3 := Lib.hid hown3; have HB3 := Lib.hid b3; clear hown3 hgrow3 hat hgl b3))
                    go_roundw
                    case rel => exact ⟨⟨_, _, _, by go_num, by go_num, by have := HN.out; omega, by omega, by rw [List.length_append, ← HZ.out]; simp; omega, by show World.ownsRow _ _ _ _ _ _ _; rw [List.length_append, ← HZ.out]; exact HW3.out, HE2.out⟩, HB3.out⟩
                    case measure => simp [intOf]; omega
              · have hA : A = extsL L m := by
                  have := HE.out
                  rw [low_end (by have := HN.out; omega), List.append_nil] at this
                  exact this
                have HA := Lib.hid hA
                have hzN : z ≤ 4097 := by omega
                clear hA HE ht hAk
                have hgo2 : (k < N ∧ t = 0) ∨ N = k := by omega
                clear hgo
                by_cases h8 : 8 < z
                · have HR := Lib.hid (show takeL L m = ([], false, L) by rw [HTL.out, if_pos (by rw [← HA.out, ← HZ.out]; exact h8)])
                  have i8 : (8 : Int) < (z : Int) := by omega
                  have HQ := Lib.hid hq
                  clear h8 hq
                  rcases hgo2 with ⟨hkN, rfl⟩ | rfl
                  all_goals
                    go_wp2
                    go_ret2
                    refine ⟨.slice none 0 0, by rw [HR.out]; rfl, ?_, ?_, ?_⟩
                    · rw [HR.out]; exact OwnsE.nil _ _
                    · rw [HR.out]; exact HN.out ▸ HQ.out
                    · exact Chg.of_below HX.out
                · have HR := Lib.hid (show takeL L m = (A, true, markL L A true) by rw [HTL.out, ← HA.out, if_neg (by rw [← HZ.out]; exact h8)])
                  have i8 : ¬ (8 : Int) < (z : Int) := by omega
                  have HQ := Lib.hid hq
                  clear hq
                  rcases hgo2 with ⟨hkN, rfl⟩ | rfl
                  all_goals
                    go_wp2
                    go_loopw [11] (fun i wx => ∃ a : Nat, a ≤ z ∧ i = .int .i64 a ∧ RefM wx p (.slice (some ⟨g, 0, none⟩) N cap) (markL L (A.take a) true) ∧ OwnsE wx w.heap.size (.slice a1 z cap1) A ∧ Chg (fun j => j = g) w wx) (fun i _ => z - (intOf i).toNat)
                    case atStart => exact ⟨0, Nat.zero_le _, rfl, HQ.out, HO.out, Chg.of_below HX.out⟩
                    case round =>
                      obtain ⟨a, ha, rfl, hq, ho, hc⟩ := hrel
                      clear HQ HX HO
                      by_cases haz : a < z
                      · obtain ⟨gA, rfl, hgA, e1, e2⟩ := ho.at (k := a) (by rw [← HZ.out]; exact haz)
                        obtain ⟨x, hx⟩ : ∃ x, x = A.getD a (0, 0) := ⟨_, rfl⟩
                        rw [← hx] at e1 e2
                        have hxin : x.1 + x.2 ≤ N := by
                          rw [HN.out]
                          refine exts_in (n := m) ?_
                          rw [← HA.out, hx, List.getD_eq_getElem?_getD, List.getElem?_eq_getElem (by rw [← HZ.out]; exact haz)]
                          exact List.getElem_mem _
                        have HMK := Lib.hid (show markL L (A.take (a + 1)) true = markN (markL L (A.take a) true) x.1 true x.2 by
                          have haA : a < A.length := by rw [← HZ.out]; exact haz
                          rw [List.take_succ_eq_append_getElem haA, markL_snoc, hx, List.getD_eq_getElem?_getD, List.getElem?_eq_getElem haA]; rfl)
                        have hML := Lib.hid (markL_length true (A.take a) L)
                        generalize markL L (A.take a) true = M at *
                        obtain ⟨f, c⟩ := x
                        have hgw : g < w.heap.size := HM.out.lt g (.inr rfl)
                        have i1 : (a : Int) < (z : Int) := by omega
                        have i0 : (0 : Int) ≤ (a : Int) := by omega
                        have HQ := Lib.hid hq
                        have HO := Lib.hid ho
                        have HC := Lib.hid hc
                        have hx2 := Lib.hid hx
                        clear hq ho hc hx e1 e2
                        replace hxin : f + c ≤ N := hxin
                        have HE1 := HO.out.at (k := a) (by rw [← HZ.out]; exact haz)
                        go_wp2
                        go_loopw [12] (fun i wy => ∃ b : Nat, b ≤ c ∧ i = .int .i64 b ∧ RefM wy p (.slice (some ⟨g, 0, none⟩) N cap) (markN M f true b) ∧ OwnsE wy w.heap.size (.slice (some ⟨gA, 0, none⟩) z cap1) A ∧ Chg (fun j => j = g) w wy) (fun i _ => c - (intOf i).toNat)
                        case atStart => exact ⟨0, Nat.zero_le _, rfl, HQ.out, HO.out, HC.out⟩
                        case round =>
                          obtain ⟨b, hb, rfl, hq, ho, hc⟩ := hrel
                          clear HQ HO HC HE1
                          obtain ⟨gA', hgA', _, e1, e2⟩ := ho.at (k := a) (by rw [← HZ.out]; exact haz)
                          simp only [Option.some.injEq, Addr.mk.injEq, and_true] at hgA'
                          subst hgA'
                          rw [← hx2.out] at e1 e2
                          by_cases hbc : b < c
                          · have hob := hq.at (k := f + b) (by rw [markN_length, hML.out, ← HN.out]; omega)
                            obtain ⟨ob, hob⟩ : ∃ ob, wr.cell? ⟨g, f + b, none⟩ = some ob := ⟨_, hob⟩
                            have hfz := hq.free (f + b)
                            have d0 := hq.cell
                            have hset : RefM (wr.drew.setCell ⟨g, f + b, none⟩ (.bool true)) p (.slice (some ⟨g, 0, none⟩) N cap) (markN M f true (b + 1)) := (hq.drewN 1).set (f + b) true
                            have hcs : Chg (· = g) wr (wr.drew.setCell ⟨g, f + b, none⟩ (.bool true)) := ((Chg.refl _ _).drew).setCell _ _ (.inl rfl)
                            have hos : OwnsE (wr.drew.setCell ⟨g, f + b, none⟩ (.bool true)) w.heap.size (.slice (some ⟨gA, 0, none⟩) z cap1) A := hcs.owns ho (fun j hj => by simp [Value.ownBlock] at hj; omega)
                            have HQ := Lib.hid hset
                            have HO := Lib.hid hos
                            have HC := Lib.hid (hc.trans hcs (fun _ _ h => h))
                            have j1 : (b : Int) < (c : Int) := by omega
                            have j0 : (0 : Int) ≤ (f : Int) + (b : Int) := by omega
                            have j2 : (f : Int) + (b : Int) < (N : Int) := by omega
                            have j3 : ((f : Int) + (b : Int)).toNat = f + b := by omega
                            have j4 : IntKind.i64.wrap ((f : Int) + (b : Int)) = (f : Int) + (b : Int) := IntWalk.i64_in _ (by omega)
                            clear hq ho hc hset hcs hos
                            go_wp2
                            go_still_tail 12, (by kernel_rfl)
                            change wpList _ _ _ _ _ wr.drew
                            have hob' : wr.drew.cell? ⟨g, f + b, none⟩ = some ob := hob
                            have hfz' : wr.drew.frozen? ⟨g, f + b, none⟩ = false := hfz
                            clear hob hfz d0 e1 e2 j4
                            generalize wr.drew = wq at *
                            go_wp2
                            go_roundw
                            case rel => exact ⟨b + 1, by omega, by go_num, HQ.out, HO.out, HC.out⟩
                            case measure => simp [intOf]; omega
                          · obtain rfl : b = c := by omega
                            have HQ := Lib.hid hq
                            have HO := Lib.hid ho
                            have HC := Lib.hid hc
                            clear hq ho hc
                            go_wp2
                            go_roundw
                            case rel => exact ⟨a + 1, by omega, by go_num, by rw [HMK.out]; exact HQ.out, HO.out, HC.out⟩
                            case measure => simp [intOf]; omega
                      · obtain rfl : z = a := by omega
                        have HQ := Lib.hid hq
                        have HO := Lib.hid ho
                        have HC := Lib.hid hc
                        clear hq ho hc
                        go_wp2
                        go_ret2
                        refine ⟨.slice a1 z cap1, by rw [HR.out]; rfl, ?_, ?_, ?_⟩
                        · rw [HR.out]; exact HO.out
                        · rw [HR.out]
                          have h9 := HQ.out
                          rw [HZ.out, List.take_length] at h9
                          exact HN.out ▸ h9
                        · exact HC.out.mono (fun j _ hj => by subst hj; rfl)
end Go.Proofs.Ytdngkpdiaeicmaa
