/- Layer 6: the document's disk: Fail, Read. -/
import Derived.Test.YtikeobmcnpncjaaSecB
namespace Go.Proofs.Ytikeobmcnpncjaa
open Go.RowKit

theorem info_bool : (Try.prog.info? 4).map (fun i => (i.zero, i.size, i.bytes)) = some (some (.bool false), 1, 1) := by kernel_rfl
/-- A list of bools, wherever it lies. -/
def KeepAt (w : World) (v : Value) (ks : List Bool) : Prop :=
  (v = .slice none 0 0 ∧ ks = []) ∨ ∃ (ad : Addr) (cap : Nat), v = .slice (some ad) ks.length cap ∧ ∀ j, j < ks.length → w.cell? (ad.add j) = some (.bool (ks.getD j false))
theorem addr_block (a : Addr) (i : Nat) : (a.add i).block = a.block := by unfold Addr.add; split <;> rfl
theorem KeepAt.chg {w w' : World} {v : Value} {ks : List Bool} (h : KeepAt w v ks) {s : Nat → Prop} (hc : Chg s w w') (hs : ∀ ad n cap, v = .slice (some ad) n cap → 0 < n → ¬ s ad.block) : KeepAt w' v ks := by
  rcases h with h | ⟨ad, cap, hv, hcell⟩
  · exact .inl h
  · refine .inr ⟨ad, cap, hv, fun j hj => ?_⟩
    have hlt : ad.block < w.heap.size := by
      have := World.block_lt_of_cell? w _ (hcell j hj)
      rwa [addr_block] at this
    rw [World.cell?_of_block (w := w) (w' := w') (a := ad.add j) (by rw [addr_block]; exact hc.block _ hlt (hs ad _ cap hv (by omega)))]
    exact hcell j hj
theorem KeepAt.keep {w w' : World} {v : Value} {ks : List Bool} (h : KeepAt w v ks) (hb : Below w.heap.size w w') : KeepAt w' v ks := h.chg (s := fun _ => False) (Chg.of_below hb) (fun _ _ _ _ _ => id)
theorem owns_keep {w : World} {v : Value} {ks : List Bool} (h : w.ownsRow 0 4 1 v ks.length (ks.map Value.bool)) : KeepAt w v ks := by
  rcases owns_form h with ⟨a, cap, hv⟩
  subst hv
  rcases h.2 with ⟨h1, h2⟩ | ⟨g, cap', cur, hv, _⟩
  · exact .inl ⟨h1 ▸ rfl, List.eq_nil_of_length_eq_zero h2⟩
  · simp only [Value.slice.injEq, true_and] at hv
    obtain ⟨rfl, rfl⟩ := hv
    refine .inr ⟨⟨g, 0, none⟩, cap, rfl, fun j hj => ?_⟩
    rw [Go.WideShapes.add_plain, Nat.zero_add, h.cellAt j (by omega), List.getElem?_map, List.getElem?_eq_getElem hj]
    simp [List.getD, hj]
set_option maxRecDepth 100000 in
set_option maxHeartbeats 1000000 in
theorem rfail_any {w : World} {p : Nat} {vS vL vK : Value} {d : RD} (h : RefV w p vS vL vK d) (n : Int) {v : Value} {ks : List Bool} (hk : KeepAt w v ks) (hl : ks.length ≤ 1000000) :
    Calls Try.prog 30 #[.pointer (some ⟨p, 0, none⟩), .int .i64 n, v] w fun e w' => e = .returned (.int .i64 (d.fail n ks).2) ∧ RefPost w p vS vL vK (d.fail n ks).1 w' := by
  obtain ⟨_, _, c2, _, _, _⟩ := h.cell
  have f4 := h.free 4
  have f5 := h.free 5
  have c4 := h.cell.2.2.2.2.1
  have c5 := h.cell.2.2.2.2.2
  have H := Lib.hid h
  clear h
  cases hd : d.down
  · rw [hd] at c2
    by_cases hn : n < 0
    · have HR := Lib.hid (show d.fail n ks = (d, 2) by unfold RD.fail; rw [hd, if_neg (by decide), if_pos hn])
      clear hd hk
      go_enter Try.func30, Try.ntmps30
      go_wp2
      go_ret
      exact ⟨retInt (by rw [HR.out]), by rw [HR.out]; exact RefPost.same H.out (Chg.refl _ _)⟩
    · have HR := Lib.hid (show d.fail n ks = ({ d with left := n, keep := ks }, 0) by unfold RD.fail; rw [hd, if_neg (by decide), if_neg hn])
      obtain ⟨i0, hi0, hz0, hz1, hz2⟩ := info_parts info_bool
      clear hd
      rcases hk with ⟨rfl, rfl⟩ | ⟨ad, cap, rfl, hc⟩
      · have hS := H.out.set (d' := { d with left := n }) 4 (.int .i64 n) rfl rfl rfl rfl
        obtain ⟨t1, t2, _⟩ := hS.rows 5 (.slice none 0 0)
        have hE : RefV ((w.setCell ⟨p, 4, none⟩ (.int .i64 n)).setCell ⟨p, 5, none⟩ (.slice none 0 0)) p vS vL (.slice none 0 0) { d with left := n, keep := [] } :=
          ⟨rowC_set hS.r 5 _, t1, t2, World.ownsRow_nil _ _ _ _⟩
        have HE := Lib.hid hE
        clear hS t1 t2 hE
        go_enter Try.func30, Try.ntmps30
        go_wp2_with (at_builtin; refine wpList_append_own_none rfl _ _ 32 rfl 0 4 i0 1 Try.underlying32 hi0 _ 0 [] rfl (World.ownsRow_nil _ _ _ _) rfl ?_)
        go_ret
        refine ⟨retInt (by rw [HR.out]), ?_⟩
        rw [HR.out]
        refine ⟨vS, vL, .slice none 0 0, HE.out, ((Chg.refl _ _).setP _ _).setP _ _, fun k hk => ?_⟩
        rcases hk with hk | hk | hk | hk
        · exact .inl (.inl hk)
        · exact .inl (.inr (.inl hk))
        · exact .inl (.inr (.inr (.inl hk)))
        · cases hk
      · obtain ⟨xs, hxs⟩ : ∃ xs, xs = ks.map Value.bool := ⟨_, rfl⟩
        have HX := Lib.hid (show xs.length = ks.length * 1 by rw [hxs, List.length_map, Nat.mul_one])
        have HN := Lib.hid (show ∀ j u, xs[j]? = some u → w.cell? (ad.add j) = some u by
          intro j u hu
          rw [hxs, List.getElem?_map] at hu
          cases hj : ks[j]? with
          | none => rw [hj] at hu; cases hu
          | some x =>
            rw [hj] at hu
            obtain rfl : Value.bool x = u := Option.some.inj hu
            have hlt2 : j < ks.length := (List.getElem?_eq_some_iff.1 hj).1
            rw [hc j hlt2]
            simp [List.getD, hj])
        have H1 := Lib.hid (show ∀ u ∈ xs, u.oneCell' = true by
          intro u hu
          rw [hxs] at hu
          obtain ⟨x, _, rfl⟩ := List.mem_map.1 hu
          rfl)
        have HXS := Lib.hid hxs
        clear hxs
        go_enter Try.func30, Try.ntmps30
        go_wp2_with (at_builtin; refine wpList_append_own _ rfl _ _ 32 rfl w.heap.size 4 i0 (.bool false) 1 1 Try.underlying32 hi0 hz0 hz1 hz2 rfl (by decide) _ 0 [] rfl (World.ownsRow_nil _ _ _ _) ad ks.length cap xs rfl HX.out HN.out H1.out (by unfold maxLen; omega) (by omega) (Nat.le_refl _) ?_)
        intro v' w1 hown hgrow _
        rw [HXS.out] at hown
        obtain ⟨a', cap', rfl⟩ := owns_form hown
        obtain ⟨v', hv'⟩ : ∃ v', v' = Value.slice a' ks.length cap' := ⟨_, rfl⟩
        rw [← hv'] at hown
        have hch : Chg (· = p) w w1 := (Chg.refl _ w).grown hgrow (fun k hk => by simp [Value.ownBlock] at hk)
        have hne : ∀ k, refOwn p vS vL vK k → k < w.heap.size := H.out.lt
        have h1 : RefV w1 p vS vL vK d := H.out.chg (s := fun _ => False) (Chg.of_below ((Below.refl _ _).grown hgrow (Nat.le_refl _) (fun j hj => by simp [Value.ownBlock] at hj))) (fun _ _ => id)
        have hS := h1.set (d' := { d with left := n }) 4 (.int .i64 n) rfl rfl rfl rfl
        obtain ⟨t1, t2, _⟩ := hS.rows 5 v'
        have hplt : p < w.heap.size := hne p (.inl rfl)
        have ho2 : ((w1.setCell ⟨p, 4, none⟩ (.int .i64 n)).setCell ⟨p, 5, none⟩ v').ownsRow 0 4 1 v' ks.length (ks.map Value.bool) := by
          have hc2 : Chg (· = p) w1 ((w1.setCell ⟨p, 4, none⟩ (.int .i64 n)).setCell ⟨p, 5, none⟩ v') := ((Chg.refl _ _).setP _ _).setP _ _
          refine hc2.owns (owns_base hown) (fun g hg hgp => ?_)
          have := (hown.lt g hg).1
          omega
        have hE : RefV ((w1.setCell ⟨p, 4, none⟩ (.int .i64 n)).setCell ⟨p, 5, none⟩ v') p vS vL v' { d with left := n, keep := ks } :=
          ⟨rowC_set hS.r 5 _, t1, t2, ho2⟩
        obtain ⟨e0, e1, e2, e3, e4, e5⟩ := h1.cell
        have f4' := h1.free 4
        have f5' := h1.free 5
        have HE := Lib.hid hE
        have HC := Lib.hid (((hch.setP 4 (.int .i64 n)).setP 5 v'))
        have HO := Lib.hid (fun k (hk : v'.ownBlock = some k) => (hown.lt k hk).1)
        subst hv'
        clear hown hgrow hch hne h1 hS t1 t2 ho2 hE hc f4 f5 c4 c5 c2
        go_wp2
        go_ret
        refine ⟨retInt (by rw [HR.out]), ?_⟩
        rw [HR.out]
        refine ⟨vS, vL, _, HE.out, HC.out, fun k hk => ?_⟩
        rcases hk with hk | hk | hk | hk
        · exact .inl (.inl hk)
        · exact .inl (.inr (.inl hk))
        · exact .inl (.inr (.inr (.inl hk)))
        · exact .inr (HO.out k hk)
  · have HR := Lib.hid (show d.fail n ks = (d, 61) by unfold RD.fail; rw [hd]; rfl)
    rw [hd] at c2
    clear hd hk
    go_enter Try.func30, Try.ntmps30
    go_wp2
    go_ret
    exact ⟨retInt (by rw [HR.out]), by rw [HR.out]; exact RefPost.same H.out (Chg.refl _ _)⟩
end Go.Proofs.Ytikeobmcnpncjaa
