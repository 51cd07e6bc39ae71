/- Layer 8: the generator over the blocks that are not in use; as few extents as a rising row of blocks makes. -/
import Derived.Test.YtdngkpdiaeicmaaAmE
namespace Go.Proofs.Ytdngkpdiaeicmaa
open Go.RowKit Go.Shelf
attribute [local go_sem] Oper.semAt_some

/-- The blocks that are not in use, from one on. -/
def freeF (L : List Bool) (i : Nat) : List Nat := (List.range' i (L.length - i)).filter fun b => !L.getD b false
theorem freeF_end {L : List Bool} {i : Nat} (h : L.length ≤ i) : freeF L i = [] := by unfold freeF; rw [Nat.sub_eq_zero_of_le h]; rfl
theorem freeF_free {L : List Bool} {i : Nat} (h : i < L.length) (hb : L.getD i false = false) : freeF L i = i :: freeF L (i + 1) := by
  unfold freeF
  rw [show L.length - i = (L.length - (i + 1)) + 1 by omega, List.range'_succ, List.filter_cons, hb]
  rfl
theorem freeF_used {L : List Bool} {i : Nat} (h : i < L.length) (hb : L.getD i false = true) : freeF L i = freeF L (i + 1) := by
  unfold freeF
  rw [show L.length - i = (L.length - (i + 1)) + 1 by omega, List.range'_succ, List.filter_cons, hb]
  rfl
theorem freeF_le (L : List Bool) (i : Nat) : (freeF L i).length ≤ L.length := by
  unfold freeF
  refine Nat.le_trans (List.length_filter_le _ _) ?_
  rw [List.length_range']
  omega
theorem freeF_in {L : List Bool} {i b : Nat} (h : b ∈ freeF L i) : i ≤ b ∧ b < L.length ∧ L.getD b false = false := by
  unfold freeF at h
  obtain ⟨h1, h2⟩ := List.mem_filter.1 h
  rw [List.mem_range'_1] at h1
  refine ⟨h1.1, by omega, by simpa using h2⟩
theorem grown_drewN (W : World) (n : Nat) : W.grownBy (W.drewN n) none := ⟨rfl, rfl, rfl, Nat.le_refl _, fun _ _ _ => rfl⟩
set_option maxRecDepth 100000 in
set_option maxHeartbeats 4000000 in
theorem free_in (F : Fence) (n : Nat) (h23 : F.fn 59) (hw : F = Fence.wide) (hro : F.round = none) (hn : 1 ≤ n) (l Bs r : Nat) (L : List Bool) (s : Nat → Prop) (h2 : L.length ≤ 4096)
    (J Jx : List Place → World → Prop)
    (hA : ∀ pre W1 W2, J pre W1 → W1.grownBy W2 none → J pre W2)
    (hY : ∀ pre x W, J pre W → pre.length < (freeF L 0).length → YieldAt F (n - 1) Try.prog l #[.int .i64 (x.1 : Int)] W fun e W' =>
      (e = .returned (.bool true) ∧ J (pre ++ [x]) W' ∧ KeepsBut s W W') ∨ (e = .returned (.bool false) ∧ Jx (pre ++ [x]) W'))
    (W : World) (hs1 : ¬ s r) (hs2 : ¬ s Bs) (hcs : W.cell? ⟨Bs, 0, none⟩ = some (.pointer (some ⟨r, 0, none⟩))) (hc0 : W.cell? ⟨r, 0, none⟩ = some (.int .i64 (L.length : Int))) (hc1 : W.cell? ⟨r, 1, none⟩ = some (.string (str (packL L)))) (h0 : J [] W) :
    CallsIn F n Try.prog 59 #[.func (.yield l) #[] #[], .pointer (some ⟨Bs, 0, none⟩)] W fun e W' => (∃ v, e = .returned v) ∧
      ((∃ ys, vals ys = freeF L 0 ∧ J ys W') ∨ (∃ pre, vals pre <+: freeF L 0 ∧ Jx pre W')) := by
  have HC := Lib.hid (fun W' (k : KeepsBut s W W') => And.intro (k.cell ⟨Bs, 0, none⟩ hs2 _ hcs) (k.cell ⟨r, 1, none⟩ hs1 _ hc1))
  have HPL := Lib.hid (pack_le h2)
  obtain ⟨N, hN⟩ : ∃ N, N = L.length := ⟨_, rfl⟩
  rw [← hN] at h2 hc0
  have HN := Lib.hid hN
  clear hN
  refine callsIn_of_wp Try.func59 rfl h23 ?_ hro
  simp only [Try.ntmps59, List.size_toArray, List.length_cons, List.length_nil, Nat.reduceAdd, Nat.reduceSub, Array.replicate_succ, Array.replicate_zero, List.push_toArray, List.append_toArray, List.nil_append, List.cons_append]
  subst hw
  gi_wp2
  clear hcs hc0 hc1 hs1 hs2
  gi_loopw [8] (fun i wr => ∃ (pre : List Place) (k : Nat), k ≤ N ∧ i = .int .i64 (k : Int) ∧ Hid (freeF L 0 = vals pre ++ freeF L k) ∧ KeepsBut s W wr ∧ J pre wr) (fun i _ => N - (intOf i).toNat)
  case atStart => exact ⟨[], 0, Nat.zero_le _, rfl, Lib.hid rfl, KeepsBut.refl _ _, h0⟩
  case round =>
    obtain ⟨pre, k, hk, rfl, hpl, hkp, hJ⟩ := hrel
    by_cases hlt : k < N
    · have hlt2 : k < L.length := by have := HN.out; omega
      have i1 : (k : Int) < (N : Int) := by omega
      obtain ⟨cs, c1⟩ := HC.out _ hkp
      have CH := has_any (str (packL L)) (k : Int) wr (by omega)
      rw [pack_has] at CH
      cases hb : L.getD k false
      · rw [hb] at CH
        have hpl2 := hpl.out
        rw [freeF_free hlt2 hb] at hpl2
        obtain ⟨x, hx⟩ : ∃ x : Place, x.1 = k := ⟨⟨k, by omega⟩, rfl⟩
        have hpl3 : Hid (freeF L 0 = vals (pre ++ [x]) ++ freeF L (k + 1)) := Lib.hid (by rw [vals_snoc, List.append_assoc, hx]; exact hpl2)
        have hlen : pre.length < (freeF L 0).length := by
          rw [hpl2]; simp [vals]
        have Hpre := Lib.hid (show vals (pre ++ [x]) <+: freeF L 0 from ⟨_, hpl3.out.symm⟩)
        have HY2 := Lib.hid (fun m => hY pre x (wr.drewN m) (hA _ _ _ hJ (grown_drewN _ _)) hlen)
        rw [hx] at HY2
        clear hx hpl2 hpl hlen hJ hlt2 hb
        gi_wp2_with (refine ⟨trivial, ?_⟩; gi_at_call 32; refine (callsIn_wide.2 CH).mono ?_; rintro e w5 ⟨rfl, n5, rfl⟩; obtain ⟨fn, tmps, assign, body, hy, hR⟩ := HY2.out n5)
        refine hR.mono ?_
        rintro e W3 (⟨rfl, hJ3, hk3⟩ | ⟨rfl, hJx3⟩)
        · have hkp4 := (hkp.trans (KeepsBut.chg ((Chg.refl s wr).drewN n5))).trans hk3
          clear hR hy hk3 cs c1 CH HY2
          gi_wp2
          go_roundw
          case rel => exact ⟨pre ++ [x], k + 1, by omega, by go_num, hpl3, hkp4, hJ3⟩
          case measure => simp [intOf]; omega
        · clear hR hy cs c1 CH HY2
          gi_wp2
          refine bodyPost_ret (results_none rfl _ _ _) rfl ?_
          exact ⟨⟨_, rfl⟩, .inr ⟨pre ++ [x], Hpre.out, hJx3⟩⟩
      · rw [hb] at CH
        have hpl2 := Lib.hid hpl.out
        rw [freeF_used hlt2 hb] at hpl2
        clear hpl hlt2 hb
        gi_wp2_with (refine ⟨trivial, ?_⟩; gi_at_call 32; refine (callsIn_wide.2 CH).mono ?_; rintro e w5 ⟨rfl, n5, rfl⟩)
        refine ⟨fun f hf => (by cases hf), ?_⟩
        gi_wp2
        go_roundw
        case rel => exact ⟨pre, k + 1, by omega, by go_num, hpl2, hkp.trans (KeepsBut.chg ((Chg.refl s wr).drewN n5)), hA _ _ _ hJ (grown_drewN _ _)⟩
        case measure => simp [intOf]; omega
    · have hend : Hid (vals pre = freeF L 0) := by
        have e := hpl.out
        rw [freeF_end (i := k) (by have := HN.out; omega), List.append_nil] at e
        exact Lib.hid e.symm
      clear hpl
      gi_wp2
      go_end0
      exact ⟨⟨_, rfl⟩, .inl ⟨pre, hend.out, hJ⟩⟩
set_option maxHeartbeats 1000000 in
theorem free_call (n : Nat) (r : Nat) (w : World) :
    CallsIn Fence.wide n Try.prog 51 #[.pointer (some ⟨r, 0, none⟩)] w fun e w' => e = .returned (.func (.func 59) #[] #[.pointer (some ⟨w.heap.size, 0, none⟩)]) ∧ w' = w.alloc (.cells #[.pointer (some ⟨r, 0, none⟩)] 49) := by
  refine callsIn_of_wp Try.func51 rfl trivial ?_ rfl
  simp only [Try.ntmps51, List.size_toArray, List.length_cons, List.length_nil, Nat.reduceAdd, Nat.reduceSub, Array.replicate_succ, Array.replicate_zero, List.push_toArray, List.append_toArray, List.nil_append, List.cons_append]
  gi_wp2
  go_ret
  exact ⟨rfl, rfl⟩
theorem free_stops (n : Nat) (hn : 1 ≤ n) (Bs r : Nat) (L : List Bool) (s : Nat → Prop) (h2 : L.length ≤ 4096) (w : World) (hs1 : ¬ s r) (hs2 : ¬ s Bs) (hcs : w.cell? ⟨Bs, 0, none⟩ = some (.pointer (some ⟨r, 0, none⟩))) (hc0 : w.cell? ⟨r, 0, none⟩ = some (.int .i64 (L.length : Int))) (hc1 : w.cell? ⟨r, 1, none⟩ = some (.string (str (packL L)))) :
    SeqStopsK Fence.wide n Try.prog 59 #[.pointer (some ⟨Bs, 0, none⟩)] (fun x : Place => #[Value.int .i64 (x.1 : Int)]) (KeepsBut s) (fun ys => vals ys = freeF L 0) (fun pre => vals pre <+: freeF L 0) (freeF L 0).length w := fun l J Jx W hW hA _ hY h0 =>
  free_in Fence.wide n trivial rfl rfl hn l Bs r L s h2 J Jx (fun pre W1 W2 hJ hg => hA pre W1 W2 none hJ hg (fun r e => by cases e)) hY W hs1 hs2
    ((hW.cell (p := ⟨Bs, 0, none⟩) (World.block_lt_of_cell? w _ hcs)).trans hcs) ((hW.cell (p := ⟨r, 0, none⟩) (World.block_lt_of_cell? w _ hc0)).trans hc0) ((hW.cell (p := ⟨r, 1, none⟩) (World.block_lt_of_cell? w _ hc1)).trans hc1) h0
end Go.Proofs.Ytdngkpdiaeicmaa
