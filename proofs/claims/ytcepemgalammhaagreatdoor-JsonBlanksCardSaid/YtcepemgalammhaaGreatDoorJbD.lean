/- Layer 11: Build (UNFINISHED: region 15's other cases, region 16, the end). -/
import Derived.Test.YtcepemgalammhaaGreatDoorM02
import Derived.BigRegion
import Derived.Deep.RegionHeld3
import Derived.Deep.Upon
import Derived.OwnWalk
namespace Go.Proofs.YtcepemgalammhaaGreatDoor
open Go.RowKit

/-- A round's end. -/
theorem buo_step {w wr w5 : World} {base g5 cap5 N j : Nat} {ops : List JV} {p : Part1} {xs : List Value} {b d : Value} {k : Int} {t : ByteArray} (hb : Below w.heap.size w wr) (hr : rowC wr w.heap.size zeroV4 27) (c : Chg (fun _ => False) wr w5)
    (ho : w5.ownsRow base 27 4 (.slice (some ⟨g5, 0, none⟩) (N + 1) cap5) (N + 1) (xs ++ [.int .i64 k, .string t, b, d])) (hN : N = ops.length - p.items % 7)
    (hI : ItemsC w5 (fun k => k ≠ w.heap.size) (ops.take N) xs) (hH : HoldsC w5 (fun k => k ≠ w.heap.size) (.mk p.kind p.text (ops.drop N) p.keys) (.int .i64 k) (.string t) b d)
    (hok : ∀ v ∈ ops, okJ v) (hl : ops.length ≤ 80) (h1 : p.text.length ≤ 300) (h2 : p.keys.length ≤ 8) (h3 : ∀ y ∈ p.keys, y.length ≤ 300) (hlj : ops.length ≤ j) (hj : j < 80) (hNl : N ≤ ops.length) :
    BuO w.heap.size w w5 (j + 1) (stepJ ops p) (.slice (some ⟨g5, 0, none⟩) (N + 1) cap5) := by
  have hs := stepJ_len ops p
  have he : stepJ ops p = ops.take N ++ [.mk p.kind p.text (ops.drop N) p.keys] := by rw [hN]; rfl
  have hlen : (stepJ ops p).length = N + 1 := by rw [he, List.length_append, List.length_take, List.length_singleton]; omega
  have hB : Below wr.heap.size wr w5 := ⟨c.os, c.tape, c.output, c.size, fun k hk => c.block k hk id⟩
  refine ⟨⟨⟨some ⟨g5, 0, none⟩, cap5, xs ++ [.int .i64 k, .string t, b, d], by rw [hlen], ?_, by rw [he]; exact ItemsC.snoc hH _ _ hI, fun _ => ⟨_, rfl, fun i u hu => ?_⟩⟩, fun h => absurd h hs.2, stepJ_ok hok hl h1 h2 h3, by omega⟩, c.rowC hr id, hb.trans (hB.mono hb.size), by omega, fun _ => hs.2⟩
  · rw [hlen]
    rcases ho.2 with ⟨e, _⟩ | ⟨g', cap', cur, hv, q1, q2, q3, q4, q5, q6⟩
    · cases e
    · simp only [Value.slice.injEq] at hv
      omega
  · have := ho.cells (g := g5) rfl i u hu
    simpa using this
theorem ItemsC.last {w : World} {F : Nat → Prop} {v : JV} : ∀ {xs : List Value}, ItemsC w F [v] xs → ∃ a b c d, xs = [a, b, c, d] ∧ HoldsC w F v a b c d
  | [a, b, c, d], h => ⟨a, b, c, d, rfl, h.1⟩
  | [], h => h.elim
  | [_], h => h.elim
  | [_, _], h => h.elim
  | [_, _, _], h => h.elim
  | _ :: _ :: _ :: _ :: _ :: _, h => h.2.elim
/-- An append of nothing onto nothing, as a step of a region that draws. -/
theorem step_append_zero {ops : Array Oper} {o : Oper} {a : Act} {w : World} {K : Act → World → Prop} {Q : Exit → Act → World → Prop} {E : Prop} (hgd : o.guard = none) (s x : Operand)
    (ho : o.op = .call { callee := .builtin .append, args := #[s, x], argTypes := #[24, 24] }) (hs : a.eval s = .slice none 0 0) (ad : Addr) (c : Nat) (hx : a.eval x = .slice (some ad) 0 c)
    (h : ∀ w', w.grownBy w' none → K (a.put o.dst (.slice none 0 0)) w') : if Region.wanted o (yielded ops a.tmps) = true then Oper.wp Tryz.prog o a w K Q else E := by
  have hw : Region.wanted o (yielded ops a.tmps) = true := by simp [Region.wanted, hgd]
  rw [if_pos hw]
  obtain ⟨i0, hi0, hz0, hz1, hz2⟩ := info_parts info_V3
  refine wp_append_own w s x 24 ho w.heap.size 27 i0 _ 4 72 Tryz.underlying24 hi0 hz0 hz1 hz2 rfl (by decide) (.slice none 0 0) 0 [] hs (World.ownsRow_nil _ _ _ _) ad 0 c [] hx rfl (fun j u hj => by cases hj) (fun u hu => by cases hu) (by decide) (by decide) (Nat.le_refl _) fun v' w' _ h2 h3 => ?_
  rw [h3.2 ⟨rfl, rfl⟩]
  exact h w' h2
/-- An append of none onto none, as a step of a region that draws. -/
theorem step_append_none {ops : Array Oper} {o : Oper} {a : Act} {w : World} {K : Act → World → Prop} {Q : Exit → Act → World → Prop} {E : Prop} (hgd : o.guard = none) (s x : Operand)
    (ho : o.op = .call { callee := .builtin .append, args := #[s, x], argTypes := #[24, 24] }) (hs : a.eval s = .slice none 0 0) (hx : a.eval x = .slice none 0 0)
    (h : ∀ w', w.grownBy w' none → K (a.put o.dst (.slice none 0 0)) w') : if Region.wanted o (yielded ops a.tmps) = true then Oper.wp Tryz.prog o a w K Q else E := by
  have hw : Region.wanted o (yielded ops a.tmps) = true := by simp [Region.wanted, hgd]
  rw [if_pos hw]
  obtain ⟨i0, hi0, hz0, hz1, hz2⟩ := info_parts info_V3
  have hr := run_append_nothing (P := Tryz.prog) w 24 24 o.type 27 i0 Tryz.underlying24 hi0 none 0 0 (Nat.le_refl _) (.slice none 0 0) (Src.ofNil w Tryz.underlying24 0)
  unfold Oper.wp execOp
  simp only [ho, resolve, invoke, builtin, Sem.run_bind, Sem.run_pure, Result.andThen_ok, List.map_toArray, List.map_cons, List.map_nil, hs, hx, hr]
  exact h w (World.grownBy.refl w none)
set_option maxRecDepth 100000 in
set_option maxHeartbeats 8000000 in
theorem build_any {w : World} {xp : Option Addr} {cp : Nat} {l : List Part1} (hP : PartsC w xp l) (hl : l.length ≤ maxLen) :
    Calls Tryz.prog 5 #[.slice xp l.length cp] w fun e w' => BuildSays w e w' := by
  have HIF := Lib.hid info_V
  obtain ⟨W1, hW1⟩ : ∃ W1, W1 = w.alloc (.cells #[.int .i64 0, .string ⟨#[]⟩, .slice none 0 0, .slice none 0 0] 27) := ⟨_, rfl⟩
  have hR1 : rowC W1 w.heap.size zeroV4 27 := by rw [hW1]; exact rowC_new _ _ _
  have hB1 : Below w.heap.size w W1 := by rw [hW1]; exact (Below.refl _ _).alloc (Nat.le_refl _) _
  have HB0 : Hid (BuO w.heap.size w W1 0 [] (.slice none 0 0)) := Lib.hid ⟨⟨⟨none, 0, [], rfl, Nat.le_refl _, trivial, fun h => absurd rfl h⟩, fun _ => rfl, (fun v hv => by cases hv), Nat.zero_le _⟩, hR1, hB1, Nat.le_refl _, fun h => absurd h (Nat.lt_irrefl _)⟩
  have HR1 := Lib.hid hR1
  have HB1 := Lib.hid hB1
  have HW1 := Lib.hid hW1
  have HP := Lib.hid hP
  obtain ⟨n, hn⟩ : ∃ n, n = l.length := ⟨_, rfl⟩
  rw [← hn] at hl ⊢
  have hn2 : n ≤ 9223372036854775807 := by unfold maxLen at hl; omega
  have HN := Lib.hid hn
  clear hP hl hW1 hR1 hB1 hn
  by_cases h80 : 80 < n
  · have hg80 : (80 : Int) < (n : Int) := by omega
    have hne : ((n : Int) == 0) = false := by rw [beq_eq_false_iff_ne]; omega
    clear h80 hn2
    go_enter Tryz.func5, Tryz.ntmps5
    go_upto_region 1 with (fail)
    rw [← HW1.out]
    go_wp2_with (first
      | ((with_reducible show wpList _ _ _ (⟨some 17, .build _ _, _, _, _, _⟩ :: _) _ _); refine wpList_build_as rfl 27 _ rfl zeroV4 (by kernel_rfl) ?_)
      | ((with_reducible show wpList _ _ _ (⟨none, .store _ (.tmp 2) _, _, _, _, _⟩ :: _) _ _); refine wpList_store_row rfl 27 _ _ rfl w.heap.size zeroV4 rfl rfl 27 zeroV4 HR1.out HIF.out rfl zeroV4_all ?_))
    refine bodyPost_ret (results_row_tmp rfl _ _ w.heap.size 27 zeroV4 _ rfl (rowC_setRow HR1.out _) Tryz.underlying27 rfl HIF.out (.bool false) rfl) rfl ?_
    exact ⟨_, _, rfl, .inl ⟨rfl, rfl⟩, below_setRow HB1.out (Nat.le_refl _) _⟩
  by_cases h0 : n = 0
  · subst h0
    have hg80 : ¬ (80 : Int) < ((0 : Nat) : Int) := by omega
    have hne : (((0 : Nat) : Int) == 0) = true := rfl
    clear h80 hn2
    go_enter Tryz.func5, Tryz.ntmps5
    go_upto_region 1 with (fail)
    rw [← HW1.out]
    go_wp2_with (first
      | ((with_reducible show wpList _ _ _ (⟨some 17, .build _ _, _, _, _, _⟩ :: _) _ _); refine wpList_build_as rfl 27 _ rfl zeroV4 (by kernel_rfl) ?_)
      | ((with_reducible show wpList _ _ _ (⟨none, .store _ (.tmp 2) _, _, _, _, _⟩ :: _) _ _); refine wpList_store_row rfl 27 _ _ rfl w.heap.size zeroV4 rfl rfl 27 zeroV4 HR1.out HIF.out rfl zeroV4_all ?_))
    refine bodyPost_ret (results_row_tmp rfl _ _ w.heap.size 27 zeroV4 _ rfl (rowC_setRow HR1.out _) Tryz.underlying27 rfl HIF.out (.bool true) rfl) rfl ?_
    refine ⟨_, _, rfl, .inr ⟨rfl, .mk 0 [] [] [], okJ_leaf _ _ (Nat.zero_le _), _, _, _, _, rfl, ?_⟩, below_setRow HB1.out (Nat.le_refl _) _⟩
    rw [HoldsC]
    exact ⟨rfl, rfl, Nat.zero_le _, .inl ⟨rfl, rfl⟩, .inl ⟨rfl, rfl⟩⟩
  have hg80 : ¬ (80 : Int) < (n : Int) := by omega
  have hne : ((n : Int) == 0) = false := by rw [beq_eq_false_iff_ne]; omega
  have H80 := Lib.hid h80
  have H0 := Lib.hid h0
  clear h80 h0
  go_enter Tryz.func5, Tryz.ntmps5
  go_upto_region 5 with (fail)
  rw [← HW1.out]
  go_loopw [4, 5, 6, 7, 8] (fun op i _ _ _ wr => ∃ (j : Nat) (ops : List JV), j ≤ n ∧ i = .int .i64 j ∧ BuO w.heap.size w wr j ops op) (fun _ i _ _ _ _ => n - (intOf i).toNat)
  case atStart => exact ⟨0, [], Nat.zero_le _, rfl, HB0.out⟩
  case round =>
    obtain ⟨j, ops, hj, rfl, hB⟩ := hrel
    by_cases hlt : j < n
    · have k0 : (0 : Int) ≤ (j : Int) := by omega
      have k1 : (j : Int) < (n : Int) := by omega
      obtain ⟨⟨⟨x, c, xs, rfl, hxc, hV, hVc⟩, hnil, hok, hlen⟩, hrow, hbel, hlj, hnj⟩ := hB
      obtain ⟨p, hp⟩ : ∃ p, l[j]? = some p := ⟨_, List.getElem?_eq_getElem (by have := HN.out; omega)⟩
      obtain ⟨ad, rfl, had, xk, ck, h4, hK, hk1, hk2, hp1, hp2, hp3, hp4⟩ := HP.out j p hp
      have hat : ∀ i v, [.int .i8 p.kind, .string (str p.text), .int .u8 (p.items : Int), .slice xk p.keys.length ck][i]? = some v → wr.cell? ((ad.add (j * 4)).add i) = some v := fun i v hv => cell_chg (s := fun _ => False) (Chg.of_below hbel) (h4 i v hv) id
      have q0 := hat 0 _ rfl
      rw [Addr.add_zero'] at q0
      have q1 := hat 1 _ rfl
      rw [add_pos _ 1 (by decide)] at q1
      have q2 := hat 2 _ rfl
      rw [add_pos _ 2 (by decide)] at q2
      have q3 := hat 3 _ rfl
      rw [add_pos _ 3 (by decide)] at q3
      have HRow := Lib.hid hrow
      have HBel := Lib.hid hbel
      have hts := str_size p.text
      have hkl : ((p.keys.length : Int)) = (p.keys.length : Int) := rfl
      by_cases ht : 300 < p.text.length
      · have ht' : (300 : Int) < ((str p.text).size : Int) := by omega
        clear hat hts hkl q0 q2 q3 hrow hbel
        go_wp2_with (first
          | ((with_reducible show wpList _ _ _ (⟨some 43, .build _ _, _, _, _, _⟩ :: _) _ _); refine wpList_build_as rfl 27 _ rfl zeroV4 (by kernel_rfl) ?_)
          | ((with_reducible show wpList _ _ _ (⟨none, .store _ (.tmp 2) _, _, _, _, _⟩ :: _) _ _); refine wpList_store_row rfl 27 _ _ rfl w.heap.size zeroV4 rfl rfl 27 zeroV4 HRow.out HIF.out rfl zeroV4_all ?_))
        refine bodyPost_ret (results_row_tmp rfl _ _ w.heap.size 27 zeroV4 _ rfl (rowC_setRow HRow.out _) Tryz.underlying27 rfl HIF.out (.bool false) rfl) rfl ?_
        exact ⟨_, _, rfl, .inl ⟨rfl, rfl⟩, below_setRow HBel.out (Nat.le_refl _) _⟩
      by_cases hk8 : 8 < p.keys.length
      · have ht' : ¬ (300 : Int) < ((str p.text).size : Int) := by omega
        have hk8' : (8 : Int) < (p.keys.length : Int) := by omega
        clear hat hts hkl q0 q2 hrow hbel
        go_wp2_with (first
          | ((with_reducible show wpList _ _ _ (⟨some 43, .build _ _, _, _, _, _⟩ :: _) _ _); refine wpList_build_as rfl 27 _ rfl zeroV4 (by kernel_rfl) ?_)
          | ((with_reducible show wpList _ _ _ (⟨none, .store _ (.tmp 2) _, _, _, _, _⟩ :: _) _ _); refine wpList_store_row rfl 27 _ _ rfl w.heap.size zeroV4 rfl rfl 27 zeroV4 HRow.out HIF.out rfl zeroV4_all ?_))
        refine bodyPost_ret (results_row_tmp rfl _ _ w.heap.size 27 zeroV4 _ rfl (rowC_setRow HRow.out _) Tryz.underlying27 rfl HIF.out (.bool false) rfl) rfl ?_
        exact ⟨_, _, rfl, .inl ⟨rfl, rfl⟩, below_setRow HBel.out (Nat.le_refl _) _⟩
      have ht' : ¬ (300 : Int) < ((str p.text).size : Int) := by omega
      have hk8' : ¬ (8 : Int) < (p.keys.length : Int) := by omega
      clear hat hts hkl
      obtain ⟨K, hKn⟩ : ∃ K, K = p.keys.length := ⟨_, rfl⟩
      have hKs : ∀ i, i < K → ∃ ak, xk = some ak ∧ wr.cell? (ak.add i) = some (.string (str (p.keys.getD i []))) := fun i hi => by
        rcases hK with ⟨e, e2⟩ | ⟨ak, ck', e, hc⟩
        · rw [e2] at hKn; rw [hKn] at hi; exact absurd hi (Nat.not_lt_zero _)
        · rw [Value.slice.injEq] at e
          exact ⟨ak, e.1, cell_chg (s := fun _ => False) (Chg.of_below hbel) (hc i (by omega)).2 id⟩
      have HKs := Lib.hid hKs
      have HKn := Lib.hid hKn
      have hK8 : K ≤ 8 := by omega
      rw [← hKn] at q3 hk8'
      clear hKs hKn hrow hbel
      go_upto_region 10 with (fail)
      go_loopw [6] (fun i w' => w' = wr ∧ ∃ m : Nat, m ≤ K ∧ i = .int .i64 m ∧ Hid (∀ u, u < m → (p.keys.getD u []).length ≤ 300)) (fun i _ => K - (intOf i).toNat)
      case atStart => exact ⟨rfl, 0, Nat.zero_le _, rfl, Lib.hid fun u hu => absurd hu (Nat.not_lt_zero _)⟩
      case round =>
        obtain ⟨rfl, m, hm, rfl, hall⟩ := hrel
        by_cases hmK : m < K
        · have m0 : (0 : Int) ≤ (m : Int) := by omega
          have m1 : (m : Int) < (K : Int) := by omega
          obtain ⟨ak, rfl, hak⟩ := HKs.out m hmK
          obtain ⟨kt, hkt⟩ : ∃ kt, kt = p.keys.getD m [] := ⟨_, rfl⟩
          rw [← hkt] at hak
          have hks := str_size kt
          by_cases hkl : 300 < kt.length
          · have hkl' : (300 : Int) < ((str kt).size : Int) := by omega
            clear hks hkl q0 q1 q2 hkt
            go_wp2_with (first
              | ((with_reducible show wpList _ _ _ (⟨some 64, .build _ _, _, _, _, _⟩ :: _) _ _); refine wpList_build_as rfl 27 _ rfl zeroV4 (by kernel_rfl) ?_)
              | ((with_reducible show wpList _ _ _ (⟨none, .store _ (.tmp 2) _, _, _, _, _⟩ :: _) _ _); refine wpList_store_row rfl 27 _ _ rfl w.heap.size zeroV4 rfl rfl 27 zeroV4 HRow.out HIF.out rfl zeroV4_all ?_))
            refine bodyPost_ret (results_row_tmp rfl _ _ w.heap.size 27 zeroV4 _ rfl (rowC_setRow HRow.out _) Tryz.underlying27 rfl HIF.out (.bool false) rfl) rfl ?_
            exact ⟨_, _, rfl, .inl ⟨rfl, rfl⟩, below_setRow HBel.out (Nat.le_refl _) _⟩
          · have hkl' : ¬ (300 : Int) < ((str kt).size : Int) := by omega
            have hall' : Hid (∀ u, u < m + 1 → (p.keys.getD u []).length ≤ 300) := Lib.hid fun u hu => by
              by_cases e : u = m
              · rw [e, ← hkt]; omega
              · exact hall.out u (by omega)
            have kr : Hid (m + 1 ≤ K ∧ ((m : Int) + 1 = ((m + 1 : Nat) : Int)) ∧ K - (intOf (Value.int .i64 ((m : Int) + 1))).toNat < K - (intOf (Value.int .i64 (m : Int))).toNat) := Lib.hid (by simp [intOf]; omega)
            clear hks hkl q0 q1 q2 hkt
            go_wp2
            go_roundw
            case rel => exact ⟨by trivial, m + 1, kr.out.1, by rw [kr.out.2.1], hall'⟩
            case measure => exact kr.out.2.2
        · obtain rfl : m = K := by omega
          go_upto_region 15 with (fail)
          obtain ⟨N, hN⟩ : ∃ N, N = ops.length - p.items % 7 := ⟨_, rfl⟩
          have hNi : max ((ops.length : Int) - (p.items : Int) % 7) 0 = (N : Int) := by omega
          rw [hNi]
          have hNl : N ≤ ops.length := by omega
          have n0 : (0 : Int) ≤ (N : Int) := by omega
          have n1 : (N : Int) ≤ (ops.length : Int) := by omega
          have n2 : (N : Int) ≤ (c : Int) := by omega
          have HNN := Lib.hid hN
          clear hN hNi
          by_cases hz : N < ops.length
          · obtain ⟨ax, rfl, hax⟩ := hVc (by rintro rfl; simp at hz)
            have hcN : ¬ c = N := by omega
            have hcN2 : ¬ (N : Int) = (c : Int) := by omega
            obtain ⟨i0, hi0, hz0, hz1, hz2⟩ := info_parts info_V3
            have hqa : ¬ (ad.add (j * 4)).block = wr.heap.size := by
              have := World.block_lt_of_cell? wr _ q0
              omega
            have wk : IntKind.i64.wrap p.kind = p.kind := IntWalk.i64_in _ (by omega)
            have hlx0 := ItemsC.len _ _ hV
            have hlx : (xs.drop (N * 4)).length = (ops.length - N) * 4 := by rw [List.length_drop]; omega
            have hnews : ∀ i u, (xs.drop (N * 4))[i]? = some u → wr.cell? ((ax.add (N * 4)).add i) = some u := fun i u hu => by
              rw [List.getElem?_drop] at hu
              rw [add_add]
              exact hax _ u hu
            have h1x : ∀ u ∈ xs.drop (N * 4), u.oneCell' = true := fun u hu => ItemsC.one _ _ hV u (List.mem_of_mem_drop hu)
            go_region_held3 (fun w' => w'.cell? (ad.add (j * 4)) = some (.int .i8 p.kind) ∧ w'.cell? ⟨(ad.add (j * 4)).block, (ad.add (j * 4)).off + 1, none⟩ = some (.string (str p.text)) ∧ w'.cell? ⟨(ad.add (j * 4)).block, (ad.add (j * 4)).off + 3, none⟩ = some (.slice xk m ck))
              (first
                | with_reducible exact ⟨q0, q1, q3⟩
                | with_reducible exact ⟨cell_chg (s := (· = wr.heap.size)) (((((Chg.refl _ w1).cellq 0 _).cellq 1 _).cellq 2 _).cellq 3 _) q0 hqa, cell_chg (s := (· = wr.heap.size)) (((((Chg.refl _ w1).cellq 0 _).cellq 1 _).cellq 2 _).cellq 3 _) q1 hqa, cell_chg (s := (· = wr.heap.size)) (((((Chg.refl _ w1).cellq 0 _).cellq 1 _).cellq 2 _).cellq 3 _) q3 hqa⟩
                | with_reducible exact ⟨cell_chg (s := fun _ => False) ((Chg.refl _ _).alloc _) q0 id, cell_chg (s := fun _ => False) ((Chg.refl _ _).alloc _) q1 id, cell_chg (s := fun _ => False) ((Chg.refl _ _).alloc _) q3 id⟩
                | go_keep)
              (first
                | (refine step_append_lies _ (by rfl) _ _ _ (by rfl) wr.heap.size 27 i0 _ 4 72 Tryz.underlying24 hi0 hz0 hz1 hz2 rfl (by decide) _ 0 [] (by rfl) (World.ownsRow_nil _ _ _ _) (ax.add (N * 4)) (ops.length - N) (c - N) (xs.drop (N * 4)) (by rfl) hlx (fun i u hu => cell_chg (s := fun _ => False) (by first | exact Chg.refl _ _ | exact (Chg.refl _ _).drew | exact ((Chg.refl _ _).alloc _) | exact ((Chg.refl _ _).alloc _).drew | exact ((Chg.refl _ _).drew).alloc _) (hnews i u hu) id) h1x (by omega) (by unfold maxLen; omega) (by omega) (by simp) _ rfl ?_; intro g cap w1 hown1 hgrow hat hltg; simp only [Nat.zero_add, List.nil_append] at hown1; have cw : Chg (fun _ => False) wr w1 := Chg.grown (by first | exact Chg.refl _ _ | exact (Chg.refl _ _).drew | exact ((Chg.refl _ _).alloc _) | exact ((Chg.refl _ _).alloc _).drew | exact ((Chg.refl _ _).drew).alloc _) hgrow (fun k hk => by cases hk); have q0 := cell_chg cw q0 id; have q1 := cell_chg cw q1 id; have q3 := cell_chg cw q3 id; try (have Z4 : rowC w1 wr.heap.size #[.int .i64 0, .string ⟨#[]⟩, .slice none 0 0, .slice none 0 0] 27 := Chg.rowC (Chg.grown (Chg.refl (fun _ => False) _) hgrow (fun k hk => by cases hk)) (by first | exact rowC_new _ _ _ | exact rowC_drew (rowC_new _ _ _) | exact rowC_new wr.drew _ _) id; have z0 : w1.cell? ⟨wr.heap.size, 0, none⟩ = some (.int .i64 0) := rowC_cell Z4 0; have z1 : w1.cell? ⟨wr.heap.size, 1, none⟩ = some (.string ⟨#[]⟩) := rowC_cell Z4 1; have z2 : w1.cell? ⟨wr.heap.size, 2, none⟩ = some (.slice none 0 0) := rowC_cell Z4 2; have z3 : w1.cell? ⟨wr.heap.size, 3, none⟩ = some (.slice none 0 0) := rowC_cell Z4 3; have y0 := rowC_free Z4 0; have y1 := rowC_free Z4 1; have y2 := rowC_free Z4 2; have y3 := rowC_free Z4 3)))
            have hIs := ItemsC.drop N _ _ hV
            have hlen2 : (ops.drop N).length = ops.length - N := List.length_drop
            have hg0 : w.heap.size < wr.heap.size := rowC_lt HRow.out
            have hgw : wr.heap.size ≤ g := by rcases hat with e | e; cases e; simp at e; omega
            have hKf : HoldsK wr (fun k => k ≠ w.heap.size) p.keys (.slice xk p.keys.length ck) := by
              rcases hK with h | ⟨ad', c', e, hc⟩
              · exact .inl h
              · exact .inr ⟨ad', c', e, fun i hi => ⟨Nat.ne_of_lt (hc i hi).1, cell_chg (s := fun _ => False) (Chg.of_below HBel.out) (hc i hi).2 id⟩⟩
            have hH1 := mid_hold (base := wr.heap.size) (F1 := fun k => k ≠ w.heap.size) (kind := p.kind) (text := p.text) cw hown1 hlen2 hIs (fun _ h _ => h) (by show g ≠ w.heap.size; omega) hKf (by omega)
            rw [← HKn.out] at hH1
            obtain ⟨B, hBq⟩ : ∃ B, B = w1.heap.size := ⟨_, rfl⟩
            obtain ⟨w2, hw2⟩ : ∃ w2, w2 = w1.alloc (.cells #[.int .i64 p.kind, .string (str p.text), .slice (some ⟨g, 0, none⟩) (ops.length - N) cap, .slice xk m ck] 27) := ⟨_, rfl⟩
            have c12 : Chg (fun _ => False) w1 w2 := by rw [hw2]; exact (Chg.refl _ _).alloc _
            have hbox : rowC w2 B #[.int .i64 p.kind, .string (str p.text), .slice (some ⟨g, 0, none⟩) (ops.length - N) cap, .slice xk m ck] 27 := by rw [hw2, hBq]; exact rowC_new _ _ _
            have hH2 := HoldsC.chg c12 (fun _ _ h => h) _ _ _ _ _ hH1
            have c02 := cw.trans c12 (fun _ _ h => h)
            have hBr : wr.heap.size ≤ B := by rw [hBq]; exact cw.size
            rw [← hw2, ← hBq]
            clear hw2 hBq c12
            rotate_left
            have hIs := ItemsC.drop N _ _ hV
            have hlen2 : (ops.drop N).length = ops.length - N := List.length_drop
            have hg0 : w.heap.size < wr.heap.size := rowC_lt HRow.out
            have hgw : wr.heap.size ≤ g := by rcases hat with e | e; cases e; simp at e; omega
            have hKf : HoldsK wr (fun k => k ≠ w.heap.size ∧ k ≠ wr.heap.size) p.keys (.slice xk p.keys.length ck) := by
              rcases hK with h | ⟨ad', c', e, hc⟩
              · exact .inl h
              · exact .inr ⟨ad', c', e, fun i hi => ⟨⟨Nat.ne_of_lt (hc i hi).1, by have := (hc i hi).1; omega⟩, cell_chg (s := fun _ => False) (Chg.of_below HBel.out) (hc i hi).2 id⟩⟩
            have hgr : g ≠ wr.heap.size := by rcases hat with e | e; cases e; simp at e; omega
            have hH1 := mid_hold (base := wr.heap.size) (F1 := fun k => k ≠ w.heap.size ∧ k ≠ wr.heap.size) (kind := p.kind) (text := p.text) cw hown1 hlen2 hIs (fun _ h hk => ⟨h, Nat.ne_of_lt hk⟩) (by show g ≠ w.heap.size ∧ g ≠ wr.heap.size; omega) hKf (by omega)
            rw [← HKn.out] at hH1
            obtain ⟨B, hBq⟩ : ∃ B, B = wr.heap.size := ⟨_, rfl⟩
            obtain ⟨w2, hw2⟩ : ∃ w2, w2 = (((w1.setCell ⟨wr.heap.size, 0, none⟩ (.int .i64 p.kind)).setCell ⟨wr.heap.size, 1, none⟩ (.string (str p.text))).setCell ⟨wr.heap.size, 2, none⟩ (.slice (some ⟨g, 0, none⟩) (ops.length - N) cap)).setCell ⟨wr.heap.size, 3, none⟩ (.slice xk m ck) := ⟨_, rfl⟩
            have c12 : Chg (· = wr.heap.size) w1 w2 := by rw [hw2]; exact ((((Chg.refl _ w1).cellq 0 _).cellq 1 _).cellq 2 _).cellq 3 _
            have hbox : rowC w2 B #[.int .i64 p.kind, .string (str p.text), .slice (some ⟨g, 0, none⟩) (ops.length - N) cap, .slice xk m ck] 27 := by rw [hw2, hBq]; exact rowC_set (rowC_set (rowC_set (rowC_set Z4 0 _) 1 _) 2 _) 3 _
            have hH2 := HoldsC.mono (G := fun k => k ≠ w.heap.size) (fun _ h _ => h.1) _ _ _ _ _ (HoldsC.chg c12 (fun _ hk h => hk.2 h) _ _ _ _ _ hH1)
            have c02 : Chg (fun _ => False) wr w2 := by
              rw [hw2]
              exact (((cw.setCell _ _ (.inr (Nat.le_refl _))).setCell _ _ (.inr (Nat.le_refl _))).setCell _ _ (.inr (Nat.le_refl _))).setCell _ _ (.inr (Nat.le_refl _))
            have hBr : wr.heap.size ≤ B := by omega
            rw [← hw2, ← hBq]
            clear hw2 hBq c12 Z4 z0 z1 z2 z3 y0 y1 y2 y3 hgr
            all_goals
              clear hH1 hown1 hgrow hat hltg cw q0 q1 q2 q3 hKf hIs hlen2 hgw
              have b0 : w2.cell? ⟨B, 0, none⟩ = some (.int .i64 p.kind) := rowC_cell hbox 0
              have b1 : w2.cell? ⟨B, 1, none⟩ = some (.string (str p.text)) := rowC_cell hbox 1
              have b2 : w2.cell? ⟨B, 2, none⟩ = some (.slice (some ⟨g, 0, none⟩) (ops.length - N) cap) := rowC_cell hbox 2
              have b3 : w2.cell? ⟨B, 3, none⟩ = some (.slice xk m ck) := rowC_cell hbox 3
              have hVt := ItemsC.take N _ _ (ItemsC.chg c02 (fun _ _ h => h) _ _ hV)
              have hlt2 : (xs.take (N * 4)).length = N * 4 := by rw [List.length_take]; omega
              have hnews2 : ∀ i u, (xs.take (N * 4))[i]? = some u → w2.cell? (ax.add i) = some u := fun i u hu => by
                rw [List.getElem?_take] at hu
                split at hu
                · exact cell_chg c02 (hax i u hu) id
                · cases hu
              have h1y : ∀ u ∈ xs.take (N * 4), u.oneCell' = true := fun u hu => ItemsC.one _ _ hV u (List.mem_of_mem_take hu)
              have h1z : ∀ u ∈ [Value.int .i64 p.kind, .string (str p.text), .slice (some ⟨g, 0, none⟩) (ops.length - N) cap, .slice xk m ck], u.oneCell' = true := by simp [Value.oneCell']
              have hB2 := rowC_lt hbox
              have HC02 := Lib.hid c02
              have HH2 := Lib.hid hH2
              have HVt := Lib.hid hVt
              have HBX := Lib.hid hbox
              clear c02 hH2 hVt hbox hlx hnews h1x hax hV
              go_upto_region 16 with (fail)
              by_cases hN0 : N = 0
              · subst hN0
                go_region_held3 (fun w' => w'.cell? ⟨B, 0, none⟩ = some (.int .i64 p.kind) ∧ w'.cell? ⟨B, 1, none⟩ = some (.string (str p.text)) ∧ w'.cell? ⟨B, 2, none⟩ = some (.slice (some ⟨g, 0, none⟩) (ops.length - 0) cap) ∧ w'.cell? ⟨B, 3, none⟩ = some (.slice xk m ck))
                    (first
                      | with_reducible exact ⟨b0, b1, b2, b3⟩
                      | with_reducible exact ⟨cell_chg (s := fun _ => False) ((Chg.refl _ _).alloc _) b0 id, cell_chg (s := fun _ => False) ((Chg.refl _ _).alloc _) b1 id, cell_chg (s := fun _ => False) ((Chg.refl _ _).alloc _) b2 id, cell_chg (s := fun _ => False) ((Chg.refl _ _).alloc _) b3 id⟩
                      | go_keep)
                    (first
                      | (refine step_append_zero (by rfl) _ _ (by rfl) (by rfl) ax c (by rfl) ?_; intro w3 hgrow3; have c23 : Chg (fun _ => False) w2 w3 := Chg.grown (by first | exact Chg.refl _ _ | exact (Chg.refl _ _).drew | exact ((Chg.refl _ _).alloc _) | exact ((Chg.refl _ _).alloc _).drew | exact ((Chg.refl _ _).drew).alloc _) hgrow3 (fun k hk => by cases hk); have b0 := cell_chg c23 b0 id; have b1 := cell_chg c23 b1 id; have b2 := cell_chg c23 b2 id; have b3 := cell_chg c23 b3 id; try (have Z4 : rowC w3 w2.heap.size #[.int .i64 p.kind, .string (str p.text), .slice (some ⟨g, 0, none⟩) (ops.length - 0) cap, .slice xk m ck] 27 := Chg.rowC (Chg.grown (Chg.refl (fun _ => False) _) hgrow3 (fun k hk => by cases hk)) (by first | exact rowC_new _ _ _ | exact rowC_drew (rowC_new _ _ _) | exact rowC_new w2.drew _ _) id))
                      | (refine step_append_lies _ (by rfl) _ _ _ (by rfl) w2.heap.size 27 i0 _ 4 72 Tryz.underlying24 hi0 hz0 hz1 hz2 rfl (by decide) (.slice none 0 0) 0 [] (by rfl) (World.ownsRow_nil _ _ _ _) _ 1 1 [.int .i64 p.kind, .string (str p.text), .slice (some ⟨g, 0, none⟩) (ops.length - 0) cap, .slice xk m ck] (by rfl) (by rfl) (by first | exact World.news_of_block Z4 | exact World.news_of_block (heap_alloc_new _ _) | (refine World.news_of_block (cs := #[.int .i64 p.kind, .string (str p.text), .slice (some ⟨g, 0, none⟩) (ops.length - 0) cap, .slice xk m ck]) (t := 27) (fr := (0, 0)) ?_; exact heap_alloc_new _ _)) h1z (by omega) (by unfold maxLen; omega) (by omega) (by first | exact c23.size | (simp; have := c23.size; omega)) _ rfl ?_; intro g5 cap5 w5 hown5 hgrow5 hat5 hltg5; simp only [Nat.zero_add, List.nil_append] at hown5; have c25 : Chg (fun _ => False) w2 w5 := Chg.grown (by first | exact c23 | exact c23.drew | exact c23.alloc _ | exact (c23.drew).alloc _ | exact (c23.alloc _).drew) hgrow5 (fun k hk => by cases hk); have X5 := c25.rowC HBX.out id; have b0 : w5.cell? ⟨B, 0, none⟩ = some (.int .i64 p.kind) := rowC_cell X5 0; have b1 : w5.cell? ⟨B, 1, none⟩ = some (.string (str p.text)) := rowC_cell X5 1; have b2 : w5.cell? ⟨B, 2, none⟩ = some (.slice (some ⟨g, 0, none⟩) (ops.length - 0) cap) := rowC_cell X5 2; have b3 : w5.cell? ⟨B, 3, none⟩ = some (.slice xk m ck) := rowC_cell X5 3))
                all_goals
                  have hbs := buo_step (N := 0) (xs := []) (p := p) HBel.out HRow.out (HC02.out.trans c25 (fun _ _ h => h)) hown5 HNN.out (ItemsC.chg c25 (fun _ _ h => h) _ _ HVt.out) (HoldsC.chg c25 (fun _ _ h => h) _ _ _ _ _ HH2.out) hok (by omega) (by omega) (by omega) (fun y hy => by
                    obtain ⟨i, hi, rfl⟩ := List.getElem_of_mem hy
                    have := hall.out i (by have := HKn.out; omega)
                    rwa [List.getD_eq_getElem?_getD, List.getElem?_eq_getElem hi] at this) hlj (by have := H80.out; omega) hNl
                  have HBS := Lib.hid hbs
                  have HJ : Hid (j + 1 ≤ n ∧ ((j : Int) + 1 = ((j + 1 : Nat) : Int)) ∧ n - (intOf (Value.int .i64 ((j : Int) + 1))).toNat < n - (intOf (Value.int .i64 (j : Int))).toNat) := Lib.hid (by simp [intOf]; omega)
                  clear hbs hown5 hgrow5 hat5 hltg5 b0 b1 b2 b3
                  go_wp2
                  go_roundw
                all_goals first
                  | exact ⟨j + 1, _, HJ.out.1, by rw [HJ.out.2.1], HBS.out⟩
                  | exact HJ.out.2.2
              · have hNp : 0 < N := by omega
                go_region_held3 (fun w' => w'.cell? ⟨B, 0, none⟩ = some (.int .i64 p.kind) ∧ w'.cell? ⟨B, 1, none⟩ = some (.string (str p.text)) ∧ w'.cell? ⟨B, 2, none⟩ = some (.slice (some ⟨g, 0, none⟩) (ops.length - N) cap) ∧ w'.cell? ⟨B, 3, none⟩ = some (.slice xk m ck))
                  (first
                    | with_reducible exact ⟨b0, b1, b2, b3⟩
                    | with_reducible exact ⟨cell_chg (s := fun _ => False) ((Chg.refl _ _).alloc _) b0 id, cell_chg (s := fun _ => False) ((Chg.refl _ _).alloc _) b1 id, cell_chg (s := fun _ => False) ((Chg.refl _ _).alloc _) b2 id, cell_chg (s := fun _ => False) ((Chg.refl _ _).alloc _) b3 id⟩
                    | go_keep)
                  (first
                    | (refine step_append_lies _ (by rfl) _ _ _ (by rfl) w2.heap.size 27 i0 _ 4 72 Tryz.underlying24 hi0 hz0 hz1 hz2 rfl (by decide) _ 0 [] (by rfl) (World.ownsRow_nil _ _ _ _) ax N c (xs.take (N * 4)) (by rfl) hlt2 (fun i u hu => cell_chg (s := fun _ => False) (by first | exact Chg.refl _ _ | exact (Chg.refl _ _).drew | exact ((Chg.refl _ _).alloc _) | exact ((Chg.refl _ _).alloc _).drew | exact ((Chg.refl _ _).drew).alloc _) (hnews2 i u hu) id) h1y (by omega) (by unfold maxLen; omega) (by omega) (by simp) _ rfl ?_; intro g3 cap3 w3 hown3 hgrow3 hat3 hltg3; try rw [Nat.zero_add]; simp only [Nat.zero_add, List.nil_append] at hown3; have c23 : Chg (fun _ => False) w2 w3 := Chg.grown (by first | exact Chg.refl _ _ | exact (Chg.refl _ _).drew | exact ((Chg.refl _ _).alloc _) | exact ((Chg.refl _ _).alloc _).drew | exact ((Chg.refl _ _).drew).alloc _) hgrow3 (fun k hk => by cases hk); have b0 := cell_chg c23 b0 id; have b1 := cell_chg c23 b1 id; have b2 := cell_chg c23 b2 id; have b3 := cell_chg c23 b3 id; try (have Z4 : rowC w3 w2.heap.size #[.int .i64 p.kind, .string (str p.text), .slice (some ⟨g, 0, none⟩) (ops.length - N) cap, .slice xk m ck] 27 := Chg.rowC (Chg.grown (Chg.refl (fun _ => False) _) hgrow3 (fun k hk => by cases hk)) (by first | exact rowC_new _ _ _ | exact rowC_drew (rowC_new _ _ _) | exact rowC_new w2.drew _ _) id))
                    | (refine step_append_lies _ (by rfl) _ _ _ (by rfl) w2.heap.size 27 i0 _ 4 72 Tryz.underlying24 hi0 hz0 hz1 hz2 rfl (by decide) (.slice (some ⟨g3, 0, none⟩) N cap3) N (xs.take (N * 4)) (by first | rfl | (show Value.slice (some ⟨g3, 0, none⟩) (0 + N) cap3 = _; rw [Nat.zero_add])) (by first | exact hown3 | exact hown3.alloc _ | exact hown3.drew | exact (hown3.drew).alloc _ | exact (hown3.alloc _).drew) _ 1 1 [.int .i64 p.kind, .string (str p.text), .slice (some ⟨g, 0, none⟩) (ops.length - N) cap, .slice xk m ck] (by rfl) (by rfl) (by first | exact World.news_of_block Z4 | exact World.news_of_block (heap_alloc_new _ _) | (refine World.news_of_block (cs := #[.int .i64 p.kind, .string (str p.text), .slice (some ⟨g, 0, none⟩) (ops.length - N) cap, .slice xk m ck]) (t := 27) (fr := (0, 0)) ?_; exact heap_alloc_new _ _)) h1z (by omega) (by unfold maxLen; omega) (by omega) (by first | exact c23.size | (simp; have := c23.size; omega)) _ rfl ?_; intro g5 cap5 w5 hown5 hgrow5 hat5 hltg5; have c25 : Chg (fun _ => False) w2 w5 := Chg.grown (by first | exact c23 | exact c23.drew | exact c23.alloc _ | exact (c23.drew).alloc _ | exact (c23.alloc _).drew) hgrow5 (fun k hk => .inr (hown3.lt k hk).1); have X5 := c25.rowC HBX.out id; have b0 : w5.cell? ⟨B, 0, none⟩ = some (.int .i64 p.kind) := rowC_cell X5 0; have b1 : w5.cell? ⟨B, 1, none⟩ = some (.string (str p.text)) := rowC_cell X5 1; have b2 : w5.cell? ⟨B, 2, none⟩ = some (.slice (some ⟨g, 0, none⟩) (ops.length - N) cap) := rowC_cell X5 2; have b3 : w5.cell? ⟨B, 3, none⟩ = some (.slice xk m ck) := rowC_cell X5 3))
                all_goals
                  have hbs := buo_step (p := p) HBel.out HRow.out (HC02.out.trans c25 (fun _ _ h => h)) hown5 HNN.out (ItemsC.chg c25 (fun _ _ h => h) _ _ HVt.out) (HoldsC.chg c25 (fun _ _ h => h) _ _ _ _ _ HH2.out) hok (by omega) (by omega) (by omega) (fun y hy => by
                    obtain ⟨i, hi, rfl⟩ := List.getElem_of_mem hy
                    have := hall.out i (by have := HKn.out; omega)
                    rwa [List.getD_eq_getElem?_getD, List.getElem?_eq_getElem hi] at this) hlj (by have := H80.out; omega) hNl
                  have HBS := Lib.hid hbs
                  have HJ : Hid (j + 1 ≤ n ∧ ((j : Int) + 1 = ((j + 1 : Nat) : Int)) ∧ n - (intOf (Value.int .i64 ((j : Int) + 1))).toNat < n - (intOf (Value.int .i64 (j : Int))).toNat) := Lib.hid (by simp [intOf]; omega)
                  clear hbs hown5 hgrow5 hat5 hltg5 b0 b1 b2 b3
                  go_wp2
                  go_roundw
                all_goals first
                  | exact ⟨j + 1, _, HJ.out.1, by rw [HJ.out.2.1], HBS.out⟩
                  | exact HJ.out.2.2
          · have hNe : ops.length = N := by omega
            have HDR : Hid (ops.drop N = []) := Lib.hid (List.drop_eq_nil_of_le (by omega))
            by_cases hop : ops = []
            · have hv0 := hnil hop
              rw [Value.slice.injEq] at hv0
              obtain ⟨rfl, -, rfl⟩ := hv0
              have hl0 : ops.length = 0 := by rw [hop]; rfl
              obtain rfl : N = 0 := by omega
              rw [hl0]
              obtain ⟨i0, hi0, hz0, hz1, hz2⟩ := info_parts info_V3
              have hqa : ¬ (ad.add (j * 4)).block = wr.heap.size := by
                have := World.block_lt_of_cell? wr _ q0
                omega
              have wk : IntKind.i64.wrap p.kind = p.kind := IntWalk.i64_in _ (by omega)
              have hlx0 := ItemsC.len _ _ hV
              go_region_held3 (fun w' => w'.cell? (ad.add (j * 4)) = some (.int .i8 p.kind) ∧ w'.cell? ⟨(ad.add (j * 4)).block, (ad.add (j * 4)).off + 1, none⟩ = some (.string (str p.text)) ∧ w'.cell? ⟨(ad.add (j * 4)).block, (ad.add (j * 4)).off + 3, none⟩ = some (.slice xk m ck))
                (first
                  | with_reducible exact ⟨q0, q1, q3⟩
                  | with_reducible exact ⟨cell_chg (s := (· = wr.heap.size)) (((((Chg.refl _ w1).cellq 0 _).cellq 1 _).cellq 2 _).cellq 3 _) q0 hqa, cell_chg (s := (· = wr.heap.size)) (((((Chg.refl _ w1).cellq 0 _).cellq 1 _).cellq 2 _).cellq 3 _) q1 hqa, cell_chg (s := (· = wr.heap.size)) (((((Chg.refl _ w1).cellq 0 _).cellq 1 _).cellq 2 _).cellq 3 _) q3 hqa⟩
                  | with_reducible exact ⟨cell_chg (s := fun _ => False) ((Chg.refl _ _).alloc _) q0 id, cell_chg (s := fun _ => False) ((Chg.refl _ _).alloc _) q1 id, cell_chg (s := fun _ => False) ((Chg.refl _ _).alloc _) q3 id⟩
                  | go_keep)
                (first
                  | (refine step_append_none (by rfl) _ _ (by rfl) (by rfl) (by rfl) ?_; intro w1 hgrow; have cw : Chg (fun _ => False) wr w1 := Chg.grown (by first | exact Chg.refl _ _ | exact (Chg.refl _ _).drew | exact ((Chg.refl _ _).alloc _) | exact ((Chg.refl _ _).alloc _).drew | exact ((Chg.refl _ _).drew).alloc _) hgrow (fun k hk => by cases hk); have q0 := cell_chg cw q0 id; have q1 := cell_chg cw q1 id; have q3 := cell_chg cw q3 id; try (have Z4 : rowC w1 wr.heap.size #[.int .i64 0, .string ⟨#[]⟩, .slice none 0 0, .slice none 0 0] 27 := Chg.rowC (Chg.grown (Chg.refl (fun _ => False) _) hgrow (fun k hk => by cases hk)) (by first | exact rowC_new _ _ _ | exact rowC_drew (rowC_new _ _ _) | exact rowC_new wr.drew _ _) id; have z0 : w1.cell? ⟨wr.heap.size, 0, none⟩ = some (.int .i64 0) := rowC_cell Z4 0; have z1 : w1.cell? ⟨wr.heap.size, 1, none⟩ = some (.string ⟨#[]⟩) := rowC_cell Z4 1; have z2 : w1.cell? ⟨wr.heap.size, 2, none⟩ = some (.slice none 0 0) := rowC_cell Z4 2; have z3 : w1.cell? ⟨wr.heap.size, 3, none⟩ = some (.slice none 0 0) := rowC_cell Z4 3; have y0 := rowC_free Z4 0; have y1 := rowC_free Z4 1; have y2 := rowC_free Z4 2; have y3 := rowC_free Z4 3)))
              have hg0 : w.heap.size < wr.heap.size := rowC_lt HRow.out
              have hKf : HoldsK wr (fun k => k ≠ w.heap.size) p.keys (.slice xk p.keys.length ck) := by
                rcases hK with h | ⟨ad', c', e, hc⟩
                · exact .inl h
                · exact .inr ⟨ad', c', e, fun i hi => ⟨Nat.ne_of_lt (hc i hi).1, cell_chg (s := fun _ => False) (Chg.of_below HBel.out) (hc i hi).2 id⟩⟩
              have hH1 := mid_hold0 (F1 := fun k => k ≠ w.heap.size) (kind := p.kind) (text := p.text) cw hKf (by omega)
              rw [← HKn.out] at hH1
              obtain ⟨B, hBq⟩ : ∃ B, B = w1.heap.size := ⟨_, rfl⟩
              obtain ⟨w2, hw2⟩ : ∃ w2, w2 = w1.alloc (.cells #[.int .i64 p.kind, .string (str p.text), .slice none 0 0, .slice xk m ck] 27) := ⟨_, rfl⟩
              have c12 : Chg (fun _ => False) w1 w2 := by rw [hw2]; exact (Chg.refl _ _).alloc _
              have hbox : rowC w2 B #[.int .i64 p.kind, .string (str p.text), .slice none 0 0, .slice xk m ck] 27 := by rw [hw2, hBq]; exact rowC_new _ _ _
              have hH2 := HoldsC.chg c12 (fun _ _ h => h) _ _ _ _ _ hH1
              have c02 := cw.trans c12 (fun _ _ h => h)
              have hBr : wr.heap.size ≤ B := by rw [hBq]; exact cw.size
              rw [← hw2, ← hBq]
              clear hw2 hBq c12
              rotate_left
              have hg0 : w.heap.size < wr.heap.size := rowC_lt HRow.out
              have hKf : HoldsK wr (fun k => k ≠ w.heap.size ∧ k ≠ wr.heap.size) p.keys (.slice xk p.keys.length ck) := by
                rcases hK with h | ⟨ad', c', e, hc⟩
                · exact .inl h
                · exact .inr ⟨ad', c', e, fun i hi => ⟨⟨Nat.ne_of_lt (hc i hi).1, by have := (hc i hi).1; omega⟩, cell_chg (s := fun _ => False) (Chg.of_below HBel.out) (hc i hi).2 id⟩⟩
              have hH1 := mid_hold0 (F1 := fun k => k ≠ w.heap.size ∧ k ≠ wr.heap.size) (kind := p.kind) (text := p.text) cw hKf (by omega)
              rw [← HKn.out] at hH1
              obtain ⟨B, hBq⟩ : ∃ B, B = wr.heap.size := ⟨_, rfl⟩
              obtain ⟨w2, hw2⟩ : ∃ w2, w2 = (((w1.setCell ⟨wr.heap.size, 0, none⟩ (.int .i64 p.kind)).setCell ⟨wr.heap.size, 1, none⟩ (.string (str p.text))).setCell ⟨wr.heap.size, 2, none⟩ (.slice none 0 0)).setCell ⟨wr.heap.size, 3, none⟩ (.slice xk m ck) := ⟨_, rfl⟩
              have c12 : Chg (· = wr.heap.size) w1 w2 := by rw [hw2]; exact ((((Chg.refl _ w1).cellq 0 _).cellq 1 _).cellq 2 _).cellq 3 _
              have hbox : rowC w2 B #[.int .i64 p.kind, .string (str p.text), .slice none 0 0, .slice xk m ck] 27 := by rw [hw2, hBq]; exact rowC_set (rowC_set (rowC_set (rowC_set Z4 0 _) 1 _) 2 _) 3 _
              have hH2 := HoldsC.mono (G := fun k => k ≠ w.heap.size) (fun _ h _ => h.1) _ _ _ _ _ (HoldsC.chg c12 (fun _ hk h => hk.2 h) _ _ _ _ _ hH1)
              have c02 : Chg (fun _ => False) wr w2 := by
                rw [hw2]
                exact (((cw.setCell _ _ (.inr (Nat.le_refl _))).setCell _ _ (.inr (Nat.le_refl _))).setCell _ _ (.inr (Nat.le_refl _))).setCell _ _ (.inr (Nat.le_refl _))
              have hBr : wr.heap.size ≤ B := by omega
              rw [← hw2, ← hBq]
              clear hw2 hBq c12 Z4 z0 z1 z2 z3 y0 y1 y2 y3
              all_goals
                clear hH1 hgrow cw q0 q1 q2 q3 hKf
                have b0 : w2.cell? ⟨B, 0, none⟩ = some (.int .i64 p.kind) := rowC_cell hbox 0
                have b1 : w2.cell? ⟨B, 1, none⟩ = some (.string (str p.text)) := rowC_cell hbox 1
                have b2 : w2.cell? ⟨B, 2, none⟩ = some (.slice none 0 0) := rowC_cell hbox 2
                have b3 : w2.cell? ⟨B, 3, none⟩ = some (.slice xk m ck) := rowC_cell hbox 3
                have hVt := ItemsC.take 0 _ _ (ItemsC.chg c02 (fun _ _ h => h) _ _ hV)
                have h1z : ∀ u ∈ [Value.int .i64 p.kind, .string (str p.text), .slice none 0 0, .slice xk m ck], u.oneCell' = true := by simp [Value.oneCell']
                have hB2 := rowC_lt hbox
                have HC02 := Lib.hid c02
                have HH2 := Lib.hid hH2
                have HVt := Lib.hid hVt
                have HBX := Lib.hid hbox
                clear c02 hH2 hVt hbox hV
                go_upto_region 16 with (fail)
                go_region_held3 (fun w' => w'.cell? ⟨B, 0, none⟩ = some (.int .i64 p.kind) ∧ w'.cell? ⟨B, 1, none⟩ = some (.string (str p.text)) ∧ w'.cell? ⟨B, 2, none⟩ = some (.slice none 0 0) ∧ w'.cell? ⟨B, 3, none⟩ = some (.slice xk m ck))
                    (first
                      | with_reducible exact ⟨b0, b1, b2, b3⟩
                      | with_reducible exact ⟨cell_chg (s := fun _ => False) ((Chg.refl _ _).alloc _) b0 id, cell_chg (s := fun _ => False) ((Chg.refl _ _).alloc _) b1 id, cell_chg (s := fun _ => False) ((Chg.refl _ _).alloc _) b2 id, cell_chg (s := fun _ => False) ((Chg.refl _ _).alloc _) b3 id⟩
                      | go_keep)
                    (first
                      | (refine step_append_none (by rfl) _ _ (by rfl) (by rfl) (by rfl) ?_; intro w3 hgrow3; have c23 : Chg (fun _ => False) w2 w3 := Chg.grown (by first | exact Chg.refl _ _ | exact (Chg.refl _ _).drew | exact ((Chg.refl _ _).alloc _) | exact ((Chg.refl _ _).alloc _).drew | exact ((Chg.refl _ _).drew).alloc _) hgrow3 (fun k hk => by cases hk); have b0 := cell_chg c23 b0 id; have b1 := cell_chg c23 b1 id; have b2 := cell_chg c23 b2 id; have b3 := cell_chg c23 b3 id; try (have Z4 : rowC w3 w2.heap.size #[.int .i64 p.kind, .string (str p.text), .slice none 0 0, .slice xk m ck] 27 := Chg.rowC (Chg.grown (Chg.refl (fun _ => False) _) hgrow3 (fun k hk => by cases hk)) (by first | exact rowC_new _ _ _ | exact rowC_drew (rowC_new _ _ _) | exact rowC_new w2.drew _ _) id))
                      | (refine step_append_lies _ (by rfl) _ _ _ (by rfl) w2.heap.size 27 i0 _ 4 72 Tryz.underlying24 hi0 hz0 hz1 hz2 rfl (by decide) (.slice none 0 0) 0 [] (by rfl) (World.ownsRow_nil _ _ _ _) _ 1 1 [.int .i64 p.kind, .string (str p.text), .slice none 0 0, .slice xk m ck] (by rfl) (by rfl) (by first | exact World.news_of_block Z4 | exact World.news_of_block (heap_alloc_new _ _) | (refine World.news_of_block (cs := #[.int .i64 p.kind, .string (str p.text), .slice none 0 0, .slice xk m ck]) (t := 27) (fr := (0, 0)) ?_; exact heap_alloc_new _ _)) h1z (by omega) (by unfold maxLen; omega) (by omega) (by first | exact c23.size | (simp; have := c23.size; omega)) _ rfl ?_; intro g5 cap5 w5 hown5 hgrow5 hat5 hltg5; simp only [Nat.zero_add, List.nil_append] at hown5; have c25 : Chg (fun _ => False) w2 w5 := Chg.grown (by first | exact c23 | exact c23.drew | exact c23.alloc _ | exact (c23.drew).alloc _ | exact (c23.alloc _).drew) hgrow5 (fun k hk => by cases hk); have X5 := c25.rowC HBX.out id; have b0 : w5.cell? ⟨B, 0, none⟩ = some (.int .i64 p.kind) := rowC_cell X5 0; have b1 : w5.cell? ⟨B, 1, none⟩ = some (.string (str p.text)) := rowC_cell X5 1; have b2 : w5.cell? ⟨B, 2, none⟩ = some (.slice none 0 0) := rowC_cell X5 2; have b3 : w5.cell? ⟨B, 3, none⟩ = some (.slice xk m ck) := rowC_cell X5 3))
                all_goals
                  have hbs := buo_step (N := 0) (xs := []) (p := p) HBel.out HRow.out (HC02.out.trans c25 (fun _ _ h => h)) hown5 HNN.out (ItemsC.chg c25 (fun _ _ h => h) _ _ HVt.out) (by rw [HDR.out]; exact HoldsC.chg c25 (fun _ _ h => h) _ _ _ _ _ HH2.out) hok (by omega) (by omega) (by omega) (fun y hy => by
                    obtain ⟨i, hi, rfl⟩ := List.getElem_of_mem hy
                    have := hall.out i (by have := HKn.out; omega)
                    rwa [List.getD_eq_getElem?_getD, List.getElem?_eq_getElem hi] at this) hlj (by have := H80.out; omega) hNl
                  have HBS := Lib.hid hbs
                  have HJ : Hid (j + 1 ≤ n ∧ ((j : Int) + 1 = ((j + 1 : Nat) : Int)) ∧ n - (intOf (Value.int .i64 ((j : Int) + 1))).toNat < n - (intOf (Value.int .i64 (j : Int))).toNat) := Lib.hid (by simp [intOf]; omega)
                  clear hbs hown5 hgrow5 hat5 hltg5 b0 b1 b2 b3
                  go_wp2
                  go_roundw
                all_goals first
                  | exact ⟨j + 1, _, HJ.out.1, by rw [HJ.out.2.1], HBS.out⟩
                  | exact HJ.out.2.2
            obtain ⟨ax, rfl, hax⟩ := hVc hop
            have hNp : 0 < N := by have := List.length_pos_iff.2 hop; omega
            have hcd : c = N ∨ ¬ c = N := Decidable.em _
            rw [hNe]
            rcases hcd with hcN | hcN
            · obtain rfl : N = c := hcN.symm
              obtain ⟨i0, hi0, hz0, hz1, hz2⟩ := info_parts info_V3
              have hqa : ¬ (ad.add (j * 4)).block = wr.heap.size := by
                have := World.block_lt_of_cell? wr _ q0
                omega
              have wk : IntKind.i64.wrap p.kind = p.kind := IntWalk.i64_in _ (by omega)
              have hlx0 := ItemsC.len _ _ hV
              go_region_held3 (fun w' => w'.cell? (ad.add (j * 4)) = some (.int .i8 p.kind) ∧ w'.cell? ⟨(ad.add (j * 4)).block, (ad.add (j * 4)).off + 1, none⟩ = some (.string (str p.text)) ∧ w'.cell? ⟨(ad.add (j * 4)).block, (ad.add (j * 4)).off + 3, none⟩ = some (.slice xk m ck))
                (first
                  | with_reducible exact ⟨q0, q1, q3⟩
                  | with_reducible exact ⟨cell_chg (s := (· = wr.heap.size)) (((((Chg.refl _ w1).cellq 0 _).cellq 1 _).cellq 2 _).cellq 3 _) q0 hqa, cell_chg (s := (· = wr.heap.size)) (((((Chg.refl _ w1).cellq 0 _).cellq 1 _).cellq 2 _).cellq 3 _) q1 hqa, cell_chg (s := (· = wr.heap.size)) (((((Chg.refl _ w1).cellq 0 _).cellq 1 _).cellq 2 _).cellq 3 _) q3 hqa⟩
                  | with_reducible exact ⟨cell_chg (s := fun _ => False) ((Chg.refl _ _).alloc _) q0 id, cell_chg (s := fun _ => False) ((Chg.refl _ _).alloc _) q1 id, cell_chg (s := fun _ => False) ((Chg.refl _ _).alloc _) q3 id⟩
                  | go_keep)
                (first
                  | (refine step_append_zero (by rfl) _ _ (by rfl) (by rfl) _ _ (by rfl) ?_; intro w1 hgrow; have cw : Chg (fun _ => False) wr w1 := Chg.grown (by first | exact Chg.refl _ _ | exact (Chg.refl _ _).drew | exact ((Chg.refl _ _).alloc _) | exact ((Chg.refl _ _).alloc _).drew | exact ((Chg.refl _ _).drew).alloc _) hgrow (fun k hk => by cases hk); have q0 := cell_chg cw q0 id; have q1 := cell_chg cw q1 id; have q3 := cell_chg cw q3 id; try (have Z4 : rowC w1 wr.heap.size #[.int .i64 0, .string ⟨#[]⟩, .slice none 0 0, .slice none 0 0] 27 := Chg.rowC (Chg.grown (Chg.refl (fun _ => False) _) hgrow (fun k hk => by cases hk)) (by first | exact rowC_new _ _ _ | exact rowC_drew (rowC_new _ _ _) | exact rowC_new wr.drew _ _) id; have z0 : w1.cell? ⟨wr.heap.size, 0, none⟩ = some (.int .i64 0) := rowC_cell Z4 0; have z1 : w1.cell? ⟨wr.heap.size, 1, none⟩ = some (.string ⟨#[]⟩) := rowC_cell Z4 1; have z2 : w1.cell? ⟨wr.heap.size, 2, none⟩ = some (.slice none 0 0) := rowC_cell Z4 2; have z3 : w1.cell? ⟨wr.heap.size, 3, none⟩ = some (.slice none 0 0) := rowC_cell Z4 3; have y0 := rowC_free Z4 0; have y1 := rowC_free Z4 1; have y2 := rowC_free Z4 2; have y3 := rowC_free Z4 3)))
              have hg0 : w.heap.size < wr.heap.size := rowC_lt HRow.out
              have hKf : HoldsK wr (fun k => k ≠ w.heap.size) p.keys (.slice xk p.keys.length ck) := by
                rcases hK with h | ⟨ad', c', e, hc⟩
                · exact .inl h
                · exact .inr ⟨ad', c', e, fun i hi => ⟨Nat.ne_of_lt (hc i hi).1, cell_chg (s := fun _ => False) (Chg.of_below HBel.out) (hc i hi).2 id⟩⟩
              have hH1 := mid_hold0 (F1 := fun k => k ≠ w.heap.size) (kind := p.kind) (text := p.text) cw hKf (by omega)
              rw [← HKn.out] at hH1
              obtain ⟨B, hBq⟩ : ∃ B, B = w1.heap.size := ⟨_, rfl⟩
              obtain ⟨w2, hw2⟩ : ∃ w2, w2 = w1.alloc (.cells #[.int .i64 p.kind, .string (str p.text), .slice none 0 0, .slice xk m ck] 27) := ⟨_, rfl⟩
              have c12 : Chg (fun _ => False) w1 w2 := by rw [hw2]; exact (Chg.refl _ _).alloc _
              have hbox : rowC w2 B #[.int .i64 p.kind, .string (str p.text), .slice none 0 0, .slice xk m ck] 27 := by rw [hw2, hBq]; exact rowC_new _ _ _
              have hH2 := HoldsC.chg c12 (fun _ _ h => h) _ _ _ _ _ hH1
              have c02 := cw.trans c12 (fun _ _ h => h)
              have hBr : wr.heap.size ≤ B := by rw [hBq]; exact cw.size
              rw [← hw2, ← hBq]
              clear hw2 hBq c12
              rotate_left
              have hg0 : w.heap.size < wr.heap.size := rowC_lt HRow.out
              have hKf : HoldsK wr (fun k => k ≠ w.heap.size ∧ k ≠ wr.heap.size) p.keys (.slice xk p.keys.length ck) := by
                rcases hK with h | ⟨ad', c', e, hc⟩
                · exact .inl h
                · exact .inr ⟨ad', c', e, fun i hi => ⟨⟨Nat.ne_of_lt (hc i hi).1, by have := (hc i hi).1; omega⟩, cell_chg (s := fun _ => False) (Chg.of_below HBel.out) (hc i hi).2 id⟩⟩
              have hH1 := mid_hold0 (F1 := fun k => k ≠ w.heap.size ∧ k ≠ wr.heap.size) (kind := p.kind) (text := p.text) cw hKf (by omega)
              rw [← HKn.out] at hH1
              obtain ⟨B, hBq⟩ : ∃ B, B = wr.heap.size := ⟨_, rfl⟩
              obtain ⟨w2, hw2⟩ : ∃ w2, w2 = (((w1.setCell ⟨wr.heap.size, 0, none⟩ (.int .i64 p.kind)).setCell ⟨wr.heap.size, 1, none⟩ (.string (str p.text))).setCell ⟨wr.heap.size, 2, none⟩ (.slice none 0 0)).setCell ⟨wr.heap.size, 3, none⟩ (.slice xk m ck) := ⟨_, rfl⟩
              have c12 : Chg (· = wr.heap.size) w1 w2 := by rw [hw2]; exact ((((Chg.refl _ w1).cellq 0 _).cellq 1 _).cellq 2 _).cellq 3 _
              have hbox : rowC w2 B #[.int .i64 p.kind, .string (str p.text), .slice none 0 0, .slice xk m ck] 27 := by rw [hw2, hBq]; exact rowC_set (rowC_set (rowC_set (rowC_set Z4 0 _) 1 _) 2 _) 3 _
              have hH2 := HoldsC.mono (G := fun k => k ≠ w.heap.size) (fun _ h _ => h.1) _ _ _ _ _ (HoldsC.chg c12 (fun _ hk h => hk.2 h) _ _ _ _ _ hH1)
              have c02 : Chg (fun _ => False) wr w2 := by
                rw [hw2]
                exact (((cw.setCell _ _ (.inr (Nat.le_refl _))).setCell _ _ (.inr (Nat.le_refl _))).setCell _ _ (.inr (Nat.le_refl _))).setCell _ _ (.inr (Nat.le_refl _))
              have hBr : wr.heap.size ≤ B := by omega
              rw [← hw2, ← hBq]
              clear hw2 hBq c12 Z4 z0 z1 z2 z3 y0 y1 y2 y3
              all_goals
                clear hH1 hgrow cw q0 q1 q2 q3 hKf
                have b0 : w2.cell? ⟨B, 0, none⟩ = some (.int .i64 p.kind) := rowC_cell hbox 0
                have b1 : w2.cell? ⟨B, 1, none⟩ = some (.string (str p.text)) := rowC_cell hbox 1
                have b2 : w2.cell? ⟨B, 2, none⟩ = some (.slice none 0 0) := rowC_cell hbox 2
                have b3 : w2.cell? ⟨B, 3, none⟩ = some (.slice xk m ck) := rowC_cell hbox 3
                have hVt := ItemsC.take N _ _ (ItemsC.chg c02 (fun _ _ h => h) _ _ hV)
                have hlt2 : (xs.take (N * 4)).length = N * 4 := by rw [List.length_take]; omega
                have hnews2 : ∀ i u, (xs.take (N * 4))[i]? = some u → w2.cell? (ax.add i) = some u := fun i u hu => by
                  rw [List.getElem?_take] at hu
                  split at hu
                  · exact cell_chg c02 (hax i u hu) id
                  · cases hu
                have h1y : ∀ u ∈ xs.take (N * 4), u.oneCell' = true := fun u hu => ItemsC.one _ _ hV u (List.mem_of_mem_take hu)
                have h1z : ∀ u ∈ [Value.int .i64 p.kind, .string (str p.text), .slice none 0 0, .slice xk m ck], u.oneCell' = true := by simp [Value.oneCell']
                have hB2 := rowC_lt hbox
                have HC02 := Lib.hid c02
                have HH2 := Lib.hid hH2
                have HVt := Lib.hid hVt
                have HBX := Lib.hid hbox
                clear c02 hH2 hVt hbox hax hV
                go_upto_region 16 with (fail)
                · skip
                  go_region_held3 (fun w' => w'.cell? ⟨B, 0, none⟩ = some (.int .i64 p.kind) ∧ w'.cell? ⟨B, 1, none⟩ = some (.string (str p.text)) ∧ w'.cell? ⟨B, 2, none⟩ = some (.slice none 0 0) ∧ w'.cell? ⟨B, 3, none⟩ = some (.slice xk m ck))
                    (first
                      | with_reducible exact ⟨b0, b1, b2, b3⟩
                      | with_reducible exact ⟨cell_chg (s := fun _ => False) ((Chg.refl _ _).alloc _) b0 id, cell_chg (s := fun _ => False) ((Chg.refl _ _).alloc _) b1 id, cell_chg (s := fun _ => False) ((Chg.refl _ _).alloc _) b2 id, cell_chg (s := fun _ => False) ((Chg.refl _ _).alloc _) b3 id⟩
                      | go_keep)
                    (first
                      | (refine step_append_lies _ (by rfl) _ _ _ (by rfl) w2.heap.size 27 i0 _ 4 72 Tryz.underlying24 hi0 hz0 hz1 hz2 rfl (by decide) _ 0 [] (by rfl) (World.ownsRow_nil _ _ _ _) ax N N (xs.take (N * 4)) (by rfl) hlt2 (fun i u hu => cell_chg (s := fun _ => False) (by first | exact Chg.refl _ _ | exact (Chg.refl _ _).drew | exact ((Chg.refl _ _).alloc _) | exact ((Chg.refl _ _).alloc _).drew | exact ((Chg.refl _ _).drew).alloc _) (hnews2 i u hu) id) h1y (by omega) (by unfold maxLen; omega) (by omega) (by simp) _ rfl ?_; intro g3 cap3 w3 hown3 hgrow3 hat3 hltg3; try rw [Nat.zero_add]; simp only [Nat.zero_add, List.nil_append] at hown3; have c23 : Chg (fun _ => False) w2 w3 := Chg.grown (by first | exact Chg.refl _ _ | exact (Chg.refl _ _).drew | exact ((Chg.refl _ _).alloc _) | exact ((Chg.refl _ _).alloc _).drew | exact ((Chg.refl _ _).drew).alloc _) hgrow3 (fun k hk => by cases hk); have b0 := cell_chg c23 b0 id; have b1 := cell_chg c23 b1 id; have b2 := cell_chg c23 b2 id; have b3 := cell_chg c23 b3 id; try (have Z4 : rowC w3 w2.heap.size #[.int .i64 p.kind, .string (str p.text), .slice none 0 0, .slice xk m ck] 27 := Chg.rowC (Chg.grown (Chg.refl (fun _ => False) _) hgrow3 (fun k hk => by cases hk)) (by first | exact rowC_new _ _ _ | exact rowC_drew (rowC_new _ _ _) | exact rowC_new w2.drew _ _) id))
                      | (refine step_append_lies _ (by rfl) _ _ _ (by rfl) w2.heap.size 27 i0 _ 4 72 Tryz.underlying24 hi0 hz0 hz1 hz2 rfl (by decide) (.slice (some ⟨g3, 0, none⟩) N cap3) N (xs.take (N * 4)) (by first | rfl | (show Value.slice (some ⟨g3, 0, none⟩) (0 + N) cap3 = _; rw [Nat.zero_add])) (by first | exact hown3 | exact hown3.alloc _ | exact hown3.drew | exact (hown3.drew).alloc _ | exact (hown3.alloc _).drew) _ 1 1 [.int .i64 p.kind, .string (str p.text), .slice none 0 0, .slice xk m ck] (by rfl) (by rfl) (by first | exact World.news_of_block Z4 | exact World.news_of_block (heap_alloc_new _ _) | (refine World.news_of_block (cs := #[.int .i64 p.kind, .string (str p.text), .slice none 0 0, .slice xk m ck]) (t := 27) (fr := (0, 0)) ?_; exact heap_alloc_new _ _)) h1z (by omega) (by unfold maxLen; omega) (by omega) (by first | exact c23.size | (simp; have := c23.size; omega)) _ rfl ?_; intro g5 cap5 w5 hown5 hgrow5 hat5 hltg5; have c25 : Chg (fun _ => False) w2 w5 := Chg.grown (by first | exact c23 | exact c23.drew | exact c23.alloc _ | exact (c23.drew).alloc _ | exact (c23.alloc _).drew) hgrow5 (fun k hk => .inr (hown3.lt k hk).1); have X5 := c25.rowC HBX.out id; have b0 : w5.cell? ⟨B, 0, none⟩ = some (.int .i64 p.kind) := rowC_cell X5 0; have b1 : w5.cell? ⟨B, 1, none⟩ = some (.string (str p.text)) := rowC_cell X5 1; have b2 : w5.cell? ⟨B, 2, none⟩ = some (.slice none 0 0) := rowC_cell X5 2; have b3 : w5.cell? ⟨B, 3, none⟩ = some (.slice xk m ck) := rowC_cell X5 3))
                  all_goals
                    have hbs := buo_step (p := p) HBel.out HRow.out (HC02.out.trans c25 (fun _ _ h => h)) hown5 HNN.out (ItemsC.chg c25 (fun _ _ h => h) _ _ HVt.out) (by rw [HDR.out]; exact HoldsC.chg c25 (fun _ _ h => h) _ _ _ _ _ HH2.out) hok (by omega) (by omega) (by omega) (fun y hy => by
                      obtain ⟨i, hi, rfl⟩ := List.getElem_of_mem hy
                      have := hall.out i (by have := HKn.out; omega)
                      rwa [List.getD_eq_getElem?_getD, List.getElem?_eq_getElem hi] at this) hlj (by have := H80.out; omega) hNl
                    have HBS := Lib.hid hbs
                    have HJ : Hid (j + 1 ≤ n ∧ ((j : Int) + 1 = ((j + 1 : Nat) : Int)) ∧ n - (intOf (Value.int .i64 ((j : Int) + 1))).toNat < n - (intOf (Value.int .i64 (j : Int))).toNat) := Lib.hid (by simp [intOf]; omega)
                    clear hbs hown5 hgrow5 hat5 hltg5 b0 b1 b2 b3
                    go_wp2
                    go_roundw
                  all_goals first
                    | exact ⟨j + 1, _, HJ.out.1, by rw [HJ.out.2.1], HBS.out⟩
                    | exact HJ.out.2.2
            · skip
              obtain ⟨i0, hi0, hz0, hz1, hz2⟩ := info_parts info_V3
              have hqa : ¬ (ad.add (j * 4)).block = wr.heap.size := by
                have := World.block_lt_of_cell? wr _ q0
                omega
              have wk : IntKind.i64.wrap p.kind = p.kind := IntWalk.i64_in _ (by omega)
              have hlx0 := ItemsC.len _ _ hV
              go_region_held3 (fun w' => w'.cell? (ad.add (j * 4)) = some (.int .i8 p.kind) ∧ w'.cell? ⟨(ad.add (j * 4)).block, (ad.add (j * 4)).off + 1, none⟩ = some (.string (str p.text)) ∧ w'.cell? ⟨(ad.add (j * 4)).block, (ad.add (j * 4)).off + 3, none⟩ = some (.slice xk m ck))
                (first
                  | with_reducible exact ⟨q0, q1, q3⟩
                  | with_reducible exact ⟨cell_chg (s := (· = wr.heap.size)) (((((Chg.refl _ w1).cellq 0 _).cellq 1 _).cellq 2 _).cellq 3 _) q0 hqa, cell_chg (s := (· = wr.heap.size)) (((((Chg.refl _ w1).cellq 0 _).cellq 1 _).cellq 2 _).cellq 3 _) q1 hqa, cell_chg (s := (· = wr.heap.size)) (((((Chg.refl _ w1).cellq 0 _).cellq 1 _).cellq 2 _).cellq 3 _) q3 hqa⟩
                  | with_reducible exact ⟨cell_chg (s := fun _ => False) ((Chg.refl _ _).alloc _) q0 id, cell_chg (s := fun _ => False) ((Chg.refl _ _).alloc _) q1 id, cell_chg (s := fun _ => False) ((Chg.refl _ _).alloc _) q3 id⟩
                  | go_keep)
                (first
                  | (refine step_append_zero (by rfl) _ _ (by rfl) (by rfl) _ _ (by rfl) ?_; intro w1 hgrow; have cw : Chg (fun _ => False) wr w1 := Chg.grown (by first | exact Chg.refl _ _ | exact (Chg.refl _ _).drew | exact ((Chg.refl _ _).alloc _) | exact ((Chg.refl _ _).alloc _).drew | exact ((Chg.refl _ _).drew).alloc _) hgrow (fun k hk => by cases hk); have q0 := cell_chg cw q0 id; have q1 := cell_chg cw q1 id; have q3 := cell_chg cw q3 id; try (have Z4 : rowC w1 wr.heap.size #[.int .i64 0, .string ⟨#[]⟩, .slice none 0 0, .slice none 0 0] 27 := Chg.rowC (Chg.grown (Chg.refl (fun _ => False) _) hgrow (fun k hk => by cases hk)) (by first | exact rowC_new _ _ _ | exact rowC_drew (rowC_new _ _ _) | exact rowC_new wr.drew _ _) id; have z0 : w1.cell? ⟨wr.heap.size, 0, none⟩ = some (.int .i64 0) := rowC_cell Z4 0; have z1 : w1.cell? ⟨wr.heap.size, 1, none⟩ = some (.string ⟨#[]⟩) := rowC_cell Z4 1; have z2 : w1.cell? ⟨wr.heap.size, 2, none⟩ = some (.slice none 0 0) := rowC_cell Z4 2; have z3 : w1.cell? ⟨wr.heap.size, 3, none⟩ = some (.slice none 0 0) := rowC_cell Z4 3; have y0 := rowC_free Z4 0; have y1 := rowC_free Z4 1; have y2 := rowC_free Z4 2; have y3 := rowC_free Z4 3)))
              have hg0 : w.heap.size < wr.heap.size := rowC_lt HRow.out
              have hKf : HoldsK wr (fun k => k ≠ w.heap.size) p.keys (.slice xk p.keys.length ck) := by
                rcases hK with h | ⟨ad', c', e, hc⟩
                · exact .inl h
                · exact .inr ⟨ad', c', e, fun i hi => ⟨Nat.ne_of_lt (hc i hi).1, cell_chg (s := fun _ => False) (Chg.of_below HBel.out) (hc i hi).2 id⟩⟩
              have hH1 := mid_hold0 (F1 := fun k => k ≠ w.heap.size) (kind := p.kind) (text := p.text) cw hKf (by omega)
              rw [← HKn.out] at hH1
              obtain ⟨B, hBq⟩ : ∃ B, B = w1.heap.size := ⟨_, rfl⟩
              obtain ⟨w2, hw2⟩ : ∃ w2, w2 = w1.alloc (.cells #[.int .i64 p.kind, .string (str p.text), .slice none 0 0, .slice xk m ck] 27) := ⟨_, rfl⟩
              have c12 : Chg (fun _ => False) w1 w2 := by rw [hw2]; exact (Chg.refl _ _).alloc _
              have hbox : rowC w2 B #[.int .i64 p.kind, .string (str p.text), .slice none 0 0, .slice xk m ck] 27 := by rw [hw2, hBq]; exact rowC_new _ _ _
              have hH2 := HoldsC.chg c12 (fun _ _ h => h) _ _ _ _ _ hH1
              have c02 := cw.trans c12 (fun _ _ h => h)
              have hBr : wr.heap.size ≤ B := by rw [hBq]; exact cw.size
              rw [← hw2, ← hBq]
              clear hw2 hBq c12
              rotate_left
              have hg0 : w.heap.size < wr.heap.size := rowC_lt HRow.out
              have hKf : HoldsK wr (fun k => k ≠ w.heap.size ∧ k ≠ wr.heap.size) p.keys (.slice xk p.keys.length ck) := by
                rcases hK with h | ⟨ad', c', e, hc⟩
                · exact .inl h
                · exact .inr ⟨ad', c', e, fun i hi => ⟨⟨Nat.ne_of_lt (hc i hi).1, by have := (hc i hi).1; omega⟩, cell_chg (s := fun _ => False) (Chg.of_below HBel.out) (hc i hi).2 id⟩⟩
              have hH1 := mid_hold0 (F1 := fun k => k ≠ w.heap.size ∧ k ≠ wr.heap.size) (kind := p.kind) (text := p.text) cw hKf (by omega)
              rw [← HKn.out] at hH1
              obtain ⟨B, hBq⟩ : ∃ B, B = wr.heap.size := ⟨_, rfl⟩
              obtain ⟨w2, hw2⟩ : ∃ w2, w2 = (((w1.setCell ⟨wr.heap.size, 0, none⟩ (.int .i64 p.kind)).setCell ⟨wr.heap.size, 1, none⟩ (.string (str p.text))).setCell ⟨wr.heap.size, 2, none⟩ (.slice none 0 0)).setCell ⟨wr.heap.size, 3, none⟩ (.slice xk m ck) := ⟨_, rfl⟩
              have c12 : Chg (· = wr.heap.size) w1 w2 := by rw [hw2]; exact ((((Chg.refl _ w1).cellq 0 _).cellq 1 _).cellq 2 _).cellq 3 _
              have hbox : rowC w2 B #[.int .i64 p.kind, .string (str p.text), .slice none 0 0, .slice xk m ck] 27 := by rw [hw2, hBq]; exact rowC_set (rowC_set (rowC_set (rowC_set Z4 0 _) 1 _) 2 _) 3 _
              have hH2 := HoldsC.mono (G := fun k => k ≠ w.heap.size) (fun _ h _ => h.1) _ _ _ _ _ (HoldsC.chg c12 (fun _ hk h => hk.2 h) _ _ _ _ _ hH1)
              have c02 : Chg (fun _ => False) wr w2 := by
                rw [hw2]
                exact (((cw.setCell _ _ (.inr (Nat.le_refl _))).setCell _ _ (.inr (Nat.le_refl _))).setCell _ _ (.inr (Nat.le_refl _))).setCell _ _ (.inr (Nat.le_refl _))
              have hBr : wr.heap.size ≤ B := by omega
              rw [← hw2, ← hBq]
              clear hw2 hBq c12 Z4 z0 z1 z2 z3 y0 y1 y2 y3
              all_goals
                clear hH1 hgrow cw q0 q1 q2 q3 hKf
                have b0 : w2.cell? ⟨B, 0, none⟩ = some (.int .i64 p.kind) := rowC_cell hbox 0
                have b1 : w2.cell? ⟨B, 1, none⟩ = some (.string (str p.text)) := rowC_cell hbox 1
                have b2 : w2.cell? ⟨B, 2, none⟩ = some (.slice none 0 0) := rowC_cell hbox 2
                have b3 : w2.cell? ⟨B, 3, none⟩ = some (.slice xk m ck) := rowC_cell hbox 3
                have hVt := ItemsC.take N _ _ (ItemsC.chg c02 (fun _ _ h => h) _ _ hV)
                have hlt2 : (xs.take (N * 4)).length = N * 4 := by rw [List.length_take]; omega
                have hnews2 : ∀ i u, (xs.take (N * 4))[i]? = some u → w2.cell? (ax.add i) = some u := fun i u hu => by
                  rw [List.getElem?_take] at hu
                  split at hu
                  · exact cell_chg c02 (hax i u hu) id
                  · cases hu
                have h1y : ∀ u ∈ xs.take (N * 4), u.oneCell' = true := fun u hu => ItemsC.one _ _ hV u (List.mem_of_mem_take hu)
                have h1z : ∀ u ∈ [Value.int .i64 p.kind, .string (str p.text), .slice none 0 0, .slice xk m ck], u.oneCell' = true := by simp [Value.oneCell']
                have hB2 := rowC_lt hbox
                have HC02 := Lib.hid c02
                have HH2 := Lib.hid hH2
                have HVt := Lib.hid hVt
                have HBX := Lib.hid hbox
                clear c02 hH2 hVt hbox hax hV
                go_upto_region 16 with (fail)
                · skip
                  go_region_held3 (fun w' => w'.cell? ⟨B, 0, none⟩ = some (.int .i64 p.kind) ∧ w'.cell? ⟨B, 1, none⟩ = some (.string (str p.text)) ∧ w'.cell? ⟨B, 2, none⟩ = some (.slice none 0 0) ∧ w'.cell? ⟨B, 3, none⟩ = some (.slice xk m ck))
                    (first
                      | with_reducible exact ⟨b0, b1, b2, b3⟩
                      | with_reducible exact ⟨cell_chg (s := fun _ => False) ((Chg.refl _ _).alloc _) b0 id, cell_chg (s := fun _ => False) ((Chg.refl _ _).alloc _) b1 id, cell_chg (s := fun _ => False) ((Chg.refl _ _).alloc _) b2 id, cell_chg (s := fun _ => False) ((Chg.refl _ _).alloc _) b3 id⟩
                      | go_keep)
                    (first
                      | (refine step_append_lies _ (by rfl) _ _ _ (by rfl) w2.heap.size 27 i0 _ 4 72 Tryz.underlying24 hi0 hz0 hz1 hz2 rfl (by decide) _ 0 [] (by rfl) (World.ownsRow_nil _ _ _ _) ax N c (xs.take (N * 4)) (by rfl) hlt2 (fun i u hu => cell_chg (s := fun _ => False) (by first | exact Chg.refl _ _ | exact (Chg.refl _ _).drew | exact ((Chg.refl _ _).alloc _) | exact ((Chg.refl _ _).alloc _).drew | exact ((Chg.refl _ _).drew).alloc _) (hnews2 i u hu) id) h1y (by omega) (by unfold maxLen; omega) (by omega) (by simp) _ rfl ?_; intro g3 cap3 w3 hown3 hgrow3 hat3 hltg3; try rw [Nat.zero_add]; simp only [Nat.zero_add, List.nil_append] at hown3; have c23 : Chg (fun _ => False) w2 w3 := Chg.grown (by first | exact Chg.refl _ _ | exact (Chg.refl _ _).drew | exact ((Chg.refl _ _).alloc _) | exact ((Chg.refl _ _).alloc _).drew | exact ((Chg.refl _ _).drew).alloc _) hgrow3 (fun k hk => by cases hk); have b0 := cell_chg c23 b0 id; have b1 := cell_chg c23 b1 id; have b2 := cell_chg c23 b2 id; have b3 := cell_chg c23 b3 id; try (have Z4 : rowC w3 w2.heap.size #[.int .i64 p.kind, .string (str p.text), .slice none 0 0, .slice xk m ck] 27 := Chg.rowC (Chg.grown (Chg.refl (fun _ => False) _) hgrow3 (fun k hk => by cases hk)) (by first | exact rowC_new _ _ _ | exact rowC_drew (rowC_new _ _ _) | exact rowC_new w2.drew _ _) id))
                      | (refine step_append_lies _ (by rfl) _ _ _ (by rfl) w2.heap.size 27 i0 _ 4 72 Tryz.underlying24 hi0 hz0 hz1 hz2 rfl (by decide) (.slice (some ⟨g3, 0, none⟩) N cap3) N (xs.take (N * 4)) (by first | rfl | (show Value.slice (some ⟨g3, 0, none⟩) (0 + N) cap3 = _; rw [Nat.zero_add])) (by first | exact hown3 | exact hown3.alloc _ | exact hown3.drew | exact (hown3.drew).alloc _ | exact (hown3.alloc _).drew) _ 1 1 [.int .i64 p.kind, .string (str p.text), .slice none 0 0, .slice xk m ck] (by rfl) (by rfl) (by first | exact World.news_of_block Z4 | exact World.news_of_block (heap_alloc_new _ _) | (refine World.news_of_block (cs := #[.int .i64 p.kind, .string (str p.text), .slice none 0 0, .slice xk m ck]) (t := 27) (fr := (0, 0)) ?_; exact heap_alloc_new _ _)) h1z (by omega) (by unfold maxLen; omega) (by omega) (by first | exact c23.size | (simp; have := c23.size; omega)) _ rfl ?_; intro g5 cap5 w5 hown5 hgrow5 hat5 hltg5; have c25 : Chg (fun _ => False) w2 w5 := Chg.grown (by first | exact c23 | exact c23.drew | exact c23.alloc _ | exact (c23.drew).alloc _ | exact (c23.alloc _).drew) hgrow5 (fun k hk => .inr (hown3.lt k hk).1); have X5 := c25.rowC HBX.out id; have b0 : w5.cell? ⟨B, 0, none⟩ = some (.int .i64 p.kind) := rowC_cell X5 0; have b1 : w5.cell? ⟨B, 1, none⟩ = some (.string (str p.text)) := rowC_cell X5 1; have b2 : w5.cell? ⟨B, 2, none⟩ = some (.slice none 0 0) := rowC_cell X5 2; have b3 : w5.cell? ⟨B, 3, none⟩ = some (.slice xk m ck) := rowC_cell X5 3))
                  all_goals
                    have hbs := buo_step (p := p) HBel.out HRow.out (HC02.out.trans c25 (fun _ _ h => h)) hown5 HNN.out (ItemsC.chg c25 (fun _ _ h => h) _ _ HVt.out) (by rw [HDR.out]; exact HoldsC.chg c25 (fun _ _ h => h) _ _ _ _ _ HH2.out) hok (by omega) (by omega) (by omega) (fun y hy => by
                      obtain ⟨i, hi, rfl⟩ := List.getElem_of_mem hy
                      have := hall.out i (by have := HKn.out; omega)
                      rwa [List.getD_eq_getElem?_getD, List.getElem?_eq_getElem hi] at this) hlj (by have := H80.out; omega) hNl
                    have HBS := Lib.hid hbs
                    have HJ : Hid (j + 1 ≤ n ∧ ((j : Int) + 1 = ((j + 1 : Nat) : Int)) ∧ n - (intOf (Value.int .i64 ((j : Int) + 1))).toNat < n - (intOf (Value.int .i64 (j : Int))).toNat) := Lib.hid (by simp [intOf]; omega)
                    clear hbs hown5 hgrow5 hat5 hltg5 b0 b1 b2 b3
                    go_wp2
                    go_roundw
                  all_goals first
                    | exact ⟨j + 1, _, HJ.out.1, by rw [HJ.out.2.1], HBS.out⟩
                    | exact HJ.out.2.2
    · obtain rfl : j = n := by omega
      obtain ⟨⟨⟨x, c, xs, rfl, hxc, hV, hVc⟩, hnil, hok, hlen⟩, hrow, hbel, hlj, hnj⟩ := hB
      have hne' := hnj (by have := H0.out; omega)
      obtain ⟨ax, rfl, hax⟩ := hVc hne'
      obtain ⟨q, hq⟩ : ∃ q, ops.length = q + 1 := ⟨ops.length - 1, by have := List.length_pos_iff.2 hne'; omega⟩
      have hI := ItemsC.drop q _ _ hV
      obtain ⟨v, hv⟩ := List.length_eq_one_iff.1 (show (ops.drop q).length = 1 by rw [List.length_drop]; omega)
      rw [hv] at hI
      obtain ⟨a, b, c', d, hxs, hH⟩ := ItemsC.last hI
      obtain ⟨rfl, rfl, ⟨y1, d1, rfl⟩, y2, d2, rfl⟩ := hH.form
      have h4 : Hid (∀ i u, [Value.int .i64 v.kind, .string (str v.text), .slice y1 v.items.length d1, .slice y2 v.keys.length d2][i]? = some u → wr.cell? ((ax.add (q * 4)).add i) = some u) := Lib.hid fun i u hu => by
        rw [← hxs, List.getElem?_drop] at hu
        rw [add_add]
        exact hax _ u hu
      have HOK := Lib.hid (hok v (List.mem_of_mem_drop (i := q) (by rw [hv]; exact List.mem_singleton.2 rfl)))
      have HRow := Lib.hid hrow
      have HBel := Lib.hid hbel
      have HH := Lib.hid hH
      rw [hq]
      have q0 : (0 : Int) ≤ (q : Int) := by omega
      have q1 : (q : Int) < ((q + 1 : Nat) : Int) := by omega
      have q2 : (q : Int) < (q : Int) + 1 := by omega
      have q3 : (q : Int) < 80 := by omega
      clear hxs hI hv hV hVc hax hrow hbel hH hok hnil hnj hlj hlen hxc hq
      go_wp2_with (first
        | ((with_reducible show wpList _ _ _ (⟨some 109, .load _ (.tmp 108), _, _, _, _⟩ :: _) _ _); refine wpList_load_at rfl 27 _ rfl (ax.add (q * 4)) rfl [.int .i64 v.kind, .string (str v.text), .slice y1 v.items.length d1, .slice y2 v.keys.length d2] _ h4.out Tryz.underlying27 rfl HIF.out ?_)
        | ((with_reducible show wpList _ _ _ (⟨none, .store _ (.tmp 2) _, _, _, _, _⟩ :: _) _ _); refine wpList_store_row rfl 27 _ _ rfl w.heap.size #[.int .i64 v.kind, .string (str v.text), .slice y1 v.items.length d1, .slice y2 v.keys.length d2] rfl rfl 27 zeroV4 HRow.out HIF.out rfl (row4_all _ _ _ _ _ _ _ _) ?_))
      refine bodyPost_ret (results_row_tmp rfl _ _ w.heap.size 27 #[.int .i64 v.kind, .string (str v.text), .slice y1 v.items.length d1, .slice y2 v.keys.length d2] _ rfl (rowC_setRow HRow.out _) Tryz.underlying27 rfl HIF.out (.bool true) rfl) rfl ?_
      refine ⟨_, _, rfl, .inr ⟨rfl, v, HOK.out, _, _, _, _, rfl, ?_⟩, below_setRow HBel.out (Nat.le_refl _) _⟩
      exact HoldsC.mono (fun _ _ h => h) _ _ _ _ _ (HoldsC.chg (s := fun k => k = w.heap.size) ((Chg.refl _ _).setRow _ _ (.inl rfl)) (fun _ h e => h e) _ _ _ _ _ HH.out)
end Go.Proofs.YtcepemgalammhaaGreatDoor
