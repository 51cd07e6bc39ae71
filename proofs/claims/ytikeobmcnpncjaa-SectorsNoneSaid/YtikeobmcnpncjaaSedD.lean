/- Layer 6: the walk of SectorsPlay. -/
import Derived.Test.YtikeobmcnpncjaaSedC
import Derived.Deep.DeepCutAuto
import Derived.Deep.CutBlock
namespace Go.Proofs.Ytikeobmcnpncjaa
open Go.RowKit

theorem play_start {I : Impl} {W w1 w2 : World} {q p m : Nat} {vS vL vK : Value} {o : Nat → Prop} (h1 : I.Inv w1 q (rdNew m) o) (hb1 : Below W.heap.size W w1) (ho : ∀ k, o k → W.heap.size ≤ k) (h2 : RefV w2 p vS vL vK (rdNew m)) (hb2 : Below w1.heap.size w1 w2) (ho2 : ∀ k, refOwn p vS vL vK k → w1.heap.size ≤ k) (hm : 8 ≤ m) (hm2 : m ≤ 4096) : PlayM I W w2 q p (rdNew m) 0 := by
  have hs := hb1.size
  exact ⟨⟨vS, vL, vK, o, h2, I.below h1 hb2, fun j hj hoj => by have := ho2 j hj; have := I.lt h1 j hoj; omega, ho, fun j hj => Nat.le_trans hs (ho2 j hj), fun j hj => by cases hj⟩, rdNew_ok hm hm2, by simp [rdNew], by simp [rdNew], World.ownsRow_nil _ _ _ _, hb1.trans (hb2.mono hs)⟩
/-- The act's own copy of its list, in the act's box. -/
theorem PlayV.boxed {I : Impl} {W wr w1 : World} {q p : Nat} {d : RD} {k : Nat} {v v' : Value} {ks ks' : List Bool} (h : PlayV I W wr q p d k v ks) {cs : Array Value} (hg : Below (wr.alloc (.cells cs 34)).heap.size (wr.alloc (.cells cs 34)) w1)
    (hv : w1.ownsRow wr.heap.size 4 1 v' ks'.length (ks'.map Value.bool)) : PlayV I W (w1.setCell ⟨wr.heap.size, 4, none⟩ v') q p d k v' ks' ∧ rowC w1 wr.heap.size cs 34 := by
  have hb : Below wr.heap.size wr w1 := ((Below.refl _ _).alloc (Nat.le_refl _) _).trans (hg.mono (by rw [size_alloc]; omega))
  have hbox : rowC w1 wr.heap.size cs 34 := rowC_below (rowC_new wr cs 34) hg (by rw [size_alloc]; omega)
  refine ⟨h.list (hb.setCell (p := ⟨wr.heap.size, 4, none⟩) (Nat.le_refl _) _) ?_, hbox⟩
  exact ((Chg.refl (· = wr.heap.size) _).setCell _ _ (.inl rfl)).owns hv (owns_ne hv hbox (by decide))
theorem great_data {l : List Act1} (h : greatB l 60 = false) : l.length ≤ 60 ∧ ∀ a ∈ l, a.data.size ≤ 600 ∧ a.keep.length ≤ 60 := by
  unfold greatB at h
  rw [Bool.or_eq_false_iff] at h
  obtain ⟨h1, h2⟩ := h
  refine ⟨by simpa using h2, fun a ha => ?_⟩
  have := List.any_eq_false.1 h1 a ha
  unfold greatA at this
  simp at this
  omega
set_option maxRecDepth 100000 in
set_option maxHeartbeats 4000000 in
theorem play_in (I : Impl) (n : Int) {ad : Option Addr} {cap m : Nat} {l : List Act1} {w : World} (hn : -9223372036854775808 ≤ n ∧ n ≤ 9223372036854775807) (h : ActsAt w (.slice ad l.length cap) l) (hg : greatB l 60 = false) (hm : 8 ≤ m) (hm2 : m ≤ 4096) (hnm : (40 < n ∧ n ≤ 4096 ∧ (m : Int) = 8 + n % 33) ∨ (n ≤ 40 ∧ (m : Int) = n)) :
    Calls Try.prog 3 #[.int .i64 n, .slice ad l.length cap] w fun e w' => e = .returned (.bool true) ∧ Below w.heap.size w w' := by
  have CG := great_any h 60
  rw [hg] at CG
  replace CG : Calls Try.prog 7 #[.slice ad l.length cap, .int .i64 60] w fun e w' => e = .returned (.bool false) ∧ w = w' := CG
  have CU := Lib.hid (fun w' => spun_any I w')
  have CN := Lib.hid (I.new m w hm hm2)
  have CR := Lib.hid (fun w' => rnew_any m w' hm hm2)
  have HGR := Lib.hid (great_data hg)
  have HST := Lib.hid (fun (w1 w2 : World) (q p : Nat) (vS vL vK : Value) (o : Nat → Prop) (h1 : I.Inv w1 q (rdNew m) o) (hb1 : Below w.heap.size w w1) (ho : ∀ k, o k → w.heap.size ≤ k) (h2 : RefV w2 p vS vL vK (rdNew m)) (hb2 : Below w1.heap.size w1 w2) (ho2 : ∀ k, refOwn p vS vL vK k → w1.heap.size ≤ k) => play_start h1 hb1 ho h2 hb2 ho2 hm hm2)
  have HA := Lib.hid h
  obtain ⟨N, hN⟩ : ∃ N, N = l.length := ⟨_, rfl⟩
  rw [← hN] at CG HA ⊢
  have HN := Lib.hid hN
  clear h hg hN
  have hp : n % 33 = n.tmod 33 ∨ n ≤ 40 := by
    rcases hnm with h | h
    · left; rw [Int.tmod_eq_emod_of_nonneg (by omega)]
    · right; exact h.1
  rcases hnm with ⟨h1, h2, h3⟩ | ⟨h1, h3⟩
  · have e1 : n.tmod 33 = (m : Int) - 8 := by rcases hp with h | h <;> omega
    have e2 : n % 33 = (m : Int) - 8 := by omega
    clear hp h3
    go_enter Try.func3, Try.ntmps3
    go_wp2_with (first
      | (go_at_call 7; ((with_reducible refine (CG).mono ?_); rintro e w1 ⟨rfl, rfl⟩))
      | (go_at_call 9; rw [show (8 + ((m : Int) - 8)) = (m : Int) by omega]; ((with_reducible refine (CN.out).mono ?_); rintro e w1 ⟨q, o, rfl, i1, b1, o1⟩); have HI1 := Lib.hid i1; have HB1 := Lib.hid b1; have HO1 := Lib.hid o1; clear i1 b1 o1)
      | (go_at_call 10; ((with_reducible refine (CR.out _).mono ?_); rintro e w2 ⟨p, vS, vL, vK, rfl, i2, b2, o2⟩); have HP := Lib.hid (HST.out _ _ _ _ _ _ _ _ HI1.out HB1.out HO1.out i2 b2 o2); clear i2 b2 o2))
    clear HI1 HB1 HO1 HST CN CR CG hm hm2
    obtain ⟨i0, hi0, hz0, hz1, hz2⟩ := info_parts info_bool
    go_loopw [9] (fun i wr => ∃ k : Nat, k ≤ N ∧ i = .int .i64 k ∧ Hid (∃ d, PlayM I w wr q p d k)) (fun i _ => N - (intOf i).toNat)
    case atStart => exact ⟨0, Nat.zero_le _, rfl, Lib.hid ⟨_, HP.out⟩⟩
    case round =>
      obtain ⟨k, hk, rfl, hM⟩ := hrel
      obtain ⟨d, M⟩ := hM.out
      have HM := Lib.hid M
      clear M hM HP
      have hN60 : N ≤ 60 := by rw [HN.out]; exact HGR.out.1
      by_cases hlt : k < N
      · obtain ⟨adr, a, v, rfl, hak, hat, _⟩ := acts_at (HA.out.keep HM.out.b) (k := k) (by rw [← HN.out]; exact hlt)
        obtain ⟨hda, hke⟩ := HGR.out.2 a (List.mem_of_getElem? hak)
        have c0 := hat.c0
        have c1 := hat.c1
        have c2 := hat.c2
        have c3 := hat.c3
        have c4 := hat.c4
        have g1 : (k : Int) < (N : Int) := by omega
        have g0 : (0 : Int) ≤ (k : Int) := by omega
        obtain ⟨x, hx⟩ : ∃ x, x = a.c.toNat := ⟨_, rfl⟩
        have HV := Lib.hid (show .int .u8 (x : Int) = byteV a.c by rw [hx]; rfl)
        rw [← HV.out] at c1
        have HKD := Lib.hid hat.ok.kind
        have HDS := Lib.hid hat.ok.data
        have HK1 := Lib.hid hat.k
        have HX := Lib.hid (show (a.keep.map Value.bool).length = a.keep.length * 1 by simp)
        have H1 := Lib.hid (bools_one a.keep)
        clear hat hak hx
        obtain ⟨aK, capK, rfl⟩ := keep_form HK1.out
        have CD := Lib.hid (fun (w1 : World) (v' : Value) (M2 : PlayV I w w1 q p d k v' a.keep) => M2.act (by omega) HKD.out a.c a.n a.data HDS.out (by omega))
        unfold actC at CD
        rw [← HV.out] at CD
        generalize a.kind = ki at *
        generalize a.n = an at *
        generalize a.data = da at *
        generalize hak : a.keep = ak at *
        clear hak
        rcases (show aK = none ∧ ak = [] ∧ capK = 0 ∨ ∃ b, aK = some b by
          cases aK with
          | none =>
            rcases HK1.out with ⟨h1, h2⟩ | ⟨_, _, h1, _⟩
            · simp only [Value.slice.injEq] at h1
              exact .inl ⟨rfl, h2, h1.2.2⟩
            · cases h1
          | some b => exact .inr ⟨b, rfl⟩) with ⟨rfl, rfl, rfl⟩ | ⟨bK, rfl⟩
        · replace HK1 := Lib.hid (show KeepAt wr (.slice none 0 0) [] from .inl ⟨rfl, rfl⟩)
          go_wp2_with (first
            | (at_builtin; refine wpList_append_own_none rfl _ _ 32 rfl 0 4 i0 1 Try.underlying32 hi0 _ 0 [] rfl (World.ownsRow_nil _ _ _ _) rfl ?_; have M2 := HM.out.list (v' := .slice none 0 0) (ks' := []) ((Below.refl _ _).alloc (Nat.le_refl _) (.cells #[.int .u8 (ki : Int), .int .u8 (x : Int), .int .i64 an, .string da, .slice none 0 0] 34)) (World.ownsRow_nil _ _ _ _); have HM2 := Lib.hid M2; clear M2)
            | (go_at_call 11; ((with_reducible refine (CD.out _ _ HM2.out).mono ?_); rintro e w3 ⟨rfl, m3⟩); have HM3 := Lib.hid m3; clear m3 c0 c1 c2 c3 c4))
          clear HK1 HX H1 CD HKD HDS HV
          go_loopw [12] (fun i w4 => ∃ (j : Nat) (kj : List Bool), j ≤ kj.length ∧ kj.length = 0 ∧ i = .int .i64 j ∧ Hid (PlayV I w w4 q p (actD d ki a.c an da []) (k + 1) (.slice none 0 0) kj)) (fun i _ => 0 - (intOf i).toNat)
          case atStart => exact ⟨0, [], Nat.zero_le _, rfl, rfl, HM3⟩
          case round =>
            clear HM3
            obtain ⟨j, kj, hj, hjl, rfl, hjM⟩ := hrel
            by_cases hjlt : j < 0
            · exact absurd hjlt (Nat.not_lt_zero _)
            · have g3 : ¬ (j : Int) < (0 : Int) := by omega
              have CS := Lib.hid (hjM.out.same (by omega))
              clear hjM
              go_wp2_with (go_at_call 12; ((with_reducible refine (CS.out).mono ?_); rintro e w5 ⟨rfl, m5⟩); have HM5 := Lib.hid m5; clear m5)
              go_roundw
              case rel => exact ⟨k + 1, by omega, by go_num, Lib.hid ⟨_, HM5.out⟩⟩
              case measure => simp [intOf]; omega
        · obtain ⟨xs, hxs⟩ : ∃ xs, xs = ak.map Value.bool := ⟨_, rfl⟩
          rw [← hxs] at HX H1
          have HXS := Lib.hid hxs
          clear hxs
          have HN2 := Lib.hid (keep_cells (HK1.out.keep ((Below.refl _ _).alloc (Nat.le_refl _) (.cells #[.int .u8 (ki : Int), .int .u8 (x : Int), .int .i64 an, .string da, .slice (some bK) ak.length capK] 34))))
          rw [← HXS.out] at HN2
          go_wp2_with (first
            | (at_builtin; refine wpList_append_own _ rfl _ _ 32 rfl wr.heap.size 4 i0 (.bool false) 1 1 Try.underlying32 hi0 hz0 hz1 hz2 rfl (by decide) _ 0 [] rfl (World.ownsRow_nil _ _ _ _) bK ak.length capK xs rfl HX.out HN2.out H1.out (by unfold maxLen; omega) (by omega) (by rw [size_alloc]; omega) ?_; intro v' w1 hown hgrow _; simp only [Nat.zero_add, List.nil_append] at hown; rw [HXS.out] at hown; obtain ⟨a', cap', rfl⟩ := owns_form hown; obtain ⟨M2, hbox⟩ := HM.out.boxed ((Below.refl _ _).grown hgrow (Nat.le_refl _) (fun j hj => by cases hj)) hown; have HM2 := Lib.hid M2; have e0 := rowC_cell hbox 0; have e1 := rowC_cell hbox 1; have e2 := rowC_cell hbox 2; have e3 := rowC_cell hbox 3; have e4 := rowC_cell hbox 4; have f4 := rowC_free hbox 4; clear hown hgrow M2 hbox c0 c1 c2 c3 c4)
            | (go_at_call 11; ((with_reducible refine (CD.out _ _ HM2.out).mono ?_); rintro e w3 ⟨rfl, m3⟩); have HM3 := Lib.hid m3; clear m3 e0 e1 e2 e3 e4 f4))
          clear HK1 HX H1 CD HKD HDS HV
          go_loopw [12] (fun i w4 => ∃ (j : Nat) (kj : List Bool), j ≤ kj.length ∧ kj.length = ak.length ∧ i = .int .i64 j ∧ Hid (PlayV I w w4 q p (actD d ki a.c an da ak) (k + 1) (.slice a' ak.length cap') kj)) (fun i _ => ak.length - (intOf i).toNat)
          case atStart => exact ⟨0, ak, Nat.zero_le _, rfl, rfl, HM3⟩
          case round =>
            clear HM3
            obtain ⟨j, kj, hj, hjl, rfl, hjM⟩ := hrel
            by_cases hjlt : j < ak.length
            · obtain ⟨g', capg, hvg⟩ := owns_some hjM.out.v (by omega)
              simp only [Value.slice.injEq] at hvg
              obtain ⟨hva, -, -⟩ := hvg
              subst hva
              have hv := hjM.out.v
              rw [hjl] at hv
              have hcell := hv.cellAt j (by omega)
              obtain ⟨bj, hbj⟩ : ∃ bj, bj = kj[j]'(by omega) := ⟨_, rfl⟩
              rw [List.getElem?_map, List.getElem?_eq_getElem (by omega), ← hbj] at hcell
              replace hcell : World.cell? _ ⟨g', j, none⟩ = some (Value.bool bj) := hcell
              have hfz := hv.frozenAt j
              have HPN := Lib.hid (hjM.out.put hjl.symm j (!bj))
              have g3 : (j : Int) < (ak.length : Int) := by omega
              have g4 : (0 : Int) ≤ (j : Int) := by omega
              clear hv hjM hbj
              go_wp2
              go_roundw
              case rel => exact ⟨j + 1, kj.set j (!bj), by rw [List.length_set]; omega, by rw [List.length_set]; exact hjl, by go_num, HPN⟩
              case measure => simp [intOf]; omega
            · have g3 : ¬ (j : Int) < (ak.length : Int) := by omega
              have CS := Lib.hid (hjM.out.same (by omega))
              clear hjM
              go_wp2_with (go_at_call 12; ((with_reducible refine (CS.out).mono ?_); rintro e w5 ⟨rfl, m5⟩); have HM5 := Lib.hid m5; clear m5)
              go_roundw
              case rel => exact ⟨k + 1, by omega, by go_num, Lib.hid ⟨_, HM5.out⟩⟩
              case measure => simp [intOf]; omega
      · obtain rfl : k = N := by omega
        have HB := Lib.hid HM.out.b
        go_wp2_with (go_at_call 8; ((with_reducible refine (CU.out _).mono ?_); rintro e w9 ⟨rfl, b9⟩))
        go_ret
        exact ⟨rfl, HB.out.trans (b9.mono HB.out.size)⟩
  · clear hp
    have em : n = (m : Int) := h3.symm
    subst em
    go_enter Try.func3, Try.ntmps3
    go_wp2_with (first
      | (go_at_call 7; ((with_reducible refine (CG).mono ?_); rintro e w1 ⟨rfl, rfl⟩))
      | (go_at_call 9; ((with_reducible refine (CN.out).mono ?_); rintro e w1 ⟨q, o, rfl, i1, b1, o1⟩); have HI1 := Lib.hid i1; have HB1 := Lib.hid b1; have HO1 := Lib.hid o1; clear i1 b1 o1)
      | (go_at_call 10; ((with_reducible refine (CR.out _).mono ?_); rintro e w2 ⟨p, vS, vL, vK, rfl, i2, b2, o2⟩); have HP := Lib.hid (HST.out _ _ _ _ _ _ _ _ HI1.out HB1.out HO1.out i2 b2 o2); clear i2 b2 o2))
    clear HI1 HB1 HO1 HST CN CR CG hm hm2
    obtain ⟨i0, hi0, hz0, hz1, hz2⟩ := info_parts info_bool
    go_loopw [9] (fun i wr => ∃ k : Nat, k ≤ N ∧ i = .int .i64 k ∧ Hid (∃ d, PlayM I w wr q p d k)) (fun i _ => N - (intOf i).toNat)
    case atStart => exact ⟨0, Nat.zero_le _, rfl, Lib.hid ⟨_, HP.out⟩⟩
    case round =>
      obtain ⟨k, hk, rfl, hM⟩ := hrel
      obtain ⟨d, M⟩ := hM.out
      have HM := Lib.hid M
      clear M hM HP
      have hN60 : N ≤ 60 := by rw [HN.out]; exact HGR.out.1
      by_cases hlt : k < N
      · obtain ⟨adr, a, v, rfl, hak, hat, _⟩ := acts_at (HA.out.keep HM.out.b) (k := k) (by rw [← HN.out]; exact hlt)
        obtain ⟨hda, hke⟩ := HGR.out.2 a (List.mem_of_getElem? hak)
        have c0 := hat.c0
        have c1 := hat.c1
        have c2 := hat.c2
        have c3 := hat.c3
        have c4 := hat.c4
        have g1 : (k : Int) < (N : Int) := by omega
        have g0 : (0 : Int) ≤ (k : Int) := by omega
        obtain ⟨x, hx⟩ : ∃ x, x = a.c.toNat := ⟨_, rfl⟩
        have HV := Lib.hid (show .int .u8 (x : Int) = byteV a.c by rw [hx]; rfl)
        rw [← HV.out] at c1
        have HKD := Lib.hid hat.ok.kind
        have HDS := Lib.hid hat.ok.data
        have HK1 := Lib.hid hat.k
        have HX := Lib.hid (show (a.keep.map Value.bool).length = a.keep.length * 1 by simp)
        have H1 := Lib.hid (bools_one a.keep)
        clear hat hak hx
        obtain ⟨aK, capK, rfl⟩ := keep_form HK1.out
        have CD := Lib.hid (fun (w1 : World) (v' : Value) (M2 : PlayV I w w1 q p d k v' a.keep) => M2.act (by omega) HKD.out a.c a.n a.data HDS.out (by omega))
        unfold actC at CD
        rw [← HV.out] at CD
        generalize a.kind = ki at *
        generalize a.n = an at *
        generalize a.data = da at *
        generalize hak : a.keep = ak at *
        clear hak
        rcases (show aK = none ∧ ak = [] ∧ capK = 0 ∨ ∃ b, aK = some b by
          cases aK with
          | none =>
            rcases HK1.out with ⟨h1, h2⟩ | ⟨_, _, h1, _⟩
            · simp only [Value.slice.injEq] at h1
              exact .inl ⟨rfl, h2, h1.2.2⟩
            · cases h1
          | some b => exact .inr ⟨b, rfl⟩) with ⟨rfl, rfl, rfl⟩ | ⟨bK, rfl⟩
        · replace HK1 := Lib.hid (show KeepAt wr (.slice none 0 0) [] from .inl ⟨rfl, rfl⟩)
          go_wp2_with (first
            | (at_builtin; refine wpList_append_own_none rfl _ _ 32 rfl 0 4 i0 1 Try.underlying32 hi0 _ 0 [] rfl (World.ownsRow_nil _ _ _ _) rfl ?_; have M2 := HM.out.list (v' := .slice none 0 0) (ks' := []) ((Below.refl _ _).alloc (Nat.le_refl _) (.cells #[.int .u8 (ki : Int), .int .u8 (x : Int), .int .i64 an, .string da, .slice none 0 0] 34)) (World.ownsRow_nil _ _ _ _); have HM2 := Lib.hid M2; clear M2)
            | (go_at_call 11; ((with_reducible refine (CD.out _ _ HM2.out).mono ?_); rintro e w3 ⟨rfl, m3⟩); have HM3 := Lib.hid m3; clear m3 c0 c1 c2 c3 c4))
          clear HK1 HX H1 CD HKD HDS HV
          go_loopw [12] (fun i w4 => ∃ (j : Nat) (kj : List Bool), j ≤ kj.length ∧ kj.length = 0 ∧ i = .int .i64 j ∧ Hid (PlayV I w w4 q p (actD d ki a.c an da []) (k + 1) (.slice none 0 0) kj)) (fun i _ => 0 - (intOf i).toNat)
          case atStart => exact ⟨0, [], Nat.zero_le _, rfl, rfl, HM3⟩
          case round =>
            clear HM3
            obtain ⟨j, kj, hj, hjl, rfl, hjM⟩ := hrel
            by_cases hjlt : j < 0
            · exact absurd hjlt (Nat.not_lt_zero _)
            · have g3 : ¬ (j : Int) < (0 : Int) := by omega
              have CS := Lib.hid (hjM.out.same (by omega))
              clear hjM
              go_wp2_with (go_at_call 12; ((with_reducible refine (CS.out).mono ?_); rintro e w5 ⟨rfl, m5⟩); have HM5 := Lib.hid m5; clear m5)
              go_roundw
              case rel => exact ⟨k + 1, by omega, by go_num, Lib.hid ⟨_, HM5.out⟩⟩
              case measure => simp [intOf]; omega
        · obtain ⟨xs, hxs⟩ : ∃ xs, xs = ak.map Value.bool := ⟨_, rfl⟩
          rw [← hxs] at HX H1
          have HXS := Lib.hid hxs
          clear hxs
          have HN2 := Lib.hid (keep_cells (HK1.out.keep ((Below.refl _ _).alloc (Nat.le_refl _) (.cells #[.int .u8 (ki : Int), .int .u8 (x : Int), .int .i64 an, .string da, .slice (some bK) ak.length capK] 34))))
          rw [← HXS.out] at HN2
          go_wp2_with (first
            | (at_builtin; refine wpList_append_own _ rfl _ _ 32 rfl wr.heap.size 4 i0 (.bool false) 1 1 Try.underlying32 hi0 hz0 hz1 hz2 rfl (by decide) _ 0 [] rfl (World.ownsRow_nil _ _ _ _) bK ak.length capK xs rfl HX.out HN2.out H1.out (by unfold maxLen; omega) (by omega) (by rw [size_alloc]; omega) ?_; intro v' w1 hown hgrow _; simp only [Nat.zero_add, List.nil_append] at hown; rw [HXS.out] at hown; obtain ⟨a', cap', rfl⟩ := owns_form hown; obtain ⟨M2, hbox⟩ := HM.out.boxed ((Below.refl _ _).grown hgrow (Nat.le_refl _) (fun j hj => by cases hj)) hown; have HM2 := Lib.hid M2; have e0 := rowC_cell hbox 0; have e1 := rowC_cell hbox 1; have e2 := rowC_cell hbox 2; have e3 := rowC_cell hbox 3; have e4 := rowC_cell hbox 4; have f4 := rowC_free hbox 4; clear hown hgrow M2 hbox c0 c1 c2 c3 c4)
            | (go_at_call 11; ((with_reducible refine (CD.out _ _ HM2.out).mono ?_); rintro e w3 ⟨rfl, m3⟩); have HM3 := Lib.hid m3; clear m3 e0 e1 e2 e3 e4 f4))
          clear HK1 HX H1 CD HKD HDS HV
          go_loopw [12] (fun i w4 => ∃ (j : Nat) (kj : List Bool), j ≤ kj.length ∧ kj.length = ak.length ∧ i = .int .i64 j ∧ Hid (PlayV I w w4 q p (actD d ki a.c an da ak) (k + 1) (.slice a' ak.length cap') kj)) (fun i _ => ak.length - (intOf i).toNat)
          case atStart => exact ⟨0, ak, Nat.zero_le _, rfl, rfl, HM3⟩
          case round =>
            clear HM3
            obtain ⟨j, kj, hj, hjl, rfl, hjM⟩ := hrel
            by_cases hjlt : j < ak.length
            · obtain ⟨g', capg, hvg⟩ := owns_some hjM.out.v (by omega)
              simp only [Value.slice.injEq] at hvg
              obtain ⟨hva, -, -⟩ := hvg
              subst hva
              have hv := hjM.out.v
              rw [hjl] at hv
              have hcell := hv.cellAt j (by omega)
              obtain ⟨bj, hbj⟩ : ∃ bj, bj = kj[j]'(by omega) := ⟨_, rfl⟩
              rw [List.getElem?_map, List.getElem?_eq_getElem (by omega), ← hbj] at hcell
              replace hcell : World.cell? _ ⟨g', j, none⟩ = some (Value.bool bj) := hcell
              have hfz := hv.frozenAt j
              have HPN := Lib.hid (hjM.out.put hjl.symm j (!bj))
              have g3 : (j : Int) < (ak.length : Int) := by omega
              have g4 : (0 : Int) ≤ (j : Int) := by omega
              clear hv hjM hbj
              go_wp2
              go_roundw
              case rel => exact ⟨j + 1, kj.set j (!bj), by rw [List.length_set]; omega, by rw [List.length_set]; exact hjl, by go_num, HPN⟩
              case measure => simp [intOf]; omega
            · have g3 : ¬ (j : Int) < (ak.length : Int) := by omega
              have CS := Lib.hid (hjM.out.same (by omega))
              clear hjM
              go_wp2_with (go_at_call 12; ((with_reducible refine (CS.out).mono ?_); rintro e w5 ⟨rfl, m5⟩); have HM5 := Lib.hid m5; clear m5)
              go_roundw
              case rel => exact ⟨k + 1, by omega, by go_num, Lib.hid ⟨_, HM5.out⟩⟩
              case measure => simp [intOf]; omega
      · obtain rfl : k = N := by omega
        have HB := Lib.hid HM.out.b
        go_wp2_with (go_at_call 8; ((with_reducible refine (CU.out _).mono ?_); rintro e w9 ⟨rfl, b9⟩))
        go_ret
        exact ⟨rfl, HB.out.trans (b9.mono HB.out.size)⟩
end Go.Proofs.Ytikeobmcnpncjaa
