/- Layer 6: the document's disk: Write. -/
import Derived.Test.YtikeobmcnpncjaaSecG
namespace Go.Proofs.Ytikeobmcnpncjaa
open Go.RowKit

theorem info_write : (Try.prog.info? 72).map (fun i => (i.zero, i.size, i.bytes)) = some (some (.agg #[.int .i64 0, .string ⟨#[]⟩]), 2, 24) := by kernel_rfl
theorem loose_one (l : List (Nat × ByteArray)) : ∀ u ∈ looseV l, u.oneCell' = true := fun u hu => by
  simp only [looseV, List.mem_flatMap, List.mem_cons, List.not_mem_nil, or_false] at hu
  obtain ⟨x, _, rfl | rfl⟩ := hu <;> rfl
theorem looseV_snoc (l : List (Nat × ByteArray)) (n : Nat) (s : ByteArray) : looseV l ++ [.int .i64 (n : Int), .string s] = looseV (l ++ [(n, s)]) := by simp [looseV]
/-- Behind the copy and the append: the disk with one more loose write. -/
theorem more_post {w0 w3 : World} {p : Nat} {vS vL vK : Value} {d : RD} (V0 : RefV w0 p vS vL vK d) {g cap N : Nat} {n : Nat} {s : ByteArray} (hN : N = d.loose.length)
    (b3 : Below w0.heap.size w0 w3) (ho : w3.ownsRow w0.heap.size 72 2 (.slice (some ⟨g, 0, none⟩) (N + 1) cap) (N + 1) (looseV (d.loose ++ [(n, s)]))) :
    RefV (w3.setCell ⟨p, 1, none⟩ (.slice (some ⟨g, 0, none⟩) (N + 1) cap)) p vS (.slice (some ⟨g, 0, none⟩) (N + 1) cap) vK { d with loose := d.loose ++ [(n, s)] } ∧ Chg (· = p) w0 (w3.setCell ⟨p, 1, none⟩ (.slice (some ⟨g, 0, none⟩) (N + 1) cap)) ∧ w0.heap.size ≤ g := by
  have V3 := V0.below b3
  have hg := (ho.lt g rfl).1
  have hp := V0.lt p (.inl rfl)
  obtain ⟨t1, _, t3⟩ := V3.rows 1 (.slice (some ⟨g, 0, none⟩) (N + 1) cap)
  refine ⟨⟨rowC_set V3.r 1 _, t1, ?_, t3⟩, (Chg.of_below b3).setP _ _, hg⟩
  have hc : Chg (· = p) w3 (w3.setCell ⟨p, 1, none⟩ (.slice (some ⟨g, 0, none⟩) (N + 1) cap)) := (Chg.refl _ _).setP _ _
  rw [List.length_append, List.length_singleton, ← hN]
  exact hc.owns (owns_base ho) (fun j hj hjp => by simp [Value.ownBlock] at hj; omega)
theorem more_own {p g n cap : Nat} {vS vL vK : Value} {H : Nat} (hg : H ≤ g) : ∀ k, refOwn p vS (.slice (some ⟨g, 0, none⟩) n cap) vK k → refOwn p vS vL vK k ∨ H ≤ k := by
  intro k hk
  rcases hk with hk | hk | hk | hk
  · exact .inl (.inl hk)
  · exact .inl (.inr (.inl hk))
  · simp [Value.ownBlock] at hk
    exact .inr (by omega)
  · exact .inl (.inr (.inr (.inr hk)))
/-- What Write does, as far as it goes on. -/
def RD.more (d : RD) (n : Nat) (s : ByteArray) : RD := { d.less with loose := d.loose ++ [(n, s)] }
set_option maxRecDepth 100000 in
set_option maxHeartbeats 2000000 in
theorem rwrite_any {w : World} {p : Nat} {vS vL vK : Value} {d : RD} (h : RefV w p vS vL vK d) (hok : d.ok) (i : Int) (s : ByteArray) (hl : d.loose.length < 1000000) :
    Calls Try.prog 26 #[.pointer (some ⟨p, 0, none⟩), .int .i64 i, .string s] w fun e w' => e = .returned (.int .i64 (d.write i s).2) ∧ RefPost w p vS vL vK (d.write i s).1 w' := by
  obtain ⟨c0, _, c2, _, _, _⟩ := h.cell
  have H := Lib.hid h
  have HOK := Lib.hid hok
  cases hd : d.down
  · rw [hd] at c2
    obtain ⟨gS, capS, rfl⟩ := owns_some h.s (by have := hok.lo; omega)
    have lo := hok.lo
    have hi := hok.hi
    by_cases hbad : i < 0 ∨ (d.sure.length : Int) ≤ i ∨ s.size ≠ 512
    · have HR := Lib.hid (show d.write i s = (d, 2) by unfold RD.write; rw [hd, if_neg (by decide), if_pos hbad])
      clear hd h hok
      have h3 : i < 0 ∨ (0 ≤ i ∧ (d.sure.length : Int) ≤ i) ∨ (0 ≤ i ∧ i < (d.sure.length : Int) ∧ s.size ≠ 512) := by omega
      clear hbad
      rcases h3 with h3 | ⟨h3, h4⟩ | ⟨h3, h4, h5⟩
      · go_enter Try.func26, Try.ntmps26
        go_wp2
        go_ret
        exact ⟨retInt (by rw [HR.out]), by rw [HR.out]; exact RefPost.same H.out (Chg.refl _ _)⟩
      · go_enter Try.func26, Try.ntmps26
        go_wp2
        go_ret
        exact ⟨retInt (by rw [HR.out]), by rw [HR.out]; exact RefPost.same H.out (Chg.refl _ _)⟩
      · have h6 : ((s.size : Int) == 512) = false := by rw [beq_eq_false_iff_ne]; omega
        have h7 : ((s.size : Int) != 512) = true := by rw [bne, h6]; rfl
        clear h5
        go_enter Try.func26, Try.ntmps26
        go_wp2
        go_ret
        exact ⟨retInt (by rw [HR.out]), by rw [HR.out]; exact RefPost.same H.out (Chg.refl _ _)⟩
    · obtain ⟨n, rfl⟩ : ∃ n : Nat, i = n := ⟨i.toNat, by omega⟩
      have hnS : n < d.sure.length := by omega
      have h5 : s.size = 512 := by omega
      have g1 : (n : Int) < (d.sure.length : Int) := by omega
      have g0 : (0 : Int) ≤ (n : Int) := by omega
      have CF := Lib.hid (rfails_any h hok)
      have HR := Lib.hid (show d.write n s = if d.fails = true then ((d.more n s).fall (d.more n s).keep, 61) else (d.more n s, 0) by
        unfold RD.write; rw [hd, if_neg (by decide), if_neg hbad, Int.toNat_natCast]; rfl)
      have HD := Lib.hid hd
      obtain ⟨j0, ji, jz0, jz1, jz2⟩ := info_parts info_write
      obtain ⟨aL, capL, rfl⟩ := owns_form h.l
      obtain ⟨aK, capK, rfl⟩ := owns_form h.k
      have HMO := Lib.hid (hok.more hnS s)
      have H51 := Lib.hid h5
      have h52 : ((s.size : Int) == 512) = true := by rw [beq_iff_eq]; omega
      have h53 : ((s.size : Int) != 512) = false := by rw [bne, h52]; rfl
      clear hbad h5
      have hrow := h.l
      obtain ⟨N, hN⟩ : ∃ N, N = d.loose.length := ⟨_, rfl⟩
      have HN := Lib.hid hN
      rw [← hN] at hrow hl CF H ⊢
      have hform : (aL = none ∧ N = 0 ∧ capL = 0) ∨ ∃ gL, aL = some ⟨gL, 0, none⟩ := by
        rcases hrow.2 with ⟨hv, h0⟩ | ⟨gL, _, _, hv, _⟩
        · simp only [Value.slice.injEq] at hv
          exact .inl hv
        · simp only [Value.slice.injEq] at hv
          exact .inr ⟨gL, hv.1⟩
      clear hrow
      have HL1 := Lib.hid (loose_one d.loose)
      have HL2 := Lib.hid (looseV_length d.loose)
      obtain ⟨xs, hxs⟩ : ∃ xs, xs = looseV d.loose := ⟨_, rfl⟩
      rw [← hxs] at HL1 HL2
      have HXS := Lib.hid hxs
      have HXL := Lib.hid (show xs.length = N * 2 by rw [HL2.out, hN]; omega)
      have H1 := Lib.hid (show ∀ u ∈ [Value.int .i64 (n : Int), Value.string s], u.oneCell' = true by intro u hu; simp at hu; rcases hu with rfl | rfl <;> rfl)
      obtain ⟨φ, hφ⟩ : ∃ φ, φ = d.fails := ⟨_, rfl⟩
      rw [← hφ] at CF HR
      clear hd h hok hN hxs hφ HL2
      rcases hform with ⟨rfl, rfl, rfl⟩ | ⟨gL, rfl⟩
      all_goals
        cases φ
        all_goals
          go_enter Try.func26, Try.ntmps26
          go_wp2_with (first
            | (go_at_call 48; ((with_reducible refine (CF.out).mono ?_); rintro e w0 ⟨rfl, V0, C0⟩); have HV := Lib.hid V0; have HC := Lib.hid C0; have d1 := V0.cell.2.1; clear V0 C0 c0 c2)
            | ((with_reducible show wpList _ _ _ (⟨some 35, _, _, _, _, _⟩ :: _) _ _); refine wpList_append_own_none rfl _ _ 60 rfl 0 72 j0 2 Try.underlying60 ji _ 0 [] rfl (World.ownsRow_nil _ _ _ _) rfl ?_; have HWC := Lib.hid (show w0.ownsRow w0.heap.size 72 2 (.slice none 0 0) 0 xs from ⟨by rw [HXL.out], .inl ⟨rfl, rfl⟩⟩); have HBC := Lib.hid (Below.refl w0.heap.size w0))
            | ((with_reducible show wpList _ _ _ (⟨some 35, _, _, _, _, _⟩ :: _) _ _); refine wpList_append_own _ rfl _ _ 60 rfl w0.heap.size 72 j0 (.agg #[.int .i64 0, .string ⟨#[]⟩]) 2 24 Try.underlying60 ji jz0 jz1 jz2 rfl (by decide) _ 0 [] rfl (World.ownsRow_nil _ _ _ _) ⟨gL, 0, none⟩ N capL xs rfl HXL.out (by rw [HXS.out]; exact HV.out.l.cells rfl) HL1.out (by unfold maxLen; omega) (by omega) (Nat.le_refl _) ?_; intro vC w1 hown1 hgrow1 _; have HWC := Lib.hid (show w1.ownsRow w0.heap.size 72 2 vC N xs by simpa using hown1); have HBC := Lib.hid (show Below w0.heap.size w0 w1 from (Below.refl _ _).grown hgrow1 (Nat.le_refl _) (fun j hj => by cases hj)); clear hown1 hgrow1)
            | ((with_reducible show wpList _ _ _ (⟨some 40, _, _, _, _, _⟩ :: _) _ _); refine wpList_append_lies _ rfl _ _ 60 rfl w0.heap.size 72 j0 (.agg #[.int .i64 0, .string ⟨#[]⟩]) 2 24 Try.underlying60 ji jz0 jz1 jz2 rfl (by decide) _ _ xs rfl (HWC.out.alloc _) _ 1 1 [.int .i64 (n : Int), .string s] rfl rfl (World.news_of_block (heap_alloc_new _ _)) H1.out (by decide) (by unfold maxLen; omega) (by omega) (by have := HBC.out.size; rw [size_alloc]; omega) _ rfl ?_; intro g cap w3 hown3 hgrow3 hat hgl; have b3 : Below w0.heap.size w0 w3 := (HBC.out.alloc HBC.out.size _).grown hgrow3 (by have := HBC.out.size; rw [size_alloc]; omega) (fun j hj => (HWC.out.lt j hj).1); have V3 := HV.out.below b3; have e1 := V3.cell.2.1; have e5 := V3.cell.2.2.2.2.2; have f1 := V3.free 1; rw [HXS.out, looseV_snoc] at hown3; have HM := Lib.hid (more_post HV.out (n := n) (s := s) HN.out b3 hown3); clear V3 b3 hown3 hgrow3 hat hgl d1))
          obtain ⟨VM, CM, gM⟩ := HM.out
          have hs0 := HC.out.size
          have CA := HC.out.trans CM (fun _ _ h => h)
          first
            | (have HR2 : d.write n s = (d.more n s, 0) := by rw [HR.out]; rfl
               have HA := Lib.hid HR2
               clear HR2
               go_ret
               refine ⟨retInt (by rw [HA.out]), ?_⟩
               rw [HA.out]
               exact ⟨_, _, _, VM, CA, more_own (Nat.le_trans hs0 gM)⟩)
            | (have HR2 : d.write n s = ((d.more n s).fall (d.more n s).keep, 61) := by rw [HR.out]; rfl
               have HA := Lib.hid HR2
               have HB := Lib.hid (show (d.more n s).crash d.keep = ((d.more n s).fall (d.more n s).keep, 0) by unfold RD.crash; rw [show (d.more n s).down = d.down from rfl, HD.out]; rfl)
               clear HR2
               refine (rcrash_any (d := d.more n s) VM HMO.out (owns_keep VM.k) (by show (d.loose ++ [(n, s)]).length ≤ 1000000; rw [List.length_append, List.length_singleton, ← HN.out]; omega)).mono ?_
               rintro e w4 ⟨rfl, P4⟩
               have HP := Lib.hid P4
               clear P4
               go_wp2
               go_ret
               refine ⟨retInt (by rw [HA.out]), ?_⟩
               rw [HA.out]
               have P5 := HP.out
               rw [show d.less.keep = d.keep from rfl, HB.out] at P5
               exact P5.trans CA (more_own (Nat.le_trans hs0 gM)))
  · have HR := Lib.hid (show d.write i s = (d, 61) by unfold RD.write; rw [hd]; rfl)
    rw [hd] at c2
    clear hd h hok
    go_enter Try.func26, Try.ntmps26
    go_wp2
    go_ret
    exact ⟨retInt (by rw [HR.out]), by rw [HR.out]; exact RefPost.same H.out (Chg.refl _ _)⟩
end Go.Proofs.Ytikeobmcnpncjaa
