/- Layer 6: the program's disk: a change, Crash, Flush. -/
import Derived.Test.YtikeobmcnpncjaaSecU
namespace Go.Proofs.Ytikeobmcnpncjaa
open Go.RowKit

/-- What the change that comes leaves, as far as it is counted. -/
theorem less_set {d : RD} (h : 0 < d.left) : d.less.kept = d.kept := by
  unfold RD.kept RD.less
  rw [if_pos h, if_pos (show 0 ≤ d.left by omega), if_pos (show 0 ≤ d.left - 1 by omega)]
theorem less_same {d : RD} (h : ¬ 0 < d.left) : d.less = d := by unfold RD.less; rw [if_neg h]
set_option maxRecDepth 100000 in
set_option maxHeartbeats 1000000 in
theorem change_no {w : World} {q r : Nat} {vS vL vK : Value} {d : RD} (h : ImpV w q r vS vL vK d) (hok : d.ok) (hn : d.fails = false) :
    Calls Try.prog 36 #[.pointer (some ⟨r, 0, none⟩)] w fun e w' => e = .returned (.int .i64 0) ∧ ImpV w' q r vS vL vK d.less ∧ Chg (· = r) w w' := by
  have hne : d.left ≠ 0 := by unfold RD.fails at hn; simpa using hn
  obtain ⟨-, c0, c1, c2, c3, c4, c5, c6⟩ := h.cell
  obtain ⟨l1, l2⟩ := hok.left
  have f5 := h.free 5
  have H := Lib.hid h
  clear h hok
  by_cases hs : 0 ≤ d.left
  · have h1 : 0 < d.left := by omega
    have hc : Chg (· = r) w (w.setCell ⟨r, 5, none⟩ (.int .i64 (d.left - 1))) := (Chg.refl _ _).setP _ _
    obtain ⟨t0, t1, t2, t3⟩ := H.out.rows hc
    have HS := Lib.hid (show ImpV (w.setCell ⟨r, 5, none⟩ (.int .i64 (d.left - 1))) q r vS vL vK d.less from ⟨t0, by
      have := rowC_set H.out.r 5 (.int .i64 (d.left - 1))
      have e : (impC vS vL vK d).setIfInBounds 5 (.int .i64 (d.left - 1)) = impC vS vL vK d.less := by
        unfold impC RD.less
        simp only [if_pos h1, decide_eq_true hs, decide_eq_true (show 0 ≤ d.left - 1 by omega), if_pos (show 0 ≤ d.left - 1 by omega)]
        rfl
      rw [e] at this
      exact this, t1, t2, by rw [less_set h1]; exact t3⟩)
    have HC := Lib.hid hc
    rw [decide_eq_true hs] at c4
    rw [if_pos hs] at c5
    have hb : (d.left == 0) = false := by simpa using hne
    clear hn hs hc t0 t1 t2 t3 hne
    generalize d.left = z at *
    go_enter Try.func36, Try.ntmps36
    go_wp2
    go_ret
    exact ⟨rfl, HS.out, HC.out⟩
  · have HS := Lib.hid (show ImpV w q r vS vL vK d.less by rw [less_same (by omega)]; exact H.out)
    rw [decide_eq_false hs] at c4
    clear c5 hn hs hne
    go_enter Try.func36, Try.ntmps36
    go_wp2
    go_ret
    exact ⟨rfl, HS.out, Chg.refl _ _⟩
set_option maxRecDepth 100000 in
set_option maxHeartbeats 1000000 in
theorem change_yes {w : World} {q r : Nat} {vS vL vK : Value} {d : RD} (h : ImpV w q r vS vL vK d) (hok : d.ok) (hf : d.loose.length ≤ 1000000) (hn : d.fails = true) :
    Calls Try.prog 36 #[.pointer (some ⟨r, 0, none⟩)] w fun e w' => e = .returned (.int .i64 61) ∧ ImpV w' q r vS (.slice none 0 0) (.slice none 0 0) (d.fall d.keep) ∧ Chg (fun j => j = r ∨ vS.ownBlock = some j) w w' := by
  have h0 : d.left = 0 := by unfold RD.fails at hn; simpa using hn
  obtain ⟨-, c0, c1, c2, c3, c4, c5, c6⟩ := h.cell
  have hk := h.k
  rw [show d.kept = d.keep by unfold RD.kept; rw [h0]; rfl] at hk
  have HG := Lib.hid (goDown_any h hok hf (owns_keep hk) (fun ad n cap e _ es => owns_apart h.k h.s (by decide) ad.block (by rw [e]; rfl) es))
  rw [h0] at c4 c5
  obtain ⟨aK, capK, rfl⟩ := owns_form hk
  clear h hok hk h0 hn hf
  go_enter Try.func36, Try.ntmps36
  go_wp2_with (go_at_call 39; ((with_reducible refine (HG.out).mono ?_); rintro e w1 ⟨rfl, V1, C1⟩); have HV := Lib.hid V1; have HD := Lib.hid C1; clear V1 C1)
  go_ret
  exact ⟨rfl, HV.out, HD.out⟩
theorem own_of_chg {w w' : World} {q r : Nat} {vS vL vK : Value} (h : Chg (fun j => j = r ∨ vS.ownBlock = some j) w w') : Chg (impOwn q r vS vL vK) w w' := h.mono (fun k _ hk => by
  rcases hk with hk | hk
  · exact .inr (.inl hk)
  · exact .inr (.inr (.inl hk)))
theorem own_fewer {q r : Nat} {vS vL vK vL' vK' : Value} {H : Nat} (hL : vL' = vL ∨ vL'.ownBlock = none) (hK : vK' = vK ∨ vK'.ownBlock = none) : ∀ k, impOwn q r vS vL' vK' k → impOwn q r vS vL vK k ∨ H ≤ k := by
  intro k hk
  refine .inl ?_
  rcases hk with hk | hk | hk | hk | hk
  · exact .inl hk
  · exact .inr (.inl hk)
  · exact .inr (.inr (.inl hk))
  · rcases hL with rfl | hL
    · exact .inr (.inr (.inr (.inl hk)))
    · rw [hL] at hk; cases hk
  · rcases hK with rfl | hK
    · exact .inr (.inr (.inr (.inr hk)))
    · rw [hK] at hk; cases hk
set_option maxHeartbeats 1000000 in
theorem crash_any {w : World} {q : Nat} {d : RD} {o : Nat → Prop} {v : Value} {ks : List Bool} (h : ImpInv w q d o) (hok : d.ok) (hf : d.few) (hk : KeepAt w v ks) (hv : ∀ ad n cap, v = .slice (some ad) n cap → 0 < n → ¬ o ad.block) :
    Calls Try.prog 16 #[.pointer (some ⟨q, 0, none⟩), v] w fun e w' => e = .returned (.int .i64 (d.crash ks).2) ∧ InvPost ImpInv w q o (d.crash ks).1 w' := by
  obtain ⟨r, vS, vL, vK, h, rfl⟩ := h
  obtain ⟨c, c0, c1, c2, c3, c4, c5, c6⟩ := h.cell
  have hl := hf.loose
  have CR := refusal_any c c2
  have HG := Lib.hid (goDown_any h hok (by omega) hk (fun ad n cap e hn es => hv ad n cap e hn (.inr (.inr (.inl es)))))
  have H := Lib.hid h
  obtain ⟨aK, capK, hva⟩ := keep_form hk
  subst hva
  clear h hok hf hk hv hl
  cases hd : d.down
  · have HR := Lib.hid (show d.crash ks = (d.fall ks, 0) by unfold RD.crash; rw [hd]; rfl)
    rw [hd, if_neg (by decide)] at CR
    clear hd
    go_enter Try.func16, Try.ntmps16
    go_wp2_with (first
      | (go_at_call 32; ((with_reducible refine (CR).mono ?_); rintro e w0 ⟨rfl, rfl⟩))
      | (go_at_call 39; ((with_reducible refine (HG.out).mono ?_); rintro e w1 ⟨rfl, V1, C1⟩); have HV := Lib.hid V1; have HD := Lib.hid C1; clear V1 C1))
    go_ret
    exact ⟨retInt (by rw [HR.out]), by rw [HR.out]; exact imp_post HV.out (own_of_chg HD.out) (own_fewer (.inr rfl) (.inr rfl))⟩
  · have HR := Lib.hid (show d.crash ks = (d, 61) by unfold RD.crash; rw [hd]; rfl)
    rw [hd, if_pos rfl] at CR
    clear hd
    go_enter Try.func16, Try.ntmps16
    go_wp2_with (go_at_call 32; ((with_reducible refine (CR).mono ?_); rintro e w0 ⟨rfl, rfl⟩))
    go_ret
    exact ⟨retInt (by rw [HR.out]), by rw [HR.out]; exact imp_same H.out (Chg.refl _ _)⟩
theorem RD.less_down (d : RD) : d.less.down = d.down := rfl
set_option maxHeartbeats 1000000 in
theorem flush_any {w : World} {q : Nat} {d : RD} {o : Nat → Prop} (h : ImpInv w q d o) (hok : d.ok) (hf : d.few) :
    Calls Try.prog 15 #[.pointer (some ⟨q, 0, none⟩)] w fun e w' => e = .returned (.int .i64 d.flush.2) ∧ InvPost ImpInv w q o d.flush.1 w' := by
  obtain ⟨r, vS, vL, vK, h, rfl⟩ := h
  obtain ⟨c, c0, c1, c2, c3, c4, c5, c6⟩ := h.cell
  have hl := hf.loose
  have CR := refusal_any c c2
  have H := Lib.hid h
  cases hd : d.down
  · rw [hd, if_neg (by decide)] at CR
    cases hn : d.fails
    · have HR := Lib.hid (show d.flush = ({ d.less with sure := flushN d.sure d.loose d.loose.length, loose := [] }, 0) by unfold RD.flush; rw [hd, hn]; rfl)
      have CC := Lib.hid (change_no h hok hn)
      have HQ := Lib.hid (show ∀ w1, ImpV w1 q r vS vL vK d.less → ImpV w1 q r vS vL vK d.less ∧ w1.cell? ⟨q, 0, none⟩ = some (.pointer (some ⟨r, 0, none⟩)) from fun w1 m => ⟨m, m.cell.1⟩)
      have HC := Lib.hid (show ∀ w1, ImpV w1 q r vS vL vK d.less → _ from fun w1 m => settle_any m hok.less (by show d.loose.length ≤ 1000000; omega) (fun _ => true) (fun _ => True) (fun _ _ _ _ => trivial) trivial 38 #[] (fun _ _ => rfl) (fun w1 i _ _ => flush1_any i w1))
      have HE := Lib.hid (settleG_all d.sure d.loose d.loose.length)
      clear h hok hf hl hd hn c0 c1 c2 c3 c4 c5 c6
      go_enter Try.func15, Try.ntmps15
      go_wp2_with (first
        | (go_at_call 32; ((with_reducible refine (CR).mono ?_); rintro e w0 ⟨rfl, rfl⟩))
        | (go_at_call 36; ((with_reducible refine (CC.out).mono ?_); rintro e w1 ⟨rfl, V1, C1⟩); have c1 := V1.cell.1; have HV := Lib.hid V1; have HD := Lib.hid C1; clear V1 C1)
        | (go_at_call 37; ((with_reducible refine (HC.out _ HV.out).mono ?_); rintro e w2 ⟨rfl, V2, C2⟩); have HV2 := Lib.hid V2; have HD2 := Lib.hid C2; clear V2 C2))
      go_ret
      refine ⟨retInt (by rw [HR.out]), ?_⟩
      rw [HR.out]
      have V2 := HV2.out
      rw [show settleG d.less.sure d.less.loose (fun _ => true) d.less.loose.length = flushN d.sure d.loose d.loose.length from HE.out] at V2
      exact imp_post V2 (own_of_chg ((HD.out.mono (fun _ _ h => .inl h)).trans HD2.out (fun _ _ h => h))) (own_fewer (.inr rfl) (.inl rfl))
    · have HR := Lib.hid (show d.flush = (d.less.fall d.keep, 61) by unfold RD.flush; rw [hd, hn]; rfl)
      have hz : d.left = 0 := by unfold RD.fails at hn; simpa using hn
      have HL := Lib.hid (show d.less = d from less_same (by omega))
      clear hz
      have CC := Lib.hid (change_yes h hok (by omega) hn)
      clear h hok hf hl hd hn c0 c1 c2 c3 c4 c5 c6
      go_enter Try.func15, Try.ntmps15
      go_wp2_with (first
        | (go_at_call 32; ((with_reducible refine (CR).mono ?_); rintro e w0 ⟨rfl, rfl⟩))
        | (go_at_call 36; ((with_reducible refine (CC.out).mono ?_); rintro e w1 ⟨rfl, V1, C1⟩); have HV := Lib.hid V1; have HD := Lib.hid C1; clear V1 C1))
      go_ret
      refine ⟨retInt (by rw [HR.out]), ?_⟩
      rw [HR.out, HL.out]
      exact imp_post HV.out (own_of_chg HD.out) (own_fewer (.inr rfl) (.inr rfl))
  · have HR := Lib.hid (show d.flush = (d, 61) by unfold RD.flush; rw [hd]; rfl)
    rw [hd, if_pos rfl] at CR
    clear hd h hok hf
    go_enter Try.func15, Try.ntmps15
    go_wp2_with (go_at_call 32; ((with_reducible refine (CR).mono ?_); rintro e w0 ⟨rfl, rfl⟩))
    go_ret
    exact ⟨retInt (by rw [HR.out]), by rw [HR.out]; exact imp_same H.out (Chg.refl _ _)⟩
end Go.Proofs.Ytikeobmcnpncjaa
