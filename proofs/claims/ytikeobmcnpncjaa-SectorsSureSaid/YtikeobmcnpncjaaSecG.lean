/- Layer 6: the document's disk: Flush. -/
import Derived.Test.YtikeobmcnpncjaaSecF
namespace Go.Proofs.Ytikeobmcnpncjaa
open Go.RowKit

set_option maxRecDepth 100000 in
set_option maxHeartbeats 2000000 in
theorem rflush_any {w : World} {p : Nat} {vS vL vK : Value} {d : RD} (h : RefV w p vS vL vK d) (hok : d.ok) (hl : d.loose.length ≤ 1000000) :
    Calls Try.prog 27 #[.pointer (some ⟨p, 0, none⟩)] w fun e w' => e = .returned (.int .i64 d.flush.2) ∧ RefPost w p vS vL vK d.flush.1 w' := by
  have c2 := h.cell.2.2.1
  have H := Lib.hid h
  have HOK := Lib.hid hok
  cases hd : d.down
  · rw [hd] at c2
    have CF := Lib.hid (rfails_any h hok)
    cases hf : d.fails
    · have HR := Lib.hid (show d.flush = ({ d.less with sure := flushN d.sure d.loose d.loose.length, loose := [] }, 0) by unfold RD.flush; rw [hd, if_neg (by decide), hf]; rfl)
      rw [hf] at CF
      obtain ⟨gS, capS, rfl⟩ := owns_some h.s (by have := hok.lo; omega)
      obtain ⟨aL, capL, rfl⟩ := owns_form h.l
      obtain ⟨j0, ji, jz0, jz1, jz2⟩ := info_parts info_string
      have HS1 := Lib.hid (strings_one d.sure)
      have HS2 := Lib.hid (show (d.sure.map Value.string).length = d.sure.length * 1 by simp)
      have HLT := Lib.hid h.lt
      have lo := hok.lo
      have hi := hok.hi
      obtain ⟨xs, hxs⟩ : ∃ xs, xs = d.sure.map Value.string := ⟨_, rfl⟩
      rw [← hxs] at HS1 HS2
      have HXS := Lib.hid hxs
      clear hd hf h hok hxs
      go_enter Try.func27, Try.ntmps27
      go_wp2_with (first
        | (go_at_call 48; ((with_reducible refine (CF.out).mono ?_); rintro e w0 ⟨rfl, V0, C0⟩); have HV := Lib.hid V0; have HC := Lib.hid C0; have d0 := V0.cell.1; have d1 := V0.cell.2.1; have HS3 := Lib.hid (show ∀ j u, xs[j]? = some u → w0.cell? ((⟨gS, 0, none⟩ : Addr).add j) = some u by rw [HXS.out]; exact V0.s.cells rfl); clear V0 C0 c2)
        | (at_builtin; refine wpList_append_lies _ rfl _ _ 58 rfl w0.heap.size 9 j0 (.string ⟨#[]⟩) 1 16 Try.underlying58 ji jz0 jz1 jz2 rfl (by decide) _ 0 [] rfl (World.ownsRow_nil _ _ _ _) ⟨gS, 0, none⟩ d.sure.length capS xs rfl HS2.out HS3.out HS1.out (by omega) (by unfold maxLen; omega) (by omega) (Nat.le_refl _) w0.heap.size rfl ?_; intro g cap w1 hown hgrow hat hgl))
      have hv0 := HV.out
      have b1 : Below w0.heap.size w0 w1 := (Below.refl _ _).grown hgrow (Nat.le_refl _) (fun j hj => by cases hj)
      have M1 : SetM w0 w1 p (.slice (some ⟨gS, 0, none⟩) d.sure.length capS) (.slice aL d.loose.length capL) vK d.less g d.sure.length cap d.sure :=
        ⟨hv0.below b1, by rw [HXS.out] at hown; simpa using hown, b1, rfl⟩
      have M := Lib.hid M1
      have gw := (M1.o.lt g rfl).1
      clear hown hgrow hat hgl b1 M1 HS1 HS2 HS3 HXS hv0 d0 d1
      obtain ⟨N, hN⟩ : ∃ N, N = d.loose.length := ⟨_, rfl⟩
      obtain ⟨S, hS⟩ : ∃ S, S = d.sure.length := ⟨_, rfl⟩
      have HN := Lib.hid hN
      have HSS := Lib.hid hS
      rw [← hN] at hl M
      rw [← hS] at lo hi M ⊢
      clear hN hS xs
      go_loopw [4] (fun i wr => ∃ k : Nat, k ≤ N ∧ i = .int .i64 k ∧ SetM w0 wr p (.slice (some ⟨gS, 0, none⟩) S capS) (.slice aL N capL) vK d.less g S cap (flushN d.sure d.loose k)) (fun i _ => N - (intOf i).toNat)
      case atStart => exact ⟨0, Nat.zero_le _, rfl, M.out⟩
      case round =>
        obtain ⟨k, hk, rfl, hm⟩ := hrel
        clear M
        obtain ⟨c0, c1, c2, _, _, _⟩ := hm.v.cell
        have MM := Lib.hid hm
        by_cases hlt : k < N
        · have g1 : (k : Int) < (N : Int) := by omega
          have g0 : (0 : Int) ≤ (k : Int) := by omega
          obtain ⟨x, hx⟩ : ∃ x, x = d.loose.getD k (0, ByteArray.empty) := ⟨_, rfl⟩
          have HST := Lib.hid (show flushN d.sure d.loose (k + 1) = (flushN d.sure d.loose k).set x.1 x.2 by rw [flushN, hx])
          obtain ⟨gL, capL', hv⟩ := owns_some hm.v.l (by show 0 < d.loose.length; rw [← HN.out]; omega)
          have haL : aL = some ⟨gL, 0, none⟩ := by simp only [Value.slice.injEq] at hv; exact hv.1
          clear hv
          subst haL
          have hL : wr.ownsRow 0 72 2 (.slice (some ⟨gL, 0, none⟩) N capL) N (looseV d.loose) := by
            have := hm.v.l
            rw [show d.less.loose.length = N from HN.out.symm] at this
            exact this
          obtain ⟨e1, e2⟩ := owns_loose hL HN.out (k := k) (by rw [← HN.out]; exact hlt)
          rw [← hx] at e1 e2
          have hin : x.1 < S := by
            rw [HSS.out, hx]
            refine HOK.out.within _ ?_
            rw [List.getD_eq_getElem?_getD, List.getElem?_eq_getElem (by rw [← HN.out]; exact hlt)]
            exact List.getElem_mem _
          have ho : ∃ ob, wr.cell? ⟨g, x.1, none⟩ = some ob := ⟨_, (hm.o.cellAt x.1 (by omega)).trans (List.getElem?_eq_getElem (by rw [List.length_map, hm.n]; exact hin))⟩
          obtain ⟨ob, ho⟩ := ho
          have hf := hm.o.frozenAt x.1
          obtain ⟨y, t⟩ := x
          have i1 : (y : Int) < (S : Int) := by omega
          have i0 : (0 : Int) ≤ (y : Int) := by omega
          clear hx hL hm
          go_wp2
          go_still_tail 18, (by kernel_rfl)
          change wpList _ _ _ _ _ wr.drew
          have M2 := Lib.hid ((MM.out.drew).put HV.out.lt y t)
          have ho' : wr.drew.cell? ⟨g, y, none⟩ = some ob := ho
          have hf' : wr.drew.frozen? ⟨g, y, none⟩ = false := hf
          clear ho hf c0 c1 c2 e1 e2 MM
          generalize wr.drew = wq at *
          go_wp2
          go_roundw
          case rel => exact ⟨k + 1, by omega, by go_num, by rw [HST.out]; exact M2.out⟩
          case measure => simp [intOf]; omega
        · obtain rfl : k = N := by omega
          have f0 := hm.v.free 0
          have f1 := hm.v.free 1
          clear hm hlt hk
          go_wp2
          go_ret
          refine ⟨retInt (by rw [HR.out]), ?_⟩
          rw [HR.out, ← HSS.out, ← HN.out]
          have hc : Chg (· = p) wr ((wr.setCell ⟨p, 0, none⟩ (.slice (some ⟨g, 0, none⟩) S cap)).setCell ⟨p, 1, none⟩ (.slice none 0 0)) := ((Chg.refl _ _).setP _ _).setP _ _
          have hp := HV.out.lt p (.inl rfl)
          exact (MM.out.done hp hc (d' := { d.less with sure := flushN d.sure d.loose k, loose := [] }) (rowC_set (rowC_set MM.out.v.r 0 _) 1 _) rfl (World.ownsRow_nil _ _ _ _) (.inr rfl) rfl).trans HC.out (fun _ hk => .inl hk)
    · have HR := Lib.hid (show d.flush = (d.less.fall d.keep, 61) by unfold RD.flush; rw [hd, if_neg (by decide), hf]; rfl)
      have HCR := Lib.hid (show d.less.crash d.keep = (d.less.fall d.keep, 0) by unfold RD.crash; rw [show d.less.down = d.down from rfl, hd]; rfl)
      rw [hf] at CF
      obtain ⟨aK, capK, rfl⟩ := owns_form h.k
      clear hd hf h hok
      go_enter Try.func27, Try.ntmps27
      go_wp2_with (first
        | (go_at_call 48; ((with_reducible refine (CF.out).mono ?_); rintro e w0 ⟨rfl, V0, C0⟩); have HV := Lib.hid V0; have HC := Lib.hid C0; have d5 := V0.cell.2.2.2.2.2; have CC := Lib.hid (rcrash_any V0 HOK.out.less (owns_keep V0.k) hl); clear V0 C0 c2)
        | (go_at_call 28; ((refine (CC.out).mono ?_); rintro e w2 ⟨rfl, P2⟩)))
      go_ret
      refine ⟨retInt (by rw [HR.out]), ?_⟩
      rw [show d.less.keep = d.keep from rfl, HCR.out] at P2
      rw [HR.out]
      exact P2.trans HC.out (fun _ hk => .inl hk)
  · have HR := Lib.hid (show d.flush = (d, 61) by unfold RD.flush; rw [hd]; rfl)
    rw [hd] at c2
    clear hd h hok
    go_enter Try.func27, Try.ntmps27
    go_wp2
    go_ret
    exact ⟨retInt (by rw [HR.out]), by rw [HR.out]; exact RefPost.same H.out (Chg.refl _ _)⟩
end Go.Proofs.Ytikeobmcnpncjaa
