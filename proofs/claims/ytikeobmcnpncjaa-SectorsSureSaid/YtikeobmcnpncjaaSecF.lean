/- Layer 6: the document's disk: Crash. -/
import Derived.Test.YtikeobmcnpncjaaSecE
namespace Go.Proofs.Ytikeobmcnpncjaa
open Go.RowKit

theorem keep_form {w : World} {v : Value} {ks : List Bool} (h : KeepAt w v ks) : ∃ a cap, v = .slice a ks.length cap := by
  rcases h with ⟨rfl, rfl⟩ | ⟨ad, cap, rfl, _⟩
  · exact ⟨none, 0, rfl⟩
  · exact ⟨_, cap, rfl⟩
theorem keep_at {w : World} {a : Option Addr} {n cap : Nat} {ks : List Bool} (h : KeepAt w (.slice a n cap) ks) {k : Nat} (hk : k < ks.length) : ∃ ad : Addr, a = some ad ∧ w.cell? (ad.add k) = some (.bool (ks.getD k false)) := by
  rcases h with ⟨_, rfl⟩ | ⟨ad, cap', hv, hc⟩
  · simp at hk
  · simp only [Value.slice.injEq] at hv
    exact ⟨ad, hv.1, hc k hk⟩
theorem strings_one (l : List ByteArray) : ∀ u ∈ l.map Value.string, u.oneCell' = true := fun u hu => by
  obtain ⟨x, _, rfl⟩ := List.mem_map.1 hu
  rfl
/-- A copy of a disk's sectors goes round: what is settled so far. -/
structure SetM (w wr : World) (p : Nat) (vS vL vK : Value) (d : RD) (g n cap : Nat) (l : List ByteArray) : Prop where
  v : RefV wr p vS vL vK d
  o : wr.ownsRow w.heap.size 9 1 (.slice (some ⟨g, 0, none⟩) n cap) n (l.map Value.string)
  b : Below w.heap.size w wr
  n : l.length = n
theorem SetM.put {w wr : World} {p : Nat} {vS vL vK : Value} {d : RD} {g n cap : Nat} {l : List ByteArray} (h : SetM w wr p vS vL vK d g n cap l) (ho : ∀ k, refOwn p vS vL vK k → k < w.heap.size) (i : Nat) (s : ByteArray) : SetM w (wr.setCell ⟨g, i, none⟩ (.string s)) p vS vL vK d g n cap (l.set i s) := by
  have hg := (h.o.lt g rfl).1
  refine ⟨h.v.chg (s := (· = g)) ((Chg.refl _ _).setCell _ _ (.inl rfl)) (fun k hk hkg => by have := ho k hk; omega), ?_, h.b.setCell (p := ⟨g, i, none⟩) hg _, by rw [List.length_set]; exact h.n⟩
  have := (h.o.stored i (.string s)).1
  rw [← List.map_set] at this
  exact this
theorem SetM.drew {w wr : World} {p : Nat} {vS vL vK : Value} {d : RD} {g n cap : Nat} {l : List ByteArray} (h : SetM w wr p vS vL vK d g n cap l) : SetM w wr.drew p vS vL vK d g n cap l :=
  ⟨h.v.chg (s := fun _ => False) (Chg.refl _ _).drew (fun _ _ => id), h.o.drew, h.b.drew, h.n⟩
/-- The copy takes the place of what was sure. -/
theorem SetM.done {w wr : World} {p : Nat} {vS vL vK : Value} {d : RD} {g n cap : Nat} {l : List ByteArray} (h : SetM w wr p vS vL vK d g n cap l) (hp : p < w.heap.size) {w' : World} (hc : Chg (· = p) wr w') {vL' : Value} {d' : RD}
    (hr : rowC w' p (refC (.slice (some ⟨g, 0, none⟩) n cap) vL' vK d') 66) (hs : d'.sure = l) (hl : w'.ownsRow 0 72 2 vL' d'.loose.length (looseV d'.loose)) (hL : vL' = vL ∨ vL' = .slice none 0 0) (hk : d'.keep = d.keep) : RefPost w p vS vL vK d' w' := by
  have hg := (h.o.lt g rfl).1
  refine ⟨.slice (some ⟨g, 0, none⟩) n cap, vL', vK, ⟨hr, ?_, hl, ?_⟩, (Chg.of_below h.b).trans hc (fun _ _ h => h), fun k hk => ?_⟩
  · rw [hs, h.n]
    exact hc.owns (owns_base h.o) (fun j hj hjp => by simp [Value.ownBlock] at hj; omega)
  · rw [hk]
    exact hc.owns h.v.k (owns_ne h.v.k h.v.r (by decide))
  · rcases hk with hk | hk | hk | hk
    · exact .inl (.inl hk)
    · simp [Value.ownBlock] at hk
      exact .inr (by omega)
    · rcases hL with rfl | rfl
      · exact .inl (.inr (.inr (.inl hk)))
      · cases hk
    · exact .inl (.inr (.inr (.inr hk)))
set_option maxRecDepth 100000 in
set_option maxHeartbeats 2000000 in
theorem rcrash_any {w : World} {p : Nat} {vS vL vK : Value} {d : RD} (h : RefV w p vS vL vK d) (hok : d.ok) {v : Value} {ks : List Bool} (hk : KeepAt w v ks) (hl : d.loose.length ≤ 1000000) :
    Calls Try.prog 28 #[.pointer (some ⟨p, 0, none⟩), v] w fun e w' => e = .returned (.int .i64 (d.crash ks).2) ∧ RefPost w p vS vL vK (d.crash ks).1 w' := by
  obtain ⟨c0, c1, c2, _, _, _⟩ := h.cell
  have H := Lib.hid h
  cases hd : d.down
  · have HR := Lib.hid (show d.crash ks = (d.fall ks, 0) by unfold RD.crash; rw [hd]; rfl)
    rw [hd] at c2
    obtain ⟨gS, capS, rfl⟩ := owns_some h.s (by have := hok.lo; omega)
    obtain ⟨aL, capL, rfl⟩ := owns_form h.l
    obtain ⟨aK, capK, rfl⟩ := keep_form hk
    obtain ⟨j0, ji, jz0, jz1, jz2⟩ := info_parts info_string
    have HS1 := Lib.hid (strings_one d.sure)
    have HS2 := Lib.hid (show (d.sure.map Value.string).length = d.sure.length * 1 by simp)
    have HS3 := Lib.hid (h.s.cells rfl)
    have HOK := Lib.hid hok
    have HK := Lib.hid hk
    have HLT := Lib.hid h.lt
    have lo := hok.lo
    have hi := hok.hi
    obtain ⟨xs, hxs⟩ : ∃ xs, xs = d.sure.map Value.string := ⟨_, rfl⟩
    rw [← hxs] at HS1 HS2 HS3
    have HXS := Lib.hid hxs
    clear hd h hok hk hxs
    go_enter Try.func28, Try.ntmps28
    go_wp2_with (at_builtin; refine wpList_append_lies _ rfl _ _ 58 rfl w.heap.size 9 j0 (.string ⟨#[]⟩) 1 16 Try.underlying58 ji jz0 jz1 jz2 rfl (by decide) _ 0 [] rfl (World.ownsRow_nil _ _ _ _) ⟨gS, 0, none⟩ d.sure.length capS xs rfl HS2.out HS3.out HS1.out (by omega) (by unfold maxLen; omega) (by omega) (Nat.le_refl _) w.heap.size rfl ?_; intro g cap w1 hown hgrow hat hgl)
    obtain ⟨S, hS⟩ : ∃ S, S = d.sure.length := ⟨_, rfl⟩
    have b1 : Below w.heap.size w w1 := (Below.refl _ _).grown hgrow (Nat.le_refl _) (fun j hj => by cases hj)
    have M1 : SetM w w1 p (.slice (some ⟨gS, 0, none⟩) d.sure.length capS) (.slice aL d.loose.length capL) vK d g d.sure.length cap d.sure :=
      ⟨H.out.below b1, by rw [HXS.out] at hown; simpa using hown, b1, rfl⟩
    have M := Lib.hid M1
    have gw := (M1.o.lt g rfl).1
    clear hown hgrow hat hgl b1 M1 HS1 HS2 HS3 HXS hS
    obtain ⟨N, hN⟩ : ∃ N, N = d.loose.length := ⟨_, rfl⟩
    obtain ⟨K, hK⟩ : ∃ K, K = ks.length := ⟨_, rfl⟩
    obtain ⟨S, hS⟩ : ∃ S, S = d.sure.length := ⟨_, rfl⟩
    have HN := Lib.hid hN
    have HKK := Lib.hid hK
    have HSS := Lib.hid hS
    rw [← hN] at hl c1 M
    rw [← hK] at HK ⊢
    rw [← hS] at lo hi c0 M ⊢
    clear hN hK hS c0 c1 c2 xs
    go_loopw [6] (fun i wr => ∃ k : Nat, k ≤ min N K ∧ i = .int .i64 k ∧ SetM w wr p (.slice (some ⟨gS, 0, none⟩) S capS) (.slice aL N capL) vK d g S cap (settleN d.sure d.loose ks k)) (fun i _ => min N K - (intOf i).toNat)
    case atStart => exact ⟨0, Nat.zero_le _, rfl, M.out⟩
    case round =>
      obtain ⟨k, hk, rfl, hm⟩ := hrel
      clear M
      obtain ⟨c0, c1, c2, _, _, _⟩ := hm.v.cell
      by_cases hlt : k < min N K
      · have hkn : k < N := by omega
        have hkk : k < K := by omega
        have g1 : (k : Int) < (N : Int) := by omega
        have g2 : (k : Int) < (K : Int) := by omega
        have g0 : (0 : Int) ≤ (k : Int) := by omega
        obtain ⟨bK, rfl, cK⟩ := keep_at (HK.out.keep hm.b) (k := k) (by rw [← HKK.out]; exact hkk)
        have MM := Lib.hid hm
        cases hkb : ks.getD k false
        · have HST := Lib.hid (show settleN d.sure d.loose ks (k + 1) = settleN d.sure d.loose ks k by rw [settleN, hkb]; rfl)
          rw [hkb] at cK
          clear hkb hm
          go_wp2
          go_roundw
          case rel => exact ⟨k + 1, by omega, by go_num, by rw [HST.out]; exact MM.out⟩
          case measure => simp [intOf]; omega
        · obtain ⟨x, hx⟩ : ∃ x, x = d.loose.getD k (0, ByteArray.empty) := ⟨_, rfl⟩
          have HST := Lib.hid (show settleN d.sure d.loose ks (k + 1) = (settleN d.sure d.loose ks k).set x.1 x.2 by rw [settleN, hkb, hx]; rfl)
          obtain ⟨gL, capL', hv⟩ := owns_some hm.v.l (by rw [← HN.out]; omega)
          have haL : aL = some ⟨gL, 0, none⟩ := by simp only [Value.slice.injEq] at hv; exact hv.1
          clear hv
          subst haL
          have hL := hm.v.l
          rw [← HN.out] at hL
          obtain ⟨e1, e2⟩ := owns_loose hL HN.out (k := k) (by rw [← HN.out]; exact hkn)
          rw [← hx] at e1 e2
          have hin : x.1 < S := by
            rw [HSS.out, hx]
            refine HOK.out.within _ ?_
            rw [List.getD_eq_getElem?_getD, List.getElem?_eq_getElem (by rw [← HN.out]; exact hkn)]
            exact List.getElem_mem _
          have ho : ∃ ob, wr.cell? ⟨g, x.1, none⟩ = some ob := ⟨_, (hm.o.cellAt x.1 (by omega)).trans (List.getElem?_eq_getElem (by rw [List.length_map, hm.n]; exact hin))⟩
          obtain ⟨ob, ho⟩ := ho
          have hf := hm.o.frozenAt x.1
          obtain ⟨y, t⟩ := x
          have i1 : (y : Int) < (S : Int) := by omega
          have i0 : (0 : Int) ≤ (y : Int) := by omega
          rw [hkb] at cK
          clear hkb hx hL hm
          go_wp2
          go_still_tail 18, (by kernel_rfl)
          change wpList _ _ _ _ _ wr.drew
          have M2 := Lib.hid ((MM.out.drew).put HLT.out y t)
          have ho' : wr.drew.cell? ⟨g, y, none⟩ = some ob := ho
          have hf' : wr.drew.frozen? ⟨g, y, none⟩ = false := hf
          clear ho hf c0 c1 c2 e1 e2 cK MM
          generalize wr.drew = wq at *
          go_wp2
          go_roundw
          case rel => exact ⟨k + 1, by omega, by go_num, by rw [HST.out]; exact M2.out⟩
          case measure => simp [intOf]; omega
      · have hk' : k = min N K := by omega
        have hg : ((k : Int) < (N : Int)) = False ∨ (((k : Int) < (N : Int)) = True ∧ ((k : Int) < (K : Int)) = False) := by
          simp only [eq_iff_iff, iff_false, iff_true]
          omega
        have c4 := hm.v.cell.2.2.2.2.1
        have f0 := hm.v.free 0
        have f1 := hm.v.free 1
        have f2 := hm.v.free 2
        have f4 := hm.v.free 4
        have HE := Lib.hid (show settleN d.sure d.loose ks k = (d.fall ks).sure by rw [hk', HN.out, HKK.out]; rfl)
        have MM := Lib.hid hm
        clear hm hk' hlt hk
        rcases hg with hg | ⟨hg, hg2⟩
        all_goals
          go_wp2
          go_ret
          refine ⟨retInt (by rw [HR.out]), ?_⟩
          rw [HR.out, ← HSS.out, ← HN.out]
          have hc : Chg (· = p) wr ((((wr.setCell ⟨p, 0, none⟩ (.slice (some ⟨g, 0, none⟩) S cap)).setCell ⟨p, 1, none⟩ (.slice none 0 0)).setCell ⟨p, 2, none⟩ (.bool true)).setCell ⟨p, 4, none⟩ (.int .i64 (-1))) := ((((Chg.refl _ _).setP _ _).setP _ _).setP _ _).setP _ _
          exact MM.out.done (HLT.out p (.inl rfl)) hc (d' := d.fall ks) (rowC_set (rowC_set (rowC_set (rowC_set MM.out.v.r 0 _) 1 _) 2 _) 4 _) HE.out.symm (World.ownsRow_nil _ _ _ _) (.inr rfl) rfl
  · have HR := Lib.hid (show d.crash ks = (d, 61) by unfold RD.crash; rw [hd]; rfl)
    rw [hd] at c2
    obtain ⟨aK, capK, rfl⟩ := keep_form hk
    clear hd h hok hk
    go_enter Try.func28, Try.ntmps28
    go_wp2
    go_ret
    exact ⟨retInt (by rw [HR.out]), by rw [HR.out]; exact RefPost.same H.out (Chg.refl _ _)⟩
end Go.Proofs.Ytikeobmcnpncjaa
