/- Layer 6: the program's disk: settle, by whatever tells what stays. -/
import Derived.Test.YtikeobmcnpncjaaSecS
namespace Go.Proofs.Ytikeobmcnpncjaa
open Go.RowKit

/-- What the first k loose writes come to, of which st says that they stay. -/
def settleG (sure : List ByteArray) (l : List (Nat × ByteArray)) (st : Nat → Bool) : Nat → List ByteArray
  | 0 => sure
  | k + 1 => if st k = true then (settleG sure l st k).set (l.getD k (0, ByteArray.empty)).1 (l.getD k (0, ByteArray.empty)).2 else settleG sure l st k
theorem settleG_length (sure : List ByteArray) (l : List (Nat × ByteArray)) (st : Nat → Bool) (k : Nat) : (settleG sure l st k).length = sure.length := by
  induction k with
  | zero => rfl
  | succ k ih =>
    rw [settleG]
    split
    · rw [List.length_set, ih]
    · exact ih
/-- Another list of sure sectors, as long as it was. -/
def RD.put (d : RD) (l : List ByteArray) : RD := { d with sure := l }
/-- What settle's rounds leave of it. -/
structure SetV (M : World → Prop) (w wr : World) (q r : Nat) (vS vL vK : Value) (d : RD) (k : Nat) (st : Nat → Bool) : Prop where
  v : ImpV wr q r vS vL vK (d.put (settleG d.sure d.loose st k))
  c : Chg (fun j => vS.ownBlock = some j) w wr
  m : M wr
/-- Two rows of unlike cells lie in two blocks. -/
theorem owns_apart {w : World} {b1 b2 s1 s2 n1 n2 : Nat} {e1 e2 : TypeId} {v1 v2 : Value} {xs1 xs2 : List Value} (h1 : w.ownsRow b1 e1 s1 v1 n1 xs1) (h2 : w.ownsRow b2 e2 s2 v2 n2 xs2) (hne : e1 ≠ e2) : ∀ g, v1.ownBlock = some g → ¬ v2.ownBlock = some g := by
  intro g hg hg2
  rcases h2.2 with ⟨hv, _⟩ | ⟨g', cap, cur, hv, _, hgg, _⟩
  · rw [hv] at hg2; cases hg2
  · rw [hv] at hg2
    simp [Value.ownBlock] at hg2
    subst hg2
    have := owns_ne (cs := cur) h1 (show rowC w g' cur e2 from hgg) hne
    exact absurd rfl (this g' hg)
/-- A sector of it is another one. -/
theorem ImpV.put {w : World} {q r g n cap : Nat} {vL vK : Value} {d : RD} {l : List ByteArray} (h : ImpV w q r (.slice (some ⟨g, 0, none⟩) n cap) vL vK (d.put l)) (hn : l.length = n) (i : Nat) (t : ByteArray) : ImpV (w.setCell ⟨g, i, none⟩ (.string t)) q r (.slice (some ⟨g, 0, none⟩) n cap) vL vK (d.put (l.set i t)) := by
  have hc : Chg (· = g) w (w.setCell ⟨g, i, none⟩ (.string t)) := (Chg.refl _ _).setCell _ _ (.inl rfl)
  refine ⟨hc.rowC h.q (fun e => owns_ne h.s h.q (by decide) g rfl e.symm), hc.rowC h.r (fun e => owns_ne h.s h.r (by decide) g rfl e.symm), ?_, hc.owns h.l (fun j hj e => ?_), hc.owns h.k (fun j hj e => ?_)⟩
  · have hs := h.s
    rw [show (d.put l).sure.length = n from hn, show (d.put l).sure = l from rfl] at hs
    have := (hs.stored i (.string t)).1
    rw [← List.map_set] at this
    rw [show (d.put (l.set i t)).sure.length = n by show (l.set i t).length = n; rw [List.length_set]; exact hn]
    exact this
  · subst e; exact owns_apart h.l h.s (by decide) j hj rfl
  · subst e; exact owns_apart h.k h.s (by decide) j hj rfl
set_option maxRecDepth 100000 in
set_option maxHeartbeats 2000000 in
theorem settle_any {w : World} {q r : Nat} {vS vL vK : Value} {d : RD} (h : ImpV w q r vS vL vK d) (hok : d.ok) (hf : d.loose.length ≤ 1000000) (st : Nat → Bool) (M : World → Prop)
    (hM : ∀ w1 w2, M w1 → Chg (fun j => vS.ownBlock = some j) w1 w2 → M w2) (hm : M w) (fn : FuncId) (lb : Array Value) (hE : ∀ args w1, (callFunc fn args).run Try.prog w1 = .ok (.enter fn args) w1)
    (hC : ∀ (w1 : World) (i : Nat), M w1 → i < d.loose.length → Calls Try.prog fn (#[.int .i64 (i : Int)] ++ lb) w1 fun e w2 => e = .returned (.bool (st i)) ∧ w1 = w2) :
    Calls Try.prog 37 #[.pointer (some ⟨r, 0, none⟩), .func (.func fn) #[] lb] w fun e w' => e = .returned (.tuple #[]) ∧ ImpV w' q r vS (.slice none 0 0) vK { d.put (settleG d.sure d.loose st d.loose.length) with loose := [] } ∧ Chg (fun j => j = r ∨ vS.ownBlock = some j) w w' := by
  obtain ⟨c, c0, c1, c2, c3, c4, c5, c6⟩ := h.cell
  obtain ⟨gS, capS, rfl⟩ := owns_some h.s (by have := hok.lo; omega)
  obtain ⟨aL, capL, rfl⟩ := owns_form h.l
  have lo := hok.lo
  have hi := hok.hi
  have HW := Lib.hid hok.within
  have HM := Lib.hid hM
  have HC := Lib.hid hC
  have H0 := Lib.hid (show SetV M w w q r (.slice (some ⟨gS, 0, none⟩) d.sure.length capS) (.slice aL d.loose.length capL) vK d 0 st from ⟨h, Chg.refl _ _, hm⟩)
  obtain ⟨N, hN⟩ : ∃ N, N = d.loose.length := ⟨_, rfl⟩
  obtain ⟨S, hS⟩ : ∃ S, S = d.sure.length := ⟨_, rfl⟩
  have HN := Lib.hid hN
  have HS := Lib.hid hS
  rw [← hN] at c1 hf H0 HC
  rw [← hS] at c0 H0 HM lo hi
  rw [← hN, ← hS]
  clear h hok hM hm hC hN hS c c2 c3 c4 c5 c6
  go_enter Try.func37, Try.ntmps37
  go_wp2
  go_loopw [11] (fun i wr => ∃ k : Nat, k ≤ N ∧ i = .int .i64 k ∧ SetV M w wr q r (.slice (some ⟨gS, 0, none⟩) S capS) (.slice aL N capL) vK d k st) (fun i _ => N - (intOf i).toNat)
  case atStart => exact ⟨0, Nat.zero_le _, rfl, H0.out⟩
  case round =>
    obtain ⟨k, hk, rfl, hv⟩ := hrel
    clear H0 c0 c1
    obtain ⟨-, c0, c1, -, -, -, -, -⟩ := hv.v.cell
    by_cases hlt : k < N
    · have hV := Lib.hid hv
      have hL := hv.v.l
      obtain ⟨gL, capL', hx⟩ := owns_some hL (by show 0 < d.loose.length; rw [← HN.out]; omega)
      have hx' : aL = some ⟨gL, 0, none⟩ := by simp only [Value.slice.injEq] at hx; exact hx.1
      clear hx
      subst hx'
      obtain ⟨e1, e2⟩ := owns_loose (l := d.loose) (by have := hv.v.l; rw [show (d.put (settleG d.sure d.loose st k)).loose = d.loose from rfl, ← HN.out] at this; exact this) HN.out (k := k) (by rw [← HN.out]; exact hlt)
      obtain ⟨x, hx⟩ : ∃ x, x = d.loose.getD k (0, ByteArray.empty) := ⟨_, rfl⟩
      have hin : x.1 < S := by
        rw [HS.out, hx]
        refine HW.out _ ?_
        rw [List.getD_eq_getElem?_getD, List.getElem?_eq_getElem (by rw [← HN.out]; exact hlt)]
        exact List.getElem_mem _
      rw [← hx] at e1 e2
      have HG := Lib.hid (show settleG d.sure d.loose st (k + 1) = if st k = true then (settleG d.sure d.loose st k).set x.1 x.2 else settleG d.sure d.loose st k by rw [settleG, hx])
      obtain ⟨y, t⟩ := x
      have i1 : (y : Int) < (S : Int) := by omega
      have i0 : (0 : Int) ≤ (y : Int) := by omega
      have g1 : (k : Int) < (N : Int) := by omega
      have g0 : (0 : Int) ≤ (k : Int) := by omega
      clear hL hx hv
      have al : Chg (fun j => (Value.slice (some ⟨gS, 0, none⟩) S capS).ownBlock = some j) wr (wr.alloc (.cells #[.int .i64 (y : Int), .string t] 72)) := (Chg.refl _ _).alloc _
      have CC := HC.out _ k (HM.out _ _ hV.out.m al) hlt
      cases hb : st k
      · rw [hb] at CC HG
        go_wp2_with ((with_reducible refine (CC).mono ?_); rintro e w1 ⟨rfl, rfl⟩)
        go_roundw
        case rel => exact ⟨k + 1, by omega, by go_num, by
          have h1 := hV.out.v.below ((Below.refl _ _).alloc (Nat.le_refl _) (.cells #[.int .i64 (y : Int), .string t] 72))
          have h2 := HG.out
          rw [if_neg (by decide)] at h2
          exact ⟨by rw [h2]; exact h1, hV.out.c.trans al (fun _ _ h => h), HM.out _ _ hV.out.m al⟩⟩
        case measure => simp [intOf]; omega
      · rw [hb] at CC HG
        have h1 := hV.out.v.below ((Below.refl _ _).alloc (Nat.le_refl _) (.cells #[.int .i64 (y : Int), .string t] 72))
        have H1 := Lib.hid h1
        have c0' := h1.cell.2.1
        have bx := rowC_new wr #[.int .i64 (y : Int), .string t] 72
        have b0 := rowC_cell bx 0
        have b1 := rowC_cell bx 1
        have hl : (settleG d.sure d.loose st k).length = S := by rw [settleG_length, HS.out]
        have hs := h1.s
        rw [show (d.put (settleG d.sure d.loose st k)).sure.length = S from hl, show (d.put (settleG d.sure d.loose st k)).sure = settleG d.sure d.loose st k from rfl] at hs
        have hin' : y < S := hin
        obtain ⟨ob, ho⟩ : ∃ ob, (wr.alloc (.cells #[.int .i64 (y : Int), .string t] 72)).cell? ⟨gS, y, none⟩ = some ob := ⟨_, (hs.cellAt y (by omega)).trans (List.getElem?_eq_getElem (by rw [List.length_map]; omega))⟩
        have hf := hs.frozenAt y
        have HL := Lib.hid hl
        have HA := Lib.hid al
        clear h1 bx al hl c0 hs hin'
        go_wp2
        clear e1 e2 c1
        generalize wr.alloc (.cells #[.int .i64 (y : Int), .string t] 72) = wa at *
        (with_reducible refine (CC).mono ?_)
        rintro e w1 ⟨rfl, rfl⟩
        go_wp2
        go_still_tail 9, (by kernel_rfl)
        change wpList _ _ _ _ _ wa.drew
        have ho' : wa.drew.cell? ⟨gS, y, none⟩ = some ob := ho
        have hf' : wa.drew.frozen? ⟨gS, y, none⟩ = false := hf
        have HP := Lib.hid ((H1.out.below (Below.refl _ _).drew).put HL.out y t)
        have HD := Lib.hid ((((HA.out).drew).setCell (w := wa.drew) ⟨gS, y, none⟩ (.string t) (.inl rfl)))
        clear ho hf c0' b0 b1 CC
        generalize wa.drew = wq at *
        go_wp2
        go_roundw
        case rel => exact ⟨k + 1, by omega, by go_num, by
          have h2 := HG.out
          rw [if_pos trivial] at h2
          exact ⟨by rw [h2]; exact HP.out, hV.out.c.trans HD.out (fun _ _ h => h), HM.out _ _ hV.out.m HD.out⟩⟩
        case measure => simp [intOf]; omega
    · obtain rfl : k = N := by omega
      have f1 := hv.v.free 1
      have hc : Chg (· = r) wr (wr.setCell ⟨r, 1, none⟩ (.slice none 0 0)) := (Chg.refl _ _).setP _ _
      obtain ⟨t0, t1, t2, t3⟩ := hv.v.rows hc
      have HS2 := Lib.hid (show ImpV (wr.setCell ⟨r, 1, none⟩ (.slice none 0 0)) q r (.slice (some ⟨gS, 0, none⟩) S capS) (.slice none 0 0) vK { d.put (settleG d.sure d.loose st k) with loose := [] } from
        ⟨t0, rowC_set hv.v.r 1 (.slice none 0 0), t1, World.ownsRow_nil _ _ _ _, t3⟩)
      have HC2 := Lib.hid ((hv.c.mono (t := fun j => j = r ∨ (Value.slice (some ⟨gS, 0, none⟩) S capS).ownBlock = some j) (fun _ _ h => .inr h)).trans hc (fun _ _ h => .inl h))
      clear hv hc t0 t1 t2 t3
      go_wp2
      go_end0
      exact ⟨rfl, HS2.out, HC2.out⟩
end Go.Proofs.Ytikeobmcnpncjaa
