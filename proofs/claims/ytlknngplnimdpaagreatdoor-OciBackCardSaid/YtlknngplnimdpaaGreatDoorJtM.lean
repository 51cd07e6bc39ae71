/- Layer 11: a string. -/
import Derived.Test.YtlknngplnimdpaaGreatDoorJtL
namespace Go.Proofs.YtlknngplnimdpaaGreatDoor
open Go.RowKit

theorem low_suf {fr r q : Bs} {c d : Nat} (h : lowP fr c r = .ok d q) : q <:+ r := by
  unfold lowP at h
  split at h
  · cases h
  split at h
  · cases hu : unitP 4 0 r.tail.tail with
    | bad k x => rw [hu] at h; cases h
    | ok lo x =>
      rw [hu] at h
      simp only at h
      split at h
      · rw [Res.ok.injEq] at h
        rw [← h.2]
        exact ((unit_suf 4 0 hu).trans (List.tail_suffix _)).trans (List.tail_suffix _)
      · cases h
  · cases h
theorem units_suf {fr l q : Bs} {d : Nat} (h : unitsP fr l = .ok d q) : q <:+ l := by
  unfold unitsP at h
  cases hu : unitP 4 0 l with
  | bad k x => rw [hu] at h; cases h
  | ok c x =>
    rw [hu] at h
    simp only at h
    split at h
    · cases h
    split at h
    · exact (low_suf h).trans (unit_suf 4 0 hu)
    · rw [Res.ok.injEq] at h
      rw [← h.2]
      exact unit_suf 4 0 hu
theorem escP_suf {fr l q : Bs} {d : Nat} (h : escP fr l = .ok d q) : q <:+ l := by
  unfold escP at h
  split at h
  · exact (units_suf h).trans (List.tail_suffix l)
  split at h
  · rw [Res.ok.injEq] at h; rw [← h.2]; exact List.tail_suffix l
  · cases hu : unesc (hd l) with
    | none => rw [hu] at h; cases h
    | some c => rw [hu] at h; rw [Res.ok.injEq] at h; rw [← h.2]; exact List.tail_suffix l
theorem one_suf {l q : Bs} {d : Nat} (h : oneP l = .ok d q) : q <:+ l := by
  unfold oneP at h
  split at h
  · exact (escP_suf h).trans (List.tail_suffix l)
  · split at h
    · cases h
    · rw [Res.ok.injEq] at h; rw [← h.2]; exact List.drop_suffix _ l
theorem ownsF_chg {s : Nat → Prop} {w w' : World} (h : Chg s w w') {B : Nat} (hs : ∀ k, B ≤ k → ¬ s k) {e : TypeId} {v : Value} {n : Nat} {xs : List Value} (ho : w.ownsRowF B e 1 v n xs) : w'.ownsRowF B e 1 v n xs := by
  refine ⟨ho.1, ?_⟩
  rcases ho.2 with hn | ⟨g, cap, cur, fz, hv, hb, hg, hrest⟩
  · exact .inl hn
  · exact .inr ⟨g, cap, cur, fz, hv, hb, (h.block g (Array.getElem?_eq_some_iff.1 hg).1 (hs g hb)).trans hg, hrest⟩
theorem builderF_chg {s : Nat → Prop} {w w' : World} (h : Chg s w w') {T e : TypeId} {B b : Nat} (hs : ∀ k, B ≤ k → ¬ s k) {bs : List Value} (hI : Lib.IsBuilderF T e B b bs w) : Lib.IsBuilderF T e B b bs w' := by
  rcases hI with ⟨hB, v, hv, ho, hn⟩ | ⟨hB, v, hv, ho, hn⟩
  · exact .inl ⟨hB, v, (h.block b (Array.getElem?_eq_some_iff.1 hv).1 (hs b hB)).trans hv, ownsF_chg h hs ho, hn⟩
  · exact .inr ⟨hB, v, (h.block b (Array.getElem?_eq_some_iff.1 hv).1 (hs b hB)).trans hv, ownsF_chg h hs ho, hn⟩
theorem Chg.below_at {s : Nat → Prop} {a w w' : World} (h : Chg s a w) {B : Nat} (g : Below B w w') (hB : a.heap.size ≤ B) : Chg s a w' :=
  ⟨g.os.trans h.os, g.tape.trans h.tape, g.output.trans h.output, Nat.le_trans h.size g.size, fun k hk hs => (g.block k (Nat.lt_of_lt_of_le hk hB)).trans (h.block k hk hs)⟩
theorem RdAt.below_at {w w' : World} {q : Nat} {S r : Bs} {lev : Nat} (h : RdAt w q S r lev) {B : Nat} (g : Below B w w') (hB : q < B) : RdAt w' q S r lev := ⟨(g.block q hB).trans h.row, h.suf⟩
/-- What a reading of a text says of a call that answers it and an error. -/
def saysT (w : World) (q : Nat) (S r : Bs) (lev : Nat) (R : Res Bs) (e : Ending) (w' : World) : Prop :=
  match R with
  | .ok t x => e = .returned (.tuple #[.string (str t), .nilIface]) ∧ t.length ≤ 4 * S.length ∧ okP w q S x lev w'
  | .bad code x => e = .returned (.tuple #[.string ⟨#[]⟩, errAt S code x]) ∧ badP w q S r w'
theorem saysT_ok {w w' : World} {q : Nat} {S r x t : Bs} {lev : Nat} {R : Res Bs} (hR : R = .ok t x) (hl : t.length ≤ 4 * S.length) (h : okP w q S x lev w') : saysT w q S r lev R (.returned (.tuple #[.string (str t), .nilIface])) w' := by
  rw [hR]; exact ⟨rfl, hl, h⟩
theorem saysT_bad {w w' : World} {q : Nat} {S r x : Bs} {lev code : Nat} {R : Res Bs} (hR : R = .bad code x) (h : badP w q S r w') : saysT w q S r lev R (.returned (.tuple #[.string ⟨#[]⟩, errAt S code x])) w' := by
  rw [hR]; exact ⟨rfl, h⟩
/-- A text that Parse reads. -/
def okS (S : Bs) : Prop := S.length ≤ 65536
theorem okS.T {S : Bs} (h : okS S) : okT S := by unfold okS at h; unfold okT; omega
set_option maxRecDepth 100000 in
set_option maxHeartbeats 4000000 in
theorem quoted_any {w : World} {q : Nat} {S l : Bs} {lev N : Nat} {R : Res Bs} (hS : okS S) (hE : Env w) (hq : 10 ≤ q) (h : RdAt w q S l lev) (hR : quoP N l = some R) :
    Calls Tryz.prog 134 #[.pointer (some ⟨q, 0, none⟩)] w fun e w' => saysT w q S l lev R e w' := by
  obtain ⟨_, c1, _⟩ := h.cell
  have hlw := h.lt
  by_cases h34 : hd l = 34
  · have hst : strP N l.tail [] = some R := by unfold quoP at hR; rw [if_pos h34] at hR; exact hR
    have HST := Lib.hid hst
    have T1 := take_T (q := q) (lev := lev) hS.T 34 34 rfl (by decide) h34
    have HE := Lib.hid hE
    have HS := Lib.hid hS
    clear hst hR h34 hE c1
    go_enter Tryz.func134, Tryz.ntmps134
    go_wp2_with (go_at_call 138; ((with_reducible refine (T1 _ h).mono ?_); rintro e w1 ⟨rfl, h1, c1⟩))
    obtain ⟨W0, hW0⟩ : ∃ W0, W0 = w1.alloc (.cells #[.pointer none, .slice none 0 0] 134) := ⟨_, rfl⟩
    rw [← hW0]
    have I0 : Lib.IsBuilderF 134 5 w1.heap.size w1.heap.size (Lib.byteCells []) W0 := by rw [hW0]; exact Lib.IsBuilderF.of (Lib.fresh_isBuilder _ _ w1)
    have A0 : Chg (· = q) w W0 := by rw [hW0]; exact c1.alloc _
    have hqw := h1.lt
    have HW1 := Lib.hid (show w.heap.size ≤ w1.heap.size from c1.size)
    have H0 : RdAt W0 q S l.tail lev := by rw [hW0]; exact h1.below ((Below.refl _ _).alloc (Nat.le_refl _) _)
    have hB0 : w1.heap.size ≤ W0.heap.size := by rw [hW0, size_alloc]; omega
    have HI0 := Lib.hid I0
    have HA0 := Lib.hid A0
    clear hW0 I0 A0 c1 h T1 h1
    have hO := fun w' r' (hE' : Env w') (h' : RdAt w' q S r' lev) => one_any HS.out.T hE' hq h'
    have hq2 : ∀ k, w1.heap.size ≤ k → ¬ k = q := fun k hk e => by omega
    have HQ2 := Lib.hid hq2
    clear hq2
    go_loopg [5, 6] N (fun k s5 s6 wr => ∃ r' acc, RdAt wr q S r' lev ∧ Hid (Lib.IsBuilderF 134 5 w1.heap.size w1.heap.size (Lib.byteCells acc) wr) ∧ Hid (strP k r' acc = some R) ∧ Hid (r' <:+ l) ∧ Hid (acc.length ≤ 4 * (S.length - r'.length)) ∧ Chg (· = q) w wr ∧ w1.heap.size ≤ wr.heap.size)
    case atStart => exact ⟨l.tail, [], H0, HI0, HST, Lib.hid (List.tail_suffix l), Lib.hid (Nat.zero_le _), HA0.out, hB0⟩
    case round =>
      clear H0 HI0 HST HA0 hB0
      obtain ⟨r', acc, h', HI, HP, HSf, HAL, hC, hBr⟩ := hrel
      obtain ⟨m, hm⟩ : ∃ m, gk = m + 1 := by
        cases gk with
        | zero => exact absurd HP.out (by intro e; cases e)
        | succ m => exact ⟨m, rfl⟩
      have HM := Lib.hid hm
      have hst : strP (m + 1) r' acc = some R := by rw [← hm]; exact HP.out
      rw [strP] at hst
      clear hm
      by_cases h34 : hd r' = 34
      · rw [if_pos h34, Option.some.injEq] at hst
        have HQ := Lib.hid hst.symm
        have T1 := take_T (q := q) (lev := lev) HS.out.T 34 34 rfl (by decide) h34
        have hle := h'.le
        have HL := Lib.hid (show acc.length ≤ 4 * S.length by have := HAL.out; omega)
        clear hst h34 hle
        go_wp2_with (first
          | (go_at_call 138; ((with_reducible refine (T1 _ h').mono ?_); rintro e w2 ⟨rfl, h2, c2⟩; have I2 := builderF_chg c2 HQ2.out HI.out; have hB2 := Nat.le_trans hBr c2.size))
          | (go_at_call 72; ((with_reducible refine (Tryz.Builder_String_any_k w1.heap.size w1.heap.size acc _ I2 hB2).mono ?_); rintro e w3 ⟨rfl, _, b3, _⟩)))
        go_ret2
        exact saysT_ok HQ.out HL.out ⟨h2.below_at b3 (Nat.lt_of_not_le fun e => HQ2.out q e rfl), (hC.two c2).below_at b3 HW1.out⟩
      · have T1 := take_F (q := q) (lev := lev) HS.out.T 34 34 rfl (by decide) h34
        rw [if_neg h34] at hst
        cases ho : oneP r' with
        | bad code x =>
          rw [ho] at hst
          have HQ := Lib.hid (show R = .bad code x from (Option.some.inj hst).symm)
          have C := fun w' (hE' : Env w') (h'' : RdAt w' q S r' lev) => hO w' r' hE' h''
          rw [ho] at C
          unfold saysN errAt errV at C
          clear hst ho h34 hO
          go_wp2_with (first
            | (go_at_call 138; ((with_reducible refine (T1 _ h').mono ?_); rintro e w2 ⟨rfl, h2, c2⟩; have E2 := HE.out.q (hC.two c2) hq))
            | (go_at_call 155; ((with_reducible refine (C _ E2 h2).mono ?_); rintro e w3 ⟨rfl, h3⟩)))
          go_ret2
          exact saysT_bad HQ.out (h3.trans (hC.two c2) HSf.out)
        | ok c x =>
          rw [ho] at hst
          have HQ := Lib.hid (show strP m x (acc ++ Lib.encodeRune (c : Int)) = some R from hst)
          have C := fun w' (hE' : Env w') (h'' : RdAt w' q S r' lev) => hO w' r' hE' h''
          rw [ho] at C
          unfold saysN okP at C
          have hoo := one_ok ho
          have HXS := Lib.hid (one_suf ho)
          have hsc := hoo.1
          unfold scal at hsc
          have hc2 : (c : Int) ≤ 1114111 := by omega
          have hle := h'.le
          have hSS := HS.out
          unfold okS at hSS
          have hacc := HAL.out
          have HAL2 := Lib.hid (show (acc ++ Lib.encodeRune (c : Int)).length ≤ 4 * (S.length - x.length) by have := enc_le c; have := hoo.2; rw [List.length_append]; omega)
          have HAC := Lib.hid (show (Lib.byteCells acc).length + 4 ≤ 140737488355328 by rw [Lib.byteCells_length]; omega)
          clear hst ho h34 hO hsc hoo hle hSS hacc
          go_wp2_with (first
            | (go_at_call 138; ((with_reducible refine (T1 _ h').mono ?_); rintro e w2 ⟨rfl, h2, c2⟩; have E2 := HE.out.q (hC.two c2) hq; have I2 := builderF_chg c2 HQ2.out HI.out; have hB2 := Nat.le_trans hBr c2.size))
            | (go_at_call 155; ((with_reducible refine (C _ E2 h2).mono ?_); rintro e w3 ⟨rfl, h3, c3⟩; have I3 := builderF_chg c3 HQ2.out I2; have hB3 := Nat.le_trans hB2 c3.size))
            | (go_at_call 156; ((with_reducible refine (Tryz.Builder_WriteRune_k w1.heap.size w1.heap.size _ (c : Int) (by omega) (by omega) _ I3 HAC.out hB3).mono ?_); rintro e w4 ⟨rfl, i4, b4, _⟩)))
          go_roundg m
          case measure => rw [HM.out]; omega
          case rel => exact ⟨x, acc ++ Lib.encodeRune (c : Int), h3.below_at b4 (Nat.lt_of_not_le fun e => HQ2.out q e rfl), Lib.hid (by rw [Lib.byteCells_append, Lib.byteCells_encodeRune]; exact Or.inr i4), HQ, Lib.hid (HXS.out.trans HSf.out), HAL2, ((hC.two c2).two c3).below_at b4 HW1.out, Nat.le_trans hB3 b4.size⟩
  · have hst : R = .bad 10 l := by unfold quoP at hR; rw [if_neg h34, Option.some.injEq] at hR; exact hR.symm
    have HST := Lib.hid hst
    have T1 := take_F (q := q) (lev := lev) hS.T 34 34 rfl (by decide) h34
    generalize hk : S.length - l.length = k
    have HK := Lib.hid hk
    clear hst hR h34 hE c1 hS hk
    go_enter Tryz.func134, Tryz.ntmps134
    go_wp2_with (first
      | (go_at_call 138; ((with_reducible refine (T1 _ h).mono ?_); rintro e w1 ⟨rfl, h1, c1⟩; obtain ⟨_, d1, _⟩ := h1.cell; rw [HK.out] at d1))
      | (go_at_call 100; ((with_reducible refine (unfit_any k _ rfl _).mono ?_); rintro e w5 ⟨rfl, rfl⟩; unfold errV)))
    go_ret2
    have := saysT_bad (w := w) (w' := w1) (q := q) (S := S) (r := l) (lev := lev) HST.out ⟨⟨l, lev, h1, List.suffix_refl l⟩, c1⟩
    unfold errAt at this
    rw [HK.out] at this
    exact this
end Go.Proofs.YtlknngplnimdpaaGreatDoor
