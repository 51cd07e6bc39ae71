/- Merged: JtM, JuF, JtN. -/
import Derived.Test.YtnkencdibniagaaGreatDoorM13
import Derived.Test.YtnkencdibniagaaGreatDoorM12
import Derived.Maps.OwnSet
import Derived.Maps.OwnOps
/- Layer 11: a string. -/
namespace Go.Proofs.YtnkencdibniagaaGreatDoor
open Go.RowKit

theorem low_suf {fr r q : Bs} {c d : Nat} (h : lowP fr c r = .ok d q) : q <:+ r := by
  unfold lowP at h
  split at h
  · cases h
  split at h
  · cases hu : unitP 4 0 r.tail.tail with
    | bad k x => rw [hu] at h; cases h
    | ok lo x =>
      rw [hu] at h
      simp only at h
      split at h
      · rw [Res.ok.injEq] at h
        rw [← h.2]
        exact ((unit_suf 4 0 hu).trans (List.tail_suffix _)).trans (List.tail_suffix _)
      · cases h
  · cases h
theorem units_suf {fr l q : Bs} {d : Nat} (h : unitsP fr l = .ok d q) : q <:+ l := by
  unfold unitsP at h
  cases hu : unitP 4 0 l with
  | bad k x => rw [hu] at h; cases h
  | ok c x =>
    rw [hu] at h
    simp only at h
    split at h
    · cases h
    split at h
    · exact (low_suf h).trans (unit_suf 4 0 hu)
    · rw [Res.ok.injEq] at h
      rw [← h.2]
      exact unit_suf 4 0 hu
theorem escP_suf {fr l q : Bs} {d : Nat} (h : escP fr l = .ok d q) : q <:+ l := by
  unfold escP at h
  split at h
  · exact (units_suf h).trans (List.tail_suffix l)
  split at h
  · rw [Res.ok.injEq] at h; rw [← h.2]; exact List.tail_suffix l
  · cases hu : unesc (hd l) with
    | none => rw [hu] at h; cases h
    | some c => rw [hu] at h; rw [Res.ok.injEq] at h; rw [← h.2]; exact List.tail_suffix l
theorem one_suf {l q : Bs} {d : Nat} (h : oneP l = .ok d q) : q <:+ l := by
  unfold oneP at h
  split at h
  · exact (escP_suf h).trans (List.tail_suffix l)
  · split at h
    · cases h
    · rw [Res.ok.injEq] at h; rw [← h.2]; exact List.drop_suffix _ l
theorem ownsF_chg {s : Nat → Prop} {w w' : World} (h : Chg s w w') {B : Nat} (hs : ∀ k, B ≤ k → ¬ s k) {e : TypeId} {v : Value} {n : Nat} {xs : List Value} (ho : w.ownsRowF B e 1 v n xs) : w'.ownsRowF B e 1 v n xs := by
  refine ⟨ho.1, ?_⟩
  rcases ho.2 with hn | ⟨g, cap, cur, fz, hv, hb, hg, hrest⟩
  · exact .inl hn
  · exact .inr ⟨g, cap, cur, fz, hv, hb, (h.block g (Array.getElem?_eq_some_iff.1 hg).1 (hs g hb)).trans hg, hrest⟩
theorem builderF_chg {s : Nat → Prop} {w w' : World} (h : Chg s w w') {T e : TypeId} {B b : Nat} (hs : ∀ k, B ≤ k → ¬ s k) {bs : List Value} (hI : Lib.IsBuilderF T e B b bs w) : Lib.IsBuilderF T e B b bs w' := by
  rcases hI with ⟨hB, v, hv, ho, hn⟩ | ⟨hB, v, hv, ho, hn⟩
  · exact .inl ⟨hB, v, (h.block b (Array.getElem?_eq_some_iff.1 hv).1 (hs b hB)).trans hv, ownsF_chg h hs ho, hn⟩
  · exact .inr ⟨hB, v, (h.block b (Array.getElem?_eq_some_iff.1 hv).1 (hs b hB)).trans hv, ownsF_chg h hs ho, hn⟩
theorem Chg.below_at {s : Nat → Prop} {a w w' : World} (h : Chg s a w) {B : Nat} (g : Below B w w') (hB : a.heap.size ≤ B) : Chg s a w' :=
  ⟨g.os.trans h.os, g.tape.trans h.tape, g.output.trans h.output, Nat.le_trans h.size g.size, fun k hk hs => (g.block k (Nat.lt_of_lt_of_le hk hB)).trans (h.block k hk hs)⟩
theorem RdAt.below_at {w w' : World} {q : Nat} {S r : Bs} {lev : Nat} (h : RdAt w q S r lev) {B : Nat} (g : Below B w w') (hB : q < B) : RdAt w' q S r lev := ⟨(g.block q hB).trans h.row, h.suf⟩
/-- What a reading of a text says of a call that answers it and an error. -/
def saysT (w : World) (q : Nat) (S r : Bs) (lev : Nat) (R : Res Bs) (e : Ending) (w' : World) : Prop :=
  match R with
  | .ok t x => e = .returned (.tuple #[.string (str t), .nilIface]) ∧ t.length ≤ 4 * S.length ∧ okP w q S x lev w'
  | .bad code x => e = .returned (.tuple #[.string ⟨#[]⟩, errAt S code x]) ∧ badP w q S r w'
theorem saysT_ok {w w' : World} {q : Nat} {S r x t : Bs} {lev : Nat} {R : Res Bs} (hR : R = .ok t x) (hl : t.length ≤ 4 * S.length) (h : okP w q S x lev w') : saysT w q S r lev R (.returned (.tuple #[.string (str t), .nilIface])) w' := by
  rw [hR]; exact ⟨rfl, hl, h⟩
theorem saysT_bad {w w' : World} {q : Nat} {S r x : Bs} {lev code : Nat} {R : Res Bs} (hR : R = .bad code x) (h : badP w q S r w') : saysT w q S r lev R (.returned (.tuple #[.string ⟨#[]⟩, errAt S code x])) w' := by
  rw [hR]; exact ⟨rfl, h⟩
/-- A text that Parse reads. -/
def okS (S : Bs) : Prop := S.length ≤ 65536
theorem okS.T {S : Bs} (h : okS S) : okT S := by unfold okS at h; unfold okT; omega
set_option maxRecDepth 100000 in
set_option maxHeartbeats 4000000 in
theorem quoted_any {w : World} {q : Nat} {S l : Bs} {lev N : Nat} {R : Res Bs} (hS : okS S) (hE : Env w) (hq : 10 ≤ q) (h : RdAt w q S l lev) (hR : quoP N l = some R) :
    Calls Tryz.prog 134 #[.pointer (some ⟨q, 0, none⟩)] w fun e w' => saysT w q S l lev R e w' := by
  obtain ⟨_, c1, _⟩ := h.cell
  have hlw := h.lt
  by_cases h34 : hd l = 34
  · have hst : strP N l.tail [] = some R := by unfold quoP at hR; rw [if_pos h34] at hR; exact hR
    have HST := Lib.hid hst
    have T1 := take_T (q := q) (lev := lev) hS.T 34 34 rfl (by decide) h34
    have HE := Lib.hid hE
    have HS := Lib.hid hS
    clear hst hR h34 hE c1
    go_enter Tryz.func134, Tryz.ntmps134
    go_wp2_with (go_at_call 138; ((with_reducible refine (T1 _ h).mono ?_); rintro e w1 ⟨rfl, h1, c1⟩))
    obtain ⟨W0, hW0⟩ : ∃ W0, W0 = w1.alloc (.cells #[.pointer none, .slice none 0 0] 134) := ⟨_, rfl⟩
    rw [← hW0]
    have I0 : Lib.IsBuilderF 134 5 w1.heap.size w1.heap.size (Lib.byteCells []) W0 := by rw [hW0]; exact Lib.IsBuilderF.of (Lib.fresh_isBuilder _ _ w1)
    have A0 : Chg (· = q) w W0 := by rw [hW0]; exact c1.alloc _
    have hqw := h1.lt
    have HW1 := Lib.hid (show w.heap.size ≤ w1.heap.size from c1.size)
    have H0 : RdAt W0 q S l.tail lev := by rw [hW0]; exact h1.below ((Below.refl _ _).alloc (Nat.le_refl _) _)
    have hB0 : w1.heap.size ≤ W0.heap.size := by rw [hW0, size_alloc]; omega
    have HI0 := Lib.hid I0
    have HA0 := Lib.hid A0
    clear hW0 I0 A0 c1 h T1 h1
    have hO := fun w' r' (hE' : Env w') (h' : RdAt w' q S r' lev) => one_any HS.out.T hE' hq h'
    have hq2 : ∀ k, w1.heap.size ≤ k → ¬ k = q := fun k hk e => by omega
    have HQ2 := Lib.hid hq2
    clear hq2
    go_loopg [5, 6] N (fun k s5 s6 wr => ∃ r' acc, RdAt wr q S r' lev ∧ Hid (Lib.IsBuilderF 134 5 w1.heap.size w1.heap.size (Lib.byteCells acc) wr) ∧ Hid (strP k r' acc = some R) ∧ Hid (r' <:+ l) ∧ Hid (acc.length ≤ 4 * (S.length - r'.length)) ∧ Chg (· = q) w wr ∧ w1.heap.size ≤ wr.heap.size)
    case atStart => exact ⟨l.tail, [], H0, HI0, HST, Lib.hid (List.tail_suffix l), Lib.hid (Nat.zero_le _), HA0.out, hB0⟩
    case round =>
      clear H0 HI0 HST HA0 hB0
      obtain ⟨r', acc, h', HI, HP, HSf, HAL, hC, hBr⟩ := hrel
      obtain ⟨m, hm⟩ : ∃ m, gk = m + 1 := by
        cases gk with
        | zero => exact absurd HP.out (by intro e; cases e)
        | succ m => exact ⟨m, rfl⟩
      have HM := Lib.hid hm
      have hst : strP (m + 1) r' acc = some R := by rw [← hm]; exact HP.out
      rw [strP] at hst
      clear hm
      by_cases h34 : hd r' = 34
      · rw [if_pos h34, Option.some.injEq] at hst
        have HQ := Lib.hid hst.symm
        have T1 := take_T (q := q) (lev := lev) HS.out.T 34 34 rfl (by decide) h34
        have hle := h'.le
        have HL := Lib.hid (show acc.length ≤ 4 * S.length by have := HAL.out; omega)
        clear hst h34 hle
        go_wp2_with (first
          | (go_at_call 138; ((with_reducible refine (T1 _ h').mono ?_); rintro e w2 ⟨rfl, h2, c2⟩; have I2 := builderF_chg c2 HQ2.out HI.out; have hB2 := Nat.le_trans hBr c2.size))
          | (go_at_call 72; ((with_reducible refine (Tryz.Builder_String_any_k w1.heap.size w1.heap.size acc _ I2 hB2).mono ?_); rintro e w3 ⟨rfl, _, b3, _⟩)))
        go_ret2
        exact saysT_ok HQ.out HL.out ⟨h2.below_at b3 (Nat.lt_of_not_le fun e => HQ2.out q e rfl), (hC.two c2).below_at b3 HW1.out⟩
      · have T1 := take_F (q := q) (lev := lev) HS.out.T 34 34 rfl (by decide) h34
        rw [if_neg h34] at hst
        cases ho : oneP r' with
        | bad code x =>
          rw [ho] at hst
          have HQ := Lib.hid (show R = .bad code x from (Option.some.inj hst).symm)
          have C := fun w' (hE' : Env w') (h'' : RdAt w' q S r' lev) => hO w' r' hE' h''
          rw [ho] at C
          unfold saysN errAt errV at C
          clear hst ho h34 hO
          go_wp2_with (first
            | (go_at_call 138; ((with_reducible refine (T1 _ h').mono ?_); rintro e w2 ⟨rfl, h2, c2⟩; have E2 := HE.out.q (hC.two c2) hq))
            | (go_at_call 155; ((with_reducible refine (C _ E2 h2).mono ?_); rintro e w3 ⟨rfl, h3⟩)))
          go_ret2
          exact saysT_bad HQ.out (h3.trans (hC.two c2) HSf.out)
        | ok c x =>
          rw [ho] at hst
          have HQ := Lib.hid (show strP m x (acc ++ Lib.encodeRune (c : Int)) = some R from hst)
          have C := fun w' (hE' : Env w') (h'' : RdAt w' q S r' lev) => hO w' r' hE' h''
          rw [ho] at C
          unfold saysN okP at C
          have hoo := one_ok ho
          have HXS := Lib.hid (one_suf ho)
          have hsc := hoo.1
          unfold scal at hsc
          have hc2 : (c : Int) ≤ 1114111 := by omega
          have hle := h'.le
          have hSS := HS.out
          unfold okS at hSS
          have hacc := HAL.out
          have HAL2 := Lib.hid (show (acc ++ Lib.encodeRune (c : Int)).length ≤ 4 * (S.length - x.length) by have := enc_le c; have := hoo.2; rw [List.length_append]; omega)
          have HAC := Lib.hid (show (Lib.byteCells acc).length + 4 ≤ 140737488355328 by rw [Lib.byteCells_length]; omega)
          clear hst ho h34 hO hsc hoo hle hSS hacc
          go_wp2_with (first
            | (go_at_call 138; ((with_reducible refine (T1 _ h').mono ?_); rintro e w2 ⟨rfl, h2, c2⟩; have E2 := HE.out.q (hC.two c2) hq; have I2 := builderF_chg c2 HQ2.out HI.out; have hB2 := Nat.le_trans hBr c2.size))
            | (go_at_call 155; ((with_reducible refine (C _ E2 h2).mono ?_); rintro e w3 ⟨rfl, h3, c3⟩; have I3 := builderF_chg c3 HQ2.out I2; have hB3 := Nat.le_trans hB2 c3.size))
            | (go_at_call 156; ((with_reducible refine (Tryz.Builder_WriteRune_k w1.heap.size w1.heap.size _ (c : Int) (by omega) (by omega) _ I3 HAC.out hB3).mono ?_); rintro e w4 ⟨rfl, i4, b4, _⟩)))
          go_roundg m
          case measure => rw [HM.out]; omega
          case rel => exact ⟨x, acc ++ Lib.encodeRune (c : Int), h3.below_at b4 (Nat.lt_of_not_le fun e => HQ2.out q e rfl), Lib.hid (by rw [Lib.byteCells_append, Lib.byteCells_encodeRune]; exact Or.inr i4), HQ, Lib.hid (HXS.out.trans HSf.out), HAL2, ((hC.two c2).two c3).below_at b4 HW1.out, Nat.le_trans hB3 b4.size⟩
  · have hst : R = .bad 10 l := by unfold quoP at hR; rw [if_neg h34, Option.some.injEq] at hR; exact hR.symm
    have HST := Lib.hid hst
    have T1 := take_F (q := q) (lev := lev) hS.T 34 34 rfl (by decide) h34
    generalize hk : S.length - l.length = k
    have HK := Lib.hid hk
    clear hst hR h34 hE c1 hS hk
    go_enter Tryz.func134, Tryz.ntmps134
    go_wp2_with (first
      | (go_at_call 138; ((with_reducible refine (T1 _ h).mono ?_); rintro e w1 ⟨rfl, h1, c1⟩; obtain ⟨_, d1, _⟩ := h1.cell; rw [HK.out] at d1))
      | (go_at_call 100; ((with_reducible refine (unfit_any k _ rfl _).mono ?_); rintro e w5 ⟨rfl, rfl⟩; unfold errV)))
    go_ret2
    have := saysT_bad (w := w) (w' := w1) (q := q) (S := S) (r := l) (lev := lev) HST.out ⟨⟨l, lev, h1, List.suffix_refl l⟩, c1⟩
    unfold errAt at this
    rw [HK.out] at this
    exact this
end Go.Proofs.YtnkencdibniagaaGreatDoor

/- Layer 11: a piece, and a string, are written by a printer. -/
namespace Go.Proofs.YtnkencdibniagaaGreatDoor
open Go.RowKit

/-- Behind some writing since w: the printer's bytes, and what stands as it stood. -/
structure PrS (w : World) (B b : Nat) (l : Bs) (w' : World) : Prop where
  pr : PrAt w' B b l
  bel : Below B w w'
  oth : Lib.OthersKept 5 (some b) w w'
theorem PrS.start {w : World} {B b : Nat} {l : Bs} (h : PrAt w B b l) : PrS w B b l w := ⟨h, Below.refl _ _, Lib.OthersKept.refl _ _ _⟩
theorem PrAt.lt {w : World} {B b : Nat} {l : Bs} (h : PrAt w B b l) : B ≤ b ∧ b < w.heap.size := by
  rcases h with h | h
  · exact ⟨h.1, h.lt⟩
  · exact ⟨h.1, h.lt⟩
theorem PrAt.below {w w' : World} {B b : Nat} {l : Bs} (h : PrAt w B b l) (hb : Below w.heap.size w w') : PrAt w' B b l := by
  have hc : Chg (fun _ => False) w w' := Chg.of_below hb
  rcases h with ⟨hB, v, hv, ho, hn⟩ | ⟨hB, v, hv, ho, hn⟩
  · exact .inl ⟨hB, v, (hc.block b (Array.getElem?_eq_some_iff.1 hv).1 id).trans hv, ownsF_chg hc (fun _ _ => id) ho, hn⟩
  · exact .inr ⟨hB, v, (hc.block b (Array.getElem?_eq_some_iff.1 hv).1 id).trans hv, ownsF_chg hc (fun _ _ => id) ho, hn⟩
theorem others_below {e : TypeId} {b : Option Nat} {a w w' : World} (h : Lib.OthersKept e b a w) (hb : Below w.heap.size w w') : Lib.OthersKept e b a w' := fun k o hk hkb ho => by
  have h1 := h k o hk hkb ho
  rw [hb.block k (Array.getElem?_eq_some_iff.1 h1).1]
  exact h1
theorem PrS.below {w w1 w2 : World} {B b : Nat} {l : Bs} (h : PrS w B b l w1) (hB : B ≤ w1.heap.size) (hb : Below w1.heap.size w1 w2) : PrS w B b l w2 :=
  ⟨h.pr.below hb, h.bel.trans (hb.mono hB), others_below h.oth hb⟩
theorem PrS.trans {w w1 w2 : World} {B b : Nat} {l m : Bs} (h : PrS w B b l w1) (g : PrS w1 B b m w2) : PrS w B b m w2 := ⟨g.pr, h.bel.trans g.bel, h.oth.trans g.oth⟩
/-- A block of other cells stands as it stood. -/
theorem PrS.row {w w' : World} {B b : Nat} {l : Bs} (h : PrS w B b l w') {r : Nat} {cs : Array Value} {t : TypeId} (hr : rowC w r cs t) (hb : r ≠ b) (ht : t ≠ 5) : rowC w' r cs t :=
  h.oth r _ hr (fun e => hb (Option.some.inj e)) (fun c fz e => ht (by injection e))
theorem PrS.size {w w' : World} {B b : Nat} {l : Bs} (h : PrS w B b l w') : w.heap.size ≤ w'.heap.size := h.bel.size
set_option maxHeartbeats 1000000 in
theorem put_any {w : World} {B b : Nat} {l : Bs} (s : Bs) (h : PrAt w B b l) (hB : B ≤ w.heap.size) (hs : s.length ≤ 70368744177664) :
    Calls Tryz.prog 106 #[.pointer (some ⟨b, 0, none⟩), .string (str s)] w fun e w' => e = .returned (.tuple #[]) ∧ PrS w B b (putL l s) w' := by
  have CL := bd_len B b (Lib.byteCells l) w h
  rw [Lib.byteCells_length] at CL
  by_cases hl : l.length ≤ 65536
  · have hp : putL l s = l ++ s := if_pos hl
    rw [hp]
    have CW := bd_write B b (Lib.byteCells l) (str s) w h (by rw [Lib.byteCells_length, str_size]; omega) hB
    have hl' : (l.length : Int) ≤ 65536 := by omega
    clear h hs hp hl
    go_enter Tryz.func106, Tryz.ntmps106
    go_wp2_with (first
      | (go_at_call 71; ((with_reducible refine CL.mono ?_); rintro e w2 ⟨rfl, rfl⟩))
      | (go_at_call 143; ((with_reducible refine CW.mono ?_); rintro e w3 ⟨rfl, hb1, hb2, hb3⟩)))
    go_end0
    refine ⟨rfl, ?_, hb2, hb3⟩
    unfold PrAt
    rw [Lib.byteCells_append]
    exact .inr hb1
  · have hp : putL l s = l := if_neg hl
    rw [hp]
    have hl' : ¬ (l.length : Int) ≤ 65536 := by omega
    have h' := PrS.start h
    clear hs hp hl h
    go_enter Tryz.func106, Tryz.ntmps106
    go_wp2_with (go_at_call 71; ((with_reducible refine CL.mono ?_); rintro e w2 ⟨rfl, rfl⟩))
    go_end0
    exact ⟨rfl, h'⟩
/-! ### Strings -/
theorem runesF_more : ∀ (n m : Nat) (l : Bs), l.length ≤ n → l.length ≤ m → runesF n l = runesF m l
  | 0, m, l, h, _ => by
    obtain rfl : l = [] := List.eq_nil_of_length_eq_zero (by omega)
    cases m <;> rfl
  | n + 1, 0, l, _, h => by
    obtain rfl : l = [] := List.eq_nil_of_length_eq_zero (by omega)
    rfl
  | n + 1, m + 1, l, h, k => by
    rw [runesF, runesF]
    by_cases hl : l = []
    · rw [if_pos hl, if_pos hl]
    · rw [if_neg hl, if_neg hl]
      have hw := Lib.decodeL_width l
      have h0 := List.length_pos_iff.2 hl
      rw [runesF_more n m _ (by rw [List.length_drop]; omega) (by rw [List.length_drop]; omega)]
theorem runesT_cons {l : Bs} (h : l ≠ []) : runesT l = (Lib.decodeL l).1 :: runesT (l.drop (Lib.decodeL l).2) := by
  have h0 := List.length_pos_iff.2 h
  have hw := Lib.decodeL_width l
  unfold runesT
  obtain ⟨n, hn⟩ : ∃ n, l.length = n + 1 := ⟨l.length - 1, by omega⟩
  rw [hn, runesF, if_neg h]
  rw [runesF_more n _ _ (by rw [List.length_drop]; omega) (Nat.le_refl _)]
theorem printed_len (c : Nat) : (printedR c).length ≤ 6 := by
  unfold printedR
  split
  · simp
  split
  · simp
  split
  · simp
  · have := enc_le c; omega
set_option maxRecDepth 100000 in
set_option maxHeartbeats 4000000 in
theorem pquoted_any {w : World} {B b : Nat} {l : Bs} (t : Bs) (h : PrAt w B b l) (hB : B ≤ w.heap.size) (h10 : 10 ≤ B) (tz : w.cell? ⟨9, 15, none⟩ = some (.int .u8 4)) :
    Calls Tryz.prog 107 #[.pointer (some ⟨b, 0, none⟩), .string (str t)] w fun e w' => e = .returned (.tuple #[]) ∧ PrS w B b (putsL l (quoPs t)) w' := by
  have C1 : ∀ (w2 : World) (acc : Bs), PrAt w2 B b acc → B ≤ w2.heap.size → Calls Tryz.prog 106 #[.pointer (some ⟨b, 0, none⟩), .string ⟨#[34]⟩] w2 fun e w' => e = .returned (.tuple #[]) ∧ PrS w2 B b (putL acc [34]) w' := fun w2 acc g hB2 => put_any [34] g hB2 (by decide)
  have CP := fun (w2 : World) (acc : Bs) (s : Bs) (g : PrAt w2 B b acc) (hB2 : B ≤ w2.heap.size) (hs : s.length ≤ 70368744177664) => put_any s g hB2 hs
  have hbB := h.lt
  have HQ : Hid (putsL l (quoPs t) = putL (putsL (putL l [34]) ((runesT t).map printedR)) [34]) := Lib.hid (by
    unfold quoPs
    rw [← List.singleton_append, putsL_app, putsL_app]
    rfl)
  have TZ := Lib.hid tz
  have HBB := Lib.hid hB
  have HBB2 := Lib.hid h10
  have CD := fun (w2 : World) (c : Nat) (hc : scal c) (hb : Below B w w2) => printed_any hc w2 ((hb.cell (show 9 < B by omega)).trans tz)
  have h0 := PrS.start h
  go_enter Tryz.func107, Tryz.ntmps107
  clear tz
  go_wp2_with (go_at_call 106; ((with_reducible refine (C1 _ _ h hB).mono ?_); rintro e w1 ⟨rfl, h1⟩))
  have hs1 := h1.size
  have I1 : PrS w B b (putL l [34]) (w1.alloc (.stringIter (str t) 0)) := h1.below (by omega) ((Below.refl _ _).alloc (Nat.le_refl _) _)
  go_loopg [5] t.length (fun k s5 wr => ∃ pos acc, wr.heap[w1.heap.size]? = some (.stringIter (str t) pos) ∧ Hid (PrS w B b acc wr) ∧ Hid (putsL acc ((runesT (t.drop pos)).map printedR) = putsL (putL l [34]) ((runesT t).map printedR)) ∧ Hid (k = t.length - pos) ∧ Hid (pos ≤ t.length) ∧ Hid (w1.heap.size < wr.heap.size))
  case atStart => exact ⟨0, _, heap_alloc_new w1 _, Lib.hid I1, Lib.hid rfl, Lib.hid rfl, Lib.hid (Nat.zero_le _), Lib.hid (by rw [show (w1.iter (str t) 0) = w1.alloc (.stringIter (str t) 0) from rfl, size_alloc]; omega)⟩
  case round =>
    obtain ⟨pos, acc, hit, HP, HR, HK, HL, HZ⟩ := hrel
    by_cases hpos : pos < t.length
    · have hnx := fun ty => Lib.run_next_any_at (P := Tryz.prog) wr _ _ _ ty hit (by rw [str_size]; exact hpos)
      have hdd := Lib.decodeL_drop (str t) pos
      rw [str_toList] at hdd
      rw [← hdd] at hnx
      have hne : t.drop pos ≠ [] := fun e => by have := congrArg List.length e; simp at this; omega
      have hsc := scal_dec (t.drop pos)
      have hw := Lib.decodeL_width (t.drop pos)
      have hwl := Lib.decodeL_le (t.drop pos) hne
      rw [List.length_drop] at hwl
      have HR2 : Hid (putsL (putL acc (printedR (Lib.decodeL (t.drop pos)).1)) ((runesT (t.drop (pos + (Lib.decodeL (t.drop pos)).2))).map printedR) = putsL (putL l [34]) ((runesT t).map printedR)) := Lib.hid (by
        rw [← HR.out, runesT_cons hne, List.drop_drop]
        rfl)
      generalize (Lib.decodeL (t.drop pos)).1 = c at *
      generalize (Lib.decodeL (t.drop pos)).2 = n at *
      have P2 : PrS w B b acc (wr.iterAt w1.heap.size (str t) (pos + n)) := by
        have hB := HBB.out
        refine ⟨HP.out.pr.iterAt hit _, Lib.below_iterAt HP.out.bel (by omega) _ _, fun k o hk hkb ho => ?_⟩
        have hlt := (Array.getElem?_eq_some_iff.1 hk).1
        rw [Lib.iterAt_other _ _ _ _ _ (by omega)]
        exact HP.out.oth k o hk hkb ho
      have it2 := Lib.iterAt_heap wr w1.heap.size (str t) pos (pos + n) hit
      have sz2 := Lib.iterAt_size wr w1.heap.size (str t) (pos + n)
      generalize wr.iterAt w1.heap.size (str t) (pos + n) = wq at *
      have CD2 := CD wq c hsc P2.bel
      have HP2 := Lib.hid P2
      have hbq : B ≤ wq.heap.size := by have := HBB.out; have := P2.size; omega
      clear P2 hdd hit HP
      go_wp2_with (first
        | (go_at_call 144; ((with_reducible refine CD2.mono ?_); rintro e w3 ⟨rfl, hb3⟩; have P3 := HP2.out.below hbq hb3))
        | (go_at_call 106; ((with_reducible refine (CP _ _ _ P3.pr (Nat.le_trans hbq hb3.size) (Nat.le_trans (printed_len c) (by decide))).mono ?_); rintro e w4 ⟨rfl, h4⟩)))
      go_roundg (t.length - (pos + n))
      case measure => rw [HK.out]; omega
      case rel =>
        have i3 : w3.heap[w1.heap.size]? = some (.stringIter (str t) (pos + n)) := (hb3.block _ (by have := HZ.out; omega)).trans it2
        exact ⟨pos + n, _, h4.oth.iter i3 (by omega), Lib.hid (P3.trans h4), HR2, Lib.hid rfl, Lib.hid (by omega), Lib.hid (by have := HZ.out; have := hb3.size; have := h4.size; omega)⟩
    · have hnx := fun ty => Lib.run_next_end_at (P := Tryz.prog) wr _ _ _ ty hit (by rw [str_size]; exact hpos)
      have hdr : t.drop pos = [] := List.drop_eq_nil_of_le (by omega)
      have HR3 : Hid (acc = putsL (putL l [34]) ((runesT t).map printedR)) := Lib.hid (by
        rw [← HR.out, hdr]; rfl)
      have hbq : B ≤ wr.heap.size := by have := HBB.out; have := HP.out.size; omega
      clear hdr hit HR
      go_wp2_with (go_at_call 106; ((with_reducible refine (C1 _ _ HP.out.pr hbq).mono ?_); rintro e w4 ⟨rfl, h4⟩))
      go_end0
      rw [HQ.out, ← HR3.out]
      exact ⟨rfl, HP.out.trans h4⟩
end Go.Proofs.YtnkencdibniagaaGreatDoor

/- Layer 11: a set of texts; a key. -/
namespace Go.Proofs.YtnkencdibniagaaGreatDoor
open Go.RowKit Go.Maps

def litS (t : Bs) : Lit := .string t
def setS (seen : List Bs) : DataW Unit := setOf (.agg []) (seen.map litS)
/-- The map at block m is the set of these. -/
def SetM (w : World) (m : Nat) (seen : List Bs) : Prop := w.ownsMap Tryz.prog 9 (unitElem (H := Unit)) m seen.length (setS seen)
theorem SetM.chg {w w' : World} {m : Nat} {seen : List Bs} (h : SetM w m seen) {s : Nat → Prop} (hc : Chg s w w') (hs : ¬ s m) : SetM w' m seen := by
  obtain ⟨es, clock, h1, h2⟩ := h
  exact ⟨es, clock, (hc.block m (Array.getElem?_eq_some_iff.1 h1).1 hs).trans h1, h2⟩
theorem SetM.lt {w : World} {m : Nat} {seen : List Bs} (h : SetM w m seen) : m < w.heap.size := by
  obtain ⟨es, clock, h1, _⟩ := h
  exact (Array.getElem?_eq_some_iff.1 h1).1
theorem SetM.ne {w : World} {m q : Nat} {seen : List Bs} (h : SetM w m seen) {cs : Array Value} {t : TypeId} (hr : rowC w q cs t) : q ≠ m := by
  rintro rfl
  obtain ⟨es, clock, h1, _⟩ := h
  unfold rowC at hr
  rw [hr] at h1
  cases h1
theorem has_setS (seen : List Bs) (t : Bs) : Maps.has (setS seen) (litS t) = decide (t ∈ seen) := by
  unfold setS
  rw [has_setOf _ _ _ (fun y hy => by obtain ⟨_, _, rfl⟩ := List.mem_map.1 hy; trivial), List.any_map]
  induction seen with
  | nil => rfl
  | cons a r ih =>
    rw [List.any_cons, ih]
    have e : ((fun x : Lit => x.sameKey (litS t)) ∘ litS) a = (a == t) := rfl
    rw [e]
    by_cases h : a = t
    · subst h; simp
    · have h' : ¬ t = a := fun e => h e.symm
      simp [h, h']
theorem law_str : Keyed Tryz.prog 9 := string_keyed Tryz.underlying9
theorem key_str (t : Bs) (ht : t.length ≤ 262144) : keyOf Tryz.prog 9 (.string (str t)) = some (litS t) := by
  have h1 : (str t).size ≤ maxLen := by rw [str_size]; unfold maxLen; omega
  have h2 : (str t).data.toList = t := str_toList t
  simp [keyOf, mapKey, Tryz.underlying9, h1, h2, litS]
theorem zero_unit (w : World) : (zeroValue 233).run Tryz.prog w = .ok (.agg #[]) w := by kernel_rfl
/-- What a reading of a key says. -/
def saysK (w : World) (q m : Nat) (S r : Bs) (lev : Nat) (seen : List Bs) (R : Res Bs) (e : Ending) (w' : World) : Prop :=
  match R with
  | .ok t x => e = .returned (.tuple #[.string (str t), .nilIface]) ∧ t.length ≤ 262144 ∧ RdAt w' q S x lev ∧ SetM w' m (seen ++ [t]) ∧ Chg (fun k => k = q ∨ k = m) w w'
  | .bad code x => e = .returned (.tuple #[.string ⟨#[]⟩, errAt S code x]) ∧ (∃ x lev, RdAt w' q S x lev ∧ x <:+ r) ∧ Chg (fun k => k = q ∨ k = m) w w'
theorem saysK_ok {w w' : World} {q m : Nat} {S r x t : Bs} {lev : Nat} {seen : List Bs} {R : Res Bs} (hR : R = .ok t x) (hl : t.length ≤ 262144) (h : RdAt w' q S x lev) (h2 : SetM w' m (seen ++ [t])) (h3 : Chg (fun k => k = q ∨ k = m) w w') : saysK w q m S r lev seen R (.returned (.tuple #[.string (str t), .nilIface])) w' := by
  rw [hR]; exact ⟨rfl, hl, h, h2, h3⟩
theorem saysK_bad {w w' : World} {q m : Nat} {S r x : Bs} {lev code : Nat} {seen : List Bs} {R : Res Bs} (hR : R = .bad code x) (h : ∃ x lev, RdAt w' q S x lev ∧ x <:+ r) (h3 : Chg (fun k => k = q ∨ k = m) w w') : saysK w q m S r lev seen R (.returned (.tuple #[.string ⟨#[]⟩, errAt S code x])) w' := by
  rw [hR]; exact ⟨rfl, h, h3⟩
theorem dropB_suf (l : Bs) : dropB l <:+ l := by
  induction l with
  | nil => exact List.suffix_refl _
  | cons c l ih =>
    rw [dropB]
    split
    · exact ih.trans (List.suffix_cons c l)
    · exact List.suffix_refl _
theorem Chg.or {q m : Nat} {a b c : World} (h : Chg (fun k => k = q ∨ k = m) a b) (g : Chg (· = q) b c) : Chg (fun k => k = q ∨ k = m) a c := h.trans g (fun _ _ h => .inl h)
theorem Chg.toOr {q m : Nat} {a b : World} (h : Chg (· = q) a b) : Chg (fun k => k = q ∨ k = m) a b := h.mono (fun _ _ h => .inl h)
theorem quo_suf {n : Nat} {l t q : Bs} (h : quoP n l = some (.ok t q)) : q <:+ l := by
  have key : ∀ (n : Nat) {l acc t q : Bs}, strP n l acc = some (.ok t q) → q <:+ l := by
    intro n
    induction n with
    | zero => intro l acc t q h; cases h
    | succ n ih =>
      intro l acc t q h
      rw [strP] at h
      split at h
      · rw [Option.some.injEq, Res.ok.injEq] at h; rw [← h.2]; exact List.tail_suffix l
      · cases ho : oneP l with
        | bad k r => rw [ho] at h; cases h
        | ok c r => rw [ho] at h; exact (ih h).trans (one_suf ho)
  unfold quoP at h
  split at h
  · exact (key n h).trans (List.tail_suffix l)
  · cases h
set_option maxRecDepth 100000 in
set_option maxHeartbeats 4000000 in
theorem key_any {w : World} {q m : Nat} {S l : Bs} {lev N : Nat} {seen : List Bs} {R : Res Bs} (hS : okS S) (hE : Env w) (hq : 10 ≤ q) (h : RdAt w q S l lev) (hM : SetM w m seen) (hsl : seen.length ≤ 65536) (hR : keyP N seen l = some R) :
    Calls Tryz.prog 160 #[.pointer (some ⟨q, 0, none⟩), .map (some m)] w fun e w' => saysK w q m S l lev seen R e w' := by
  have hB := blanks_any h hS.T
  have hqm := hM.ne h.row
  have hlw := h.lt
  have HSf := Lib.hid (dropB_suf l)
  have hst := hR
  unfold keyP at hst
  generalize hl' : dropB l = l' at hB HSf hst
  cases hq1 : quoP N l' with
  | none => rw [hq1] at hst; cases hst
  | some Q =>
    rw [hq1] at hst
    have hQ := fun w' (hE' : Env w') (h' : RdAt w' q S l' lev) => quoted_any hS hE' hq h' hq1
    generalize hf : S.length - l'.length = f0
    have HF := Lib.hid hf
    have HE := Lib.hid hE
    have HM := Lib.hid hM
    have HS := Lib.hid hS
    cases Q with
    | bad code x =>
      have HQ := Lib.hid (show R = .bad code x from (Option.some.inj hst).symm)
      unfold saysT errAt errV at hQ
      clear hst hq1 hR hf hE hM hS hl'
      go_enter Tryz.func160, Tryz.ntmps160
      go_wp2_with (first
        | (go_at_call 99; ((with_reducible refine hB.mono ?_); rintro e w1 ⟨rfl, h1, c1⟩; obtain ⟨_, d1, _⟩ := h1.cell; rw [HF.out] at d1; have E1 := HE.out.q c1 hq))
        | (go_at_call 134; ((with_reducible refine (hQ _ E1 h1).mono ?_); rintro e w2 ⟨rfl, hb⟩)))
      go_ret2
      obtain ⟨⟨y, ly, hy1, hy2⟩, hy3⟩ := hb
      exact saysK_bad HQ.out ⟨y, ly, hy1, hy2.trans HSf.out⟩ (c1.two hy3).toOr
    | ok t x =>
      unfold saysT okP at hQ
      dsimp only at hst
      have HXS := Lib.hid ((quo_suf hq1).trans HSf.out)
      have hxB := fun w' (h' : RdAt w' q S x lev) => blanks_any h' hS.T
      by_cases hin : t ∈ seen
      · rw [if_pos hin, Option.some.injEq] at hst
        have HQ := Lib.hid hst.symm
        have hhas : Maps.has (setS seen) (litS t) = true := by rw [has_setS]; simpa using hin
        clear hst hq1 hR hf hE hM hS hl' hin hxB
        go_enter Tryz.func160, Tryz.ntmps160
        go_wp2_with (first
          | (go_at_call 99; ((with_reducible refine hB.mono ?_); rintro e w1 ⟨rfl, h1, c1⟩; obtain ⟨_, d1, _⟩ := h1.cell; rw [HF.out] at d1; have E1 := HE.out.q c1 hq))
          | (go_at_call 134; ((with_reducible refine (hQ _ E1 h1).mono ?_); rintro e w2 ⟨rfl, hl2, h2, c2⟩; have M2 := HM.out.chg (c1.two c2) (fun e => hqm e.symm); have HK := Lib.hid (key_str t (by have := HS.out; unfold okS at this; omega))))
          | (at_lookup; refine wpList_lookup_own_unit _ rfl _ _ 231 rfl 9 233 law_str Tryz.underlying231 (zero_unit _) m _ _ rfl M2 _ _ rfl HK.out ?_)
          | (go_at_call 100; ((with_reducible refine (unfit_any f0 _ rfl _).mono ?_); rintro e w5 ⟨rfl, rfl⟩; unfold errV)))
        go_ret2
        have := saysK_bad (w := w) (w' := w2.alloc (.cells #[] 233)) (q := q) (m := m) (S := S) (r := l) (lev := lev) (seen := seen) HQ.out ⟨x, lev, h2.below ((Below.refl _ _).alloc (Nat.le_refl _) _), HXS.out⟩ ((c1.two c2).alloc _).toOr
        unfold errAt at this
        rw [HF.out] at this
        exact this
      · rw [if_neg hin] at hst
        have hhas : Maps.has (setS seen) (litS t) = false := by rw [has_setS]; simpa using hin
        have HSN := Lib.hid (show (seen ++ [t]).length = seen.length + 1 ∧ setS (seen ++ [t]) = (setS seen).put (litS t) (.agg []) from ⟨by simp, by unfold setS; rw [List.map_append]; exact setOf_snoc _ _ _⟩)
        have HXB := Lib.hid (dropB_suf x)
        generalize hx' : dropB x = x' at hxB hst HXB
        by_cases h58 : hd x' = 58
        · rw [if_pos h58, Option.some.injEq] at hst
          have HQ := Lib.hid hst.symm
          have T1 := take_T (q := q) (lev := lev) hS.T 58 58 rfl (by decide) h58
          clear hst hq1 hR hf hE hM hS hl' hin hx' h58
          go_enter Tryz.func160, Tryz.ntmps160
          go_wp2_with (first
          | (go_at_call 99; ((with_reducible refine hB.mono ?_); rintro e w1 ⟨rfl, h1, c1⟩; obtain ⟨_, d1, _⟩ := h1.cell; rw [HF.out] at d1; have E1 := HE.out.q c1 hq))
          | (go_at_call 134; ((with_reducible refine (hQ _ E1 h1).mono ?_); rintro e w2 ⟨rfl, hl2, h2, c2⟩; have M2 := HM.out.chg (c1.two c2) (fun e => hqm e.symm); have HK := Lib.hid (key_str t (by have := HS.out; unfold okS at this; omega))))
          | (at_lookup; refine wpList_lookup_own_unit _ rfl _ _ 231 rfl 9 233 law_str Tryz.underlying231 (zero_unit _) m _ _ rfl M2 _ _ rfl HK.out ?_)
          | (at_mapUpdate; refine wpList_mapUpdate_own _ rfl _ _ _ 231 rfl 9 233 law_str Tryz.underlying231 (unitElem (H := Unit)) m seen.length _ rfl (M2.alloc _) (by unfold maxLen; omega) _ _ _ rfl rfl HK.out _ [] unitElem_mk ?_; intro w3 hown3 hgrow3; have hc3 : Chg (· = m) w2 w3 := ((Chg.refl _ w2).alloc _).grown hgrow3 (fun k hk => .inl (Option.some.inj hk).symm); have h3 := h2.chg hc3 hqm; have M3 := Lib.hid hown3; clear hown3 hgrow3)
          | (go_at_call 99; ((with_reducible refine (hxB _ h3).mono ?_); rintro e w4 ⟨rfl, h4, c4⟩))
          | (go_at_call 138; ((with_reducible refine (T1 _ h4).mono ?_); rintro e w5 ⟨rfl, h5, c5⟩)))
          go_ret2
          have hSS := HS.out
          unfold okS at hSS
          have hch : Chg (fun k => k = q ∨ k = m) w w3 := (c1.two c2).toOr.trans hc3 (fun k _ h => .inr h)
          have hM4 : SetM w5 m (seen ++ [t]) := by
            refine SetM.chg (w := w3) ?_ (c4.two c5) (fun e => hqm e.symm)
            unfold SetM
            rw [HSN.out.1, HSN.out.2]
            exact M3.out
          exact saysK_ok HQ.out (by omega) h5 hM4 ((hch.or c4).or c5)
        · rw [if_neg h58, Option.some.injEq] at hst
          have HQ := Lib.hid hst.symm
          have T1 := take_F (q := q) (lev := lev) hS.T 58 58 rfl (by decide) h58
          generalize hg : S.length - x'.length = g0
          have HG := Lib.hid hg
          clear hst hq1 hR hf hE hM hS hl' hin hx' h58 hg
          go_enter Tryz.func160, Tryz.ntmps160
          go_wp2_with (first
          | (go_at_call 99; ((with_reducible refine hB.mono ?_); rintro e w1 ⟨rfl, h1, c1⟩; obtain ⟨_, d1, _⟩ := h1.cell; rw [HF.out] at d1; have E1 := HE.out.q c1 hq))
          | (go_at_call 134; ((with_reducible refine (hQ _ E1 h1).mono ?_); rintro e w2 ⟨rfl, hl2, h2, c2⟩; have M2 := HM.out.chg (c1.two c2) (fun e => hqm e.symm); have HK := Lib.hid (key_str t (by have := HS.out; unfold okS at this; omega))))
          | (at_lookup; refine wpList_lookup_own_unit _ rfl _ _ 231 rfl 9 233 law_str Tryz.underlying231 (zero_unit _) m _ _ rfl M2 _ _ rfl HK.out ?_)
          | (at_mapUpdate; refine wpList_mapUpdate_own _ rfl _ _ _ 231 rfl 9 233 law_str Tryz.underlying231 (unitElem (H := Unit)) m seen.length _ rfl (M2.alloc _) (by unfold maxLen; omega) _ _ _ rfl rfl HK.out _ [] unitElem_mk ?_; intro w3 hown3 hgrow3; have hc3 : Chg (· = m) w2 w3 := ((Chg.refl _ w2).alloc _).grown hgrow3 (fun k hk => .inl (Option.some.inj hk).symm); have h3 := h2.chg hc3 hqm; have M3 := Lib.hid hown3; clear hown3 hgrow3)
          | (go_at_call 99; ((with_reducible refine (hxB _ h3).mono ?_); rintro e w4 ⟨rfl, h4, c4⟩))
          | (go_at_call 138; ((with_reducible refine (T1 _ h4).mono ?_); rintro e w5 ⟨rfl, h5, c5⟩; obtain ⟨_, d5, _⟩ := h5.cell; rw [HG.out] at d5))
          | (go_at_call 100; ((with_reducible refine (unfit_any g0 _ rfl _).mono ?_); rintro e w6 ⟨rfl, rfl⟩; unfold errV)))
          go_ret2
          have hch : Chg (fun k => k = q ∨ k = m) w w3 := (c1.two c2).toOr.trans hc3 (fun k _ h => .inr h)
          have := saysK_bad (w := w) (w' := w5) (q := q) (m := m) (S := S) (r := l) (lev := lev) (seen := seen) HQ.out ⟨x', lev, h5, HXB.out.trans HXS.out⟩ ((hch.or c4).or c5)
          unfold errAt at this
          rw [HG.out] at this
          exact this
end Go.Proofs.YtnkencdibniagaaGreatDoor

