/- Layer 11: one rune of a string. -/
import Derived.Test.YtlknngplnimdpaaGreatDoorJtK
namespace Go.Proofs.YtlknngplnimdpaaGreatDoor
open Go.RowKit

theorem dec_go {l : Bs} (h : l ≠ []) : Lib.decodeGo (str l) = Lib.decodeL l := by
  unfold Lib.decodeGo Lib.decodeL
  rw [if_neg (by rw [str_size]; exact fun e => h (List.eq_nil_of_length_eq_zero e))]
  rfl
theorem dec_go_nil : Lib.decodeGo (str []) = (65533, 0) := rfl
theorem drop_suf (l : Bs) (n : Nat) : l.drop n <:+ l := List.drop_suffix n l
/-- What is decoded of a text, and whether that is a rune that may stand there. -/
theorem one_bad {l : Bs} (h92 : ¬ hd l = 92) (h : l = [] ∨ noRune l ∨ (Lib.decodeL l).1 < 32) : oneP l = .bad 10 l ∧
    (((Lib.decodeGo (str l)).1 : Int) < 32 ∨ (¬ ((Lib.decodeGo (str l)).1 : Int) < 32 ∧ ((Lib.decodeGo (str l)).1 : Int) = 65533 ∧ ((Lib.decodeGo (str l)).2 : Int) ≤ 1)) := by
  refine ⟨by unfold oneP; rw [if_neg h92, if_pos h], ?_⟩
  by_cases hl : l = []
  · subst hl
    rw [dec_go_nil]
    exact .inr (by decide)
  · rw [dec_go hl]
    rcases h with h | h | h
    · exact absurd h hl
    · obtain ⟨h1, h2⟩ := h
      rw [h1, h2]
      exact .inr (by decide)
    · exact .inl (by omega)
theorem one_good {l : Bs} (h92 : ¬ hd l = 92) (h : ¬ (l = [] ∨ noRune l ∨ (Lib.decodeL l).1 < 32)) : ∃ c n : Nat, Lib.decodeGo (str l) = (c, n) ∧ oneP l = .ok c (l.drop n) ∧ 32 ≤ c ∧ c < 1114112 ∧ (c = 65533 → 1 < n) ∧ n ≤ l.length := by
  have hl : l ≠ [] := fun e => h (.inl e)
  have hle := Lib.decodeL_le l hl
  have hw := Lib.decodeL_width l
  have hs := scal_dec l
  refine ⟨(Lib.decodeL l).1, (Lib.decodeL l).2, dec_go hl, by unfold oneP; rw [if_neg h92, if_neg h], ?_, ?_, fun e => ?_, hle⟩
  · exact Nat.le_of_not_lt fun e => h (.inr (.inr e))
  · unfold scal at hs; omega
  · have : ¬ (Lib.decodeL l).2 = 1 := fun e2 => h (.inr (.inl ⟨e, e2⟩))
    omega
theorem saysN_suf {w w1 w' : World} {q : Nat} {S r r' : Bs} {lev : Nat} {R : Res Nat} {e : Ending} (hs : r' <:+ r) (hc : Chg (· = q) w w1) (h : saysN w1 q S r' lev R e w') : saysN w q S r lev R e w' := by
  unfold saysN at h ⊢
  cases R with
  | ok n x => exact ⟨h.1, h.2.1, hc.two h.2.2⟩
  | bad code x => exact ⟨h.1, h.2.trans hc hs⟩
set_option maxRecDepth 100000 in
set_option maxHeartbeats 4000000 in
theorem one_any {w : World} {q : Nat} {S l : Bs} {lev : Nat} (hS : okT S) (hE : Env w) (hq : 10 ≤ q) (h : RdAt w q S l lev) :
    Calls Tryz.prog 155 #[.pointer (some ⟨q, 0, none⟩)] w fun e w' => saysN w q S l lev (oneP l) e w' := by
  obtain ⟨_, c1, _⟩ := h.cell
  by_cases h92 : hd l = 92
  · have HQ := Lib.hid (show oneP l = escP l l.tail by unfold oneP; rw [if_pos h92])
    have T1 := take_T (q := q) (lev := lev) hS 92 92 rfl (by decide) h92
    have hC := fun w' (h' : RdAt w' q S l.tail lev) => escape_any (fr := l) hS h' _ rfl
    generalize S.length - l.length = k at c1 hC
    cases hx : escP l l.tail with
    | bad code x =>
      rw [hx] at HQ
      have C := hC
      rw [hx] at C
      unfold saysN errAt errV at C
      clear hx h92 hC
      go_enter Tryz.func155, Tryz.ntmps155
      go_wp2_with (first
        | (go_at_call 138; ((with_reducible refine (T1 _ (by assumption)).mono ?_); rintro e w1 ⟨rfl, h1, c1⟩))
        | (go_at_call 178; ((with_reducible refine (C _ (by assumption)).mono ?_); rintro e w2 ⟨rfl, hb⟩)))
      go_ret2
      exact saysN_bad HQ.out (hb.trans c1 (List.tail_suffix l))
    | ok n x =>
      rw [hx] at HQ
      have C := hC
      rw [hx] at C
      unfold saysN at C
      clear hx h92 hC
      go_enter Tryz.func155, Tryz.ntmps155
      go_wp2_with (first
        | (go_at_call 138; ((with_reducible refine (T1 _ (by assumption)).mono ?_); rintro e w1 ⟨rfl, h1, c1⟩))
        | (go_at_call 178; ((with_reducible refine (C _ (by assumption)).mono ?_); rintro e w2 ⟨rfl, hb⟩)))
      go_ret2
      exact saysN_ok HQ.out ⟨hb.1, c1.two hb.2⟩
  · have T1 := take_F (q := q) (lev := lev) hS 92 92 rfl (by decide) h92
    have hext := rest_text h.suf
    have hlek : S.length - l.length ≤ (str S).size := by rw [str_size]; omega
    have hD := fun w (hE : Env w) => Tryz.utf8_DecodeRuneInString (str l) w hE.tabs
    have HE := Lib.hid hE
    by_cases hbad : l = [] ∨ noRune l ∨ (Lib.decodeL l).1 < 32
    · obtain ⟨hb1, hb2⟩ := one_bad h92 hbad
      have HQ := Lib.hid hb1
      generalize (Lib.decodeGo (str l)).1 = c at hD hb2
      generalize (Lib.decodeGo (str l)).2 = n at hD hb2
      generalize hk : S.length - l.length = k at c1 hext hlek
      have HK := Lib.hid hk
      clear hk hb1 hbad h92 hE
      rcases hb2 with hb2 | ⟨hb2, hb3, hb4⟩
      · have e1 : decide ((c : Int) < 32) = true := by rw [decide_eq_true_eq]; exact hb2
        clear hb2
        go_enter Tryz.func155, Tryz.ntmps155
        go_wp2_with (first
          | (go_at_call 138; ((with_reducible refine (T1 _ (by assumption)).mono ?_); rintro e w1 ⟨rfl, h1, c2⟩; obtain ⟨d0, d1, _⟩ := h1.cell; rw [HK.out] at d1; have E1 := HE.out.q c2 hq))
          | (go_at_call 179; ((with_reducible refine (hD _ (by assumption)).mono ?_); rintro e w2 ⟨rfl, b2⟩))
          | (go_at_call 100; ((with_reducible refine (unfit_any k _ rfl _).mono ?_); rintro e w5 ⟨rfl, rfl⟩; unfold errV)))
        go_ret2
        have := saysN_bad (w := w) (w' := w2) (q := q) (S := S) (r := l) (lev := lev) HQ.out ⟨⟨l, lev, h1.below b2, List.suffix_refl l⟩, c2.then_below b2⟩
        unfold errAt at this
        rw [HK.out] at this
        exact this
      · have e1 : decide ((c : Int) < 32) = false := by rw [decide_eq_false_iff_not]; exact hb2
        have e2 : ((c : Int) == 65533) = true := by rw [beq_iff_eq]; exact hb3
        have e3 : decide ((n : Int) ≤ 1) = true := by rw [decide_eq_true_eq]; exact hb4
        clear hb2 hb3 hb4
        go_enter Tryz.func155, Tryz.ntmps155
        go_wp2_with (first
          | (go_at_call 138; ((with_reducible refine (T1 _ (by assumption)).mono ?_); rintro e w1 ⟨rfl, h1, c2⟩; obtain ⟨d0, d1, _⟩ := h1.cell; rw [HK.out] at d1; have E1 := HE.out.q c2 hq))
          | (go_at_call 179; ((with_reducible refine (hD _ (by assumption)).mono ?_); rintro e w2 ⟨rfl, b2⟩))
          | (go_at_call 100; ((with_reducible refine (unfit_any k _ rfl _).mono ?_); rintro e w5 ⟨rfl, rfl⟩; unfold errV)))
        go_ret2
        have := saysN_bad (w := w) (w' := w2) (q := q) (S := S) (r := l) (lev := lev) HQ.out ⟨⟨l, lev, h1.below b2, List.suffix_refl l⟩, c2.then_below b2⟩
        unfold errAt at this
        rw [HK.out] at this
        exact this
    · obtain ⟨c, n, hg1, hg2, hg3, hg4, hg5, hg6⟩ := one_good h92 hbad
      rw [hg1] at hD
      have HQ := Lib.hid hg2
      have e1 : decide ((c : Int) < 32) = false := by rw [decide_eq_false_iff_not]; omega
      have hle := h.le
      have hSS := hS
      unfold okT at hSS
      have HN := Lib.hid (show S.length - (l.drop n).length = S.length - l.length + n by rw [List.length_drop]; omega)
      have hn2 : n ≤ 4611686018427387904 := by omega
      generalize hk : S.length - l.length = k at c1 hext hlek HN
      have HK := Lib.hid hk
      have hk2 : k ≤ 4611686018427387904 := by omega
      have hkn : (k : Int) + (n : Int) ≤ 4611686018427387904 := by omega
      clear hk hg1 hg2 hbad h92 hE hle hSS hg6
      by_cases h6 : c = 65533
      · have e2 : ((c : Int) == 65533) = true := by rw [beq_iff_eq]; omega
        have e3 : decide ((n : Int) ≤ 1) = false := by rw [decide_eq_false_iff_not]; have := hg5 h6; omega
        clear hg5 h6
        go_enter Tryz.func155, Tryz.ntmps155
        go_wp2_with (first
          | (go_at_call 138; ((with_reducible refine (T1 _ (by assumption)).mono ?_); rintro e w1 ⟨rfl, h1, c2⟩; obtain ⟨d0, d1, _⟩ := h1.cell; rw [HK.out] at d1; have E1 := HE.out.q c2 hq))
          | (go_at_call 179; ((with_reducible refine (hD _ (by assumption)).mono ?_); rintro e w2 ⟨rfl, b2⟩; have h2 := h1.below b2; obtain ⟨_, d2, _⟩ := h2.cell; rw [HK.out] at d2; have f2 := h2.free 1)))
        go_ret2
        exact saysN_ok HQ.out ⟨h2.put (drop_suf l n) (by have := HN.out; omega), (c2.then_below b2).setCell _ _ (.inl rfl)⟩
      · have e2 : ((c : Int) == 65533) = false := by rw [beq_eq_false_iff_ne]; omega
        clear hg5 h6
        go_enter Tryz.func155, Tryz.ntmps155
        go_wp2_with (first
          | (go_at_call 138; ((with_reducible refine (T1 _ (by assumption)).mono ?_); rintro e w1 ⟨rfl, h1, c2⟩; obtain ⟨d0, d1, _⟩ := h1.cell; rw [HK.out] at d1; have E1 := HE.out.q c2 hq))
          | (go_at_call 179; ((with_reducible refine (hD _ (by assumption)).mono ?_); rintro e w2 ⟨rfl, b2⟩; have h2 := h1.below b2; obtain ⟨_, d2, _⟩ := h2.cell; rw [HK.out] at d2; have f2 := h2.free 1)))
        go_ret2
        exact saysN_ok HQ.out ⟨h2.put (drop_suf l n) (by have := HN.out; omega), (c2.then_below b2).setCell _ _ (.inl rfl)⟩
end Go.Proofs.YtlknngplnimdpaaGreatDoor
