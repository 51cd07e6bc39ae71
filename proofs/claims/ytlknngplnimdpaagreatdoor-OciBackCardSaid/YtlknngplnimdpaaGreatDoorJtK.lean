/- Layer 11: escapes; one rune of a string. -/
import Derived.Test.YtlknngplnimdpaaGreatDoorJtJ
namespace Go.Proofs.YtlknngplnimdpaaGreatDoor
open Go.RowKit

def escs : Bs := [34, 92, 98, 102, 110, 114, 116]
def escd : Bs := [34, 92, 8, 12, 10, 13, 9]
theorem esc_tab : ∀ b : Fin 256, (match unesc (UInt8.ofNat b.val) with
    | none => decide (Lib.indexByte escs (UInt8.ofNat b.val) < 0)
    | some c => decide (0 ≤ Lib.indexByte escs (UInt8.ofNat b.val)) && (decide (Lib.indexByte escs (UInt8.ofNat b.val) < 7) && decide ((escd.getD (Lib.indexByte escs (UInt8.ofNat b.val)).toNat 0).toNat = c))) = true := by decide +kernel
theorem esc_none {b : UInt8} (h : unesc b = none) : Lib.indexByte escs b < 0 := by
  have := esc_tab ⟨b.toNat, b.toNat_lt⟩
  simp only [UInt8.ofNat_toNat] at this
  rw [h] at this
  simpa using this
theorem esc_some {b : UInt8} {c : Nat} (h : unesc b = some c) : ∃ i : Nat, Lib.indexByte escs b = (i : Int) ∧ i < 7 ∧ (escd.getD i 0).toNat = c := by
  have := esc_tab ⟨b.toNat, b.toNat_lt⟩
  simp only [UInt8.ofNat_toNat] at this
  rw [h] at this
  simp only [Bool.and_eq_true, decide_eq_true_eq] at this
  obtain ⟨h1, h2, h3⟩ := this
  exact ⟨(Lib.indexByte escs b).toNat, by omega, by omega, h3⟩
set_option maxRecDepth 100000 in
set_option maxHeartbeats 4000000 in
theorem escape_any {w : World} {q : Nat} {S l fr : Bs} {lev : Nat} (hS : okT S) (h : RdAt w q S l lev) (y : Int) (hy : y = ((S.length - fr.length : Nat) : Int)) :
    Calls Tryz.prog 178 #[.pointer (some ⟨q, 0, none⟩), .int .i64 y] w fun e w' => saysN w q S l lev (escP fr l) e w' := by
  have hU := fun w' r' (h' : RdAt w' q S r' lev) => units_any hS h' y hy
  clear hy
  by_cases e1 : hd l = 117
  · have HQ := Lib.hid (show escP fr l = unitsP fr l.tail by unfold escP; rw [if_pos e1])
    have T1 := take_T (q := q) (lev := lev) hS 117 117 rfl (by decide) e1
    cases hx : unitsP fr l.tail with
    | bad code x =>
      rw [hx] at HQ
      have C := fun w' (h' : RdAt w' q S l.tail lev) => hU w' l.tail h'
      rw [hx] at C
      unfold saysN errAt errV at C
      clear hx e1 hU
      go_enter Tryz.func178, Tryz.ntmps178
      go_wp2_with (first
        | (go_at_call 138; ((with_reducible refine (T1 _ (by assumption)).mono ?_); rintro e w1 ⟨rfl, h1, c1⟩))
        | (go_at_call 196; ((with_reducible refine (C _ (by assumption)).mono ?_); rintro e w2 ⟨rfl, hb⟩)))
      go_ret2
      exact saysN_bad HQ.out (hb.trans c1 (List.tail_suffix l))
    | ok n x =>
      rw [hx] at HQ
      have C := fun w' (h' : RdAt w' q S l.tail lev) => hU w' l.tail h'
      rw [hx] at C
      unfold saysN at C
      clear hx e1 hU
      go_enter Tryz.func178, Tryz.ntmps178
      go_wp2_with (first
        | (go_at_call 138; ((with_reducible refine (T1 _ (by assumption)).mono ?_); rintro e w1 ⟨rfl, h1, c1⟩))
        | (go_at_call 196; ((with_reducible refine (C _ (by assumption)).mono ?_); rintro e w2 ⟨rfl, hb⟩)))
      go_ret2
      exact saysN_ok HQ.out ⟨hb.1, c1.two hb.2⟩
  · have T1 := take_F (q := q) (lev := lev) hS 117 117 rfl (by decide) e1
    by_cases e2 : hd l = 47
    · have HQ := Lib.hid (show escP fr l = .ok 47 l.tail by unfold escP; rw [if_neg e1, if_pos e2])
      have T2 := take_T (q := q) (lev := lev) hS 47 47 rfl (by decide) e2
      clear e1 e2 hU
      go_enter Tryz.func178, Tryz.ntmps178
      go_wp2_with (first
        | (go_at_call 138; ((with_reducible refine (T1 _ (by assumption)).mono ?_); rintro e w1 ⟨rfl, h1, c1⟩))
        | (go_at_call 138; ((with_reducible refine (T2 _ (by assumption)).mono ?_); rintro e w2 ⟨rfl, h2, c2⟩)))
      go_ret2
      exact saysN_ok (n := 47) HQ.out ⟨h2, c1.two c2⟩
    · have T2 := take_F (q := q) (lev := lev) hS 47 47 rfl (by decide) e2
      have hN := fun w' r' (h' : RdAt w' q S r' lev) => next_any h'
      have hI := fun w => Tryz.strings_IndexByte (str escs) ((hd l).toNat : Int) w
      rw [show ((hd l).toNat : Int).toNat.toUInt8 = hd l by simp, str_toList] at hI
      rw [show str escs = ⟨#[34, 92, 98, 102, 110, 114, 116]⟩ from rfl] at hI
      cases hx : unesc (hd l) with
      | none =>
        have HQ := Lib.hid (show escP fr l = .bad 10 l by unfold escP; rw [if_neg e1, if_neg e2, hx])
        have hneg := esc_none hx
        generalize Lib.indexByte escs (hd l) = i at hI hneg
        generalize hk : S.length - l.length = k
        have HK := Lib.hid hk
        clear hx e1 e2 hU hk
        go_enter Tryz.func178, Tryz.ntmps178
        go_wp2_with (first
          | (go_at_call 138; ((with_reducible refine (T1 _ (by assumption)).mono ?_); rintro e w1 ⟨rfl, h1, c1⟩))
          | (go_at_call 138; ((with_reducible refine (T2 _ (by assumption)).mono ?_); rintro e w2 ⟨rfl, h2, c2⟩; obtain ⟨_, d1, _⟩ := h2.cell; rw [HK.out] at d1))
          | (go_at_call 132; ((with_reducible refine (hN _ _ (by assumption)).mono ?_); rintro e w3 ⟨rfl, m, rfl⟩))
          | (go_at_call 183; ((with_reducible refine (hI _).mono ?_); rintro e w4 ⟨rfl, rfl⟩))
          | (go_at_call 100; ((with_reducible refine (unfit_any k _ rfl _).mono ?_); rintro e w5 ⟨rfl, rfl⟩; unfold errV)))
        go_ret2
        have := saysN_bad (w := w) (w' := w2.drewN m) (q := q) (S := S) (r := l) (lev := lev) HQ.out ⟨⟨l, lev, h2.drewN m, List.suffix_refl l⟩, (c1.two c2).drewN m⟩
        unfold errAt at this
        rw [HK.out] at this
        exact this
      | some c =>
        have HQ := Lib.hid (show escP fr l = .ok c l.tail by unfold escP; rw [if_neg e1, if_neg e2, hx])
        obtain ⟨i, hi1, hi2, hi3⟩ := esc_some hx
        rw [hi1] at hI
        have hne : l ≠ [] := by
          rintro rfl
          rw [show unesc (hd []) = none from rfl] at hx
          cases hx
        have hidx := idx_str (str escd) i (i : Int) rfl (by rw [str_size]; exact hi2)
        rw [str_toList, hi3, show str escd = ⟨#[34, 92, 8, 12, 10, 13, 9]⟩ from rfl] at hidx
        have hcl := unesc_lt hx
        have hle := h.le
        have hlp := List.length_pos_iff.2 hne
        have hSS := hS
        unfold okT at hSS
        generalize hk : S.length - l.length = k
        have HK := Lib.hid hk
        have hk2 : k ≤ 4611686018427387904 := by omega
        have HNE := Lib.hid hne
        clear hx e1 e2 hU hk hi1 hi3 hne hle hlp hSS
        go_enter Tryz.func178, Tryz.ntmps178
        go_wp2_with (first
          | (go_at_call 138; ((with_reducible refine (T1 _ (by assumption)).mono ?_); rintro e w1 ⟨rfl, h1, c1⟩))
          | (go_at_call 138; ((with_reducible refine (T2 _ (by assumption)).mono ?_); rintro e w2 ⟨rfl, h2, c2⟩; obtain ⟨_, d1, _⟩ := h2.cell; rw [HK.out] at d1; have f1 := h2.free 1))
          | (go_at_call 132; ((with_reducible refine (hN _ _ (by assumption)).mono ?_); rintro e w3 ⟨rfl, m, rfl⟩))
          | (go_at_call 183; ((with_reducible refine (hI _).mono ?_); rintro e w4 ⟨rfl, rfl⟩)))
        go_ret2
        exact saysN_ok HQ.out ⟨(h2.drewN m).move HNE.out HK.out.symm, ((c1.two c2).drewN m).setCell _ _ (.inl rfl)⟩
end Go.Proofs.YtlknngplnimdpaaGreatDoor
