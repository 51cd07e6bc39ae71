/- Merged: JtJ, JtK, JtL. -/
import Derived.Test.YtnkencdibniagaaGreatDoorM12
/- Layer 11: both units of an escape. -/
namespace Go.Proofs.YtnkencdibniagaaGreatDoor
open Go.RowKit

theorem rest_text {S r : Bs} (h : r <:+ S) : (str S).extract (S.length - r.length) (str S).size = str r := by
  obtain ⟨p, rfl⟩ := h
  refine bytes_toList ?_
  rw [List.length_append, Nat.add_sub_cancel]
  simp [str, ByteArray.data_extract, ByteArray.size]
/-- To another place. -/
theorem RdAt.put {w : World} {q : Nat} {S r r' : Bs} {lev : Nat} (h : RdAt w q S r lev) (hs : r' <:+ r) {x : Int} (hx : x = ((S.length - r'.length : Nat) : Int)) : RdAt (w.setCell ⟨q, 1, none⟩ (.int .i64 x)) q S r' lev := by
  refine ⟨?_, hs.trans h.suf⟩
  have := rowC_set h.row 1 (.int .i64 x)
  have e : (rdC (str S) (S.length - r.length) lev).setIfInBounds 1 (.int .i64 x) = rdC (str S) (S.length - r'.length) lev := by
    rw [hx]; rfl
  rw [e] at this
  exact this
theorem unit_suf : ∀ (k c : Nat) {l r : Bs} {n : Nat}, unitP k c l = .ok n r → r <:+ l
  | 0, c, l, r, n, h => by rw [unitP, Res.ok.injEq] at h; rw [h.2]; exact List.suffix_refl _
  | k + 1, c, l, r, n, h => by
    rw [unitP] at h
    cases hx : hexV (hd l) with
    | none => rw [hx] at h; cases h
    | some m => rw [hx] at h; exact (unit_suf k _ h).trans (List.tail_suffix l)
theorem pre_T {x : Bs} (h : hd x = 92 ∧ hd x.tail = 117) : Lib.hasPrefix (str x).data.toList [92, 117] = true ∧ ∃ t, x = 92 :: 117 :: t := by
  have e : x = 92 :: 117 :: x.tail.tail := by
    rw [← cons_of_hd h.2 (by decide), ← cons_of_hd h.1 (by decide)]
  rw [e]
  exact ⟨rfl, _, rfl⟩
theorem pre_F {x : Bs} (h : ¬ (hd x = 92 ∧ hd x.tail = 117)) : Lib.hasPrefix (str x).data.toList [92, 117] = false := by
  rw [str_toList]
  unfold Lib.hasPrefix
  cases x with
  | nil => rfl
  | cons a x =>
    cases x with
    | nil =>
      show ((92 == a) && false) = false
      rw [Bool.and_false]
    | cons b x =>
      have h : ¬ (a = 92 ∧ b = 117) := h
      have : ¬ ((92 : UInt8) = a ∧ (117 : UInt8) = b) := fun e => h ⟨e.1.symm, e.2.symm⟩
      show ((92 == a) && ((117 == b) && true)) = false
      rw [Bool.and_true, Bool.and_eq_false_iff, beq_eq_false_iff_ne, beq_eq_false_iff_ne]
      by_cases ha : (92 : UInt8) = a
      · exact .inr fun hb => this ⟨ha, hb⟩
      · exact .inl ha
theorem str_ne {x y : Bs} (h : x ≠ y) : ((str x).toList == y) = false := by
  have e : (str x).toList = x := by unfold str; rw [ByteArray.toList_mk]
  rw [e, beq_eq_false_iff_ne]
  exact h
theorem str_some {x : Bs} (h : x ≠ []) : (str x).toList.isEmpty = false := by
  have e : (str x).toList = x := by unfold str; rw [ByteArray.toList_mk]
  rw [e]
  cases x with
  | nil => exact absurd rfl h
  | cons a x => rfl
set_option maxRecDepth 100000 in
set_option maxHeartbeats 4000000 in
theorem units_any {w : World} {q : Nat} {S r fr : Bs} {lev : Nat} (hS : okT S) (h : RdAt w q S r lev) (y : Int) (hy : y = ((S.length - fr.length : Nat) : Int)) :
    Calls Tryz.prog 196 #[.pointer (some ⟨q, 0, none⟩), .int .i64 y] w fun e w' => saysN w q S r lev (unitsP fr r) e w' := by
  subst hy
  have hU := fun w' r' (h' : RdAt w' q S r' lev) => unit_any hS h'
  have HU : Hid (unitsP fr r = match unitP 4 0 r with | .bad k r => .bad k r | .ok c r => if isLo c = true then .bad 10 fr else if isHi c = true then lowP fr c r else .ok c r) := Lib.hid rfl
  have HSS := Lib.hid hS
  unfold okT at hS
  cases hx : unitP 4 0 r with
  | bad code x =>
    have HQ := Lib.hid (show unitsP fr r = .bad code x by rw [HU.out, hx])
    have C := hU w r h
    rw [hx] at C
    unfold saysN errAt errV at C
    generalize S.length - fr.length = f0
    clear hx HU h hU hS
    go_enter Tryz.func196, Tryz.ntmps196
    go_wp2_with (go_at_call 204; ((with_reducible refine C.mono ?_); rintro e w1 ⟨rfl, hb⟩))
    go_ret2
    exact saysN_bad HQ.out hb
  | ok c x =>
    have C := hU w r h
    rw [hx] at C
    unfold saysN at C
    have hL := fun w => isLow_any c w
    have hH := fun w => isHigh_any c w
    cases hlo : isLo c with
    | true =>
      have HQ := Lib.hid (show unitsP fr r = .bad 10 fr by rw [HU.out, hx]; simp only [hlo, if_true])
      have HX := Lib.hid (unit_suf 4 0 hx)
      rw [hlo] at hL
      generalize hf0 : S.length - fr.length = f0
      have HF := Lib.hid hf0
      clear hx HU h hU hS hlo hH hf0
      go_enter Tryz.func196, Tryz.ntmps196
      go_wp2_with (first
        | (go_at_call 204; ((with_reducible refine C.mono ?_); rintro e w1 ⟨rfl, hb⟩))
        | (go_at_call 205; ((with_reducible refine (hL _).mono ?_); rintro e w' ⟨rfl, rfl⟩))
        | (go_at_call 100; ((with_reducible refine (unfit_any f0 _ rfl _).mono ?_); rintro e w2 ⟨rfl, rfl⟩; unfold errV)))
      go_ret2
      have := saysN_bad (w := w) (w' := w1) (q := q) (S := S) (r := r) (lev := lev) HQ.out ⟨⟨x, lev, hb.1, HX.out⟩, hb.2⟩
      unfold errAt at this
      rw [HF.out] at this
      exact this
    | false =>
      cases hhi : isHi c with
      | false =>
        have HQ := Lib.hid (show unitsP fr r = .ok c x by rw [HU.out, hx]; simp only [hlo, hhi]; rfl)
        rw [hlo] at hL
        rw [hhi] at hH
        generalize S.length - fr.length = f0
        clear hx HU h hU hS hlo hhi
        go_enter Tryz.func196, Tryz.ntmps196
        go_wp2_with (first
          | (go_at_call 204; ((with_reducible refine C.mono ?_); rintro e w1 ⟨rfl, hb⟩))
          | (go_at_call 205; ((with_reducible refine (hL _).mono ?_); rintro e w' ⟨rfl, rfl⟩))
          | (go_at_call 206; ((with_reducible refine (hH _).mono ?_); rintro e w' ⟨rfl, rfl⟩)))
        go_ret2
        exact saysN_ok HQ.out hb
      | true =>
        have HQ := Lib.hid (show unitsP fr r = lowP fr c x by rw [HU.out, hx]; simp only [hlo, hhi]; rfl)
        have HXS := Lib.hid (unit_suf 4 0 hx)
        have hXr := (unit_suf 4 0 hx).trans h.suf
        rw [hlo] at hL
        rw [hhi] at hH
        have hext := rest_text hXr
        have hlek : S.length - x.length ≤ (str S).size := by rw [str_size]; omega
        have HXr := Lib.hid hXr
        have hc2 := (isHi_iff c).1 hhi
        obtain ⟨cl, cu⟩ := hc2
        generalize hf0 : S.length - fr.length = f0
        have HF := Lib.hid hf0
        generalize hk : S.length - x.length = k at hext hlek
        have HKK := Lib.hid hk
        clear hk hx HU h hlo hhi hf0 hXr
        go_enter Tryz.func196, Tryz.ntmps196
        go_upto_region 8 with (first
          | (go_at_call 204; ((with_reducible refine C.mono ?_); rintro e w1 ⟨rfl, hb⟩; have h1 := hb.1; obtain ⟨d0, d1, _⟩ := h1.cell; rw [HKK.out] at d1))
          | (go_at_call 205; ((with_reducible refine (hL _).mono ?_); rintro e w' ⟨rfl, rfl⟩))
          | (go_at_call 206; ((with_reducible refine (hH _).mono ?_); rintro e w' ⟨rfl, rfl⟩)))
        go_quiet (fail)
        go_upto_region 9 with fail
        have h2 := h1.drewN nq
        have b2 := hb.2.drewN nq
        clear h1 hb d0 d1 C hL hH hext hlek
        generalize w1.drewN nq = w2 at h2 b2 ⊢
        have bad10 : ∀ r', unitsP fr r = .bad 10 r' → ∀ w' l', RdAt w' q S x l' → Chg (· = q) w w' → saysN w q S r lev (unitsP fr r) (.returned (.tuple #[.int .i32 0, errAt S 10 r'])) w' :=
          fun r' hR w' l' hr hc => saysN_bad hR ⟨⟨x, l', hr, HXS.out⟩, hc⟩
        have BAD := Lib.hid bad10
        clear bad10
        obtain ⟨d0, d1, _⟩ := h2.cell
        rw [HKK.out] at d1
        by_cases x0 : x = []
        · have HR := Lib.hid (show unitsP fr r = .bad 10 [] by rw [HQ.out]; unfold lowP; rw [if_pos (.inl x0)])
          have hbad := BAD.out [] HR.out _ lev h2 b2
          unfold errAt at hbad
          rw [List.length_nil, Nat.sub_zero, ← str_size S] at hbad
          have HB := Lib.hid hbad
          have e0 : str x = ⟨#[]⟩ := by rw [x0]; rfl
          rw [e0]
          clear x0 e0 hbad
          go_wp2_with (go_at_call 100; ((with_reducible refine (unfit_any (str S).size _ rfl _).mono ?_); rintro e w3 ⟨rfl, rfl⟩; unfold errV))
          go_ret2
          exact HB.out
        by_cases x1 : x = [92]
        · have HR := Lib.hid (show unitsP fr r = .bad 10 [] by rw [HQ.out]; unfold lowP; rw [if_pos (.inr x1)])
          have hbad := BAD.out [] HR.out _ lev h2 b2
          unfold errAt at hbad
          rw [List.length_nil, Nat.sub_zero, ← str_size S] at hbad
          have HB := Lib.hid hbad
          have e0 : str x = ⟨#[92]⟩ := by rw [x1]; rfl
          rw [e0]
          clear x0 x1 e0 hbad
          go_wp2_with (go_at_call 100; ((with_reducible refine (unfit_any (str S).size _ rfl _).mono ?_); rintro e w3 ⟨rfl, rfl⟩; unfold errV))
          go_ret2
          exact HB.out
        have s1 := str_some x0
        have s2 := str_ne (x := x) (y := [92]) x1
        by_cases hp : hd x = 92 ∧ hd x.tail = 117
        · have HR := Lib.hid (show unitsP fr r = match unitP 4 0 x.tail.tail with
              | .bad k q => .bad k q
              | .ok lo q => if isLo lo = true then .ok (65536 + (c - 55296) * 1024 + lo - 56320) q else .bad 10 fr by
            rw [HQ.out]; unfold lowP; rw [if_neg (by rintro (h | h); exact x0 h; exact x1 h), if_pos hp]
            cases unitP 4 0 x.tail.tail <;> rfl)
          have hP := fun w => Tryz.strings_HasPrefix (str x) ⟨#[92, 117]⟩ w
          rw [show (⟨#[92, 117]⟩ : ByteArray).data.toList = [92, 117] from rfl, (pre_T hp).1] at hP
          obtain ⟨t, ht⟩ := (pre_T hp).2
          have f1 := h2.free 1
          have hle := h2.le
          have hSS := HSS.out
          unfold okT at hSS
          have hx2 : x.length = x.tail.tail.length + 2 := by rw [ht]; simp
          have hk2 : k ≤ 4611686018427387904 := by have := HKK.out; omega
          have hm := h2.put ((List.tail_suffix _).trans (List.tail_suffix _)) (r' := x.tail.tail) (x := (k : Int) + 2) (by have := HKK.out; omega)
          have c2 := b2.setCell ⟨q, 1, none⟩ (.int .i64 ((k : Int) + 2)) (.inl rfl)
          have HX2 := Lib.hid (show x.tail.tail <:+ r from ((List.tail_suffix _).trans (List.tail_suffix _)).trans HXS.out)
          clear x0 x1 hp ht hle hSS hx2
          cases hy : unitP 4 0 x.tail.tail with
          | bad code y =>
            rw [hy] at HR
            have C2 := hU _ _ hm
            rw [hy] at C2
            unfold saysN errAt errV at C2
            clear hy
            go_wp2_with (first
              | (go_at_call 207; ((with_reducible refine (hP _).mono ?_); rintro e w' ⟨rfl, rfl⟩))
              | (go_at_call 204; ((with_reducible refine C2.mono ?_); rintro e w3 ⟨rfl, hb⟩)))
            go_ret2
            exact saysN_bad HR.out (hb.trans c2 HX2.out)
          | ok lo y =>
            rw [hy] at HR
            have C2 := hU _ _ hm
            rw [hy] at C2
            unfold saysN at C2
            have hL2 := fun w => isLow_any lo w
            have HYS := Lib.hid ((unit_suf 4 0 hy).trans HX2.out)
            cases hl2 : isLo lo with
            | false =>
              have HR2 := Lib.hid (show unitsP fr r = .bad 10 fr by rw [HR.out]; simp only [hl2]; rfl)
              rw [hl2] at hL2
              clear hy hl2 HR
              go_wp2_with (first
                | (go_at_call 207; ((with_reducible refine (hP _).mono ?_); rintro e w' ⟨rfl, rfl⟩))
                | (go_at_call 204; ((with_reducible refine C2.mono ?_); rintro e w3 ⟨rfl, hb⟩))
                | (go_at_call 205; ((with_reducible refine (hL2 _).mono ?_); rintro e w' ⟨rfl, rfl⟩))
                | (go_at_call 100; ((with_reducible refine (unfit_any f0 _ rfl _).mono ?_); rintro e w4 ⟨rfl, rfl⟩; unfold errV)))
              go_ret2
              have := saysN_bad (w := w) (w' := w3) (q := q) (S := S) (r := r) (lev := lev) HR2.out ⟨⟨y, lev, hb.1, HYS.out⟩, c2.two hb.2⟩
              unfold errAt at this
              rw [HF.out] at this
              exact this
            | true =>
              have HR2 := Lib.hid (show unitsP fr r = .ok (65536 + (c - 55296) * 1024 + lo - 56320) y by rw [HR.out]; simp only [hl2, if_true])
              obtain ⟨ll, lu⟩ := (isLo_iff lo).1 hl2
              rw [hl2] at hL2
              clear hy hl2 HR
              go_wp2_with (first
                | (go_at_call 207; ((with_reducible refine (hP _).mono ?_); rintro e w' ⟨rfl, rfl⟩))
                | (go_at_call 204; ((with_reducible refine C2.mono ?_); rintro e w3 ⟨rfl, hb⟩))
                | (go_at_call 205; ((with_reducible refine (hL2 _).mono ?_); rintro e w' ⟨rfl, rfl⟩)))
              go_ret2
              have := saysN_ok (w := w) (w' := w3) (q := q) (S := S) (r := r) (lev := lev) HR2.out ⟨hb.1, c2.two hb.2⟩
              rw [show ((65536 + (c - 55296) * 1024 + lo - 56320 : Nat) : Int) = 65536 + ((c : Int) - 55296) * 1024 + (lo : Int) - 56320 by omega] at this
              exact this
        · have HR := Lib.hid (show unitsP fr r = .bad 10 fr by rw [HQ.out]; unfold lowP; rw [if_neg (by rintro (h | h); exact x0 h; exact x1 h), if_neg hp])
          have hP := fun w => Tryz.strings_HasPrefix (str x) ⟨#[92, 117]⟩ w
          rw [show (⟨#[92, 117]⟩ : ByteArray).data.toList = [92, 117] from rfl, pre_F hp] at hP
          clear x0 x1 hp
          go_wp2_with (first
            | (go_at_call 207; ((with_reducible refine (hP _).mono ?_); rintro e w' ⟨rfl, rfl⟩))
            | (go_at_call 100; ((with_reducible refine (unfit_any f0 _ rfl _).mono ?_); rintro e w3 ⟨rfl, rfl⟩; unfold errV)))
          go_ret2
          have := BAD.out fr HR.out _ lev h2 b2
          unfold errAt at this
          rw [HF.out] at this
          exact this
end Go.Proofs.YtnkencdibniagaaGreatDoor

/- Layer 11: escapes; one rune of a string. -/
namespace Go.Proofs.YtnkencdibniagaaGreatDoor
open Go.RowKit

def escs : Bs := [34, 92, 98, 102, 110, 114, 116]
def escd : Bs := [34, 92, 8, 12, 10, 13, 9]
theorem esc_tab : ∀ b : Fin 256, (match unesc (UInt8.ofNat b.val) with
    | none => decide (Lib.indexByte escs (UInt8.ofNat b.val) < 0)
    | some c => decide (0 ≤ Lib.indexByte escs (UInt8.ofNat b.val)) && (decide (Lib.indexByte escs (UInt8.ofNat b.val) < 7) && decide ((escd.getD (Lib.indexByte escs (UInt8.ofNat b.val)).toNat 0).toNat = c))) = true := by decide +kernel
theorem esc_none {b : UInt8} (h : unesc b = none) : Lib.indexByte escs b < 0 := by
  have := esc_tab ⟨b.toNat, b.toNat_lt⟩
  simp only [UInt8.ofNat_toNat] at this
  rw [h] at this
  simpa using this
theorem esc_some {b : UInt8} {c : Nat} (h : unesc b = some c) : ∃ i : Nat, Lib.indexByte escs b = (i : Int) ∧ i < 7 ∧ (escd.getD i 0).toNat = c := by
  have := esc_tab ⟨b.toNat, b.toNat_lt⟩
  simp only [UInt8.ofNat_toNat] at this
  rw [h] at this
  simp only [Bool.and_eq_true, decide_eq_true_eq] at this
  obtain ⟨h1, h2, h3⟩ := this
  exact ⟨(Lib.indexByte escs b).toNat, by omega, by omega, h3⟩
set_option maxRecDepth 100000 in
set_option maxHeartbeats 4000000 in
theorem escape_any {w : World} {q : Nat} {S l fr : Bs} {lev : Nat} (hS : okT S) (h : RdAt w q S l lev) (y : Int) (hy : y = ((S.length - fr.length : Nat) : Int)) :
    Calls Tryz.prog 178 #[.pointer (some ⟨q, 0, none⟩), .int .i64 y] w fun e w' => saysN w q S l lev (escP fr l) e w' := by
  have hU := fun w' r' (h' : RdAt w' q S r' lev) => units_any hS h' y hy
  clear hy
  by_cases e1 : hd l = 117
  · have HQ := Lib.hid (show escP fr l = unitsP fr l.tail by unfold escP; rw [if_pos e1])
    have T1 := take_T (q := q) (lev := lev) hS 117 117 rfl (by decide) e1
    cases hx : unitsP fr l.tail with
    | bad code x =>
      rw [hx] at HQ
      have C := fun w' (h' : RdAt w' q S l.tail lev) => hU w' l.tail h'
      rw [hx] at C
      unfold saysN errAt errV at C
      clear hx e1 hU
      go_enter Tryz.func178, Tryz.ntmps178
      go_wp2_with (first
        | (go_at_call 138; ((with_reducible refine (T1 _ (by assumption)).mono ?_); rintro e w1 ⟨rfl, h1, c1⟩))
        | (go_at_call 196; ((with_reducible refine (C _ (by assumption)).mono ?_); rintro e w2 ⟨rfl, hb⟩)))
      go_ret2
      exact saysN_bad HQ.out (hb.trans c1 (List.tail_suffix l))
    | ok n x =>
      rw [hx] at HQ
      have C := fun w' (h' : RdAt w' q S l.tail lev) => hU w' l.tail h'
      rw [hx] at C
      unfold saysN at C
      clear hx e1 hU
      go_enter Tryz.func178, Tryz.ntmps178
      go_wp2_with (first
        | (go_at_call 138; ((with_reducible refine (T1 _ (by assumption)).mono ?_); rintro e w1 ⟨rfl, h1, c1⟩))
        | (go_at_call 196; ((with_reducible refine (C _ (by assumption)).mono ?_); rintro e w2 ⟨rfl, hb⟩)))
      go_ret2
      exact saysN_ok HQ.out ⟨hb.1, c1.two hb.2⟩
  · have T1 := take_F (q := q) (lev := lev) hS 117 117 rfl (by decide) e1
    by_cases e2 : hd l = 47
    · have HQ := Lib.hid (show escP fr l = .ok 47 l.tail by unfold escP; rw [if_neg e1, if_pos e2])
      have T2 := take_T (q := q) (lev := lev) hS 47 47 rfl (by decide) e2
      clear e1 e2 hU
      go_enter Tryz.func178, Tryz.ntmps178
      go_wp2_with (first
        | (go_at_call 138; ((with_reducible refine (T1 _ (by assumption)).mono ?_); rintro e w1 ⟨rfl, h1, c1⟩))
        | (go_at_call 138; ((with_reducible refine (T2 _ (by assumption)).mono ?_); rintro e w2 ⟨rfl, h2, c2⟩)))
      go_ret2
      exact saysN_ok (n := 47) HQ.out ⟨h2, c1.two c2⟩
    · have T2 := take_F (q := q) (lev := lev) hS 47 47 rfl (by decide) e2
      have hN := fun w' r' (h' : RdAt w' q S r' lev) => next_any h'
      have hI := fun w => Tryz.strings_IndexByte (str escs) ((hd l).toNat : Int) w
      rw [show ((hd l).toNat : Int).toNat.toUInt8 = hd l by simp, str_toList] at hI
      rw [show str escs = ⟨#[34, 92, 98, 102, 110, 114, 116]⟩ from rfl] at hI
      cases hx : unesc (hd l) with
      | none =>
        have HQ := Lib.hid (show escP fr l = .bad 10 l by unfold escP; rw [if_neg e1, if_neg e2, hx])
        have hneg := esc_none hx
        generalize Lib.indexByte escs (hd l) = i at hI hneg
        generalize hk : S.length - l.length = k
        have HK := Lib.hid hk
        clear hx e1 e2 hU hk
        go_enter Tryz.func178, Tryz.ntmps178
        go_wp2_with (first
          | (go_at_call 138; ((with_reducible refine (T1 _ (by assumption)).mono ?_); rintro e w1 ⟨rfl, h1, c1⟩))
          | (go_at_call 138; ((with_reducible refine (T2 _ (by assumption)).mono ?_); rintro e w2 ⟨rfl, h2, c2⟩; obtain ⟨_, d1, _⟩ := h2.cell; rw [HK.out] at d1))
          | (go_at_call 132; ((with_reducible refine (hN _ _ (by assumption)).mono ?_); rintro e w3 ⟨rfl, m, rfl⟩))
          | (go_at_call 183; ((with_reducible refine (hI _).mono ?_); rintro e w4 ⟨rfl, rfl⟩))
          | (go_at_call 100; ((with_reducible refine (unfit_any k _ rfl _).mono ?_); rintro e w5 ⟨rfl, rfl⟩; unfold errV)))
        go_ret2
        have := saysN_bad (w := w) (w' := w2.drewN m) (q := q) (S := S) (r := l) (lev := lev) HQ.out ⟨⟨l, lev, h2.drewN m, List.suffix_refl l⟩, (c1.two c2).drewN m⟩
        unfold errAt at this
        rw [HK.out] at this
        exact this
      | some c =>
        have HQ := Lib.hid (show escP fr l = .ok c l.tail by unfold escP; rw [if_neg e1, if_neg e2, hx])
        obtain ⟨i, hi1, hi2, hi3⟩ := esc_some hx
        rw [hi1] at hI
        have hne : l ≠ [] := by
          rintro rfl
          rw [show unesc (hd []) = none from rfl] at hx
          cases hx
        have hidx := idx_str (str escd) i (i : Int) rfl (by rw [str_size]; exact hi2)
        rw [str_toList, hi3, show str escd = ⟨#[34, 92, 8, 12, 10, 13, 9]⟩ from rfl] at hidx
        have hcl := unesc_lt hx
        have hle := h.le
        have hlp := List.length_pos_iff.2 hne
        have hSS := hS
        unfold okT at hSS
        generalize hk : S.length - l.length = k
        have HK := Lib.hid hk
        have hk2 : k ≤ 4611686018427387904 := by omega
        have HNE := Lib.hid hne
        clear hx e1 e2 hU hk hi1 hi3 hne hle hlp hSS
        go_enter Tryz.func178, Tryz.ntmps178
        go_wp2_with (first
          | (go_at_call 138; ((with_reducible refine (T1 _ (by assumption)).mono ?_); rintro e w1 ⟨rfl, h1, c1⟩))
          | (go_at_call 138; ((with_reducible refine (T2 _ (by assumption)).mono ?_); rintro e w2 ⟨rfl, h2, c2⟩; obtain ⟨_, d1, _⟩ := h2.cell; rw [HK.out] at d1; have f1 := h2.free 1))
          | (go_at_call 132; ((with_reducible refine (hN _ _ (by assumption)).mono ?_); rintro e w3 ⟨rfl, m, rfl⟩))
          | (go_at_call 183; ((with_reducible refine (hI _).mono ?_); rintro e w4 ⟨rfl, rfl⟩)))
        go_ret2
        exact saysN_ok HQ.out ⟨(h2.drewN m).move HNE.out HK.out.symm, ((c1.two c2).drewN m).setCell _ _ (.inl rfl)⟩
end Go.Proofs.YtnkencdibniagaaGreatDoor

/- Layer 11: one rune of a string. -/
namespace Go.Proofs.YtnkencdibniagaaGreatDoor
open Go.RowKit

theorem dec_go {l : Bs} (h : l ≠ []) : Lib.decodeGo (str l) = Lib.decodeL l := by
  unfold Lib.decodeGo Lib.decodeL
  rw [if_neg (by rw [str_size]; exact fun e => h (List.eq_nil_of_length_eq_zero e))]
  rfl
theorem dec_go_nil : Lib.decodeGo (str []) = (65533, 0) := rfl
theorem drop_suf (l : Bs) (n : Nat) : l.drop n <:+ l := List.drop_suffix n l
/-- What is decoded of a text, and whether that is a rune that may stand there. -/
theorem one_bad {l : Bs} (h92 : ¬ hd l = 92) (h : l = [] ∨ noRune l ∨ (Lib.decodeL l).1 < 32) : oneP l = .bad 10 l ∧
    (((Lib.decodeGo (str l)).1 : Int) < 32 ∨ (¬ ((Lib.decodeGo (str l)).1 : Int) < 32 ∧ ((Lib.decodeGo (str l)).1 : Int) = 65533 ∧ ((Lib.decodeGo (str l)).2 : Int) ≤ 1)) := by
  refine ⟨by unfold oneP; rw [if_neg h92, if_pos h], ?_⟩
  by_cases hl : l = []
  · subst hl
    rw [dec_go_nil]
    exact .inr (by decide)
  · rw [dec_go hl]
    rcases h with h | h | h
    · exact absurd h hl
    · obtain ⟨h1, h2⟩ := h
      rw [h1, h2]
      exact .inr (by decide)
    · exact .inl (by omega)
theorem one_good {l : Bs} (h92 : ¬ hd l = 92) (h : ¬ (l = [] ∨ noRune l ∨ (Lib.decodeL l).1 < 32)) : ∃ c n : Nat, Lib.decodeGo (str l) = (c, n) ∧ oneP l = .ok c (l.drop n) ∧ 32 ≤ c ∧ c < 1114112 ∧ (c = 65533 → 1 < n) ∧ n ≤ l.length := by
  have hl : l ≠ [] := fun e => h (.inl e)
  have hle := Lib.decodeL_le l hl
  have hw := Lib.decodeL_width l
  have hs := scal_dec l
  refine ⟨(Lib.decodeL l).1, (Lib.decodeL l).2, dec_go hl, by unfold oneP; rw [if_neg h92, if_neg h], ?_, ?_, fun e => ?_, hle⟩
  · exact Nat.le_of_not_lt fun e => h (.inr (.inr e))
  · unfold scal at hs; omega
  · have : ¬ (Lib.decodeL l).2 = 1 := fun e2 => h (.inr (.inl ⟨e, e2⟩))
    omega
set_option maxRecDepth 100000 in
set_option maxHeartbeats 4000000 in
theorem one_any {w : World} {q : Nat} {S l : Bs} {lev : Nat} (hS : okT S) (hE : Env w) (hq : 10 ≤ q) (h : RdAt w q S l lev) :
    Calls Tryz.prog 155 #[.pointer (some ⟨q, 0, none⟩)] w fun e w' => saysN w q S l lev (oneP l) e w' := by
  obtain ⟨_, c1, _⟩ := h.cell
  by_cases h92 : hd l = 92
  · have HQ := Lib.hid (show oneP l = escP l l.tail by unfold oneP; rw [if_pos h92])
    have T1 := take_T (q := q) (lev := lev) hS 92 92 rfl (by decide) h92
    have hC := fun w' (h' : RdAt w' q S l.tail lev) => escape_any (fr := l) hS h' _ rfl
    generalize S.length - l.length = k at c1 hC
    cases hx : escP l l.tail with
    | bad code x =>
      rw [hx] at HQ
      have C := hC
      rw [hx] at C
      unfold saysN errAt errV at C
      clear hx h92 hC
      go_enter Tryz.func155, Tryz.ntmps155
      go_wp2_with (first
        | (go_at_call 138; ((with_reducible refine (T1 _ (by assumption)).mono ?_); rintro e w1 ⟨rfl, h1, c1⟩))
        | (go_at_call 178; ((with_reducible refine (C _ (by assumption)).mono ?_); rintro e w2 ⟨rfl, hb⟩)))
      go_ret2
      exact saysN_bad HQ.out (hb.trans c1 (List.tail_suffix l))
    | ok n x =>
      rw [hx] at HQ
      have C := hC
      rw [hx] at C
      unfold saysN at C
      clear hx h92 hC
      go_enter Tryz.func155, Tryz.ntmps155
      go_wp2_with (first
        | (go_at_call 138; ((with_reducible refine (T1 _ (by assumption)).mono ?_); rintro e w1 ⟨rfl, h1, c1⟩))
        | (go_at_call 178; ((with_reducible refine (C _ (by assumption)).mono ?_); rintro e w2 ⟨rfl, hb⟩)))
      go_ret2
      exact saysN_ok HQ.out ⟨hb.1, c1.two hb.2⟩
  · have T1 := take_F (q := q) (lev := lev) hS 92 92 rfl (by decide) h92
    have hext := rest_text h.suf
    have hlek : S.length - l.length ≤ (str S).size := by rw [str_size]; omega
    have hD := fun w (hE : Env w) => Tryz.utf8_DecodeRuneInString (str l) w hE.tabs
    have HE := Lib.hid hE
    by_cases hbad : l = [] ∨ noRune l ∨ (Lib.decodeL l).1 < 32
    · obtain ⟨hb1, hb2⟩ := one_bad h92 hbad
      have HQ := Lib.hid hb1
      generalize (Lib.decodeGo (str l)).1 = c at hD hb2
      generalize (Lib.decodeGo (str l)).2 = n at hD hb2
      generalize hk : S.length - l.length = k at c1 hext hlek
      have HK := Lib.hid hk
      clear hk hb1 hbad h92 hE
      rcases hb2 with hb2 | ⟨hb2, hb3, hb4⟩
      · have e1 : decide ((c : Int) < 32) = true := by rw [decide_eq_true_eq]; exact hb2
        clear hb2
        go_enter Tryz.func155, Tryz.ntmps155
        go_wp2_with (first
          | (go_at_call 138; ((with_reducible refine (T1 _ (by assumption)).mono ?_); rintro e w1 ⟨rfl, h1, c2⟩; obtain ⟨d0, d1, _⟩ := h1.cell; rw [HK.out] at d1; have E1 := HE.out.q c2 hq))
          | (go_at_call 179; ((with_reducible refine (hD _ (by assumption)).mono ?_); rintro e w2 ⟨rfl, b2⟩))
          | (go_at_call 100; ((with_reducible refine (unfit_any k _ rfl _).mono ?_); rintro e w5 ⟨rfl, rfl⟩; unfold errV)))
        go_ret2
        have := saysN_bad (w := w) (w' := w2) (q := q) (S := S) (r := l) (lev := lev) HQ.out ⟨⟨l, lev, h1.below b2, List.suffix_refl l⟩, c2.then_below b2⟩
        unfold errAt at this
        rw [HK.out] at this
        exact this
      · have e1 : decide ((c : Int) < 32) = false := by rw [decide_eq_false_iff_not]; exact hb2
        have e2 : ((c : Int) == 65533) = true := by rw [beq_iff_eq]; exact hb3
        have e3 : decide ((n : Int) ≤ 1) = true := by rw [decide_eq_true_eq]; exact hb4
        clear hb2 hb3 hb4
        go_enter Tryz.func155, Tryz.ntmps155
        go_wp2_with (first
          | (go_at_call 138; ((with_reducible refine (T1 _ (by assumption)).mono ?_); rintro e w1 ⟨rfl, h1, c2⟩; obtain ⟨d0, d1, _⟩ := h1.cell; rw [HK.out] at d1; have E1 := HE.out.q c2 hq))
          | (go_at_call 179; ((with_reducible refine (hD _ (by assumption)).mono ?_); rintro e w2 ⟨rfl, b2⟩))
          | (go_at_call 100; ((with_reducible refine (unfit_any k _ rfl _).mono ?_); rintro e w5 ⟨rfl, rfl⟩; unfold errV)))
        go_ret2
        have := saysN_bad (w := w) (w' := w2) (q := q) (S := S) (r := l) (lev := lev) HQ.out ⟨⟨l, lev, h1.below b2, List.suffix_refl l⟩, c2.then_below b2⟩
        unfold errAt at this
        rw [HK.out] at this
        exact this
    · obtain ⟨c, n, hg1, hg2, hg3, hg4, hg5, hg6⟩ := one_good h92 hbad
      rw [hg1] at hD
      have HQ := Lib.hid hg2
      have e1 : decide ((c : Int) < 32) = false := by rw [decide_eq_false_iff_not]; omega
      have hle := h.le
      have hSS := hS
      unfold okT at hSS
      have HN := Lib.hid (show S.length - (l.drop n).length = S.length - l.length + n by rw [List.length_drop]; omega)
      have hn2 : n ≤ 4611686018427387904 := by omega
      generalize hk : S.length - l.length = k at c1 hext hlek HN
      have HK := Lib.hid hk
      have hk2 : k ≤ 4611686018427387904 := by omega
      have hkn : (k : Int) + (n : Int) ≤ 4611686018427387904 := by omega
      clear hk hg1 hg2 hbad h92 hE hle hSS hg6
      by_cases h6 : c = 65533
      · have e2 : ((c : Int) == 65533) = true := by rw [beq_iff_eq]; omega
        have e3 : decide ((n : Int) ≤ 1) = false := by rw [decide_eq_false_iff_not]; have := hg5 h6; omega
        clear hg5 h6
        go_enter Tryz.func155, Tryz.ntmps155
        go_wp2_with (first
          | (go_at_call 138; ((with_reducible refine (T1 _ (by assumption)).mono ?_); rintro e w1 ⟨rfl, h1, c2⟩; obtain ⟨d0, d1, _⟩ := h1.cell; rw [HK.out] at d1; have E1 := HE.out.q c2 hq))
          | (go_at_call 179; ((with_reducible refine (hD _ (by assumption)).mono ?_); rintro e w2 ⟨rfl, b2⟩; have h2 := h1.below b2; obtain ⟨_, d2, _⟩ := h2.cell; rw [HK.out] at d2; have f2 := h2.free 1)))
        go_ret2
        exact saysN_ok HQ.out ⟨h2.put (drop_suf l n) (by have := HN.out; omega), (c2.then_below b2).setCell _ _ (.inl rfl)⟩
      · have e2 : ((c : Int) == 65533) = false := by rw [beq_eq_false_iff_ne]; omega
        clear hg5 h6
        go_enter Tryz.func155, Tryz.ntmps155
        go_wp2_with (first
          | (go_at_call 138; ((with_reducible refine (T1 _ (by assumption)).mono ?_); rintro e w1 ⟨rfl, h1, c2⟩; obtain ⟨d0, d1, _⟩ := h1.cell; rw [HK.out] at d1; have E1 := HE.out.q c2 hq))
          | (go_at_call 179; ((with_reducible refine (hD _ (by assumption)).mono ?_); rintro e w2 ⟨rfl, b2⟩; have h2 := h1.below b2; obtain ⟨_, d2, _⟩ := h2.cell; rw [HK.out] at d2; have f2 := h2.free 1)))
        go_ret2
        exact saysN_ok HQ.out ⟨h2.put (drop_suf l n) (by have := HN.out; omega), (c2.then_below b2).setCell _ _ (.inl rfl)⟩
end Go.Proofs.YtnkencdibniagaaGreatDoor

