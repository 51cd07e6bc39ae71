/- Layer 11: both units of an escape. -/
import Derived.Test.YtlknngplnimdpaaGreatDoorJtI
namespace Go.Proofs.YtlknngplnimdpaaGreatDoor
open Go.RowKit

theorem rest_text {S r : Bs} (h : r <:+ S) : (str S).extract (S.length - r.length) (str S).size = str r := by
  obtain ⟨p, rfl⟩ := h
  refine bytes_toList ?_
  rw [List.length_append, Nat.add_sub_cancel]
  simp [str, ByteArray.data_extract, ByteArray.size]
theorem isLo_hi {c : Nat} (h : isHi c = true) : isLo c = false := by
  rw [isHi_iff] at h
  cases hl : isLo c with
  | false => rfl
  | true => rw [isLo_iff] at hl; omega
/-- To another place. -/
theorem RdAt.put {w : World} {q : Nat} {S r r' : Bs} {lev : Nat} (h : RdAt w q S r lev) (hs : r' <:+ r) {x : Int} (hx : x = ((S.length - r'.length : Nat) : Int)) : RdAt (w.setCell ⟨q, 1, none⟩ (.int .i64 x)) q S r' lev := by
  refine ⟨?_, hs.trans h.suf⟩
  have := rowC_set h.row 1 (.int .i64 x)
  have e : (rdC (str S) (S.length - r.length) lev).setIfInBounds 1 (.int .i64 x) = rdC (str S) (S.length - r'.length) lev := by
    rw [hx]; rfl
  rw [e] at this
  exact this
theorem unit_suf : ∀ (k c : Nat) {l r : Bs} {n : Nat}, unitP k c l = .ok n r → r <:+ l
  | 0, c, l, r, n, h => by rw [unitP, Res.ok.injEq] at h; rw [h.2]; exact List.suffix_refl _
  | k + 1, c, l, r, n, h => by
    rw [unitP] at h
    cases hx : hexV (hd l) with
    | none => rw [hx] at h; cases h
    | some m => rw [hx] at h; exact (unit_suf k _ h).trans (List.tail_suffix l)
theorem pre_T {x : Bs} (h : hd x = 92 ∧ hd x.tail = 117) : Lib.hasPrefix (str x).data.toList [92, 117] = true ∧ ∃ t, x = 92 :: 117 :: t := by
  have e : x = 92 :: 117 :: x.tail.tail := by
    rw [← cons_of_hd h.2 (by decide), ← cons_of_hd h.1 (by decide)]
  rw [e]
  exact ⟨rfl, _, rfl⟩
theorem pre_F {x : Bs} (h : ¬ (hd x = 92 ∧ hd x.tail = 117)) : Lib.hasPrefix (str x).data.toList [92, 117] = false := by
  rw [str_toList]
  unfold Lib.hasPrefix
  cases x with
  | nil => rfl
  | cons a x =>
    cases x with
    | nil =>
      show ((92 == a) && false) = false
      rw [Bool.and_false]
    | cons b x =>
      have h : ¬ (a = 92 ∧ b = 117) := h
      have : ¬ ((92 : UInt8) = a ∧ (117 : UInt8) = b) := fun e => h ⟨e.1.symm, e.2.symm⟩
      show ((92 == a) && ((117 == b) && true)) = false
      rw [Bool.and_true, Bool.and_eq_false_iff, beq_eq_false_iff_ne, beq_eq_false_iff_ne]
      by_cases ha : (92 : UInt8) = a
      · exact .inr fun hb => this ⟨ha, hb⟩
      · exact .inl ha
theorem str_ne {x y : Bs} (h : x ≠ y) : ((str x).toList == y) = false := by
  have e : (str x).toList = x := by unfold str; rw [ByteArray.toList_mk]
  rw [e, beq_eq_false_iff_ne]
  exact h
theorem str_some {x : Bs} (h : x ≠ []) : (str x).toList.isEmpty = false := by
  have e : (str x).toList = x := by unfold str; rw [ByteArray.toList_mk]
  rw [e]
  cases x with
  | nil => exact absurd rfl h
  | cons a x => rfl
set_option maxRecDepth 100000 in
set_option maxHeartbeats 4000000 in
theorem units_any {w : World} {q : Nat} {S r fr : Bs} {lev : Nat} (hS : okT S) (h : RdAt w q S r lev) (y : Int) (hy : y = ((S.length - fr.length : Nat) : Int)) :
    Calls Tryz.prog 196 #[.pointer (some ⟨q, 0, none⟩), .int .i64 y] w fun e w' => saysN w q S r lev (unitsP fr r) e w' := by
  subst hy
  have hU := fun w' r' (h' : RdAt w' q S r' lev) => unit_any hS h'
  have HU : Hid (unitsP fr r = match unitP 4 0 r with | .bad k r => .bad k r | .ok c r => if isLo c = true then .bad 10 fr else if isHi c = true then lowP fr c r else .ok c r) := Lib.hid rfl
  have HSS := Lib.hid hS
  unfold okT at hS
  cases hx : unitP 4 0 r with
  | bad code x =>
    have HQ := Lib.hid (show unitsP fr r = .bad code x by rw [HU.out, hx])
    have C := hU w r h
    rw [hx] at C
    unfold saysN errAt errV at C
    generalize S.length - fr.length = f0
    clear hx HU h hU hS
    go_enter Tryz.func196, Tryz.ntmps196
    go_wp2_with (go_at_call 204; ((with_reducible refine C.mono ?_); rintro e w1 ⟨rfl, hb⟩))
    go_ret2
    exact saysN_bad HQ.out hb
  | ok c x =>
    have C := hU w r h
    rw [hx] at C
    unfold saysN at C
    have hL := fun w => isLow_any c w
    have hH := fun w => isHigh_any c w
    cases hlo : isLo c with
    | true =>
      have HQ := Lib.hid (show unitsP fr r = .bad 10 fr by rw [HU.out, hx]; simp only [hlo, if_true])
      have HX := Lib.hid (unit_suf 4 0 hx)
      rw [hlo] at hL
      generalize hf0 : S.length - fr.length = f0
      have HF := Lib.hid hf0
      clear hx HU h hU hS hlo hH hf0
      go_enter Tryz.func196, Tryz.ntmps196
      go_wp2_with (first
        | (go_at_call 204; ((with_reducible refine C.mono ?_); rintro e w1 ⟨rfl, hb⟩))
        | (go_at_call 205; ((with_reducible refine (hL _).mono ?_); rintro e w' ⟨rfl, rfl⟩))
        | (go_at_call 100; ((with_reducible refine (unfit_any f0 _ rfl _).mono ?_); rintro e w2 ⟨rfl, rfl⟩; unfold errV)))
      go_ret2
      have := saysN_bad (w := w) (w' := w1) (q := q) (S := S) (r := r) (lev := lev) HQ.out ⟨⟨x, lev, hb.1, HX.out⟩, hb.2⟩
      unfold errAt at this
      rw [HF.out] at this
      exact this
    | false =>
      cases hhi : isHi c with
      | false =>
        have HQ := Lib.hid (show unitsP fr r = .ok c x by rw [HU.out, hx]; simp only [hlo, hhi]; rfl)
        rw [hlo] at hL
        rw [hhi] at hH
        generalize S.length - fr.length = f0
        clear hx HU h hU hS hlo hhi
        go_enter Tryz.func196, Tryz.ntmps196
        go_wp2_with (first
          | (go_at_call 204; ((with_reducible refine C.mono ?_); rintro e w1 ⟨rfl, hb⟩))
          | (go_at_call 205; ((with_reducible refine (hL _).mono ?_); rintro e w' ⟨rfl, rfl⟩))
          | (go_at_call 206; ((with_reducible refine (hH _).mono ?_); rintro e w' ⟨rfl, rfl⟩)))
        go_ret2
        exact saysN_ok HQ.out hb
      | true =>
        have HQ := Lib.hid (show unitsP fr r = lowP fr c x by rw [HU.out, hx]; simp only [hlo, hhi]; rfl)
        have HXS := Lib.hid (unit_suf 4 0 hx)
        have hXr := (unit_suf 4 0 hx).trans h.suf
        rw [hlo] at hL
        rw [hhi] at hH
        have hext := rest_text hXr
        have hlek : S.length - x.length ≤ (str S).size := by rw [str_size]; omega
        have HXr := Lib.hid hXr
        have hc2 := (isHi_iff c).1 hhi
        obtain ⟨cl, cu⟩ := hc2
        generalize hf0 : S.length - fr.length = f0
        have HF := Lib.hid hf0
        generalize hk : S.length - x.length = k at hext hlek
        have HKK := Lib.hid hk
        clear hk hx HU h hlo hhi hf0 hXr
        go_enter Tryz.func196, Tryz.ntmps196
        go_upto_region 8 with (first
          | (go_at_call 204; ((with_reducible refine C.mono ?_); rintro e w1 ⟨rfl, hb⟩; have h1 := hb.1; obtain ⟨d0, d1, _⟩ := h1.cell; rw [HKK.out] at d1))
          | (go_at_call 205; ((with_reducible refine (hL _).mono ?_); rintro e w' ⟨rfl, rfl⟩))
          | (go_at_call 206; ((with_reducible refine (hH _).mono ?_); rintro e w' ⟨rfl, rfl⟩)))
        go_quiet (fail)
        go_upto_region 9 with fail
        have h2 := h1.drewN nq
        have b2 := hb.2.drewN nq
        clear h1 hb d0 d1 C hL hH hext hlek
        generalize w1.drewN nq = w2 at h2 b2 ⊢
        have bad10 : ∀ r', unitsP fr r = .bad 10 r' → ∀ w' l', RdAt w' q S x l' → Chg (· = q) w w' → saysN w q S r lev (unitsP fr r) (.returned (.tuple #[.int .i32 0, errAt S 10 r'])) w' :=
          fun r' hR w' l' hr hc => saysN_bad hR ⟨⟨x, l', hr, HXS.out⟩, hc⟩
        have BAD := Lib.hid bad10
        clear bad10
        obtain ⟨d0, d1, _⟩ := h2.cell
        rw [HKK.out] at d1
        by_cases x0 : x = []
        · have HR := Lib.hid (show unitsP fr r = .bad 10 [] by rw [HQ.out]; unfold lowP; rw [if_pos (.inl x0)])
          have hbad := BAD.out [] HR.out _ lev h2 b2
          unfold errAt at hbad
          rw [List.length_nil, Nat.sub_zero, ← str_size S] at hbad
          have HB := Lib.hid hbad
          have e0 : str x = ⟨#[]⟩ := by rw [x0]; rfl
          rw [e0]
          clear x0 e0 hbad
          go_wp2_with (go_at_call 100; ((with_reducible refine (unfit_any (str S).size _ rfl _).mono ?_); rintro e w3 ⟨rfl, rfl⟩; unfold errV))
          go_ret2
          exact HB.out
        by_cases x1 : x = [92]
        · have HR := Lib.hid (show unitsP fr r = .bad 10 [] by rw [HQ.out]; unfold lowP; rw [if_pos (.inr x1)])
          have hbad := BAD.out [] HR.out _ lev h2 b2
          unfold errAt at hbad
          rw [List.length_nil, Nat.sub_zero, ← str_size S] at hbad
          have HB := Lib.hid hbad
          have e0 : str x = ⟨#[92]⟩ := by rw [x1]; rfl
          rw [e0]
          clear x0 x1 e0 hbad
          go_wp2_with (go_at_call 100; ((with_reducible refine (unfit_any (str S).size _ rfl _).mono ?_); rintro e w3 ⟨rfl, rfl⟩; unfold errV))
          go_ret2
          exact HB.out
        have s1 := str_some x0
        have s2 := str_ne (x := x) (y := [92]) x1
        by_cases hp : hd x = 92 ∧ hd x.tail = 117
        · have HR := Lib.hid (show unitsP fr r = match unitP 4 0 x.tail.tail with
              | .bad k q => .bad k q
              | .ok lo q => if isLo lo = true then .ok (65536 + (c - 55296) * 1024 + lo - 56320) q else .bad 10 fr by
            rw [HQ.out]; unfold lowP; rw [if_neg (by rintro (h | h); exact x0 h; exact x1 h), if_pos hp]
            cases unitP 4 0 x.tail.tail <;> rfl)
          have hP := fun w => Tryz.strings_HasPrefix (str x) ⟨#[92, 117]⟩ w
          rw [show (⟨#[92, 117]⟩ : ByteArray).data.toList = [92, 117] from rfl, (pre_T hp).1] at hP
          obtain ⟨t, ht⟩ := (pre_T hp).2
          have f1 := h2.free 1
          have hle := h2.le
          have hSS := HSS.out
          unfold okT at hSS
          have hx2 : x.length = x.tail.tail.length + 2 := by rw [ht]; simp
          have hk2 : k ≤ 4611686018427387904 := by have := HKK.out; omega
          have hm := h2.put ((List.tail_suffix _).trans (List.tail_suffix _)) (r' := x.tail.tail) (x := (k : Int) + 2) (by have := HKK.out; omega)
          have c2 := b2.setCell ⟨q, 1, none⟩ (.int .i64 ((k : Int) + 2)) (.inl rfl)
          have HX2 := Lib.hid (show x.tail.tail <:+ r from ((List.tail_suffix _).trans (List.tail_suffix _)).trans HXS.out)
          clear x0 x1 hp ht hle hSS hx2
          cases hy : unitP 4 0 x.tail.tail with
          | bad code y =>
            rw [hy] at HR
            have C2 := hU _ _ hm
            rw [hy] at C2
            unfold saysN errAt errV at C2
            clear hy
            go_wp2_with (first
              | (go_at_call 207; ((with_reducible refine (hP _).mono ?_); rintro e w' ⟨rfl, rfl⟩))
              | (go_at_call 204; ((with_reducible refine C2.mono ?_); rintro e w3 ⟨rfl, hb⟩)))
            go_ret2
            exact saysN_bad HR.out (hb.trans c2 HX2.out)
          | ok lo y =>
            rw [hy] at HR
            have C2 := hU _ _ hm
            rw [hy] at C2
            unfold saysN at C2
            have hL2 := fun w => isLow_any lo w
            have HYS := Lib.hid ((unit_suf 4 0 hy).trans HX2.out)
            cases hl2 : isLo lo with
            | false =>
              have HR2 := Lib.hid (show unitsP fr r = .bad 10 fr by rw [HR.out]; simp only [hl2]; rfl)
              rw [hl2] at hL2
              clear hy hl2 HR
              go_wp2_with (first
                | (go_at_call 207; ((with_reducible refine (hP _).mono ?_); rintro e w' ⟨rfl, rfl⟩))
                | (go_at_call 204; ((with_reducible refine C2.mono ?_); rintro e w3 ⟨rfl, hb⟩))
                | (go_at_call 205; ((with_reducible refine (hL2 _).mono ?_); rintro e w' ⟨rfl, rfl⟩))
                | (go_at_call 100; ((with_reducible refine (unfit_any f0 _ rfl _).mono ?_); rintro e w4 ⟨rfl, rfl⟩; unfold errV)))
              go_ret2
              have := saysN_bad (w := w) (w' := w3) (q := q) (S := S) (r := r) (lev := lev) HR2.out ⟨⟨y, lev, hb.1, HYS.out⟩, c2.two hb.2⟩
              unfold errAt at this
              rw [HF.out] at this
              exact this
            | true =>
              have HR2 := Lib.hid (show unitsP fr r = .ok (65536 + (c - 55296) * 1024 + lo - 56320) y by rw [HR.out]; simp only [hl2, if_true])
              obtain ⟨ll, lu⟩ := (isLo_iff lo).1 hl2
              rw [hl2] at hL2
              clear hy hl2 HR
              go_wp2_with (first
                | (go_at_call 207; ((with_reducible refine (hP _).mono ?_); rintro e w' ⟨rfl, rfl⟩))
                | (go_at_call 204; ((with_reducible refine C2.mono ?_); rintro e w3 ⟨rfl, hb⟩))
                | (go_at_call 205; ((with_reducible refine (hL2 _).mono ?_); rintro e w' ⟨rfl, rfl⟩)))
              go_ret2
              have := saysN_ok (w := w) (w' := w3) (q := q) (S := S) (r := r) (lev := lev) HR2.out ⟨hb.1, c2.two hb.2⟩
              rw [show ((65536 + (c - 55296) * 1024 + lo - 56320 : Nat) : Int) = 65536 + ((c : Int) - 55296) * 1024 + (lo : Int) - 56320 by omega] at this
              exact this
        · have HR := Lib.hid (show unitsP fr r = .bad 10 fr by rw [HQ.out]; unfold lowP; rw [if_neg (by rintro (h | h); exact x0 h; exact x1 h), if_neg hp])
          have hP := fun w => Tryz.strings_HasPrefix (str x) ⟨#[92, 117]⟩ w
          rw [show (⟨#[92, 117]⟩ : ByteArray).data.toList = [92, 117] from rfl, pre_F hp] at hP
          clear x0 x1 hp
          go_wp2_with (first
            | (go_at_call 207; ((with_reducible refine (hP _).mono ?_); rintro e w' ⟨rfl, rfl⟩))
            | (go_at_call 100; ((with_reducible refine (unfit_any f0 _ rfl _).mono ?_); rintro e w3 ⟨rfl, rfl⟩; unfold errV)))
          go_ret2
          have := BAD.out fr HR.out _ lev h2 b2
          unfold errAt at this
          rw [HF.out] at this
          exact this
end Go.Proofs.YtlknngplnimdpaaGreatDoor
