/- Merged: JtI, JtJ, JtK, JtL, JtM, JuF. -/
import Derived.Test.YtafmokpplnmbgaaGreatDoorM04
import Derived.Test.YtafmokpplnmbgaaGreatDoorM03
/- Layer 11: the four digits of a unit; both units; escapes. -/
namespace Go.Proofs.YtafmokpplnmbgaaGreatDoor
open Go.RowKit

theorem i32_or16 (c n : Nat) (hc : c < 4096) (hn : n < 16) : bits .or .i32 ((c : Int) * 16) (n : Int) = (c : Int) * 16 + (n : Int) := by
  have h1 : ((c : Int) * 16) = ((c * 16 : Nat) : Int) := by omega
  rw [h1]
  show IntKind.i32.wrap ((BitVec.ofInt 32 ((c * 16 : Nat) : Int) ||| BitVec.ofInt 32 (n : Int)).toNat : Int) = _
  rw [BitVec.toNat_or, ofInt_u32 _ (by omega), ofInt_u32 _ (by omega)]
  have e : c * 16 ||| n = c * 16 + n := by
    rw [show c * 16 = c <<< 4 by rw [Nat.shiftLeft_eq], ← Nat.shiftLeft_add_eq_or_of_lt (show n < 2 ^ 4 by omega)]
  rw [e, IntKind.wrap_i32]
  omega
/-- What a reading of a number says of a call that answers it and an error. -/
def saysN (w : World) (q : Nat) (S r : Bs) (lev : Nat) (R : Res Nat) (e : Ending) (w' : World) : Prop :=
  match R with
  | .ok n x => e = .returned (.tuple #[.int .i32 (n : Int), .nilIface]) ∧ okP w q S x lev w'
  | .bad code x => e = .returned (.tuple #[.int .i32 0, errAt S code x]) ∧ badP w q S r w'
theorem saysN_ok {w w' : World} {q : Nat} {S r x : Bs} {lev n : Nat} {R : Res Nat} (hR : R = .ok n x) (h : okP w q S x lev w') : saysN w q S r lev R (.returned (.tuple #[.int .i32 (n : Int), .nilIface])) w' := by
  rw [hR]; exact ⟨rfl, h⟩
theorem saysN_bad {w w' : World} {q : Nat} {S r x : Bs} {lev code : Nat} {R : Res Nat} (hR : R = .bad code x) (h : badP w q S r w') : saysN w q S r lev R (.returned (.tuple #[.int .i32 0, errAt S code x])) w' := by
  rw [hR]; exact ⟨rfl, h⟩
theorem hex_ne {r : Bs} {n : Nat} (h : hexV (hd r) = some n) : r ≠ [] := by
  rintro rfl
  cases h
set_option maxRecDepth 100000 in
set_option maxHeartbeats 2000000 in
theorem unit_any {w : World} {q : Nat} {S r : Bs} {lev : Nat} (hS : okT S) (h : RdAt w q S r lev) :
    Calls Tryz.prog 101 #[.pointer (some ⟨q, 0, none⟩)] w fun e w' => saysN w q S r lev (unitP 4 0 r) e w' := by
  have H := Lib.hid h
  have hN := fun w' r' (h' : RdAt w' q S r' lev) => next_any h'
  clear h
  unfold okT at hS
  have HS := Lib.hid hS
  clear hS
  go_enter Tryz.func101, Tryz.ntmps101
  go_wp2
  go_loopg [7, 4, 5, 6] 4 (fun g t7 t4 t5 t6 wr => ∃ (j c : Nat) (r' : Bs), t7 = .int .i64 (j : Int) ∧ t4 = .int .i32 (c : Int) ∧ j ≤ 4 ∧ Hid (g = 4 - j) ∧ Hid (c < 16 ^ j) ∧ RdAt wr q S r' lev ∧ Hid (unitP (4 - j) c r' = unitP 4 0 r) ∧ Hid (r' <:+ r) ∧ Chg (· = q) w wr)
  case atStart => exact ⟨0, 0, r, rfl, rfl, by omega, Lib.hid rfl, Lib.hid (by decide), H.out, Lib.hid rfl, Lib.hid (List.suffix_refl r), Chg.refl _ _⟩
  case round =>
    obtain ⟨j, c, r', rfl, rfl, hj, HG, HC, h', HP, HSf, hC⟩ := hrel
    by_cases hlt : j < 4
    · have hst : unitP (4 - j) c r' = match hexV (hd r') with | some n => unitP (4 - (j + 1)) (c * 16 + n) r'.tail | none => .bad 10 r' := by
        rw [show 4 - j = (4 - (j + 1)) + 1 by omega, unitP]
        cases hexV (hd r') <;> rfl
      obtain ⟨_, c1, _⟩ := h'.cell
      have f1 := h'.free 1
      have hle := h'.le
      have hSS := HS.out
      generalize hk : S.length - r'.length = k at c1
      have hk2 : k ≤ 4611686018427387904 := by omega
      cases hx : hexV (hd r') with
      | some n =>
        rw [hx] at hst
        have HQ := Lib.hid (show unitP (4 - (j + 1)) (c * 16 + n) r'.tail = unitP 4 0 r from hst.symm.trans HP.out)
        have hn := hexV_lt hx
        have hc4 : c < 4096 := by
          have h1 := HC.out
          have : 16 ^ j ≤ 16 ^ 3 := Nat.pow_le_pow_right (by omega) (by omega)
          omega
        have HC2 := Lib.hid (show c * 16 + n < 16 ^ (j + 1) by have := HC.out; rw [Nat.pow_succ]; omega)
        have HV := fun w => valueOf_some hx w
        have HM := Lib.hid (fun n => (h'.drewN n).move (hex_ne hx) hk.symm)
        have hor := i32_or16 c n hc4 hn
        clear hst hx hk hle hSS
        go_wp2_with (first
          | (go_at_call 41; ((with_reducible refine (hN _ _ h').mono ?_); rintro e w' ⟨rfl, m, rfl⟩))
          | (go_at_call 107; ((with_reducible refine (HV _).mono ?_); rintro e w' ⟨rfl, rfl⟩)))
        go_roundg (4 - (j + 1))
        case measure => have := HG.out; omega
        case rel => exact ⟨j + 1, c * 16 + n, r'.tail, by go_num, by go_num, by omega, Lib.hid rfl, HC2, HM.out _, HQ, Lib.hid ((List.tail_suffix r').trans HSf.out), (hC.drewN _).setCell _ _ (.inl rfl)⟩
      | none =>
        rw [hx] at hst
        have HQ := Lib.hid (show unitP 4 0 r = .bad 10 r' from HP.out.symm.trans hst)
        have HV := fun w => valueOf_none hx w
        have HK := Lib.hid hk
        clear hst hx hk hle hSS
        go_wp2_with (first
          | (go_at_call 41; ((with_reducible refine (hN _ _ h').mono ?_); rintro e w' ⟨rfl, m, rfl⟩))
          | (go_at_call 107; ((with_reducible refine (HV _).mono ?_); rintro e w' ⟨rfl, rfl⟩))
          | (go_at_call 27; ((with_reducible refine (unfit_any k _ rfl _).mono ?_); rintro e w2 ⟨rfl, rfl⟩; unfold errV)))
        go_ret2
        have := saysN_bad (w := w) (w' := wr.drewN m) (q := q) (S := S) (r := r) (lev := lev) HQ.out ⟨⟨r', lev, h'.drewN _, HSf.out⟩, hC.drewN _⟩
        unfold errAt at this
        rw [HK.out] at this
        exact this
    · obtain rfl : j = 4 := by omega
      have HQ := Lib.hid (show unitP 4 0 r = .ok c r' from HP.out.symm)
      clear hlt
      go_wp2
      go_ret2
      exact saysN_ok HQ.out ⟨h', hC⟩
end Go.Proofs.YtafmokpplnmbgaaGreatDoor

/- Layer 11: both units of an escape. -/
namespace Go.Proofs.YtafmokpplnmbgaaGreatDoor
open Go.RowKit

theorem rest_text {S r : Bs} (h : r <:+ S) : (str S).extract (S.length - r.length) (str S).size = str r := by
  obtain ⟨p, rfl⟩ := h
  refine bytes_toList ?_
  rw [List.length_append, Nat.add_sub_cancel]
  simp [str, ByteArray.data_extract, ByteArray.size]
theorem isLo_hi {c : Nat} (h : isHi c = true) : isLo c = false := by
  rw [isHi_iff] at h
  cases hl : isLo c with
  | false => rfl
  | true => rw [isLo_iff] at hl; omega
/-- To another place. -/
theorem RdAt.put {w : World} {q : Nat} {S r r' : Bs} {lev : Nat} (h : RdAt w q S r lev) (hs : r' <:+ r) {x : Int} (hx : x = ((S.length - r'.length : Nat) : Int)) : RdAt (w.setCell ⟨q, 1, none⟩ (.int .i64 x)) q S r' lev := by
  refine ⟨?_, hs.trans h.suf⟩
  have := rowC_set h.row 1 (.int .i64 x)
  have e : (rdC (str S) (S.length - r.length) lev).setIfInBounds 1 (.int .i64 x) = rdC (str S) (S.length - r'.length) lev := by
    rw [hx]; rfl
  rw [e] at this
  exact this
theorem unit_suf : ∀ (k c : Nat) {l r : Bs} {n : Nat}, unitP k c l = .ok n r → r <:+ l
  | 0, c, l, r, n, h => by rw [unitP, Res.ok.injEq] at h; rw [h.2]; exact List.suffix_refl _
  | k + 1, c, l, r, n, h => by
    rw [unitP] at h
    cases hx : hexV (hd l) with
    | none => rw [hx] at h; cases h
    | some m => rw [hx] at h; exact (unit_suf k _ h).trans (List.tail_suffix l)
theorem pre_T {x : Bs} (h : hd x = 92 ∧ hd x.tail = 117) : Lib.hasPrefix (str x).data.toList [92, 117] = true ∧ ∃ t, x = 92 :: 117 :: t := by
  have e : x = 92 :: 117 :: x.tail.tail := by
    rw [← cons_of_hd h.2 (by decide), ← cons_of_hd h.1 (by decide)]
  rw [e]
  exact ⟨rfl, _, rfl⟩
theorem pre_F {x : Bs} (h : ¬ (hd x = 92 ∧ hd x.tail = 117)) : Lib.hasPrefix (str x).data.toList [92, 117] = false := by
  rw [str_toList]
  unfold Lib.hasPrefix
  cases x with
  | nil => rfl
  | cons a x =>
    cases x with
    | nil =>
      show ((92 == a) && false) = false
      rw [Bool.and_false]
    | cons b x =>
      have h : ¬ (a = 92 ∧ b = 117) := h
      have : ¬ ((92 : UInt8) = a ∧ (117 : UInt8) = b) := fun e => h ⟨e.1.symm, e.2.symm⟩
      show ((92 == a) && ((117 == b) && true)) = false
      rw [Bool.and_true, Bool.and_eq_false_iff, beq_eq_false_iff_ne, beq_eq_false_iff_ne]
      by_cases ha : (92 : UInt8) = a
      · exact .inr fun hb => this ⟨ha, hb⟩
      · exact .inl ha
theorem str_ne {x y : Bs} (h : x ≠ y) : ((str x).toList == y) = false := by
  have e : (str x).toList = x := by unfold str; rw [ByteArray.toList_mk]
  rw [e, beq_eq_false_iff_ne]
  exact h
theorem str_some {x : Bs} (h : x ≠ []) : (str x).toList.isEmpty = false := by
  have e : (str x).toList = x := by unfold str; rw [ByteArray.toList_mk]
  rw [e]
  cases x with
  | nil => exact absurd rfl h
  | cons a x => rfl
set_option maxRecDepth 100000 in
set_option maxHeartbeats 4000000 in
theorem units_any {w : World} {q : Nat} {S r fr : Bs} {lev : Nat} (hS : okT S) (h : RdAt w q S r lev) (y : Int) (hy : y = ((S.length - fr.length : Nat) : Int)) :
    Calls Tryz.prog 89 #[.pointer (some ⟨q, 0, none⟩), .int .i64 y] w fun e w' => saysN w q S r lev (unitsP fr r) e w' := by
  subst hy
  have hU := fun w' r' (h' : RdAt w' q S r' lev) => unit_any hS h'
  have HU : Hid (unitsP fr r = match unitP 4 0 r with | .bad k r => .bad k r | .ok c r => if isLo c = true then .bad 10 fr else if isHi c = true then lowP fr c r else .ok c r) := Lib.hid rfl
  have HSS := Lib.hid hS
  unfold okT at hS
  cases hx : unitP 4 0 r with
  | bad code x =>
    have HQ := Lib.hid (show unitsP fr r = .bad code x by rw [HU.out, hx])
    have C := hU w r h
    rw [hx] at C
    unfold saysN errAt errV at C
    generalize S.length - fr.length = f0
    clear hx HU h hU hS
    go_enter Tryz.func89, Tryz.ntmps89
    go_wp2_with (go_at_call 101; ((with_reducible refine C.mono ?_); rintro e w1 ⟨rfl, hb⟩))
    go_ret2
    exact saysN_bad HQ.out hb
  | ok c x =>
    have C := hU w r h
    rw [hx] at C
    unfold saysN at C
    have hL := fun w => isLow_any c w
    have hH := fun w => isHigh_any c w
    cases hlo : isLo c with
    | true =>
      have HQ := Lib.hid (show unitsP fr r = .bad 10 fr by rw [HU.out, hx]; simp only [hlo, if_true])
      have HX := Lib.hid (unit_suf 4 0 hx)
      rw [hlo] at hL
      generalize hf0 : S.length - fr.length = f0
      have HF := Lib.hid hf0
      clear hx HU h hU hS hlo hH hf0
      go_enter Tryz.func89, Tryz.ntmps89
      go_wp2_with (first
        | (go_at_call 101; ((with_reducible refine C.mono ?_); rintro e w1 ⟨rfl, hb⟩))
        | (go_at_call 102; ((with_reducible refine (hL _).mono ?_); rintro e w' ⟨rfl, rfl⟩))
        | (go_at_call 27; ((with_reducible refine (unfit_any f0 _ rfl _).mono ?_); rintro e w2 ⟨rfl, rfl⟩; unfold errV)))
      go_ret2
      have := saysN_bad (w := w) (w' := w1) (q := q) (S := S) (r := r) (lev := lev) HQ.out ⟨⟨x, lev, hb.1, HX.out⟩, hb.2⟩
      unfold errAt at this
      rw [HF.out] at this
      exact this
    | false =>
      cases hhi : isHi c with
      | false =>
        have HQ := Lib.hid (show unitsP fr r = .ok c x by rw [HU.out, hx]; simp only [hlo, hhi]; rfl)
        rw [hlo] at hL
        rw [hhi] at hH
        generalize S.length - fr.length = f0
        clear hx HU h hU hS hlo hhi
        go_enter Tryz.func89, Tryz.ntmps89
        go_wp2_with (first
          | (go_at_call 101; ((with_reducible refine C.mono ?_); rintro e w1 ⟨rfl, hb⟩))
          | (go_at_call 102; ((with_reducible refine (hL _).mono ?_); rintro e w' ⟨rfl, rfl⟩))
          | (go_at_call 103; ((with_reducible refine (hH _).mono ?_); rintro e w' ⟨rfl, rfl⟩)))
        go_ret2
        exact saysN_ok HQ.out hb
      | true =>
        have HQ := Lib.hid (show unitsP fr r = lowP fr c x by rw [HU.out, hx]; simp only [hlo, hhi]; rfl)
        have HXS := Lib.hid (unit_suf 4 0 hx)
        have hXr := (unit_suf 4 0 hx).trans h.suf
        rw [hlo] at hL
        rw [hhi] at hH
        have hext := rest_text hXr
        have hlek : S.length - x.length ≤ (str S).size := by rw [str_size]; omega
        have HXr := Lib.hid hXr
        have hc2 := (isHi_iff c).1 hhi
        obtain ⟨cl, cu⟩ := hc2
        generalize hf0 : S.length - fr.length = f0
        have HF := Lib.hid hf0
        generalize hk : S.length - x.length = k at hext hlek
        have HKK := Lib.hid hk
        clear hk hx HU h hlo hhi hf0 hXr
        go_enter Tryz.func89, Tryz.ntmps89
        go_upto_region 8 with (first
          | (go_at_call 101; ((with_reducible refine C.mono ?_); rintro e w1 ⟨rfl, hb⟩; have h1 := hb.1; obtain ⟨d0, d1, _⟩ := h1.cell; rw [HKK.out] at d1))
          | (go_at_call 102; ((with_reducible refine (hL _).mono ?_); rintro e w' ⟨rfl, rfl⟩))
          | (go_at_call 103; ((with_reducible refine (hH _).mono ?_); rintro e w' ⟨rfl, rfl⟩)))
        go_quiet (fail)
        go_upto_region 9 with fail
        have h2 := h1.drewN nq
        have b2 := hb.2.drewN nq
        clear h1 hb d0 d1 C hL hH hext hlek
        generalize w1.drewN nq = w2 at h2 b2 ⊢
        have bad10 : ∀ r', unitsP fr r = .bad 10 r' → ∀ w' l', RdAt w' q S x l' → Chg (· = q) w w' → saysN w q S r lev (unitsP fr r) (.returned (.tuple #[.int .i32 0, errAt S 10 r'])) w' :=
          fun r' hR w' l' hr hc => saysN_bad hR ⟨⟨x, l', hr, HXS.out⟩, hc⟩
        have BAD := Lib.hid bad10
        clear bad10
        obtain ⟨d0, d1, _⟩ := h2.cell
        rw [HKK.out] at d1
        by_cases x0 : x = []
        · have HR := Lib.hid (show unitsP fr r = .bad 10 [] by rw [HQ.out]; unfold lowP; rw [if_pos (.inl x0)])
          have hbad := BAD.out [] HR.out _ lev h2 b2
          unfold errAt at hbad
          rw [List.length_nil, Nat.sub_zero, ← str_size S] at hbad
          have HB := Lib.hid hbad
          have e0 : str x = ⟨#[]⟩ := by rw [x0]; rfl
          rw [e0]
          clear x0 e0 hbad
          go_wp2_with (go_at_call 27; ((with_reducible refine (unfit_any (str S).size _ rfl _).mono ?_); rintro e w3 ⟨rfl, rfl⟩; unfold errV))
          go_ret2
          exact HB.out
        by_cases x1 : x = [92]
        · have HR := Lib.hid (show unitsP fr r = .bad 10 [] by rw [HQ.out]; unfold lowP; rw [if_pos (.inr x1)])
          have hbad := BAD.out [] HR.out _ lev h2 b2
          unfold errAt at hbad
          rw [List.length_nil, Nat.sub_zero, ← str_size S] at hbad
          have HB := Lib.hid hbad
          have e0 : str x = ⟨#[92]⟩ := by rw [x1]; rfl
          rw [e0]
          clear x0 x1 e0 hbad
          go_wp2_with (go_at_call 27; ((with_reducible refine (unfit_any (str S).size _ rfl _).mono ?_); rintro e w3 ⟨rfl, rfl⟩; unfold errV))
          go_ret2
          exact HB.out
        have s1 := str_some x0
        have s2 := str_ne (x := x) (y := [92]) x1
        by_cases hp : hd x = 92 ∧ hd x.tail = 117
        · have HR := Lib.hid (show unitsP fr r = match unitP 4 0 x.tail.tail with
              | .bad k q => .bad k q
              | .ok lo q => if isLo lo = true then .ok (65536 + (c - 55296) * 1024 + lo - 56320) q else .bad 10 fr by
            rw [HQ.out]; unfold lowP; rw [if_neg (by rintro (h | h); exact x0 h; exact x1 h), if_pos hp]
            cases unitP 4 0 x.tail.tail <;> rfl)
          have hP := fun w => Tryz.strings_HasPrefix (str x) ⟨#[92, 117]⟩ w
          rw [show (⟨#[92, 117]⟩ : ByteArray).data.toList = [92, 117] from rfl, (pre_T hp).1] at hP
          obtain ⟨t, ht⟩ := (pre_T hp).2
          have f1 := h2.free 1
          have hle := h2.le
          have hSS := HSS.out
          unfold okT at hSS
          have hx2 : x.length = x.tail.tail.length + 2 := by rw [ht]; simp
          have hk2 : k ≤ 4611686018427387904 := by have := HKK.out; omega
          have hm := h2.put ((List.tail_suffix _).trans (List.tail_suffix _)) (r' := x.tail.tail) (x := (k : Int) + 2) (by have := HKK.out; omega)
          have c2 := b2.setCell ⟨q, 1, none⟩ (.int .i64 ((k : Int) + 2)) (.inl rfl)
          have HX2 := Lib.hid (show x.tail.tail <:+ r from ((List.tail_suffix _).trans (List.tail_suffix _)).trans HXS.out)
          clear x0 x1 hp ht hle hSS hx2
          cases hy : unitP 4 0 x.tail.tail with
          | bad code y =>
            rw [hy] at HR
            have C2 := hU _ _ hm
            rw [hy] at C2
            unfold saysN errAt errV at C2
            clear hy
            go_wp2_with (first
              | (go_at_call 104; ((with_reducible refine (hP _).mono ?_); rintro e w' ⟨rfl, rfl⟩))
              | (go_at_call 101; ((with_reducible refine C2.mono ?_); rintro e w3 ⟨rfl, hb⟩)))
            go_ret2
            exact saysN_bad HR.out (hb.trans c2 HX2.out)
          | ok lo y =>
            rw [hy] at HR
            have C2 := hU _ _ hm
            rw [hy] at C2
            unfold saysN at C2
            have hL2 := fun w => isLow_any lo w
            have HYS := Lib.hid ((unit_suf 4 0 hy).trans HX2.out)
            cases hl2 : isLo lo with
            | false =>
              have HR2 := Lib.hid (show unitsP fr r = .bad 10 fr by rw [HR.out]; simp only [hl2]; rfl)
              rw [hl2] at hL2
              clear hy hl2 HR
              go_wp2_with (first
                | (go_at_call 104; ((with_reducible refine (hP _).mono ?_); rintro e w' ⟨rfl, rfl⟩))
                | (go_at_call 101; ((with_reducible refine C2.mono ?_); rintro e w3 ⟨rfl, hb⟩))
                | (go_at_call 102; ((with_reducible refine (hL2 _).mono ?_); rintro e w' ⟨rfl, rfl⟩))
                | (go_at_call 27; ((with_reducible refine (unfit_any f0 _ rfl _).mono ?_); rintro e w4 ⟨rfl, rfl⟩; unfold errV)))
              go_ret2
              have := saysN_bad (w := w) (w' := w3) (q := q) (S := S) (r := r) (lev := lev) HR2.out ⟨⟨y, lev, hb.1, HYS.out⟩, c2.two hb.2⟩
              unfold errAt at this
              rw [HF.out] at this
              exact this
            | true =>
              have HR2 := Lib.hid (show unitsP fr r = .ok (65536 + (c - 55296) * 1024 + lo - 56320) y by rw [HR.out]; simp only [hl2, if_true])
              obtain ⟨ll, lu⟩ := (isLo_iff lo).1 hl2
              rw [hl2] at hL2
              clear hy hl2 HR
              go_wp2_with (first
                | (go_at_call 104; ((with_reducible refine (hP _).mono ?_); rintro e w' ⟨rfl, rfl⟩))
                | (go_at_call 101; ((with_reducible refine C2.mono ?_); rintro e w3 ⟨rfl, hb⟩))
                | (go_at_call 102; ((with_reducible refine (hL2 _).mono ?_); rintro e w' ⟨rfl, rfl⟩)))
              go_ret2
              have := saysN_ok (w := w) (w' := w3) (q := q) (S := S) (r := r) (lev := lev) HR2.out ⟨hb.1, c2.two hb.2⟩
              rw [show ((65536 + (c - 55296) * 1024 + lo - 56320 : Nat) : Int) = 65536 + ((c : Int) - 55296) * 1024 + (lo : Int) - 56320 by omega] at this
              exact this
        · have HR := Lib.hid (show unitsP fr r = .bad 10 fr by rw [HQ.out]; unfold lowP; rw [if_neg (by rintro (h | h); exact x0 h; exact x1 h), if_neg hp])
          have hP := fun w => Tryz.strings_HasPrefix (str x) ⟨#[92, 117]⟩ w
          rw [show (⟨#[92, 117]⟩ : ByteArray).data.toList = [92, 117] from rfl, pre_F hp] at hP
          clear x0 x1 hp
          go_wp2_with (first
            | (go_at_call 104; ((with_reducible refine (hP _).mono ?_); rintro e w' ⟨rfl, rfl⟩))
            | (go_at_call 27; ((with_reducible refine (unfit_any f0 _ rfl _).mono ?_); rintro e w3 ⟨rfl, rfl⟩; unfold errV)))
          go_ret2
          have := BAD.out fr HR.out _ lev h2 b2
          unfold errAt at this
          rw [HF.out] at this
          exact this
end Go.Proofs.YtafmokpplnmbgaaGreatDoor

/- Layer 11: escapes; one rune of a string. -/
namespace Go.Proofs.YtafmokpplnmbgaaGreatDoor
open Go.RowKit

def escs : Bs := [34, 92, 98, 102, 110, 114, 116]
def escd : Bs := [34, 92, 8, 12, 10, 13, 9]
theorem esc_tab : ∀ b : Fin 256, (match unesc (UInt8.ofNat b.val) with
    | none => decide (Lib.indexByte escs (UInt8.ofNat b.val) < 0)
    | some c => decide (0 ≤ Lib.indexByte escs (UInt8.ofNat b.val)) && (decide (Lib.indexByte escs (UInt8.ofNat b.val) < 7) && decide ((escd.getD (Lib.indexByte escs (UInt8.ofNat b.val)).toNat 0).toNat = c))) = true := by decide +kernel
theorem esc_none {b : UInt8} (h : unesc b = none) : Lib.indexByte escs b < 0 := by
  have := esc_tab ⟨b.toNat, b.toNat_lt⟩
  simp only [UInt8.ofNat_toNat] at this
  rw [h] at this
  simpa using this
theorem esc_some {b : UInt8} {c : Nat} (h : unesc b = some c) : ∃ i : Nat, Lib.indexByte escs b = (i : Int) ∧ i < 7 ∧ (escd.getD i 0).toNat = c := by
  have := esc_tab ⟨b.toNat, b.toNat_lt⟩
  simp only [UInt8.ofNat_toNat] at this
  rw [h] at this
  simp only [Bool.and_eq_true, decide_eq_true_eq] at this
  obtain ⟨h1, h2, h3⟩ := this
  exact ⟨(Lib.indexByte escs b).toNat, by omega, by omega, h3⟩
set_option maxRecDepth 100000 in
set_option maxHeartbeats 4000000 in
theorem escape_any {w : World} {q : Nat} {S l fr : Bs} {lev : Nat} (hS : okT S) (h : RdAt w q S l lev) (y : Int) (hy : y = ((S.length - fr.length : Nat) : Int)) :
    Calls Tryz.prog 77 #[.pointer (some ⟨q, 0, none⟩), .int .i64 y] w fun e w' => saysN w q S l lev (escP fr l) e w' := by
  have hU := fun w' r' (h' : RdAt w' q S r' lev) => units_any hS h' y hy
  clear hy
  by_cases e1 : hd l = 117
  · have HQ := Lib.hid (show escP fr l = unitsP fr l.tail by unfold escP; rw [if_pos e1])
    have T1 := take_T (q := q) (lev := lev) hS 117 117 rfl (by decide) e1
    cases hx : unitsP fr l.tail with
    | bad code x =>
      rw [hx] at HQ
      have C := fun w' (h' : RdAt w' q S l.tail lev) => hU w' l.tail h'
      rw [hx] at C
      unfold saysN errAt errV at C
      clear hx e1 hU
      go_enter Tryz.func77, Tryz.ntmps77
      go_wp2_with (first
        | (go_at_call 48; ((with_reducible refine (T1 _ (by assumption)).mono ?_); rintro e w1 ⟨rfl, h1, c1⟩))
        | (go_at_call 89; ((with_reducible refine (C _ (by assumption)).mono ?_); rintro e w2 ⟨rfl, hb⟩)))
      go_ret2
      exact saysN_bad HQ.out (hb.trans c1 (List.tail_suffix l))
    | ok n x =>
      rw [hx] at HQ
      have C := fun w' (h' : RdAt w' q S l.tail lev) => hU w' l.tail h'
      rw [hx] at C
      unfold saysN at C
      clear hx e1 hU
      go_enter Tryz.func77, Tryz.ntmps77
      go_wp2_with (first
        | (go_at_call 48; ((with_reducible refine (T1 _ (by assumption)).mono ?_); rintro e w1 ⟨rfl, h1, c1⟩))
        | (go_at_call 89; ((with_reducible refine (C _ (by assumption)).mono ?_); rintro e w2 ⟨rfl, hb⟩)))
      go_ret2
      exact saysN_ok HQ.out ⟨hb.1, c1.two hb.2⟩
  · have T1 := take_F (q := q) (lev := lev) hS 117 117 rfl (by decide) e1
    by_cases e2 : hd l = 47
    · have HQ := Lib.hid (show escP fr l = .ok 47 l.tail by unfold escP; rw [if_neg e1, if_pos e2])
      have T2 := take_T (q := q) (lev := lev) hS 47 47 rfl (by decide) e2
      clear e1 e2 hU
      go_enter Tryz.func77, Tryz.ntmps77
      go_wp2_with (first
        | (go_at_call 48; ((with_reducible refine (T1 _ (by assumption)).mono ?_); rintro e w1 ⟨rfl, h1, c1⟩))
        | (go_at_call 48; ((with_reducible refine (T2 _ (by assumption)).mono ?_); rintro e w2 ⟨rfl, h2, c2⟩)))
      go_ret2
      exact saysN_ok (n := 47) HQ.out ⟨h2, c1.two c2⟩
    · have T2 := take_F (q := q) (lev := lev) hS 47 47 rfl (by decide) e2
      have hN := fun w' r' (h' : RdAt w' q S r' lev) => next_any h'
      have hI := fun w => Tryz.strings_IndexByte (str escs) ((hd l).toNat : Int) w
      rw [show ((hd l).toNat : Int).toNat.toUInt8 = hd l by simp, str_toList] at hI
      rw [show str escs = ⟨#[34, 92, 98, 102, 110, 114, 116]⟩ from rfl] at hI
      cases hx : unesc (hd l) with
      | none =>
        have HQ := Lib.hid (show escP fr l = .bad 10 l by unfold escP; rw [if_neg e1, if_neg e2, hx])
        have hneg := esc_none hx
        generalize Lib.indexByte escs (hd l) = i at hI hneg
        generalize hk : S.length - l.length = k
        have HK := Lib.hid hk
        clear hx e1 e2 hU hk
        go_enter Tryz.func77, Tryz.ntmps77
        go_wp2_with (first
          | (go_at_call 48; ((with_reducible refine (T1 _ (by assumption)).mono ?_); rintro e w1 ⟨rfl, h1, c1⟩))
          | (go_at_call 48; ((with_reducible refine (T2 _ (by assumption)).mono ?_); rintro e w2 ⟨rfl, h2, c2⟩; obtain ⟨_, d1, _⟩ := h2.cell; rw [HK.out] at d1))
          | (go_at_call 41; ((with_reducible refine (hN _ _ (by assumption)).mono ?_); rintro e w3 ⟨rfl, m, rfl⟩))
          | (go_at_call 72; ((with_reducible refine (hI _).mono ?_); rintro e w4 ⟨rfl, rfl⟩))
          | (go_at_call 27; ((with_reducible refine (unfit_any k _ rfl _).mono ?_); rintro e w5 ⟨rfl, rfl⟩; unfold errV)))
        go_ret2
        have := saysN_bad (w := w) (w' := w2.drewN m) (q := q) (S := S) (r := l) (lev := lev) HQ.out ⟨⟨l, lev, h2.drewN m, List.suffix_refl l⟩, (c1.two c2).drewN m⟩
        unfold errAt at this
        rw [HK.out] at this
        exact this
      | some c =>
        have HQ := Lib.hid (show escP fr l = .ok c l.tail by unfold escP; rw [if_neg e1, if_neg e2, hx])
        obtain ⟨i, hi1, hi2, hi3⟩ := esc_some hx
        rw [hi1] at hI
        have hne : l ≠ [] := by
          rintro rfl
          rw [show unesc (hd []) = none from rfl] at hx
          cases hx
        have hidx := idx_str (str escd) i (i : Int) rfl (by rw [str_size]; exact hi2)
        rw [str_toList, hi3, show str escd = ⟨#[34, 92, 8, 12, 10, 13, 9]⟩ from rfl] at hidx
        have hcl := unesc_lt hx
        have hle := h.le
        have hlp := List.length_pos_iff.2 hne
        have hSS := hS
        unfold okT at hSS
        generalize hk : S.length - l.length = k
        have HK := Lib.hid hk
        have hk2 : k ≤ 4611686018427387904 := by omega
        have HNE := Lib.hid hne
        clear hx e1 e2 hU hk hi1 hi3 hne hle hlp hSS
        go_enter Tryz.func77, Tryz.ntmps77
        go_wp2_with (first
          | (go_at_call 48; ((with_reducible refine (T1 _ (by assumption)).mono ?_); rintro e w1 ⟨rfl, h1, c1⟩))
          | (go_at_call 48; ((with_reducible refine (T2 _ (by assumption)).mono ?_); rintro e w2 ⟨rfl, h2, c2⟩; obtain ⟨_, d1, _⟩ := h2.cell; rw [HK.out] at d1; have f1 := h2.free 1))
          | (go_at_call 41; ((with_reducible refine (hN _ _ (by assumption)).mono ?_); rintro e w3 ⟨rfl, m, rfl⟩))
          | (go_at_call 72; ((with_reducible refine (hI _).mono ?_); rintro e w4 ⟨rfl, rfl⟩)))
        go_ret2
        exact saysN_ok HQ.out ⟨(h2.drewN m).move HNE.out HK.out.symm, ((c1.two c2).drewN m).setCell _ _ (.inl rfl)⟩
end Go.Proofs.YtafmokpplnmbgaaGreatDoor

/- Layer 11: one rune of a string. -/
namespace Go.Proofs.YtafmokpplnmbgaaGreatDoor
open Go.RowKit

theorem dec_go {l : Bs} (h : l ≠ []) : Lib.decodeGo (str l) = Lib.decodeL l := by
  unfold Lib.decodeGo Lib.decodeL
  rw [if_neg (by rw [str_size]; exact fun e => h (List.eq_nil_of_length_eq_zero e))]
  rfl
theorem dec_go_nil : Lib.decodeGo (str []) = (65533, 0) := rfl
theorem drop_suf (l : Bs) (n : Nat) : l.drop n <:+ l := List.drop_suffix n l
/-- What is decoded of a text, and whether that is a rune that may stand there. -/
theorem one_bad {l : Bs} (h92 : ¬ hd l = 92) (h : l = [] ∨ noRune l ∨ (Lib.decodeL l).1 < 32) : oneP l = .bad 10 l ∧
    (((Lib.decodeGo (str l)).1 : Int) < 32 ∨ (¬ ((Lib.decodeGo (str l)).1 : Int) < 32 ∧ ((Lib.decodeGo (str l)).1 : Int) = 65533 ∧ ((Lib.decodeGo (str l)).2 : Int) ≤ 1)) := by
  refine ⟨by unfold oneP; rw [if_neg h92, if_pos h], ?_⟩
  by_cases hl : l = []
  · subst hl
    rw [dec_go_nil]
    exact .inr (by decide)
  · rw [dec_go hl]
    rcases h with h | h | h
    · exact absurd h hl
    · obtain ⟨h1, h2⟩ := h
      rw [h1, h2]
      exact .inr (by decide)
    · exact .inl (by omega)
theorem one_good {l : Bs} (h92 : ¬ hd l = 92) (h : ¬ (l = [] ∨ noRune l ∨ (Lib.decodeL l).1 < 32)) : ∃ c n : Nat, Lib.decodeGo (str l) = (c, n) ∧ oneP l = .ok c (l.drop n) ∧ 32 ≤ c ∧ c < 1114112 ∧ (c = 65533 → 1 < n) ∧ n ≤ l.length := by
  have hl : l ≠ [] := fun e => h (.inl e)
  have hle := Lib.decodeL_le l hl
  have hw := Lib.decodeL_width l
  have hs := scal_dec l
  refine ⟨(Lib.decodeL l).1, (Lib.decodeL l).2, dec_go hl, by unfold oneP; rw [if_neg h92, if_neg h], ?_, ?_, fun e => ?_, hle⟩
  · exact Nat.le_of_not_lt fun e => h (.inr (.inr e))
  · unfold scal at hs; omega
  · have : ¬ (Lib.decodeL l).2 = 1 := fun e2 => h (.inr (.inl ⟨e, e2⟩))
    omega
theorem saysN_suf {w w1 w' : World} {q : Nat} {S r r' : Bs} {lev : Nat} {R : Res Nat} {e : Ending} (hs : r' <:+ r) (hc : Chg (· = q) w w1) (h : saysN w1 q S r' lev R e w') : saysN w q S r lev R e w' := by
  unfold saysN at h ⊢
  cases R with
  | ok n x => exact ⟨h.1, h.2.1, hc.two h.2.2⟩
  | bad code x => exact ⟨h.1, h.2.trans hc hs⟩
set_option maxRecDepth 100000 in
set_option maxHeartbeats 4000000 in
theorem one_any {w : World} {q : Nat} {S l : Bs} {lev : Nat} (hS : okT S) (hE : Env w) (hq : 10 ≤ q) (h : RdAt w q S l lev) :
    Calls Tryz.prog 58 #[.pointer (some ⟨q, 0, none⟩)] w fun e w' => saysN w q S l lev (oneP l) e w' := by
  obtain ⟨_, c1, _⟩ := h.cell
  by_cases h92 : hd l = 92
  · have HQ := Lib.hid (show oneP l = escP l l.tail by unfold oneP; rw [if_pos h92])
    have T1 := take_T (q := q) (lev := lev) hS 92 92 rfl (by decide) h92
    have hC := fun w' (h' : RdAt w' q S l.tail lev) => escape_any (fr := l) hS h' _ rfl
    generalize S.length - l.length = k at c1 hC
    cases hx : escP l l.tail with
    | bad code x =>
      rw [hx] at HQ
      have C := hC
      rw [hx] at C
      unfold saysN errAt errV at C
      clear hx h92 hC
      go_enter Tryz.func58, Tryz.ntmps58
      go_wp2_with (first
        | (go_at_call 48; ((with_reducible refine (T1 _ (by assumption)).mono ?_); rintro e w1 ⟨rfl, h1, c1⟩))
        | (go_at_call 77; ((with_reducible refine (C _ (by assumption)).mono ?_); rintro e w2 ⟨rfl, hb⟩)))
      go_ret2
      exact saysN_bad HQ.out (hb.trans c1 (List.tail_suffix l))
    | ok n x =>
      rw [hx] at HQ
      have C := hC
      rw [hx] at C
      unfold saysN at C
      clear hx h92 hC
      go_enter Tryz.func58, Tryz.ntmps58
      go_wp2_with (first
        | (go_at_call 48; ((with_reducible refine (T1 _ (by assumption)).mono ?_); rintro e w1 ⟨rfl, h1, c1⟩))
        | (go_at_call 77; ((with_reducible refine (C _ (by assumption)).mono ?_); rintro e w2 ⟨rfl, hb⟩)))
      go_ret2
      exact saysN_ok HQ.out ⟨hb.1, c1.two hb.2⟩
  · have T1 := take_F (q := q) (lev := lev) hS 92 92 rfl (by decide) h92
    have hext := rest_text h.suf
    have hlek : S.length - l.length ≤ (str S).size := by rw [str_size]; omega
    have hD := fun w (hE : Env w) => Tryz.utf8_DecodeRuneInString (str l) w hE.tabs
    have HE := Lib.hid hE
    by_cases hbad : l = [] ∨ noRune l ∨ (Lib.decodeL l).1 < 32
    · obtain ⟨hb1, hb2⟩ := one_bad h92 hbad
      have HQ := Lib.hid hb1
      generalize (Lib.decodeGo (str l)).1 = c at hD hb2
      generalize (Lib.decodeGo (str l)).2 = n at hD hb2
      generalize hk : S.length - l.length = k at c1 hext hlek
      have HK := Lib.hid hk
      clear hk hb1 hbad h92 hE
      rcases hb2 with hb2 | ⟨hb2, hb3, hb4⟩
      · have e1 : decide ((c : Int) < 32) = true := by rw [decide_eq_true_eq]; exact hb2
        clear hb2
        go_enter Tryz.func58, Tryz.ntmps58
        go_wp2_with (first
          | (go_at_call 48; ((with_reducible refine (T1 _ (by assumption)).mono ?_); rintro e w1 ⟨rfl, h1, c2⟩; obtain ⟨d0, d1, _⟩ := h1.cell; rw [HK.out] at d1; have E1 := HE.out.q c2 hq))
          | (go_at_call 78; ((with_reducible refine (hD _ (by assumption)).mono ?_); rintro e w2 ⟨rfl, b2⟩))
          | (go_at_call 27; ((with_reducible refine (unfit_any k _ rfl _).mono ?_); rintro e w5 ⟨rfl, rfl⟩; unfold errV)))
        go_ret2
        have := saysN_bad (w := w) (w' := w2) (q := q) (S := S) (r := l) (lev := lev) HQ.out ⟨⟨l, lev, h1.below b2, List.suffix_refl l⟩, c2.then_below b2⟩
        unfold errAt at this
        rw [HK.out] at this
        exact this
      · have e1 : decide ((c : Int) < 32) = false := by rw [decide_eq_false_iff_not]; exact hb2
        have e2 : ((c : Int) == 65533) = true := by rw [beq_iff_eq]; exact hb3
        have e3 : decide ((n : Int) ≤ 1) = true := by rw [decide_eq_true_eq]; exact hb4
        clear hb2 hb3 hb4
        go_enter Tryz.func58, Tryz.ntmps58
        go_wp2_with (first
          | (go_at_call 48; ((with_reducible refine (T1 _ (by assumption)).mono ?_); rintro e w1 ⟨rfl, h1, c2⟩; obtain ⟨d0, d1, _⟩ := h1.cell; rw [HK.out] at d1; have E1 := HE.out.q c2 hq))
          | (go_at_call 78; ((with_reducible refine (hD _ (by assumption)).mono ?_); rintro e w2 ⟨rfl, b2⟩))
          | (go_at_call 27; ((with_reducible refine (unfit_any k _ rfl _).mono ?_); rintro e w5 ⟨rfl, rfl⟩; unfold errV)))
        go_ret2
        have := saysN_bad (w := w) (w' := w2) (q := q) (S := S) (r := l) (lev := lev) HQ.out ⟨⟨l, lev, h1.below b2, List.suffix_refl l⟩, c2.then_below b2⟩
        unfold errAt at this
        rw [HK.out] at this
        exact this
    · obtain ⟨c, n, hg1, hg2, hg3, hg4, hg5, hg6⟩ := one_good h92 hbad
      rw [hg1] at hD
      have HQ := Lib.hid hg2
      have e1 : decide ((c : Int) < 32) = false := by rw [decide_eq_false_iff_not]; omega
      have hle := h.le
      have hSS := hS
      unfold okT at hSS
      have HN := Lib.hid (show S.length - (l.drop n).length = S.length - l.length + n by rw [List.length_drop]; omega)
      have hn2 : n ≤ 4611686018427387904 := by omega
      generalize hk : S.length - l.length = k at c1 hext hlek HN
      have HK := Lib.hid hk
      have hk2 : k ≤ 4611686018427387904 := by omega
      have hkn : (k : Int) + (n : Int) ≤ 4611686018427387904 := by omega
      clear hk hg1 hg2 hbad h92 hE hle hSS hg6
      by_cases h6 : c = 65533
      · have e2 : ((c : Int) == 65533) = true := by rw [beq_iff_eq]; omega
        have e3 : decide ((n : Int) ≤ 1) = false := by rw [decide_eq_false_iff_not]; have := hg5 h6; omega
        clear hg5 h6
        go_enter Tryz.func58, Tryz.ntmps58
        go_wp2_with (first
          | (go_at_call 48; ((with_reducible refine (T1 _ (by assumption)).mono ?_); rintro e w1 ⟨rfl, h1, c2⟩; obtain ⟨d0, d1, _⟩ := h1.cell; rw [HK.out] at d1; have E1 := HE.out.q c2 hq))
          | (go_at_call 78; ((with_reducible refine (hD _ (by assumption)).mono ?_); rintro e w2 ⟨rfl, b2⟩; have h2 := h1.below b2; obtain ⟨_, d2, _⟩ := h2.cell; rw [HK.out] at d2; have f2 := h2.free 1)))
        go_ret2
        exact saysN_ok HQ.out ⟨h2.put (drop_suf l n) (by have := HN.out; omega), (c2.then_below b2).setCell _ _ (.inl rfl)⟩
      · have e2 : ((c : Int) == 65533) = false := by rw [beq_eq_false_iff_ne]; omega
        clear hg5 h6
        go_enter Tryz.func58, Tryz.ntmps58
        go_wp2_with (first
          | (go_at_call 48; ((with_reducible refine (T1 _ (by assumption)).mono ?_); rintro e w1 ⟨rfl, h1, c2⟩; obtain ⟨d0, d1, _⟩ := h1.cell; rw [HK.out] at d1; have E1 := HE.out.q c2 hq))
          | (go_at_call 78; ((with_reducible refine (hD _ (by assumption)).mono ?_); rintro e w2 ⟨rfl, b2⟩; have h2 := h1.below b2; obtain ⟨_, d2, _⟩ := h2.cell; rw [HK.out] at d2; have f2 := h2.free 1)))
        go_ret2
        exact saysN_ok HQ.out ⟨h2.put (drop_suf l n) (by have := HN.out; omega), (c2.then_below b2).setCell _ _ (.inl rfl)⟩
end Go.Proofs.YtafmokpplnmbgaaGreatDoor

/- Layer 11: a string. -/
namespace Go.Proofs.YtafmokpplnmbgaaGreatDoor
open Go.RowKit

theorem low_suf {fr r q : Bs} {c d : Nat} (h : lowP fr c r = .ok d q) : q <:+ r := by
  unfold lowP at h
  split at h
  · cases h
  split at h
  · cases hu : unitP 4 0 r.tail.tail with
    | bad k x => rw [hu] at h; cases h
    | ok lo x =>
      rw [hu] at h
      simp only at h
      split at h
      · rw [Res.ok.injEq] at h
        rw [← h.2]
        exact ((unit_suf 4 0 hu).trans (List.tail_suffix _)).trans (List.tail_suffix _)
      · cases h
  · cases h
theorem units_suf {fr l q : Bs} {d : Nat} (h : unitsP fr l = .ok d q) : q <:+ l := by
  unfold unitsP at h
  cases hu : unitP 4 0 l with
  | bad k x => rw [hu] at h; cases h
  | ok c x =>
    rw [hu] at h
    simp only at h
    split at h
    · cases h
    split at h
    · exact (low_suf h).trans (unit_suf 4 0 hu)
    · rw [Res.ok.injEq] at h
      rw [← h.2]
      exact unit_suf 4 0 hu
theorem escP_suf {fr l q : Bs} {d : Nat} (h : escP fr l = .ok d q) : q <:+ l := by
  unfold escP at h
  split at h
  · exact (units_suf h).trans (List.tail_suffix l)
  split at h
  · rw [Res.ok.injEq] at h; rw [← h.2]; exact List.tail_suffix l
  · cases hu : unesc (hd l) with
    | none => rw [hu] at h; cases h
    | some c => rw [hu] at h; rw [Res.ok.injEq] at h; rw [← h.2]; exact List.tail_suffix l
theorem one_suf {l q : Bs} {d : Nat} (h : oneP l = .ok d q) : q <:+ l := by
  unfold oneP at h
  split at h
  · exact (escP_suf h).trans (List.tail_suffix l)
  · split at h
    · cases h
    · rw [Res.ok.injEq] at h; rw [← h.2]; exact List.drop_suffix _ l
theorem ownsF_chg {s : Nat → Prop} {w w' : World} (h : Chg s w w') {B : Nat} (hs : ∀ k, B ≤ k → ¬ s k) {e : TypeId} {v : Value} {n : Nat} {xs : List Value} (ho : w.ownsRowF B e 1 v n xs) : w'.ownsRowF B e 1 v n xs := by
  refine ⟨ho.1, ?_⟩
  rcases ho.2 with hn | ⟨g, cap, cur, fz, hv, hb, hg, hrest⟩
  · exact .inl hn
  · exact .inr ⟨g, cap, cur, fz, hv, hb, (h.block g (Array.getElem?_eq_some_iff.1 hg).1 (hs g hb)).trans hg, hrest⟩
theorem builderF_chg {s : Nat → Prop} {w w' : World} (h : Chg s w w') {T e : TypeId} {B b : Nat} (hs : ∀ k, B ≤ k → ¬ s k) {bs : List Value} (hI : Lib.IsBuilderF T e B b bs w) : Lib.IsBuilderF T e B b bs w' := by
  rcases hI with ⟨hB, v, hv, ho, hn⟩ | ⟨hB, v, hv, ho, hn⟩
  · exact .inl ⟨hB, v, (h.block b (Array.getElem?_eq_some_iff.1 hv).1 (hs b hB)).trans hv, ownsF_chg h hs ho, hn⟩
  · exact .inr ⟨hB, v, (h.block b (Array.getElem?_eq_some_iff.1 hv).1 (hs b hB)).trans hv, ownsF_chg h hs ho, hn⟩
theorem Chg.below_at {s : Nat → Prop} {a w w' : World} (h : Chg s a w) {B : Nat} (g : Below B w w') (hB : a.heap.size ≤ B) : Chg s a w' :=
  ⟨g.os.trans h.os, g.tape.trans h.tape, g.output.trans h.output, Nat.le_trans h.size g.size, fun k hk hs => (g.block k (Nat.lt_of_lt_of_le hk hB)).trans (h.block k hk hs)⟩
theorem RdAt.below_at {w w' : World} {q : Nat} {S r : Bs} {lev : Nat} (h : RdAt w q S r lev) {B : Nat} (g : Below B w w') (hB : q < B) : RdAt w' q S r lev := ⟨(g.block q hB).trans h.row, h.suf⟩
/-- What a reading of a text says of a call that answers it and an error. -/
def saysT (w : World) (q : Nat) (S r : Bs) (lev : Nat) (R : Res Bs) (e : Ending) (w' : World) : Prop :=
  match R with
  | .ok t x => e = .returned (.tuple #[.string (str t), .nilIface]) ∧ t.length ≤ 4 * S.length ∧ okP w q S x lev w'
  | .bad code x => e = .returned (.tuple #[.string ⟨#[]⟩, errAt S code x]) ∧ badP w q S r w'
theorem saysT_ok {w w' : World} {q : Nat} {S r x t : Bs} {lev : Nat} {R : Res Bs} (hR : R = .ok t x) (hl : t.length ≤ 4 * S.length) (h : okP w q S x lev w') : saysT w q S r lev R (.returned (.tuple #[.string (str t), .nilIface])) w' := by
  rw [hR]; exact ⟨rfl, hl, h⟩
theorem saysT_bad {w w' : World} {q : Nat} {S r x : Bs} {lev code : Nat} {R : Res Bs} (hR : R = .bad code x) (h : badP w q S r w') : saysT w q S r lev R (.returned (.tuple #[.string ⟨#[]⟩, errAt S code x])) w' := by
  rw [hR]; exact ⟨rfl, h⟩
/-- A text that Parse reads. -/
def okS (S : Bs) : Prop := S.length ≤ 65536
theorem okS.T {S : Bs} (h : okS S) : okT S := by unfold okS at h; unfold okT; omega
set_option maxRecDepth 100000 in
set_option maxHeartbeats 4000000 in
theorem quoted_any {w : World} {q : Nat} {S l : Bs} {lev N : Nat} {R : Res Bs} (hS : okS S) (hE : Env w) (hq : 10 ≤ q) (h : RdAt w q S l lev) (hR : quoP N l = some R) :
    Calls Tryz.prog 43 #[.pointer (some ⟨q, 0, none⟩)] w fun e w' => saysT w q S l lev R e w' := by
  obtain ⟨_, c1, _⟩ := h.cell
  have hlw := h.lt
  by_cases h34 : hd l = 34
  · have hst : strP N l.tail [] = some R := by unfold quoP at hR; rw [if_pos h34] at hR; exact hR
    have HST := Lib.hid hst
    have T1 := take_T (q := q) (lev := lev) hS.T 34 34 rfl (by decide) h34
    have HE := Lib.hid hE
    have HS := Lib.hid hS
    clear hst hR h34 hE c1
    go_enter Tryz.func43, Tryz.ntmps43
    go_wp2_with (go_at_call 48; ((with_reducible refine (T1 _ h).mono ?_); rintro e w1 ⟨rfl, h1, c1⟩))
    obtain ⟨W0, hW0⟩ : ∃ W0, W0 = w1.alloc (.cells #[.pointer none, .slice none 0 0] 50) := ⟨_, rfl⟩
    rw [← hW0]
    have I0 : Lib.IsBuilderF 50 5 w1.heap.size w1.heap.size (Lib.byteCells []) W0 := by rw [hW0]; exact Lib.IsBuilderF.of (Lib.fresh_isBuilder _ _ w1)
    have A0 : Chg (· = q) w W0 := by rw [hW0]; exact c1.alloc _
    have hqw := h1.lt
    have HW1 := Lib.hid (show w.heap.size ≤ w1.heap.size from c1.size)
    have H0 : RdAt W0 q S l.tail lev := by rw [hW0]; exact h1.below ((Below.refl _ _).alloc (Nat.le_refl _) _)
    have hB0 : w1.heap.size ≤ W0.heap.size := by rw [hW0, size_alloc]; omega
    have HI0 := Lib.hid I0
    have HA0 := Lib.hid A0
    clear hW0 I0 A0 c1 h T1 h1
    have hO := fun w' r' (hE' : Env w') (h' : RdAt w' q S r' lev) => one_any HS.out.T hE' hq h'
    have hq2 : ∀ k, w1.heap.size ≤ k → ¬ k = q := fun k hk e => by omega
    have HQ2 := Lib.hid hq2
    clear hq2
    go_loopg [5, 6] N (fun k s5 s6 wr => ∃ r' acc, RdAt wr q S r' lev ∧ Hid (Lib.IsBuilderF 50 5 w1.heap.size w1.heap.size (Lib.byteCells acc) wr) ∧ Hid (strP k r' acc = some R) ∧ Hid (r' <:+ l) ∧ Hid (acc.length ≤ 4 * (S.length - r'.length)) ∧ Chg (· = q) w wr ∧ w1.heap.size ≤ wr.heap.size)
    case atStart => exact ⟨l.tail, [], H0, HI0, HST, Lib.hid (List.tail_suffix l), Lib.hid (Nat.zero_le _), HA0.out, hB0⟩
    case round =>
      clear H0 HI0 HST HA0 hB0
      obtain ⟨r', acc, h', HI, HP, HSf, HAL, hC, hBr⟩ := hrel
      obtain ⟨m, hm⟩ : ∃ m, gk = m + 1 := by
        cases gk with
        | zero => exact absurd HP.out (by intro e; cases e)
        | succ m => exact ⟨m, rfl⟩
      have HM := Lib.hid hm
      have hst : strP (m + 1) r' acc = some R := by rw [← hm]; exact HP.out
      rw [strP] at hst
      clear hm
      by_cases h34 : hd r' = 34
      · rw [if_pos h34, Option.some.injEq] at hst
        have HQ := Lib.hid hst.symm
        have T1 := take_T (q := q) (lev := lev) HS.out.T 34 34 rfl (by decide) h34
        have hle := h'.le
        have HL := Lib.hid (show acc.length ≤ 4 * S.length by have := HAL.out; omega)
        clear hst h34 hle
        go_wp2_with (first
          | (go_at_call 48; ((with_reducible refine (T1 _ h').mono ?_); rintro e w2 ⟨rfl, h2, c2⟩; have I2 := builderF_chg c2 HQ2.out HI.out; have hB2 := Nat.le_trans hBr c2.size))
          | (go_at_call 16; ((with_reducible refine (Tryz.Builder_String_any_k w1.heap.size w1.heap.size acc _ I2 hB2).mono ?_); rintro e w3 ⟨rfl, _, b3, _⟩)))
        go_ret2
        exact saysT_ok HQ.out HL.out ⟨h2.below_at b3 (Nat.lt_of_not_le fun e => HQ2.out q e rfl), (hC.two c2).below_at b3 HW1.out⟩
      · have T1 := take_F (q := q) (lev := lev) HS.out.T 34 34 rfl (by decide) h34
        rw [if_neg h34] at hst
        cases ho : oneP r' with
        | bad code x =>
          rw [ho] at hst
          have HQ := Lib.hid (show R = .bad code x from (Option.some.inj hst).symm)
          have C := fun w' (hE' : Env w') (h'' : RdAt w' q S r' lev) => hO w' r' hE' h''
          rw [ho] at C
          unfold saysN errAt errV at C
          clear hst ho h34 hO
          go_wp2_with (first
            | (go_at_call 48; ((with_reducible refine (T1 _ h').mono ?_); rintro e w2 ⟨rfl, h2, c2⟩; have E2 := HE.out.q (hC.two c2) hq))
            | (go_at_call 58; ((with_reducible refine (C _ E2 h2).mono ?_); rintro e w3 ⟨rfl, h3⟩)))
          go_ret2
          exact saysT_bad HQ.out (h3.trans (hC.two c2) HSf.out)
        | ok c x =>
          rw [ho] at hst
          have HQ := Lib.hid (show strP m x (acc ++ Lib.encodeRune (c : Int)) = some R from hst)
          have C := fun w' (hE' : Env w') (h'' : RdAt w' q S r' lev) => hO w' r' hE' h''
          rw [ho] at C
          unfold saysN okP at C
          have hoo := one_ok ho
          have HXS := Lib.hid (one_suf ho)
          have hsc := hoo.1
          unfold scal at hsc
          have hc2 : (c : Int) ≤ 1114111 := by omega
          have hle := h'.le
          have hSS := HS.out
          unfold okS at hSS
          have hacc := HAL.out
          have HAL2 := Lib.hid (show (acc ++ Lib.encodeRune (c : Int)).length ≤ 4 * (S.length - x.length) by have := enc_le c; have := hoo.2; rw [List.length_append]; omega)
          have HAC := Lib.hid (show (Lib.byteCells acc).length + 4 ≤ 140737488355328 by rw [Lib.byteCells_length]; omega)
          clear hst ho h34 hO hsc hoo hle hSS hacc
          go_wp2_with (first
            | (go_at_call 48; ((with_reducible refine (T1 _ h').mono ?_); rintro e w2 ⟨rfl, h2, c2⟩; have E2 := HE.out.q (hC.two c2) hq; have I2 := builderF_chg c2 HQ2.out HI.out; have hB2 := Nat.le_trans hBr c2.size))
            | (go_at_call 58; ((with_reducible refine (C _ E2 h2).mono ?_); rintro e w3 ⟨rfl, h3, c3⟩; have I3 := builderF_chg c3 HQ2.out I2; have hB3 := Nat.le_trans hB2 c3.size))
            | (go_at_call 59; ((with_reducible refine (Tryz.Builder_WriteRune_k w1.heap.size w1.heap.size _ (c : Int) (by omega) (by omega) _ I3 HAC.out hB3).mono ?_); rintro e w4 ⟨rfl, i4, b4, _⟩)))
          go_roundg m
          case measure => rw [HM.out]; omega
          case rel => exact ⟨x, acc ++ Lib.encodeRune (c : Int), h3.below_at b4 (Nat.lt_of_not_le fun e => HQ2.out q e rfl), Lib.hid (by rw [Lib.byteCells_append, Lib.byteCells_encodeRune]; exact Or.inr i4), HQ, Lib.hid (HXS.out.trans HSf.out), HAL2, ((hC.two c2).two c3).below_at b4 HW1.out, Nat.le_trans hB3 b4.size⟩
  · have hst : R = .bad 10 l := by unfold quoP at hR; rw [if_neg h34, Option.some.injEq] at hR; exact hR.symm
    have HST := Lib.hid hst
    have T1 := take_F (q := q) (lev := lev) hS.T 34 34 rfl (by decide) h34
    generalize hk : S.length - l.length = k
    have HK := Lib.hid hk
    clear hst hR h34 hE c1 hS hk
    go_enter Tryz.func43, Tryz.ntmps43
    go_wp2_with (first
      | (go_at_call 48; ((with_reducible refine (T1 _ h).mono ?_); rintro e w1 ⟨rfl, h1, c1⟩; obtain ⟨_, d1, _⟩ := h1.cell; rw [HK.out] at d1))
      | (go_at_call 27; ((with_reducible refine (unfit_any k _ rfl _).mono ?_); rintro e w5 ⟨rfl, rfl⟩; unfold errV)))
    go_ret2
    have := saysT_bad (w := w) (w' := w1) (q := q) (S := S) (r := l) (lev := lev) HST.out ⟨⟨l, lev, h1, List.suffix_refl l⟩, c1⟩
    unfold errAt at this
    rw [HK.out] at this
    exact this
end Go.Proofs.YtafmokpplnmbgaaGreatDoor

/- Layer 11: a piece, and a string, are written by a printer. -/
namespace Go.Proofs.YtafmokpplnmbgaaGreatDoor
open Go.RowKit

/-- Behind some writing since w: the printer's bytes, and what stands as it stood. -/
structure PrS (w : World) (B b : Nat) (l : Bs) (w' : World) : Prop where
  pr : PrAt w' B b l
  bel : Below B w w'
  oth : Lib.OthersKept 5 (some b) w w'
theorem PrS.start {w : World} {B b : Nat} {l : Bs} (h : PrAt w B b l) : PrS w B b l w := ⟨h, Below.refl _ _, Lib.OthersKept.refl _ _ _⟩
theorem PrAt.lt {w : World} {B b : Nat} {l : Bs} (h : PrAt w B b l) : B ≤ b ∧ b < w.heap.size := by
  rcases h with h | h
  · exact ⟨h.1, h.lt⟩
  · exact ⟨h.1, h.lt⟩
theorem PrAt.below {w w' : World} {B b : Nat} {l : Bs} (h : PrAt w B b l) (hb : Below w.heap.size w w') : PrAt w' B b l := by
  have hc : Chg (fun _ => False) w w' := Chg.of_below hb
  rcases h with ⟨hB, v, hv, ho, hn⟩ | ⟨hB, v, hv, ho, hn⟩
  · exact .inl ⟨hB, v, (hc.block b (Array.getElem?_eq_some_iff.1 hv).1 id).trans hv, ownsF_chg hc (fun _ _ => id) ho, hn⟩
  · exact .inr ⟨hB, v, (hc.block b (Array.getElem?_eq_some_iff.1 hv).1 id).trans hv, ownsF_chg hc (fun _ _ => id) ho, hn⟩
theorem others_below {e : TypeId} {b : Option Nat} {a w w' : World} (h : Lib.OthersKept e b a w) (hb : Below w.heap.size w w') : Lib.OthersKept e b a w' := fun k o hk hkb ho => by
  have h1 := h k o hk hkb ho
  rw [hb.block k (Array.getElem?_eq_some_iff.1 h1).1]
  exact h1
theorem PrS.below {w w1 w2 : World} {B b : Nat} {l : Bs} (h : PrS w B b l w1) (hB : B ≤ w1.heap.size) (hb : Below w1.heap.size w1 w2) : PrS w B b l w2 :=
  ⟨h.pr.below hb, h.bel.trans (hb.mono hB), others_below h.oth hb⟩
theorem PrS.trans {w w1 w2 : World} {B b : Nat} {l m : Bs} (h : PrS w B b l w1) (g : PrS w1 B b m w2) : PrS w B b m w2 := ⟨g.pr, h.bel.trans g.bel, h.oth.trans g.oth⟩
/-- A block of other cells stands as it stood. -/
theorem PrS.row {w w' : World} {B b : Nat} {l : Bs} (h : PrS w B b l w') {r : Nat} {cs : Array Value} {t : TypeId} (hr : rowC w r cs t) (hb : r ≠ b) (ht : t ≠ 5) : rowC w' r cs t :=
  h.oth r _ hr (fun e => hb (Option.some.inj e)) (fun c fz e => ht (by injection e))
theorem PrS.size {w w' : World} {B b : Nat} {l : Bs} (h : PrS w B b l w') : w.heap.size ≤ w'.heap.size := h.bel.size
set_option maxHeartbeats 1000000 in
theorem put_any {w : World} {B b : Nat} {l : Bs} (s : Bs) (h : PrAt w B b l) (hB : B ≤ w.heap.size) (hs : s.length ≤ 70368744177664) :
    Calls Tryz.prog 22 #[.pointer (some ⟨b, 0, none⟩), .string (str s)] w fun e w' => e = .returned (.tuple #[]) ∧ PrS w B b (putL l s) w' := by
  have CL := bd_len B b (Lib.byteCells l) w h
  rw [Lib.byteCells_length] at CL
  by_cases hl : l.length ≤ 65536
  · have hp : putL l s = l ++ s := if_pos hl
    rw [hp]
    have CW := bd_write B b (Lib.byteCells l) (str s) w h (by rw [Lib.byteCells_length, str_size]; omega) hB
    have hl' : (l.length : Int) ≤ 65536 := by omega
    clear h hs hp hl
    go_enter Tryz.func22, Tryz.ntmps22
    go_wp2_with (first
      | (go_at_call 15; ((with_reducible refine CL.mono ?_); rintro e w2 ⟨rfl, rfl⟩))
      | (go_at_call 39; ((with_reducible refine CW.mono ?_); rintro e w3 ⟨rfl, hb1, hb2, hb3⟩)))
    go_end0
    refine ⟨rfl, ?_, hb2, hb3⟩
    unfold PrAt
    rw [Lib.byteCells_append]
    exact .inr hb1
  · have hp : putL l s = l := if_neg hl
    rw [hp]
    have hl' : ¬ (l.length : Int) ≤ 65536 := by omega
    have h' := PrS.start h
    clear hs hp hl h
    go_enter Tryz.func22, Tryz.ntmps22
    go_wp2_with (go_at_call 15; ((with_reducible refine CL.mono ?_); rintro e w2 ⟨rfl, rfl⟩))
    go_end0
    exact ⟨rfl, h'⟩
/-! ### Strings -/
theorem runesF_more : ∀ (n m : Nat) (l : Bs), l.length ≤ n → l.length ≤ m → runesF n l = runesF m l
  | 0, m, l, h, _ => by
    obtain rfl : l = [] := List.eq_nil_of_length_eq_zero (by omega)
    cases m <;> rfl
  | n + 1, 0, l, _, h => by
    obtain rfl : l = [] := List.eq_nil_of_length_eq_zero (by omega)
    rfl
  | n + 1, m + 1, l, h, k => by
    rw [runesF, runesF]
    by_cases hl : l = []
    · rw [if_pos hl, if_pos hl]
    · rw [if_neg hl, if_neg hl]
      have hw := Lib.decodeL_width l
      have h0 := List.length_pos_iff.2 hl
      rw [runesF_more n m _ (by rw [List.length_drop]; omega) (by rw [List.length_drop]; omega)]
theorem runesT_cons {l : Bs} (h : l ≠ []) : runesT l = (Lib.decodeL l).1 :: runesT (l.drop (Lib.decodeL l).2) := by
  have h0 := List.length_pos_iff.2 h
  have hw := Lib.decodeL_width l
  unfold runesT
  obtain ⟨n, hn⟩ : ∃ n, l.length = n + 1 := ⟨l.length - 1, by omega⟩
  rw [hn, runesF, if_neg h]
  rw [runesF_more n _ _ (by rw [List.length_drop]; omega) (Nat.le_refl _)]
theorem printed_len (c : Nat) : (printedR c).length ≤ 6 := by
  unfold printedR
  split
  · simp
  split
  · simp
  split
  · simp
  · have := enc_le c; omega
set_option maxRecDepth 100000 in
set_option maxHeartbeats 4000000 in
theorem pquoted_any {w : World} {B b : Nat} {l : Bs} (t : Bs) (h : PrAt w B b l) (hB : B ≤ w.heap.size) (h10 : 10 ≤ B) (tz : w.cell? ⟨9, 15, none⟩ = some (.int .u8 4)) :
    Calls Tryz.prog 23 #[.pointer (some ⟨b, 0, none⟩), .string (str t)] w fun e w' => e = .returned (.tuple #[]) ∧ PrS w B b (putsL l (quoPs t)) w' := by
  have C1 : ∀ (w2 : World) (acc : Bs), PrAt w2 B b acc → B ≤ w2.heap.size → Calls Tryz.prog 22 #[.pointer (some ⟨b, 0, none⟩), .string ⟨#[34]⟩] w2 fun e w' => e = .returned (.tuple #[]) ∧ PrS w2 B b (putL acc [34]) w' := fun w2 acc g hB2 => put_any [34] g hB2 (by decide)
  have CP := fun (w2 : World) (acc : Bs) (s : Bs) (g : PrAt w2 B b acc) (hB2 : B ≤ w2.heap.size) (hs : s.length ≤ 70368744177664) => put_any s g hB2 hs
  have hbB := h.lt
  have HQ : Hid (putsL l (quoPs t) = putL (putsL (putL l [34]) ((runesT t).map printedR)) [34]) := Lib.hid (by
    unfold quoPs
    rw [← List.singleton_append, putsL_app, putsL_app]
    rfl)
  have TZ := Lib.hid tz
  have HBB := Lib.hid hB
  have HBB2 := Lib.hid h10
  have CD := fun (w2 : World) (c : Nat) (hc : scal c) (hb : Below B w w2) => printed_any hc w2 ((hb.cell (show 9 < B by omega)).trans tz)
  have h0 := PrS.start h
  go_enter Tryz.func23, Tryz.ntmps23
  clear tz
  go_wp2_with (go_at_call 22; ((with_reducible refine (C1 _ _ h hB).mono ?_); rintro e w1 ⟨rfl, h1⟩))
  have hs1 := h1.size
  have I1 : PrS w B b (putL l [34]) (w1.alloc (.stringIter (str t) 0)) := h1.below (by omega) ((Below.refl _ _).alloc (Nat.le_refl _) _)
  go_loopg [5] t.length (fun k s5 wr => ∃ pos acc, wr.heap[w1.heap.size]? = some (.stringIter (str t) pos) ∧ Hid (PrS w B b acc wr) ∧ Hid (putsL acc ((runesT (t.drop pos)).map printedR) = putsL (putL l [34]) ((runesT t).map printedR)) ∧ Hid (k = t.length - pos) ∧ Hid (pos ≤ t.length) ∧ Hid (w1.heap.size < wr.heap.size))
  case atStart => exact ⟨0, _, heap_alloc_new w1 _, Lib.hid I1, Lib.hid rfl, Lib.hid rfl, Lib.hid (Nat.zero_le _), Lib.hid (by rw [show (w1.iter (str t) 0) = w1.alloc (.stringIter (str t) 0) from rfl, size_alloc]; omega)⟩
  case round =>
    obtain ⟨pos, acc, hit, HP, HR, HK, HL, HZ⟩ := hrel
    by_cases hpos : pos < t.length
    · have hnx := fun ty => Lib.run_next_any_at (P := Tryz.prog) wr _ _ _ ty hit (by rw [str_size]; exact hpos)
      have hdd := Lib.decodeL_drop (str t) pos
      rw [str_toList] at hdd
      rw [← hdd] at hnx
      have hne : t.drop pos ≠ [] := fun e => by have := congrArg List.length e; simp at this; omega
      have hsc := scal_dec (t.drop pos)
      have hw := Lib.decodeL_width (t.drop pos)
      have hwl := Lib.decodeL_le (t.drop pos) hne
      rw [List.length_drop] at hwl
      have HR2 : Hid (putsL (putL acc (printedR (Lib.decodeL (t.drop pos)).1)) ((runesT (t.drop (pos + (Lib.decodeL (t.drop pos)).2))).map printedR) = putsL (putL l [34]) ((runesT t).map printedR)) := Lib.hid (by
        rw [← HR.out, runesT_cons hne, List.drop_drop]
        rfl)
      generalize (Lib.decodeL (t.drop pos)).1 = c at *
      generalize (Lib.decodeL (t.drop pos)).2 = n at *
      have P2 : PrS w B b acc (wr.iterAt w1.heap.size (str t) (pos + n)) := by
        have hB := HBB.out
        refine ⟨HP.out.pr.iterAt hit _, Lib.below_iterAt HP.out.bel (by omega) _ _, fun k o hk hkb ho => ?_⟩
        have hlt := (Array.getElem?_eq_some_iff.1 hk).1
        rw [Lib.iterAt_other _ _ _ _ _ (by omega)]
        exact HP.out.oth k o hk hkb ho
      have it2 := Lib.iterAt_heap wr w1.heap.size (str t) pos (pos + n) hit
      have sz2 := Lib.iterAt_size wr w1.heap.size (str t) (pos + n)
      generalize wr.iterAt w1.heap.size (str t) (pos + n) = wq at *
      have CD2 := CD wq c hsc P2.bel
      have HP2 := Lib.hid P2
      have hbq : B ≤ wq.heap.size := by have := HBB.out; have := P2.size; omega
      clear P2 hdd hit HP
      go_wp2_with (first
        | (go_at_call 40; ((with_reducible refine CD2.mono ?_); rintro e w3 ⟨rfl, hb3⟩; have P3 := HP2.out.below hbq hb3))
        | (go_at_call 22; ((with_reducible refine (CP _ _ _ P3.pr (Nat.le_trans hbq hb3.size) (Nat.le_trans (printed_len c) (by decide))).mono ?_); rintro e w4 ⟨rfl, h4⟩)))
      go_roundg (t.length - (pos + n))
      case measure => rw [HK.out]; omega
      case rel =>
        have i3 : w3.heap[w1.heap.size]? = some (.stringIter (str t) (pos + n)) := (hb3.block _ (by have := HZ.out; omega)).trans it2
        exact ⟨pos + n, _, h4.oth.iter i3 (by omega), Lib.hid (P3.trans h4), HR2, Lib.hid rfl, Lib.hid (by omega), Lib.hid (by have := HZ.out; have := hb3.size; have := h4.size; omega)⟩
    · have hnx := fun ty => Lib.run_next_end_at (P := Tryz.prog) wr _ _ _ ty hit (by rw [str_size]; exact hpos)
      have hdr : t.drop pos = [] := List.drop_eq_nil_of_le (by omega)
      have HR3 : Hid (acc = putsL (putL l [34]) ((runesT t).map printedR)) := Lib.hid (by
        rw [← HR.out, hdr]; rfl)
      have hbq : B ≤ wr.heap.size := by have := HBB.out; have := HP.out.size; omega
      clear hdr hit HR
      go_wp2_with (go_at_call 22; ((with_reducible refine (C1 _ _ HP.out.pr hbq).mono ?_); rintro e w4 ⟨rfl, h4⟩))
      go_end0
      rw [HQ.out, ← HR3.out]
      exact ⟨rfl, HP.out.trans h4⟩
end Go.Proofs.YtafmokpplnmbgaaGreatDoor

