/- Layer 15: entries behind entries, and TarParts walked. -/
import Derived.Test.YtdckfbppgenjkaaDoorTrY
import Derived.Deep.AppendLies
import Derived.Deep.Upon
namespace Go.Proofs.YtdckfbppgenjkaaDoor
open Go.RowKit
attribute [local go_sem] wide_fn round_fn

theorem rowE_at {l : List Ent} {i : Nat} {x : Ent} (h : l[i]? = some x) {j : Nat} (hj : j < 5) : (rowE l)[i * 5 + j]? = (entV x)[j]? := by
  have hi : i < l.length := (List.getElem?_eq_some_iff.1 h).1
  have e : rowE l = rowE (l.take i) ++ (entV x ++ rowE (l.drop (i + 1))) := by
    conv => lhs; rw [← List.take_append_drop i l, List.drop_eq_getElem_cons hi]
    rw [rowE_app]
    have hxe : l[i] = x := by rw [List.getElem?_eq_getElem hi] at h; exact Option.some.inj h
    rw [hxe]
    simp [rowE]
  have hl : (rowE (l.take i)).length = i * 5 := by rw [rowE_len, List.length_take]; omega
  rw [e, List.getElem?_append_right (by omega), hl, Nat.add_sub_cancel_left, List.getElem?_append_left (by exact hj)]
theorem rowE_ones (l : List Ent) : ∀ u ∈ rowE l, u.oneCell' = true := fun u hu => by
  obtain ⟨x, _, hx⟩ := List.mem_flatMap.1 hu
  exact entV_one x u hx
theorem EntsAt.row {w : World} {a : Addr} {l : List Ent} (h : EntsAt w (some a) l) : ∀ j u, (rowE l)[j]? = some u → w.cell? (a.add j) = some u := fun j u hu => by
  have hj := (List.getElem?_eq_some_iff.1 hu).1
  rw [rowE_len] at hj
  have hi : j / 5 < l.length := by omega
  obtain ⟨a', ha, _, hc⟩ := h (j / 5) l[j / 5] (List.getElem?_eq_getElem hi)
  obtain rfl := Option.some.inj ha
  have e : j / 5 * 5 + j % 5 = j := by omega
  have := hc (j % 5) u (by rw [← rowE_at (List.getElem?_eq_getElem hi) (Nat.mod_lt _ (by decide)), e]; exact hu)
  rw [add_add, e] at this
  exact this
/-- Entries are appended to a slice of the call's own. -/
theorem wpList_append_e {w : World} {ops : Array Oper} {rest : List Oper} {o : Oper} {a : Act} {Q : Exit → Act → World → Prop} (hw : Region.wanted o (yielded ops a.tmps) = true) (s x : Operand)
    (ho : o.op = .call { callee := .builtin .append, args := #[s, x], argTypes := #[22, 22] })
    (base : Nat) (v : Value) (A : List Ent) (hs : a.eval s = v) (hown : OwnsE w base v A)
    (y : Option Addr) (cy : Nat) (B : List Ent) (hx : a.eval x = .slice y B.length cy) (hB : EntsAt w y B)
    (hl : A.length + B.length ≤ 1000000) (hbase : base ≤ w.heap.size)
    (h : ∀ v' w', OwnsE w' base v' (A ++ B) → Below base w w' → wpList Tryd.prog ops Q rest (a.put o.dst v') w') :
    wpList Tryd.prog ops Q (o :: rest) a w := by
  obtain ⟨k0, ki, kz0, kz1, kz2⟩ := info_parts info_ent
  refine wpList_step fun K hK => ?_
  rw [if_pos hw]
  have hlt := World.ownsRow.lt hown
  by_cases hB0 : B = []
  · subst hB0
    have hsrc : Src Tryd.prog k0.size 22 (.slice y 0 cy) 0 [] w := by
      cases y with
      | none => exact Src.ofNil w Tryd.underlying22 cy
      | some ad => exact Src.ofSlice w Tryd.underlying22 ad 0 cy [] (by simp) (fun j u hu => by simp at hu) (fun u hu => by cases hu)
    have hfin : ∀ (b' : Option Addr) (n' c' : Nat), v = .slice b' n' c' → n' ≤ c' → Oper.wp Tryd.prog o a w K Q := fun b' n' c' hv hle => by
      have hr := run_append_nothing (P := Tryd.prog) w 22 22 o.type 35 k0 Tryd.underlying22 ki b' n' c' hle (.slice y 0 cy) hsrc
      have hx' : a.eval x = .slice y 0 cy := hx
      unfold Oper.wp execOp
      simp only [ho, resolve, invoke, builtin, Sem.run_bind, Sem.run_pure, Result.andThen_ok, List.map_toArray, List.map_cons, List.map_nil, hs, hv, hx', hr]
      exact hK _ _ (h _ w (by rw [List.append_nil, ← hv]; exact hown) (Below.refl _ _))
    rcases hown.2 with ⟨hv, _⟩ | ⟨g, cap, cur, hv, _, _, hc, _⟩
    · exact hfin _ _ _ hv (Nat.le_refl _)
    · exact hfin _ _ _ hv hc
  · have hp : 0 < B.length := List.length_pos_iff.2 hB0
    obtain ⟨ad, rfl⟩ : ∃ ad, y = some ad := by
      obtain ⟨ad, he, _⟩ := hB 0 B[0] (List.getElem?_eq_getElem hp)
      exact ⟨ad, he⟩
    refine wp_append_lies w s x 22 ho base 35 k0 _ 5 64 Tryd.underlying22 ki kz0 kz1 kz2 rfl (by decide) v A.length (rowE A) hs hown ad B.length cy (rowE B) hx (rowE_len B) hB.row (rowE_ones B) hp (by unfold maxLen; omega) (by omega) hbase _ rfl fun g cap w' h2 h3 _ _ => ?_
    refine hK _ _ (h _ w' ?_ ((Below.refl _ _).grown h3 hbase fun j hj => (hlt j hj).1))
    unfold OwnsE
    rw [List.length_append, rowE_app]
    exact h2

set_option maxRecDepth 100000 in
set_option maxHeartbeats 32000000 in
theorem parts_any (A B : List Ent) (ad : Option Addr) (c : Nat) (bd : Option Addr) (d : Nat) (hlA : A.length ≤ maxLen) (hlB : B.length ≤ maxLen) (w : World) (hE : EnvT w) (hA : EntsAt w ad A) (hB : EntsAt w bd B) :
    Calls Tryd.prog 5 #[.slice ad A.length c, .slice bd B.length d] w fun e w' => e = .returned (.bool true) ∧ Below w.heap.size w w' := by
  have CG := great_any A ad c 8 hlA w hA
  have CH := great_any B bd d 8 hlB w hB
  rw [show ((8 : Nat) : Int) = 8 from rfl] at CG CH
  have HP := packed_any w hE
  cases hg : greatB A 8 with
  | true =>
    rw [hg] at CG
    go_enter Tryd.func5, Tryd.ntmps5
    go_wp2_with (first
      | (go_at_call 6; ((with_reducible refine CG.mono ?_); rintro e w1 ⟨rfl, rfl⟩))
      | (go_at_call 7; ((with_reducible refine HP.mono ?_); rintro e w2 ⟨rfl, hb⟩)))
    go_ret
    exact ⟨rfl, hb⟩
  | false =>
    rw [hg] at CG
    have HG := Lib.hid CG
    clear CG
    cases hh : greatB B 8 with
    | true =>
      rw [hh] at CH
      have HH := Lib.hid CH
      clear CH
      go_enter Tryd.func5, Tryd.ntmps5
      go_wp2_with (first
        | (go_at_call 6; ((with_reducible refine HG.out.mono ?_); rintro e w1 ⟨rfl, rfl⟩; clear HG))
        | (go_at_call 6; ((with_reducible refine HH.out.mono ?_); rintro e w1 ⟨rfl, rfl⟩; clear HH))
        | (go_at_call 7; ((with_reducible refine HP.mono ?_); rintro e w2 ⟨rfl, hb⟩)))
      go_ret
      exact ⟨rfl, hb⟩
    | false =>
      rw [hh] at CH
      have HH := Lib.hid CH
      clear CH HP
      obtain ⟨hA8, hsA⟩ := great_no hg
      obtain ⟨hB8, hsB⟩ := great_no hh
      have hdA : ∀ x ∈ A, x.data.length ≤ 1000000 := fun x hx => by have := hsA x hx; omega
      have hdB : ∀ x ∈ B, x.data.length ≤ 1000000 := fun x hx => by have := hsB x hx; omega
      have HWA := Lib.hid (writes_any A ad c hdA hlA w hE hA)
      have HWB : Hid (∀ W, Below w.heap.size w W → Calls Tryd.prog 8 #[.slice bd B.length d] W fun e w' => e = .returned (.tuple #[.string (str (writeL B).1), .int .i64 ((writeL B).2 : Int)]) ∧ Below W.heap.size W w') := Lib.hid fun W hb => writes_any B bd d hdB hlB W (hE.below hb) (hB.far hb (Nat.le_refl _))
      have HE := Lib.hid hE
      have HEA := Lib.hid hA
      have HEB := Lib.hid hB
      clear hE hA hB
      cases hall : A.all mayE && B.all mayE with
      | false =>
        obtain ⟨SA, hSA⟩ : ∃ SA, SA = str (writeL A).1 := ⟨_, rfl⟩
        obtain ⟨SB, hSB⟩ : ∃ SB, SB = str (writeL B).1 := ⟨_, rfl⟩
        obtain ⟨na, hna⟩ : ∃ na, na = (writeL A).2 := ⟨_, rfl⟩
        obtain ⟨nb, hnb⟩ : ∃ nb, nb = (writeL B).2 := ⟨_, rfl⟩
        have hor : (na = 0 ∧ nb = 2) ∨ na = 2 := by
          rw [hna, hnb]
          cases ha : A.all mayE with
          | false => rw [write_no (by omega) ha]; exact .inr rfl
          | true =>
            rw [ha, Bool.true_and] at hall
            rw [write_ok (by omega) ha, write_no (by omega) hall]; exact .inl ⟨rfl, rfl⟩
        rw [← hSA, ← hna] at HWA
        rw [← hSB, ← hnb] at HWB
        clear hSA hSB hna hnb hall hg hh hsA hsB hdA hdB hlA hlB
        go_enter Tryd.func5, Tryd.ntmps5
        go_upto_region 5 with (first
          | (go_at_call 6; ((with_reducible refine HG.out.mono ?_); rintro e w1 ⟨rfl, rfl⟩; clear HG))
          | (go_at_call 6; ((with_reducible refine HH.out.mono ?_); rintro e w1 ⟨rfl, rfl⟩; clear HH))
          | (go_at_call 8; ((with_reducible refine HWA.out.mono ?_); rintro e w2 ⟨rfl, b2⟩; clear HWA; have B2 := Lib.hid b2; clear b2))
          | (go_at_call 8; ((with_reducible refine (HWB.out _ B2.out).mono ?_); rintro e w3 ⟨rfl, b3⟩; clear HWB; have B3 := Lib.hid (B2.out.trans (b3.mono B2.out.size)); clear b3)))
        have HP := packed_any _ (HE.out.below B3.out)
        rcases hor with ⟨rfl, rfl⟩ | rfl
        · go_wp2_with (first
            | (go_at_call 7; ((with_reducible refine HP.mono ?_); rintro e w4 ⟨rfl, b4⟩)))
          go_ret
          exact ⟨rfl, B3.out.trans (b4.mono B3.out.size)⟩
        · go_wp2_with (first
            | (go_at_call 7; ((with_reducible refine HP.mono ?_); rintro e w4 ⟨rfl, b4⟩)))
          go_ret
          exact ⟨rfl, B3.out.trans (b4.mono B3.out.size)⟩
      | true =>
        rw [Bool.and_eq_true] at hall
        obtain ⟨ha, hb⟩ := hall
        have hab : (A ++ B).all mayE = true := by rw [List.all_append, ha, hb]; rfl
        have hlab : (A ++ B).length ≤ 16 := by rw [List.length_append]; omega
        have hdab : ∀ x ∈ A ++ B, x.data.length ≤ 1000000 := fun x hx => by
          rcases List.mem_append.1 hx with h | h
          · exact hdA x h
          · exact hdB x h
        have hP := all_entP hab hdab
        rw [write_ok (by omega) ha] at HWA
        rw [write_ok (by omega) hb] at HWB
        have CW := fun W vd cd hE => writes_any (A ++ B) vd cd hdab (by unfold maxLen; omega) W hE
        rw [write_ok (by omega) hab] at CW
        dsimp only at HWA HWB CW
        have hmost := encL_most A (fun x hx => ⟨(hP x (List.mem_append_left _ hx)).may, (hsA x hx).2.2⟩)
        have hmost2 := encL_most B (fun x hx => ⟨(hP x (List.mem_append_right _ hx)).may, (hsB x hx).2.2⟩)
        have hJ : encL (A ++ B) ++ zerosL 1024 = encL A ++ (encL B ++ zerosL 1024) := by rw [encL_app, List.append_assoc]
        have r0 : readR (encL A ++ (encL B ++ zerosL 1024)) none [] = (0, A ++ B) := by rw [← hJ, read_all (A ++ B) _ [] hP (by simp; omega), readR_end 1024 _ (Nat.le_refl _), List.nil_append]
        have C0 := read_any (encL A ++ (encL B ++ zerosL 1024)) (by rw [List.length_append, List.length_append, zerosL_len]; omega)
        rw [r0] at C0
        rw [hJ, List.length_append] at CW
        dsimp only at C0
        obtain ⟨M, hM⟩ : ∃ M, M = (encL A).length := ⟨_, rfl⟩
        have zA : (str (encL A ++ zerosL 1024)).size = M + 1024 := by rw [str_size, List.length_append, zerosL_len, hM]
        have zB : (str (encL B ++ zerosL 1024)).size ≤ 100000 := by rw [str_size, List.length_append, zerosL_len]; omega
        have eJ : str (encL A ++ (encL B ++ zerosL 1024)) = (str (encL A ++ zerosL 1024)).extract 0 M ++ str (encL B ++ zerosL 1024) := by
          rw [extract_str, sl, List.drop_zero, hM, List.take_left, str_append]
        rw [eJ] at C0 CW
        have hM9 : M ≤ 100000 := by omega
        generalize str (encL A ++ zerosL 1024) = SA at *
        generalize str (encL B ++ zerosL 1024) = SB at *
        have HC0 := Lib.hid C0
        have HCW := Lib.hid CW
        have HL := Lib.hid hlab
        have HLA := Lib.hid hA8
        have HLB := Lib.hid hB8
        obtain ⟨NA, hNA⟩ : ∃ n, n = (A ++ B).length := ⟨_, rfl⟩
        clear C0 CW hlab hdab hP hab ha hb hsA hsB hdA hdB hlA hlB hg hh r0 hJ eJ hmost hmost2 hM
        go_enter Tryd.func5, Tryd.ntmps5
        go_upto_region 5 with (first
          | (go_at_call 6; ((with_reducible refine HG.out.mono ?_); rintro e w1 ⟨rfl, rfl⟩; clear HG))
          | (go_at_call 6; ((with_reducible refine HH.out.mono ?_); rintro e w1 ⟨rfl, rfl⟩; clear HH))
          | (go_at_call 8; ((with_reducible refine HWA.out.mono ?_); rintro e w2 ⟨rfl, b2⟩; clear HWA; have B2 := Lib.hid b2; clear b2))
          | (go_at_call 8; ((with_reducible refine (HWB.out _ B2.out).mono ?_); rintro e w3 ⟨rfl, b3⟩; clear HWB; have B3 := Lib.hid (B2.out.trans (b3.mono B2.out.size)); clear b3 B2)))
        go_upto_region 9 with (fail)
        have g3 : (0 : Int) ≤ (M : Int) := by omega
        have g5 : (M : Int) ≤ (M : Int) + 1024 := by omega
        go_upto_region 10 with (first
          | (go_at_call 9; ((with_reducible refine (HC0.out _).mono ?_); rintro e w4 ⟨v9, rfl, ho9, b4⟩; obtain ⟨a9, c9, rfl⟩ := owns_form ho9; have E9 := Lib.hid ho9.ents; have B4 := Lib.hid (B3.out.trans (b4.mono B3.out.size)); clear ho9 b4 B3)))
        clear HC0
        have EA4 := Lib.hid (HEA.out.far B4.out (Nat.le_refl _))
        have EB4 := Lib.hid (HEB.out.far B4.out (Nat.le_refl _))
        go_upto_region 11 with (first
          | ((with_reducible show wpList _ _ _ (⟨some 53, _, _, _, _, _⟩ :: _) _ _); refine wpList_append_e (by rfl) (.const (.slice none 0 0)) (.tmp 52) rfl w4.heap.size _ [] rfl (World.ownsRow_nil _ _ _ _) ad c A rfl EA4.out (by have := HLA.out; simp; omega) (Nat.le_refl _) ?_; intro v5 w5 ho5 b5; rw [List.nil_append] at ho5; obtain ⟨a5, c5, rfl⟩ := owns_form ho5; have O5 := Lib.hid ho5; have D5 := Lib.hid b5; clear ho5 b5)
          | ((with_reducible show wpList _ _ _ (⟨some 55, _, _, _, _, _⟩ :: _) _ _); refine wpList_append_e (by rfl) (.tmp 53) (.tmp 54) rfl w4.heap.size _ A rfl O5.out bd d B rfl (EB4.out.far D5.out (Nat.le_refl _)) (by have := HLA.out; have := HLB.out; omega) D5.out.size ?_; intro v6 w6 ho6 b6; obtain ⟨a6, c6, rfl⟩ := owns_form ho6; have O6 := Lib.hid ho6.ents; have D6 := Lib.hid (D5.out.trans b6); have B6 := Lib.hid (B4.out.trans ((D5.out.trans b6).mono B4.out.size)); clear ho6 b6 D5 O5)
          | (go_at_call 8; ((with_reducible refine (HCW.out _ _ _ (HE.out.below B6.out) O6.out).mono ?_); rintro e w7 ⟨rfl, b7⟩; have D7 := Lib.hid (D6.out.trans (b7.mono D6.out.size)); have B7 := Lib.hid (B6.out.trans (b7.mono B6.out.size)); clear b7 B6 D6 O6)))
        clear HCW
        have EA7 := Lib.hid (EA4.out.far D7.out (Nat.le_refl _))
        have EB7 := Lib.hid (EB4.out.far D7.out (Nat.le_refl _))
        have EN7 := Lib.hid (E9.out.far D7.out (Nat.le_refl _))
        clear EA4 EB4 E9 D7 B4
        have HSM : Hid (∀ (W : World) (x y : Option Addr) (cx cy : Nat), EntsAt W x (A ++ B) → EntsAt W y (A ++ B) → Calls Tryd.prog 10 #[.slice x (A.length + B.length) cx, .slice y (A.length + B.length) cy] W fun e w' => e = .returned (.bool true) ∧ Below W.heap.size W w') := Lib.hid fun W x y cx cy h1 h2 => by
          have := same_any (A ++ B) (A ++ B) x y cx cy W h1 h2 (by have := HL.out; unfold maxLen; omega)
          rwa [decide_eq_true rfl, List.length_append] at this
        have bq : ((SA.extract 0 M ++ SB).toList == (SA.extract 0 M ++ SB).toList) = true := beq_self_eq_true _
        go_wp2_with (first
          | ((with_reducible show wpList _ _ _ (⟨some 79, _, _, _, _, _⟩ :: _) _ _); refine wpList_append_e (by rfl) (.const (.slice none 0 0)) (.tmp 78) rfl w7.heap.size _ [] rfl (World.ownsRow_nil _ _ _ _) ad c A rfl EA7.out (by have := HLA.out; simp; omega) (Nat.le_refl _) ?_; intro v5 w8 ho5 b5; rw [List.nil_append] at ho5; obtain ⟨a5, c5, rfl⟩ := owns_form ho5; have O5 := Lib.hid ho5; have D5 := Lib.hid b5; clear ho5 b5)
          | ((with_reducible show wpList _ _ _ (⟨some 81, _, _, _, _, _⟩ :: _) _ _); refine wpList_append_e (by rfl) (.tmp 79) (.tmp 80) rfl w7.heap.size _ A rfl O5.out bd d B rfl (EB7.out.far D5.out (Nat.le_refl _)) (by have := HLA.out; have := HLB.out; omega) D5.out.size ?_; intro v6 w9 ho6 b6; obtain ⟨a6, c6, rfl⟩ := owns_form ho6; have O6 := Lib.hid ho6.ents; have D6 := Lib.hid (D5.out.trans b6); have B6 := Lib.hid (B7.out.trans ((D5.out.trans b6).mono B7.out.size)); clear ho6 b6 D5 O5)
          | (go_at_call 10; ((with_reducible refine (HSM.out _ _ _ _ _ (EN7.out.far D6.out (Nat.le_refl _)) O6.out).mono ?_); rintro e w10 ⟨rfl, b10⟩; have B10 := Lib.hid (B6.out.trans (b10.mono B6.out.size)); clear b10))
          | (go_at_call 7; ((with_reducible refine (packed_any _ (HE.out.below B10.out)).mono ?_); rintro e w11 ⟨rfl, b11⟩; have B11 := Lib.hid (B10.out.trans (b11.mono B10.out.size)); clear b11)))
        go_ret
        exact ⟨rfl, B11.out⟩
end Go.Proofs.YtdckfbppgenjkaaDoor
