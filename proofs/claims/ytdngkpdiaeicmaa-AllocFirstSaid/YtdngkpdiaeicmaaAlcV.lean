/- Layer 8: the walk of AllocApart. -/
import Derived.Test.YtdngkpdiaeicmaaAlcU
namespace Go.Proofs.Ytdngkpdiaeicmaa
open Go.RowKit

theorem takeL_in {L : List Bool} {n : Int} {l : List (Nat × Nat)} {b : Bool} {M : List Bool} (ht : takeL L n = (l, b, M)) : ∀ y ∈ l, y.1 + y.2 ≤ L.length := by
  unfold takeL at ht
  split at ht
  · simp only [Prod.mk.injEq] at ht
    rw [← ht.1]; simp
  · split at ht
    · simp only [Prod.mk.injEq] at ht
      rw [← ht.1]; simp
    · simp only [Prod.mk.injEq] at ht
      rw [← ht.1]
      exact fun y hy => exts_in hy
theorem ap_bytesB {I : Impl} {W w : World} {q gU capU n : Nat} {L U : List Bool} {xs : List (Value × List (Nat × Nat))} (h : ApI I W w q gU capU n L U xs) : Calls Try.prog 21 #[.pointer (some ⟨q, 0, none⟩)] w fun e w' => e = .returned (.string (str (packL L))) ∧ Below w.heap.size w w' := by
  obtain ⟨o, h0⟩ := h
  exact I.bytes h0.i
theorem own_usedB {I : Impl} {W w : World} {q : Nat} {L : List Bool} (h : I.Own W w q L) : Calls Try.prog 18 #[.pointer (some ⟨q, 0, none⟩)] w fun e w' => e = .returned (.int .i64 (usedL L : Int)) ∧ Below w.heap.size w w' := by
  obtain ⟨o, h1, _, _⟩ := h
  exact I.used h1
/-- What stands at the head of the loop. -/
def ApR (I : Impl) (W w : World) (q gU capU n : Nat) : Prop := ∃ L, ApI I W w q gU capU n L L [] ∧ L.length = n
set_option maxRecDepth 100000 in
set_option maxHeartbeats 8000000 in
theorem apart_in (I : Impl) (x : Int) (n : Nat) (bk : Int) {v : Value} {zs : List UInt8} (w : World) (hx : 0 ≤ x ∧ x ≤ 255) (hbk : 0 ≤ bk ∧ bk ≤ 18446744073709551615) (hz : BytesAt w v zs) (h1 : 1 + x % 200 = (n : Int)) :
    Calls Try.prog 6 #[.int .u8 x, v, .int .u64 bk] w fun e w' => e = .returned (.bool true) ∧ Below w.heap.size w w' := by
  obtain ⟨az, capz, rfl⟩ := bytes_form hz
  have hzl := bytes_le hz
  unfold maxLen at hzl
  have CU := Lib.hid (fun w' => took_any I w')
  have HZ := Lib.hid hz
  obtain ⟨N, hN⟩ : ∃ N, N = zs.length := ⟨_, rfl⟩
  rw [← hN] at hzl HZ ⊢
  have HN := Lib.hid hN
  clear hz hN
  have b1 : 1 ≤ n := by omega
  have b2 : n ≤ 200 := by omega
  obtain ⟨hx1, hx2⟩ := hx
  by_cases hg : 64 < N
  · have g1 : (64 : Int) < (N : Int) := by omega
    clear hg
    have hbk2 := Lib.hid hbk
    clear hbk
    go_enter Try.func6, Try.ntmps6
    go_wp2_with (go_at_call 9; ((with_reducible refine (CU.out _).mono ?_); rintro e w9 ⟨rfl, b9⟩))
    go_ret
    exact ⟨rfl, b9⟩
  have g1 : (N : Int) ≤ 64 := by omega
  have g2 : (1 : Int) ≤ (n : Int) := by omega
  have g3 : (n : Int) ≤ 200 := by omega
  have CN := Lib.hid (I.new n w (by omega) (by omega))
  obtain ⟨i0, hi, hz0, hz1, hz2⟩ := info_parts info_bool
  have HBK := Lib.hid hbk
  clear hbk
  go_enter Try.func6, Try.ntmps6
  go_wp2_with (first
    | (go_at_call 10; ((with_reducible refine (CN.out).mono ?_); rintro e w1 ⟨q, o, rfl, hI, hb, ho⟩); have m1 := Lib.hid (show I.Own w w1 q (List.replicate n false) from ⟨o, hI, hb, ho⟩); clear hI hb ho CN)
    | (at_make; refine wpList_make_full _ rfl _ _ 55 rfl w1.heap.size 4 i0 (.bool false) 1 Try.underlying55 hi hz0 hz1 .i64 .i64 _ _ n rfl rfl rfl rfl (by rw [hz2]; omega) (by unfold maxLen; omega) (Nat.le_refl _) ?_; intro w2 hown2 hgrow2; have b2 : Below w1.heap.size w1 w2 := (Below.refl _ _).grown hgrow2 (Nat.le_refl _) (fun j hj => by cases hj); rw [show (madeCells (Value.bool false).cells (n * 1)).toList = (List.replicate n false).map Value.bool by rw [List.map_replicate, Nat.mul_one]; exact toList_madeCells_one _ _] at hown2; have M2 := Lib.hid (show ApR I w w2 q w1.heap.size n n from ⟨_, ap_start m1.out b2 hown2 List.length_replicate, List.length_replicate⟩); clear hown2 hgrow2 b2 m1))
  generalize w1.heap.size = gU at *
  go_loopw [11] (fun i wr => ∃ k : Nat, k ≤ N ∧ i = .int .i64 k ∧ Hid (ApR I w wr q gU n n)) (fun i _ => N - (intOf i).toNat)
  case atStart => exact ⟨0, Nat.zero_le _, rfl, M2⟩
  case round =>
    obtain ⟨k, hk, rfl, hm⟩ := hrel
    clear M2
    obtain ⟨L, hA, hL⟩ := hm.out
    clear hm
    have M2 := Lib.hid hA
    have HL := Lib.hid hL
    clear hA hL
    by_cases hlt : k < N
    · obtain ⟨ad, z, rfl, hz256, hzc⟩ := bytes_at HZ.out (k := k) (by rw [← HN.out]; exact hlt)
      have c0 := hzc _ M2.out.size
      clear hzc
      have g4 : (k : Int) < (N : Int) := by omega
      have g5 : (0 : Int) ≤ (k : Int) := by omega
      have g6 : (z : Int) ≤ 255 := by omega
      obtain ⟨many, hmany⟩ : ∃ many : Nat, 1 + (z : Int) % 24 = (many : Int) := ⟨1 + z % 24, by omega⟩
      have hm1 : 1 ≤ many := by omega
      have hm2 : many ≤ 24 := by omega
      have HI := Lib.hid (show isI (many : Int) from small_I ⟨by omega, by omega⟩)
      obtain ⟨lt, bo, M, htk⟩ : ∃ lt bo M, takeL L many = (lt, bo, M) := ⟨_, _, _, rfl⟩
      have HTK := Lib.hid htk
      have hml := takeL_length L many
      rw [htk] at hml
      have HML := Lib.hid (show M.length = n from Eq.trans hml HL.out)
      clear htk hml
      obtain ⟨Z, hZ⟩ : ∃ Z, Z = lt.length := ⟨_, rfl⟩
      have HZZ := Lib.hid hZ
      clear hZ
      cases bo
      · obtain ⟨hl0, hM0⟩ := take_no HTK.out
        have HM0 := Lib.hid hM0
        subst hl0
        clear hM0
        go_wp2_with (first
          | (go_at_call 21; ((with_reducible refine (ap_bytes M2.out).mono ?_); rintro e w3 ⟨rfl, m3⟩); have M3 := Lib.hid m3; clear m3 M2 c0)
          | (go_at_call 18; ((with_reducible refine (ap_used M3.out).mono ?_); rintro e w4 ⟨rfl, m4⟩); have M4 := Lib.hid m4; clear m4 M3)
          | (go_at_call 15; ((with_reducible refine (ap_take M4.out _ HI.out HTK.out).mono ?_); rintro e w5 ⟨a5, cap5, rfl, m5⟩); rw [HM0.out] at m5; have M5 := Lib.hid m5; clear m5 M4)
          | (go_at_call 21; ((with_reducible refine (ap_bytes M5.out).mono ?_); rintro e w6 ⟨rfl, m6⟩); have M6 := Lib.hid m6; clear m6 M5))
        go_roundw
        case rel => exact ⟨k + 1, by omega, by go_num, Lib.hid ⟨L, M6.out.none, HL.out⟩⟩
        case measure => simp [intOf]; omega
      · obtain ⟨tA, tS, t8, tN, tM, tU, tG, tB⟩ := take_yes hm1 HTK.out
        have TM := Lib.hid tM
        have TG := Lib.hid (show giveR M (toI lt) = (true, L) from tG)
        have TB := Lib.hid (show giveR L (toI lt) = (false, L) from tB)
        have TU := Lib.hid (show (usedL M : Int) = (usedL L : Int) + (many : Int) by omega)
        have TA := Lib.hid tA
        have TS := Lib.hid tS
        have hZ8 : Z ≤ 8 := by rw [HZZ.out]; exact t8
        have hus := usedL_le L
        rw [HL.out] at hus
        clear tA tS t8 tN tM tU tG tB
        go_wp2_with (first
          | (go_at_call 21; ((with_reducible refine (ap_bytes M2.out).mono ?_); rintro e w3 ⟨rfl, m3⟩); have M3 := Lib.hid m3; clear m3 M2 c0)
          | (go_at_call 18; ((with_reducible refine (ap_used M3.out).mono ?_); rintro e w4 ⟨rfl, m4⟩); have M4 := Lib.hid m4; clear m4 M3)
          | (go_at_call 15; ((with_reducible refine (ap_take M4.out _ HI.out HTK.out).mono ?_); rintro e w5 ⟨a5, cap5, rfl, m5⟩); have M5 := Lib.hid m5; clear m5 M4))
        rw [← HZZ.out] at M5 ⊢
        go_loopw [17, 18, 19] (fun all en i wr => ∃ (kx al lo : Nat), kx ≤ Z ∧ all = .int .i64 al ∧ en = .int .i64 ((lo : Int) - 1) ∧ i = .int .i64 kx ∧ Hid (Apart L lo (lt.drop kx)) ∧ al + sumL (lt.drop kx) = many ∧ lo ≤ 201 ∧ Hid (ApI I w wr q gU n n M L [(.slice a5 Z cap5, lt)])) (fun _ _ i _ => Z - (intOf i).toNat)
        case atStart => exact ⟨0, 0, 0, Nat.zero_le _, rfl, rfl, rfl, TA, by rw [Nat.zero_add]; exact TS.out, by omega, M5⟩
        case round =>
          obtain ⟨kx, al, lo, hkx, rfl, rfl, rfl, hap, hsum, hlo, hm⟩ := hrel
          clear M5
          by_cases hkl : kx < Z
          · have hkl2 : kx < lt.length := by rw [← HZZ.out]; exact hkl
            obtain ⟨y, hy⟩ : ∃ y, y = lt.getD kx (0, 0) := ⟨_, rfl⟩
            have hdrop : lt.drop kx = y :: lt.drop (kx + 1) := by
              rw [List.drop_eq_getElem_cons hkl2, hy, List.getD_eq_getElem?_getD, List.getElem?_eq_getElem hkl2]; rfl
            rw [hdrop] at hap hsum
            obtain ⟨p1, p2, p3, p4, p5⟩ := hap.out
            obtain ⟨gE, rfl, e1, e2⟩ := hm.out.ext (a := a5) (m := Z) (cap := cap5) (l := lt) (by simp) hkl2
            rw [← hy] at e1 e2
            have HYE := Lib.hid hy
            obtain ⟨f, c⟩ := y
            replace p1 : lo ≤ f := p1
            replace p2 : 1 ≤ c := p2
            replace p3 : f + c ≤ n := by rw [← HL.out]; exact p3
            replace hsum : al + (c + sumL (lt.drop (kx + 1))) = many := hsum
            have P4 := Lib.hid (show ∀ j, j < c → L.getD (f + j) false = false from fun j hj => getD_some (p4 j hj))
            have P5 := Lib.hid (show Apart L (f + c + 1) (lt.drop (kx + 1)) from p5)
            clear p4 p5 hap hdrop hy hkl2
            have j1 : (kx : Int) < (Z : Int) := by omega
            have j0 : (0 : Int) ≤ (kx : Int) := by omega
            have d1 : decide ((c : Int) < 1) = false := decide_eq_false (by omega)
            have d2 : decide ((f : Int) ≤ (lo : Int) - 1) = false := decide_eq_false (by omega)
            have d3 : decide ((n : Int) < (f : Int) + (c : Int)) = false := decide_eq_false (by omega)
            have q1 : IntKind.i64.wrap ((f : Int) + (c : Int)) = (f : Int) + (c : Int) := IntWalk.i64_in _ (by omega)
            go_wp2_with fail
            go_quiet (fail)
            have M6 := Lib.hid (hm.out.below (below_drewN (Below.refl _ _) nq))
            have e1' : (wr.drewN nq).cell? ⟨gE, kx * 2, none⟩ = some (.int .i64 (f : Int)) := e1
            have e2' : (wr.drewN nq).cell? ⟨gE, kx * 2 + 1, none⟩ = some (.int .i64 (c : Int)) := e2
            clear e1 e2 hm q1 d1 d2 d3
            generalize wr.drewN nq = wq at *
            go_wp2
            go_loop [20] (fun i => ∃ j : Nat, j ≤ c ∧ i = .int .i64 j) (fun i => c - (intOf i).toNat)
            case atStart => exact ⟨0, Nat.zero_le _, rfl⟩
            case round =>
              obtain ⟨j, hj, rfl⟩ := hrel
              by_cases hjc : j < c
              · obtain ⟨u1, _⟩ := M6.out.at (j := f + j) (by omega)
                rw [P4.out j hjc] at u1
                have r1 : (j : Int) < (c : Int) := by omega
                have r2 : (0 : Int) ≤ (f : Int) + (j : Int) := by omega
                have r3 : (f : Int) + (j : Int) < (n : Int) := by omega
                have r4 : ((f : Int) + (j : Int)).toNat = f + j := by omega
                go_wp2
                go_round
                case rel => exact ⟨j + 1, by omega, by go_num⟩
                case measure => simp [intOf]; omega
              · obtain rfl : j = c := by omega
                have q1 : IntKind.i64.wrap ((f : Int) + (j : Int)) = (f : Int) + (j : Int) := IntWalk.i64_in _ (by omega)
                have q2 : IntKind.i64.wrap ((al : Int) + (j : Int)) = (al : Int) + (j : Int) := IntWalk.i64_in _ (by omega)
                go_wp2_with fail
                go_quiet (fail)
                have M7 := Lib.hid (M6.out.below (below_drewN (Below.refl _ _) nq))
                clear e1' e2' M6 q1 q2
                generalize wq.drewN nq = wz at *
                go_wp2
                go_roundw
                case rel => exact ⟨kx + 1, al + j, f + j + 1, by omega, by go_num, by go_num, by go_num, P5, by omega, by omega, M7⟩
                case measure => simp [intOf]; omega
          · obtain rfl : Z = kx := by omega
            have hd : lt.drop Z = [] := List.drop_eq_nil_of_le (by rw [HZZ.out]; exact Nat.le_refl _)
            rw [hd] at hsum
            obtain rfl : al = many := by simp only [sumL] at hsum; omega
            have CU1 := ap_used hm.out
            rw [TU.out] at CU1
            have CU2 := Lib.hid CU1
            clear CU1 hd hap hsum
            have j1 : (Z : Int) ≤ 8 := by omega
            obtain ⟨k1, k2⟩ := HBK.out
            obtain ⟨hsm, _⟩ := takeL_small (L := L) (by have := HL.out; omega) HTK.out
            have HSM := Lib.hid hsm
            have HZ8 := Lib.hid (show lt.length ≤ 8 by rw [← HZZ.out]; exact hZ8)
            clear hsm
            go_wp2_with (first
              | (go_at_call 18; ((with_reducible refine (CU2.out).mono ?_); rintro e w7 ⟨rfl, m7⟩); have M7 := Lib.hid m7; clear m7 CU2 hm)
              | (go_at_call 12; ((with_reducible refine (ap_give M7.out (x := .slice a5 Z cap5) (l := lt) (by simp) HSM.out HZ8.out TG.out).mono ?_); rintro e w8 ⟨rfl, m8⟩); have M8 := Lib.hid m8; clear m8 M7)
              | (go_at_call 21; ((with_reducible refine (ap_bytes M8.out).mono ?_); rintro e w9 ⟨rfl, m9⟩); have M9 := Lib.hid m9; clear m9 M8)
              | (go_at_call 12; ((with_reducible refine (ap_give M9.out (x := .slice a5 Z cap5) (l := lt) (by simp) HSM.out HZ8.out TB.out).mono ?_); rintro e w10 ⟨rfl, m10⟩); have M10 := Lib.hid m10; clear m10 M9))
            · go_roundw
              case rel => exact ⟨k + 1, by omega, by go_num, Lib.hid ⟨L, M10.out.none, HL.out⟩⟩
              case measure => simp [intOf]; omega
            · go_loopw [21] (fun i wx => ∃ a : Nat, a ≤ Z ∧ i = .int .i64 a ∧ Hid (ApI I w wx q gU n n M (markL L (lt.take a) true) [(.slice a5 Z cap5, lt)])) (fun i _ => Z - (intOf i).toNat)
              case atStart => exact ⟨0, Nat.zero_le _, rfl, Lib.hid M7.out⟩
              case round =>
                obtain ⟨a, ha, rfl, hm⟩ := hrel
                clear M7
                by_cases haz : a < Z
                · have hal : a < lt.length := by rw [← HZZ.out]; exact haz
                  obtain ⟨gE, rfl, e1, e2⟩ := hm.out.ext (a := a5) (m := Z) (cap := cap5) (l := lt) (by simp) hal
                  obtain ⟨y, hy⟩ : ∃ y, y = lt.getD a (0, 0) := ⟨_, rfl⟩
                  rw [← hy] at e1 e2
                  have hyin : y.1 + y.2 ≤ n := by
                    have hmem : y ∈ lt := by rw [hy, List.getD_eq_getElem?_getD, List.getElem?_eq_getElem hal]; exact List.getElem_mem _
                    have := (takeL_in HTK.out y hmem)
                    rw [HL.out] at this
                    exact this
                  have HMK := Lib.hid (show markL L (lt.take (a + 1)) true = markN (markL L (lt.take a) true) y.1 true y.2 by
                    rw [List.take_succ_eq_append_getElem hal, markL_snoc, hy, List.getD_eq_getElem?_getD, List.getElem?_eq_getElem hal]; rfl)
                  have HYE := Lib.hid hy
                  generalize markL L (lt.take a) true = U at *
                  obtain ⟨f, c⟩ := y
                  replace hyin : f + c ≤ n := hyin
                  have M8 := hm
                  have i1 : (a : Int) < (Z : Int) := by omega
                  have i0 : (0 : Int) ≤ (a : Int) := by omega
                  clear hm hy hal
                  go_wp2
                  clear e1 e2
                  go_loopw [22] (fun i wy => ∃ b : Nat, b ≤ c ∧ i = .int .i64 b ∧ Hid (ApI I w wy q gU n n M (markN U f true b) [(.slice (some ⟨gE, 0, none⟩) Z cap5, lt)])) (fun i _ => c - (intOf i).toNat)
                  case atStart => exact ⟨0, Nat.zero_le _, rfl, M8⟩
                  case round =>
                    obtain ⟨b, hb, rfl, hm⟩ := hrel
                    clear M8
                    obtain ⟨gE', hgE, e1, e2⟩ := hm.out.ext (a := some ⟨gE, 0, none⟩) (m := Z) (cap := cap5) (l := lt) (k := a) (by simp) (by rw [← HZZ.out]; exact haz)
                    simp only [Option.some.injEq, Addr.mk.injEq, and_true] at hgE
                    subst hgE
                    rw [← HYE.out] at e1 e2
                    by_cases hbc : b < c
                    · obtain ⟨u1, u2⟩ := hm.out.at (j := f + b) (by omega)
                      have M8 := Lib.hid (show ApI I w _ q gU n n M (markN U f true (b + 1)) [(.slice (some ⟨gE, 0, none⟩) Z cap5, lt)] from hm.out.set (f + b) true)
                      have r1 : (b : Int) < (c : Int) := by omega
                      have r2 : (0 : Int) ≤ (f : Int) + (b : Int) := by omega
                      have r3 : (f : Int) + (b : Int) < (n : Int) := by omega
                      have r4 : ((f : Int) + (b : Int)).toNat = f + b := by omega
                      clear hm
                      go_wp2
                      go_roundw
                      case rel => exact ⟨b + 1, by omega, by go_num, M8⟩
                      case measure => simp [intOf]; omega
                    · obtain rfl : b = c := by omega
                      go_wp2
                      go_roundw
                      case rel => exact ⟨a + 1, by omega, by go_num, by rw [HMK.out]; exact hm⟩
                      case measure => simp [intOf]; omega
                · obtain rfl : Z = a := by omega
                  have M8 := Lib.hid (show ApI I w _ q gU n n M M [] from by
                    have := hm.out.none
                    rw [HZZ.out, List.take_length, ← TM.out] at this
                    exact this)
                  clear hm
                  go_wp2
                  go_roundw
                  case rel => exact ⟨k + 1, by omega, by go_num, Lib.hid ⟨M, M8.out, HML.out⟩⟩
                  case measure => simp [intOf]; omega
    · obtain rfl : k = N := by omega
      go_wp2_with (first
        | (go_at_call 21; ((with_reducible refine (ap_bytes M2.out).mono ?_); rintro e w3 ⟨rfl, m3⟩); have M3 := Lib.hid m3; clear m3 M2)
        | (go_at_call 23; ((with_reducible refine (ap_of I HL.out (by omega) (by omega)).mono ?_); rintro e w4 ⟨q4, rfl, m4⟩); have M4 := Lib.hid m4; have M5 := Lib.hid (M3.out.below (own_b m4)); clear m4 M3)
        | (go_at_call 21; ((with_reducible refine (own_bytes M4.out).mono ?_); rintro e w5 ⟨rfl, b5⟩); have M6 := Lib.hid (M4.out.below b5); have M7 := Lib.hid (M5.out.below b5); clear b5 M4 M5)
        | (go_at_call 21; ((with_reducible refine (ap_bytesB M7.out).mono ?_); rintro e w6 ⟨rfl, b6⟩); have M8 := Lib.hid (M7.out.below b6); have M6' := Lib.hid (M6.out.below b6); clear b6 M7 M6)
        | (go_at_call 18; ((with_reducible refine (own_usedB M6'.out).mono ?_); rintro e w7 ⟨rfl, b7⟩); have M9 := Lib.hid (M8.out.below b7); clear b7 M8 M6')
        | (go_at_call 18; ((with_reducible refine (ap_used M9.out).mono ?_); rintro e w8 ⟨rfl, m8⟩); have M10 := Lib.hid m8; clear m8 M9)
        | (go_at_call 9; ((with_reducible refine (CU.out _).mono ?_); rintro e w9 ⟨rfl, b9⟩); have B9 := Lib.hid b9; clear b9))
      go_ret
      exact ⟨rfl, M10.out.size.trans (B9.out.mono M10.out.size.size)⟩
theorem apart_any (I : Impl) (x bk : Int) {v : Value} {zs : List UInt8} (w : World) (hx : 0 ≤ x ∧ x ≤ 255) (hbk : 0 ≤ bk ∧ bk ≤ 18446744073709551615) (hz : BytesAt w v zs) :
    Calls Try.prog 6 #[.int .u8 x, v, .int .u64 bk] w fun e w' => e = .returned (.bool true) ∧ Below w.heap.size w w' :=
  apart_in I x (1 + x % 200).toNat bk w hx hbk hz (by omega)
end Go.Proofs.Ytdngkpdiaeicmaa
