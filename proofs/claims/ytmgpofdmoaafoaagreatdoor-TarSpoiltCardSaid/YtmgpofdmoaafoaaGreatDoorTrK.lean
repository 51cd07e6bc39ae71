/- Layer 15: the program's mayBe, record, recordIfLong. -/
import Derived.Test.YtmgpofdmoaafoaaGreatDoorTrJ
import Derived.Lib.ItoaLen
namespace Go.Proofs.YtmgpofdmoaafoaaGreatDoor
open Go.RowKit

theorem tab_glob : Tryz.prog.globalNamed "internal/strconv.uint64pow10" = some 3 := by kernel_rfl
/-- What the start-up laid: the table of tens. -/
structure EnvT (w : World) : Prop where
  tab : Lib.TabIs Tryz.prog w "internal/strconv.uint64pow10" .u64 Lib.pow10Tab
  big : 6 ≤ w.heap.size
theorem var_same {w w' : World} {n : String} {g : Nat} (hg : Tryz.prog.globalNamed n = some g) (hlt : g < 6) (h : ∀ k, k < 6 → w'.heap[k]? = w.heap[k]?) : w'.var? Tryz.prog n = w.var? Tryz.prog n := by
  unfold World.var?
  rw [hg]
  have := h g hlt
  simp [this]
theorem EnvT.same {w w' : World} (e : EnvT w) (h : ∀ k, k < 6 → w'.heap[k]? = w.heap[k]?) (hs : w.heap.size ≤ w'.heap.size) : EnvT w' := by
  refine ⟨?_, by have := e.big; omega⟩
  have := e.tab
  unfold Lib.TabIs at this ⊢
  rw [var_same tab_glob (by decide) h, this]
theorem EnvT.chg {s : Nat → Prop} {w w' : World} (e : EnvT w) (h : Chg s w w') (hs : ∀ k, k < 6 → ¬ s k) : EnvT w' :=
  e.same (fun k hk => h.block k (Nat.lt_of_lt_of_le hk e.big) (hs k hk)) h.size
theorem EnvT.far {B : Nat} {w w' : World} (e : EnvT w) (h : Below B w w') (hB : 6 ≤ B) : EnvT w' := e.same (fun k hk => h.block k (by omega)) h.size
theorem EnvT.below {w w' : World} (e : EnvT w) (h : Below w.heap.size w w') : EnvT w' := e.far h e.big
theorem below_grow (w : World) (k : Nat) (os : Array Obj) : Below w.heap.size w (Sort.grow (w.drewN k) os) := by
  refine ⟨rfl, rfl, rfl, ?_, fun q hq => ?_⟩
  · show w.heap.size ≤ (w.heap ++ os).size
    rw [Array.size_append]
    omega
  · show (w.heap ++ os)[q]? = w.heap[q]?
    exact Array.getElem?_append_left hq
theorem dec_three {n : Nat} (h1 : 100 ≤ n) (h2 : n ≤ 999) : Lib.decDigits n = dec3 n := by
  rw [Lib.decDigits, dif_neg (by omega), Lib.decDigits, dif_neg (by omega), Lib.decDigits, dif_pos (by omega)]
  unfold dec3
  rw [show n / 10 / 10 = n / 100 by omega]
  rfl
theorem itoa_three {n : Nat} (h1 : 100 ≤ n) (h2 : n ≤ 999) : Lib.itoa (n : Int) = dec3 n := by
  unfold Lib.itoa
  rw [if_neg (by omega), Int.toNat_natCast, dec_three h1 h2]
theorem itoa_call {n : Nat} (h1 : 100 ≤ n) (h2 : n ≤ 999) (w : World) (hE : EnvT w) :
    Calls Tryz.prog 85 #[.int .i64 (n : Int)] w fun e w' => e = .returned (.string (str (dec3 n))) ∧ Below w.heap.size w w' := by
  refine (Tryz.strconv_Itoa (n : Int) (by omega) (by omega) w hE.tab).mono fun e w' ⟨he, k, os, hw⟩ => ⟨?_, by rw [hw]; exact below_grow _ _ _⟩
  rw [he, itoa_three h1 h2]
  rfl
set_option maxRecDepth 100000 in
set_option maxHeartbeats 4000000 in
theorem record_any (k v : Bs) (h1 : 100 ≤ (lineL k v).length) (h2 : (lineL k v).length ≤ 996) (w : World) (hE : EnvT w) :
    Calls Tryz.prog 67 #[.string (str k), .string (str v)] w fun e w' => e = .returned (.string (str (recW k v))) ∧ Below w.heap.size w w' := by
  have hl := lineL_len k v
  have p1 : (⟨#[32]⟩ : ByteArray) ++ str k = str ([32] ++ k) := by rw [← str_append]; rfl
  have p2 : str ([32] ++ k) ++ (⟨#[61]⟩ : ByteArray) = str ([32] ++ k ++ [61]) := by rw [← str_append ([32] ++ k)]; rfl
  have p3 : str ([32] ++ k ++ [61]) ++ str v = str ([32] ++ k ++ [61] ++ v) := by rw [← str_append ([32] ++ k ++ [61])]
  have p4 : str ([32] ++ k ++ [61] ++ v) ++ (⟨#[10]⟩ : ByteArray) = str (lineL k v) := by unfold lineL; rw [← str_append ([32] ++ k ++ [61] ++ v)]; rfl
  have z0 : (⟨#[32]⟩ : ByteArray).size = 1 := rfl
  have z3 : (⟨#[61]⟩ : ByteArray).size = 1 := rfl
  have z4 : (⟨#[10]⟩ : ByteArray).size = 1 := rfl
  have z1 : (str k).size = k.length := str_size k
  have z2 : (str v).size = v.length := str_size v
  have s1 : ((⟨#[32]⟩ : ByteArray) ++ str k).size = k.length + 1 := by rw [p1, str_size, List.length_append]; simp +arith
  have s2 : (str ([32] ++ k) ++ (⟨#[61]⟩ : ByteArray)).size = k.length + 2 := by rw [p2, str_size]; simp +arith
  have s2a : (str ([32] ++ k)).size = k.length + 1 := by rw [str_size]; simp +arith
  have s3a : (str ([32] ++ k ++ [61])).size = k.length + 2 := by rw [str_size]; simp +arith
  have s4a : (str ([32] ++ k ++ [61] ++ v)).size = k.length + v.length + 2 := by rw [str_size]; simp +arith
  have zl : (str (lineL k v)).size = (lineL k v).length := str_size _
  have HRW : Hid (str (dec3 ((lineL k v).length + 3)) ++ str (lineL k v) = str (recW k v)) := Lib.hid (str_append _ _)
  have HI1 : Hid (∀ w, EnvT w → Calls Tryz.prog 85 #[.int .i64 ((lineL k v).length : Int)] w fun e w' => e = .returned (.string (str (dec3 (lineL k v).length))) ∧ Below w.heap.size w w') := Lib.hid fun w hE => itoa_call h1 (by omega) w hE
  have HI2 : Hid (∀ w, EnvT w → Calls Tryz.prog 85 #[.int .i64 (((lineL k v).length : Int) + 3)] w fun e w' => e = .returned (.string (str (dec3 ((lineL k v).length + 3)))) ∧ Below w.heap.size w w') := Lib.hid fun w hE => by
    have := itoa_call (n := (lineL k v).length + 3) (by omega) (by omega) w hE
    push_cast at this
    exact this
  have q1 : (str (dec3 (lineL k v).length)).size = 3 := rfl
  have q2 : (str (dec3 ((lineL k v).length + 3))).size = 3 := rfl
  have HE := Lib.hid hE
  have hkl : k.length ≤ 996 ∧ v.length ≤ 996 := by omega
  obtain ⟨b1, b2⟩ := hkl
  generalize str (recW k v) = R at *
  generalize str (lineL k v) = L at *
  obtain ⟨N, hN⟩ : ∃ N, N = (lineL k v).length := ⟨_, rfl⟩
  rw [← hN] at h1 h2 zl HRW HI1 HI2 q1 q2 hl
  clear hN hE hl
  generalize str (dec3 N) = D1 at *
  generalize str (dec3 (N + 3)) = D2 at *
  generalize str ([32] ++ k ++ [61] ++ v) = T4 at *
  generalize str ([32] ++ k ++ [61]) = T3 at *
  generalize str ([32] ++ k) = T2 at *
  generalize str k = K at *
  generalize str v = V at *
  have hbb := Below.refl w.heap.size w
  go_enter Tryz.func67, Tryz.ntmps67
  go_wp2_with (go_at_call 85; (first | (with_reducible refine (HI1.out _ HE.out).mono ?_) | (with_reducible refine (HI2.out _ HE.out).mono ?_)); rintro e w1 ⟨rfl, hB⟩; have HE := Lib.hid (HE.out.below hB); have hbb := hbb.trans (hB.mono hbb.size); clear hB)
  go_ret
  exact ⟨by rw [← HRW.out]; rfl, hbb⟩
set_option maxRecDepth 100000 in
set_option maxHeartbeats 4000000 in
theorem long_any (k v : Bs) (hk : k.length ≤ 100) (hv : v.length ≤ 200) (w : World) (hE : EnvT w) :
    Calls Tryz.prog 48 #[.string (str k), .string (str v)] w fun e w' => e = .returned (.string (str (longR k v))) ∧ Below w.heap.size w w' := by
  have HL : Hid (longR k v = if 100 < v.length then recW k v else []) := Lib.hid rfl
  have hz := str_size v
  by_cases h : 100 < v.length
  · have HR := Lib.hid (HL.out.trans (if_pos h))
    have hl := lineL_len k v
    have C := record_any k v (by omega) (by omega) w hE
    have g : ¬ ((str v).size : Int) ≤ 100 := by rw [hz]; omega
    clear HL h hl hz hv hk
    generalize str v = V at *
    generalize str k = K at *
    go_enter Tryz.func48, Tryz.ntmps48
    go_wp2_with (go_at_call 67; ((with_reducible refine C.mono ?_); rintro e w1 ⟨rfl, hB⟩))
    go_ret
    exact ⟨by rw [HR.out]; rfl, hB⟩
  · have HR := Lib.hid (HL.out.trans (if_neg h))
    have g : ((str v).size : Int) ≤ 100 := by rw [hz]; omega
    clear HL h hz hv
    generalize str v = V at *
    go_enter Tryz.func48, Tryz.ntmps48
    go_wp2
    go_ret
    exact ⟨by rw [HR.out]; rfl, Below.refl _ _⟩
set_option maxRecDepth 100000 in
set_option maxHeartbeats 8000000 in
theorem may_any (x : Ent) (w : World) :
    Calls Tryz.prog 28 #[.agg #[.int .i64 x.kind, .string (str x.name), .string (str x.to), .int .i64 x.mode, .string (str x.data)]] w fun e w' => e = .returned (.bool (mayE x)) ∧ Below w.heap.size w w' := by
  have CN := fun w => check_any x.name w
  have CT := fun w => check_any x.to w
  have CK := fun w => link_any x.kind w
  have qd := eq_lit x.data []
  have qt := eq_lit x.to []
  have qd2 := empty_lit x.data
  have qt2 := empty_lit x.to
  have HB := Lib.hid ((Below.refl w.heap.size w).alloc (Nat.le_refl _) (.cells #[.int .i64 x.kind, .string (str x.name), .string (str x.to), .int .i64 x.mode, .string (str x.data)] 39))
  have HM : Hid (mayE x = (decide (1 ≤ x.kind) && decide (x.kind ≤ 4) && decide (0 ≤ x.mode) && decide (x.mode ≤ 4095) && decide (textE x.name = 0) && (decide (x.data = []) || decide (x.kind = 1)) && (if isLinkK x.kind then decide (textE x.to = 0) else decide (x.to = [])))) := Lib.hid rfl
  have qn0 : (((textE x.name : Nat) : Int) == 0) = decide (textE x.name = 0) := by rw [Bool.eq_iff_iff, beq_iff_eq, decide_eq_true_eq]; omega
  have qt0 : (((textE x.to : Nat) : Int) == 0) = decide (textE x.to = 0) := by rw [Bool.eq_iff_iff, beq_iff_eq, decide_eq_true_eq]; omega
  have qk1 : (x.kind == 1) = decide (x.kind = 1) := rfl
  generalize textE x.name = cn at *
  generalize textE x.to = ct at *
  generalize isLinkK x.kind = lk at *
  generalize hk : x.kind = k at *
  generalize hm : x.mode = m at *
  generalize str x.name = NM at *
  generalize str x.to = TO at *
  generalize str x.data = DT at *
  clear hk hm
  by_cases h1 : k < 1
  · have HR : Hid (mayE x = false) := Lib.hid (by rw [HM.out, decide_eq_false (show ¬ 1 ≤ k by omega)]; rfl)
    clear HM
    go_enter Tryz.func28, Tryz.ntmps28
    go_wp2
    go_ret
    exact ⟨by rw [HR.out]; rfl, HB.out⟩
  · by_cases h2 : 4 < k
    · have HR : Hid (mayE x = false) := Lib.hid (by rw [HM.out, decide_eq_false (show ¬ k ≤ 4 by omega)]; simp)
      clear HM
      go_enter Tryz.func28, Tryz.ntmps28
      go_wp2
      go_ret
      exact ⟨by rw [HR.out]; rfl, HB.out⟩
    · by_cases h3 : m < 0
      · have HR : Hid (mayE x = false) := Lib.hid (by rw [HM.out, decide_eq_false (show ¬ 0 ≤ m by omega)]; simp)
        clear HM
        go_enter Tryz.func28, Tryz.ntmps28
        go_wp2
        go_ret
        exact ⟨by rw [HR.out]; rfl, HB.out⟩
      · by_cases h4 : 4095 < m
        · have HR : Hid (mayE x = false) := Lib.hid (by rw [HM.out, decide_eq_false (show ¬ m ≤ 4095 by omega)]; simp)
          clear HM
          go_enter Tryz.func28, Tryz.ntmps28
          go_wp2
          go_ret
          exact ⟨by rw [HR.out]; rfl, HB.out⟩
        · have HM2 : Hid (mayE x = (decide (cn = 0) && (decide (x.data = []) || decide (k = 1)) && (if lk then decide (ct = 0) else decide (x.to = [])))) := Lib.hid (by
            rw [HM.out, decide_eq_true (show 1 ≤ k by omega), decide_eq_true (show k ≤ 4 by omega), decide_eq_true (show 0 ≤ m by omega), decide_eq_true (show m ≤ 4095 by omega)]; rfl)
          clear HM
          generalize decide (x.data = []) = bd at *
          generalize decide (x.to = []) = bt at *
          generalize hbn : decide (cn = 0) = bn at *
          generalize hbt : decide (ct = 0) = bz at *
          generalize hb1 : decide (k = 1) = b1 at *
          cases bn with
          | false =>
            have hne : ¬ cn = 0 := of_decide_eq_false hbn
            have HR : Hid (mayE x = false) := Lib.hid (by rw [HM2.out]; rfl)
            clear hbn hbt hb1
            clear HM2
            go_enter Tryz.func28, Tryz.ntmps28
            go_wp2_with (first
              | (go_at_call 46; (first | (with_reducible refine (CN _).mono ?_) | (with_reducible refine (CT _).mono ?_)); rintro e w1 ⟨rfl, rfl⟩)
              | (go_at_call 47; ((with_reducible refine (CK _).mono ?_); rintro e w2 ⟨rfl, rfl⟩)))
            go_ret
            exact ⟨by rw [HR.out]; rfl, HB.out⟩
          | true =>
            obtain rfl : cn = 0 := of_decide_eq_true hbn
            clear hbn
            cases bd with
            | false =>
              cases b1 with
              | false =>
                have hne : ¬ k = 1 := of_decide_eq_false hb1
                have HR : Hid (mayE x = false) := Lib.hid (by rw [HM2.out]; rfl)
                clear hb1 hbt
                clear HM2
                go_enter Tryz.func28, Tryz.ntmps28
                go_wp2_with (first
                  | (go_at_call 46; (first | (with_reducible refine (CN _).mono ?_) | (with_reducible refine (CT _).mono ?_)); rintro e w1 ⟨rfl, rfl⟩)
                  | (go_at_call 47; ((with_reducible refine (CK _).mono ?_); rintro e w2 ⟨rfl, rfl⟩)))
                go_ret
                exact ⟨by rw [HR.out]; rfl, HB.out⟩
              | true =>
                obtain rfl : k = 1 := of_decide_eq_true hb1
                clear hb1
                cases lk with
                | false =>
                  have HR : Hid (mayE x = bt) := Lib.hid (by rw [HM2.out]; rfl)
                  clear hbt
                  clear HM2
                  go_enter Tryz.func28, Tryz.ntmps28
                  go_wp2_with (first
                    | (go_at_call 46; (first | (with_reducible refine (CN _).mono ?_) | (with_reducible refine (CT _).mono ?_)); rintro e w1 ⟨rfl, rfl⟩)
                    | (go_at_call 47; ((with_reducible refine (CK _).mono ?_); rintro e w2 ⟨rfl, rfl⟩)))
                  go_ret
                  exact ⟨by rw [HR.out]; rfl, HB.out⟩
                | true =>
                  have HR : Hid (mayE x = bz) := Lib.hid (by rw [HM2.out]; rfl)
                  clear hbt
                  clear HM2
                  go_enter Tryz.func28, Tryz.ntmps28
                  go_wp2_with (first
                    | (go_at_call 46; (first | (with_reducible refine (CN _).mono ?_) | (with_reducible refine (CT _).mono ?_)); rintro e w1 ⟨rfl, rfl⟩)
                    | (go_at_call 47; ((with_reducible refine (CK _).mono ?_); rintro e w2 ⟨rfl, rfl⟩)))
                  go_ret
                  exact ⟨by rw [HR.out]; rfl, HB.out⟩
            | true =>
              cases lk with
              | false =>
                have HR : Hid (mayE x = bt) := Lib.hid (by rw [HM2.out]; rfl)
                clear hb1 hbt
                clear HM2
                go_enter Tryz.func28, Tryz.ntmps28
                go_wp2_with (first
                  | (go_at_call 46; (first | (with_reducible refine (CN _).mono ?_) | (with_reducible refine (CT _).mono ?_)); rintro e w1 ⟨rfl, rfl⟩)
                  | (go_at_call 47; ((with_reducible refine (CK _).mono ?_); rintro e w2 ⟨rfl, rfl⟩)))
                go_ret
                exact ⟨by rw [HR.out]; rfl, HB.out⟩
              | true =>
                have HR : Hid (mayE x = bz) := Lib.hid (by rw [HM2.out]; rfl)
                clear hb1 hbt
                clear HM2
                go_enter Tryz.func28, Tryz.ntmps28
                go_wp2_with (first
                  | (go_at_call 46; (first | (with_reducible refine (CN _).mono ?_) | (with_reducible refine (CT _).mono ?_)); rintro e w1 ⟨rfl, rfl⟩)
                  | (go_at_call 47; ((with_reducible refine (CK _).mono ?_); rintro e w2 ⟨rfl, rfl⟩)))
                go_ret
                exact ⟨by rw [HR.out]; rfl, HB.out⟩
end Go.Proofs.YtmgpofdmoaafoaaGreatDoor
