/- Merged: JtG, JtH, JtI. -/
import Derived.Test.YtnkencdibniagaaGreatDoorM10
/- Layer 11: words. -/
namespace Go.Proofs.YtnkencdibniagaaGreatDoor
open Go.RowKit

def zeroV4 : Array Value := #[.int .i64 0, .string ⟨#[]⟩, .slice none 0 0, .slice none 0 0]
def cells4 (k : Int) (t : ByteArray) : Array Value := #[.int .i64 k, .string t, .slice none 0 0, .slice none 0 0]
def row4 (k : Int) (t : ByteArray) (x1 : Option Addr) (n1 c1 : Nat) (x2 : Option Addr) (n2 c2 : Nat) : Array Value := #[.int .i64 k, .string t, .slice x1 n1 c1, .slice x2 n2 c2]
theorem row4_all (k : Int) (t : ByteArray) (x1 : Option Addr) (n1 c1 : Nat) (x2 : Option Addr) (n2 c2 : Nat) : (row4 k t x1 n1 c1 x2 n2 c2).all (·.oneCell') = true := all_oneCell_toArray (fun v hv => by
  rcases List.mem_cons.1 hv with rfl | hv
  · rfl
  rcases List.mem_cons.1 hv with rfl | hv
  · rfl
  rcases List.mem_cons.1 hv with rfl | hv
  · rfl
  rw [List.mem_singleton.1 hv]; rfl)
theorem cells4_all (k : Int) (t : ByteArray) : (cells4 k t).all (·.oneCell') = true := row4_all k t none 0 0 none 0 0
theorem zeroV4_all : zeroV4.all (·.oneCell') = true := cells4_all 0 ⟨#[]⟩
theorem info_V : (Tryz.prog.info? 63).map (·.size) = some 4 := by kernel_rfl
theorem zero_four : four (.agg zeroV4) := ⟨0, ⟨#[]⟩, none, 0, 0, none, 0, 0, rfl⟩
theorem saysV_bad {w w' : World} {q : Nat} {S r x : Bs} {lev code : Nat} {R : Res JV} {V : Value} (hR : R = .bad code x) (hV : four V) (h : badP w q S r w') : saysV w q S r lev R (.returned (.tuple #[V, errAt S code x])) w' := by
  rw [hR]; exact ⟨V, rfl, hV, h⟩
theorem saysV_ok {w w' : World} {q : Nat} {S r x : Bs} {lev : Nat} {R : Res JV} {V : Value} {v : JV} (hR : R = .ok v x) (hV : HoldsJ w' (fun k => w.heap.size ≤ k ∧ k < w'.heap.size) v V) (h : okP w q S x lev w') : saysV w q S r lev R (.returned (.tuple #[V, .nilIface])) w' := by
  rw [hR]; exact ⟨V, rfl, hV, h⟩
theorem word_ne (k : Nat) (hk : k < 3) : ∀ c ∈ wordOf (k : Int), c ≠ 0 := by
  have : k = 0 ∨ k = 1 ∨ k = 2 := by omega
  rcases this with rfl | rfl | rfl <;> decide
theorem word_len (k : Nat) : (wordOf (k : Int)).length ≤ 5 := by
  unfold wordOf
  split
  · decide
  split <;> decide
theorem word_step {W r : Bs} {j : Nat} (hj : j < W.length) : wordP (W.drop j) r = if hd r = W.getD j 0 then wordP (W.drop (j + 1)) r.tail else .bad 10 r := by
  rw [List.drop_eq_getElem_cons hj, wordP, List.getD_eq_getElem?_getD, List.getElem?_eq_getElem hj]
  rfl
set_option maxRecDepth 100000 in
set_option maxHeartbeats 2000000 in
theorem word_any {w : World} {q : Nat} {S r : Bs} {lev : Nat} (hS : okT S) (hE : Env w) (hq : 10 ≤ q) (h : RdAt w q S r lev) (k : Nat) (hk : k < 3) :
    Calls Tryz.prog 133 #[.pointer (some ⟨q, 0, none⟩), .int .i64 (k : Int)] w fun e w' => saysV w q S r lev (mkW (k : Int) (wordOf (k : Int)) r) e w' := by
  have hne := word_ne k hk
  have hlen := word_len k
  have hc0 := hE.words k hk
  obtain ⟨W, hW⟩ : ∃ W, W = wordOf (k : Int) := ⟨_, rfl⟩
  rw [← hW] at hne hlen hc0 ⊢
  have hqw := h.lt
  obtain ⟨W0, hW0⟩ : ∃ W0, W0 = w.alloc (.cells #[.int .i64 0, .string ⟨#[]⟩, .slice none 0 0, .slice none 0 0] 63) := ⟨_, rfl⟩
  have R0 : rowC W0 w.heap.size zeroV4 63 := by rw [hW0]; exact rowC_new w _ _
  have A0 : Chg (· = q) w W0 := by rw [hW0]; exact (Chg.refl _ w).alloc _
  have E0 : Env W0 := hE.q A0 hq
  have H0 : RdAt W0 q S r lev := by rw [hW0]; exact h.below ((Below.refl _ _).alloc (Nat.le_refl _) _)
  have c1 := E0.words k hk
  rw [← hW] at c1
  have HR0 := Lib.hid R0
  have HA0 := Lib.hid A0
  have HE0 := Lib.hid E0
  have HH0 := Lib.hid H0
  have HW := Lib.hid hW
  have HW0 := Lib.hid hW0
  have HI := Lib.hid info_V
  have hsz := str_size W
  clear hW hW0 R0 A0 E0 H0 hE h hc0
  have k0 : (k : Int) < 3 := by omega
  have HK3 := Lib.hid hk
  go_enter Tryz.func133, Tryz.ntmps133
  go_upto_region 1 with (fail)
  rw [← HW0.out]
  go_wp2
  go_loopg [11, 6] 6 (fun g t11 t6 wr => ∃ (j : Nat) (r' : Bs), t11 = .int .i64 (j : Int) ∧ j ≤ W.length ∧ Hid (g = 6 - j) ∧ RdAt wr q S r' lev ∧ Hid (wordP (W.drop j) r' = wordP W r) ∧ Hid (r' <:+ r) ∧ Chg (· = q) W0 wr)
  case atStart => exact ⟨0, r, rfl, Nat.zero_le _, Lib.hid rfl, HH0.out, Lib.hid rfl, Lib.hid (List.suffix_refl r), Chg.refl _ _⟩
  case round =>
    obtain ⟨j, r', rfl, hj, HG, h', HP, HS, hC⟩ := hrel
    have c1' := (HE0.out.q hC hq).words k HK3.out
    rw [← HW.out] at c1'
    have Rr := hC.rowC HR0.out (by omega)
    have HRr := Lib.hid Rr
    clear c1 Rr
    by_cases hlt : j < W.length
    · have hidx := idx_str (str W) j (j : Int) rfl (by rw [str_size]; exact hlt)
      rw [str_toList] at hidx
      have hst := word_step (r := r') hlt
      have hcn : W.getD j 0 ≠ 0 := hne _ (by rw [List.getD_eq_getElem?_getD, List.getElem?_eq_getElem hlt]; exact List.getElem_mem _)
      generalize W.getD j 0 = c at hidx hst hcn
      by_cases hc : hd r' = c
      · rw [if_pos hc] at hst
        have HQ := Lib.hid (hst.symm.trans HP.out)
        have T := take_T (q := q) (lev := lev) hS c _ rfl hcn hc
        clear hst hc hcn
        go_wp2_with (go_at_call 138; ((with_reducible refine (T _ (by assumption)).mono ?_); rintro e w1 ⟨rfl, h1, c2⟩))
        go_roundg (6 - (j + 1))
        case measure => have := HG.out; omega
        case rel => exact ⟨j + 1, r'.tail, by go_num, by omega, Lib.hid rfl, h1, HQ, Lib.hid ((List.tail_suffix r').trans HS.out), hC.two c2⟩
      · rw [if_neg hc] at hst
        have HQ := Lib.hid (show mkW (k : Int) W r = .bad 10 r' by unfold mkW; rw [← HP.out, hst]; rfl)
        have T := take_F (q := q) (lev := lev) hS c _ rfl hcn hc
        generalize hkk : S.length - r'.length = kk at HQ
        have HKK := Lib.hid hkk
        clear hst hc hcn hkk
        go_wp2_with (first
          | (go_at_call 138; ((with_reducible refine (T _ (by assumption)).mono ?_); rintro e w1 ⟨rfl, h1, c2⟩; obtain ⟨_, ck, _⟩ := h1.cell; rw [HKK.out] at ck; have HR1 := Lib.hid (c2.rowC HRr.out (by omega)); have Hh1 := Lib.hid h1))
          | (go_at_call 100; ((with_reducible refine (unfit_any kk _ rfl _).mono ?_); rintro e w2 ⟨rfl, rfl⟩; unfold errV))
          | ((with_reducible show wpList _ _ _ (⟨none, .store _ (.tmp 4) _, _, _, _, _⟩ :: _) _ _); refine wpList_store_row rfl 63 _ _ rfl w.heap.size zeroV4 rfl rfl 63 zeroV4 HR1.out HI.out rfl zeroV4_all ?_))
        refine bodyPost_ret (results_row_tmp rfl _ _ w.heap.size 63 zeroV4 _ rfl (rowC_setRow HR1.out _) Tryz.underlying63 rfl HI.out (errV 10 kk) rfl) rfl ?_
        have := saysV_bad (w := w) (w' := w1.setRow w.heap.size zeroV4) (q := q) (S := S) (r := r) (lev := lev) HQ.out zero_four ⟨⟨r', lev, Hh1.out.chg (s := (· = w.heap.size)) ((Chg.refl _ _).setRow _ _ (.inl rfl)) (by omega), HS.out⟩, ((HA0.out.two hC).two c2).setRow _ _ (.inr (Nat.le_refl _))⟩
        unfold errAt at this
        rw [HKK.out] at this
        exact this
    · obtain rfl : j = W.length := by omega
      have hsz2 : ((W.length : Int) < (W.length : Int)) = False := by simp
      have HQ := Lib.hid (show mkW (k : Int) W r = .ok (.mk (k : Int) [] [] []) r' by unfold mkW; rw [← HP.out, List.drop_length]; rfl)
      clear hsz2 hlt
      go_wp2_with (first
        | ((with_reducible show wpList _ _ _ (⟨none, .store _ (.tmp 4) _, _, _, _, _⟩ :: _) _ _); refine wpList_store_row rfl 63 _ _ rfl w.heap.size (cells4 (k : Int) ⟨#[]⟩) rfl rfl 63 zeroV4 HRr.out HI.out rfl (cells4_all _ _) ?_))
      refine bodyPost_ret (results_row_tmp rfl _ _ w.heap.size 63 (cells4 (k : Int) ⟨#[]⟩) _ rfl (rowC_setRow HRr.out _) Tryz.underlying63 rfl HI.out .nilIface rfl) rfl ?_
      exact saysV_ok HQ.out (holds_word _ _ _) ⟨h'.chg (s := (· = w.heap.size)) ((Chg.refl _ _).setRow _ _ (.inl rfl)) (by omega), (HA0.out.two hC).setRow _ _ (.inr (Nat.le_refl _))⟩
end Go.Proofs.YtnkencdibniagaaGreatDoor

/- Layer 11: digits to the base 16, units. -/
namespace Go.Proofs.YtnkencdibniagaaGreatDoor
open Go.RowKit

theorem ret2 {k : IntKind} {a b : Int} {x y : Value} (h : a = b) (g : x = y) : Ending.returned (.tuple #[.int k a, x]) = .returned (.tuple #[.int k b, y]) := by rw [h, g]
set_option maxHeartbeats 1000000 in
theorem valueOf_some {c : UInt8} {n : Nat} (h : hexV c = some n) (w : World) : Calls Tryz.prog 209 #[.int .u8 (c.toNat : Int)] w fun e w' => e = .returned (.tuple #[.int .i32 (n : Int), .bool true]) ∧ w = w' := by
  have hd := fun w => isDigit_any c w
  have hi := isDg_iff c
  have hc := c.toNat_lt
  unfold hexV at h
  generalize isDg c = b at hd hi
  generalize c.toNat = m at hd hi hc h ⊢
  by_cases h1 : 48 ≤ m ∧ m ≤ 57
  · rw [if_pos h1, Option.some.injEq] at h
    obtain rfl : b = true := hi.2 h1
    obtain ⟨a1, a2⟩ := h1
    have HN := Lib.hid h
    clear hi h
    go_enter Tryz.func209, Tryz.ntmps209
    go_wp2_with (go_at_call 181; ((with_reducible refine (hd _).mono ?_); rintro e w' ⟨rfl, rfl⟩))
    go_ret2
    exact ⟨ret2 (by have := HN.out; omega) rfl, rfl⟩
  · obtain rfl : b = false := by cases b; rfl; exact absurd (hi.1 rfl) h1
    rw [if_neg h1] at h
    by_cases h2 : 97 ≤ m ∧ m ≤ 102
    · rw [if_pos h2, Option.some.injEq] at h
      obtain ⟨a1, a2⟩ := h2
      have e1 : decide ((97 : Int) ≤ (m : Int)) = true := by rw [decide_eq_true_eq]; omega
      have e2 : decide ((m : Int) ≤ 102) = true := by rw [decide_eq_true_eq]; omega
      have HN := Lib.hid h
      clear hi h h1
      go_enter Tryz.func209, Tryz.ntmps209
      go_wp2_with (go_at_call 181; ((with_reducible refine (hd _).mono ?_); rintro e w' ⟨rfl, rfl⟩))
      go_ret2
      exact ⟨ret2 (by have := HN.out; omega) rfl, rfl⟩
    · rw [if_neg h2] at h
      by_cases h3 : 65 ≤ m ∧ m ≤ 70
      · rw [if_pos h3, Option.some.injEq] at h
        obtain ⟨a1, a2⟩ := h3
        have e0 : decide ((97 : Int) ≤ (m : Int)) = false := by rw [decide_eq_false_iff_not]; omega
        have e1 : decide ((65 : Int) ≤ (m : Int)) = true := by rw [decide_eq_true_eq]; omega
        have e2 : decide ((m : Int) ≤ 70) = true := by rw [decide_eq_true_eq]; omega
        have HN := Lib.hid h
        clear hi h h1 h2
        go_enter Tryz.func209, Tryz.ntmps209
        go_wp2_with (go_at_call 181; ((with_reducible refine (hd _).mono ?_); rintro e w' ⟨rfl, rfl⟩))
        go_ret2
        exact ⟨ret2 (by have := HN.out; omega) rfl, rfl⟩
      · rw [if_neg h3] at h; cases h
set_option maxHeartbeats 1000000 in
theorem valueOf_none {c : UInt8} (h : hexV c = none) (w : World) : Calls Tryz.prog 209 #[.int .u8 (c.toNat : Int)] w fun e w' => e = .returned (.tuple #[.int .i32 0, .bool false]) ∧ w = w' := by
  have hd := fun w => isDigit_any c w
  have hi := isDg_iff c
  unfold hexV at h
  generalize isDg c = b at hd hi
  generalize c.toNat = m at hd hi h ⊢
  by_cases h1 : 48 ≤ m ∧ m ≤ 57
  · rw [if_pos h1] at h; cases h
  rw [if_neg h1] at h
  by_cases h2 : 97 ≤ m ∧ m ≤ 102
  · rw [if_pos h2] at h; cases h
  rw [if_neg h2] at h
  by_cases h3 : 65 ≤ m ∧ m ≤ 70
  · rw [if_pos h3] at h; cases h
  obtain rfl : b = false := by cases b; rfl; exact absurd (hi.1 rfl) h1
  clear h hi h1
  by_cases k1 : 97 ≤ m
  · have e1 : decide ((97 : Int) ≤ (m : Int)) = true := by rw [decide_eq_true_eq]; omega
    have e2 : decide ((m : Int) ≤ 102) = false := by rw [decide_eq_false_iff_not]; omega
    have e3 : decide ((65 : Int) ≤ (m : Int)) = true := by rw [decide_eq_true_eq]; omega
    have e4 : decide ((m : Int) ≤ 70) = false := by rw [decide_eq_false_iff_not]; omega
    clear h2 h3 k1
    go_enter Tryz.func209, Tryz.ntmps209
    go_wp2_with (go_at_call 181; ((with_reducible refine (hd _).mono ?_); rintro e w' ⟨rfl, rfl⟩))
    go_ret2
    exact ⟨rfl, rfl⟩
  · have e1 : decide ((97 : Int) ≤ (m : Int)) = false := by rw [decide_eq_false_iff_not]; omega
    by_cases k2 : 65 ≤ m
    · have e3 : decide ((65 : Int) ≤ (m : Int)) = true := by rw [decide_eq_true_eq]; omega
      have e4 : decide ((m : Int) ≤ 70) = false := by rw [decide_eq_false_iff_not]; omega
      clear h2 h3 k1 k2
      go_enter Tryz.func209, Tryz.ntmps209
      go_wp2_with (go_at_call 181; ((with_reducible refine (hd _).mono ?_); rintro e w' ⟨rfl, rfl⟩))
      go_ret2
      exact ⟨rfl, rfl⟩
    · have e3 : decide ((65 : Int) ≤ (m : Int)) = false := by rw [decide_eq_false_iff_not]; omega
      clear h2 h3 k1 k2
      go_enter Tryz.func209, Tryz.ntmps209
      go_wp2_with (go_at_call 181; ((with_reducible refine (hd _).mono ?_); rintro e w' ⟨rfl, rfl⟩))
      go_ret2
      exact ⟨rfl, rfl⟩
set_option maxHeartbeats 1000000 in
theorem isLow_any (n : Nat) (w : World) : Calls Tryz.prog 205 #[.int .i32 (n : Int)] w fun e w' => e = .returned (.bool (isLo n)) ∧ w = w' := by
  have hi := isLo_iff n
  generalize isLo n = b at hi ⊢
  by_cases h1 : 56320 ≤ n
  · have e1 : decide ((56320 : Int) ≤ (n : Int)) = true := by rw [decide_eq_true_eq]; omega
    by_cases h2 : n < 57344
    · obtain rfl : b = true := hi.2 ⟨h1, h2⟩
      have e2 : decide ((n : Int) < 57344) = true := by rw [decide_eq_true_eq]; omega
      clear hi h1 h2
      go_enter Tryz.func205, Tryz.ntmps205
      go_wp2
      go_ret
      exact ⟨rfl, rfl⟩
    · obtain rfl : b = false := by cases b; rfl; exact absurd (hi.1 rfl).2 h2
      have e2 : decide ((n : Int) < 57344) = false := by rw [decide_eq_false_iff_not]; omega
      clear hi h1 h2
      go_enter Tryz.func205, Tryz.ntmps205
      go_wp2
      go_ret
      exact ⟨rfl, rfl⟩
  · obtain rfl : b = false := by cases b; rfl; exact absurd (hi.1 rfl).1 h1
    have e1 : decide ((56320 : Int) ≤ (n : Int)) = false := by rw [decide_eq_false_iff_not]; omega
    clear hi h1
    go_enter Tryz.func205, Tryz.ntmps205
    go_wp2
    go_ret
    exact ⟨rfl, rfl⟩
set_option maxHeartbeats 1000000 in
theorem isHigh_any (n : Nat) (w : World) : Calls Tryz.prog 206 #[.int .i32 (n : Int)] w fun e w' => e = .returned (.bool (isHi n)) ∧ w = w' := by
  have hi := isHi_iff n
  generalize isHi n = b at hi ⊢
  by_cases h1 : 55296 ≤ n
  · have e1 : decide ((55296 : Int) ≤ (n : Int)) = true := by rw [decide_eq_true_eq]; omega
    by_cases h2 : n < 56320
    · obtain rfl : b = true := hi.2 ⟨h1, h2⟩
      have e2 : decide ((n : Int) < 56320) = true := by rw [decide_eq_true_eq]; omega
      clear hi h1 h2
      go_enter Tryz.func206, Tryz.ntmps206
      go_wp2
      go_ret
      exact ⟨rfl, rfl⟩
    · obtain rfl : b = false := by cases b; rfl; exact absurd (hi.1 rfl).2 h2
      have e2 : decide ((n : Int) < 56320) = false := by rw [decide_eq_false_iff_not]; omega
      clear hi h1 h2
      go_enter Tryz.func206, Tryz.ntmps206
      go_wp2
      go_ret
      exact ⟨rfl, rfl⟩
  · obtain rfl : b = false := by cases b; rfl; exact absurd (hi.1 rfl).1 h1
    have e1 : decide ((55296 : Int) ≤ (n : Int)) = false := by rw [decide_eq_false_iff_not]; omega
    clear hi h1
    go_enter Tryz.func206, Tryz.ntmps206
    go_wp2
    go_ret
    exact ⟨rfl, rfl⟩
end Go.Proofs.YtnkencdibniagaaGreatDoor

/- Layer 11: the four digits of a unit; both units; escapes. -/
namespace Go.Proofs.YtnkencdibniagaaGreatDoor
open Go.RowKit

theorem i32_or16 (c n : Nat) (hc : c < 4096) (hn : n < 16) : bits .or .i32 ((c : Int) * 16) (n : Int) = (c : Int) * 16 + (n : Int) := by
  have h1 : ((c : Int) * 16) = ((c * 16 : Nat) : Int) := by omega
  rw [h1]
  show IntKind.i32.wrap ((BitVec.ofInt 32 ((c * 16 : Nat) : Int) ||| BitVec.ofInt 32 (n : Int)).toNat : Int) = _
  rw [BitVec.toNat_or, ofInt_u32 _ (by omega), ofInt_u32 _ (by omega)]
  have e : c * 16 ||| n = c * 16 + n := by
    rw [show c * 16 = c <<< 4 by rw [Nat.shiftLeft_eq], ← Nat.shiftLeft_add_eq_or_of_lt (show n < 2 ^ 4 by omega)]
  rw [e, IntKind.wrap_i32]
  omega
/-- What a reading of a number says of a call that answers it and an error. -/
def saysN (w : World) (q : Nat) (S r : Bs) (lev : Nat) (R : Res Nat) (e : Ending) (w' : World) : Prop :=
  match R with
  | .ok n x => e = .returned (.tuple #[.int .i32 (n : Int), .nilIface]) ∧ okP w q S x lev w'
  | .bad code x => e = .returned (.tuple #[.int .i32 0, errAt S code x]) ∧ badP w q S r w'
theorem saysN_ok {w w' : World} {q : Nat} {S r x : Bs} {lev n : Nat} {R : Res Nat} (hR : R = .ok n x) (h : okP w q S x lev w') : saysN w q S r lev R (.returned (.tuple #[.int .i32 (n : Int), .nilIface])) w' := by
  rw [hR]; exact ⟨rfl, h⟩
theorem saysN_bad {w w' : World} {q : Nat} {S r x : Bs} {lev code : Nat} {R : Res Nat} (hR : R = .bad code x) (h : badP w q S r w') : saysN w q S r lev R (.returned (.tuple #[.int .i32 0, errAt S code x])) w' := by
  rw [hR]; exact ⟨rfl, h⟩
theorem hex_ne {r : Bs} {n : Nat} (h : hexV (hd r) = some n) : r ≠ [] := by
  rintro rfl
  cases h
set_option maxRecDepth 100000 in
set_option maxHeartbeats 2000000 in
theorem unit_any {w : World} {q : Nat} {S r : Bs} {lev : Nat} (hS : okT S) (h : RdAt w q S r lev) :
    Calls Tryz.prog 204 #[.pointer (some ⟨q, 0, none⟩)] w fun e w' => saysN w q S r lev (unitP 4 0 r) e w' := by
  have H := Lib.hid h
  have hN := fun w' r' (h' : RdAt w' q S r' lev) => next_any h'
  clear h
  unfold okT at hS
  have HS := Lib.hid hS
  clear hS
  go_enter Tryz.func204, Tryz.ntmps204
  go_wp2
  go_loopg [7, 4, 5, 6] 4 (fun g t7 t4 t5 t6 wr => ∃ (j c : Nat) (r' : Bs), t7 = .int .i64 (j : Int) ∧ t4 = .int .i32 (c : Int) ∧ j ≤ 4 ∧ Hid (g = 4 - j) ∧ Hid (c < 16 ^ j) ∧ RdAt wr q S r' lev ∧ Hid (unitP (4 - j) c r' = unitP 4 0 r) ∧ Hid (r' <:+ r) ∧ Chg (· = q) w wr)
  case atStart => exact ⟨0, 0, r, rfl, rfl, by omega, Lib.hid rfl, Lib.hid (by decide), H.out, Lib.hid rfl, Lib.hid (List.suffix_refl r), Chg.refl _ _⟩
  case round =>
    obtain ⟨j, c, r', rfl, rfl, hj, HG, HC, h', HP, HSf, hC⟩ := hrel
    by_cases hlt : j < 4
    · have hst : unitP (4 - j) c r' = match hexV (hd r') with | some n => unitP (4 - (j + 1)) (c * 16 + n) r'.tail | none => .bad 10 r' := by
        rw [show 4 - j = (4 - (j + 1)) + 1 by omega, unitP]
        cases hexV (hd r') <;> rfl
      obtain ⟨_, c1, _⟩ := h'.cell
      have f1 := h'.free 1
      have hle := h'.le
      have hSS := HS.out
      generalize hk : S.length - r'.length = k at c1
      have hk2 : k ≤ 4611686018427387904 := by omega
      cases hx : hexV (hd r') with
      | some n =>
        rw [hx] at hst
        have HQ := Lib.hid (show unitP (4 - (j + 1)) (c * 16 + n) r'.tail = unitP 4 0 r from hst.symm.trans HP.out)
        have hn := hexV_lt hx
        have hc4 : c < 4096 := by
          have h1 := HC.out
          have : 16 ^ j ≤ 16 ^ 3 := Nat.pow_le_pow_right (by omega) (by omega)
          omega
        have HC2 := Lib.hid (show c * 16 + n < 16 ^ (j + 1) by have := HC.out; rw [Nat.pow_succ]; omega)
        have HV := fun w => valueOf_some hx w
        have HM := Lib.hid (fun n => (h'.drewN n).move (hex_ne hx) hk.symm)
        have hor := i32_or16 c n hc4 hn
        clear hst hx hk hle hSS
        go_wp2_with (first
          | (go_at_call 132; ((with_reducible refine (hN _ _ h').mono ?_); rintro e w' ⟨rfl, m, rfl⟩))
          | (go_at_call 209; ((with_reducible refine (HV _).mono ?_); rintro e w' ⟨rfl, rfl⟩)))
        go_roundg (4 - (j + 1))
        case measure => have := HG.out; omega
        case rel => exact ⟨j + 1, c * 16 + n, r'.tail, by go_num, by go_num, by omega, Lib.hid rfl, HC2, HM.out _, HQ, Lib.hid ((List.tail_suffix r').trans HSf.out), (hC.drewN _).setCell _ _ (.inl rfl)⟩
      | none =>
        rw [hx] at hst
        have HQ := Lib.hid (show unitP 4 0 r = .bad 10 r' from HP.out.symm.trans hst)
        have HV := fun w => valueOf_none hx w
        have HK := Lib.hid hk
        clear hst hx hk hle hSS
        go_wp2_with (first
          | (go_at_call 132; ((with_reducible refine (hN _ _ h').mono ?_); rintro e w' ⟨rfl, m, rfl⟩))
          | (go_at_call 209; ((with_reducible refine (HV _).mono ?_); rintro e w' ⟨rfl, rfl⟩))
          | (go_at_call 100; ((with_reducible refine (unfit_any k _ rfl _).mono ?_); rintro e w2 ⟨rfl, rfl⟩; unfold errV)))
        go_ret2
        have := saysN_bad (w := w) (w' := wr.drewN m) (q := q) (S := S) (r := r) (lev := lev) HQ.out ⟨⟨r', lev, h'.drewN _, HSf.out⟩, hC.drewN _⟩
        unfold errAt at this
        rw [HK.out] at this
        exact this
    · obtain rfl : j = 4 := by omega
      have HQ := Lib.hid (show unitP 4 0 r = .ok c r' from HP.out.symm)
      clear hlt
      go_wp2
      go_ret2
      exact saysN_ok HQ.out ⟨h', hC⟩
end Go.Proofs.YtnkencdibniagaaGreatDoor

