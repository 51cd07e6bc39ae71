/- Layer 11: words. -/
import Derived.Test.YtlknngplnimdpaaGreatDoorJtF
namespace Go.Proofs.YtlknngplnimdpaaGreatDoor
open Go.RowKit

def zeroV4 : Array Value := #[.int .i64 0, .string ⟨#[]⟩, .slice none 0 0, .slice none 0 0]
def cells4 (k : Int) (t : ByteArray) : Array Value := #[.int .i64 k, .string t, .slice none 0 0, .slice none 0 0]
def row4 (k : Int) (t : ByteArray) (x1 : Option Addr) (n1 c1 : Nat) (x2 : Option Addr) (n2 c2 : Nat) : Array Value := #[.int .i64 k, .string t, .slice x1 n1 c1, .slice x2 n2 c2]
theorem row4_all (k : Int) (t : ByteArray) (x1 : Option Addr) (n1 c1 : Nat) (x2 : Option Addr) (n2 c2 : Nat) : (row4 k t x1 n1 c1 x2 n2 c2).all (·.oneCell') = true := all_oneCell_toArray (fun v hv => by
  rcases List.mem_cons.1 hv with rfl | hv
  · rfl
  rcases List.mem_cons.1 hv with rfl | hv
  · rfl
  rcases List.mem_cons.1 hv with rfl | hv
  · rfl
  rw [List.mem_singleton.1 hv]; rfl)
theorem cells4_all (k : Int) (t : ByteArray) : (cells4 k t).all (·.oneCell') = true := row4_all k t none 0 0 none 0 0
theorem zeroV4_all : zeroV4.all (·.oneCell') = true := cells4_all 0 ⟨#[]⟩
theorem info_V : (Tryz.prog.info? 63).map (·.size) = some 4 := by kernel_rfl
theorem zero_four : four (.agg zeroV4) := ⟨0, ⟨#[]⟩, none, 0, 0, none, 0, 0, rfl⟩
theorem Chg.from_alloc {q : Nat} {w w' : World} {o : Obj} (h : Chg (· = q) (w.alloc o) w') : Chg (· = q) w w' := ((Chg.refl _ w).alloc o).two h
theorem saysV_bad {w w' : World} {q : Nat} {S r x : Bs} {lev code : Nat} {R : Res JV} {V : Value} (hR : R = .bad code x) (hV : four V) (h : badP w q S r w') : saysV w q S r lev R (.returned (.tuple #[V, errAt S code x])) w' := by
  rw [hR]; exact ⟨V, rfl, hV, h⟩
theorem saysV_ok {w w' : World} {q : Nat} {S r x : Bs} {lev : Nat} {R : Res JV} {V : Value} {v : JV} (hR : R = .ok v x) (hV : HoldsJ w' (fun k => w.heap.size ≤ k ∧ k < w'.heap.size) v V) (h : okP w q S x lev w') : saysV w q S r lev R (.returned (.tuple #[V, .nilIface])) w' := by
  rw [hR]; exact ⟨V, rfl, hV, h⟩
theorem word_ne (k : Nat) (hk : k < 3) : ∀ c ∈ wordOf (k : Int), c ≠ 0 := by
  have : k = 0 ∨ k = 1 ∨ k = 2 := by omega
  rcases this with rfl | rfl | rfl <;> decide
theorem word_len (k : Nat) : (wordOf (k : Int)).length ≤ 5 := by
  unfold wordOf
  split
  · decide
  split <;> decide
theorem word_step {W r : Bs} {j : Nat} (hj : j < W.length) : wordP (W.drop j) r = if hd r = W.getD j 0 then wordP (W.drop (j + 1)) r.tail else .bad 10 r := by
  rw [List.drop_eq_getElem_cons hj, wordP, List.getD_eq_getElem?_getD, List.getElem?_eq_getElem hj]
  rfl
set_option maxRecDepth 100000 in
set_option maxHeartbeats 2000000 in
theorem word_any {w : World} {q : Nat} {S r : Bs} {lev : Nat} (hS : okT S) (hE : Env w) (hq : 10 ≤ q) (h : RdAt w q S r lev) (k : Nat) (hk : k < 3) :
    Calls Tryz.prog 133 #[.pointer (some ⟨q, 0, none⟩), .int .i64 (k : Int)] w fun e w' => saysV w q S r lev (mkW (k : Int) (wordOf (k : Int)) r) e w' := by
  have hne := word_ne k hk
  have hlen := word_len k
  have hc0 := hE.words k hk
  obtain ⟨W, hW⟩ : ∃ W, W = wordOf (k : Int) := ⟨_, rfl⟩
  rw [← hW] at hne hlen hc0 ⊢
  have hqw := h.lt
  obtain ⟨W0, hW0⟩ : ∃ W0, W0 = w.alloc (.cells #[.int .i64 0, .string ⟨#[]⟩, .slice none 0 0, .slice none 0 0] 63) := ⟨_, rfl⟩
  have R0 : rowC W0 w.heap.size zeroV4 63 := by rw [hW0]; exact rowC_new w _ _
  have A0 : Chg (· = q) w W0 := by rw [hW0]; exact (Chg.refl _ w).alloc _
  have E0 : Env W0 := hE.q A0 hq
  have H0 : RdAt W0 q S r lev := by rw [hW0]; exact h.below ((Below.refl _ _).alloc (Nat.le_refl _) _)
  have c1 := E0.words k hk
  rw [← hW] at c1
  have HR0 := Lib.hid R0
  have HA0 := Lib.hid A0
  have HE0 := Lib.hid E0
  have HH0 := Lib.hid H0
  have HW := Lib.hid hW
  have HW0 := Lib.hid hW0
  have HI := Lib.hid info_V
  have hsz := str_size W
  clear hW hW0 R0 A0 E0 H0 hE h hc0
  have k0 : (k : Int) < 3 := by omega
  have HK3 := Lib.hid hk
  go_enter Tryz.func133, Tryz.ntmps133
  go_upto_region 1 with (fail)
  rw [← HW0.out]
  go_wp2
  go_loopg [11, 6] 6 (fun g t11 t6 wr => ∃ (j : Nat) (r' : Bs), t11 = .int .i64 (j : Int) ∧ j ≤ W.length ∧ Hid (g = 6 - j) ∧ RdAt wr q S r' lev ∧ Hid (wordP (W.drop j) r' = wordP W r) ∧ Hid (r' <:+ r) ∧ Chg (· = q) W0 wr)
  case atStart => exact ⟨0, r, rfl, Nat.zero_le _, Lib.hid rfl, HH0.out, Lib.hid rfl, Lib.hid (List.suffix_refl r), Chg.refl _ _⟩
  case round =>
    obtain ⟨j, r', rfl, hj, HG, h', HP, HS, hC⟩ := hrel
    have c1' := (HE0.out.q hC hq).words k HK3.out
    rw [← HW.out] at c1'
    have Rr := hC.rowC HR0.out (by omega)
    have HRr := Lib.hid Rr
    clear c1 Rr
    by_cases hlt : j < W.length
    · have hidx := idx_str (str W) j (j : Int) rfl (by rw [str_size]; exact hlt)
      rw [str_toList] at hidx
      have hst := word_step (r := r') hlt
      have hcn : W.getD j 0 ≠ 0 := hne _ (by rw [List.getD_eq_getElem?_getD, List.getElem?_eq_getElem hlt]; exact List.getElem_mem _)
      generalize W.getD j 0 = c at hidx hst hcn
      by_cases hc : hd r' = c
      · rw [if_pos hc] at hst
        have HQ := Lib.hid (hst.symm.trans HP.out)
        have T := take_T (q := q) (lev := lev) hS c _ rfl hcn hc
        clear hst hc hcn
        go_wp2_with (go_at_call 138; ((with_reducible refine (T _ (by assumption)).mono ?_); rintro e w1 ⟨rfl, h1, c2⟩))
        go_roundg (6 - (j + 1))
        case measure => have := HG.out; omega
        case rel => exact ⟨j + 1, r'.tail, by go_num, by omega, Lib.hid rfl, h1, HQ, Lib.hid ((List.tail_suffix r').trans HS.out), hC.two c2⟩
      · rw [if_neg hc] at hst
        have HQ := Lib.hid (show mkW (k : Int) W r = .bad 10 r' by unfold mkW; rw [← HP.out, hst]; rfl)
        have T := take_F (q := q) (lev := lev) hS c _ rfl hcn hc
        generalize hkk : S.length - r'.length = kk at HQ
        have HKK := Lib.hid hkk
        clear hst hc hcn hkk
        go_wp2_with (first
          | (go_at_call 138; ((with_reducible refine (T _ (by assumption)).mono ?_); rintro e w1 ⟨rfl, h1, c2⟩; obtain ⟨_, ck, _⟩ := h1.cell; rw [HKK.out] at ck; have HR1 := Lib.hid (c2.rowC HRr.out (by omega)); have Hh1 := Lib.hid h1))
          | (go_at_call 100; ((with_reducible refine (unfit_any kk _ rfl _).mono ?_); rintro e w2 ⟨rfl, rfl⟩; unfold errV))
          | ((with_reducible show wpList _ _ _ (⟨none, .store _ (.tmp 4) _, _, _, _, _⟩ :: _) _ _); refine wpList_store_row rfl 63 _ _ rfl w.heap.size zeroV4 rfl rfl 63 zeroV4 HR1.out HI.out rfl zeroV4_all ?_))
        refine bodyPost_ret (results_row_tmp rfl _ _ w.heap.size 63 zeroV4 _ rfl (rowC_setRow HR1.out _) Tryz.underlying63 rfl HI.out (errV 10 kk) rfl) rfl ?_
        have := saysV_bad (w := w) (w' := w1.setRow w.heap.size zeroV4) (q := q) (S := S) (r := r) (lev := lev) HQ.out zero_four ⟨⟨r', lev, Hh1.out.chg (s := (· = w.heap.size)) ((Chg.refl _ _).setRow _ _ (.inl rfl)) (by omega), HS.out⟩, ((HA0.out.two hC).two c2).setRow _ _ (.inr (Nat.le_refl _))⟩
        unfold errAt at this
        rw [HKK.out] at this
        exact this
    · obtain rfl : j = W.length := by omega
      have hsz2 : ((W.length : Int) < (W.length : Int)) = False := by simp
      have HQ := Lib.hid (show mkW (k : Int) W r = .ok (.mk (k : Int) [] [] []) r' by unfold mkW; rw [← HP.out, List.drop_length]; rfl)
      clear hsz2 hlt
      go_wp2_with (first
        | ((with_reducible show wpList _ _ _ (⟨none, .store _ (.tmp 4) _, _, _, _, _⟩ :: _) _ _); refine wpList_store_row rfl 63 _ _ rfl w.heap.size (cells4 (k : Int) ⟨#[]⟩) rfl rfl 63 zeroV4 HRr.out HI.out rfl (cells4_all _ _) ?_))
      refine bodyPost_ret (results_row_tmp rfl _ _ w.heap.size 63 (cells4 (k : Int) ⟨#[]⟩) _ rfl (rowC_setRow HRr.out _) Tryz.underlying63 rfl HI.out .nilIface rfl) rfl ?_
      exact saysV_ok HQ.out (holds_word _ _ _) ⟨h'.chg (s := (· = w.heap.size)) ((Chg.refl _ _).setRow _ _ (.inl rfl)) (by omega), (HA0.out.two hC).setRow _ _ (.inr (Nat.le_refl _))⟩
end Go.Proofs.YtlknngplnimdpaaGreatDoor
