import Derived.Test.YtcepemgalammhaaGreatDoorJsH
import Derived.Test.YtcepemgalammhaaGreatDoorJtD
import Derived.BigQuiet
import Derived.LoopTactic
import Derived.Deep.DeepCutAuto
import Derived.StillTailTactics
import Derived.Test.YtcepemgalammhaaGreatDoorJbD
import Derived.Test.YtcepemgalammhaaGreatDoorM01
import Derived.Test.YtcepemgalammhaaGreatDoorM02
/- Layer 11: a printed text has no backslash as its last byte within a string. -/
namespace Go.Proofs.YtcepemgalammhaaGreatDoor

/-- What is left ends well: a point behind it would stand outside of strings. -/
def endsOk (m : Nat) (b : Bool) (r : Bs) : Prop := r.length < m ∧ (insF [32] m b (r ++ [44])).getLast? = some 32
theorem insF_ne {g : Bs} {m : Nat} {b : Bool} {c : UInt8} {l : Bs} : insF g (m + 1) b (c :: l) ≠ [] := by
  rw [insF]
  split
  · simp
  · split
    · simp
    · split <;> simp
theorem last_app {a b : Bs} (h : b ≠ []) : (a ++ b).getLast? = b.getLast? := by
  rw [List.getLast?_append]
  cases b with
  | nil => exact absurd rfl h
  | cons x l => simp [List.getLast?_cons]
theorem ends_start {v : JV} (hv : may v) {m : Nat} (hm : (prG [] v).length < m) : endsOk m false (prG [] v) := by
  refine ⟨hm, ?_⟩
  obtain ⟨k, hk, he⟩ := prG_ins (g := [32]) _ v (Nat.le_refl _) hv m [44] (by simp; omega)
  obtain ⟨j, rfl⟩ : ∃ j, k = j + 1 := ⟨k - 1, by simp at hk; omega⟩
  rw [he, ins_pt 44 (by decide)]
  have : insF [32] j false [] = [] := by cases j <;> rfl
  rw [this]
  simp [List.getLast?_append]
theorem ends_pos {m : Nat} {b : Bool} {l : Bs} (h : l.length < m) : insF [32] m b (l ++ [44]) ≠ [] := by
  obtain ⟨k, rfl⟩ : ∃ k, m = k + 1 := ⟨m - 1, by omega⟩
  cases l <;> exact insF_ne
theorem ends_esc {m : Nat} {c : UInt8} {l : Bs} (h : endsOk (m + 1) true (92 :: c :: l)) : endsOk m true l := by
  obtain ⟨h1, h2⟩ := h
  have hl : l.length < m := by simp at h1; omega
  refine ⟨hl, ?_⟩
  have e : insF [32] (m + 1) true (92 :: c :: l ++ [44]) = [92, c] ++ insF [32] m true (l ++ [44]) := ins_esc c m (l ++ [44])
  rw [e, last_app (ends_pos hl)] at h2
  exact h2
theorem ends_not {m : Nat} (h : endsOk (m + 1) true [92]) : False := by
  obtain ⟨h1, h2⟩ := h
  have e : insF [32] (m + 1) true ([92] ++ [44]) = [92, 44] ++ insF [32] m true [] := ins_esc 44 m []
  have e2 : insF [32] m true [] = [] := by cases m <;> rfl
  rw [e, e2] at h2
  simp at h2
theorem ends_step {m : Nat} {b : Bool} {c : UInt8} {l : Bs} (h : endsOk (m + 1) b (c :: l)) (hc : ¬ (b = true ∧ c = 92)) : endsOk m (if c = 34 then !b else b) l := by
  obtain ⟨h1, h2⟩ := h
  have hl : l.length < m := by simp at h1; omega
  refine ⟨hl, ?_⟩
  rw [List.cons_append, insF, if_neg hc] at h2
  by_cases h34 : c = 34
  · rw [if_pos h34] at h2 ⊢
    rw [← List.singleton_append, last_app (ends_pos hl)] at h2
    exact h2
  · rw [if_neg h34] at h2 ⊢
    by_cases hp : b = false ∧ isPt c = true
    · rw [if_pos hp, last_app (ends_pos hl)] at h2
      exact h2
    · rw [if_neg hp, ← List.singleton_append, last_app (ends_pos hl)] at h2
      exact h2
end Go.Proofs.YtcepemgalammhaaGreatDoor

/- Layer 11: the blanks that are handed in by numbers. -/
namespace Go.Proofs.YtcepemgalammhaaGreatDoor
open Go.RowKit

def blk (m : Nat) : UInt8 := if m = 0 then 32 else if m = 1 then 9 else if m = 2 then 10 else 13
theorem blk_bl (m : Nat) : isBl (blk m) = true := by
  unfold blk
  split
  · rfl
  · split
    · rfl
    · split <;> rfl
theorem blk_text : ∀ m : Fin 4, (⟨#[32, 9, 10, 13]⟩ : ByteArray).extract m.val (m.val + 1) = str [blk m.val] := by decide
set_option maxRecDepth 100000 in
set_option maxHeartbeats 4000000 in
theorem between_any {w : World} {b off len cap : Nat} {z : Nat → Nat} (hz : ∀ j, j < len → w.cell? ⟨b, off + j, none⟩ = some (.int .u8 (z j : Int)) ∧ z j < 256) :
    Calls Tryz.prog 10 #[.slice (some ⟨b, off, none⟩) len cap] w fun e w' => (∃ g, gap g ∧ g.length ≤ 4 ∧ e = .returned (.string (str g))) ∧ Below w.heap.size w w' := by
  have HZ := Lib.hid hz
  clear hz
  go_enter Tryz.func10, Tryz.ntmps10
  go_upto_region 3 with (fail)
  go_loopw [3, 4] (fun s i wr => ∃ k : Nat, k ≤ len ∧ k ≤ 4 ∧ i = .int .i64 k ∧ (∃ g : Bs, gap g ∧ g.length = k ∧ s = .string (str g)) ∧ Below w.heap.size w wr) (fun _ i _ => 4 - (intOf i).toNat)
  case atStart => exact ⟨0, Nat.zero_le _, Nat.zero_le _, rfl, ⟨[], fun c hc => (by cases hc), rfl, rfl⟩, Below.refl _ _⟩
  case round =>
    obtain ⟨k, hk, hk4, rfl, ⟨g, hg, hgl, rfl⟩, hB⟩ := hrel
    have HB := Lib.hid hB
    have HG := Lib.hid hg
    have k0 : (0 : Int) ≤ (k : Int) := by omega
    clear hB hg
    by_cases h1 : k < len
    · have k1 : (k : Int) < (len : Int) := by omega
      by_cases h2 : k < 4
      · have k2 : (k : Int) < 4 := by omega
        obtain ⟨hc, h256⟩ := HZ.out k h1
        have hc1 : wr.cell? ⟨b, off + k, none⟩ = some (.int .u8 (z k : Int)) := by
          have hlt : b < w.heap.size := World.block_lt_of_cell? w _ hc
          rw [World.cell?_of_block (w := w) (w' := wr) (HB.out.block b hlt)]
          exact hc
        obtain ⟨m, hm⟩ : ∃ m, m = z k % 4 := ⟨_, rfl⟩
        have hrem : (z k : Int).tmod 4 = (m : Int) := by rw [Int.tmod_eq_emod_of_nonneg (by omega), hm]; omega
        have hm4 : m < 4 := by omega
        have hsz := str_size g
        have z1 : ¬ 9223372036854775807 < (str g).size + 1 := by omega
        have hsB : (str [blk m]).size = 1 := str_size _
        have hx := blk_text ⟨m, hm4⟩
        dsimp only at hx
        have HN : Hid (gap (g ++ [blk m]) ∧ (g ++ [blk m]).length = k + 1 ∧ str g ++ str [blk m] = str (g ++ [blk m])) := Lib.hid ⟨fun c hc => by
          rcases List.mem_append.1 hc with h | h
          · exact HG.out c h
          · rw [List.mem_singleton.1 h]; exact blk_bl m, by simp [hgl], str_append _ _⟩
        clear hm hc hsz
        rcases (show m = 0 ∨ m = 1 ∨ m = 2 ∨ m = 3 by omega) with rfl | rfl | rfl | rfl
        all_goals (
          go_upto_region 5 with (fail)
          go_region
          go_wp2
          go_roundw
          case rel => exact ⟨k + 1, by omega, by omega, by go_num, ⟨_, HN.out.1, HN.out.2.1, by rw [HN.out.2.2]⟩, HB.out.trans (Below.refl _ _).drew⟩
          case measure => simp [intOf]; omega)
      · have k2 : ¬ (k : Int) < 4 := by omega
        go_wp2
        go_ret
        exact ⟨⟨g, HG.out, by omega, rfl⟩, HB.out⟩
    · have k1 : ¬ (k : Int) < (len : Int) := by omega
      go_wp2
      go_ret
      exact ⟨⟨g, HG.out, by omega, rfl⟩, HB.out⟩
end Go.Proofs.YtcepemgalammhaaGreatDoor

/- Layer 11: how the blanks are put in, step by step. -/
namespace Go.Proofs.YtcepemgalammhaaGreatDoor
open Go.RowKit

/-- So much of T is done. -/
def scanAt (g T : Bs) (k m : Nat) (bb : Bool) (o : Bs) : Prop := k ≤ T.length ∧ endsOk m bb (T.drop k) ∧ o ++ insF g m bb (T.drop k) = g ++ insF g (T.length + 1) false T ∧ o.length ≤ 4 + 9 * k
theorem scan_start {v : JV} (hv : may v) {g : Bs} (hg : g.length ≤ 4) : scanAt g (prG [] v) 0 ((prG [] v).length + 1) false g :=
  ⟨Nat.zero_le _, by rw [List.drop_zero]; exact ends_start hv (by omega), by rw [List.drop_zero], by omega⟩
theorem scan_end {v : JV} (hv : may v) {g o : Bs} {m : Nat} {bb : Bool} (h : scanAt g (prG [] v) (prG [] v).length m bb o) : o = g ++ prG g v := by
  obtain ⟨_, _, h3, _⟩ := h
  rw [List.drop_length, ins_all hv _ (by omega)] at h3
  have : insF g m bb [] = [] := by cases m <;> rfl
  rw [this, List.append_nil] at h3
  exact h3
theorem drop_one {T : Bs} {k : Nat} (h : k < T.length) : T.drop k = T.getD k 0 :: T.drop (k + 1) := by
  rw [List.drop_eq_getElem_cons h, List.getD_eq_getElem?_getD, List.getElem?_eq_getElem h]
  rfl
theorem scan_pos {g T o : Bs} {k m : Nat} {bb : Bool} (h : scanAt g T k m bb o) : ∃ j, m = j + 1 := ⟨m - 1, by have := h.2.1.1; omega⟩
theorem scan_esc {g T o : Bs} {k m : Nat} (h : scanAt g T k m true o) (hk : k < T.length) (hc : T.getD k 0 = 92) : k + 2 ≤ T.length ∧ ∃ j, scanAt g T (k + 2) j true (o ++ (T.drop k).take 2) := by
  obtain ⟨j, rfl⟩ := scan_pos h
  obtain ⟨h1, h2, h3, h4⟩ := h
  have hd := drop_one hk
  rw [hc] at hd
  have hlt : k + 1 < T.length := by
    refine Nat.lt_of_not_le fun hle => ?_
    rw [List.drop_of_length_le hle] at hd
    rw [hd] at h2
    exact ends_not h2
  have hd2 := drop_one hlt
  rw [hd2] at hd
  rw [hd] at h2 h3
  refine ⟨hlt, j, hlt, ends_esc h2, ?_, ?_⟩
  · rw [ins_esc] at h3
    rw [hd, ← h3]
    simp
  · rw [List.length_append, List.length_take]
    omega
theorem scan_quote {g T o : Bs} {k m : Nat} {bb : Bool} (h : scanAt g T k m bb o) (hk : k < T.length) (hc : T.getD k 0 = 34) : ∃ j, scanAt g T (k + 1) j (!bb) (o ++ [34]) := by
  obtain ⟨j, rfl⟩ := scan_pos h
  obtain ⟨h1, h2, h3, h4⟩ := h
  have hd := drop_one hk
  rw [hc] at hd
  rw [hd] at h2 h3
  have hn : ¬ (bb = true ∧ (34 : UInt8) = 92) := fun e => absurd e.2 (by decide)
  refine ⟨j, hk, ?_, ?_, ?_⟩
  · have := ends_step h2 hn
    rw [if_pos rfl] at this
    exact this
  · rw [insF, if_neg hn, if_pos rfl] at h3
    rw [← h3]
    simp
  · rw [List.length_append, List.length_singleton]
    omega
theorem scan_pt {g T o : Bs} {k m : Nat} (hg : g.length ≤ 4) (h : scanAt g T k m false o) (hk : k < T.length) (hc : isPt (T.getD k 0) = true) : ∃ j, scanAt g T (k + 1) j false (o ++ g ++ [T.getD k 0] ++ g) := by
  obtain ⟨j, rfl⟩ := scan_pos h
  obtain ⟨h1, h2, h3, h4⟩ := h
  rw [drop_one hk] at h2 h3
  have hn : ¬ (false = true ∧ T.getD k 0 = 92) := fun e => by cases e.1
  have h34 : T.getD k 0 ≠ 34 := by intro e; rw [e] at hc; exact absurd hc (by decide)
  refine ⟨j, hk, ?_, ?_, ?_⟩
  · have := ends_step h2 hn
    rw [if_neg h34] at this
    exact this
  · rw [ins_pt _ hc] at h3
    rw [← h3]
    simp
  · simp only [List.length_append, List.length_singleton]
    omega
theorem scan_other {g T o : Bs} {k m : Nat} {bb : Bool} (h : scanAt g T k m bb o) (hk : k < T.length) (h1 : ¬ (bb = true ∧ T.getD k 0 = 92)) (h34 : T.getD k 0 ≠ 34) (hp : ¬ (bb = false ∧ isPt (T.getD k 0) = true)) : ∃ j, scanAt g T (k + 1) j bb (o ++ [T.getD k 0]) := by
  obtain ⟨j, rfl⟩ := scan_pos h
  obtain ⟨h0, h2, h3, h4⟩ := h
  rw [drop_one hk] at h2 h3
  refine ⟨j, hk, ?_, ?_, ?_⟩
  · have := ends_step h2 h1
    rw [if_neg h34] at this
    exact this
  · rw [insF, if_neg h1, if_neg h34, if_neg hp] at h3
    rw [← h3]
    simp
  · rw [List.length_append, List.length_singleton]
    omega
theorem extract_some (T : Bs) {k n : Nat} : (str T).extract k (k + n) = str ((T.drop k).take n) := by
  refine bytes_toList ?_
  rw [str_toList, ByteArray.data_extract, Array.toList_extract]
  show List.extract (str T).data.toList k (k + n) = _
  rw [str_toList, List.extract_eq_take_drop, show k + n - k = n by omega]
end Go.Proofs.YtcepemgalammhaaGreatDoor

/- Layer 11: JsonBlanks' walk. -/
namespace Go.Proofs.YtcepemgalammhaaGreatDoor
open Go.RowKit

theorem gap_says {v : JV} (h : (printA v).2 = 0) {g : Bs} (hg : gap g) (hl : (g ++ prG g v ++ g).length ≤ 65536) (w : World) (hE : Env w) :
    Calls Tryz.prog 7 #[.string (str (g ++ prG g v ++ g))] w fun e w' => Says4 w (fun x _ code => x = v ∧ code = 0) e w' := by
  obtain ⟨h1, h2, h3, h4⟩ := printA_ok h
  obtain ⟨n0, hn⟩ := all_rt hg h1 h2
  have hr := hn n0 (Nat.le_refl _)
  refine (parse_any hl w hE hr).mono fun e w' h => says4_of (fun v r e => ?_) (fun c r e => by cases e) h
  obtain ⟨rfl, _⟩ := Res.ok.inj e
  exact ⟨rfl, rfl⟩
theorem u8_neI {a b : UInt8} (h : a ≠ b) : ((a.toNat : Int) == (b.toNat : Int)) = false := by
  rw [beq_eq_false_iff_ne]
  intro e
  exact h (UInt8.toNat_inj.1 (by omega))
set_option maxRecDepth 100000 in
set_option maxHeartbeats 16000000 in
theorem jblanks_any {w : World} {xp : Option Addr} {cp : Nat} {l : List Part1} {y : Option Addr} {len cap : Nat} {z : Nat → Nat} (CB : Calls Tryz.prog 5 #[.slice xp l.length cp] w fun e w' => BuildSays w e w')
    (hz : 0 < len → ∃ b off, y = some ⟨b, off, none⟩ ∧ ∀ j, j < len → w.cell? ⟨b, off + j, none⟩ = some (.int .u8 (z j : Int)) ∧ z j < 256) (hE : Env w) :
    Calls Tryz.prog 4 #[.slice xp l.length cp, .slice y len cap] w fun e w' => e = .returned (.bool true) ∧ Below w.heap.size w w' := by
  have HE := Lib.hid hE
  have HIF := Lib.hid info_V
  have HZ := Lib.hid hz
  clear hE hz
  go_enter Tryz.func4, Tryz.ntmps4
  go_upto_region 2 with (first
    | (go_at_call 5; ((with_reducible refine CB.mono ?_); rintro e w1 hw1; obtain ⟨k1, t1, x1, n1, c1, y1, p1, q1, ok, u, rfl, i1, o1, b1⟩ := build_says hw1; have HIN1 := Lib.hid i1; have HO1 := Lib.hid o1; have HB1 := Lib.hid b1; clear i1 o1 b1 hw1 CB))
    | ((with_reducible show wpList _ _ _ (⟨none, .store _ (.tmp 5) (.tmp 20), _, _, _, _⟩ :: _) _ _); refine wpList_store_last rfl 27 _ _ rfl w1.heap.size (row4 k1 t1 x1 n1 c1 y1 p1 q1) rfl rfl 27 zeroV4 rfl HIF.out rfl (row4_all _ _ _ _ _ _ _ _) ?_))
  obtain ⟨W1, hW1⟩ : ∃ W1, W1 = w1.alloc (.cells (row4 k1 t1 x1 n1 c1 y1 p1 q1) 27) := ⟨_, rfl⟩
  rw [← hW1]
  have R1 : Hid (rowC W1 w1.heap.size (row4 k1 t1 x1 n1 c1 y1 p1 q1) 27) := Lib.hid (by rw [hW1]; exact rowC_new _ _ _)
  have BW1 : Hid (Below w1.heap.size w1 W1) := Lib.hid (by rw [hW1]; exact (Below.refl _ _).alloc (Nat.le_refl _) _)
  have D1 : Hid (Below w.heap.size w W1) := Lib.hid (HB1.out.trans (BW1.out.mono HB1.out.size))
  have I1 : Hid (In4 W1 u k1 t1 x1 n1 c1 y1 p1 q1) := Lib.hid (HIN1.out.on BW1.out)
  have E1 : Hid (Env W1) := Lib.hid (HE.out.below D1.out)
  clear hW1 BW1 HIN1 HB1
  cases ok
  · go_wp2_with (first
      | (go_at_call 6; ((with_reducible refine (noted_any _ E1.out).mono ?_); rintro e w2 ⟨rfl, b2⟩)))
    go_ret
    exact ⟨rfl, D1.out.trans (b2.mono D1.out.size)⟩
  by_cases hl0 : len = 0
  · subst hl0
    go_wp2_with (first
      | (go_at_call 6; ((with_reducible refine (noted_any _ E1.out).mono ?_); rintro e w2 ⟨rfl, b2⟩)))
    go_ret
    exact ⟨rfl, D1.out.trans (b2.mono D1.out.size)⟩
  have hl1 : ((len : Int) == 0) = false := by rw [beq_eq_false_iff_ne]; omega
  by_cases hl2 : 100 < len
  · have hl3 : (100 : Int) < (len : Int) := by omega
    go_wp2_with (first
      | (go_at_call 6; ((with_reducible refine (noted_any _ E1.out).mono ?_); rintro e w2 ⟨rfl, b2⟩)))
    go_ret
    exact ⟨rfl, D1.out.trans (b2.mono D1.out.size)⟩
  have hl3 : ¬ (100 : Int) < (len : Int) := by omega
  obtain ⟨b, off, rfl, hzz⟩ := HZ.out (by omega)
  have CP := print_any HO1.out E1.out I1.out
  have HZZ := Lib.hid hzz
  clear hzz HZ
  obtain ⟨C, hC⟩ : ∃ C, C = (printA u).2 := ⟨_, rfl⟩
  obtain ⟨T, hT⟩ : ∃ T, T = (printA u).1 := ⟨_, rfl⟩
  rw [← hC, ← hT] at CP
  have HC := Lib.hid hC
  have HT := Lib.hid hT
  clear hC hT
  have szT := str_size T
  go_upto_region 5 with (first
    | ((with_reducible show wpList _ _ _ (⟨some 36, .load _ (.tmp 5), _, _, _, _⟩ :: _) _ _); refine wpList_load_row rfl 27 _ rfl w1.heap.size rfl 27 #[.int .i64 k1, .string t1, .slice x1 n1 c1, .slice y1 p1 q1] (0, 0) _ R1.out Tryz.underlying27 rfl HIF.out ?_)
    | (go_at_call 8; ((with_reducible refine CP.mono ?_); rintro e w2 ⟨rfl, b2⟩; have B2 := Lib.hid b2; clear b2 CP)))
  have D2 : Hid (Below w.heap.size w w2) := Lib.hid (D1.out.trans (B2.out.mono D1.out.size))
  have E2 : Hid (Env w2) := Lib.hid (HE.out.below D2.out)
  have R2 : Hid (rowC w2 w1.heap.size (row4 k1 t1 x1 n1 c1 y1 p1 q1) 27) := Lib.hid (rowC_below R1.out B2.out (rowC_lt R1.out))
  have I2 : Hid (In4 w2 u k1 t1 x1 n1 c1 y1 p1 q1) := Lib.hid (I1.out.on B2.out)
  clear R1 D1 I1 E1 B2
  by_cases hC0 : ¬ C = 0
  · have e1 : ((C : Int) == 0) = false := by rw [beq_eq_false_iff_ne]; omega
    have e2 : ¬ (C : Int) = 0 := by omega
    go_wp2_with (first
      | (go_at_call 6; ((with_reducible refine (noted_any _ E2.out).mono ?_); rintro e w3 ⟨rfl, b3⟩)))
    go_ret
    exact ⟨rfl, D2.out.trans (b3.mono D2.out.size)⟩
  obtain rfl : C = 0 := by omega
  by_cases hT3 : 3000 < T.length
  · have e1 : (3000 : Int) < (T.length : Int) := by omega
    go_wp2_with (first
      | (go_at_call 6; ((with_reducible refine (noted_any _ E2.out).mono ?_); rintro e w3 ⟨rfl, b3⟩)))
    go_ret
    exact ⟨rfl, D2.out.trans (b3.mono D2.out.size)⟩
  have hT4 : ¬ (3000 : Int) < (T.length : Int) := by omega
  have CG := fun w' (hb : Below w.heap.size w w') => between_any (w := w') (b := b) (off := off) (len := len) (cap := cap) (z := z) (fun j hj => by
    obtain ⟨h1, h2⟩ := HZZ.out j hj
    refine ⟨?_, h2⟩
    have hlt : b < w.heap.size := World.block_lt_of_cell? w _ h1
    rw [World.cell?_of_block (w := w) (w' := w') (hb.block b hlt)]
    exact h1)
  go_upto_region 8 with (first
    | (go_at_call 10; ((with_reducible refine (CG _ D2.out).mono ?_); rintro e w3 ⟨⟨g, hg, hgl, rfl⟩, b3⟩; have HG := Lib.hid hg; have B3 := Lib.hid b3; clear hg b3 CG)))
  have D3 : Hid (Below w.heap.size w w3) := Lib.hid (D2.out.trans (B3.out.mono D2.out.size))
  have E3 : Hid (Env w3) := Lib.hid (HE.out.below D3.out)
  have R3 : Hid (rowC w3 w1.heap.size (row4 k1 t1 x1 n1 c1 y1 p1 q1) 27) := Lib.hid (rowC_below R2.out B3.out (rowC_lt R2.out))
  have I3 : Hid (In4 w3 u k1 t1 x1 n1 c1 y1 p1 q1) := Lib.hid (I2.out.on B3.out)
  have H0 : (printA u).2 = 0 := HC.out.symm
  have hM := (printA_ok H0).1
  have hTP : T = prG [] u := HT.out.trans (printA_ok H0).2.2.1
  have hs0 : scanAt g T 0 (T.length + 1) false g := by rw [hTP]; exact scan_start hM hgl
  have HS0 := Lib.hid hs0
  have HM := Lib.hid hM
  have HTP := Lib.hid hTP
  have HH := Lib.hid H0
  clear D2 E2 R2 I2 B3 hs0 hM hTP H0 HC HT hT3 hC0 hl0 hl1 hl2 hl3
  go_upto_region 10 with (fail)
  go_loopw [10, 11, 12] (fun o bv iv wr => wr = w3 ∧ ∃ (k m : Nat) (bb : Bool) (O : Bs), scanAt g T k m bb O ∧ o = .string (str O) ∧ bv = .bool bb ∧ iv = .int .i64 k) (fun _ _ iv _ => T.length - (intOf iv).toNat)
  case atStart => exact ⟨rfl, 0, _, false, g, HS0.out, rfl, rfl, rfl⟩
  case round =>
    clear HS0
    obtain ⟨rfl, k, m, bb, O, hs, rfl, rfl, rfl⟩ := hrel
    have HS := Lib.hid hs
    have hkL := hs.1
    have hOl := hs.2.2.2
    have zO : (str O).size = O.length := str_size O
    have zg : (str g).size = g.length := str_size g
    clear hs
    by_cases hk : k < T.length
    · have k0 : (0 : Int) ≤ (k : Int) := by omega
      have k1' : (k : Int) < (T.length : Int) := by omega
      have k3 : (k : Int) < 3000 := by omega
      have hidx := idx_str (str T) k (k : Int) rfl (by rw [szT]; exact hk)
      rw [str_toList] at hidx
      have hx1 : (str T).extract k (k + 1) = str [T.getD k 0] := by rw [extract_some, drop_one hk]; rfl
      obtain ⟨c, hc⟩ : ∃ c, c = T.getD k 0 := ⟨_, rfl⟩
      rw [← hc] at hidx hx1
      have HCC := Lib.hid hc
      have zc : (str [c]).size = 1 := str_size _
      have b1 : ¬ 9223372036854775807 < O.length + 1 := by omega
      have b2 : ¬ 9223372036854775807 < O.length + 2 := by omega
      have b3 : ¬ 9223372036854775807 < O.length + g.length := by omega
      have b4 : ¬ 9223372036854775807 < O.length + g.length + 1 := by omega
      have b5 : ¬ 9223372036854775807 < O.length + g.length + 1 + g.length := by omega
      clear hc
      by_cases hA : bb = true ∧ c = 92
      · obtain ⟨rfl, rfl⟩ := hA
        obtain ⟨hk2, j, hs'⟩ := scan_esc HS.out hk HCC.out.symm
        have hx2 : (str T).extract k (k + 2) = str ((T.drop k).take 2) := extract_some T
        have z2 : (str ((T.drop k).take 2)).size = 2 := by rw [str_size, List.length_take, List.length_drop]; omega
        have k4 : (k : Int) + 2 ≤ (T.length : Int) := by omega
        have hv : (((92 : UInt8).toNat : Nat) : Int) = 92 := rfl
        rw [hv] at hidx
        have HN := Lib.hid hs'
        have HKM : Hid ((k : Int) + 1 + 1 = ((k + 2 : Nat) : Int) ∧ T.length - (intOf (Value.int .i64 ((k : Int) + 1 + 1))).toNat < T.length - (intOf (Value.int .i64 (k : Int))).toNat) := Lib.hid (by simp [intOf]; omega)
        clear hs' hx1
        go_wp2
        go_roundw
        case rel => exact ⟨trivial, k + 2, j, true, _, HN.out, by rw [str_append], rfl, by rw [HKM.out.1]⟩
        case measure => exact HKM.out.2
      · have HKM : Hid ((k : Int) + 1 = ((k + 1 : Nat) : Int) ∧ T.length - (intOf (Value.int .i64 ((k : Int) + 1))).toNat < T.length - (intOf (Value.int .i64 (k : Int))).toNat) := Lib.hid (by simp [intOf]; omega)
        have k4 : (k : Int) + 1 ≤ (T.length : Int) := by omega
        by_cases h34 : c = 34
        · subst h34
          obtain ⟨j, hs'⟩ := scan_quote HS.out hk HCC.out.symm
          have hv : (((34 : UInt8).toNat : Nat) : Int) = 34 := rfl
          rw [hv] at hidx
          have HN := Lib.hid hs'
          clear hs' hA
          cases bb
          all_goals (
            go_wp2
            go_roundw
            case rel => exact ⟨trivial, k + 1, j, _, _, HN.out, by rw [str_append], rfl, by rw [HKM.out.1]⟩
            case measure => exact HKM.out.2)
        · by_cases hp : bb = false ∧ isPt c = true
          · obtain ⟨rfl, hpt⟩ := hp
            obtain ⟨j, hs'⟩ := scan_pt hgl HS.out hk (by rw [← HCC.out]; exact hpt)
            rw [← HCC.out] at hs'
            have HN := Lib.hid hs'
            have hor : c = 44 ∨ c = 58 ∨ c = 91 ∨ c = 93 ∨ c = 123 ∨ c = 125 := by
              unfold isPt at hpt
              simpa [or_assoc] using hpt
            clear hs' hA h34 hpt
            rcases hor with rfl | rfl | rfl | rfl | rfl | rfl
            all_goals (
              have hv44 : (((44 : UInt8).toNat : Nat) : Int) = 44 := rfl
              have hv58 : (((58 : UInt8).toNat : Nat) : Int) = 58 := rfl
              have hv91 : (((91 : UInt8).toNat : Nat) : Int) = 91 := rfl
              have hv93 : (((93 : UInt8).toNat : Nat) : Int) = 93 := rfl
              have hv123 : (((123 : UInt8).toNat : Nat) : Int) = 123 := rfl
              have hv125 : (((125 : UInt8).toNat : Nat) : Int) = 125 := rfl
              first | rw [hv44] at hidx | rw [hv58] at hidx | rw [hv91] at hidx | rw [hv93] at hidx | rw [hv123] at hidx | rw [hv125] at hidx
              clear hv44 hv58 hv91 hv93 hv123 hv125
              go_wp2
              go_roundw
              case rel => exact ⟨trivial, k + 1, j, _, _, HN.out, by rw [str_append, str_append, str_append], rfl, by rw [HKM.out.1]⟩
              case measure => exact HKM.out.2)
          · obtain ⟨j, hs'⟩ := scan_other HS.out hk (by rw [← HCC.out]; exact hA) (by rw [← HCC.out]; exact h34) (by rw [← HCC.out]; exact hp)
            rw [← HCC.out] at hs'
            have HN := Lib.hid hs'
            have f34 : ((c.toNat : Int) == 34) = false := u8_neI h34
            cases bb
            · have hpt : isPt c = false := by
                cases h : isPt c
                · rfl
                · exact absurd ⟨rfl, h⟩ hp
              have hall : c ≠ 44 ∧ c ≠ 58 ∧ c ≠ 91 ∧ c ≠ 93 ∧ c ≠ 123 ∧ c ≠ 125 := by
                refine ⟨?_, ?_, ?_, ?_, ?_, ?_⟩ <;> (rintro rfl; exact absurd hpt (by decide))
              obtain ⟨g1, g2, g3, g4, g5, g6⟩ := hall
              have f44 : ((c.toNat : Int) == 44) = false := u8_neI g1
              have f58 : ((c.toNat : Int) == 58) = false := u8_neI g2
              have f91 : ((c.toNat : Int) == 91) = false := u8_neI g3
              have f93 : ((c.toNat : Int) == 93) = false := u8_neI g4
              have f123 : ((c.toNat : Int) == 123) = false := u8_neI g5
              have f125 : ((c.toNat : Int) == 125) = false := u8_neI g6
              clear hs' hA h34 hp hpt g1 g2 g3 g4 g5 g6
              go_wp2
              go_roundw
              case rel => exact ⟨trivial, k + 1, j, _, _, HN.out, by rw [str_append], rfl, by rw [HKM.out.1]⟩
              case measure => exact HKM.out.2
            · have f92 : ((c.toNat : Int) == 92) = false := u8_neI (fun e => hA ⟨rfl, e⟩)
              clear hs' hA h34 hp
              go_wp2
              go_roundw
              case rel => exact ⟨trivial, k + 1, j, _, _, HN.out, by rw [str_append], rfl, by rw [HKM.out.1]⟩
              case measure => exact HKM.out.2
    · obtain rfl : k = T.length := by omega
      have hO : O = g ++ prG g u := by
        have h := HS.out
        rw [HTP.out] at h
        exact scan_end HM.out h
      have hlen : O.length ≤ 27004 := by omega
      have k1' : ¬ ((T.length : Nat) : Int) < (T.length : Int) := by omega
      have hk65 : ¬ (65536 : Int) < (O.length : Int) := by omega
      have b1 : ¬ 9223372036854775807 < O.length + g.length := by omega
      have CZ := gap_says HH.out HG.out (by rw [← hO, List.length_append]; omega) wr E3.out
      rw [← hO, ← str_append] at CZ
      clear hO hlen HS hkL hOl hk
      go_upto_region 24 with (first
        | (go_at_call 7; ((with_reducible refine CZ.mono ?_); rintro e w5 ⟨k5, t5, x5, n5, c5, y5, p5, q5, at5, code5, v5, rfl, i5, ⟨hv5, rfl⟩, b5⟩; rw [hv5] at i5; clear hv5 v5; have I5 := Lib.hid i5; have B5 := Lib.hid b5; clear i5 b5 CZ))
        | ((with_reducible show wpList _ _ _ (⟨none, .store _ (.tmp 14) (.tmp 131), _, _, _, _⟩ :: _) _ _); refine wpList_store_last rfl 27 _ _ rfl w5.heap.size (row4 k5 t5 x5 n5 c5 y5 p5 q5) rfl rfl 27 zeroV4 rfl HIF.out rfl (row4_all _ _ _ _ _ _ _ _) ?_))
      obtain ⟨W5, hW5⟩ : ∃ W5, W5 = w5.alloc (.cells (row4 k5 t5 x5 n5 c5 y5 p5 q5) 27) := ⟨_, rfl⟩
      rw [← hW5]
      have BB5 : Below w5.heap.size w5 W5 := by rw [hW5]; exact (Below.refl _ _).alloc (Nat.le_refl _) _
      have P5 : Hid (Below wr.heap.size wr W5) := Lib.hid (B5.out.trans (BB5.mono B5.out.size))
      have R5 : Hid (rowC W5 w5.heap.size (row4 k5 t5 x5 n5 c5 y5 p5 q5) 27) := Lib.hid (by rw [hW5]; exact rowC_new _ _ _)
      have R6 : Hid (rowC W5 w1.heap.size (row4 k1 t1 x1 n1 c1 y1 p1 q1) 27) := Lib.hid (rowC_below R3.out P5.out (rowC_lt R3.out))
      have CSm := Same_any HO1.out (I5.out.on BB5) (I3.out.on P5.out)
      have D5 : Hid (Below w.heap.size w W5) := Lib.hid (D3.out.trans (P5.out.mono D3.out.size))
      clear hW5 BB5
      go_wp2_with (first
        | ((with_reducible show wpList _ _ _ (⟨some 137, .load _ (.tmp 14), _, _, _, _⟩ :: _) _ _); refine wpList_load_rowG rfl 27 _ rfl w5.heap.size rfl 27 #[.int .i64 k5, .string t5, .slice x5 n5 c5, .slice y5 p5 q5] _ R5.out Tryz.underlying27 rfl HIF.out ?_)
        | ((with_reducible show wpList _ _ _ (⟨some 138, .load _ (.tmp 5), _, _, _, _⟩ :: _) _ _); refine wpList_load_rowG rfl 27 _ rfl w1.heap.size rfl 27 #[.int .i64 k1, .string t1, .slice x1 n1 c1, .slice y1 p1 q1] _ R6.out Tryz.underlying27 rfl HIF.out ?_)
        | (go_at_call 9; ((with_reducible refine CSm.mono ?_); rintro e w6 ⟨rfl, b6⟩; have D6 := Lib.hid (D5.out.trans (b6.mono D5.out.size)); clear b6 CSm))
        | (go_at_call 6; ((with_reducible refine (noted_any _ (HE.out.below D6.out)).mono ?_); rintro e w7 ⟨rfl, b7⟩)))
      go_ret
      exact ⟨rfl, D6.out.trans (b7.mono D6.out.size)⟩
end Go.Proofs.YtcepemgalammhaaGreatDoor

/- Layer 11: JsonBlanks, of what is handed in. -/
namespace Go.Proofs.YtcepemgalammhaaGreatDoor
open Go.RowKit Go.ChangeShapes Go.WideShapes Go.Deep

theorem getD_in {zs : List Int} {j : Nat} (h : j < zs.length) : zs.getD j 0 ∈ zs := by
  rw [List.getD_eq_getElem?_getD, List.getElem?_eq_getElem h]
  exact List.getElem_mem _
set_option maxRecDepth 100000 in
theorem jblanks_walk {H : Type} {enc : TypeId × Value → H} {base : Nat} {sp : Nat → Bool} {held : Bool} {d d' : DataW H} {p p' : List MemPlace} (a0 : Option Addr) (len0 cap0 : Nat) (a1 : Option Addr) (len1 cap1 : Nat) (W : World)
    (k0 : DataW.Trod enc Tryz.prog W base sp held 22 (.slice a0 len0 cap0) d p) (k1 : DataW.Trod enc Tryz.prog W base sp held 39 (.slice a1 len1 cap1) d' p') (hE : Env W) :
    Calls Tryz.prog 4 #[.slice a0 len0 cap0, .slice a1 len1 cap1] W fun e w' => e = .returned (.bool true) ∧ Below W.heap.size W w' := by
  obtain ⟨fuel, hf⟩ := k0
  obtain ⟨l, xp, cp, he, hP, hl⟩ := open_partsC hf
  obtain ⟨rfl, rfl, rfl⟩ := Value.slice.inj he
  obtain ⟨fuel1, hf1⟩ := k1
  have hz : ∃ z : Nat → Nat, 0 < len1 → ∃ b off, a1 = some ⟨b, off, none⟩ ∧ ∀ j, j < len1 → W.cell? ⟨b, off + j, none⟩ = some (.int .u8 (z j : Int)) ∧ z j < 256 := by
    rcases open_ints Tryz.underlying39 Tryz.underlying5 (by kernel_rfl) hf1 with ⟨hcs, _⟩ | ⟨x, l', c, zs, hcs, _, hl', hm, hz, _, hcell, hwz⟩
    · simp [Value.cells] at hcs
      obtain ⟨rfl, rfl, rfl⟩ := hcs
      exact ⟨fun _ => 0, fun h => absurd h (Nat.lt_irrefl 0)⟩
    · simp [Value.cells] at hcs
      obtain ⟨rfl, rfl, rfl⟩ := hcs
      have hz' : len1 ≤ zs.length := by rw [hz]; split <;> omega
      refine ⟨fun j => (zs.getD j 0).toNat, fun h => ?_⟩
      obtain ⟨b, off, rfl, hc⟩ := ints_at hcell (by omega)
      refine ⟨b, off, rfl, fun j hj => ?_⟩
      obtain ⟨q1, q2⟩ := boundsU8 (hwz (zs.getD j 0) (getD_in (by omega)))
      refine ⟨?_, show (zs.getD j 0).toNat < 256 by omega⟩
      rw [hc j (by omega)]
      show some (Value.int .u8 (zs.getD j 0)) = some (Value.int .u8 (((zs.getD j 0).toNat : Nat) : Int))
      rw [Int.toNat_of_nonneg q1]
  obtain ⟨z, hz⟩ := hz
  exact jblanks_any (z := z) (build_any hP hl) hz hE
end Go.Proofs.YtcepemgalammhaaGreatDoor
