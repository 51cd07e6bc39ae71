/- Merged: DxC, OcR, JuB. -/
import Derived.Test.YtnkencdibniagaaGreatDoorM09
import Derived.Test.YtnkencdibniagaaGreatDoorM02
import Derived.Test.YtnkencdibniagaaGreatDoorM03
import Derived.Test.YtnkencdibniagaaGreatDoorM05
import Derived.Great.Walk
/- Layer 5, for whoever stands on it: a digest's text, as the document has it. (Out of DigC.) -/
namespace Go.Proofs.YtnkencdibniagaaGreatDoor
open Go.RowKit

theorem take_snoc8 (l : List UInt8) (k : Nat) (h : k < l.length) : l.take (k + 1) = l.take k ++ [l.getD k 0] := by
  rw [List.take_succ_eq_append_getElem h, List.getD_eq_getElem?_getD, List.getElem?_eq_getElem h]; rfl
theorem cells8_at' {w : World} {b : Nat} {l : List UInt8} {t : TypeId} (h : rowC w b (cells8 l) t) {k : Nat} (hk : k < l.length) : w.cell? ⟨b, k, none⟩ = some (.int .u8 ((l.getD k 0).toNat : Int)) := by
  rw [rowC_cell h, cells8_get l k hk]; rfl
theorem text_step (l : List UInt8) (k : Nat) (h : k < l.length) :
    str (nameL ++ hexL (l.take k)) ++ str [hexB ((l.getD k 0).toNat / 16)] ++ str [hexB ((l.getD k 0).toNat % 16)] = str (nameL ++ hexL (l.take (k + 1))) := by
  rw [str_append, str_append, take_snoc8 l k h, hexL_snoc]
  congr 1
  simp
theorem text_size (l : List UInt8) (k : Nat) (h : k ≤ l.length) : (str (nameL ++ hexL (l.take k))).size = 7 + 2 * k := by
  rw [str_size, List.length_append, hexL_length, List.length_take, Nat.min_eq_left h]; rfl
set_option maxRecDepth 100000 in
set_option maxHeartbeats 1000000 in
theorem rtext_any (l : List UInt8) (w : World) (hl : l.length = 32) :
    Calls Tryz.prog 65 #[.agg (cells8 l)] w fun e w' => e = .returned (.string (str (textL l))) ∧ Below w.heap.size w w' := by
  have HL := Lib.hid hl
  clear hl
  go_enter Tryz.func65, Tryz.ntmps65
  go_wp2
  go_loopw [3, 4] (fun s i wr => ∃ k : Nat, k ≤ 32 ∧ i = .int .i64 k ∧ s = .string (str (nameL ++ hexL (l.take k))) ∧ rowC wr w.heap.size (cells8 l) 24 ∧ Below w.heap.size w wr) (fun _ i _ => 32 - (intOf i).toNat)
  case atStart => exact ⟨0, by omega, rfl, rfl, rowC_new w _ _, (Below.refl _ _).alloc (Nat.le_refl _) _⟩
  case round =>
    obtain ⟨k, hk, rfl, rfl, hr, hb⟩ := hrel
    have HR := Lib.hid hr
    have HB := Lib.hid hb
    by_cases hlt : k < 32
    · have hki : (k : Int) < 32 := by omega
      have h0 : (0 : Int) ≤ k := by omega
      have c0 := cells8_at' hr (k := k) (by rw [HL.out]; exact hlt)
      have HS := Lib.hid (text_step l k (by rw [HL.out]; exact hlt))
      have sz := text_size l k (by rw [HL.out]; omega)
      clear hr hb
      obtain ⟨x, hx⟩ : ∃ x, x = (l.getD k 0).toNat := ⟨_, rfl⟩
      have hx2 : x < 256 := by rw [hx]; exact UInt8.toNat_lt _
      rw [← hx] at c0 HS
      clear hx
      have q1 : (x : Int) / 16 = ((x / 16 : Nat) : Int) := by omega
      have q2 : (x : Int) % 16 = ((x % 16 : Nat) : Int) := by omega
      have z1 : (str [hexB (x / 16)]).size = 1 := rfl
      have z2 : (str [hexB (x % 16)]).size = 1 := rfl
      have d1 := fun (w : World) => digit_any (x / 16) w (by omega)
      have d2 := fun (w : World) => digit_any (x % 16) w (by omega)
      rw [← q1] at d1
      rw [← q2] at d2
      clear q1 q2
      go_wp2
      go_quiet ((first
        | (go_at_call 96; exact qs (d1 _))
        | (go_at_call 96; exact qs (d2 _))))
      go_wp2
      go_roundw
      case rel => exact ⟨k + 1, by omega, by go_num, by rw [← HS.out], rowC_drewN HR.out _, below_drewN HB.out _⟩
      case measure => simp [intOf]; omega
    · obtain rfl : k = 32 := by omega
      go_wp2
      go_ret
      exact ⟨retStr (by unfold textL; rw [List.take_of_length_le (by rw [HL.out]; omega)]), HB.out⟩
end Go.Proofs.YtnkencdibniagaaGreatDoor

/- Layer 11, plain: a text that is wrong is told so by 10 or 11. -/
namespace Go.Proofs.YtnkencdibniagaaGreatDoor

def is10 {α : Type} (R : Res α) : Prop := match R with | .ok _ _ => True | .bad c _ => c = 10
def is1x {α : Type} (R : Res α) : Prop := match R with | .ok _ _ => True | .bad c _ => c = 10 ∨ c = 11
theorem is10.up {α : Type} {R : Res α} (h : is10 R) : is1x R := by
  cases R with
  | ok _ _ => trivial
  | bad c r => exact .inl h
theorem is1x.map {α β : Type} {R : Res α} (h : is1x R) (f : α → β) : is1x (R.map f) := by
  cases R with
  | ok _ _ => trivial
  | bad c r => exact h
theorem word_10 : ∀ (w l : Bs), is10 (wordP w l)
  | [], _ => trivial
  | c :: w, l => by
    rw [wordP]
    split
    · exact word_10 w _
    · rfl
theorem dig_10 (l : Bs) : is10 (digP l) := by
  unfold digP
  split
  · rfl
  · trivial
theorem exp_10 (l : Bs) : is10 (expP l) := by
  unfold expP
  split
  · split
    · exact dig_10 _
    · exact dig_10 _
  · trivial
theorem frac_10 (l : Bs) : is10 (fracP l) := by
  unfold fracP
  split
  · have := dig_10 l.tail
    split
    · rename_i h
      rw [h] at this
      exact this
    · exact exp_10 _
  · exact exp_10 _
theorem int_10 (l : Bs) : is10 (intP l) := by
  unfold intP
  split
  · exact frac_10 _
  · have := dig_10 l
    split
    · rename_i h
      rw [h] at this
      exact this
    · exact frac_10 _
theorem num_10 (l : Bs) : is10 (numP l) := by
  unfold numP
  split
  · exact int_10 _
  · exact int_10 _
theorem unit_10 : ∀ (k c : Nat) (l : Bs), is10 (unitP k c l)
  | 0, _, _ => trivial
  | k + 1, c, l => by
    rw [unitP]
    split
    · exact unit_10 k _ _
    · rfl
theorem low_10 (fr : Bs) (c : Nat) (r : Bs) : is10 (lowP fr c r) := by
  unfold lowP
  split
  · rfl
  · split
    · have := unit_10 4 0 r.tail.tail
      split
      · rename_i h
        rw [h] at this
        exact this
      · split
        · trivial
        · rfl
    · rfl
theorem units_10 (fr l : Bs) : is10 (unitsP fr l) := by
  unfold unitsP
  have := unit_10 4 0 l
  split
  · rename_i h
    rw [h] at this
    exact this
  · split
    · rfl
    · split
      · exact low_10 _ _ _
      · trivial
theorem esc_10 (fr l : Bs) : is10 (escP fr l) := by
  unfold escP
  split
  · exact units_10 _ _
  · split
    · trivial
    · split
      · trivial
      · rfl
theorem one_10 (l : Bs) : is10 (oneP l) := by
  unfold oneP
  split
  · exact esc_10 _ _
  · split
    · rfl
    · trivial
theorem str_10 : ∀ (n : Nat) (l acc : Bs) (R : Res Bs), strP n l acc = some R → is10 R
  | 0, _, _, _, h => by rw [strP] at h; cases h
  | n + 1, l, acc, R, h => by
    rw [strP] at h
    split at h
    · injection h with h
      subst h
      trivial
    · have := one_10 l
      split at h
      · rename_i h1
        injection h with h
        subst h
        rw [h1] at this
        exact this
      · exact str_10 n _ _ _ h
theorem quo_10 (n : Nat) (l : Bs) (R : Res Bs) (h : quoP n l = some R) : is10 R := by
  unfold quoP at h
  split at h
  · exact str_10 _ _ _ _ h
  · injection h with h
    subst h
    rfl
theorem key_10 (n : Nat) (seen : List Bs) (l : Bs) (R : Res Bs) (h : keyP n seen l = some R) : is10 R := by
  unfold keyP at h
  split at h
  · cases h
  · rename_i h1
    injection h with h
    subst h
    exact quo_10 _ _ _ h1
  · split at h
    · injection h with h
      subst h
      rfl
    · split at h
      · injection h with h
        subst h
        trivial
      · injection h with h
        subst h
        rfl
theorem parts_1x {α : Type} (e : UInt8) (step : α → Bs → Option (Res α)) (hs : ∀ a l R, step a l = some R → is1x R) : ∀ (n : Nat) (first : Bool) (acc : α) (l : Bs) (R : Res α), partsP e step n first acc l = some R → is1x R
  | 0, _, _, _, _, h => by rw [partsP] at h; cases h
  | n + 1, first, acc, l, R, h => by
    rw [partsP] at h
    split at h
    · injection h with h
      subst h
      trivial
    · split at h
      · split at h
        · cases h
        · rename_i h1
          injection h with h
          subst h
          exact hs _ _ _ h1
        · exact parts_1x e step hs n _ _ _ _ h
      · split at h
        · split at h
          · cases h
          · rename_i h1
            injection h with h
            subst h
            exact hs _ _ _ h1
          · exact parts_1x e step hs n _ _ _ _ h
        · injection h with h
          subst h
          exact .inl rfl
theorem val_1x : ∀ (n lev : Nat) (l : Bs) (R : Res JV), valP n lev l = some R → is1x R
  | 0, _, _, _, h => by rw [valP] at h; cases h
  | n + 1, lev, l, R, h => by
    rw [valP] at h
    have ih := fun l R => val_1x n (lev + 1) l R
    have hsL : ∀ a l R, stepL (valP n (lev + 1)) a l = some R → is1x R := by
      intro a l R h
      unfold stepL at h
      split at h
      · cases h
      · rename_i h1
        injection h with h
        subst h
        have := ih _ _ h1
        exact this
      · injection h with h
        subst h
        trivial
    have hsO : ∀ a l R, stepO n (valP n (lev + 1)) a l = some R → is1x R := by
      intro a l R h
      unfold stepO at h
      split at h
      · cases h
      · rename_i h1
        injection h with h
        subst h
        have := (key_10 _ _ _ _ h1).up
        exact this
      · split at h
        · cases h
        · rename_i h1
          injection h with h
          subst h
          have := ih _ _ h1
          exact this
        · injection h with h
          subst h
          trivial
    unfold valB at h
    split at h
    · injection h with h
      subst h
      exact (word_10 _ _).up.map _
    split at h
    · injection h with h
      subst h
      exact (word_10 _ _).up.map _
    split at h
    · injection h with h
      subst h
      exact (word_10 _ _).up.map _
    split at h
    · rw [Option.map_eq_some_iff] at h
      obtain ⟨Q, h1, rfl⟩ := h
      exact (quo_10 _ _ _ h1).up.map _
    split at h
    · split at h
      · injection h with h
        subst h
        exact .inr rfl
      · rw [Option.map_eq_some_iff] at h
        obtain ⟨Q, h1, rfl⟩ := h
        exact (parts_1x _ _ hsL _ _ _ _ _ h1).map _
    split at h
    · split at h
      · injection h with h
        subst h
        exact .inr rfl
      · rw [Option.map_eq_some_iff] at h
        obtain ⟨Q, h1, rfl⟩ := h
        exact (parts_1x _ _ hsO _ _ _ _ _ h1).map _
    · injection h with h
      subst h
      unfold mkN
      have := num_10 (dropB l)
      split
      · rename_i h1
        rw [h1] at this
        exact .inl this
      · trivial
/-- What is wrong with a text is told by 10 or by 11. -/
theorem all_1x (n : Nat) (l : Bs) (c : Nat) (r : Bs) (h : allP n l = some (.bad c r)) : c = 10 ∨ c = 11 := by
  unfold allP at h
  split at h
  · cases h
  · rename_i h1
    injection h with h
    injection h with h _
    subst h
    exact val_1x _ _ _ _ h1
  · split at h
    · cases h
    · injection h with h
      injection h with h _
      exact .inl h.symm
end Go.Proofs.YtnkencdibniagaaGreatDoor

/- Layer 11: a number below 32, to the base 16. -/
namespace Go.Proofs.YtnkencdibniagaaGreatDoor
open Go.RowKit

def dig36 : Bs := [48, 49, 50, 51, 52, 53, 54, 55, 56, 57, 97, 98, 99, 100, 101, 102, 103, 104, 105, 106, 107, 108, 109, 110, 111, 112, 113, 114, 115, 116, 117, 118, 119, 120, 121, 122]
theorem dig36_at : ∀ k : Fin 16, dig36.getD k.val 0 = hexd k.val := by decide
def hexS (c : Nat) : Bs := if c < 16 then [hexd c] else [49, hexd (c - 16)]
theorem idx_dig (k : Nat) (hk : k < 16) (w : World) : (Instr.index 9 (.string ⟨#[48, 49, 50, 51, 52, 53, 54, 55, 56, 57, 97, 98, 99, 100, 101, 102, 103, 104, 105, 106, 107, 108, 109, 110, 111, 112, 113, 114, 115, 116, 117, 118, 119, 120, 121, 122]⟩) (.int .u64 (k : Int))).run Tryz.prog w = .ok (.int .u8 ((hexd k).toNat : Int)) w := by
  have := idx_strK .u64 (str dig36) k (k : Int) rfl (by rw [str_size]; show k < 36; omega) w
  rw [str_toList, dig36_at ⟨k, hk⟩] at this
  exact this
theorem pow16 (w : World) : Calls Tryz.prog 194 #[.int .i64 16] w fun e w' => e = .returned (.bool true) ∧ w' = w := by
  go_enter Tryz.func194, Tryz.ntmps194
  go_wp2
  go_ret
  exact ⟨rfl, rfl⟩
theorem tz16 (w : World) (h : w.cell? ⟨9, 15, none⟩ = some (.int .u8 4)) : Calls Tryz.prog 203 #[.int .u64 16] w fun e w' => e = .returned (.int .i64 4) ∧ w' = w := by
  have hb : bits BinOp.and .u64 16 (IntKind.u64.wrap (-16)) = 16 := by decide
  have hw : IntKind.u64.wrap (16 * 285870213051353865) / 288230376151711744 = 15 := by decide
  go_enter Tryz.func203, Tryz.ntmps203
  go_wp2
  go_ret
  exact ⟨rfl, rfl⟩
theorem tzs16 (w : World) (h : w.cell? ⟨9, 15, none⟩ = some (.int .u8 4)) : Calls Tryz.prog 195 #[.int .u64 16] w fun e w' => e = .returned (.int .i64 4) ∧ w' = w := by
  go_enter Tryz.func195, Tryz.ntmps195
  go_wp2_with (go_at_call 203; ((with_reducible refine (tz16 w h).mono ?_); rintro e w2 ⟨rfl, rfl⟩))
  go_ret
  exact ⟨rfl, rfl⟩
theorem run_alloc65 (w : World) (ρ : Operand → Value) (o : Oper) (ho : o.op = .alloc 271) : (execOp ρ o).run Tryz.prog w = .ok (.value (.pointer (some ⟨w.heap.size, 0, none⟩))) (w.alloc (.cells (cells8 (List.replicate 65 0)) 271)) := by
  unfold execOp
  rw [ho]
  kernel_rfl
theorem wpList_alloc65 {ops : Array Oper} {rest : List Oper} {o : Oper} {a : Act} {w : World} {Q : Exit → Act → World → Prop} (hg : o.guard = none) (ho : o.op = .alloc 271) (n : Nat) (hn : n = w.heap.size)
    (h : wpList Tryz.prog ops Q rest (a.put o.dst (.pointer (some ⟨n, 0, none⟩))) (w.alloc (.cells (cells8 (List.replicate 65 0)) 271))) : wpList Tryz.prog ops Q (o :: rest) a w := by
  subst hn
  exact Great.wpList_allocTo hg _ rfl _ _ (run_alloc65 w _ o ho) h
theorem conv_at (w : World) (b : Nat) (l : Bs) (t : TypeId) (h : rowC w b (cells8 l) t) (off n cap : Nat) (hn : off + n = l.length) :
    (convert 132 9 (.slice (some ⟨b, off, none⟩) n cap)).run Tryz.prog w = .ok (.string (str (l.drop off))) w := by
  rw [run_convert_bytes_arg w 132 5 Tryz.underlying132 Tryz.underlying5 b off n cap ((l.drop off).map fun b => (b.toNat : Int)) (by simp; omega) (fun i hi => ?_) 9 Tryz.underlying9, str_nums]
  rw [rowC_cell h, cells8_get _ _ (by omega)]
  have h1 : i < (l.drop off).length := by rw [List.length_drop]; omega
  simp [List.getD_eq_getElem?_getD, byteV, List.getElem?_eq_getElem (show off + i < l.length by omega)]
set_option maxRecDepth 100000 in
set_option maxHeartbeats 4000000 in
theorem fmtBits_small (c : Nat) (hc : c < 16) (w : World) (h : w.cell? ⟨9, 15, none⟩ = some (.int .u8 4)) :
    Calls Tryz.prog 177 #[.slice none 0 0, .int .u64 (c : Int), .int .i64 16, .bool false, .bool false] w fun e w' => e = .returned (.tuple #[.slice none 0 0, .string (str (hexS c))]) ∧ Below w.heap.size w w' := by
  have hidx := idx_dig c hc
  obtain ⟨W0, hW0⟩ : ∃ W0, W0 = w.alloc (.cells (cells8 (List.replicate 65 0)) 271) := ⟨_, rfl⟩
  have R0 : rowC W0 w.heap.size (cells8 (List.replicate 65 0)) 271 := by rw [hW0]; exact rowC_new w _ _
  have B0 : Below w.heap.size w W0 := by rw [hW0]; exact (Below.refl _ _).alloc (Nat.le_refl _) _
  have h0 : W0.cell? ⟨9, 15, none⟩ = some (.int .u8 4) := (B0.cell (World.block_lt_of_cell? w _ h)).trans h
  have P := pow16 W0
  have T := tzs16 W0 h0
  have c0 := rowC_cell R0 64
  have f0 := rowC_free R0 64
  have R1 := rowC_set R0 64 (byteV (hexd c))
  rw [cells8_set] at R1
  have cv : (convert 132 9 (.slice (some ⟨w.heap.size, 64, none⟩) 1 1)).run Tryz.prog (W0.setCell ⟨w.heap.size, 64, none⟩ (.int .u8 ((hexd c).toNat : Int))) = .ok (.string (str [hexd c])) (W0.setCell ⟨w.heap.size, 64, none⟩ (.int .u8 ((hexd c).toNat : Int))) := conv_at _ _ _ _ R1 64 1 1 (by simp)
  have HF : Hid (Below w.heap.size w (W0.setCell ⟨w.heap.size, 64, none⟩ (.int .u8 ((hexd c).toNat : Int)))) := Lib.hid (B0.setCell (p := ⟨w.heap.size, 64, none⟩) (Nat.le_refl _) _)
  have HX : Hid (hexS c = [hexd c]) := Lib.hid (if_pos hc)
  have HW0 := Lib.hid hW0
  have HB0 := Lib.hid B0
  have hlt : ¬ ((16 : Int) ≤ (c : Int)) := by omega
  clear hW0 B0 R0 R1 h h0
  go_enter Tryz.func177, Tryz.ntmps177
  go_wp2_with (first
    | ((with_reducible show wpList _ _ _ (⟨some 12, .alloc _, _, _, _, _⟩ :: _) _ _); refine wpList_alloc65 rfl rfl w.heap.size rfl ?_; rw [← HW0.out])
    | (go_at_call 194; ((with_reducible refine P.mono ?_); rintro e w2 ⟨rfl, rfl⟩))
    | (go_at_call 195; ((with_reducible refine T.mono ?_); rintro e w2 ⟨rfl, rfl⟩)))
  refine wp_loop_rounds 1 ?_
  rw [rounds_succ]
  go_wp2
  go_ret2
  rw [HX.out]
  exact ⟨rfl, HF.out⟩
set_option maxRecDepth 100000 in
set_option maxHeartbeats 4000000 in
theorem fmtBits_big (c : Nat) (h16 : 16 ≤ c) (hc : c < 32) (w : World) (h : w.cell? ⟨9, 15, none⟩ = some (.int .u8 4)) :
    Calls Tryz.prog 177 #[.slice none 0 0, .int .u64 (c : Int), .int .i64 16, .bool false, .bool false] w fun e w' => e = .returned (.tuple #[.slice none 0 0, .string (str (hexS c))]) ∧ Below w.heap.size w w' := by
  obtain ⟨d, rfl⟩ : ∃ d, c = 16 + d := ⟨c - 16, by omega⟩
  have hidx := idx_dig d (by omega)
  have hidx1 : ∀ w, (Instr.index 9 (.string ⟨#[48, 49, 50, 51, 52, 53, 54, 55, 56, 57, 97, 98, 99, 100, 101, 102, 103, 104, 105, 106, 107, 108, 109, 110, 111, 112, 113, 114, 115, 116, 117, 118, 119, 120, 121, 122]⟩) (.int .u64 1)).run Tryz.prog w = .ok (.int .u8 49) w := idx_dig 1 (by decide)
  obtain ⟨W0, hW0⟩ : ∃ W0, W0 = w.alloc (.cells (cells8 (List.replicate 65 0)) 271) := ⟨_, rfl⟩
  have R0 : rowC W0 w.heap.size (cells8 (List.replicate 65 0)) 271 := by rw [hW0]; exact rowC_new w _ _
  have B0 : Below w.heap.size w W0 := by rw [hW0]; exact (Below.refl _ _).alloc (Nat.le_refl _) _
  have h0 : W0.cell? ⟨9, 15, none⟩ = some (.int .u8 4) := (B0.cell (World.block_lt_of_cell? w _ h)).trans h
  have P := pow16 W0
  have T := tzs16 W0 h0
  have c0 := rowC_cell R0 64
  have f0 := rowC_free R0 64
  have R1 := rowC_set R0 64 (byteV (hexd d))
  rw [cells8_set] at R1
  have c1 : (W0.setCell ⟨w.heap.size, 64, none⟩ (.int .u8 ((hexd d).toNat : Int))).cell? ⟨w.heap.size, 63, none⟩ = some (byteV 0) := rowC_cell R1 63
  have f1 : (W0.setCell ⟨w.heap.size, 64, none⟩ (.int .u8 ((hexd d).toNat : Int))).frozen? ⟨w.heap.size, 63, none⟩ = false := rowC_free R1 63
  have R2 := rowC_set R1 63 (byteV (hexd 1))
  rw [cells8_set] at R2
  have cv : (convert 132 9 (.slice (some ⟨w.heap.size, 63, none⟩) 2 2)).run Tryz.prog ((W0.setCell ⟨w.heap.size, 64, none⟩ (.int .u8 ((hexd d).toNat : Int))).setCell ⟨w.heap.size, 63, none⟩ (.int .u8 49)) = .ok (.string (str [49, hexd d])) ((W0.setCell ⟨w.heap.size, 64, none⟩ (.int .u8 ((hexd d).toNat : Int))).setCell ⟨w.heap.size, 63, none⟩ (.int .u8 49)) := conv_at _ _ _ _ R2 63 2 2 (by simp)
  have HF : Hid (Below w.heap.size w ((W0.setCell ⟨w.heap.size, 64, none⟩ (.int .u8 ((hexd d).toNat : Int))).setCell ⟨w.heap.size, 63, none⟩ (.int .u8 49))) := Lib.hid ((B0.setCell (p := ⟨w.heap.size, 64, none⟩) (Nat.le_refl _) _).setCell (p := ⟨w.heap.size, 63, none⟩) (Nat.le_refl _) _)
  have HX : Hid (hexS (16 + d) = [49, hexd d]) := Lib.hid (by unfold hexS; rw [if_neg (by omega), Nat.add_sub_cancel_left])
  have HW0 := Lib.hid hW0
  have HB0 := Lib.hid B0
  have hge : (16 : Int) ≤ 16 + (d : Int) := by omega
  have hand : bits BinOp.and .u64 (16 + (d : Int)) 15 = (d : Int) := by
    have : ∀ d : Fin 16, bits BinOp.and .u64 (16 + (d.val : Int)) 15 = (d.val : Int) := by decide
    exact this ⟨d, by omega⟩
  have hshr : (16 + (d : Int)) / 16 = 1 := by omega
  clear hW0 B0 R0 R1 R2 h h0
  go_enter Tryz.func177, Tryz.ntmps177
  go_wp2_with (first
    | ((with_reducible show wpList _ _ _ (⟨some 12, .alloc _, _, _, _, _⟩ :: _) _ _); refine wpList_alloc65 rfl rfl w.heap.size rfl ?_; rw [← HW0.out])
    | (go_at_call 194; ((with_reducible refine P.mono ?_); rintro e w2 ⟨rfl, rfl⟩))
    | (go_at_call 195; ((with_reducible refine T.mono ?_); rintro e w2 ⟨rfl, rfl⟩)))
  refine wp_loop_rounds 2 ?_
  rw [rounds_succ]
  go_wp2
  rw [rounds_succ]
  go_wp2
  go_ret2
  rw [HX.out]
  exact ⟨rfl, HF.out⟩
theorem fmtBits_any (c : Nat) (hc : c < 32) (w : World) (h : w.cell? ⟨9, 15, none⟩ = some (.int .u8 4)) :
    Calls Tryz.prog 177 #[.slice none 0 0, .int .u64 (c : Int), .int .i64 16, .bool false, .bool false] w fun e w' => e = .returned (.tuple #[.slice none 0 0, .string (str (hexS c))]) ∧ Below w.heap.size w w' := by
  by_cases h16 : c < 16
  · exact fmtBits_small c h16 w h
  · exact fmtBits_big c (by omega) hc w h
theorem ifmt_any (c : Nat) (hc : c < 32) (w : World) (h : w.cell? ⟨9, 15, none⟩ = some (.int .u8 4)) :
    Calls Tryz.prog 153 #[.int .i64 (c : Int), .int .i64 16] w fun e w' => e = .returned (.string (str (hexS c))) ∧ Below w.heap.size w w' := by
  have C := fmtBits_any c hc w h
  have h0 : ¬ ((c : Int) < 0) := by omega
  have hb : (c : Int) ≤ 31 := by omega
  clear h
  go_enter Tryz.func153, Tryz.ntmps153
  go_wp2_with (go_at_call 177; ((with_reducible refine C.mono ?_); rintro e w2 ⟨rfl, hb2⟩))
  go_ret
  exact ⟨rfl, hb2⟩
theorem fmt_any (c : Nat) (hc : c < 32) (w : World) (h : w.cell? ⟨9, 15, none⟩ = some (.int .u8 4)) :
    Calls Tryz.prog 164 #[.int .i64 (c : Int), .int .i64 16] w fun e w' => e = .returned (.string (str (hexS c))) ∧ Below w.heap.size w w' := by
  have C := ifmt_any c hc w h
  clear h
  go_enter Tryz.func164, Tryz.ntmps164
  go_wp2_with (go_at_call 153; ((with_reducible refine C.mono ?_); rintro e w2 ⟨rfl, hb2⟩))
  go_ret
  exact ⟨rfl, hb2⟩
end Go.Proofs.YtnkencdibniagaaGreatDoor

