/- Merged: JsX, JuC, JuD. -/
import Derived.Test.YtnkencdibniagaaGreatDoorM07
import Derived.Test.YtnkencdibniagaaGreatDoorM10
import Derived.Test.YtnkencdibniagaaGreatDoorM04
import Derived.Deep.LoopGhost
import Derived.Lib.OthersKept
import Derived.WalkMore
/- Layer 11: the library's (*strings.Builder).WriteString, its structure laid by hand. -/
namespace Go.Proofs
open Go.Shelf
end Go.Proofs

/- Layer 11: strings.IndexRune at what is escaped, of runes beyond 127. -/
namespace Go.Proofs.YtnkencdibniagaaGreatDoor
open Go.RowKit

def escdL : Bs := [34, 92, 8, 12, 10, 13, 9]
theorem escd_at : ∀ k : Fin 7, (escdL.getD k.val 0).toNat < 128 ∧ (escdL.getD k.val 0).toNat ≠ 65533 := by decide
structure ItW (w : World) (s : ByteArray) (b k : Nat) (wr : World) : Prop where
  it : wr.heap[b]? = some (.stringIter s k)
  le : k ≤ s.size
  bel : Below w.heap.size w wr
set_option maxRecDepth 100000 in
set_option maxHeartbeats 8000000 in
theorem index_err (w : World) : Calls Tryz.prog 163 #[.string ⟨#[34, 92, 8, 12, 10, 13, 9]⟩, .int .i32 65533] w fun e w' => e = .returned (.int .i64 (-1)) ∧ Below w.heap.size w w' := by
  rw [show (⟨#[34, 92, 8, 12, 10, 13, 9]⟩ : ByteArray) = str escdL from rfl]
  have h0 : Hid (ItW w (str escdL) w.heap.size 0 (w.alloc (.stringIter (str escdL) 0))) := Lib.hid ⟨heap_alloc_new w _, by decide, (Below.refl _ _).alloc (Nat.le_refl _) _⟩
  have hsz : (str escdL).size = 7 := rfl
  have HSZ := Lib.hid hsz
  generalize hs : str escdL = s at *
  have HSS := Lib.hid hs
  go_enter Tryz.func163, Tryz.ntmps163
  go_wp2
  go_loopg [] 7 (fun n wr => ∃ k, ItW w s w.heap.size k wr ∧ Hid (n = 7 - k))
  case atStart => exact ⟨0, h0.out, Lib.hid rfl⟩
  case round =>
    obtain ⟨k, hI, HN⟩ := hrel
    by_cases hk : k < 7
    · have hb : (escdL.getD k 0).toNat < 128 ∧ (escdL.getD k 0).toNat ≠ 65533 := escd_at ⟨k, hk⟩
      have hget : ((s[k]'(by rw [HSZ.out]; exact hk)).toNat : Int) = ((escdL.getD k 0).toNat : Int) := by
        subst hs
        have : (str escdL)[k]'(by rw [HSZ.out]; exact hk) = escdL.getD k 0 := by
          rw [List.getD_eq_getElem?_getD, List.getElem?_eq_getElem (show k < escdL.length from hk)]; rfl
        rw [this]
      have hnx := fun ty => Lib.run_next_ascii_at (P := Tryz.prog) wr _ _ _ ty hI.it (by rw [HSZ.out]; exact hk) (by have := hb.1; omega)
      rw [hget] at hnx
      have hne : ¬ ((escdL.getD k 0).toNat : Int) = 65533 := by have := hb.2; omega
      generalize ((escdL.getD k 0).toNat : Int) = c at hnx hne
      have HI2 := Lib.hid (show ItW w s w.heap.size (k + 1) (wr.iterAt w.heap.size s (k + 1)) by
        exact ⟨Lib.iterAt_heap _ _ _ _ _ hI.it, by rw [HSZ.out]; exact hk, Lib.below_iterAt hI.bel (Nat.le_refl _) _ _⟩)
      generalize wr.iterAt w.heap.size s (k + 1) = wq at *
      clear hI hb hget hs
      go_wp2
      go_roundg (7 - (k + 1))
      case measure => rw [HN.out]; omega
      case rel => exact ⟨k + 1, HI2.out, Lib.hid rfl⟩
    · have hnx := fun ty => Lib.run_next_end_at (P := Tryz.prog) wr _ _ _ ty hI.it (by rw [HSZ.out]; exact hk)
      have HB := Lib.hid hI.bel
      clear hI hs
      go_wp2
      go_ret
      exact ⟨rfl, HB.out⟩
theorem utf_enc {c : Nat} (hc : scal c) : Utf8.encode (c : Int) = str (Lib.encodeRune (c : Int)) := by
  unfold scal at hc
  refine bytes_toList ?_
  rw [str_toList]
  unfold Lib.encodeRune
  have v : Utf8.valid (c : Int) = true := by simp [Utf8.valid]; omega
  by_cases h1 : c < 128
  · rw [Lib.encodeRuneZ_one (by omega) (by omega)]
    simp [Utf8.encode, v, h1]
  by_cases h2 : c < 2048
  · rw [Lib.encodeRuneZ_two (by omega) (by omega)]
    have e0 : (192 + (c : Int) / 64).toNat = 192 + c / 64 := by omega
    have e1 : (128 + (c : Int) % 64).toNat = 128 + c % 64 := by omega
    simp only [List.map_cons, List.map_nil, e0, e1]
    simp [Utf8.encode, v, h1, h2]
  by_cases h3 : c < 65536
  · rw [Lib.encodeRuneZ_three (by omega)]
    have e0 : (224 + (c : Int) / 4096).toNat = 224 + c / 4096 := by omega
    have e1 : (128 + (c : Int) / 64 % 64).toNat = 128 + c / 64 % 64 := by omega
    have e2 : (128 + (c : Int) % 64).toNat = 128 + c % 64 := by omega
    simp only [List.map_cons, List.map_nil, e0, e1, e2]
    simp [Utf8.encode, v, h1, h2, h3]
  · rw [Lib.encodeRuneZ_four (by omega) (by omega)]
    have e0 : (240 + (c : Int) / 262144).toNat = 240 + c / 262144 := by omega
    have e1 : (128 + (c : Int) / 4096 % 64).toNat = 128 + c / 4096 % 64 := by omega
    have e2 : (128 + (c : Int) / 64 % 64).toNat = 128 + c / 64 % 64 := by omega
    have e3 : (128 + (c : Int) % 64).toNat = 128 + c % 64 := by omega
    simp only [List.map_cons, List.map_nil, e0, e1, e2, e3]
    simp [Utf8.encode, v, h1, h2, h3]
theorem scal_valid {c : Nat} (hc : scal c) : Lib.validRune (c : Int) = true := by
  unfold scal at hc
  unfold Lib.validRune
  simp
  omega
theorem indexByte_none : ∀ (l : Bs) (b : UInt8), b ∉ l → Lib.indexByte l b = -1
  | [], _, _ => rfl
  | c :: l, b, h => by
    have h1 : ¬ c = b := fun e => h (by simp [e])
    have h2 := indexByte_none l b (fun e => h (by simp [e]))
    rw [Lib.indexByte, if_neg (by simpa using h1), h2]; rfl
theorem escd_low : ∀ c ∈ escdL, c.toNat < 128 := by decide
theorem index_tail (k : Nat) {b : UInt8} (hb : 128 ≤ b.toNat) : Lib.indexByte (escdL.drop k) b = -1 :=
  indexByte_none _ _ fun h => by have := escd_low b (List.mem_of_mem_drop h); omega
theorem enc_two {c : Nat} (hc : scal c) (h : 128 ≤ c) : 2 ≤ (Lib.encodeRune (c : Int)).length := by
  unfold scal at hc
  unfold Lib.encodeRune
  rw [List.length_map]
  by_cases h2 : c < 2048
  · rw [Lib.encodeRuneZ_two (by omega) (by omega)]; simp
  by_cases h3 : c < 65536
  · rw [Lib.encodeRuneZ_three (by omega)]; simp
  · rw [Lib.encodeRuneZ_four (by omega) (by omega)]; simp
set_option maxRecDepth 100000 in
set_option maxHeartbeats 8000000 in
theorem index_big {c : Nat} (hc : scal c) (h128 : 128 ≤ c) (hne : c ≠ 65533) (w : World) : Calls Tryz.prog 163 #[.string ⟨#[34, 92, 8, 12, 10, 13, 9]⟩, .int .i32 (c : Int)] w fun e w' => e = .returned (.int .i64 (-1)) ∧ Below w.heap.size w w' := by
  have V := fun w => Tryz.utf8_ValidRune (c : Int) w
  rw [scal_valid hc] at V
  have h1 := enc_two hc h128
  have h2 := enc_le c
  have h3 := enc_big hc h128
  have hE := utf_enc hc
  generalize Lib.encodeRune (c : Int) = l at h1 h2 h3 hE
  have hsz : (str l).size = l.length := str_size l
  have hlast : ∀ n, n < l.length → 128 ≤ (l.getD n 0).toNat := fun n hn => h3 _ (by rw [List.getD_eq_getElem?_getD, List.getElem?_eq_getElem hn]; exact List.getElem_mem hn)
  have hidx := fun n (hn : n < l.length) => idx_str (str l) n (n : Int) rfl (by rw [hsz]; exact hn)
  rw [str_toList] at hidx
  have hS : (⟨#[34, 92, 8, 12, 10, 13, 9]⟩ : ByteArray) = str escdL := rfl
  rw [hS]
  have hs7 : (str escdL).size = 7 := rfl
  have sidx := fun n (hn : n < 7) => idx_str (str escdL) n (n : Int) rfl hn
  rw [str_toList] at sidx
  have c0 : (128 : Int) ≤ c := by omega
  have c1 : ¬ (c : Int) < 128 := by omega
  have c2 : ¬ (c : Int) = 65533 := by omega
  have CIall := fun k (hk : k < l.length) (w : World) => Tryz.strings_IndexByte ((str escdL).extract (k + 1) 7) (((str l)[k]'(by rw [hsz]; exact hk)).toNat : Int) w
  have hval : ∀ k (hk : k < l.length), (str l)[k]'(by rw [hsz]; exact hk) = l.getD k 0 := fun k hk => by
    rw [List.getD_eq_getElem?_getD, List.getElem?_eq_getElem hk]; rfl
  have hsv : ∀ k (hk : k < 7), (str escdL)[k]'(by rw [hs7]; exact hk) = escdL.getD k 0 := fun k hk => by
    rw [List.getD_eq_getElem?_getD, List.getElem?_eq_getElem (show k < escdL.length from hk)]; rfl
  have hext : ∀ k : Fin 4, ((str escdL).extract (k.val + 1) 7).data.toList = escdL.drop (k.val + 1) := by decide
  have hci : ∀ k (hk : k < l.length) (hk7 : k < 4) (w : World), Calls Tryz.prog 183 #[.string ((str escdL).extract (k + 1) 7), .int .u8 (((str l)[k]'(by rw [hsz]; exact hk)).toNat : Int)] w fun e w' => e = .returned (.int .i64 (-1)) ∧ w = w' := fun k hk hk7 w => by
    have h0 := CIall k hk w
    have e1 : ((((str l)[k]'(by rw [hsz]; exact hk)).toNat : Int)).toNat.toUInt8 = l.getD k 0 := by rw [hval k hk]; simp
    rw [hext ⟨k, hk7⟩, e1, index_tail (k + 1) (hlast k hk)] at h0
    exact h0.mono fun _ _ h => ⟨h.1, h.2.symm⟩
  have hdif : ∀ k (hk : k < l.length) (hk7 : k < 7), ((((str escdL)[k]'(by rw [hs7]; exact hk7)).toNat : Int) != (((str l)[k]'(by rw [hsz]; exact hk)).toNat : Int)) = true := fun k hk hk7 => by
    rw [bne_iff_ne, hsv k hk7, hval k hk]
    have := hlast k hk
    have := escd_low (escdL.getD k 0) (by rw [List.getD_eq_getElem?_getD, List.getElem?_eq_getElem (show k < escdL.length from hk7)]; exact List.getElem_mem _)
    omega
  have c3 : ((c : Int) == 65533) = false := by rw [beq_eq_false_iff_ne]; exact c2
  clear hsv hval hext CIall hidx sidx hS h3 hc h128 c2
  rcases (show l.length = 2 ∨ l.length = 3 ∨ l.length = 4 by omega) with hl | hl | hl
  · have CI := hci 1 (by omega) (by omega)
    have hb := hdif 1 (by omega) (by omega)
    clear hci hdif hlast h1 h2
    have hsz2 : (str l).size = 2 := by rw [hsz, hl]
    have CI' : ∀ w, Calls Tryz.prog 183 #[.string ((str escdL).extract 2 7), .int .u8 (((str l)[1]'(by rw [hsz2]; decide)).toNat : Int)] w fun e w' => e = .returned (.int .i64 (-1)) ∧ w = w' := CI
    have hb' : ((((str escdL)[1]'(by rw [hs7]; decide)).toNat : Int) != (((str l)[1]'(by rw [hsz2]; decide)).toNat : Int)) = true := hb
    clear CI hb hsz hl
    generalize str escdL = s at *
    generalize str l = r at *
    go_enter Tryz.func163, Tryz.ntmps163
    go_wp2_with (go_at_call 184; ((with_reducible refine (V _).mono ?_); rintro e w2 ⟨rfl, rfl⟩))
    go_step3
    go_wp2
    refine wp_loop_rounds 1 ?_
    rw [rounds_succ]
    go_wp2
    go_step3
    go_wp2
    go_quiet (fail)
    go_wp2
    go_quiet ((go_at_call 183; exact qs2 (CI' _)))
    go_wp2
    rw [Exit.noGoto_ret]
    go_wp2
    rw [Exit.noGoto_ret]
    go_wp2
    go_ret
    exact ⟨rfl, below_drewN (Below.refl _ _) _⟩
  · have CI := hci 2 (by omega) (by omega)
    have hb := hdif 2 (by omega) (by omega)
    clear hci hdif hlast h1 h2
    have hsz2 : (str l).size = 3 := by rw [hsz, hl]
    have CI' : ∀ w, Calls Tryz.prog 183 #[.string ((str escdL).extract 3 7), .int .u8 (((str l)[2]'(by rw [hsz2]; decide)).toNat : Int)] w fun e w' => e = .returned (.int .i64 (-1)) ∧ w = w' := CI
    have hb' : ((((str escdL)[2]'(by rw [hs7]; decide)).toNat : Int) != (((str l)[2]'(by rw [hsz2]; decide)).toNat : Int)) = true := hb
    clear CI hb hsz hl
    generalize str escdL = s at *
    generalize str l = r at *
    go_enter Tryz.func163, Tryz.ntmps163
    go_wp2_with (go_at_call 184; ((with_reducible refine (V _).mono ?_); rintro e w2 ⟨rfl, rfl⟩))
    go_step3
    go_wp2
    refine wp_loop_rounds 1 ?_
    rw [rounds_succ]
    go_wp2
    go_step3
    go_wp2
    go_quiet (fail)
    go_wp2
    go_quiet ((go_at_call 183; exact qs2 (CI' _)))
    go_wp2
    rw [Exit.noGoto_ret]
    go_wp2
    rw [Exit.noGoto_ret]
    go_wp2
    go_ret
    exact ⟨rfl, below_drewN (Below.refl _ _) _⟩
  · have CI := hci 3 (by omega) (by omega)
    have hb := hdif 3 (by omega) (by omega)
    clear hci hdif hlast h1 h2
    have hsz2 : (str l).size = 4 := by rw [hsz, hl]
    have CI' : ∀ w, Calls Tryz.prog 183 #[.string ((str escdL).extract 4 7), .int .u8 (((str l)[3]'(by rw [hsz2]; decide)).toNat : Int)] w fun e w' => e = .returned (.int .i64 (-1)) ∧ w = w' := CI
    have hb' : ((((str escdL)[3]'(by rw [hs7]; decide)).toNat : Int) != (((str l)[3]'(by rw [hsz2]; decide)).toNat : Int)) = true := hb
    clear CI hb hsz hl
    generalize str escdL = s at *
    generalize str l = r at *
    go_enter Tryz.func163, Tryz.ntmps163
    go_wp2_with (go_at_call 184; ((with_reducible refine (V _).mono ?_); rintro e w2 ⟨rfl, rfl⟩))
    go_step3
    go_wp2
    refine wp_loop_rounds 1 ?_
    rw [rounds_succ]
    go_wp2
    go_step3
    go_wp2
    go_quiet (fail)
    go_wp2
    go_quiet ((go_at_call 183; exact qs2 (CI' _)))
    go_wp2
    rw [Exit.noGoto_ret]
    go_wp2
    rw [Exit.noGoto_ret]
    go_wp2
    go_ret
    exact ⟨rfl, below_drewN (Below.refl _ _) _⟩
end Go.Proofs.YtnkencdibniagaaGreatDoor

/- Layer 11: a rune as it stands in a string. -/
namespace Go.Proofs.YtnkencdibniagaaGreatDoor
open Go.RowKit

def escsL : Bs := [34, 92, 98, 102, 110, 114, 116]
/-- Where a rune stands among what is escaped; -1: nowhere. -/
def escI (c : Nat) : Int := if c < 128 then Lib.indexByte escdL (UInt8.ofNat c) else -1
theorem index_any {c : Nat} (hc : scal c) (w : World) : Calls Tryz.prog 163 #[.string ⟨#[34, 92, 8, 12, 10, 13, 9]⟩, .int .i32 (c : Int)] w fun e w' => e = .returned (.int .i64 (escI c)) ∧ Below w.heap.size w w' := by
  unfold escI
  by_cases h : c < 128
  · rw [if_pos h]
    refine (Tryz.strings_IndexRune_ascii ⟨#[34, 92, 8, 12, 10, 13, 9]⟩ (c : Int) w (by omega) (by omega)).mono fun e w' h2 => ?_
    obtain ⟨rfl, rfl⟩ := h2
    exact ⟨rfl, Below.refl _ _⟩
  · rw [if_neg h]
    by_cases h2 : c = 65533
    · subst h2
      exact index_err w
    · exact index_big hc (by omega) h2 w
def escCk (c : Nat) : Bool := match escR c with
  | some b => (List.range 7).any fun i => decide (Lib.indexByte escdL (UInt8.ofNat c) = (i : Int)) && decide (escsL.getD i 0 = b)
  | none => decide (Lib.indexByte escdL (UInt8.ofNat c) = -1)
set_option maxRecDepth 100000 in
theorem esc_ck : ∀ c : Fin 128, escCk c.val = true := by decide
theorem escI_some {c : Nat} (hc : c < 128) {b : UInt8} (h : escR c = some b) : ∃ i : Nat, i < 7 ∧ Lib.indexByte escdL (UInt8.ofNat c) = (i : Int) ∧ escsL.getD i 0 = b := by
  have := esc_ck ⟨c, hc⟩
  unfold escCk at this
  rw [h] at this
  obtain ⟨i, hi, h2⟩ := List.any_eq_true.1 this
  rw [Bool.and_eq_true, decide_eq_true_eq, decide_eq_true_eq] at h2
  exact ⟨i, List.mem_range.1 hi, h2⟩
theorem escI_none {c : Nat} (hc : c < 128) (h : escR c = none) : Lib.indexByte escdL (UInt8.ofNat c) = -1 := by
  have := esc_ck ⟨c, hc⟩
  unfold escCk at this
  rw [h] at this
  simpa using this
theorem esc_ext : ∀ i : Fin 7, (⟨#[92]⟩ : ByteArray) ++ (⟨#[34, 92, 98, 102, 110, 114, 116]⟩ : ByteArray).extract i.val (i.val + 1) = str [92, escsL.getD i.val 0] := by
  intro i
  refine bytes_toList ?_
  revert i
  decide
set_option maxRecDepth 100000 in
set_option maxHeartbeats 4000000 in
theorem printed_any {c : Nat} (hc : scal c) (w : World) (tz : w.cell? ⟨9, 15, none⟩ = some (.int .u8 4)) :
    Calls Tryz.prog 144 #[.int .i32 (c : Int)] w fun e w' => e = .returned (.string (str (printedR c))) ∧ Below w.heap.size w w' := by
  have CI := index_any hc w
  cases he : escR c with
  | some b =>
    have h128 := escR_lt he
    obtain ⟨i, hi, h1, h2⟩ := escI_some h128 he
    have hP : Hid (printedR c = [92, b]) := Lib.hid (by unfold printedR; rw [he])
    have hx : (⟨#[92]⟩ : ByteArray) ++ (⟨#[34, 92, 98, 102, 110, 114, 116]⟩ : ByteArray).extract i (i + 1) = str [92, escsL.getD i 0] := esc_ext ⟨i, hi⟩
    rw [h2] at hx
    have e1 : escI c = (i : Int) := by unfold escI; rw [if_pos h128]; exact h1
    rw [e1] at CI
    have HX := Lib.hid hx
    have i0 : (i : Int) ≤ 6 := by omega
    clear hx tz h1 h2 e1 hi he hc h128
    go_enter Tryz.func144, Tryz.ntmps144
    go_wp2_with (go_at_call 163; ((with_reducible refine CI.mono ?_); rintro e w2 ⟨rfl, hb⟩))
    go_ret
    rw [hP.out, HX.out]
    exact ⟨rfl, hb⟩
  | none =>
    have e1 : escI c = -1 := by
      unfold escI
      by_cases h : c < 128
      · rw [if_pos h]
        exact escI_none h he
      · rw [if_neg h]
    rw [e1] at CI
    have hlt := World.block_lt_of_cell? w _ tz
    have CF := fun w2 (hb : Below w.heap.size w w2) (h32 : c < 32) => fmt_any c h32 w2 ((hb.cell hlt).trans tz)
    by_cases h16 : c < 16
    · have hP : Hid ((⟨#[92, 117, 48, 48, 48]⟩ : ByteArray) ++ str (hexS c) = str (printedR c)) := Lib.hid (by
        show str [92, 117, 48, 48, 48] ++ str (hexS c) = _
        rw [str_append]; unfold printedR hexS; rw [he, if_pos h16]; simp [h16])
      have hs : (str (hexS c)).size = 1 := by rw [str_size]; unfold hexS; rw [if_pos h16]; rfl
      have h16' : (c : Int) < 16 := by omega
      have h0 : (0 : Int) ≤ c := by omega
      have CF' := fun w2 (hb : Below w.heap.size w w2) => CF w2 hb (by omega)
      generalize str (hexS c) = s at *
      clear CF tz hlt hc h16 he e1
      go_enter Tryz.func144, Tryz.ntmps144
      go_wp2_with (first
        | (go_at_call 163; ((with_reducible refine CI.mono ?_); rintro e w2 ⟨rfl, hb⟩))
        | (go_at_call 164; ((with_reducible refine (CF' _ hb).mono ?_); rintro e w3 ⟨rfl, hb3⟩)))
      go_ret
      rw [hP.out]
      exact ⟨rfl, hb.trans (hb3.mono hb.size)⟩
    by_cases h32 : c < 32
    · have hP : Hid ((⟨#[92, 117, 48, 48]⟩ : ByteArray) ++ str (hexS c) = str (printedR c)) := Lib.hid (by
        show str [92, 117, 48, 48] ++ str (hexS c) = _
        rw [str_append]; unfold printedR hexS; rw [he, if_neg h16]; simp [h16, h32])
      have hs : (str (hexS c)).size = 2 := by rw [str_size]; unfold hexS; rw [if_neg h16]; rfl
      have h16' : ¬ (c : Int) < 16 := by omega
      have h32' : (c : Int) < 32 := by omega
      have h0 : (0 : Int) ≤ c := by omega
      have CF' := fun w2 (hb : Below w.heap.size w w2) => CF w2 hb (by omega)
      generalize str (hexS c) = s at *
      clear CF tz hlt hc h16 he e1 h32
      go_enter Tryz.func144, Tryz.ntmps144
      go_wp2_with (first
        | (go_at_call 163; ((with_reducible refine CI.mono ?_); rintro e w2 ⟨rfl, hb⟩))
        | (go_at_call 164; ((with_reducible refine (CF' _ hb).mono ?_); rintro e w3 ⟨rfl, hb3⟩)))
      go_ret
      rw [hP.out]
      exact ⟨rfl, hb.trans (hb3.mono hb.size)⟩
    · have hP : Utf8.encode (c : Int) = str (printedR c) := by
        rw [utf_enc hc]; unfold printedR; rw [he]; simp [h16, h32]
      generalize str (printedR c) = p at *
      have h16' : ¬ (c : Int) < 16 := by omega
      have h32' : ¬ (c : Int) < 32 := by omega
      have d16 : decide ((c : Int) < 16) = false := by simpa using h16'
      have d32 : decide ((c : Int) < 32) = false := by simpa using h32'
      clear h16' h32'
      clear CF tz hlt hc h16 he e1 h32
      go_enter Tryz.func144, Tryz.ntmps144
      go_wp2_with (go_at_call 163; ((with_reducible refine CI.mono ?_); rintro e w2 ⟨rfl, hb⟩))
      go_ret
      exact ⟨rfl, hb⟩
end Go.Proofs.YtnkencdibniagaaGreatDoor

