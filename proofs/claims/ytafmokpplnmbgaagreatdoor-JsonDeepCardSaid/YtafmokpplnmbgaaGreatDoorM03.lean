/- Merged: JsH, JuC, JuD, JuE, JtA, JtB. -/
import Derived.Test.YtafmokpplnmbgaaGreatDoorM02
import Derived.Deep.LoopGhost
import Derived.Lib.OthersKept
import Derived.WalkMore
import Derived.Shelf.Strings.BuilderK
/- Layer 11, plain: a printed text with blanks put in around what stands between its parts. -/
namespace Go.Proofs.YtafmokpplnmbgaaGreatDoor
open Go.Lib

def isPt (c : UInt8) : Bool := c == 44 || c == 58 || c == 91 || c == 93 || c == 123 || c == 125
/-- Blanks are put in, outside of strings. -/
def insF (g : Bs) : Nat → Bool → Bs → Bs
  | 0, _, _ => []
  | _ + 1, _, [] => []
  | n + 1, s, c :: l =>
    if s = true ∧ c = 92 then (c :: l).take 2 ++ insF g n s l.tail
    else if c = 34 then c :: insF g n (!s) l
    else if s = false ∧ isPt c = true then g ++ [c] ++ g ++ insF g n s l
    else c :: insF g n s l
def plainB (c : UInt8) : Prop := c ≠ 34 ∧ isPt c = false
theorem ins_plain {g : Bs} : ∀ (t : Bs) (n : Nat) (r : Bs), (∀ c ∈ t, plainB c) → t.length ≤ n → insF g n false (t ++ r) = t ++ insF g (n - t.length) false r
  | [], n, r, _, _ => by simp
  | c :: t, n, r, h, hn => by
    obtain ⟨m, rfl⟩ : ∃ m, n = m + 1 := ⟨n - 1, by simp at hn; omega⟩
    obtain ⟨h1, h2⟩ := h c (by simp)
    rw [List.cons_append, insF, if_neg (by simp), if_neg h1, if_neg (by rw [h2]; simp), ins_plain t m r (fun d hd => h d (by simp [hd])) (by simpa using hn)]
    simp
theorem ins_pt {g : Bs} (c : UInt8) (hc : isPt c = true) (n : Nat) (r : Bs) : insF g (n + 1) false (c :: r) = g ++ [c] ++ g ++ insF g n false r := by
  have h34 : c ≠ 34 := by rintro rfl; exact absurd hc (by decide)
  rw [insF, if_neg (by simp), if_neg h34, if_pos ⟨rfl, hc⟩]
/-! ### Strings -/
def strB (c : UInt8) : Prop := c ≠ 34 ∧ c ≠ 92
theorem ins_str {g : Bs} : ∀ (t : Bs) (n : Nat) (r : Bs), (∀ c ∈ t, strB c) → t.length ≤ n → insF g n true (t ++ r) = t ++ insF g (n - t.length) true r
  | [], n, r, _, _ => by simp
  | c :: t, n, r, h, hn => by
    obtain ⟨m, rfl⟩ : ∃ m, n = m + 1 := ⟨n - 1, by simp at hn; omega⟩
    obtain ⟨h1, h2⟩ := h c (by simp)
    rw [List.cons_append, insF, if_neg (fun e => h2 e.2), if_neg h1, if_neg (fun e => by cases e.1), ins_str t m r (fun d hd => h d (by simp [hd])) (by simpa using hn)]
    simp
theorem ins_esc {g : Bs} (b : UInt8) (n : Nat) (r : Bs) : insF g (n + 1) true (92 :: b :: r) = 92 :: b :: insF g n true r := by
  rw [insF, if_pos ⟨rfl, rfl⟩]; rfl
set_option maxHeartbeats 1000000 in
theorem enc_big {c : Nat} (hc : scal c) (h : 128 ≤ c) : ∀ b ∈ encodeRune (c : Int), 128 ≤ b.toNat := by
  unfold scal at hc
  unfold encodeRune
  by_cases h2 : c < 2048
  · rw [encodeRuneZ_two (by omega) (by omega)]
    have e0 : ((192 + (c : Int) / 64).toNat.toUInt8).toNat = 192 + c / 64 := by simp; omega
    have e1 : ((128 + (c : Int) % 64).toNat.toUInt8).toNat = 128 + c % 64 := by simp; omega
    intro b hb
    simp only [List.map_cons, List.map_nil, List.mem_cons, List.not_mem_nil, or_false] at hb
    rcases hb with rfl | rfl <;> omega
  by_cases h3 : c < 65536
  · rw [encodeRuneZ_three (by omega)]
    have e0 : ((224 + (c : Int) / 4096).toNat.toUInt8).toNat = 224 + c / 4096 := by simp; omega
    have e1 : ((128 + (c : Int) / 64 % 64).toNat.toUInt8).toNat = 128 + c / 64 % 64 := by simp; omega
    have e2 : ((128 + (c : Int) % 64).toNat.toUInt8).toNat = 128 + c % 64 := by simp; omega
    intro b hb
    simp only [List.map_cons, List.map_nil, List.mem_cons, List.not_mem_nil, or_false] at hb
    rcases hb with rfl | rfl | rfl <;> omega
  · rw [encodeRuneZ_four (by omega) (by omega)]
    have e0 : ((240 + (c : Int) / 262144).toNat.toUInt8).toNat = 240 + c / 262144 := by simp; omega
    have e1 : ((128 + (c : Int) / 4096 % 64).toNat.toUInt8).toNat = 128 + c / 4096 % 64 := by simp; omega
    have e2 : ((128 + (c : Int) / 64 % 64).toNat.toUInt8).toNat = 128 + c / 64 % 64 := by simp; omega
    have e3 : ((128 + (c : Int) % 64).toNat.toUInt8).toNat = 128 + c % 64 := by simp; omega
    intro b hb
    simp only [List.map_cons, List.map_nil, List.mem_cons, List.not_mem_nil, or_false] at hb
    rcases hb with rfl | rfl | rfl | rfl <;> omega
theorem enc_strB {c : Nat} (hc : scal c) (h1 : c ≠ 34) (h2 : c ≠ 92) : ∀ b ∈ encodeRune (c : Int), strB b := by
  intro b hb
  by_cases h : 128 ≤ c
  · have := enc_big hc h b hb
    exact ⟨by rintro rfl; exact absurd this (by decide), by rintro rfl; exact absurd this (by decide)⟩
  · rw [enc_ascii (by omega), List.mem_singleton] at hb
    have e : b.toNat = c := by rw [hb]; simp; omega
    exact ⟨by rintro rfl; exact h1 e.symm, by rintro rfl; exact h2 e.symm⟩
theorem hexd_str : ∀ k : Fin 16, hexd k.val ≠ 34 ∧ hexd k.val ≠ 92 := by decide
theorem ins_printed {g : Bs} {c : Nat} (hc : scal c) (n : Nat) (r : Bs) (hn : (printedR c).length ≤ n) : ∃ m, n - (printedR c).length ≤ m ∧ m ≤ n ∧ insF g n true (printedR c ++ r) = printedR c ++ insF g m true r := by
  unfold printedR at hn ⊢
  cases he : escR c with
  | some b =>
    rw [he] at hn
    dsimp only at hn ⊢
    obtain ⟨m, rfl⟩ : ∃ m, n = m + 1 := ⟨n - 1, by simp at hn; omega⟩
    exact ⟨m, by simp, by omega, by show insF g (m + 1) true (92 :: b :: r) = _; rw [ins_esc]; rfl⟩
  | none =>
    rw [he] at hn
    dsimp only at hn ⊢
    have six : ∀ (a d : UInt8), strB a → strB d → 6 ≤ n → ∃ m, n - 6 ≤ m ∧ m ≤ n ∧ insF g n true ([92, 117, 48, 48, a, d] ++ r) = [92, 117, 48, 48, a, d] ++ insF g m true r := by
      intro a d ha hd hn
      obtain ⟨m, rfl⟩ : ∃ m, n = m + 1 := ⟨n - 1, by omega⟩
      refine ⟨m - 4, by omega, by omega, ?_⟩
      show insF g (m + 1) true (92 :: 117 :: ([48, 48, a, d] ++ r)) = _
      rw [ins_esc, ins_str [48, 48, a, d] m r (by
        intro x hx
        simp only [List.mem_cons, List.not_mem_nil, or_false] at hx
        rcases hx with rfl | rfl | rfl | rfl
        · exact ⟨by decide, by decide⟩
        · exact ⟨by decide, by decide⟩
        · exact ha
        · exact hd) (by simp; omega)]
      rfl
    split at hn
    · rename_i h16
      rw [if_pos h16]
      exact six 48 (hexd c) ⟨by decide, by decide⟩ (hexd_str ⟨c, h16⟩) (by simpa using hn)
    rename_i h16
    rw [if_neg h16]
    split at hn
    · rename_i h32
      rw [if_pos h32]
      exact six 49 (hexd (c - 16)) ⟨by decide, by decide⟩ (hexd_str ⟨c - 16, by omega⟩) (by simpa using hn)
    rename_i h32
    rw [if_neg h32]
    refine ⟨n - (encodeRune (c : Int)).length, Nat.le_refl _, by omega, ins_str _ n r (enc_strB hc ?_ ?_) hn⟩
    · rintro rfl; exact absurd he (by decide)
    · rintro rfl; exact absurd he (by decide)
theorem ins_body {g : Bs} : ∀ (cs : List Nat) (n : Nat) (r : Bs), (∀ c ∈ cs, scal c) → (cs.flatMap printedR).length ≤ n → ∃ m, n - (cs.flatMap printedR).length ≤ m ∧ m ≤ n ∧ insF g n true (cs.flatMap printedR ++ r) = cs.flatMap printedR ++ insF g m true r
  | [], n, r, _, _ => ⟨n, by simp, Nat.le_refl _, rfl⟩
  | c :: cs, n, r, h, hn => by
    rw [List.flatMap_cons, List.length_append] at hn
    rw [List.flatMap_cons, List.append_assoc, List.length_append]
    obtain ⟨m1, a1, b1, e1⟩ := ins_printed (g := g) (h c (by simp)) n (cs.flatMap printedR ++ r) (by omega)
    obtain ⟨m2, a2, b2, e2⟩ := ins_body (g := g) cs m1 r (fun d hd => h d (by simp [hd])) (by omega)
    exact ⟨m2, by omega, by omega, by rw [e1, e2, List.append_assoc]⟩
/-- What ends of the putting in says of a text that is put in whole. -/
def insOk (g s t : Bs) : Prop := ∀ (n : Nat) (r : Bs), s.length + r.length ≤ n → ∃ m, r.length ≤ m ∧ insF g n false (s ++ r) = t ++ insF g m false r
theorem insOk.nil (g : Bs) : insOk g [] [] := fun n r h => ⟨n, by simpa using h, rfl⟩
theorem insOk.app {g a b c d : Bs} (h : insOk g a b) (k : insOk g c d) : insOk g (a ++ c) (b ++ d) := by
  intro n r hn
  rw [List.length_append] at hn
  obtain ⟨m1, h1, e1⟩ := h n (c ++ r) (by rw [List.length_append]; omega)
  rw [List.length_append] at h1
  obtain ⟨m2, h2, e2⟩ := k m1 r (by omega)
  exact ⟨m2, h2, by rw [List.append_assoc, e1, e2, List.append_assoc]⟩
theorem insOk.pt {g : Bs} {c : UInt8} (hc : isPt c = true) : insOk g [c] (g ++ [c] ++ g) := by
  intro n r hn
  obtain ⟨m, rfl⟩ : ∃ m, n = m + 1 := ⟨n - 1, by simp at hn; omega⟩
  exact ⟨m, by simp at hn; omega, ins_pt c hc m r⟩
theorem insOk.plain {g t : Bs} (h : ∀ c ∈ t, plainB c) : insOk g t t := by
  intro n r hn
  exact ⟨n - t.length, by omega, ins_plain t n r h (by omega)⟩
theorem insOk.quo {g t : Bs} (ht : validD t = true) : insOk g (quoT t) (quoT t) := by
  obtain ⟨cs, h1, rfl⟩ := valid_utf t.length t (Nat.le_refl _) ht
  unfold quoT quoR
  rw [runesT_utf h1]
  intro n r hn
  simp only [List.length_cons, List.length_append, List.length_nil] at hn
  obtain ⟨m, rfl⟩ : ∃ m, n = m + 1 := ⟨n - 1, by omega⟩
  obtain ⟨m2, a2, b2, e2⟩ := ins_body (g := g) cs m ([34] ++ r) h1 (by omega)
  obtain ⟨m3, rfl⟩ : ∃ m3, m2 = m3 + 1 := ⟨m2 - 1, by omega⟩
  refine ⟨m3, by omega, ?_⟩
  have e : insF g (m + 1) false (34 :: (cs.flatMap printedR ++ ([34] ++ r))) = 34 :: insF g m true (cs.flatMap printedR ++ ([34] ++ r)) := by
    rw [insF, if_neg (by simp), if_pos rfl]; rfl
  have e3 : insF g (m3 + 1) true ([34] ++ r) = 34 :: insF g m3 false r := by
    rw [List.singleton_append, insF, if_neg (by simp), if_pos rfl]; rfl
  rw [List.cons_append, List.append_assoc, e, e2, e3]
  simp
/-! ### Numbers -/
theorem dg_plain {c : UInt8} (h : isDg c = true) : plainB c := by
  constructor
  · rintro rfl; exact absurd h (by decide)
  · cases hb : isPt c with
    | false => rfl
    | true =>
      unfold isPt at hb
      simp only [Bool.or_eq_true, beq_iff_eq] at hb
      rcases hb with ((((rfl | rfl) | rfl) | rfl) | rfl) | rfl <;> exact absurd h (by decide)
theorem dropD_plain : ∀ t : Bs, dropD t = [] → ∀ c ∈ t, plainB c
  | [], _, c, hc => by cases hc
  | d :: t, h, c, hc => by
    rw [dropD] at h
    split at h
    · rename_i hd
      rcases List.mem_cons.1 hc with rfl | hc
      · exact dg_plain hd
      · exact dropD_plain t h c hc
    · cases h
theorem dig_plain {t : Bs} (h : digP t = .ok () []) : ∀ c ∈ t, plainB c := dropD_plain t (dig_ok_nil h)
theorem mem_hd {l : Bs} {x : UInt8} (hx : hd l = x) (h0 : x ≠ 0) {P : UInt8 → Prop} (h1 : P x) (h2 : ∀ c ∈ l.tail, P c) : ∀ c ∈ l, P c := by
  rw [cons_of_hd hx h0]
  intro c hc
  rcases List.mem_cons.1 hc with rfl | hc
  · exact h1
  · exact h2 c hc
theorem plain_lit : plainB 45 ∧ plainB 43 ∧ plainB 46 ∧ plainB 101 ∧ plainB 69 ∧ plainB 48 := by
  refine ⟨?_, ?_, ?_, ?_, ?_, ?_⟩ <;> exact ⟨by decide, by decide⟩
theorem exp_plain {t : Bs} (h : expP t = .ok () []) : ∀ c ∈ t, plainB c := by
  obtain ⟨p1, p2, p3, p4, p5, p6⟩ := plain_lit
  unfold expP at h
  split at h
  · rename_i he
    have key : ∀ c ∈ t.tail, plainB c := by
      split at h
      · rename_i hs
        rcases hs with hs | hs
        · exact mem_hd hs (by decide) p2 (dig_plain h)
        · exact mem_hd hs (by decide) p1 (dig_plain h)
      · exact dig_plain h
    rcases he with he | he
    · exact mem_hd he (by decide) p4 key
    · exact mem_hd he (by decide) p5 key
  · rw [Res.ok.injEq] at h
    rw [h.2]
    intro c hc; cases hc
theorem dig_then {t q : Bs} (hx : digP t = .ok () q) (h : ∀ c ∈ q, plainB c) : ∀ c ∈ t, plainB c := by
  obtain ⟨u, h1, h2, _⟩ := dig_pre hx
  subst h1
  intro c hc
  rcases List.mem_append.1 hc with hc | hc
  · exact dropD_plain u h2 c hc
  · exact h c hc
theorem frac_plain {t : Bs} (h : fracP t = .ok () []) : ∀ c ∈ t, plainB c := by
  obtain ⟨p1, p2, p3, p4, p5, p6⟩ := plain_lit
  unfold fracP at h
  split at h
  · rename_i he
    cases hx : digP t.tail with
    | bad k q => rw [hx] at h; cases h
    | ok u q =>
      rw [hx] at h
      exact mem_hd he (by decide) p3 (dig_then hx (exp_plain h))
  · exact exp_plain h
theorem int_plain {t : Bs} (h : intP t = .ok () []) : ∀ c ∈ t, plainB c := by
  obtain ⟨p1, p2, p3, p4, p5, p6⟩ := plain_lit
  unfold intP at h
  split at h
  · rename_i he
    exact mem_hd he (by decide) p6 (frac_plain h)
  · cases hx : digP t with
    | bad k q => rw [hx] at h; cases h
    | ok u q => rw [hx] at h; exact dig_then hx (frac_plain h)
theorem num_plain {t : Bs} (h : isNum t) : ∀ c ∈ t, plainB c := by
  obtain ⟨p1, p2, p3, p4, p5, p6⟩ := plain_lit
  unfold isNum numP at h
  split at h
  · rename_i he
    exact mem_hd he (by decide) p1 (int_plain h)
  · exact int_plain h
/-! ### Values -/
theorem sep_ins {g : Bs} : ∀ (l m : List Bs), l.length = m.length → (∀ i, i < l.length → insOk g (l.getD i []) (m.getD i [])) → insOk g (sepG [] l) (sepG g m)
  | [], [], _, _ => insOk.nil g
  | x :: l, y :: m, hl, h => by
    have h0 := h 0 (by simp)
    have ht := sep_ins l m (by simpa using hl) (fun i hi => by have := h (i + 1) (by simp; omega); simpa using this)
    have e1 : sepG [] (x :: l) = [44] ++ (x ++ sepG [] l) := by simp [sepG]
    have e2 : sepG g (y :: m) = (g ++ [44] ++ g) ++ (y ++ sepG g m) := by simp [sepG]
    rw [e1, e2]
    exact (insOk.pt (by decide)).app ((show insOk g x y from h0).app ht)
theorem join_ins {g : Bs} (l m : List Bs) (hl : l.length = m.length) (h : ∀ i, i < l.length → insOk g (l.getD i []) (m.getD i [])) : insOk g (joinG [] l) (joinG g m) := by
  cases l with
  | nil =>
    cases m with
    | nil => exact insOk.nil g
    | cons y m => simp at hl
  | cons x l =>
    cases m with
    | nil => simp at hl
    | cons y m =>
      rw [joinG_cons, joinG_cons]
      have h0 := h 0 (by simp)
      exact (show insOk g x y from h0).app (sep_ins l m (by simpa using hl) (fun i hi => by have := h (i + 1) (by simp; omega); simpa using this))
theorem word_plain (k : Int) : ∀ c ∈ wordOf k, plainB c := by
  unfold wordOf
  have : ∀ c ∈ nullT ++ falseT ++ trueT, (c ≠ 34 ∧ isPt c = false) := by decide
  intro c hc
  refine this c ?_
  split at hc
  · simp [hc]
  split at hc <;> simp [hc]
theorem prG_ins {g : Bs} : ∀ (d : Nat) (v : JV), SizeOf.sizeOf v ≤ d → may v → insOk g (prG [] v) (prG g v) := by
  intro d
  induction d with
  | zero =>
    intro v hd
    obtain ⟨k, t, items, keys⟩ := v
    simp at hd
  | succ d ih =>
    intro v hd hv
    obtain ⟨k, t, items, keys⟩ := v
    have hit : ∀ i, i < items.length → ∀ x, items[i]? = some x → insOk g (prG [] x) (prG g x) := by
      intro i hi x hx
      have hmem : x ∈ items := List.mem_of_getElem? hx
      have hs := List.sizeOf_lt_of_mem hmem
      simp at hd
      refine ih x (by omega) ?_
      rw [may] at hv
      exact mayL_mem hv.1 x hmem
    rw [prG, prG]
    by_cases h3 : k = 3
    · subst h3
      rw [if_pos rfl, if_pos rfl]
      exact insOk.plain (num_plain (may_num hv).1)
    rw [if_neg h3, if_neg h3]
    by_cases h4 : k = 4
    · subst h4
      rw [if_pos rfl, if_pos rfl]
      exact insOk.quo (may_str hv).1
    rw [if_neg h4, if_neg h4]
    by_cases h5 : k = 5
    · subst h5
      rw [if_pos rfl, if_pos rfl]
      rw [show (([] : Bs) ++ [91] ++ []) = [91] from rfl, show (([] : Bs) ++ [93] ++ []) = [93] from rfl]
      refine ((insOk.pt (by decide)).app (join_ins _ _ (by rw [prL_map, prL_map]; simp) fun i hi => ?_)).app (insOk.pt (by decide))
      rw [prL_map, prL_map]
      rw [prL_map, List.length_map] at hi
      have h1 : items[i]? = some items[i] := List.getElem?_eq_getElem hi
      have := hit i hi _ h1
      simpa [List.getD_eq_getElem?_getD, h1] using this
    rw [if_neg h5, if_neg h5]
    by_cases h6 : k = 6
    · subst h6
      obtain ⟨_, _, hl, hvk, _⟩ := may_obj hv
      rw [if_pos rfl, if_pos rfl]
      rw [show (([] : Bs) ++ [123] ++ []) = [123] from rfl, show (([] : Bs) ++ [125] ++ []) = [125] from rfl]
      refine ((insOk.pt (by decide)).app (join_ins _ _ (by rw [zip_back _ _ hl, zip_back _ _ hl]; simp) fun i hi => ?_)).app (insOk.pt (by decide))
      rw [zip_back _ _ hl, zip_back _ _ hl]
      rw [zip_back _ _ hl, List.length_map, List.length_zip] at hi
      have hi1 : i < items.length := by omega
      have hi2 : i < keys.length := by omega
      have h1 : items[i]? = some items[i] := List.getElem?_eq_getElem hi1
      have h2 : keys[i]? = some keys[i] := List.getElem?_eq_getElem hi2
      have h3 : (keys.zip items)[i]? = some (keys[i], items[i]) := by rw [List.getElem?_zip_eq_some]; exact ⟨h2, h1⟩
      have hx := hit i hi1 _ h1
      have hk : validD keys[i] = true := hvk _ (List.getElem_mem _)
      have key : insOk g (pairG [] keys[i] (prG [] items[i])) (pairG g keys[i] (prG g items[i])) := by
        unfold pairG
        rw [show (([] : Bs) ++ [58] ++ []) = [58] from rfl]
        exact ((insOk.quo hk).app (insOk.pt (by decide))).app hx
      simpa [List.getD_eq_getElem?_getD, h3] using key
    · rw [if_neg h6, if_neg h6]
      exact insOk.plain (word_plain k)
/-- THE BLANKS. -/
theorem ins_all {g : Bs} {v : JV} (hv : may v) (n : Nat) (hn : (prG [] v).length ≤ n) : insF g n false (prG [] v) = prG g v := by
  obtain ⟨m, _, e⟩ := prG_ins (g := g) _ v (Nat.le_refl _) hv n [] (by simpa using hn)
  have e0 : ∀ m, insF g m false [] = [] := by intro m; cases m <;> rfl
  rw [List.append_nil, e0, List.append_nil] at e
  exact e
end Go.Proofs.YtafmokpplnmbgaaGreatDoor

/- Layer 11: strings.IndexRune at what is escaped, of runes beyond 127. -/
namespace Go.Proofs.YtafmokpplnmbgaaGreatDoor
open Go.RowKit

def escdL : Bs := [34, 92, 8, 12, 10, 13, 9]
theorem escd_at : ∀ k : Fin 7, (escdL.getD k.val 0).toNat < 128 ∧ (escdL.getD k.val 0).toNat ≠ 65533 := by decide
structure ItW (w : World) (s : ByteArray) (b k : Nat) (wr : World) : Prop where
  it : wr.heap[b]? = some (.stringIter s k)
  le : k ≤ s.size
  bel : Below w.heap.size w wr
set_option maxRecDepth 100000 in
set_option maxHeartbeats 8000000 in
theorem index_err (w : World) : Calls Tryz.prog 56 #[.string ⟨#[34, 92, 8, 12, 10, 13, 9]⟩, .int .i32 65533] w fun e w' => e = .returned (.int .i64 (-1)) ∧ Below w.heap.size w w' := by
  rw [show (⟨#[34, 92, 8, 12, 10, 13, 9]⟩ : ByteArray) = str escdL from rfl]
  have h0 : Hid (ItW w (str escdL) w.heap.size 0 (w.alloc (.stringIter (str escdL) 0))) := Lib.hid ⟨heap_alloc_new w _, by decide, (Below.refl _ _).alloc (Nat.le_refl _) _⟩
  have hsz : (str escdL).size = 7 := rfl
  have HSZ := Lib.hid hsz
  generalize hs : str escdL = s at *
  have HSS := Lib.hid hs
  go_enter Tryz.func56, Tryz.ntmps56
  go_wp2
  go_loopg [] 7 (fun n wr => ∃ k, ItW w s w.heap.size k wr ∧ Hid (n = 7 - k))
  case atStart => exact ⟨0, h0.out, Lib.hid rfl⟩
  case round =>
    obtain ⟨k, hI, HN⟩ := hrel
    by_cases hk : k < 7
    · have hb : (escdL.getD k 0).toNat < 128 ∧ (escdL.getD k 0).toNat ≠ 65533 := escd_at ⟨k, hk⟩
      have hget : ((s[k]'(by rw [HSZ.out]; exact hk)).toNat : Int) = ((escdL.getD k 0).toNat : Int) := by
        subst hs
        have : (str escdL)[k]'(by rw [HSZ.out]; exact hk) = escdL.getD k 0 := by
          rw [List.getD_eq_getElem?_getD, List.getElem?_eq_getElem (show k < escdL.length from hk)]; rfl
        rw [this]
      have hnx := fun ty => Lib.run_next_ascii_at (P := Tryz.prog) wr _ _ _ ty hI.it (by rw [HSZ.out]; exact hk) (by have := hb.1; omega)
      rw [hget] at hnx
      have hne : ¬ ((escdL.getD k 0).toNat : Int) = 65533 := by have := hb.2; omega
      generalize ((escdL.getD k 0).toNat : Int) = c at hnx hne
      have HI2 := Lib.hid (show ItW w s w.heap.size (k + 1) (wr.iterAt w.heap.size s (k + 1)) by
        exact ⟨Lib.iterAt_heap _ _ _ _ _ hI.it, by rw [HSZ.out]; exact hk, Lib.below_iterAt hI.bel (Nat.le_refl _) _ _⟩)
      generalize wr.iterAt w.heap.size s (k + 1) = wq at *
      clear hI hb hget hs
      go_wp2
      go_roundg (7 - (k + 1))
      case measure => rw [HN.out]; omega
      case rel => exact ⟨k + 1, HI2.out, Lib.hid rfl⟩
    · have hnx := fun ty => Lib.run_next_end_at (P := Tryz.prog) wr _ _ _ ty hI.it (by rw [HSZ.out]; exact hk)
      have HB := Lib.hid hI.bel
      clear hI hs
      go_wp2
      go_ret
      exact ⟨rfl, HB.out⟩
theorem utf_enc {c : Nat} (hc : scal c) : Utf8.encode (c : Int) = str (Lib.encodeRune (c : Int)) := by
  unfold scal at hc
  refine bytes_toList ?_
  rw [str_toList]
  unfold Lib.encodeRune
  have v : Utf8.valid (c : Int) = true := by simp [Utf8.valid]; omega
  by_cases h1 : c < 128
  · rw [Lib.encodeRuneZ_one (by omega) (by omega)]
    simp [Utf8.encode, v, h1]
  by_cases h2 : c < 2048
  · rw [Lib.encodeRuneZ_two (by omega) (by omega)]
    have e0 : (192 + (c : Int) / 64).toNat = 192 + c / 64 := by omega
    have e1 : (128 + (c : Int) % 64).toNat = 128 + c % 64 := by omega
    simp only [List.map_cons, List.map_nil, e0, e1]
    simp [Utf8.encode, v, h1, h2]
  by_cases h3 : c < 65536
  · rw [Lib.encodeRuneZ_three (by omega)]
    have e0 : (224 + (c : Int) / 4096).toNat = 224 + c / 4096 := by omega
    have e1 : (128 + (c : Int) / 64 % 64).toNat = 128 + c / 64 % 64 := by omega
    have e2 : (128 + (c : Int) % 64).toNat = 128 + c % 64 := by omega
    simp only [List.map_cons, List.map_nil, e0, e1, e2]
    simp [Utf8.encode, v, h1, h2, h3]
  · rw [Lib.encodeRuneZ_four (by omega) (by omega)]
    have e0 : (240 + (c : Int) / 262144).toNat = 240 + c / 262144 := by omega
    have e1 : (128 + (c : Int) / 4096 % 64).toNat = 128 + c / 4096 % 64 := by omega
    have e2 : (128 + (c : Int) / 64 % 64).toNat = 128 + c / 64 % 64 := by omega
    have e3 : (128 + (c : Int) % 64).toNat = 128 + c % 64 := by omega
    simp only [List.map_cons, List.map_nil, e0, e1, e2, e3]
    simp [Utf8.encode, v, h1, h2, h3]
theorem scal_valid {c : Nat} (hc : scal c) : Lib.validRune (c : Int) = true := by
  unfold scal at hc
  unfold Lib.validRune
  simp
  omega
theorem indexByte_none : ∀ (l : Bs) (b : UInt8), b ∉ l → Lib.indexByte l b = -1
  | [], _, _ => rfl
  | c :: l, b, h => by
    have h1 : ¬ c = b := fun e => h (by simp [e])
    have h2 := indexByte_none l b (fun e => h (by simp [e]))
    rw [Lib.indexByte, if_neg (by simpa using h1), h2]; rfl
theorem escd_low : ∀ c ∈ escdL, c.toNat < 128 := by decide
theorem index_tail (k : Nat) {b : UInt8} (hb : 128 ≤ b.toNat) : Lib.indexByte (escdL.drop k) b = -1 :=
  indexByte_none _ _ fun h => by have := escd_low b (List.mem_of_mem_drop h); omega
theorem enc_two {c : Nat} (hc : scal c) (h : 128 ≤ c) : 2 ≤ (Lib.encodeRune (c : Int)).length := by
  unfold scal at hc
  unfold Lib.encodeRune
  rw [List.length_map]
  by_cases h2 : c < 2048
  · rw [Lib.encodeRuneZ_two (by omega) (by omega)]; simp
  by_cases h3 : c < 65536
  · rw [Lib.encodeRuneZ_three (by omega)]; simp
  · rw [Lib.encodeRuneZ_four (by omega) (by omega)]; simp
set_option maxRecDepth 100000 in
set_option maxHeartbeats 8000000 in
theorem index_big {c : Nat} (hc : scal c) (h128 : 128 ≤ c) (hne : c ≠ 65533) (w : World) : Calls Tryz.prog 56 #[.string ⟨#[34, 92, 8, 12, 10, 13, 9]⟩, .int .i32 (c : Int)] w fun e w' => e = .returned (.int .i64 (-1)) ∧ Below w.heap.size w w' := by
  have V := fun w => Tryz.utf8_ValidRune (c : Int) w
  rw [scal_valid hc] at V
  have h1 := enc_two hc h128
  have h2 := enc_le c
  have h3 := enc_big hc h128
  have hE := utf_enc hc
  generalize Lib.encodeRune (c : Int) = l at h1 h2 h3 hE
  have hsz : (str l).size = l.length := str_size l
  have hlast : ∀ n, n < l.length → 128 ≤ (l.getD n 0).toNat := fun n hn => h3 _ (by rw [List.getD_eq_getElem?_getD, List.getElem?_eq_getElem hn]; exact List.getElem_mem hn)
  have hidx := fun n (hn : n < l.length) => idx_str (str l) n (n : Int) rfl (by rw [hsz]; exact hn)
  rw [str_toList] at hidx
  have hS : (⟨#[34, 92, 8, 12, 10, 13, 9]⟩ : ByteArray) = str escdL := rfl
  rw [hS]
  have hs7 : (str escdL).size = 7 := rfl
  have sidx := fun n (hn : n < 7) => idx_str (str escdL) n (n : Int) rfl hn
  rw [str_toList] at sidx
  have c0 : (128 : Int) ≤ c := by omega
  have c1 : ¬ (c : Int) < 128 := by omega
  have c2 : ¬ (c : Int) = 65533 := by omega
  have CIall := fun k (hk : k < l.length) (w : World) => Tryz.strings_IndexByte ((str escdL).extract (k + 1) 7) (((str l)[k]'(by rw [hsz]; exact hk)).toNat : Int) w
  have hval : ∀ k (hk : k < l.length), (str l)[k]'(by rw [hsz]; exact hk) = l.getD k 0 := fun k hk => by
    rw [List.getD_eq_getElem?_getD, List.getElem?_eq_getElem hk]; rfl
  have hsv : ∀ k (hk : k < 7), (str escdL)[k]'(by rw [hs7]; exact hk) = escdL.getD k 0 := fun k hk => by
    rw [List.getD_eq_getElem?_getD, List.getElem?_eq_getElem (show k < escdL.length from hk)]; rfl
  have hext : ∀ k : Fin 4, ((str escdL).extract (k.val + 1) 7).data.toList = escdL.drop (k.val + 1) := by decide
  have hci : ∀ k (hk : k < l.length) (hk7 : k < 4) (w : World), Calls Tryz.prog 72 #[.string ((str escdL).extract (k + 1) 7), .int .u8 (((str l)[k]'(by rw [hsz]; exact hk)).toNat : Int)] w fun e w' => e = .returned (.int .i64 (-1)) ∧ w = w' := fun k hk hk7 w => by
    have h0 := CIall k hk w
    have e1 : ((((str l)[k]'(by rw [hsz]; exact hk)).toNat : Int)).toNat.toUInt8 = l.getD k 0 := by rw [hval k hk]; simp
    rw [hext ⟨k, hk7⟩, e1, index_tail (k + 1) (hlast k hk)] at h0
    exact h0.mono fun _ _ h => ⟨h.1, h.2.symm⟩
  have hdif : ∀ k (hk : k < l.length) (hk7 : k < 7), ((((str escdL)[k]'(by rw [hs7]; exact hk7)).toNat : Int) != (((str l)[k]'(by rw [hsz]; exact hk)).toNat : Int)) = true := fun k hk hk7 => by
    rw [bne_iff_ne, hsv k hk7, hval k hk]
    have := hlast k hk
    have := escd_low (escdL.getD k 0) (by rw [List.getD_eq_getElem?_getD, List.getElem?_eq_getElem (show k < escdL.length from hk7)]; exact List.getElem_mem _)
    omega
  have c3 : ((c : Int) == 65533) = false := by rw [beq_eq_false_iff_ne]; exact c2
  clear hsv hval hext CIall hidx sidx hS h3 hc h128 c2
  rcases (show l.length = 2 ∨ l.length = 3 ∨ l.length = 4 by omega) with hl | hl | hl
  · have CI := hci 1 (by omega) (by omega)
    have hb := hdif 1 (by omega) (by omega)
    clear hci hdif hlast h1 h2
    have hsz2 : (str l).size = 2 := by rw [hsz, hl]
    have CI' : ∀ w, Calls Tryz.prog 72 #[.string ((str escdL).extract 2 7), .int .u8 (((str l)[1]'(by rw [hsz2]; decide)).toNat : Int)] w fun e w' => e = .returned (.int .i64 (-1)) ∧ w = w' := CI
    have hb' : ((((str escdL)[1]'(by rw [hs7]; decide)).toNat : Int) != (((str l)[1]'(by rw [hsz2]; decide)).toNat : Int)) = true := hb
    clear CI hb hsz hl
    generalize str escdL = s at *
    generalize str l = r at *
    go_enter Tryz.func56, Tryz.ntmps56
    go_wp2_with (go_at_call 73; ((with_reducible refine (V _).mono ?_); rintro e w2 ⟨rfl, rfl⟩))
    go_step3
    go_wp2
    refine wp_loop_rounds 1 ?_
    rw [rounds_succ]
    go_wp2
    go_step3
    go_wp2
    go_quiet (fail)
    go_wp2
    go_quiet ((go_at_call 72; exact qs2 (CI' _)))
    go_wp2
    rw [Exit.noGoto_ret]
    go_wp2
    rw [Exit.noGoto_ret]
    go_wp2
    go_ret
    exact ⟨rfl, below_drewN (Below.refl _ _) _⟩
  · have CI := hci 2 (by omega) (by omega)
    have hb := hdif 2 (by omega) (by omega)
    clear hci hdif hlast h1 h2
    have hsz2 : (str l).size = 3 := by rw [hsz, hl]
    have CI' : ∀ w, Calls Tryz.prog 72 #[.string ((str escdL).extract 3 7), .int .u8 (((str l)[2]'(by rw [hsz2]; decide)).toNat : Int)] w fun e w' => e = .returned (.int .i64 (-1)) ∧ w = w' := CI
    have hb' : ((((str escdL)[2]'(by rw [hs7]; decide)).toNat : Int) != (((str l)[2]'(by rw [hsz2]; decide)).toNat : Int)) = true := hb
    clear CI hb hsz hl
    generalize str escdL = s at *
    generalize str l = r at *
    go_enter Tryz.func56, Tryz.ntmps56
    go_wp2_with (go_at_call 73; ((with_reducible refine (V _).mono ?_); rintro e w2 ⟨rfl, rfl⟩))
    go_step3
    go_wp2
    refine wp_loop_rounds 1 ?_
    rw [rounds_succ]
    go_wp2
    go_step3
    go_wp2
    go_quiet (fail)
    go_wp2
    go_quiet ((go_at_call 72; exact qs2 (CI' _)))
    go_wp2
    rw [Exit.noGoto_ret]
    go_wp2
    rw [Exit.noGoto_ret]
    go_wp2
    go_ret
    exact ⟨rfl, below_drewN (Below.refl _ _) _⟩
  · have CI := hci 3 (by omega) (by omega)
    have hb := hdif 3 (by omega) (by omega)
    clear hci hdif hlast h1 h2
    have hsz2 : (str l).size = 4 := by rw [hsz, hl]
    have CI' : ∀ w, Calls Tryz.prog 72 #[.string ((str escdL).extract 4 7), .int .u8 (((str l)[3]'(by rw [hsz2]; decide)).toNat : Int)] w fun e w' => e = .returned (.int .i64 (-1)) ∧ w = w' := CI
    have hb' : ((((str escdL)[3]'(by rw [hs7]; decide)).toNat : Int) != (((str l)[3]'(by rw [hsz2]; decide)).toNat : Int)) = true := hb
    clear CI hb hsz hl
    generalize str escdL = s at *
    generalize str l = r at *
    go_enter Tryz.func56, Tryz.ntmps56
    go_wp2_with (go_at_call 73; ((with_reducible refine (V _).mono ?_); rintro e w2 ⟨rfl, rfl⟩))
    go_step3
    go_wp2
    refine wp_loop_rounds 1 ?_
    rw [rounds_succ]
    go_wp2
    go_step3
    go_wp2
    go_quiet (fail)
    go_wp2
    go_quiet ((go_at_call 72; exact qs2 (CI' _)))
    go_wp2
    rw [Exit.noGoto_ret]
    go_wp2
    rw [Exit.noGoto_ret]
    go_wp2
    go_ret
    exact ⟨rfl, below_drewN (Below.refl _ _) _⟩
end Go.Proofs.YtafmokpplnmbgaaGreatDoor

/- Layer 11: a rune as it stands in a string. -/
namespace Go.Proofs.YtafmokpplnmbgaaGreatDoor
open Go.RowKit

def escsL : Bs := [34, 92, 98, 102, 110, 114, 116]
/-- Where a rune stands among what is escaped; -1: nowhere. -/
def escI (c : Nat) : Int := if c < 128 then Lib.indexByte escdL (UInt8.ofNat c) else -1
theorem index_any {c : Nat} (hc : scal c) (w : World) : Calls Tryz.prog 56 #[.string ⟨#[34, 92, 8, 12, 10, 13, 9]⟩, .int .i32 (c : Int)] w fun e w' => e = .returned (.int .i64 (escI c)) ∧ Below w.heap.size w w' := by
  unfold escI
  by_cases h : c < 128
  · rw [if_pos h]
    refine (Tryz.strings_IndexRune_ascii ⟨#[34, 92, 8, 12, 10, 13, 9]⟩ (c : Int) w (by omega) (by omega)).mono fun e w' h2 => ?_
    obtain ⟨rfl, rfl⟩ := h2
    exact ⟨rfl, Below.refl _ _⟩
  · rw [if_neg h]
    by_cases h2 : c = 65533
    · subst h2
      exact index_err w
    · exact index_big hc (by omega) h2 w
def escCk (c : Nat) : Bool := match escR c with
  | some b => (List.range 7).any fun i => decide (Lib.indexByte escdL (UInt8.ofNat c) = (i : Int)) && decide (escsL.getD i 0 = b)
  | none => decide (Lib.indexByte escdL (UInt8.ofNat c) = -1)
set_option maxRecDepth 100000 in
theorem esc_ck : ∀ c : Fin 128, escCk c.val = true := by decide
theorem escI_some {c : Nat} (hc : c < 128) {b : UInt8} (h : escR c = some b) : ∃ i : Nat, i < 7 ∧ Lib.indexByte escdL (UInt8.ofNat c) = (i : Int) ∧ escsL.getD i 0 = b := by
  have := esc_ck ⟨c, hc⟩
  unfold escCk at this
  rw [h] at this
  obtain ⟨i, hi, h2⟩ := List.any_eq_true.1 this
  rw [Bool.and_eq_true, decide_eq_true_eq, decide_eq_true_eq] at h2
  exact ⟨i, List.mem_range.1 hi, h2⟩
theorem escI_none {c : Nat} (hc : c < 128) (h : escR c = none) : Lib.indexByte escdL (UInt8.ofNat c) = -1 := by
  have := esc_ck ⟨c, hc⟩
  unfold escCk at this
  rw [h] at this
  simpa using this
theorem esc_ext : ∀ i : Fin 7, (⟨#[92]⟩ : ByteArray) ++ (⟨#[34, 92, 98, 102, 110, 114, 116]⟩ : ByteArray).extract i.val (i.val + 1) = str [92, escsL.getD i.val 0] := by
  intro i
  refine bytes_toList ?_
  revert i
  decide
set_option maxRecDepth 100000 in
set_option maxHeartbeats 4000000 in
theorem printed_any {c : Nat} (hc : scal c) (w : World) (tz : w.cell? ⟨9, 15, none⟩ = some (.int .u8 4)) :
    Calls Tryz.prog 40 #[.int .i32 (c : Int)] w fun e w' => e = .returned (.string (str (printedR c))) ∧ Below w.heap.size w w' := by
  have CI := index_any hc w
  cases he : escR c with
  | some b =>
    have h128 := escR_lt he
    obtain ⟨i, hi, h1, h2⟩ := escI_some h128 he
    have hP : Hid (printedR c = [92, b]) := Lib.hid (by unfold printedR; rw [he])
    have hx : (⟨#[92]⟩ : ByteArray) ++ (⟨#[34, 92, 98, 102, 110, 114, 116]⟩ : ByteArray).extract i (i + 1) = str [92, escsL.getD i 0] := esc_ext ⟨i, hi⟩
    rw [h2] at hx
    have e1 : escI c = (i : Int) := by unfold escI; rw [if_pos h128]; exact h1
    rw [e1] at CI
    have HX := Lib.hid hx
    have i0 : (i : Int) ≤ 6 := by omega
    clear hx tz h1 h2 e1 hi he hc h128
    go_enter Tryz.func40, Tryz.ntmps40
    go_wp2_with (go_at_call 56; ((with_reducible refine CI.mono ?_); rintro e w2 ⟨rfl, hb⟩))
    go_ret
    rw [hP.out, HX.out]
    exact ⟨rfl, hb⟩
  | none =>
    have e1 : escI c = -1 := by
      unfold escI
      by_cases h : c < 128
      · rw [if_pos h]
        exact escI_none h he
      · rw [if_neg h]
    rw [e1] at CI
    have hlt := World.block_lt_of_cell? w _ tz
    have CF := fun w2 (hb : Below w.heap.size w w2) (h32 : c < 32) => fmt_any c h32 w2 ((hb.cell hlt).trans tz)
    by_cases h16 : c < 16
    · have hP : Hid ((⟨#[92, 117, 48, 48, 48]⟩ : ByteArray) ++ str (hexS c) = str (printedR c)) := Lib.hid (by
        show str [92, 117, 48, 48, 48] ++ str (hexS c) = _
        rw [str_append]; unfold printedR hexS; rw [he, if_pos h16]; simp [h16])
      have hs : (str (hexS c)).size = 1 := by rw [str_size]; unfold hexS; rw [if_pos h16]; rfl
      have h16' : (c : Int) < 16 := by omega
      have h0 : (0 : Int) ≤ c := by omega
      have CF' := fun w2 (hb : Below w.heap.size w w2) => CF w2 hb (by omega)
      generalize str (hexS c) = s at *
      clear CF tz hlt hc h16 he e1
      go_enter Tryz.func40, Tryz.ntmps40
      go_wp2_with (first
        | (go_at_call 56; ((with_reducible refine CI.mono ?_); rintro e w2 ⟨rfl, hb⟩))
        | (go_at_call 57; ((with_reducible refine (CF' _ hb).mono ?_); rintro e w3 ⟨rfl, hb3⟩)))
      go_ret
      rw [hP.out]
      exact ⟨rfl, hb.trans (hb3.mono hb.size)⟩
    by_cases h32 : c < 32
    · have hP : Hid ((⟨#[92, 117, 48, 48]⟩ : ByteArray) ++ str (hexS c) = str (printedR c)) := Lib.hid (by
        show str [92, 117, 48, 48] ++ str (hexS c) = _
        rw [str_append]; unfold printedR hexS; rw [he, if_neg h16]; simp [h16, h32])
      have hs : (str (hexS c)).size = 2 := by rw [str_size]; unfold hexS; rw [if_neg h16]; rfl
      have h16' : ¬ (c : Int) < 16 := by omega
      have h32' : (c : Int) < 32 := by omega
      have h0 : (0 : Int) ≤ c := by omega
      have CF' := fun w2 (hb : Below w.heap.size w w2) => CF w2 hb (by omega)
      generalize str (hexS c) = s at *
      clear CF tz hlt hc h16 he e1 h32
      go_enter Tryz.func40, Tryz.ntmps40
      go_wp2_with (first
        | (go_at_call 56; ((with_reducible refine CI.mono ?_); rintro e w2 ⟨rfl, hb⟩))
        | (go_at_call 57; ((with_reducible refine (CF' _ hb).mono ?_); rintro e w3 ⟨rfl, hb3⟩)))
      go_ret
      rw [hP.out]
      exact ⟨rfl, hb.trans (hb3.mono hb.size)⟩
    · have hP : Utf8.encode (c : Int) = str (printedR c) := by
        rw [utf_enc hc]; unfold printedR; rw [he]; simp [h16, h32]
      generalize str (printedR c) = p at *
      have h16' : ¬ (c : Int) < 16 := by omega
      have h32' : ¬ (c : Int) < 32 := by omega
      have d16 : decide ((c : Int) < 16) = false := by simpa using h16'
      have d32 : decide ((c : Int) < 32) = false := by simpa using h32'
      clear h16' h32'
      clear CF tz hlt hc h16 he e1 h32
      go_enter Tryz.func40, Tryz.ntmps40
      go_wp2_with (go_at_call 56; ((with_reducible refine CI.mono ?_); rintro e w2 ⟨rfl, hb⟩))
      go_ret
      exact ⟨rfl, hb⟩
end Go.Proofs.YtafmokpplnmbgaaGreatDoor

/- Layer 11: a printer in memory (its builder lies in a block of its own type); a piece is written. -/
namespace Go.Proofs.YtafmokpplnmbgaaGreatDoor
open Go.RowKit

theorem size_B : ∃ j, Tryz.prog.info? 50 = some j ∧ j.size = 2 := Option.map_eq_some_iff.1 (show (Tryz.prog.info? 50).map (·.size) = some 2 by kernel_rfl)
theorem lies_P : liesAt Tryz.prog Tryz.prog.depth 52 (2 / Tryz.prog.cellsOf 52) 0 50 1 = true := by kernel_rfl
theorem info_B8 : ∃ i0, Tryz.prog.info? 5 = some i0 ∧ i0.zero = some (.int .u8 0) ∧ i0.size = 1 ∧ i0.bytes = 1 := by
  obtain ⟨i, h1, h2⟩ := Option.map_eq_some_iff.1 info_u8
  simp only [Prod.mk.injEq] at h2
  exact ⟨i, h1, h2.1, h2.2.1, h2.2.2⟩
set_option maxHeartbeats 1000000 in
set_option maxRecDepth 100000 in
theorem bd_used (b : Nat) (w : World) (h0 : w.cell? ⟨b, 0, none⟩ = some (.pointer (some ⟨b, 0, none⟩))) :
    Calls Tryz.prog 55 #[.pointer (some ⟨b, 0, none⟩)] w fun e w' => e = .returned (.tuple #[]) ∧ w' = w := by
  obtain ⟨j, hj, _⟩ := size_B
  go_enter Tryz.func55, Tryz.ntmps55
  go_wp2
  rw [Lib.run_neq_ptr_same w _ Tryz.underlying48 hj]
  go_wp2
  go_end0
  exact ⟨rfl, rfl⟩
set_option maxHeartbeats 1000000 in
set_option maxRecDepth 100000 in
theorem bd_fresh (b : Nat) (w : World) (h0 : w.cell? ⟨b, 0, none⟩ = some (.pointer none)) (hsh : w.shape? b = some (52, 2)) (hfz : w.frozen? ⟨b, 0, none⟩ = false) :
    Calls Tryz.prog 55 #[.pointer (some ⟨b, 0, none⟩)] w fun e w' => e = .returned (.tuple #[]) ∧ w' = w.setCell ⟨b, 0, none⟩ (.pointer (some ⟨b, 0, none⟩)) := by
  obtain ⟨j, hj, hjs⟩ := size_B
  go_enter Tryz.func55, Tryz.ntmps55
  go_wp2
  rw [Lib.run_to_unsafe w ⟨b, 0, none⟩ Tryz.underlying48 Tryz.underlying78 hj (by rw [hjs]; decide) hsh (Nat.zero_lt_succ 1)]
  simp only [Result.andThen]
  rw [Oper.upon_value]
  go_wp2
  rw [run_callFunc_extern Tryz.func71 (by kernel_rfl) (by kernel_rfl) (by kernel_rfl) (e := Extern.AbiNoEscape.same) (by kernel_rfl)]
  rw [Lib.run_noEscape]
  simp only [Result.andThen]
  rw [Oper.upon_value]
  go_wp2
  rw [Lib.run_from_unsafe w ⟨b, 0, none⟩ Tryz.underlying78 Tryz.underlying48 hj hsh lies_P]
  simp only [Result.andThen]
  rw [Oper.upon_value]
  go_wp2
  go_end0
  exact ⟨rfl, rfl⟩
/-- The printer at block b has written these bytes. -/
def PrAt (w : World) (B b : Nat) (l : Bs) : Prop := Lib.IsBuilderF 52 5 B b (Lib.byteCells l) w
theorem bd_check (B b : Nat) (bs : List Value) (w : World) (h : Lib.IsBuilderF 52 5 B b bs w) :
    Calls Tryz.prog 55 #[.pointer (some ⟨b, 0, none⟩)] w fun e w' => e = .returned (.tuple #[]) ∧ (Lib.BuilderAtF 52 5 B b (.pointer (some ⟨b, 0, none⟩)) bs w' ∧ Below B w w' ∧ Lib.OthersKept 5 (some b) w w') := by
  rcases h with h | h
  · refine (bd_fresh b w h.cell0 h.shape h.frozen0).mono ?_
    rintro e w' ⟨rfl, rfl⟩
    exact ⟨rfl, h.used _, (Below.refl B w).setCell (p := ⟨b, 0, none⟩) h.1 _, (Lib.OthersKept.refl _ _ w).setCell ⟨b, 0, none⟩ rfl _⟩
  · refine (bd_used b w h.cell0).mono ?_
    rintro e w' ⟨rfl, rfl⟩
    exact ⟨rfl, h, Below.refl B _, Lib.OthersKept.refl _ _ _⟩
set_option maxHeartbeats 2000000 in
set_option maxRecDepth 100000 in
theorem bd_write (B b : Nat) (bs : List Value) (s : ByteArray) (w : World) (h : Lib.IsBuilderF 52 5 B b bs w) (hlen : bs.length + s.size ≤ 140737488355328) (hBw : B ≤ w.heap.size) :
    Calls Tryz.prog 39 #[.pointer (some ⟨b, 0, none⟩), .string s] w fun e w' => e = .returned (.tuple #[.int .i64 s.size, .nilIface]) ∧ (Lib.BuilderAtF 52 5 B b (.pointer (some ⟨b, 0, none⟩)) (bs ++ Lib.strCells s) w' ∧ Below B w w' ∧ Lib.OthersKept 5 (some b) w w') := by
  obtain ⟨i0, hi, hz0, hz1, hz2⟩ := info_B8
  go_enter Tryz.func39, Tryz.ntmps39
  go_wp2_with (go_at_call 55; refine (bd_check B b bs _ h).mono ?_)
  rintro e w1 ⟨rfl, h1, hb1, hk1⟩
  obtain ⟨hB, v, hbk, hown, hne⟩ := h1
  have c0 : w1.cell? ⟨b, 0, none⟩ = some (.pointer (some ⟨b, 0, none⟩)) := by rw [Lib.cell_of_heap hbk]; rfl
  have c1 : w1.cell? ⟨b, 1, none⟩ = some v := by rw [Lib.cell_of_heap hbk]; rfl
  go_wp2_with (at_builtin; refine Lib.wpList_append_own_stringF _ rfl _ _ 23 9 rfl B 5 i0 Tryz.underlying23 Tryz.underlying9 hi hz0 hz1 hz2 _ _ _ rfl hown s rfl ?c3 ?c4 ?c5 ?_)
  case c3 => unfold maxLen; omega
  case c4 => omega
  case c5 => have := hb1.size; omega
  intro v' w2 hown' hgrow _
  have hlt : b < w1.heap.size := by
    rcases Nat.lt_or_ge b w1.heap.size with h' | h'
    · exact h'
    · simp [Array.getElem?_eq_none h'] at hbk
  have hb2 : w2.heap[b]? = some (.cells #[.pointer (some ⟨b, 0, none⟩), v] 52 (0, 0)) := by
    rw [hgrow.block b hlt (fun e => hne e.symm)]
    exact hbk
  have d0 : w2.cell? ⟨b, 0, none⟩ = some (.pointer (some ⟨b, 0, none⟩)) := by rw [Lib.cell_of_heap hb2]; rfl
  have d1 : w2.cell? ⟨b, 1, none⟩ = some v := by rw [Lib.cell_of_heap hb2]; rfl
  have f1 : w2.frozen? ⟨b, 1, none⟩ = false := Lib.frozen_of_heap hb2 1
  obtain ⟨ao, n', cap, rfl⟩ : ∃ ao n' cap, v' = .slice ao n' cap := by
    rcases hown'.2 with ⟨hv, _⟩ | ⟨g, cap, cur, fz, hv, _⟩
    · exact ⟨_, _, _, hv⟩
    · exact ⟨_, _, _, hv⟩
  go_wp2
  go_ret2
  refine ⟨rfl, ?_, ?_, (hk1.grown hgrow (Lib.ownsRowF_kind hown)).setCell ⟨b, 1, none⟩ rfl _⟩
  · exact Lib.BuilderAtF.put (T := 52) (e := 5) hB hb2 (bs' := bs ++ Lib.strCells s) (by simpa [Lib.strCells_length] using hown') (by decide)
  · exact (hb1.grown hgrow (by have := hb1.size; omega) (fun k hk => (hown.lt k hk).1)).setCell (p := ⟨b, 1, none⟩) hB _
set_option maxHeartbeats 1000000 in
theorem bd_len (B b : Nat) (bs : List Value) (w : World) (h : Lib.IsBuilderF 52 5 B b bs w) :
    Calls Tryz.prog 15 #[.pointer (some ⟨b, 0, none⟩)] w fun e w' => e = .returned (.int .i64 bs.length) ∧ w' = w := by
  obtain ⟨p, hB, v, hbk, hown, hne⟩ : ∃ p, Lib.BuilderAtF 52 5 B b p bs w := by
    rcases h with h | h
    · exact ⟨_, h⟩
    · exact ⟨_, h⟩
  obtain ⟨ao, cap, rfl⟩ : ∃ ao cap, v = .slice ao bs.length cap := by
    rcases hown.2 with ⟨hv, h0⟩ | ⟨g, cap, cur, fz, hv, _⟩
    · exact ⟨none, 0, by rw [hv, h0]⟩
    · exact ⟨_, _, hv⟩
  have c1 : w.cell? ⟨b, 1, none⟩ = some (.slice ao bs.length cap) := by rw [Lib.cell_of_heap hbk]; rfl
  clear hown hne hbk h hB
  go_enter Tryz.func15, Tryz.ntmps15
  go_wp2
  go_ret
  exact ⟨rfl, rfl⟩
set_option maxHeartbeats 1000000 in
set_option maxRecDepth 100000 in
theorem bd_string (B b : Nat) (l : Bs) (w : World) (h : PrAt w B b l) (h0 : l ≠ []) :
    Calls Tryz.prog 16 #[.pointer (some ⟨b, 0, none⟩)] w fun e w' => e = .returned (.string (str l)) ∧ Below B w w' := by
  obtain ⟨p, hB, v, hbk, hown, hne⟩ : ∃ p, Lib.BuilderAtF 52 5 B b p (Lib.byteCells l) w := by
    rcases h with h | h
    · exact ⟨_, h⟩
    · exact ⟨_, h⟩
  have hl0 : l.length ≠ 0 := by simpa using h0
  rw [Lib.byteCells_length] at hown
  obtain ⟨g, cap, cur, fz, rfl, hbg, hg, hfz, hnc, hcm, hcs, htake⟩ : ∃ g cap cur fz, v = .slice (some ⟨g, 0, none⟩) l.length cap ∧ B ≤ g ∧ w.heap[g]? = some (.cells cur 5 fz) ∧ fz.2 ≤ l.length * 1 ∧ l.length ≤ cap ∧ cap ≤ maxLen ∧ cur.size = cap * 1 ∧ cur.toList.take (l.length * 1) = Lib.byteCells l := by
    rcases hown.2 with ⟨_, hz⟩ | ⟨g, cap, cur, fz, hv, r⟩
    · exact absurd hz hl0
    · exact ⟨g, cap, cur, fz, hv, r⟩
  have c1 : w.drew.cell? ⟨b, 1, none⟩ = some (.slice (some ⟨g, 0, none⟩) l.length cap) := by
    have : w.drew.heap[b]? = some (.cells #[p, .slice (some ⟨g, 0, none⟩) l.length cap] 52 (0, 0)) := hbk
    rw [Lib.cell_of_heap this]; rfl
  have hSD : (Builtin.unsafeSliceData_ #[23] 76 #[.slice (some ⟨g, 0, none⟩) l.length cap]).run Tryz.prog w.drew = .ok (.pointer (some ⟨g, 0, none⟩)) w.drew :=
    Lib.run_unsafeSliceData_row _ _ _ _ _ _ (by omega)
  have hUS : (Builtin.unsafeString_ #[76, 3] 9 #[.pointer (some ⟨g, 0, none⟩), .int .i64 l.length]).run Tryz.prog w.drew = .ok (.string (str l)) (w.drew.freeze ⟨g, 0, none⟩ l.length) := by
    refine Lib.run_unsafeString_row w.drew 76 3 9 5 Tryz.underlying76 (by kernel_rfl) g cur.size (by have hg' : w.drew.heap[g]? = some (.cells cur 5 fz) := hg; simp [World.shape?, hg']) l h0 (by omega) (by unfold maxLen at hcm; omega) ?_
    intro j x hx
    have := hown.cells (g := g) rfl j (.int .u8 x.toNat) (by simp [Lib.byteCells, hx])
    exact this
  have mixed : Tryz.prog.follows .mixedOrders = true := by kernel_rfl
  clear hown hne hbk h hg hfz htake hcs hcm
  go_enter Tryz.func16, Tryz.ntmps16
  go_wp2
  go_region_o
  all_goals (go_wp2; go_ret; exact ⟨rfl, Lib.below_freeze (Below.drew (Below.refl B w)) (p := ⟨g, 0, none⟩) hbg _⟩)
end Go.Proofs.YtafmokpplnmbgaaGreatDoor

/- Layer 11: a reader in memory; the next byte, what is taken, blanks. -/
namespace Go.Proofs.YtafmokpplnmbgaaGreatDoor
open Go.RowKit

/-- A reader's cells. -/
def rdC (s : ByteArray) (k lev : Nat) : Array Value := #[.string s, .int .i64 (k : Int), .int .i64 (lev : Int)]
/-- The reader at block q has the text S, of which r is left, and stands in so many lists and objects. -/
structure RdAt (w : World) (q : Nat) (S r : Bs) (lev : Nat) : Prop where
  row : rowC w q (rdC (str S) (S.length - r.length) lev) 58
  suf : r <:+ S
/-- A text that a reader may have. -/
def okT (S : Bs) : Prop := S.length ≤ 4611686018427387904
theorem RdAt.cell {w : World} {q : Nat} {S r : Bs} {lev : Nat} (h : RdAt w q S r lev) : w.cell? ⟨q, 0, none⟩ = some (.string (str S)) ∧ w.cell? ⟨q, 1, none⟩ = some (.int .i64 ((S.length - r.length : Nat) : Int)) ∧ w.cell? ⟨q, 2, none⟩ = some (.int .i64 (lev : Int)) :=
  ⟨rowC_cell h.row 0, rowC_cell h.row 1, rowC_cell h.row 2⟩
theorem RdAt.free {w : World} {q : Nat} {S r : Bs} {lev : Nat} (h : RdAt w q S r lev) (i : Nat) : w.frozen? ⟨q, i, none⟩ = false := rowC_free h.row i
theorem RdAt.lt {w : World} {q : Nat} {S r : Bs} {lev : Nat} (h : RdAt w q S r lev) : q < w.heap.size := rowC_lt h.row
theorem RdAt.chg {w w' : World} {q : Nat} {S r : Bs} {lev : Nat} (h : RdAt w q S r lev) {s : Nat → Prop} (hc : Chg s w w') (hs : ¬ s q) : RdAt w' q S r lev := ⟨hc.rowC h.row hs, h.suf⟩
theorem RdAt.below {w w' : World} {q : Nat} {S r : Bs} {lev : Nat} (h : RdAt w q S r lev) (hb : Below w.heap.size w w') : RdAt w' q S r lev := h.chg (s := fun _ => False) (Chg.of_below hb) id
theorem RdAt.drewN {w : World} {q : Nat} {S r : Bs} {lev : Nat} (h : RdAt w q S r lev) (n : Nat) : RdAt (w.drewN n) q S r lev := ⟨h.row, h.suf⟩
theorem RdAt.le {w : World} {q : Nat} {S r : Bs} {lev : Nat} (h : RdAt w q S r lev) : r.length ≤ S.length := h.suf.length_le
theorem suf_tail {r S : Bs} (h : r <:+ S) : r.tail <:+ S := (List.tail_suffix r).trans h
/-- One byte further. -/
theorem RdAt.move {w : World} {q : Nat} {S r : Bs} {lev : Nat} (h : RdAt w q S r lev) (hr : r ≠ []) {k : Nat} (hk : k = S.length - r.length) : RdAt (w.setCell ⟨q, 1, none⟩ (.int .i64 ((k : Int) + 1))) q S r.tail lev := by
  have hl := List.length_pos_iff.2 hr
  have hle := h.le
  refine ⟨?_, suf_tail h.suf⟩
  have := rowC_set h.row 1 (.int .i64 ((k : Int) + 1))
  have e : (rdC (str S) (S.length - r.length) lev).setIfInBounds 1 (.int .i64 ((k : Int) + 1)) = rdC (str S) (S.length - r.tail.length) lev := by
    have e2 : ((S.length - r.tail.length : Nat) : Int) = (k : Int) + 1 := by rw [List.length_tail]; omega
    show #[_, _, _] = #[_, _, _]
    rw [e2]
  rw [e] at this
  exact this
theorem byte_at {S r : Bs} (h : r <:+ S) (hr : r ≠ []) : (str S).data.toList.getD (S.length - r.length) 0 = hd r := by
  obtain ⟨p, rfl⟩ := h
  rw [str_toList, List.length_append, Nat.add_sub_cancel]
  cases r with
  | nil => exact absurd rfl hr
  | cons c r => simp [hd]
set_option maxHeartbeats 1000000 in
/-- The next byte. -/
theorem next_any {w : World} {q : Nat} {S r : Bs} {lev : Nat} (h : RdAt w q S r lev) :
    Calls Tryz.prog 41 #[.pointer (some ⟨q, 0, none⟩)] w fun e w' => e = .returned (.int .u8 ((hd r).toNat : Int)) ∧ ∃ n, w' = w.drewN n := by
  obtain ⟨c0, c1, _⟩ := h.cell
  have hsz := str_size S
  have hle := h.le
  generalize hs : str S = s at c0 hsz
  generalize hk : S.length - r.length = k at c1
  by_cases hr : r = []
  · subst hr
    obtain rfl : k = s.size := by simp at hk; omega
    go_enter Tryz.func41, Tryz.ntmps41
    clear hs hk hsz hle h
    go_wp2
    go_quiet (fail)
    go_wp2
    go_ret
    exact ⟨rfl, _, rfl⟩
  · have hl := List.length_pos_iff.2 hr
    have hlt : k < s.size := by omega
    have hb := byte_at h.suf hr
    rw [hs, hk] at hb
    have hidx := idx_str s k (k : Int) rfl hlt
    rw [hb] at hidx
    have hne : ((k : Int) == (s.size : Int)) = false := by rw [beq_eq_false_iff_ne]; omega
    generalize hd r = c at hidx ⊢
    clear hs hk hsz hle h hl hr hb
    go_enter Tryz.func41, Tryz.ntmps41
    go_wp2
    go_quiet (fail)
    go_wp2
    go_quiet (fail)
    go_wp2
    go_ret
    exact ⟨rfl, _, World.drewN_drewN _ _ _⟩
end Go.Proofs.YtafmokpplnmbgaaGreatDoor

/- Layer 11: what is taken; where it is wrong; blanks. -/
namespace Go.Proofs.YtafmokpplnmbgaaGreatDoor
open Go.RowKit

/-- An error, and where it stands. -/
def errV (code : Nat) (k : Nat) : Value := .iface 64 (.agg #[.int .i64 (k : Int), .int .i64 (code : Int)])
def errAt (S : Bs) (code : Nat) (r : Bs) : Value := errV code (S.length - r.length)
theorem unfit_any (k : Nat) (x : Int) (hx : x = k) (w : World) : Calls Tryz.prog 27 #[.int .i64 x] w fun e w' => e = .returned (errV 10 k) ∧ w = w' := by
  subst hx
  go_enter Tryz.func27, Tryz.ntmps27
  go_wp2
  go_ret
  exact ⟨rfl, rfl⟩
def takeB (r : Bs) (c : UInt8) : Bool := decide (hd r = c)
def takeR (r : Bs) (c : UInt8) : Bs := if hd r = c then r.tail else r
theorem take_yes {r : Bs} {c : UInt8} (h : hd r = c) : takeB r c = true ∧ takeR r c = r.tail := ⟨by unfold takeB; simpa using h, if_pos h⟩
theorem take_no {r : Bs} {c : UInt8} (h : ¬ hd r = c) : takeB r c = false ∧ takeR r c = r := ⟨by unfold takeB; simpa using h, if_neg h⟩
theorem u8_ne {a b : UInt8} (h : ¬ a = b) : ¬ ((a.toNat : Int) = (b.toNat : Int)) := fun e => h (UInt8.toNat_inj.1 (by omega))
set_option maxHeartbeats 1000000 in
/-- A byte is taken. -/
theorem take_any {w : World} {q : Nat} {S r : Bs} {lev : Nat} (h : RdAt w q S r lev) (hS : okT S) (c : UInt8) (x : Int) (hx : x = (c.toNat : Int)) (hc : c ≠ 0) :
    Calls Tryz.prog 48 #[.pointer (some ⟨q, 0, none⟩), .int .u8 x] w fun e w' => e = .returned (.bool (takeB r c)) ∧ RdAt w' q S (takeR r c) lev ∧ Chg (· = q) w w' := by
  subst hx
  have hN := fun w' (h' : RdAt w' q S r lev) => next_any h'
  have H := Lib.hid h
  by_cases hr : hd r = c
  · have hne : r ≠ [] := ne_hd hr hc
    rw [(take_yes hr).1, (take_yes hr).2]
    rw [hr] at hN
    have hle := h.le
    unfold okT at hS
    obtain ⟨_, c1, _⟩ := h.cell
    have f1 := h.free 1
    generalize hk : S.length - r.length = k at c1
    have hk2 : k ≤ 4611686018427387904 := by omega
    have HM := Lib.hid (fun n => (h.drewN n).move hne hk.symm)
    clear hle hS hk hr h
    go_enter Tryz.func48, Tryz.ntmps48
    go_wp2_with (go_at_call 41; ((with_reducible refine (hN _ H.out).mono ?_); rintro e w' ⟨rfl, n, rfl⟩))
    go_ret
    exact ⟨rfl, HM.out n, ((Chg.refl _ w).drewN n).setCell _ _ (.inl rfl)⟩
  · rw [(take_no hr).1, (take_no hr).2]
    have hne : ((((hd r).toNat : Nat) : Int) != ((c.toNat : Nat) : Int)) = true := by
      rw [bne_iff_ne]; exact u8_ne hr
    clear hr h hS
    go_enter Tryz.func48, Tryz.ntmps48
    go_wp2_with (go_at_call 41; ((with_reducible refine (hN _ H.out).mono ?_); rintro e w' ⟨rfl, n, rfl⟩))
    go_ret
    exact ⟨rfl, H.out.drewN n, (Chg.refl _ w).drewN n⟩
end Go.Proofs.YtafmokpplnmbgaaGreatDoor

