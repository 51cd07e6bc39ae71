/- Layer 11, plain: a printed text with blanks put in around what stands between its parts. -/
import Derived.Test.YtlknngplnimdpaaGreatDoorJsG
namespace Go.Proofs.YtlknngplnimdpaaGreatDoor
open Go.Lib

def isPt (c : UInt8) : Bool := c == 44 || c == 58 || c == 91 || c == 93 || c == 123 || c == 125
/-- Blanks are put in, outside of strings. -/
def insF (g : Bs) : Nat → Bool → Bs → Bs
  | 0, _, _ => []
  | _ + 1, _, [] => []
  | n + 1, s, c :: l =>
    if s = true ∧ c = 92 then (c :: l).take 2 ++ insF g n s l.tail
    else if c = 34 then c :: insF g n (!s) l
    else if s = false ∧ isPt c = true then g ++ [c] ++ g ++ insF g n s l
    else c :: insF g n s l
def plainB (c : UInt8) : Prop := c ≠ 34 ∧ isPt c = false
theorem ins_plain {g : Bs} : ∀ (t : Bs) (n : Nat) (r : Bs), (∀ c ∈ t, plainB c) → t.length ≤ n → insF g n false (t ++ r) = t ++ insF g (n - t.length) false r
  | [], n, r, _, _ => by simp
  | c :: t, n, r, h, hn => by
    obtain ⟨m, rfl⟩ : ∃ m, n = m + 1 := ⟨n - 1, by simp at hn; omega⟩
    obtain ⟨h1, h2⟩ := h c (by simp)
    rw [List.cons_append, insF, if_neg (by simp), if_neg h1, if_neg (by rw [h2]; simp), ins_plain t m r (fun d hd => h d (by simp [hd])) (by simpa using hn)]
    simp
theorem ins_pt {g : Bs} (c : UInt8) (hc : isPt c = true) (n : Nat) (r : Bs) : insF g (n + 1) false (c :: r) = g ++ [c] ++ g ++ insF g n false r := by
  have h34 : c ≠ 34 := by rintro rfl; exact absurd hc (by decide)
  rw [insF, if_neg (by simp), if_neg h34, if_pos ⟨rfl, hc⟩]
/-! ### Strings -/
def strB (c : UInt8) : Prop := c ≠ 34 ∧ c ≠ 92
theorem ins_str {g : Bs} : ∀ (t : Bs) (n : Nat) (r : Bs), (∀ c ∈ t, strB c) → t.length ≤ n → insF g n true (t ++ r) = t ++ insF g (n - t.length) true r
  | [], n, r, _, _ => by simp
  | c :: t, n, r, h, hn => by
    obtain ⟨m, rfl⟩ : ∃ m, n = m + 1 := ⟨n - 1, by simp at hn; omega⟩
    obtain ⟨h1, h2⟩ := h c (by simp)
    rw [List.cons_append, insF, if_neg (fun e => h2 e.2), if_neg h1, if_neg (fun e => by cases e.1), ins_str t m r (fun d hd => h d (by simp [hd])) (by simpa using hn)]
    simp
theorem ins_esc {g : Bs} (b : UInt8) (n : Nat) (r : Bs) : insF g (n + 1) true (92 :: b :: r) = 92 :: b :: insF g n true r := by
  rw [insF, if_pos ⟨rfl, rfl⟩]; rfl
set_option maxHeartbeats 1000000 in
theorem enc_big {c : Nat} (hc : scal c) (h : 128 ≤ c) : ∀ b ∈ encodeRune (c : Int), 128 ≤ b.toNat := by
  unfold scal at hc
  unfold encodeRune
  by_cases h2 : c < 2048
  · rw [encodeRuneZ_two (by omega) (by omega)]
    have e0 : ((192 + (c : Int) / 64).toNat.toUInt8).toNat = 192 + c / 64 := by simp; omega
    have e1 : ((128 + (c : Int) % 64).toNat.toUInt8).toNat = 128 + c % 64 := by simp; omega
    intro b hb
    simp only [List.map_cons, List.map_nil, List.mem_cons, List.not_mem_nil, or_false] at hb
    rcases hb with rfl | rfl <;> omega
  by_cases h3 : c < 65536
  · rw [encodeRuneZ_three (by omega)]
    have e0 : ((224 + (c : Int) / 4096).toNat.toUInt8).toNat = 224 + c / 4096 := by simp; omega
    have e1 : ((128 + (c : Int) / 64 % 64).toNat.toUInt8).toNat = 128 + c / 64 % 64 := by simp; omega
    have e2 : ((128 + (c : Int) % 64).toNat.toUInt8).toNat = 128 + c % 64 := by simp; omega
    intro b hb
    simp only [List.map_cons, List.map_nil, List.mem_cons, List.not_mem_nil, or_false] at hb
    rcases hb with rfl | rfl | rfl <;> omega
  · rw [encodeRuneZ_four (by omega) (by omega)]
    have e0 : ((240 + (c : Int) / 262144).toNat.toUInt8).toNat = 240 + c / 262144 := by simp; omega
    have e1 : ((128 + (c : Int) / 4096 % 64).toNat.toUInt8).toNat = 128 + c / 4096 % 64 := by simp; omega
    have e2 : ((128 + (c : Int) / 64 % 64).toNat.toUInt8).toNat = 128 + c / 64 % 64 := by simp; omega
    have e3 : ((128 + (c : Int) % 64).toNat.toUInt8).toNat = 128 + c % 64 := by simp; omega
    intro b hb
    simp only [List.map_cons, List.map_nil, List.mem_cons, List.not_mem_nil, or_false] at hb
    rcases hb with rfl | rfl | rfl | rfl <;> omega
theorem enc_strB {c : Nat} (hc : scal c) (h1 : c ≠ 34) (h2 : c ≠ 92) : ∀ b ∈ encodeRune (c : Int), strB b := by
  intro b hb
  by_cases h : 128 ≤ c
  · have := enc_big hc h b hb
    exact ⟨by rintro rfl; exact absurd this (by decide), by rintro rfl; exact absurd this (by decide)⟩
  · rw [enc_ascii (by omega), List.mem_singleton] at hb
    have e : b.toNat = c := by rw [hb]; simp; omega
    exact ⟨by rintro rfl; exact h1 e.symm, by rintro rfl; exact h2 e.symm⟩
theorem hexd_str : ∀ k : Fin 16, hexd k.val ≠ 34 ∧ hexd k.val ≠ 92 := by decide
theorem ins_printed {g : Bs} {c : Nat} (hc : scal c) (n : Nat) (r : Bs) (hn : (printedR c).length ≤ n) : ∃ m, n - (printedR c).length ≤ m ∧ m ≤ n ∧ insF g n true (printedR c ++ r) = printedR c ++ insF g m true r := by
  unfold printedR at hn ⊢
  cases he : escR c with
  | some b =>
    rw [he] at hn
    dsimp only at hn ⊢
    obtain ⟨m, rfl⟩ : ∃ m, n = m + 1 := ⟨n - 1, by simp at hn; omega⟩
    exact ⟨m, by simp, by omega, by show insF g (m + 1) true (92 :: b :: r) = _; rw [ins_esc]; rfl⟩
  | none =>
    rw [he] at hn
    dsimp only at hn ⊢
    have six : ∀ (a d : UInt8), strB a → strB d → 6 ≤ n → ∃ m, n - 6 ≤ m ∧ m ≤ n ∧ insF g n true ([92, 117, 48, 48, a, d] ++ r) = [92, 117, 48, 48, a, d] ++ insF g m true r := by
      intro a d ha hd hn
      obtain ⟨m, rfl⟩ : ∃ m, n = m + 1 := ⟨n - 1, by omega⟩
      refine ⟨m - 4, by omega, by omega, ?_⟩
      show insF g (m + 1) true (92 :: 117 :: ([48, 48, a, d] ++ r)) = _
      rw [ins_esc, ins_str [48, 48, a, d] m r (by
        intro x hx
        simp only [List.mem_cons, List.not_mem_nil, or_false] at hx
        rcases hx with rfl | rfl | rfl | rfl
        · exact ⟨by decide, by decide⟩
        · exact ⟨by decide, by decide⟩
        · exact ha
        · exact hd) (by simp; omega)]
      rfl
    split at hn
    · rename_i h16
      rw [if_pos h16]
      exact six 48 (hexd c) ⟨by decide, by decide⟩ (hexd_str ⟨c, h16⟩) (by simpa using hn)
    rename_i h16
    rw [if_neg h16]
    split at hn
    · rename_i h32
      rw [if_pos h32]
      exact six 49 (hexd (c - 16)) ⟨by decide, by decide⟩ (hexd_str ⟨c - 16, by omega⟩) (by simpa using hn)
    rename_i h32
    rw [if_neg h32]
    refine ⟨n - (encodeRune (c : Int)).length, Nat.le_refl _, by omega, ins_str _ n r (enc_strB hc ?_ ?_) hn⟩
    · rintro rfl; exact absurd he (by decide)
    · rintro rfl; exact absurd he (by decide)
theorem ins_body {g : Bs} : ∀ (cs : List Nat) (n : Nat) (r : Bs), (∀ c ∈ cs, scal c) → (cs.flatMap printedR).length ≤ n → ∃ m, n - (cs.flatMap printedR).length ≤ m ∧ m ≤ n ∧ insF g n true (cs.flatMap printedR ++ r) = cs.flatMap printedR ++ insF g m true r
  | [], n, r, _, _ => ⟨n, by simp, Nat.le_refl _, rfl⟩
  | c :: cs, n, r, h, hn => by
    rw [List.flatMap_cons, List.length_append] at hn
    rw [List.flatMap_cons, List.append_assoc, List.length_append]
    obtain ⟨m1, a1, b1, e1⟩ := ins_printed (g := g) (h c (by simp)) n (cs.flatMap printedR ++ r) (by omega)
    obtain ⟨m2, a2, b2, e2⟩ := ins_body (g := g) cs m1 r (fun d hd => h d (by simp [hd])) (by omega)
    exact ⟨m2, by omega, by omega, by rw [e1, e2, List.append_assoc]⟩
/-- What ends of the putting in says of a text that is put in whole. -/
def insOk (g s t : Bs) : Prop := ∀ (n : Nat) (r : Bs), s.length + r.length ≤ n → ∃ m, r.length ≤ m ∧ insF g n false (s ++ r) = t ++ insF g m false r
theorem insOk.nil (g : Bs) : insOk g [] [] := fun n r h => ⟨n, by simpa using h, rfl⟩
theorem insOk.app {g a b c d : Bs} (h : insOk g a b) (k : insOk g c d) : insOk g (a ++ c) (b ++ d) := by
  intro n r hn
  rw [List.length_append] at hn
  obtain ⟨m1, h1, e1⟩ := h n (c ++ r) (by rw [List.length_append]; omega)
  rw [List.length_append] at h1
  obtain ⟨m2, h2, e2⟩ := k m1 r (by omega)
  exact ⟨m2, h2, by rw [List.append_assoc, e1, e2, List.append_assoc]⟩
theorem insOk.pt {g : Bs} {c : UInt8} (hc : isPt c = true) : insOk g [c] (g ++ [c] ++ g) := by
  intro n r hn
  obtain ⟨m, rfl⟩ : ∃ m, n = m + 1 := ⟨n - 1, by simp at hn; omega⟩
  exact ⟨m, by simp at hn; omega, ins_pt c hc m r⟩
theorem insOk.plain {g t : Bs} (h : ∀ c ∈ t, plainB c) : insOk g t t := by
  intro n r hn
  exact ⟨n - t.length, by omega, ins_plain t n r h (by omega)⟩
theorem insOk.quo {g t : Bs} (ht : validD t = true) : insOk g (quoT t) (quoT t) := by
  obtain ⟨cs, h1, rfl⟩ := valid_utf t.length t (Nat.le_refl _) ht
  unfold quoT quoR
  rw [runesT_utf h1]
  intro n r hn
  simp only [List.length_cons, List.length_append, List.length_nil] at hn
  obtain ⟨m, rfl⟩ : ∃ m, n = m + 1 := ⟨n - 1, by omega⟩
  obtain ⟨m2, a2, b2, e2⟩ := ins_body (g := g) cs m ([34] ++ r) h1 (by omega)
  obtain ⟨m3, rfl⟩ : ∃ m3, m2 = m3 + 1 := ⟨m2 - 1, by omega⟩
  refine ⟨m3, by omega, ?_⟩
  have e : insF g (m + 1) false (34 :: (cs.flatMap printedR ++ ([34] ++ r))) = 34 :: insF g m true (cs.flatMap printedR ++ ([34] ++ r)) := by
    rw [insF, if_neg (by simp), if_pos rfl]; rfl
  have e3 : insF g (m3 + 1) true ([34] ++ r) = 34 :: insF g m3 false r := by
    rw [List.singleton_append, insF, if_neg (by simp), if_pos rfl]; rfl
  rw [List.cons_append, List.append_assoc, e, e2, e3]
  simp
/-! ### Numbers -/
theorem dg_plain {c : UInt8} (h : isDg c = true) : plainB c := by
  constructor
  · rintro rfl; exact absurd h (by decide)
  · cases hb : isPt c with
    | false => rfl
    | true =>
      unfold isPt at hb
      simp only [Bool.or_eq_true, beq_iff_eq] at hb
      rcases hb with ((((rfl | rfl) | rfl) | rfl) | rfl) | rfl <;> exact absurd h (by decide)
theorem dropD_plain : ∀ t : Bs, dropD t = [] → ∀ c ∈ t, plainB c
  | [], _, c, hc => by cases hc
  | d :: t, h, c, hc => by
    rw [dropD] at h
    split at h
    · rename_i hd
      rcases List.mem_cons.1 hc with rfl | hc
      · exact dg_plain hd
      · exact dropD_plain t h c hc
    · cases h
theorem dig_plain {t : Bs} (h : digP t = .ok () []) : ∀ c ∈ t, plainB c := dropD_plain t (dig_ok_nil h)
theorem mem_hd {l : Bs} {x : UInt8} (hx : hd l = x) (h0 : x ≠ 0) {P : UInt8 → Prop} (h1 : P x) (h2 : ∀ c ∈ l.tail, P c) : ∀ c ∈ l, P c := by
  rw [cons_of_hd hx h0]
  intro c hc
  rcases List.mem_cons.1 hc with rfl | hc
  · exact h1
  · exact h2 c hc
theorem plain_lit : plainB 45 ∧ plainB 43 ∧ plainB 46 ∧ plainB 101 ∧ plainB 69 ∧ plainB 48 := by
  refine ⟨?_, ?_, ?_, ?_, ?_, ?_⟩ <;> exact ⟨by decide, by decide⟩
theorem exp_plain {t : Bs} (h : expP t = .ok () []) : ∀ c ∈ t, plainB c := by
  obtain ⟨p1, p2, p3, p4, p5, p6⟩ := plain_lit
  unfold expP at h
  split at h
  · rename_i he
    have key : ∀ c ∈ t.tail, plainB c := by
      split at h
      · rename_i hs
        rcases hs with hs | hs
        · exact mem_hd hs (by decide) p2 (dig_plain h)
        · exact mem_hd hs (by decide) p1 (dig_plain h)
      · exact dig_plain h
    rcases he with he | he
    · exact mem_hd he (by decide) p4 key
    · exact mem_hd he (by decide) p5 key
  · rw [Res.ok.injEq] at h
    rw [h.2]
    intro c hc; cases hc
theorem dig_then {t q : Bs} (hx : digP t = .ok () q) (h : ∀ c ∈ q, plainB c) : ∀ c ∈ t, plainB c := by
  obtain ⟨u, h1, h2, _⟩ := dig_pre hx
  subst h1
  intro c hc
  rcases List.mem_append.1 hc with hc | hc
  · exact dropD_plain u h2 c hc
  · exact h c hc
theorem frac_plain {t : Bs} (h : fracP t = .ok () []) : ∀ c ∈ t, plainB c := by
  obtain ⟨p1, p2, p3, p4, p5, p6⟩ := plain_lit
  unfold fracP at h
  split at h
  · rename_i he
    cases hx : digP t.tail with
    | bad k q => rw [hx] at h; cases h
    | ok u q =>
      rw [hx] at h
      exact mem_hd he (by decide) p3 (dig_then hx (exp_plain h))
  · exact exp_plain h
theorem int_plain {t : Bs} (h : intP t = .ok () []) : ∀ c ∈ t, plainB c := by
  obtain ⟨p1, p2, p3, p4, p5, p6⟩ := plain_lit
  unfold intP at h
  split at h
  · rename_i he
    exact mem_hd he (by decide) p6 (frac_plain h)
  · cases hx : digP t with
    | bad k q => rw [hx] at h; cases h
    | ok u q => rw [hx] at h; exact dig_then hx (frac_plain h)
theorem num_plain {t : Bs} (h : isNum t) : ∀ c ∈ t, plainB c := by
  obtain ⟨p1, p2, p3, p4, p5, p6⟩ := plain_lit
  unfold isNum numP at h
  split at h
  · rename_i he
    exact mem_hd he (by decide) p1 (int_plain h)
  · exact int_plain h
/-! ### Values -/
theorem sep_ins {g : Bs} : ∀ (l m : List Bs), l.length = m.length → (∀ i, i < l.length → insOk g (l.getD i []) (m.getD i [])) → insOk g (sepG [] l) (sepG g m)
  | [], [], _, _ => insOk.nil g
  | x :: l, y :: m, hl, h => by
    have h0 := h 0 (by simp)
    have ht := sep_ins l m (by simpa using hl) (fun i hi => by have := h (i + 1) (by simp; omega); simpa using this)
    have e1 : sepG [] (x :: l) = [44] ++ (x ++ sepG [] l) := by simp [sepG]
    have e2 : sepG g (y :: m) = (g ++ [44] ++ g) ++ (y ++ sepG g m) := by simp [sepG]
    rw [e1, e2]
    exact (insOk.pt (by decide)).app ((show insOk g x y from h0).app ht)
theorem join_ins {g : Bs} (l m : List Bs) (hl : l.length = m.length) (h : ∀ i, i < l.length → insOk g (l.getD i []) (m.getD i [])) : insOk g (joinG [] l) (joinG g m) := by
  cases l with
  | nil =>
    cases m with
    | nil => exact insOk.nil g
    | cons y m => simp at hl
  | cons x l =>
    cases m with
    | nil => simp at hl
    | cons y m =>
      rw [joinG_cons, joinG_cons]
      have h0 := h 0 (by simp)
      exact (show insOk g x y from h0).app (sep_ins l m (by simpa using hl) (fun i hi => by have := h (i + 1) (by simp; omega); simpa using this))
theorem word_plain (k : Int) : ∀ c ∈ wordOf k, plainB c := by
  unfold wordOf
  have : ∀ c ∈ nullT ++ falseT ++ trueT, (c ≠ 34 ∧ isPt c = false) := by decide
  intro c hc
  refine this c ?_
  split at hc
  · simp [hc]
  split at hc <;> simp [hc]
theorem prG_ins {g : Bs} : ∀ (d : Nat) (v : JV), SizeOf.sizeOf v ≤ d → may v → insOk g (prG [] v) (prG g v) := by
  intro d
  induction d with
  | zero =>
    intro v hd
    obtain ⟨k, t, items, keys⟩ := v
    simp at hd
  | succ d ih =>
    intro v hd hv
    obtain ⟨k, t, items, keys⟩ := v
    have hit : ∀ i, i < items.length → ∀ x, items[i]? = some x → insOk g (prG [] x) (prG g x) := by
      intro i hi x hx
      have hmem : x ∈ items := List.mem_of_getElem? hx
      have hs := List.sizeOf_lt_of_mem hmem
      simp at hd
      refine ih x (by omega) ?_
      rw [may] at hv
      exact mayL_mem hv.1 x hmem
    rw [prG, prG]
    by_cases h3 : k = 3
    · subst h3
      rw [if_pos rfl, if_pos rfl]
      exact insOk.plain (num_plain (may_num hv).1)
    rw [if_neg h3, if_neg h3]
    by_cases h4 : k = 4
    · subst h4
      rw [if_pos rfl, if_pos rfl]
      exact insOk.quo (may_str hv).1
    rw [if_neg h4, if_neg h4]
    by_cases h5 : k = 5
    · subst h5
      rw [if_pos rfl, if_pos rfl]
      rw [show (([] : Bs) ++ [91] ++ []) = [91] from rfl, show (([] : Bs) ++ [93] ++ []) = [93] from rfl]
      refine ((insOk.pt (by decide)).app (join_ins _ _ (by rw [prL_map, prL_map]; simp) fun i hi => ?_)).app (insOk.pt (by decide))
      rw [prL_map, prL_map]
      rw [prL_map, List.length_map] at hi
      have h1 : items[i]? = some items[i] := List.getElem?_eq_getElem hi
      have := hit i hi _ h1
      simpa [List.getD_eq_getElem?_getD, h1] using this
    rw [if_neg h5, if_neg h5]
    by_cases h6 : k = 6
    · subst h6
      obtain ⟨_, _, hl, hvk, _⟩ := may_obj hv
      rw [if_pos rfl, if_pos rfl]
      rw [show (([] : Bs) ++ [123] ++ []) = [123] from rfl, show (([] : Bs) ++ [125] ++ []) = [125] from rfl]
      refine ((insOk.pt (by decide)).app (join_ins _ _ (by rw [zip_back _ _ hl, zip_back _ _ hl]; simp) fun i hi => ?_)).app (insOk.pt (by decide))
      rw [zip_back _ _ hl, zip_back _ _ hl]
      rw [zip_back _ _ hl, List.length_map, List.length_zip] at hi
      have hi1 : i < items.length := by omega
      have hi2 : i < keys.length := by omega
      have h1 : items[i]? = some items[i] := List.getElem?_eq_getElem hi1
      have h2 : keys[i]? = some keys[i] := List.getElem?_eq_getElem hi2
      have h3 : (keys.zip items)[i]? = some (keys[i], items[i]) := by rw [List.getElem?_zip_eq_some]; exact ⟨h2, h1⟩
      have hx := hit i hi1 _ h1
      have hk : validD keys[i] = true := hvk _ (List.getElem_mem _)
      have key : insOk g (pairG [] keys[i] (prG [] items[i])) (pairG g keys[i] (prG g items[i])) := by
        unfold pairG
        rw [show (([] : Bs) ++ [58] ++ []) = [58] from rfl]
        exact ((insOk.quo hk).app (insOk.pt (by decide))).app hx
      simpa [List.getD_eq_getElem?_getD, h3] using key
    · rw [if_neg h6, if_neg h6]
      exact insOk.plain (word_plain k)
/-- THE BLANKS. -/
theorem ins_all {g : Bs} {v : JV} (hv : may v) (n : Nat) (hn : (prG [] v).length ≤ n) : insF g n false (prG [] v) = prG g v := by
  obtain ⟨m, _, e⟩ := prG_ins (g := g) _ v (Nat.le_refl _) hv n [] (by simpa using hn)
  have e0 : ∀ m, insF g m false [] = [] := by intro m; cases m <;> rfl
  rw [List.append_nil, e0, List.append_nil] at e
  exact e
end Go.Proofs.YtlknngplnimdpaaGreatDoor
