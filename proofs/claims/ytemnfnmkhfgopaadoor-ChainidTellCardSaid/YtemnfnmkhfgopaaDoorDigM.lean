/- Layer 5: digests as texts, in plain words. -/
import Init
namespace Go.Proofs.YtemnfnmkhfgopaaDoor

/-- A digit's byte. -/
def hexB (n : Nat) : UInt8 := if n < 10 then UInt8.ofNat (48 + n) else UInt8.ofNat (87 + n)
/-- A digit's value; 0 of what is none. -/
def valN (c : UInt8) : Nat := if 48 ≤ c.toNat ∧ c.toNat ≤ 57 then c.toNat - 48 else if 97 ≤ c.toNat ∧ c.toNat ≤ 102 then c.toNat - 87 else 0
/-- Is it a digit? -/
def isD (c : UInt8) : Bool := decide (48 ≤ c.toNat ∧ c.toNat ≤ 57) || decide (97 ≤ c.toNat ∧ c.toNat ≤ 102)
theorem hexB_toNat {n : Nat} (h : n < 16) : (hexB n).toNat = if n < 10 then 48 + n else 87 + n := by
  unfold hexB
  split
  · rw [UInt8.toNat_ofNat_of_lt' (show _ < 256 by omega)]
  · rw [UInt8.toNat_ofNat_of_lt' (show _ < 256 by omega)]
theorem valN_hexB {n : Nat} (h : n < 16) : valN (hexB n) = n := by
  have e := hexB_toNat h
  unfold valN
  rw [e]
  by_cases h1 : n < 10
  · rw [if_pos h1, if_pos (by omega)]; omega
  · rw [if_neg h1, if_neg (by omega), if_pos (by omega)]; omega
theorem isD_hexB {n : Nat} (h : n < 16) : isD (hexB n) = true := by
  have e := hexB_toNat h
  unfold isD
  rw [e, Bool.or_eq_true, decide_eq_true_eq, decide_eq_true_eq]
  by_cases h1 : n < 10
  · rw [if_pos h1]; omega
  · rw [if_neg h1]; omega
theorem valN_lt (c : UInt8) : valN c < 16 := by
  unfold valN
  split
  · omega
  · split <;> omega
theorem hexB_valN {c : UInt8} (h : isD c = true) : hexB (valN c) = c := by
  have e := hexB_toNat (valN_lt c)
  refine UInt8.toNat_inj.1 ?_
  rw [e]
  unfold isD at h
  unfold valN
  simp only [Bool.or_eq_true, decide_eq_true_eq] at h
  rcases h with h | h
  · rw [if_pos h, if_pos (by omega)]; omega
  · have h0 : ¬ (48 ≤ c.toNat ∧ c.toNat ≤ 57) := by omega
    rw [if_neg h0, if_pos h, if_neg (by omega)]; omega
theorem valN_none {c : UInt8} (h : isD c = false) : valN c = 0 := by
  unfold isD at h
  simp only [Bool.or_eq_false_iff, decide_eq_false_iff_not] at h
  unfold valN
  rw [if_neg h.1, if_neg h.2]
theorem isD_of_hexB {c : UInt8} {n : Nat} (hn : n < 16) (h : hexB n = c) : isD c = true ∧ valN c = n := by
  subst h
  exact ⟨isD_hexB hn, valN_hexB hn⟩
theorem not_digit {c : UInt8} (h : ∀ j, j < 16 → hexB j ≠ c) : isD c = false := by
  cases e : isD c with
  | false => rfl
  | true => exact absurd (hexB_valN e) (h _ (valN_lt c))

/-- The digits of bytes. -/
def hexL (l : List UInt8) : List UInt8 := l.flatMap fun b => [hexB (b.toNat / 16), hexB (b.toNat % 16)]
theorem hexL_length (l : List UInt8) : (hexL l).length = 2 * l.length := by
  induction l with
  | nil => rfl
  | cons a r ih => simp only [hexL, List.flatMap_cons, List.length_append, List.length_cons, List.length_nil] at ih ⊢; omega
theorem hexL_append (a b : List UInt8) : hexL (a ++ b) = hexL a ++ hexL b := by simp [hexL]
theorem hexL_snoc (a : List UInt8) (b : UInt8) : hexL (a ++ [b]) = hexL a ++ [hexB (b.toNat / 16), hexB (b.toNat % 16)] := by simp [hexL]
theorem hexL_digits (l : List UInt8) : ∀ c ∈ hexL l, isD c = true := by
  intro c hc
  simp only [hexL, List.mem_flatMap, List.mem_cons, List.not_mem_nil, or_false] at hc
  obtain ⟨b, _, h | h⟩ := hc
  · rw [h]; exact isD_hexB (by have := b.toNat_lt; omega)
  · rw [h]; exact isD_hexB (by omega)
def nameL : List UInt8 := [115, 104, 97, 50, 53, 54, 58]
/-- A digest's text. -/
def textL (l : List UInt8) : List UInt8 := nameL ++ hexL l
theorem textL_length (l : List UInt8) : (textL l).length = 7 + 2 * l.length := by
  unfold textL
  rw [List.length_append, hexL_length]; rfl
theorem textL_drop (l : List UInt8) : (textL l).drop 7 = hexL l := rfl

/-- Two digits as a byte. -/
def pairB (a b : UInt8) : UInt8 := UInt8.ofNat (16 * valN a + valN b)
theorem pairB_toNat (a b : UInt8) : (pairB a b).toNat = 16 * valN a + valN b := by
  have h1 := valN_lt a
  have h2 := valN_lt b
  unfold pairB
  rw [UInt8.toNat_ofNat_of_lt' (show _ < 256 by omega)]
theorem pairB_hex (b : UInt8) : pairB (hexB (b.toNat / 16)) (hexB (b.toNat % 16)) = b := by
  refine UInt8.toNat_inj.1 ?_
  have := b.toNat_lt
  rw [pairB_toNat, valN_hexB (by omega), valN_hexB (by omega)]
  omega
/-- The bytes of digits. -/
def readD : List UInt8 → List UInt8
  | a :: b :: r => pairB a b :: readD r
  | _ => []
theorem readD_hexL (l : List UInt8) : readD (hexL l) = l := by
  induction l with
  | nil => rfl
  | cons b r ih =>
    show readD (hexB (b.toNat / 16) :: hexB (b.toNat % 16) :: hexL r) = _
    rw [readD, pairB_hex, ih]
theorem readD_length : ∀ (n : Nat) (d : List UInt8), d.length = 2 * n → (readD d).length = n
  | 0, [], _ => rfl
  | n + 1, a :: b :: r, h => by
    rw [readD, List.length_cons, readD_length n r (by simp at h; omega)]
  | n + 1, [a], h => by simp at h; omega
theorem hexL_readD : ∀ (n : Nat) (d : List UInt8), d.length = 2 * n → (∀ c ∈ d, isD c = true) → hexL (readD d) = d
  | 0, [], _, _ => rfl
  | n + 1, a :: b :: r, h, hd => by
    have ha := hd a (by simp)
    have hb := hd b (by simp)
    have ih := hexL_readD n r (by simp at h; omega) (fun c hc => hd c (by simp [hc]))
    show hexB ((pairB a b).toNat / 16) :: hexB ((pairB a b).toNat % 16) :: hexL (readD r) = _
    have h1 := valN_lt a
    have h2 := valN_lt b
    rw [pairB_toNat, show (16 * valN a + valN b) / 16 = valN a by omega, show (16 * valN a + valN b) % 16 = valN b by omega, hexB_valN ha, hexB_valN hb, ih]
  | n + 1, [a], h, _ => by simp at h; omega
/-- The i-th byte of digits. -/
theorem readD_getD : ∀ (d : List UInt8) (i : Nat), 2 * i + 1 < d.length → (readD d).getD i 0 = pairB (d.getD (2 * i) 0) (d.getD (2 * i + 1) 0)
  | a :: b :: r, 0, _ => rfl
  | a :: b :: r, i + 1, h => by
    rw [readD, List.getD_cons_succ, readD_getD r i (by simp at h; omega)]
    rw [show 2 * (i + 1) = 2 * i + 1 + 1 by omega, show 2 * i + 1 + 1 + 1 = 2 * i + 1 + 1 + 1 from rfl]
    simp only [List.getD_cons_succ]
  | [], _, h => by simp at h
  | [a], _, h => by simp at h

/-- Is a text a digest's? -/
def isText (s : List UInt8) : Bool := decide (s.take 7 = nameL) && (decide (s.length = 71) && (s.drop 7).all isD)
def zero32 : List UInt8 := List.replicate 32 0
/-- The digest of a text; zeros, if there is none. -/
def digL (s : List UInt8) : List UInt8 := if isText s = true then readD (s.drop 7) else zero32
def errL (s : List UInt8) : Int := if isText s = true then 0 else 10
theorem isText_textL {l : List UInt8} (h : l.length = 32) : isText (textL l) = true := by
  unfold isText
  rw [textL_drop, textL_length, h]
  have e : (hexL l).all isD = true := List.all_eq_true.2 (hexL_digits l)
  rw [e]
  rfl
theorem digL_textL {l : List UInt8} (h : l.length = 32) : digL (textL l) = l := by
  unfold digL
  rw [if_pos (isText_textL h), textL_drop, readD_hexL]
theorem text_of_isText {s : List UInt8} (h : isText s = true) : textL (readD (s.drop 7)) = s := by
  unfold isText at h
  simp only [Bool.and_eq_true, decide_eq_true_eq, List.all_eq_true] at h
  obtain ⟨h1, h2, h3⟩ := h
  unfold textL
  rw [hexL_readD 32 _ (by rw [List.length_drop]; omega) h3, ← h1, List.take_append_drop]
theorem digL_length (s : List UInt8) : (digL s).length = 32 := by
  unfold digL
  split
  · rename_i h
    unfold isText at h
    simp only [Bool.and_eq_true, decide_eq_true_eq] at h
    exact readD_length 32 _ (by rw [List.length_drop]; omega)
  · rfl
theorem textL_digL {s : List UInt8} (h : isText s = true) : textL (digL s) = s := by
  unfold digL
  rw [if_pos h, text_of_isText h]
/-- Which text a digest's is, it is by its digest alone. -/
theorem isText_iff (s : List UInt8) : isText s = true ↔ ∃ l : List UInt8, l.length = 32 ∧ textL l = s :=
  ⟨fun h => ⟨digL s, digL_length s, textL_digL h⟩, fun ⟨l, hl, h⟩ => by rw [← h]; exact isText_textL hl⟩
theorem textL_inj {a b : List UInt8} (h : textL a = textL b) : a = b := by
  have := congrArg (fun s => readD (s.drop 7)) h
  simpa only [textL_drop, readD_hexL] using this

/-! ### What is told so far, in the program's own parsing -/
/-- The row behind i digits. -/
def partD (d : List UInt8) (i : Nat) : List UInt8 := (List.range 32).map fun p => if 2 * p + 1 < i then pairB (d.getD (2 * p) 0) (d.getD (2 * p + 1) 0) else if 2 * p < i then UInt8.ofNat (valN (d.getD (2 * p) 0)) else 0
theorem partD_length (d : List UInt8) (i : Nat) : (partD d i).length = 32 := by simp [partD]
theorem partD_zero (d : List UInt8) : partD d 0 = zero32 := by
  unfold partD zero32
  rw [List.eq_replicate_iff]
  refine ⟨by simp, fun b hb => ?_⟩
  obtain ⟨p, _, rfl⟩ := List.mem_map.1 hb
  rw [if_neg (by omega), if_neg (by omega)]
theorem partD_getD (d : List UInt8) (i p : Nat) (h : p < 32) : (partD d i).getD p 0 = if 2 * p + 1 < i then pairB (d.getD (2 * p) 0) (d.getD (2 * p + 1) 0) else if 2 * p < i then UInt8.ofNat (valN (d.getD (2 * p) 0)) else 0 := by
  unfold partD
  rw [List.getD_eq_getElem?_getD, List.getElem?_map, List.getElem?_range h]
  rfl
theorem shl_or {x y : Nat} (h : y < 16) : (x * 16 % 256) ||| y = (x * 16 + y) % 256 := by
  have e : x * 16 % 256 = (x % 16) <<< 4 := by rw [Nat.shiftLeft_eq]; omega
  rw [e, ← Nat.shiftLeft_add_eq_or_of_lt (show y < 2 ^ 4 by omega), Nat.shiftLeft_eq]
  omega
theorem partD_set (d : List UInt8) {i : Nat} (h : i < 64) :
    (partD d i).set (i / 2) (UInt8.ofNat (((partD d i).getD (i / 2) 0).toNat * 16 % 256 ||| valN (d.getD i 0))) = partD d (i + 1) := by
  have hv := valN_lt (d.getD i 0)
  rw [shl_or hv]
  have hp : i / 2 < 32 := by omega
  refine List.ext_getElem? fun p => ?_
  by_cases hlt : p < 32
  · rw [List.getElem?_set, partD_length]
    by_cases e : i / 2 = p
    · rw [if_pos e, if_pos hp]
      have g := partD_getD d (i + 1) p hlt
      rw [List.getD_eq_getElem?_getD, List.getElem?_eq_getElem (by rw [partD_length]; exact hlt)] at g
      rw [List.getElem?_eq_getElem (by rw [partD_length]; exact hlt)]
      simp only [Option.getD_some] at g
      rw [g, partD_getD d i _ hp]
      congr 1
      rcases (show i = 2 * p ∨ i = 2 * p + 1 by omega) with hi | hi
      · rw [show i / 2 = p by omega, if_neg (show ¬ 2 * p + 1 < i by omega), if_neg (show ¬ 2 * p < i by omega), if_neg (by omega), if_pos (by omega), hi]
        rw [hi] at hv
        rw [show (0 : UInt8).toNat = 0 from rfl, Nat.zero_mul, Nat.zero_add, Nat.mod_eq_of_lt (by omega)]
      · have hv2 := valN_lt (d.getD (2 * p) 0)
        rw [show i / 2 = p by omega, if_neg (by omega), if_pos (by omega), if_pos (by omega), hi]
        unfold pairB
        rw [UInt8.toNat_ofNat_of_lt' (show _ < 256 by omega)]
        rw [hi] at hv
        congr 1
        omega
    · rw [if_neg e]
      unfold partD
      rw [List.getElem?_map, List.getElem?_map, List.getElem?_range hlt, Option.map_some, Option.map_some]
      congr 1
      by_cases h1 : 2 * p + 1 < i
      · rw [if_pos h1, if_pos (by omega)]
      · rw [if_neg h1, if_neg (show ¬ 2 * p < i by omega), if_neg (show ¬ 2 * p + 1 < i + 1 by omega), if_neg (show ¬ 2 * p < i + 1 by omega)]
  · rw [List.getElem?_eq_none (by rw [List.length_set, partD_length]; omega), List.getElem?_eq_none (by rw [partD_length]; omega)]
theorem partD_all {d : List UInt8} (h : d.length = 64) : partD d 64 = readD d := by
  refine List.ext_getElem? fun p => ?_
  have hl := readD_length 32 d h
  by_cases hp : p < 32
  · have g := readD_getD d p (by omega)
    rw [List.getD_eq_getElem?_getD, List.getElem?_eq_getElem (by omega)] at g
    rw [List.getElem?_eq_getElem (l := readD d) (by omega)]
    simp only [Option.getD_some] at g
    rw [g]
    unfold partD
    rw [List.getElem?_map, List.getElem?_range hp, Option.map_some, if_pos (by omega)]
  · rw [List.getElem?_eq_none (by rw [partD_length]; omega), List.getElem?_eq_none (by omega)]

/-! ### The document's own reading -/
/-- The row behind i bytes. -/
def refD (s : List UInt8) (i : Nat) : List UInt8 := (List.range 32).map fun p => if p < i then pairB (s.getD (7 + 2 * p) 0) (s.getD (8 + 2 * p) 0) else 0
theorem refD_length (s : List UInt8) (i : Nat) : (refD s i).length = 32 := by simp [refD]
theorem refD_zero (s : List UInt8) : refD s 0 = zero32 := by
  unfold refD zero32
  rw [List.eq_replicate_iff]
  refine ⟨by simp, fun b hb => ?_⟩
  obtain ⟨p, _, rfl⟩ := List.mem_map.1 hb
  rw [if_neg (by omega)]
theorem refD_set (s : List UInt8) {i : Nat} (_h : i < 32) : (refD s i).set i (pairB (s.getD (7 + 2 * i) 0) (s.getD (8 + 2 * i) 0)) = refD s (i + 1) := by
  refine List.ext_getElem? fun p => ?_
  by_cases hp : p < 32
  · rw [List.getElem?_set, refD_length]
    by_cases e : i = p
    · subst e
      rw [if_pos rfl, if_pos hp]
      unfold refD
      rw [List.getElem?_map, List.getElem?_range hp, Option.map_some, if_pos (by omega)]
    · rw [if_neg e]
      unfold refD
      rw [List.getElem?_map, List.getElem?_map, List.getElem?_range hp, Option.map_some, Option.map_some]
      congr 1
      by_cases h1 : p < i
      · rw [if_pos h1, if_pos (by omega)]
      · rw [if_neg h1, if_neg (by omega)]
  · rw [List.getElem?_eq_none (by rw [List.length_set, refD_length]; omega), List.getElem?_eq_none (by rw [refD_length]; omega)]
/-- How many bytes it reads. -/
def manyD (s : List UInt8) : Nat := min 32 ((s.length - 7) / 2)
theorem refD_text {s : List UInt8} (h : isText s = true) : refD s (manyD s) = digL s := by
  have hs := h
  unfold isText at hs
  simp only [Bool.and_eq_true, decide_eq_true_eq] at hs
  obtain ⟨_, hl, _⟩ := hs
  have hm : manyD s = 32 := by unfold manyD; omega
  have hd : (s.drop 7).length = 64 := by rw [List.length_drop]; omega
  rw [hm]
  unfold digL
  rw [if_pos h]
  refine List.ext_getElem? fun p => ?_
  have hr := readD_length 32 _ hd
  by_cases hp : p < 32
  · have g := readD_getD (s.drop 7) p (by omega)
    rw [List.getD_eq_getElem?_getD, List.getElem?_eq_getElem (by omega)] at g
    rw [List.getElem?_eq_getElem (l := readD (s.drop 7)) (by omega)]
    simp only [Option.getD_some] at g
    rw [g]
    unfold refD
    rw [List.getElem?_map, List.getElem?_range hp, Option.map_some, if_pos hp]
    simp only [List.getD_eq_getElem?_getD, List.getElem?_drop]
    rw [show 7 + (2 * p + 1) = 8 + 2 * p by omega]
  · rw [List.getElem?_eq_none (by rw [refD_length]; omega), List.getElem?_eq_none (by omega)]
theorem ref_is (s : List UInt8) : decide (textL (refD s (manyD s)) = s) = isText s := by
  rw [Bool.eq_iff_iff, decide_eq_true_eq]
  constructor
  · intro h
    rw [isText_iff]
    exact ⟨_, refD_length _ _, h⟩
  · intro h
    rw [refD_text h, textL_digL h]

/-! ### Which one stands ahead -/
def lessL : List UInt8 → List UInt8 → Bool
  | a :: x, b :: y => if a = b then lessL x y else decide (a.toNat < b.toNat)
  | _, _ => false
theorem lessL_step {l m : List UInt8} {k : Nat} (hl : k < l.length) (hm : k < m.length) (h : l.getD k 0 = m.getD k 0) : lessL (l.drop k) (m.drop k) = lessL (l.drop (k + 1)) (m.drop (k + 1)) := by
  rw [List.drop_eq_getElem_cons hl, List.drop_eq_getElem_cons hm, lessL]
  rw [List.getD_eq_getElem?_getD, List.getElem?_eq_getElem hl, List.getD_eq_getElem?_getD, List.getElem?_eq_getElem hm] at h
  simp only [Option.getD_some] at h
  rw [if_pos h]
theorem lessL_at {l m : List UInt8} {k : Nat} (hl : k < l.length) (hm : k < m.length) (h : l.getD k 0 ≠ m.getD k 0) : lessL (l.drop k) (m.drop k) = decide ((l.getD k 0).toNat < (m.getD k 0).toNat) := by
  rw [List.drop_eq_getElem_cons hl, List.drop_eq_getElem_cons hm, lessL]
  rw [List.getD_eq_getElem?_getD, List.getElem?_eq_getElem hl, List.getD_eq_getElem?_getD, List.getElem?_eq_getElem hm] at h ⊢
  simp only [Option.getD_some] at h ⊢
  rw [if_neg h]
theorem lessL_self (l : List UInt8) : lessL l l = false := by
  induction l with
  | nil => rfl
  | cons a r ih => rw [lessL, if_pos rfl, ih]
theorem lessL_tri : ∀ (l m : List UInt8), l.length = m.length → decide (l = m) = (!lessL l m && !lessL m l)
  | [], [], _ => rfl
  | a :: x, b :: y, h => by
    rw [lessL, lessL]
    by_cases e : a = b
    · subst e
      rw [if_pos rfl, if_pos rfl, ← lessL_tri x y (by simpa using h)]
      simp
    · rw [if_neg e, if_neg (fun h => e h.symm)]
      have hn : a.toNat ≠ b.toNat := fun h => e (UInt8.toNat_inj.1 h)
      rcases Nat.lt_or_gt_of_ne hn with h1 | h1
      · simp [e, h1]
      · simp [e, h1]
/-- A text's order. -/
theorem hexB_lt {a b : Nat} (ha : a < 16) (hb : b < 16) : (hexB a).toNat < (hexB b).toNat ↔ a < b := by
  rw [hexB_toNat ha, hexB_toNat hb]
  split <;> split <;> omega
theorem hexB_inj {a b : Nat} (ha : a < 16) (hb : b < 16) (h : hexB a = hexB b) : a = b := by
  have := congrArg valN h
  rwa [valN_hexB ha, valN_hexB hb] at this
theorem lessL_hexL : ∀ (l m : List UInt8), l.length = m.length → lessL (hexL l) (hexL m) = lessL l m
  | [], [], _ => rfl
  | a :: x, b :: y, h => by
    show lessL (hexB (a.toNat / 16) :: hexB (a.toNat % 16) :: hexL x) (hexB (b.toNat / 16) :: hexB (b.toNat % 16) :: hexL y) = _
    have h1 := a.toNat_lt
    have h2 := b.toNat_lt
    have ih := lessL_hexL x y (by simpa using h)
    rw [lessL, lessL, lessL]
    by_cases e : a = b
    · subst e
      rw [if_pos rfl, if_pos rfl, if_pos rfl, ih]
    · rw [if_neg e]
      have hn : a.toNat ≠ b.toNat := fun h => e (UInt8.toNat_inj.1 h)
      by_cases hh : a.toNat / 16 = b.toNat / 16
      · rw [hh, if_pos rfl, if_neg (fun h => by have := hexB_inj (by omega) (by omega) h; omega)]
        rw [decide_eq_decide, hexB_lt (by omega) (by omega)]
        omega
      · rw [if_neg (fun h => hh (hexB_inj (by omega) (by omega) h))]
        rw [decide_eq_decide, hexB_lt (by omega) (by omega)]
        omega
theorem lessL_append (p l m : List UInt8) : lessL (p ++ l) (p ++ m) = lessL l m := by
  induction p with
  | nil => rfl
  | cons a r ih => rw [List.cons_append, List.cons_append, lessL, if_pos rfl, ih]
theorem lessL_textL {l m : List UInt8} (h : l.length = m.length) : lessL (textL l) (textL m) = lessL l m := by
  unfold textL
  rw [lessL_append, lessL_hexL l m h]
end Go.Proofs.YtemnfnmkhfgopaaDoor
