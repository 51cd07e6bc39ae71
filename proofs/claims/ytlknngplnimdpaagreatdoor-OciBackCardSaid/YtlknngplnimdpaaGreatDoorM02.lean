/- Merged: DigM, OcM, OdA, JtR, JtS, JtT. -/
import Init
import Derived.Test.YtlknngplnimdpaaGreatDoorJsG
import Derived.Lib.AtoiAll
import Derived.Lib.ItoaNum
import Derived.Test.YtlknngplnimdpaaGreatDoorM01
import Derived.Test.YtlknngplnimdpaaGreatDoorShel2
import Derived.Test.YtlknngplnimdpaaGreatDoorJtQ
/- Layer 5: digests as texts, in plain words. -/
namespace Go.Proofs.YtlknngplnimdpaaGreatDoor

/-- A digit's byte. -/
def hexB (n : Nat) : UInt8 := if n < 10 then UInt8.ofNat (48 + n) else UInt8.ofNat (87 + n)
/-- A digit's value; 0 of what is none. -/
def valN (c : UInt8) : Nat := if 48 ≤ c.toNat ∧ c.toNat ≤ 57 then c.toNat - 48 else if 97 ≤ c.toNat ∧ c.toNat ≤ 102 then c.toNat - 87 else 0
/-- Is it a digit? -/
def isD (c : UInt8) : Bool := decide (48 ≤ c.toNat ∧ c.toNat ≤ 57) || decide (97 ≤ c.toNat ∧ c.toNat ≤ 102)
theorem hexB_toNat {n : Nat} (h : n < 16) : (hexB n).toNat = if n < 10 then 48 + n else 87 + n := by
  unfold hexB
  split
  · rw [UInt8.toNat_ofNat_of_lt' (show _ < 256 by omega)]
  · rw [UInt8.toNat_ofNat_of_lt' (show _ < 256 by omega)]
theorem valN_hexB {n : Nat} (h : n < 16) : valN (hexB n) = n := by
  have e := hexB_toNat h
  unfold valN
  rw [e]
  by_cases h1 : n < 10
  · rw [if_pos h1, if_pos (by omega)]; omega
  · rw [if_neg h1, if_neg (by omega), if_pos (by omega)]; omega
theorem isD_hexB {n : Nat} (h : n < 16) : isD (hexB n) = true := by
  have e := hexB_toNat h
  unfold isD
  rw [e, Bool.or_eq_true, decide_eq_true_eq, decide_eq_true_eq]
  by_cases h1 : n < 10
  · rw [if_pos h1]; omega
  · rw [if_neg h1]; omega
theorem valN_lt (c : UInt8) : valN c < 16 := by
  unfold valN
  split
  · omega
  · split <;> omega
theorem hexB_valN {c : UInt8} (h : isD c = true) : hexB (valN c) = c := by
  have e := hexB_toNat (valN_lt c)
  refine UInt8.toNat_inj.1 ?_
  rw [e]
  unfold isD at h
  unfold valN
  simp only [Bool.or_eq_true, decide_eq_true_eq] at h
  rcases h with h | h
  · rw [if_pos h, if_pos (by omega)]; omega
  · have h0 : ¬ (48 ≤ c.toNat ∧ c.toNat ≤ 57) := by omega
    rw [if_neg h0, if_pos h, if_neg (by omega)]; omega
theorem valN_none {c : UInt8} (h : isD c = false) : valN c = 0 := by
  unfold isD at h
  simp only [Bool.or_eq_false_iff, decide_eq_false_iff_not] at h
  unfold valN
  rw [if_neg h.1, if_neg h.2]
theorem isD_of_hexB {c : UInt8} {n : Nat} (hn : n < 16) (h : hexB n = c) : isD c = true ∧ valN c = n := by
  subst h
  exact ⟨isD_hexB hn, valN_hexB hn⟩
theorem not_digit {c : UInt8} (h : ∀ j, j < 16 → hexB j ≠ c) : isD c = false := by
  cases e : isD c with
  | false => rfl
  | true => exact absurd (hexB_valN e) (h _ (valN_lt c))

/-- The digits of bytes. -/
def hexL (l : List UInt8) : List UInt8 := l.flatMap fun b => [hexB (b.toNat / 16), hexB (b.toNat % 16)]
theorem hexL_length (l : List UInt8) : (hexL l).length = 2 * l.length := by
  induction l with
  | nil => rfl
  | cons a r ih => simp only [hexL, List.flatMap_cons, List.length_append, List.length_cons, List.length_nil] at ih ⊢; omega
theorem hexL_append (a b : List UInt8) : hexL (a ++ b) = hexL a ++ hexL b := by simp [hexL]
theorem hexL_snoc (a : List UInt8) (b : UInt8) : hexL (a ++ [b]) = hexL a ++ [hexB (b.toNat / 16), hexB (b.toNat % 16)] := by simp [hexL]
theorem hexL_digits (l : List UInt8) : ∀ c ∈ hexL l, isD c = true := by
  intro c hc
  simp only [hexL, List.mem_flatMap, List.mem_cons, List.not_mem_nil, or_false] at hc
  obtain ⟨b, _, h | h⟩ := hc
  · rw [h]; exact isD_hexB (by have := b.toNat_lt; omega)
  · rw [h]; exact isD_hexB (by omega)
def nameL : List UInt8 := [115, 104, 97, 50, 53, 54, 58]
/-- A digest's text. -/
def textL (l : List UInt8) : List UInt8 := nameL ++ hexL l
theorem textL_length (l : List UInt8) : (textL l).length = 7 + 2 * l.length := by
  unfold textL
  rw [List.length_append, hexL_length]; rfl
theorem textL_drop (l : List UInt8) : (textL l).drop 7 = hexL l := rfl

/-- Two digits as a byte. -/
def pairB (a b : UInt8) : UInt8 := UInt8.ofNat (16 * valN a + valN b)
theorem pairB_toNat (a b : UInt8) : (pairB a b).toNat = 16 * valN a + valN b := by
  have h1 := valN_lt a
  have h2 := valN_lt b
  unfold pairB
  rw [UInt8.toNat_ofNat_of_lt' (show _ < 256 by omega)]
theorem pairB_hex (b : UInt8) : pairB (hexB (b.toNat / 16)) (hexB (b.toNat % 16)) = b := by
  refine UInt8.toNat_inj.1 ?_
  have := b.toNat_lt
  rw [pairB_toNat, valN_hexB (by omega), valN_hexB (by omega)]
  omega
/-- The bytes of digits. -/
def readD : List UInt8 → List UInt8
  | a :: b :: r => pairB a b :: readD r
  | _ => []
theorem readD_hexL (l : List UInt8) : readD (hexL l) = l := by
  induction l with
  | nil => rfl
  | cons b r ih =>
    show readD (hexB (b.toNat / 16) :: hexB (b.toNat % 16) :: hexL r) = _
    rw [readD, pairB_hex, ih]
theorem readD_length : ∀ (n : Nat) (d : List UInt8), d.length = 2 * n → (readD d).length = n
  | 0, [], _ => rfl
  | n + 1, a :: b :: r, h => by
    rw [readD, List.length_cons, readD_length n r (by simp at h; omega)]
  | n + 1, [a], h => by simp at h; omega
theorem hexL_readD : ∀ (n : Nat) (d : List UInt8), d.length = 2 * n → (∀ c ∈ d, isD c = true) → hexL (readD d) = d
  | 0, [], _, _ => rfl
  | n + 1, a :: b :: r, h, hd => by
    have ha := hd a (by simp)
    have hb := hd b (by simp)
    have ih := hexL_readD n r (by simp at h; omega) (fun c hc => hd c (by simp [hc]))
    show hexB ((pairB a b).toNat / 16) :: hexB ((pairB a b).toNat % 16) :: hexL (readD r) = _
    have h1 := valN_lt a
    have h2 := valN_lt b
    rw [pairB_toNat, show (16 * valN a + valN b) / 16 = valN a by omega, show (16 * valN a + valN b) % 16 = valN b by omega, hexB_valN ha, hexB_valN hb, ih]
  | n + 1, [a], h, _ => by simp at h; omega
/-- The i-th byte of digits. -/
theorem readD_getD : ∀ (d : List UInt8) (i : Nat), 2 * i + 1 < d.length → (readD d).getD i 0 = pairB (d.getD (2 * i) 0) (d.getD (2 * i + 1) 0)
  | a :: b :: r, 0, _ => rfl
  | a :: b :: r, i + 1, h => by
    rw [readD, List.getD_cons_succ, readD_getD r i (by simp at h; omega)]
    rw [show 2 * (i + 1) = 2 * i + 1 + 1 by omega, show 2 * i + 1 + 1 + 1 = 2 * i + 1 + 1 + 1 from rfl]
    simp only [List.getD_cons_succ]
  | [], _, h => by simp at h
  | [a], _, h => by simp at h

/-- Is a text a digest's? -/
def isText (s : List UInt8) : Bool := decide (s.take 7 = nameL) && (decide (s.length = 71) && (s.drop 7).all isD)
def zero32 : List UInt8 := List.replicate 32 0
/-- The digest of a text; zeros, if there is none. -/
def digL (s : List UInt8) : List UInt8 := if isText s = true then readD (s.drop 7) else zero32
def errL (s : List UInt8) : Int := if isText s = true then 0 else 10
theorem isText_textL {l : List UInt8} (h : l.length = 32) : isText (textL l) = true := by
  unfold isText
  rw [textL_drop, textL_length, h]
  have e : (hexL l).all isD = true := List.all_eq_true.2 (hexL_digits l)
  rw [e]
  rfl
theorem digL_textL {l : List UInt8} (h : l.length = 32) : digL (textL l) = l := by
  unfold digL
  rw [if_pos (isText_textL h), textL_drop, readD_hexL]
theorem text_of_isText {s : List UInt8} (h : isText s = true) : textL (readD (s.drop 7)) = s := by
  unfold isText at h
  simp only [Bool.and_eq_true, decide_eq_true_eq, List.all_eq_true] at h
  obtain ⟨h1, h2, h3⟩ := h
  unfold textL
  rw [hexL_readD 32 _ (by rw [List.length_drop]; omega) h3, ← h1, List.take_append_drop]
theorem digL_length (s : List UInt8) : (digL s).length = 32 := by
  unfold digL
  split
  · rename_i h
    unfold isText at h
    simp only [Bool.and_eq_true, decide_eq_true_eq] at h
    exact readD_length 32 _ (by rw [List.length_drop]; omega)
  · rfl
theorem textL_digL {s : List UInt8} (h : isText s = true) : textL (digL s) = s := by
  unfold digL
  rw [if_pos h, text_of_isText h]
/-- Which text a digest's is, it is by its digest alone. -/
theorem isText_iff (s : List UInt8) : isText s = true ↔ ∃ l : List UInt8, l.length = 32 ∧ textL l = s :=
  ⟨fun h => ⟨digL s, digL_length s, textL_digL h⟩, fun ⟨l, hl, h⟩ => by rw [← h]; exact isText_textL hl⟩
theorem textL_inj {a b : List UInt8} (h : textL a = textL b) : a = b := by
  have := congrArg (fun s => readD (s.drop 7)) h
  simpa only [textL_drop, readD_hexL] using this

/-! ### What is told so far, in the program's own parsing -/
/-- The row behind i digits. -/
def partD (d : List UInt8) (i : Nat) : List UInt8 := (List.range 32).map fun p => if 2 * p + 1 < i then pairB (d.getD (2 * p) 0) (d.getD (2 * p + 1) 0) else if 2 * p < i then UInt8.ofNat (valN (d.getD (2 * p) 0)) else 0
theorem partD_length (d : List UInt8) (i : Nat) : (partD d i).length = 32 := by simp [partD]
theorem partD_zero (d : List UInt8) : partD d 0 = zero32 := by
  unfold partD zero32
  rw [List.eq_replicate_iff]
  refine ⟨by simp, fun b hb => ?_⟩
  obtain ⟨p, _, rfl⟩ := List.mem_map.1 hb
  rw [if_neg (by omega), if_neg (by omega)]
theorem partD_getD (d : List UInt8) (i p : Nat) (h : p < 32) : (partD d i).getD p 0 = if 2 * p + 1 < i then pairB (d.getD (2 * p) 0) (d.getD (2 * p + 1) 0) else if 2 * p < i then UInt8.ofNat (valN (d.getD (2 * p) 0)) else 0 := by
  unfold partD
  rw [List.getD_eq_getElem?_getD, List.getElem?_map, List.getElem?_range h]
  rfl
theorem shl_or {x y : Nat} (h : y < 16) : (x * 16 % 256) ||| y = (x * 16 + y) % 256 := by
  have e : x * 16 % 256 = (x % 16) <<< 4 := by rw [Nat.shiftLeft_eq]; omega
  rw [e, ← Nat.shiftLeft_add_eq_or_of_lt (show y < 2 ^ 4 by omega), Nat.shiftLeft_eq]
  omega
theorem partD_set (d : List UInt8) {i : Nat} (h : i < 64) :
    (partD d i).set (i / 2) (UInt8.ofNat (((partD d i).getD (i / 2) 0).toNat * 16 % 256 ||| valN (d.getD i 0))) = partD d (i + 1) := by
  have hv := valN_lt (d.getD i 0)
  rw [shl_or hv]
  have hp : i / 2 < 32 := by omega
  refine List.ext_getElem? fun p => ?_
  by_cases hlt : p < 32
  · rw [List.getElem?_set, partD_length]
    by_cases e : i / 2 = p
    · rw [if_pos e, if_pos hp]
      have g := partD_getD d (i + 1) p hlt
      rw [List.getD_eq_getElem?_getD, List.getElem?_eq_getElem (by rw [partD_length]; exact hlt)] at g
      rw [List.getElem?_eq_getElem (by rw [partD_length]; exact hlt)]
      simp only [Option.getD_some] at g
      rw [g, partD_getD d i _ hp]
      congr 1
      rcases (show i = 2 * p ∨ i = 2 * p + 1 by omega) with hi | hi
      · rw [show i / 2 = p by omega, if_neg (show ¬ 2 * p + 1 < i by omega), if_neg (show ¬ 2 * p < i by omega), if_neg (by omega), if_pos (by omega), hi]
        rw [hi] at hv
        rw [show (0 : UInt8).toNat = 0 from rfl, Nat.zero_mul, Nat.zero_add, Nat.mod_eq_of_lt (by omega)]
      · have hv2 := valN_lt (d.getD (2 * p) 0)
        rw [show i / 2 = p by omega, if_neg (by omega), if_pos (by omega), if_pos (by omega), hi]
        unfold pairB
        rw [UInt8.toNat_ofNat_of_lt' (show _ < 256 by omega)]
        rw [hi] at hv
        congr 1
        omega
    · rw [if_neg e]
      unfold partD
      rw [List.getElem?_map, List.getElem?_map, List.getElem?_range hlt, Option.map_some, Option.map_some]
      congr 1
      by_cases h1 : 2 * p + 1 < i
      · rw [if_pos h1, if_pos (by omega)]
      · rw [if_neg h1, if_neg (show ¬ 2 * p < i by omega), if_neg (show ¬ 2 * p + 1 < i + 1 by omega), if_neg (show ¬ 2 * p < i + 1 by omega)]
  · rw [List.getElem?_eq_none (by rw [List.length_set, partD_length]; omega), List.getElem?_eq_none (by rw [partD_length]; omega)]
theorem partD_all {d : List UInt8} (h : d.length = 64) : partD d 64 = readD d := by
  refine List.ext_getElem? fun p => ?_
  have hl := readD_length 32 d h
  by_cases hp : p < 32
  · have g := readD_getD d p (by omega)
    rw [List.getD_eq_getElem?_getD, List.getElem?_eq_getElem (by omega)] at g
    rw [List.getElem?_eq_getElem (l := readD d) (by omega)]
    simp only [Option.getD_some] at g
    rw [g]
    unfold partD
    rw [List.getElem?_map, List.getElem?_range hp, Option.map_some, if_pos (by omega)]
  · rw [List.getElem?_eq_none (by rw [partD_length]; omega), List.getElem?_eq_none (by omega)]

/-! ### The document's own reading -/
/-- The row behind i bytes. -/
def refD (s : List UInt8) (i : Nat) : List UInt8 := (List.range 32).map fun p => if p < i then pairB (s.getD (7 + 2 * p) 0) (s.getD (8 + 2 * p) 0) else 0
theorem refD_length (s : List UInt8) (i : Nat) : (refD s i).length = 32 := by simp [refD]
theorem refD_zero (s : List UInt8) : refD s 0 = zero32 := by
  unfold refD zero32
  rw [List.eq_replicate_iff]
  refine ⟨by simp, fun b hb => ?_⟩
  obtain ⟨p, _, rfl⟩ := List.mem_map.1 hb
  rw [if_neg (by omega)]
theorem refD_set (s : List UInt8) {i : Nat} (_h : i < 32) : (refD s i).set i (pairB (s.getD (7 + 2 * i) 0) (s.getD (8 + 2 * i) 0)) = refD s (i + 1) := by
  refine List.ext_getElem? fun p => ?_
  by_cases hp : p < 32
  · rw [List.getElem?_set, refD_length]
    by_cases e : i = p
    · subst e
      rw [if_pos rfl, if_pos hp]
      unfold refD
      rw [List.getElem?_map, List.getElem?_range hp, Option.map_some, if_pos (by omega)]
    · rw [if_neg e]
      unfold refD
      rw [List.getElem?_map, List.getElem?_map, List.getElem?_range hp, Option.map_some, Option.map_some]
      congr 1
      by_cases h1 : p < i
      · rw [if_pos h1, if_pos (by omega)]
      · rw [if_neg h1, if_neg (by omega)]
  · rw [List.getElem?_eq_none (by rw [List.length_set, refD_length]; omega), List.getElem?_eq_none (by rw [refD_length]; omega)]
/-- How many bytes it reads. -/
def manyD (s : List UInt8) : Nat := min 32 ((s.length - 7) / 2)
theorem refD_text {s : List UInt8} (h : isText s = true) : refD s (manyD s) = digL s := by
  have hs := h
  unfold isText at hs
  simp only [Bool.and_eq_true, decide_eq_true_eq] at hs
  obtain ⟨_, hl, _⟩ := hs
  have hm : manyD s = 32 := by unfold manyD; omega
  have hd : (s.drop 7).length = 64 := by rw [List.length_drop]; omega
  rw [hm]
  unfold digL
  rw [if_pos h]
  refine List.ext_getElem? fun p => ?_
  have hr := readD_length 32 _ hd
  by_cases hp : p < 32
  · have g := readD_getD (s.drop 7) p (by omega)
    rw [List.getD_eq_getElem?_getD, List.getElem?_eq_getElem (by omega)] at g
    rw [List.getElem?_eq_getElem (l := readD (s.drop 7)) (by omega)]
    simp only [Option.getD_some] at g
    rw [g]
    unfold refD
    rw [List.getElem?_map, List.getElem?_range hp, Option.map_some, if_pos hp]
    simp only [List.getD_eq_getElem?_getD, List.getElem?_drop]
    rw [show 7 + (2 * p + 1) = 8 + 2 * p by omega]
  · rw [List.getElem?_eq_none (by rw [refD_length]; omega), List.getElem?_eq_none (by omega)]
theorem ref_is (s : List UInt8) : decide (textL (refD s (manyD s)) = s) = isText s := by
  rw [Bool.eq_iff_iff, decide_eq_true_eq]
  constructor
  · intro h
    rw [isText_iff]
    exact ⟨_, refD_length _ _, h⟩
  · intro h
    rw [refD_text h, textL_digL h]

/-! ### Which one stands ahead -/
def lessL : List UInt8 → List UInt8 → Bool
  | a :: x, b :: y => if a = b then lessL x y else decide (a.toNat < b.toNat)
  | _, _ => false
theorem lessL_step {l m : List UInt8} {k : Nat} (hl : k < l.length) (hm : k < m.length) (h : l.getD k 0 = m.getD k 0) : lessL (l.drop k) (m.drop k) = lessL (l.drop (k + 1)) (m.drop (k + 1)) := by
  rw [List.drop_eq_getElem_cons hl, List.drop_eq_getElem_cons hm, lessL]
  rw [List.getD_eq_getElem?_getD, List.getElem?_eq_getElem hl, List.getD_eq_getElem?_getD, List.getElem?_eq_getElem hm] at h
  simp only [Option.getD_some] at h
  rw [if_pos h]
theorem lessL_at {l m : List UInt8} {k : Nat} (hl : k < l.length) (hm : k < m.length) (h : l.getD k 0 ≠ m.getD k 0) : lessL (l.drop k) (m.drop k) = decide ((l.getD k 0).toNat < (m.getD k 0).toNat) := by
  rw [List.drop_eq_getElem_cons hl, List.drop_eq_getElem_cons hm, lessL]
  rw [List.getD_eq_getElem?_getD, List.getElem?_eq_getElem hl, List.getD_eq_getElem?_getD, List.getElem?_eq_getElem hm] at h ⊢
  simp only [Option.getD_some] at h ⊢
  rw [if_neg h]
theorem lessL_self (l : List UInt8) : lessL l l = false := by
  induction l with
  | nil => rfl
  | cons a r ih => rw [lessL, if_pos rfl, ih]
theorem lessL_tri : ∀ (l m : List UInt8), l.length = m.length → decide (l = m) = (!lessL l m && !lessL m l)
  | [], [], _ => rfl
  | a :: x, b :: y, h => by
    rw [lessL, lessL]
    by_cases e : a = b
    · subst e
      rw [if_pos rfl, if_pos rfl, ← lessL_tri x y (by simpa using h)]
      simp
    · rw [if_neg e, if_neg (fun h => e h.symm)]
      have hn : a.toNat ≠ b.toNat := fun h => e (UInt8.toNat_inj.1 h)
      rcases Nat.lt_or_gt_of_ne hn with h1 | h1
      · simp [e, h1]
      · simp [e, h1]
/-- A text's order. -/
theorem hexB_lt {a b : Nat} (ha : a < 16) (hb : b < 16) : (hexB a).toNat < (hexB b).toNat ↔ a < b := by
  rw [hexB_toNat ha, hexB_toNat hb]
  split <;> split <;> omega
theorem hexB_inj {a b : Nat} (ha : a < 16) (hb : b < 16) (h : hexB a = hexB b) : a = b := by
  have := congrArg valN h
  rwa [valN_hexB ha, valN_hexB hb] at this
theorem lessL_hexL : ∀ (l m : List UInt8), l.length = m.length → lessL (hexL l) (hexL m) = lessL l m
  | [], [], _ => rfl
  | a :: x, b :: y, h => by
    show lessL (hexB (a.toNat / 16) :: hexB (a.toNat % 16) :: hexL x) (hexB (b.toNat / 16) :: hexB (b.toNat % 16) :: hexL y) = _
    have h1 := a.toNat_lt
    have h2 := b.toNat_lt
    have ih := lessL_hexL x y (by simpa using h)
    rw [lessL, lessL, lessL]
    by_cases e : a = b
    · subst e
      rw [if_pos rfl, if_pos rfl, if_pos rfl, ih]
    · rw [if_neg e]
      have hn : a.toNat ≠ b.toNat := fun h => e (UInt8.toNat_inj.1 h)
      by_cases hh : a.toNat / 16 = b.toNat / 16
      · rw [hh, if_pos rfl, if_neg (fun h => by have := hexB_inj (by omega) (by omega) h; omega)]
        rw [decide_eq_decide, hexB_lt (by omega) (by omega)]
        omega
      · rw [if_neg (fun h => hh (hexB_inj (by omega) (by omega) h))]
        rw [decide_eq_decide, hexB_lt (by omega) (by omega)]
        omega
theorem lessL_append (p l m : List UInt8) : lessL (p ++ l) (p ++ m) = lessL l m := by
  induction p with
  | nil => rfl
  | cons a r ih => rw [List.cons_append, List.cons_append, lessL, if_pos rfl, ih]
theorem lessL_textL {l m : List UInt8} (h : l.length = m.length) : lessL (textL l) (textL m) = lessL l m := by
  unfold textL
  rw [lessL_append, lessL_hexL l m h]
end Go.Proofs.YtlknngplnimdpaaGreatDoor

/- Layer 13, plain: manifests, indexes and configurations, as functions on values of JSON. -/
namespace Go.Proofs.YtlknngplnimdpaaGreatDoor
open Go.Lib

def mMan : Bs := [97, 112, 112, 108, 105, 99, 97, 116, 105, 111, 110, 47, 118, 110, 100, 46, 111, 99, 105, 46, 105, 109, 97, 103, 101, 46, 109, 97, 110, 105, 102, 101, 115, 116, 46, 118, 49, 43, 106, 115, 111, 110]
def mIdx : Bs := [97, 112, 112, 108, 105, 99, 97, 116, 105, 111, 110, 47, 118, 110, 100, 46, 111, 99, 105, 46, 105, 109, 97, 103, 101, 46, 105, 110, 100, 101, 120, 46, 118, 49, 43, 106, 115, 111, 110]
def mCfg : Bs := [97, 112, 112, 108, 105, 99, 97, 116, 105, 111, 110, 47, 118, 110, 100, 46, 111, 99, 105, 46, 105, 109, 97, 103, 101, 46, 99, 111, 110, 102, 105, 103, 46, 118, 49, 43, 106, 115, 111, 110]
def mLay : Bs := [97, 112, 112, 108, 105, 99, 97, 116, 105, 111, 110, 47, 118, 110, 100, 46, 111, 99, 105, 46, 105, 109, 97, 103, 101, 46, 108, 97, 121, 101, 114, 46, 118, 49, 46, 116, 97, 114]
def dMan : Bs := [97, 112, 112, 108, 105, 99, 97, 116, 105, 111, 110, 47, 118, 110, 100, 46, 100, 111, 99, 107, 101, 114, 46, 100, 105, 115, 116, 114, 105, 98, 117, 116, 105, 111, 110, 46, 109, 97, 110, 105, 102, 101, 115, 116, 46, 118, 50, 43, 106, 115, 111, 110]
def dIdx : Bs := [97, 112, 112, 108, 105, 99, 97, 116, 105, 111, 110, 47, 118, 110, 100, 46, 100, 111, 99, 107, 101, 114, 46, 100, 105, 115, 116, 114, 105, 98, 117, 116, 105, 111, 110, 46, 109, 97, 110, 105, 102, 101, 115, 116, 46, 108, 105, 115, 116, 46, 118, 50, 43, 106, 115, 111, 110]
def dCfg : Bs := [97, 112, 112, 108, 105, 99, 97, 116, 105, 111, 110, 47, 118, 110, 100, 46, 100, 111, 99, 107, 101, 114, 46, 99, 111, 110, 116, 97, 105, 110, 101, 114, 46, 105, 109, 97, 103, 101, 46, 118, 49, 43, 106, 115, 111, 110]
def dLay : Bs := [97, 112, 112, 108, 105, 99, 97, 116, 105, 111, 110, 47, 118, 110, 100, 46, 100, 111, 99, 107, 101, 114, 46, 105, 109, 97, 103, 101, 46, 114, 111, 111, 116, 102, 115, 46, 100, 105, 102, 102, 46, 116, 97, 114]
def kVer : Bs := [115, 99, 104, 101, 109, 97, 86, 101, 114, 115, 105, 111, 110]
def kMed : Bs := [109, 101, 100, 105, 97, 84, 121, 112, 101]
def kCfg : Bs := [99, 111, 110, 102, 105, 103]
def kLay : Bs := [108, 97, 121, 101, 114, 115]
def kMan : Bs := [109, 97, 110, 105, 102, 101, 115, 116, 115]
def kDig : Bs := [100, 105, 103, 101, 115, 116]
def kSiz : Bs := [115, 105, 122, 101]
def kPla : Bs := [112, 108, 97, 116, 102, 111, 114, 109]
def kOS : Bs := [111, 115]
def kArc : Bs := [97, 114, 99, 104, 105, 116, 101, 99, 116, 117, 114, 101]
def kRoo : Bs := [114, 111, 111, 116, 102, 115]
def kTyp : Bs := [116, 121, 112, 101]
def kDif : Bs := [100, 105, 102, 102, 95, 105, 100, 115]
def kAnn : Bs := [97, 110, 110, 111, 116, 97, 116, 105, 111, 110, 115]
/-- What a media type is. -/
def kindN (s : Bs) : Nat := if s = mMan ∨ s = dMan then 1 else if s = mIdx ∨ s = dIdx then 2 else if s = mCfg ∨ s = dCfg then 3 else if s = mLay ∨ s = dLay then 4 else 0
/-- A descriptor. -/
structure DV where
  media : Bs
  dig : Bs
  size : Int
  os : Bs
  arch : Bs
/-- Without its platform. -/
def DV.plain (d : DV) : DV := { d with os := [], arch := [] }
def getL : List Bs → List JV → Bs → Option JV
  | k :: ks, x :: xs, key => if k = key then some x else getL ks xs key
  | _, _, _ => none
/-- What an object has by a key. -/
def getV (v : JV) (key : Bs) : Option JV := if v.kind = 6 then getL v.keys v.items key else none
/-- An integer that is told as one. -/
def intV (v : JV) : Option Int :=
  if v.kind = 3 ∧ isNumB v.text = true then (match atoiAll v.text with | .ok n => if -9007199254740992 ≤ n ∧ n ≤ 9007199254740992 then some n else none | _ => none) else none
def textV (v : JV) : Option Bs := if v.kind = 4 then some v.text else none
def digV (v : JV) : Option Bs := if v.kind = 4 ∧ isText v.text = true then some (digL v.text) else none
/-- A part of an object, as it is read. -/
def partV {α : Type} (v : JV) (key : Bs) (f : JV → Option α) : Option α := (getV v key).bind f
def anyV {α : Type} (z : α) (v : JV) (key : Bs) (f : JV → Option α) : Option α := match getV v key with | none => some z | some x => f x
def platV (v : JV) : Option (Bs × Bs) :=
  match partV v kOS textV with
  | none => none
  | some os => match partV v kArc textV with
    | none => none
    | some arch => some (os, arch)
def sizeV (v : JV) : Option Int := (intV v).bind fun n => if n < 0 then none else some n
def descV (v : JV) : Option DV :=
  match partV v kMed textV with
  | none => none
  | some media => match partV v kDig digV with
    | none => none
    | some d => match partV v kSiz sizeV with
      | none => none
      | some n => match anyV ([], []) v kPla platV with
        | none => none
        | some p => some ⟨media, d, n, p.1, p.2⟩
def plainV (v : JV) : Option DV := (descV v).map DV.plain
def mapO {α : Type} (f : JV → Option α) : List JV → Option (List α)
  | [] => some []
  | x :: l => match f x with
    | none => none
    | some t => match mapO f l with
      | none => none
      | some r => some (t :: r)
def listV {α : Type} (f : JV → Option α) (v : JV) : Option (List α) := if v.kind = 5 then mapO f v.items else none
def mediaV (kind : Nat) (v : JV) : Option Bs := (textV v).bind fun s => if kindN s = kind then some s else none
/-- What is wrong with the head of a manifest or an index: 0 is nothing. -/
def headV (kind : Nat) (v : JV) : Nat := if partV v kVer intV ≠ some 2 then 10 else match anyV [] v kMed (mediaV kind) with | none => 72 | some _ => 0
def fitsN (c : DV) (l : List DV) : Nat := if 8 < l.length then 63 else if kindN c.media ≠ 3 then 72 else if l.all (fun d => kindN d.media == 4) = true then 0 else 72
/-- An answer, or an error. -/
inductive Got (α : Type) where
  | ok (a : α)
  | bad (code : Nat)
def manV (v : JV) : Got (DV × List DV) :=
  if headV 1 v ≠ 0 then .bad (headV 1 v) else match partV v kCfg plainV with
  | none => .bad 10
  | some c => match partV v kLay (listV plainV) with
    | none => .bad 10
    | some l => if fitsN c l ≠ 0 then .bad (fitsN c l) else .ok (c, l)
def idxV (v : JV) : Got (List DV) :=
  if headV 2 v ≠ 0 then .bad (headV 2 v) else match partV v kMan (listV descV) with
  | none => .bad 10
  | some l => if 32 < l.length then .bad 63 else .ok l
def rootV (v : JV) : Option (List Bs) := if partV v kTyp textV ≠ some kLay then none else partV v kDif (listV digV)
def imgV (v : JV) : Got ((Bs × Bs) × List Bs) :=
  match platV v with
  | none => .bad 10
  | some p => match partV v kRoo rootV with
    | none => .bad 10
    | some l => if 8 < l.length then .bad 63 else .ok (p, l)

/-! ### What is put -/
def txtJ (s : Bs) : JV := .mk 4 s [] []
def numJ (n : Int) : JV := .mk 3 (itoa n) [] []
def objJ (l : List (Bs × JV)) : JV := .mk 6 [] (l.map (·.2)) (l.map (·.1))
def lstJ (l : List JV) : JV := .mk 5 [] l []
def fldJ (d : DV) : List (Bs × JV) := [(kMed, txtJ d.media), (kDig, txtJ (textL d.dig)), (kSiz, numJ d.size)]
def plaJ (os arch : Bs) : JV := objJ [(kOS, txtJ os), (kArc, txtJ arch)]
def fullJ (d : DV) : JV := objJ (fldJ d ++ [(kPla, plaJ d.os d.arch)])
def bareJ (d : DV) : JV := objJ (fldJ d)
def manJ (c : DV) (l : List DV) : JV := objJ [(kVer, numJ 2), (kMed, txtJ mMan), (kCfg, bareJ c), (kLay, lstJ (l.map bareJ))]
def idxJ (l : List DV) : JV := objJ [(kVer, numJ 2), (kMed, txtJ mIdx), (kMan, lstJ (l.map fullJ))]
def imgJ (p : Bs × Bs) (l : List Bs) : JV := objJ [(kArc, txtJ p.2), (kOS, txtJ p.1), (kRoo, objJ [(kTyp, txtJ kLay), (kDif, lstJ (l.map fun d => txtJ (textL d)))])]
def mayD (d : DV) : Bool := decide (0 ≤ d.size) && decide (d.size ≤ 9007199254740992) && validD d.media && (validD d.os && validD d.arch)
def manA (c : DV) (l : List DV) : Bs × Nat := if mayD c = false ∨ l.all mayD = false then ([], 2) else if fitsN c l ≠ 0 then ([], fitsN c l) else printA (manJ c l)
def idxA (l : List DV) : Bs × Nat := if l.all mayD = false then ([], 2) else if 32 < l.length then ([], 63) else printA (idxJ l)
def imgA (p : Bs × Bs) (l : List Bs) : Bs × Nat := if (validD p.1 && validD p.2) = false then ([], 2) else if 8 < l.length then ([], 63) else printA (imgJ p l)
def pickV (l : List DV) (p : Bs × Bs) : Option DV := l.find? fun d => kindN d.media == 1 && (decide (d.os = p.1) && decide (d.arch = p.2))
end Go.Proofs.YtlknngplnimdpaaGreatDoor

/- Layer 13: what start-up laid, some more; json's Int and Text. -/
namespace Go.Proofs.YtlknngplnimdpaaGreatDoor
open Go.RowKit

structure Env2 (w : World) : Prop where
  env : Env w
  rng : ∃ tp p, w.var? Tryz.prog "strconv.ErrRange" = some #[.iface tp p]
  tab : Lib.TabIs Tryz.prog w "internal/strconv.uint64pow10" .u64 Lib.pow10Tab
theorem rng_glob : Tryz.prog.globalNamed "strconv.ErrRange" = some 5 := by kernel_rfl
theorem tab_glob : Tryz.prog.globalNamed "internal/strconv.uint64pow10" = some 6 := by kernel_rfl
theorem var_same {w w' : World} {n : String} {g : Nat} (hg : Tryz.prog.globalNamed n = some g) (hlt : g < 10) (h : ∀ k, k < 10 → w'.heap[k]? = w.heap[k]?) : w'.var? Tryz.prog n = w.var? Tryz.prog n := by
  unfold World.var?
  rw [hg]
  have := h g hlt
  simp [this]
theorem Env2.same {w w' : World} (e : Env2 w) (h : ∀ k, k < 10 → w'.heap[k]? = w.heap[k]?) (hs : w.heap.size ≤ w'.heap.size) : Env2 w' := by
  obtain ⟨tp, p, hv⟩ := e.rng
  refine ⟨e.env.same h hs, ⟨tp, p, ?_⟩, ?_⟩
  · rw [var_same rng_glob (by decide) h, hv]
  · have := e.tab
    unfold Lib.TabIs at this ⊢
    rw [var_same tab_glob (by decide) h, this]
theorem Env2.chg {s : Nat → Prop} {w w' : World} (e : Env2 w) (h : Chg s w w') (hs : ∀ k, k < 10 → ¬ s k) : Env2 w' :=
  e.same (fun k hk => h.block k (Nat.lt_of_lt_of_le hk e.env.big) (hs k hk)) h.size
theorem Env2.below {w w' : World} (e : Env2 w) (h : Below w.heap.size w w') : Env2 w' := e.chg (s := fun _ => False) (Chg.of_below h) (fun _ _ => id)
theorem Env2.far {B : Nat} {w w' : World} (e : Env2 w) (h : Below B w w') (hB : 10 ≤ B) : Env2 w' := e.chg (chg_of_below h) (fun k hk hs => by omega)
theorem atoi_cases (t : Bs) : (∃ n, Lib.atoiAll t = .ok n) ∨ Lib.atoiAll t = .range ∨ Lib.atoiAll t = Lib.atoiAll [120] := by
  cases h : Lib.atoiAll t with
  | ok n => exact .inl ⟨n, rfl⟩
  | range => exact .inr (.inl rfl)
  | _ => exact .inr (.inr rfl)
/-- A number, and whether it is one. -/
def numA (o : Option Int) : Value × Bool := match o with | some n => (.int .i64 n, true) | none => (.int .i64 0, false)
set_option maxRecDepth 100000 in
set_option maxHeartbeats 4000000 in
theorem int_any (v : JV) (x1 : Option Addr) (n1 c1 : Nat) (x2 : Option Addr) (n2 c2 : Nat) (ht : v.kind = 3 → v.text.length ≤ 70368744177664) (w : World) (hE : Env2 w) : Calls Tryz.prog 74 #[.agg #[.int .i64 v.kind, .string (str v.text), .slice x1 n1 c1, .slice x2 n2 c2]] w fun e w' => e = .returned (.tuple #[(numA (intV v)).1, .bool (numA (intV v)).2]) ∧ Below w.heap.size w w' := by
  obtain ⟨kk, t, l, ks⟩ := v
  change (kk = 3 → t.length ≤ 70368744177664) at ht
  show Calls _ _ #[.agg #[.int .i64 kk, .string (str t), .slice x1 n1 c1, .slice x2 n2 c2]] w _
  obtain ⟨W0, hW0⟩ : ∃ W0, W0 = w.alloc (.cells #[.int .i64 kk, .string (str t), .slice x1 n1 c1, .slice x2 n2 c2] 63) := ⟨_, rfl⟩
  have R0 : rowC W0 w.heap.size #[.int .i64 kk, .string (str t), .slice x1 n1 c1, .slice x2 n2 c2] 63 := by rw [hW0]; exact rowC_new w _ _
  have B0 : Below w.heap.size w W0 := by rw [hW0]; exact (Below.refl _ _).alloc (Nat.le_refl _) _
  have g0 : W0.cell? ⟨w.heap.size, 0, none⟩ = some (.int .i64 kk) := rowC_cell R0 0
  have g1 : W0.cell? ⟨w.heap.size, 1, none⟩ = some (.string (str t)) := rowC_cell R0 1
  have HW0 := Lib.hid hW0
  have HR0 := Lib.hid R0
  have HB0 := Lib.hid B0
  have HE0 := Lib.hid (hE.below B0)
  clear hW0 R0 B0 hE
  by_cases h3 : kk = 3
  rotate_left
  · have hi : intV (.mk kk t l ks) = none := by
      unfold intV
      rw [if_neg fun h => h3 h.1]
    rw [hi]
    unfold numA
    dsimp only
    go_enter Tryz.func74, Tryz.ntmps74
    go_upto_region 1 with (fail)
    rw [← HW0.out]
    go_wp2
    go_ret2
    exact ⟨rfl, HB0.out⟩
  have hT0 := ht h3
  have hT : okT t := by unfold okT; omega
  subst h3
  have C0 := isNumber_any t hT W0
  cases hn : isNumB t with
  | false =>
    rw [hn] at C0
    have hi : intV (.mk 3 t l ks) = none := by
      unfold intV
      rw [if_neg]
      rintro ⟨_, h⟩
      have h : isNumB t = true := h
      rw [hn] at h
      cases h
    rw [hi]
    unfold numA
    dsimp only
    go_enter Tryz.func74, Tryz.ntmps74
    go_upto_region 1 with (fail)
    rw [← HW0.out]
    go_wp2_with (go_at_call 109; ((with_reducible refine C0.mono ?_); rintro e w2 ⟨rfl, hb2⟩))
    go_ret2
    exact ⟨rfl, HB0.out.trans (hb2.mono HB0.out.size)⟩
  | true =>
    rw [hn] at C0
    have hi : intV (.mk 3 t l ks) = match Lib.atoiAll t with | .ok n => if -9007199254740992 ≤ n ∧ n ≤ 9007199254740992 then some n else none | _ => none := by
      unfold intV
      rw [if_pos ⟨rfl, hn⟩]
      rfl
    have hsz : (str t).size ≤ 281474976710656 := by rw [str_size]; omega
    rcases atoi_cases t with ⟨n, h⟩ | h | h
    · have CA := fun w2 => Tryz.strconv_Atoi_ok (str t) (by omega) n (by rw [str_toList]; exact h) w2
      rw [hi, h]
      dsimp only
      clear hi h hn hT hT0 ht hsz
      by_cases hr : -9007199254740992 ≤ n ∧ n ≤ 9007199254740992
      · rw [if_pos hr]
        unfold numA
        dsimp only
        obtain ⟨r1, r2⟩ := hr
        have r1' : ¬ n < -9007199254740992 := by omega
        have r2' : ¬ 9007199254740992 < n := by omega
        go_enter Tryz.func74, Tryz.ntmps74
        go_upto_region 1 with (fail)
        rw [← HW0.out]
        go_upto_region 3 with (go_at_call 109; ((with_reducible refine C0.mono ?_); rintro e w2 ⟨rfl, hb2⟩))
        have q1 : w2.cell? ⟨w.heap.size, 1, none⟩ = some (.string (str t)) := rowC_cell (rowC_below HR0.out hb2 (rowC_lt HR0.out)) 1
        have HB2 := Lib.hid (HB0.out.trans (hb2.mono HB0.out.size))
        go_wp2_with (go_at_call 110; ((with_reducible refine (CA _).mono ?_); rintro e w3 ⟨rfl, h3⟩; have HB3 : Hid (Below w2.heap.size w2 w3) := Lib.hid (by rcases h3 with rfl | ⟨t, rfl⟩; exact Below.refl _ _; exact Lib.bytesWorld_below _ _ _); clear h3))
        go_ret2
        exact ⟨rfl, HB2.out.trans (HB3.out.mono HB2.out.size)⟩
      · rw [if_neg hr]
        unfold numA
        dsimp only
        go_enter Tryz.func74, Tryz.ntmps74
        go_upto_region 1 with (fail)
        rw [← HW0.out]
        go_upto_region 3 with (go_at_call 109; ((with_reducible refine C0.mono ?_); rintro e w2 ⟨rfl, hb2⟩))
        have q1 : w2.cell? ⟨w.heap.size, 1, none⟩ = some (.string (str t)) := rowC_cell (rowC_below HR0.out hb2 (rowC_lt HR0.out)) 1
        have HB2 := Lib.hid (HB0.out.trans (hb2.mono HB0.out.size))
        by_cases r1 : n < -9007199254740992
        · go_wp2_with (go_at_call 110; ((with_reducible refine (CA _).mono ?_); rintro e w3 ⟨rfl, h3⟩; have HB3 : Hid (Below w2.heap.size w2 w3) := Lib.hid (by rcases h3 with rfl | ⟨t, rfl⟩; exact Below.refl _ _; exact Lib.bytesWorld_below _ _ _); clear h3))
          go_ret2
          exact ⟨rfl, HB2.out.trans (HB3.out.mono HB2.out.size)⟩
        · have r2 : 9007199254740992 < n := by omega
          go_wp2_with (go_at_call 110; ((with_reducible refine (CA _).mono ?_); rintro e w3 ⟨rfl, h3⟩; have HB3 : Hid (Below w2.heap.size w2 w3) := Lib.hid (by rcases h3 with rfl | ⟨t, rfl⟩; exact Below.refl _ _; exact Lib.bytesWorld_below _ _ _); clear h3))
          go_ret2
          exact ⟨rfl, HB2.out.trans (HB3.out.mono HB2.out.size)⟩
    · rw [hi, h]
      unfold numA
      dsimp only
      go_enter Tryz.func74, Tryz.ntmps74
      go_upto_region 1 with (fail)
      rw [← HW0.out]
      go_upto_region 3 with (go_at_call 109; ((with_reducible refine C0.mono ?_); rintro e w2 ⟨rfl, hb2⟩))
      have q1 : w2.cell? ⟨w.heap.size, 1, none⟩ = some (.string (str t)) := rowC_cell (rowC_below HR0.out hb2 (rowC_lt HR0.out)) 1
      obtain ⟨tp, p, hv⟩ := (HE0.out.below hb2).rng
      have CA := Tryz.strconv_Atoi_range_var (str t) hsz (by rw [str_toList]; exact h) tp p w2 hv
      clear hv
      go_wp2_with (go_at_call 110; ((with_reducible refine CA.mono ?_); rintro e w3 ⟨N, rfl, _, _, hb3⟩))
      go_ret2
      exact ⟨rfl, (HB0.out.trans (hb2.mono HB0.out.size)).trans (hb3.mono (HB0.out.trans (hb2.mono HB0.out.size)).size)⟩
    · rw [hi, h]
      unfold numA
      rw [show (match Lib.atoiAll [120] with | .ok n => if -9007199254740992 ≤ n ∧ n ≤ 9007199254740992 then some n else none | _ => none : Option Int) = none from rfl]
      dsimp only
      go_enter Tryz.func74, Tryz.ntmps74
      go_upto_region 1 with (fail)
      rw [← HW0.out]
      go_upto_region 3 with (go_at_call 109; ((with_reducible refine C0.mono ?_); rintro e w2 ⟨rfl, hb2⟩))
      have q1 : w2.cell? ⟨w.heap.size, 1, none⟩ = some (.string (str t)) := rowC_cell (rowC_below HR0.out hb2 (rowC_lt HR0.out)) 1
      obtain ⟨tp, p, hv⟩ := (HE0.out.below hb2).env.syn
      have CA := Tryz.strconv_Atoi_syntax_var (str t) hsz (by rw [str_toList]; exact h) tp p w2 hv
      clear hv
      go_wp2_with (go_at_call 110; ((with_reducible refine CA.mono ?_); rintro e w3 ⟨N, rfl, _, _, hb3⟩))
      go_ret2
      exact ⟨rfl, (HB0.out.trans (hb2.mono HB0.out.size)).trans (hb3.mono (HB0.out.trans (hb2.mono HB0.out.size)).size)⟩
/-- A text, and whether it is one. -/
def txtA (o : Option Bs) : Value × Bool := match o with | some s => (.string (str s), true) | none => (.string ⟨#[]⟩, false)
set_option maxHeartbeats 4000000 in
theorem jtext_any (v : JV) (x1 : Option Addr) (n1 c1 : Nat) (x2 : Option Addr) (n2 c2 : Nat) (w : World) : Calls Tryz.prog 81 #[.agg #[.int .i64 v.kind, .string (str v.text), .slice x1 n1 c1, .slice x2 n2 c2]] w fun e w' => e = .returned (.tuple #[(txtA (textV v)).1, .bool (txtA (textV v)).2]) ∧ Below w.heap.size w w' := by
  obtain ⟨kk, t, l, ks⟩ := v
  show Calls _ _ #[.agg #[.int .i64 kk, .string (str t), .slice x1 n1 c1, .slice x2 n2 c2]] w _
  obtain ⟨W0, hW0⟩ : ∃ W0, W0 = w.alloc (.cells #[.int .i64 kk, .string (str t), .slice x1 n1 c1, .slice x2 n2 c2] 63) := ⟨_, rfl⟩
  have R0 : rowC W0 w.heap.size #[.int .i64 kk, .string (str t), .slice x1 n1 c1, .slice x2 n2 c2] 63 := by rw [hW0]; exact rowC_new w _ _
  have B0 : Below w.heap.size w W0 := by rw [hW0]; exact (Below.refl _ _).alloc (Nat.le_refl _) _
  have g0 : W0.cell? ⟨w.heap.size, 0, none⟩ = some (.int .i64 kk) := rowC_cell R0 0
  have g1 : W0.cell? ⟨w.heap.size, 1, none⟩ = some (.string (str t)) := rowC_cell R0 1
  have HW0 := Lib.hid hW0
  have HB0 := Lib.hid B0
  clear hW0 R0 B0
  have hi : textV (.mk kk t l ks) = if kk = 4 then some t else none := rfl
  rw [hi]
  by_cases h4 : kk = 4
  · rw [if_pos h4]
    subst h4
    unfold txtA
    dsimp only
    go_enter Tryz.func81, Tryz.ntmps81
    go_upto_region 1 with (fail)
    rw [← HW0.out]
    go_wp2
    go_ret2
    exact ⟨rfl, HB0.out⟩
  · rw [if_neg h4]
    unfold txtA
    dsimp only
    go_enter Tryz.func81, Tryz.ntmps81
    go_upto_region 1 with (fail)
    rw [← HW0.out]
    go_wp2
    go_ret2
    exact ⟨rfl, HB0.out⟩
end Go.Proofs.YtlknngplnimdpaaGreatDoor

/- Layer 11: an item of a list is read. -/
namespace Go.Proofs.YtlknngplnimdpaaGreatDoor
open Go.RowKit
attribute [local go_sem ↓] Go.wp_at_zero Go.wp_at_succ

theorem row_cells4 {w : World} {bL g m cap : Nat} {xs : List Value} {a b c d : Value} {t : TypeId} (h : w.ownsRow bL t 4 (.slice (some ⟨g, 0, none⟩) (m + 1) cap) (m + 1) (xs ++ [a, b, c, d])) (hl : xs.length = m * 4) :
    w.cell? ⟨g, m * 4, none⟩ = some a ∧ w.cell? ⟨g, m * 4 + 1, none⟩ = some b ∧ w.cell? ⟨g, m * 4 + 2, none⟩ = some c ∧ w.cell? ⟨g, m * 4 + 3, none⟩ = some d := by
  refine ⟨?_, ?_, ?_, ?_⟩
  · rw [h.cellAt _ (by omega), List.getElem?_append_right (by omega), show m * 4 - xs.length = 0 by omega]; rfl
  · rw [h.cellAt _ (by omega), List.getElem?_append_right (by omega), show m * 4 + 1 - xs.length = 1 by omega]; rfl
  · rw [h.cellAt _ (by omega), List.getElem?_append_right (by omega), show m * 4 + 2 - xs.length = 2 by omega]; rfl
  · rw [h.cellAt _ (by omega), List.getElem?_append_right (by omega), show m * 4 + 3 - xs.length = 3 by omega]; rfl
theorem apart_g {I : Value} {g bv bx H : Nat} (hat : I.ownBlock = some g ∨ g = H + 1) (h1 : I.ownBlock ≠ some bv) (h2 : I.ownBlock ≠ some bx) (hb : bv < H) (hx : bx < H) : ¬ g = bv ∧ ¬ bv = g ∧ ¬ g = bx ∧ ¬ bx = g := by
  have k1 : ¬ g = bv := by
    intro e
    subst e
    rcases hat with h | h
    · exact h1 h
    · omega
  have k2 : ¬ g = bx := by
    intro e
    subst e
    rcases hat with h | h
    · exact h2 h
    · omega
  exact ⟨k1, fun e => k1 e.symm, k2, fun e => k2 e.symm⟩
/-- A value lies there. -/
def WkV (bv : Nat) (w : World) : Prop := ∃ (k : Int) (t : ByteArray) (x1 : Option Addr) (n1 c1 : Nat) (x2 : Option Addr) (n2 c2 : Nat), rowC w bv #[.int .i64 k, .string t, .slice x1 n1 c1, .slice x2 n2 c2] 63
/-- An item is put to a list's value: what holds behind the two stores, in either order. -/
def putJ (w2 w' : World) (bL br bv q lo : Nat) (acc : List JV) (I I' a b c d : Value) : Prop :=
  Chg (fun k => I.ownBlock = some k ∨ k = bv) w2 w' ∧ rowC w' br #[.pointer (some ⟨q, 0, none⟩)] 118 ∧ rowC w' bv #[.int .i64 5, .string ⟨#[]⟩, I', .slice none 0 0] 63 ∧
    ∀ v, HoldsC w2 (fun k => lo ≤ k ∧ k < w2.heap.size) v a b c d → RowJ w' bL I' (acc ++ [v]) (fun k => k = br ∨ k = bv)
theorem list1_put {w2 w4 : World} {bL br bv q lo m g cap : Nat} {acc : List JV} {I a b c d : Value} {xs : List Value} {F : Nat → Prop} (hne : br ≠ bv) (hlo : bL ≤ lo) (hbr : br < lo) (hbv : bv < lo)
    (hI : ItemsC w2 F acc xs) (hF : ∀ k, F k → bL ≤ k ∧ ¬ (k = br ∨ k = bv) ∧ I.ownBlock ≠ some k) (hm : m = acc.length) (hIo : ∀ k, I.ownBlock = some k → k < lo) (hIn : ∀ k, k = br ∨ k = bv → I.ownBlock ≠ some k)
    (hB : rowC w2 br #[.pointer (some ⟨q, 0, none⟩)] 118) (hR : rowC w2 bv #[.int .i64 5, .string ⟨#[]⟩, I, .slice none 0 0] 63)
    (hN : w4.ownsRow bL 63 4 (.slice (some ⟨g, 0, none⟩) (m + 1) cap) (m + 1) (xs ++ [.int .i64 0, .string ⟨#[]⟩, .slice none 0 0, .slice none 0 0]))
    (hc : Chg (fun k => I.ownBlock = some k) w2 w4) (hat : I.ownBlock = some g ∨ w2.heap.size ≤ g) :
    putJ w2 (((((w4.setCell ⟨g, m * 4, none⟩ a).setCell ⟨g, m * 4 + 1, none⟩ b).setCell ⟨g, m * 4 + 2, none⟩ c).setCell ⟨g, m * 4 + 3, none⟩ d).setCell ⟨bv, 2, none⟩ (.slice (some ⟨g, 0, none⟩) (m + 1) cap)) bL br bv q lo acc I (.slice (some ⟨g, 0, none⟩) (m + 1) cap) a b c d ∧
    putJ w2 (((((w4.setCell ⟨bv, 2, none⟩ (.slice (some ⟨g, 0, none⟩) (m + 1) cap)).setCell ⟨g, m * 4, none⟩ a).setCell ⟨g, m * 4 + 1, none⟩ b).setCell ⟨g, m * 4 + 2, none⟩ c).setCell ⟨g, m * 4 + 3, none⟩ d) bL br bv q lo acc I (.slice (some ⟨g, 0, none⟩) (m + 1) cap) a b c d := by
  have lbr := rowC_lt hB
  have lbv := rowC_lt hR
  have gn : ∀ k, k = br ∨ k = bv → ¬ k = g := by
    intro k hk e
    subst e
    rcases hat with hat | hat
    · exact hIn _ hk hat
    · rcases hk with rfl | rfl <;> omega
  have gbr : ¬ br = g := gn br (.inl rfl)
  have gbv : ¬ bv = g := gn bv (.inr rfl)
  have hg4 : I.ownBlock = some g ∨ w2.heap.size ≤ g := hat
  have b4 := hc.rowC hB (hIn br (.inl rfl))
  have r4 := hc.rowC hR (hIn bv (.inr rfl))
  have set4c : ∀ x : World, Chg (fun k => k = g) x ((((x.setCell ⟨g, m * 4, none⟩ a).setCell ⟨g, m * 4 + 1, none⟩ b).setCell ⟨g, m * 4 + 2, none⟩ c).setCell ⟨g, m * 4 + 3, none⟩ d) := fun x => ((((Chg.refl _ x).cellq _ _).cellq _ _).cellq _ _).cellq _ _
  have setb : ∀ (x : World) (v : Value), Chg (fun k => k = bv) x (x.setCell ⟨bv, 2, none⟩ v) := fun x v => (Chg.refl _ x).cellq _ _
  have own_lt : ∀ k, k = br ∨ k = bv → k < lo ∨ w2.heap.size ≤ k := by rintro k (rfl | rfl) <;> exact .inl (by assumption)
  refine ⟨⟨?_, ?_, ?_, fun v hv => ?_⟩, ⟨?_, ?_, ?_, fun v hv => ?_⟩⟩
  · exact ((hc.mono (t := fun k => I.ownBlock = some k ∨ k = bv) (fun k _ hk => .inl hk)).trans (set4c w4) (fun k hk e => by subst e; rcases hat with hat | hat; exact .inl hat; omega)).trans (setb _ _) (fun k _ hk => .inr hk)
  · exact (setb _ _).rowC ((set4c w4).rowC b4 gbr) hne
  · exact rowC_set ((set4c w4).rowC r4 gbv) 2 _
  · refine RowJ.chg (RowJ.put hI hF hm.symm hv hlo (Nat.le_refl _) own_lt hIo hN (hc.mono (fun k _ hk => .inl hk)) hat (fun hk => gn g hk rfl)) (setb _ _) (fun k hk => .inr (.inr hk))
  · exact ((hc.mono (t := fun k => I.ownBlock = some k ∨ k = bv) (fun k _ hk => .inl hk)).trans (setb w4 _) (fun k _ hk => .inr hk)).trans (set4c _) (fun k hk e => by subst e; rcases hat with hat | hat; exact .inl hat; omega)
  · exact (set4c _).rowC ((setb _ _).rowC b4 hne) gbr
  · exact (set4c _).rowC (rowC_set r4 2 _) gbv
  · refine RowJ.put hI hF hm.symm hv hlo (Nat.le_refl _) own_lt hIo ((setb w4 _).owns hN (fun k hk e => ?_)) ((hc.mono (t := fun k => I.ownBlock = some k ∨ (k = br ∨ k = bv) ∨ k < bL) (fun k _ hk => .inl hk)).trans (setb w4 _) (fun k _ hk => .inr (.inl (.inr hk)))) hat (fun hk => gn g hk rfl)
    simp only [Value.ownBlock, Option.some.injEq] at hk
    exact gbv (by rw [← e, hk])
/-- What the walk's end asks, once for all its ways. -/
theorem list1_fin {n lev bL br bv q : Nat} {S : Bs} (hlev : lev ≤ 16) (hqb : q < bL) (hbv : bv ≠ q) {acc : List JV} {r : Bs} {R : Res (List JV)} {w1 w2 w' : World} (hle1 : bL ≤ w1.heap.size) (h : RdAt w1 q S r lev) {Q : Res JV} (hv : valP n lev r = some Q)
    (hR : stepL (valP n lev) acc r = some R) {a b c d ev I I' : Value} (hG : gotV w1 q S r lev Q a b c d ev w2) (hC : Chg (· = q) w1 w2)
    (hI0 : ∀ k, I.ownBlock = some k → bL ≤ k) (hP : putJ w2 w' bL br bv q w1.heap.size acc I I' a b c d) (hf : ∃ x n c, I' = .slice x n c) :
    saysA w1 q S r lev (fun k => k = q ∨ k = bv ∨ bL ≤ k) (StL bL br bv q) (WkV bv) R (.returned ev) w' := by
  obtain ⟨hc, hbox, hrow, hj⟩ := hP
  have hq2 : ¬ (I.ownBlock = some q ∨ q = bv) := by
    rintro (e | e)
    · have := hI0 q e; omega
    · exact hbv e.symm
  have hcc : Chg (fun k => k = q ∨ k = bv ∨ bL ≤ k) w1 w' := (hC.mono (fun k _ hk => .inl hk)).trans hc (fun k _ hk => by
    rcases hk with e | e
    · exact .inr (.inr (hI0 k e))
    · exact .inr (.inl e))
  have hle := Nat.le_trans hle1 (Nat.le_trans hC.size hc.size)
  unfold stepL at hR
  rw [hv] at hR
  cases Q with
  | ok v x =>
    obtain ⟨rfl, hH, h2, _⟩ := hG
    have hlt := (val_ok n lev r v x hlev hv).2.2
    exact saysA_ok (Option.some.inj hR).symm (h2.chg hc hq2) ⟨hle, hbox, _, hrow, hj v hH⟩ hcc (suf_of h2.suf h.suf (by omega))
  | bad code x =>
    obtain ⟨rfl, ⟨y, l2, h2, hs⟩, _⟩ := hG
    exact saysA_bad (Option.some.inj hR).symm ⟨y, l2, h2.chg hc hq2, hs⟩ hcc (by obtain ⟨x, n, c, rfl⟩ := hf; exact ⟨_, _, _, _, _, _, _, _, hrow⟩)
set_option maxRecDepth 100000 in
set_option maxHeartbeats 8000000 in
theorem list1_any {n lev bL br bv q : Nat} (V : ValOk n) (hlev : lev ≤ 16) (S : Bs) (hS : okS S) (hq : 10 ≤ q) (hqb : q < bL) (hbr : br ≠ q) (hbv : bv ≠ q) (hne : br ≠ bv)
    (acc : List JV) (r : Bs) (R : Res (List JV)) (w1 : World) (hE : Env w1) (h : RdAt w1 q S r lev) (hst : StL bL br bv q acc w1) (hBd : acc.length + r.length ≤ 65536) (hR : stepL (valP n lev) acc r = some R) :
    Calls Tryz.prog 158 #[.pointer (some ⟨br, 0, none⟩), .pointer (some ⟨bv, 0, none⟩)] w1 fun e w2 => saysA w1 q S r lev (fun k => k = q ∨ k = bv ∨ bL ≤ k) (StL bL br bv q) (WkV bv) R e w2 := by
  cases hv : valP n lev r with
  | none => unfold stepL at hR; rw [hv] at hR; cases hR
  | some Q =>
    have C := V w1 q S r lev Q hS hE hq h hlev hv
    have b0 : w1.cell? ⟨br, 0, none⟩ = some (.pointer (some ⟨q, 0, none⟩)) := rowC_cell hst.box 0
    have FIN := Lib.hid (fun (w2 w' : World) (a b c d ev I I' : Value) => list1_fin (br := br) (w2 := w2) (w' := w') (a := a) (b := b) (c := c) (d := d) (ev := ev) (I := I) (I' := I') hlev hqb hbv hst.le h hv hR)
    have HLO := Lib.hid (rowC_lt hst.box)
    have HLb := Lib.hid hst.le
    have hbLw1 := hst.le
    obtain ⟨I, hr0, ⟨⟨xs, F, ho0, hI0, hF⟩, hIn⟩⟩ := hst.row
    have HLV := Lib.hid (rowC_lt hr0)
    have HIO := Lib.hid (fun k (hk : I.ownBlock = some k) => (ho0.lt k hk).2)
    have HR0 := Lib.hid hr0
    have HO0 := Lib.hid ho0
    have HI0 := Lib.hid hI0
    have HF := Lib.hid hF
    have HIN := Lib.hid hIn
    have HB0 := Lib.hid hst.box
    have hml : acc.length ≤ 65536 := by omega
    clear hR hv V hst h hE hBd hr0 ho0 hI0 hF hIn
    go_enter Tryz.func158, Tryz.ntmps158
    go_wp2_with (go_at_call 98; ((with_reducible refine C.mono ?_); rintro e w2 V; obtain ⟨k, t, x1, n1, c1, x2, n2, c2, ev, rfl, HG⟩ := saysV_all V; clear V))
    have hr := HG.out.1.rowC HR0.out hbv
    have ho := HG.out.1.owns HO0.out (fun g hg e => by have := (HO0.out.lt g hg).1; omega)
    have hI := ItemsC.chg HG.out.1 (fun k hk e => by have := (HF.out k hk).1; omega) acc xs HI0.out
    have hb := HG.out.1.rowC HB0.out hbr
    have hIn := HIN.out
    obtain ⟨m, hm⟩ : ∃ m, m = acc.length := ⟨_, rfl⟩
    have hxl := ItemsC.len acc xs hI
    rw [← hm] at ho hml hxl
    obtain ⟨ai, capi, rfl⟩ := owns_form ho
    have hbvl := rowC_lt hr
    have HXL := Lib.hid hxl
    have HI := Lib.hid hI
    have HM := Lib.hid hm
    have HB := Lib.hid hb
    have HR2 := Lib.hid hr
    have HOW := Lib.hid ho
    have Hs1 := Lib.hid (HG.out.1.size)
    have hbLw : bL ≤ w2.heap.size := Nat.le_trans hbLw1 Hs1.out
    obtain ⟨i0, hi0, hz0, hz1, hz2⟩ := info_parts info_V3
    obtain ⟨W, hW⟩ : ∃ W, W = w2.alloc (Obj.cells #[.int .i64 k, .string t, .slice x1 n1 c1, .slice x2 n2 c2] 63) := ⟨_, rfl⟩
    have hcv : W.cell? ⟨bv, 2, none⟩ = some (.slice ai m capi) := by rw [hW]; exact rowC_cell (rowC_alloc hr _) 2
    have hx0 : W.cell? ⟨w2.heap.size, 0, none⟩ = some (.int .i64 k) := by rw [hW]; exact rowC_cell (rowC_new w2 _ _) 0
    have hx1 : W.cell? ⟨w2.heap.size, 1, none⟩ = some (.string t) := by rw [hW]; exact rowC_cell (rowC_new w2 _ _) 1
    have hx2 : W.cell? ⟨w2.heap.size, 2, none⟩ = some (.slice x1 n1 c1) := by rw [hW]; exact rowC_cell (rowC_new w2 _ _) 2
    have hx3 : W.cell? ⟨w2.heap.size, 3, none⟩ = some (.slice x2 n2 c2) := by rw [hW]; exact rowC_cell (rowC_new w2 _ _) 3
    have hsz : W.heap.size = w2.heap.size + 1 := by rw [hW]; exact size_alloc _ _
    have hoW : W.ownsRow bL 63 4 (.slice ai m capi) m xs := by rw [hW]; exact ho.alloc _
    have hfv : W.frozen? ⟨bv, 2, none⟩ = false := by rw [hW]; exact rowC_free (rowC_alloc hr _) 2
    have HCW : Hid (Chg (fun _ => False) w2 W) := by rw [hW]; exact Lib.hid ((Chg.refl _ _).alloc _)
    rw [← hW]
    have hIbv := hIn bv (.inr rfl)
    have hIbx : (Value.slice ai m capi).ownBlock ≠ some w2.heap.size := fun e => by have := (ho.lt _ e).2; omega
    have hWs : w2.heap.size < W.heap.size := by omega
    have hbvW : bv < W.heap.size := by omega
    have hxbv : ¬ w2.heap.size = bv := by omega
    have hbvx : ¬ bv = w2.heap.size := by omega
    have m0 : (0 : Int) ≤ (m : Int) := by omega
    have m1 : (m : Int) < ((m + 1 : Nat) : Int) := by omega
    have m2 : (m : Int) < (m : Int) + 1 := by omega
    clear hW hm hI hIn hr hb ho b0 C hxl hsz
    go_region_law? (refine step_append_lies _ (by rfl) _ _ _ (by rfl) bL 63 i0 _ 4 72 Tryz.underlying60 hi0 hz0 hz1 hz2 rfl (by omega) (.slice ai m capi) m xs (by rfl) ((hoW.alloc _).drew) ⟨W.heap.size, 0, none⟩ 1 1 [.int .i64 0, .string ⟨#[]⟩, .slice none 0 0, .slice none 0 0] (by rfl) (by rfl) (World.news_of_block (cs := #[.int .i64 0, .string ⟨#[]⟩, .slice none 0 0, .slice none 0 0]) (t := 63) (fr := (0, 0)) (heap_alloc_new W _)) (by simp [Value.oneCell']) (by omega) (by unfold maxLen; omega) (by omega) (by simp; omega) (W.heap.size + 1) (by simp) ?_; intro g cap w4 hown hgrow hat hltg; obtain ⟨q0, q1, q2, q3⟩ := row_cells4 hown HXL.out; obtain ⟨z1, z2, z3, z4⟩ := apart_g hat hIbv hIbx hbvW hWs; have y0 := ((hgrow.cell_far ⟨w2.heap.size, 0, none⟩ (by simp; omega) (Ne.symm hIbx)).trans (World.cell?_alloc_old W _ ⟨w2.heap.size, 0, none⟩ (by show w2.heap.size ≠ _; omega))).trans hx0; have y1 := ((hgrow.cell_far ⟨w2.heap.size, 1, none⟩ (by simp; omega) (Ne.symm hIbx)).trans (World.cell?_alloc_old W _ ⟨w2.heap.size, 1, none⟩ (by show w2.heap.size ≠ _; omega))).trans hx1; have y2 := ((hgrow.cell_far ⟨w2.heap.size, 2, none⟩ (by simp; omega) (Ne.symm hIbx)).trans (World.cell?_alloc_old W _ ⟨w2.heap.size, 2, none⟩ (by show w2.heap.size ≠ _; omega))).trans hx2; have y3 := ((hgrow.cell_far ⟨w2.heap.size, 3, none⟩ (by simp; omega) (Ne.symm hIbx)).trans (World.cell?_alloc_old W _ ⟨w2.heap.size, 3, none⟩ (by show w2.heap.size ≠ _; omega))).trans hx3; have cbv := ((hgrow.cell_far ⟨bv, 2, none⟩ (by simp; omega) (Ne.symm hIbv)).trans (World.cell?_alloc_old W _ ⟨bv, 2, none⟩ (by show bv ≠ _; omega))).trans hcv; have pbv := ((hgrow.frozen_far ⟨bv, 2, none⟩ (by simp; omega) (Ne.symm hIbv)).trans (World.frozen?_alloc_old W _ ⟨bv, 2, none⟩ (by show bv ≠ _; omega))).trans hfv; have p0 := hown.frozenAt (m * 4); have p1 := hown.frozenAt (m * 4 + 1); have p2 := hown.frozenAt (m * 4 + 2); have p3 := hown.frozenAt (m * 4 + 3); have HN := Lib.hid hown; have HGR := Lib.hid hgrow; have HAT := Lib.hid hat; have HLT := Lib.hid hltg; clear hown hgrow hat hltg)
    all_goals (go_wp2; go_ret)
    all_goals (
      have hc4 : Chg (fun k => (Value.slice ai m capi).ownBlock = some k) w2 w4 := (((HCW.out.mono (fun k _ hk => hk.elim)).alloc _).drew).grown HGR.out (fun k hk => .inl hk)
      obtain ⟨PA, PB⟩ := list1_put (a := .int .i64 k) (b := .string t) (c := .slice x1 n1 c1) (d := .slice x2 n2 c2) (q := q) (lo := w1.heap.size) hne HLb.out HLO.out HLV.out HI.out HF.out HM.out HIO.out HIN.out HB.out HR2.out HN.out hc4 (by rcases HAT.out with e | e; exact .inl e; exact .inr (by omega))
      show saysA w1 q S r lev (fun k => k = q ∨ k = bv ∨ bL ≤ k) (StL bL br bv q) (WkV bv) R (.returned ev) _
      first
      | (with_reducible exact FIN.out w2 _ (.int .i64 k) (.string t) (.slice x1 n1 c1) (.slice x2 n2 c2) ev (.slice ai m capi) (.slice (some ⟨g, 0, none⟩) (m + 1) cap) HG.out.2 HG.out.1 (fun k hk => (HOW.out.lt k hk).1) PA ⟨_, _, _, rfl⟩)
      | (with_reducible exact FIN.out w2 _ (.int .i64 k) (.string t) (.slice x1 n1 c1) (.slice x2 n2 c2) ev (.slice ai m capi) (.slice (some ⟨g, 0, none⟩) (m + 1) cap) HG.out.2 HG.out.1 (fun k hk => (HOW.out.lt k hk).1) PB ⟨_, _, _, rfl⟩))
end Go.Proofs.YtlknngplnimdpaaGreatDoor

/- Layer 11: a list. -/
namespace Go.Proofs.YtlknngplnimdpaaGreatDoor
open Go.RowKit

theorem enter_list1 (args : Array Value) (w : World) : (callFunc 158 args).run Tryz.prog w = .ok (.enter 158 args) w := by kernel_rfl
theorem part_list {n lev bL br bv q : Nat} (V : ValOk n) (hlev : lev + 1 ≤ 16) (S : Bs) (hS : okS S) (hq : 10 ≤ q) (hqb : q < bL) (hbr : br ≠ q) (hbv : bv ≠ q) (hb10 : 10 ≤ bv) (hne : br ≠ bv) :
    Part q S (lev + 1) (fun k => k = q ∨ k = bv ∨ bL ≤ k) (StL bL br bv q) (WkV bv) (fun acc r => acc.length + r.length ≤ 65536) 158 #[.pointer (some ⟨br, 0, none⟩), .pointer (some ⟨bv, 0, none⟩)] (stepL (valP n (lev + 1))) where
  enter := enter_list1
  weak := fun a w h => by
    obtain ⟨I, hr, ⟨⟨xs, F, ho, _, _⟩, _⟩⟩ := h.row
    obtain ⟨x, c, rfl⟩ := owns_form ho
    exact ⟨_, _, _, _, _, _, _, _, hr⟩
  kept := fun a w1 w2 h hc => h.kept hc hqb hbr hbv
  own := .inl rfl
  env := fun k hk => by omega
  sub := fun a r x hs hB => by have := hs.length_le; omega
  go := fun a r a' x hB hs => by
    unfold stepL at hs
    cases hv : valP n (lev + 1) r with
    | none => rw [hv] at hs; cases hs
    | some Q =>
      rw [hv] at hs
      cases Q with
      | bad code y => cases hs
      | ok v y =>
        have hlt := (val_ok n (lev + 1) r v y hlev hv).2.2
        cases hs
        rw [List.length_append, List.length_singleton]
        omega
  call := fun a r R w1 hE h hst hB hs => list1_any V hlev S hS hq hqb hbr hbv hne a r R w1 hE h hst hB hs
/-- What a bracket's reading says, ready for the end of the walk: bv: the value gathered; res: the result's cell. -/
def boxed (w : World) (bv res q : Nat) (S l : Bs) (lev : Nat) (R : Res JV) (e : Ending) (w3 : World) : Prop :=
  ∃ (k : Int) (t : ByteArray) (x1 : Option Addr) (n1 c1 : Nat) (x2 : Option Addr) (n2 c2 : Nat) (ev : Value), e = .returned ev ∧ Hid (rowC w3 bv (row4 k t x1 n1 c1 x2 n2 c2) 63 ∧ rowC w3 res zeroV4 63 ∧
    ∀ w', Chg (· = res) w3 w' → saysV w q S l lev R (.returned (.tuple #[.agg (row4 k t x1 n1 c1 x2 n2 c2), ev])) w')
theorem list_parts {n lev q bL br bv res : Nat} {w w1 : World} {S l : Bs} {R : Res JV} (V : ValOk n) (hS : okS S) (hE : Env w1) (hq : 10 ≤ q) (hqw : q < w.heap.size) (h : RdAt w1 q S l lev) (hlev : lev ≤ 16) (hne : l ≠ [])
    (hC : Chg (· = q) w w1) (hbr : w.heap.size ≤ br) (hbv : w.heap.size ≤ bv) (hres : w.heap.size ≤ res) (hn1 : br ≠ bv) (hn3 : res ≠ bv) (hbL : w1.heap.size = bL)
    (hB : rowC w1 br #[.pointer (some ⟨q, 0, none⟩)] 118) (hV : rowC w1 bv #[.int .i64 5, .string ⟨#[]⟩, .slice none 0 0, .slice none 0 0] 63) (hZ : rowC w1 res zeroV4 63)
    (hR : (if lev = 16 then some (.bad 11 l) else (partsP 93 (stepL (valP n (lev + 1))) n true [] l.tail).map (Res.map mkL)) = some R) :
    Calls Tryz.prog 157 #[.pointer (some ⟨q, 0, none⟩), .int .u8 93, .func (.func 158) #[] #[.pointer (some ⟨br, 0, none⟩), .pointer (some ⟨bv, 0, none⟩)]] w1 fun e w3 => boxed w bv res q S l lev R e w3 := by
  have lres := rowC_lt hZ
  have hqw1 := Nat.lt_of_lt_of_le hqw hC.size
  by_cases h16 : lev = 16
  · rw [if_pos h16, Option.some.injEq] at hR
    subst h16
    refine (parts_deep h).mono ?_
    rintro e w2 ⟨rfl, rfl⟩
    refine ⟨5, ⟨#[]⟩, none, 0, 0, none, 0, 0, _, rfl, Lib.hid ⟨hV, hZ, fun w' hc => ?_⟩⟩
    exact saysV_bad hR.symm ⟨_, _, _, _, _, _, _, _, rfl⟩ ⟨⟨l, 16, h.chg hc (by omega), List.suffix_refl _⟩, hC.trans hc (fun k hk e => by omega)⟩
  · rw [if_neg h16] at hR
    cases hp : partsP 93 (stepL (valP n (lev + 1))) n true [] l.tail with
    | none => rw [hp] at hR; cases hR
    | some Q =>
      rw [hp] at hR
      have hR' : R = Res.map mkL Q := (Option.some.inj hR).symm
      have hl := h.suf.length_le
      have hSS := hS
      unfold okS at hSS
      have P := part_list (lev := lev) (br := br) (bv := bv) (bL := bL) (q := q) V (by omega) S hS hq (by omega) (by omega) (by omega) (by omega) hn1
      refine (parts_any hS hE hq h (by omega) hne (.inl rfl) 93 rfl P ⟨by omega, hB, _, hV, RowJ.nil _ _ _⟩ (show [].length + l.tail.length ≤ 65536 by rw [List.length_tail]; simp; omega) hp).mono ?_
      intro e w3 hA
      cases Q with
      | bad code x =>
        obtain ⟨rfl, ⟨y, l2, h2, hs⟩, hc, ⟨k, t, x1, n1, c1, x2, n2, c2, hrow⟩⟩ := hA
        refine ⟨k, t, x1, n1, c1, x2, n2, c2, _, rfl, Lib.hid ⟨hrow, hc.rowC hZ (by omega), fun w' hc' => ?_⟩⟩
        exact saysV_bad hR' ⟨_, _, _, _, _, _, _, _, rfl⟩ ⟨⟨y, l2, h2.chg hc' (by omega), hs⟩, (hC.trans hc (fun k hk e => by omega)).trans hc' (fun k hk e => by omega)⟩
      | ok acc x =>
        obtain ⟨rfl, h2, hst, hc, hs⟩ := hA
        obtain ⟨I, hr, hj⟩ := hst.row
        obtain ⟨ai, ci, rfl⟩ := owns_form hj.ex.choose_spec.choose_spec.1
        refine ⟨5, ⟨#[]⟩, ai, acc.length, ci, none, 0, 0, _, rfl, Lib.hid ⟨hr, hc.rowC hZ (by omega), fun w' hc' => ?_⟩⟩
        have hj' := (hj.chg hc' (fun k hk => .inl (by omega))).holds
        refine saysV_ok hR' ⟨_, _, _, _, rfl, ?_⟩ ⟨h2.chg hc' (by omega), (hC.trans hc (fun k hk e => by omega)).trans hc' (fun k hk e => by omega)⟩
        unfold mkL
        rw [HoldsC]
        refine ⟨rfl, rfl, by simp, .inl ⟨rfl, rfl⟩, ?_⟩
        rcases hj' with ⟨h5, h6⟩ | ⟨ad, cap, h5, h6⟩
        · exact .inl ⟨h5, h6⟩
        · exact .inr ⟨ad, cap, h5, HoldsR.mono (fun k hk hlt => ⟨by have := hC.size; omega, hlt⟩) _ _ _ h6⟩
set_option maxRecDepth 100000 in
set_option maxHeartbeats 4000000 in
theorem list_any {n lev q : Nat} {w : World} {S l : Bs} {R : Res JV} (V : ValOk n) (hS : okS S) (hE : Env w) (hq : 10 ≤ q) (h : RdAt w q S l lev) (hlev : lev ≤ 16) (hne : l ≠ [])
    (hR : (if lev = 16 then some (.bad 11 l) else (partsP 93 (stepL (valP n (lev + 1))) n true [] l.tail).map (Res.map mkL)) = some R) :
    Calls Tryz.prog 135 #[.pointer (some ⟨q, 0, none⟩)] w fun e w' => saysV w q S l lev R e w' := by
  have hqw := h.lt
  obtain ⟨W0, hW0⟩ : ∃ W0, W0 = ((w.alloc (.cells #[.pointer (some ⟨q, 0, none⟩)] 118)).alloc (.cells #[.int .i64 0, .string ⟨#[]⟩, .slice none 0 0, .slice none 0 0] 63)).alloc (.cells #[.int .i64 5, .string ⟨#[]⟩, .slice none 0 0, .slice none 0 0] 63) := ⟨_, rfl⟩
  have hs0 : W0.heap.size = w.heap.size + 1 + 1 + 1 := by rw [hW0]; simp
  have A0 : Chg (· = q) w W0 := by rw [hW0]; exact (((Chg.refl _ w).alloc _).alloc _).alloc _
  have B0 : rowC W0 w.heap.size #[.pointer (some ⟨q, 0, none⟩)] 118 := by rw [hW0]; exact rowC_alloc (rowC_alloc (rowC_new w _ _) _) _
  have R0 : rowC W0 (w.heap.size + 1) zeroV4 63 := by
    rw [hW0, ← size_alloc w (.cells #[.pointer (some ⟨q, 0, none⟩)] 118)]
    exact rowC_alloc (rowC_new _ _ _) _
  have V0 : rowC W0 (w.heap.size + 1 + 1) #[.int .i64 5, .string ⟨#[]⟩, .slice none 0 0, .slice none 0 0] 63 := by
    rw [hW0, ← size_alloc w (.cells #[.pointer (some ⟨q, 0, none⟩)] 118), ← size_alloc (w.alloc _) (.cells #[.int .i64 0, .string ⟨#[]⟩, .slice none 0 0, .slice none 0 0] 63)]
    exact rowC_new _ _ _
  have E0 : Env W0 := hE.q A0 hq
  have H0 : RdAt W0 q S l lev := h.chg (s := fun _ => False) (by rw [hW0]; exact (((Chg.refl _ w).alloc _).alloc _).alloc _) (fun e => e)
  have C := list_parts (bL := W0.heap.size) V hS E0 hq hqw H0 hlev hne A0 (br := w.heap.size) (bv := w.heap.size + 1 + 1) (res := w.heap.size + 1) (Nat.le_refl _) (by omega) (by omega) (by omega) (by omega) rfl B0 V0 R0 hR
  have HW0 := Lib.hid hW0
  have HI := Lib.hid info_V
  have c0 := rowC_cell B0 0
  clear hR hW0 A0 B0 R0 V0 E0 H0 hs0 h hE
  go_enter Tryz.func135, Tryz.ntmps135
  go_upto_region 2 with (fail)
  rw [← HW0.out]
  go_wp2_with (first
    | (go_at_call 157; ((with_reducible refine C.mono ?_); rintro e w3 ⟨k, t, x1, n1, c1, x2, n2, c2, ev, rfl, HB⟩))
    | ((with_reducible show wpList _ _ _ (⟨some 10, .load _ (.tmp 4), _, _, _, _⟩ :: _) _ _); refine wpList_load_row rfl 63 _ rfl (w.heap.size + 1 + 1) rfl 63 (row4 k t x1 n1 c1 x2 n2 c2) (0, 0) _ HB.out.1 Tryz.underlying63 rfl HI.out ?_)
    | ((with_reducible show wpList _ _ _ (⟨none, .store _ (.tmp 2) _, _, _, _, _⟩ :: _) _ _); refine wpList_store_row rfl 63 _ _ rfl (w.heap.size + 1) (row4 k t x1 n1 c1 x2 n2 c2) rfl rfl 63 zeroV4 HB.out.2.1 HI.out rfl (row4_all _ _ _ _ _ _ _ _) ?_))
  refine bodyPost_ret (results_row_tmp rfl _ _ (w.heap.size + 1) 63 (row4 k t x1 n1 c1 x2 n2 c2) _ rfl (rowC_setRow HB.out.2.1 _) Tryz.underlying63 rfl HI.out ev rfl) rfl ?_
  exact HB.out.2.2 _ ((Chg.refl _ _).setRow _ _ (.inl rfl))
end Go.Proofs.YtlknngplnimdpaaGreatDoor

/- Layer 11: what an object has gathered. -/
namespace Go.Proofs.YtlknngplnimdpaaGreatDoor
open Go.RowKit

theorem info_S1 : (Tryz.prog.info? 9).map (fun i => (i.zero, i.size, i.bytes)) = some (some (.string ⟨#[]⟩), 1, 16) := by kernel_rfl
def keysV (l : List Bs) : List Value := l.map fun t => .string (str t)
structure StO (bL br bm bv q mp : Nat) (acc : List (Bs × JV)) (w : World) : Prop where
  le : bL ≤ w.heap.size
  box : rowC w br #[.pointer (some ⟨q, 0, none⟩)] 118
  map : rowC w bm #[.map (some mp)] 231
  set : SetM w mp (acc.map (·.1))
  row : ∃ I K, rowC w bv #[.int .i64 6, .string ⟨#[]⟩, I, K] 63 ∧ w.ownsRow bL 9 1 K acc.length (keysV (acc.map (·.1))) ∧ RowJ w bL I (acc.map (·.2)) (fun k => K.ownBlock = some k)
theorem StO.kept {bL br bm bv q mp : Nat} (o1 : q < br) (o2 : br < bv) (o3 : bv < mp) (o4 : mp < bm) (o5 : bm < bL) {acc : List (Bs × JV)} {w w' : World} (h : StO bL br bm bv q mp acc w) (hc : Chg (· = q) w w') : StO bL br bm bv q mp acc w' := by
  obtain ⟨I, K, hr, hk, hj⟩ := h.row
  exact ⟨Nat.le_trans h.le hc.size, hc.rowC h.box (by omega), hc.rowC h.map (by omega), h.set.chg hc (by omega), I, K, hc.rowC hr (by omega), hc.owns hk (fun g hg e => by have := (hk.lt g hg).1; omega), hj.chg hc (fun k hk => .inl (by omega))⟩
/-- An item is put to a value: what holds behind the two stores, in either order. -/
def putI (w2 w' : World) (bL bv lo hi : Nat) (own : Nat → Prop) (k0 : Int) (acc : List JV) (I I' D a b c d : Value) : Prop :=
  Chg (fun k => I.ownBlock = some k ∨ k = bv) w2 w' ∧ rowC w' bv #[.int .i64 k0, .string ⟨#[]⟩, I', D] 63 ∧
    ∀ v, HoldsC w2 (fun k => lo ≤ k ∧ k < hi) v a b c d → RowJ w' bL I' (acc ++ [v]) own
theorem item_put {w2 w4 : World} {bL bv lo hi m g cap : Nat} {k0 : Int} {acc : List JV} {I a b c d D : Value} {xs : List Value} {F own : Nat → Prop} (hbL : bv < bL) (hlo : bL ≤ lo) (hhi : hi ≤ w2.heap.size)
    (hI : ItemsC w2 F acc xs) (hF : ∀ k, F k → bL ≤ k ∧ ¬ own k ∧ I.ownBlock ≠ some k) (hm : m = acc.length) (hIo : ∀ k, I.ownBlock = some k → bL ≤ k ∧ k < lo) (hIn : ∀ k, own k → I.ownBlock ≠ some k)
    (how : ∀ k, own k → k < lo ∨ hi ≤ k) (howl : ∀ k, own k → k < w2.heap.size) (hR : rowC w2 bv #[.int .i64 k0, .string ⟨#[]⟩, I, D] 63)
    (hN : w4.ownsRow bL 63 4 (.slice (some ⟨g, 0, none⟩) (m + 1) cap) (m + 1) (xs ++ [.int .i64 0, .string ⟨#[]⟩, .slice none 0 0, .slice none 0 0]))
    (hc : Chg (fun k => I.ownBlock = some k) w2 w4) (hat : I.ownBlock = some g ∨ w2.heap.size ≤ g) :
    putI w2 (((((w4.setCell ⟨g, m * 4, none⟩ a).setCell ⟨g, m * 4 + 1, none⟩ b).setCell ⟨g, m * 4 + 2, none⟩ c).setCell ⟨g, m * 4 + 3, none⟩ d).setCell ⟨bv, 2, none⟩ (.slice (some ⟨g, 0, none⟩) (m + 1) cap)) bL bv lo hi own k0 acc I (.slice (some ⟨g, 0, none⟩) (m + 1) cap) D a b c d ∧
    putI w2 (((((w4.setCell ⟨bv, 2, none⟩ (.slice (some ⟨g, 0, none⟩) (m + 1) cap)).setCell ⟨g, m * 4, none⟩ a).setCell ⟨g, m * 4 + 1, none⟩ b).setCell ⟨g, m * 4 + 2, none⟩ c).setCell ⟨g, m * 4 + 3, none⟩ d) bL bv lo hi own k0 acc I (.slice (some ⟨g, 0, none⟩) (m + 1) cap) D a b c d := by
  have lbv := rowC_lt hR
  have gbv : ¬ bv = g := by
    intro e
    subst e
    rcases hat with hat | hat
    · have := (hIo _ hat).1; omega
    · omega
  have gn : ¬ own g := by
    intro hk
    rcases hat with hat | hat
    · exact hIn _ hk hat
    · have := howl _ hk; omega
  have hIbv : ¬ I.ownBlock = some bv := fun e => by have := (hIo _ e).1; omega
  have r4 := hc.rowC hR hIbv
  have set4c : ∀ x : World, Chg (fun k => k = g) x ((((x.setCell ⟨g, m * 4, none⟩ a).setCell ⟨g, m * 4 + 1, none⟩ b).setCell ⟨g, m * 4 + 2, none⟩ c).setCell ⟨g, m * 4 + 3, none⟩ d) := fun x => ((((Chg.refl _ x).cellq _ _).cellq _ _).cellq _ _).cellq _ _
  have setb : ∀ (x : World) (v : Value), Chg (fun k => k = bv) x (x.setCell ⟨bv, 2, none⟩ v) := fun x v => (Chg.refl _ x).cellq _ _
  refine ⟨⟨?_, ?_, fun v hv => ?_⟩, ⟨?_, ?_, fun v hv => ?_⟩⟩
  · exact ((hc.mono (t := fun k => I.ownBlock = some k ∨ k = bv) (fun k _ hk => .inl hk)).trans (set4c w4) (fun k hk e => by subst e; rcases hat with hat | hat; exact .inl hat; omega)).trans (setb _ _) (fun k _ hk => .inr hk)
  · exact rowC_set ((set4c w4).rowC r4 gbv) 2 _
  · refine RowJ.chg (RowJ.put hI hF hm.symm hv hlo hhi how (fun k hk => (hIo k hk).2) hN (hc.mono (fun k _ hk => .inl hk)) hat gn) (setb _ _) (fun k hk => .inl (by omega))
  · exact ((hc.mono (t := fun k => I.ownBlock = some k ∨ k = bv) (fun k _ hk => .inl hk)).trans (setb w4 _) (fun k _ hk => .inr hk)).trans (set4c _) (fun k hk e => by subst e; rcases hat with hat | hat; exact .inl hat; omega)
  · exact (set4c _).rowC (rowC_set r4 2 _) gbv
  · refine RowJ.put hI hF hm.symm hv hlo hhi how (fun k hk => (hIo k hk).2) ((setb w4 _).owns hN (fun k hk e => ?_)) ((hc.mono (t := fun k => I.ownBlock = some k ∨ own k ∨ k < bL) (fun k _ hk => .inl hk)).trans (setb w4 _) (fun k _ hk => .inr (.inr (by omega)))) hat gn
    simp only [Value.ownBlock, Option.some.injEq] at hk
    exact gbv (by rw [← e, hk])
/-- What the walk's end asks, once for all its ways. -/
theorem obj1_fin {n lev bL br bm bv q mp : Nat} {S : Bs} (hlev : lev ≤ 16) (o1 : q < br) (o2 : br < bv) (o3 : bv < mp) (o4 : mp < bm) (o5 : bm < bL) {acc : List (Bs × JV)} {r x t : Bs} {R : Res (List (Bs × JV))} {w1 w2 w3 w5 w' : World} {Q : Res JV} {a b c d ev I I' K K' : Value}
    (h : RdAt w1 q S r lev) (hst : StO bL br bm bv q mp acc w1) (hk : keyP n (acc.map (·.1)) r = some (.ok t x)) (hx : x <:+ r) (hv : valP n lev x = some Q) (hR : stepO n (valP n lev) acc r = some R)
    (hC2 : Chg (fun k => k = q ∨ k = mp) w1 w2) (hset : SetM w2 mp (acc.map (·.1) ++ [t])) (hG : gotV w2 q S x lev Q a b c d ev w3) (hC3 : Chg (· = q) w2 w3)
    (hc5 : Chg (fun k => K.ownBlock = some k ∨ k = bv) w3 w5) (hKb : ∀ k, K.ownBlock = some k → bL ≤ k) (hIb : ∀ k, I.ownBlock = some k → bL ≤ k)
    (hP : putI w5 w' bL bv w2.heap.size w3.heap.size (fun k => K'.ownBlock = some k) 6 (acc.map (·.2)) I I' K' a b c d) (hK5 : w5.ownsRow bL 9 1 K' (acc.length + 1) (keysV (acc.map (·.1)) ++ [.string (str t)]))
    (hIK : ∀ k, K'.ownBlock = some k → I.ownBlock ≠ some k) (hH : ∀ v, HoldsC w3 (fun k => w2.heap.size ≤ k ∧ k < w3.heap.size) v a b c d → HoldsC w5 (fun k => w2.heap.size ≤ k ∧ k < w3.heap.size) v a b c d)
    (hf : ∃ x n c, I' = .slice x n c) (hf2 : ∃ x n c, K' = .slice x n c) :
    saysA w1 q S r lev (fun k => k = q ∨ k = mp ∨ k = bv ∨ bL ≤ k) (StO bL br bm bv q mp) (WkV bv) R (.returned ev) w' := by
  obtain ⟨hc6, hrow, hj⟩ := hP
  have hle : bL ≤ w'.heap.size := by
    have := hst.le; have := hC2.size; have := hC3.size; have := hc5.size; have := hc6.size; omega
  have n5 : ∀ k, k < bL → k ≠ bv → ¬ (K.ownBlock = some k ∨ k = bv) := by
    rintro k hk hn (e | e)
    · have := hKb k e; omega
    · exact hn e
  have n6 : ∀ k, k < bL → k ≠ bv → ¬ (I.ownBlock = some k ∨ k = bv) := by
    rintro k hk hn (e | e)
    · have := hIb k e; omega
    · exact hn e
  have hcc : Chg (fun k => k = q ∨ k = mp ∨ k = bv ∨ bL ≤ k) w1 w' := by
    refine (((hC2.mono (fun k _ hk => ?_)).trans hC3 (fun k _ hk => .inl hk)).trans hc5 (fun k _ hk => ?_)).trans hc6 (fun k _ hk => ?_)
    · rcases hk with e | e
      · exact .inl e
      · exact .inr (.inl e)
    · rcases hk with e | e
      · exact .inr (.inr (.inr (hKb k e)))
      · exact .inr (.inr (.inl e))
    · rcases hk with e | e
      · exact .inr (.inr (.inr (hIb k e)))
      · exact .inr (.inr (.inl e))
  unfold stepO at hR
  rw [hk] at hR
  simp only [hv] at hR
  cases Q with
  | ok v y =>
    obtain ⟨rfl, hHv, h2, _⟩ := hG
    have hlt := (val_ok n lev x v y hlev hv).2.2
    refine saysA_ok (Option.some.inj hR).symm ((h2.chg hc5 (n5 q (by omega) (by omega))).chg hc6 (n6 q (by omega) (by omega))) ⟨hle, ?_, ?_, ?_, I', K', hrow, ?_, ?_⟩ hcc ((suf_of h2.suf (hx.trans h.suf) (by omega)).trans hx)
    · exact hc6.rowC (hc5.rowC (hC3.rowC (hC2.rowC hst.box (by omega)) (by omega)) (n5 br (by omega) (by omega))) (n6 br (by omega) (by omega))
    · exact hc6.rowC (hc5.rowC (hC3.rowC (hC2.rowC hst.map (by omega)) (by omega)) (n5 bm (by omega) (by omega))) (n6 bm (by omega) (by omega))
    · rw [List.map_append]
      exact ((hset.chg hC3 (by omega)).chg hc5 (n5 mp (by omega) (by omega))).chg hc6 (n6 mp (by omega) (by omega))
    · rw [List.length_append, List.map_append]
      unfold keysV at hK5 ⊢
      rw [List.map_append]
      refine hc6.owns hK5 (fun g hg e => ?_)
      rcases e with e | e
      · exact hIK g hg e
      · have := (hK5.lt g hg).1; omega
    · rw [List.map_append]
      exact hj v (hH v hHv)
  | bad code y =>
    obtain ⟨rfl, ⟨z, l2, h2, hs⟩, _⟩ := hG
    obtain ⟨xi, ni, ci, rfl⟩ := hf
    obtain ⟨xk, nk, ck, rfl⟩ := hf2
    exact saysA_bad (Option.some.inj hR).symm ⟨z, l2, (h2.chg hc5 (n5 q (by omega) (by omega))).chg hc6 (n6 q (by omega) (by omega)), hs.trans hx⟩ hcc ⟨_, _, _, _, _, _, _, _, hrow⟩
end Go.Proofs.YtlknngplnimdpaaGreatDoor

