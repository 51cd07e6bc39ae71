/- Merged: JsH, Rnd, DigM. -/
import Derived.Test.YtnkencdibniagaaGreatDoorM03
import Derived.Sort.QuietThIn
import Derived.Sort.BigQuietIn
import Derived.StillTail
import Derived.TacticsIn
import Init
/- Layer 11, plain: a printed text with blanks put in around what stands between its parts. -/
namespace Go.Proofs.YtnkencdibniagaaGreatDoor
open Go.Lib

def isPt (c : UInt8) : Bool := c == 44 || c == 58 || c == 91 || c == 93 || c == 123 || c == 125
/-- Blanks are put in, outside of strings. -/
def insF (g : Bs) : Nat → Bool → Bs → Bs
  | 0, _, _ => []
  | _ + 1, _, [] => []
  | n + 1, s, c :: l =>
    if s = true ∧ c = 92 then (c :: l).take 2 ++ insF g n s l.tail
    else if c = 34 then c :: insF g n (!s) l
    else if s = false ∧ isPt c = true then g ++ [c] ++ g ++ insF g n s l
    else c :: insF g n s l
def plainB (c : UInt8) : Prop := c ≠ 34 ∧ isPt c = false
theorem ins_plain {g : Bs} : ∀ (t : Bs) (n : Nat) (r : Bs), (∀ c ∈ t, plainB c) → t.length ≤ n → insF g n false (t ++ r) = t ++ insF g (n - t.length) false r
  | [], n, r, _, _ => by simp
  | c :: t, n, r, h, hn => by
    obtain ⟨m, rfl⟩ : ∃ m, n = m + 1 := ⟨n - 1, by simp at hn; omega⟩
    obtain ⟨h1, h2⟩ := h c (by simp)
    rw [List.cons_append, insF, if_neg (by simp), if_neg h1, if_neg (by rw [h2]; simp), ins_plain t m r (fun d hd => h d (by simp [hd])) (by simpa using hn)]
    simp
/-! ### Strings -/
set_option maxHeartbeats 1000000 in
theorem enc_big {c : Nat} (hc : scal c) (h : 128 ≤ c) : ∀ b ∈ encodeRune (c : Int), 128 ≤ b.toNat := by
  unfold scal at hc
  unfold encodeRune
  by_cases h2 : c < 2048
  · rw [encodeRuneZ_two (by omega) (by omega)]
    have e0 : ((192 + (c : Int) / 64).toNat.toUInt8).toNat = 192 + c / 64 := by simp; omega
    have e1 : ((128 + (c : Int) % 64).toNat.toUInt8).toNat = 128 + c % 64 := by simp; omega
    intro b hb
    simp only [List.map_cons, List.map_nil, List.mem_cons, List.not_mem_nil, or_false] at hb
    rcases hb with rfl | rfl <;> omega
  by_cases h3 : c < 65536
  · rw [encodeRuneZ_three (by omega)]
    have e0 : ((224 + (c : Int) / 4096).toNat.toUInt8).toNat = 224 + c / 4096 := by simp; omega
    have e1 : ((128 + (c : Int) / 64 % 64).toNat.toUInt8).toNat = 128 + c / 64 % 64 := by simp; omega
    have e2 : ((128 + (c : Int) % 64).toNat.toUInt8).toNat = 128 + c % 64 := by simp; omega
    intro b hb
    simp only [List.map_cons, List.map_nil, List.mem_cons, List.not_mem_nil, or_false] at hb
    rcases hb with rfl | rfl | rfl <;> omega
  · rw [encodeRuneZ_four (by omega) (by omega)]
    have e0 : ((240 + (c : Int) / 262144).toNat.toUInt8).toNat = 240 + c / 262144 := by simp; omega
    have e1 : ((128 + (c : Int) / 4096 % 64).toNat.toUInt8).toNat = 128 + c / 4096 % 64 := by simp; omega
    have e2 : ((128 + (c : Int) / 64 % 64).toNat.toUInt8).toNat = 128 + c / 64 % 64 := by simp; omega
    have e3 : ((128 + (c : Int) % 64).toNat.toUInt8).toNat = 128 + c % 64 := by simp; omega
    intro b hb
    simp only [List.map_cons, List.map_nil, List.mem_cons, List.not_mem_nil, or_false] at hb
    rcases hb with rfl | rfl | rfl | rfl <;> omega
/-- What ends of the putting in says of a text that is put in whole. -/
def insOk (g s t : Bs) : Prop := ∀ (n : Nat) (r : Bs), s.length + r.length ≤ n → ∃ m, r.length ≤ m ∧ insF g n false (s ++ r) = t ++ insF g m false r
theorem insOk.nil (g : Bs) : insOk g [] [] := fun n r h => ⟨n, by simpa using h, rfl⟩
theorem insOk.app {g a b c d : Bs} (h : insOk g a b) (k : insOk g c d) : insOk g (a ++ c) (b ++ d) := by
  intro n r hn
  rw [List.length_append] at hn
  obtain ⟨m1, h1, e1⟩ := h n (c ++ r) (by rw [List.length_append]; omega)
  rw [List.length_append] at h1
  obtain ⟨m2, h2, e2⟩ := k m1 r (by omega)
  exact ⟨m2, h2, by rw [List.append_assoc, e1, e2, List.append_assoc]⟩
theorem insOk.plain {g t : Bs} (h : ∀ c ∈ t, plainB c) : insOk g t t := by
  intro n r hn
  exact ⟨n - t.length, by omega, ins_plain t n r h (by omega)⟩
/-! ### Numbers -/
/-! ### Values -/
end Go.Proofs.YtnkencdibniagaaGreatDoor

/- Generic: a region that draws its order, in a fence, in a round too: all of it quiet, or all but a forced end, under any class of worlds. (It names nothing of the cut.) -/
namespace Go.Proofs.YtnkencdibniagaaGreatDoor
open Go

/-- A wide fence lets every call through, in a round too. -/
theorem wide_fn (f : FuncId) : Fence.wide.fn f = True := eq_true trivial
theorem round_fn (l : Nat) (f : FuncId) : (Fence.wide.inRound l).fn f = True := eq_true trivial
/-- No operation puts a call off. -/
def noDef (l : List Oper) : Bool := l.all fun o => match o.op with | .defer _ => false | _ => true
theorem noDef_at {l : List Oper} (h : noDef l = true) {i : Nat} {o : Oper} (ho : l.toArray[i]? = some o) : ∀ c, o.op ≠ .defer c := by
  intro c hc
  have hm : o ∈ l := List.mem_of_getElem? (by simpa using ho)
  have := List.all_eq_true.1 h o hm
  rw [hc] at this
  cases this
section
variable {F : Fence} {n : Nat} {P : Program} {l : List Oper} {md : Region.Mode} {C : World → Prop}

theorem op_quiet {o : Oper} {a : Act} {K : Act → Prop} {K' : Act → World → Prop} {Q' : Exit → Act → World → Prop} {w : World} (hd : ∀ c, o.op ≠ .defer c) (hw : C w) (h : ∀ a w', C w' → K a → K' a w')
    (ha : o.askedIn F P a C) (hq : o.quietIn F n P a C K) : o.wpIn F n P a w K' Q' := by
  obtain ⟨v, hv, hk⟩ := hq
  have hv := hv w hw
  unfold Oper.quietAtIn at hv
  refine ⟨ha w hw, ?_⟩
  rw [Oper.semAt_eq _ _ _ hd]
  cases hr : (execOp a.eval o).run P w with
  | halt x w' => rw [hr] at hv; exact hv.elim
  | ok x w' =>
    rw [hr] at hv
    cases x with
    | value u => obtain ⟨rfl, rfl⟩ := hv; exact h _ _ hw hk
    | skip => obtain ⟨rfl, rfl⟩ := hv; exact h _ _ hw hk
    | enter f args =>
      obtain ⟨rfl, hdep, hc⟩ := hv
      exact ⟨hdep, hc.mono fun e w'' hh => by obtain ⟨rfl, hC⟩ := hh; exact h _ _ hC hk⟩
    | _ => exact hv.elim
theorem wpOp_quiet {i : Nat} {a : Act} {K : Act → Prop} {K' : Act → World → Prop} {Q' : Exit → Act → World → Prop} {w : World} (hd : noDef l = true) (hw : C w) (h : ∀ a w', C w' → K a → K' a w')
    (hq : qOpIn F n P l.toArray C i K a) : wpOpIn F n P l.toArray Q' i K' a w := by
  unfold qOpIn at hq
  unfold wpOpIn
  cases ho : l.toArray[i]? with
  | none => rw [ho] at hq; exact h _ _ hw hq
  | some o =>
    rw [ho] at hq
    obtain ⟨ha, hq⟩ := hq
    by_cases hg : Region.wanted o (yielded l.toArray a.tmps) = true
    · simp only [hg, if_true] at hq ⊢; exact op_quiet (noDef_at hd ho) hw h ha hq
    · simp only [hg, Bool.false_eq_true, if_false] at hq ⊢; exact ⟨ha w hw, h _ _ hw hq⟩
theorem wpAny_quietR {Q : Act → Prop} {Q' : Exit → Act → World → Prop} (hd : noDef l = true) (hQ : ∀ a w, C w → Q a → Q' .normal a w) : ∀ (f : Nat) (listed : Array Bool) (a : Act) (w : World), C w →
    wpAnyQIn F n P md l.toArray C Q f listed a → wpAnyIn F n P md l.toArray Q' f listed a w
  | 0, _, _, _, hw, h => ⟨h.1, hQ _ _ hw h.2⟩
  | f + 1, _, _, _, hw, h => ⟨fun h0 => hQ _ _ hw (h.1 h0), fun i hi => wpOp_quiet hd hw (fun a' w' hw' hk => wpAny_quietR hd hQ f _ a' w' hw' hk) (h.2 i hi)⟩
/-- All of it is quiet. -/
theorem region_quiet {id : Nat} {Q : Exit → Act → World → Prop} {a : Act} {w : World} (hm : P.follows .mixedOrders = true) (hd : noDef l = true) (hB : Region.lexB .any l.toArray = true) (hC : C w.drew)
    (h : wpQuietIn F n P l.toArray C (fun a' => ∀ w', C w' → Q .normal a' w') l a) : (Code.region id l.toArray true).wpIn F n P Q a w := by
  simp only [Region.lexB, Bool.and_eq_true] at hB
  refine wpIn_region_any hm (wpAny_quietR (Q := fun a' => ∀ w', C w' → Q .normal a' w') hd (fun _ w' hw' h => h w' hw') _ _ _ w.drew hC ?_)
  have := wpAnyQIn_lex (F := F) (n := n) (P := P) (C := C) (md := .any) hB.1 l 0 (Array.replicate l.toArray.size false) a (by simp) (by simpa using hB.2) h
  simpa using this
/-! ### All but a forced end -/
end
end Go.Proofs.YtnkencdibniagaaGreatDoor

/- Layer 5: digests as texts, in plain words. -/
namespace Go.Proofs.YtnkencdibniagaaGreatDoor

/-- A digit's byte. -/
def hexB (n : Nat) : UInt8 := if n < 10 then UInt8.ofNat (48 + n) else UInt8.ofNat (87 + n)
/-- A digit's value; 0 of what is none. -/
def valN (c : UInt8) : Nat := if 48 ≤ c.toNat ∧ c.toNat ≤ 57 then c.toNat - 48 else if 97 ≤ c.toNat ∧ c.toNat ≤ 102 then c.toNat - 87 else 0
/-- Is it a digit? -/
def isD (c : UInt8) : Bool := decide (48 ≤ c.toNat ∧ c.toNat ≤ 57) || decide (97 ≤ c.toNat ∧ c.toNat ≤ 102)
theorem valN_lt (c : UInt8) : valN c < 16 := by
  unfold valN
  split
  · omega
  · split <;> omega
theorem valN_none {c : UInt8} (h : isD c = false) : valN c = 0 := by
  unfold isD at h
  simp only [Bool.or_eq_false_iff, decide_eq_false_iff_not] at h
  unfold valN
  rw [if_neg h.1, if_neg h.2]
/-- The digits of bytes. -/
def hexL (l : List UInt8) : List UInt8 := l.flatMap fun b => [hexB (b.toNat / 16), hexB (b.toNat % 16)]
theorem hexL_length (l : List UInt8) : (hexL l).length = 2 * l.length := by
  induction l with
  | nil => rfl
  | cons a r ih => simp only [hexL, List.flatMap_cons, List.length_append, List.length_cons, List.length_nil] at ih ⊢; omega
theorem hexL_snoc (a : List UInt8) (b : UInt8) : hexL (a ++ [b]) = hexL a ++ [hexB (b.toNat / 16), hexB (b.toNat % 16)] := by simp [hexL]
def nameL : List UInt8 := [115, 104, 97, 50, 53, 54, 58]
/-- A digest's text. -/
def textL (l : List UInt8) : List UInt8 := nameL ++ hexL l
theorem textL_length (l : List UInt8) : (textL l).length = 7 + 2 * l.length := by
  unfold textL
  rw [List.length_append, hexL_length]; rfl
/-- Two digits as a byte. -/
def pairB (a b : UInt8) : UInt8 := UInt8.ofNat (16 * valN a + valN b)
/-- The bytes of digits. -/
def readD : List UInt8 → List UInt8
  | a :: b :: r => pairB a b :: readD r
  | _ => []
theorem readD_length : ∀ (n : Nat) (d : List UInt8), d.length = 2 * n → (readD d).length = n
  | 0, [], _ => rfl
  | n + 1, a :: b :: r, h => by
    rw [readD, List.length_cons, readD_length n r (by simp at h; omega)]
  | n + 1, [a], h => by simp at h; omega
/-- The i-th byte of digits. -/
theorem readD_getD : ∀ (d : List UInt8) (i : Nat), 2 * i + 1 < d.length → (readD d).getD i 0 = pairB (d.getD (2 * i) 0) (d.getD (2 * i + 1) 0)
  | a :: b :: r, 0, _ => rfl
  | a :: b :: r, i + 1, h => by
    rw [readD, List.getD_cons_succ, readD_getD r i (by simp at h; omega)]
    rw [show 2 * (i + 1) = 2 * i + 1 + 1 by omega, show 2 * i + 1 + 1 + 1 = 2 * i + 1 + 1 + 1 from rfl]
    simp only [List.getD_cons_succ]
  | [], _, h => by simp at h
  | [a], _, h => by simp at h

/-- Is a text a digest's? -/
def isText (s : List UInt8) : Bool := decide (s.take 7 = nameL) && (decide (s.length = 71) && (s.drop 7).all isD)
def zero32 : List UInt8 := List.replicate 32 0
/-- The digest of a text; zeros, if there is none. -/
def digL (s : List UInt8) : List UInt8 := if isText s = true then readD (s.drop 7) else zero32
def errL (s : List UInt8) : Int := if isText s = true then 0 else 10
theorem digL_length (s : List UInt8) : (digL s).length = 32 := by
  unfold digL
  split
  · rename_i h
    unfold isText at h
    simp only [Bool.and_eq_true, decide_eq_true_eq] at h
    exact readD_length 32 _ (by rw [List.length_drop]; omega)
  · rfl
/-! ### What is told so far, in the program's own parsing -/
/-- The row behind i digits. -/
def partD (d : List UInt8) (i : Nat) : List UInt8 := (List.range 32).map fun p => if 2 * p + 1 < i then pairB (d.getD (2 * p) 0) (d.getD (2 * p + 1) 0) else if 2 * p < i then UInt8.ofNat (valN (d.getD (2 * p) 0)) else 0
theorem partD_length (d : List UInt8) (i : Nat) : (partD d i).length = 32 := by simp [partD]
theorem partD_zero (d : List UInt8) : partD d 0 = zero32 := by
  unfold partD zero32
  rw [List.eq_replicate_iff]
  refine ⟨by simp, fun b hb => ?_⟩
  obtain ⟨p, _, rfl⟩ := List.mem_map.1 hb
  rw [if_neg (by omega), if_neg (by omega)]
theorem partD_getD (d : List UInt8) (i p : Nat) (h : p < 32) : (partD d i).getD p 0 = if 2 * p + 1 < i then pairB (d.getD (2 * p) 0) (d.getD (2 * p + 1) 0) else if 2 * p < i then UInt8.ofNat (valN (d.getD (2 * p) 0)) else 0 := by
  unfold partD
  rw [List.getD_eq_getElem?_getD, List.getElem?_map, List.getElem?_range h]
  rfl
theorem shl_or {x y : Nat} (h : y < 16) : (x * 16 % 256) ||| y = (x * 16 + y) % 256 := by
  have e : x * 16 % 256 = (x % 16) <<< 4 := by rw [Nat.shiftLeft_eq]; omega
  rw [e, ← Nat.shiftLeft_add_eq_or_of_lt (show y < 2 ^ 4 by omega), Nat.shiftLeft_eq]
  omega
theorem partD_set (d : List UInt8) {i : Nat} (h : i < 64) :
    (partD d i).set (i / 2) (UInt8.ofNat (((partD d i).getD (i / 2) 0).toNat * 16 % 256 ||| valN (d.getD i 0))) = partD d (i + 1) := by
  have hv := valN_lt (d.getD i 0)
  rw [shl_or hv]
  have hp : i / 2 < 32 := by omega
  refine List.ext_getElem? fun p => ?_
  by_cases hlt : p < 32
  · rw [List.getElem?_set, partD_length]
    by_cases e : i / 2 = p
    · rw [if_pos e, if_pos hp]
      have g := partD_getD d (i + 1) p hlt
      rw [List.getD_eq_getElem?_getD, List.getElem?_eq_getElem (by rw [partD_length]; exact hlt)] at g
      rw [List.getElem?_eq_getElem (by rw [partD_length]; exact hlt)]
      simp only [Option.getD_some] at g
      rw [g, partD_getD d i _ hp]
      congr 1
      rcases (show i = 2 * p ∨ i = 2 * p + 1 by omega) with hi | hi
      · rw [show i / 2 = p by omega, if_neg (show ¬ 2 * p + 1 < i by omega), if_neg (show ¬ 2 * p < i by omega), if_neg (by omega), if_pos (by omega), hi]
        rw [hi] at hv
        rw [show (0 : UInt8).toNat = 0 from rfl, Nat.zero_mul, Nat.zero_add, Nat.mod_eq_of_lt (by omega)]
      · have hv2 := valN_lt (d.getD (2 * p) 0)
        rw [show i / 2 = p by omega, if_neg (by omega), if_pos (by omega), if_pos (by omega), hi]
        unfold pairB
        rw [UInt8.toNat_ofNat_of_lt' (show _ < 256 by omega)]
        rw [hi] at hv
        congr 1
        omega
    · rw [if_neg e]
      unfold partD
      rw [List.getElem?_map, List.getElem?_map, List.getElem?_range hlt, Option.map_some, Option.map_some]
      congr 1
      by_cases h1 : 2 * p + 1 < i
      · rw [if_pos h1, if_pos (by omega)]
      · rw [if_neg h1, if_neg (show ¬ 2 * p < i by omega), if_neg (show ¬ 2 * p + 1 < i + 1 by omega), if_neg (show ¬ 2 * p < i + 1 by omega)]
  · rw [List.getElem?_eq_none (by rw [List.length_set, partD_length]; omega), List.getElem?_eq_none (by rw [partD_length]; omega)]
theorem partD_all {d : List UInt8} (h : d.length = 64) : partD d 64 = readD d := by
  refine List.ext_getElem? fun p => ?_
  have hl := readD_length 32 d h
  by_cases hp : p < 32
  · have g := readD_getD d p (by omega)
    rw [List.getD_eq_getElem?_getD, List.getElem?_eq_getElem (by omega)] at g
    rw [List.getElem?_eq_getElem (l := readD d) (by omega)]
    simp only [Option.getD_some] at g
    rw [g]
    unfold partD
    rw [List.getElem?_map, List.getElem?_range hp, Option.map_some, if_pos (by omega)]
  · rw [List.getElem?_eq_none (by rw [partD_length]; omega), List.getElem?_eq_none (by omega)]

/-! ### The document's own reading -/
/-! ### Which one stands ahead -/
end Go.Proofs.YtnkencdibniagaaGreatDoor

