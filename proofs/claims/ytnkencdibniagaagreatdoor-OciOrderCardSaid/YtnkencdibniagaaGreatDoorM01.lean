/- Merged: JsA, JsB, JsC. -/
import Derived.Lib.ValidLaws
import Derived.Lib.RuneBytes
/- Layer 11, plain: runes of a text, as UTF-8 has them: what is encoded is decoded, whatever stands behind it; of what is cut off nothing is. -/
namespace Go.Proofs.YtnkencdibniagaaGreatDoor
open Go.Lib

abbrev Bs := List UInt8
/-- A number that is a rune. -/
def scal (c : Nat) : Prop := c < 55296 ∨ (57344 ≤ c ∧ c ≤ 1114111)
instance (c : Nat) : Decidable (scal c) := by unfold scal; infer_instance

set_option maxHeartbeats 1000000 in
/-- What is encoded is decoded. -/
theorem dec_enc {c : Nat} (hc : scal c) (r : Bs) : decodeL (encodeRune (c : Int) ++ r) = (c, (encodeRune (c : Int)).length) := by
  unfold scal at hc
  rw [decodeL_N]
  unfold encodeRune
  by_cases h1 : c < 128
  · rw [encodeRuneZ_one (by omega) (by omega)]
    simp only [List.map_cons, List.map_nil, List.cons_append, List.nil_append, List.getD_cons_zero, List.length_cons, List.length_nil]
    unfold decodeN
    have e : ((c : Int).toNat.toUInt8).toNat = c := by simp; omega
    rw [e, if_pos h1]
  by_cases h2 : c < 2048
  · rw [encodeRuneZ_two (by omega) (by omega)]
    simp only [List.map_cons, List.map_nil, List.cons_append, List.nil_append, List.getD_cons_zero, List.getD_cons_succ, List.length_cons, List.length_nil]
    have e0 : ((192 + (c : Int) / 64).toNat.toUInt8).toNat = 192 + c / 64 := by simp; omega
    have e1 : ((128 + (c : Int) % 64).toNat.toUInt8).toNat = 128 + c % 64 := by simp; omega
    rw [e0, e1]
    unfold decodeN
    rw [if_neg (by omega), if_pos ⟨by omega, by omega, by omega⟩, if_pos (by omega)]
    congr 1; omega
  by_cases h3 : c < 65536
  · rw [encodeRuneZ_three (by omega)]
    simp only [List.map_cons, List.map_nil, List.cons_append, List.nil_append, List.getD_cons_zero, List.getD_cons_succ, List.length_cons, List.length_nil]
    have e0 : ((224 + (c : Int) / 4096).toNat.toUInt8).toNat = 224 + c / 4096 := by simp; omega
    have e1 : ((128 + (c : Int) / 64 % 64).toNat.toUInt8).toNat = 128 + c / 64 % 64 := by simp; omega
    have e2 : ((128 + (c : Int) % 64).toNat.toUInt8).toNat = 128 + c % 64 := by simp; omega
    rw [e0, e1, e2]
    unfold decodeN
    rw [if_neg (by omega), if_neg (by omega), if_pos ⟨by omega, ⟨by omega, by omega⟩, by omega, by omega⟩, if_pos (by omega)]
    congr 1; omega
  · rw [encodeRuneZ_four (by omega) (by omega)]
    simp only [List.map_cons, List.map_nil, List.cons_append, List.nil_append, List.getD_cons_zero, List.getD_cons_succ, List.length_cons, List.length_nil]
    have e0 : ((240 + (c : Int) / 262144).toNat.toUInt8).toNat = 240 + c / 262144 := by simp; omega
    have e1 : ((128 + (c : Int) / 4096 % 64).toNat.toUInt8).toNat = 128 + c / 4096 % 64 := by simp; omega
    have e2 : ((128 + (c : Int) / 64 % 64).toNat.toUInt8).toNat = 128 + c / 64 % 64 := by simp; omega
    have e3 : ((128 + (c : Int) % 64).toNat.toUInt8).toNat = 128 + c % 64 := by simp; omega
    rw [e0, e1, e2, e3]
    unfold decodeN
    rw [if_neg (by omega), if_neg (by omega), if_neg (by omega), if_pos ⟨by omega, ⟨by omega, by omega⟩, ⟨by omega, by omega⟩, by omega, by omega⟩, if_pos (by omega)]
    congr 1; omega
theorem enc_pos (c : Nat) : 1 ≤ (encodeRune (c : Int)).length := by
  have := encodeRuneZ_length (c : Int)
  unfold encodeRune
  rw [List.length_map]
  exact this.1
theorem enc_le (c : Nat) : (encodeRune (c : Int)).length ≤ 4 := by
  have := encodeRuneZ_length (c : Int)
  unfold encodeRune
  rw [List.length_map]
  exact this.2
theorem enc_ne (c : Nat) : encodeRune (c : Int) ≠ [] := fun h => by
  have := enc_pos c
  rw [h] at this
  exact absurd this (by decide)
theorem enc_ascii {c : Nat} (h : c < 128) : encodeRune (c : Int) = [UInt8.ofNat c] := by
  unfold encodeRune
  rw [encodeRuneZ_one (by omega) (by omega)]
  simp
theorem scal_decode (n b0 b1 b2 b3 : Nat) (k0 : b0 < 256) (k1 : b1 < 256) : scal (decodeN n b0 b1 b2 b3).1 := by
  unfold scal decodeN
  repeat' split
  all_goals omega
/-- What is decoded is a rune. -/
theorem scal_dec (l : Bs) : scal (decodeL l).1 := by
  rw [decodeL_N]
  exact scal_decode _ _ _ _ _ (UInt8.toNat_lt _) (UInt8.toNat_lt _)
/-- No rune stands at the head. -/
def noRune (l : Bs) : Prop := (decodeL l).1 = 65533 ∧ (decodeL l).2 = 1
instance (l : Bs) : Decidable (noRune l) := by unfold noRune; infer_instance
theorem dec_take {l : Bs} (hne : l ≠ []) (hv : ¬ noRune l) : l = encodeRune ((decodeL l).1 : Int) ++ l.drop (decodeL l).2 := by
  rw [encode_decode l hne hv, List.take_append_drop]
theorem enc_rune {c : Nat} (hc : scal c) (r : Bs) : ¬ noRune (encodeRune (c : Int) ++ r) := by
  unfold noRune
  rw [dec_enc hc]
  rintro ⟨h1, h2⟩
  simp only at h1 h2
  subst h1
  revert h2
  decide
/-- The bytes of runes. -/
def utfB : List Nat → Bs
  | [] => []
  | c :: l => encodeRune (c : Int) ++ utfB l
theorem utfB_append (a b : List Nat) : utfB (a ++ b) = utfB a ++ utfB b := by
  induction a with
  | nil => rfl
  | cons c l ih => simp [utfB, ih]
/-- Valid bytes are those of runes. -/
theorem valid_utf : ∀ (n : Nat) (t : Bs), t.length ≤ n → validD t = true → ∃ cs : List Nat, (∀ c ∈ cs, scal c) ∧ t = utfB cs
  | 0, t, hn, _ => ⟨[], by simp, by rw [List.eq_nil_of_length_eq_zero (Nat.le_zero.1 hn)]; rfl⟩
  | n + 1, t, hn, hv => by
    by_cases hne : t = []
    · exact ⟨[], by simp, by rw [hne]; rfl⟩
    · rw [validD_step t hne] at hv
      by_cases hr : noRune t
      · rw [if_pos (show _ ∧ _ from hr)] at hv; cases hv
      · rw [if_neg (show ¬ (_ ∧ _) from hr)] at hv
        have hw := decodeL_width t
        have hl : 0 < t.length := List.length_pos_iff.2 hne
        obtain ⟨cs, h1, h2⟩ := valid_utf n (t.drop (decodeL t).2) (by rw [List.length_drop]; omega) hv
        refine ⟨(decodeL t).1 :: cs, ?_, ?_⟩
        · intro c hc
          rcases List.mem_cons.1 hc with rfl | hc
          · exact scal_dec t
          · exact h1 c hc
        · rw [utfB, ← h2]
          exact dec_take hne hr
theorem utf_valid : ∀ cs : List Nat, (∀ c ∈ cs, scal c) → validD (utfB cs) = true
  | [], _ => rfl
  | c :: cs, h => by
    have hc := h c (by simp)
    have hne : utfB (c :: cs) ≠ [] := fun e => enc_ne c (List.append_eq_nil_iff.1 e).1
    rw [validD_step _ hne]
    have hr : ¬ noRune (utfB (c :: cs)) := enc_rune hc _
    unfold noRune at hr
    rw [if_neg hr]
    have e : (decodeL (utfB (c :: cs))).2 = (encodeRune (c : Int)).length := by
      show (decodeL (encodeRune (c : Int) ++ utfB cs)).2 = _
      rw [dec_enc hc]
    rw [e]
    show validD ((encodeRune (c : Int) ++ utfB cs).drop _) = true
    rw [List.drop_left]
    exact utf_valid cs (fun d hd => h d (by simp [hd]))
/-- The runes of bytes, one behind the other. -/
def runesF : Nat → Bs → List Nat
  | 0, _ => []
  | n + 1, l => if l = [] then [] else (decodeL l).1 :: runesF n (l.drop (decodeL l).2)
theorem runesF_utf : ∀ (cs : List Nat) (n : Nat), (∀ c ∈ cs, scal c) → (utfB cs).length ≤ n → runesF n (utfB cs) = cs
  | [], n, _, _ => by cases n <;> rfl
  | c :: cs, n, h, hn => by
    have hc := h c (by simp)
    have hp := enc_pos c
    have hne : utfB (c :: cs) ≠ [] := fun e => enc_ne c (List.append_eq_nil_iff.1 e).1
    have e : decodeL (utfB (c :: cs)) = (c, (encodeRune (c : Int)).length) := dec_enc hc _
    have hl : (utfB (c :: cs)).length = (encodeRune (c : Int)).length + (utfB cs).length := by simp [utfB]
    obtain ⟨m, rfl⟩ : ∃ m, n = m + 1 := ⟨n - 1, by omega⟩
    rw [runesF, if_neg hne, e]
    have e2 : (utfB (c :: cs)).drop (encodeRune (c : Int)).length = utfB cs := by
      show (encodeRune (c : Int) ++ utfB cs).drop _ = _
      rw [List.drop_left]
    show c :: runesF m ((utfB (c :: cs)).drop (encodeRune (c : Int)).length) = _
    rw [e2, runesF_utf cs m (fun d hd => h d (by simp [hd])) (by omega)]
def runesT (l : Bs) : List Nat := runesF l.length l
theorem runesT_utf {cs : List Nat} (h : ∀ c ∈ cs, scal c) : runesT (utfB cs) = cs := runesF_utf cs _ h (Nat.le_refl _)
end Go.Proofs.YtnkencdibniagaaGreatDoor

/- Layer 11, plain: what Parse reads and Print writes, as functions on bytes. What is read is told by what is left behind it; where it is wrong, by what stands from there on. -/
namespace Go.Proofs.YtnkencdibniagaaGreatDoor
open Go.Lib

/-- A value. -/
inductive JV where
  | mk (kind : Int) (text : Bs) (items : List JV) (keys : List Bs)
def JV.kind : JV → Int | .mk k _ _ _ => k
def JV.text : JV → Bs | .mk _ t _ _ => t
def JV.items : JV → List JV | .mk _ _ l _ => l
def JV.keys : JV → List Bs | .mk _ _ _ l => l
/-- What was read, and what is left; or which error, and what stands from where it is wrong on. -/
inductive Res (α : Type) where
  | ok (a : α) (r : Bs)
  | bad (code : Nat) (r : Bs)
def Res.map {α β : Type} (f : α → β) : Res α → Res β
  | .ok a r => .ok (f a) r
  | .bad k r => .bad k r

def isBl (c : UInt8) : Bool := c == 32 || c == 9 || c == 10 || c == 13
def dropB : Bs → Bs
  | [] => []
  | c :: l => if isBl c = true then dropB l else c :: l
def isDg (c : UInt8) : Bool := decide (48 ≤ c) && decide (c ≤ 57)
def dropD : Bs → Bs
  | [] => []
  | c :: l => if isDg c = true then dropD l else c :: l
/-- The next byte; 0 at the end. -/
def hd (l : Bs) : UInt8 := l.headD 0
theorem hd_cons (c : UInt8) (l : Bs) : hd (c :: l) = c := rfl
/-- A word. -/
def wordP : Bs → Bs → Res Unit
  | [], l => .ok () l
  | c :: w, l => if hd l = c then wordP w l.tail else .bad 10 l
/-- Digits, one at least. -/
def digP (l : Bs) : Res Unit := if (dropD l).length = l.length then .bad 10 l else .ok () (dropD l)
/-- An exponent, if there is one. -/
def expP (l : Bs) : Res Unit :=
  if hd l = 101 ∨ hd l = 69 then (if hd l.tail = 43 ∨ hd l.tail = 45 then digP l.tail.tail else digP l.tail) else .ok () l
/-- A point and digits, if there is one; and an exponent. -/
def fracP (l : Bs) : Res Unit :=
  if hd l = 46 then (match digP l.tail with | .bad k r => .bad k r | .ok _ r => expP r) else expP l
def intP (l : Bs) : Res Unit :=
  if hd l = 48 then fracP l.tail else (match digP l with | .bad k r => .bad k r | .ok _ r => fracP r)
def numP (l : Bs) : Res Unit := if hd l = 45 then intP l.tail else intP l
/-- A digit to the base 16. -/
def hexV (b : UInt8) : Option Nat :=
  if 48 ≤ b.toNat ∧ b.toNat ≤ 57 then some (b.toNat - 48) else if 97 ≤ b.toNat ∧ b.toNat ≤ 102 then some (b.toNat - 87) else if 65 ≤ b.toNat ∧ b.toNat ≤ 70 then some (b.toNat - 55) else none
def unitP : Nat → Nat → Bs → Res Nat
  | 0, c, l => .ok c l
  | k + 1, c, l => match hexV (hd l) with | some n => unitP k (c * 16 + n) l.tail | none => .bad 10 l
def isLo (c : Nat) : Bool := decide (56320 ≤ c) && decide (c < 57344)
def isHi (c : Nat) : Bool := decide (55296 ≤ c) && decide (c < 56320)
/-- The second one of two units. -/
def lowP (fr : Bs) (c : Nat) (r : Bs) : Res Nat :=
  if r = [] ∨ r = [92] then .bad 10 []
  else if hd r = 92 ∧ hd r.tail = 117 then
    (match unitP 4 0 r.tail.tail with
      | .bad k q => .bad k q
      | .ok lo q => if isLo lo = true then .ok (65536 + (c - 55296) * 1024 + lo - 56320) q else .bad 10 fr)
  else .bad 10 fr
def unitsP (fr l : Bs) : Res Nat :=
  match unitP 4 0 l with
  | .bad k r => .bad k r
  | .ok c r => if isLo c = true then .bad 10 fr else if isHi c = true then lowP fr c r else .ok c r
def unesc (b : UInt8) : Option Nat :=
  if b = 34 then some 34 else if b = 92 then some 92 else if b = 98 then some 8 else if b = 102 then some 12 else if b = 110 then some 10 else if b = 114 then some 13 else if b = 116 then some 9 else none
def escP (fr l : Bs) : Res Nat :=
  if hd l = 117 then unitsP fr l.tail else if hd l = 47 then .ok 47 l.tail
  else match unesc (hd l) with | some c => .ok c l.tail | none => .bad 10 l
/-- One rune of a string. -/
def oneP (l : Bs) : Res Nat :=
  if hd l = 92 then escP l l.tail
  else if l = [] ∨ noRune l ∨ (decodeL l).1 < 32 then .bad 10 l else .ok (decodeL l).1 (l.drop (decodeL l).2)
/-- The rest of a string, behind what was read of it. -/
def strP : Nat → Bs → Bs → Option (Res Bs)
  | 0, _, _ => none
  | n + 1, l, acc => if hd l = 34 then some (.ok acc l.tail) else match oneP l with
    | .bad k r => some (.bad k r)
    | .ok c r => strP n r (acc ++ encodeRune (c : Int))
def quoP (n : Nat) (l : Bs) : Option (Res Bs) := if hd l = 34 then strP n l.tail [] else some (.bad 10 l)
/-- Parts, with commas between, and a bracket at the end. -/
def partsP {α : Type} (e : UInt8) (step : α → Bs → Option (Res α)) : Nat → Bool → α → Bs → Option (Res α)
  | 0, _, _, _ => none
  | n + 1, first, acc, l =>
    if hd (dropB l) = e then some (.ok acc (dropB l).tail)
    else if first = true then (match step acc (dropB l) with | none => none | some (.bad k r) => some (.bad k r) | some (.ok a r) => partsP e step n false a r)
    else if hd (dropB l) = 44 then (match step acc (dropB l).tail with | none => none | some (.bad k r) => some (.bad k r) | some (.ok a r) => partsP e step n false a r)
    else some (.bad 10 (dropB l))
/-- A key, and what stands between it and its value. -/
def keyP (n : Nat) (seen : List Bs) (l : Bs) : Option (Res Bs) :=
  match quoP n (dropB l) with
  | none => none
  | some (.bad k r) => some (.bad k r)
  | some (.ok key r) => if key ∈ seen then some (.bad 10 (dropB l)) else if hd (dropB r) = 58 then some (.ok key (dropB r).tail) else some (.bad 10 (dropB r))
def stepL (val : Bs → Option (Res JV)) (acc : List JV) (l : Bs) : Option (Res (List JV)) :=
  match val l with
  | none => none
  | some (.bad k r) => some (.bad k r)
  | some (.ok x r) => some (.ok (acc ++ [x]) r)
def stepO (n : Nat) (val : Bs → Option (Res JV)) (acc : List (Bs × JV)) (l : Bs) : Option (Res (List (Bs × JV))) :=
  match keyP n (acc.map (·.1)) l with
  | none => none
  | some (.bad k r) => some (.bad k r)
  | some (.ok key r) => match val r with
    | none => none
    | some (.bad k r) => some (.bad k r)
    | some (.ok x r) => some (.ok (acc ++ [(key, x)]) r)
def mkL (acc : List JV) : JV := .mk 5 [] acc []
def mkO (acc : List (Bs × JV)) : JV := .mk 6 [] (acc.map (·.2)) (acc.map (·.1))
def mkN (l : Bs) : Res JV := match numP l with | .bad k r => .bad k r | .ok _ r => .ok (.mk 3 (l.take (l.length - r.length)) [] []) r
def mkW (k : Int) (w l : Bs) : Res JV := (wordP w l).map fun _ => .mk k [] [] []
def nullT : Bs := [110, 117, 108, 108]
def falseT : Bs := [102, 97, 108, 115, 101]
def trueT : Bs := [116, 114, 117, 101]
/-- A value, in so many lists and objects, by what stands first. -/
def valB (n lev : Nat) (val : Bs → Option (Res JV)) (l : Bs) : Option (Res JV) :=
  if hd l = 110 then some (mkW 0 nullT l)
  else if hd l = 102 then some (mkW 1 falseT l)
  else if hd l = 116 then some (mkW 2 trueT l)
  else if hd l = 34 then (quoP n l).map (Res.map fun t => .mk 4 t [] [])
  else if hd l = 91 then (if lev = 16 then some (.bad 11 l) else (partsP 93 (stepL val) n true [] l.tail).map (Res.map mkL))
  else if hd l = 123 then (if lev = 16 then some (.bad 11 l) else (partsP 125 (stepO n val) n true [] l.tail).map (Res.map mkO))
  else some (mkN l)
def valP : Nat → Nat → Bs → Option (Res JV)
  | 0, _, _ => none
  | n + 1, lev, l => valB n lev (valP n (lev + 1)) (dropB l)
def allP (n : Nat) (l : Bs) : Option (Res JV) :=
  match valP n 0 l with
  | none => none
  | some (.bad k r) => some (.bad k r)
  | some (.ok v r) => if dropB r = [] then some (.ok v []) else some (.bad 10 (dropB r))
/-! ### What is written -/
def hexd (n : Nat) : UInt8 := if n < 10 then UInt8.ofNat (48 + n) else UInt8.ofNat (87 + n)
def escR (c : Nat) : Option UInt8 :=
  if c = 34 then some 34 else if c = 92 then some 92 else if c = 8 then some 98 else if c = 12 then some 102 else if c = 10 then some 110 else if c = 13 then some 114 else if c = 9 then some 116 else none
def printedR (c : Nat) : Bs :=
  match escR c with
  | some b => [92, b]
  | none => if c < 16 then [92, 117, 48, 48, 48, hexd c] else if c < 32 then [92, 117, 48, 48, 49, hexd (c - 16)] else encodeRune (c : Int)
def quoR (cs : List Nat) : Bs := 34 :: (cs.flatMap printedR ++ [34])
def quoT (t : Bs) : Bs := quoR (runesT t)
def wordOf (k : Int) : Bs := if k = 0 then nullT else if k = 1 then falseT else trueT
/-- Parts with g around what stands between them. -/
def joinG (g : Bs) : List Bs → Bs
  | [] => []
  | [x] => x
  | x :: y :: l => x ++ (g ++ [44] ++ g) ++ joinG g (y :: l)
def pairG (g : Bs) (k x : Bs) : Bs := quoT k ++ (g ++ [58] ++ g) ++ x
mutual
/-- A value's text, with g around all that stands between its parts. -/
def prG (g : Bs) : JV → Bs
  | .mk k t items keys =>
    if k = 3 then t else if k = 4 then quoT t
    else if k = 5 then (g ++ [91] ++ g) ++ joinG g (prL g items) ++ (g ++ [93] ++ g)
    else if k = 6 then (g ++ [123] ++ g) ++ joinG g (List.zipWith (pairG g) keys (prL g items)) ++ (g ++ [125] ++ g)
    else wordOf k
def prL (g : Bs) : List JV → List Bs
  | [] => []
  | x :: l => prG g x :: prL g l
end
def isNum (t : Bs) : Prop := numP t = .ok () []
mutual
/-- May a value be, but for how deep it is? -/
def may : JV → Prop
  | .mk k t items keys =>
    mayL items ∧
    ((k = 0 ∨ k = 1 ∨ k = 2) ∧ t = [] ∧ items = [] ∧ keys = [] ∨ k = 3 ∧ isNum t ∧ items = [] ∧ keys = [] ∨ k = 4 ∧ validD t = true ∧ items = [] ∧ keys = [] ∨ k = 5 ∧ t = [] ∧ keys = []
      ∨ k = 6 ∧ t = [] ∧ keys.length = items.length ∧ (∀ x ∈ keys, validD x = true) ∧ keys.Nodup)
def mayL : List JV → Prop
  | [] => True
  | x :: l => may x ∧ mayL l
end
mutual
def deep : JV → Nat
  | .mk k _ items _ => if k = 5 ∨ k = 6 then deepL items + 1 else deepL items
def deepL : List JV → Nat
  | [] => 0
  | x :: l => max (deep x) (deepL l)
end
end Go.Proofs.YtnkencdibniagaaGreatDoor

/- Layer 11, plain: what is written is read as it was, with whatever blanks between its parts. -/
namespace Go.Proofs.YtnkencdibniagaaGreatDoor
open Go.Lib

/-- From some number on. -/
def Ev {α : Type} (f : Nat → Option (Res α)) (x : Res α) : Prop := ∃ n0, ∀ n, n0 ≤ n → f n = some x
def Ev2 {α : Type} (f : Nat → Nat → Option (Res α)) (x : Res α) : Prop := ∃ n0, ∀ n m, n0 ≤ n → n0 ≤ m → f n m = some x
def gap (g : Bs) : Prop := ∀ c ∈ g, isBl c = true
/-- No number goes on there. -/
def stopN (r : Bs) : Prop := isDg (hd r) = false ∧ hd r ≠ 46 ∧ hd r ≠ 101 ∧ hd r ≠ 69
instance (r : Bs) : Decidable (stopN r) := by unfold stopN; infer_instance
theorem dropB_gap {g : Bs} (hg : gap g) (l : Bs) : dropB (g ++ l) = dropB l := by
  induction g with
  | nil => rfl
  | cons c g ih =>
    have := hg c (by simp)
    rw [List.cons_append, dropB, if_pos this]
    exact ih (fun d hd => hg d (by simp [hd]))
theorem dropB_hd {l : Bs} (h : isBl (hd l) = false) : dropB l = l := by
  cases l with
  | nil => rfl
  | cons c l => rw [hd_cons] at h; rw [dropB, if_neg (by rw [h]; decide)]
theorem dropB_idem (l : Bs) : dropB (dropB l) = dropB l := by
  induction l with
  | nil => rfl
  | cons c l ih =>
    rw [dropB]
    split
    · exact ih
    · rename_i h
      rw [dropB, if_neg h]
theorem dropB_le (l : Bs) : (dropB l).length ≤ l.length := by
  induction l with
  | nil => exact Nat.le_refl _
  | cons c l ih => rw [dropB]; split <;> simp only [List.length_cons] <;> omega
theorem dropD_le (l : Bs) : (dropD l).length ≤ l.length := by
  induction l with
  | nil => exact Nat.le_refl _
  | cons c l ih => rw [dropD]; split <;> simp only [List.length_cons] <;> omega
theorem dropD_hd {l : Bs} (h : isDg (hd l) = false) : dropD l = l := by
  cases l with
  | nil => rfl
  | cons c l => rw [hd_cons] at h; rw [dropD, if_neg (by rw [h]; decide)]
theorem dropD_app (t : Bs) {r : Bs} (h : isDg (hd r) = false) : dropD (t ++ r) = dropD t ++ r := by
  induction t with
  | nil => exact dropD_hd h
  | cons c t ih =>
    rw [List.cons_append, dropD, dropD]
    split
    · exact ih
    · rfl
theorem dig_app {t x : Bs} {r : Bs} (h : isDg (hd r) = false) (hx : digP t = .ok () x) : digP (t ++ r) = .ok () (x ++ r) := by
  unfold digP at hx ⊢
  rw [dropD_app t h]
  split at hx
  · cases hx
  · rename_i hn
    rw [if_neg (by simp only [List.length_append]; omega)]
    rw [Res.ok.injEq] at hx
    rw [hx.2]
theorem hd_app {t : Bs} (h : t ≠ []) (r : Bs) : hd (t ++ r) = hd t := by
  cases t with
  | nil => exact absurd rfl h
  | cons c t => rfl
theorem tail_app {t : Bs} (h : t ≠ []) (r : Bs) : (t ++ r).tail = t.tail ++ r := by
  cases t with
  | nil => exact absurd rfl h
  | cons c t => rfl
theorem ne_hd {t : Bs} {c : UInt8} (h : hd t = c) (hc : c ≠ 0) : t ≠ [] := by
  rintro rfl
  exact hc h.symm
theorem dig_ne {t x : Bs} (h : digP t = .ok () x) : t ≠ [] := by
  rintro rfl
  cases h
theorem exp_app {t x r : Bs} (hr : stopN r) (hx : expP t = .ok () x) : expP (t ++ r) = .ok () (x ++ r) := by
  unfold expP at hx ⊢
  by_cases he : hd t = 101 ∨ hd t = 69
  · have hne : t ≠ [] := by rcases he with h | h <;> exact ne_hd h (by decide)
    rw [if_pos he] at hx
    rw [hd_app hne, if_pos he, tail_app hne]
    by_cases hs : hd t.tail = 43 ∨ hd t.tail = 45
    · have hne2 : t.tail ≠ [] := by rcases hs with h | h <;> exact ne_hd h (by decide)
      rw [if_pos hs] at hx
      rw [hd_app hne2, if_pos hs, tail_app hne2]
      exact dig_app hr.1 hx
    · rw [if_neg hs] at hx
      rw [hd_app (dig_ne hx), if_neg hs]
      exact dig_app hr.1 hx
  · rw [if_neg he] at hx
    rw [Res.ok.injEq] at hx
    rw [if_neg, hx.2]
    by_cases hne : t = []
    · subst hne
      exact fun h => h.elim hr.2.2.1 hr.2.2.2
    · rw [hd_app hne]; exact he
theorem frac_app {t x r : Bs} (hr : stopN r) (hx : fracP t = .ok () x) : fracP (t ++ r) = .ok () (x ++ r) := by
  unfold fracP at hx ⊢
  by_cases he : hd t = 46
  · have hne : t ≠ [] := ne_hd he (by decide)
    rw [if_pos he] at hx
    rw [hd_app hne, if_pos he, tail_app hne]
    cases hd2 : digP t.tail with
    | bad k q => rw [hd2] at hx; cases hx
    | ok a q =>
      rw [hd2] at hx
      rw [dig_app hr.1 hd2]
      exact exp_app hr hx
  · rw [if_neg he] at hx
    rw [if_neg]
    · exact exp_app hr hx
    · by_cases hne : t = []
      · subst hne; exact hr.2.1
      · rw [hd_app hne]; exact he
theorem int_ne {t x : Bs} (h : intP t = .ok () x) : t ≠ [] := by
  rintro rfl
  cases h
theorem int_app {t x r : Bs} (hr : stopN r) (hx : intP t = .ok () x) : intP (t ++ r) = .ok () (x ++ r) := by
  have hne := int_ne hx
  unfold intP at hx ⊢
  rw [hd_app hne, tail_app hne]
  by_cases he : hd t = 48
  · rw [if_pos he] at hx ⊢
    exact frac_app hr hx
  · rw [if_neg he] at hx ⊢
    cases hd2 : digP t with
    | bad k q => rw [hd2] at hx; cases hx
    | ok a q =>
      rw [hd2] at hx
      rw [dig_app hr.1 hd2]
      exact frac_app hr hx
theorem num_ne {t x : Bs} (h : numP t = .ok () x) : t ≠ [] := by
  rintro rfl
  cases h
theorem num_app {t x r : Bs} (hr : stopN r) (hx : numP t = .ok () x) : numP (t ++ r) = .ok () (x ++ r) := by
  have hne := num_ne hx
  unfold numP at hx ⊢
  rw [hd_app hne, tail_app hne]
  split
  · rename_i he
    rw [if_pos he] at hx
    exact int_app hr hx
  · rename_i he
    rw [if_neg he] at hx
    exact int_app hr hx
/-- What begins a number. -/
theorem dig_hd {t x : Bs} (h : digP t = .ok () x) : isDg (hd t) = true := by
  cases t with
  | nil => cases h
  | cons c t =>
    rw [hd_cons]
    unfold digP at h
    rw [dropD] at h
    by_cases hc : isDg c = true
    · exact hc
    · rw [if_neg hc, if_pos rfl] at h; cases h
theorem int_hd {t x : Bs} (h : intP t = .ok () x) : isDg (hd t) = true := by
  unfold intP at h
  by_cases he : hd t = 48
  · rw [he]; decide
  · rw [if_neg he] at h
    cases hd2 : digP t with
    | bad k q => rw [hd2] at h; cases h
    | ok a q => exact dig_hd hd2
theorem num_hd {t x : Bs} (h : numP t = .ok () x) : hd t = 45 ∨ isDg (hd t) = true := by
  unfold numP at h
  by_cases he : hd t = 45
  · exact .inl he
  · rw [if_neg he] at h
    exact .inr (int_hd h)
theorem word_app (w r : Bs) : wordP w (w ++ r) = .ok () r := by
  induction w with
  | nil => rfl
  | cons c w ih =>
    rw [List.cons_append, wordP, if_pos (hd_cons ..)]
    exact ih
/-! ### Strings -/
theorem hd_enc_ascii {c : Nat} (h : c < 128) (r : Bs) : hd (encodeRune (c : Int) ++ r) = UInt8.ofNat c := by
  rw [enc_ascii h]; rfl
set_option maxHeartbeats 1000000 in
theorem hd_enc_big {c : Nat} (hc : scal c) (h : 128 ≤ c) (r : Bs) : 128 ≤ (hd (encodeRune (c : Int) ++ r)).toNat := by
  unfold scal at hc
  unfold encodeRune
  by_cases h2 : c < 2048
  · rw [encodeRuneZ_two (by omega) (by omega)]
    simp only [List.map_cons, List.cons_append, hd_cons]
    have e0 : ((192 + (c : Int) / 64).toNat.toUInt8).toNat = 192 + c / 64 := by simp; omega
    omega
  by_cases h3 : c < 65536
  · rw [encodeRuneZ_three (by omega)]
    simp only [List.map_cons, List.cons_append, hd_cons]
    have e0 : ((224 + (c : Int) / 4096).toNat.toUInt8).toNat = 224 + c / 4096 := by simp; omega
    omega
  · rw [encodeRuneZ_four (by omega) (by omega)]
    simp only [List.map_cons, List.cons_append, hd_cons]
    have e0 : ((240 + (c : Int) / 262144).toNat.toUInt8).toNat = 240 + c / 262144 := by simp; omega
    omega
theorem hd_enc_ne {c : Nat} (hc : scal c) (k : Nat) (hk : k < 128) (h : c ≠ k) (r : Bs) : hd (encodeRune (c : Int) ++ r) ≠ UInt8.ofNat k := by
  intro e
  by_cases h1 : c < 128
  · rw [hd_enc_ascii h1] at e
    have := congrArg UInt8.toNat e
    simp at this
    omega
  · have := hd_enc_big hc (by omega) r
    rw [e] at this
    simp at this
    omega
theorem hex16 : ∀ k : Fin 16, hexV (hexd k.val) = some k.val := by decide
theorem esc_all : ∀ c : Fin 128, ∀ b, escR c.val = some b → unesc b = some c.val ∧ b ≠ 117 ∧ b ≠ 47 := by decide
theorem escR_lt {c : Nat} {b : UInt8} (h : escR c = some b) : c < 128 := by
  unfold escR at h
  repeat' split at h
  all_goals first | omega | cases h
theorem units_small {fr r : Bs} {a b c d : UInt8} {w x y z : Nat} (ha : hexV a = some w) (hb : hexV b = some x) (hc : hexV c = some y) (hd4 : hexV d = some z) (hs : ((w * 16 + x) * 16 + y) * 16 + z < 55296) :
    unitsP fr (a :: b :: c :: d :: r) = .ok (((w * 16 + x) * 16 + y) * 16 + z) r := by
  unfold unitsP
  simp only [unitP, hd_cons, ha, hb, hc, hd4, List.tail_cons]
  have h1 : isLo (((0 * 16 + w) * 16 + x) * 16 + y * 1) = isLo (((0 * 16 + w) * 16 + x) * 16 + y * 1) := rfl
  have e : (((0 * 16 + w) * 16 + x) * 16 + y) * 16 + z = ((w * 16 + x) * 16 + y) * 16 + z := by omega
  rw [e]
  have l1 : isLo (((w * 16 + x) * 16 + y) * 16 + z) = false := by unfold isLo; simp; omega
  have l2 : isHi (((w * 16 + x) * 16 + y) * 16 + z) = false := by unfold isHi; simp; omega
  rw [l1, l2]
  rfl
/-- A rune that is written is read. -/
theorem one_printed {c : Nat} (hc : scal c) (r : Bs) : oneP (printedR c ++ r) = .ok c r := by
  unfold printedR
  cases he : escR c with
  | some b =>
    have hlt := escR_lt he
    obtain ⟨h1, h2, h3⟩ := esc_all ⟨c, hlt⟩ b he
    show oneP (92 :: b :: r) = _
    unfold oneP
    rw [if_pos (hd_cons ..)]
    show escP _ (b :: r) = _
    unfold escP
    rw [hd_cons, if_neg h2, if_neg h3, h1]
    rfl
  | none =>
    by_cases h16 : c < 16
    · simp only [if_pos h16]
      have hx := hex16 ⟨c, h16⟩
      show oneP (92 :: 117 :: 48 :: 48 :: 48 :: hexd c :: r) = _
      unfold oneP
      rw [if_pos (hd_cons ..)]
      show escP _ (117 :: 48 :: 48 :: 48 :: hexd c :: r) = _
      unfold escP
      rw [if_pos (hd_cons ..)]
      show unitsP _ (48 :: 48 :: 48 :: hexd c :: r) = _
      rw [units_small (w := 0) (x := 0) (y := 0) (z := c) (by decide) (by decide) (by decide) hx (by omega)]
      congr 1; omega
    by_cases h32 : c < 32
    · simp only [if_neg h16, if_pos h32]
      have hx := hex16 ⟨c - 16, by omega⟩
      show oneP (92 :: 117 :: 48 :: 48 :: 49 :: hexd (c - 16) :: r) = _
      unfold oneP
      rw [if_pos (hd_cons ..)]
      show escP _ (117 :: 48 :: 48 :: 49 :: hexd (c - 16) :: r) = _
      unfold escP
      rw [if_pos (hd_cons ..)]
      show unitsP _ (48 :: 48 :: 49 :: hexd (c - 16) :: r) = _
      rw [units_small (w := 0) (x := 0) (y := 1) (z := c - 16) (by decide) (by decide) (by decide) hx (by omega)]
      congr 1; omega
    · simp only [if_neg h16, if_neg h32]
      unfold oneP
      have h92 : c ≠ 92 := by
        rintro rfl
        exact absurd he (by decide)
      rw [if_neg (show ¬ hd _ = 92 from hd_enc_ne hc 92 (by omega) h92 r)]
      have hne : encodeRune (c : Int) ++ r ≠ [] := fun e => enc_ne c (List.append_eq_nil_iff.1 e).1
      have hnr := enc_rune hc r
      rw [if_neg (by rintro (h | h | h); exact hne h; exact hnr h; rw [dec_enc hc] at h; exact h32 h), dec_enc hc, List.drop_left]
theorem printed_hd {c : Nat} (hc : scal c) (r : Bs) : hd (printedR c ++ r) ≠ 34 := by
  unfold printedR
  cases he : escR c with
  | some b => exact fun h => absurd h (show (92 : UInt8) ≠ 34 by decide)
  | none =>
    simp only
    split
    · exact fun h => absurd h (show (92 : UInt8) ≠ 34 by decide)
    split
    · exact fun h => absurd h (show (92 : UInt8) ≠ 34 by decide)
    · refine hd_enc_ne hc 34 (by omega) ?_ r
      rintro rfl
      exact absurd he (by decide)
theorem str_rt : ∀ (cs : List Nat) (n : Nat) (acc r : Bs), (∀ c ∈ cs, scal c) → cs.length < n → strP n (cs.flatMap printedR ++ 34 :: r) acc = some (.ok (acc ++ utfB cs) r)
  | [], n, acc, r, _, hn => by
    obtain ⟨m, rfl⟩ : ∃ m, n = m + 1 := ⟨n - 1, by simp at hn; omega⟩
    show strP (m + 1) (34 :: r) acc = _
    rw [strP, if_pos (hd_cons ..)]
    simp [utfB]
  | c :: cs, n, acc, r, h, hn => by
    obtain ⟨m, rfl⟩ : ∃ m, n = m + 1 := ⟨n - 1, by simp at hn; omega⟩
    have hc := h c (by simp)
    rw [List.flatMap_cons, List.append_assoc, strP, if_neg (printed_hd hc _), one_printed hc]
    show strP m _ _ = _
    rw [str_rt cs m _ r (fun d hd => h d (by simp [hd])) (by simp at hn; omega), utfB, List.append_assoc]
theorem quo_rt {t : Bs} (ht : validD t = true) (r : Bs) : Ev (fun n => quoP n (quoT t ++ r)) (.ok t r) := by
  obtain ⟨cs, h1, rfl⟩ := valid_utf t.length t (Nat.le_refl _) ht
  refine ⟨cs.length + 1, fun n hn => ?_⟩
  unfold quoT quoR
  rw [runesT_utf h1]
  show quoP n (34 :: (cs.flatMap printedR ++ [34] ++ r)) = _
  unfold quoP
  rw [if_pos (hd_cons ..), List.tail_cons, List.append_assoc]
  have := str_rt cs n [] r h1 (by omega)
  simpa using this
theorem quo_hd (t r : Bs) : hd (quoT t ++ r) = 34 := rfl
/-! ### Values -/
theorem stop_gap {g : Bs} (hg : gap g) {r : Bs} (hr : stopN r) : stopN (g ++ r) := by
  cases g with
  | nil => exact hr
  | cons c g =>
    have := hg c (by simp)
    unfold stopN
    rw [List.cons_append, hd_cons]
    unfold isBl at this
    simp only [Bool.or_eq_true, beq_iff_eq] at this
    rcases this with ((h | h) | h) | h <;> subst h <;> decide
theorem stop_cons {c : UInt8} (h : stopN [c]) (r : Bs) : stopN (c :: r) := h
/-- What stands behind a part: another one, or the end. -/
def sepG (g : Bs) (l : List Bs) : Bs := l.flatMap fun x => (g ++ [44] ++ g) ++ x
theorem joinG_cons (g x : Bs) (l : List Bs) : joinG g (x :: l) = x ++ sepG g l := by
  induction l generalizing x with
  | nil => simp [joinG, sepG]
  | cons y l ih =>
    rw [joinG, ih]
    simp [sepG]
theorem dropB_cons {c : UInt8} (h : isBl c = false) (l : Bs) : dropB (c :: l) = c :: l := dropB_hd h
/-- The parts of a list that is written are read. -/
theorem parts_rt {α β : Type} {g : Bs} (hg : gap g) {e : UInt8} (he : e = 93 ∨ e = 125) (step : Nat → α → Bs → Option (Res α)) (tx : β → Bs) (put : α → β → α) (rest : Bs)
    (good : List β → α → Prop) (hgood : ∀ x l a, good (x :: l) a → good l (put a x))
    (hstep : ∀ x l a, good (x :: l) a → ∀ r, stopN r → ∃ q n0, (∀ n U, n0 ≤ n → dropB U = dropB (tx x ++ r) → step n a U = some (.ok (put a x) q)) ∧ dropB q = dropB r) (hhd : ∀ x l a, good (x :: l) a → ∀ r, hd (dropB (tx x ++ r)) ≠ e) :
    ∀ (l : List β) (a : α) (T : Bs) (first : Bool), good l a → (first = false → dropB T = dropB (sepG g (l.map tx) ++ (g ++ [e] ++ g) ++ rest)) →
      (first = true → dropB T = dropB (g ++ joinG g (l.map tx) ++ (g ++ [e] ++ g) ++ rest)) →
      Ev2 (fun n m => partsP e (step n) m first a T) (.ok (l.foldl put a) (g ++ rest)) := by
  have hE : ∀ r, stopN (g ++ [e] ++ r) := by
    intro r
    rw [List.append_assoc]
    refine stop_gap hg (stop_cons ?_ _)
    rcases he with rfl | rfl <;> decide
  have hEb : isBl e = false := by rcases he with rfl | rfl <;> decide
  have hE0 : e ≠ 44 := by rcases he with rfl | rfl <;> decide
  have hS : ∀ (l : List β) (r : Bs), stopN (sepG g (l.map tx) ++ (g ++ [e] ++ g) ++ r) := by
    intro l r
    cases l with
    | nil => rw [List.map_nil]; show stopN ([] ++ (g ++ [e] ++ g) ++ r); rw [List.nil_append, List.append_assoc]; exact hE _
    | cons y l =>
      simp only [sepG, List.map_cons, List.flatMap_cons, List.append_assoc]
      exact stop_gap hg (stop_cons (by decide) _)
  intro l
  induction l with
  | nil =>
    intro a T first _ h1 h2
    have hT : dropB T = e :: (g ++ rest) := by
      have : dropB T = dropB (g ++ ([e] ++ (g ++ rest))) := by
        cases first with
        | false => rw [h1 rfl]; simp [sepG]
        | true => rw [h2 rfl]; simp [joinG, dropB_gap hg]
      rw [this, dropB_gap hg, List.singleton_append, dropB_cons hEb]
    refine ⟨1, fun n m _ hm => ?_⟩
    obtain ⟨k, rfl⟩ : ∃ k, m = k + 1 := ⟨m - 1, by omega⟩
    simp only [partsP]
    rw [hT, hd_cons, if_pos rfl]
    rfl
  | cons x l ih =>
    intro a T first hga h1 h2
    obtain ⟨q, n0, hq1, hq2⟩ := hstep x l a hga (sepG g (l.map tx) ++ (g ++ [e] ++ g) ++ rest) (hS l rest)
    obtain ⟨n1, hn1⟩ := ih (put a x) q false (hgood _ _ _ hga) (fun _ => hq2) (fun h => by cases h)
    refine ⟨n0 + n1 + 1, fun n m hn hm => ?_⟩
    obtain ⟨k, rfl⟩ : ∃ k, m = k + 1 := ⟨m - 1, by omega⟩
    have hs := fun U => hq1 n U (by omega)
    have hrec := hn1 n k (by omega) (by omega)
    simp only [partsP]
    cases first with
    | false =>
      have hT : dropB T = 44 :: (g ++ tx x ++ (sepG g (l.map tx) ++ (g ++ [e] ++ g) ++ rest)) := by
        rw [h1 rfl]
        simp only [sepG, List.map_cons, List.flatMap_cons, List.append_assoc]
        rw [dropB_gap hg, List.cons_append, List.nil_append, dropB_cons (by decide)]
      rw [hT, hd_cons, if_neg (fun h => hE0 h.symm), if_neg (by decide), if_pos rfl, List.tail_cons, hs _ (by rw [List.append_assoc, dropB_gap hg])]
      exact hrec
    | true =>
      have hT : dropB T = dropB (g ++ tx x ++ (sepG g (l.map tx) ++ (g ++ [e] ++ g) ++ rest)) := by
        rw [h2 rfl, List.map_cons, joinG_cons]
        simp only [List.append_assoc]
      have hTe : hd (dropB T) ≠ e := by
        rw [hT, List.append_assoc, dropB_gap hg]
        exact hhd _ _ _ hga _
      rw [if_neg hTe, if_pos rfl, hT, hs _ (by rw [dropB_idem, List.append_assoc, dropB_gap hg])]
      exact hrec

theorem bl_ne {c : UInt8} (h : isBl c = true) : c = 32 ∨ c = 9 ∨ c = 10 ∨ c = 13 := by
  unfold isBl at h
  simp only [Bool.or_eq_true, beq_iff_eq] at h
  rcases h with ((h | h) | h) | h
  · exact .inl h
  · exact .inr (.inl h)
  · exact .inr (.inr (.inl h))
  · exact .inr (.inr (.inr h))
theorem dg_nbl {c : UInt8} (h : isDg c = true) : isBl c = false := by
  cases hb : isBl c with
  | false => rfl
  | true => rcases bl_ne hb with rfl | rfl | rfl | rfl <;> exact absurd h (by decide)
theorem num_start {t x : Bs} (h : numP t = .ok () x) (r : Bs) : isBl (hd (t ++ r)) = false ∧ hd (t ++ r) ≠ 110 ∧ hd (t ++ r) ≠ 102 ∧ hd (t ++ r) ≠ 116 ∧ hd (t ++ r) ≠ 34 ∧ hd (t ++ r) ≠ 91 ∧ hd (t ++ r) ≠ 123 ∧ hd (t ++ r) ≠ 93 ∧ hd (t ++ r) ≠ 125 := by
  rw [hd_app (num_ne h)]
  rcases num_hd h with h | h
  · rw [h]; decide
  · refine ⟨dg_nbl h, ?_, ?_, ?_, ?_, ?_, ?_, ?_, ?_⟩ <;> (intro e; rw [e] at h; exact absurd h (by decide))
theorem may_num {t : Bs} {items : List JV} {keys : List Bs} (h : may (.mk 3 t items keys)) : isNum t ∧ items = [] ∧ keys = [] := by
  rw [may] at h
  rcases h.2 with h | h | h | h | h
  · rcases h.1 with h | h | h <;> exact absurd h (by decide)
  · exact ⟨h.2.1, h.2.2.1, h.2.2.2⟩
  · exact absurd h.1 (by decide)
  · exact absurd h.1 (by decide)
  · exact absurd h.1 (by decide)
theorem may_str {t : Bs} {items : List JV} {keys : List Bs} (h : may (.mk 4 t items keys)) : validD t = true ∧ items = [] ∧ keys = [] := by
  rw [may] at h
  rcases h.2 with h | h | h | h | h
  · rcases h.1 with h | h | h <;> exact absurd h (by decide)
  · exact absurd h.1 (by decide)
  · exact ⟨h.2.1, h.2.2.1, h.2.2.2⟩
  · exact absurd h.1 (by decide)
  · exact absurd h.1 (by decide)
theorem may_list {t : Bs} {items : List JV} {keys : List Bs} (h : may (.mk 5 t items keys)) : mayL items ∧ t = [] ∧ keys = [] := by
  rw [may] at h
  rcases h.2 with h' | h' | h' | h' | h'
  · rcases h'.1 with h | h | h <;> exact absurd h (by decide)
  · exact absurd h'.1 (by decide)
  · exact absurd h'.1 (by decide)
  · exact ⟨h.1, h'.2.1, h'.2.2⟩
  · exact absurd h'.1 (by decide)
theorem may_obj {t : Bs} {items : List JV} {keys : List Bs} (h : may (.mk 6 t items keys)) : mayL items ∧ t = [] ∧ keys.length = items.length ∧ (∀ x ∈ keys, validD x = true) ∧ keys.Nodup := by
  rw [may] at h
  rcases h.2 with h' | h' | h' | h' | h'
  · rcases h'.1 with h | h | h <;> exact absurd h (by decide)
  · exact absurd h'.1 (by decide)
  · exact absurd h'.1 (by decide)
  · exact absurd h'.1 (by decide)
  · exact ⟨h.1, h'.2⟩
theorem may_word {k : Int} {t : Bs} {items : List JV} {keys : List Bs} (h : may (.mk k t items keys)) (h3 : k ≠ 3) (h4 : k ≠ 4) (h5 : k ≠ 5) (h6 : k ≠ 6) : (k = 0 ∨ k = 1 ∨ k = 2) ∧ t = [] ∧ items = [] ∧ keys = [] := by
  rw [may] at h
  rcases h.2 with h' | h' | h' | h' | h'
  · exact h'
  · exact absurd h'.1 h3
  · exact absurd h'.1 h4
  · exact absurd h'.1 h5
  · exact absurd h'.1 h6
theorem mayL_mem : ∀ {l : List JV}, mayL l → ∀ x ∈ l, may x
  | [], _, x, hx => by cases hx
  | y :: l, h, x, hx => by
    rw [mayL] at h
    rcases List.mem_cons.1 hx with rfl | hx
    · exact h.1
    · exact mayL_mem h.2 x hx
theorem deepL_mem : ∀ {l : List JV} {x : JV}, x ∈ l → deep x ≤ deepL l
  | y :: l, x, hx => by
    rw [deepL]
    rcases List.mem_cons.1 hx with rfl | hx
    · exact Nat.le_max_left ..
    · exact Nat.le_trans (deepL_mem hx) (Nat.le_max_right ..)
theorem prL_map (g : Bs) : ∀ l : List JV, prL g l = l.map (prG g)
  | [] => by rw [prL]; rfl
  | x :: l => by rw [prL, prL_map g l]; rfl
/-- What begins a value, behind blanks. -/
theorem pr_start {g : Bs} (hg : gap g) {v : JV} (h : may v) (r : Bs) : hd (dropB (prG g v ++ r)) ≠ 93 ∧ hd (dropB (prG g v ++ r)) ≠ 125 := by
  obtain ⟨k, t, items, keys⟩ := v
  rw [prG]
  by_cases h3 : k = 3
  · subst h3
    obtain ⟨hn, _, _⟩ := may_num h
    obtain ⟨a, _, _, _, _, _, _, b, c⟩ := num_start hn r
    rw [if_pos rfl, dropB_hd a]
    exact ⟨b, c⟩
  by_cases h4 : k = 4
  · subst h4
    rw [if_neg (by decide), if_pos rfl, dropB_hd (by rw [quo_hd]; decide), quo_hd]
    decide
  by_cases h5 : k = 5
  · subst h5
    rw [if_neg (by decide), if_neg (by decide), if_pos rfl]
    simp only [List.append_assoc]
    rw [dropB_gap hg, List.singleton_append, dropB_cons (by decide)]
    simp only [hd_cons]; decide
  by_cases h6 : k = 6
  · subst h6
    rw [if_neg (by decide), if_neg (by decide), if_neg (by decide), if_pos rfl]
    simp only [List.append_assoc]
    rw [dropB_gap hg, List.singleton_append, dropB_cons (by decide)]
    simp only [hd_cons]; decide
  · rw [if_neg h3, if_neg h4, if_neg h5, if_neg h6]
    rcases (may_word h h3 h4 h5 h6).1 with rfl | rfl | rfl
    · show hd (dropB (110 :: ([117, 108, 108] ++ r))) ≠ 93 ∧ hd (dropB (110 :: ([117, 108, 108] ++ r))) ≠ 125
      rw [dropB_cons (by decide)]; simp only [hd_cons]; decide
    · show hd (dropB (102 :: ([97, 108, 115, 101] ++ r))) ≠ 93 ∧ hd (dropB (102 :: ([97, 108, 115, 101] ++ r))) ≠ 125
      rw [dropB_cons (by decide)]; simp only [hd_cons]; decide
    · show hd (dropB (116 :: ([114, 117, 101] ++ r))) ≠ 93 ∧ hd (dropB (116 :: ([114, 117, 101] ++ r))) ≠ 125
      rw [dropB_cons (by decide)]; simp only [hd_cons]; decide
theorem nd_snoc : ∀ {l : List Bs} {x : Bs} {r : List Bs}, (l ++ x :: r).Nodup → x ∉ l := by
  intro l x r h hx
  rw [List.nodup_append] at h
  exact h.2.2 x hx x (by simp) rfl
/-- A key and its value, as they are written, are read. -/
theorem key_rt {g : Bs} (hg : gap g) {k : Bs} (hk : validD k = true) : ∃ n0, ∀ n U (r : Bs) (seen : List Bs), n0 ≤ n → dropB U = quoT k ++ (g ++ [58] ++ g) ++ r → k ∉ seen → keyP n seen U = some (.ok k (g ++ r)) := by
  obtain ⟨cs, h1, rfl⟩ := valid_utf k.length k (Nat.le_refl _) hk
  refine ⟨cs.length + 1, fun n U r seen hn hU hs => ?_⟩
  unfold keyP
  rw [hU]
  have hq : quoP n (quoT (utfB cs) ++ (g ++ [58] ++ g) ++ r) = some (.ok (utfB cs) ((g ++ [58] ++ g) ++ r)) := by
    unfold quoT quoR
    rw [runesT_utf h1]
    show quoP n (34 :: (cs.flatMap printedR ++ [34] ++ (g ++ [58] ++ g) ++ r)) = _
    unfold quoP
    rw [if_pos (hd_cons ..), List.tail_cons]
    have := str_rt cs n [] ((g ++ [58] ++ g) ++ r) h1 (by omega)
    simpa using this
  rw [hq]
  show (if utfB cs ∈ seen then _ else _) = _
  have e : dropB ((g ++ [58] ++ g) ++ r) = 58 :: (g ++ r) := by
    simp only [List.append_assoc]
    rw [dropB_gap hg, List.singleton_append, dropB_cons (by decide)]
  rw [if_neg hs, e, hd_cons, if_pos rfl, List.tail_cons]
theorem valP_drop (n lev : Nat) {a b : Bs} (h : dropB a = dropB b) : valP n lev a = valP n lev b := by
  cases n with
  | zero => rfl
  | succ n => rw [valP, valP, h]
theorem ev_map {α β : Type} (f : α → β) {x : Nat → Option (Res α)} {a : α} {r : Bs} (h : Ev x (.ok a r)) : Ev (fun n => (x n).map (Res.map f)) (.ok (f a) r) := by
  obtain ⟨n0, h⟩ := h
  exact ⟨n0, fun n hn => by show (x n).map _ = _; rw [h n hn]; rfl⟩
theorem foldl_snoc {β : Type} (l : List β) (a : List β) : l.foldl (fun a x => a ++ [x]) a = a ++ l := by
  induction l generalizing a with
  | nil => simp
  | cons x l ih => rw [List.foldl_cons, ih]; simp
theorem ev_val {f : Nat → Option (Res JV)} {lev : Nat} {l : Bs} {x : Res JV} (h : ∀ n, valP (n + 1) lev l = f n) (he : Ev f x) : Ev (fun n => valP n lev l) x := by
  obtain ⟨n0, he⟩ := he
  refine ⟨n0 + 1, fun n hn => ?_⟩
  obtain ⟨m, rfl⟩ : ∃ m, n = m + 1 := ⟨n - 1, by omega⟩
  show valP (m + 1) lev l = _
  rw [h, he m (by omega)]
theorem zip_back {g : Bs} : ∀ (keys : List Bs) (items : List JV), keys.length = items.length → List.zipWith (pairG g) keys (prL g items) = (keys.zip items).map fun p => pairG g p.1 (prG g p.2)
  | [], [], _ => by simp
  | k :: keys, x :: items, h => by
    rw [prL, List.zipWith_cons_cons, zip_back keys items (by simpa using h)]
    rfl
/-- THE ROUND TRIP. -/
theorem val_rt {g : Bs} (hg : gap g) : ∀ (d : Nat) (v : JV), SizeOf.sizeOf v ≤ d → may v → ∀ lev, lev + deep v ≤ 16 → ∀ r, stopN r → ∃ q, Ev (fun n => valP n lev (prG g v ++ r)) (.ok v q) ∧ dropB q = dropB r := by
  intro d
  induction d with
  | zero =>
    intro v hd
    obtain ⟨k, t, items, keys⟩ := v
    simp at hd
  | succ d ih =>
    intro v hs hv lev hlev r hr
    obtain ⟨k, t, items, keys⟩ := v
    have hsub : ∀ x ∈ items, SizeOf.sizeOf x ≤ d := by
      intro x hx
      have := List.sizeOf_lt_of_mem hx
      simp at hs
      omega
    rw [prG]
    by_cases h3 : k = 3
    · subst h3
      obtain ⟨hn, rfl, rfl⟩ := may_num hv
      obtain ⟨a, b1, b2, b3, b4, b5, b6, _, _⟩ := num_start hn r
      refine ⟨r, ev_val (f := fun _ => some (.ok (.mk 3 t [] []) r)) (fun n => ?_) ⟨0, fun _ _ => rfl⟩, rfl⟩
      rw [valP, if_pos rfl, dropB_hd a]
      unfold valB
      rw [if_neg b1, if_neg b2, if_neg b3, if_neg b4, if_neg b5, if_neg b6]
      unfold mkN
      rw [num_app hr hn, List.nil_append]
      simp
    by_cases h4 : k = 4
    · subst h4
      obtain ⟨hn, rfl, rfl⟩ := may_str hv
      refine ⟨r, ev_val (fun n => ?_) (ev_map (fun t => JV.mk 4 t [] []) (quo_rt hn r)), rfl⟩
      rw [valP, if_neg (by decide), if_pos rfl, dropB_hd (by rw [quo_hd]; decide)]
      unfold valB
      rw [quo_hd, if_neg (by decide), if_neg (by decide), if_neg (by decide), if_pos rfl]
    by_cases h5 : k = 5
    · subst h5
      obtain ⟨hm, rfl, rfl⟩ := may_list hv
      have hd5 : deep (JV.mk 5 [] items []) = deepL items + 1 := by rw [deep]; rfl
      rw [hd5] at hlev
      have hP := parts_rt (g := g) hg (e := 93) (.inl rfl) (fun n => stepL (valP n (lev + 1))) (prG g) (fun a x => a ++ [x]) r (fun l _ => ∀ x ∈ l, x ∈ items) (fun x l a h y hy => h y (by simp [hy]))
        (fun x l a hx q hq => by
          have hxi := hx x (by simp)
          obtain ⟨q', ⟨n0, h0⟩, hq'⟩ := ih x (hsub x hxi) (mayL_mem hm x hxi) (lev + 1) (by have := deepL_mem hxi; omega) q hq
          refine ⟨q', n0, fun n U hn hU => ?_, hq'⟩
          show stepL _ _ _ = _
          unfold stepL
          rw [valP_drop n (lev + 1) hU, show valP n (lev + 1) (prG g x ++ q) = _ from h0 n hn])
        (fun x l a hx q => (pr_start hg (mayL_mem hm x (hx x (by simp))) q).1)
        items [] (g ++ joinG g (items.map (prG g)) ++ (g ++ [93] ++ g) ++ r) true (fun x hx => hx) (fun h => by cases h) (fun _ => rfl)
      rw [foldl_snoc, List.nil_append] at hP
      obtain ⟨n0, hP⟩ := hP
      refine ⟨g ++ r, ev_val (fun n => ?_) (ev_map mkL ⟨n0, fun n hn => hP n n hn hn⟩), dropB_gap hg r⟩
      rw [valP, if_neg (by decide), if_neg (by decide), if_pos rfl]
      simp only [List.append_assoc]
      rw [dropB_gap hg, List.singleton_append, dropB_cons (by decide)]
      unfold valB
      rw [hd_cons, if_neg (by decide), if_neg (by decide), if_neg (by decide), if_neg (by decide), if_pos rfl, if_neg (by omega), List.tail_cons, prL_map]
    by_cases h6 : k = 6
    · subst h6
      obtain ⟨hm, rfl, hlen, hkv, hnd⟩ := may_obj hv
      have hd5 : deep (JV.mk 6 [] items keys) = deepL items + 1 := by rw [deep]; rfl
      rw [hd5] at hlev
      have hP := parts_rt (g := g) hg (e := 125) (.inr rfl) (fun n => stepO n (valP n (lev + 1))) (fun p : Bs × JV => pairG g p.1 (prG g p.2)) (fun a x => a ++ [x]) r
        (fun l a => a ++ l = keys.zip items)
        (fun x l a h => by rw [List.append_assoc]; exact h)
        (fun x l a hx q hq => by
          have hxz : x ∈ keys.zip items := by rw [← hx]; simp
          have hx1 := (List.of_mem_zip hxz).1
          have hx2 := (List.of_mem_zip hxz).2
          have hk1 : x.1 ∉ a.map (·.1) := by
            have e : keys = a.map (·.1) ++ x.1 :: l.map (·.1) := by
              have := congrArg (List.map Prod.fst) hx
              rw [List.map_fst_zip (by omega)] at this
              rw [← this]; simp
            rw [e] at hnd
            exact nd_snoc hnd
          obtain ⟨n1, h1⟩ := key_rt hg (hkv _ hx1)
          obtain ⟨q', ⟨n0, h0⟩, hq'⟩ := ih x.2 (hsub _ hx2) (mayL_mem hm _ hx2) (lev + 1) (by have := deepL_mem hx2; omega) q hq
          refine ⟨q', n0 + n1, fun n U hn hU => ?_, hq'⟩
          show stepO _ _ _ _ = _
          unfold stepO
          have hU2 : dropB U = quoT x.1 ++ (g ++ [58] ++ g) ++ (prG g x.2 ++ q) := by
            rw [hU]
            unfold pairG
            simp only [List.append_assoc]
            rw [dropB_hd (by rw [quo_hd]; decide)]
          rw [h1 n U _ _ (by omega) hU2 hk1]
          show (match valP n (lev + 1) (g ++ (prG g x.2 ++ q)) with | none => none | some (.bad k r) => _ | some (.ok x r) => _) = _
          rw [valP_drop n (lev + 1) (dropB_gap hg (prG g x.2 ++ q)), show valP n (lev + 1) (prG g x.2 ++ q) = _ from h0 n (by omega)])
        (fun x l a _ q => by
          show hd (dropB (pairG g x.1 (prG g x.2) ++ q)) ≠ 125
          unfold pairG
          simp only [List.append_assoc]
          rw [dropB_hd (by rw [quo_hd]; decide), quo_hd]
          decide)
        (keys.zip items) [] (g ++ joinG g ((keys.zip items).map fun p => pairG g p.1 (prG g p.2)) ++ (g ++ [125] ++ g) ++ r) true rfl (fun h => by cases h) (fun _ => rfl)
      rw [foldl_snoc, List.nil_append] at hP
      obtain ⟨n0, hP⟩ := hP
      refine ⟨g ++ r, ?_, dropB_gap hg r⟩
      have hmk : mkO (keys.zip items) = JV.mk 6 [] items keys := by
        unfold mkO
        rw [List.map_fst_zip (by omega), List.map_snd_zip (by omega)]
      rw [← hmk]
      refine ev_val (fun n => ?_) (ev_map mkO ⟨n0, fun n hn => hP n n hn hn⟩)
      rw [valP, if_neg (by decide), if_neg (by decide), if_neg (by decide), if_pos rfl]
      simp only [List.append_assoc]
      rw [dropB_gap hg, List.singleton_append, dropB_cons (by decide)]
      unfold valB
      rw [hd_cons, if_neg (by decide), if_neg (by decide), if_neg (by decide), if_neg (by decide), if_neg (by decide), if_pos rfl, if_neg (by omega), List.tail_cons, zip_back keys items hlen]
    · rw [if_neg h3, if_neg h4, if_neg h5, if_neg h6]
      obtain ⟨hk, rfl, rfl, rfl⟩ := may_word hv h3 h4 h5 h6
      refine ⟨r, ev_val (f := fun _ => some (.ok (.mk k [] [] []) r)) (fun n => ?_) ⟨0, fun _ _ => rfl⟩, rfl⟩
      rw [valP]
      rcases hk with rfl | rfl | rfl
      · rw [show wordOf 0 = nullT from rfl, dropB_hd (show isBl (hd (nullT ++ r)) = false from rfl)]
        unfold valB mkW
        rw [if_pos (show hd (nullT ++ r) = 110 from rfl), word_app]
        rfl
      · rw [show wordOf 1 = falseT from rfl, dropB_hd (show isBl (hd (falseT ++ r)) = false from rfl)]
        unfold valB mkW
        rw [if_neg (show ¬ hd (falseT ++ r) = 110 from fun h => absurd h (show ¬ (102 : UInt8) = 110 by decide)), if_pos (show hd (falseT ++ r) = 102 from rfl), word_app]
        rfl
      · rw [show wordOf 2 = trueT from rfl, dropB_hd (show isBl (hd (trueT ++ r)) = false from rfl)]
        unfold valB mkW
        rw [if_neg (show ¬ hd (trueT ++ r) = 110 from fun h => absurd h (show ¬ (116 : UInt8) = 110 by decide)), if_neg (show ¬ hd (trueT ++ r) = 102 from fun h => absurd h (show ¬ (116 : UInt8) = 102 by decide)), if_pos (show hd (trueT ++ r) = 116 from rfl), word_app]
        rfl
/-- All of a text with blanks. -/
theorem all_rt {g : Bs} (hg : gap g) {v : JV} (hv : may v) (hd : deep v ≤ 16) : Ev (fun n => allP n (g ++ prG g v ++ g)) (.ok v []) := by
  have hstop : stopN g := by
    have := stop_gap hg (r := []) (by decide)
    rwa [List.append_nil] at this
  obtain ⟨q, ⟨n0, h0⟩, hq⟩ := val_rt hg _ v (Nat.le_refl _) hv 0 (by omega) g hstop
  refine ⟨n0, fun n hn => ?_⟩
  show allP n _ = _
  unfold allP
  rw [List.append_assoc, valP_drop n 0 (dropB_gap hg _), show valP n 0 (prG g v ++ g) = _ from h0 n hn]
  have : dropB q = [] := by
    rw [hq]
    have := dropB_gap hg []
    rw [List.append_nil] at this
    rw [this]; rfl
  simp only [this, if_true]
end Go.Proofs.YtnkencdibniagaaGreatDoor

