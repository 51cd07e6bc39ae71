/- Merged: JsA, JsB, JsC, JsD, JsE, JsF. -/
import Derived.Lib.ValidLaws
import Derived.Lib.RuneBytes
/- Layer 11, plain: runes of a text, as UTF-8 has them: what is encoded is decoded, whatever stands behind it; of what is cut off nothing is. -/
namespace Go.Proofs.YtafmokpplnmbgaaGreatDoor
open Go.Lib

abbrev Bs := List UInt8
/-- A number that is a rune. -/
def scal (c : Nat) : Prop := c < 55296 ∨ (57344 ≤ c ∧ c ≤ 1114111)
instance (c : Nat) : Decidable (scal c) := by unfold scal; infer_instance

theorem byteOf (z : Int) (h : 0 ≤ z ∧ z < 256) : (z.toNat.toUInt8).toNat = z.toNat := by
  simp
  omega
theorem getD0 (b : UInt8) (l : Bs) : (b :: l).getD 0 0 = b := rfl
set_option maxHeartbeats 1000000 in
/-- What is encoded is decoded. -/
theorem dec_enc {c : Nat} (hc : scal c) (r : Bs) : decodeL (encodeRune (c : Int) ++ r) = (c, (encodeRune (c : Int)).length) := by
  unfold scal at hc
  rw [decodeL_N]
  unfold encodeRune
  by_cases h1 : c < 128
  · rw [encodeRuneZ_one (by omega) (by omega)]
    simp only [List.map_cons, List.map_nil, List.cons_append, List.nil_append, List.getD_cons_zero, List.length_cons, List.length_nil]
    unfold decodeN
    have e : ((c : Int).toNat.toUInt8).toNat = c := by simp; omega
    rw [e, if_pos h1]
  by_cases h2 : c < 2048
  · rw [encodeRuneZ_two (by omega) (by omega)]
    simp only [List.map_cons, List.map_nil, List.cons_append, List.nil_append, List.getD_cons_zero, List.getD_cons_succ, List.length_cons, List.length_nil]
    have e0 : ((192 + (c : Int) / 64).toNat.toUInt8).toNat = 192 + c / 64 := by simp; omega
    have e1 : ((128 + (c : Int) % 64).toNat.toUInt8).toNat = 128 + c % 64 := by simp; omega
    rw [e0, e1]
    unfold decodeN
    rw [if_neg (by omega), if_pos ⟨by omega, by omega, by omega⟩, if_pos (by omega)]
    congr 1; omega
  by_cases h3 : c < 65536
  · rw [encodeRuneZ_three (by omega)]
    simp only [List.map_cons, List.map_nil, List.cons_append, List.nil_append, List.getD_cons_zero, List.getD_cons_succ, List.length_cons, List.length_nil]
    have e0 : ((224 + (c : Int) / 4096).toNat.toUInt8).toNat = 224 + c / 4096 := by simp; omega
    have e1 : ((128 + (c : Int) / 64 % 64).toNat.toUInt8).toNat = 128 + c / 64 % 64 := by simp; omega
    have e2 : ((128 + (c : Int) % 64).toNat.toUInt8).toNat = 128 + c % 64 := by simp; omega
    rw [e0, e1, e2]
    unfold decodeN
    rw [if_neg (by omega), if_neg (by omega), if_pos ⟨by omega, ⟨by omega, by omega⟩, by omega, by omega⟩, if_pos (by omega)]
    congr 1; omega
  · rw [encodeRuneZ_four (by omega) (by omega)]
    simp only [List.map_cons, List.map_nil, List.cons_append, List.nil_append, List.getD_cons_zero, List.getD_cons_succ, List.length_cons, List.length_nil]
    have e0 : ((240 + (c : Int) / 262144).toNat.toUInt8).toNat = 240 + c / 262144 := by simp; omega
    have e1 : ((128 + (c : Int) / 4096 % 64).toNat.toUInt8).toNat = 128 + c / 4096 % 64 := by simp; omega
    have e2 : ((128 + (c : Int) / 64 % 64).toNat.toUInt8).toNat = 128 + c / 64 % 64 := by simp; omega
    have e3 : ((128 + (c : Int) % 64).toNat.toUInt8).toNat = 128 + c % 64 := by simp; omega
    rw [e0, e1, e2, e3]
    unfold decodeN
    rw [if_neg (by omega), if_neg (by omega), if_neg (by omega), if_pos ⟨by omega, ⟨by omega, by omega⟩, ⟨by omega, by omega⟩, by omega, by omega⟩, if_pos (by omega)]
    congr 1; omega
theorem enc_pos (c : Nat) : 1 ≤ (encodeRune (c : Int)).length := by
  have := encodeRuneZ_length (c : Int)
  unfold encodeRune
  rw [List.length_map]
  exact this.1
theorem enc_le (c : Nat) : (encodeRune (c : Int)).length ≤ 4 := by
  have := encodeRuneZ_length (c : Int)
  unfold encodeRune
  rw [List.length_map]
  exact this.2
theorem enc_ne (c : Nat) : encodeRune (c : Int) ≠ [] := fun h => by
  have := enc_pos c
  rw [h] at this
  exact absurd this (by decide)
theorem enc_ascii {c : Nat} (h : c < 128) : encodeRune (c : Int) = [UInt8.ofNat c] := by
  unfold encodeRune
  rw [encodeRuneZ_one (by omega) (by omega)]
  simp
theorem scal_decode (n b0 b1 b2 b3 : Nat) (k0 : b0 < 256) (k1 : b1 < 256) : scal (decodeN n b0 b1 b2 b3).1 := by
  unfold scal decodeN
  repeat' split
  all_goals omega
/-- What is decoded is a rune. -/
theorem scal_dec (l : Bs) : scal (decodeL l).1 := by
  rw [decodeL_N]
  exact scal_decode _ _ _ _ _ (UInt8.toNat_lt _) (UInt8.toNat_lt _)
/-- No rune stands at the head. -/
def noRune (l : Bs) : Prop := (decodeL l).1 = 65533 ∧ (decodeL l).2 = 1
instance (l : Bs) : Decidable (noRune l) := by unfold noRune; infer_instance
theorem dec_take {l : Bs} (hne : l ≠ []) (hv : ¬ noRune l) : l = encodeRune ((decodeL l).1 : Int) ++ l.drop (decodeL l).2 := by
  rw [encode_decode l hne hv, List.take_append_drop]
theorem enc_rune {c : Nat} (hc : scal c) (r : Bs) : ¬ noRune (encodeRune (c : Int) ++ r) := by
  unfold noRune
  rw [dec_enc hc]
  rintro ⟨h1, h2⟩
  simp only at h1 h2
  subst h1
  revert h2
  decide
set_option maxHeartbeats 1000000 in
/-- Of a rune that is cut off nothing is decoded. -/
theorem dec_cut {c : Nat} (hc : scal c) (k : Nat) (h0 : 0 < k) (hk : k < (encodeRune (c : Int)).length) : noRune ((encodeRune (c : Int)).take k) := by
  unfold noRune
  rw [decodeL_N]
  unfold scal at hc
  unfold encodeRune at hk ⊢
  rw [List.length_map] at hk
  by_cases h1 : c < 128
  · rw [encodeRuneZ_one (by omega) (by omega)] at hk
    simp at hk; omega
  by_cases h2 : c < 2048
  · rw [encodeRuneZ_two (by omega) (by omega)] at hk ⊢
    obtain rfl : k = 1 := by simp at hk; omega
    simp only [List.map_cons, List.map_nil, List.take_succ_cons, List.take_zero, List.getD_cons_zero, List.getD_cons_succ, List.getD_nil, List.length_cons, List.length_nil]
    have e0 : ((192 + (c : Int) / 64).toNat.toUInt8).toNat = 192 + c / 64 := by simp; omega
    rw [e0]
    unfold decodeN
    rw [if_neg (by omega), if_neg (by omega), if_neg (by omega), if_neg (by omega)]
    exact ⟨rfl, rfl⟩
  by_cases h3 : c < 65536
  · rw [encodeRuneZ_three (by omega)] at hk ⊢
    have hk3 : k = 1 ∨ k = 2 := by simp at hk; omega
    have e0 : ((224 + (c : Int) / 4096).toNat.toUInt8).toNat = 224 + c / 4096 := by simp; omega
    rcases hk3 with rfl | rfl
    all_goals
      simp only [List.map_cons, List.map_nil, List.take_succ_cons, List.take_zero, List.getD_cons_zero, List.getD_cons_succ, List.getD_nil, List.length_cons, List.length_nil]
      rw [e0]
      unfold decodeN
      rw [if_neg (by omega), if_neg (by omega), if_neg (by omega), if_neg (by omega)]
      exact ⟨rfl, rfl⟩
  · rw [encodeRuneZ_four (by omega) (by omega)] at hk ⊢
    have hk3 : k = 1 ∨ k = 2 ∨ k = 3 := by simp at hk; omega
    have e0 : ((240 + (c : Int) / 262144).toNat.toUInt8).toNat = 240 + c / 262144 := by simp; omega
    rcases hk3 with rfl | rfl | rfl
    all_goals
      simp only [List.map_cons, List.map_nil, List.take_succ_cons, List.take_zero, List.getD_cons_zero, List.getD_cons_succ, List.getD_nil, List.length_cons, List.length_nil]
      rw [e0]
      unfold decodeN
      rw [if_neg (by omega), if_neg (by omega), if_neg (by omega), if_neg (by omega)]
      exact ⟨rfl, rfl⟩
/-- The bytes of runes. -/
def utfB : List Nat → Bs
  | [] => []
  | c :: l => encodeRune (c : Int) ++ utfB l
theorem utfB_append (a b : List Nat) : utfB (a ++ b) = utfB a ++ utfB b := by
  induction a with
  | nil => rfl
  | cons c l ih => simp [utfB, ih]
/-- Valid bytes are those of runes. -/
theorem valid_utf : ∀ (n : Nat) (t : Bs), t.length ≤ n → validD t = true → ∃ cs : List Nat, (∀ c ∈ cs, scal c) ∧ t = utfB cs
  | 0, t, hn, _ => ⟨[], by simp, by rw [List.eq_nil_of_length_eq_zero (Nat.le_zero.1 hn)]; rfl⟩
  | n + 1, t, hn, hv => by
    by_cases hne : t = []
    · exact ⟨[], by simp, by rw [hne]; rfl⟩
    · rw [validD_step t hne] at hv
      by_cases hr : noRune t
      · rw [if_pos (show _ ∧ _ from hr)] at hv; cases hv
      · rw [if_neg (show ¬ (_ ∧ _) from hr)] at hv
        have hw := decodeL_width t
        have hl : 0 < t.length := List.length_pos_iff.2 hne
        obtain ⟨cs, h1, h2⟩ := valid_utf n (t.drop (decodeL t).2) (by rw [List.length_drop]; omega) hv
        refine ⟨(decodeL t).1 :: cs, ?_, ?_⟩
        · intro c hc
          rcases List.mem_cons.1 hc with rfl | hc
          · exact scal_dec t
          · exact h1 c hc
        · rw [utfB, ← h2]
          exact dec_take hne hr
theorem utf_valid : ∀ cs : List Nat, (∀ c ∈ cs, scal c) → validD (utfB cs) = true
  | [], _ => rfl
  | c :: cs, h => by
    have hc := h c (by simp)
    have hne : utfB (c :: cs) ≠ [] := fun e => enc_ne c (List.append_eq_nil_iff.1 e).1
    rw [validD_step _ hne]
    have hr : ¬ noRune (utfB (c :: cs)) := enc_rune hc _
    unfold noRune at hr
    rw [if_neg hr]
    have e : (decodeL (utfB (c :: cs))).2 = (encodeRune (c : Int)).length := by
      show (decodeL (encodeRune (c : Int) ++ utfB cs)).2 = _
      rw [dec_enc hc]
    rw [e]
    show validD ((encodeRune (c : Int) ++ utfB cs).drop _) = true
    rw [List.drop_left]
    exact utf_valid cs (fun d hd => h d (by simp [hd]))
/-- The runes of bytes, one behind the other. -/
def runesF : Nat → Bs → List Nat
  | 0, _ => []
  | n + 1, l => if l = [] then [] else (decodeL l).1 :: runesF n (l.drop (decodeL l).2)
theorem runesF_utf : ∀ (cs : List Nat) (n : Nat), (∀ c ∈ cs, scal c) → (utfB cs).length ≤ n → runesF n (utfB cs) = cs
  | [], n, _, _ => by cases n <;> rfl
  | c :: cs, n, h, hn => by
    have hc := h c (by simp)
    have hp := enc_pos c
    have hne : utfB (c :: cs) ≠ [] := fun e => enc_ne c (List.append_eq_nil_iff.1 e).1
    have e : decodeL (utfB (c :: cs)) = (c, (encodeRune (c : Int)).length) := dec_enc hc _
    have hl : (utfB (c :: cs)).length = (encodeRune (c : Int)).length + (utfB cs).length := by simp [utfB]
    obtain ⟨m, rfl⟩ : ∃ m, n = m + 1 := ⟨n - 1, by omega⟩
    rw [runesF, if_neg hne, e]
    have e2 : (utfB (c :: cs)).drop (encodeRune (c : Int)).length = utfB cs := by
      show (encodeRune (c : Int) ++ utfB cs).drop _ = _
      rw [List.drop_left]
    show c :: runesF m ((utfB (c :: cs)).drop (encodeRune (c : Int)).length) = _
    rw [e2, runesF_utf cs m (fun d hd => h d (by simp [hd])) (by omega)]
def runesT (l : Bs) : List Nat := runesF l.length l
theorem runesT_utf {cs : List Nat} (h : ∀ c ∈ cs, scal c) : runesT (utfB cs) = cs := runesF_utf cs _ h (Nat.le_refl _)
end Go.Proofs.YtafmokpplnmbgaaGreatDoor

/- Layer 11, plain: what Parse reads and Print writes, as functions on bytes. What is read is told by what is left behind it; where it is wrong, by what stands from there on. -/
namespace Go.Proofs.YtafmokpplnmbgaaGreatDoor
open Go.Lib

/-- A value. -/
inductive JV where
  | mk (kind : Int) (text : Bs) (items : List JV) (keys : List Bs)
def JV.kind : JV → Int | .mk k _ _ _ => k
def JV.text : JV → Bs | .mk _ t _ _ => t
def JV.items : JV → List JV | .mk _ _ l _ => l
def JV.keys : JV → List Bs | .mk _ _ _ l => l
/-- What was read, and what is left; or which error, and what stands from where it is wrong on. -/
inductive Res (α : Type) where
  | ok (a : α) (r : Bs)
  | bad (code : Nat) (r : Bs)
def Res.map {α β : Type} (f : α → β) : Res α → Res β
  | .ok a r => .ok (f a) r
  | .bad k r => .bad k r

def isBl (c : UInt8) : Bool := c == 32 || c == 9 || c == 10 || c == 13
def dropB : Bs → Bs
  | [] => []
  | c :: l => if isBl c = true then dropB l else c :: l
def isDg (c : UInt8) : Bool := decide (48 ≤ c) && decide (c ≤ 57)
def dropD : Bs → Bs
  | [] => []
  | c :: l => if isDg c = true then dropD l else c :: l
/-- The next byte; 0 at the end. -/
def hd (l : Bs) : UInt8 := l.headD 0
theorem hd_cons (c : UInt8) (l : Bs) : hd (c :: l) = c := rfl
theorem hd_nil : hd [] = 0 := rfl
/-- A word. -/
def wordP : Bs → Bs → Res Unit
  | [], l => .ok () l
  | c :: w, l => if hd l = c then wordP w l.tail else .bad 10 l
/-- Digits, one at least. -/
def digP (l : Bs) : Res Unit := if (dropD l).length = l.length then .bad 10 l else .ok () (dropD l)
/-- An exponent, if there is one. -/
def expP (l : Bs) : Res Unit :=
  if hd l = 101 ∨ hd l = 69 then (if hd l.tail = 43 ∨ hd l.tail = 45 then digP l.tail.tail else digP l.tail) else .ok () l
/-- A point and digits, if there is one; and an exponent. -/
def fracP (l : Bs) : Res Unit :=
  if hd l = 46 then (match digP l.tail with | .bad k r => .bad k r | .ok _ r => expP r) else expP l
def intP (l : Bs) : Res Unit :=
  if hd l = 48 then fracP l.tail else (match digP l with | .bad k r => .bad k r | .ok _ r => fracP r)
def numP (l : Bs) : Res Unit := if hd l = 45 then intP l.tail else intP l
/-- A digit to the base 16. -/
def hexV (b : UInt8) : Option Nat :=
  if 48 ≤ b.toNat ∧ b.toNat ≤ 57 then some (b.toNat - 48) else if 97 ≤ b.toNat ∧ b.toNat ≤ 102 then some (b.toNat - 87) else if 65 ≤ b.toNat ∧ b.toNat ≤ 70 then some (b.toNat - 55) else none
def unitP : Nat → Nat → Bs → Res Nat
  | 0, c, l => .ok c l
  | k + 1, c, l => match hexV (hd l) with | some n => unitP k (c * 16 + n) l.tail | none => .bad 10 l
def isLo (c : Nat) : Bool := decide (56320 ≤ c) && decide (c < 57344)
def isHi (c : Nat) : Bool := decide (55296 ≤ c) && decide (c < 56320)
/-- The second one of two units. -/
def lowP (fr : Bs) (c : Nat) (r : Bs) : Res Nat :=
  if r = [] ∨ r = [92] then .bad 10 []
  else if hd r = 92 ∧ hd r.tail = 117 then
    (match unitP 4 0 r.tail.tail with
      | .bad k q => .bad k q
      | .ok lo q => if isLo lo = true then .ok (65536 + (c - 55296) * 1024 + lo - 56320) q else .bad 10 fr)
  else .bad 10 fr
def unitsP (fr l : Bs) : Res Nat :=
  match unitP 4 0 l with
  | .bad k r => .bad k r
  | .ok c r => if isLo c = true then .bad 10 fr else if isHi c = true then lowP fr c r else .ok c r
def unesc (b : UInt8) : Option Nat :=
  if b = 34 then some 34 else if b = 92 then some 92 else if b = 98 then some 8 else if b = 102 then some 12 else if b = 110 then some 10 else if b = 114 then some 13 else if b = 116 then some 9 else none
def escP (fr l : Bs) : Res Nat :=
  if hd l = 117 then unitsP fr l.tail else if hd l = 47 then .ok 47 l.tail
  else match unesc (hd l) with | some c => .ok c l.tail | none => .bad 10 l
/-- One rune of a string. -/
def oneP (l : Bs) : Res Nat :=
  if hd l = 92 then escP l l.tail
  else if l = [] ∨ noRune l ∨ (decodeL l).1 < 32 then .bad 10 l else .ok (decodeL l).1 (l.drop (decodeL l).2)
/-- The rest of a string, behind what was read of it. -/
def strP : Nat → Bs → Bs → Option (Res Bs)
  | 0, _, _ => none
  | n + 1, l, acc => if hd l = 34 then some (.ok acc l.tail) else match oneP l with
    | .bad k r => some (.bad k r)
    | .ok c r => strP n r (acc ++ encodeRune (c : Int))
def quoP (n : Nat) (l : Bs) : Option (Res Bs) := if hd l = 34 then strP n l.tail [] else some (.bad 10 l)
/-- Parts, with commas between, and a bracket at the end. -/
def partsP {α : Type} (e : UInt8) (step : α → Bs → Option (Res α)) : Nat → Bool → α → Bs → Option (Res α)
  | 0, _, _, _ => none
  | n + 1, first, acc, l =>
    if hd (dropB l) = e then some (.ok acc (dropB l).tail)
    else if first = true then (match step acc (dropB l) with | none => none | some (.bad k r) => some (.bad k r) | some (.ok a r) => partsP e step n false a r)
    else if hd (dropB l) = 44 then (match step acc (dropB l).tail with | none => none | some (.bad k r) => some (.bad k r) | some (.ok a r) => partsP e step n false a r)
    else some (.bad 10 (dropB l))
/-- A key, and what stands between it and its value. -/
def keyP (n : Nat) (seen : List Bs) (l : Bs) : Option (Res Bs) :=
  match quoP n (dropB l) with
  | none => none
  | some (.bad k r) => some (.bad k r)
  | some (.ok key r) => if key ∈ seen then some (.bad 10 (dropB l)) else if hd (dropB r) = 58 then some (.ok key (dropB r).tail) else some (.bad 10 (dropB r))
def stepL (val : Bs → Option (Res JV)) (acc : List JV) (l : Bs) : Option (Res (List JV)) :=
  match val l with
  | none => none
  | some (.bad k r) => some (.bad k r)
  | some (.ok x r) => some (.ok (acc ++ [x]) r)
def stepO (n : Nat) (val : Bs → Option (Res JV)) (acc : List (Bs × JV)) (l : Bs) : Option (Res (List (Bs × JV))) :=
  match keyP n (acc.map (·.1)) l with
  | none => none
  | some (.bad k r) => some (.bad k r)
  | some (.ok key r) => match val r with
    | none => none
    | some (.bad k r) => some (.bad k r)
    | some (.ok x r) => some (.ok (acc ++ [(key, x)]) r)
def mkL (acc : List JV) : JV := .mk 5 [] acc []
def mkO (acc : List (Bs × JV)) : JV := .mk 6 [] (acc.map (·.2)) (acc.map (·.1))
def mkN (l : Bs) : Res JV := match numP l with | .bad k r => .bad k r | .ok _ r => .ok (.mk 3 (l.take (l.length - r.length)) [] []) r
def mkW (k : Int) (w l : Bs) : Res JV := (wordP w l).map fun _ => .mk k [] [] []
def nullT : Bs := [110, 117, 108, 108]
def falseT : Bs := [102, 97, 108, 115, 101]
def trueT : Bs := [116, 114, 117, 101]
/-- A value, in so many lists and objects, by what stands first. -/
def valB (n lev : Nat) (val : Bs → Option (Res JV)) (l : Bs) : Option (Res JV) :=
  if hd l = 110 then some (mkW 0 nullT l)
  else if hd l = 102 then some (mkW 1 falseT l)
  else if hd l = 116 then some (mkW 2 trueT l)
  else if hd l = 34 then (quoP n l).map (Res.map fun t => .mk 4 t [] [])
  else if hd l = 91 then (if lev = 16 then some (.bad 11 l) else (partsP 93 (stepL val) n true [] l.tail).map (Res.map mkL))
  else if hd l = 123 then (if lev = 16 then some (.bad 11 l) else (partsP 125 (stepO n val) n true [] l.tail).map (Res.map mkO))
  else some (mkN l)
def valP : Nat → Nat → Bs → Option (Res JV)
  | 0, _, _ => none
  | n + 1, lev, l => valB n lev (valP n (lev + 1)) (dropB l)
def allP (n : Nat) (l : Bs) : Option (Res JV) :=
  match valP n 0 l with
  | none => none
  | some (.bad k r) => some (.bad k r)
  | some (.ok v r) => if dropB r = [] then some (.ok v []) else some (.bad 10 (dropB r))
/-- All of a text: the value; or where it is wrong. -/
inductive Out where
  | val (v : JV)
  | wrong (at_ : Nat) (code : Nat)
def outOf (l : Bs) : Res JV → Out
  | .ok v _ => .val v
  | .bad k r => .wrong (l.length - r.length) k

/-! ### What is written -/
def hexd (n : Nat) : UInt8 := if n < 10 then UInt8.ofNat (48 + n) else UInt8.ofNat (87 + n)
def escR (c : Nat) : Option UInt8 :=
  if c = 34 then some 34 else if c = 92 then some 92 else if c = 8 then some 98 else if c = 12 then some 102 else if c = 10 then some 110 else if c = 13 then some 114 else if c = 9 then some 116 else none
def printedR (c : Nat) : Bs :=
  match escR c with
  | some b => [92, b]
  | none => if c < 16 then [92, 117, 48, 48, 48, hexd c] else if c < 32 then [92, 117, 48, 48, 49, hexd (c - 16)] else encodeRune (c : Int)
def quoR (cs : List Nat) : Bs := 34 :: (cs.flatMap printedR ++ [34])
def quoT (t : Bs) : Bs := quoR (runesT t)
def wordOf (k : Int) : Bs := if k = 0 then nullT else if k = 1 then falseT else trueT
/-- Parts with g around what stands between them. -/
def joinG (g : Bs) : List Bs → Bs
  | [] => []
  | [x] => x
  | x :: y :: l => x ++ (g ++ [44] ++ g) ++ joinG g (y :: l)
def pairG (g : Bs) (k x : Bs) : Bs := quoT k ++ (g ++ [58] ++ g) ++ x
mutual
/-- A value's text, with g around all that stands between its parts. -/
def prG (g : Bs) : JV → Bs
  | .mk k t items keys =>
    if k = 3 then t else if k = 4 then quoT t
    else if k = 5 then (g ++ [91] ++ g) ++ joinG g (prL g items) ++ (g ++ [93] ++ g)
    else if k = 6 then (g ++ [123] ++ g) ++ joinG g (List.zipWith (pairG g) keys (prL g items)) ++ (g ++ [125] ++ g)
    else wordOf k
def prL (g : Bs) : List JV → List Bs
  | [] => []
  | x :: l => prG g x :: prL g l
end
def isNum (t : Bs) : Prop := numP t = .ok () []
mutual
/-- May a value be, but for how deep it is? -/
def may : JV → Prop
  | .mk k t items keys =>
    mayL items ∧
    ((k = 0 ∨ k = 1 ∨ k = 2) ∧ t = [] ∧ items = [] ∧ keys = [] ∨ k = 3 ∧ isNum t ∧ items = [] ∧ keys = [] ∨ k = 4 ∧ validD t = true ∧ items = [] ∧ keys = [] ∨ k = 5 ∧ t = [] ∧ keys = []
      ∨ k = 6 ∧ t = [] ∧ keys.length = items.length ∧ (∀ x ∈ keys, validD x = true) ∧ keys.Nodup)
def mayL : List JV → Prop
  | [] => True
  | x :: l => may x ∧ mayL l
end
mutual
def deep : JV → Nat
  | .mk k _ items _ => if k = 5 ∨ k = 6 then deepL items + 1 else deepL items
def deepL : List JV → Nat
  | [] => 0
  | x :: l => max (deep x) (deepL l)
end
end Go.Proofs.YtafmokpplnmbgaaGreatDoor

/- Layer 11, plain: what is written is read as it was, with whatever blanks between its parts. -/
namespace Go.Proofs.YtafmokpplnmbgaaGreatDoor
open Go.Lib

/-- From some number on. -/
def Ev {α : Type} (f : Nat → Option (Res α)) (x : Res α) : Prop := ∃ n0, ∀ n, n0 ≤ n → f n = some x
def Ev2 {α : Type} (f : Nat → Nat → Option (Res α)) (x : Res α) : Prop := ∃ n0, ∀ n m, n0 ≤ n → n0 ≤ m → f n m = some x
theorem Ev.unique {α : Type} {f : Nat → Option (Res α)} {x y : Res α} (h : Ev f x) (g : Ev f y) : x = y := by
  obtain ⟨a, ha⟩ := h
  obtain ⟨b, hb⟩ := g
  have h1 := ha (max a b) (Nat.le_max_left ..)
  have h2 := hb (max a b) (Nat.le_max_right ..)
  rw [h1] at h2
  exact Option.some.inj h2
def gap (g : Bs) : Prop := ∀ c ∈ g, isBl c = true
/-- No number goes on there. -/
def stopN (r : Bs) : Prop := isDg (hd r) = false ∧ hd r ≠ 46 ∧ hd r ≠ 101 ∧ hd r ≠ 69
instance (r : Bs) : Decidable (stopN r) := by unfold stopN; infer_instance
theorem dropB_gap {g : Bs} (hg : gap g) (l : Bs) : dropB (g ++ l) = dropB l := by
  induction g with
  | nil => rfl
  | cons c g ih =>
    have := hg c (by simp)
    rw [List.cons_append, dropB, if_pos this]
    exact ih (fun d hd => hg d (by simp [hd]))
theorem dropB_hd {l : Bs} (h : isBl (hd l) = false) : dropB l = l := by
  cases l with
  | nil => rfl
  | cons c l => rw [hd_cons] at h; rw [dropB, if_neg (by rw [h]; decide)]
theorem dropB_idem (l : Bs) : dropB (dropB l) = dropB l := by
  induction l with
  | nil => rfl
  | cons c l ih =>
    rw [dropB]
    split
    · exact ih
    · rename_i h
      rw [dropB, if_neg h]
theorem dropB_le (l : Bs) : (dropB l).length ≤ l.length := by
  induction l with
  | nil => exact Nat.le_refl _
  | cons c l ih => rw [dropB]; split <;> simp only [List.length_cons] <;> omega
theorem dropD_le (l : Bs) : (dropD l).length ≤ l.length := by
  induction l with
  | nil => exact Nat.le_refl _
  | cons c l ih => rw [dropD]; split <;> simp only [List.length_cons] <;> omega
theorem dropD_hd {l : Bs} (h : isDg (hd l) = false) : dropD l = l := by
  cases l with
  | nil => rfl
  | cons c l => rw [hd_cons] at h; rw [dropD, if_neg (by rw [h]; decide)]
theorem dropD_app (t : Bs) {r : Bs} (h : isDg (hd r) = false) : dropD (t ++ r) = dropD t ++ r := by
  induction t with
  | nil => exact dropD_hd h
  | cons c t ih =>
    rw [List.cons_append, dropD, dropD]
    split
    · exact ih
    · rfl
theorem dig_app {t x : Bs} {r : Bs} (h : isDg (hd r) = false) (hx : digP t = .ok () x) : digP (t ++ r) = .ok () (x ++ r) := by
  unfold digP at hx ⊢
  rw [dropD_app t h]
  split at hx
  · cases hx
  · rename_i hn
    rw [if_neg (by simp only [List.length_append]; omega)]
    rw [Res.ok.injEq] at hx
    rw [hx.2]
theorem hd_app {t : Bs} (h : t ≠ []) (r : Bs) : hd (t ++ r) = hd t := by
  cases t with
  | nil => exact absurd rfl h
  | cons c t => rfl
theorem tail_app {t : Bs} (h : t ≠ []) (r : Bs) : (t ++ r).tail = t.tail ++ r := by
  cases t with
  | nil => exact absurd rfl h
  | cons c t => rfl
theorem ne_hd {t : Bs} {c : UInt8} (h : hd t = c) (hc : c ≠ 0) : t ≠ [] := by
  rintro rfl
  exact hc h.symm
theorem dig_ne {t x : Bs} (h : digP t = .ok () x) : t ≠ [] := by
  rintro rfl
  cases h
theorem exp_app {t x r : Bs} (hr : stopN r) (hx : expP t = .ok () x) : expP (t ++ r) = .ok () (x ++ r) := by
  unfold expP at hx ⊢
  by_cases he : hd t = 101 ∨ hd t = 69
  · have hne : t ≠ [] := by rcases he with h | h <;> exact ne_hd h (by decide)
    rw [if_pos he] at hx
    rw [hd_app hne, if_pos he, tail_app hne]
    by_cases hs : hd t.tail = 43 ∨ hd t.tail = 45
    · have hne2 : t.tail ≠ [] := by rcases hs with h | h <;> exact ne_hd h (by decide)
      rw [if_pos hs] at hx
      rw [hd_app hne2, if_pos hs, tail_app hne2]
      exact dig_app hr.1 hx
    · rw [if_neg hs] at hx
      rw [hd_app (dig_ne hx), if_neg hs]
      exact dig_app hr.1 hx
  · rw [if_neg he] at hx
    rw [Res.ok.injEq] at hx
    rw [if_neg, hx.2]
    by_cases hne : t = []
    · subst hne
      exact fun h => h.elim hr.2.2.1 hr.2.2.2
    · rw [hd_app hne]; exact he
theorem frac_app {t x r : Bs} (hr : stopN r) (hx : fracP t = .ok () x) : fracP (t ++ r) = .ok () (x ++ r) := by
  unfold fracP at hx ⊢
  by_cases he : hd t = 46
  · have hne : t ≠ [] := ne_hd he (by decide)
    rw [if_pos he] at hx
    rw [hd_app hne, if_pos he, tail_app hne]
    cases hd2 : digP t.tail with
    | bad k q => rw [hd2] at hx; cases hx
    | ok a q =>
      rw [hd2] at hx
      rw [dig_app hr.1 hd2]
      exact exp_app hr hx
  · rw [if_neg he] at hx
    rw [if_neg]
    · exact exp_app hr hx
    · by_cases hne : t = []
      · subst hne; exact hr.2.1
      · rw [hd_app hne]; exact he
theorem int_ne {t x : Bs} (h : intP t = .ok () x) : t ≠ [] := by
  rintro rfl
  cases h
theorem int_app {t x r : Bs} (hr : stopN r) (hx : intP t = .ok () x) : intP (t ++ r) = .ok () (x ++ r) := by
  have hne := int_ne hx
  unfold intP at hx ⊢
  rw [hd_app hne, tail_app hne]
  by_cases he : hd t = 48
  · rw [if_pos he] at hx ⊢
    exact frac_app hr hx
  · rw [if_neg he] at hx ⊢
    cases hd2 : digP t with
    | bad k q => rw [hd2] at hx; cases hx
    | ok a q =>
      rw [hd2] at hx
      rw [dig_app hr.1 hd2]
      exact frac_app hr hx
theorem num_ne {t x : Bs} (h : numP t = .ok () x) : t ≠ [] := by
  rintro rfl
  cases h
theorem num_app {t x r : Bs} (hr : stopN r) (hx : numP t = .ok () x) : numP (t ++ r) = .ok () (x ++ r) := by
  have hne := num_ne hx
  unfold numP at hx ⊢
  rw [hd_app hne, tail_app hne]
  split
  · rename_i he
    rw [if_pos he] at hx
    exact int_app hr hx
  · rename_i he
    rw [if_neg he] at hx
    exact int_app hr hx
/-- What begins a number. -/
theorem dig_hd {t x : Bs} (h : digP t = .ok () x) : isDg (hd t) = true := by
  cases t with
  | nil => cases h
  | cons c t =>
    rw [hd_cons]
    unfold digP at h
    rw [dropD] at h
    by_cases hc : isDg c = true
    · exact hc
    · rw [if_neg hc, if_pos rfl] at h; cases h
theorem int_hd {t x : Bs} (h : intP t = .ok () x) : isDg (hd t) = true := by
  unfold intP at h
  by_cases he : hd t = 48
  · rw [he]; decide
  · rw [if_neg he] at h
    cases hd2 : digP t with
    | bad k q => rw [hd2] at h; cases h
    | ok a q => exact dig_hd hd2
theorem num_hd {t x : Bs} (h : numP t = .ok () x) : hd t = 45 ∨ isDg (hd t) = true := by
  unfold numP at h
  by_cases he : hd t = 45
  · exact .inl he
  · rw [if_neg he] at h
    exact .inr (int_hd h)
theorem word_app (w r : Bs) : wordP w (w ++ r) = .ok () r := by
  induction w with
  | nil => rfl
  | cons c w ih =>
    rw [List.cons_append, wordP, if_pos (hd_cons ..)]
    exact ih
/-! ### Strings -/
theorem hd_enc_ascii {c : Nat} (h : c < 128) (r : Bs) : hd (encodeRune (c : Int) ++ r) = UInt8.ofNat c := by
  rw [enc_ascii h]; rfl
set_option maxHeartbeats 1000000 in
theorem hd_enc_big {c : Nat} (hc : scal c) (h : 128 ≤ c) (r : Bs) : 128 ≤ (hd (encodeRune (c : Int) ++ r)).toNat := by
  unfold scal at hc
  unfold encodeRune
  by_cases h2 : c < 2048
  · rw [encodeRuneZ_two (by omega) (by omega)]
    simp only [List.map_cons, List.cons_append, hd_cons]
    have e0 : ((192 + (c : Int) / 64).toNat.toUInt8).toNat = 192 + c / 64 := by simp; omega
    omega
  by_cases h3 : c < 65536
  · rw [encodeRuneZ_three (by omega)]
    simp only [List.map_cons, List.cons_append, hd_cons]
    have e0 : ((224 + (c : Int) / 4096).toNat.toUInt8).toNat = 224 + c / 4096 := by simp; omega
    omega
  · rw [encodeRuneZ_four (by omega) (by omega)]
    simp only [List.map_cons, List.cons_append, hd_cons]
    have e0 : ((240 + (c : Int) / 262144).toNat.toUInt8).toNat = 240 + c / 262144 := by simp; omega
    omega
theorem hd_enc_ne {c : Nat} (hc : scal c) (k : Nat) (hk : k < 128) (h : c ≠ k) (r : Bs) : hd (encodeRune (c : Int) ++ r) ≠ UInt8.ofNat k := by
  intro e
  by_cases h1 : c < 128
  · rw [hd_enc_ascii h1] at e
    have := congrArg UInt8.toNat e
    simp at this
    omega
  · have := hd_enc_big hc (by omega) r
    rw [e] at this
    simp at this
    omega
theorem hex16 : ∀ k : Fin 16, hexV (hexd k.val) = some k.val := by decide
theorem esc_all : ∀ c : Fin 128, ∀ b, escR c.val = some b → unesc b = some c.val ∧ b ≠ 117 ∧ b ≠ 47 := by decide
theorem escR_lt {c : Nat} {b : UInt8} (h : escR c = some b) : c < 128 := by
  unfold escR at h
  repeat' split at h
  all_goals first | omega | cases h
theorem units_small {fr r : Bs} {a b c d : UInt8} {w x y z : Nat} (ha : hexV a = some w) (hb : hexV b = some x) (hc : hexV c = some y) (hd4 : hexV d = some z) (hs : ((w * 16 + x) * 16 + y) * 16 + z < 55296) :
    unitsP fr (a :: b :: c :: d :: r) = .ok (((w * 16 + x) * 16 + y) * 16 + z) r := by
  unfold unitsP
  simp only [unitP, hd_cons, ha, hb, hc, hd4, List.tail_cons]
  have h1 : isLo (((0 * 16 + w) * 16 + x) * 16 + y * 1) = isLo (((0 * 16 + w) * 16 + x) * 16 + y * 1) := rfl
  have e : (((0 * 16 + w) * 16 + x) * 16 + y) * 16 + z = ((w * 16 + x) * 16 + y) * 16 + z := by omega
  rw [e]
  have l1 : isLo (((w * 16 + x) * 16 + y) * 16 + z) = false := by unfold isLo; simp; omega
  have l2 : isHi (((w * 16 + x) * 16 + y) * 16 + z) = false := by unfold isHi; simp; omega
  rw [l1, l2]
  rfl
/-- A rune that is written is read. -/
theorem one_printed {c : Nat} (hc : scal c) (r : Bs) : oneP (printedR c ++ r) = .ok c r := by
  unfold printedR
  cases he : escR c with
  | some b =>
    have hlt := escR_lt he
    obtain ⟨h1, h2, h3⟩ := esc_all ⟨c, hlt⟩ b he
    show oneP (92 :: b :: r) = _
    unfold oneP
    rw [if_pos (hd_cons ..)]
    show escP _ (b :: r) = _
    unfold escP
    rw [hd_cons, if_neg h2, if_neg h3, h1]
    rfl
  | none =>
    by_cases h16 : c < 16
    · simp only [if_pos h16]
      have hx := hex16 ⟨c, h16⟩
      show oneP (92 :: 117 :: 48 :: 48 :: 48 :: hexd c :: r) = _
      unfold oneP
      rw [if_pos (hd_cons ..)]
      show escP _ (117 :: 48 :: 48 :: 48 :: hexd c :: r) = _
      unfold escP
      rw [if_pos (hd_cons ..)]
      show unitsP _ (48 :: 48 :: 48 :: hexd c :: r) = _
      rw [units_small (w := 0) (x := 0) (y := 0) (z := c) (by decide) (by decide) (by decide) hx (by omega)]
      congr 1; omega
    by_cases h32 : c < 32
    · simp only [if_neg h16, if_pos h32]
      have hx := hex16 ⟨c - 16, by omega⟩
      show oneP (92 :: 117 :: 48 :: 48 :: 49 :: hexd (c - 16) :: r) = _
      unfold oneP
      rw [if_pos (hd_cons ..)]
      show escP _ (117 :: 48 :: 48 :: 49 :: hexd (c - 16) :: r) = _
      unfold escP
      rw [if_pos (hd_cons ..)]
      show unitsP _ (48 :: 48 :: 49 :: hexd (c - 16) :: r) = _
      rw [units_small (w := 0) (x := 0) (y := 1) (z := c - 16) (by decide) (by decide) (by decide) hx (by omega)]
      congr 1; omega
    · simp only [if_neg h16, if_neg h32]
      unfold oneP
      have h92 : c ≠ 92 := by
        rintro rfl
        exact absurd he (by decide)
      rw [if_neg (show ¬ hd _ = 92 from hd_enc_ne hc 92 (by omega) h92 r)]
      have hne : encodeRune (c : Int) ++ r ≠ [] := fun e => enc_ne c (List.append_eq_nil_iff.1 e).1
      have hnr := enc_rune hc r
      rw [if_neg (by rintro (h | h | h); exact hne h; exact hnr h; rw [dec_enc hc] at h; exact h32 h), dec_enc hc, List.drop_left]
theorem printed_hd {c : Nat} (hc : scal c) (r : Bs) : hd (printedR c ++ r) ≠ 34 := by
  unfold printedR
  cases he : escR c with
  | some b => exact fun h => absurd h (show (92 : UInt8) ≠ 34 by decide)
  | none =>
    simp only
    split
    · exact fun h => absurd h (show (92 : UInt8) ≠ 34 by decide)
    split
    · exact fun h => absurd h (show (92 : UInt8) ≠ 34 by decide)
    · refine hd_enc_ne hc 34 (by omega) ?_ r
      rintro rfl
      exact absurd he (by decide)
theorem str_rt : ∀ (cs : List Nat) (n : Nat) (acc r : Bs), (∀ c ∈ cs, scal c) → cs.length < n → strP n (cs.flatMap printedR ++ 34 :: r) acc = some (.ok (acc ++ utfB cs) r)
  | [], n, acc, r, _, hn => by
    obtain ⟨m, rfl⟩ : ∃ m, n = m + 1 := ⟨n - 1, by simp at hn; omega⟩
    show strP (m + 1) (34 :: r) acc = _
    rw [strP, if_pos (hd_cons ..)]
    simp [utfB]
  | c :: cs, n, acc, r, h, hn => by
    obtain ⟨m, rfl⟩ : ∃ m, n = m + 1 := ⟨n - 1, by simp at hn; omega⟩
    have hc := h c (by simp)
    rw [List.flatMap_cons, List.append_assoc, strP, if_neg (printed_hd hc _), one_printed hc]
    show strP m _ _ = _
    rw [str_rt cs m _ r (fun d hd => h d (by simp [hd])) (by simp at hn; omega), utfB, List.append_assoc]
theorem quo_rt {t : Bs} (ht : validD t = true) (r : Bs) : Ev (fun n => quoP n (quoT t ++ r)) (.ok t r) := by
  obtain ⟨cs, h1, rfl⟩ := valid_utf t.length t (Nat.le_refl _) ht
  refine ⟨cs.length + 1, fun n hn => ?_⟩
  unfold quoT quoR
  rw [runesT_utf h1]
  show quoP n (34 :: (cs.flatMap printedR ++ [34] ++ r)) = _
  unfold quoP
  rw [if_pos (hd_cons ..), List.tail_cons, List.append_assoc]
  have := str_rt cs n [] r h1 (by omega)
  simpa using this
theorem quo_hd (t r : Bs) : hd (quoT t ++ r) = 34 := rfl
/-! ### Values -/
theorem stop_gap {g : Bs} (hg : gap g) {r : Bs} (hr : stopN r) : stopN (g ++ r) := by
  cases g with
  | nil => exact hr
  | cons c g =>
    have := hg c (by simp)
    unfold stopN
    rw [List.cons_append, hd_cons]
    unfold isBl at this
    simp only [Bool.or_eq_true, beq_iff_eq] at this
    rcases this with ((h | h) | h) | h <;> subst h <;> decide
theorem stop_cons {c : UInt8} (h : stopN [c]) (r : Bs) : stopN (c :: r) := h
/-- What stands behind a part: another one, or the end. -/
def sepG (g : Bs) (l : List Bs) : Bs := l.flatMap fun x => (g ++ [44] ++ g) ++ x
theorem joinG_cons (g x : Bs) (l : List Bs) : joinG g (x :: l) = x ++ sepG g l := by
  induction l generalizing x with
  | nil => simp [joinG, sepG]
  | cons y l ih =>
    rw [joinG, ih]
    simp [sepG]
theorem dropB_cons {c : UInt8} (h : isBl c = false) (l : Bs) : dropB (c :: l) = c :: l := dropB_hd h
/-- The parts of a list that is written are read. -/
theorem parts_rt {α β : Type} {g : Bs} (hg : gap g) {e : UInt8} (he : e = 93 ∨ e = 125) (step : Nat → α → Bs → Option (Res α)) (tx : β → Bs) (put : α → β → α) (rest : Bs)
    (good : List β → α → Prop) (hgood : ∀ x l a, good (x :: l) a → good l (put a x))
    (hstep : ∀ x l a, good (x :: l) a → ∀ r, stopN r → ∃ q n0, (∀ n U, n0 ≤ n → dropB U = dropB (tx x ++ r) → step n a U = some (.ok (put a x) q)) ∧ dropB q = dropB r) (hhd : ∀ x l a, good (x :: l) a → ∀ r, hd (dropB (tx x ++ r)) ≠ e) :
    ∀ (l : List β) (a : α) (T : Bs) (first : Bool), good l a → (first = false → dropB T = dropB (sepG g (l.map tx) ++ (g ++ [e] ++ g) ++ rest)) →
      (first = true → dropB T = dropB (g ++ joinG g (l.map tx) ++ (g ++ [e] ++ g) ++ rest)) →
      Ev2 (fun n m => partsP e (step n) m first a T) (.ok (l.foldl put a) (g ++ rest)) := by
  have hE : ∀ r, stopN (g ++ [e] ++ r) := by
    intro r
    rw [List.append_assoc]
    refine stop_gap hg (stop_cons ?_ _)
    rcases he with rfl | rfl <;> decide
  have hEb : isBl e = false := by rcases he with rfl | rfl <;> decide
  have hE0 : e ≠ 44 := by rcases he with rfl | rfl <;> decide
  have hS : ∀ (l : List β) (r : Bs), stopN (sepG g (l.map tx) ++ (g ++ [e] ++ g) ++ r) := by
    intro l r
    cases l with
    | nil => rw [List.map_nil]; show stopN ([] ++ (g ++ [e] ++ g) ++ r); rw [List.nil_append, List.append_assoc]; exact hE _
    | cons y l =>
      simp only [sepG, List.map_cons, List.flatMap_cons, List.append_assoc]
      exact stop_gap hg (stop_cons (by decide) _)
  intro l
  induction l with
  | nil =>
    intro a T first _ h1 h2
    have hT : dropB T = e :: (g ++ rest) := by
      have : dropB T = dropB (g ++ ([e] ++ (g ++ rest))) := by
        cases first with
        | false => rw [h1 rfl]; simp [sepG]
        | true => rw [h2 rfl]; simp [joinG, dropB_gap hg]
      rw [this, dropB_gap hg, List.singleton_append, dropB_cons hEb]
    refine ⟨1, fun n m _ hm => ?_⟩
    obtain ⟨k, rfl⟩ : ∃ k, m = k + 1 := ⟨m - 1, by omega⟩
    simp only [partsP]
    rw [hT, hd_cons, if_pos rfl]
    rfl
  | cons x l ih =>
    intro a T first hga h1 h2
    obtain ⟨q, n0, hq1, hq2⟩ := hstep x l a hga (sepG g (l.map tx) ++ (g ++ [e] ++ g) ++ rest) (hS l rest)
    obtain ⟨n1, hn1⟩ := ih (put a x) q false (hgood _ _ _ hga) (fun _ => hq2) (fun h => by cases h)
    refine ⟨n0 + n1 + 1, fun n m hn hm => ?_⟩
    obtain ⟨k, rfl⟩ : ∃ k, m = k + 1 := ⟨m - 1, by omega⟩
    have hs := fun U => hq1 n U (by omega)
    have hrec := hn1 n k (by omega) (by omega)
    simp only [partsP]
    cases first with
    | false =>
      have hT : dropB T = 44 :: (g ++ tx x ++ (sepG g (l.map tx) ++ (g ++ [e] ++ g) ++ rest)) := by
        rw [h1 rfl]
        simp only [sepG, List.map_cons, List.flatMap_cons, List.append_assoc]
        rw [dropB_gap hg, List.cons_append, List.nil_append, dropB_cons (by decide)]
      rw [hT, hd_cons, if_neg (fun h => hE0 h.symm), if_neg (by decide), if_pos rfl, List.tail_cons, hs _ (by rw [List.append_assoc, dropB_gap hg])]
      exact hrec
    | true =>
      have hT : dropB T = dropB (g ++ tx x ++ (sepG g (l.map tx) ++ (g ++ [e] ++ g) ++ rest)) := by
        rw [h2 rfl, List.map_cons, joinG_cons]
        simp only [List.append_assoc]
      have hTe : hd (dropB T) ≠ e := by
        rw [hT, List.append_assoc, dropB_gap hg]
        exact hhd _ _ _ hga _
      rw [if_neg hTe, if_pos rfl, hT, hs _ (by rw [dropB_idem, List.append_assoc, dropB_gap hg])]
      exact hrec

theorem bl_ne {c : UInt8} (h : isBl c = true) : c = 32 ∨ c = 9 ∨ c = 10 ∨ c = 13 := by
  unfold isBl at h
  simp only [Bool.or_eq_true, beq_iff_eq] at h
  rcases h with ((h | h) | h) | h
  · exact .inl h
  · exact .inr (.inl h)
  · exact .inr (.inr (.inl h))
  · exact .inr (.inr (.inr h))
theorem dg_nbl {c : UInt8} (h : isDg c = true) : isBl c = false := by
  cases hb : isBl c with
  | false => rfl
  | true => rcases bl_ne hb with rfl | rfl | rfl | rfl <;> exact absurd h (by decide)
theorem num_start {t x : Bs} (h : numP t = .ok () x) (r : Bs) : isBl (hd (t ++ r)) = false ∧ hd (t ++ r) ≠ 110 ∧ hd (t ++ r) ≠ 102 ∧ hd (t ++ r) ≠ 116 ∧ hd (t ++ r) ≠ 34 ∧ hd (t ++ r) ≠ 91 ∧ hd (t ++ r) ≠ 123 ∧ hd (t ++ r) ≠ 93 ∧ hd (t ++ r) ≠ 125 := by
  rw [hd_app (num_ne h)]
  rcases num_hd h with h | h
  · rw [h]; decide
  · refine ⟨dg_nbl h, ?_, ?_, ?_, ?_, ?_, ?_, ?_, ?_⟩ <;> (intro e; rw [e] at h; exact absurd h (by decide))
theorem may_num {t : Bs} {items : List JV} {keys : List Bs} (h : may (.mk 3 t items keys)) : isNum t ∧ items = [] ∧ keys = [] := by
  rw [may] at h
  rcases h.2 with h | h | h | h | h
  · rcases h.1 with h | h | h <;> exact absurd h (by decide)
  · exact ⟨h.2.1, h.2.2.1, h.2.2.2⟩
  · exact absurd h.1 (by decide)
  · exact absurd h.1 (by decide)
  · exact absurd h.1 (by decide)
theorem may_str {t : Bs} {items : List JV} {keys : List Bs} (h : may (.mk 4 t items keys)) : validD t = true ∧ items = [] ∧ keys = [] := by
  rw [may] at h
  rcases h.2 with h | h | h | h | h
  · rcases h.1 with h | h | h <;> exact absurd h (by decide)
  · exact absurd h.1 (by decide)
  · exact ⟨h.2.1, h.2.2.1, h.2.2.2⟩
  · exact absurd h.1 (by decide)
  · exact absurd h.1 (by decide)
theorem may_list {t : Bs} {items : List JV} {keys : List Bs} (h : may (.mk 5 t items keys)) : mayL items ∧ t = [] ∧ keys = [] := by
  rw [may] at h
  rcases h.2 with h' | h' | h' | h' | h'
  · rcases h'.1 with h | h | h <;> exact absurd h (by decide)
  · exact absurd h'.1 (by decide)
  · exact absurd h'.1 (by decide)
  · exact ⟨h.1, h'.2.1, h'.2.2⟩
  · exact absurd h'.1 (by decide)
theorem may_obj {t : Bs} {items : List JV} {keys : List Bs} (h : may (.mk 6 t items keys)) : mayL items ∧ t = [] ∧ keys.length = items.length ∧ (∀ x ∈ keys, validD x = true) ∧ keys.Nodup := by
  rw [may] at h
  rcases h.2 with h' | h' | h' | h' | h'
  · rcases h'.1 with h | h | h <;> exact absurd h (by decide)
  · exact absurd h'.1 (by decide)
  · exact absurd h'.1 (by decide)
  · exact absurd h'.1 (by decide)
  · exact ⟨h.1, h'.2⟩
theorem may_word {k : Int} {t : Bs} {items : List JV} {keys : List Bs} (h : may (.mk k t items keys)) (h3 : k ≠ 3) (h4 : k ≠ 4) (h5 : k ≠ 5) (h6 : k ≠ 6) : (k = 0 ∨ k = 1 ∨ k = 2) ∧ t = [] ∧ items = [] ∧ keys = [] := by
  rw [may] at h
  rcases h.2 with h' | h' | h' | h' | h'
  · exact h'
  · exact absurd h'.1 h3
  · exact absurd h'.1 h4
  · exact absurd h'.1 h5
  · exact absurd h'.1 h6
theorem mayL_mem : ∀ {l : List JV}, mayL l → ∀ x ∈ l, may x
  | [], _, x, hx => by cases hx
  | y :: l, h, x, hx => by
    rw [mayL] at h
    rcases List.mem_cons.1 hx with rfl | hx
    · exact h.1
    · exact mayL_mem h.2 x hx
theorem deepL_mem : ∀ {l : List JV} {x : JV}, x ∈ l → deep x ≤ deepL l
  | y :: l, x, hx => by
    rw [deepL]
    rcases List.mem_cons.1 hx with rfl | hx
    · exact Nat.le_max_left ..
    · exact Nat.le_trans (deepL_mem hx) (Nat.le_max_right ..)
theorem prL_map (g : Bs) : ∀ l : List JV, prL g l = l.map (prG g)
  | [] => by rw [prL]; rfl
  | x :: l => by rw [prL, prL_map g l]; rfl
/-- What begins a value, behind blanks. -/
theorem pr_start {g : Bs} (hg : gap g) {v : JV} (h : may v) (r : Bs) : hd (dropB (prG g v ++ r)) ≠ 93 ∧ hd (dropB (prG g v ++ r)) ≠ 125 := by
  obtain ⟨k, t, items, keys⟩ := v
  rw [prG]
  by_cases h3 : k = 3
  · subst h3
    obtain ⟨hn, _, _⟩ := may_num h
    obtain ⟨a, _, _, _, _, _, _, b, c⟩ := num_start hn r
    rw [if_pos rfl, dropB_hd a]
    exact ⟨b, c⟩
  by_cases h4 : k = 4
  · subst h4
    rw [if_neg (by decide), if_pos rfl, dropB_hd (by rw [quo_hd]; decide), quo_hd]
    decide
  by_cases h5 : k = 5
  · subst h5
    rw [if_neg (by decide), if_neg (by decide), if_pos rfl]
    simp only [List.append_assoc]
    rw [dropB_gap hg, List.singleton_append, dropB_cons (by decide)]
    simp only [hd_cons]; decide
  by_cases h6 : k = 6
  · subst h6
    rw [if_neg (by decide), if_neg (by decide), if_neg (by decide), if_pos rfl]
    simp only [List.append_assoc]
    rw [dropB_gap hg, List.singleton_append, dropB_cons (by decide)]
    simp only [hd_cons]; decide
  · rw [if_neg h3, if_neg h4, if_neg h5, if_neg h6]
    rcases (may_word h h3 h4 h5 h6).1 with rfl | rfl | rfl
    · show hd (dropB (110 :: ([117, 108, 108] ++ r))) ≠ 93 ∧ hd (dropB (110 :: ([117, 108, 108] ++ r))) ≠ 125
      rw [dropB_cons (by decide)]; simp only [hd_cons]; decide
    · show hd (dropB (102 :: ([97, 108, 115, 101] ++ r))) ≠ 93 ∧ hd (dropB (102 :: ([97, 108, 115, 101] ++ r))) ≠ 125
      rw [dropB_cons (by decide)]; simp only [hd_cons]; decide
    · show hd (dropB (116 :: ([114, 117, 101] ++ r))) ≠ 93 ∧ hd (dropB (116 :: ([114, 117, 101] ++ r))) ≠ 125
      rw [dropB_cons (by decide)]; simp only [hd_cons]; decide
theorem nd_snoc : ∀ {l : List Bs} {x : Bs} {r : List Bs}, (l ++ x :: r).Nodup → x ∉ l := by
  intro l x r h hx
  rw [List.nodup_append] at h
  exact h.2.2 x hx x (by simp) rfl
/-- A key and its value, as they are written, are read. -/
theorem key_rt {g : Bs} (hg : gap g) {k : Bs} (hk : validD k = true) : ∃ n0, ∀ n U (r : Bs) (seen : List Bs), n0 ≤ n → dropB U = quoT k ++ (g ++ [58] ++ g) ++ r → k ∉ seen → keyP n seen U = some (.ok k (g ++ r)) := by
  obtain ⟨cs, h1, rfl⟩ := valid_utf k.length k (Nat.le_refl _) hk
  refine ⟨cs.length + 1, fun n U r seen hn hU hs => ?_⟩
  unfold keyP
  rw [hU]
  have hq : quoP n (quoT (utfB cs) ++ (g ++ [58] ++ g) ++ r) = some (.ok (utfB cs) ((g ++ [58] ++ g) ++ r)) := by
    unfold quoT quoR
    rw [runesT_utf h1]
    show quoP n (34 :: (cs.flatMap printedR ++ [34] ++ (g ++ [58] ++ g) ++ r)) = _
    unfold quoP
    rw [if_pos (hd_cons ..), List.tail_cons]
    have := str_rt cs n [] ((g ++ [58] ++ g) ++ r) h1 (by omega)
    simpa using this
  rw [hq]
  show (if utfB cs ∈ seen then _ else _) = _
  have e : dropB ((g ++ [58] ++ g) ++ r) = 58 :: (g ++ r) := by
    simp only [List.append_assoc]
    rw [dropB_gap hg, List.singleton_append, dropB_cons (by decide)]
  rw [if_neg hs, e, hd_cons, if_pos rfl, List.tail_cons]
theorem valP_drop (n lev : Nat) {a b : Bs} (h : dropB a = dropB b) : valP n lev a = valP n lev b := by
  cases n with
  | zero => rfl
  | succ n => rw [valP, valP, h]
theorem ev_map {α β : Type} (f : α → β) {x : Nat → Option (Res α)} {a : α} {r : Bs} (h : Ev x (.ok a r)) : Ev (fun n => (x n).map (Res.map f)) (.ok (f a) r) := by
  obtain ⟨n0, h⟩ := h
  exact ⟨n0, fun n hn => by show (x n).map _ = _; rw [h n hn]; rfl⟩
theorem foldl_snoc {β : Type} (l : List β) (a : List β) : l.foldl (fun a x => a ++ [x]) a = a ++ l := by
  induction l generalizing a with
  | nil => simp
  | cons x l ih => rw [List.foldl_cons, ih]; simp
theorem ev_val {f : Nat → Option (Res JV)} {lev : Nat} {l : Bs} {x : Res JV} (h : ∀ n, valP (n + 1) lev l = f n) (he : Ev f x) : Ev (fun n => valP n lev l) x := by
  obtain ⟨n0, he⟩ := he
  refine ⟨n0 + 1, fun n hn => ?_⟩
  obtain ⟨m, rfl⟩ : ∃ m, n = m + 1 := ⟨n - 1, by omega⟩
  show valP (m + 1) lev l = _
  rw [h, he m (by omega)]
theorem zip_back {g : Bs} : ∀ (keys : List Bs) (items : List JV), keys.length = items.length → List.zipWith (pairG g) keys (prL g items) = (keys.zip items).map fun p => pairG g p.1 (prG g p.2)
  | [], [], _ => by simp
  | k :: keys, x :: items, h => by
    rw [prL, List.zipWith_cons_cons, zip_back keys items (by simpa using h)]
    rfl
/-- THE ROUND TRIP. -/
theorem val_rt {g : Bs} (hg : gap g) : ∀ (d : Nat) (v : JV), SizeOf.sizeOf v ≤ d → may v → ∀ lev, lev + deep v ≤ 16 → ∀ r, stopN r → ∃ q, Ev (fun n => valP n lev (prG g v ++ r)) (.ok v q) ∧ dropB q = dropB r := by
  intro d
  induction d with
  | zero =>
    intro v hd
    obtain ⟨k, t, items, keys⟩ := v
    simp at hd
  | succ d ih =>
    intro v hs hv lev hlev r hr
    obtain ⟨k, t, items, keys⟩ := v
    have hsub : ∀ x ∈ items, SizeOf.sizeOf x ≤ d := by
      intro x hx
      have := List.sizeOf_lt_of_mem hx
      simp at hs
      omega
    rw [prG]
    by_cases h3 : k = 3
    · subst h3
      obtain ⟨hn, rfl, rfl⟩ := may_num hv
      obtain ⟨a, b1, b2, b3, b4, b5, b6, _, _⟩ := num_start hn r
      refine ⟨r, ev_val (f := fun _ => some (.ok (.mk 3 t [] []) r)) (fun n => ?_) ⟨0, fun _ _ => rfl⟩, rfl⟩
      rw [valP, if_pos rfl, dropB_hd a]
      unfold valB
      rw [if_neg b1, if_neg b2, if_neg b3, if_neg b4, if_neg b5, if_neg b6]
      unfold mkN
      rw [num_app hr hn, List.nil_append]
      simp
    by_cases h4 : k = 4
    · subst h4
      obtain ⟨hn, rfl, rfl⟩ := may_str hv
      refine ⟨r, ev_val (fun n => ?_) (ev_map (fun t => JV.mk 4 t [] []) (quo_rt hn r)), rfl⟩
      rw [valP, if_neg (by decide), if_pos rfl, dropB_hd (by rw [quo_hd]; decide)]
      unfold valB
      rw [quo_hd, if_neg (by decide), if_neg (by decide), if_neg (by decide), if_pos rfl]
    by_cases h5 : k = 5
    · subst h5
      obtain ⟨hm, rfl, rfl⟩ := may_list hv
      have hd5 : deep (JV.mk 5 [] items []) = deepL items + 1 := by rw [deep]; rfl
      rw [hd5] at hlev
      have hP := parts_rt (g := g) hg (e := 93) (.inl rfl) (fun n => stepL (valP n (lev + 1))) (prG g) (fun a x => a ++ [x]) r (fun l _ => ∀ x ∈ l, x ∈ items) (fun x l a h y hy => h y (by simp [hy]))
        (fun x l a hx q hq => by
          have hxi := hx x (by simp)
          obtain ⟨q', ⟨n0, h0⟩, hq'⟩ := ih x (hsub x hxi) (mayL_mem hm x hxi) (lev + 1) (by have := deepL_mem hxi; omega) q hq
          refine ⟨q', n0, fun n U hn hU => ?_, hq'⟩
          show stepL _ _ _ = _
          unfold stepL
          rw [valP_drop n (lev + 1) hU, show valP n (lev + 1) (prG g x ++ q) = _ from h0 n hn])
        (fun x l a hx q => (pr_start hg (mayL_mem hm x (hx x (by simp))) q).1)
        items [] (g ++ joinG g (items.map (prG g)) ++ (g ++ [93] ++ g) ++ r) true (fun x hx => hx) (fun h => by cases h) (fun _ => rfl)
      rw [foldl_snoc, List.nil_append] at hP
      obtain ⟨n0, hP⟩ := hP
      refine ⟨g ++ r, ev_val (fun n => ?_) (ev_map mkL ⟨n0, fun n hn => hP n n hn hn⟩), dropB_gap hg r⟩
      rw [valP, if_neg (by decide), if_neg (by decide), if_pos rfl]
      simp only [List.append_assoc]
      rw [dropB_gap hg, List.singleton_append, dropB_cons (by decide)]
      unfold valB
      rw [hd_cons, if_neg (by decide), if_neg (by decide), if_neg (by decide), if_neg (by decide), if_pos rfl, if_neg (by omega), List.tail_cons, prL_map]
    by_cases h6 : k = 6
    · subst h6
      obtain ⟨hm, rfl, hlen, hkv, hnd⟩ := may_obj hv
      have hd5 : deep (JV.mk 6 [] items keys) = deepL items + 1 := by rw [deep]; rfl
      rw [hd5] at hlev
      have hP := parts_rt (g := g) hg (e := 125) (.inr rfl) (fun n => stepO n (valP n (lev + 1))) (fun p : Bs × JV => pairG g p.1 (prG g p.2)) (fun a x => a ++ [x]) r
        (fun l a => a ++ l = keys.zip items)
        (fun x l a h => by rw [List.append_assoc]; exact h)
        (fun x l a hx q hq => by
          have hxz : x ∈ keys.zip items := by rw [← hx]; simp
          have hx1 := (List.of_mem_zip hxz).1
          have hx2 := (List.of_mem_zip hxz).2
          have hk1 : x.1 ∉ a.map (·.1) := by
            have e : keys = a.map (·.1) ++ x.1 :: l.map (·.1) := by
              have := congrArg (List.map Prod.fst) hx
              rw [List.map_fst_zip (by omega)] at this
              rw [← this]; simp
            rw [e] at hnd
            exact nd_snoc hnd
          obtain ⟨n1, h1⟩ := key_rt hg (hkv _ hx1)
          obtain ⟨q', ⟨n0, h0⟩, hq'⟩ := ih x.2 (hsub _ hx2) (mayL_mem hm _ hx2) (lev + 1) (by have := deepL_mem hx2; omega) q hq
          refine ⟨q', n0 + n1, fun n U hn hU => ?_, hq'⟩
          show stepO _ _ _ _ = _
          unfold stepO
          have hU2 : dropB U = quoT x.1 ++ (g ++ [58] ++ g) ++ (prG g x.2 ++ q) := by
            rw [hU]
            unfold pairG
            simp only [List.append_assoc]
            rw [dropB_hd (by rw [quo_hd]; decide)]
          rw [h1 n U _ _ (by omega) hU2 hk1]
          show (match valP n (lev + 1) (g ++ (prG g x.2 ++ q)) with | none => none | some (.bad k r) => _ | some (.ok x r) => _) = _
          rw [valP_drop n (lev + 1) (dropB_gap hg (prG g x.2 ++ q)), show valP n (lev + 1) (prG g x.2 ++ q) = _ from h0 n (by omega)])
        (fun x l a _ q => by
          show hd (dropB (pairG g x.1 (prG g x.2) ++ q)) ≠ 125
          unfold pairG
          simp only [List.append_assoc]
          rw [dropB_hd (by rw [quo_hd]; decide), quo_hd]
          decide)
        (keys.zip items) [] (g ++ joinG g ((keys.zip items).map fun p => pairG g p.1 (prG g p.2)) ++ (g ++ [125] ++ g) ++ r) true rfl (fun h => by cases h) (fun _ => rfl)
      rw [foldl_snoc, List.nil_append] at hP
      obtain ⟨n0, hP⟩ := hP
      refine ⟨g ++ r, ?_, dropB_gap hg r⟩
      have hmk : mkO (keys.zip items) = JV.mk 6 [] items keys := by
        unfold mkO
        rw [List.map_fst_zip (by omega), List.map_snd_zip (by omega)]
      rw [← hmk]
      refine ev_val (fun n => ?_) (ev_map mkO ⟨n0, fun n hn => hP n n hn hn⟩)
      rw [valP, if_neg (by decide), if_neg (by decide), if_neg (by decide), if_pos rfl]
      simp only [List.append_assoc]
      rw [dropB_gap hg, List.singleton_append, dropB_cons (by decide)]
      unfold valB
      rw [hd_cons, if_neg (by decide), if_neg (by decide), if_neg (by decide), if_neg (by decide), if_neg (by decide), if_pos rfl, if_neg (by omega), List.tail_cons, zip_back keys items hlen]
    · rw [if_neg h3, if_neg h4, if_neg h5, if_neg h6]
      obtain ⟨hk, rfl, rfl, rfl⟩ := may_word hv h3 h4 h5 h6
      refine ⟨r, ev_val (f := fun _ => some (.ok (.mk k [] [] []) r)) (fun n => ?_) ⟨0, fun _ _ => rfl⟩, rfl⟩
      rw [valP]
      rcases hk with rfl | rfl | rfl
      · rw [show wordOf 0 = nullT from rfl, dropB_hd (show isBl (hd (nullT ++ r)) = false from rfl)]
        unfold valB mkW
        rw [if_pos (show hd (nullT ++ r) = 110 from rfl), word_app]
        rfl
      · rw [show wordOf 1 = falseT from rfl, dropB_hd (show isBl (hd (falseT ++ r)) = false from rfl)]
        unfold valB mkW
        rw [if_neg (show ¬ hd (falseT ++ r) = 110 from fun h => absurd h (show ¬ (102 : UInt8) = 110 by decide)), if_pos (show hd (falseT ++ r) = 102 from rfl), word_app]
        rfl
      · rw [show wordOf 2 = trueT from rfl, dropB_hd (show isBl (hd (trueT ++ r)) = false from rfl)]
        unfold valB mkW
        rw [if_neg (show ¬ hd (trueT ++ r) = 110 from fun h => absurd h (show ¬ (116 : UInt8) = 110 by decide)), if_neg (show ¬ hd (trueT ++ r) = 102 from fun h => absurd h (show ¬ (116 : UInt8) = 102 by decide)), if_pos (show hd (trueT ++ r) = 116 from rfl), word_app]
        rfl
/-- All of a text with blanks. -/
theorem all_rt {g : Bs} (hg : gap g) {v : JV} (hv : may v) (hd : deep v ≤ 16) : Ev (fun n => allP n (g ++ prG g v ++ g)) (.ok v []) := by
  have hstop : stopN g := by
    have := stop_gap hg (r := []) (by decide)
    rwa [List.append_nil] at this
  obtain ⟨q, ⟨n0, h0⟩, hq⟩ := val_rt hg _ v (Nat.le_refl _) hv 0 (by omega) g hstop
  refine ⟨n0, fun n hn => ?_⟩
  show allP n _ = _
  unfold allP
  rw [List.append_assoc, valP_drop n 0 (dropB_gap hg _), show valP n 0 (prG g v ++ g) = _ from h0 n hn]
  have : dropB q = [] := by
    rw [hq]
    have := dropB_gap hg []
    rw [List.append_nil] at this
    rw [this]; rfl
  simp only [this, if_true]
end Go.Proofs.YtafmokpplnmbgaaGreatDoor

/- Layer 11, plain: what is read may be; whatever a text is, it is read, or wrong somewhere. -/
namespace Go.Proofs.YtafmokpplnmbgaaGreatDoor
open Go.Lib

/-! ### Each way ahead goes on -/
theorem dig_lt {t x : Bs} (h : digP t = .ok () x) : x.length < t.length := by
  unfold digP at h
  have := dropD_le t
  split at h
  · cases h
  · rw [Res.ok.injEq] at h
    rw [← h.2]; omega
theorem tail_le (l : Bs) : l.tail.length ≤ l.length := by simp
theorem tail_lt {l : Bs} (h : l ≠ []) : l.tail.length < l.length := by
  have := List.length_pos_iff.2 h
  simp; omega
theorem exp_le {t x : Bs} (h : expP t = .ok () x) : x.length ≤ t.length := by
  unfold expP at h
  split at h
  · split at h
    · have := dig_lt h; have := tail_le t; have := tail_le t.tail; omega
    · have := dig_lt h; have := tail_le t; omega
  · rw [Res.ok.injEq] at h; rw [h.2]; exact Nat.le_refl _
theorem frac_le {t x : Bs} (h : fracP t = .ok () x) : x.length ≤ t.length := by
  unfold fracP at h
  split at h
  · cases hd2 : digP t.tail with
    | bad k q => rw [hd2] at h; cases h
    | ok a q => rw [hd2] at h; have := dig_lt hd2; have := exp_le h; have := tail_le t; omega
  · exact exp_le h
theorem int_lt {t x : Bs} (h : intP t = .ok () x) : x.length < t.length := by
  have hne := int_ne h
  unfold intP at h
  split at h
  · have := frac_le h; have := tail_lt hne; omega
  · cases hd2 : digP t with
    | bad k q => rw [hd2] at h; cases h
    | ok a q => rw [hd2] at h; have := dig_lt hd2; have := frac_le h; omega
theorem num_lt {t x : Bs} (h : numP t = .ok () x) : x.length < t.length := by
  unfold numP at h
  split at h
  · have := int_lt h; have := tail_le t; omega
  · exact int_lt h
theorem word_le : ∀ (w : Bs) {l r : Bs} {u : Unit}, wordP w l = .ok u r → r.length ≤ l.length
  | [], l, r, u, h => by rw [wordP, Res.ok.injEq] at h; rw [h.2]; exact Nat.le_refl _
  | c :: w, l, r, u, h => by
    rw [wordP] at h
    split at h
    · have := word_le w h; have := tail_le l; omega
    · cases h
theorem unit_le : ∀ (k c : Nat) {l r : Bs} {n : Nat}, unitP k c l = .ok n r → r.length ≤ l.length
  | 0, c, l, r, n, h => by rw [unitP, Res.ok.injEq] at h; rw [h.2]; exact Nat.le_refl _
  | k + 1, c, l, r, n, h => by
    rw [unitP] at h
    cases hx : hexV (hd l) with
    | none => rw [hx] at h; cases h
    | some m => rw [hx] at h; have := unit_le k _ h; have := tail_le l; omega
theorem hexV_lt {b : UInt8} {n : Nat} (h : hexV b = some n) : n < 16 := by
  unfold hexV at h
  repeat' split at h
  all_goals first | (rw [Option.some.injEq] at h; omega) | cases h
theorem unit_lt : ∀ (k c : Nat) {l r : Bs} {n : Nat}, unitP k c l = .ok n r → n < (c + 1) * 16 ^ k
  | 0, c, l, r, n, h => by rw [unitP, Res.ok.injEq] at h; omega
  | k + 1, c, l, r, n, h => by
    rw [unitP] at h
    cases hx : hexV (hd l) with
    | none => rw [hx] at h; cases h
    | some m =>
      rw [hx] at h
      have h1 := unit_lt k _ h
      have h2 := hexV_lt hx
      have h3 : (c * 16 + m + 1) * 16 ^ k ≤ ((c + 1) * 16) * 16 ^ k := Nat.mul_le_mul_right _ (by omega)
      rw [Nat.pow_succ, Nat.mul_comm (16 ^ k) 16, ← Nat.mul_assoc]
      omega
theorem isLo_iff (c : Nat) : isLo c = true ↔ 56320 ≤ c ∧ c < 57344 := by unfold isLo; simp
theorem isHi_iff (c : Nat) : isHi c = true ↔ 55296 ≤ c ∧ c < 56320 := by unfold isHi; simp
theorem low_ok {fr r q : Bs} {c d : Nat} (hc : isHi c = true) (h : lowP fr c r = .ok d q) : scal d ∧ q.length ≤ r.length := by
  unfold lowP at h
  split at h
  · cases h
  split at h
  · cases hu : unitP 4 0 r.tail.tail with
    | bad k x => rw [hu] at h; cases h
    | ok lo x =>
      rw [hu] at h
      have h1 := unit_le 4 0 hu
      have h2 := tail_le r.tail
      have h3 := tail_le r
      simp only at h
      split at h
      · rename_i hl
        rw [Res.ok.injEq] at h
        rw [isLo_iff] at hl
        rw [isHi_iff] at hc
        refine ⟨?_, by rw [← h.2]; omega⟩
        unfold scal
        omega
      · cases h
  · cases h
theorem units_ok {fr l q : Bs} {d : Nat} (h : unitsP fr l = .ok d q) : scal d ∧ q.length ≤ l.length := by
  unfold unitsP at h
  cases hu : unitP 4 0 l with
  | bad k x => rw [hu] at h; cases h
  | ok c x =>
    rw [hu] at h
    have h1 := unit_le 4 0 hu
    have h2 := unit_lt 4 0 hu
    simp only at h
    split at h
    · cases h
    split at h
    · rename_i hh
      have := low_ok hh h
      exact ⟨this.1, by omega⟩
    · rename_i ha hb
      rw [Res.ok.injEq] at h
      rw [isLo_iff] at ha
      rw [isHi_iff] at hb
      refine ⟨?_, by rw [← h.2]; omega⟩
      unfold scal
      omega
theorem unesc_lt {b : UInt8} {c : Nat} (h : unesc b = some c) : c < 128 := by
  unfold unesc at h
  repeat' split at h
  all_goals first | (rw [Option.some.injEq] at h; omega) | cases h
theorem esc_ok {fr l q : Bs} {d : Nat} (h : escP fr l = .ok d q) : scal d ∧ q.length ≤ l.length := by
  unfold escP at h
  split at h
  · have := units_ok h
    exact ⟨this.1, by have := tail_le l; omega⟩
  split at h
  · rw [Res.ok.injEq] at h
    refine ⟨by rw [← h.1]; decide, by rw [← h.2]; exact tail_le l⟩
  · cases hu : unesc (hd l) with
    | none => rw [hu] at h; cases h
    | some c =>
      rw [hu] at h
      rw [Res.ok.injEq] at h
      refine ⟨?_, by rw [← h.2]; exact tail_le l⟩
      have := unesc_lt hu
      unfold scal
      omega
/-- A rune that is read is one, and takes a byte at least. -/
theorem one_ok {l q : Bs} {d : Nat} (h : oneP l = .ok d q) : scal d ∧ q.length < l.length := by
  unfold oneP at h
  split at h
  · rename_i h92
    have := esc_ok h
    exact ⟨this.1, by have := tail_lt (ne_hd h92 (by decide)); omega⟩
  · split at h
    · cases h
    · rename_i hn
      rw [Res.ok.injEq] at h
      have hne : l ≠ [] := fun e => hn (.inl e)
      have hw := decodeL_width l
      have hl := List.length_pos_iff.2 hne
      refine ⟨by rw [← h.1]; exact scal_dec l, ?_⟩
      rw [← h.2, List.length_drop]; omega
theorem str_ok : ∀ (n : Nat) {l acc t q : Bs}, strP n l acc = some (.ok t q) → (∃ cs, (∀ c ∈ cs, scal c) ∧ acc = utfB cs) → validD t = true ∧ q.length < l.length
  | 0, l, acc, t, q, h, _ => by cases h
  | n + 1, l, acc, t, q, h, ⟨cs, h1, h2⟩ => by
    rw [strP] at h
    split at h
    · rename_i h34
      rw [Option.some.injEq, Res.ok.injEq] at h
      refine ⟨by rw [← h.1, h2]; exact utf_valid cs h1, by rw [← h.2]; exact tail_lt (ne_hd h34 (by decide))⟩
    · cases ho : oneP l with
      | bad k r => rw [ho] at h; cases h
      | ok c r =>
        rw [ho] at h
        have hc := one_ok ho
        have := str_ok n h ⟨cs ++ [c], by
          intro d hd
          rcases List.mem_append.1 hd with hd | hd
          · exact h1 d hd
          · rw [List.mem_singleton.1 hd]; exact hc.1, by rw [utfB_append, h2]; simp [utfB]⟩
        exact ⟨this.1, by omega⟩
theorem quo_ok {n : Nat} {l t q : Bs} (h : quoP n l = some (.ok t q)) : validD t = true ∧ q.length < l.length := by
  unfold quoP at h
  split at h
  · have := str_ok n h ⟨[], by simp, rfl⟩
    exact ⟨this.1, by have := tail_le l; omega⟩
  · cases h
theorem key_ok {n : Nat} {seen : List Bs} {l t q : Bs} (h : keyP n seen l = some (.ok t q)) : validD t = true ∧ t ∉ seen ∧ q.length < l.length := by
  unfold keyP at h
  cases hq : quoP n (dropB l) with
  | none => rw [hq] at h; cases h
  | some x =>
    rw [hq] at h
    cases x with
    | bad k r => cases h
    | ok key r =>
      simp only at h
      have h1 := quo_ok hq
      have h2 := dropB_le l
      split at h
      · cases h
      rename_i hs
      split at h
      · rw [Option.some.injEq, Res.ok.injEq] at h
        refine ⟨by rw [← h.1]; exact h1.1, by rw [← h.1]; exact hs, ?_⟩
        have h3 := dropB_le r
        have h4 := tail_le (dropB r)
        rw [← h.2]; omega
      · cases h
/-- A step that goes on. -/
theorem parts_ok {α : Type} {e : UInt8} (he : e ≠ 0) {step : α → Bs → Option (Res α)} {good : α → Prop} (hs : ∀ a l b q, good a → step a l = some (.ok b q) → good b ∧ q.length ≤ l.length) :
    ∀ (n : Nat) (first : Bool) (a : α) (l : Bs) (b : α) (q : Bs), good a → partsP e step n first a l = some (.ok b q) → good b ∧ q.length < l.length
  | 0, _, _, _, _, _, _, h => by cases h
  | n + 1, first, a, l, b, q, hg, h => by
    have hb := dropB_le l
    rw [partsP] at h
    split at h
    · rename_i h1
      rw [Option.some.injEq, Res.ok.injEq] at h
      refine ⟨by rw [← h.1]; exact hg, ?_⟩
      have := tail_lt (ne_hd h1 he)
      rw [← h.2]; omega
    split at h
    · cases hx : step a (dropB l) with
      | none => rw [hx] at h; cases h
      | some x =>
        rw [hx] at h
        cases x with
        | bad k r => cases h
        | ok a' r =>
          have h1 := hs _ _ _ _ hg hx
          have h2 := parts_ok he hs n false a' r b q h1.1 h
          exact ⟨h2.1, by omega⟩
    split at h
    · cases hx : step a (dropB l).tail with
      | none => rw [hx] at h; cases h
      | some x =>
        rw [hx] at h
        cases x with
        | bad k r => cases h
        | ok a' r =>
          have h1 := hs _ _ _ _ hg hx
          have h2 := parts_ok he hs n false a' r b q h1.1 h
          have := tail_le (dropB l)
          exact ⟨h2.1, by omega⟩
    · cases h
theorem mayL_of : ∀ {l : List JV}, (∀ x ∈ l, may x) → mayL l
  | [], _ => by rw [mayL]; trivial
  | x :: l, h => by rw [mayL]; exact ⟨h x (by simp), mayL_of fun y hy => h y (by simp [hy])⟩
theorem deepL_of {n : Nat} : ∀ {l : List JV}, (∀ x ∈ l, deep x ≤ n) → deepL l ≤ n
  | [], _ => by rw [deepL]; omega
  | x :: l, h => by
    rw [deepL]
    have h1 := h x (by simp)
    have h2 := deepL_of (l := l) fun y hy => h y (by simp [hy])
    omega
theorem dropD_pre : ∀ l : Bs, ∃ t, l = t ++ dropD l ∧ dropD t = []
  | [] => ⟨[], rfl, rfl⟩
  | c :: l => by
    rw [dropD]
    split
    · rename_i h
      obtain ⟨t, h1, h2⟩ := dropD_pre l
      refine ⟨c :: t, ?_, ?_⟩
      · rw [List.cons_append, ← h1]
      · rw [dropD, if_pos h]; exact h2
    · exact ⟨[], rfl, rfl⟩
theorem dropD_stop : ∀ l : Bs, isDg (hd (dropD l)) = false
  | [] => rfl
  | c :: l => by
    rw [dropD]
    split
    · exact dropD_stop l
    · rename_i h
      rw [hd_cons]
      simpa using h
theorem dig_all {t : Bs} (h : dropD t = []) (hne : t ≠ []) : digP t = .ok () [] := by
  unfold digP
  have := List.length_pos_iff.2 hne
  rw [h, if_neg (by simp only [List.length_nil]; omega)]
theorem dig_pre {l r : Bs} (h : digP l = .ok () r) : ∃ t, l = t ++ r ∧ dropD t = [] ∧ t ≠ [] ∧ isDg (hd r) = false := by
  unfold digP at h
  split at h
  · cases h
  · rename_i hn
    rw [Res.ok.injEq] at h
    obtain ⟨t, h1, h2⟩ := dropD_pre l
    rw [← h.2]
    refine ⟨t, h1, h2, ?_, dropD_stop l⟩
    rintro rfl
    rw [List.nil_append] at h1
    exact hn (by rw [← h1])
theorem cons_of_hd {l : Bs} {c : UInt8} (h : hd l = c) (hc : c ≠ 0) : l = c :: l.tail := by
  cases l with
  | nil => exact absurd h.symm hc
  | cons d l => rw [hd_cons] at h; rw [h]; rfl
theorem exp_pre {l r : Bs} (h : expP l = .ok () r) : ∃ t, l = t ++ r ∧ expP t = .ok () [] ∧ isDg (hd t) = false := by
  unfold expP at h
  split at h
  · rename_i he
    have hc : ∃ c, l = c :: l.tail ∧ (c = 101 ∨ c = 69) := by
      rcases he with he | he
      · exact ⟨101, cons_of_hd he (by decide), .inl rfl⟩
      · exact ⟨69, cons_of_hd he (by decide), .inr rfl⟩
    obtain ⟨c, hl, hc⟩ := hc
    split at h
    · rename_i hs
      have hc2 : ∃ c, l.tail = c :: l.tail.tail ∧ (c = 43 ∨ c = 45) := by
        rcases hs with hs | hs
        · exact ⟨43, cons_of_hd hs (by decide), .inl rfl⟩
        · exact ⟨45, cons_of_hd hs (by decide), .inr rfl⟩
      obtain ⟨s, hl2, hs2⟩ := hc2
      obtain ⟨t, h1, h2, h3, _⟩ := dig_pre h
      refine ⟨c :: s :: t, ?_, ?_, ?_⟩
      · rw [List.cons_append, List.cons_append, ← h1, ← hl2, ← hl]
      · unfold expP
        rw [hd_cons, if_pos hc, List.tail_cons, hd_cons, if_pos hs2, List.tail_cons]
        exact dig_all h2 h3
      · rw [hd_cons]; rcases hc with rfl | rfl <;> decide
    · rename_i hs
      obtain ⟨t, h1, h2, h3, _⟩ := dig_pre h
      refine ⟨c :: t, ?_, ?_, ?_⟩
      · rw [List.cons_append, ← h1, ← hl]
      · unfold expP
        rw [hd_cons, if_pos hc, List.tail_cons]
        have e : hd t = hd l.tail := by rw [h1, hd_app h3]
        rw [e, if_neg hs]
        exact dig_all h2 h3
      · rw [hd_cons]; rcases hc with rfl | rfl <;> decide
  · rw [Res.ok.injEq] at h
    exact ⟨[], h.2, rfl, rfl⟩
theorem frac_pre {l r : Bs} (h : fracP l = .ok () r) : ∃ t, l = t ++ r ∧ fracP t = .ok () [] ∧ isDg (hd t) = false := by
  unfold fracP at h
  split at h
  · rename_i he
    have hl := cons_of_hd he (by decide)
    cases hx : digP l.tail with
    | bad k q => rw [hx] at h; cases h
    | ok u q =>
      rw [hx] at h
      obtain ⟨t1, h1, h2, h3, h4⟩ := dig_pre hx
      obtain ⟨t2, h5, h6, h7⟩ := exp_pre (l := q) (r := r) h
      refine ⟨46 :: (t1 ++ t2), ?_, ?_, ?_⟩
      · rw [List.cons_append, List.append_assoc, ← h5, ← h1, ← hl]
      · unfold fracP
        rw [hd_cons, if_pos rfl, List.tail_cons, dig_app (r := t2) h7 (dig_all h2 h3)]
        exact h6
      · rw [hd_cons]; decide
  · rename_i he
    obtain ⟨t, h5, h6, h7⟩ := exp_pre (l := l) (r := r) h
    refine ⟨t, h5, ?_, h7⟩
    unfold fracP
    rw [if_neg]
    · exact h6
    · by_cases hne : t = []
      · subst hne; decide
      · have : hd l = hd t := by rw [h5, hd_app hne]
        rw [← this]; exact he
theorem int_pre {l r : Bs} (h : intP l = .ok () r) : ∃ t, l = t ++ r ∧ intP t = .ok () [] := by
  unfold intP at h
  split at h
  · rename_i he
    have hl := cons_of_hd he (by decide)
    obtain ⟨t, h5, h6, _⟩ := frac_pre h
    refine ⟨48 :: t, ?_, ?_⟩
    · rw [List.cons_append, ← h5, ← hl]
    · unfold intP
      rw [hd_cons, if_pos rfl]
      exact h6
  · rename_i he
    cases hx : digP l with
    | bad k q => rw [hx] at h; cases h
    | ok u q =>
      rw [hx] at h
      obtain ⟨t1, h1, h2, h3, h4⟩ := dig_pre hx
      obtain ⟨t2, h5, h6, h7⟩ := frac_pre (l := q) (r := r) h
      refine ⟨t1 ++ t2, ?_, ?_⟩
      · rw [List.append_assoc, ← h5, ← h1]
      · unfold intP
        have e : hd (t1 ++ t2) = hd l := by rw [h1, hd_app h3, hd_app h3]
        rw [e, if_neg he, dig_app (r := t2) h7 (dig_all h2 h3)]
        exact h6
theorem num_pre {l r : Bs} (h : numP l = .ok () r) : ∃ t, l = t ++ r ∧ numP t = .ok () [] := by
  unfold numP at h
  split at h
  · rename_i he
    have hl := cons_of_hd he (by decide)
    obtain ⟨t, h1, h2⟩ := int_pre h
    refine ⟨45 :: t, by rw [List.cons_append, ← h1, ← hl], ?_⟩
    unfold numP
    rw [hd_cons, if_pos rfl]
    exact h2
  · rename_i he
    obtain ⟨t, h1, h2⟩ := int_pre h
    refine ⟨t, h1, ?_⟩
    unfold numP
    have e : hd t = hd l := by rw [h1, hd_app (int_ne h2)]
    rw [e, if_neg he]
    exact h2
theorem num_take {l r : Bs} (h : numP l = .ok () r) : numP (l.take (l.length - r.length)) = .ok () [] := by
  obtain ⟨t, h1, h2⟩ := num_pre h
  have : l.take (l.length - r.length) = t := by
    rw [h1, List.length_append, Nat.add_sub_cancel, List.take_left]
  rw [this]
  exact h2
/-- WHAT IS READ MAY BE, and is no deeper than may be. -/
theorem val_ok : ∀ (n lev : Nat) (l : Bs) (v : JV) (q : Bs), lev ≤ 16 → valP n lev l = some (.ok v q) → may v ∧ lev + deep v ≤ 16 ∧ q.length < l.length
  | 0, lev, l, v, q, _, h => by cases h
  | n + 1, lev, l, v, q, hlev, h => by
    rw [valP] at h
    have hb := dropB_le l
    generalize dropB l = m at h hb
    unfold valB at h
    have word : ∀ k w, (k = 0 ∨ k = 1 ∨ k = 2) → hd w ≠ 0 → some (mkW k w m) = some (.ok v q) → may v ∧ lev + deep v ≤ 16 ∧ q.length < l.length := by
      intro k w hk hw h
      unfold mkW at h
      cases w with
      | nil => exact absurd rfl hw
      | cons c w =>
        rw [hd_cons] at hw
        rw [wordP] at h
        split at h
        · rename_i hc
          cases hx : wordP w m.tail with
          | bad k r => rw [hx] at h; cases h
          | ok u r =>
            rw [hx] at h
            simp only [Res.map, Option.some.injEq, Res.ok.injEq] at h
            have h1 := word_le w hx
            obtain ⟨rfl, rfl⟩ := h
            refine ⟨?_, ?_, ?_⟩
            · rw [may]; exact ⟨by rw [mayL]; trivial, .inl ⟨hk, rfl, rfl, rfl⟩⟩
            · rw [deep, if_neg (by omega), deepL]; omega
            · have := tail_lt (ne_hd hc hw); omega
        · cases h
    split at h
    · exact word 0 nullT (by simp) (by decide) h
    split at h
    · exact word 1 falseT (by simp) (by decide) h
    split at h
    · exact word 2 trueT (by simp) (by decide) h
    split at h
    · cases hx : quoP n m with
      | none => rw [hx] at h; cases h
      | some x =>
        rw [hx] at h
        cases x with
        | bad k r => cases h
        | ok t r =>
          simp only [Option.map_some, Res.map, Option.some.injEq, Res.ok.injEq] at h
          obtain ⟨rfl, rfl⟩ := h
          have h1 := quo_ok hx
          refine ⟨?_, ?_, by omega⟩
          · rw [may]; exact ⟨by rw [mayL]; trivial, .inr (.inr (.inl ⟨rfl, h1.1, rfl, rfl⟩))⟩
          · rw [deep, if_neg (by omega), deepL]; omega
    split at h
    · split at h
      · cases h
      · rename_i h91 h16
        cases hx : partsP 93 (stepL (valP n (lev + 1))) n true [] m.tail with
        | none => rw [hx] at h; cases h
        | some x =>
          rw [hx] at h
          cases x with
          | bad k r => cases h
          | ok acc r =>
            simp only [Option.map_some, Res.map, Option.some.injEq, Res.ok.injEq] at h
            obtain ⟨rfl, rfl⟩ := h
            have hp := parts_ok (e := 93) (by decide) (step := stepL (valP n (lev + 1))) (good := fun acc : List JV => ∀ x ∈ acc, may x ∧ lev + 1 + deep x ≤ 16) (by
              intro a l b q ha hs
              unfold stepL at hs
              cases hv : valP n (lev + 1) l with
              | none => rw [hv] at hs; cases hs
              | some y =>
                rw [hv] at hs
                cases y with
                | bad k r => cases hs
                | ok y r =>
                  rw [Option.some.injEq, Res.ok.injEq] at hs
                  obtain ⟨rfl, rfl⟩ := hs
                  have := val_ok n (lev + 1) l y _ (by omega) hv
                  refine ⟨fun z hz => ?_, by omega⟩
                  rcases List.mem_append.1 hz with hz | hz
                  · exact ha z hz
                  · rw [List.mem_singleton.1 hz]; exact ⟨this.1, this.2.1⟩) n true [] m.tail acc _ (by simp) hx
            refine ⟨?_, ?_, by have := tail_le m; omega⟩
            · unfold mkL; rw [may]; exact ⟨mayL_of fun x hx => (hp.1 x hx).1, .inr (.inr (.inr (.inl ⟨rfl, rfl, rfl⟩)))⟩
            · unfold mkL; rw [deep, if_pos (.inl rfl)]
              have := deepL_of (n := 16 - lev - 1) (l := acc) fun x hx => by have := (hp.1 x hx).2; omega
              omega
    split at h
    · split at h
      · cases h
      · rename_i h91 h16
        cases hx : partsP 125 (stepO n (valP n (lev + 1))) n true [] m.tail with
        | none => rw [hx] at h; cases h
        | some x =>
          rw [hx] at h
          cases x with
          | bad k r => cases h
          | ok acc r =>
            simp only [Option.map_some, Res.map, Option.some.injEq, Res.ok.injEq] at h
            obtain ⟨rfl, rfl⟩ := h
            have hp := parts_ok (e := 125) (by decide) (step := stepO n (valP n (lev + 1))) (good := fun acc : List (Bs × JV) => (∀ x ∈ acc, (may x.2 ∧ lev + 1 + deep x.2 ≤ 16) ∧ validD x.1 = true) ∧ (acc.map (·.1)).Nodup) (by
              intro a l b q ha hs
              unfold stepO at hs
              cases hk : keyP n (a.map (·.1)) l with
              | none => rw [hk] at hs; cases hs
              | some y =>
                rw [hk] at hs
                cases y with
                | bad k r => cases hs
                | ok key r0 =>
                  have hkk := key_ok hk
                  simp only at hs
                  cases hv : valP n (lev + 1) r0 with
                  | none => rw [hv] at hs; cases hs
                  | some y =>
                    rw [hv] at hs
                    cases y with
                    | bad k r => cases hs
                    | ok y r =>
                      rw [Option.some.injEq, Res.ok.injEq] at hs
                      obtain ⟨rfl, rfl⟩ := hs
                      have := val_ok n (lev + 1) r0 y _ (by omega) hv
                      refine ⟨⟨fun z hz => ?_, ?_⟩, by omega⟩
                      · rcases List.mem_append.1 hz with hz | hz
                        · exact ha.1 z hz
                        · rw [List.mem_singleton.1 hz]; exact ⟨⟨this.1, this.2.1⟩, hkk.1⟩
                      · rw [List.map_append, List.nodup_append]
                        refine ⟨ha.2, by simp, ?_⟩
                        intro x hx y hy
                        simp at hy
                        rintro rfl
                        subst hy
                        exact hkk.2.1 hx) n true [] m.tail acc _ ⟨by simp, by simp⟩ hx
            refine ⟨?_, ?_, by have := tail_le m; omega⟩
            · unfold mkO; rw [may]
              refine ⟨mayL_of fun x hx => ?_, .inr (.inr (.inr (.inr ⟨rfl, rfl, by simp, ?_, hp.1.2⟩)))⟩
              · obtain ⟨p, hp1, rfl⟩ := List.mem_map.1 hx
                exact (hp.1.1 p hp1).1.1
              · intro x hx
                obtain ⟨p, hp1, rfl⟩ := List.mem_map.1 hx
                exact (hp.1.1 p hp1).2
            · unfold mkO; rw [deep, if_pos (.inr rfl)]
              have := deepL_of (n := 16 - lev - 1) (l := acc.map (·.2)) fun x hx => by
                obtain ⟨p, hp1, rfl⟩ := List.mem_map.1 hx
                have := (hp.1.1 p hp1).1.2
                omega
              omega
    · rw [Option.some.injEq] at h
      unfold mkN at h
      cases hx : numP m with
      | bad k r => rw [hx] at h; cases h
      | ok u r =>
        rw [hx] at h
        rw [Res.ok.injEq] at h
        obtain ⟨rfl, rfl⟩ := h
        have := num_lt hx
        refine ⟨?_, ?_, by omega⟩
        · rw [may]; exact ⟨by rw [mayL]; trivial, .inr (.inl ⟨rfl, num_take hx, rfl, rfl⟩)⟩
        · rw [deep, if_neg (by omega), deepL]; omega
end Go.Proofs.YtafmokpplnmbgaaGreatDoor

/- Layer 11, plain: of what is cut off nothing is read, but of a number; whatever a text is, it is read, or wrong somewhere; what is too deep is wrong at the bracket that is. -/
namespace Go.Proofs.YtafmokpplnmbgaaGreatDoor
open Go.Lib

/-- Wrong, or at the end. -/
def halt {α : Type} (x : Res α) : Prop := (∃ r, x = .bad 10 r) ∨ ∃ a, x = .ok a []
theorem dropD_take {t : Bs} (h : dropD t = []) (k : Nat) : dropD (t.take k) = [] := by
  induction t generalizing k with
  | nil => simp [dropD]
  | cons c t ih =>
    rw [dropD] at h
    split at h
    · rename_i hc
      cases k with
      | zero => rfl
      | succ k => rw [List.take_succ_cons, dropD, if_pos hc]; exact ih h k
    · cases h
theorem dig_cut {t : Bs} (h : dropD t = []) (k : Nat) : halt (digP (t.take k)) := by
  by_cases hne : t.take k = []
  · rw [hne]; exact .inl ⟨[], rfl⟩
  · exact .inr ⟨(), dig_all (dropD_take h k) hne⟩
theorem dig_ok_nil {t : Bs} (h : digP t = .ok () []) : dropD t = [] := by
  unfold digP at h
  split at h
  · cases h
  · rw [Res.ok.injEq] at h; exact h.2
theorem hd_take {l : Bs} {k : Nat} (hk : 0 < k) : hd (l.take k) = hd l := by
  cases l with
  | nil => simp
  | cons c l => obtain ⟨j, rfl⟩ : ∃ j, k = j + 1 := ⟨k - 1, by omega⟩; rfl
theorem tail_take {l : Bs} {k : Nat} : (l.take (k + 1)).tail = l.tail.take k := by
  cases l with
  | nil => simp
  | cons c l => rfl
theorem exp_cut {t : Bs} (h : expP t = .ok () []) (k : Nat) : halt (expP (t.take k)) := by
  cases k with
  | zero => exact .inr ⟨(), rfl⟩
  | succ k =>
    unfold expP at h ⊢
    rw [hd_take (by omega), tail_take]
    split at h
    · rename_i he
      rw [if_pos he]
      split at h
      · rename_i hs
        cases k with
        | zero => exact .inl ⟨[], rfl⟩
        | succ k =>
          rw [hd_take (by omega), if_pos hs, tail_take]
          exact dig_cut (dig_ok_nil h) k
      · rename_i hs
        cases k with
        | zero => exact .inl ⟨[], rfl⟩
        | succ k =>
          rw [hd_take (by omega), if_neg hs]
          exact dig_cut (dig_ok_nil h) (k + 1)
    · rename_i he
      rw [if_neg he]
      rw [Res.ok.injEq] at h
      rw [h.2]
      exact .inr ⟨(), rfl⟩
/-- Digits, and what goes on behind them, cut off. -/
theorem then_cut {t q : Bs} {f : Bs → Res Unit} (hx : digP t = .ok () q) (hf : ∀ k, halt (f (q.take k))) (k : Nat) : halt (match digP (t.take k) with | .bad k r => .bad k r | .ok _ r => f r) := by
  obtain ⟨t1, h1, h2, h3, h4⟩ := dig_pre hx
  rw [h1, List.take_append]
  by_cases hk : k ≤ t1.length
  · have e : q.take (k - t1.length) = [] := by rw [show k - t1.length = 0 by omega]; rfl
    rw [e, List.append_nil]
    rcases dig_cut h2 k with ⟨r, h⟩ | ⟨_, h⟩
    · rw [h]; exact .inl ⟨r, rfl⟩
    · rw [h]
      have := hf 0
      rwa [List.take_zero] at this
  · have e : t1.take k = t1 := List.take_of_length_le (by omega)
    rw [e]
    have hs : isDg (hd (q.take (k - t1.length))) = false := by rw [hd_take (by omega)]; exact h4
    rw [dig_app (r := q.take (k - t1.length)) hs (dig_all h2 h3)]
    exact hf _
theorem frac_cut {t : Bs} (h : fracP t = .ok () []) (k : Nat) : halt (fracP (t.take k)) := by
  cases k with
  | zero => exact .inr ⟨(), rfl⟩
  | succ k =>
    unfold fracP at h ⊢
    rw [hd_take (by omega), tail_take]
    split at h
    · rename_i he
      rw [if_pos he]
      cases hx : digP t.tail with
      | bad k q => rw [hx] at h; cases h
      | ok u q =>
        rw [hx] at h
        exact then_cut hx (fun j => exp_cut h j) k
    · rename_i he
      rw [if_neg he]
      exact exp_cut h (k + 1)
theorem int_cut {t : Bs} (h : intP t = .ok () []) (k : Nat) : halt (intP (t.take k)) := by
  cases k with
  | zero => exact .inl ⟨[], rfl⟩
  | succ k =>
    unfold intP at h ⊢
    rw [hd_take (by omega), tail_take]
    split at h
    · rename_i he
      rw [if_pos he]
      exact frac_cut h k
    · rename_i he
      rw [if_neg he]
      cases hx : digP t with
      | bad k q => rw [hx] at h; cases h
      | ok u q =>
        rw [hx] at h
        exact then_cut hx (fun j => frac_cut h j) (k + 1)
theorem num_cut {t : Bs} (h : numP t = .ok () []) (k : Nat) : halt (numP (t.take k)) := by
  cases k with
  | zero => exact .inl ⟨[], rfl⟩
  | succ k =>
    unfold numP at h ⊢
    rw [hd_take (by omega), tail_take]
    split at h
    · rename_i he
      rw [if_pos he]
      exact int_cut h k
    · rename_i he
      rw [if_neg he]
      exact int_cut h (k + 1)
theorem word_cut : ∀ (w : Bs) (k : Nat), (∀ c ∈ w, c ≠ 0) → k < w.length → wordP w (w.take k) = .bad 10 []
  | [], k, _, h => by simp at h
  | c :: w, 0, hw, _ => by
    rw [List.take_zero, wordP, if_neg (fun h => hw c (by simp) h.symm)]
  | c :: w, k + 1, hw, h => by
    rw [List.take_succ_cons, wordP, if_pos (hd_cons ..)]
    exact word_cut w k (fun d hd => hw d (by simp [hd])) (by simpa using h)
/-! ### Strings -/
theorem one_nil : oneP [] = .bad 10 [] := rfl
theorem low_cut : ∀ d : Fin 16, ∀ e : Fin 2, ∀ k : Fin 5, (match escP (92 :: ([117, 48, 48, if e.val = 0 then 48 else 49, hexd d.val] : Bs).take (k.val + 1)) (([117, 48, 48, if e.val = 0 then 48 else 49, hexd d.val] : Bs).take (k.val + 1)) with | .bad c _ => decide (c = 10) | .ok _ _ => decide (k.val = 4)) = true := by decide
theorem one_esc_cut (d : Nat) (hd4 : d < 16) (e : Nat) (he : e < 2) (k : Nat) (h0 : 0 < k) (hk : k < 6) : ∃ r, oneP ((92 :: [117, 48, 48, if e = 0 then 48 else 49, hexd d]).take k) = .bad 10 r := by
  obtain ⟨j, rfl⟩ : ∃ j, k = j + 1 := ⟨k - 1, by omega⟩
  rw [List.take_succ_cons]
  unfold oneP
  rw [if_pos (hd_cons ..), List.tail_cons]
  cases j with
  | zero => exact ⟨_, rfl⟩
  | succ j =>
    have := low_cut ⟨d, hd4⟩ ⟨e, he⟩ ⟨j, by omega⟩
    generalize hx : escP (92 :: ([117, 48, 48, if e = 0 then 48 else 49, hexd d] : Bs).take (j + 1)) (([117, 48, 48, if e = 0 then 48 else 49, hexd d] : Bs).take (j + 1)) = x at this ⊢
    cases x with
    | ok a r => simp at this; omega
    | bad code r =>
      simp only [decide_eq_true_eq] at this
      subst this
      exact ⟨r, rfl⟩
theorem one_cut {c : Nat} (hc : scal c) (k : Nat) (h0 : 0 < k) (hk : k < (printedR c).length) : ∃ r, oneP ((printedR c).take k) = .bad 10 r := by
  unfold printedR at hk ⊢
  cases he : escR c with
  | some b =>
    rw [he] at hk
    obtain rfl : k = 1 := by simp at hk; omega
    exact ⟨[], rfl⟩
  | none =>
    rw [he] at hk
    simp only at hk ⊢
    by_cases h16 : c < 16
    · rw [if_pos h16] at hk ⊢
      exact one_esc_cut c h16 0 (by omega) k h0 (by simpa using hk)
    by_cases h32 : c < 32
    · rw [if_neg h16, if_pos h32] at hk ⊢
      exact one_esc_cut (c - 16) (by omega) 1 (by omega) k h0 (by simpa using hk)
    · rw [if_neg h16, if_neg h32] at hk ⊢
      have h92 : c ≠ 92 := by
        rintro rfl
        exact absurd he (by decide)
      have := hd_enc_ne hc 92 (by omega) h92 []
      rw [List.append_nil] at this
      unfold oneP
      rw [hd_take h0, if_neg (show ¬ hd _ = 92 from this), if_pos (.inr (.inl (dec_cut hc k h0 hk)))]
      exact ⟨_, rfl⟩
theorem str_cut : ∀ (cs : List Nat) (n k : Nat) (acc : Bs), (∀ c ∈ cs, scal c) → cs.length < n → k < (cs.flatMap printedR ++ [34]).length → ∃ r, strP n ((cs.flatMap printedR ++ [34]).take k) acc = some (.bad 10 r)
  | [], n, k, acc, _, hn, hk => by
    obtain ⟨m, rfl⟩ : ∃ m, n = m + 1 := ⟨n - 1, by simp at hn; omega⟩
    obtain rfl : k = 0 := by simp at hk; omega
    exact ⟨[], rfl⟩
  | c :: cs, n, k, acc, h, hn, hk => by
    obtain ⟨m, rfl⟩ : ∃ m, n = m + 1 := ⟨n - 1, by simp at hn; omega⟩
    have hc := h c (by simp)
    rw [List.flatMap_cons, List.append_assoc] at hk ⊢
    by_cases h0 : k = 0
    · subst h0; exact ⟨[], rfl⟩
    by_cases hlt : k < (printedR c).length
    · rw [List.take_append_of_le_length (by omega), strP]
      have h34 := printed_hd hc []
      rw [List.append_nil] at h34
      rw [hd_take (by omega), if_neg h34]
      obtain ⟨r, hr⟩ := one_cut hc k (by omega) hlt
      rw [hr]
      exact ⟨r, rfl⟩
    · rw [List.take_append, List.take_of_length_le (by omega), strP, if_neg (printed_hd hc _), one_printed hc]
      rw [List.length_append] at hk
      exact str_cut cs m (k - (printedR c).length) _ (fun d hd => h d (by simp [hd])) (by simp at hn; omega) (by omega)
theorem quo_cut {t : Bs} (ht : validD t = true) : ∃ n0, ∀ n k, n0 ≤ n → k < (quoT t).length → ∃ r, quoP n ((quoT t).take k) = some (.bad 10 r) := by
  obtain ⟨cs, h1, rfl⟩ := valid_utf t.length t (Nat.le_refl _) ht
  refine ⟨cs.length + 1, fun n k hn hk => ?_⟩
  unfold quoT quoR at hk ⊢
  rw [runesT_utf h1] at hk ⊢
  cases k with
  | zero => exact ⟨[], rfl⟩
  | succ k =>
    rw [List.take_succ_cons]
    unfold quoP
    rw [if_pos (hd_cons ..), List.tail_cons]
    exact str_cut cs n k [] h1 (by omega) (by simpa using hk)

/-! ### Values -/
theorem mkN_nil : mkN [] = .bad 10 [] := rfl
theorem val_nil (n lev : Nat) : valP (n + 1) lev [] = some (.bad 10 []) := rfl
theorem key_nil (n : Nat) (seen : List Bs) : keyP n seen [] = some (.bad 10 []) := rfl
theorem take_len {x r : Bs} {k : Nat} (h : x.length ≤ k) : (x ++ r).take k = x ++ r.take (k - x.length) := by
  rw [List.take_append, List.take_of_length_le h]
/-- The parts of a list that is cut off are none. -/
theorem parts_cut {α β : Type} {e : UInt8} (he : e = 93 ∨ e = 125) (step : Nat → α → Bs → Option (Res α)) (tx : β → Bs) (put : α → β → α)
    (good : List β → α → Prop) (hgood : ∀ x l a, good (x :: l) a → good l (put a x))
    (hstep : ∀ x l a, good (x :: l) a → ∀ r, stopN r → ∃ q n0, (∀ n U, n0 ≤ n → dropB U = dropB (tx x ++ r) → step n a U = some (.ok (put a x) q)) ∧ dropB q = dropB r)
    (hcut : ∀ x l a, good (x :: l) a → ∀ k, k < (tx x).length → ∃ n0, ∀ n, n0 ≤ n → ∃ R, step n a ((tx x).take k) = some R ∧ halt R)
    (hnb : ∀ x l a, good (x :: l) a → ∀ r, dropB (tx x ++ r) = tx x ++ r) (hnt : ∀ x l a, good (x :: l) a → hd (tx x) ≠ e) (hempty : ∀ n a, 0 < n → ∃ r, step n a [] = some (.bad 10 r)) :
    ∀ (l : List β) (a : α) (T : Bs) (first : Bool) (k : Nat), good l a →
      (first = false → k < (sepG [] (l.map tx) ++ [e]).length ∧ dropB T = (sepG [] (l.map tx) ++ [e]).take k) →
      (first = true → k < (joinG [] (l.map tx) ++ [e]).length ∧ T = (joinG [] (l.map tx) ++ [e]).take k) →
      ∃ n0, ∀ n m, n0 ≤ n → n0 ≤ m → ∃ r, partsP e (step n) m first a T = some (.bad 10 r) := by
  have hE0 : e ≠ 44 := by rcases he with rfl | rfl <;> decide
  have hEz : (0 : UInt8) ≠ e := by rcases he with rfl | rfl <;> decide
  have hEb : isBl e = false := by rcases he with rfl | rfl <;> decide
  have hEs : stopN [e] := by rcases he with rfl | rfl <;> decide
  -- nothing is left
  have hend : ∀ (a : α) (T : Bs) (first : Bool), dropB T = [] → ∀ n m, 1 ≤ n → 1 ≤ m → ∃ r, partsP e (step n) m first a T = some (.bad 10 r) := by
    intro a T first hT n m hn hm
    obtain ⟨j, rfl⟩ : ∃ j, m = j + 1 := ⟨m - 1, by omega⟩
    rw [partsP, hT, if_neg (show ¬ hd [] = e from hEz)]
    cases first with
    | true =>
      obtain ⟨r, hr⟩ := hempty n a (by omega)
      rw [if_pos rfl, hr]
      exact ⟨r, rfl⟩
    | false =>
      rw [if_neg (by decide), if_neg (by decide)]
      exact ⟨_, rfl⟩
  have hSk : ∀ (l : List β) (k : Nat), stopN ((sepG [] (l.map tx) ++ [e]).take k) := by
    intro l k
    cases k with
    | zero => rw [List.take_zero]; decide
    | succ k =>
      cases l with
      | nil => exact hEs
      | cons y l => exact stop_cons (c := 44) (by decide) _
  have hSd : ∀ (l : List β) (k : Nat), dropB ((sepG [] (l.map tx) ++ [e]).take k) = (sepG [] (l.map tx) ++ [e]).take k := by
    intro l k
    refine dropB_hd ?_
    cases k with
    | zero => rfl
    | succ k =>
      cases l with
      | nil => exact hEb
      | cons y l => rfl
  intro l
  induction l with
  | nil =>
    intro a T first k _ h1 h2
    refine ⟨1, fun n m hn hm => hend a T first ?_ n m hn hm⟩
    cases first with
    | false =>
      obtain ⟨hk, hT⟩ := h1 rfl
      obtain rfl : k = 0 := by simp [sepG] at hk; omega
      rw [hT]; rfl
    | true =>
      obtain ⟨hk, hT⟩ := h2 rfl
      obtain rfl : k = 0 := by simp [joinG] at hk; omega
      rw [hT]; rfl
  | cons x l ih =>
    intro a T first k hga h1 h2
    -- the part itself, cut off or whole
    have part : ∀ j, j < (tx x ++ (sepG [] (l.map tx) ++ [e])).length → ∃ n0, ∀ n m, n0 ≤ n → n0 ≤ m → ∃ r, (match step n a ((tx x ++ (sepG [] (l.map tx) ++ [e])).take j) with | none => none | some (.bad k r) => some (.bad k r) | some (.ok a r) => partsP e (step n) m false a r) = some (.bad 10 r) := by
      intro j hj
      by_cases hlt : j < (tx x).length
      · obtain ⟨n0, h0⟩ := hcut x l a hga j hlt
        refine ⟨n0 + 1, fun n m hn hm => ?_⟩
        obtain ⟨R, hR, hh⟩ := h0 n (by omega)
        rw [List.take_append_of_le_length (by omega), hR]
        rcases hh with ⟨r, rfl⟩ | ⟨b, rfl⟩
        · exact ⟨r, rfl⟩
        · exact hend b [] false rfl n m (by omega) (by omega)
      · obtain ⟨q, n0, hq1, hq2⟩ := hstep x l a hga ((sepG [] (l.map tx) ++ [e]).take (j - (tx x).length)) (hSk l _)
        obtain ⟨n1, hn1⟩ := ih (put a x) q false (j - (tx x).length) (hgood _ _ _ hga) (fun _ => ⟨by rw [List.length_append] at hj; omega, by rw [hq2, hSd]⟩) (fun h => by cases h)
        refine ⟨n0 + n1, fun n m hn hm => ?_⟩
        rw [take_len (by omega), hq1 n _ (by omega) rfl]
        exact hn1 n m (by omega) (by omega)
    cases first with
    | false =>
      obtain ⟨hk, hT⟩ := h1 rfl
      cases k with
      | zero => exact ⟨1, fun n m hn hm => hend a T false (by rw [hT]; rfl) n m hn hm⟩
      | succ k =>
        have hT2 : dropB T = 44 :: (tx x ++ (sepG [] (l.map tx) ++ [e])).take k := by
          rw [hT]
          simp [sepG]
        obtain ⟨n0, h0⟩ := part k (by simp [sepG] at hk ⊢; omega)
        refine ⟨n0 + 1, fun n m hn hm => ?_⟩
        obtain ⟨j, rfl⟩ : ∃ j, m = j + 1 := ⟨m - 1, by omega⟩
        rw [partsP, hT2, hd_cons, if_neg (fun h => hE0 h.symm), if_neg (by decide), if_pos rfl, List.tail_cons]
        exact h0 n j (by omega) (by omega)
    | true =>
      obtain ⟨hk, hT⟩ := h2 rfl
      rw [List.map_cons, joinG_cons, List.append_assoc] at hk hT
      by_cases hk0 : k = 0
      · subst hk0
        exact ⟨1, fun n m hn hm => hend a T true (by rw [hT]; rfl) n m hn hm⟩
      obtain ⟨n0, h0⟩ := part k hk
      refine ⟨n0 + 1, fun n m hn hm => ?_⟩
      obtain ⟨j, rfl⟩ : ∃ j, m = j + 1 := ⟨m - 1, by omega⟩
      have hTd : dropB T = T := by
        have e0 : isBl (hd (tx x ++ (sepG [] (l.map tx) ++ [e]))) = false := by
          cases hb : isBl (hd (tx x ++ (sepG [] (l.map tx) ++ [e]))) with
          | false => rfl
          | true =>
            have hz := hnb x l a hga (sepG [] (l.map tx) ++ [e])
            generalize tx x ++ (sepG [] (l.map tx) ++ [e]) = z at hb hz
            cases z with
            | nil => exact absurd hb (by decide)
            | cons c z =>
              rw [hd_cons] at hb
              rw [dropB, if_pos hb] at hz
              have := dropB_le z
              rw [hz] at this
              simp at this
              omega
        refine dropB_hd ?_
        rw [hT, hd_take (by omega)]
        exact e0
      have hne : hd T ≠ e := by
        rw [hT, hd_take (by omega)]
        by_cases hx0 : tx x = []
        · obtain ⟨q, n0, hq1, _⟩ := hstep x l a hga [] (by decide)
          obtain ⟨r, hr⟩ := hempty (n0 + 1) a (by omega)
          have := hq1 (n0 + 1) [] (by omega) (by rw [hx0]; rfl)
          rw [hr] at this
          cases this
        · rw [hd_app hx0]; exact hnt x l a hga
      rw [partsP, hTd, if_neg hne, if_pos rfl, hT]
      exact h0 n j (by omega) (by omega)

theorem gap_nil : gap [] := fun _ h => by cases h
theorem ev2_bad {α : Type} {f : Nat → Nat → Option (Res α)} {n0 : Nat} (h : ∀ n m, n0 ≤ n → n0 ≤ m → ∃ r, f n m = some (.bad 10 r)) (n : Nat) (hn : n0 ≤ n) : ∃ r, f n n = some (.bad 10 r) := h n n hn hn
theorem sep_map {α β : Type} (f : α → Bs) (l : List α) (tx : β → Bs) (g : α → β) (h : ∀ a, f a = tx (g a)) : l.map f = (l.map g).map tx := by
  rw [List.map_map]
  exact List.map_congr_left fun a _ => h a
theorem pr_nb {v : JV} (h : may v) (r : Bs) : isBl (hd (prG [] v ++ r)) = false := by
  obtain ⟨k, t, items, keys⟩ := v
  rw [prG]
  by_cases h3 : k = 3
  · subst h3
    rw [if_pos rfl]
    exact (num_start (may_num h).1 r).1
  by_cases h4 : k = 4
  · subst h4
    rw [if_neg (by decide), if_pos rfl, quo_hd]; rfl
  by_cases h5 : k = 5
  · subst h5
    rw [if_neg (by decide), if_neg (by decide), if_pos rfl]; rfl
  by_cases h6 : k = 6
  · subst h6
    rw [if_neg (by decide), if_neg (by decide), if_neg (by decide), if_pos rfl]; rfl
  · rw [if_neg h3, if_neg h4, if_neg h5, if_neg h6]
    rcases (may_word h h3 h4 h5 h6).1 with rfl | rfl | rfl <;> rfl
theorem pr_ne {v : JV} (h : may v) : prG [] v ≠ [] := by
  obtain ⟨k, t, items, keys⟩ := v
  rw [prG]
  by_cases h3 : k = 3
  · subst h3
    rw [if_pos rfl]
    exact num_ne (may_num h).1
  by_cases h4 : k = 4
  · subst h4
    rw [if_neg (by decide), if_pos rfl]
    exact fun h => by cases h
  by_cases h5 : k = 5
  · subst h5
    rw [if_neg (by decide), if_neg (by decide), if_pos rfl]
    exact fun h => by cases h
  by_cases h6 : k = 6
  · subst h6
    rw [if_neg (by decide), if_neg (by decide), if_neg (by decide), if_pos rfl]
    exact fun h => by cases h
  · rw [if_neg h3, if_neg h4, if_neg h5, if_neg h6]
    rcases (may_word h h3 h4 h5 h6).1 with rfl | rfl | rfl <;> exact fun h => by cases h
/-- OF A VALUE'S TEXT THAT IS CUT OFF NOTHING IS READ, but of a number. -/
theorem val_cut : ∀ (d : Nat) (v : JV), SizeOf.sizeOf v ≤ d → may v → ∀ lev, lev + deep v ≤ 16 → ∀ k, k < (prG [] v).length →
    ∃ n0, ∀ n, n0 ≤ n → ∃ R, valP n lev ((prG [] v).take k) = some R ∧ halt R ∧ (v.kind ≠ 3 → ∃ r, R = .bad 10 r) := by
  intro d
  induction d with
  | zero =>
    intro v hd
    obtain ⟨k, t, items, keys⟩ := v
    simp at hd
  | succ d ih =>
    intro v hs hv lev hlev k hk
    have hnb := pr_nb hv []
    rw [List.append_nil] at hnb
    by_cases hk0 : k = 0
    · subst hk0
      refine ⟨1, fun n hn => ⟨.bad 10 [], ?_, .inl ⟨_, rfl⟩, fun _ => ⟨_, rfl⟩⟩⟩
      obtain ⟨m, rfl⟩ : ∃ m, n = m + 1 := ⟨n - 1, by omega⟩
      rfl
    have hdr : dropB ((prG [] v).take k) = (prG [] v).take k := dropB_hd (by rw [hd_take (by omega)]; exact hnb)
    have hhd : hd ((prG [] v).take k) = hd (prG [] v) := hd_take (by omega)
    obtain ⟨kd, t, items, keys⟩ := v
    have hsub : ∀ x ∈ items, SizeOf.sizeOf x ≤ d := by
      intro x hx
      have := List.sizeOf_lt_of_mem hx
      simp at hs
      omega
    by_cases h3 : kd = 3
    · subst h3
      obtain ⟨hn, rfl, rfl⟩ := may_num hv
      have e : prG [] (JV.mk 3 t [] []) = t := by rw [prG, if_pos rfl]
      rw [e] at hk hdr hhd ⊢
      obtain ⟨_, b1, b2, b3, b4, b5, b6, _, _⟩ := num_start hn []
      rw [List.append_nil] at b1 b2 b3 b4 b5 b6
      refine ⟨1, fun n hn' => ⟨mkN (t.take k), ?_, ?_, fun h => absurd rfl h⟩⟩
      · obtain ⟨m, rfl⟩ : ∃ m, n = m + 1 := ⟨n - 1, by omega⟩
        rw [valP, hdr]
        unfold valB
        rw [hhd, if_neg b1, if_neg b2, if_neg b3, if_neg b4, if_neg b5, if_neg b6]
      · unfold mkN
        rcases num_cut hn k with ⟨r, h⟩ | ⟨a, h⟩
        · rw [h]; exact .inl ⟨r, rfl⟩
        · rw [h]; exact .inr ⟨_, rfl⟩
    by_cases h4 : kd = 4
    · subst h4
      obtain ⟨hn, rfl, rfl⟩ := may_str hv
      have e : prG [] (JV.mk 4 t [] []) = quoT t := by rw [prG, if_neg (by decide), if_pos rfl]
      rw [e] at hk hdr hhd ⊢
      obtain ⟨n0, h0⟩ := quo_cut hn
      refine ⟨n0 + 1, fun n hn' => ?_⟩
      obtain ⟨m, rfl⟩ : ∃ m, n = m + 1 := ⟨n - 1, by omega⟩
      obtain ⟨r, hr⟩ := h0 m k (by omega) hk
      refine ⟨.bad 10 r, ?_, .inl ⟨r, rfl⟩, fun _ => ⟨r, rfl⟩⟩
      rw [valP, hdr]
      unfold valB
      rw [hhd, show hd (quoT t) = 34 from rfl, if_neg (by decide), if_neg (by decide), if_neg (by decide), if_pos rfl, hr]
      rfl
    by_cases h5 : kd = 5
    · subst h5
      obtain ⟨hm, rfl, rfl⟩ := may_list hv
      have hd5 : deep (JV.mk 5 [] items []) = deepL items + 1 := by rw [deep]; rfl
      rw [hd5] at hlev
      have e : prG [] (JV.mk 5 [] items []) = 91 :: (joinG [] (items.map (prG [])) ++ [93]) := by
        rw [prG, if_neg (by decide), if_neg (by decide), if_pos rfl, prL_map]; simp
      rw [e] at hk hdr hhd ⊢
      obtain ⟨j, rfl⟩ : ∃ j, k = j + 1 := ⟨k - 1, by omega⟩
      obtain ⟨n0, h0⟩ := parts_cut (e := 93) (.inl rfl) (fun n => stepL (valP n (lev + 1))) (prG []) (fun a x => a ++ [x]) (fun l _ => ∀ x ∈ l, x ∈ items) (fun x l a h y hy => h y (by simp [hy]))
        (fun x l a hx q hq => by
          have hxi := hx x (by simp)
          obtain ⟨q', ⟨n0, h0⟩, hq'⟩ := val_rt gap_nil _ x (Nat.le_refl _) (mayL_mem hm x hxi) (lev + 1) (by have := deepL_mem hxi; omega) q hq
          refine ⟨q', n0, fun n U hn hU => ?_, hq'⟩
          show stepL _ _ _ = _
          unfold stepL
          rw [valP_drop n (lev + 1) hU, show valP n (lev + 1) (prG [] x ++ q) = _ from h0 n hn])
        (fun x l a hx j hj => by
          have hxi := hx x (by simp)
          obtain ⟨n0, h0⟩ := ih x (hsub x hxi) (mayL_mem hm x hxi) (lev + 1) (by have := deepL_mem hxi; omega) j hj
          refine ⟨n0, fun n hn => ?_⟩
          obtain ⟨R, hR, hh, _⟩ := h0 n hn
          show ∃ R, stepL _ _ _ = some R ∧ _
          unfold stepL
          rw [hR]
          rcases hh with ⟨r, rfl⟩ | ⟨b, rfl⟩
          · exact ⟨_, rfl, .inl ⟨r, rfl⟩⟩
          · exact ⟨_, rfl, .inr ⟨_, rfl⟩⟩)
        (fun x l a hx r => dropB_hd (pr_nb (mayL_mem hm x (hx x (by simp))) r))
        (fun x l a hx => by
          have hmx := mayL_mem hm x (hx x (by simp))
          have := (pr_start gap_nil hmx []).1
          rwa [dropB_hd (pr_nb hmx []), List.append_nil] at this)
        (fun n a hn => by
          obtain ⟨m, rfl⟩ : ∃ m, n = m + 1 := ⟨n - 1, by omega⟩
          exact ⟨[], rfl⟩)
        items [] ((joinG [] (items.map (prG [])) ++ [93]).take j) true j (fun x hx => hx) (fun h => by cases h) (fun _ => ⟨by simpa using hk, rfl⟩)
      refine ⟨n0 + 1, fun n hn' => ?_⟩
      obtain ⟨m, rfl⟩ : ∃ m, n = m + 1 := ⟨n - 1, by omega⟩
      obtain ⟨r, hr⟩ := h0 m m (by omega) (by omega)
      refine ⟨.bad 10 r, ?_, .inl ⟨r, rfl⟩, fun _ => ⟨r, rfl⟩⟩
      rw [valP, hdr, List.take_succ_cons]
      unfold valB
      rw [hd_cons, if_neg (by decide), if_neg (by decide), if_neg (by decide), if_neg (by decide), if_pos rfl, if_neg (by omega), List.tail_cons, hr]
      rfl
    by_cases h6 : kd = 6
    · subst h6
      obtain ⟨hm, rfl, hlen, hkv, hnd⟩ := may_obj hv
      have hd5 : deep (JV.mk 6 [] items keys) = deepL items + 1 := by rw [deep]; rfl
      rw [hd5] at hlev
      have e : prG [] (JV.mk 6 [] items keys) = 123 :: (joinG [] ((keys.zip items).map fun p => pairG [] p.1 (prG [] p.2)) ++ [125]) := by
        rw [prG, if_neg (by decide), if_neg (by decide), if_neg (by decide), if_pos rfl, zip_back keys items hlen]; simp
      rw [e] at hk hdr hhd ⊢
      obtain ⟨j, rfl⟩ : ∃ j, k = j + 1 := ⟨k - 1, by omega⟩
      have mem : ∀ (x : Bs × JV) (l a : List (Bs × JV)), a ++ x :: l = keys.zip items → x.1 ∈ keys ∧ x.2 ∈ items ∧ x.1 ∉ a.map (·.1) := by
        intro x l a hx
        have hxz : x ∈ keys.zip items := by rw [← hx]; simp
        refine ⟨(List.of_mem_zip hxz).1, (List.of_mem_zip hxz).2, ?_⟩
        have e : keys = a.map (·.1) ++ x.1 :: l.map (·.1) := by
          have := congrArg (List.map Prod.fst) hx
          rw [List.map_fst_zip (by omega)] at this
          rw [← this]; simp
        rw [e] at hnd
        exact nd_snoc hnd
      have hkey : ∀ (k : Bs) (n : Nat) (r : Bs) (seen : List Bs), k ∈ keys → k ∉ seen → ∃ n0, ∀ n, n0 ≤ n → ∀ U, dropB U = quoT k ++ ([58] ++ r) → keyP n seen U = some (.ok k r) := by
        intro k _ r seen hk hs
        obtain ⟨n1, h1⟩ := key_rt gap_nil (hkv _ hk)
        exact ⟨n1, fun n hn U hU => h1 n U r seen hn (by rw [hU]; simp) hs⟩
      obtain ⟨n0, h0⟩ := parts_cut (e := 125) (.inr rfl) (fun n => stepO n (valP n (lev + 1))) (fun p : Bs × JV => pairG [] p.1 (prG [] p.2)) (fun a x => a ++ [x]) (fun l a => a ++ l = keys.zip items)
        (fun x l a h => by rw [List.append_assoc]; exact h)
        (fun x l a hx q hq => by
          obtain ⟨hx1, hx2, hk1⟩ := mem x l a hx
          obtain ⟨n1, h1⟩ := key_rt gap_nil (hkv _ hx1)
          obtain ⟨q', ⟨n0, h0⟩, hq'⟩ := val_rt gap_nil _ x.2 (Nat.le_refl _) (mayL_mem hm _ hx2) (lev + 1) (by have := deepL_mem hx2; omega) q hq
          refine ⟨q', n0 + n1, fun n U hn hU => ?_, hq'⟩
          show stepO _ _ _ _ = _
          unfold stepO
          have hU2 : dropB U = quoT x.1 ++ ([] ++ [58] ++ []) ++ (prG [] x.2 ++ q) := by
            rw [hU]
            unfold pairG
            simp only [List.append_assoc]
            rw [dropB_hd (by rw [quo_hd]; decide)]
          rw [h1 n U _ _ (by omega) hU2 hk1]
          dsimp only
          rw [List.nil_append, show valP n (lev + 1) (prG [] x.2 ++ q) = _ from h0 n (by omega)])
        (fun x l a hx j hj => by
          obtain ⟨hx1, hx2, hk1⟩ := mem x l a hx
          have ep : pairG [] x.1 (prG [] x.2) = quoT x.1 ++ (58 :: prG [] x.2) := by unfold pairG; simp
          have bad : ∀ n r, keyP n (a.map (·.1)) ((pairG [] x.1 (prG [] x.2)).take j) = some (.bad 10 r) → ∃ R, stepO n (valP n (lev + 1)) a ((pairG [] x.1 (prG [] x.2)).take j) = some R ∧ halt R := by
            intro n r h
            unfold stepO
            rw [h]
            exact ⟨_, rfl, .inl ⟨r, rfl⟩⟩
          by_cases hlt : j < (quoT x.1).length
          · obtain ⟨n0, h0⟩ := quo_cut (hkv _ hx1)
            refine ⟨n0, fun n hn => ?_⟩
            obtain ⟨r, hr⟩ := h0 n j hn hlt
            refine bad n r ?_
            unfold keyP
            rw [ep, List.take_append_of_le_length (by omega)]
            by_cases hj0 : j = 0
            · subst hj0
              rw [List.take_zero] at hr ⊢
              rw [show dropB [] = [] from rfl, hr]
            · rw [dropB_hd (by rw [hd_take (by omega)]; rfl), hr]
          · have hq0 : ∃ n0, ∀ n, n0 ≤ n → ∀ r, quoP n (quoT x.1 ++ r) = some (.ok x.1 r) := by
              obtain ⟨cs, hc1, hc2⟩ := valid_utf x.1.length x.1 (Nat.le_refl _) (hkv _ hx1)
              refine ⟨cs.length + 1, fun n hn r => ?_⟩
              rw [hc2]
              unfold quoT quoR
              rw [runesT_utf hc1]
              show quoP n (34 :: (cs.flatMap printedR ++ [34] ++ r)) = _
              unfold quoP
              rw [if_pos (hd_cons ..), List.tail_cons, List.append_assoc]
              have := str_rt cs n [] r hc1 (by omega)
              simpa using this
            obtain ⟨n0, h0⟩ := hq0
            rw [ep] at hj
            by_cases hj1 : j = (quoT x.1).length
            · refine ⟨n0, fun n hn => bad n [] ?_⟩
              unfold keyP
              rw [ep, hj1, List.take_left]
              have := h0 n hn []
              rw [List.append_nil] at this
              rw [dropB_hd (by rfl), this]
              show (if x.1 ∈ _ then _ else _) = _
              rw [if_neg hk1]
              rfl
            · obtain ⟨i, hi⟩ : ∃ i, j - (quoT x.1).length = i + 1 := ⟨j - (quoT x.1).length - 1, by omega⟩
              have hil : i < (prG [] x.2).length := by simp at hj; omega
              obtain ⟨n1, h1⟩ := ih x.2 (hsub _ hx2) (mayL_mem hm _ hx2) (lev + 1) (by have := deepL_mem hx2; omega) i hil
              refine ⟨n0 + n1, fun n hn => ?_⟩
              obtain ⟨R, hR, hh, _⟩ := h1 n (by omega)
              have hkey2 : keyP n (a.map (·.1)) ((pairG [] x.1 (prG [] x.2)).take j) = some (.ok x.1 ((prG [] x.2).take i)) := by
                unfold keyP
                rw [ep, take_len (by omega), hi, List.take_succ_cons, dropB_hd (by rfl), h0 n (by omega)]
                show (if x.1 ∈ _ then _ else _) = _
                rw [if_neg hk1, dropB_cons (by decide), hd_cons, if_pos rfl, List.tail_cons]
              show ∃ R, stepO _ _ _ _ = some R ∧ _
              unfold stepO
              rw [hkey2]
              dsimp only
              rw [hR]
              rcases hh with ⟨r, rfl⟩ | ⟨b, rfl⟩
              · exact ⟨_, rfl, .inl ⟨r, rfl⟩⟩
              · exact ⟨_, rfl, .inr ⟨_, rfl⟩⟩)
        (fun x l a _ r => by unfold pairG; simp only [List.append_assoc]; exact dropB_hd (by rw [quo_hd]; decide))
        (fun x l a _ => by
          show hd (quoT x.1 ++ ([] ++ [58] ++ []) ++ prG [] x.2) ≠ 125
          rw [List.append_assoc, quo_hd]; decide)
        (fun n a hn => ⟨[], rfl⟩)
        (keys.zip items) [] ((joinG [] ((keys.zip items).map fun p : Bs × JV => pairG [] p.1 (prG [] p.2)) ++ [125]).take j) true j rfl (fun h => by cases h) (fun _ => ⟨by simpa using hk, rfl⟩)
      refine ⟨n0 + 1, fun n hn' => ?_⟩
      obtain ⟨m, rfl⟩ : ∃ m, n = m + 1 := ⟨n - 1, by omega⟩
      obtain ⟨r, hr⟩ := h0 m m (by omega) (by omega)
      refine ⟨.bad 10 r, ?_, .inl ⟨r, rfl⟩, fun _ => ⟨r, rfl⟩⟩
      rw [valP, hdr, List.take_succ_cons]
      unfold valB
      rw [hd_cons, if_neg (by decide), if_neg (by decide), if_neg (by decide), if_neg (by decide), if_neg (by decide), if_pos rfl, if_neg (by omega), List.tail_cons, hr]
      rfl
    · obtain ⟨hkk, rfl, rfl, rfl⟩ := may_word hv h3 h4 h5 h6
      have e : prG [] (JV.mk kd [] [] []) = wordOf kd := by rw [prG, if_neg h3, if_neg h4, if_neg h5, if_neg h6]
      rw [e] at hk hdr hhd ⊢
      refine ⟨1, fun n hn' => ?_⟩
      obtain ⟨m, rfl⟩ : ∃ m, n = m + 1 := ⟨n - 1, by omega⟩
      refine ⟨.bad 10 [], ?_, .inl ⟨_, rfl⟩, fun _ => ⟨_, rfl⟩⟩
      rw [valP, hdr]
      unfold valB mkW
      rw [hhd]
      rcases hkk with rfl | rfl | rfl
      · rw [if_pos (show hd (wordOf 0) = 110 from rfl), show wordOf 0 = nullT from rfl, word_cut nullT k (by decide) hk]; rfl
      · rw [if_neg (show ¬ hd (wordOf 1) = 110 from by decide), if_pos (show hd (wordOf 1) = 102 from rfl), show wordOf 1 = falseT from rfl, word_cut falseT k (by decide) hk]; rfl
      · rw [if_neg (show ¬ hd (wordOf 2) = 110 from by decide), if_neg (show ¬ hd (wordOf 2) = 102 from by decide), if_pos (show hd (wordOf 2) = 116 from rfl), show wordOf 2 = trueT from rfl, word_cut trueT k (by decide) hk]; rfl
theorem all_cut {v : JV} (hv : may v) (hd16 : deep v ≤ 16) {k : Nat} (hk : k < (prG [] v).length) : ∃ n0, ∀ n, n0 ≤ n → v.kind ≠ 3 → ∃ r, allP n ((prG [] v).take k) = some (.bad 10 r) := by
  obtain ⟨n0, h0⟩ := val_cut _ v (Nat.le_refl _) hv 0 (by omega) k hk
  refine ⟨n0, fun n hn h3 => ?_⟩
  obtain ⟨R, hR, _, h⟩ := h0 n hn
  obtain ⟨r, rfl⟩ := h h3
  exact ⟨r, by unfold allP; rw [hR]⟩
end Go.Proofs.YtafmokpplnmbgaaGreatDoor

/- Layer 11, plain: every text is read, or wrong somewhere; values that are too deep; what Print writes, piece by piece; how deep a value is, as it is asked. -/
namespace Go.Proofs.YtafmokpplnmbgaaGreatDoor
open Go.Lib

/-! ### Every text comes to an end -/
theorem str_total : ∀ (d : Nat) (l acc : Bs), l.length ≤ d → ∃ R, ∀ n, d < n → strP n l acc = some R := by
  intro d
  induction d with
  | zero =>
    intro l acc hl
    obtain rfl := List.eq_nil_of_length_eq_zero (Nat.le_zero.1 hl)
    refine ⟨.bad 10 [], fun n hn => ?_⟩
    obtain ⟨m, rfl⟩ : ∃ m, n = m + 1 := ⟨n - 1, by omega⟩
    rfl
  | succ d ih =>
    intro l acc hl
    by_cases h34 : hd l = 34
    · refine ⟨.ok acc l.tail, fun n hn => ?_⟩
      obtain ⟨m, rfl⟩ : ∃ m, n = m + 1 := ⟨n - 1, by omega⟩
      rw [strP, if_pos h34]
    · cases ho : oneP l with
      | bad k r =>
        refine ⟨.bad k r, fun n hn => ?_⟩
        obtain ⟨m, rfl⟩ : ∃ m, n = m + 1 := ⟨n - 1, by omega⟩
        rw [strP, if_neg h34, ho]
      | ok c r =>
        have := one_ok ho
        obtain ⟨R, hR⟩ := ih r (acc ++ encodeRune (c : Int)) (by omega)
        refine ⟨R, fun n hn => ?_⟩
        obtain ⟨m, rfl⟩ : ∃ m, n = m + 1 := ⟨n - 1, by omega⟩
        rw [strP, if_neg h34, ho]
        exact hR m (by omega)
theorem quo_total (l : Bs) : ∃ R, ∀ n, l.length < n → quoP n l = some R := by
  unfold quoP
  split
  · obtain ⟨R, hR⟩ := str_total l.length l.tail [] (tail_le l)
    exact ⟨R, hR⟩
  · exact ⟨_, fun _ _ => rfl⟩
theorem key_total (seen : List Bs) (l : Bs) : ∃ R, ∀ n, l.length < n → keyP n seen l = some R := by
  obtain ⟨R, hR⟩ := quo_total (dropB l)
  have := dropB_le l
  cases R with
  | bad k r =>
    refine ⟨.bad k r, fun n hn => ?_⟩
    unfold keyP
    rw [hR n (by omega)]
  | ok key r =>
    by_cases hs : key ∈ seen
    · refine ⟨.bad 10 (dropB l), fun n hn => ?_⟩
      unfold keyP
      rw [hR n (by omega)]
      simp only [if_pos hs]
    by_cases h58 : hd (dropB r) = 58
    · refine ⟨.ok key (dropB r).tail, fun n hn => ?_⟩
      unfold keyP
      rw [hR n (by omega)]
      simp only [if_neg hs, if_pos h58]
    · refine ⟨.bad 10 (dropB r), fun n hn => ?_⟩
      unfold keyP
      rw [hR n (by omega)]
      simp only [if_neg hs, if_neg h58]
theorem parts_total {α : Type} (e : UInt8) (step : Nat → α → Bs → Option (Res α)) (d : Nat) (hs : ∀ a l, l.length ≤ d → ∃ R, Ev (fun n => step n a l) R ∧ ∀ b q, R = .ok b q → q.length < l.length) :
    ∀ (k : Nat) (first : Bool) (a : α) (l : Bs), l.length ≤ k → k ≤ d → ∃ R, Ev2 (fun n m => partsP e (step n) m first a l) R := by
  intro k
  induction k with
  | zero =>
    intro first a l hl hk
    obtain rfl := List.eq_nil_of_length_eq_zero (Nat.le_zero.1 hl)
    obtain ⟨R, ⟨n0, h0⟩, hR⟩ := hs a [] (by simp)
    by_cases he : hd (dropB []) = e
    · refine ⟨.ok a (dropB []).tail, 1, fun n m _ hm => ?_⟩
      obtain ⟨j, rfl⟩ : ∃ j, m = j + 1 := ⟨m - 1, by omega⟩
      simp only [partsP, if_pos he]
    cases first with
    | false =>
      refine ⟨.bad 10 [], 1, fun n m _ hm => ?_⟩
      obtain ⟨j, rfl⟩ : ∃ j, m = j + 1 := ⟨m - 1, by omega⟩
      simp only [partsP, if_neg he]
      rw [if_neg (by decide), if_neg (by decide)]
      rfl
    | true =>
      cases R with
      | ok b q => exact absurd (hR b q rfl) (by simp)
      | bad c r =>
        refine ⟨.bad c r, n0 + 1, fun n m hn hm => ?_⟩
        obtain ⟨j, rfl⟩ : ∃ j, m = j + 1 := ⟨m - 1, by omega⟩
        simp only [partsP, if_neg he, if_true]
        rw [show step n a (dropB []) = _ from h0 n (by omega)]
  | succ k ih =>
    intro first a l hl hk
    have hb := dropB_le l
    by_cases he : hd (dropB l) = e
    · refine ⟨.ok a (dropB l).tail, 1, fun n m _ hm => ?_⟩
      obtain ⟨j, rfl⟩ : ∃ j, m = j + 1 := ⟨m - 1, by omega⟩
      simp only [partsP, if_pos he]
    have go : ∀ l', l'.length ≤ (dropB l).length → ∃ R, Ev2 (fun n m => match step n a l' with | none => none | some (.bad k r) => some (.bad k r) | some (.ok a r) => partsP e (step n) m false a r) R := by
      intro l' hl'
      obtain ⟨R, ⟨n0, h0⟩, hR⟩ := hs a l' (by omega)
      cases R with
      | bad c r => exact ⟨.bad c r, n0, fun n m hn hm => by simp only [show step n a l' = _ from h0 n hn]⟩
      | ok b q =>
        have := hR b q rfl
        obtain ⟨R2, n1, h1⟩ := ih false b q (by omega) (by omega)
        refine ⟨R2, n0 + n1, fun n m hn hm => ?_⟩
        simp only [show step n a l' = _ from h0 n (by omega)]
        exact h1 n m (by omega) (by omega)
    cases first with
    | true =>
      obtain ⟨R, n0, h0⟩ := go (dropB l) (Nat.le_refl _)
      refine ⟨R, n0 + 1, fun n m hn hm => ?_⟩
      obtain ⟨j, rfl⟩ : ∃ j, m = j + 1 := ⟨m - 1, by omega⟩
      simp only [partsP, if_neg he, if_true]
      exact h0 n j (by omega) (by omega)
    | false =>
      by_cases h44 : hd (dropB l) = 44
      · obtain ⟨R, n0, h0⟩ := go (dropB l).tail (tail_le _)
        refine ⟨R, n0 + 1, fun n m hn hm => ?_⟩
        obtain ⟨j, rfl⟩ : ∃ j, m = j + 1 := ⟨m - 1, by omega⟩
        simp only [partsP, if_neg he]
        rw [if_neg (by decide), if_pos h44]
        exact h0 n j (by omega) (by omega)
      · refine ⟨.bad 10 (dropB l), 1, fun n m _ hm => ?_⟩
        obtain ⟨j, rfl⟩ : ∃ j, m = j + 1 := ⟨m - 1, by omega⟩
        simp only [partsP, if_neg he]
        rw [if_neg (by decide), if_neg h44]
theorem val_total : ∀ (d : Nat) (l : Bs) (lev : Nat), l.length ≤ d → lev ≤ 16 → ∃ R, Ev (fun n => valP n lev l) R := by
  intro d
  induction d with
  | zero =>
    intro l lev hl _
    obtain rfl := List.eq_nil_of_length_eq_zero (Nat.le_zero.1 hl)
    exact ⟨.bad 10 [], 1, fun n hn => by obtain ⟨m, rfl⟩ : ∃ m, n = m + 1 := ⟨n - 1, by omega⟩; rfl⟩
  | succ d ih =>
    intro l lev hl hlev
    have hb := dropB_le l
    have key : ∃ R, Ev (fun n => valB n lev (valP n (lev + 1)) (dropB l)) R := by
      generalize dropB l = m at hb
      unfold valB
      split
      · exact ⟨_, 0, fun _ _ => rfl⟩
      split
      · exact ⟨_, 0, fun _ _ => rfl⟩
      split
      · exact ⟨_, 0, fun _ _ => rfl⟩
      split
      · obtain ⟨R, hR⟩ := quo_total m
        exact ⟨R.map _, m.length + 1, fun n hn => by simp only [hR n (by omega)]; rfl⟩
      split
      · rename_i h91
        have hlt := tail_lt (ne_hd h91 (by decide))
        split
        · exact ⟨_, 0, fun _ _ => rfl⟩
        · rename_i h16
          obtain ⟨R, n0, h0⟩ := parts_total 93 (fun n => stepL (valP n (lev + 1))) d (by
            intro a l hl
            obtain ⟨R, n0, h0⟩ := ih l (lev + 1) hl (by omega)
            cases R with
            | bad k r => exact ⟨.bad k r, ⟨n0, fun n hn => by show stepL _ _ _ = _; unfold stepL; rw [show valP n (lev + 1) l = _ from h0 n hn]⟩, fun b q h => by cases h⟩
            | ok x r =>
              refine ⟨.ok (a ++ [x]) r, ⟨n0, fun n hn => by show stepL _ _ _ = _; unfold stepL; rw [show valP n (lev + 1) l = _ from h0 n hn]⟩, fun b q h => ?_⟩
              rw [Res.ok.injEq] at h
              rw [← h.2]
              exact (val_ok n0 (lev + 1) l x r (by omega) (h0 n0 (Nat.le_refl _))).2.2) d true [] m.tail (by omega) (Nat.le_refl _)
          exact ⟨R.map mkL, n0, fun n hn => by simp only [show partsP 93 (stepL (valP n (lev + 1))) n true [] m.tail = _ from h0 n n hn hn]; rfl⟩
      split
      · rename_i h91
        have hlt := tail_lt (ne_hd h91 (by decide))
        split
        · exact ⟨_, 0, fun _ _ => rfl⟩
        · rename_i h16
          obtain ⟨R, n0, h0⟩ := parts_total 125 (fun n => stepO n (valP n (lev + 1))) d (by
            intro a l hl
            obtain ⟨K, hK⟩ := key_total (a.map (·.1)) l
            cases K with
            | bad k r => exact ⟨.bad k r, ⟨l.length + 1, fun n hn => by show stepO _ _ _ _ = _; unfold stepO; rw [hK n (by omega)]⟩, fun b q h => by cases h⟩
            | ok key r =>
              have hk := key_ok (hK (l.length + 1) (by omega))
              obtain ⟨R, n0, h0⟩ := ih r (lev + 1) (by omega) (by omega)
              cases R with
              | bad k q => exact ⟨.bad k q, ⟨n0 + l.length + 1, fun n hn => by show stepO _ _ _ _ = _; unfold stepO; rw [hK n (by omega)]; dsimp only; rw [show valP n (lev + 1) r = _ from h0 n (by omega)]⟩, fun b q h => by cases h⟩
              | ok x q =>
                refine ⟨.ok (a ++ [(key, x)]) q, ⟨n0 + l.length + 1, fun n hn => by show stepO _ _ _ _ = _; unfold stepO; rw [hK n (by omega)]; dsimp only; rw [show valP n (lev + 1) r = _ from h0 n (by omega)]⟩, fun b p h => ?_⟩
                rw [Res.ok.injEq] at h
                rw [← h.2]
                have := (val_ok n0 (lev + 1) r x q (by omega) (h0 n0 (Nat.le_refl _))).2.2
                omega) d true [] m.tail (by omega) (Nat.le_refl _)
          exact ⟨R.map mkO, n0, fun n hn => by simp only [show partsP 125 (stepO n (valP n (lev + 1))) n true [] m.tail = _ from h0 n n hn hn]; rfl⟩
      · exact ⟨_, 0, fun _ _ => rfl⟩
    obtain ⟨R, hR⟩ := key
    exact ⟨R, ev_val (fun n => by rw [valP]) hR⟩
theorem all_total (l : Bs) : ∃ R, Ev (fun n => allP n l) R := by
  obtain ⟨R, n0, h0⟩ := val_total l.length l 0 (Nat.le_refl _) (by omega)
  cases R with
  | bad k r => exact ⟨.bad k r, n0, fun n hn => by show allP n l = _; unfold allP; rw [show valP n 0 l = _ from h0 n hn]⟩
  | ok v r =>
    by_cases h : dropB r = []
    · exact ⟨.ok v [], n0, fun n hn => by show allP n l = _; unfold allP; rw [show valP n 0 l = _ from h0 n hn]; dsimp only; rw [if_pos h]⟩
    · exact ⟨.bad 10 (dropB r), n0, fun n hn => by show allP n l = _; unfold allP; rw [show valP n 0 l = _ from h0 n hn]; dsimp only; rw [if_neg h]⟩
theorem all_ok {n : Nat} {l : Bs} {v : JV} {r : Bs} (h : allP n l = some (.ok v r)) : may v ∧ deep v ≤ 16 := by
  unfold allP at h
  cases hv : valP n 0 l with
  | none => rw [hv] at h; cases h
  | some x =>
    rw [hv] at h
    cases x with
    | bad k r => cases h
    | ok w q =>
      have := val_ok n 0 l w q (by omega) hv
      dsimp only at h
      split at h
      · rw [Option.some.injEq, Res.ok.injEq] at h
        rw [← h.1]
        exact ⟨this.1, by omega⟩
      · cases h
/-! ### Too deep -/
def openT (bs : List Bool) : Bs := bs.flatMap fun b => if b = true then [123, 34, 107, 34, 58] else [91]
def closeT : List Bool → Bs
  | [] => []
  | b :: bs => closeT bs ++ [if b = true then 125 else 93]
def nest : List Bool → JV
  | [] => .mk 2 [] [] []
  | b :: bs => if b = true then .mk 6 [] [nest bs] [[107]] else .mk 5 [] [nest bs] []
theorem nest_pr : ∀ bs : List Bool, prG [] (nest bs) = openT bs ++ trueT ++ closeT bs
  | [] => rfl
  | true :: bs => by
    show prG [] (.mk 6 [] [nest bs] [[107]]) = _
    rw [prG, if_neg (by decide), if_neg (by decide), if_neg (by decide), if_pos rfl, prL, prL, nest_pr bs]
    have e : quoT [107] = [34, 107, 34] := by decide
    simp [joinG, pairG, e, openT, closeT]
  | false :: bs => by
    show prG [] (.mk 5 [] [nest bs] []) = _
    rw [prG, if_neg (by decide), if_neg (by decide), if_pos rfl, prL, prL, nest_pr bs]
    simp [joinG, openT, closeT]
theorem nest_may : ∀ bs : List Bool, may (nest bs) ∧ deep (nest bs) = bs.length
  | [] => by
    show may (.mk 2 [] [] []) ∧ deep (.mk 2 [] [] []) = 0
    refine ⟨?_, by rw [deep, deepL]; rfl⟩
    rw [may, mayL]
    exact ⟨trivial, .inl ⟨.inr (.inr rfl), rfl, rfl, rfl⟩⟩
  | true :: bs => by
    obtain ⟨h1, h2⟩ := nest_may bs
    show may (.mk 6 [] [nest bs] [[107]]) ∧ deep (.mk 6 [] [nest bs] [[107]]) = _
    refine ⟨?_, by rw [deep, if_pos (.inr rfl), deepL, deepL, h2]; simp⟩
    rw [may, mayL, mayL]
    exact ⟨⟨h1, trivial⟩, .inr (.inr (.inr (.inr ⟨rfl, rfl, rfl, by decide, by simp⟩)))⟩
  | false :: bs => by
    obtain ⟨h1, h2⟩ := nest_may bs
    show may (.mk 5 [] [nest bs] []) ∧ deep (.mk 5 [] [nest bs] []) = _
    refine ⟨?_, by rw [deep, if_pos (.inl rfl), deepL, deepL, h2]; simp⟩
    rw [may, mayL, mayL]
    exact ⟨⟨h1, trivial⟩, .inr (.inr (.inr (.inl ⟨rfl, rfl, rfl⟩)))⟩
theorem too_deep : ∀ (bs : List Bool) (lev : Nat) (r : Bs), lev ≤ 16 → 16 < lev + bs.length → Ev (fun n => valP n lev (openT bs ++ r)) (.bad 11 (openT (bs.drop (16 - lev)) ++ r))
  | [], lev, r, h1, h2 => by simp at h2; omega
  | b :: bs, lev, r, h1, h2 => by
    have e : ∃ T, openT (b :: bs) ++ r = (if b = true then 123 else 91) :: T ∧ T = (if b = true then [34, 107, 34, 58] else []) ++ (openT bs ++ r) := by
      cases b <;> exact ⟨_, rfl, rfl⟩
    obtain ⟨T, hT, hT2⟩ := e
    by_cases h16 : lev = 16
    · subst h16
      rw [hT]
      refine ⟨1, fun n hn => ?_⟩
      obtain ⟨m, rfl⟩ : ∃ m, n = m + 1 := ⟨n - 1, by omega⟩
      show valP (m + 1) 16 _ = _
      rw [Nat.sub_self, List.drop_zero, hT, valP, dropB_cons (by cases b <;> rfl)]
      unfold valB
      rw [hd_cons]
      cases b <;> rfl
    · obtain ⟨n0, h0⟩ := too_deep bs (lev + 1) r (by omega) (by simp at h2; omega)
      have ed : (b :: bs).drop (16 - lev) = bs.drop (16 - (lev + 1)) := by
        rw [show 16 - lev = (16 - (lev + 1)) + 1 by omega]; rfl
      rw [ed]
      refine ⟨n0 + 4, fun n hn => ?_⟩
      obtain ⟨m, rfl⟩ : ∃ m, n = m + 1 := ⟨n - 1, by omega⟩
      obtain ⟨j, rfl⟩ : ∃ j, m = j + 1 := ⟨m - 1, by omega⟩
      have hv : valP (j + 1) (lev + 1) (openT bs ++ r) = _ := h0 (j + 1) (by omega)
      show valP (j + 1 + 1) lev _ = _
      rw [hT, valP, dropB_cons (by cases b <;> rfl)]
      unfold valB
      rw [hd_cons, List.tail_cons]
      cases b with
      | false =>
        have hne : hd (dropB (openT bs ++ r)) ≠ 93 := by
          cases bs with
          | nil => simp at h2; omega
          | cons c bs =>
            cases c
            · show hd (dropB (91 :: _)) ≠ 93
              rw [dropB_cons (by rfl), hd_cons]; decide
            · show hd (dropB (123 :: _)) ≠ 93
              rw [dropB_cons (by rfl), hd_cons]; decide
        rw [hT2]
        simp only [Bool.false_eq_true, if_false, List.nil_append, if_true]
        rw [if_neg (by decide), if_neg (by decide), if_neg (by decide), if_neg (by decide), if_neg h16, partsP, if_neg hne, if_pos rfl]
        unfold stepL
        rw [valP_drop (j + 1) (lev + 1) (dropB_idem (openT bs ++ r)), hv]
        rfl
      | true =>
        rw [hT2]
        simp only [if_true]
        rw [if_neg (by decide), if_neg (by decide), if_neg (by decide), if_neg (by decide), if_neg (by decide), if_neg h16, partsP]
        have hd0 : dropB ([34, 107, 34, 58] ++ (openT bs ++ r)) = [34, 107, 34, 58] ++ (openT bs ++ r) := dropB_hd rfl
        rw [hd0, if_neg (show ¬ hd ([34, 107, 34, 58] ++ (openT bs ++ r)) = 125 from by show ¬ (34 : UInt8) = 125; decide), if_pos rfl]
        have hk : keyP (j + 1) (([] : List (Bs × JV)).map (·.1)) ([34, 107, 34, 58] ++ (openT bs ++ r)) = some (.ok [107] (openT bs ++ r)) := by
          unfold keyP
          rw [hd0]
          have hq := str_rt [107] (j + 1) [] (58 :: (openT bs ++ r)) (by decide) (by simp; omega)
          have e1 : [107].flatMap printedR ++ 34 :: (58 :: (openT bs ++ r)) = [107, 34, 58] ++ (openT bs ++ r) := rfl
          rw [e1] at hq
          have hq2 : quoP (j + 1) ([34, 107, 34, 58] ++ (openT bs ++ r)) = some (.ok [107] (58 :: (openT bs ++ r))) := by
            show quoP (j + 1) (34 :: ([107, 34, 58] ++ (openT bs ++ r))) = _
            unfold quoP
            rw [if_pos (hd_cons ..), List.tail_cons, hq]
            rfl
          rw [hq2]
          dsimp only
          rw [if_neg (by simp), dropB_cons (by rfl), hd_cons, if_pos rfl, List.tail_cons]
        unfold stepO
        rw [hk]
        dsimp only
        rw [hv]
        rfl
theorem all_deep (bs : List Bool) (r : Bs) (h : 16 < bs.length) : Ev (fun n => allP n (openT bs ++ r)) (.bad 11 (openT (bs.drop 16) ++ r)) := by
  obtain ⟨n0, h0⟩ := too_deep bs 0 r (by omega) (by omega)
  refine ⟨n0, fun n hn => ?_⟩
  show allP n _ = _
  unfold allP
  rw [show valP n 0 (openT bs ++ r) = _ from h0 n hn]
end Go.Proofs.YtafmokpplnmbgaaGreatDoor

