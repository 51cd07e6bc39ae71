/- Merged: JsB, JsC, JsD. -/
import Derived.Test.YtnkencdibniagaaGreatDoorM01
/- Layer 11, plain: what Parse reads and Print writes, as functions on bytes. What is read is told by what is left behind it; where it is wrong, by what stands from there on. -/
namespace Go.Proofs.YtnkencdibniagaaGreatDoor
open Go.Lib

/-- A value. -/
inductive JV where
  | mk (kind : Int) (text : Bs) (items : List JV) (keys : List Bs)
def JV.kind : JV → Int | .mk k _ _ _ => k
def JV.text : JV → Bs | .mk _ t _ _ => t
def JV.items : JV → List JV | .mk _ _ l _ => l
def JV.keys : JV → List Bs | .mk _ _ _ l => l
/-- What was read, and what is left; or which error, and what stands from where it is wrong on. -/
inductive Res (α : Type) where
  | ok (a : α) (r : Bs)
  | bad (code : Nat) (r : Bs)
def Res.map {α β : Type} (f : α → β) : Res α → Res β
  | .ok a r => .ok (f a) r
  | .bad k r => .bad k r

def isBl (c : UInt8) : Bool := c == 32 || c == 9 || c == 10 || c == 13
def dropB : Bs → Bs
  | [] => []
  | c :: l => if isBl c = true then dropB l else c :: l
def isDg (c : UInt8) : Bool := decide (48 ≤ c) && decide (c ≤ 57)
def dropD : Bs → Bs
  | [] => []
  | c :: l => if isDg c = true then dropD l else c :: l
/-- The next byte; 0 at the end. -/
def hd (l : Bs) : UInt8 := l.headD 0
theorem hd_cons (c : UInt8) (l : Bs) : hd (c :: l) = c := rfl
/-- A word. -/
def wordP : Bs → Bs → Res Unit
  | [], l => .ok () l
  | c :: w, l => if hd l = c then wordP w l.tail else .bad 10 l
/-- Digits, one at least. -/
def digP (l : Bs) : Res Unit := if (dropD l).length = l.length then .bad 10 l else .ok () (dropD l)
/-- An exponent, if there is one. -/
def expP (l : Bs) : Res Unit :=
  if hd l = 101 ∨ hd l = 69 then (if hd l.tail = 43 ∨ hd l.tail = 45 then digP l.tail.tail else digP l.tail) else .ok () l
/-- A point and digits, if there is one; and an exponent. -/
def fracP (l : Bs) : Res Unit :=
  if hd l = 46 then (match digP l.tail with | .bad k r => .bad k r | .ok _ r => expP r) else expP l
def intP (l : Bs) : Res Unit :=
  if hd l = 48 then fracP l.tail else (match digP l with | .bad k r => .bad k r | .ok _ r => fracP r)
def numP (l : Bs) : Res Unit := if hd l = 45 then intP l.tail else intP l
/-- A digit to the base 16. -/
def hexV (b : UInt8) : Option Nat :=
  if 48 ≤ b.toNat ∧ b.toNat ≤ 57 then some (b.toNat - 48) else if 97 ≤ b.toNat ∧ b.toNat ≤ 102 then some (b.toNat - 87) else if 65 ≤ b.toNat ∧ b.toNat ≤ 70 then some (b.toNat - 55) else none
def unitP : Nat → Nat → Bs → Res Nat
  | 0, c, l => .ok c l
  | k + 1, c, l => match hexV (hd l) with | some n => unitP k (c * 16 + n) l.tail | none => .bad 10 l
def isLo (c : Nat) : Bool := decide (56320 ≤ c) && decide (c < 57344)
def isHi (c : Nat) : Bool := decide (55296 ≤ c) && decide (c < 56320)
/-- The second one of two units. -/
def lowP (fr : Bs) (c : Nat) (r : Bs) : Res Nat :=
  if r = [] ∨ r = [92] then .bad 10 []
  else if hd r = 92 ∧ hd r.tail = 117 then
    (match unitP 4 0 r.tail.tail with
      | .bad k q => .bad k q
      | .ok lo q => if isLo lo = true then .ok (65536 + (c - 55296) * 1024 + lo - 56320) q else .bad 10 fr)
  else .bad 10 fr
def unitsP (fr l : Bs) : Res Nat :=
  match unitP 4 0 l with
  | .bad k r => .bad k r
  | .ok c r => if isLo c = true then .bad 10 fr else if isHi c = true then lowP fr c r else .ok c r
def unesc (b : UInt8) : Option Nat :=
  if b = 34 then some 34 else if b = 92 then some 92 else if b = 98 then some 8 else if b = 102 then some 12 else if b = 110 then some 10 else if b = 114 then some 13 else if b = 116 then some 9 else none
def escP (fr l : Bs) : Res Nat :=
  if hd l = 117 then unitsP fr l.tail else if hd l = 47 then .ok 47 l.tail
  else match unesc (hd l) with | some c => .ok c l.tail | none => .bad 10 l
/-- One rune of a string. -/
def oneP (l : Bs) : Res Nat :=
  if hd l = 92 then escP l l.tail
  else if l = [] ∨ noRune l ∨ (decodeL l).1 < 32 then .bad 10 l else .ok (decodeL l).1 (l.drop (decodeL l).2)
/-- The rest of a string, behind what was read of it. -/
def strP : Nat → Bs → Bs → Option (Res Bs)
  | 0, _, _ => none
  | n + 1, l, acc => if hd l = 34 then some (.ok acc l.tail) else match oneP l with
    | .bad k r => some (.bad k r)
    | .ok c r => strP n r (acc ++ encodeRune (c : Int))
def quoP (n : Nat) (l : Bs) : Option (Res Bs) := if hd l = 34 then strP n l.tail [] else some (.bad 10 l)
/-- Parts, with commas between, and a bracket at the end. -/
def partsP {α : Type} (e : UInt8) (step : α → Bs → Option (Res α)) : Nat → Bool → α → Bs → Option (Res α)
  | 0, _, _, _ => none
  | n + 1, first, acc, l =>
    if hd (dropB l) = e then some (.ok acc (dropB l).tail)
    else if first = true then (match step acc (dropB l) with | none => none | some (.bad k r) => some (.bad k r) | some (.ok a r) => partsP e step n false a r)
    else if hd (dropB l) = 44 then (match step acc (dropB l).tail with | none => none | some (.bad k r) => some (.bad k r) | some (.ok a r) => partsP e step n false a r)
    else some (.bad 10 (dropB l))
/-- A key, and what stands between it and its value. -/
def keyP (n : Nat) (seen : List Bs) (l : Bs) : Option (Res Bs) :=
  match quoP n (dropB l) with
  | none => none
  | some (.bad k r) => some (.bad k r)
  | some (.ok key r) => if key ∈ seen then some (.bad 10 (dropB l)) else if hd (dropB r) = 58 then some (.ok key (dropB r).tail) else some (.bad 10 (dropB r))
def stepL (val : Bs → Option (Res JV)) (acc : List JV) (l : Bs) : Option (Res (List JV)) :=
  match val l with
  | none => none
  | some (.bad k r) => some (.bad k r)
  | some (.ok x r) => some (.ok (acc ++ [x]) r)
def stepO (n : Nat) (val : Bs → Option (Res JV)) (acc : List (Bs × JV)) (l : Bs) : Option (Res (List (Bs × JV))) :=
  match keyP n (acc.map (·.1)) l with
  | none => none
  | some (.bad k r) => some (.bad k r)
  | some (.ok key r) => match val r with
    | none => none
    | some (.bad k r) => some (.bad k r)
    | some (.ok x r) => some (.ok (acc ++ [(key, x)]) r)
def mkL (acc : List JV) : JV := .mk 5 [] acc []
def mkO (acc : List (Bs × JV)) : JV := .mk 6 [] (acc.map (·.2)) (acc.map (·.1))
def mkN (l : Bs) : Res JV := match numP l with | .bad k r => .bad k r | .ok _ r => .ok (.mk 3 (l.take (l.length - r.length)) [] []) r
def mkW (k : Int) (w l : Bs) : Res JV := (wordP w l).map fun _ => .mk k [] [] []
def nullT : Bs := [110, 117, 108, 108]
def falseT : Bs := [102, 97, 108, 115, 101]
def trueT : Bs := [116, 114, 117, 101]
/-- A value, in so many lists and objects, by what stands first. -/
def valB (n lev : Nat) (val : Bs → Option (Res JV)) (l : Bs) : Option (Res JV) :=
  if hd l = 110 then some (mkW 0 nullT l)
  else if hd l = 102 then some (mkW 1 falseT l)
  else if hd l = 116 then some (mkW 2 trueT l)
  else if hd l = 34 then (quoP n l).map (Res.map fun t => .mk 4 t [] [])
  else if hd l = 91 then (if lev = 16 then some (.bad 11 l) else (partsP 93 (stepL val) n true [] l.tail).map (Res.map mkL))
  else if hd l = 123 then (if lev = 16 then some (.bad 11 l) else (partsP 125 (stepO n val) n true [] l.tail).map (Res.map mkO))
  else some (mkN l)
def valP : Nat → Nat → Bs → Option (Res JV)
  | 0, _, _ => none
  | n + 1, lev, l => valB n lev (valP n (lev + 1)) (dropB l)
def allP (n : Nat) (l : Bs) : Option (Res JV) :=
  match valP n 0 l with
  | none => none
  | some (.bad k r) => some (.bad k r)
  | some (.ok v r) => if dropB r = [] then some (.ok v []) else some (.bad 10 (dropB r))
/-! ### What is written -/
def hexd (n : Nat) : UInt8 := if n < 10 then UInt8.ofNat (48 + n) else UInt8.ofNat (87 + n)
def escR (c : Nat) : Option UInt8 :=
  if c = 34 then some 34 else if c = 92 then some 92 else if c = 8 then some 98 else if c = 12 then some 102 else if c = 10 then some 110 else if c = 13 then some 114 else if c = 9 then some 116 else none
def printedR (c : Nat) : Bs :=
  match escR c with
  | some b => [92, b]
  | none => if c < 16 then [92, 117, 48, 48, 48, hexd c] else if c < 32 then [92, 117, 48, 48, 49, hexd (c - 16)] else encodeRune (c : Int)
def quoR (cs : List Nat) : Bs := 34 :: (cs.flatMap printedR ++ [34])
def quoT (t : Bs) : Bs := quoR (runesT t)
def wordOf (k : Int) : Bs := if k = 0 then nullT else if k = 1 then falseT else trueT
/-- Parts with g around what stands between them. -/
def joinG (g : Bs) : List Bs → Bs
  | [] => []
  | [x] => x
  | x :: y :: l => x ++ (g ++ [44] ++ g) ++ joinG g (y :: l)
def pairG (g : Bs) (k x : Bs) : Bs := quoT k ++ (g ++ [58] ++ g) ++ x
mutual
/-- A value's text, with g around all that stands between its parts. -/
def prG (g : Bs) : JV → Bs
  | .mk k t items keys =>
    if k = 3 then t else if k = 4 then quoT t
    else if k = 5 then (g ++ [91] ++ g) ++ joinG g (prL g items) ++ (g ++ [93] ++ g)
    else if k = 6 then (g ++ [123] ++ g) ++ joinG g (List.zipWith (pairG g) keys (prL g items)) ++ (g ++ [125] ++ g)
    else wordOf k
def prL (g : Bs) : List JV → List Bs
  | [] => []
  | x :: l => prG g x :: prL g l
end
def isNum (t : Bs) : Prop := numP t = .ok () []
mutual
/-- May a value be, but for how deep it is? -/
def may : JV → Prop
  | .mk k t items keys =>
    mayL items ∧
    ((k = 0 ∨ k = 1 ∨ k = 2) ∧ t = [] ∧ items = [] ∧ keys = [] ∨ k = 3 ∧ isNum t ∧ items = [] ∧ keys = [] ∨ k = 4 ∧ validD t = true ∧ items = [] ∧ keys = [] ∨ k = 5 ∧ t = [] ∧ keys = []
      ∨ k = 6 ∧ t = [] ∧ keys.length = items.length ∧ (∀ x ∈ keys, validD x = true) ∧ keys.Nodup)
def mayL : List JV → Prop
  | [] => True
  | x :: l => may x ∧ mayL l
end
mutual
def deep : JV → Nat
  | .mk k _ items _ => if k = 5 ∨ k = 6 then deepL items + 1 else deepL items
def deepL : List JV → Nat
  | [] => 0
  | x :: l => max (deep x) (deepL l)
end
end Go.Proofs.YtnkencdibniagaaGreatDoor

/- Layer 11, plain: what is written is read as it was, with whatever blanks between its parts. -/
namespace Go.Proofs.YtnkencdibniagaaGreatDoor
open Go.Lib

/-- No number goes on there. -/
def stopN (r : Bs) : Prop := isDg (hd r) = false ∧ hd r ≠ 46 ∧ hd r ≠ 101 ∧ hd r ≠ 69
instance (r : Bs) : Decidable (stopN r) := by unfold stopN; infer_instance
theorem dropB_hd {l : Bs} (h : isBl (hd l) = false) : dropB l = l := by
  cases l with
  | nil => rfl
  | cons c l => rw [hd_cons] at h; rw [dropB, if_neg (by rw [h]; decide)]
theorem dropB_le (l : Bs) : (dropB l).length ≤ l.length := by
  induction l with
  | nil => exact Nat.le_refl _
  | cons c l ih => rw [dropB]; split <;> simp only [List.length_cons] <;> omega
theorem dropD_le (l : Bs) : (dropD l).length ≤ l.length := by
  induction l with
  | nil => exact Nat.le_refl _
  | cons c l ih => rw [dropD]; split <;> simp only [List.length_cons] <;> omega
theorem dropD_hd {l : Bs} (h : isDg (hd l) = false) : dropD l = l := by
  cases l with
  | nil => rfl
  | cons c l => rw [hd_cons] at h; rw [dropD, if_neg (by rw [h]; decide)]
theorem dropD_app (t : Bs) {r : Bs} (h : isDg (hd r) = false) : dropD (t ++ r) = dropD t ++ r := by
  induction t with
  | nil => exact dropD_hd h
  | cons c t ih =>
    rw [List.cons_append, dropD, dropD]
    split
    · exact ih
    · rfl
theorem dig_app {t x : Bs} {r : Bs} (h : isDg (hd r) = false) (hx : digP t = .ok () x) : digP (t ++ r) = .ok () (x ++ r) := by
  unfold digP at hx ⊢
  rw [dropD_app t h]
  split at hx
  · cases hx
  · rename_i hn
    rw [if_neg (by simp only [List.length_append]; omega)]
    rw [Res.ok.injEq] at hx
    rw [hx.2]
theorem hd_app {t : Bs} (h : t ≠ []) (r : Bs) : hd (t ++ r) = hd t := by
  cases t with
  | nil => exact absurd rfl h
  | cons c t => rfl
theorem ne_hd {t : Bs} {c : UInt8} (h : hd t = c) (hc : c ≠ 0) : t ≠ [] := by
  rintro rfl
  exact hc h.symm
theorem int_ne {t x : Bs} (h : intP t = .ok () x) : t ≠ [] := by
  rintro rfl
  cases h
theorem num_ne {t x : Bs} (h : numP t = .ok () x) : t ≠ [] := by
  rintro rfl
  cases h
/-! ### Strings -/
theorem escR_lt {c : Nat} {b : UInt8} (h : escR c = some b) : c < 128 := by
  unfold escR at h
  repeat' split at h
  all_goals first | omega | cases h
/-! ### Values -/
/-- What stands behind a part: another one, or the end. -/
def sepG (g : Bs) (l : List Bs) : Bs := l.flatMap fun x => (g ++ [44] ++ g) ++ x
theorem joinG_cons (g x : Bs) (l : List Bs) : joinG g (x :: l) = x ++ sepG g l := by
  induction l generalizing x with
  | nil => simp [joinG, sepG]
  | cons y l ih =>
    rw [joinG, ih]
    simp [sepG]
theorem bl_ne {c : UInt8} (h : isBl c = true) : c = 32 ∨ c = 9 ∨ c = 10 ∨ c = 13 := by
  unfold isBl at h
  simp only [Bool.or_eq_true, beq_iff_eq] at h
  rcases h with ((h | h) | h) | h
  · exact .inl h
  · exact .inr (.inl h)
  · exact .inr (.inr (.inl h))
  · exact .inr (.inr (.inr h))
theorem may_num {t : Bs} {items : List JV} {keys : List Bs} (h : may (.mk 3 t items keys)) : isNum t ∧ items = [] ∧ keys = [] := by
  rw [may] at h
  rcases h.2 with h | h | h | h | h
  · rcases h.1 with h | h | h <;> exact absurd h (by decide)
  · exact ⟨h.2.1, h.2.2.1, h.2.2.2⟩
  · exact absurd h.1 (by decide)
  · exact absurd h.1 (by decide)
  · exact absurd h.1 (by decide)
theorem may_list {t : Bs} {items : List JV} {keys : List Bs} (h : may (.mk 5 t items keys)) : mayL items ∧ t = [] ∧ keys = [] := by
  rw [may] at h
  rcases h.2 with h' | h' | h' | h' | h'
  · rcases h'.1 with h | h | h <;> exact absurd h (by decide)
  · exact absurd h'.1 (by decide)
  · exact absurd h'.1 (by decide)
  · exact ⟨h.1, h'.2.1, h'.2.2⟩
  · exact absurd h'.1 (by decide)
theorem may_obj {t : Bs} {items : List JV} {keys : List Bs} (h : may (.mk 6 t items keys)) : mayL items ∧ t = [] ∧ keys.length = items.length ∧ (∀ x ∈ keys, validD x = true) ∧ keys.Nodup := by
  rw [may] at h
  rcases h.2 with h' | h' | h' | h' | h'
  · rcases h'.1 with h | h | h <;> exact absurd h (by decide)
  · exact absurd h'.1 (by decide)
  · exact absurd h'.1 (by decide)
  · exact absurd h'.1 (by decide)
  · exact ⟨h.1, h'.2⟩
theorem may_word {k : Int} {t : Bs} {items : List JV} {keys : List Bs} (h : may (.mk k t items keys)) (h3 : k ≠ 3) (h4 : k ≠ 4) (h5 : k ≠ 5) (h6 : k ≠ 6) : (k = 0 ∨ k = 1 ∨ k = 2) ∧ t = [] ∧ items = [] ∧ keys = [] := by
  rw [may] at h
  rcases h.2 with h' | h' | h' | h' | h'
  · exact h'
  · exact absurd h'.1 h3
  · exact absurd h'.1 h4
  · exact absurd h'.1 h5
  · exact absurd h'.1 h6
theorem mayL_mem : ∀ {l : List JV}, mayL l → ∀ x ∈ l, may x
  | [], _, x, hx => by cases hx
  | y :: l, h, x, hx => by
    rw [mayL] at h
    rcases List.mem_cons.1 hx with rfl | hx
    · exact h.1
    · exact mayL_mem h.2 x hx
theorem deepL_mem : ∀ {l : List JV} {x : JV}, x ∈ l → deep x ≤ deepL l
  | y :: l, x, hx => by
    rw [deepL]
    rcases List.mem_cons.1 hx with rfl | hx
    · exact Nat.le_max_left ..
    · exact Nat.le_trans (deepL_mem hx) (Nat.le_max_right ..)
theorem prL_map (g : Bs) : ∀ l : List JV, prL g l = l.map (prG g)
  | [] => by rw [prL]; rfl
  | x :: l => by rw [prL, prL_map g l]; rfl
end Go.Proofs.YtnkencdibniagaaGreatDoor

/- Layer 11, plain: what is read may be; whatever a text is, it is read, or wrong somewhere. -/
namespace Go.Proofs.YtnkencdibniagaaGreatDoor
open Go.Lib

/-! ### Each way ahead goes on -/
theorem dig_lt {t x : Bs} (h : digP t = .ok () x) : x.length < t.length := by
  unfold digP at h
  have := dropD_le t
  split at h
  · cases h
  · rw [Res.ok.injEq] at h
    rw [← h.2]; omega
theorem tail_le (l : Bs) : l.tail.length ≤ l.length := by simp
theorem tail_lt {l : Bs} (h : l ≠ []) : l.tail.length < l.length := by
  have := List.length_pos_iff.2 h
  simp; omega
theorem exp_le {t x : Bs} (h : expP t = .ok () x) : x.length ≤ t.length := by
  unfold expP at h
  split at h
  · split at h
    · have := dig_lt h; have := tail_le t; have := tail_le t.tail; omega
    · have := dig_lt h; have := tail_le t; omega
  · rw [Res.ok.injEq] at h; rw [h.2]; exact Nat.le_refl _
theorem frac_le {t x : Bs} (h : fracP t = .ok () x) : x.length ≤ t.length := by
  unfold fracP at h
  split at h
  · cases hd2 : digP t.tail with
    | bad k q => rw [hd2] at h; cases h
    | ok a q => rw [hd2] at h; have := dig_lt hd2; have := exp_le h; have := tail_le t; omega
  · exact exp_le h
theorem int_lt {t x : Bs} (h : intP t = .ok () x) : x.length < t.length := by
  have hne := int_ne h
  unfold intP at h
  split at h
  · have := frac_le h; have := tail_lt hne; omega
  · cases hd2 : digP t with
    | bad k q => rw [hd2] at h; cases h
    | ok a q => rw [hd2] at h; have := dig_lt hd2; have := frac_le h; omega
theorem num_lt {t x : Bs} (h : numP t = .ok () x) : x.length < t.length := by
  unfold numP at h
  split at h
  · have := int_lt h; have := tail_le t; omega
  · exact int_lt h
theorem word_le : ∀ (w : Bs) {l r : Bs} {u : Unit}, wordP w l = .ok u r → r.length ≤ l.length
  | [], l, r, u, h => by rw [wordP, Res.ok.injEq] at h; rw [h.2]; exact Nat.le_refl _
  | c :: w, l, r, u, h => by
    rw [wordP] at h
    split at h
    · have := word_le w h; have := tail_le l; omega
    · cases h
theorem unit_le : ∀ (k c : Nat) {l r : Bs} {n : Nat}, unitP k c l = .ok n r → r.length ≤ l.length
  | 0, c, l, r, n, h => by rw [unitP, Res.ok.injEq] at h; rw [h.2]; exact Nat.le_refl _
  | k + 1, c, l, r, n, h => by
    rw [unitP] at h
    cases hx : hexV (hd l) with
    | none => rw [hx] at h; cases h
    | some m => rw [hx] at h; have := unit_le k _ h; have := tail_le l; omega
theorem hexV_lt {b : UInt8} {n : Nat} (h : hexV b = some n) : n < 16 := by
  unfold hexV at h
  repeat' split at h
  all_goals first | (rw [Option.some.injEq] at h; omega) | cases h
theorem unit_lt : ∀ (k c : Nat) {l r : Bs} {n : Nat}, unitP k c l = .ok n r → n < (c + 1) * 16 ^ k
  | 0, c, l, r, n, h => by rw [unitP, Res.ok.injEq] at h; omega
  | k + 1, c, l, r, n, h => by
    rw [unitP] at h
    cases hx : hexV (hd l) with
    | none => rw [hx] at h; cases h
    | some m =>
      rw [hx] at h
      have h1 := unit_lt k _ h
      have h2 := hexV_lt hx
      have h3 : (c * 16 + m + 1) * 16 ^ k ≤ ((c + 1) * 16) * 16 ^ k := Nat.mul_le_mul_right _ (by omega)
      rw [Nat.pow_succ, Nat.mul_comm (16 ^ k) 16, ← Nat.mul_assoc]
      omega
theorem isLo_iff (c : Nat) : isLo c = true ↔ 56320 ≤ c ∧ c < 57344 := by unfold isLo; simp
theorem isHi_iff (c : Nat) : isHi c = true ↔ 55296 ≤ c ∧ c < 56320 := by unfold isHi; simp
theorem low_ok {fr r q : Bs} {c d : Nat} (hc : isHi c = true) (h : lowP fr c r = .ok d q) : scal d ∧ q.length ≤ r.length := by
  unfold lowP at h
  split at h
  · cases h
  split at h
  · cases hu : unitP 4 0 r.tail.tail with
    | bad k x => rw [hu] at h; cases h
    | ok lo x =>
      rw [hu] at h
      have h1 := unit_le 4 0 hu
      have h2 := tail_le r.tail
      have h3 := tail_le r
      simp only at h
      split at h
      · rename_i hl
        rw [Res.ok.injEq] at h
        rw [isLo_iff] at hl
        rw [isHi_iff] at hc
        refine ⟨?_, by rw [← h.2]; omega⟩
        unfold scal
        omega
      · cases h
  · cases h
theorem units_ok {fr l q : Bs} {d : Nat} (h : unitsP fr l = .ok d q) : scal d ∧ q.length ≤ l.length := by
  unfold unitsP at h
  cases hu : unitP 4 0 l with
  | bad k x => rw [hu] at h; cases h
  | ok c x =>
    rw [hu] at h
    have h1 := unit_le 4 0 hu
    have h2 := unit_lt 4 0 hu
    simp only at h
    split at h
    · cases h
    split at h
    · rename_i hh
      have := low_ok hh h
      exact ⟨this.1, by omega⟩
    · rename_i ha hb
      rw [Res.ok.injEq] at h
      rw [isLo_iff] at ha
      rw [isHi_iff] at hb
      refine ⟨?_, by rw [← h.2]; omega⟩
      unfold scal
      omega
theorem unesc_lt {b : UInt8} {c : Nat} (h : unesc b = some c) : c < 128 := by
  unfold unesc at h
  repeat' split at h
  all_goals first | (rw [Option.some.injEq] at h; omega) | cases h
theorem esc_ok {fr l q : Bs} {d : Nat} (h : escP fr l = .ok d q) : scal d ∧ q.length ≤ l.length := by
  unfold escP at h
  split at h
  · have := units_ok h
    exact ⟨this.1, by have := tail_le l; omega⟩
  split at h
  · rw [Res.ok.injEq] at h
    refine ⟨by rw [← h.1]; decide, by rw [← h.2]; exact tail_le l⟩
  · cases hu : unesc (hd l) with
    | none => rw [hu] at h; cases h
    | some c =>
      rw [hu] at h
      rw [Res.ok.injEq] at h
      refine ⟨?_, by rw [← h.2]; exact tail_le l⟩
      have := unesc_lt hu
      unfold scal
      omega
/-- A rune that is read is one, and takes a byte at least. -/
theorem one_ok {l q : Bs} {d : Nat} (h : oneP l = .ok d q) : scal d ∧ q.length < l.length := by
  unfold oneP at h
  split at h
  · rename_i h92
    have := esc_ok h
    exact ⟨this.1, by have := tail_lt (ne_hd h92 (by decide)); omega⟩
  · split at h
    · cases h
    · rename_i hn
      rw [Res.ok.injEq] at h
      have hne : l ≠ [] := fun e => hn (.inl e)
      have hw := decodeL_width l
      have hl := List.length_pos_iff.2 hne
      refine ⟨by rw [← h.1]; exact scal_dec l, ?_⟩
      rw [← h.2, List.length_drop]; omega
theorem str_ok : ∀ (n : Nat) {l acc t q : Bs}, strP n l acc = some (.ok t q) → (∃ cs, (∀ c ∈ cs, scal c) ∧ acc = utfB cs) → validD t = true ∧ q.length < l.length
  | 0, l, acc, t, q, h, _ => by cases h
  | n + 1, l, acc, t, q, h, ⟨cs, h1, h2⟩ => by
    rw [strP] at h
    split at h
    · rename_i h34
      rw [Option.some.injEq, Res.ok.injEq] at h
      refine ⟨by rw [← h.1, h2]; exact utf_valid cs h1, by rw [← h.2]; exact tail_lt (ne_hd h34 (by decide))⟩
    · cases ho : oneP l with
      | bad k r => rw [ho] at h; cases h
      | ok c r =>
        rw [ho] at h
        have hc := one_ok ho
        have := str_ok n h ⟨cs ++ [c], by
          intro d hd
          rcases List.mem_append.1 hd with hd | hd
          · exact h1 d hd
          · rw [List.mem_singleton.1 hd]; exact hc.1, by rw [utfB_append, h2]; simp [utfB]⟩
        exact ⟨this.1, by omega⟩
theorem quo_ok {n : Nat} {l t q : Bs} (h : quoP n l = some (.ok t q)) : validD t = true ∧ q.length < l.length := by
  unfold quoP at h
  split at h
  · have := str_ok n h ⟨[], by simp, rfl⟩
    exact ⟨this.1, by have := tail_le l; omega⟩
  · cases h
theorem key_ok {n : Nat} {seen : List Bs} {l t q : Bs} (h : keyP n seen l = some (.ok t q)) : validD t = true ∧ t ∉ seen ∧ q.length < l.length := by
  unfold keyP at h
  cases hq : quoP n (dropB l) with
  | none => rw [hq] at h; cases h
  | some x =>
    rw [hq] at h
    cases x with
    | bad k r => cases h
    | ok key r =>
      simp only at h
      have h1 := quo_ok hq
      have h2 := dropB_le l
      split at h
      · cases h
      rename_i hs
      split at h
      · rw [Option.some.injEq, Res.ok.injEq] at h
        refine ⟨by rw [← h.1]; exact h1.1, by rw [← h.1]; exact hs, ?_⟩
        have h3 := dropB_le r
        have h4 := tail_le (dropB r)
        rw [← h.2]; omega
      · cases h
/-- A step that goes on. -/
theorem parts_ok {α : Type} {e : UInt8} (he : e ≠ 0) {step : α → Bs → Option (Res α)} {good : α → Prop} (hs : ∀ a l b q, good a → step a l = some (.ok b q) → good b ∧ q.length ≤ l.length) :
    ∀ (n : Nat) (first : Bool) (a : α) (l : Bs) (b : α) (q : Bs), good a → partsP e step n first a l = some (.ok b q) → good b ∧ q.length < l.length
  | 0, _, _, _, _, _, _, h => by cases h
  | n + 1, first, a, l, b, q, hg, h => by
    have hb := dropB_le l
    rw [partsP] at h
    split at h
    · rename_i h1
      rw [Option.some.injEq, Res.ok.injEq] at h
      refine ⟨by rw [← h.1]; exact hg, ?_⟩
      have := tail_lt (ne_hd h1 he)
      rw [← h.2]; omega
    split at h
    · cases hx : step a (dropB l) with
      | none => rw [hx] at h; cases h
      | some x =>
        rw [hx] at h
        cases x with
        | bad k r => cases h
        | ok a' r =>
          have h1 := hs _ _ _ _ hg hx
          have h2 := parts_ok he hs n false a' r b q h1.1 h
          exact ⟨h2.1, by omega⟩
    split at h
    · cases hx : step a (dropB l).tail with
      | none => rw [hx] at h; cases h
      | some x =>
        rw [hx] at h
        cases x with
        | bad k r => cases h
        | ok a' r =>
          have h1 := hs _ _ _ _ hg hx
          have h2 := parts_ok he hs n false a' r b q h1.1 h
          have := tail_le (dropB l)
          exact ⟨h2.1, by omega⟩
    · cases h
theorem mayL_of : ∀ {l : List JV}, (∀ x ∈ l, may x) → mayL l
  | [], _ => by rw [mayL]; trivial
  | x :: l, h => by rw [mayL]; exact ⟨h x (by simp), mayL_of fun y hy => h y (by simp [hy])⟩
theorem deepL_of {n : Nat} : ∀ {l : List JV}, (∀ x ∈ l, deep x ≤ n) → deepL l ≤ n
  | [], _ => by rw [deepL]; omega
  | x :: l, h => by
    rw [deepL]
    have h1 := h x (by simp)
    have h2 := deepL_of (l := l) fun y hy => h y (by simp [hy])
    omega
theorem dropD_pre : ∀ l : Bs, ∃ t, l = t ++ dropD l ∧ dropD t = []
  | [] => ⟨[], rfl, rfl⟩
  | c :: l => by
    rw [dropD]
    split
    · rename_i h
      obtain ⟨t, h1, h2⟩ := dropD_pre l
      refine ⟨c :: t, ?_, ?_⟩
      · rw [List.cons_append, ← h1]
      · rw [dropD, if_pos h]; exact h2
    · exact ⟨[], rfl, rfl⟩
theorem dropD_stop : ∀ l : Bs, isDg (hd (dropD l)) = false
  | [] => rfl
  | c :: l => by
    rw [dropD]
    split
    · exact dropD_stop l
    · rename_i h
      rw [hd_cons]
      simpa using h
theorem dig_all {t : Bs} (h : dropD t = []) (hne : t ≠ []) : digP t = .ok () [] := by
  unfold digP
  have := List.length_pos_iff.2 hne
  rw [h, if_neg (by simp only [List.length_nil]; omega)]
theorem dig_pre {l r : Bs} (h : digP l = .ok () r) : ∃ t, l = t ++ r ∧ dropD t = [] ∧ t ≠ [] ∧ isDg (hd r) = false := by
  unfold digP at h
  split at h
  · cases h
  · rename_i hn
    rw [Res.ok.injEq] at h
    obtain ⟨t, h1, h2⟩ := dropD_pre l
    rw [← h.2]
    refine ⟨t, h1, h2, ?_, dropD_stop l⟩
    rintro rfl
    rw [List.nil_append] at h1
    exact hn (by rw [← h1])
theorem cons_of_hd {l : Bs} {c : UInt8} (h : hd l = c) (hc : c ≠ 0) : l = c :: l.tail := by
  cases l with
  | nil => exact absurd h.symm hc
  | cons d l => rw [hd_cons] at h; rw [h]; rfl
theorem exp_pre {l r : Bs} (h : expP l = .ok () r) : ∃ t, l = t ++ r ∧ expP t = .ok () [] ∧ isDg (hd t) = false := by
  unfold expP at h
  split at h
  · rename_i he
    have hc : ∃ c, l = c :: l.tail ∧ (c = 101 ∨ c = 69) := by
      rcases he with he | he
      · exact ⟨101, cons_of_hd he (by decide), .inl rfl⟩
      · exact ⟨69, cons_of_hd he (by decide), .inr rfl⟩
    obtain ⟨c, hl, hc⟩ := hc
    split at h
    · rename_i hs
      have hc2 : ∃ c, l.tail = c :: l.tail.tail ∧ (c = 43 ∨ c = 45) := by
        rcases hs with hs | hs
        · exact ⟨43, cons_of_hd hs (by decide), .inl rfl⟩
        · exact ⟨45, cons_of_hd hs (by decide), .inr rfl⟩
      obtain ⟨s, hl2, hs2⟩ := hc2
      obtain ⟨t, h1, h2, h3, _⟩ := dig_pre h
      refine ⟨c :: s :: t, ?_, ?_, ?_⟩
      · rw [List.cons_append, List.cons_append, ← h1, ← hl2, ← hl]
      · unfold expP
        rw [hd_cons, if_pos hc, List.tail_cons, hd_cons, if_pos hs2, List.tail_cons]
        exact dig_all h2 h3
      · rw [hd_cons]; rcases hc with rfl | rfl <;> decide
    · rename_i hs
      obtain ⟨t, h1, h2, h3, _⟩ := dig_pre h
      refine ⟨c :: t, ?_, ?_, ?_⟩
      · rw [List.cons_append, ← h1, ← hl]
      · unfold expP
        rw [hd_cons, if_pos hc, List.tail_cons]
        have e : hd t = hd l.tail := by rw [h1, hd_app h3]
        rw [e, if_neg hs]
        exact dig_all h2 h3
      · rw [hd_cons]; rcases hc with rfl | rfl <;> decide
  · rw [Res.ok.injEq] at h
    exact ⟨[], h.2, rfl, rfl⟩
theorem frac_pre {l r : Bs} (h : fracP l = .ok () r) : ∃ t, l = t ++ r ∧ fracP t = .ok () [] ∧ isDg (hd t) = false := by
  unfold fracP at h
  split at h
  · rename_i he
    have hl := cons_of_hd he (by decide)
    cases hx : digP l.tail with
    | bad k q => rw [hx] at h; cases h
    | ok u q =>
      rw [hx] at h
      obtain ⟨t1, h1, h2, h3, h4⟩ := dig_pre hx
      obtain ⟨t2, h5, h6, h7⟩ := exp_pre (l := q) (r := r) h
      refine ⟨46 :: (t1 ++ t2), ?_, ?_, ?_⟩
      · rw [List.cons_append, List.append_assoc, ← h5, ← h1, ← hl]
      · unfold fracP
        rw [hd_cons, if_pos rfl, List.tail_cons, dig_app (r := t2) h7 (dig_all h2 h3)]
        exact h6
      · rw [hd_cons]; decide
  · rename_i he
    obtain ⟨t, h5, h6, h7⟩ := exp_pre (l := l) (r := r) h
    refine ⟨t, h5, ?_, h7⟩
    unfold fracP
    rw [if_neg]
    · exact h6
    · by_cases hne : t = []
      · subst hne; decide
      · have : hd l = hd t := by rw [h5, hd_app hne]
        rw [← this]; exact he
theorem int_pre {l r : Bs} (h : intP l = .ok () r) : ∃ t, l = t ++ r ∧ intP t = .ok () [] := by
  unfold intP at h
  split at h
  · rename_i he
    have hl := cons_of_hd he (by decide)
    obtain ⟨t, h5, h6, _⟩ := frac_pre h
    refine ⟨48 :: t, ?_, ?_⟩
    · rw [List.cons_append, ← h5, ← hl]
    · unfold intP
      rw [hd_cons, if_pos rfl]
      exact h6
  · rename_i he
    cases hx : digP l with
    | bad k q => rw [hx] at h; cases h
    | ok u q =>
      rw [hx] at h
      obtain ⟨t1, h1, h2, h3, h4⟩ := dig_pre hx
      obtain ⟨t2, h5, h6, h7⟩ := frac_pre (l := q) (r := r) h
      refine ⟨t1 ++ t2, ?_, ?_⟩
      · rw [List.append_assoc, ← h5, ← h1]
      · unfold intP
        have e : hd (t1 ++ t2) = hd l := by rw [h1, hd_app h3, hd_app h3]
        rw [e, if_neg he, dig_app (r := t2) h7 (dig_all h2 h3)]
        exact h6
theorem num_pre {l r : Bs} (h : numP l = .ok () r) : ∃ t, l = t ++ r ∧ numP t = .ok () [] := by
  unfold numP at h
  split at h
  · rename_i he
    have hl := cons_of_hd he (by decide)
    obtain ⟨t, h1, h2⟩ := int_pre h
    refine ⟨45 :: t, by rw [List.cons_append, ← h1, ← hl], ?_⟩
    unfold numP
    rw [hd_cons, if_pos rfl]
    exact h2
  · rename_i he
    obtain ⟨t, h1, h2⟩ := int_pre h
    refine ⟨t, h1, ?_⟩
    unfold numP
    have e : hd t = hd l := by rw [h1, hd_app (int_ne h2)]
    rw [e, if_neg he]
    exact h2
theorem num_take {l r : Bs} (h : numP l = .ok () r) : numP (l.take (l.length - r.length)) = .ok () [] := by
  obtain ⟨t, h1, h2⟩ := num_pre h
  have : l.take (l.length - r.length) = t := by
    rw [h1, List.length_append, Nat.add_sub_cancel, List.take_left]
  rw [this]
  exact h2
/-- WHAT IS READ MAY BE, and is no deeper than may be. -/
theorem val_ok : ∀ (n lev : Nat) (l : Bs) (v : JV) (q : Bs), lev ≤ 16 → valP n lev l = some (.ok v q) → may v ∧ lev + deep v ≤ 16 ∧ q.length < l.length
  | 0, lev, l, v, q, _, h => by cases h
  | n + 1, lev, l, v, q, hlev, h => by
    rw [valP] at h
    have hb := dropB_le l
    generalize dropB l = m at h hb
    unfold valB at h
    have word : ∀ k w, (k = 0 ∨ k = 1 ∨ k = 2) → hd w ≠ 0 → some (mkW k w m) = some (.ok v q) → may v ∧ lev + deep v ≤ 16 ∧ q.length < l.length := by
      intro k w hk hw h
      unfold mkW at h
      cases w with
      | nil => exact absurd rfl hw
      | cons c w =>
        rw [hd_cons] at hw
        rw [wordP] at h
        split at h
        · rename_i hc
          cases hx : wordP w m.tail with
          | bad k r => rw [hx] at h; cases h
          | ok u r =>
            rw [hx] at h
            simp only [Res.map, Option.some.injEq, Res.ok.injEq] at h
            have h1 := word_le w hx
            obtain ⟨rfl, rfl⟩ := h
            refine ⟨?_, ?_, ?_⟩
            · rw [may]; exact ⟨by rw [mayL]; trivial, .inl ⟨hk, rfl, rfl, rfl⟩⟩
            · rw [deep, if_neg (by omega), deepL]; omega
            · have := tail_lt (ne_hd hc hw); omega
        · cases h
    split at h
    · exact word 0 nullT (by simp) (by decide) h
    split at h
    · exact word 1 falseT (by simp) (by decide) h
    split at h
    · exact word 2 trueT (by simp) (by decide) h
    split at h
    · cases hx : quoP n m with
      | none => rw [hx] at h; cases h
      | some x =>
        rw [hx] at h
        cases x with
        | bad k r => cases h
        | ok t r =>
          simp only [Option.map_some, Res.map, Option.some.injEq, Res.ok.injEq] at h
          obtain ⟨rfl, rfl⟩ := h
          have h1 := quo_ok hx
          refine ⟨?_, ?_, by omega⟩
          · rw [may]; exact ⟨by rw [mayL]; trivial, .inr (.inr (.inl ⟨rfl, h1.1, rfl, rfl⟩))⟩
          · rw [deep, if_neg (by omega), deepL]; omega
    split at h
    · split at h
      · cases h
      · rename_i h91 h16
        cases hx : partsP 93 (stepL (valP n (lev + 1))) n true [] m.tail with
        | none => rw [hx] at h; cases h
        | some x =>
          rw [hx] at h
          cases x with
          | bad k r => cases h
          | ok acc r =>
            simp only [Option.map_some, Res.map, Option.some.injEq, Res.ok.injEq] at h
            obtain ⟨rfl, rfl⟩ := h
            have hp := parts_ok (e := 93) (by decide) (step := stepL (valP n (lev + 1))) (good := fun acc : List JV => ∀ x ∈ acc, may x ∧ lev + 1 + deep x ≤ 16) (by
              intro a l b q ha hs
              unfold stepL at hs
              cases hv : valP n (lev + 1) l with
              | none => rw [hv] at hs; cases hs
              | some y =>
                rw [hv] at hs
                cases y with
                | bad k r => cases hs
                | ok y r =>
                  rw [Option.some.injEq, Res.ok.injEq] at hs
                  obtain ⟨rfl, rfl⟩ := hs
                  have := val_ok n (lev + 1) l y _ (by omega) hv
                  refine ⟨fun z hz => ?_, by omega⟩
                  rcases List.mem_append.1 hz with hz | hz
                  · exact ha z hz
                  · rw [List.mem_singleton.1 hz]; exact ⟨this.1, this.2.1⟩) n true [] m.tail acc _ (by simp) hx
            refine ⟨?_, ?_, by have := tail_le m; omega⟩
            · unfold mkL; rw [may]; exact ⟨mayL_of fun x hx => (hp.1 x hx).1, .inr (.inr (.inr (.inl ⟨rfl, rfl, rfl⟩)))⟩
            · unfold mkL; rw [deep, if_pos (.inl rfl)]
              have := deepL_of (n := 16 - lev - 1) (l := acc) fun x hx => by have := (hp.1 x hx).2; omega
              omega
    split at h
    · split at h
      · cases h
      · rename_i h91 h16
        cases hx : partsP 125 (stepO n (valP n (lev + 1))) n true [] m.tail with
        | none => rw [hx] at h; cases h
        | some x =>
          rw [hx] at h
          cases x with
          | bad k r => cases h
          | ok acc r =>
            simp only [Option.map_some, Res.map, Option.some.injEq, Res.ok.injEq] at h
            obtain ⟨rfl, rfl⟩ := h
            have hp := parts_ok (e := 125) (by decide) (step := stepO n (valP n (lev + 1))) (good := fun acc : List (Bs × JV) => (∀ x ∈ acc, (may x.2 ∧ lev + 1 + deep x.2 ≤ 16) ∧ validD x.1 = true) ∧ (acc.map (·.1)).Nodup) (by
              intro a l b q ha hs
              unfold stepO at hs
              cases hk : keyP n (a.map (·.1)) l with
              | none => rw [hk] at hs; cases hs
              | some y =>
                rw [hk] at hs
                cases y with
                | bad k r => cases hs
                | ok key r0 =>
                  have hkk := key_ok hk
                  simp only at hs
                  cases hv : valP n (lev + 1) r0 with
                  | none => rw [hv] at hs; cases hs
                  | some y =>
                    rw [hv] at hs
                    cases y with
                    | bad k r => cases hs
                    | ok y r =>
                      rw [Option.some.injEq, Res.ok.injEq] at hs
                      obtain ⟨rfl, rfl⟩ := hs
                      have := val_ok n (lev + 1) r0 y _ (by omega) hv
                      refine ⟨⟨fun z hz => ?_, ?_⟩, by omega⟩
                      · rcases List.mem_append.1 hz with hz | hz
                        · exact ha.1 z hz
                        · rw [List.mem_singleton.1 hz]; exact ⟨⟨this.1, this.2.1⟩, hkk.1⟩
                      · rw [List.map_append, List.nodup_append]
                        refine ⟨ha.2, by simp, ?_⟩
                        intro x hx y hy
                        simp at hy
                        rintro rfl
                        subst hy
                        exact hkk.2.1 hx) n true [] m.tail acc _ ⟨by simp, by simp⟩ hx
            refine ⟨?_, ?_, by have := tail_le m; omega⟩
            · unfold mkO; rw [may]
              refine ⟨mayL_of fun x hx => ?_, .inr (.inr (.inr (.inr ⟨rfl, rfl, by simp, ?_, hp.1.2⟩)))⟩
              · obtain ⟨p, hp1, rfl⟩ := List.mem_map.1 hx
                exact (hp.1.1 p hp1).1.1
              · intro x hx
                obtain ⟨p, hp1, rfl⟩ := List.mem_map.1 hx
                exact (hp.1.1 p hp1).2
            · unfold mkO; rw [deep, if_pos (.inr rfl)]
              have := deepL_of (n := 16 - lev - 1) (l := acc.map (·.2)) fun x hx => by
                obtain ⟨p, hp1, rfl⟩ := List.mem_map.1 hx
                have := (hp.1.1 p hp1).1.2
                omega
              omega
    · rw [Option.some.injEq] at h
      unfold mkN at h
      cases hx : numP m with
      | bad k r => rw [hx] at h; cases h
      | ok u r =>
        rw [hx] at h
        rw [Res.ok.injEq] at h
        obtain ⟨rfl, rfl⟩ := h
        have := num_lt hx
        refine ⟨?_, ?_, by omega⟩
        · rw [may]; exact ⟨by rw [mayL]; trivial, .inr (.inl ⟨rfl, num_take hx, rfl, rfl⟩)⟩
        · rw [deep, if_neg (by omega), deepL]; omega
end Go.Proofs.YtnkencdibniagaaGreatDoor

