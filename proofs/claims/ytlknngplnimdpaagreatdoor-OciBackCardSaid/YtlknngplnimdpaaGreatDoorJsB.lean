/- Layer 11, plain: what Parse reads and Print writes, as functions on bytes. What is read is told by what is left behind it; where it is wrong, by what stands from there on. -/
import Derived.Test.YtlknngplnimdpaaGreatDoorJsA
namespace Go.Proofs.YtlknngplnimdpaaGreatDoor
open Go.Lib

/-- A value. -/
inductive JV where
  | mk (kind : Int) (text : Bs) (items : List JV) (keys : List Bs)
def JV.kind : JV → Int | .mk k _ _ _ => k
def JV.text : JV → Bs | .mk _ t _ _ => t
def JV.items : JV → List JV | .mk _ _ l _ => l
def JV.keys : JV → List Bs | .mk _ _ _ l => l
/-- What was read, and what is left; or which error, and what stands from where it is wrong on. -/
inductive Res (α : Type) where
  | ok (a : α) (r : Bs)
  | bad (code : Nat) (r : Bs)
def Res.map {α β : Type} (f : α → β) : Res α → Res β
  | .ok a r => .ok (f a) r
  | .bad k r => .bad k r

def isBl (c : UInt8) : Bool := c == 32 || c == 9 || c == 10 || c == 13
def dropB : Bs → Bs
  | [] => []
  | c :: l => if isBl c = true then dropB l else c :: l
def isDg (c : UInt8) : Bool := decide (48 ≤ c) && decide (c ≤ 57)
def dropD : Bs → Bs
  | [] => []
  | c :: l => if isDg c = true then dropD l else c :: l
/-- The next byte; 0 at the end. -/
def hd (l : Bs) : UInt8 := l.headD 0
theorem hd_cons (c : UInt8) (l : Bs) : hd (c :: l) = c := rfl
theorem hd_nil : hd [] = 0 := rfl
/-- A word. -/
def wordP : Bs → Bs → Res Unit
  | [], l => .ok () l
  | c :: w, l => if hd l = c then wordP w l.tail else .bad 10 l
/-- Digits, one at least. -/
def digP (l : Bs) : Res Unit := if (dropD l).length = l.length then .bad 10 l else .ok () (dropD l)
/-- An exponent, if there is one. -/
def expP (l : Bs) : Res Unit :=
  if hd l = 101 ∨ hd l = 69 then (if hd l.tail = 43 ∨ hd l.tail = 45 then digP l.tail.tail else digP l.tail) else .ok () l
/-- A point and digits, if there is one; and an exponent. -/
def fracP (l : Bs) : Res Unit :=
  if hd l = 46 then (match digP l.tail with | .bad k r => .bad k r | .ok _ r => expP r) else expP l
def intP (l : Bs) : Res Unit :=
  if hd l = 48 then fracP l.tail else (match digP l with | .bad k r => .bad k r | .ok _ r => fracP r)
def numP (l : Bs) : Res Unit := if hd l = 45 then intP l.tail else intP l
/-- A digit to the base 16. -/
def hexV (b : UInt8) : Option Nat :=
  if 48 ≤ b.toNat ∧ b.toNat ≤ 57 then some (b.toNat - 48) else if 97 ≤ b.toNat ∧ b.toNat ≤ 102 then some (b.toNat - 87) else if 65 ≤ b.toNat ∧ b.toNat ≤ 70 then some (b.toNat - 55) else none
def unitP : Nat → Nat → Bs → Res Nat
  | 0, c, l => .ok c l
  | k + 1, c, l => match hexV (hd l) with | some n => unitP k (c * 16 + n) l.tail | none => .bad 10 l
def isLo (c : Nat) : Bool := decide (56320 ≤ c) && decide (c < 57344)
def isHi (c : Nat) : Bool := decide (55296 ≤ c) && decide (c < 56320)
/-- The second one of two units. -/
def lowP (fr : Bs) (c : Nat) (r : Bs) : Res Nat :=
  if r = [] ∨ r = [92] then .bad 10 []
  else if hd r = 92 ∧ hd r.tail = 117 then
    (match unitP 4 0 r.tail.tail with
      | .bad k q => .bad k q
      | .ok lo q => if isLo lo = true then .ok (65536 + (c - 55296) * 1024 + lo - 56320) q else .bad 10 fr)
  else .bad 10 fr
def unitsP (fr l : Bs) : Res Nat :=
  match unitP 4 0 l with
  | .bad k r => .bad k r
  | .ok c r => if isLo c = true then .bad 10 fr else if isHi c = true then lowP fr c r else .ok c r
def unesc (b : UInt8) : Option Nat :=
  if b = 34 then some 34 else if b = 92 then some 92 else if b = 98 then some 8 else if b = 102 then some 12 else if b = 110 then some 10 else if b = 114 then some 13 else if b = 116 then some 9 else none
def escP (fr l : Bs) : Res Nat :=
  if hd l = 117 then unitsP fr l.tail else if hd l = 47 then .ok 47 l.tail
  else match unesc (hd l) with | some c => .ok c l.tail | none => .bad 10 l
/-- One rune of a string. -/
def oneP (l : Bs) : Res Nat :=
  if hd l = 92 then escP l l.tail
  else if l = [] ∨ noRune l ∨ (decodeL l).1 < 32 then .bad 10 l else .ok (decodeL l).1 (l.drop (decodeL l).2)
/-- The rest of a string, behind what was read of it. -/
def strP : Nat → Bs → Bs → Option (Res Bs)
  | 0, _, _ => none
  | n + 1, l, acc => if hd l = 34 then some (.ok acc l.tail) else match oneP l with
    | .bad k r => some (.bad k r)
    | .ok c r => strP n r (acc ++ encodeRune (c : Int))
def quoP (n : Nat) (l : Bs) : Option (Res Bs) := if hd l = 34 then strP n l.tail [] else some (.bad 10 l)
/-- Parts, with commas between, and a bracket at the end. -/
def partsP {α : Type} (e : UInt8) (step : α → Bs → Option (Res α)) : Nat → Bool → α → Bs → Option (Res α)
  | 0, _, _, _ => none
  | n + 1, first, acc, l =>
    if hd (dropB l) = e then some (.ok acc (dropB l).tail)
    else if first = true then (match step acc (dropB l) with | none => none | some (.bad k r) => some (.bad k r) | some (.ok a r) => partsP e step n false a r)
    else if hd (dropB l) = 44 then (match step acc (dropB l).tail with | none => none | some (.bad k r) => some (.bad k r) | some (.ok a r) => partsP e step n false a r)
    else some (.bad 10 (dropB l))
/-- A key, and what stands between it and its value. -/
def keyP (n : Nat) (seen : List Bs) (l : Bs) : Option (Res Bs) :=
  match quoP n (dropB l) with
  | none => none
  | some (.bad k r) => some (.bad k r)
  | some (.ok key r) => if key ∈ seen then some (.bad 10 (dropB l)) else if hd (dropB r) = 58 then some (.ok key (dropB r).tail) else some (.bad 10 (dropB r))
def stepL (val : Bs → Option (Res JV)) (acc : List JV) (l : Bs) : Option (Res (List JV)) :=
  match val l with
  | none => none
  | some (.bad k r) => some (.bad k r)
  | some (.ok x r) => some (.ok (acc ++ [x]) r)
def stepO (n : Nat) (val : Bs → Option (Res JV)) (acc : List (Bs × JV)) (l : Bs) : Option (Res (List (Bs × JV))) :=
  match keyP n (acc.map (·.1)) l with
  | none => none
  | some (.bad k r) => some (.bad k r)
  | some (.ok key r) => match val r with
    | none => none
    | some (.bad k r) => some (.bad k r)
    | some (.ok x r) => some (.ok (acc ++ [(key, x)]) r)
def mkL (acc : List JV) : JV := .mk 5 [] acc []
def mkO (acc : List (Bs × JV)) : JV := .mk 6 [] (acc.map (·.2)) (acc.map (·.1))
def mkN (l : Bs) : Res JV := match numP l with | .bad k r => .bad k r | .ok _ r => .ok (.mk 3 (l.take (l.length - r.length)) [] []) r
def mkW (k : Int) (w l : Bs) : Res JV := (wordP w l).map fun _ => .mk k [] [] []
def nullT : Bs := [110, 117, 108, 108]
def falseT : Bs := [102, 97, 108, 115, 101]
def trueT : Bs := [116, 114, 117, 101]
/-- A value, in so many lists and objects, by what stands first. -/
def valB (n lev : Nat) (val : Bs → Option (Res JV)) (l : Bs) : Option (Res JV) :=
  if hd l = 110 then some (mkW 0 nullT l)
  else if hd l = 102 then some (mkW 1 falseT l)
  else if hd l = 116 then some (mkW 2 trueT l)
  else if hd l = 34 then (quoP n l).map (Res.map fun t => .mk 4 t [] [])
  else if hd l = 91 then (if lev = 16 then some (.bad 11 l) else (partsP 93 (stepL val) n true [] l.tail).map (Res.map mkL))
  else if hd l = 123 then (if lev = 16 then some (.bad 11 l) else (partsP 125 (stepO n val) n true [] l.tail).map (Res.map mkO))
  else some (mkN l)
def valP : Nat → Nat → Bs → Option (Res JV)
  | 0, _, _ => none
  | n + 1, lev, l => valB n lev (valP n (lev + 1)) (dropB l)
def allP (n : Nat) (l : Bs) : Option (Res JV) :=
  match valP n 0 l with
  | none => none
  | some (.bad k r) => some (.bad k r)
  | some (.ok v r) => if dropB r = [] then some (.ok v []) else some (.bad 10 (dropB r))
/-- All of a text: the value; or where it is wrong. -/
inductive Out where
  | val (v : JV)
  | wrong (at_ : Nat) (code : Nat)
def outOf (l : Bs) : Res JV → Out
  | .ok v _ => .val v
  | .bad k r => .wrong (l.length - r.length) k

/-! ### What is written -/
def hexd (n : Nat) : UInt8 := if n < 10 then UInt8.ofNat (48 + n) else UInt8.ofNat (87 + n)
def escR (c : Nat) : Option UInt8 :=
  if c = 34 then some 34 else if c = 92 then some 92 else if c = 8 then some 98 else if c = 12 then some 102 else if c = 10 then some 110 else if c = 13 then some 114 else if c = 9 then some 116 else none
def printedR (c : Nat) : Bs :=
  match escR c with
  | some b => [92, b]
  | none => if c < 16 then [92, 117, 48, 48, 48, hexd c] else if c < 32 then [92, 117, 48, 48, 49, hexd (c - 16)] else encodeRune (c : Int)
def quoR (cs : List Nat) : Bs := 34 :: (cs.flatMap printedR ++ [34])
def quoT (t : Bs) : Bs := quoR (runesT t)
def wordOf (k : Int) : Bs := if k = 0 then nullT else if k = 1 then falseT else trueT
/-- Parts with g around what stands between them. -/
def joinG (g : Bs) : List Bs → Bs
  | [] => []
  | [x] => x
  | x :: y :: l => x ++ (g ++ [44] ++ g) ++ joinG g (y :: l)
def pairG (g : Bs) (k x : Bs) : Bs := quoT k ++ (g ++ [58] ++ g) ++ x
mutual
/-- A value's text, with g around all that stands between its parts. -/
def prG (g : Bs) : JV → Bs
  | .mk k t items keys =>
    if k = 3 then t else if k = 4 then quoT t
    else if k = 5 then (g ++ [91] ++ g) ++ joinG g (prL g items) ++ (g ++ [93] ++ g)
    else if k = 6 then (g ++ [123] ++ g) ++ joinG g (List.zipWith (pairG g) keys (prL g items)) ++ (g ++ [125] ++ g)
    else wordOf k
def prL (g : Bs) : List JV → List Bs
  | [] => []
  | x :: l => prG g x :: prL g l
end
def isNum (t : Bs) : Prop := numP t = .ok () []
mutual
/-- May a value be, but for how deep it is? -/
def may : JV → Prop
  | .mk k t items keys =>
    mayL items ∧
    ((k = 0 ∨ k = 1 ∨ k = 2) ∧ t = [] ∧ items = [] ∧ keys = [] ∨ k = 3 ∧ isNum t ∧ items = [] ∧ keys = [] ∨ k = 4 ∧ validD t = true ∧ items = [] ∧ keys = [] ∨ k = 5 ∧ t = [] ∧ keys = []
      ∨ k = 6 ∧ t = [] ∧ keys.length = items.length ∧ (∀ x ∈ keys, validD x = true) ∧ keys.Nodup)
def mayL : List JV → Prop
  | [] => True
  | x :: l => may x ∧ mayL l
end
mutual
def deep : JV → Nat
  | .mk k _ items _ => if k = 5 ∨ k = 6 then deepL items + 1 else deepL items
def deepL : List JV → Nat
  | [] => 0
  | x :: l => max (deep x) (deepL l)
end
end Go.Proofs.YtlknngplnimdpaaGreatDoor
