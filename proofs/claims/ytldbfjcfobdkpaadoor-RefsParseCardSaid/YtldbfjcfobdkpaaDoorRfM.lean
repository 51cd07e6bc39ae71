/- Layer 12: the document's names, plainly: texts cut, what is made of bytes, domains, paths, names. -/
import Derived.Test.YtldbfjcfobdkpaaDoorDigM
namespace Go.Proofs.YtldbfjcfobdkpaaDoor

def smallB : List UInt8 := [97, 98, 99, 100, 101, 102, 103, 104, 105, 106, 107, 108, 109, 110, 111, 112, 113, 114, 115, 116, 117, 118, 119, 120, 121, 122, 48, 49, 50, 51, 52, 53, 54, 55, 56, 57]
def allB : List UInt8 := [97, 98, 99, 100, 101, 102, 103, 104, 105, 106, 107, 108, 109, 110, 111, 112, 113, 114, 115, 116, 117, 118, 119, 120, 121, 122, 48, 49, 50, 51, 52, 53, 54, 55, 56, 57, 65, 66, 67, 68, 69, 70, 71, 72, 73, 74, 75, 76, 77, 78, 79, 80, 81, 82, 83, 84, 85, 86, 87, 88, 89, 90]
def digitB : List UInt8 := [48, 49, 50, 51, 52, 53, 54, 55, 56, 57]
/-- A text's parts: one byte more. -/
def cutS (c : UInt8) (l : List (List UInt8)) (x : UInt8) : List (List UInt8) := if x = c then l ++ [[]] else l.set (l.length - 1) (l.getD (l.length - 1) [] ++ [x])
def cutL (s : List UInt8) (c : UInt8) : List (List UInt8) := s.foldl (cutS c) [[]]
theorem cutL_nil (c : UInt8) : cutL [] c = [[]] := rfl
theorem cutL_snoc (s : List UInt8) (c x : UInt8) : cutL (s ++ [x]) c = cutS c (cutL s c) x := by simp [cutL]
theorem cutS_length (c : UInt8) (l : List (List UInt8)) (x : UInt8) : (cutS c l x).length = l.length + if x = c then 1 else 0 := by
  unfold cutS
  split <;> simp
theorem cutL_pos (s : List UInt8) (c : UInt8) : 0 < (cutL s c).length := by
  rcases List.eq_nil_or_concat s with rfl | ⟨r, x, rfl⟩
  · exact Nat.one_pos
  · rw [List.concat_eq_append, cutL_snoc, cutS_length]
    have := cutL_pos r c
    omega
termination_by s.length
decreasing_by rename_i h; rw [h]; simp
theorem cutL_le (s : List UInt8) (c : UInt8) : (cutL s c).length ≤ s.length + 1 := by
  rcases List.eq_nil_or_concat s with rfl | ⟨r, x, rfl⟩
  · exact Nat.le_refl _
  · rw [List.concat_eq_append, cutL_snoc, cutS_length, List.length_append, List.length_singleton]
    have := cutL_le r c
    split <;> omega
termination_by s.length
decreasing_by rename_i h; rw [h]; simp
/-- Are all of a text's bytes some of others? -/
def ofB (s t : List UInt8) : Bool := s.all fun x => t.any fun y => x == y
def partsOk (m : List UInt8) : Bool := !decide (m.length = 0) && (ofB m (allB ++ [45]) && (!decide (m.getD 0 0 = 45) && !decide (m.getD (m.length - 1) 0 = 45)))
def portOk (l : List (List UInt8)) : Bool := decide (l.length ≤ 2) && (!decide (l.length = 2) || (!decide (l.getD 1 [] = []) && (decide ((l.getD 1 []).length ≤ 5) && ofB (l.getD 1 []) digitB)))
/-- Is a text a domain? -/
def domainB (s : List UInt8) : Bool := portOk (cutL s 58) && (cutL ((cutL s 58).getD 0 []) 46).all partsOk
def gapOk (g : List UInt8) : Bool := decide (g = []) || (decide (g = [46]) || (decide (g = [95]) || (decide (g = [95, 95]) || ofB g [45])))
def gapS (x : UInt8) : Bool := ofB [x] smallB
def partG (g : List UInt8) : List UInt8 → Bool
  | [] => true
  | x :: r => if gapS x = true then (if gapOk g = true then partG [] r else false) else partG (g ++ [x]) r
/-- Is a text a part of a path? -/
def partB (s : List UInt8) : Bool := !decide (s = []) && (ofB s (smallB ++ [46, 95, 45]) && (ofB (s.take 1) smallB && (ofB (s.drop (s.length - 1)) smallB && partG [] s)))
def pathB (s : List UInt8) : Bool := (cutL s 47).all partB
/-- A name. -/
structure RR where
  dom : List UInt8
  path : List UInt8
  tag : List UInt8
  dig : List UInt8
  pin : Bool
deriving DecidableEq
def zeroR : RR := ⟨[], [], [], zero32, false⟩
/-- All of a name. -/
def textR (r : RR) : List UInt8 := r.dom ++ [47] ++ r.path ++ (if r.tag = [] then [] else [58] ++ r.tag) ++ (if r.pin = true then [64] ++ textL r.dig else [])
def localB : List UInt8 := [108, 111, 99, 97, 108, 104, 111, 115, 116]
def hubB : List UInt8 := [100, 111, 99, 107, 101, 114, 46, 105, 111]
def indexB : List UInt8 := [105, 110, 100, 101, 120, 46, 100, 111, 99, 107, 101, 114, 46, 105, 111]
def latestB : List UInt8 := [108, 97, 116, 101, 115, 116]
def libraryB : List UInt8 := [108, 105, 98, 114, 97, 114, 121]
/-- The domain of a text. -/
def isDom (h : List UInt8) : Bool := decide (1 < (cutL h 46).length) || (decide (1 < (cutL h 58).length) || decide (h = localB))
def frontR (s : List UInt8) : List UInt8 := if (decide (1 < (cutL s 47).length) && isDom ((cutL s 47).getD 0 [])) = true then (cutL s 47).getD 0 [] else []
def tagOk (t : List UInt8) : Bool := decide (t.length ≤ 32) && (ofB t (allB ++ [95, 46, 45]) && (!decide (t.getD 0 0 = 46) && !decide (t.getD 0 0 = 45)))
def placeOk (r : RR) : Bool := domainB r.dom && (!decide (frontR (r.dom ++ [47]) = []) && (!decide (r.dom = indexB) && (pathB r.path && !(decide (r.dom = hubB) && decide ((cutL r.path 47).length < 2)))))
def tagsOk (r : RR) : Bool := if r.tag = [] then r.pin else tagOk r.tag
def sizeOk (r : RR) : Bool := (r.pin || decide (r.dig = zero32)) && decide ((textR r).length ≤ 200)
/-- May a name be? -/
def mayR (r : RR) : Bool := placeOk r && (tagsOk r && sizeOk r)
def checkR (r : RR) : Int := if mayR r = true then 0 else 10
/-- The parts of a text, read. -/
def digR (s : List UInt8) : List UInt8 := s.drop (((cutL s 64).getD 0 []).length + 1)
def pinR (s : List UInt8) : Bool := decide (((cutL s 64).getD 0 []).length < s.length)
def lastR (n : List UInt8) : List UInt8 := (cutL n 58).getD ((cutL n 58).length - 1) []
def tagged (n : List UInt8) : Bool := decide (1 < (cutL n 58).length) && decide ((cutL (lastR n) 47).length = 1)
def nameR (n : List UInt8) : List UInt8 := if tagged n = true then n.take (n.length - (lastR n).length - 1) else n
def tagR (n : List UInt8) (pin : Bool) : List UInt8 := if tagged n = true then lastR n else if pin = true then [] else latestB
def domR (n : List UInt8) : List UInt8 := if frontR n = [] ∨ frontR n = indexB then hubB else frontR n
def restR (n : List UInt8) : List UInt8 := if frontR n = [] then n else n.drop ((frontR n).length + 1)
def pathR (n : List UInt8) : List UInt8 := if domR n = hubB ∧ (cutL (restR n) 47).length = 1 then libraryB ++ [47] ++ restR n else restR n
def readR (s : List UInt8) : RR :=
  let n := (cutL s 64).getD 0 []
  ⟨domR (nameR n), pathR (nameR n), tagR n (pinR s), if pinR s = true then digL (digR s) else zero32, pinR s⟩
/-- The name of a text. -/
def parseR (s : List UInt8) : RR × Int :=
  if 200 < s.length then (zeroR, 3)
  else if pinR s = true ∧ isText (digR s) = false then (zeroR, 10)
  else if tagged ((cutL s 64).getD 0 []) = true ∧ lastR ((cutL s 64).getD 0 []) = [] then (zeroR, 10)
  else if mayR (readR s) = true then (readR s, 0) else (zeroR, 10)
def showR (r : RR) : List UInt8 := if mayR r = true then textR r else []
def lessR (r : RR) : RR := if r.tag = latestB ∧ r.pin = false then { r with tag := [] } else r
def shortR (r : RR) : List UInt8 :=
  if mayR r = true then
    (if r.dom = hubB then
      (if (cutL r.path 47).length = 2 ∧ (cutL r.path 47).getD 0 [] = libraryB then (textR (lessR r)).drop 18
       else if frontR r.path = [] then (textR (lessR r)).drop 10 else textR (lessR r))
     else textR (lessR r))
  else []
end Go.Proofs.YtldbfjcfobdkpaaDoor
