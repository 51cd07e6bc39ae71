/- Layer 17, plainly: chains of digests, and what two lists have in common. -/
import Derived.Test.YtemnfnmkhfgopaaDoorSbM
import Derived.Test.YtemnfnmkhfgopaaDoorDigM
namespace Go.Proofs.YtemnfnmkhfgopaaDoor

/-- A layer over one that has a chain ID. -/
def nextL (p d : List UInt8) : List UInt8 := hashL (textL p ++ 32 :: textL d)
theorem nextL_length (p d : List UInt8) : (nextL p d).length = 32 := hashL_length _
def chainL : List UInt8 → List (List UInt8) → List (List UInt8)
  | _, [] => []
  | p, d :: r => nextL p d :: chainL (nextL p d) r
/-- The chain IDs of layers. -/
def chainsL : List (List UInt8) → List (List UInt8)
  | [] => []
  | d :: r => d :: chainL d r
theorem chainL_length (p : List UInt8) (l : List (List UInt8)) : (chainL p l).length = l.length := by
  induction l generalizing p with
  | nil => rfl
  | cons d r ih => simp [chainL, ih]
theorem chainsL_length (l : List (List UInt8)) : (chainsL l).length = l.length := by
  cases l with
  | nil => rfl
  | cons d r => simp [chainsL, chainL_length]
theorem chainL_take (p : List UInt8) (l : List (List UInt8)) (k : Nat) : (chainL p l).take k = chainL p (l.take k) := by
  induction l generalizing p k with
  | nil => simp [chainL]
  | cons d r ih =>
    cases k with
    | zero => simp [chainL]
    | succ k => simp [chainL, ih]
theorem chainsL_take (l : List (List UInt8)) (k : Nat) : (chainsL l).take k = chainsL (l.take k) := by
  cases l with
  | nil => simp [chainsL]
  | cons d r =>
    cases k with
    | zero => simp [chainsL]
    | succ k => simp [chainsL, chainL_take]
theorem chainL_step (p : List UInt8) (l : List (List UInt8)) (k : Nat) (h : k < l.length) : (chainL p l).getD k [] = nextL ((p :: chainL p l).getD k []) (l.getD k []) := by
  induction l generalizing p k with
  | nil => simp at h
  | cons d r ih =>
    cases k with
    | zero => simp [chainL]
    | succ k =>
      have := ih (nextL p d) k (by simpa using h)
      simpa [chainL] using this
theorem chainsL_zero (l : List (List UInt8)) : (chainsL l).getD 0 [] = l.getD 0 [] := by
  cases l <;> simp [chainsL]
theorem chainsL_step (l : List (List UInt8)) (k : Nat) (h : k + 1 < l.length) : (chainsL l).getD (k + 1) [] = nextL ((chainsL l).getD k []) (l.getD (k + 1) []) := by
  cases l with
  | nil => simp at h
  | cons d r =>
    have := chainL_step d r k (by simpa using h)
    simpa [chainsL] using this
theorem chainsL_mem {l : List (List UInt8)} (h : ∀ d ∈ l, d.length = 32) : ∀ d ∈ chainsL l, d.length = 32 := by
  have key : ∀ (r : List (List UInt8)) (p : List UInt8), ∀ d ∈ chainL p r, d.length = 32 := by
    intro r
    induction r with
    | nil => intro p d hd; simp [chainL] at hd
    | cons x r ih =>
      intro p d hd
      rw [chainL, List.mem_cons] at hd
      rcases hd with rfl | hd
      · exact nextL_length _ _
      · exact ih _ d hd
  cases l with
  | nil => intro d hd; simp [chainsL] at hd
  | cons x r =>
    intro d hd
    rw [chainsL, List.mem_cons] at hd
    rcases hd with rfl | hd
    · exact h _ (by simp)
    · exact key r x d hd
/-- Lists that are the same from the front on have the same chains. -/
theorem chainsL_same (x y : List (List UInt8)) (n : Nat) (h : x.take n = y.take n) : (chainsL x).take n = (chainsL y).take n := by
  rw [chainsL_take, chainsL_take, h]

/-- How many, from the front on, are the same in both. -/
def shareL : List (List UInt8) → List (List UInt8) → Nat
  | a :: x, b :: y => if a = b then shareL x y + 1 else 0
  | _, _ => 0
theorem shareL_le (a b : List (List UInt8)) : shareL a b ≤ a.length ∧ shareL a b ≤ b.length := by
  induction a generalizing b with
  | nil => simp [shareL]
  | cons x r ih =>
    cases b with
    | nil => simp [shareL]
    | cons y s =>
      rw [shareL]
      have := ih s
      split
      · simp; omega
      · simp
theorem shareL_take (a b : List (List UInt8)) : a.take (shareL a b) = b.take (shareL a b) := by
  induction a generalizing b with
  | nil => cases b <;> simp [shareL]
  | cons x r ih =>
    cases b with
    | nil => simp [shareL]
    | cons y s =>
      rw [shareL]
      by_cases h : x = y
      · rw [if_pos h, h, List.take_succ_cons, List.take_succ_cons, ih s]
      · rw [if_neg h]; rfl
theorem shareL_is {a b : List (List UInt8)} {n : Nat} (ha : n ≤ a.length) (hb : n ≤ b.length) (hs : ∀ i, i < n → a.getD i [] = b.getD i [])
    (hn : n = a.length ∨ n = b.length ∨ a.getD n [] ≠ b.getD n []) : shareL a b = n := by
  induction n generalizing a b with
  | zero =>
    cases a with
    | nil => simp [shareL]
    | cons x r =>
      cases b with
      | nil => simp [shareL]
      | cons y s =>
        rw [shareL, if_neg]
        rcases hn with hn | hn | hn
        · simp at hn
        · simp at hn
        · simpa using hn
  | succ n ih =>
    cases a with
    | nil => simp at ha
    | cons x r =>
      cases b with
      | nil => simp at hb
      | cons y s =>
        rw [shareL, if_pos (by simpa using hs 0 (by omega)), ih (by simpa using ha) (by simpa using hb) (fun i hi => by simpa using hs (i + 1) (by omega))]
        simpa using hn
theorem shareL_front (f a b : List (List UInt8)) : f.length ≤ shareL (f ++ a) (f ++ b) := by
  induction f with
  | nil => simp
  | cons x r ih => simp [shareL]; exact ih
theorem shareL_ne (a b : List (List UInt8)) : shareL a b = a.length ∨ shareL a b = b.length ∨ a.getD (shareL a b) [] ≠ b.getD (shareL a b) [] := by
  induction a generalizing b with
  | nil => cases b <;> simp [shareL]
  | cons x r ih =>
    cases b with
    | nil => simp [shareL]
    | cons y s =>
      rw [shareL]
      by_cases h : x = y
      · rw [if_pos h]
        have := ih s
        simpa using this
      · rw [if_neg h]
        right; right
        simpa using h

/-- The chapter's examples. -/
def oneD : List UInt8 := 1 :: List.replicate 31 0
theorem one_next : nextL oneD oneD ≠ oneD := by decide +kernel
end Go.Proofs.YtemnfnmkhfgopaaDoor
