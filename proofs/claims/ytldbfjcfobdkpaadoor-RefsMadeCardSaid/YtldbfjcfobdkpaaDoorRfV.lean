/- Layer 12: the names of RefsMade, plainly. -/
import Derived.Test.YtldbfjcfobdkpaaDoorRfS
namespace Go.Proofs.YtldbfjcfobdkpaaDoor

def alphaB : List UInt8 := [97, 98, 99, 100, 101, 102, 103, 104, 105, 106, 107, 108, 109, 110, 111, 112, 113, 114, 115, 116, 117, 118, 119, 120, 121, 122]
def wordL (k : Nat) : List UInt8 := alphaB.take (1 + k)
def vL (d : Nat) : List UInt8 := [118, UInt8.ofNat (48 + d)]
def nameM (k d : Nat) : RR := ⟨hubB, libraryB ++ [47] ++ wordL k, vL d, zero32, false⟩
/-- What stands ahead of the word, in each of the five texts. -/
def aheadL (i : Nat) : List UInt8 := if i = 0 then [] else if i = 1 then libraryB ++ [47] else if i = 2 then hubB ++ [47] else if i = 3 then hubB ++ [47] ++ libraryB ++ [47] else indexB ++ [47] ++ libraryB ++ [47]
def textM (i k d : Nat) : List UInt8 := aheadL i ++ wordL k ++ [58] ++ vL d
def regB : List UInt8 := [114, 101, 103, 46, 101, 120, 97, 109, 112, 108, 101, 58, 53, 48, 48, 48]
def ownM (k : Nat) (b : Bool) (g : List UInt8) : RR := ⟨regB, wordL k ++ [47] ++ wordL k, if b = true then latestB else [], g, true⟩
set_option maxRecDepth 100000 in
theorem word_ok : ∀ k, k < 26 → (wordL k).length = 1 + k ∧ (58 : UInt8) ∉ wordL k ∧ (64 : UInt8) ∉ wordL k ∧ (47 : UInt8) ∉ wordL k ∧ partB (wordL k) = true := by decide +kernel
set_option maxRecDepth 100000 in
theorem may_made : ∀ k, k < 26 → ∀ d, d < 10 → mayR (nameM k d) = true := by decide +kernel
set_option maxRecDepth 100000 in
theorem read_made : ∀ i, i < 5 → ∀ k, k < 26 → domR (aheadL i ++ wordL k) = hubB ∧ pathR (aheadL i ++ wordL k) = libraryB ++ [47] ++ wordL k ∧ (64 : UInt8) ∉ aheadL i ++ wordL k := by decide +kernel
theorem vL_no (d : Nat) (h : d < 10) : (64 : UInt8) ∉ vL d ∧ (58 : UInt8) ∉ vL d ∧ (47 : UInt8) ∉ vL d := by revert d; decide
theorem textM_le {i k d : Nat} (hi : i < 5) (hk : k < 26) : (textM i k d).length ≤ 200 := by
  have hw := (word_ok k hk).1
  have ha : (aheadL i).length ≤ 60 := by revert i; decide
  unfold textM vL
  simp only [List.length_append, List.length_cons, List.length_nil]
  omega
theorem made_back {i k d : Nat} (hi : i < 5) (hk : k < 26) (hd : d < 10) : parseR (textM i k d) = (nameM k d, 0) := by
  obtain ⟨h1, h2, h3⟩ := read_made i hi k hk
  obtain ⟨n1, n2, n3⟩ := vL_no d hd
  have hl := textM_le (d := d) hi hk
  have e : textM i k d = (aheadL i ++ wordL k) ++ tailT (vL d) ++ tailD false zero32 := by
    unfold textM tailT tailD vL
    simp
  rw [e] at hl ⊢
  refine parse_made rfl h3 n1 n2 n3 (fun h => by cases h) ?_ (may_made k hk d hd) hl
  rw [h1, h2]
  rfl
theorem made_short {k d : Nat} (hk : k < 26) (hd : d < 10) : shortR (nameM k d) = wordL k ++ [58] ++ vL d := by
  have hw := (word_ok k hk).2.2.2.1
  have hc : cutL (nameM k d).path 47 = [libraryB, wordL k] := by
    show cutL (libraryB ++ [47] ++ wordL k) 47 = _
    rw [List.append_assoc, List.singleton_append, cutL_two _ (by decide), cutL_one _ _ hw]
  have hls : lessR (nameM k d) = nameM k d := by
    unfold lessR
    rw [if_neg]
    rintro ⟨h, _⟩
    exact absurd h (by show vL d ≠ latestB; unfold vL latestB; simp)
  unfold shortR
  rw [if_pos (may_made k hk d hd), if_pos (show (nameM k d).dom = hubB from rfl), hc, if_pos ⟨rfl, rfl⟩, hls, textR_full]
  unfold tailT tailD nameM
  simp only [Bool.false_eq_true, if_false, List.append_nil]
  rw [if_neg (by unfold vL; simp)]
  show (hubB ++ 47 :: (libraryB ++ [47] ++ wordL k) ++ ([58] ++ vL d)).drop 18 = _
  rw [show hubB ++ 47 :: (libraryB ++ [47] ++ wordL k) ++ ([58] ++ vL d) = (hubB ++ [47] ++ libraryB ++ [47]) ++ (wordL k ++ [58] ++ vL d) by simp]
  rfl
theorem own_may {k : Nat} (b : Bool) {g : List UInt8} (hk : k < 26) (hg : g.length = 32) : mayR (ownM k b g) = true := by
  obtain ⟨hw, _, _, h47, hp⟩ := word_ok k hk
  have hc : cutL (wordL k ++ [47] ++ wordL k) 47 = [wordL k, wordL k] := by
    rw [List.append_assoc, List.singleton_append, cutL_two _ h47, cutL_one _ _ h47]
  have e1 : placeOk (ownM k b g) = true := by
    unfold placeOk ownM pathB
    simp only [hc, List.all_cons, List.all_nil, hp, Bool.and_true, Bool.true_and]
    have d1 : domainB regB = true := by decide +kernel
    have d2 : frontR (regB ++ [47]) ≠ [] := by decide +kernel
    have d3 : regB ≠ indexB := by decide +kernel
    have d4 : regB ≠ hubB := by decide +kernel
    rw [d1, decide_eq_false d2, decide_eq_false d3, decide_eq_false d4]
    rfl
  have e2 : tagsOk (ownM k b g) = true := by
    cases b
    · rfl
    · show (if latestB = [] then true else tagOk latestB) = true
      decide +kernel
  have e3 : sizeOk (ownM k b g) = true := by
    unfold sizeOk
    rw [Bool.and_eq_true, decide_eq_true_eq]
    refine ⟨rfl, ?_⟩
    rw [textR_full]
    have ht : (textL g).length = 71 := by rw [textL_length, hg]
    have h16 : regB.length = 16 := rfl
    have h6 : latestB.length = 6 := rfl
    unfold ownM tailD tailT
    simp only [if_true, List.length_append, List.length_cons, List.length_nil]
    cases b
    · simp only [Bool.false_eq_true, if_false, if_true, List.length_nil]
      omega
    · simp only [if_true]
      rw [if_neg (by decide)]
      simp only [List.length_append, List.length_cons, List.length_nil]
      omega
  unfold mayR
  rw [e1, e2, e3]
  rfl
theorem own_short {k : Nat} (b : Bool) {g : List UInt8} (hk : k < 26) (hg : g.length = 32) : shortR (ownM k b g) = textR (ownM k b g) := by
  have hls : lessR (ownM k b g) = ownM k b g := by
    unfold lessR
    rw [if_neg]
    rintro ⟨_, h⟩
    cases h
  unfold shortR
  rw [if_pos (own_may b hk hg), if_neg (by show regB ≠ hubB; decide), hls]
theorem own_le {k : Nat} (b : Bool) {g : List UInt8} (hk : k < 26) (hg : g.length = 32) : (textR (ownM k b g)).length ≤ 200 := (may_parts (own_may b hk hg)).l
end Go.Proofs.YtldbfjcfobdkpaaDoor
