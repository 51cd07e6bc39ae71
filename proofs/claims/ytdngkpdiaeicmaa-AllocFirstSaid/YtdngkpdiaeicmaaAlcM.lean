/- Layer 8: the document's map of blocks, in plain words. -/
import Derived.Test.YtdngkpdiaeicmaaBitsN
namespace Go.Proofs.Ytdngkpdiaeicmaa

/-- How many are in use. -/
def usedL (L : List Bool) : Nat := L.countP id
/-- Its bytes, so far as the first k blocks go. -/
def fillL (L : List Bool) : Nat → List UInt8
  | 0 => List.replicate ((L.length + 7) / 8) 0
  | k + 1 => if L.getD k false then putB (fillL L k) k true else fillL L k
def packL (L : List Bool) : List UInt8 := fillL L L.length
theorem fillL_length (L : List Bool) (k : Nat) : (fillL L k).length = (L.length + 7) / 8 := by
  induction k with
  | zero => simp [fillL]
  | succ k ih =>
    rw [fillL]
    split
    · rw [putB_length, ih]
    · exact ih
theorem packL_length (L : List Bool) : (packL L).length = (L.length + 7) / 8 := fillL_length L _
theorem bitN_zeros (n j : Nat) : bitN (List.replicate n 0) j = false := by
  have h : (List.replicate n (0 : UInt8)).getD (j / 8) 0 = 0 := by
    rw [List.getD_eq_getElem?_getD, List.getElem?_replicate]
    split <;> rfl
  unfold bitN
  rw [h]
  simp
theorem bitN_fill (L : List Bool) (k : Nat) (h : k ≤ L.length) (j : Nat) : bitN (fillL L k) j = (decide (j < k) && L.getD j false) := by
  induction k with
  | zero => rw [fillL, bitN_zeros]; simp
  | succ k ih =>
    have ih := ih (by omega)
    rw [fillL]
    have hk : k / 8 < (fillL L k).length := by rw [fillL_length]; omega
    split
    · rename_i hb
      rw [bitN_putB _ _ _ _ hk, ih]
      by_cases e : j = k
      · subst e; rw [if_pos rfl, hb]; simp
      · rw [if_neg e]
        have : decide (j < k + 1) = decide (j < k) := by rw [decide_eq_decide]; omega
        rw [this]
    · rename_i hb
      rw [ih]
      by_cases e : j = k
      · subst e
        have : L.getD j false = false := by simpa using hb
        rw [this]; simp
      · have : decide (j < k + 1) = decide (j < k) := by rw [decide_eq_decide]; omega
        rw [this]
theorem bitN_pack (L : List Bool) (j : Nat) : bitN (packL L) j = L.getD j false := by
  unfold packL
  rw [bitN_fill L _ (Nat.le_refl _)]
  by_cases h : j < L.length
  · simp [h]
  · rw [List.getD_eq_getElem?_getD, List.getElem?_eq_none (by omega)]; simp
theorem setN_add : ∀ b < 256, ∀ k < 8, b.testBit k = false → setN b k true = b + 2 ^ k := by decide +kernel
/-- One block more of its bytes. -/
theorem fill_step (L : List Bool) (k : Nat) (h : k < L.length) (hb : L.getD k false = true) :
    fillL L (k + 1) = (fillL L k).set (k / 8) (UInt8.ofNat (((fillL L k).getD (k / 8) 0).toNat + 2 ^ (k % 8))) ∧ ((fillL L k).getD (k / 8) 0).toNat + 2 ^ (k % 8) < 256 := by
  have hc : bitN (fillL L k) k = false := by rw [bitN_fill L k (by omega)]; simp
  have hc' : ((fillL L k).getD (k / 8) 0).toNat.testBit (k % 8) = false := hc
  have e := setN_add _ (UInt8.toNat_lt ((fillL L k).getD (k / 8) 0)) (k % 8) (by omega) hc'
  refine ⟨?_, ?_⟩
  · rw [fillL, if_pos hb]
    unfold putB
    rw [e]
  · rw [← e]
    exact setN_lt true (UInt8.toNat_lt _) (by omega)
/-- The map of bits. -/
def bitsL (s : List UInt8) (n : Nat) : List Bool := (List.range n).map (bitN s)
theorem bitsL_length (s : List UInt8) (n : Nat) : (bitsL s n).length = n := by simp [bitsL]
theorem bitsL_getD (s : List UInt8) (n j : Nat) : (bitsL s n).getD j false = (decide (j < n) && bitN s j) := by
  unfold bitsL
  rw [List.getD_eq_getElem?_getD, List.getElem?_map]
  by_cases h : j < n
  · rw [List.getElem?_range h]; simp [h]
  · rw [List.getElem?_eq_none (by simpa using h)]; simp [h]
def ofL (s : List UInt8) (n : Nat) : Option (List Bool) := if packL (bitsL s n) = s then some (bitsL s n) else none
theorem list_ext_getD {A B : List Bool} (hl : A.length = B.length) (h : ∀ j, A.getD j false = B.getD j false) : A = B := by
  refine List.ext_getElem hl fun k h1 h2 => ?_
  have := h k
  rw [List.getD_eq_getElem?_getD, List.getD_eq_getElem?_getD, List.getElem?_eq_getElem h1, List.getElem?_eq_getElem h2] at this
  simpa using this
theorem bits_pack (L : List Bool) : bitsL (packL L) L.length = L := by
  refine list_ext_getD (bitsL_length _ _) fun j => ?_
  rw [bitsL_getD, bitN_pack]
  by_cases h : j < L.length
  · simp [h]
  · rw [List.getD_eq_getElem?_getD, List.getElem?_eq_none (by omega)]; simp
theorem of_pack (L : List Bool) : ofL (packL L) L.length = some L := by
  unfold ofL
  rw [bits_pack, if_pos rfl]
theorem of_some {s : List UInt8} {n : Nat} {L : List Bool} (h : ofL s n = some L) : packL L = s ∧ L.length = n := by
  unfold ofL at h
  split at h
  · rename_i e
    obtain rfl := Option.some.inj h
    exact ⟨e, bitsL_length _ _⟩
  · cases h
/-- Just the bytes of so many blocks are a map. -/
theorem of_none_len {s : List UInt8} {n : Nat} (h : s.length ≠ (n + 7) / 8) : ofL s n = none := by
  unfold ofL
  rw [if_neg]
  intro e
  have := packL_length (bitsL s n)
  rw [e, bitsL_length] at this
  exact h this
theorem of_none_bit {s : List UInt8} {n j : Nat} (hj : n ≤ j) (h : bitN s j = true) : ofL s n = none := by
  unfold ofL
  rw [if_neg]
  intro e
  have := bitN_pack (bitsL s n) j
  rw [e, h, bitsL_getD] at this
  simp at this
  omega
theorem of_is {s : List UInt8} {n : Nat} (hl : s.length = (n + 7) / 8) (h : ∀ j, n ≤ j → bitN s j = false) : ofL s n = some (bitsL s n) := by
  unfold ofL
  rw [if_pos]
  refine bytes_ext (by rw [packL_length, bitsL_length, hl]) fun j _ => ?_
  rw [bitN_pack, bitsL_getD]
  by_cases hj : j < n
  · simp [hj]
  · rw [h j (by omega)]; simp
theorem pack_set (L : List Bool) (i : Nat) (b : Bool) (hi : i < L.length) : packL (L.set i b) = putB (packL L) i b := by
  have hk : i / 8 < (packL L).length := by rw [packL_length]; omega
  refine bytes_ext (by rw [packL_length, putB_length, packL_length, List.length_set]) fun j _ => ?_
  rw [bitN_pack, bitN_putB _ _ _ _ hk, bitN_pack, List.getD_eq_getElem?_getD, List.getElem?_set]
  by_cases e : i = j
  · subst e; simp [hi]
  · rw [if_neg e, if_neg (fun h => e h.symm), List.getD_eq_getElem?_getD]

/-- From a block on so many are not in use. -/
def runL (L : List Bool) (i : Nat) : Nat := ((L.drop i).takeWhile (!·)).length
theorem takeWhile_free : ∀ (L : List Bool) (j : Nat), j < (L.takeWhile (!·)).length → L[j]? = some false
  | [], j, h => by simp at h
  | true :: L, j, h => by simp at h
  | false :: L, 0, _ => rfl
  | false :: L, j + 1, h => by
    have := takeWhile_free L j (by simpa using h)
    simpa using this
theorem takeWhile_stop : ∀ (L : List Bool), L[(L.takeWhile (!·)).length]? ≠ some false
  | [] => by simp
  | true :: L => by simp
  | false :: L => by
    have := takeWhile_stop L
    simpa using this
theorem run_free {L : List Bool} {i j : Nat} (h : j < runL L i) : L[i + j]? = some false := by
  have := takeWhile_free (L.drop i) j h
  rwa [List.getElem?_drop] at this
theorem run_stop (L : List Bool) (i : Nat) : L[i + runL L i]? ≠ some false := by
  have := takeWhile_stop (L.drop i)
  rwa [List.getElem?_drop] at this
theorem run_is {L : List Bool} {i k : Nat} (h1 : ∀ j, j < k → L[i + j]? = some false) (h2 : L[i + k]? ≠ some false) : runL L i = k := by
  rcases Nat.lt_trichotomy (runL L i) k with h | h | h
  · exact absurd (h1 _ h) (run_stop L i)
  · exact h
  · exact absurd (run_free h) h2
theorem lt_of_some {L : List Bool} {j : Nat} {b : Bool} (h : L[j]? = some b) : j < L.length := (List.getElem?_eq_some_iff.1 h).1
theorem run_le (L : List Bool) (i : Nat) : runL L i = 0 ∨ i + runL L i ≤ L.length := by
  by_cases h : runL L i = 0
  · exact .inl h
  · have := lt_of_some (run_free (L := L) (i := i) (j := runL L i - 1) (by omega))
    exact .inr (by omega)
theorem run_lt (L : List Bool) (i : Nat) : runL L i ≤ L.length := by
  rcases run_le L i with h | h <;> omega
/-- The first block from which n stand together. -/
def firstL (L : List Bool) (n : Nat) : Option Nat := (List.range L.length).find? (fun i => decide (n ≤ runL L i))
/-- The lowest ones, from block i on. -/
def greedyL (L : List Bool) : Nat → Nat → Nat → List (Nat × Nat)
  | 0, _, _ => []
  | f + 1, i, left => if left = 0 ∨ L.length ≤ i then [] else
      if min (runL L i) left = 0 then greedyL L f (i + 1) left
      else (i, min (runL L i) left) :: greedyL L f (i + min (runL L i) left) (left - min (runL L i) left)
/-- More fuel than there are blocks makes no difference. -/
theorem greedy_fuel (L : List Bool) : ∀ (f g i left : Nat), L.length < f + i → L.length < g + i → greedyL L f i left = greedyL L g i left
  | 0, 0, _, _, _, _ => rfl
  | 0, g + 1, i, left, h, _ => by rw [greedyL, greedyL, if_pos (.inr (by omega))]
  | f + 1, 0, i, left, _, h => by rw [greedyL, greedyL, if_pos (.inr (by omega))]
  | f + 1, g + 1, i, left, h, h' => by
    rw [greedyL, greedyL]
    split
    · rfl
    · split
      · exact greedy_fuel L f g _ _ (by omega) (by omega)
      · rw [greedy_fuel L f g _ _ (by omega) (by omega)]
def lowL (L : List Bool) (i left : Nat) : List (Nat × Nat) := greedyL L (L.length + 1) i left
theorem low_end {L : List Bool} {i left : Nat} (h : left = 0 ∨ L.length ≤ i) : lowL L i left = [] := by
  unfold lowL; rw [greedyL, if_pos h]
theorem low_used {L : List Bool} {i left : Nat} (h1 : 0 < left) (h2 : i < L.length) (h : runL L i = 0) : lowL L i left = lowL L (i + 1) left := by
  unfold lowL
  rw [greedyL, if_neg (by omega), if_pos (by omega)]
  exact greedy_fuel L _ _ _ _ (by omega) (by omega)
theorem low_free {L : List Bool} {i left k : Nat} (h1 : 0 < left) (h2 : i < L.length) (hk : k = min (runL L i) left) (h : 0 < k) : lowL L i left = (i, k) :: lowL L (i + k) (left - k) := by
  unfold lowL
  rw [greedyL, if_neg (by omega), if_neg (by omega), ← hk]
  rw [greedy_fuel L L.length (L.length + 1) _ _ (by omega) (by omega)]
/-- What is taken. -/
def extsL (L : List Bool) (n : Nat) : List (Nat × Nat) := match firstL L n with | some i => [(i, n)] | none => lowL L 0 n
/-- Blocks are made in use, or not. -/
def markN (L : List Bool) (f : Nat) (b : Bool) : Nat → List Bool
  | 0 => L
  | k + 1 => (markN L f b k).set (f + k) b
def markL (L : List Bool) (l : List (Nat × Nat)) (b : Bool) : List Bool := l.foldl (fun L x => markN L x.1 b x.2) L
theorem markN_length (L : List Bool) (f : Nat) (b : Bool) (k : Nat) : (markN L f b k).length = L.length := by
  induction k with
  | zero => rfl
  | succ k ih => rw [markN, List.length_set, ih]
theorem markL_length (b : Bool) : ∀ (l : List (Nat × Nat)) (L : List Bool), (markL L l b).length = L.length
  | [], _ => rfl
  | x :: l, L => by
    show (markL (markN L x.1 b x.2) l b).length = _
    rw [markL_length b l, markN_length]
/-- What Take tells, and leaves. -/
def takeL (L : List Bool) (n : Int) : List (Nat × Nat) × Bool × List Bool :=
  if n < 1 ∨ (L.length : Int) - (usedL L : Int) < n then ([], false, L)
  else if 8 < (extsL L n.toNat).length then ([], false, L)
  else (extsL L n.toNat, true, markL L (extsL L n.toNat) true)
theorem takeL_length (L : List Bool) (n : Int) : (takeL L n).2.2.length = L.length := by
  unfold takeL
  split
  · rfl
  · split
    · rfl
    · exact markL_length _ _ _
/-- What Give of one extent leaves. -/
def allB (L : List Bool) (f k : Nat) : Bool := (List.range k).all (fun j => L.getD (f + j) false)
def giveE (L : List Bool) (x : Int × Int) : Option (List Bool) :=
  if x.2 < 1 ∨ (L.length : Int) < x.2 ∨ x.1 < 0 ∨ (L.length : Int) < x.1 then none
  else if allB L x.1.toNat x.2.toNat then some (markN L x.1.toNat false x.2.toNat) else none
def giveL : List Bool → List (Int × Int) → Option (List Bool)
  | L, [] => some L
  | L, x :: r => match giveE L x with | none => none | some M => giveL M r
def giveR (L : List Bool) (l : List (Int × Int)) : Bool × List Bool := match giveL L l with | none => (false, L) | some M => (true, M)
theorem giveE_length {L M : List Bool} {x : Int × Int} (h : giveE L x = some M) : M.length = L.length := by
  unfold giveE at h
  split at h
  · cases h
  · split at h
    · obtain rfl := Option.some.inj h; exact markN_length _ _ _ _
    · cases h
theorem giveL_length : ∀ {l : List (Int × Int)} {L M : List Bool}, giveL L l = some M → M.length = L.length
  | [], L, M, h => by obtain rfl := Option.some.inj h; rfl
  | x :: r, L, M, h => by
    rw [giveL] at h
    cases hg : giveE L x with
    | none => rw [hg] at h; cases h
    | some K => rw [hg] at h; exact (giveL_length h).trans (giveE_length hg)
theorem giveR_length (L : List Bool) (l : List (Int × Int)) : (giveR L l).2.length = L.length := by
  unfold giveR
  cases h : giveL L l with
  | none => rfl
  | some M => exact giveL_length h
theorem giveL_snoc : ∀ (l : List (Int × Int)) (L : List Bool) (x : Int × Int), giveL L (l ++ [x]) = (match giveL L l with | none => none | some M => giveE M x)
  | [], L, x => by
    show (match giveE L x with | none => none | some M => giveL M []) = giveE L x
    cases giveE L x <;> rfl
  | y :: r, L, x => by
    show giveL L (y :: (r ++ [x])) = _
    rw [giveL, giveL]
    cases giveE L y with
    | none => rfl
    | some M => exact giveL_snoc r M x
theorem low_in (L : List Bool) : ∀ (f i t : Nat) (x : Nat × Nat), x ∈ greedyL L f i t → x.1 + x.2 ≤ L.length
  | 0, _, _, x, h => by simp [greedyL] at h
  | f + 1, i, t, x, h => by
    rw [greedyL] at h
    split at h
    · simp at h
    · split at h
      · exact low_in L f _ _ x h
      · rcases List.mem_cons.1 h with rfl | h
        · have := run_le L i
          show i + min (runL L i) t ≤ _
          omega
        · exact low_in L f _ _ x h
theorem first_in {L : List Bool} {n i : Nat} (h : firstL L n = some i) : i < L.length ∧ n ≤ runL L i ∧ ∀ j, j < i → runL L j < n := by
  unfold firstL at h
  rw [List.find?_range_eq_some] at h
  obtain ⟨h1, h2, h3⟩ := h
  refine ⟨List.mem_range.1 h2, by simpa using h1, fun j hj => ?_⟩
  have := h3 j hj
  simpa using this
theorem exts_in {L : List Bool} {n : Nat} {x : Nat × Nat} (h : x ∈ extsL L n) : x.1 + x.2 ≤ L.length := by
  unfold extsL at h
  cases hf : firstL L n with
  | none => rw [hf] at h; exact low_in L _ _ _ x h
  | some i =>
    rw [hf] at h
    obtain rfl := List.mem_singleton.1 h
    obtain ⟨h1, h2, _⟩ := first_in hf
    have := run_le L i
    show i + n ≤ _
    omega
theorem markL_snoc (L : List Bool) (l : List (Nat × Nat)) (x : Nat × Nat) (b : Bool) : markL L (l ++ [x]) b = markN (markL L l b) x.1 b x.2 := by
  unfold markL
  rw [List.foldl_append]
  rfl
theorem usedL_le (L : List Bool) : usedL L ≤ L.length := List.countP_le_length
end Go.Proofs.Ytdngkpdiaeicmaa
