/- Layer 15, plainly: entries, heads, fields, records; what is written, and what is read. -/
import Init
namespace Go.Proofs.YtmgpofdmoaafoaaGreatDoor

abbrev Bs := List UInt8
/-- An entry. -/
structure Ent where
  kind : Int
  name : Bs
  to : Bs
  mode : Int
  data : Bs
deriving DecidableEq, Inhabited
def zerosL (n : Nat) : Bs := List.replicate n 0
theorem zerosL_len (n : Nat) : (zerosL n).length = n := by simp [zerosL]
theorem zerosL_add (a b : Nat) : zerosL a ++ zerosL b = zerosL (a + b) := by simp [zerosL, List.replicate_append_replicate]
def allZ (s : Bs) : Bool := s.all (· == 0)
theorem allZ_iff {s : Bs} : allZ s = true ↔ ∀ x ∈ s, x = 0 := by simp [allZ]
theorem allZ_zeros (n : Nat) : allZ (zerosL n) = true := by
  rw [allZ_iff]; intro x hx; exact List.eq_of_mem_replicate hx
theorem allZ_app (a b : Bs) : allZ (a ++ b) = (allZ a && allZ b) := by simp [allZ]
/-- By what a text can't be a name (0: it can). -/
def textE (s : Bs) : Nat := if 200 < s.length then 3 else if s = [] ∨ (0 : UInt8) ∈ s then 10 else 0
theorem textE_ok {s : Bs} (h : textE s = 0) : s.length ≤ 200 ∧ s ≠ [] ∧ (0 : UInt8) ∉ s := by
  unfold textE at h
  split at h
  · cases h
  · split at h
    · cases h
    · rename_i h1 h2
      exact ⟨by omega, fun e => h2 (.inl e), fun e => h2 (.inr e)⟩
def isLinkK (k : Int) : Bool := decide (k = 3) || decide (k = 4)
def mayE (x : Ent) : Bool := decide (1 ≤ x.kind) && decide (x.kind ≤ 4) && decide (0 ≤ x.mode) && decide (x.mode ≤ 4095) && decide (textE x.name = 0) &&
  (decide (x.data = []) || decide (x.kind = 1)) && (if isLinkK x.kind then decide (textE x.to = 0) else decide (x.to = []))
structure MayP (x : Ent) : Prop where
  k1 : 1 ≤ x.kind
  k4 : x.kind ≤ 4
  m0 : 0 ≤ x.mode
  m1 : x.mode ≤ 4095
  name : textE x.name = 0
  data : x.data = [] ∨ x.kind = 1
  link : isLinkK x.kind = true → textE x.to = 0
  none : isLinkK x.kind = false → x.to = []
theorem mayE_iff (x : Ent) : mayE x = true ↔ MayP x := by
  unfold mayE
  simp only [Bool.and_eq_true, Bool.or_eq_true, decide_eq_true_eq]
  constructor
  · rintro ⟨⟨⟨⟨⟨⟨h1, h2⟩, h3⟩, h4⟩, h5⟩, h6⟩, h7⟩
    refine ⟨h1, h2, h3, h4, h5, h6, fun h => ?_, fun h => ?_⟩
    · rw [if_pos h] at h7; simpa using h7
    · rw [if_neg (by rw [h]; decide)] at h7; simpa using h7
  · rintro ⟨h1, h2, h3, h4, h5, h6, h7, h8⟩
    refine ⟨⟨⟨⟨⟨⟨h1, h2⟩, h3⟩, h4⟩, h5⟩, h6⟩, ?_⟩
    cases h : isLinkK x.kind
    · simpa using h8 h
    · simpa using h7 h
/-! ### Fields -/
def octD : Nat → Nat → Bs
  | _, 0 => []
  | n, k + 1 => octD (n / 8) k ++ [UInt8.ofNat (48 + n % 8)]
theorem octD_len : ∀ k n, (octD n k).length = k
  | 0, _ => rfl
  | k + 1, n => by rw [octD, List.length_append, octD_len k]; rfl
def padT (s : Bs) (n : Nat) : Bs := s.take n ++ zerosL (n - s.length)
theorem padT_len (s : Bs) (n : Nat) : (padT s n).length = n := by
  rw [padT, List.length_append, zerosL_len, List.length_take]; omega
def blocksN (n : Nat) : Nat := (n + 511) / 512
def fullT (s : Bs) : Bs := s ++ zerosL (512 * blocksN s.length - s.length)
theorem le_blocks (n : Nat) : n ≤ 512 * blocksN n := by unfold blocksN; omega
theorem fullT_len (s : Bs) : (fullT s).length = 512 * blocksN s.length := by
  rw [fullT, List.length_append, zerosL_len]
  have := le_blocks s.length
  omega
def sumL (s : Bs) : Nat := (s.map UInt8.toNat).sum
theorem sumL_app (a b : Bs) : sumL (a ++ b) = sumL a + sumL b := by simp [sumL]
theorem sumL_le (s : Bs) : sumL s ≤ 255 * s.length := by
  induction s with
  | nil => exact Nat.le_refl _
  | cons x r ih =>
    have hx := x.toNat_lt
    have : sumL (x :: r) = x.toNat + sumL r := by simp [sumL]
    rw [this, List.length_cons]
    omega
/-- The sum of a head. -/
def sumH (h : Bs) : Nat := sumL (h.take 148) + 256 + sumL (h.drop 156)
def magicL : Bs := [117, 115, 116, 97, 114, 0, 48, 48]
def preH (name : Bs) (mode size : Nat) : Bs := padT name 100 ++ (octD mode 7 ++ [0]) ++ (octD 0 7 ++ [0]) ++ (octD 0 7 ++ [0]) ++ (octD size 11 ++ [0]) ++ (octD 0 11 ++ [0])
def postH (to : Bs) (kind : UInt8) : Bs := [kind] ++ padT to 100 ++ magicL ++ zerosL 247
def headW (name to : Bs) (mode size : Nat) (kind : UInt8) : Bs :=
  preH name mode size ++ (octD (sumL (preH name mode size) + 256 + sumL (postH to kind)) 6 ++ [0, 32]) ++ postH to kind
theorem preH_len (name : Bs) (mode size : Nat) : (preH name mode size).length = 148 := by
  unfold preH
  simp only [List.length_append, padT_len, octD_len, List.length_cons, List.length_nil]
theorem postH_len (to : Bs) (kind : UInt8) : (postH to kind).length = 356 := by
  unfold postH magicL
  simp only [List.length_append, padT_len, zerosL_len, List.length_cons, List.length_nil]
theorem headW_len (name to : Bs) (mode size : Nat) (kind : UInt8) : (headW name to mode size kind).length = 512 := by
  unfold headW
  simp only [List.length_append, preH_len, postH_len, octD_len, List.length_cons, List.length_nil]
def typeL (k : Int) : UInt8 := if k = 3 then 49 else if k = 4 then 50 else if k = 2 then 53 else 48
def kPath : Bs := [112, 97, 116, 104]
def kLink : Bs := [108, 105, 110, 107, 112, 97, 116, 104]
def kSize : Bs := [115, 105, 122, 101]
def kPax : Bs := [112, 97, 120]
def lineL (key v : Bs) : Bs := [32] ++ key ++ [61] ++ v ++ [10]
def dec3 (n : Nat) : Bs := [UInt8.ofNat (48 + n / 100), UInt8.ofNat (48 + n / 10 % 10), UInt8.ofNat (48 + n % 10)]
def recW (key v : Bs) : Bs := dec3 ((lineL key v).length + 3) ++ lineL key v
def longR (key v : Bs) : Bs := if 100 < v.length then recW key v else []
def moreE (x : Ent) : Bs := longR kPath x.name ++ longR kLink x.to
def partW (name to : Bs) (mode : Nat) (kind : UInt8) (data : Bs) : Bs := headW name to mode data.length kind ++ fullT data
def encE (x : Ent) : Bs := (if moreE x = [] then [] else partW kPax [] 0 120 (moreE x)) ++ partW x.name x.to x.mode.toNat (typeL x.kind) x.data
def encL (l : List Ent) : Bs := l.flatMap encE
theorem encL_nil : encL [] = [] := rfl
theorem encL_cons (x : Ent) (l : List Ent) : encL (x :: l) = encE x ++ encL l := by simp [encL]
theorem encL_app (l m : List Ent) : encL (l ++ m) = encL l ++ encL m := by simp [encL]
def writeL (l : List Ent) : Bs × Nat := if 200 < l.length then ([], 63) else if l.all mayE then (encL l ++ zerosL 1024, 0) else ([], 2)
/-! ### Numbers that are read -/
def isDig (b : Nat) (c : UInt8) : Bool := decide (48 ≤ c.toNat) && decide (c.toNat < 48 + b)
def valD (b : Nat) (s : Bs) : Nat := s.foldl (fun n c => n * b + (c.toNat - 48)) 0
def numP (b : Nat) (s : Bs) : Option Nat := if s ≠ [] ∧ s.all (isDig b) = true ∧ valD b s < 1099511627776 then some (valD b s) else none
def ltrim (s : Bs) : Bs := s.dropWhile (· == 32)
def isPad (c : UInt8) : Bool := c == 32 || c == 0
def rtrim (s : Bs) : Bs := (s.reverse.dropWhile isPad).reverse
def numF (s : Bs) : Option Nat := numP 8 (rtrim (ltrim s))
def cut0 (s : Bs) : Bs := s.takeWhile (· != 0)
def sl (s : Bs) (a b : Nat) : Bs := (s.take b).drop a
structure Hd where
  name : Bs
  link : Bs
  mode : Nat
  size : Nat
  kind : UInt8
def nameR (h : Bs) : Bs := if cut0 (sl h 345 500) = [] then cut0 (sl h 0 100) else cut0 (sl h 345 500) ++ [47] ++ cut0 (sl h 0 100)
def headR (h : Bs) : Option Hd :=
  if numF (sl h 148 156) = some (sumH h) ∧ sl h 257 265 = magicL then
    match numF (sl h 100 108), numF (sl h 124 136) with
    | some mode, some size => some ⟨nameR h, cut0 (sl h 157 257), mode, size, h.getD 156 0⟩
    | _, _ => none
  else none
structure Recs where
  path : Option Bs
  link : Option Bs
  size : Option Bs
def setR (r : Recs) (k v : Bs) : Recs := if k = kPath then { r with path := some v } else if k = kLink then { r with link := some v } else if k = kSize then { r with size := some v } else r
def oneR (s : Bs) : Option (Bs × Bs × Bs) :=
  match numP 10 (s.takeWhile (· != 32)) with
  | none => none
  | some n =>
    if s.headD 0 = 48 ∨ s.length < n then none
    else
      let line := (s.take n).drop ((s.takeWhile (· != 32)).length + 1)
      if line.getLast? = some 10 ∧ (61 : UInt8) ∈ line.dropLast then
        some (line.dropLast.takeWhile (· != 61), (line.dropLast.dropWhile (· != 61)).drop 1, s.drop n)
      else none
def recsR (s : Bs) (r : Recs) : Option Recs :=
  if s = [] then some r
  else match oneR s with
    | none => none
    | some (k, v, t) => if t.length < s.length then recsR t (setR r k v) else none
termination_by s.length
def takeR (n : Nat) (r : Bs) : Option (Bs × Bs) := if r.length < 512 * blocksN n then none else some (r.take n, r.drop (512 * blocksN n))
def addR (x : Ent) (r : Bs) (out : List Ent) : Nat ⊕ (Bs × Option Recs × List Ent) :=
  if textE x.name ≠ 0 then .inl (textE x.name)
  else if isLinkK x.kind = true ∧ textE x.to ≠ 0 then .inl (textE x.to)
  else if out.length = 200 then .inl 63
  else .inr (r, none, out ++ [x])
def kindL (t : UInt8) : Int := if t = 49 then 3 else if t = 50 then 4 else if t = 53 then 2 else 1
def wPath (wt : Option Recs) : Option Bs := wt.bind (·.path)
def wLink (wt : Option Recs) : Option Bs := wt.bind (·.link)
def wSize (wt : Option Recs) : Option Bs := wt.bind (·.size)
def sizeOr (wt : Option Recs) (own : Nat) : Option Nat :=
  match wSize wt with
  | none => some own
  | some t => numP 10 t
def stepR (h : Hd) (r : Bs) (wt : Option Recs) (out : List Ent) : Nat ⊕ (Bs × Option Recs × List Ent) :=
  if h.kind = 49 ∨ h.kind = 50 ∨ h.kind = 53 then
    if h.size ≠ 0 then .inl 10
    else addR ⟨kindL h.kind, (wPath wt).getD h.name, if h.kind = 53 then [] else (wLink wt).getD h.link, ((h.mode % 4096 : Nat) : Int), []⟩ r out
  else if h.kind = 0 ∨ h.kind = 48 then
    match sizeOr wt h.size with
    | none => .inl 10
    | some n =>
      match takeR n r with
      | none => .inl 10
      | some (d, r') => addR ⟨1, (wPath wt).getD h.name, [], ((h.mode % 4096 : Nat) : Int), d⟩ r' out
  else if h.kind = 120 then
    match takeR h.size r with
    | none => .inl 10
    | some (d, r') =>
      match recsR d ⟨none, none, none⟩ with
      | none => .inl 10
      | some rs => if wt.isSome then .inl 10 else .inr (r', some rs, out)
  else .inl 72
def readR (s : Bs) (wt : Option Recs) (out : List Ent) : Nat × List Ent :=
  if s.length < 512 then (10, [])
  else if allZ (s.take 512) then
    if wt.isSome = true ∨ (s.drop 512).length < 512 ∨ allZ (s.drop 512) = false then (10, []) else (0, out)
  else match headR (s.take 512) with
    | none => (10, [])
    | some h =>
      match stepR h (s.drop 512) wt out with
      | .inl e => (e, [])
      | .inr (r', wt', out') => if r'.length < s.length then readR r' wt' out' else (10, [])
termination_by s.length
/-! ### What is put in a field is read -/
theorem octD_dig : ∀ k n, (octD n k).all (isDig 8) = true
  | 0, _ => rfl
  | k + 1, n => by
    rw [octD, List.all_append, octD_dig k, Bool.true_and]
    have h : (UInt8.ofNat (48 + n % 8)).toNat = 48 + n % 8 := by rw [UInt8.toNat_ofNat']; omega
    simp only [List.all_cons, List.all_nil, Bool.and_true, isDig, h, Bool.and_eq_true, decide_eq_true_eq]
    omega
theorem valD_snoc (b : Nat) (s : Bs) (c : UInt8) : valD b (s ++ [c]) = valD b s * b + (c.toNat - 48) := by simp [valD]
theorem octD_val : ∀ k n, valD 8 (octD n k) = n % 8 ^ k
  | 0, n => by rw [octD, Nat.pow_zero, Nat.mod_one]; rfl
  | k + 1, n => by
    have h : (UInt8.ofNat (48 + n % 8)).toNat = 48 + n % 8 := by rw [UInt8.toNat_ofNat']; omega
    rw [octD, valD_snoc, octD_val k, h, Nat.pow_succ, Nat.mul_comm (8 ^ k) 8, Nat.mod_mul]
    omega
theorem dig_notpad {b : Nat} {c : UInt8} (h : isDig b c = true) : isPad c = false ∧ (c == 32) = false := by
  simp only [isDig, Bool.and_eq_true, decide_eq_true_eq] at h
  constructor
  · simp only [isPad, Bool.or_eq_false_iff, beq_eq_false_iff_ne]
    constructor <;> (rintro rfl; have h2 := h.1; revert h2; decide)
  · rw [beq_eq_false_iff_ne]; rintro rfl; have h2 := h.1; revert h2; decide
theorem rtrim_app {d p : Bs} (hd : d.all (isDig 8) = true) (hp : p.all isPad = true) : rtrim (d ++ p) = d := by
  unfold rtrim
  rw [List.reverse_append, List.dropWhile_append_of_pos]
  · rcases List.eq_nil_or_concat d with rfl | ⟨r, x, rfl⟩
    · rfl
    · rw [List.concat_eq_append, List.reverse_append] at *
      have hx : isDig 8 x = true := by
        rw [List.all_eq_true] at hd; exact hd x (by simp)
      rw [List.reverse_cons, List.reverse_nil, List.nil_append, List.singleton_append, List.dropWhile_cons_of_neg (by rw [(dig_notpad hx).1]; decide)]
      simp
  · intro a ha
    rw [List.mem_reverse] at ha
    exact List.all_eq_true.1 hp a ha
theorem ltrim_dig {d p : Bs} (hd : d.all (isDig 8) = true) (hne : d ≠ []) : ltrim (d ++ p) = d ++ p := by
  unfold ltrim
  cases d with
  | nil => exact absurd rfl hne
  | cons x r =>
    have hx : isDig 8 x = true := List.all_eq_true.1 hd x (by simp)
    rw [List.cons_append, List.dropWhile_cons_of_neg (by rw [(dig_notpad hx).2]; decide)]
theorem numF_oct (n k : Nat) (p : Bs) (hp : p.all isPad = true) (hk : 0 < k) (hn : n < 8 ^ k) (hn2 : n < 1099511627776) : numF (octD n k ++ p) = some n := by
  have hne : octD n k ≠ [] := fun e => by have := octD_len k n; rw [e] at this; simp at this; omega
  have hv : valD 8 (octD n k) = n := by rw [octD_val, Nat.mod_eq_of_lt hn]
  unfold numF
  rw [ltrim_dig (octD_dig k n) hne, rtrim_app (octD_dig k n) hp]
  unfold numP
  rw [if_pos ⟨hne, octD_dig k n, by rw [hv]; exact hn2⟩, hv]
theorem cut0_zeros {s : Bs} (h : (0 : UInt8) ∉ s) (n : Nat) : cut0 (s ++ zerosL n) = s := by
  unfold cut0
  rw [List.takeWhile_append_of_pos (fun a ha => by simp only [bne_iff_ne, ne_eq]; rintro rfl; exact h ha)]
  cases n with
  | zero => simp [zerosL]
  | succ n => simp [zerosL, List.replicate_succ]
theorem cut0_pad {s : Bs} (h : (0 : UInt8) ∉ s) (n : Nat) : cut0 (padT s n) = s.take n := by
  unfold padT
  exact cut0_zeros (fun e => h (List.mem_of_mem_take e)) _
theorem sl_at {a b c : Bs} {i j : Nat} (hi : a.length = i) (hj : b.length + i = j) : sl (a ++ b ++ c) i j = b := by
  subst hi
  unfold sl
  rw [List.take_append_of_le_length (by rw [List.length_append]; omega), List.take_of_length_le (by rw [List.length_append]; omega), List.drop_left]
theorem sl_take (h r : Bs) {a b n : Nat} (hb : b ≤ n) (hn : h.length = n) : sl (h ++ r) a b = sl h a b := by
  unfold sl
  rw [List.take_append_of_le_length (by omega)]
section
variable (name to : Bs) (mode size : Nat) (kind : UInt8)
def sumW : Nat := sumL (preH name mode size) + 256 + sumL (postH to kind)
theorem headW_parts : headW name to mode size kind = preH name mode size ++ (octD (sumW name to mode size kind) 6 ++ [0, 32]) ++ postH to kind := rfl
theorem sumW_lt : sumW name to mode size kind < 8 ^ 6 := by
  unfold sumW
  have h1 := sumL_le (preH name mode size)
  have h2 := sumL_le (postH to kind)
  rw [preH_len] at h1
  rw [postH_len] at h2
  have : (8 : Nat) ^ 6 = 262144 := by decide
  omega
theorem headW_sum : sumH (headW name to mode size kind) = sumW name to mode size kind := by
  unfold sumH
  have h1 : (headW name to mode size kind).take 148 = preH name mode size := by
    rw [headW_parts, List.append_assoc, List.take_left' (preH_len ..)]
  have h2 : (headW name to mode size kind).drop 156 = postH to kind := by
    rw [headW_parts, List.drop_left' (by rw [List.length_append, preH_len, List.length_append, octD_len]; rfl)]
  rw [h1, h2]
  rfl
theorem headW_field : sl (headW name to mode size kind) 148 156 = octD (sumW name to mode size kind) 6 ++ [0, 32] :=
  sl_at (preH_len ..) (by rw [List.length_append, octD_len]; rfl)
theorem headW_name : sl (headW name to mode size kind) 0 100 = padT name 100 := by
  have h := sl_at (a := []) (b := padT name 100) (c := (octD mode 7 ++ [0]) ++ ((octD 0 7 ++ [0]) ++ ((octD 0 7 ++ [0]) ++ ((octD size 11 ++ [0]) ++ ((octD 0 11 ++ [0]) ++ ((octD (sumW name to mode size kind) 6 ++ [0, 32]) ++ postH to kind)))))) (i := 0) (j := 100) rfl (by rw [padT_len])
  rw [headW_parts]
  unfold preH
  simp only [List.append_assoc, List.nil_append] at h ⊢
  exact h
theorem headW_mode : sl (headW name to mode size kind) 100 108 = octD mode 7 ++ [0] := by
  have h := sl_at (a := padT name 100) (b := octD mode 7 ++ [0]) (c := (octD 0 7 ++ [0]) ++ ((octD 0 7 ++ [0]) ++ ((octD size 11 ++ [0]) ++ ((octD 0 11 ++ [0]) ++ ((octD (sumW name to mode size kind) 6 ++ [0, 32]) ++ postH to kind))))) (i := 100) (j := 108) (padT_len ..) (by rw [List.length_append, octD_len]; rfl)
  rw [headW_parts]
  unfold preH
  simp only [List.append_assoc] at h ⊢
  exact h
theorem headW_size : sl (headW name to mode size kind) 124 136 = octD size 11 ++ [0] := by
  have h := sl_at (a := padT name 100 ++ (octD mode 7 ++ [0]) ++ (octD 0 7 ++ [0]) ++ (octD 0 7 ++ [0])) (b := octD size 11 ++ [0]) (c := (octD 0 11 ++ [0]) ++ ((octD (sumW name to mode size kind) 6 ++ [0, 32]) ++ postH to kind)) (i := 124) (j := 136)
    (by simp only [List.length_append, padT_len, octD_len, List.length_cons, List.length_nil]) (by rw [List.length_append, octD_len]; rfl)
  rw [headW_parts]
  unfold preH
  simp only [List.append_assoc] at h ⊢
  exact h
theorem headW_link : sl (headW name to mode size kind) 157 257 = padT to 100 := by
  have h := sl_at (a := preH name mode size ++ (octD (sumW name to mode size kind) 6 ++ [0, 32]) ++ [kind]) (b := padT to 100) (c := magicL ++ zerosL 247) (i := 157) (j := 257)
    (by simp only [List.length_append, preH_len, octD_len, List.length_cons, List.length_nil]) (by rw [padT_len])
  rw [headW_parts]
  unfold postH
  simp only [List.append_assoc] at h ⊢
  exact h
theorem headW_magic : sl (headW name to mode size kind) 257 265 = magicL := by
  have h := sl_at (a := preH name mode size ++ (octD (sumW name to mode size kind) 6 ++ [0, 32]) ++ [kind] ++ padT to 100) (b := magicL) (c := zerosL 247) (i := 257) (j := 265)
    (by simp only [List.length_append, preH_len, octD_len, padT_len, List.length_cons, List.length_nil]) (by rfl)
  rw [headW_parts]
  unfold postH
  simp only [List.append_assoc] at h ⊢
  exact h
theorem headW_prefix : sl (headW name to mode size kind) 345 500 = zerosL 155 := by
  have h := sl_at (a := preH name mode size ++ (octD (sumW name to mode size kind) 6 ++ [0, 32]) ++ [kind] ++ padT to 100 ++ magicL ++ zerosL 80) (b := zerosL 155) (c := zerosL 12) (i := 345) (j := 500)
    (by simp only [List.length_append, preH_len, octD_len, padT_len, zerosL_len, magicL, List.length_cons, List.length_nil]) (by rw [zerosL_len])
  rw [headW_parts]
  unfold postH
  have e : zerosL 247 = zerosL 80 ++ (zerosL 155 ++ zerosL 12) := by rw [zerosL_add, zerosL_add]
  rw [e]
  simp only [List.append_assoc] at h ⊢
  exact h
theorem headW_type : (headW name to mode size kind).getD 156 0 = kind := by
  have h1 : (preH name mode size ++ (octD (sumW name to mode size kind) 6 ++ [0, 32])).length = 156 := by
    simp only [List.length_append, preH_len, octD_len, List.length_cons, List.length_nil]
  rw [headW_parts, List.getD_eq_getElem?_getD, List.getElem?_append_right (by omega), h1]
  rfl
theorem zeros_nil (n : Nat) : cut0 (zerosL n) = [] := cut0_zeros (s := []) (by simp) n
/-- A head that was written is read. -/
theorem headR_headW (hn : (0 : UInt8) ∉ name) (ht : (0 : UInt8) ∉ to) (hm : mode < 8 ^ 7) (hs : size < 8 ^ 11) : headR (headW name to mode size kind) = some ⟨name.take 100, to.take 100, mode, size, kind⟩ := by
  have hp : ([0, 32] : Bs).all isPad = true := rfl
  have hp1 : ([0] : Bs).all isPad = true := rfl
  have l7 : (8 : Nat) ^ 7 = 2097152 := by decide
  have l11 : (8 : Nat) ^ 11 = 8589934592 := by decide
  have l6 : (8 : Nat) ^ 6 = 262144 := by decide
  have hw := sumW_lt name to mode size kind
  unfold headR
  rw [headW_field, headW_sum, headW_magic, numF_oct _ 6 _ hp (by decide) hw (by omega), if_pos ⟨rfl, rfl⟩, headW_mode, headW_size, numF_oct _ 7 _ hp1 (by decide) hm (by omega), numF_oct _ 11 _ hp1 (by decide) hs (by omega)]
  unfold nameR
  rw [headW_prefix, headW_name, headW_link, headW_type, zeros_nil, if_pos rfl, cut0_pad hn, cut0_pad ht]
theorem headW_notZ : allZ (headW name to mode size kind) = false := by
  rw [Bool.eq_false_iff]
  intro h
  have h1 := allZ_iff.1 h 117 (by
    rw [headW_parts]; unfold postH magicL
    simp)
  exact absurd h1 (by decide)
end
end Go.Proofs.YtmgpofdmoaafoaaGreatDoor
