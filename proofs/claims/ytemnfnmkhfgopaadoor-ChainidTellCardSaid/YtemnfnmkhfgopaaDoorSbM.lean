/- SHA-256 in plain words: numbers of 32 bits as natural numbers, a block's numbers as a list. -/
namespace Go.Proofs.YtemnfnmkhfgopaaDoor

/-- Turned down by k places, of 32. -/
def rotN (n k : Nat) : Nat := (n / 2 ^ k + n * 2 ^ (32 - k)) % 4294967296
def lowN (x : Nat) : Nat := (rotN x 7 ^^^ rotN x 18) ^^^ x / 8
def highN (x : Nat) : Nat := (rotN x 17 ^^^ rotN x 19) ^^^ x / 1024
def s1N (e : Nat) : Nat := (rotN e 6 ^^^ rotN e 11) ^^^ rotN e 25
def s0N (a : Nat) : Nat := (rotN a 2 ^^^ rotN a 13) ^^^ rotN a 22
def chN (e f g : Nat) : Nat := (e &&& f) ^^^ ((4294967295 ^^^ e) &&& g)
def majN (a b c : Nat) : Nat := ((a &&& b) ^^^ (a &&& c)) ^^^ (b &&& c)

theorem rotN_lt (n k : Nat) : rotN n k < 4294967296 := Nat.mod_lt _ (by decide)
theorem xor_lt32 {a b : Nat} (ha : a < 4294967296) (hb : b < 4294967296) : a ^^^ b < 4294967296 := Nat.xor_lt_two_pow (n := 32) ha hb
theorem and_lt32 {a b : Nat} (ha : a < 4294967296) : a &&& b < 4294967296 := Nat.lt_of_le_of_lt Nat.and_le_left ha
theorem lowN_lt {x : Nat} (h : x < 4294967296) : lowN x < 4294967296 := xor_lt32 (xor_lt32 (rotN_lt _ _) (rotN_lt _ _)) (by omega)
theorem highN_lt {x : Nat} (h : x < 4294967296) : highN x < 4294967296 := xor_lt32 (xor_lt32 (rotN_lt _ _) (rotN_lt _ _)) (by omega)
theorem s1N_lt (x : Nat) : s1N x < 4294967296 := xor_lt32 (xor_lt32 (rotN_lt _ _) (rotN_lt _ _)) (rotN_lt _ _)
theorem s0N_lt (x : Nat) : s0N x < 4294967296 := xor_lt32 (xor_lt32 (rotN_lt _ _) (rotN_lt _ _)) (rotN_lt _ _)
theorem chN_lt {e f g : Nat} (he : e < 4294967296) : chN e f g < 4294967296 := xor_lt32 (and_lt32 he) (and_lt32 (xor_lt32 (by decide) he))
theorem majN_lt {a b c : Nat} (ha : a < 4294967296) (hb : b < 4294967296) : majN a b c < 4294967296 := xor_lt32 (xor_lt32 (and_lt32 ha) (and_lt32 ha)) (and_lt32 hb)

/-- What is shifted out comes in above: as a sum, and as an or. -/
theorem rotN_parts {n k : Nat} (hn : n < 4294967296) (k1 : 1 ≤ k) (k2 : k ≤ 31) : n / 2 ^ k + n * 2 ^ (32 - k) % 4294967296 = rotN n k := by
  unfold rotN
  have hp : (4294967296 : Nat) = 2 ^ (32 - k) * 2 ^ k := by rw [← Nat.pow_add, show 32 - k + k = 32 by omega]
  have h1 : n / 2 ^ k < 2 ^ (32 - k) := by
    rw [Nat.div_lt_iff_lt_mul (Nat.two_pow_pos k), ← hp]; exact hn
  have h2 : n * 2 ^ (32 - k) % 4294967296 = 2 ^ (32 - k) * (n % 2 ^ k) := by rw [hp, Nat.mul_comm n, Nat.mul_mod_mul_left]
  have h3 : n / 2 ^ k + n * 2 ^ (32 - k) % 4294967296 < 4294967296 := by
    rw [h2]
    have h4 : n % 2 ^ k < 2 ^ k := Nat.mod_lt _ (Nat.two_pow_pos k)
    have h5 : 2 ^ (32 - k) * (n % 2 ^ k + 1) ≤ 2 ^ (32 - k) * 2 ^ k := Nat.mul_le_mul_left _ h4
    rw [← hp, Nat.mul_add, Nat.mul_one] at h5
    omega
  rw [Nat.add_mod, Nat.mod_eq_of_lt (Nat.lt_of_lt_of_le h1 (by rw [hp]; exact Nat.le_mul_of_pos_right _ (Nat.two_pow_pos k))), Nat.mod_eq_of_lt h3]
theorem rotN_or {n k : Nat} (hn : n < 4294967296) (k1 : 1 ≤ k) (k2 : k ≤ 31) : n * 2 ^ (32 - k) % 4294967296 ||| n / 2 ^ k = rotN n k := by
  rw [← rotN_parts hn k1 k2]
  have hp : (4294967296 : Nat) = 2 ^ (32 - k) * 2 ^ k := by rw [← Nat.pow_add, show 32 - k + k = 32 by omega]
  have h1 : n / 2 ^ k < 2 ^ (32 - k) := by
    rw [Nat.div_lt_iff_lt_mul (Nat.two_pow_pos k), ← hp]; exact hn
  have h2 : n * 2 ^ (32 - k) % 4294967296 = 2 ^ (32 - k) * (n % 2 ^ k) := by rw [hp, Nat.mul_comm n, Nat.mul_mod_mul_left]
  rw [h2, ← Nat.two_pow_add_eq_or_of_lt h1, Nat.add_comm]

/-- Eight numbers. -/
structure St where
  a : Nat
  b : Nat
  c : Nat
  d : Nat
  e : Nat
  f : Nat
  g : Nat
  h : Nat
deriving DecidableEq
def St.list (s : St) : List Nat := [s.a, s.b, s.c, s.d, s.e, s.f, s.g, s.h]
/-- Each is one of 32 bits. -/
structure St.ok (s : St) : Prop where
  a : s.a < 4294967296
  b : s.b < 4294967296
  c : s.c < 4294967296
  d : s.d < 4294967296
  e : s.e < 4294967296
  f : s.f < 4294967296
  g : s.g < 4294967296
  h : s.h < 4294967296
/-- A round: with one of K, and one of a block's numbers. -/
def tN (k w : Nat) (s : St) : Nat := (s.h + s1N s.e + chN s.e s.f s.g + k + w) % 4294967296
def uN (s : St) : Nat := (s0N s.a + majN s.a s.b s.c) % 4294967296
def stepN (k w : Nat) (s : St) : St := ⟨(tN k w s + uN s) % 4294967296, s.a, s.b, s.c, (s.d + tN k w s) % 4294967296, s.e, s.f, s.g⟩
theorem tN_lt (k w : Nat) (s : St) : tN k w s < 4294967296 := Nat.mod_lt _ (by decide)
theorem uN_lt (s : St) : uN s < 4294967296 := Nat.mod_lt _ (by decide)
theorem stepN_ok (k w : Nat) {s : St} (h : s.ok) : (stepN k w s).ok := ⟨Nat.mod_lt _ (by decide), h.a, h.b, h.c, Nat.mod_lt _ (by decide), h.e, h.f, h.g⟩

/-- A block's first sixteen numbers. -/
def sha_wordN (b : List UInt8) (i : Nat) : Nat := (b.getD (4 * i) 0).toNat * 16777216 + (b.getD (4 * i + 1) 0).toNat * 65536 + (b.getD (4 * i + 2) 0).toNat * 256 + (b.getD (4 * i + 3) 0).toNat
/-- Its next number. -/
def nextN (l : List Nat) : Nat := (l.getD (l.length - 16) 0 + lowN (l.getD (l.length - 15) 0) + l.getD (l.length - 7) 0 + highN (l.getD (l.length - 2) 0)) % 4294967296
/-- Its first n numbers. -/
def wl (b : List UInt8) : Nat → List Nat
  | 0 => []
  | n + 1 => wl b n ++ [if n < 16 then sha_wordN b n else nextN (wl b n)]
def wN (b : List UInt8) (i : Nat) : Nat := (wl b (i + 1)).getD i 0
theorem wl_length (b : List UInt8) : ∀ n, (wl b n).length = n
  | 0 => rfl
  | n + 1 => by simp [wl, wl_length b n]
theorem wN_def (b : List UInt8) (i : Nat) : wN b i = (wl b (i + 1)).getD i 0 := by unfold wN; exact Eq.refl _
theorem wl_getD (b : List UInt8) {i : Nat} (n : Nat) (h : i < n) : (wl b n).getD i 0 = wN b i := by
  induction n with
  | zero => omega
  | succ n ih =>
    by_cases e : i = n
    · subst e; exact (wN_def b i).symm
    · have hl : i < (wl b n).length := by rw [wl_length]; omega
      rw [wl, List.getD_eq_getElem?_getD, List.getElem?_append_left hl, ← List.getD_eq_getElem?_getD]
      exact ih (by omega)
theorem wN_first (b : List UInt8) {i : Nat} (h : i < 16) : wN b i = sha_wordN b i := by
  unfold wN wl
  rw [if_pos h, List.getD_eq_getElem?_getD, List.getElem?_append_right (by rw [wl_length]; omega), wl_length]
  simp
theorem getD_snoc (l : List Nat) (x : Nat) : (l ++ [x]).getD l.length 0 = x := by simp
theorem wl_nx (b : List UInt8) {i : Nat} (h : 16 ≤ i) : wl b (i + 1) = wl b i ++ [nextN (wl b i)] := by rw [wl, if_neg (by omega)]
theorem wN_nx (b : List UInt8) {i : Nat} (h : 16 ≤ i) : wN b i = nextN (wl b i) := by
  have e := getD_snoc (wl b i) (nextN (wl b i))
  rw [wl_length, ← wl_nx b h] at e
  exact e
theorem nx_eq (l : List Nat) : nextN l = (l.getD (l.length - 16) 0 + lowN (l.getD (l.length - 15) 0) + l.getD (l.length - 7) 0 + highN (l.getD (l.length - 2) 0)) % 4294967296 := by
  delta nextN
  with_reducible rfl
theorem wN_next (b : List UInt8) {i : Nat} (h : 16 ≤ i) : wN b i = (wN b (i - 16) + lowN (wN b (i - 15)) + wN b (i - 7) + highN (wN b (i - 2))) % 4294967296 := by
  have e := wN_nx b h
  have e1 := nx_eq (wl b i)
  rw [wl_length, wl_getD b i (by omega), wl_getD b i (by omega), wl_getD b i (by omega), wl_getD b i (by omega)] at e1
  exact e.trans e1
theorem byte_lt (x : UInt8) : x.toNat < 256 := x.toNat_lt
theorem wordN_lt (b : List UInt8) (i : Nat) : sha_wordN b i < 4294967296 := by
  unfold sha_wordN
  have h1 := byte_lt (b.getD (4 * i) 0)
  have h2 := byte_lt (b.getD (4 * i + 1) 0)
  have h3 := byte_lt (b.getD (4 * i + 2) 0)
  have h4 := byte_lt (b.getD (4 * i + 3) 0)
  omega
theorem wN_lt (b : List UInt8) (i : Nat) : wN b i < 4294967296 := by
  by_cases h : i < 16
  · rw [wN_first b h]; exact wordN_lt b i
  · rw [wN_next b (by omega)]; exact Nat.mod_lt _ (by decide)
theorem wl_succ (b : List UInt8) (n : Nat) : wl b (n + 1) = wl b n ++ [wN b n] := by
  refine List.ext_getElem? fun j => ?_
  by_cases h : j < n + 1
  · have h1 : j < (wl b (n + 1)).length := by rw [wl_length]; exact h
    have h2 : j < (wl b n ++ [wN b n]).length := by rw [List.length_append, wl_length]; exact h
    rw [List.getElem?_eq_getElem h1, List.getElem?_eq_getElem h2]
    have e1 : (wl b (n + 1))[j] = wN b j := by rw [← wl_getD b (n + 1) h, List.getD_eq_getElem?_getD, List.getElem?_eq_getElem h1]; rfl
    rw [e1]
    by_cases e : j = n
    · subst e
      rw [List.getElem_append_right (by rw [wl_length]; omega)]
      simp
    · have h3 : j < (wl b n).length := by rw [wl_length]; omega
      rw [List.getElem_append_left h3, ← wl_getD b n (by omega), List.getD_eq_getElem?_getD, List.getElem?_eq_getElem h3]; rfl
  · rw [List.getElem?_eq_none (by rw [wl_length]; omega), List.getElem?_eq_none (by rw [List.length_append, wl_length]; simp; omega)]

def kL : List Nat := [
    0x428a2f98, 0x71374491, 0xb5c0fbcf, 0xe9b5dba5, 0x3956c25b, 0x59f111f1, 0x923f82a4, 0xab1c5ed5,
    0xd807aa98, 0x12835b01, 0x243185be, 0x550c7dc3, 0x72be5d74, 0x80deb1fe, 0x9bdc06a7, 0xc19bf174,
    0xe49b69c1, 0xefbe4786, 0x0fc19dc6, 0x240ca1cc, 0x2de92c6f, 0x4a7484aa, 0x5cb0a9dc, 0x76f988da,
    0x983e5152, 0xa831c66d, 0xb00327c8, 0xbf597fc7, 0xc6e00bf3, 0xd5a79147, 0x06ca6351, 0x14292967,
    0x27b70a85, 0x2e1b2138, 0x4d2c6dfc, 0x53380d13, 0x650a7354, 0x766a0abb, 0x81c2c92e, 0x92722c85,
    0xa2bfe8a1, 0xa81a664b, 0xc24b8b70, 0xc76c51a3, 0xd192e819, 0xd6990624, 0xf40e3585, 0x106aa070,
    0x19a4c116, 0x1e376c08, 0x2748774c, 0x34b0bcb5, 0x391c0cb3, 0x4ed8aa4a, 0x5b9cca4f, 0x682e6ff3,
    0x748f82ee, 0x78a5636f, 0x84c87814, 0x8cc70208, 0x90befffa, 0xa4506ceb, 0xbef9a3f7, 0xc67178f2]
def kN (i : Nat) : Nat := kL.getD i 0
def initN : St := ⟨0x6a09e667, 0xbb67ae85, 0x3c6ef372, 0xa54ff53a, 0x510e527f, 0x9b05688c, 0x1f83d9ab, 0x5be0cd19⟩
theorem initN_ok : initN.ok := ⟨by decide, by decide, by decide, by decide, by decide, by decide, by decide, by decide⟩
theorem kN_lt (i : Nat) : kN i < 4294967296 := by
  unfold kN
  by_cases h : i < 64
  · have : ∀ j : Fin 64, kL.getD j.1 0 < 4294967296 := by decide
    exact this ⟨i, h⟩
  · rw [List.getD_eq_getElem?_getD, List.getElem?_eq_none (by show 64 ≤ i; omega)]; decide

/-- The first i rounds of a block. -/
def rdsN (b : List UInt8) (v : St) : Nat → St
  | 0 => v
  | i + 1 => stepN (kN i) (wN b i) (rdsN b v i)
theorem rdsN_ok (b : List UInt8) {v : St} (h : v.ok) : ∀ i, (rdsN b v i).ok
  | 0 => h
  | i + 1 => stepN_ok _ _ (rdsN_ok b h i)
def addN (s t : St) : St := ⟨(s.a + t.a) % 4294967296, (s.b + t.b) % 4294967296, (s.c + t.c) % 4294967296, (s.d + t.d) % 4294967296, (s.e + t.e) % 4294967296, (s.f + t.f) % 4294967296, (s.g + t.g) % 4294967296, (s.h + t.h) % 4294967296⟩
theorem addN_ok (s t : St) : (addN s t).ok := by constructor <;> exact Nat.mod_lt _ (by decide)
/-- A block. -/
def compN (v : St) (b : List UInt8) : St := addN v (rdsN b v 64)
/-- The first q blocks of bytes. -/
def sha_runN (l : List UInt8) : Nat → St
  | 0 => initN
  | q + 1 => compN (sha_runN l q) ((l.drop (64 * q)).take 64)
theorem runN_ok (l : List UInt8) : ∀ q, (sha_runN l q).ok
  | 0 => initN_ok
  | _ + 1 => addN_ok _ _
theorem runN_append (l m : List UInt8) : ∀ q, 64 * q ≤ l.length → sha_runN (l ++ m) q = sha_runN l q
  | 0, _ => rfl
  | q + 1, h => by
    rw [sha_runN, sha_runN, runN_append l m q (by omega)]
    congr 1
    rw [List.drop_append_of_le_length (by omega), List.take_append_of_le_length (by rw [List.length_drop]; omega)]

/-- A number's eight bytes, the highest first. -/
def be8 (n : Nat) : List UInt8 := (List.range 8).map fun j => UInt8.ofNat (n / 256 ^ (7 - j))
theorem be8_length (n : Nat) : (be8 n).length = 8 := by simp [be8]
/-- What fills so many bytes up. -/
def padL (n : Nat) : List UInt8 := 128 :: (List.replicate ((119 - n % 64) % 64) 0 ++ be8 (8 * n % 18446744073709551616))
theorem padL_length (n : Nat) : (padL n).length = (119 - n % 64) % 64 + 9 := by simp [padL, be8_length]
theorem padded (n : Nat) : (n + (padL n).length) % 64 = 0 := by rw [padL_length]; omega
theorem padL_le (n : Nat) : (padL n).length ≤ 72 := by rw [padL_length]; omega
def sha_digN (s : St) : List UInt8 := (List.range 32).map fun p => UInt8.ofNat (s.list.getD (p / 4) 0 / 256 ^ (3 - p % 4))
/-- THE HASH. -/
def hashL (l : List UInt8) : List UInt8 := sha_digN (sha_runN (l ++ padL l.length) ((l ++ padL l.length).length / 64))
theorem digN_length (s : St) : (sha_digN s).length = 32 := by simp [sha_digN]
theorem hashL_length (l : List UInt8) : (hashL l).length = 32 := digN_length _
/-- The byte at 4i + m of the eight numbers' bytes. -/
theorem digN_getD (s : St) {i m : Nat} (hi : i < 8) (hm : m < 4) : (sha_digN s).getD (4 * i + m) 0 = UInt8.ofNat (s.list.getD i 0 / 256 ^ (3 - m)) := by
  unfold sha_digN
  rw [List.getD_eq_getElem?_getD, List.getElem?_map, List.getElem?_range (by omega), Option.map_some, Option.getD_some, show (4 * i + m) / 4 = i by omega, show (4 * i + m) % 4 = m by omega]
/-- Those bytes of a text that are there already. -/
def partL (S : List UInt8) (f : Nat → Bool) : List UInt8 := (List.range 32).map fun p => if f p then S.getD p 0 else 0
theorem partL_length (S : List UInt8) (f : Nat → Bool) : (partL S f).length = 32 := by simp [partL]
theorem partL_set (S : List UInt8) (f g : Nat → Bool) (m : Nat) (h : ∀ p, p < 32 → g p = (f p || p == m)) : (partL S f).set m (S.getD m 0) = partL S g := by
  refine List.ext_getElem? fun p => ?_
  by_cases hp : p < 32
  · rw [List.getElem?_set, partL_length]
    by_cases e : m = p
    · subst e
      rw [if_pos rfl, if_pos hp]
      simp [partL, hp, h m hp]
    · rw [if_neg e]
      have e2 : (p == m) = false := by simp; omega
      simp [partL, hp, h p hp, e2]
  · rw [List.getElem?_eq_none (by rw [List.length_set, partL_length]; omega), List.getElem?_eq_none (by rw [partL_length]; omega)]
theorem partL_all (S : List UInt8) (f : Nat → Bool) (hl : S.length = 32) (h : ∀ p, p < 32 → f p = true) : partL S f = S := by
  refine List.ext_getElem? fun p => ?_
  by_cases hp : p < 32
  · have hp2 : p < S.length := by omega
    simp [partL, hp, h p hp, List.getElem?_eq_getElem hp2]
  · rw [List.getElem?_eq_none (by rw [partL_length]; omega), List.getElem?_eq_none (by omega)]
theorem partL_none (S : List UInt8) (f : Nat → Bool) (h : ∀ p, p < 32 → f p = false) : partL S f = List.replicate 32 0 := by
  unfold partL
  rw [List.map_congr_left (g := fun _ => (0 : UInt8)) (fun p hp => by rw [h p (List.mem_range.1 hp)]; rfl)]
  rfl
theorem partL_same (S : List UInt8) (f g : Nat → Bool) (h : ∀ p, p < 32 → f p = g p) : partL S f = partL S g := by
  unfold partL
  refine List.map_congr_left fun p hp => ?_
  rw [h p (List.mem_range.1 hp)]

/-- An array that is gone around: behind i numbers, but at least sixteen, it has the last sixteen. -/
def Ring (b : List UInt8) (i : Nat) (l : List Nat) : Prop := l.length = 16 ∧ ∀ m, m < i → i ≤ m + 16 → l.getD (m % 16) 0 = wN b m
theorem Ring.start (b : List UInt8) : Ring b 16 ((List.range 16).map (wN b)) := by
  refine ⟨by simp, fun m h _ => ?_⟩
  rw [Nat.mod_eq_of_lt h]
  simp [List.getD_eq_getElem?_getD, h]
theorem Ring.next {b : List UInt8} {i : Nat} {l : List Nat} (h : Ring b i l) : Ring b (i + 1) (l.set (i % 16) (wN b i)) := by
  obtain ⟨hl, h⟩ := h
  refine ⟨by rw [List.length_set, hl], fun m h1 h2 => ?_⟩
  by_cases e : m = i
  · subst e
    rw [List.getD_eq_getElem?_getD, List.getElem?_set_self (by rw [hl]; omega)]; rfl
  · rw [List.getD_eq_getElem?_getD, List.getElem?_set_ne (by omega), ← List.getD_eq_getElem?_getD]
    exact h m (by omega) (by omega)

theorem hash_none : hashL [] = [0xe3, 0xb0, 0xc4, 0x42, 0x98, 0xfc, 0x1c, 0x14, 0x9a, 0xfb, 0xf4, 0xc8, 0x99, 0x6f, 0xb9, 0x24, 0x27, 0xae, 0x41, 0xe4, 0x64, 0x9b, 0x93, 0x4c, 0xa4, 0x95, 0x99, 0x1b, 0x78, 0x52, 0xb8, 0x55] := by decide +kernel
theorem hash_abc : hashL [97, 98, 99] = [0xba, 0x78, 0x16, 0xbf, 0x8f, 0x01, 0xcf, 0xea, 0x41, 0x41, 0x40, 0xde, 0x5d, 0xae, 0x22, 0x23, 0xb0, 0x03, 0x61, 0xa3, 0x96, 0x17, 0x7a, 0x9c, 0xb4, 0x10, 0xff, 0x61, 0xf2, 0x00, 0x15, 0xad] := by decide +kernel
end Go.Proofs.YtemnfnmkhfgopaaDoor
