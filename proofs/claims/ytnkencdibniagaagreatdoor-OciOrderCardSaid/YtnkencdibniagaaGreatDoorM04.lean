/- Merged: OcN, OcO, OcP. -/
import Derived.Test.YtnkencdibniagaaGreatDoorM03
import Derived.Lib.ValidLaws
/- Layer 13, plain: numerals are numbers; what is put is read as it was. -/
namespace Go.Proofs.YtnkencdibniagaaGreatDoor
open Go.Lib

theorem dec_all (n : Nat) : ∀ c ∈ decDigits n, isDg c = true := by
  induction n using Nat.strongRecOn with
  | ind n ih =>
    have one : ∀ k : Fin 10, isDg (UInt8.ofNat (48 + k.val)) = true := by decide
    rw [decDigits]
    split
    · rename_i h
      intro c hc
      rw [List.mem_singleton.1 hc]
      exact one ⟨n, h⟩
    · rename_i h
      intro c hc
      rcases List.mem_append.1 hc with hc | hc
      · exact ih (n / 10) (by omega) c hc
      · rw [List.mem_singleton.1 hc]
        exact one ⟨n % 10, by omega⟩
theorem dec_ne (n : Nat) : decDigits n ≠ [] := by
  rw [decDigits]
  split
  · simp
  · simp
theorem dec_hd (n : Nat) (h : n ≠ 0) : hd (decDigits n) ≠ 48 := by
  induction n using Nat.strongRecOn with
  | ind n ih =>
    have one : ∀ k : Fin 10, k.val ≠ 0 → UInt8.ofNat (48 + k.val) ≠ 48 := by decide
    rw [decDigits]
    split
    · rename_i h10
      exact one ⟨n, h10⟩ h
    · rename_i h10
      rw [hd_app (dec_ne _)]
      exact ih (n / 10) (by omega) (by omega)
theorem dropD_all {l : Bs} (h : ∀ c ∈ l, isDg c = true) : dropD l = [] := by
  induction l with
  | nil => rfl
  | cons c l ih =>
    rw [dropD, if_pos (h c (by simp))]
    exact ih fun x hx => h x (by simp [hx])
theorem dec_num (n : Nat) : isNum (decDigits n) := by
  unfold isNum numP
  have h45 : hd (decDigits n) ≠ 45 := by
    intro e
    have h1 := dec_all n (hd (decDigits n)) (by
      have := dec_ne n
      cases hh : decDigits n with
      | nil => exact absurd hh this
      | cons a l => simp [hd])
    rw [e] at h1
    exact absurd h1 (by decide)
  rw [if_neg h45]
  unfold intP
  have h0 : fracP [] = .ok () [] := by rfl
  by_cases hz : n = 0
  · subst hz
    have : decDigits 0 = [48] := by rw [decDigits]; rfl
    rw [this]
    rfl
  · rw [if_neg (dec_hd n hz), dig_all (dropD_all (dec_all n)) (dec_ne n)]
    exact h0
theorem parse_app : ∀ (a b : Bs) (acc u : Nat), parseUint10 acc a = .ok u → parseUint10 acc (a ++ b) = parseUint10 u b
  | [], b, acc, u, h => by
    simp only [parseUint10] at h
    injection h with h
    rw [h]
    rfl
  | c :: a, b, acc, u, h => by
    rw [List.cons_append]
    simp only [parseUint10] at h ⊢
    by_cases h1 : 48 ≤ c.toNat ∧ c.toNat ≤ 57
    · rw [if_pos h1] at h ⊢
      by_cases h2 : 1844674407370955162 ≤ acc
      · rw [if_pos h2] at h
        cases h
      · rw [if_neg h2] at h ⊢
        by_cases h3 : 18446744073709551616 ≤ acc * 10 + (c.toNat - 48)
        · rw [if_pos h3] at h
          cases h
        · rw [if_neg h3] at h ⊢
          exact parse_app a b _ u h
    · rw [if_neg h1] at h
      cases h
theorem parse_one (acc d : Nat) (hd : d < 10) (ha : acc < 1844674407370955161) : parseUint10 acc [UInt8.ofNat (48 + d)] = .ok (acc * 10 + d) := by
  have h : (UInt8.ofNat (48 + d)).toNat = 48 + d := by
    rw [UInt8.toNat_ofNat']
    omega
  simp only [parseUint10, h]
  rw [if_pos (by omega), if_neg (by omega), if_neg (by omega)]
  congr 1
  omega
theorem parse_dec (n : Nat) (h : n < 10000000000000000000) : parseUint10 0 (decDigits n) = .ok n := by
  induction n using Nat.strongRecOn with
  | ind n ih =>
    rw [decDigits]
    split
    · rename_i h10
      have := parse_one 0 n h10 (by omega)
      simpa using this
    · rename_i h10
      rw [parse_app _ _ _ _ (ih (n / 10) (by omega) (by omega)), parse_one _ _ (by omega) (by omega)]
      congr 1
      omega
theorem atoi_dec {n : Nat} (h : n ≤ 9007199254740992) : atoiAll (decDigits n) = .ok (n : Int) := by
  have hp := parse_dec n (by omega)
  have hne := dec_ne n
  have hall := dec_all n
  cases hh : decDigits n with
  | nil => exact absurd hh hne
  | cons c r =>
    rw [hh] at hp hall
    have hc := hall c (by simp)
    unfold isDg at hc
    simp only [Bool.and_eq_true, decide_eq_true_eq] at hc
    have h1 : 48 ≤ c.toNat := hc.1
    have h2 : c.toNat ≤ 57 := hc.2
    unfold atoiAll
    dsimp only
    rw [if_neg (by omega)]
    have : parseMag (c :: r) = .ok n := by
      unfold parseMag
      rw [if_neg (by simp)]
      exact hp
    rw [this]
    dsimp only
    rw [if_neg (by omega), if_neg (by omega), if_neg (by omega)]
theorem itoa_of {n : Int} (h : 0 ≤ n) : itoa n = decDigits n.toNat := by
  unfold itoa
  rw [if_neg (by omega)]
theorem itoa_num {n : Int} (h : 0 ≤ n) : isNum (itoa n) := by rw [itoa_of h]; exact dec_num _
theorem int_num {n : Int} (h : 0 ≤ n) (h2 : n ≤ 9007199254740992) : intV (numJ n) = some n := by
  have hk : intV (numJ n) = if (3 : Int) = 3 ∧ isNumB (itoa n) = true then (match atoiAll (itoa n) with | .ok n => if -9007199254740992 ≤ n ∧ n ≤ 9007199254740992 then some n else none | _ => none) else none := rfl
  rw [hk, if_pos ⟨rfl, (isNumB_iff _).2 (itoa_num h)⟩, itoa_of h, atoi_dec (by omega)]
  dsimp only
  rw [if_pos (by omega)]
  congr 1
  omega
/-! ### What is put is read -/
theorem mayD_iff (d : DV) : mayD d = true ↔ 0 ≤ d.size ∧ d.size ≤ 9007199254740992 ∧ validD d.media = true ∧ validD d.os = true ∧ validD d.arch = true := by
  unfold mayD
  simp only [Bool.and_eq_true, decide_eq_true_eq]
  constructor
  · rintro ⟨⟨⟨a, b⟩, c⟩, d, e⟩
    exact ⟨a, b, c, d, e⟩
  · rintro ⟨a, b, c, d, e⟩
    exact ⟨⟨⟨a, b⟩, c⟩, d, e⟩
theorem dig_txt {l : Bs} (h : l.length = 32) : digV (txtJ (textL l)) = some l := by
  have hk : digV (txtJ (textL l)) = if (4 : Int) = 4 ∧ isText (textL l) = true then some (digL (textL l)) else none := rfl
  rw [hk, if_pos ⟨rfl, isText_textL h⟩, digL_textL h]
theorem size_num {n : Int} (h : 0 ≤ n) (h2 : n ≤ 9007199254740992) : sizeV (numJ n) = some n := by
  unfold sizeV
  rw [int_num h h2]
  show (if n < 0 then none else some n) = some n
  rw [if_neg (by omega)]
theorem desc_full {d : DV} (hm : mayD d = true) (hd : d.dig.length = 32) : descV (fullJ d) = some d := by
  obtain ⟨h1, h2, _⟩ := (mayD_iff d).1 hm
  have e1 : partV (fullJ d) kMed textV = some d.media := rfl
  have e2 : partV (fullJ d) kDig digV = digV (txtJ (textL d.dig)) := rfl
  have e3 : partV (fullJ d) kSiz sizeV = sizeV (numJ d.size) := rfl
  have e4 : anyV ([], []) (fullJ d) kPla platV = some (d.os, d.arch) := rfl
  unfold descV
  rw [e1, e2, e3, e4, dig_txt hd, size_num h1 h2]
theorem mapO_map {α β : Type} (f : JV → Option α) (g : β → JV) (t : β → α) : ∀ l : List β, (∀ x ∈ l, f (g x) = some (t x)) → mapO f (l.map g) = some (l.map t)
  | [], _ => rfl
  | x :: l, h => by
    rw [List.map_cons, mapO, h x (by simp), mapO_map f g t l fun y hy => h y (by simp [hy])]
    rfl
theorem idx_back {l : List DV} (h : (idxA l).2 = 0) (hl : ∀ d ∈ l, d.dig.length = 32) : idxA l = printA (idxJ l) ∧ idxV (idxJ l) = .ok l := by
  have hm : l.all mayD = true := by
    unfold idxA at h
    by_cases hh : l.all mayD = false
    · rw [if_pos hh] at h
      exact absurd h (by decide)
    · simpa using hh
  have hn : ¬ 32 < l.length := by
    unfold idxA at h
    rw [if_neg (by simp [hm])] at h
    intro hh
    rw [if_pos hh] at h
    exact absurd h (by decide)
  have hall := List.all_eq_true.1 hm
  refine ⟨?_, ?_⟩
  · unfold idxA
    rw [if_neg (by simp [hm]), if_neg hn]
  · have a1 : partV (idxJ l) kVer intV = intV (numJ 2) := rfl
    have a2 : anyV [] (idxJ l) kMed (mediaV 2) = some mIdx := by show mediaV 2 (txtJ mIdx) = some mIdx; rfl
    have a4 : partV (idxJ l) kMan (listV descV) = mapO descV (l.map fullJ) := rfl
    have a0 : headV 2 (idxJ l) = 0 := by
      unfold headV
      rw [a1, int_num (by decide) (by decide), if_neg (by simp), a2]
    unfold idxV
    rw [a0, if_neg (by simp), a4, mapO_map descV fullJ id l fun d hd => desc_full (hall d hd) (hl d hd)]
    dsimp only
    rw [List.map_id, if_neg hn]
theorem img_back {p : Bs × Bs} {l : List Bs} (h : (imgA p l).2 = 0) (hl : ∀ d ∈ l, d.length = 32) : imgA p l = printA (imgJ p l) ∧ imgV (imgJ p l) = .ok (p, l) := by
  have hm : (validD p.1 && validD p.2) = true := by
    unfold imgA at h
    by_cases hh : (validD p.1 && validD p.2) = false
    · rw [if_pos hh] at h
      exact absurd h (by decide)
    · simpa using hh
  have hn : ¬ 8 < l.length := by
    unfold imgA at h
    rw [if_neg (by simp [hm])] at h
    intro hh
    rw [if_pos hh] at h
    exact absurd h (by decide)
  refine ⟨?_, ?_⟩
  · unfold imgA
    rw [if_neg (by simp [hm]), if_neg hn]
  · have a1 : platV (imgJ p l) = some p := rfl
    have a2 : partV (imgJ p l) kRoo rootV = mapO digV (l.map fun d => txtJ (textL d)) := rfl
    unfold imgV
    rw [a1, a2, mapO_map digV (fun d => txtJ (textL d)) id l fun d hd => dig_txt (hl d hd)]
    dsimp only
    rw [List.map_id, if_neg hn]
end Go.Proofs.YtnkencdibniagaaGreatDoor

/- Layer 13, plain: keys in another order, and one more, make no difference. -/
namespace Go.Proofs.YtnkencdibniagaaGreatDoor
open Go.Lib

def annJ : JV := .mk 5 [] [.mk 0 [] [] []] []
/-- A list, turned. -/
def rotL {α : Type} (b : Nat) (l : List α) : List α := l.drop (b % l.length) ++ l.take (b % l.length)
mutual
def turnJ (b : Nat) : JV → JV
  | .mk k t items keys => if k = 6 then .mk 6 t (rotL b (turnL b items) ++ [annJ]) (rotL b keys ++ [kAnn]) else .mk k t (turnL b items) []
def turnL (b : Nat) : List JV → List JV
  | [] => []
  | x :: l => turnJ b x :: turnL b l
end
theorem turnL_map (b : Nat) : ∀ l : List JV, turnL b l = l.map (turnJ b)
  | [] => by rw [turnL]; rfl
  | x :: l => by rw [turnL, turnL_map b l]; rfl
theorem turn_kind (b : Nat) : ∀ v : JV, (turnJ b v).kind = v.kind ∧ (turnJ b v).text = v.text
  | .mk k t items keys => by
    rw [turnJ]
    split
    · rename_i h
      exact ⟨h.symm, rfl⟩
    · exact ⟨rfl, rfl⟩
theorem rot_length {α : Type} (b : Nat) (l : List α) : (rotL b l).length = l.length := by
  unfold rotL
  rw [List.length_append, List.length_drop, List.length_take]
  by_cases h : l.length = 0
  · omega
  · have := Nat.mod_lt b (Nat.pos_of_ne_zero h)
    omega
theorem rot_perm {α : Type} (b : Nat) (l : List α) : (rotL b l).Perm l := by
  unfold rotL
  refine List.perm_append_comm.trans ?_
  rw [List.take_append_drop]
/-- The i-th one of a list that was turned. -/
theorem rot_at {α : Type} (b : Nat) (l : List α) (i : Nat) (hi : i < l.length) : (rotL b l)[i]? = l[(i + b) % l.length]? := by
  unfold rotL
  obtain ⟨n, hn⟩ : ∃ n, l.length = n := ⟨_, rfl⟩
  have hm := Nat.mod_lt b (show 0 < n by omega)
  have e : (i + b) % n = (i + b % n) % n := by rw [Nat.add_mod, Nat.mod_eq_of_lt (show i < n by omega)]
  rw [hn, e]
  obtain ⟨m, hm0⟩ : ∃ m, b % n = m := ⟨_, rfl⟩
  rw [hm0] at hm ⊢
  by_cases h : i < n - m
  · rw [List.getElem?_append_left (by rw [List.length_drop, hn]; omega), List.getElem?_drop, Nat.mod_eq_of_lt (show i + m < n by omega), Nat.add_comm]
  · rw [List.getElem?_append_right (by rw [List.length_drop, hn]; omega), List.length_drop, hn, List.getElem?_take, if_pos (by omega), show i + m = (i - (n - m)) + n by omega, Nat.add_mod_right, Nat.mod_eq_of_lt (by omega)]
theorem getL_app : ∀ (a : List Bs) (x : List JV) (b : List Bs) (y : List JV) (key : Bs), a.length = x.length → getL (a ++ b) (x ++ y) key = (getL a x key).or (getL b y key)
  | [], [], b, y, key, _ => by
    show getL b y key = (getL [] [] key).or _
    rw [show getL [] [] key = none by rfl, Option.none_or]
  | k :: a, z :: x, b, y, key, h => by
    show getL (k :: (a ++ b)) (z :: (x ++ y)) key = _
    rw [getL, getL]
    by_cases e : k = key
    · rw [if_pos e, if_pos e]
      rfl
    · rw [if_neg e, if_neg e, getL_app a x b y key (by simpa using h)]
  | [], _ :: _, _, _, _, h => by simp at h
  | _ :: _, [], _, _, _, h => by simp at h
theorem getL_none : ∀ (a : List Bs) (x : List JV) (key : Bs), key ∉ a → getL a x key = none
  | [], _, _, _ => by simp [getL]
  | _ :: _, [], _, _ => by simp [getL]
  | k :: a, z :: x, key, h => by
    rw [getL, if_neg (fun e => h (by simp [e])), getL_none a x key fun hm => h (by simp [hm])]
theorem getL_map (f : JV → JV) : ∀ (a : List Bs) (x : List JV) (key : Bs), getL a (x.map f) key = (getL a x key).map f
  | [], x, _ => by simp [getL]
  | _ :: _, [], _ => by simp [getL]
  | k :: a, z :: x, key => by
    rw [List.map_cons, getL, getL]
    by_cases e : k = key
    · rw [if_pos e, if_pos e]
      rfl
    · rw [if_neg e, if_neg e, getL_map f a x key]
theorem getL_rot (b : Nat) (a : List Bs) (x : List JV) (key : Bs) (hl : a.length = x.length) (hn : a.Nodup) : getL (rotL b a) (rotL b x) key = getL a x key := by
  unfold rotL
  rw [← hl]
  have e1 : getL a x key = (getL (a.take (b % a.length)) (x.take (b % a.length)) key).or (getL (a.drop (b % a.length)) (x.drop (b % a.length)) key) := by
    rw [← getL_app _ _ _ _ _ (by simp [hl]), List.take_append_drop, List.take_append_drop]
  rw [getL_app _ _ _ _ _ (by simp [hl]), e1]
  by_cases h : key ∈ a.take (b % a.length)
  · have h2 : key ∉ a.drop (b % a.length) := by
      intro hd
      rw [← List.take_append_drop (b % a.length) a] at hn
      exact (List.nodup_append.1 hn).2.2 key h key hd rfl
    rw [getL_none _ _ _ h2, Option.none_or, Option.or_none]
  · rw [getL_none _ _ _ h, Option.none_or, Option.or_none]
theorem getV_turn (b : Nat) {v : JV} (hv : may v) {key : Bs} (hk : key ≠ kAnn) : getV (turnJ b v) key = (getV v key).map (turnJ b) := by
  obtain ⟨k, t, items, keys⟩ := v
  unfold getV
  rw [(turn_kind b _).1]
  show (if k = 6 then _ else _) = _
  by_cases h : k = 6
  · subst h
    obtain ⟨_, _, h3, _, h5⟩ := may_obj hv
    rw [if_pos rfl, if_pos (show (JV.mk 6 t items keys).kind = 6 from rfl), turnJ, if_pos rfl]
    show getL (rotL b keys ++ [kAnn]) (rotL b (turnL b items) ++ [annJ]) key = (getL keys items key).map (turnJ b)
    rw [getL_app _ _ _ _ _ (by rw [rot_length, rot_length, turnL_map, List.length_map, h3]), getL_none [kAnn] _ _ (by simpa using hk), Option.or_none, turnL_map, getL_rot b keys _ key (by rw [List.length_map, h3]) h5, getL_map]
  · rw [if_neg h, if_neg (show ¬ (JV.mk k t items keys).kind = 6 from h)]
    rfl
theorem getL_may : ∀ (a : List Bs) (x : List JV) (key : Bs) (v : JV), mayL x → getL a x key = some v → may v
  | [], _, _, _, _, h => by simp [getL] at h
  | _ :: _, [], _, _, _, h => by simp [getL] at h
  | k :: a, z :: x, key, v, hm, h => by
    rw [getL] at h
    by_cases e : k = key
    · rw [if_pos e] at h
      injection h with h
      rw [← h]
      exact mayL_mem hm z (by simp)
    · rw [if_neg e] at h
      exact getL_may a x key v (by rw [mayL] at hm; exact hm.2) h
theorem getV_may {v x : JV} {key : Bs} (hv : may v) (h : getV v key = some x) : may x := by
  unfold getV at h
  split at h
  · obtain ⟨k, t, items, keys⟩ := v
    rename_i hk
    have hk : k = 6 := hk
    subst hk
    exact getL_may keys items key x (may_obj hv).1 h
  · cases h
theorem partV_turn {α : Type} (b : Nat) {v : JV} (hv : may v) {key : Bs} (hk : key ≠ kAnn) (f : JV → Option α) (hf : ∀ x, may x → f (turnJ b x) = f x) : partV (turnJ b v) key f = partV v key f := by
  unfold partV
  rw [getV_turn b hv hk]
  cases h : getV v key with
  | none => rfl
  | some x => exact hf x (getV_may hv h)
theorem anyV_turn {α : Type} (b : Nat) (z : α) {v : JV} (hv : may v) {key : Bs} (hk : key ≠ kAnn) (f : JV → Option α) (hf : ∀ x, may x → f (turnJ b x) = f x) : anyV z (turnJ b v) key f = anyV z v key f := by
  unfold anyV
  rw [getV_turn b hv hk]
  cases h : getV v key with
  | none => rfl
  | some x => exact hf x (getV_may hv h)
theorem textV_turn (b : Nat) (v : JV) : textV (turnJ b v) = textV v := by
  unfold textV
  rw [(turn_kind b v).1, (turn_kind b v).2]
theorem intV_turn (b : Nat) (v : JV) : intV (turnJ b v) = intV v := by
  unfold intV
  rw [(turn_kind b v).1, (turn_kind b v).2]
theorem digV_turn (b : Nat) (v : JV) : digV (turnJ b v) = digV v := by
  unfold digV
  rw [(turn_kind b v).1, (turn_kind b v).2]
theorem sizeV_turn (b : Nat) (v : JV) : sizeV (turnJ b v) = sizeV v := by
  unfold sizeV
  rw [intV_turn]
theorem mediaV_turn (b n : Nat) (v : JV) : mediaV n (turnJ b v) = mediaV n v := by
  unfold mediaV
  rw [textV_turn]
theorem platV_turn (b : Nat) {v : JV} (hv : may v) : platV (turnJ b v) = platV v := by
  unfold platV
  rw [partV_turn b hv (by decide) textV fun x _ => textV_turn b x, partV_turn b hv (by decide) textV fun x _ => textV_turn b x]
theorem descV_turn (b : Nat) {v : JV} (hv : may v) : descV (turnJ b v) = descV v := by
  unfold descV
  rw [partV_turn b hv (by decide) textV fun x _ => textV_turn b x, partV_turn b hv (by decide) digV fun x _ => digV_turn b x, partV_turn b hv (by decide) sizeV fun x _ => sizeV_turn b x, anyV_turn b _ hv (by decide) platV fun x hx => platV_turn b hx]
theorem mapO_turn {α : Type} (b : Nat) (f : JV → Option α) (hf : ∀ x, may x → f (turnJ b x) = f x) : ∀ l : List JV, mayL l → mapO f (l.map (turnJ b)) = mapO f l
  | [], _ => rfl
  | x :: l, h => by
    rw [mayL] at h
    rw [List.map_cons, mapO, mapO, hf x h.1, mapO_turn b f hf l h.2]
theorem listV_turn {α : Type} (b : Nat) (f : JV → Option α) (hf : ∀ x, may x → f (turnJ b x) = f x) {v : JV} (hv : may v) : listV f (turnJ b v) = listV f v := by
  unfold listV
  rw [(turn_kind b v).1]
  by_cases h : v.kind = 5
  · obtain ⟨k, t, items, keys⟩ := v
    have h : k = 5 := h
    subst h
    have hi : (turnJ b (.mk 5 t items keys)).items = items.map (turnJ b) := by
      rw [turnJ, if_neg (by decide)]
      exact turnL_map b items
    rw [if_pos (show (JV.mk 5 t items keys).kind = 5 from rfl), if_pos (show (JV.mk 5 t items keys).kind = 5 from rfl), hi]
    exact mapO_turn b f hf items (may_list hv).1
  · rw [if_neg h, if_neg h]
theorem headV_turn (b n : Nat) {v : JV} (hv : may v) : headV n (turnJ b v) = headV n v := by
  unfold headV
  rw [partV_turn b hv (by decide) intV fun x _ => intV_turn b x, anyV_turn b _ hv (by decide) (mediaV n) fun x _ => mediaV_turn b n x]
theorem idxV_turn (b : Nat) {v : JV} (hv : may v) : idxV (turnJ b v) = idxV v := by
  unfold idxV
  rw [headV_turn b 2 hv, partV_turn b hv (by decide) (listV descV) fun x hx => listV_turn b descV (fun y hy => descV_turn b hy) hx]
theorem rootV_turn (b : Nat) {v : JV} (hv : may v) : rootV (turnJ b v) = rootV v := by
  unfold rootV
  rw [partV_turn b hv (by decide) textV fun x _ => textV_turn b x, partV_turn b hv (by decide) (listV digV) fun x hx => listV_turn b digV (fun y _ => digV_turn b y) hx]
theorem imgV_turn (b : Nat) {v : JV} (hv : may v) : imgV (turnJ b v) = imgV v := by
  unfold imgV
  rw [platV_turn b hv, partV_turn b hv (by decide) rootV fun x hx => rootV_turn b hx]
end Go.Proofs.YtnkencdibniagaaGreatDoor

/- Layer 13, plain: what is put may be. -/
namespace Go.Proofs.YtnkencdibniagaaGreatDoor
open Go.Lib

theorem deep_leaf (v : JV) (h5 : v.kind ≠ 5) (h6 : v.kind ≠ 6) (h : v.items = []) : deep v = 0 := by
  obtain ⟨k, t, items, keys⟩ := v
  have h : items = [] := h
  subst h
  rw [deep, if_neg (by intro e; rcases e with e | e; exact h5 e; exact h6 e), deepL]
theorem deep_objJ {l : List (Bs × JV)} {n : Nat} (h : ∀ p ∈ l, deep p.2 ≤ n) : deep (objJ l) ≤ n + 1 := by
  unfold objJ
  rw [deep, if_pos (.inr rfl)]
  have : deepL (l.map (·.2)) ≤ n := deepL_of fun x hx => by
    obtain ⟨p, hp, rfl⟩ := List.mem_map.1 hx
    exact h p hp
  omega
theorem deep_lst {l : List JV} {n : Nat} (h : ∀ x ∈ l, deep x ≤ n) : deep (lstJ l) ≤ n + 1 := by
  unfold lstJ
  rw [deep, if_pos (.inl rfl)]
  have : deepL l ≤ n := deepL_of h
  omega
theorem deep_txt (s : Bs) : deep (txtJ s) = 0 := deep_leaf _ (show (4 : Int) ≠ 5 by decide) (show (4 : Int) ≠ 6 by decide) rfl
theorem deep_num (n : Int) : deep (numJ n) = 0 := deep_leaf _ (show (3 : Int) ≠ 5 by decide) (show (3 : Int) ≠ 6 by decide) rfl
theorem deep_full (d : DV) : deep (fullJ d) ≤ 2 := deep_objJ (n := 1) fun p hp => by
  rcases List.mem_append.1 hp with hp | hp
  · unfold fldJ at hp
    simp only [List.mem_cons, List.not_mem_nil, or_false] at hp
    rcases hp with rfl | rfl | rfl
    · rw [deep_txt]; omega
    · rw [deep_txt]; omega
    · rw [deep_num]; omega
  · rw [List.mem_singleton.1 hp]
    refine deep_objJ (n := 0) fun q hq => ?_
    simp only [List.mem_cons, List.not_mem_nil, or_false] at hq
    rcases hq with rfl | rfl
    · rw [deep_txt]; omega
    · rw [deep_txt]; omega
theorem deep_idx (l : List DV) : deep (idxJ l) ≤ 4 := deep_objJ (n := 3) fun p hp => by
  simp only [List.mem_cons, List.not_mem_nil, or_false] at hp
  rcases hp with rfl | rfl | rfl
  · rw [deep_num]; omega
  · rw [deep_txt]; omega
  · exact deep_lst (n := 2) fun x hx => by
      obtain ⟨d, _, rfl⟩ := List.mem_map.1 hx
      exact deep_full d
theorem deep_img (p : Bs × Bs) (l : List Bs) : deep (imgJ p l) ≤ 4 := deep_objJ (n := 3) fun q hq => by
  simp only [List.mem_cons, List.not_mem_nil, or_false] at hq
  rcases hq with rfl | rfl | rfl
  · rw [deep_txt]; omega
  · rw [deep_txt]; omega
  · refine deep_objJ (n := 2) fun q hq => ?_
    simp only [List.mem_cons, List.not_mem_nil, or_false] at hq
    rcases hq with rfl | rfl
    · rw [deep_txt]; omega
    · exact Nat.le_trans (deep_lst (n := 0) fun x hx => by
        obtain ⟨d, _, rfl⟩ := List.mem_map.1 hx
        rw [deep_txt]; omega) (by omega)
/-! ### Turned -/
end Go.Proofs.YtnkencdibniagaaGreatDoor

