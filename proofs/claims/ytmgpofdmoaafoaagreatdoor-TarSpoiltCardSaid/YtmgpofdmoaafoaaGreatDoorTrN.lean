/- Layer 15, plainly: what is written is read as it was; what is cut off, or has another sum, is none. -/
import Derived.Test.YtmgpofdmoaafoaaGreatDoorTrM
namespace Go.Proofs.YtmgpofdmoaafoaaGreatDoor

theorem pow11 : (8 : Nat) ^ 11 = 8589934592 := by decide
/-! ### Records -/
theorem dec3_val {n : Nat} (h1 : 100 ≤ n) (h2 : n ≤ 999) : numP 10 (dec3 n) = some n ∧ (∀ c ∈ dec3 n, c ≠ 32) ∧ (dec3 n).headD 0 ≠ 48 := by
  have a1 : (UInt8.ofNat (48 + n / 100)).toNat = 48 + n / 100 := by rw [UInt8.toNat_ofNat']; omega
  have a2 : (UInt8.ofNat (48 + n / 10 % 10)).toNat = 48 + n / 10 % 10 := by rw [UInt8.toNat_ofNat']; omega
  have a3 : (UInt8.ofNat (48 + n % 10)).toNat = 48 + n % 10 := by rw [UInt8.toNat_ofNat']; omega
  have hv : valD 10 (dec3 n) = n := by
    unfold valD dec3
    simp only [List.foldl_cons, List.foldl_nil, a1, a2, a3]
    omega
  have hd : (dec3 n).all (isDig 10) = true := by
    unfold dec3 isDig
    simp only [List.all_cons, List.all_nil, Bool.and_true, a1, a2, a3, Bool.and_eq_true, decide_eq_true_eq]
    omega
  refine ⟨?_, fun c hc => ?_, ?_⟩
  · unfold numP
    rw [if_pos ⟨by unfold dec3; simp, hd, by rw [hv]; omega⟩, hv]
  · rintro rfl
    have := List.all_eq_true.1 hd 32 hc
    revert this; decide
  · unfold dec3
    show UInt8.ofNat (48 + n / 100) ≠ 48
    intro e
    have := congrArg UInt8.toNat e
    rw [a1] at this
    have h48 : (48 : UInt8).toNat = 48 := rfl
    omega
theorem takeWhile_stop {a b : Bs} {c : UInt8} (h : ∀ x ∈ a, x ≠ c) : (a ++ c :: b).takeWhile (· != c) = a := by
  rw [List.takeWhile_append_of_pos (fun x hx => by simpa using h x hx)]
  simp
theorem dropWhile_stop {a b : Bs} {c : UInt8} (h : ∀ x ∈ a, x ≠ c) : (a ++ c :: b).dropWhile (· != c) = c :: b := by
  rw [List.dropWhile_append_of_pos (fun x hx => by simpa using h x hx)]
  simp
theorem oneR_recW (key v r : Bs) (hk : ∀ x ∈ key, x ≠ 61) (h1 : 97 ≤ (lineL key v).length) (h2 : (lineL key v).length ≤ 996) : oneR (recW key v ++ r) = some (key, v, r) := by
  obtain ⟨n, hn⟩ : ∃ n, n = (lineL key v).length + 3 := ⟨_, rfl⟩
  obtain ⟨p1, p2, p3⟩ := dec3_val (n := n) (by omega) (by omega)
  have hd3 : (dec3 n).length = 3 := rfl
  have e0 : recW key v ++ r = dec3 n ++ 32 :: (key ++ [61] ++ v ++ [10] ++ r) := by
    unfold recW lineL at *
    rw [← hn]
    simp
  have hl : (recW key v).length = n := by
    unfold recW
    rw [← hn, List.length_append, hd3, hn]
    omega
  have et : (recW key v ++ r).take n = recW key v := List.take_left' hl
  have ed : (recW key v ++ r).drop n = r := List.drop_left' hl
  have ew : (recW key v ++ r).takeWhile (· != 32) = dec3 n := by rw [e0]; exact takeWhile_stop p2
  have eh : (recW key v ++ r).headD 0 = (dec3 n).headD 0 := by rw [e0]; rfl
  have el : (recW key v).drop ((dec3 n).length + 1) = key ++ [61] ++ v ++ [10] := by
    unfold recW lineL at *
    rw [← hn, hd3]
    rfl
  unfold oneR
  rw [ew, p1]
  simp only
  rw [eh, if_neg (by
    rintro (h | h)
    · exact p3 h
    · rw [List.length_append, hl] at h; omega), et, ed, el]
  have g1 : (key ++ [61] ++ v ++ [10]).getLast? = some 10 := List.getLast?_concat
  have g2 : (key ++ [61] ++ v ++ [10]).dropLast = key ++ 61 :: v := by
    rw [List.dropLast_append_of_ne_nil (by simp)]
    simp
  rw [g1, g2, if_pos ⟨rfl, by simp⟩, takeWhile_stop hk, dropWhile_stop hk]
  rfl
theorem recsR_recW (key v r : Bs) (rs : Recs) (hk : ∀ x ∈ key, x ≠ 61) (h1 : 97 ≤ (lineL key v).length) (h2 : (lineL key v).length ≤ 996) : recsR (recW key v ++ r) rs = recsR r (setR rs key v) := by
  conv => lhs; rw [recsR]
  rw [if_neg (by unfold recW dec3; simp), oneR_recW key v r hk h1 h2]
  simp only
  rw [if_pos (by unfold recW dec3; simp; omega)]
theorem recsR_nil (rs : Recs) : recsR [] rs = some rs := by rw [recsR, if_pos rfl]
theorem lineL_len (key v : Bs) : (lineL key v).length = key.length + v.length + 3 := by
  unfold lineL
  simp only [List.length_append, List.length_cons, List.length_nil]
  omega
def ifLong (s : Bs) : Option Bs := if 100 < s.length then some s else none
theorem recsR_more {x : Ent} (h1 : x.name.length ≤ 200) (h2 : x.to.length ≤ 200) : recsR (moreE x) ⟨none, none, none⟩ = some ⟨ifLong x.name, ifLong x.to, none⟩ := by
  have p1 : ∀ (rs : Recs) (r : Bs), 100 < x.name.length → recsR (recW kPath x.name ++ r) rs = recsR r { rs with path := some x.name } := fun rs r h =>
    recsR_recW _ _ _ _ (by decide) (by rw [lineL_len]; omega) (by rw [lineL_len]; have : kPath.length = 4 := rfl; omega)
  have p2 : ∀ (rs : Recs) (r : Bs), 100 < x.to.length → recsR (recW kLink x.to ++ r) rs = recsR r { rs with link := some x.to } := fun rs r h =>
    recsR_recW _ _ _ _ (by decide) (by rw [lineL_len]; omega) (by rw [lineL_len]; have : kLink.length = 8 := rfl; omega)
  unfold moreE longR ifLong
  split
  · rw [p1 _ _ (by assumption)]
    split
    · have := p2 ⟨some x.name, none, none⟩ [] (by assumption)
      rw [List.append_nil] at this
      rw [this, recsR_nil]
    · rw [recsR_nil]
  · split
    · have := p2 ⟨none, none, none⟩ [] (by assumption)
      rw [List.append_nil] at this
      rw [List.nil_append, this, recsR_nil]
    · rw [List.nil_append, recsR_nil]
/-! ### Reading on -/
theorem takeR_full (d r : Bs) : takeR d.length (fullT d ++ r) = some (d, r) := by
  unfold takeR
  have h1 : ¬ (fullT d ++ r).length < 512 * blocksN d.length := by rw [List.length_append, fullT_len]; omega
  rw [if_neg h1]
  have h2 : (fullT d ++ r).take d.length = d := by
    unfold fullT
    rw [List.append_assoc, List.take_left]
  rw [h2, List.drop_left' (fullT_len d)]
theorem takeR_cut (d : Bs) (k : Nat) (hk : k < (fullT d).length) : takeR d.length ((fullT d).take k) = none := by
  unfold takeR
  rw [if_pos (by rw [List.length_take, ← fullT_len]; omega)]
theorem addR_le {x : Ent} {r : Bs} {out : List Ent} {r' wt' out'} (h : addR x r out = .inr (r', wt', out')) : r' = r ∧ out'.length = out.length + 1 ∧ out.length ≠ 200 := by
  unfold addR at h
  split at h
  · cases h
  · split at h
    · cases h
    · split at h
      · cases h
      · cases h
        exact ⟨rfl, by simp, by assumption⟩
theorem takeR_le {n : Nat} {r d r' : Bs} (h : takeR n r = some (d, r')) : r'.length ≤ r.length := by
  unfold takeR at h
  split at h
  · cases h
  · cases h
    rw [List.length_drop]; omega
theorem stepR_le {h : Hd} {r : Bs} {wt : Option Recs} {out : List Ent} {r' wt' out'} (he : stepR h r wt out = .inr (r', wt', out')) : r'.length ≤ r.length ∧ (out.length ≤ 200 → out'.length ≤ 200) := by
  unfold stepR at he
  split at he
  · split at he
    · cases he
    · have := addR_le he
      exact ⟨by rw [this.1]; exact Nat.le_refl _, fun _ => by omega⟩
  · split at he
    · split at he
      · cases he
      · split at he
        · cases he
        · have := addR_le he
          exact ⟨by rw [this.1]; exact takeR_le (by assumption), fun _ => by omega⟩
    · split at he
      · split at he
        · cases he
        · split at he
          · cases he
          · split at he
            · cases he
            · cases he
              exact ⟨takeR_le (by assumption), fun h => h⟩
      · cases he
theorem readR_step {h r : Bs} (wt : Option Recs) (out : List Ent) (hl : h.length = 512) (hz : allZ h = false) :
    readR (h ++ r) wt out = match headR h with
      | none => (10, [])
      | some hd => match stepR hd r wt out with
        | .inl e => (e, [])
        | .inr (r', wt', out') => readR r' wt' out' := by
  rw [readR, if_neg (by rw [List.length_append]; omega), List.take_left' hl, List.drop_left' hl, hz]
  simp only [Bool.false_eq_true, if_false]
  cases headR h with
  | none => rfl
  | some hd =>
    simp only
    cases he : stepR hd r wt out with
    | inl e => rfl
    | inr p =>
      obtain ⟨r', wt', out'⟩ := p
      have := (stepR_le he).1
      simp only
      rw [if_pos (by rw [List.length_append]; omega)]
theorem readR_short {s : Bs} (wt : Option Recs) (out : List Ent) (h : s.length < 512) : readR s wt out = (10, []) := by rw [readR, if_pos h]
theorem readR_end (m : Nat) (out : List Ent) (h : 1024 ≤ m) : readR (zerosL m) none out = (0, out) := by
  have t : (zerosL m).take 512 = zerosL 512 := by unfold zerosL; rw [List.take_replicate]; congr 1; omega
  have d : (zerosL m).drop 512 = zerosL (m - 512) := by unfold zerosL; rw [List.drop_replicate]
  rw [readR, if_neg (by rw [zerosL_len]; omega), t, d, allZ_zeros, if_pos rfl, if_neg]
  rintro (h1 | h1 | h1)
  · cases h1
  · rw [zerosL_len] at h1; omega
  · rw [allZ_zeros] at h1; cases h1
theorem readR_behind (out : List Ent) (c : UInt8) (hc : c ≠ 0) : readR (zerosL 1024 ++ [c]) none out = (10, []) := by
  have e : zerosL 1024 ++ [c] = zerosL 512 ++ (zerosL 512 ++ [c]) := by rw [← List.append_assoc, zerosL_add]
  rw [readR, if_neg (by rw [List.length_append, zerosL_len]; omega), e, List.take_left' (zerosL_len 512), List.drop_left' (zerosL_len 512), allZ_zeros, if_pos rfl, if_pos]
  refine .inr (.inr ?_)
  rw [allZ_app]
  have : allZ [c] = false := by
    rw [Bool.eq_false_iff]
    intro h
    exact hc (allZ_iff.1 h c (by simp))
  rw [this, Bool.and_false]
theorem partW_len (name to : Bs) (mode : Nat) (kind : UInt8) (data : Bs) : (partW name to mode kind data).length = 512 + 512 * blocksN data.length := by
  unfold partW
  rw [List.length_append, headW_len, fullT_len]
section
variable {name to : Bs} {mode : Nat} {data : Bs}
theorem readR_part (kind : UInt8) (r : Bs) (wt : Option Recs) (out : List Ent) (hn : (0 : UInt8) ∉ name) (ht : (0 : UInt8) ∉ to) (hm : mode < 8 ^ 7) (hs : data.length < 8 ^ 11) :
    readR (headW name to mode data.length kind ++ r) wt out = match stepR ⟨name.take 100, to.take 100, mode, data.length, kind⟩ r wt out with
        | .inl e => (e, [])
        | .inr (r', wt', out') => readR r' wt' out' := by
  rw [readR_step wt out (headW_len ..) (headW_notZ ..), headR_headW name to mode data.length kind hn ht hm hs]
end
theorem take_app_ge {a b : Bs} {k : Nat} (h : a.length ≤ k) : (a ++ b).take k = a ++ b.take (k - a.length) := by
  rw [List.take_append, List.take_of_length_le h]
/-- What is cut within a part is none. -/
theorem part_cut {name to : Bs} {mode : Nat} {kind : UInt8} {data : Bs} (wt : Option Recs) (out : List Ent) (hn : (0 : UInt8) ∉ name) (ht : (0 : UInt8) ∉ to) (hm : mode < 8 ^ 7) (hs : data.length < 8 ^ 11)
    (hk : kind = 48 ∨ kind = 120 ∨ data = []) (hw : wSize wt = none) (k : Nat) (hlt : k < (partW name to mode kind data).length) : readR ((partW name to mode kind data).take k) wt out = (10, []) := by
  by_cases h5 : k < 512
  · exact readR_short _ _ (by rw [List.length_take]; omega)
  · have hne : data ≠ [] := by
      rintro rfl
      rw [partW_len] at hlt
      have : blocksN ([] : Bs).length = 0 := by decide
      omega
    have hlt2 : k - 512 < (fullT data).length := by rw [fullT_len]; rw [partW_len] at hlt; omega
    unfold partW
    rw [take_app_ge (by rw [headW_len]; omega), headW_len, readR_part kind _ wt out hn ht hm hs]
    have key : stepR ⟨name.take 100, to.take 100, mode, data.length, kind⟩ ((fullT data).take (k - 512)) wt out = .inl 10 := by
      have hd0 : data.length ≠ 0 := fun e => hne (List.eq_nil_of_length_eq_zero e)
      rcases hk with rfl | rfl | rfl
      · unfold stepR sizeOr
        rw [hw]
        simp only [show ¬ ((48 : UInt8) = 49 ∨ (48 : UInt8) = 50 ∨ (48 : UInt8) = 53) by decide, if_false, or_true, if_true, takeR_cut data _ hlt2]
      · unfold stepR
        simp only [show ¬ ((120 : UInt8) = 49 ∨ (120 : UInt8) = 50 ∨ (120 : UInt8) = 53) by decide, if_false, show ¬ ((120 : UInt8) = 0 ∨ (120 : UInt8) = 48) by decide, if_true, takeR_cut data _ hlt2]
      · exact absurd rfl hne
    rw [key]
theorem textE_not0 {s : Bs} (h : textE s = 0) : (0 : UInt8) ∉ s := (textE_ok h).2.2
structure EntP (x : Ent) : Prop where
  may : MayP x
  data : x.data.length < 8 ^ 11
theorem EntP.to0 {x : Ent} (h : EntP x) : (0 : UInt8) ∉ x.to ∧ x.to.length ≤ 200 := by
  cases hl : isLinkK x.kind
  · rw [h.may.none hl]; exact ⟨by simp, by decide⟩
  · have := textE_ok (h.may.link hl); exact ⟨this.2.2, this.1⟩
theorem EntP.mode8 {x : Ent} (h : EntP x) : x.mode.toNat < 8 ^ 7 ∧ ((x.mode.toNat % 4096 : Nat) : Int) = x.mode := by
  have h1 := h.may.m0
  have h2 := h.may.m1
  have : (8 : Nat) ^ 7 = 2097152 := by decide
  omega
theorem kind_cases {x : Ent} (h : MayP x) : x.kind = 1 ∨ x.kind = 2 ∨ x.kind = 3 ∨ x.kind = 4 := by
  have := h.k1; have := h.k4; omega
theorem getD_long (s : Bs) : (ifLong s).getD (s.take 100) = s := by
  unfold ifLong
  split
  · rfl
  · exact List.take_of_length_le (by omega)
theorem more_none {x : Ent} (h : moreE x = []) : ifLong x.name = none ∧ ifLong x.to = none := by
  unfold moreE longR at h
  unfold ifLong
  rw [List.append_eq_nil_iff] at h
  constructor
  · split
    · rename_i h1; rw [if_pos h1] at h; exact absurd h.1 (by unfold recW dec3; simp)
    · rfl
  · split
    · rename_i h1; rw [if_pos h1] at h; exact absurd h.2 (by unfold recW dec3; simp)
    · rfl
theorem addR_may {x : Ent} (h : MayP x) (r : Bs) {out : List Ent} (ho : out.length < 200) : addR x r out = .inr (r, none, out ++ [x]) := by
  unfold addR
  rw [if_neg (fun e => e h.name), if_neg (fun e => e.2 (h.link e.1)), if_neg (by omega)]
/-- An entry's own part is read. -/
theorem own_step {x : Ent} (h : EntP x) (r : Bs) (wt : Option Recs) {out : List Ent} (ho : out.length < 200) (h1 : (wPath wt).getD (x.name.take 100) = x.name) (h2 : (wLink wt).getD (x.to.take 100) = x.to) (h3 : wSize wt = none) :
    stepR ⟨x.name.take 100, x.to.take 100, x.mode.toNat, x.data.length, typeL x.kind⟩ (fullT x.data ++ r) wt out = .inr (r, none, out ++ [x]) := by
  obtain ⟨kind, name, to, mode, data⟩ := x
  have hm := h.mode8.2
  have hdata := h.may.data
  have hnone := h.may.none
  have hadd := addR_may h.may r ho
  simp only at h1 h2 hm hdata hnone hadd ⊢
  have kc := kind_cases h.may
  simp only at kc
  unfold stepR sizeOr
  rw [h3]
  rcases kc with rfl | rfl | rfl | rfl
  · have e : typeL 1 = 48 := rfl
    have e2 : to = [] := hnone rfl
    subst e2
    simp only [e, show ¬ ((48 : UInt8) = 49 ∨ (48 : UInt8) = 50 ∨ (48 : UInt8) = 53) by decide, if_false, or_true, if_true, takeR_full, h1, hm, hadd]
  · have e : typeL 2 = 53 := rfl
    have e2 : to = [] := hnone rfl
    have e3 : data = [] := hdata.resolve_right (by decide)
    have e4 : kindL 53 = 2 := by decide
    subst e2
    subst e3
    have ef : fullT ([] : Bs) = [] := rfl
    simp only [e, e4, ef, List.nil_append, or_true, if_true, List.length_nil, ne_eq, not_true, if_false, h1, hm, hadd]
  · have e : typeL 3 = 49 := rfl
    have e3 : data = [] := hdata.resolve_right (by decide)
    have e4 : kindL 49 = 3 := by decide
    subst e3
    have ef : fullT ([] : Bs) = [] := rfl
    simp only [e, e4, ef, List.nil_append, true_or, if_true, List.length_nil, ne_eq, not_true, if_false, h1, hm, show ¬ (49 : UInt8) = 53 by decide, h2, hadd]
  · have e : typeL 4 = 50 := rfl
    have e3 : data = [] := hdata.resolve_right (by decide)
    have e4 : kindL 50 = 4 := by decide
    subst e3
    have ef : fullT ([] : Bs) = [] := rfl
    simp only [e, e4, ef, List.nil_append, true_or, or_true, if_true, List.length_nil, ne_eq, not_true, if_false, h1, hm, show ¬ (50 : UInt8) = 53 by decide, h2, hadd]
theorem more_len {x : Ent} (h : EntP x) : (moreE x).length ≤ 430 := by
  have h1 := (textE_ok h.may.name).1
  have h2 := h.to0.2
  have l1 := lineL_len kPath x.name
  have l2 := lineL_len kLink x.to
  have k1 : kPath.length = 4 := rfl
  have k2 : kLink.length = 8 := rfl
  have d3 : ∀ n, (dec3 n).length = 3 := fun _ => rfl
  unfold moreE longR recW
  split <;> split <;> simp only [List.length_append, d3, List.length_nil] <;> omega
theorem more_step {x : Ent} (h : EntP x) (r : Bs) (out : List Ent) : stepR ⟨kPax, [], 0, (moreE x).length, 120⟩ (fullT (moreE x) ++ r) none out = .inr (r, some ⟨ifLong x.name, ifLong x.to, none⟩, out) := by
  have hr := recsR_more (x := x) (textE_ok h.may.name).1 h.to0.2
  unfold stepR
  simp only [show ¬ ((120 : UInt8) = 49 ∨ (120 : UInt8) = 50 ∨ (120 : UInt8) = 53) by decide, if_false, show ¬ ((120 : UInt8) = 0 ∨ (120 : UInt8) = 48) by decide, if_true, takeR_full, hr, Option.isSome_none, Bool.false_eq_true]
theorem pax_head (m : Bs) (hm : m.length ≤ 430) (r : Bs) (wt : Option Recs) (out : List Ent) : readR (headW kPax [] 0 m.length 120 ++ r) wt out = match stepR ⟨kPax, [], 0, m.length, 120⟩ r wt out with
        | .inl e => (e, [])
        | .inr (r', wt', out') => readR r' wt' out' :=
  readR_part (name := kPax) (to := []) (mode := 0) (data := m) 120 r wt out (by decide) (by simp) (by decide) (by have := pow11; omega)
theorem read_ent {x : Ent} (h : EntP x) (r : Bs) {out : List Ent} (ho : out.length < 200) : readR (encE x ++ r) none out = readR r none (out ++ [x]) := by
  have hn := textE_not0 h.may.name
  have ht := h.to0.1
  have hm := h.mode8.1
  unfold encE
  split
  · rename_i h0
    obtain ⟨m1, m2⟩ := more_none h0
    have g1 : x.name.take 100 = x.name := by have := getD_long x.name; rw [m1] at this; exact this
    have g2 : x.to.take 100 = x.to := by have := getD_long x.to; rw [m2] at this; exact this
    unfold partW
    rw [List.nil_append, List.append_assoc, readR_part (typeL x.kind) _ none out hn ht hm h.data, own_step h r none ho g1 g2 rfl]
  · unfold partW
    rw [List.append_assoc, List.append_assoc, pax_head _ (more_len h)]
    rw [more_step h]
    simp only
    rw [List.append_assoc, readR_part (typeL x.kind) _ _ out hn ht hm h.data, own_step h r (some ⟨ifLong x.name, ifLong x.to, none⟩) ho (getD_long x.name) (getD_long x.to) rfl]
theorem read_all : ∀ (l : List Ent) (r : Bs) (out : List Ent), (∀ x ∈ l, EntP x) → out.length + l.length ≤ 200 → readR (encL l ++ r) none out = readR r none (out ++ l)
  | [], r, out, _, _ => by rw [encL_nil, List.nil_append, List.append_nil]
  | x :: l, r, out, h, ho => by
    rw [List.length_cons] at ho
    rw [encL_cons, List.append_assoc, read_ent (h x (by simp)) _ (by omega), read_all l r (out ++ [x]) (fun y hy => h y (by simp [hy])) (by rw [List.length_append, List.length_singleton]; omega), List.append_assoc]
    rfl
theorem ent_cut {x : Ent} (h : EntP x) (out : List Ent) (k : Nat) (hk : k < (encE x).length) : readR ((encE x).take k) none out = (10, []) := by
  have hn := textE_not0 h.may.name
  have ht := h.to0.1
  have hm := h.mode8.1
  have hkind : typeL x.kind = 48 ∨ typeL x.kind = 120 ∨ x.data = [] := by
    rcases h.may.data with e | e
    · exact .inr (.inr e)
    · rw [e]; exact .inl rfl
  unfold encE at hk ⊢
  split
  · rename_i h0
    rw [if_pos h0, List.nil_append] at hk
    rw [List.nil_append]
    exact part_cut none out hn ht hm h.data hkind rfl k hk
  · rename_i h0
    rw [if_neg h0, List.length_append] at hk
    by_cases h1 : k < (partW kPax [] 0 120 (moreE x)).length
    · rw [List.take_append_of_le_length (by omega)]
      exact part_cut none out (by decide) (by simp) (by decide) (by have := more_len h; have := pow11; omega) (.inr (.inl rfl)) rfl k h1
    · rw [take_app_ge (by omega)]
      have e : ∀ q : Bs, readR (partW kPax [] 0 120 (moreE x) ++ q) none out = readR q (some ⟨ifLong x.name, ifLong x.to, none⟩) out := fun q => by
        unfold partW
        rw [List.append_assoc, pax_head _ (more_len h), more_step h]
      rw [e]
      exact part_cut _ out hn ht hm h.data hkind rfl _ (by omega)
/-- What is cut off is none. -/
theorem read_cut : ∀ (l : List Ent) (out : List Ent) (k : Nat), (∀ x ∈ l, EntP x) → out.length + l.length ≤ 200 → k < (encL l).length + 512 → readR ((encL l ++ zerosL 1024).take k) none out = (10, [])
  | [], out, k, _, _, hk => readR_short _ _ (by rw [encL_nil, List.length_nil] at hk; rw [List.length_take]; omega)
  | x :: l, out, k, h, ho, hk => by
    rw [List.length_cons] at ho
    rw [encL_cons, List.append_assoc]
    rw [encL_cons, List.length_append] at hk
    by_cases h1 : k < (encE x).length
    · rw [List.take_append_of_le_length (by omega)]
      exact ent_cut (h x (by simp)) out k h1
    · rw [take_app_ge (by omega), read_ent (h x (by simp)) _ (by omega)]
      exact read_cut l (out ++ [x]) _ (fun y hy => h y (by simp [hy])) (by rw [List.length_append, List.length_singleton]; omega) (by omega)
/-! ### A byte of a head is another one -/
theorem sumL_set (l : Bs) (i : Nat) (y : UInt8) (h : i < l.length) : sumL (l.set i y) + (l.getD i 0).toNat = sumL l + y.toNat := by
  have e := List.take_append_drop i l
  rw [List.drop_eq_getElem_cons h] at e
  have hs : l.set i y = l.take i ++ y :: l.drop (i + 1) := by rw [List.set_eq_take_append_cons_drop, if_pos h]
  rw [hs]
  conv => rhs; rw [← e]
  have c1 : ∀ (x : UInt8) (r : Bs), sumL (x :: r) = x.toNat + sumL r := fun x r => by simp [sumL]
  rw [sumL_app, sumL_app, c1, c1, List.getD_eq_getElem?_getD, List.getElem?_eq_getElem h, Option.getD_some]
  omega
theorem flip_ne {x b : UInt8} (hb : b ≠ 0) : x ^^^ b ≠ x := by
  intro h
  apply hb
  have : x ^^^ (x ^^^ b) = x ^^^ x := by rw [h]
  rwa [← UInt8.xor_assoc, UInt8.xor_self, UInt8.zero_xor] at this
theorem sl_set_out (h : Bs) (k a b : Nat) (y : UInt8) (hk : k < a ∨ b ≤ k) : sl (h.set k y) a b = sl h a b := by
  unfold sl
  rcases hk with hk | hk
  · rw [List.take_set, List.drop_set_of_lt hk]
  · rw [List.take_set_of_le hk]
theorem take_set_out (h : Bs) (k b : Nat) (y : UInt8) (hk : b ≤ k) : (h.set k y).take b = h.take b := List.take_set_of_le hk
theorem sumH_set_out {h : Bs} {k : Nat} {y : UInt8} (hl : h.length = 512) (hk : k < 512) (ho : k < 148 ∨ 156 ≤ k) (hy : y ≠ h.getD k 0) : sumH (h.set k y) ≠ sumH h := by
  unfold sumH
  have hy2 : y.toNat ≠ (h.getD k 0).toNat := fun e => hy (UInt8.toNat_inj.1 e)
  rcases ho with ho | ho
  · have h1 : (h.set k y).drop 156 = h.drop 156 := List.drop_set_of_lt (by omega)
    have h2 : (h.set k y).take 148 = (h.take 148).set k y := List.take_set ..
    have h3 := sumL_set (h.take 148) k y (by rw [List.length_take]; omega)
    have h4 : (h.take 148).getD k 0 = h.getD k 0 := by
      rw [List.getD_eq_getElem?_getD, List.getElem?_take, if_pos ho, List.getD_eq_getElem?_getD]
    rw [h4] at h3
    rw [h1, h2]
    omega
  · have h1 : (h.set k y).take 148 = h.take 148 := List.take_set_of_le (by omega)
    have h2 : (h.set k y).drop 156 = (h.drop 156).set (k - 156) y := by rw [List.drop_set, if_neg (by omega)]
    have h3 := sumL_set (h.drop 156) (k - 156) y (by rw [List.length_drop]; omega)
    have h4 : (h.drop 156).getD (k - 156) 0 = h.getD k 0 := by
      rw [List.getD_eq_getElem?_getD, List.getElem?_drop, List.getD_eq_getElem?_getD, show 156 + (k - 156) = k by omega]
    rw [h4] at h3
    rw [h1, h2]
    omega
theorem sumH_set_in {h : Bs} {k : Nat} {y : UInt8} (h1 : 148 ≤ k) (h2 : k < 156) : sumH (h.set k y) = sumH h := by
  unfold sumH
  rw [List.take_set_of_le h1, List.drop_set_of_lt h2]
theorem headR_out {h : Bs} {hd : Hd} {k : Nat} {y : UInt8} (hh : headR h = some hd) (hl : h.length = 512) (hk : k < 512) (ho : k < 148 ∨ 156 ≤ k) (hy : y ≠ h.getD k 0) : headR (h.set k y) = none := by
  unfold headR at hh ⊢
  split at hh
  · rename_i hc
    rw [if_neg]
    rintro ⟨h1, _⟩
    rw [sl_set_out h k 148 156 y ho, hc.1] at h1
    exact sumH_set_out hl hk ho hy (Option.some.inj h1).symm
  · cases hh
theorem getD_set_ne (h : Bs) {k i : Nat} (y : UInt8) (hne : k ≠ i) : (h.set k y).getD i 0 = h.getD i 0 := by
  rw [List.getD_eq_getElem?_getD, List.getElem?_set_ne hne, List.getD_eq_getElem?_getD]
theorem headR_in {h : Bs} {hd : Hd} (hh : headR h = some hd) {k : Nat} {y : UInt8} (h1 : 148 ≤ k) (h2 : k < 156) : headR (h.set k y) = none ∨ headR (h.set k y) = some hd := by
  have e1 : sl (h.set k y) 257 265 = sl h 257 265 := sl_set_out _ _ _ _ _ (.inl (by omega))
  have e2 : sl (h.set k y) 100 108 = sl h 100 108 := sl_set_out _ _ _ _ _ (.inr (by omega))
  have e3 : sl (h.set k y) 124 136 = sl h 124 136 := sl_set_out _ _ _ _ _ (.inr (by omega))
  have e4 : sl (h.set k y) 345 500 = sl h 345 500 := sl_set_out _ _ _ _ _ (.inl (by omega))
  have e5 : sl (h.set k y) 0 100 = sl h 0 100 := sl_set_out _ _ _ _ _ (.inr (by omega))
  have e6 : sl (h.set k y) 157 257 = sl h 157 257 := sl_set_out _ _ _ _ _ (.inl (by omega))
  by_cases hd : numF (sl (h.set k y) 148 156) = some (sumH (h.set k y)) ∧ sl (h.set k y) 257 265 = magicL
  · right
    rw [← hh]
    unfold headR nameR at hh ⊢
    split at hh
    · rename_i hc
      rw [if_pos hc, if_pos hd, e2, e3, e4, e5, e6, getD_set_ne h y (by omega)]
    · cases hh
  · left
    unfold headR
    rw [if_neg hd]
theorem flip_notZ (name to : Bs) (mode size : Nat) (kind : UInt8) (k : Nat) (y : UInt8) : allZ ((headW name to mode size kind).set k y) = false := by
  rw [Bool.eq_false_iff]
  intro hz
  rw [allZ_iff] at hz
  have hm := headW_magic name to mode size kind
  have at_ : ∀ j, j < 8 → (headW name to mode size kind)[257 + j]? = magicL[j]? := fun j hj => by
    rw [← hm]
    unfold sl
    rw [List.getElem?_drop, List.getElem?_take, if_pos (by omega)]
  have a0 := at_ 0 (by omega)
  have a1 := at_ 1 (by omega)
  by_cases hk : k = 257
  · have : ((headW name to mode size kind).set k y)[258]? = some 115 := by rw [List.getElem?_set_ne (by omega)]; exact a1
    exact absurd (hz _ (List.mem_of_getElem? this)) (by decide)
  · have : ((headW name to mode size kind).set k y)[257]? = some 117 := by rw [List.getElem?_set_ne (by omega)]; exact a0
    exact absurd (hz _ (List.mem_of_getElem? this)) (by decide)
/-- An entry that is its head alone. -/
structure BareP (x : Ent) : Prop where
  ent : EntP x
  data : x.data = []
  name : x.name.length ≤ 100
  to : x.to.length ≤ 100
theorem BareP.enc {x : Ent} (h : BareP x) : encE x = headW x.name x.to x.mode.toNat 0 (typeL x.kind) := by
  have m : moreE x = [] := by
    unfold moreE longR
    rw [if_neg (by have := h.name; omega), if_neg (by have := h.to; omega)]
    rfl
  unfold encE partW
  rw [if_pos m, h.data]
  have ef : fullT ([] : Bs) = [] := rfl
  rw [ef, List.append_nil, List.nil_append]
  rfl
theorem BareP.len {x : Ent} (h : BareP x) : (encE x).length = 512 := by rw [h.enc, headW_len]
theorem bare_len : ∀ l : List Ent, (∀ x ∈ l, BareP x) → (encL l).length = 512 * l.length
  | [], _ => rfl
  | x :: l, h => by
    rw [encL_cons, List.length_append, (h x (by simp)).len, bare_len l (fun y hy => h y (by simp [hy])), List.length_cons]
    omega
def inSum (k : Nat) : Bool := decide (148 ≤ k) && decide (k < 156)
/-- Of heads a byte is another one. -/
theorem read_flip : ∀ (l : List Ent) (out : List Ent) (k : Nat) (b : UInt8), (∀ x ∈ l, BareP x) → out.length + l.length ≤ 200 → k < 512 * l.length → b ≠ 0 →
    (readR ((encL l ++ zerosL 1024).set k ((encL l ++ zerosL 1024).getD k 0 ^^^ b)) none out).1 = 10 ∨ (inSum (k % 512) = true ∧ (readR ((encL l ++ zerosL 1024).set k ((encL l ++ zerosL 1024).getD k 0 ^^^ b)) none out).1 = 0)
  | [], _, k, _, _, _, hk, _ => by rw [List.length_nil] at hk; omega
  | x :: l, out, k, b, h, ho, hk, hb => by
    rw [List.length_cons] at ho hk
    have hx := h x (by simp)
    have hl := hx.len
    rw [encL_cons, List.append_assoc]
    generalize hT : encL l ++ zerosL 1024 = T
    by_cases h1 : k < 512
    · have hg : (encE x ++ T).getD k 0 = (encE x).getD k 0 := by
        rw [List.getD_eq_getElem?_getD, List.getElem?_append_left (by omega), List.getD_eq_getElem?_getD]
      rw [hg, List.set_append_left _ _ (by omega), hx.enc]
      have hd8 : (0 : Nat) < 8 ^ 11 := by decide
      have hr := headR_headW x.name x.to x.mode.toNat 0 (typeL x.kind) (textE_not0 hx.ent.may.name) hx.ent.to0.1 hx.ent.mode8.1 hd8
      rw [readR_step none out (by rw [List.length_set, headW_len]) (flip_notZ ..)]
      by_cases hs : k < 148 ∨ 156 ≤ k
      · rw [headR_out hr (headW_len ..) h1 hs (flip_ne hb)]
        exact .inl rfl
      · rcases headR_in hr (k := k) (y := (headW x.name x.to x.mode.toNat 0 (typeL x.kind)).getD k 0 ^^^ b) (by omega) (by omega) with e | e
        · rw [e]
          exact .inl rfl
        · right
          rw [e]
          refine ⟨?_, ?_⟩
          · unfold inSum
            rw [Nat.mod_eq_of_lt h1, Bool.and_eq_true, decide_eq_true_eq, decide_eq_true_eq]
            omega
          · have os := own_step hx.ent T none (out := out) (by omega) (by rw [List.take_of_length_le hx.name]; rfl) (by rw [List.take_of_length_le hx.to]; rfl) rfl
            rw [hx.data] at os
            have ef : fullT ([] : Bs) = [] := rfl
            rw [ef, List.nil_append] at os
            have os' : stepR ⟨x.name.take 100, x.to.take 100, x.mode.toNat, 0, typeL x.kind⟩ T none out = .inr (T, none, out ++ [x]) := os
            simp only [os']
            rw [← hT, read_all l _ _ (fun y hy => (h y (by simp [hy])).ent) (by rw [List.length_append, List.length_singleton]; omega), readR_end _ _ (Nat.le_refl _)]
    · have hg : (encE x ++ T).getD k 0 = T.getD (k - 512) 0 := by
        rw [List.getD_eq_getElem?_getD, List.getElem?_append_right (by omega), List.getD_eq_getElem?_getD, hl]
      rw [hg, List.set_append_right _ _ (by omega), hl, read_ent hx.ent _ (by omega), ← hT]
      have := read_flip l (out ++ [x]) (k - 512) b (fun y hy => h y (by simp [hy])) (by rw [List.length_append, List.length_singleton]; omega) (by omega) hb
      rwa [show (k - 512) % 512 = k % 512 by omega] at this
/-! ### What is written, by its length -/
theorem encE_len (x : Ent) : (encE x).length % 512 = 0 := by
  unfold encE
  split <;> simp only [List.length_append, partW_len, List.length_nil] <;> omega
theorem encL_len : ∀ l : List Ent, (encL l).length % 512 = 0
  | [] => rfl
  | x :: l => by
    have := encE_len x
    have := encL_len l
    rw [encL_cons, List.length_append]
    omega
theorem encE_most {x : Ent} (h : MayP x) (hd : x.data.length ≤ 1500) : (encE x).length ≤ 3072 := by
  have h1 := (textE_ok h.name).1
  have h2 := EntP.to0 (x := x) ⟨h, by have := pow11; omega⟩
  have h3 := more_len (x := x) ⟨h, by have := pow11; omega⟩
  unfold encE
  split <;> simp only [List.length_append, partW_len, List.length_nil, blocksN] <;> omega
theorem encL_most : ∀ l : List Ent, (∀ x ∈ l, MayP x ∧ x.data.length ≤ 1500) → (encL l).length ≤ 3072 * l.length
  | [], _ => Nat.le_refl _
  | x :: l, h => by
    have h1 := encE_most (h x (by simp)).1 (h x (by simp)).2
    have h2 := encL_most l (fun y hy => h y (by simp [hy]))
    rw [encL_cons, List.length_append, List.length_cons]
    omega
end Go.Proofs.YtmgpofdmoaafoaaGreatDoor
