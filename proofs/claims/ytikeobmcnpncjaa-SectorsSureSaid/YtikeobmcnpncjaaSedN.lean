/- Layer 6: SectorsSure: what each sector has, by the bytes that are kept beside it. -/
import Derived.Test.YtikeobmcnpncjaaSedJ
namespace Go.Proofs.Ytikeobmcnpncjaa
open Go.RowKit

theorem lookN_append (l : List (Nat × ByteArray)) (p : Nat × ByteArray) (n : Nat) (s : ByteArray) : ∀ k, k ≤ l.length → lookN (l ++ [p]) n s k = lookN l n s k := by
  intro k
  induction k with
  | zero => intro _; rfl
  | succ k ih =>
    intro hk
    have e : (l ++ [p]).getD k (0, ByteArray.empty) = l.getD k (0, ByteArray.empty) := by
      rw [List.getD_eq_getElem?_getD, List.getD_eq_getElem?_getD, List.getElem?_append_left (by omega)]
    rw [lookN, lookN, e, ih (by omega)]
theorem lookN_snoc (l : List (Nat × ByteArray)) (p : Nat × ByteArray) (n : Nat) (s : ByteArray) : lookN (l ++ [p]) n s (l ++ [p]).length = if p.1 = n then p.2 else lookN l n s l.length := by
  rw [List.length_append, List.length_singleton, lookN]
  have e : (l ++ [p]).getD l.length (0, ByteArray.empty) = p := by
    rw [List.getD_eq_getElem?_getD, List.getElem?_append_right (Nat.le_refl _), Nat.sub_self]; rfl
  rw [e, lookN_append l p n s l.length (Nat.le_refl _)]
theorem getD_set (l : List ByteArray) (i n : Nat) (x : ByteArray) (hi : i < l.length) : (l.set i x).getD n ByteArray.empty = if i = n then x else l.getD n ByteArray.empty := by
  rw [List.getD_eq_getElem?_getD, List.getD_eq_getElem?_getD]
  by_cases h : i = n
  · subst h
    rw [if_pos rfl, List.getElem?_set_self hi]; rfl
  · rw [if_neg h, List.getElem?_set_ne h]
theorem flushN_get (sure : List ByteArray) (l : List (Nat × ByteArray)) (hl : ∀ p ∈ l, p.1 < sure.length) (n : Nat) : ∀ k, k ≤ l.length → (flushN sure l k).getD n ByteArray.empty = lookN l n (sure.getD n ByteArray.empty) k := by
  intro k
  induction k with
  | zero => intro _; rfl
  | succ k ih =>
    intro hk
    have hp : (l.getD k (0, ByteArray.empty)).1 < sure.length := by
      refine hl _ ?_
      rw [List.getD_eq_getElem?_getD, List.getElem?_eq_getElem (by omega)]
      exact List.getElem_mem _
    rw [flushN, lookN, getD_set _ _ _ _ (by rw [flushN_length]; exact hp), ih (by omega)]
/-- A disk, and the bytes kept beside it: what is sure, what is last, and which writes are loose. -/
structure SureD (d : RD) (S L : List UInt8) (X : List Bool) (k : Nat) : Prop where
  ok : d.ok
  n : d.sure.length = 8
  up : d.down = false
  left : d.left = -1
  loose : d.loose.length ≤ k
  starts : d.starts ≤ k
  lS : S.length = 8
  lL : L.length = 8
  lX : X.length = 488
  sure : ∀ n, n < 8 → d.sure.getD n ByteArray.empty = secB (S.getD n 0)
  last : ∀ n, n < 8 → lookN d.loose n (d.sure.getD n ByteArray.empty) d.loose.length = secB (L.getD n 0)
  all : ∀ p ∈ d.loose, ∃ c : UInt8, p.2 = secB c ∧ c.toNat ≤ 60 ∧ X.getD (p.1 * 61 + c.toNat) false = true
def zero8 : List UInt8 := List.replicate 8 0
def none488 : List Bool := List.replicate 488 false
theorem none488_length : none488.length = 488 := by unfold none488; rw [List.length_replicate]
theorem zero8_get (n : Nat) : zero8.getD n 0 = 0 := by
  unfold zero8
  rw [List.getD_eq_getElem?_getD, List.getElem?_replicate]
  split <;> rfl
theorem sure_new : SureD (rdNew 8) zero8 zero8 none488 0 := by
  have key : ∀ n, n < 8 → (rdNew 8).sure.getD n ByteArray.empty = secB (zero8.getD n 0) := fun n hn => by
    rw [zero8_get, List.getD_eq_getElem?_getD]
    show (List.replicate 8 (secB 0))[n]?.getD _ = _
    rw [List.getElem?_replicate, if_pos hn]; rfl
  exact ⟨rdNew_ok (by decide) (by decide), by simp [rdNew], rfl, rfl, by simp [rdNew], by simp [rdNew], by simp [zero8], by simp [zero8], none488_length, key, key, fun p hp => by simp [rdNew] at hp⟩
theorem SureD.few {d : RD} {S L : List UInt8} {X : List Bool} {k : Nat} (h : SureD d S L X k) (hk : k ≤ 1000) : d.few := ⟨Nat.le_trans h.loose (by omega), Nat.le_trans h.starts (by omega)⟩
theorem getD8_set (l : List UInt8) (i n : Nat) (x : UInt8) (hi : i < l.length) : (l.set i x).getD n 0 = if i = n then x else l.getD n 0 := by
  rw [List.getD_eq_getElem?_getD, List.getD_eq_getElem?_getD]
  by_cases h : i = n
  · subst h
    rw [if_pos rfl, List.getElem?_set_self hi]; rfl
  · rw [if_neg h, List.getElem?_set_ne h]
theorem getDB_set (l : List Bool) (i n : Nat) (h : l.getD n false = true ∨ (i = n ∧ i < l.length)) : (l.set i true).getD n false = true := by
  rw [List.getD_eq_getElem?_getD] at h ⊢
  by_cases e : i = n
  · subst e
    by_cases hi : i < l.length
    · rw [List.getElem?_set_self hi]; rfl
    · rcases h with h | h
      · rw [List.getElem?_eq_none (by omega)] at h; cases h
      · exact absurd h.2 hi
  · rw [List.getElem?_set_ne e]
    rcases h with h | h
    · exact h
    · exact absurd h.1 e
theorem SureD.write {d : RD} {S L : List UInt8} {X : List Bool} {K : Nat} (h : SureD d S L X K) {k : Nat} (hk : k < 60) {n : Nat} (hn : n < 8) :
    SureD (d.wrote n (secB (UInt8.ofNat (k + 1)))) S (L.set n (UInt8.ofNat (k + 1))) (X.set (n * 61 + (k + 1)) true) (K + 1) := by
  have hc : (UInt8.ofNat (k + 1)).toNat = k + 1 := UInt8.toNat_ofNat_of_lt' (show _ < 256 by omega)
  refine ⟨⟨h.ok.lo, h.ok.hi, fun p hp => ?_, h.ok.left⟩, h.n, h.up, h.left, by simp [RD.wrote]; exact h.loose, Nat.le_succ_of_le h.starts, h.lS, by rw [List.length_set]; exact h.lL, by rw [List.length_set]; exact h.lX, h.sure, fun m hm => ?_, fun p hp => ?_⟩
  · simp only [RD.wrote, List.mem_append, List.mem_singleton] at hp
    rcases hp with hp | rfl
    · exact h.ok.within p hp
    · show n < d.sure.length
      rw [h.n]; exact hn
  · show lookN (d.loose ++ [(n, secB (UInt8.ofNat (k + 1)))]) m (d.sure.getD m ByteArray.empty) (d.loose ++ [(n, secB (UInt8.ofNat (k + 1)))]).length = _
    rw [lookN_snoc, getD8_set _ _ _ _ (by rw [h.lL]; exact hn)]
    by_cases e : n = m
    · rw [if_pos e, if_pos e]
    · rw [if_neg e, if_neg e]
      exact h.last m hm
  · simp only [RD.wrote, List.mem_append, List.mem_singleton] at hp
    rcases hp with hp | rfl
    · obtain ⟨c, h1, h2, h3⟩ := h.all p hp
      exact ⟨c, h1, h2, getDB_set _ _ _ (.inl h3)⟩
    · exact ⟨_, rfl, by rw [hc]; omega, getDB_set _ _ _ (.inr ⟨by rw [hc], by rw [h.lX]; omega⟩)⟩
theorem SureD.flush {d : RD} {S L : List UInt8} {X : List Bool} {k : Nat} (h : SureD d S L X k) : SureD d.flushed L L none488 k := by
  have key : ∀ n, n < 8 → d.flushed.sure.getD n ByteArray.empty = secB (L.getD n 0) := fun n hn => by
    show (flushN d.sure d.loose d.loose.length).getD n ByteArray.empty = _
    rw [flushN_get _ _ (fun p hp => h.ok.within p hp) n _ (Nat.le_refl _)]
    exact h.last n hn
  exact ⟨⟨by simp only [RD.flushed, flushN_length]; exact h.ok.lo, by simp only [RD.flushed, flushN_length]; exact h.ok.hi, fun p hp => by simp [RD.flushed] at hp, h.ok.left⟩, by simp only [RD.flushed, flushN_length]; exact h.n, h.up, h.left, by simp [RD.flushed], h.starts, h.lL, h.lL, none488_length, key, key, fun p hp => by simp [RD.flushed] at hp⟩
/-- What each sector has behind a crash. -/
theorem settle_get {d : RD} {S L : List UInt8} {X : List Bool} {k0 : Nat} (h : SureD d S L X k0) (ks : List Bool) {n : Nat} (hn : n < 8) : ∀ k, k ≤ d.loose.length → ∃ c : UInt8, (settleN d.sure d.loose ks k).getD n ByteArray.empty = secB c ∧ (c = S.getD n 0 ∨ (c.toNat ≤ 60 ∧ X.getD (n * 61 + c.toNat) false = true)) := by
  intro k
  induction k with
  | zero => intro _; exact ⟨S.getD n 0, h.sure n hn, .inl rfl⟩
  | succ k ih =>
    intro hk
    obtain ⟨c, h1, h2⟩ := ih (by omega)
    rw [settleN]
    split
    · have hm : d.loose.getD k (0, ByteArray.empty) ∈ d.loose := by
        rw [List.getD_eq_getElem?_getD, List.getElem?_eq_getElem (by omega)]
        exact List.getElem_mem _
      rw [getD_set _ _ _ _ (by rw [settleN_length]; exact h.ok.within _ hm)]
      by_cases e : (d.loose.getD k (0, ByteArray.empty)).1 = n
      · rw [if_pos e]
        obtain ⟨c', g1, g2, g3⟩ := h.all _ hm
        rw [e] at g3
        exact ⟨c', g1, .inr ⟨g2, g3⟩⟩
      · rw [if_neg e]
        exact ⟨c, h1, h2⟩
    · exact ⟨c, h1, h2⟩
theorem SureD.crash {d : RD} {S L : List UInt8} {X : List Bool} {k : Nat} (h : SureD d S L X k) (ks : List Bool) :
    ∃ C : List UInt8, C.length = 8 ∧ (∀ n, n < 8 → C.getD n 0 = S.getD n 0 ∨ ((C.getD n 0).toNat ≤ 60 ∧ X.getD (n * 61 + (C.getD n 0).toNat) false = true)) ∧ SureD (d.fall ks).again C C none488 (k + 1) := by
  have key : ∀ n, ∃ c : UInt8, n < 8 → (d.fall ks).sure.getD n ByteArray.empty = secB c ∧ (c = S.getD n 0 ∨ (c.toNat ≤ 60 ∧ X.getD (n * 61 + c.toNat) false = true)) := fun n => by
    by_cases hn : n < 8
    · obtain ⟨c, hc⟩ := settle_get h ks hn (min d.loose.length ks.length) (by omega)
      exact ⟨c, fun _ => hc⟩
    · exact ⟨0, fun hh => absurd hh hn⟩
  obtain ⟨f, hf⟩ := Classical.skolem.1 key
  have hg : ∀ n, n < 8 → ((List.range 8).map f).getD n 0 = f n := fun n hn => by
    rw [List.getD_eq_getElem?_getD, List.getElem?_map, List.getElem?_range hn]; rfl
  have hsure : ∀ n, n < 8 → (d.fall ks).again.sure.getD n ByteArray.empty = secB (((List.range 8).map f).getD n 0) := fun n hn => by
    rw [hg n hn]; exact (hf n hn).1
  have hk := h.ok.fall ks
  refine ⟨(List.range 8).map f, by simp, fun n hn => by rw [hg n hn]; exact (hf n hn).2, ⟨⟨hk.lo, hk.hi, hk.within, hk.left⟩, by show (settleN _ _ _ _).length = 8; rw [settleN_length]; exact h.n, rfl, rfl, by simp [RD.again, RD.fall], by show d.starts + 1 ≤ k + 1; have := h.starts; omega, by simp, by simp, none488_length, hsure, hsure, fun p hp => by simp [RD.again, RD.fall] at hp⟩⟩
theorem SureD.read {d : RD} {S L : List UInt8} {X : List Bool} {k : Nat} (h : SureD d S L X k) {n : Nat} (hn : n < 8) : d.read (n : Int) = (secB (L.getD n 0), 0) := by
  unfold RD.read
  rw [h.up, if_neg (by decide), if_neg (by rw [h.n]; omega), Int.toNat_natCast, h.last n hn]
theorem SureD.writes {d : RD} {S L : List UInt8} {X : List Bool} {k : Nat} (h : SureD d S L X k) {n : Nat} (hn : n < 8) {s : ByteArray} (hs : s.size = 512) : d.write (n : Int) s = (d.wrote n s, 0) := by
  have hl := h.left
  unfold RD.write RD.fails RD.less RD.wrote
  rw [h.up, if_neg (by decide), if_neg (by rw [h.n]; omega), Int.toNat_natCast, if_neg (show ¬ 0 < d.left by omega), decide_eq_false (show ¬ d.left = 0 by omega)]
  rfl
theorem SureD.flushes {d : RD} {S L : List UInt8} {X : List Bool} {k : Nat} (h : SureD d S L X k) : d.flush = (d.flushed, 0) := by
  have hl := h.left
  unfold RD.flush RD.fails RD.less RD.flushed
  rw [h.up, if_neg (by decide), if_neg (show ¬ 0 < d.left by omega), decide_eq_false (show ¬ d.left = 0 by omega)]
  rfl
theorem SureD.crashes {d : RD} {S L : List UInt8} {X : List Bool} {k : Nat} (h : SureD d S L X k) (ks : List Bool) : d.crash ks = (d.fall ks, 0) := by
  unfold RD.crash
  rw [h.up]; rfl
end Go.Proofs.Ytikeobmcnpncjaa
