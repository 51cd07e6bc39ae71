/- Merged: OfN, OcO, OcW. -/
import Derived.Test.YtnkencdibniagaaGreatDoorM43
import Derived.Deep.DeepCutAuto
import Derived.Test.YtnkencdibniagaaGreatDoorM34
import Derived.Lib.ValidLaws
/- Layer 13: OciBack. -/
namespace Go.Proofs.YtnkencdibniagaaGreatDoor
open Go.RowKit
attribute [local go_sem] wide_fn round_fn

theorem len40 {l : List RG} {m : Nat} (h : ofR l m = true) : l.length ≤ m := by
  unfold ofR at h
  rw [Bool.and_eq_true, decide_eq_true_eq] at h
  omega
theorem addr0 (g j : Nat) : (⟨g, 0, none⟩ : Addr).add j = ⟨g, j, none⟩ := by simp [Addr.add]; exact fun h => h.symm
theorem own_range {w : World} {B g n c : Nat} {X : DV} (h : w.ownsRow B 28 36 (.slice (some ⟨g, 0, none⟩) n c) n (flatD [X])) : w.rangeAt g 0 (encL X) := fun j u hj => by
  rw [Nat.zero_add]
  have hf : flatD [X] = encL X := by unfold flatD; rw [List.flatMap_cons, List.flatMap_nil, List.append_nil, encD_list]
  rw [hf] at h
  have := h.cells (g := g) rfl j u hj
  rwa [addr0] at this
theorem info_R3 : (Tryz.prog.info? 46).map (fun i => (i.zero, i.size, i.bytes)) = some (some (.agg (encR zeroRG).toArray), 37, 96) := by kernel_rfl
end Go.Proofs.YtnkencdibniagaaGreatDoor

/- Layer 13, plain: keys in another order, and one more, make no difference. -/
namespace Go.Proofs.YtnkencdibniagaaGreatDoor
open Go.Lib

def annJ : JV := .mk 5 [] [.mk 0 [] [] []] []
/-- A list, turned. -/
def rotL {α : Type} (b : Nat) (l : List α) : List α := l.drop (b % l.length) ++ l.take (b % l.length)
mutual
def turnJ (b : Nat) : JV → JV
  | .mk k t items keys => if k = 6 then .mk 6 t (rotL b (turnL b items) ++ [annJ]) (rotL b keys ++ [kAnn]) else .mk k t (turnL b items) []
def turnL (b : Nat) : List JV → List JV
  | [] => []
  | x :: l => turnJ b x :: turnL b l
end
theorem turnL_map (b : Nat) : ∀ l : List JV, turnL b l = l.map (turnJ b)
  | [] => by rw [turnL]; rfl
  | x :: l => by rw [turnL, turnL_map b l]; rfl
theorem turn_kind (b : Nat) : ∀ v : JV, (turnJ b v).kind = v.kind ∧ (turnJ b v).text = v.text
  | .mk k t items keys => by
    rw [turnJ]
    split
    · rename_i h
      exact ⟨h.symm, rfl⟩
    · exact ⟨rfl, rfl⟩
theorem rot_length {α : Type} (b : Nat) (l : List α) : (rotL b l).length = l.length := by
  unfold rotL
  rw [List.length_append, List.length_drop, List.length_take]
  by_cases h : l.length = 0
  · omega
  · have := Nat.mod_lt b (Nat.pos_of_ne_zero h)
    omega
theorem getL_app : ∀ (a : List Bs) (x : List JV) (b : List Bs) (y : List JV) (key : Bs), a.length = x.length → getL (a ++ b) (x ++ y) key = (getL a x key).or (getL b y key)
  | [], [], b, y, key, _ => by
    show getL b y key = (getL [] [] key).or _
    rw [show getL [] [] key = none by rfl, Option.none_or]
  | k :: a, z :: x, b, y, key, h => by
    show getL (k :: (a ++ b)) (z :: (x ++ y)) key = _
    rw [getL, getL]
    by_cases e : k = key
    · rw [if_pos e, if_pos e]
      rfl
    · rw [if_neg e, if_neg e, getL_app a x b y key (by simpa using h)]
  | [], _ :: _, _, _, _, h => by simp at h
  | _ :: _, [], _, _, _, h => by simp at h
theorem getL_none : ∀ (a : List Bs) (x : List JV) (key : Bs), key ∉ a → getL a x key = none
  | [], _, _, _ => by simp [getL]
  | _ :: _, [], _, _ => by simp [getL]
  | k :: a, z :: x, key, h => by
    rw [getL, if_neg (fun e => h (by simp [e])), getL_none a x key fun hm => h (by simp [hm])]
theorem getL_map (f : JV → JV) : ∀ (a : List Bs) (x : List JV) (key : Bs), getL a (x.map f) key = (getL a x key).map f
  | [], x, _ => by simp [getL]
  | _ :: _, [], _ => by simp [getL]
  | k :: a, z :: x, key => by
    rw [List.map_cons, getL, getL]
    by_cases e : k = key
    · rw [if_pos e, if_pos e]
      rfl
    · rw [if_neg e, if_neg e, getL_map f a x key]
theorem getL_rot (b : Nat) (a : List Bs) (x : List JV) (key : Bs) (hl : a.length = x.length) (hn : a.Nodup) : getL (rotL b a) (rotL b x) key = getL a x key := by
  unfold rotL
  rw [← hl]
  have e1 : getL a x key = (getL (a.take (b % a.length)) (x.take (b % a.length)) key).or (getL (a.drop (b % a.length)) (x.drop (b % a.length)) key) := by
    rw [← getL_app _ _ _ _ _ (by simp [hl]), List.take_append_drop, List.take_append_drop]
  rw [getL_app _ _ _ _ _ (by simp [hl]), e1]
  by_cases h : key ∈ a.take (b % a.length)
  · have h2 : key ∉ a.drop (b % a.length) := by
      intro hd
      rw [← List.take_append_drop (b % a.length) a] at hn
      exact (List.nodup_append.1 hn).2.2 key h key hd rfl
    rw [getL_none _ _ _ h2, Option.none_or, Option.or_none]
  · rw [getL_none _ _ _ h, Option.none_or, Option.or_none]
theorem getV_turn (b : Nat) {v : JV} (hv : may v) {key : Bs} (hk : key ≠ kAnn) : getV (turnJ b v) key = (getV v key).map (turnJ b) := by
  obtain ⟨k, t, items, keys⟩ := v
  unfold getV
  rw [(turn_kind b _).1]
  show (if k = 6 then _ else _) = _
  by_cases h : k = 6
  · subst h
    obtain ⟨_, _, h3, _, h5⟩ := may_obj hv
    rw [if_pos rfl, if_pos (show (JV.mk 6 t items keys).kind = 6 from rfl), turnJ, if_pos rfl]
    show getL (rotL b keys ++ [kAnn]) (rotL b (turnL b items) ++ [annJ]) key = (getL keys items key).map (turnJ b)
    rw [getL_app _ _ _ _ _ (by rw [rot_length, rot_length, turnL_map, List.length_map, h3]), getL_none [kAnn] _ _ (by simpa using hk), Option.or_none, turnL_map, getL_rot b keys _ key (by rw [List.length_map, h3]) h5, getL_map]
  · rw [if_neg h, if_neg (show ¬ (JV.mk k t items keys).kind = 6 from h)]
    rfl
theorem getL_may : ∀ (a : List Bs) (x : List JV) (key : Bs) (v : JV), mayL x → getL a x key = some v → may v
  | [], _, _, _, _, h => by simp [getL] at h
  | _ :: _, [], _, _, _, h => by simp [getL] at h
  | k :: a, z :: x, key, v, hm, h => by
    rw [getL] at h
    by_cases e : k = key
    · rw [if_pos e] at h
      injection h with h
      rw [← h]
      exact mayL_mem hm z (by simp)
    · rw [if_neg e] at h
      exact getL_may a x key v (by rw [mayL] at hm; exact hm.2) h
theorem getV_may {v x : JV} {key : Bs} (hv : may v) (h : getV v key = some x) : may x := by
  unfold getV at h
  split at h
  · obtain ⟨k, t, items, keys⟩ := v
    rename_i hk
    have hk : k = 6 := hk
    subst hk
    exact getL_may keys items key x (may_obj hv).1 h
  · cases h
theorem partV_turn {α : Type} (b : Nat) {v : JV} (hv : may v) {key : Bs} (hk : key ≠ kAnn) (f : JV → Option α) (hf : ∀ x, may x → f (turnJ b x) = f x) : partV (turnJ b v) key f = partV v key f := by
  unfold partV
  rw [getV_turn b hv hk]
  cases h : getV v key with
  | none => rfl
  | some x => exact hf x (getV_may hv h)
theorem anyV_turn {α : Type} (b : Nat) (z : α) {v : JV} (hv : may v) {key : Bs} (hk : key ≠ kAnn) (f : JV → Option α) (hf : ∀ x, may x → f (turnJ b x) = f x) : anyV z (turnJ b v) key f = anyV z v key f := by
  unfold anyV
  rw [getV_turn b hv hk]
  cases h : getV v key with
  | none => rfl
  | some x => exact hf x (getV_may hv h)
theorem textV_turn (b : Nat) (v : JV) : textV (turnJ b v) = textV v := by
  unfold textV
  rw [(turn_kind b v).1, (turn_kind b v).2]
theorem intV_turn (b : Nat) (v : JV) : intV (turnJ b v) = intV v := by
  unfold intV
  rw [(turn_kind b v).1, (turn_kind b v).2]
theorem digV_turn (b : Nat) (v : JV) : digV (turnJ b v) = digV v := by
  unfold digV
  rw [(turn_kind b v).1, (turn_kind b v).2]
theorem sizeV_turn (b : Nat) (v : JV) : sizeV (turnJ b v) = sizeV v := by
  unfold sizeV
  rw [intV_turn]
theorem mediaV_turn (b n : Nat) (v : JV) : mediaV n (turnJ b v) = mediaV n v := by
  unfold mediaV
  rw [textV_turn]
theorem platV_turn (b : Nat) {v : JV} (hv : may v) : platV (turnJ b v) = platV v := by
  unfold platV
  rw [partV_turn b hv (by decide) textV fun x _ => textV_turn b x, partV_turn b hv (by decide) textV fun x _ => textV_turn b x]
theorem descV_turn (b : Nat) {v : JV} (hv : may v) : descV (turnJ b v) = descV v := by
  unfold descV
  rw [partV_turn b hv (by decide) textV fun x _ => textV_turn b x, partV_turn b hv (by decide) digV fun x _ => digV_turn b x, partV_turn b hv (by decide) sizeV fun x _ => sizeV_turn b x, anyV_turn b _ hv (by decide) platV fun x hx => platV_turn b hx]
theorem mapO_turn {α : Type} (b : Nat) (f : JV → Option α) (hf : ∀ x, may x → f (turnJ b x) = f x) : ∀ l : List JV, mayL l → mapO f (l.map (turnJ b)) = mapO f l
  | [], _ => rfl
  | x :: l, h => by
    rw [mayL] at h
    rw [List.map_cons, mapO, mapO, hf x h.1, mapO_turn b f hf l h.2]
theorem listV_turn {α : Type} (b : Nat) (f : JV → Option α) (hf : ∀ x, may x → f (turnJ b x) = f x) {v : JV} (hv : may v) : listV f (turnJ b v) = listV f v := by
  unfold listV
  rw [(turn_kind b v).1]
  by_cases h : v.kind = 5
  · obtain ⟨k, t, items, keys⟩ := v
    have h : k = 5 := h
    subst h
    have hi : (turnJ b (.mk 5 t items keys)).items = items.map (turnJ b) := by
      rw [turnJ, if_neg (by decide)]
      exact turnL_map b items
    rw [if_pos (show (JV.mk 5 t items keys).kind = 5 from rfl), if_pos (show (JV.mk 5 t items keys).kind = 5 from rfl), hi]
    exact mapO_turn b f hf items (may_list hv).1
  · rw [if_neg h, if_neg h]
theorem headV_turn (b n : Nat) {v : JV} (hv : may v) : headV n (turnJ b v) = headV n v := by
  unfold headV
  rw [partV_turn b hv (by decide) intV fun x _ => intV_turn b x, anyV_turn b _ hv (by decide) (mediaV n) fun x _ => mediaV_turn b n x]
theorem idxV_turn (b : Nat) {v : JV} (hv : may v) : idxV (turnJ b v) = idxV v := by
  unfold idxV
  rw [headV_turn b 2 hv, partV_turn b hv (by decide) (listV descV) fun x hx => listV_turn b descV (fun y hy => descV_turn b hy) hx]
end Go.Proofs.YtnkencdibniagaaGreatDoor

/- Layer 13, plain: what is turned may be put, too. -/
namespace Go.Proofs.YtnkencdibniagaaGreatDoor
open Go.Lib

end Go.Proofs.YtnkencdibniagaaGreatDoor

