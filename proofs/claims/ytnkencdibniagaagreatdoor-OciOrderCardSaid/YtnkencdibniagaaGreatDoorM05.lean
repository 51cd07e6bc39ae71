/- Merged: OcW, OcQ, OcR. -/
import Derived.Test.YtnkencdibniagaaGreatDoorM04
import Derived.Lib.ValidLaws
import Derived.Lib.ItoaLen
import Derived.Test.YtnkencdibniagaaGreatDoorM01
/- Layer 13, plain: what is turned may be put, too. -/
namespace Go.Proofs.YtnkencdibniagaaGreatDoor
open Go.Lib

mutual
/-- No object in it has the key that is put to it. -/
def noAnn : JV → Prop
  | .mk _ _ items keys => kAnn ∉ keys ∧ noAnnL items
def noAnnL : List JV → Prop
  | [] => True
  | x :: l => noAnn x ∧ noAnnL l
end
theorem may_ann : may annJ := by
  unfold annJ
  rw [may]
  refine ⟨?_, by simp⟩
  rw [mayL]
  refine ⟨?_, by rw [mayL]; trivial⟩
  rw [may]
  exact ⟨by rw [mayL]; trivial, by simp⟩
theorem deep_ann : deep annJ = 1 := by
  unfold annJ
  rw [deep, if_pos (.inl rfl), deepL, deepL, deep_leaf _ (by decide) (by decide) rfl]
  rfl
mutual
theorem turn_may (b : Nat) : ∀ v : JV, may v → noAnn v → may (turnJ b v) ∧ deep (turnJ b v) ≤ deep v + 1
  | .mk k t items keys, hm, hn => by
    rw [noAnn] at hn
    have hmi : mayL items := by rw [may] at hm; exact hm.1
    have ih := turn_mayL b items hmi hn.2
    rw [turnJ]
    by_cases h : k = 6
    · subst h
      obtain ⟨_, h2, h3, h4, h5⟩ := may_obj hm
      rw [if_pos rfl]
      have hit : ∀ x ∈ rotL b (turnL b items) ++ [annJ], may x ∧ deep x ≤ deepL items + 1 := by
        intro x hx
        rcases List.mem_append.1 hx with hx | hx
        · exact ih x ((rot_perm b _).mem_iff.1 hx)
        · rw [List.mem_singleton.1 hx]
          exact ⟨may_ann, by rw [deep_ann]; omega⟩
      refine ⟨?_, ?_⟩
      · rw [may]
        refine ⟨mayL_of fun x hx => (hit x hx).1, .inr (.inr (.inr (.inr ⟨rfl, h2, ?_, ?_, ?_⟩)))⟩
        · rw [List.length_append, List.length_append, rot_length, rot_length, turnL_map, List.length_map, h3]
          rfl
        · intro x hx
          rcases List.mem_append.1 hx with hx | hx
          · exact h4 x ((rot_perm b _).mem_iff.1 hx)
          · rw [List.mem_singleton.1 hx]
            decide
        · rw [List.nodup_append]
          refine ⟨(rot_perm b keys).nodup_iff.2 h5, by simp, ?_⟩
          intro x hx y hy e
          rw [List.mem_singleton.1 hy] at e
          rw [e] at hx
          exact hn.1 ((rot_perm b _).mem_iff.1 hx)
      · rw [deep, if_pos (.inr rfl), deep, if_pos (.inr rfl)]
        have : deepL (rotL b (turnL b items) ++ [annJ]) ≤ deepL items + 1 := deepL_of fun x hx => (hit x hx).2
        omega
    · rw [if_neg h]
      refine ⟨?_, ?_⟩
      · rw [may] at hm ⊢
        refine ⟨mayL_of fun x hx => (ih x hx).1, ?_⟩
        have h2 := hm.2
        rcases h2 with ⟨a, b1, c, _⟩ | ⟨a, b1, c, _⟩ | ⟨a, b1, c, _⟩ | ⟨a, b1, _⟩ | ⟨a, _⟩
        · subst c
          rw [turnL]
          exact .inl ⟨a, b1, rfl, rfl⟩
        · subst c
          rw [turnL]
          exact .inr (.inl ⟨a, b1, rfl, rfl⟩)
        · subst c
          rw [turnL]
          exact .inr (.inr (.inl ⟨a, b1, rfl, rfl⟩))
        · exact .inr (.inr (.inr (.inl ⟨a, b1, rfl⟩)))
        · exact absurd a h
      · rw [deep, deep]
        have : deepL (turnL b items) ≤ deepL items + 1 := deepL_of fun x hx => (ih x hx).2
        by_cases h5 : k = 5 ∨ k = 6
        · rw [if_pos h5, if_pos h5]; omega
        · rw [if_neg h5, if_neg h5]; exact this
theorem turn_mayL (b : Nat) : ∀ l : List JV, mayL l → noAnnL l → ∀ x ∈ turnL b l, may x ∧ deep x ≤ deepL l + 1
  | [], _, _ => by rw [turnL]; intro x hx; cases hx
  | y :: l, hm, hn => by
    rw [mayL] at hm
    rw [noAnnL] at hn
    rw [turnL, deepL]
    intro x hx
    rcases List.mem_cons.1 hx with rfl | hx
    · have := turn_may b y hm.1 hn.1
      exact ⟨this.1, by omega⟩
    · have := turn_mayL b l hm.2 hn.2 x hx
      exact ⟨this.1, by omega⟩
end
end Go.Proofs.YtnkencdibniagaaGreatDoor

/- Layer 13, plain: how long what is turned is, as a text. -/
namespace Go.Proofs.YtnkencdibniagaaGreatDoor
open Go.Lib

theorem printedR_le (c : Nat) : (printedR c).length ≤ 6 * (encodeRune (c : Int)).length := by
  have := enc_pos c
  unfold printedR
  split
  · show 2 ≤ _
    omega
  · split
    · show 6 ≤ _
      omega
    · split
      · show 6 ≤ _
        omega
      · omega
theorem quo_le {t : Bs} (h : validD t = true) : (quoT t).length ≤ 6 * t.length + 2 := by
  obtain ⟨cs, hs, rfl⟩ := valid_utf _ t (Nat.le_refl _) h
  unfold quoT quoR
  rw [runesT_utf hs, List.length_cons, List.length_append, List.length_singleton]
  have : ∀ l : List Nat, (l.flatMap printedR).length ≤ 6 * (utfB l).length := by
    intro l
    induction l with
    | nil => exact Nat.le_refl _
    | cons c l ih =>
      have h1 := printedR_le c
      rw [List.flatMap_cons, utfB, List.length_append, List.length_append]
      omega
  have := this cs
  omega
mutual
/-- No less than its text is long, turned. -/
def szJ : JV → Nat
  | .mk _ t items keys => 6 * t.length + 107 + (keys.map fun x => 6 * x.length + 4).sum + szL items
def szL : List JV → Nat
  | [] => 0
  | x :: l => szJ x + 1 + szL l
end
theorem join_le : ∀ l : List Bs, (joinG [] l).length ≤ (l.map fun x => x.length + 1).sum
  | [] => Nat.le_refl _
  | [x] => by show x.length ≤ _; simp
  | x :: y :: l => by
    have := join_le (y :: l)
    rw [joinG, List.map_cons, List.sum_cons]
    simp only [List.length_append, List.length_nil, List.length_singleton]
    omega
theorem zip_le : ∀ (keys ts : List Bs), (∀ k ∈ keys, validD k = true) → ((List.zipWith (pairG []) keys ts).map fun x => x.length + 1).sum ≤ (keys.map fun x => 6 * x.length + 4).sum + (ts.map fun x => x.length + 1).sum
  | [], _, _ => by simp
  | _ :: _, [], _ => by simp
  | k :: keys, t :: ts, h => by
    have h1 := zip_le keys ts fun x hx => h x (by simp [hx])
    have h2 := quo_le (h k (by simp))
    have h3 : (pairG [] k t).length = (quoT k).length + 1 + t.length := by
      unfold pairG
      simp only [List.length_append, List.length_nil, List.length_singleton]
    rw [List.zipWith_cons_cons, List.map_cons, List.map_cons, List.map_cons, List.sum_cons, List.sum_cons, List.sum_cons, h3]
    omega
theorem sum_rot {α : Type} (b : Nat) (f : α → Nat) (l : List α) : ((rotL b l).map f).sum = (l.map f).sum := by
  have e : (l.map f).sum = ((l.take (b % l.length) ++ l.drop (b % l.length)).map f).sum := by rw [List.take_append_drop]
  rw [e]
  unfold rotL
  rw [List.map_append, List.map_append, List.sum_append, List.sum_append]
  omega
theorem wordOf_le2 (k : Int) : (wordOf k).length ≤ 5 := by
  unfold wordOf
  split
  · decide
  split <;> decide
mutual
theorem sz_turn (b : Nat) : ∀ v : JV, may v → (prG [] (turnJ b v)).length ≤ szJ v
  | .mk k t items keys, hm => by
    have hmi : mayL items := by rw [may] at hm; exact hm.1
    have ih := sz_turnL b items hmi
    rw [szJ, turnJ]
    by_cases h6 : k = 6
    · subst h6
      obtain ⟨_, h2, h3, h4, h5⟩ := may_obj hm
      rw [if_pos rfl, prG, if_neg (by decide), if_neg (by decide), if_neg (by decide), if_pos rfl]
      have hv : ∀ x ∈ rotL b keys ++ [kAnn], validD x = true := by
        intro x hx
        rcases List.mem_append.1 hx with hx | hx
        · exact h4 x ((rot_perm b _).mem_iff.1 hx)
        · rw [List.mem_singleton.1 hx]
          decide
      have h7 := join_le (List.zipWith (pairG []) (rotL b keys ++ [kAnn]) (prL [] (rotL b (turnL b items) ++ [annJ])))
      have h8 := zip_le (rotL b keys ++ [kAnn]) (prL [] (rotL b (turnL b items) ++ [annJ])) hv
      have h9 : ((prL [] (rotL b (turnL b items) ++ [annJ])).map fun x => x.length + 1).sum = ((turnL b items).map fun x => (prG [] x).length + 1).sum + 7 := by
        rw [prL_map, List.map_map, List.map_append, List.sum_append, sum_rot]
        rfl
      have h10 : ((rotL b keys ++ [kAnn]).map fun x => 6 * x.length + 4).sum = (keys.map fun x => 6 * x.length + 4).sum + 70 := by
        rw [List.map_append, List.sum_append, sum_rot]
        rfl
      simp only [List.length_append, List.length_nil, List.length_singleton]
      omega
    · rw [if_neg h6, prG]
      by_cases h3 : k = 3
      · rw [if_pos h3]; omega
      · rw [if_neg h3]
        by_cases h4 : k = 4
        · subst h4
          rw [if_pos rfl]
          have := quo_le (may_str hm).1
          omega
        · rw [if_neg h4]
          by_cases h5 : k = 5
          · rw [if_pos h5]
            have h7 := join_le (prL [] (turnL b items))
            rw [prL_map, List.map_map] at h7
            have e : (List.map ((fun x : Bs => x.length + 1) ∘ prG []) (turnL b items)).sum = ((turnL b items).map fun x => (prG [] x).length + 1).sum := rfl
            rw [e] at h7
            rw [prL_map]
            simp only [List.length_append, List.length_nil, List.length_singleton]
            omega
          · rw [if_neg h5, if_neg h6]
            have := wordOf_le2 k
            omega
theorem sz_turnL (b : Nat) : ∀ l : List JV, mayL l → ((turnL b l).map fun x => (prG [] x).length + 1).sum ≤ szL l
  | [], _ => by rw [turnL]; simp
  | x :: l, h => by
    rw [mayL] at h
    have h1 := sz_turn b x h.1
    have h2 := sz_turnL b l h.2
    rw [turnL, szL, List.map_cons, List.sum_cons]
    omega
end
theorem sz_txt (s : Bs) : szJ (txtJ s) = 6 * s.length + 107 := by
  unfold txtJ
  rw [szJ, szL]
  simp
theorem sz_num {n : Int} (h0 : -9223372036854775808 ≤ n) (h1 : n ≤ 9223372036854775807) : szJ (numJ n) ≤ 233 := by
  unfold numJ
  rw [szJ, szL]
  have := itoa_length_le n h0 h1
  simp
  omega
theorem szL_le (n : Nat) : ∀ l : List JV, (∀ x ∈ l, szJ x ≤ n) → szL l ≤ l.length * (n + 1)
  | [], _ => by rw [szL]; simp
  | x :: l, h => by
    have h1 := h x (by simp)
    have h2 := szL_le n l fun y hy => h y (by simp [hy])
    rw [szL, List.length_cons, Nat.succ_mul]
    omega
theorem sz_full {d : DV} (hm : mayD d = true) (hd : d.dig.length = 32) (h1 : d.media.length ≤ 200) (h2 : d.os.length ≤ 200) (h3 : d.arch.length ≤ 200) : szJ (fullJ d) ≤ 6000 := by
  obtain ⟨n1, n2, _⟩ := (mayD_iff d).1 hm
  have e1 := sz_txt d.media
  have e2 := sz_txt (textL d.dig)
  have e3 := sz_num (n := d.size) (by omega) (by omega)
  have e4 := sz_txt d.os
  have e5 := sz_txt d.arch
  have e6 := textL_length d.dig
  have e7 : szJ (plaJ d.os d.arch) = 107 + (16 + 76) + (szJ (txtJ d.os) + 1 + (szJ (txtJ d.arch) + 1)) := by
    unfold plaJ objJ
    show szJ (.mk 6 [] [txtJ d.os, txtJ d.arch] [kOS, kArc]) = _
    rw [szJ, szL, szL, szL]
    simp [kOS, kArc]
  have e8 : szJ (fullJ d) = 107 + 178 + (szJ (txtJ d.media) + 1 + (szJ (txtJ (textL d.dig)) + 1 + (szJ (numJ d.size) + 1 + (szJ (plaJ d.os d.arch) + 1)))) := by
    show szJ (.mk 6 [] [txtJ d.media, txtJ (textL d.dig), numJ d.size, plaJ d.os d.arch] [kMed, kDig, kSiz, kPla]) = _
    rw [szJ, szL, szL, szL, szL, szL]
    simp [kMed, kDig, kSiz, kPla]
  omega
theorem sz_idx {l : List DV} (hl : l.length ≤ 8) (h : ∀ d ∈ l, szJ (fullJ d) ≤ 6000) : szJ (idxJ l) ≤ 60000 := by
  have e1 := sz_num (n := 2) (by omega) (by omega)
  have e2 := sz_txt mIdx
  have e3 : szJ (lstJ (l.map fullJ)) ≤ 107 + 8 * 6001 := by
    unfold lstJ
    rw [szJ]
    have := szL_le 6000 (l.map fullJ) fun x hx => by
      obtain ⟨d, hd, rfl⟩ := List.mem_map.1 hx
      exact h d hd
    rw [List.length_map] at this
    simp
    omega
  have e4 : mIdx.length ≤ 60 := by decide
  have e8 : szJ (idxJ l) = 107 + ((6 * 13 + 4) + (6 * 9 + 4) + (6 * 9 + 4)) + (szJ (numJ 2) + 1 + (szJ (txtJ mIdx) + 1 + (szJ (lstJ (l.map fullJ)) + 1))) := by
    show szJ (.mk 6 [] [numJ 2, txtJ mIdx, lstJ (l.map fullJ)] [kVer, kMed, kMan]) = _
    rw [szJ, szL, szL, szL, szL]
    simp [kVer, kMed, kMan]
  omega
theorem sz_img {p : Bs × Bs} {l : List Bs} (hl : l.length ≤ 8) (h1 : p.1.length ≤ 200) (h2 : p.2.length ≤ 200) (h : ∀ d ∈ l, d.length = 32) : szJ (imgJ p l) ≤ 60000 := by
  have e1 := sz_txt p.1
  have e2 := sz_txt p.2
  have e3 : szJ (lstJ (l.map fun d => txtJ (textL d))) ≤ 107 + 8 * 601 := by
    unfold lstJ
    rw [szJ]
    have := szL_le 600 (l.map fun d => txtJ (textL d)) fun x hx => by
      obtain ⟨d, hd, rfl⟩ := List.mem_map.1 hx
      have e6 := textL_length d
      have e7 := h d hd
      rw [sz_txt]
      omega
    rw [List.length_map] at this
    simp
    omega
  have e4 : szJ (txtJ kLay) = 143 := by rw [sz_txt]; rfl
  have e5 : szJ (objJ [(kTyp, txtJ kLay), (kDif, lstJ (l.map fun d => txtJ (textL d)))]) = 107 + (28 + 52) + (szJ (txtJ kLay) + 1 + (szJ (lstJ (l.map fun d => txtJ (textL d))) + 1)) := by
    show szJ (.mk 6 [] [txtJ kLay, lstJ (l.map fun d => txtJ (textL d))] [kTyp, kDif]) = _
    rw [szJ, szL, szL, szL]
    simp [kTyp, kDif]
  have e8 : szJ (imgJ p l) = 107 + (76 + 16 + 40) + (szJ (txtJ p.2) + 1 + (szJ (txtJ p.1) + 1 + (szJ (objJ [(kTyp, txtJ kLay), (kDif, lstJ (l.map fun d => txtJ (textL d)))]) + 1))) := by
    show szJ (.mk 6 [] [txtJ p.2, txtJ p.1, objJ [(kTyp, txtJ kLay), (kDif, lstJ (l.map fun d => txtJ (textL d)))]] [kArc, kOS, kRoo]) = _
    rw [szJ, szL, szL, szL, szL]
    simp [kArc, kOS, kRoo]
  omega
end Go.Proofs.YtnkencdibniagaaGreatDoor

/- Layer 11, plain: a text that is wrong is told so by 10 or 11. -/
namespace Go.Proofs.YtnkencdibniagaaGreatDoor

def is10 {α : Type} (R : Res α) : Prop := match R with | .ok _ _ => True | .bad c _ => c = 10
def is1x {α : Type} (R : Res α) : Prop := match R with | .ok _ _ => True | .bad c _ => c = 10 ∨ c = 11
theorem is10.up {α : Type} {R : Res α} (h : is10 R) : is1x R := by
  cases R with
  | ok _ _ => trivial
  | bad c r => exact .inl h
theorem is1x.map {α β : Type} {R : Res α} (h : is1x R) (f : α → β) : is1x (R.map f) := by
  cases R with
  | ok _ _ => trivial
  | bad c r => exact h
theorem word_10 : ∀ (w l : Bs), is10 (wordP w l)
  | [], _ => trivial
  | c :: w, l => by
    rw [wordP]
    split
    · exact word_10 w _
    · rfl
theorem dig_10 (l : Bs) : is10 (digP l) := by
  unfold digP
  split
  · rfl
  · trivial
theorem exp_10 (l : Bs) : is10 (expP l) := by
  unfold expP
  split
  · split
    · exact dig_10 _
    · exact dig_10 _
  · trivial
theorem frac_10 (l : Bs) : is10 (fracP l) := by
  unfold fracP
  split
  · have := dig_10 l.tail
    split
    · rename_i h
      rw [h] at this
      exact this
    · exact exp_10 _
  · exact exp_10 _
theorem int_10 (l : Bs) : is10 (intP l) := by
  unfold intP
  split
  · exact frac_10 _
  · have := dig_10 l
    split
    · rename_i h
      rw [h] at this
      exact this
    · exact frac_10 _
theorem num_10 (l : Bs) : is10 (numP l) := by
  unfold numP
  split
  · exact int_10 _
  · exact int_10 _
theorem unit_10 : ∀ (k c : Nat) (l : Bs), is10 (unitP k c l)
  | 0, _, _ => trivial
  | k + 1, c, l => by
    rw [unitP]
    split
    · exact unit_10 k _ _
    · rfl
theorem low_10 (fr : Bs) (c : Nat) (r : Bs) : is10 (lowP fr c r) := by
  unfold lowP
  split
  · rfl
  · split
    · have := unit_10 4 0 r.tail.tail
      split
      · rename_i h
        rw [h] at this
        exact this
      · split
        · trivial
        · rfl
    · rfl
theorem units_10 (fr l : Bs) : is10 (unitsP fr l) := by
  unfold unitsP
  have := unit_10 4 0 l
  split
  · rename_i h
    rw [h] at this
    exact this
  · split
    · rfl
    · split
      · exact low_10 _ _ _
      · trivial
theorem esc_10 (fr l : Bs) : is10 (escP fr l) := by
  unfold escP
  split
  · exact units_10 _ _
  · split
    · trivial
    · split
      · trivial
      · rfl
theorem one_10 (l : Bs) : is10 (oneP l) := by
  unfold oneP
  split
  · exact esc_10 _ _
  · split
    · rfl
    · trivial
theorem str_10 : ∀ (n : Nat) (l acc : Bs) (R : Res Bs), strP n l acc = some R → is10 R
  | 0, _, _, _, h => by rw [strP] at h; cases h
  | n + 1, l, acc, R, h => by
    rw [strP] at h
    split at h
    · injection h with h
      subst h
      trivial
    · have := one_10 l
      split at h
      · rename_i h1
        injection h with h
        subst h
        rw [h1] at this
        exact this
      · exact str_10 n _ _ _ h
theorem quo_10 (n : Nat) (l : Bs) (R : Res Bs) (h : quoP n l = some R) : is10 R := by
  unfold quoP at h
  split at h
  · exact str_10 _ _ _ _ h
  · injection h with h
    subst h
    rfl
theorem key_10 (n : Nat) (seen : List Bs) (l : Bs) (R : Res Bs) (h : keyP n seen l = some R) : is10 R := by
  unfold keyP at h
  split at h
  · cases h
  · rename_i h1
    injection h with h
    subst h
    exact quo_10 _ _ _ h1
  · split at h
    · injection h with h
      subst h
      rfl
    · split at h
      · injection h with h
        subst h
        trivial
      · injection h with h
        subst h
        rfl
theorem parts_1x {α : Type} (e : UInt8) (step : α → Bs → Option (Res α)) (hs : ∀ a l R, step a l = some R → is1x R) : ∀ (n : Nat) (first : Bool) (acc : α) (l : Bs) (R : Res α), partsP e step n first acc l = some R → is1x R
  | 0, _, _, _, _, h => by rw [partsP] at h; cases h
  | n + 1, first, acc, l, R, h => by
    rw [partsP] at h
    split at h
    · injection h with h
      subst h
      trivial
    · split at h
      · split at h
        · cases h
        · rename_i h1
          injection h with h
          subst h
          exact hs _ _ _ h1
        · exact parts_1x e step hs n _ _ _ _ h
      · split at h
        · split at h
          · cases h
          · rename_i h1
            injection h with h
            subst h
            exact hs _ _ _ h1
          · exact parts_1x e step hs n _ _ _ _ h
        · injection h with h
          subst h
          exact .inl rfl
theorem val_1x : ∀ (n lev : Nat) (l : Bs) (R : Res JV), valP n lev l = some R → is1x R
  | 0, _, _, _, h => by rw [valP] at h; cases h
  | n + 1, lev, l, R, h => by
    rw [valP] at h
    have ih := fun l R => val_1x n (lev + 1) l R
    have hsL : ∀ a l R, stepL (valP n (lev + 1)) a l = some R → is1x R := by
      intro a l R h
      unfold stepL at h
      split at h
      · cases h
      · rename_i h1
        injection h with h
        subst h
        have := ih _ _ h1
        exact this
      · injection h with h
        subst h
        trivial
    have hsO : ∀ a l R, stepO n (valP n (lev + 1)) a l = some R → is1x R := by
      intro a l R h
      unfold stepO at h
      split at h
      · cases h
      · rename_i h1
        injection h with h
        subst h
        have := (key_10 _ _ _ _ h1).up
        exact this
      · split at h
        · cases h
        · rename_i h1
          injection h with h
          subst h
          have := ih _ _ h1
          exact this
        · injection h with h
          subst h
          trivial
    unfold valB at h
    split at h
    · injection h with h
      subst h
      exact (word_10 _ _).up.map _
    split at h
    · injection h with h
      subst h
      exact (word_10 _ _).up.map _
    split at h
    · injection h with h
      subst h
      exact (word_10 _ _).up.map _
    split at h
    · rw [Option.map_eq_some_iff] at h
      obtain ⟨Q, h1, rfl⟩ := h
      exact (quo_10 _ _ _ h1).up.map _
    split at h
    · split at h
      · injection h with h
        subst h
        exact .inr rfl
      · rw [Option.map_eq_some_iff] at h
        obtain ⟨Q, h1, rfl⟩ := h
        exact (parts_1x _ _ hsL _ _ _ _ _ h1).map _
    split at h
    · split at h
      · injection h with h
        subst h
        exact .inr rfl
      · rw [Option.map_eq_some_iff] at h
        obtain ⟨Q, h1, rfl⟩ := h
        exact (parts_1x _ _ hsO _ _ _ _ _ h1).map _
    · injection h with h
      subst h
      unfold mkN
      have := num_10 (dropB l)
      split
      · rename_i h1
        rw [h1] at this
        exact .inl this
      · trivial
/-- What is wrong with a text is told by 10 or by 11. -/
theorem all_1x (n : Nat) (l : Bs) (c : Nat) (r : Bs) (h : allP n l = some (.bad c r)) : c = 10 ∨ c = 11 := by
  unfold allP at h
  split at h
  · cases h
  · rename_i h1
    injection h with h
    injection h with h _
    subst h
    exact val_1x _ _ _ _ h1
  · split at h
    · cases h
    · injection h with h
      injection h with h _
      exact .inl h.symm
end Go.Proofs.YtnkencdibniagaaGreatDoor

