/- Merged: VkB, VkC. -/
import Derived.Test.YtbjgmkjinnbokaaGreatDoorM24
import Derived.Test.YtbjgmkjinnbokaaGreatDoorM32
/- Layer 16, plainly: what is put is got. -/
namespace Go.Proofs.YtbjgmkjinnbokaaGreatDoor

theorem getK_putL (v m : Nat) : ∀ j, j ≤ m → getK (putL v m) j = v % 256 ^ j
  | 0, _ => by simp [getK, Nat.mod_one]
  | j + 1, h => by
    rw [getK, getK_putL v m j (by omega)]
    have e : ((putL v m).getD j 0).toNat = v / 256 ^ j % 256 := by
      unfold putL
      rw [List.getD_eq_getElem?_getD, List.getElem?_map, List.getElem?_range (by omega), Option.map_some, Option.getD_some, UInt8.toNat_ofNat']
    rw [e, Nat.pow_succ, Nat.mod_mul]
theorem getN_putL {v k : Nat} (h : v < 256 ^ k) (hk : k ≤ 8) : getN (putL v k) = v := by
  unfold getN
  rw [putL_length, Nat.min_eq_left hk, getK_putL v k k (Nat.le_refl _), Nat.mod_eq_of_lt h]
theorem take_app {a b : List UInt8} {n : Nat} (h : a.length = n) : takeV n (a ++ b) = a ∧ takeR n (a ++ b) = b ∧ ∀ o, takeO n (a ++ b) o = o := by
  subst h
  unfold takeV takeR takeO
  have : ¬ (a ++ b).length < a.length := by rw [List.length_append]; omega
  rw [if_neg this, if_neg this, List.take_left, List.drop_left]
  exact ⟨rfl, rfl, fun o => by rw [decide_eq_false this]; rfl⟩
theorem read_aux {a b c p f d R S : List UInt8} (hS : S = a ++ (b ++ (c ++ (p ++ (f ++ (d ++ R)))))) (l1 : a.length = 1) (l2 : b.length = 2) (l3 : c.length = 1) (l4 : p.length = getN c) (l5 : f.length = 4) (l6 : d.length = getN f) :
    rO S false = false ∧ rX S = ⟨p, (getN a : Nat), (getN b : Nat), d⟩ ∧ rR6 S = R := by
  obtain ⟨v1, r1, o1⟩ := take_app (b := b ++ (c ++ (p ++ (f ++ (d ++ R))))) l1
  obtain ⟨v2, r2, o2⟩ := take_app (b := c ++ (p ++ (f ++ (d ++ R)))) l2
  obtain ⟨v3, r3, o3⟩ := take_app (b := p ++ (f ++ (d ++ R))) l3
  obtain ⟨v4, r4, o4⟩ := take_app (b := f ++ (d ++ R)) l4
  obtain ⟨v5, r5, o5⟩ := take_app (b := d ++ R) l5
  obtain ⟨v6, r6, o6⟩ := take_app (b := R) l6
  rw [← hS] at v1 r1 o1
  have e1 : rR1 S = b ++ (c ++ (p ++ (f ++ (d ++ R)))) := r1
  have e2 : rR2 S = c ++ (p ++ (f ++ (d ++ R))) := by show takeR 2 (rR1 S) = _; rw [e1, r2]
  have eL : rL S = getN c := by show getN (takeV 1 (rR2 S)) = _; rw [e2, v3]
  have e3 : rR3 S = p ++ (f ++ (d ++ R)) := by show takeR 1 (rR2 S) = _; rw [e2, r3]
  have e4 : rR4 S = f ++ (d ++ R) := by show takeR (rL S) (rR3 S) = _; rw [eL, e3, r4]
  have eD : rD S = getN f := by show getN (takeV 4 (rR4 S)) = _; rw [e4, v5]
  have e5 : rR5 S = d ++ R := by show takeR 4 (rR4 S) = _; rw [e4, r5]
  have e6 : rR6 S = R := by show takeR (rD S) (rR5 S) = _; rw [eD, e5, r6]
  refine ⟨?_, ?_, e6⟩
  · unfold rO
    rw [eD, e5, o6, e4, o5, eL, e3, o4, e2, o3, e1, o2, o1]
  · unfold rX
    rw [eL, e3, v4, v1, e1, v2, eD, e5, v6]
theorem node_read {x : Nd} (hx : mayN x = true) (R : List UInt8) : rO (nodeW x ++ R) false = false ∧ rX (nodeW x ++ R) = x ∧ rR6 (nodeW x ++ R) = R := by
  obtain ⟨_, _, h3, h4, h5, _⟩ := may_ne hx
  obtain ⟨hp, hd⟩ := may_sz hx
  have n1 : getN (putL x.kind.toNat 1) = x.kind.toNat := getN_putL (by have : (256 : Nat) ^ 1 = 256 := by decide
                                                                       omega) (by decide)
  have n2 : getN (putL x.mode.toNat 2) = x.mode.toNat := getN_putL (by have : (256 : Nat) ^ 2 = 65536 := by decide
                                                                       omega) (by decide)
  have n3 : getN (putL x.path.length 1) = x.path.length := getN_putL (by have : (256 : Nat) ^ 1 = 256 := by decide
                                                                         omega) (by decide)
  have n4 : getN (putL x.data.length 4) = x.data.length := getN_putL (by have : (256 : Nat) ^ 4 = 4294967296 := by decide
                                                                         omega) (by decide)
  have hS : nodeW x ++ R = putL x.kind.toNat 1 ++ (putL x.mode.toNat 2 ++ (putL x.path.length 1 ++ (x.path ++ (putL x.data.length 4 ++ (x.data ++ R))))) := by
    unfold nodeW
    simp only [List.append_assoc]
  obtain ⟨q1, q2, q3⟩ := read_aux hS (putL_length ..) (putL_length ..) (putL_length ..) n3.symm (putL_length ..) n4.symm
  refine ⟨q1, ?_, q3⟩
  rw [q2, n1, n2]
  have k1 : ((x.kind.toNat : Nat) : Int) = x.kind := by omega
  have k2 : ((x.mode.toNat : Nat) : Int) = x.mode := by omega
  rw [k1, k2]
theorem readN_of : ∀ (l : List Nd) (R : List UInt8), (∀ x ∈ l, mayN x = true) → readN l.length (nodesW l ++ R) = (l, R, false)
  | [], R, _ => rfl
  | x :: r, R, h => by
    obtain ⟨q1, q2, q3⟩ := node_read (h x (by simp)) (nodesW r ++ R)
    have e : nodesW (x :: r) ++ R = nodeW x ++ (nodesW r ++ R) := by simp [nodesW]
    rw [e, List.length_cons, readN, if_neg (by rw [q1]; decide), q2, q3, readN_of r R (fun y hy => h y (by simp [hy]))]
theorem put_cases {m : List Nd} (hc : checkT m = 0) : (put16 m = (bytesK m m.length, 0) ∧ (bytesK m m.length).length ≤ 65000) ∨ (put16 m = ([], 3) ∧ 65000 < (bytesK m m.length).length) := by
  unfold put16
  rw [if_pos hc]
  split
  · rename_i h
    exact .inr ⟨rfl, h⟩
  · rename_i h
    exact .inl ⟨rfl, by omega⟩
/-- What is put is got. -/
theorem get_put {m : List Nd} (hc : checkT m = 0) (hp : put16 m = (bytesK m m.length, 0)) : get16 (bytesK m m.length) = (m, 0) := by
  obtain ⟨h4, ht⟩ := check_zero hc
  have hmay := tree_may ht
  have hb : bytesK m m.length = putL m.length 2 ++ (nodesW m ++ []) := by
    unfold bytesK
    rw [List.take_length, List.append_nil]
  obtain ⟨v, r, o⟩ := take_app (a := putL m.length 2) (b := nodesW m ++ []) (putL_length ..)
  rw [← hb] at v r o
  have hn : getN (putL m.length 2) = m.length := getN_putL (by have : (256 : Nat) ^ 2 = 65536 := by decide
                                                               omega) (by decide)
  have hr : readS (bytesK m m.length) = some (m, []) := by
    unfold readS
    rw [o, if_neg (by decide), v, hn, r, readN_of m [] hmay]
    rfl
  unfold get16
  rw [hr]
  simp only
  rw [if_pos hp]
theorem nodes_len (B : Nat) : ∀ l : List Nd, (∀ x ∈ l, x.path.length ≤ 200 ∧ x.data.length ≤ B) → (nodesW l).length ≤ l.length * (208 + B)
  | [], _ => Nat.zero_le _
  | x :: r, h => by
    have h1 := nodes_len B r (fun y hy => h y (by simp [hy]))
    obtain ⟨h2, h3⟩ := h x (by simp)
    have e : (nodesW (x :: r)).length = (nodeW x).length + (nodesW r).length := by simp [nodesW]
    rw [e, nodeW_len, List.length_cons, Nat.succ_mul]
    omega
theorem long_many {m : List Nd} (hc : checkT m = 0) (hB : ∀ x ∈ m, x.data.length ≤ 300) (h : 65000 < (bytesK m m.length).length) : 50 < m.length := by
  obtain ⟨h4, ht⟩ := check_zero hc
  have h1 := nodes_len 300 m (fun x hx => ⟨(may_sz (tree_may ht x hx)).1, hB x hx⟩)
  unfold bytesK at h
  rw [List.take_length, List.length_append, putL_length] at h
  omega
end Go.Proofs.YtbjgmkjinnbokaaGreatDoor
#print axioms Go.Proofs.YtbjgmkjinnbokaaGreatDoor.get_put

/- Layer 16, plainly: directories alone, or one file, laid twice. -/
namespace Go.Proofs.YtbjgmkjinnbokaaGreatDoor

def V (g : List Pl) (s : List UInt8) : Option Nd := (lookG g s).map Pl.nd
theorem v_some {g : List Pl} {s : List UInt8} {n : Nd} (h : V g s = some n) : ∃ p, lookG g s = some p ∧ p.nd = n ∧ p ∈ g ∧ n.path = s := by
  unfold V at h
  cases hl : lookG g s with
  | none => rw [hl] at h; cases h
  | some p =>
    rw [hl] at h
    have hn : p.nd = n := Option.some.inj h
    obtain ⟨h1, h2⟩ := look_some hl
    exact ⟨p, rfl, hn, h1, by rw [← hn, h2]⟩
theorem v_put {g : List Pl} (h : Rise g) (n : Nd) (k : Int) (s : List UInt8) : V (putG g ⟨n, k⟩) s = if s = n.path then some n else V g s := by
  unfold V
  rw [look_put h]
  split <;> rfl
theorem v_mem {g : List Pl} (h : Rise g) {n : Nd} : n ∈ g.map Pl.nd ↔ V g n.path = some n := by
  constructor
  · intro hn
    obtain ⟨p, hp, rfl⟩ := List.mem_map.1 hn
    unfold V
    rw [look_of h hp]
    rfl
  · intro hv
    obtain ⟨p, _, h2, h3, _⟩ := v_some hv
    exact List.mem_map.2 ⟨p, h3, h2⟩
theorem sorted_ext : ∀ {l m : List Nd}, l.Pairwise (fun a b => bytesBefore a.path b.path = true) → m.Pairwise (fun a b => bytesBefore a.path b.path = true) → (∀ x, x ∈ l ↔ x ∈ m) → l = m
  | [], [], _, _, _ => rfl
  | [], y :: r, _, _, h => by have := (h y).2 (by simp); cases this
  | x :: r, [], _, _, h => by have := (h x).1 (by simp); cases this
  | x :: r, y :: s, h1, h2, h => by
    obtain ⟨a1, a2⟩ := List.pairwise_cons.1 h1
    obtain ⟨b1, b2⟩ := List.pairwise_cons.1 h2
    have e : x = y := by
      rcases List.mem_cons.1 ((h x).1 (by simp)) with e | e
      · exact e
      · rcases List.mem_cons.1 ((h y).2 (by simp)) with e2 | e2
        · exact e2.symm
        · have := bb_trans (a1 y e2) (b1 x e)
          rw [bb_irr] at this
          cases this
    subst e
    rw [sorted_ext a2 b2 fun z => ?_]
    constructor
    · intro hz
      rcases List.mem_cons.1 ((h z).1 (by simp [hz])) with e | e
      · have := a1 z hz
        rw [e, bb_irr] at this
        cases this
      · exact e
    · intro hz
      rcases List.mem_cons.1 ((h z).2 (by simp [hz])) with e | e
      · have := b1 z hz
        rw [e, bb_irr] at this
        cases this
      · exact e
theorem v_ext {g g2 : List Pl} (h : Rise g) (h2 : Rise g2) (he : ∀ s, V g2 s = V g s) : g2.map Pl.nd = g.map Pl.nd :=
  sorted_ext (rise_map h2) (rise_map h) fun x => by rw [v_mem h2, v_mem h, he]
theorem v_ground {g : List Pl} (hm : treeB (g.map Pl.nd) = true) (s : List UInt8) : V (groundOf (g.map Pl.nd)) s = V g s := by
  unfold V
  rw [ground_look _ (pair_ne hm), find_map]
  cases lookG g s <;> rfl
/-! ### Directories that are there -/
theorem enter_same (B : Nat) (k : Int) : ∀ (n : Nat) (d : List UInt8) (g : List Pl), d.length ≤ n → KG B k g → (d = [] ∨ ∃ x, V g d = some x ∧ x.kind = 2) →
    ∃ g2, enterG k d g = some g2 ∧ (∀ s, V g2 s = V g s) ∧ Rise g2
  | 0, d, g, hn, hg, _ => by
    have : d = [] := List.eq_nil_of_length_eq_zero (by omega)
    subst this
    exact ⟨g, enterG_nil k g, fun _ => rfl, hg.r⟩
  | n + 1, d, g, hn, hg, h => by
    by_cases hd : d = []
    · subst hd
      exact ⟨g, enterG_nil k g, fun _ => rfl, hg.r⟩
    · rcases h with h | ⟨x, hx, hx2⟩
      · exact absurd h hd
      · obtain ⟨p, hl, rfl, hp, hpd⟩ := v_some hx
        have hpar : parentL d = [] ∨ ∃ y, V g (parentL d) = some y ∧ y.kind = 2 := by
          rcases hg.u p hp with h1 | ⟨q, q1, q2, q3, _⟩
          · rw [hpd] at h1
            exact .inl h1
          · rw [hpd] at q2
            refine .inr ⟨q.nd, ?_, q3⟩
            unfold V
            rw [← q2, look_of hg.r q1]
            rfl
        have hlt := parent_lt hd
        obtain ⟨g1, e1, v1, r1⟩ := enter_same B k n (parentL d) g (by omega) hg hpar
        rw [enterG_step k hd, e1]
        simp only
        have hv := v1 d
        rw [hx] at hv
        obtain ⟨p', hl', hn', _, _⟩ := v_some hv
        rw [hl']
        simp only
        rw [if_pos (by rw [hn']; exact hx2)]
        refine ⟨_, rfl, fun s => ?_, rise_put r1 _⟩
        rw [v_put r1, hn', hpd]
        split
        · rename_i e
          rw [e, hx]
        · exact v1 s
theorem par_of {B : Nat} {k : Int} {g : List Pl} (hg : KG B k g) {d : List UInt8} {x : Nd} (hx : V g d = some x) : parentL d = [] ∨ ∃ y, V g (parentL d) = some y ∧ y.kind = 2 := by
  obtain ⟨p, _, rfl, hp, hpd⟩ := v_some hx
  rcases hg.u p hp with h1 | ⟨q, q1, q2, q3, _⟩
  · rw [hpd] at h1
    exact .inl h1
  · rw [hpd] at q2
    refine .inr ⟨q.nd, ?_, q3⟩
    unfold V
    rw [← q2, look_of hg.r q1]
    rfl
theorem enter_keep (k : Int) : ∀ (n : Nat) (d : List UInt8) (g g2 : List Pl), d.length ≤ n → Rise g → enterG k d g = some g2 → Rise g2 ∧ ∀ s x, V g s = some x → V g2 s = some x
  | 0, d, g, g2, hn, hr, h => by
    have : d = [] := List.eq_nil_of_length_eq_zero (by omega)
    subst this
    rw [enterG_nil] at h
    cases h
    exact ⟨hr, fun _ _ h => h⟩
  | n + 1, d, g, g2, hn, hr, h => by
    by_cases hd : d = []
    · subst hd
      rw [enterG_nil] at h
      cases h
      exact ⟨hr, fun _ _ h => h⟩
    · rw [enterG_step k hd] at h
      have hlt := parent_lt hd
      cases he : enterG k (parentL d) g with
      | none => rw [he] at h; cases h
      | some g1 =>
        rw [he] at h
        obtain ⟨r1, v1⟩ := enter_keep k n (parentL d) g g1 (by omega) hr he
        simp only at h
        cases hl : lookG g1 d with
        | none =>
          rw [hl] at h
          simp only at h
          cases h
          refine ⟨rise_put r1 _, fun s x hx => ?_⟩
          rw [v_put r1, if_neg fun e => ?_]
          · exact v1 s x hx
          · have h9 := v1 s x hx
            obtain ⟨p, hp, _⟩ := v_some h9
            have e' : s = d := e
            rw [e', hl] at hp
            cases hp
        | some p =>
          rw [hl] at h
          simp only at h
          obtain ⟨_, hpd⟩ := look_some hl
          split at h
          · cases h
            refine ⟨rise_put r1 _, fun s x hx => ?_⟩
            rw [v_put r1]
            split
            · rename_i e
              have h9 := v1 s x hx
              rw [e, hpd] at h9
              unfold V at h9
              rw [hl] at h9
              exact h9
            · exact v1 s x hx
          · cases h
/-! ### Directories alone -/
structure DirE (x : En) : Prop where
  k : x.kind = 2
  w : (whiteL (baseL (cleanL x.name).1)).2.2 = false
theorem node_dir {g : List Pl} {x : En} {p : List UInt8} (h : x.kind = 2) : nodeG g x p = if mayN ⟨p, 2, x.mode, []⟩ then (⟨p, 2, x.mode, []⟩, 0) else (default, 2) := by
  unfold nodeG
  rw [if_neg (by rw [h]; decide), h]
  rfl
theorem lay_dir {k : Int} {g : List Pl} {n : Nd} (h : n.kind = 2) : layG k g n = putG g ⟨n, k⟩ := by
  unfold layG
  rw [if_neg (by rw [decide_eq_true h]; simp)]
/-- What a directory's step does. -/
theorem step_dir {k : Int} {g : List Pl} {x : En} (hx : DirE x) (h : (stepT k g x).2 = 0) :
    (cleanL x.name).2 = 0 ∧ (((cleanL x.name).1 = [] ∧ (stepT k g x).1 = g) ∨ ((cleanL x.name).1 ≠ [] ∧ mayN ⟨(cleanL x.name).1, 2, x.mode, []⟩ = true ∧ ∃ g1, enterG k (parentL (cleanL x.name).1) g = some g1 ∧ (stepT k g x).1 = putG g1 ⟨⟨(cleanL x.name).1, 2, x.mode, []⟩, k⟩)) := by
  by_cases hce : (cleanL x.name).2 = 0
  rotate_left
  · rw [stepT_err hce] at h
    exact absurd h hce
  · refine ⟨hce, ?_⟩
    by_cases hp : (cleanL x.name).1 = []
    · rw [stepT_root hce hp]
      exact .inl ⟨hp, rfl⟩
    · rw [stepT_in rfl hce hp hx.w] at h ⊢
      cases he : enterG k (parentL (cleanL x.name).1) g with
      | none => rw [he] at h; cases h
      | some g1 =>
        rw [he] at h
        simp only at h ⊢
        rw [node_dir hx.k] at h ⊢
        cases hm : mayN ⟨(cleanL x.name).1, 2, x.mode, []⟩
        · rw [hm] at h
          cases h
        · refine .inr ⟨hp, rfl, g1, rfl, ?_⟩
          rw [if_pos rfl]
          exact lay_dir rfl
theorem step_dir_of {k : Int} {g g1 : List Pl} {x : En} (hx : DirE x) (hce : (cleanL x.name).2 = 0) (hp : (cleanL x.name).1 ≠ []) (hm : mayN ⟨(cleanL x.name).1, 2, x.mode, []⟩ = true) (he : enterG k (parentL (cleanL x.name).1) g = some g1) :
    stepT k g x = (putG g1 ⟨⟨(cleanL x.name).1, 2, x.mode, []⟩, k⟩, 0) := by
  rw [stepT_in rfl hce hp hx.w, he]
  simp only
  rw [node_dir hx.k, hm, if_pos rfl, if_pos rfl]
  rw [lay_dir rfl]
def lastM : List En → List UInt8 → Option Int
  | [], _ => none
  | x :: r, s => match lastM r s with
    | some m => some m
    | none => if (cleanL x.name).1 = s then some x.mode else none
theorem lastM_mem : ∀ {l : List En} {x : En}, x ∈ l → ∃ m, lastM l (cleanL x.name).1 = some m
  | y :: r, x, h => by
    unfold lastM
    rcases List.mem_cons.1 h with rfl | h
    · cases lastM r (cleanL x.name).1 with
      | none => exact ⟨_, if_pos rfl⟩
      | some m => exact ⟨m, rfl⟩
    · obtain ⟨m, hm⟩ := lastM_mem h
      rw [hm]
      exact ⟨m, rfl⟩
theorem dirs_keep {k : Int} : ∀ (l : List En) (g : List Pl), Rise g → (∀ x ∈ l, DirE x) → (stepsT k g l).2 = 0 → ∀ s n, s ≠ [] → lastM l s = none → V g s = some n → V (stepsT k g l).1 s = some n
  | [], g, _, _, _, s, n, _, _, hv => hv
  | x :: r, g, hr, hx, h, s, n, hs, hl, hv => by
    rw [stepsT_cons] at h ⊢
    by_cases h0 : (stepT k g x).2 = 0
    rotate_left
    · rw [if_neg h0] at h
      exact absurd h h0
    · rw [if_pos h0] at h ⊢
      unfold lastM at hl
      cases hlr : lastM r s with
      | some m => rw [hlr] at hl; cases hl
      | none =>
        rw [hlr] at hl
        simp only at hl
        have hne : (cleanL x.name).1 ≠ s := fun e => by rw [if_pos e] at hl; cases hl
        obtain ⟨_, h1 | ⟨_, _, g1, h2, h3⟩⟩ := step_dir (hx x (by simp)) h0
        · rw [h1.2] at h ⊢
          exact dirs_keep r g hr (fun y hy => hx y (by simp [hy])) h s n hs hlr hv
        · rw [h3] at h ⊢
          obtain ⟨r1, v1⟩ := enter_keep k _ _ g g1 (Nat.le_refl _) hr h2
          refine dirs_keep r _ (rise_put r1 _) (fun y hy => hx y (by simp [hy])) h s n hs hlr ?_
          rw [v_put r1, if_neg (fun e => hne e.symm)]
          exact v1 s n hv
theorem dirs_set {k : Int} : ∀ (l : List En) (g : List Pl), Rise g → (∀ x ∈ l, DirE x) → (stepsT k g l).2 = 0 → ∀ s m, s ≠ [] → lastM l s = some m → V (stepsT k g l).1 s = some ⟨s, 2, m, []⟩
  | [], g, _, _, _, s, m, _, hl => by cases hl
  | x :: r, g, hr, hx, h, s, m, hs, hl => by
    rw [stepsT_cons] at h ⊢
    by_cases h0 : (stepT k g x).2 = 0
    rotate_left
    · rw [if_neg h0] at h
      exact absurd h h0
    · rw [if_pos h0] at h ⊢
      have hxr : ∀ y ∈ r, DirE y := fun y hy => hx y (by simp [hy])
      unfold lastM at hl
      cases hlr : lastM r s with
      | some m' =>
        rw [hlr] at hl
        cases hl
        obtain ⟨_, h1 | ⟨_, _, g1, h2, h3⟩⟩ := step_dir (hx x (by simp)) h0
        · rw [h1.2] at h ⊢
          exact dirs_set r g hr hxr h s m hs hlr
        · rw [h3] at h ⊢
          exact dirs_set r _ (rise_put (enter_keep k _ _ g g1 (Nat.le_refl _) hr h2).1 _) hxr h s m hs hlr
      | none =>
        rw [hlr] at hl
        simp only at hl
        split at hl
        · rename_i e
          cases hl
          obtain ⟨_, h1 | ⟨_, _, g1, h2, h3⟩⟩ := step_dir (hx x (by simp)) h0
          · exact absurd (e.symm.trans h1.1) hs
          · rw [h3] at h ⊢
            have r1 := (enter_keep k _ _ g g1 (Nat.le_refl _) hr h2).1
            refine dirs_keep r _ (rise_put r1 _) hxr h s _ hs hlr ?_
            rw [v_put r1, ← e, if_pos rfl]
        · cases hl
theorem dirs_ok {k : Int} : ∀ (l : List En) (g : List Pl), (∀ x ∈ l, DirE x) → (stepsT k g l).2 = 0 → ∀ x ∈ l, (cleanL x.name).2 = 0 ∧ ((cleanL x.name).1 = [] ∨ mayN ⟨(cleanL x.name).1, 2, x.mode, []⟩ = true)
  | [], g, _, _, x, hx => by cases hx
  | y :: r, g, hd, h, x, hx => by
    rw [stepsT_cons] at h
    by_cases h0 : (stepT k g y).2 = 0
    rotate_left
    · rw [if_neg h0] at h
      exact absurd h h0
    · rw [if_pos h0] at h
      rcases List.mem_cons.1 hx with rfl | hx
      · obtain ⟨h1, h2⟩ := step_dir (hd x (by simp)) h0
        exact ⟨h1, h2.imp (fun h => h.1) (fun h => h.2.1)⟩
      · exact dirs_ok r _ (fun z hz => hd z (by simp [hz])) h x hx
/-- Directories that are there, laid again. -/
theorem dirs_again {B : Nat} {k : Int} : ∀ (l : List En) (g : List Pl), KG B k g → (∀ x ∈ l, DirE x) →
    (∀ x ∈ l, (cleanL x.name).2 = 0 ∧ ((cleanL x.name).1 = [] ∨ (mayN ⟨(cleanL x.name).1, 2, x.mode, []⟩ = true ∧ ∃ n, V g (cleanL x.name).1 = some n ∧ n.kind = 2))) →
    ∃ g2, stepsT k g l = (g2, 0) ∧ KG B k g2 ∧ ∀ s, s ≠ [] → V g2 s = (match lastM l s with | some m => some ⟨s, 2, m, []⟩ | none => V g s)
  | [], g, hg, _, _ => ⟨g, rfl, hg, fun _ _ => rfl⟩
  | x :: r, g, hg, hd, h => by
    obtain ⟨hce, hp⟩ := h x (by simp)
    have hxd := hd x (by simp)
    have hdr : ∀ y ∈ r, DirE y := fun y hy => hd y (by simp [hy])
    by_cases he : (cleanL x.name).1 = []
    · have hst := stepT_root (k := k) (g := g) hce he
      rw [hxd.k, if_pos rfl] at hst
      obtain ⟨g2, e2, r2, v2⟩ := dirs_again r g hg hdr (fun y hy => h y (by simp [hy]))
      refine ⟨g2, ?_, r2, fun s hs => ?_⟩
      · rw [stepsT_cons, hst]
        exact e2
      · rw [v2 s hs, lastM]
        cases lastM r s with
        | some m => rfl
        | none =>
          simp only
          rw [if_neg (fun e => hs (e.symm.trans he))]
    · rcases hp with hp | ⟨hm, n, hn, hn2⟩
      · exact absurd hp he
      · have hcc : cleanL (cleanL x.name).1 = ((cleanL x.name).1, 0) := (clean_clean (s := x.name) (by rw [← hce])).2
        have hpar := par_of hg hn
        obtain ⟨g1, e1, v1, r1⟩ := enter_same B k _ (parentL (cleanL x.name).1) g (Nat.le_refl _) hg hpar
        obtain ⟨hk1, hk2⟩ := enterG_kg B k _ (parentL (cleanL x.name).1) g g1 (Nat.le_refl _) (clean_parent hcc) hg e1
        have hst := step_dir_of hxd hce he hm e1
        have hkg : KG B k (putG g1 ⟨⟨(cleanL x.name).1, 2, x.mode, []⟩, k⟩) := kg_put hk1 hm (Nat.zero_le _) hk2 (.inl rfl)
        obtain ⟨g2, e2, r2, v2⟩ := dirs_again r _ hkg hdr (fun y hy => by
          obtain ⟨a1, a2⟩ := h y (by simp [hy])
          refine ⟨a1, a2.imp id fun ⟨b1, n', b2, b3⟩ => ⟨b1, ?_⟩⟩
          rw [v_put r1]
          split
          · exact ⟨_, rfl, rfl⟩
          · rw [v1]
            exact ⟨n', b2, b3⟩)
        refine ⟨g2, ?_, r2, fun s hs => ?_⟩
        · rw [stepsT_cons, hst]
          exact e2
        · rw [v2 s hs, lastM]
          cases lastM r s with
          | some m => rfl
          | none =>
            simp only
            rw [v_put r1]
            by_cases e : (cleanL x.name).1 = s
            · rw [if_pos e.symm, if_pos e, e]
            · rw [if_neg (fun h => e h.symm), if_neg e, v1]
theorem v_nil {B : Nat} {k : Int} {g : List Pl} (h : KG B k g) : V g [] = none := by
  cases hv : V g [] with
  | none => rfl
  | some n =>
    obtain ⟨p, _, rfl, hp, hn⟩ := v_some hv
    exact absurd hn (may_ne (h.m p hp)).1
/-- Where the steps leave all as it was, so does the layer. -/
theorem again_of {B : Nat} {g g2 : List Pl} {x : List En} (hg : KG B 1 g) (hl : g.length ≤ 400) (hx : x.length ≤ 200) (hs : stepsT 1 (groundOf (g.map Pl.nd)) x = (g2, 0)) (hr : Rise g2) (hv : ∀ s, V g2 s = V g s) : applyT (g.map Pl.nd) x = (g.map Pl.nd, 0) := by
  have hc := kg_check hg hl
  have he := v_ext hg.r hr hv
  have hlen : g2.length = g.length := by
    have := congrArg List.length he
    rwa [List.length_map, List.length_map] at this
  have hla : laysT 1 (groundOf (g.map Pl.nd)) x = (g2, 0) := by
    unfold laysT
    rw [if_neg (by omega), hs, if_pos rfl, if_neg (by show ¬ 400 < g2.length; omega)]
  rw [applyT_ok hc (by rw [hla]), hla]
  show (g2.map Pl.nd, (0 : Int)) = _
  rw [he]
theorem again_dirs {B : Nat} {l : List Nd} {x : List En} {g : List Pl} (hg : KG B 1 g) (hl : g.length ≤ 400) (hx : x.length ≤ 200) (hs : stepsT 1 (groundOf l) x = (g, 0)) (hd : ∀ y ∈ x, DirE y) : applyT (g.map Pl.nd) x = (g.map Pl.nd, 0) := by
  have hc := kg_check hg hl
  obtain ⟨_, hm⟩ := check_zero hc
  have h0 : (stepsT 1 (groundOf l) x).2 = 0 := by rw [hs]
  have hset := dirs_set x (groundOf l) (ground_rise l) hd h0
  rw [hs] at hset
  have hok := dirs_ok x (groundOf l) hd h0
  have hgr := v_ground hm
  have hkg : KG B 1 (groundOf (g.map Pl.nd)) := kg_ground hm (fun n hn => by
    obtain ⟨p, hp, rfl⟩ := List.mem_map.1 hn
    exact hg.d p hp)
  obtain ⟨g2, e2, r2, v2⟩ := dirs_again x _ hkg hd (fun y hy => by
    obtain ⟨a1, a2⟩ := hok y hy
    by_cases he : (cleanL y.name).1 = []
    · exact ⟨a1, .inl he⟩
    · obtain ⟨m, hlm⟩ := lastM_mem hy
      exact ⟨a1, .inr ⟨a2.resolve_left he, ⟨(cleanL y.name).1, 2, m, []⟩, by rw [hgr]; exact hset _ m he hlm, rfl⟩⟩)
  refine again_of hg hl hx e2 r2.r fun s => ?_
  by_cases hs0 : s = []
  · subst hs0
    rw [v_nil hg, v_nil r2]
  · rw [v2 s hs0]
    cases hlm : lastM x s with
    | some m => exact (hset s m hs0 hlm).symm
    | none => exact hgr s
/-! ### One file -/
theorem node_file {g : List Pl} {x : En} {p : List UInt8} (h : x.kind = 1) : nodeG g x p = if mayN ⟨p, 1, x.mode, x.data⟩ then (⟨p, 1, x.mode, x.data⟩, 0) else (default, 2) := by
  unfold nodeG
  rw [if_neg (by rw [h]; decide), h]
  rfl
theorem again_file {B : Nat} {l : List Nd} {x : En} {g : List Pl} (ht : treeB l = true) (hB : ∀ n ∈ l, n.data.length ≤ B) (hg : KG B 1 g) (hl : g.length ≤ 400) (hs : stepsT 1 (groundOf l) [x] = (g, 0)) (h1 : x.kind = 1) (hw : (whiteL (baseL (cleanL x.name).1)).2.2 = false) : applyT (g.map Pl.nd) [x] = (g.map Pl.nd, 0) := by
  have hc := kg_check hg hl
  obtain ⟨_, hm⟩ := check_zero hc
  have hgr := v_ground (g := g) hm
  have hkg : KG B 1 (groundOf (g.map Pl.nd)) := kg_ground hm (fun n hn => by
    obtain ⟨p, hp, rfl⟩ := List.mem_map.1 hn
    exact hg.d p hp)
  have hkl : KG B 1 (groundOf l) := kg_ground ht hB
  rw [stepsT_cons] at hs
  by_cases h0 : (stepT 1 (groundOf l) x).2 = 0
  rotate_left
  · rw [if_neg h0] at hs
    exact absurd (Prod.mk.inj hs).2 h0
  rw [if_pos h0] at hs
  have hs1 : (stepT 1 (groundOf l) x).1 = g := (Prod.mk.inj hs).1
  by_cases hce : (cleanL x.name).2 = 0
  rotate_left
  · rw [stepT_err hce] at h0
    exact absurd h0 hce
  by_cases hp : (cleanL x.name).1 = []
  · rw [stepT_root hce hp, h1] at h0
    cases h0
  rw [stepT_in rfl hce hp hw] at h0 hs1
  have hcc : cleanL (cleanL x.name).1 = ((cleanL x.name).1, 0) := (clean_clean (s := x.name) (by rw [← hce])).2
  cases he : enterG 1 (parentL (cleanL x.name).1) (groundOf l) with
  | none => rw [he] at h0; cases h0
  | some g1 =>
    rw [he] at h0 hs1
    simp only at h0 hs1
    rw [node_file h1] at h0 hs1
    cases hma : mayN ⟨(cleanL x.name).1, 1, x.mode, x.data⟩
    · rw [hma] at h0
      cases h0
    · rw [hma, if_pos rfl, if_pos rfl] at hs1
      have k1 := (enterG_kg B 1 _ (parentL (cleanL x.name).1) _ g1 (Nat.le_refl _) (clean_parent hcc) hkl he).1
      have hv : V g (cleanL x.name).1 = some ⟨(cleanL x.name).1, 1, x.mode, x.data⟩ := by
        rw [← hs1]
        unfold layG
        rw [v_put (by split; exact rise_filter k1.r _; exact k1.r), if_pos rfl]
      have hv0 := hgr (cleanL x.name).1
      rw [hv] at hv0
      obtain ⟨g2, e2, v2, r2⟩ := enter_same B 1 _ (parentL (cleanL x.name).1) _ (Nat.le_refl _) hkg (par_of hkg hv0)
      have hd : isDir g2 (cleanL x.name).1 = false := by
        have h9 := v2 (cleanL x.name).1
        rw [hv0] at h9
        obtain ⟨q, q1, q2, _⟩ := v_some h9
        unfold isDir
        rw [q1]
        simp [q2]
      have hla : layG 1 g2 ⟨(cleanL x.name).1, 1, x.mode, x.data⟩ = putG g2 ⟨⟨(cleanL x.name).1, 1, x.mode, x.data⟩, 1⟩ := by
        unfold layG
        rw [hd, Bool.false_and, if_neg (by decide)]
      have hst : stepT 1 (groundOf (g.map Pl.nd)) x = (putG g2 ⟨⟨(cleanL x.name).1, 1, x.mode, x.data⟩, 1⟩, 0) := by
        rw [stepT_in rfl hce hp hw, e2]
        simp only
        rw [node_file h1, hma, if_pos rfl, if_pos rfl, hla]
      refine again_of (g2 := putG g2 ⟨⟨(cleanL x.name).1, 1, x.mode, x.data⟩, 1⟩) hg hl (by simp) (by rw [stepsT_cons, hst]; rfl) (rise_put r2 _) fun s => ?_
      rw [v_put r2]
      split
      · rename_i e
        have e' : s = (cleanL x.name).1 := e
        rw [e', hv]
      · rw [v2, hgr]
/-! ### No dots -/
theorem mem_join {b : UInt8} {p : List UInt8} : ∀ {l : List (List UInt8)}, p ∈ l → b ∈ p → b ∈ joinL l
  | x :: r, hp, hb => by
    show b ∈ x ++ tailL r
    rw [List.mem_append]
    rcases List.mem_cons.1 hp with rfl | hp
    · exact .inl hb
    · exact .inr (List.mem_flatten.2 ⟨47 :: p, List.mem_map.2 ⟨p, hp, rfl⟩, List.mem_cons_of_mem _ hb⟩)
theorem step_dots {l l' : List (List UInt8)} {x : List UInt8} (h : stepP (some l) x = some l') (hx : (46 : UInt8) ∉ x) (hl : ∀ y ∈ l, (46 : UInt8) ∉ y) : ∀ y ∈ l', (46 : UInt8) ∉ y := by
  unfold stepP at h
  simp only at h
  split at h
  · cases h
    exact hl
  · split at h
    · rename_i e
      rw [e] at hx
      exact absurd (by decide) hx
    · split at h
      · cases h
      · cases h
        intro y hy
        rcases List.mem_append.1 hy with hy | hy
        · exact hl y hy
        · rw [List.mem_singleton.1 hy]
          exact hx
theorem fold_dots : ∀ (ps l l' : List (List UInt8)), (∀ p ∈ ps, (46 : UInt8) ∉ p) → (∀ y ∈ l, (46 : UInt8) ∉ y) → ps.foldl stepP (some l) = some l' → ∀ y ∈ l', (46 : UInt8) ∉ y
  | [], l, l', _, hl, h => by
    have e : l = l' := Option.some.inj h
    rw [← e]
    exact hl
  | x :: r, l, l', hp, hl, h => by
    rw [List.foldl_cons] at h
    cases hs : stepP (some l) x with
    | none =>
      rw [hs, fold_none] at h
      cases h
    | some m =>
      rw [hs] at h
      exact fold_dots r m l' (fun p hp' => hp p (by simp [hp'])) (step_dots hs (hp x (by simp)) hl) h
theorem white_free {s : List UInt8} (hc : (cleanL s).2 = 0) (h : (46 : UInt8) ∉ s) : (whiteL (baseL (cleanL s).1)).2.2 = false := by
  obtain ⟨l, hf, hg, ht, _⟩ := clean_some (s := s) (t := (cleanL s).1) (by rw [← hc])
  have hd := fold_dots (cutL s 47) [] l (fun p hp hb => h (by rw [← join_cut s]; exact mem_join hp hb)) (fun y hy => by cases hy) hf
  rw [ht]
  rcases List.eq_nil_or_concat l with rfl | ⟨m, x, rfl⟩
  · decide +kernel
  · rw [List.concat_eq_append] at *
    rw [(good_parent hg).2]
    have hx := hd x (by simp)
    rcases white_cases x with ⟨e, _⟩ | ⟨n, e, _⟩ | e
    · rw [e] at hx
      exact absurd (by decide) hx
    · rw [e] at hx
      exact absurd (by simp [whB]) hx
    · rw [e]
theorem steps_clean {k : Int} : ∀ (l : List En) (g : List Pl), (stepsT k g l).2 = 0 → ∀ x ∈ l, (cleanL x.name).2 = 0
  | [], _, _, x, hx => by cases hx
  | y :: r, g, h, x, hx => by
    rw [stepsT_cons] at h
    by_cases h0 : (stepT k g y).2 = 0
    rotate_left
    · rw [if_neg h0] at h
      exact absurd h h0
    · rw [if_pos h0] at h
      rcases List.mem_cons.1 hx with rfl | hx
      · by_cases hce : (cleanL x.name).2 = 0
        · exact hce
        · rw [stepT_err hce] at h0
          exact absurd h0 hce
      · exact steps_clean r _ h x hx
/-- Directories alone, or just one file, and no dots in their names. -/
structure PlainE (x : List En) : Prop where
  e : ∀ y ∈ x, (y.kind = 1 ∨ y.kind = 2) ∧ (46 : UInt8) ∉ y.name
  o : x.length ≤ 1 ∨ ∀ y ∈ x, y.kind = 2
/-- A plain layer, laid twice. -/
theorem again_plain {B : Nat} {l : List Nd} {x : List En} (hl : checkT l = 0) (hB : ∀ n ∈ l, n.data.length ≤ B) (hx : ∀ y ∈ x, y.data.length ≤ B ∧ y.to.length ≤ B) (h : (applyT l x).2 = 0) (hp : PlainE x) : applyT (applyT l x).1 x = ((applyT l x).1, 0) := by
  obtain ⟨g, hg, h4, h2, hs, ha⟩ := apply_kg hl hB hx h
  obtain ⟨_, ht⟩ := check_zero hl
  rw [ha]
  have h0 : (stepsT 1 (groundOf l) x).2 = 0 := by rw [hs]
  have hall : (∀ y ∈ x, y.kind = 2) → applyT (g.map Pl.nd) x = (g.map Pl.nd, 0) := fun hk => by
    refine again_dirs hg h4 h2 hs fun y hy => ⟨hk y hy, ?_⟩
    exact white_free (steps_clean x _ h0 y hy) (hp.e y hy).2
  rcases hp.o with ho | ho
  · match x, ho, hall with
    | [], _, hall => exact hall (fun y hy => by cases hy)
    | [y], _, hall =>
      obtain ⟨hk, hd⟩ := hp.e y (by simp)
      rcases hk with hk | hk
      · exact again_file ht hB hg h4 hs hk (white_free (steps_clean [y] _ h0 y (by simp)) hd)
      · exact hall (fun z hz => by rw [List.mem_singleton.1 hz]; exact hk)
  · exact hall ho
/-- A layer without entries. -/
theorem again_none {B : Nat} {l : List Nd} {x : List En} (hl : checkT l = 0) (hB : ∀ n ∈ l, n.data.length ≤ B) (hx : ∀ y ∈ x, y.data.length ≤ B ∧ y.to.length ≤ B) (h : (applyT l x).2 = 0) : applyT (applyT l x).1 [] = ((applyT l x).1, 0) ∧ checkT (applyT l x).1 = 0 ∧ ∀ n ∈ (applyT l x).1, n.data.length ≤ B := by
  obtain ⟨g, hg, h4, _, _, ha⟩ := apply_kg hl hB hx h
  rw [ha]
  have hc := kg_check hg h4
  refine ⟨again_of (g2 := groundOf (g.map Pl.nd)) hg h4 (by simp) rfl (ground_rise _) (v_ground (check_zero hc).2), hc, fun n hn => ?_⟩
  obtain ⟨p, hp, rfl⟩ := List.mem_map.1 hn
  exact hg.d p hp
end Go.Proofs.YtbjgmkjinnbokaaGreatDoor
#print axioms Go.Proofs.YtbjgmkjinnbokaaGreatDoor.again_plain

