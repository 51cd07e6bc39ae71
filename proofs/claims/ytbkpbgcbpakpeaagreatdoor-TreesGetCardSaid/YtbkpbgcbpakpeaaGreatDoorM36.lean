/- Merged: UvV, UvT. -/
import Derived.Test.YtbkpbgcbpakpeaaGreatDoorM04
import Derived.Test.YtbkpbgcbpakpeaaGreatDoorM35
import Derived.Test.YtbkpbgcbpakpeaaGreatDoorM30
/- Layer 16, plainly: the document's place and what the program's reader has left. -/
namespace Go.Proofs.YtbkpbgcbpakpeaaGreatDoor

theorem at_on {s : List UInt8} {i k : Nat} (hi : i ≤ s.length) (h : takeO k (s.drop i) false = false) : atN s i k = i + k ∧ i + k ≤ s.length ∧ takeR k (s.drop i) = s.drop (i + k) := by
  unfold takeO at h
  rw [Bool.or_false, decide_eq_false_iff_not, List.length_drop] at h
  unfold atN takeR
  rw [if_neg (by omega), if_neg (by rw [List.length_drop]; omega), List.drop_drop]
  exact ⟨rfl, by omega, rfl⟩
theorem at_off {s : List UInt8} {i k : Nat} (hi : i ≤ s.length) (h : takeO k (s.drop i) false = true) : atN s i k = s.length + 1 := by
  unfold takeO at h
  rw [Bool.or_false, decide_eq_true_eq, List.length_drop] at h
  unfold atN
  rw [if_pos (by omega)]
theorem at_stays {s : List UInt8} {k : Nat} : atN s (s.length + 1) k = s.length + 1 := by
  unfold atN
  rw [if_pos (by omega)]
/-- The places of a node's six parts. -/
def p1 (s : List UInt8) (i : Nat) : Nat := atN s i 1
def p2 (s : List UInt8) (i : Nat) : Nat := atN s (p1 s i) 2
def pL (s : List UInt8) (i : Nat) : Nat := getN (takeV 1 (s.drop (p2 s i)))
def p3 (s : List UInt8) (i : Nat) : Nat := atN s (p2 s i) 1
def p4 (s : List UInt8) (i : Nat) : Nat := atN s (p3 s i) (pL s i)
def pD (s : List UInt8) (i : Nat) : Nat := getN (takeV 4 (s.drop (p4 s i)))
def p5 (s : List UInt8) (i : Nat) : Nat := atN s (p4 s i) 4
def p6 (s : List UInt8) (i : Nat) : Nat := atN s (p5 s i) (pD s i)
def pX (s : List UInt8) (i : Nat) : Nd := ⟨takeV (pL s i) (s.drop (p3 s i)), (getN (takeV 1 (s.drop i)) : Nat), (getN (takeV 2 (s.drop (p1 s i))) : Nat), takeV (pD s i) (s.drop (p5 s i))⟩
/-- One step: either the reader goes on and the places agree, or it is off and the place stays behind the end. -/
theorem step_at {s : List UInt8} {i k : Nat} (hi : i ≤ s.length) : (takeO k (s.drop i) false = false ∧ atN s i k ≤ s.length ∧ takeR k (s.drop i) = s.drop (atN s i k)) ∨ (takeO k (s.drop i) false = true ∧ atN s i k = s.length + 1) := by
  cases h : takeO k (s.drop i) false
  · obtain ⟨h1, h2, h3⟩ := at_on hi h
    exact .inl ⟨rfl, by rw [h1]; exact h2, by rw [h1]; exact h3⟩
  · exact .inr ⟨rfl, at_off hi h⟩
theorem p6_off5 {s : List UInt8} {i : Nat} (h : p5 s i = s.length + 1) : p6 s i = s.length + 1 := by unfold p6; rw [h]; exact at_stays
theorem p6_off4 {s : List UInt8} {i : Nat} (h : p4 s i = s.length + 1) : p6 s i = s.length + 1 := p6_off5 (by unfold p5; rw [h]; exact at_stays)
theorem p6_off3 {s : List UInt8} {i : Nat} (h : p3 s i = s.length + 1) : p6 s i = s.length + 1 := p6_off4 (by unfold p4; rw [h]; exact at_stays)
theorem p6_off2 {s : List UInt8} {i : Nat} (h : p2 s i = s.length + 1) : p6 s i = s.length + 1 := p6_off3 (by unfold p3; rw [h]; exact at_stays)
theorem p6_off1 {s : List UInt8} {i : Nat} (h : p1 s i = s.length + 1) : p6 s i = s.length + 1 := p6_off2 (by unfold p2; rw [h]; exact at_stays)
theorem takeO_true (k : Nat) (R : List UInt8) : takeO k R true = true := by
  unfold takeO
  rw [Bool.or_true]
/-- A node read by the one and by the other. -/
theorem node_same {s : List UInt8} {i : Nat} (hi : i ≤ s.length) : (rO (s.drop i) false = false ∧ p6 s i ≤ s.length ∧ rR6 (s.drop i) = s.drop (p6 s i) ∧ pX s i = rX (s.drop i)) ∨ (rO (s.drop i) false = true ∧ p6 s i = s.length + 1) := by
  have hO : rO (s.drop i) false = takeO (rD (s.drop i)) (rR5 (s.drop i)) (takeO 4 (rR4 (s.drop i)) (takeO (rL (s.drop i)) (rR3 (s.drop i)) (takeO 1 (rR2 (s.drop i)) (takeO 2 (rR1 (s.drop i)) (takeO 1 (s.drop i) false))))) := rfl
  rcases step_at (k := 1) hi with ⟨o1, l1, e1⟩ | ⟨o1, f1⟩
  rotate_left
  · exact .inr ⟨by rw [hO, o1]; simp only [takeO_true], p6_off1 f1⟩
  have e1' : rR1 (s.drop i) = s.drop (p1 s i) := e1
  rw [e1', o1] at hO
  rcases step_at (s := s) (i := p1 s i) (k := 2) l1 with ⟨o2, l2, e2⟩ | ⟨o2, f2⟩
  rotate_left
  · exact .inr ⟨by rw [hO, o2]; simp only [takeO_true], p6_off2 f2⟩
  have e2' : rR2 (s.drop i) = s.drop (p2 s i) := by
    show takeR 2 (rR1 (s.drop i)) = _
    rw [e1']
    exact e2
  rw [e2', o2] at hO
  have eL : rL (s.drop i) = pL s i := by
    show getN (takeV 1 (rR2 (s.drop i))) = _
    rw [e2']
    rfl
  rw [eL] at hO
  rcases step_at (s := s) (i := p2 s i) (k := 1) l2 with ⟨o3, l3, e3⟩ | ⟨o3, f3⟩
  rotate_left
  · exact .inr ⟨by rw [hO, o3]; simp only [takeO_true], p6_off3 f3⟩
  have e3' : rR3 (s.drop i) = s.drop (p3 s i) := by
    show takeR 1 (rR2 (s.drop i)) = _
    rw [e2']
    exact e3
  rw [e3', o3] at hO
  rcases step_at (s := s) (i := p3 s i) (k := pL s i) l3 with ⟨o4, l4, e4⟩ | ⟨o4, f4⟩
  rotate_left
  · exact .inr ⟨by rw [hO, o4]; simp only [takeO_true], p6_off4 f4⟩
  have e4' : rR4 (s.drop i) = s.drop (p4 s i) := by
    show takeR (rL (s.drop i)) (rR3 (s.drop i)) = _
    rw [e3', eL]
    exact e4
  rw [e4', o4] at hO
  have eD : rD (s.drop i) = pD s i := by
    show getN (takeV 4 (rR4 (s.drop i))) = _
    rw [e4']
    rfl
  rw [eD] at hO
  rcases step_at (s := s) (i := p4 s i) (k := 4) l4 with ⟨o5, l5, e5⟩ | ⟨o5, f5⟩
  rotate_left
  · exact .inr ⟨by rw [hO, o5]; simp only [takeO_true], p6_off5 f5⟩
  have e5' : rR5 (s.drop i) = s.drop (p5 s i) := by
    show takeR 4 (rR4 (s.drop i)) = _
    rw [e4']
    exact e5
  rw [e5', o5] at hO
  rcases step_at (s := s) (i := p5 s i) (k := pD s i) l5 with ⟨o6, l6, e6⟩ | ⟨o6, f6⟩
  rotate_left
  · exact .inr ⟨by rw [hO, o6], f6⟩
  refine .inl ⟨by rw [hO, o6], l6, ?_, ?_⟩
  · show takeR (rD (s.drop i)) (rR5 (s.drop i)) = _
    rw [e5', eD]
    exact e6
  · simp only [pX, rX]
    rw [e1', e3', e5', eL, eD]
end Go.Proofs.YtbkpbgcbpakpeaaGreatDoor

/- Layer 16: the program's Get. -/
namespace Go.Proofs.YtbkpbgcbpakpeaaGreatDoor
open Go.RowKit
attribute [local go_sem] wide_fn round_fn

def get16 (s : List UInt8) : List Nd × Int :=
  match readS s with
  | none => ([], 10)
  | some (l, _) => if put16 l = (s, 0) then (l, 0) else ([], 10)
set_option maxRecDepth 100000 in
set_option maxHeartbeats 8000000 in
theorem get16_any (s : List UInt8) (hs : s.length ≤ 100000) (w : World) :
    Calls Tryz.prog 18 #[.string (str s)] w fun e w' => (∃ a c, e = .returned (.tuple #[.slice a (get16 s).1.length c, .int .i64 (get16 s).2]) ∧ NodesAt w' a (get16 s).1) ∧ Below w.heap.size w w' := by
  have CR := readNodes_any s w
  have HG : Hid (get16 s = match readS s with | none => ([], 10) | some (l, _) => if put16 l = (s, 0) then (l, 0) else ([], 10)) := Lib.hid rfl
  obtain ⟨Z, hZ⟩ : ∃ Z, Z = get16 s := ⟨_, rfl⟩
  rw [← hZ] at HG ⊢
  clear hZ
  cases hr : readS s with
  | none =>
    have C1 : Calls Tryz.prog 34 #[.string (str s)] w fun e w' => (∃ v, e = .returned (.tuple #[v, .bool false])) ∧ Below w.heap.size w w' := CR.mono fun e w' ⟨h, hb⟩ => ⟨(by
      rcases h with ⟨l, R, a, c, h1, _⟩ | ⟨v, _, h2⟩
      · rw [hr] at h1
        cases h1
      · exact ⟨v, h2⟩), hb⟩
    rw [hr] at HG
    clear CR hr hs
    go_enter Tryz.func18, Tryz.ntmps18
    go_wp2_with (go_at_call 34; ((with_reducible refine C1.mono ?_); rintro e w1 ⟨⟨v, rfl⟩, hb1⟩))
    go_ret2
    exact ⟨⟨none, 0, by rw [HG.out]; rfl, by rw [HG.out]; exact NodesAt.nil _ _⟩, hb1⟩
  | some p =>
    obtain ⟨l, R⟩ := p
    have C1 : Calls Tryz.prog 34 #[.string (str s)] w fun e w' => (∃ a c, e = .returned (.tuple #[.slice a l.length c, .bool true]) ∧ l.length ≤ c ∧ NodesAt w' a l ∧ l.length < 65536 ∧ ∀ x ∈ l, x.path.length ≤ s.length ∧ x.data.length ≤ s.length) ∧ Below w.heap.size w w' := CR.mono fun e w' ⟨h, hb⟩ => ⟨(by
      rcases h with ⟨l', R', a, c, h1, h2, h3, h4, _, h5⟩ | ⟨v, h1, _⟩
      · rw [hr] at h1
        cases h1
        exact ⟨a, c, h2, h3, h4, h5⟩
      · rw [hr] at h1
        cases h1), hb⟩
    rw [hr] at HG
    replace HG : Hid (Z = if put16 l = (s, 0) then (l, 0) else ([], 10)) := Lib.hid HG.out
    clear CR hr
    go_enter Tryz.func18, Tryz.ntmps18
    go_upto_region 4 with (go_at_call 34; ((with_reducible refine C1.mono ?_); rintro e w1 ⟨⟨a, c, rfl, hcap, hna, hlz, hxz⟩, hb1⟩))
    have CP := put16_any l a c (by unfold maxLen; omega) hcap (fun x hx => by have := hxz x hx; omega) w1 hna
    have CC := fun (W : World) (hb : Below w1.heap.size w1 W) => clones_any l a c (by omega) (fun x hx => by have := hxz x hx; omega) W (hna.below hb)
    have HB1 := Lib.hid hb1
    have q := eq_strs (put16 l).1 s
    have HPS : Hid (put16 l = ((put16 l).1, (put16 l).2)) := Lib.hid rfl
    generalize (put16 l).1 = PS at *
    generalize (put16 l).2 = PE at *
    rw [HPS.out] at HG
    obtain ⟨N, hN⟩ : ∃ N, N = l.length := ⟨_, rfl⟩
    have HNL := Lib.hid hN
    rw [← hN] at CP CC ⊢
    clear hcap hlz hxz hb1 hna C1 HPS hN hs
    by_cases hE : PE = 0
    · subst hE
      by_cases hS : PS = s
      · have HZ := Lib.hid (HG.out.trans (if_pos (by rw [hS])))
        rw [decide_eq_true hS] at q
        clear hS HG
        go_wp2_with (first
          | (go_at_call 8; ((with_reducible refine CP.mono ?_); rintro e w2 ⟨rfl, hb2⟩))
          | (go_at_call 35; ((with_reducible refine (CC _ hb2).mono ?_); rintro e w3 ⟨⟨a3, c3, rfl, hn3⟩, hb3⟩)))
        go_ret2
        exact ⟨⟨a3, c3, by rw [HZ.out, HNL.out]; rfl, by rw [HZ.out]; exact hn3⟩, HB1.out.trans ((hb2.trans (hb3.mono hb2.size)).mono HB1.out.size)⟩
      · have HZ := Lib.hid (HG.out.trans (if_neg (fun h => hS (Prod.mk.inj h).1)))
        rw [decide_eq_false hS] at q
        clear hS HG
        go_wp2_with (go_at_call 8; ((with_reducible refine CP.mono ?_); rintro e w2 ⟨rfl, hb2⟩))
        go_ret2
        exact ⟨⟨none, 0, by rw [HZ.out]; rfl, by rw [HZ.out]; exact NodesAt.nil _ _⟩, HB1.out.trans (hb2.mono HB1.out.size)⟩
    · have g : (PE == (0 : Int)) = false := by rw [beq_eq_false_iff_ne]; exact hE
      have HZ := Lib.hid (HG.out.trans (if_neg (fun h => hE (Prod.mk.inj h).2)))
      clear HG
      go_wp2_with (go_at_call 8; ((with_reducible refine CP.mono ?_); rintro e w2 ⟨rfl, hb2⟩))
      go_ret2
      exact ⟨⟨none, 0, by rw [HZ.out]; rfl, by rw [HZ.out]; exact NodesAt.nil _ _⟩, HB1.out.trans (hb2.mono HB1.out.size)⟩
end Go.Proofs.YtbkpbgcbpakpeaaGreatDoor

