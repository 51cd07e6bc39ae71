/- Merged: UvW, UvX. -/
import Derived.Test.YtbkpbgcbpakpeaaGreatDoorM36
import Derived.Test.YtbkpbgcbpakpeaaGreatDoorM34
/- Layer 16, plainly: what both Gets read is one. -/
namespace Go.Proofs.YtbkpbgcbpakpeaaGreatDoor

/-- What the document reads from a place on. -/
def docN (s : List UInt8) : Nat → Nat → List Nd × Nat
  | 0, i => ([], i)
  | n + 1, i => if s.length < i then ([], i) else (pX s i :: (docN s n (p6 s i)).1, (docN s n (p6 s i)).2)
theorem docN_past (s : List UInt8) (n : Nat) : docN s n (s.length + 1) = ([], s.length + 1) := by
  cases n with
  | zero => rfl
  | succ n => rw [docN, if_pos (by omega)]
theorem docN_same (s : List UInt8) : ∀ (n i : Nat), i ≤ s.length → ((readN n (s.drop i)).2.2 = false ∧ (docN s n i).1 = (readN n (s.drop i)).1 ∧ (docN s n i).2 ≤ s.length ∧ (readN n (s.drop i)).2.1 = s.drop (docN s n i).2) ∨ ((readN n (s.drop i)).2.2 = true ∧ (docN s n i).2 = s.length + 1)
  | 0, i, hi => .inl ⟨rfl, rfl, hi, rfl⟩
  | n + 1, i, hi => by
    rw [docN, if_neg (by omega), readN]
    rcases node_same hi with ⟨h1, h2, h3, h4⟩ | ⟨h1, h2⟩
    · rw [if_neg (by rw [h1]; decide), h3]
      rcases docN_same s n (p6 s i) h2 with ⟨q1, q2, q3, q4⟩ | ⟨q1, q2⟩
      · exact .inl ⟨q1, by rw [q2, h4], q3, q4⟩
      · exact .inr ⟨q1, q2⟩
    · rw [if_pos h1]
      exact .inr ⟨rfl, by rw [h2, docN_past]⟩
theorem readN_no {n : Nat} {R : List UInt8} (h : rO R false = true) : (readN (n + 1) R).2.2 = true := by
  rw [readN, if_pos h]
theorem readN_yes {n : Nat} {R : List UInt8} (h : rO R false = false) : readN (n + 1) R = (rX R :: (readN n (rR6 R)).1, (readN n (rR6 R)).2) := by
  rw [readN, if_neg (by rw [h]; decide)]
theorem put_step {n : Nat} {R R6 : List UInt8} {x : Nd} {q : List Nd × List UInt8 × Bool} (hw : R = nodeW x ++ R6) (h1 : R6 = nodesW q.1 ++ q.2.1) (h2 : q.1.length = n) : R = nodesW (x :: q.1, q.2).1 ++ (x :: q.1, q.2).2.1 ∧ (x :: q.1, q.2).1.length = n + 1 := by
  refine ⟨?_, by simp [h2]⟩
  have e : nodesW (x :: q.1) = nodeW x ++ nodesW q.1 := by simp [nodesW]
  show R = nodesW (x :: q.1) ++ q.2.1
  rw [e, List.append_assoc, ← h1]
  exact hw
theorem readN_put (n : Nat) : ∀ (R : List UInt8), (readN n R).2.2 = false → R = nodesW (readN n R).1 ++ (readN n R).2.1 ∧ (readN n R).1.length = n := by
  induction n with
  | zero =>
    intro R _
    simp [readN, nodesW]
  | succ n ih =>
    intro R h
    rcases (Bool.eq_false_or_eq_true (rO R false)).symm with ho | ho
    · have e := readN_yes (n := n) ho
      have hw := (node_whole ho).1
      generalize readN (n + 1) R = q at *
      subst e
      obtain ⟨h1, h2⟩ := ih (rR6 R) h
      exact put_step hw h1 h2
    · have e := readN_no (n := n) ho
      exact absurd (h.symm.trans e) (by decide)
/-- What the document's Get tells. -/
def docG (s : List UInt8) : List Nd × Int :=
  if (docN s (getN (takeV 2 s)) (atN s 0 2)).2 = s.length ∧ checkT (docN s (getN (takeV 2 s)) (atN s 0 2)).1 = 0 then ((docN s (getN (takeV 2 s)) (atN s 0 2)).1, 0) else ([], 10)
theorem get_same {s : List UInt8} (hs : s.length ≤ 65000) : docG s = get16 s := by
  unfold get16 readS docG
  cases ho : takeO 2 s false
  · have h2 := at_on (s := s) (i := 0) (k := 2) (Nat.zero_le _) ho
    rw [Nat.zero_add, List.drop_zero] at h2
    obtain ⟨a1, a2, a3⟩ := h2
    rw [if_neg (show ¬ (false = true) by decide), a1, a3]
    obtain ⟨l2, e2, _⟩ := takeO_no ho
    rw [a3] at e2
    rcases docN_same s (getN (takeV 2 s)) 2 a2 with ⟨q1, q2, q3, q4⟩ | ⟨q1, q2⟩
    · rw [q1, if_neg (show ¬ (false = true) by decide)]
      obtain ⟨r1, r2⟩ := readN_put _ _ q1
      rw [q2]
      generalize hl : (readN (getN (takeV 2 s)) (s.drop 2)).1 = l at *
      rw [q4] at r1
      generalize (docN s (getN (takeV 2 s)) 2).2 = j at *
      have hb : bytesK l l.length ++ s.drop j = s := by
        unfold bytesK
        rw [List.take_length, r2, putL_getN l2 (by decide), List.append_assoc, ← r1]
        exact e2
      have hlen : (bytesK l l.length).length + (s.length - j) = s.length := by
        have := congrArg List.length hb
        rwa [List.length_append, List.length_drop] at this
      have hput : put16 l = if checkT l = 0 then (bytesK l l.length, 0) else ([], checkT l) := by
        unfold put16
        by_cases hc : checkT l = 0
        · rw [if_pos hc, if_pos hc, if_neg (show ¬ 65000 < (bytesK l l.length).length by omega)]
        · rw [if_neg hc, if_neg hc]
      show (if j = s.length ∧ checkT l = 0 then (l, 0) else ([], 10)) = if put16 l = (s, 0) then (l, 0) else ([], 10)
      have hiff : (j = s.length ∧ checkT l = 0) ↔ put16 l = (s, 0) := by
        rw [hput]
        by_cases hc : checkT l = 0
        · rw [if_pos hc]
          constructor
          · intro h
            rw [h.1, List.drop_length, List.append_nil] at hb
            rw [hb]
          · intro h
            have h9 : (bytesK l l.length).length = s.length := congrArg List.length (Prod.mk.inj h).1
            exact ⟨by omega, hc⟩
        · rw [if_neg hc]
          exact ⟨fun h => absurd h.2 hc, fun h => absurd (Prod.mk.inj h).2 hc⟩
      by_cases hp : put16 l = (s, 0)
      · rw [if_pos hp, if_pos (hiff.2 hp)]
      · rw [if_neg hp, if_neg (fun h => hp (hiff.1 h))]
    · rw [if_pos q1, if_neg (fun h => by have h1 := h.1; rw [q2] at h1; omega)]
  · have h2 := at_off (s := s) (i := 0) (k := 2) (Nat.zero_le _) ho
    rw [if_pos (show true = true from rfl), h2, docN_past, if_neg (fun h => by have h1 : s.length + 1 = s.length := h.1; omega)]
end Go.Proofs.YtbkpbgcbpakpeaaGreatDoor

/- Layer 16: the document's Get, walked. -/
namespace Go.Proofs.YtbkpbgcbpakpeaaGreatDoor
open Go.RowKit
attribute [local go_sem] wide_fn round_fn

def joinD (l : List Nd) (p : List Nd × Nat) : List Nd × Nat := (l ++ p.1, p.2)
theorem docN_off {s : List UInt8} {i : Nat} (n : Nat) (l : List Nd) (h : s.length < i) : joinD l (docN s n i) = (l, i) := by
  cases n with
  | zero => unfold joinD docN; rw [List.append_nil]
  | succ n => unfold joinD; rw [docN, if_pos h, List.append_nil]
theorem docN_end {s : List UInt8} {i : Nat} (l : List Nd) : joinD l (docN s 0 i) = (l, i) := by
  unfold joinD docN
  rw [List.append_nil]
theorem docN_on {s : List UInt8} {n i : Nat} (l : List Nd) (h : i ≤ s.length) : joinD l (docN s (n + 1) i) = joinD (l ++ [pX s i]) (docN s n (p6 s i)) := by
  rw [docN, if_neg (by omega)]
  unfold joinD
  rw [List.append_assoc]
  rfl
theorem atN_le (s : List UInt8) (i k : Nat) : atN s i k ≤ s.length + 1 := by
  unfold atN
  split <;> omega
theorem p1_le (s : List UInt8) (i : Nat) : p1 s i ≤ s.length + 1 := atN_le s i 1
theorem p2_le (s : List UInt8) (i : Nat) : p2 s i ≤ s.length + 1 := atN_le s _ 2
theorem p3_le (s : List UInt8) (i : Nat) : p3 s i ≤ s.length + 1 := atN_le s _ 1
theorem p4_le (s : List UInt8) (i : Nat) : p4 s i ≤ s.length + 1 := atN_le s _ _
theorem p5_le (s : List UInt8) (i : Nat) : p5 s i ≤ s.length + 1 := atN_le s _ 4
theorem p6_le (s : List UInt8) (i : Nat) : p6 s i ≤ s.length + 1 := atN_le s _ _
theorem takeV_drop_len (s : List UInt8) (k i : Nat) : (takeV k (s.drop i)).length ≤ s.length := by
  have h1 := takeV_len k (s.drop i)
  rw [List.length_drop] at h1
  omega
theorem pX_len (s : List UInt8) (i : Nat) : (pX s i).path.length ≤ s.length ∧ (pX s i).data.length ≤ s.length := by
  have e1 : (pX s i).path = takeV (pL s i) (s.drop (p3 s i)) := by simp only [pX]
  have e2 : (pX s i).data = takeV (pD s i) (s.drop (p5 s i)) := by simp only [pX]
  rw [e1, e2]
  exact ⟨takeV_drop_len s _ _, takeV_drop_len s _ _⟩
/-- A node's six calls. -/
theorem node_calls (s : List UInt8) (i : Nat) (hs : s.length ≤ 65000) (hi : i ≤ s.length) :
    ∃ (V1 P1 V2 P2 K P3 : Nat) (PA : List UInt8) (P4 D P5 : Nat) (DA : List UInt8) (P6 : Nat),
      pX s i = ⟨PA, (V1 : Nat), (V2 : Nat), DA⟩ ∧ p6 s i = P6 ∧ P6 ≤ s.length + 1 ∧
      (∀ W, Calls Tryz.prog 36 #[.string (str s), .int .i64 (i : Int), .int .i64 1] W fun e w' => e = .returned (.tuple #[.int .i64 (V1 : Int), .int .i64 (P1 : Int)]) ∧ W = w') ∧
      (∀ W, Calls Tryz.prog 36 #[.string (str s), .int .i64 (P1 : Int), .int .i64 2] W fun e w' => e = .returned (.tuple #[.int .i64 (V2 : Int), .int .i64 (P2 : Int)]) ∧ W = w') ∧
      (∀ W, Calls Tryz.prog 36 #[.string (str s), .int .i64 (P2 : Int), .int .i64 1] W fun e w' => e = .returned (.tuple #[.int .i64 (K : Int), .int .i64 (P3 : Int)]) ∧ W = w') ∧
      (∀ W, Calls Tryz.prog 37 #[.string (str s), .int .i64 (P3 : Int), .int .i64 (K : Int)] W fun e w' => e = .returned (.tuple #[.string (str PA), .int .i64 (P4 : Int)]) ∧ W = w') ∧
      (∀ W, Calls Tryz.prog 36 #[.string (str s), .int .i64 (P4 : Int), .int .i64 4] W fun e w' => e = .returned (.tuple #[.int .i64 (D : Int), .int .i64 (P5 : Int)]) ∧ W = w') ∧
      (∀ W, Calls Tryz.prog 37 #[.string (str s), .int .i64 (P5 : Int), .int .i64 (D : Int)] W fun e w' => e = .returned (.tuple #[.string (str DA), .int .i64 (P6 : Int)]) ∧ W = w') :=
  have h1 := p1_le s i
  have h2 := p2_le s i
  have h3 := p3_le s i
  have h4 := p4_le s i
  have h5 := p5_le s i
  have hK : pL s i < 4294967296 := getN_small (takeV_le 1 _) (by decide)
  have hD : pD s i < 4294967296 := getN_small (takeV_le 4 _) (by decide)
  ⟨getN (takeV 1 (s.drop i)), p1 s i, getN (takeV 2 (s.drop (p1 s i))), p2 s i, pL s i, p3 s i, takeV (pL s i) (s.drop (p3 s i)), p4 s i, pD s i, p5 s i, takeV (pD s i) (s.drop (p5 s i)), p6 s i,
    by simp only [pX], rfl, p6_le s i,
    fun W => rnum16_any s i 1 (by omega) (by omega) (by decide) W,
    fun W => rnum16_any s (p1 s i) 2 (by omega) (by omega) (by decide) W,
    fun W => rnum16_any s (p2 s i) 1 (by omega) (by omega) (by decide) W,
    fun W => rpart16_any s (p3 s i) (pL s i) (by omega) (by omega) (by omega) W,
    fun W => rnum16_any s (p4 s i) 4 (by omega) (by omega) (by decide) W,
    fun W => rpart16_any s (p5 s i) (pD s i) (by omega) (by omega) (by omega) W⟩
abbrev zeroRN : Array Value := #[.string ⟨#[]⟩, .int .i64 0, .int .i64 0, .string ⟨#[]⟩]
theorem rn_set {W W' : World} {B : Nat} {cs : Array Value} {t : TypeId} (h : rowC W B cs t) (j : Nat) (v : Value) (ds : Array Value) (hW : W' = W.setCell ⟨B, j, none⟩ v) (hd : cs.setIfInBounds j v = ds) : rowC W' B ds t := by
  rw [← hd, hW]
  exact rowC_set h j v
theorem rn_four {w wr W1 W2 W3 W4 W5 : World} {a : Option Addr} {k c : Nat} {l : List Nd} {v1 v2 v0 v3 : Value} (hB : Below w.heap.size w wr) (hO : OwnsD wr w.heap.size (.slice a k c) l) (h1 : W1 = wr.alloc (.cells zeroRN 35))
    (h2 : W2 = W1.setCell ⟨wr.heap.size, 1, none⟩ v1) (h3 : W3 = W2.setCell ⟨wr.heap.size, 2, none⟩ v2) (h4 : W4 = W3.setCell ⟨wr.heap.size, 0, none⟩ v0) (h5 : W5 = W4.setCell ⟨wr.heap.size, 3, none⟩ v3) :
    Below w.heap.size w W5 ∧ OwnsD W5 w.heap.size (.slice a k c) l := by
  have ho1 : OwnsD W1 w.heap.size (.slice a k c) l := by rw [h1]; exact World.ownsRow.alloc (show wr.ownsRow _ _ _ _ _ _ from hO) _
  have hc : Chg (fun q => q = wr.heap.size) W1 W5 := by
    rw [h5, h4, h3, h2]
    exact ((((Chg.refl (fun q => q = wr.heap.size) W1).setCell ⟨wr.heap.size, 1, none⟩ v1 (.inl rfl)).setCell ⟨wr.heap.size, 2, none⟩ v2 (.inl rfl)).setCell ⟨wr.heap.size, 0, none⟩ v0 (.inl rfl)).setCell ⟨wr.heap.size, 3, none⟩ v3 (.inl rfl)
  have hb1 : Below w.heap.size w W1 := by rw [h1]; exact hB.alloc hB.size _
  refine ⟨?_, hc.owns ho1 fun q hq e => ?_⟩
  · rw [h5, h4, h3, h2]
    exact (((hb1.setCell (p := ⟨wr.heap.size, 1, none⟩) hB.size _).setCell (p := ⟨wr.heap.size, 2, none⟩) hB.size _).setCell (p := ⟨wr.heap.size, 0, none⟩) hB.size _).setCell (p := ⟨wr.heap.size, 3, none⟩) hB.size _
  · have e' : q = wr.heap.size := e
    have := (World.ownsRow.lt hO q hq).2
    omega
set_option maxRecDepth 100000 in
set_option maxHeartbeats 16000000 in
theorem rget16_any (s : List UInt8) (hs : s.length ≤ 65000) (w : World) :
    Calls Tryz.prog 19 #[.string (str s)] w fun e w' => (∃ a c, e = .returned (.tuple #[.slice a (docG s).1.length c, .int .i64 (docG s).2]) ∧ NodesAt w' a (docG s).1) ∧ Below w.heap.size w w' := by
  have HI := Lib.hid info_rn4
  obtain ⟨i0, hi, hz0, hz1, hz2⟩ := info_parts info_rn
  have zs := str_size s
  have CN : ∀ W, Calls Tryz.prog 36 #[.string (str s), .int .i64 0, .int .i64 2] W fun e w' => e = .returned (.tuple #[.int .i64 (getN (takeV 2 s) : Nat), .int .i64 (atN s 0 2 : Int)]) ∧ W = w' := fun W => rnum16_any s 0 2 (by omega) (by decide) (by decide) W
  have HNC := Lib.hid (fun i hi => node_calls s i hs hi)
  have HON := Lib.hid (fun (l : List Nd) (n i : Nat) (h : i ≤ s.length) => docN_on (s := s) (n := n) l h)
  have HOF := Lib.hid (fun (l : List Nd) (n i : Nat) (h : s.length < i) => docN_off (s := s) n l h)
  have HOE := Lib.hid (fun (l : List Nd) (i : Nat) => docN_end (s := s) (i := i) l)
  have HXL := Lib.hid (pX_len s)
  have HG : Hid (docG s = if (docN s (getN (takeV 2 s)) (atN s 0 2)).2 = s.length ∧ checkT (docN s (getN (takeV 2 s)) (atN s 0 2)).1 = 0 then ((docN s (getN (takeV 2 s)) (atN s 0 2)).1, 0) else ([], 10)) := Lib.hid rfl
  have hNb : getN (takeV 2 s) < 65536 := by
    have h1 := getK_lt (takeV 2 s) (min (takeV 2 s).length 8)
    have h2 : 256 ^ (min (takeV 2 s).length 8) ≤ 256 ^ 2 := Nat.pow_le_pow_right (by omega) (by have := takeV_le 2 s; omega)
    unfold getN
    exact Nat.lt_of_lt_of_le h1 (by simpa using h2)
  have hI0 : atN s 0 2 ≤ s.length + 1 := atN_le ..
  generalize getN (takeV 2 s) = N at *
  generalize atN s 0 2 = I0 at *
  generalize docG s = Z at *
  obtain ⟨L, hL⟩ : ∃ L, L = s.length := ⟨_, rfl⟩
  rw [← hL] at zs hs hI0 HNC HON HOF HXL HG
  have HLL := Lib.hid hL
  clear hL
  go_enter Tryz.func19, Tryz.ntmps19
  go_upto_region 6 with (go_at_call 36; ((with_reducible refine (CN _).mono ?_); rintro e w1 ⟨rfl, rfl⟩))
  go_loopw [5, 6, 7, 8, 9] (fun p v j _ _ wr => ∃ (i : Nat) (l : List Nd) (a : Option Addr) (c k : Nat), k ≤ N ∧ i ≤ L + 1 ∧ l.length = k ∧ p = .int .i64 (i : Int) ∧ j = .int .i64 (k : Int) ∧ v = .slice a k c ∧ Hid (OwnsD wr w.heap.size (.slice a k c) l) ∧ Hid (Below w.heap.size w wr) ∧ Hid (docN s N I0 = joinD l (docN s (N - k) i)) ∧ Hid (∀ x ∈ l, x.path.length ≤ L ∧ x.data.length ≤ L)) (fun _ _ j _ _ _ => N - (intOf j).toNat)
  case atStart => exact ⟨I0, [], none, 0, 0, Nat.zero_le _, hI0, rfl, rfl, rfl, rfl, Lib.hid (owns_noneD _ _), Lib.hid (Below.refl _ _), Lib.hid (by unfold joinD; rw [Nat.sub_zero]; rfl), Lib.hid (fun x hx => by cases hx)⟩
  case round =>
    obtain ⟨i, l, a, c, k, hk, hiL, hlk, rfl, rfl, rfl, hO, hB, hJ, hX⟩ := hrel
    by_cases hlt : k < N ∧ i ≤ L
    · obtain ⟨hkN, hiL2⟩ := hlt
      obtain ⟨V1, P1, V2, P2, K, P3, PA, P4, D, P5, DA, P6, hpx, hp6, hP6, C1, C2, C3, C4, C5, C6⟩ := HNC.out i hiL2
      have HJ2 : Hid (docN s N I0 = joinD (l ++ [⟨PA, (V1 : Nat), (V2 : Nat), DA⟩]) (docN s (N - (k + 1)) P6)) := Lib.hid (by
        have := HON.out l (N - (k + 1)) i hiL2
        rw [show N - (k + 1) + 1 = N - k by omega, hpx, hp6] at this
        exact hJ.out.trans this)
      have HXX : Hid (PA.length ≤ L ∧ DA.length ≤ L) := Lib.hid (by
        have := HXL.out i
        rw [hpx] at this
        exact this)
      have g1 : (k : Int) < (N : Int) := by omega
      have g2 : (i : Int) ≤ (L : Int) := by omega
      clear hpx hp6 HNC HON HOF HOE HXL HG hiL hiL2 hJ
      obtain ⟨B, hB9⟩ : ∃ B, B = wr.heap.size := ⟨_, rfl⟩
      have HBS := Lib.hid hB9
      clear hB9
      go_upto_region 9 with (fail)
      obtain ⟨W1, hW1⟩ : ∃ W1, W1 = wr.alloc (.cells zeroRN 35) := ⟨_, rfl⟩
      rw [← hW1, ← HBS.out]
      have z1 : rowC W1 B zeroRN 35 := by rw [hW1, HBS.out]; exact rowC_new wr _ _
      have HW1 := Lib.hid hW1
      have q1 : W1.cell? ⟨B, 1, none⟩ = some (.int .i64 0) := rowC_cell z1 1
      have f1 : W1.frozen? ⟨B, 1, none⟩ = false := rowC_free z1 1
      have HZ1 := Lib.hid z1
      clear hW1 z1
      go_upto_region 11 with (go_at_call 36; ((with_reducible refine (C1 _).mono ?_); rintro e w2 ⟨rfl, rfl⟩))
      obtain ⟨W2, hW2⟩ : ∃ W2, W2 = W1.setCell ⟨B, 1, none⟩ (.int .i64 (V1 : Int)) := ⟨_, rfl⟩
      rw [← hW2]
      have z2 := rn_set HZ1.out 1 _ #[.string ⟨#[]⟩, .int .i64 (V1 : Int), .int .i64 0, .string ⟨#[]⟩] hW2 rfl
      have HW2 := Lib.hid hW2
      have q2 : W2.cell? ⟨B, 2, none⟩ = some (.int .i64 0) := rowC_cell z2 2
      have f2 : W2.frozen? ⟨B, 2, none⟩ = false := rowC_free z2 2
      have HZ2 := Lib.hid z2
      clear hW2 z2 q1 f1 HZ1 C1
      go_upto_region 12 with (go_at_call 36; ((with_reducible refine (C2 _).mono ?_); rintro e w2 ⟨rfl, rfl⟩))
      obtain ⟨W3, hW3⟩ : ∃ W3, W3 = W2.setCell ⟨B, 2, none⟩ (.int .i64 (V2 : Int)) := ⟨_, rfl⟩
      rw [← hW3]
      have z3 := rn_set HZ2.out 2 _ #[.string ⟨#[]⟩, .int .i64 (V1 : Int), .int .i64 (V2 : Int), .string ⟨#[]⟩] hW3 rfl
      have HW3 := Lib.hid hW3
      have q3 : W3.cell? ⟨B, 0, none⟩ = some (.string ⟨#[]⟩) := rowC_cell z3 0
      have f3 : W3.frozen? ⟨B, 0, none⟩ = false := rowC_free z3 0
      have HZ3 := Lib.hid z3
      clear hW3 z3 q2 f2 HZ2 C2
      go_upto_region 13 with (go_at_call 36; ((with_reducible refine (C3 _).mono ?_); rintro e w2 ⟨rfl, rfl⟩))
      clear C3
      go_upto_region 14 with (go_at_call 37; ((with_reducible refine (C4 _).mono ?_); rintro e w2 ⟨rfl, rfl⟩))
      obtain ⟨W4, hW4⟩ : ∃ W4, W4 = W3.setCell ⟨B, 0, none⟩ (.string (str PA)) := ⟨_, rfl⟩
      rw [← hW4]
      have z4 := rn_set HZ3.out 0 _ #[.string (str PA), .int .i64 (V1 : Int), .int .i64 (V2 : Int), .string ⟨#[]⟩] hW4 rfl
      have HW4 := Lib.hid hW4
      have q4 : W4.cell? ⟨B, 3, none⟩ = some (.string ⟨#[]⟩) := rowC_cell z4 3
      have f4 : W4.frozen? ⟨B, 3, none⟩ = false := rowC_free z4 3
      have HZ4 := Lib.hid z4
      clear hW4 z4 q3 f3 HZ3 C4
      go_upto_region 15 with (go_at_call 36; ((with_reducible refine (C5 _).mono ?_); rintro e w2 ⟨rfl, rfl⟩))
      clear C5
      go_upto_region 16 with (go_at_call 37; ((with_reducible refine (C6 _).mono ?_); rintro e w2 ⟨rfl, rfl⟩))
      obtain ⟨W5, hW5⟩ : ∃ W5, W5 = W4.setCell ⟨B, 3, none⟩ (.string (str DA)) := ⟨_, rfl⟩
      rw [← hW5]
      obtain ⟨x, hx9⟩ : ∃ x : Nd, x = ⟨PA, (V1 : Nat), (V2 : Nat), DA⟩ := ⟨_, rfl⟩
      have HZ5 : Hid (rowC W5 B (ndA x) 35) := Lib.hid (by rw [hx9]; exact rn_set HZ4.out 3 _ _ hW5 rfl)
      have e2 := HW2.out
      have e3 := HW3.out
      have e4 := HW4.out
      have e5 := hW5
      rw [HBS.out] at e2 e3 e4 e5
      have hrn := rn_four hB.out hO.out HW1.out e2 e3 e4 e5
      rw [← hx9] at HJ2
      have HXX2 : Hid (x.path.length ≤ L ∧ x.data.length ≤ L) := Lib.hid (by rw [hx9]; exact HXX.out)
      have HBW := Lib.hid hrn.1
      have HO5 := Lib.hid hrn.2
      clear e2 e3 e4 e5 hW5 q4 f4 HZ4 C6 HW1 HW2 HW3 HW4 hrn hx9 HXX hO hB HBS
      have HO4 : Hid ((W5.alloc (.cells (ndA x) 35)).ownsRow w.heap.size 35 4 (.slice a k c) k (rowN l)) := Lib.hid (by
        have h2 := World.ownsRow.alloc (show W5.ownsRow _ _ _ _ _ _ from HO5.out) (.cells (ndA x) 35)
        rwa [hlk] at h2)
      have HNEW : Hid (∀ j u, (ndV x)[j]? = some u → (W5.alloc (.cells (ndA x) 35)).cell? ((⟨W5.heap.size, 0, none⟩ : Addr).add j) = some u) := Lib.hid (row_cells (rowC_new W5 (ndA x) 35))
      have HBA : Hid (Below w.heap.size w (W5.alloc (.cells (ndA x) 35))) := Lib.hid (HBW.out.alloc HBW.out.size _)
      clear HO5 HBW
      go_wp2_with (first
        | ((with_reducible show wpList _ _ _ (⟨some 73, .load _ _, _, _, _, _⟩ :: _) _ _); refine wpList_load_row rfl 35 _ rfl B rfl 35 (ndA x) (0, 0) _ HZ5.out Tryz.underlying35 rfl HI.out ?_)
        | ((with_reducible show wpList _ _ _ (⟨some 74, .buildSlice _ _ _, _, _, _, _⟩ :: _) _ _); refine wpList_oneR rfl 25 35 4 _ rfl (ndA x) rfl i0 _ Tryz.underlying25 hi hz0 hz1 rfl (by decide) (by decide) ?_)
        | ((with_reducible show wpList _ _ _ (⟨some 75, .call _, _, _, _, _⟩ :: _) _ _); refine wpList_append_lies _ rfl _ _ 25 rfl w.heap.size 35 i0 _ 4 48 Tryz.underlying25 hi hz0 hz1 hz2 rfl (by decide) (.slice a k c) k (rowN l) rfl HO4.out ⟨W5.heap.size, 0, none⟩ 1 1 (ndV x) rfl rfl HNEW.out (ndV_one _) (by decide) (by unfold maxLen; omega) (by omega) HBA.out.size _ rfl ?_; intro g5 c5 w5 ho5 hg5 _ _)
        | go_in)
      have hown5 := World.ownsRow.lt HO4.out
      have HBF : Hid (Below w.heap.size w w5) := Lib.hid (HBA.out.grown hg5 HBA.out.size (fun j hj => (hown5 j hj).1))
      have HOF : Hid (OwnsD w5 w.heap.size (.slice (some ⟨g5, 0, none⟩) (k + 1) c5) (l ++ [x])) := Lib.hid (by
        show w5.ownsRow _ _ _ _ _ _
        rw [List.length_append, rowN_app, hlk]
        have e : rowN [x] = ndV x := by simp [rowN]
        rw [e]
        exact ho5)
      have HXF : Hid (∀ y ∈ l ++ [x], y.path.length ≤ L ∧ y.data.length ≤ L) := Lib.hid fun y hy => by
        rw [List.mem_append, List.mem_singleton] at hy
        rcases hy with hy | rfl
        · exact hX.out y hy
        · exact HXX2.out
      clear ho5 hg5
      go_roundw
      case rel => exact ⟨P6, l ++ [x], _, c5, k + 1, by omega, hP6, by rw [List.length_append, hlk]; rfl, rfl, by go_num, rfl, HOF, HBF, HJ2, HXF⟩
      case measure => simp [intOf] <;> omega
    · have HEND : Hid (docN s N I0 = (l, i)) := Lib.hid (by
        rw [hJ.out]
        by_cases h9 : L < i
        · exact HOF.out l (N - k) i h9
        · obtain rfl : k = N := by omega
          rw [Nat.sub_self]
          exact HOE.out l i)
      rw [HEND.out] at HG
      replace HG : Hid (Z = if i = L ∧ checkT l = 0 then (l, 0) else ([], 10)) := Lib.hid HG.out
      have HNA := Lib.hid hO.out.nodes
      have CC := fun (W : World) (hW : NodesAt W a l) => check16 l a c (by omega) (fun x hx => by have := hX.out x hx; omega) W hW
      rw [hlk] at CC
      generalize checkT l = CT at *
      clear HEND HNC HON HOF HOE HXL hJ hX hO
      have hcond : ¬ (k < N ∧ i ≤ L) := hlt
      by_cases hkN : k < N
      · have g1 : (k : Int) < (N : Int) := by omega
        have g2 : ¬ (i : Int) ≤ (L : Int) := by omega
        have g3 : ((i : Int) == (L : Int)) = false := by rw [beq_eq_false_iff_ne]; omega
        have HZ := Lib.hid (HG.out.trans (if_neg (by omega)))
        clear HG CC hlt hcond
        go_wp2
        go_ret2
        exact ⟨⟨none, ⟨0, by rw [HZ.out]; rfl⟩, by rw [HZ.out]; exact NodesAt.nil _ _⟩, hB.out⟩
      · have g1 : ¬ (k : Int) < (N : Int) := by omega
        by_cases hiL3 : i = L
        · subst hiL3
          have HZ1 : Hid (Z = if CT = 0 then (l, 0) else ([], 10)) := Lib.hid (by
            rw [HG.out]
            by_cases h : CT = 0
            · rw [if_pos ⟨rfl, h⟩, if_pos h]
            · rw [if_neg (fun h2 => h h2.2), if_neg h])
          have C1 := CC wr HNA.out
          by_cases hC : CT = 0
          · subst hC
            have HZ := Lib.hid (HZ1.out.trans (if_pos rfl))
            clear HG CC hlt hcond HZ1
            go_wp2_with (go_at_call 13; ((with_reducible refine C1.mono ?_); rintro e w1 ⟨rfl, hb1⟩))
            go_ret2
            exact ⟨⟨a, c, by rw [HZ.out, ← hlk]; rfl, by rw [HZ.out]; exact HNA.out.below hb1⟩, hB.out.trans (hb1.mono hB.out.size)⟩
          · have g3 : (CT == (0 : Int)) = false := by rw [beq_eq_false_iff_ne]; exact hC
            have HZ := Lib.hid (HZ1.out.trans (if_neg hC))
            clear HG CC hlt hcond HZ1
            go_wp2_with (go_at_call 13; ((with_reducible refine C1.mono ?_); rintro e w1 ⟨rfl, hb1⟩))
            go_ret2
            exact ⟨⟨none, 0, by rw [HZ.out]; rfl, by rw [HZ.out]; exact NodesAt.nil _ _⟩, hB.out.trans (hb1.mono hB.out.size)⟩
        · have g3 : ((i : Int) == (L : Int)) = false := by rw [beq_eq_false_iff_ne]; omega
          have HZ := Lib.hid (HG.out.trans (if_neg (fun h => hiL3 h.1)))
          clear HG CC hlt hcond
          go_wp2
          go_ret2
          exact ⟨⟨none, ⟨0, by rw [HZ.out]; rfl⟩, by rw [HZ.out]; exact NodesAt.nil _ _⟩, hB.out⟩
end Go.Proofs.YtbkpbgcbpakpeaaGreatDoor

