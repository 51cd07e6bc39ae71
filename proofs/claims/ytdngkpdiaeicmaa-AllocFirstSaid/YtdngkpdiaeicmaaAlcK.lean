/- Layer 8: two lists of extents held against each other; acts that came in; Great. -/
import Derived.Test.YtdngkpdiaeicmaaAlcJ
namespace Go.Proofs.Ytdngkpdiaeicmaa
open Go.RowKit

set_option maxRecDepth 100000 in
set_option maxHeartbeats 1000000 in
theorem extents_any {w : World} {base base' : Nat} {x y : Value} {l : List (Nat × Nat)} (hx : OwnsE w base x l) (hy : OwnsE w base' y l) (hl : l.length ≤ 5000) :
    Calls Try.prog 17 #[x, y] w fun e w' => e = .returned (.bool true) ∧ Below w.heap.size w w' := by
  obtain ⟨ax, cx, rfl⟩ := hx.form
  obtain ⟨ay, cy, rfl⟩ := hy.form
  have HX := Lib.hid hx
  have HY := Lib.hid hy
  obtain ⟨N, hN⟩ : ∃ N, N = l.length := ⟨_, rfl⟩
  rw [← hN] at HX HY hl ⊢
  have HN := Lib.hid hN
  clear hx hy hN
  go_enter Try.func17, Try.ntmps17
  go_wp2
  go_loopw [5] (fun i wr => ∃ k : Nat, k ≤ N ∧ i = .int .i64 k ∧ OwnsE wr base (.slice ax N cx) l ∧ OwnsE wr base' (.slice ay N cy) l ∧ Below w.heap.size w wr) (fun i _ => N - (intOf i).toNat)
  case atStart => exact ⟨0, Nat.zero_le _, rfl, HX.out, HY.out, Below.refl _ _⟩
  case round =>
    obtain ⟨k, hk, rfl, hx, hy, hnx⟩ := hrel
    clear HX HY
    have HX := Lib.hid hx
    have HY := Lib.hid hy
    have HB := Lib.hid hnx
    by_cases hlt : k < N
    · obtain ⟨gx, rfl, _, e1, e2⟩ := hx.at (k := k) (by rw [← HN.out]; exact hlt)
      obtain ⟨gy, rfl, _, e3, e4⟩ := hy.at (k := k) (by rw [← HN.out]; exact hlt)
      generalize l.getD k (0, 0) = z at *
      obtain ⟨f, c⟩ := z
      have g1 : (k : Int) < (N : Int) := by omega
      have g0 : (0 : Int) ≤ (k : Int) := by omega
      clear hx hy hnx
      go_wp2_with fail
      go_quiet (fail)
      have HX2 := Lib.hid (show OwnsE (wr.drewN nq) base (.slice (some ⟨gx, 0, none⟩) N cx) l from HX.out)
      have HY2 := Lib.hid (show OwnsE (wr.drewN nq) base' (.slice (some ⟨gy, 0, none⟩) N cy) l from HY.out)
      have HB2 := Lib.hid (below_drewN HB.out nq)
      clear e1 e2 e3 e4 HX HY HB
      generalize wr.drewN nq = wq at *
      go_wp2
      go_roundw
      case rel => exact ⟨k + 1, by omega, by go_num, HX2.out, HY2.out, HB2.out⟩
      case measure => simp [intOf]; omega
    · obtain rfl : k = N := by omega
      clear hx hy hnx
      go_wp2
      go_ret
      exact ⟨rfl, HB.out⟩

structure Act1 where
  kind : Nat
  n : Int
  raw : List (Int × Int)
structure Act1.ok (a : Act1) : Prop where
  kind : a.kind < 256
  n : isI a.n
  raw : extOk a.raw
/-- An act lies there. -/
structure ActAt (w : World) (ad : Addr) (i : Nat) (a : Act1) (v : Value) : Prop where
  c0 : w.cell? (ad.add (i * 3)) = some (.int .u8 (a.kind : Int))
  c1 : w.cell? ⟨(ad.add (i * 3)).block, (ad.add (i * 3)).off + 1, none⟩ = some (.int .i64 a.n)
  c2 : w.cell? ⟨(ad.add (i * 3)).block, (ad.add (i * 3)).off + 2, none⟩ = some v
  r : ExtAt w v a.raw
  ok : a.ok
/-- A list of acts, wherever it lies. -/
def ActsAt (w : World) (x : Value) (l : List Act1) : Prop :=
  (x = .slice none 0 0 ∧ l = []) ∨ ∃ (ad : Addr) (cap : Nat), x = .slice (some ad) l.length cap ∧ l.length ≤ maxLen ∧ ∀ i a, l[i]? = some a → ∃ v, ActAt w ad i a v
theorem ActAt.lt {w : World} {ad : Addr} {i : Nat} {a : Act1} {v : Value} (h : ActAt w ad i a v) : ad.block < w.heap.size := by
  have := World.block_lt_of_cell? w _ h.c0
  rwa [addr_block] at this
theorem ActAt.keep {w w' : World} {ad : Addr} {i : Nat} {a : Act1} {v : Value} (h : ActAt w ad i a v) (hlt : ad.block < w.heap.size) (hb : Below w.heap.size w w') : ActAt w' ad i a v := by
  have e : ∀ j : Nat, (⟨(ad.add (i * 3)).block, (ad.add (i * 3)).off + j, none⟩ : Addr).block < w.heap.size := fun j => by show (ad.add (i * 3)).block < _; rw [addr_block]; exact hlt
  exact ⟨(below_at hb (by rw [addr_block]; exact hlt)).trans h.c0, (below_at hb (e 1)).trans h.c1, (below_at hb (e 2)).trans h.c2, h.r.below hb, h.ok⟩
theorem ActsAt.keep {w w' : World} {x : Value} {l : List Act1} (h : ActsAt w x l) (hb : Below w.heap.size w w') : ActsAt w' x l := by
  rcases h with h | ⟨ad, cap, hx, hm, hl⟩
  · exact .inl h
  · refine .inr ⟨ad, cap, hx, hm, fun i a hi => ?_⟩
    obtain ⟨v, hv⟩ := hl i a hi
    exact ⟨v, hv.keep hv.lt hb⟩
theorem acts_form {w : World} {x : Value} {l : List Act1} (h : ActsAt w x l) : ∃ a cap, x = .slice a l.length cap := by
  rcases h with ⟨rfl, rfl⟩ | ⟨ad, cap, rfl, _⟩
  · exact ⟨none, 0, rfl⟩
  · exact ⟨_, cap, rfl⟩
theorem acts_le {w : World} {x : Value} {l : List Act1} (h : ActsAt w x l) : l.length ≤ maxLen := by
  rcases h with ⟨rfl, rfl⟩ | ⟨ad, cap, rfl, h, _⟩
  · exact Nat.zero_le _
  · exact h
theorem acts_at {w : World} {x : Option Addr} {n cap : Nat} {l : List Act1} (h : ActsAt w (.slice x n cap) l) {k : Nat} (hk : k < l.length) : ∃ ad a v, x = some ad ∧ l[k]? = some a ∧ ActAt w ad k a v ∧ ad.block < w.heap.size := by
  rcases h with ⟨_, rfl⟩ | ⟨ad, cap', hv, _, hc⟩
  · simp at hk
  · simp only [Value.slice.injEq] at hv
    obtain ⟨v, hv2⟩ := hc k l[k] (List.getElem?_eq_getElem hk)
    exact ⟨ad, l[k], v, hv.1, List.getElem?_eq_getElem hk, hv2, hv2.lt⟩
/-- Is an act more than is gone through? -/
def greatA (a : Act1) : Bool := decide (20 < a.raw.length)
def greatB (l : List Act1) (most : Nat) : Bool := l.any greatA || decide (most < l.length)
theorem great_data {l : List Act1} {most : Nat} (h : greatB l most = false) : l.length ≤ most ∧ ∀ a ∈ l, a.raw.length ≤ 20 := by
  unfold greatB at h
  rw [Bool.or_eq_false_iff] at h
  obtain ⟨h1, h2⟩ := h
  refine ⟨by simpa using h2, fun a ha => ?_⟩
  have := List.any_eq_false.1 h1 a ha
  unfold greatA at this
  simp at this
  omega
set_option maxRecDepth 100000 in
set_option maxHeartbeats 1000000 in
theorem great_any {w : World} {x : Value} {l : List Act1} (h : ActsAt w x l) (most : Nat) :
    Calls Try.prog 8 #[x, .int .i64 (most : Int)] w fun e w' => e = .returned (.bool (greatB l most)) ∧ w = w' := by
  obtain ⟨ad, cap, rfl⟩ := acts_form h
  have hle := acts_le h
  unfold maxLen at hle
  have H := Lib.hid h
  obtain ⟨N, hN⟩ : ∃ N, N = l.length := ⟨_, rfl⟩
  rw [← hN] at H hle ⊢
  have HN := Lib.hid hN
  clear h hN
  go_enter Try.func8, Try.ntmps8
  go_wp2
  go_loop [5] (fun i => ∃ k : Nat, k ≤ N ∧ i = .int .i64 k ∧ (l.take k).any greatA = false) (fun i => N - (intOf i).toNat)
  case atStart => exact ⟨0, Nat.zero_le _, rfl, rfl⟩
  case round =>
    obtain ⟨k, hk, rfl, hn⟩ := hrel
    have HF := Lib.hid hn
    clear hn
    by_cases hlt : k < N
    · obtain ⟨ad, a, v, rfl, hak, hat, _⟩ := acts_at H.out (k := k) (by rw [← HN.out]; exact hlt)
      have c2 := hat.c2
      have g1 : (k : Int) < (N : Int) := by omega
      have g0 : (0 : Int) ≤ (k : Int) := by omega
      obtain ⟨aK, capK, rfl⟩ := hat.r.form
      have hks := hat.r.le
      unfold maxLen at hks
      have HST := Lib.hid (show l.take (k + 1) = l.take k ++ [a] by
        have hkl : k < l.length := by rw [← HN.out]; exact hlt
        rw [List.take_succ_eq_append_getElem hkl]
        rw [List.getElem?_eq_getElem hkl] at hak
        rw [Option.some.inj hak])
      have HIN := Lib.hid (show a ∈ l from List.mem_of_getElem? hak)
      clear hat hak
      by_cases hg : greatA a = true
      · have HG := Lib.hid (show greatB l most = true by
          unfold greatB
          rw [List.any_eq_true.2 ⟨a, HIN.out, hg⟩]; rfl)
        have hg2 : 20 < a.raw.length := by
          unfold greatA at hg
          simpa using hg
        have i1 : (20 : Int) < (a.raw.length : Int) := by omega
        clear hg hg2
        go_wp2
        go_ret
        exact ⟨retBool HG.out.symm, rfl⟩
      · have hg' : greatA a = false := by simpa using hg
        have HG := Lib.hid (show (l.take (k + 1)).any greatA = false by rw [HST.out, List.any_append, HF.out]; simp [hg'])
        have hg2 : a.raw.length ≤ 20 := by
          unfold greatA at hg'
          simpa using hg'
        have i1 : (a.raw.length : Int) ≤ 20 := by omega
        clear hg hg' hg2
        go_wp2
        go_round
        case rel => exact ⟨k + 1, by omega, by go_num, HG.out⟩
        case measure => simp [intOf]; omega
    · obtain rfl : k = N := by omega
      have HG := Lib.hid (show greatB l most = decide (most < k) by
        have := HF.out
        rw [HN.out, List.take_of_length_le (Nat.le_refl _)] at this
        unfold greatB
        rw [this, Bool.false_or, ← HN.out])
      by_cases hmk : most < k
      · have i1 : (most : Int) < (k : Int) := by omega
        rw [decide_eq_true hmk] at HG
        go_wp2
        go_ret
        exact ⟨retBool (by rw [HG.out]), rfl⟩
      · have i1 : ¬ (most : Int) < (k : Int) := by omega
        rw [decide_eq_false hmk] at HG
        go_wp2
        go_ret
        exact ⟨retBool (by rw [HG.out]), rfl⟩
end Go.Proofs.Ytdngkpdiaeicmaa
