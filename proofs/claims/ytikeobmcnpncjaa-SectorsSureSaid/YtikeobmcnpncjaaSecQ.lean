/- Layer 6: acts that came in; Great. -/
import Derived.Test.YtikeobmcnpncjaaSecP
namespace Go.Proofs.Ytikeobmcnpncjaa
open Go.RowKit

structure Act1 where
  kind : Nat
  c : UInt8
  n : Int
  data : ByteArray
  keep : List Bool
structure Act1.ok (a : Act1) : Prop where
  kind : a.kind < 256
  n : -9223372036854775808 ≤ a.n ∧ a.n ≤ 9223372036854775807
  data : a.data.size ≤ maxLen
  keep : a.keep.length ≤ maxLen
/-- An act lies there. -/
structure ActAt (w : World) (ad : Addr) (i : Nat) (a : Act1) (v : Value) : Prop where
  c0 : w.cell? (ad.add (i * 5)) = some (.int .u8 (a.kind : Int))
  c1 : w.cell? ⟨(ad.add (i * 5)).block, (ad.add (i * 5)).off + 1, none⟩ = some (byteV a.c)
  c2 : w.cell? ⟨(ad.add (i * 5)).block, (ad.add (i * 5)).off + 2, none⟩ = some (.int .i64 a.n)
  c3 : w.cell? ⟨(ad.add (i * 5)).block, (ad.add (i * 5)).off + 3, none⟩ = some (.string a.data)
  c4 : w.cell? ⟨(ad.add (i * 5)).block, (ad.add (i * 5)).off + 4, none⟩ = some v
  k : KeepAt w v a.keep
  ok : a.ok
/-- A list of acts, wherever it lies. -/
def ActsAt (w : World) (x : Value) (l : List Act1) : Prop :=
  (x = .slice none 0 0 ∧ l = []) ∨ ∃ (ad : Addr) (cap : Nat), x = .slice (some ad) l.length cap ∧ l.length ≤ maxLen ∧ ∀ i a, l[i]? = some a → ∃ v, ActAt w ad i a v
theorem below_at {B : Nat} {w w' : World} (hb : Below B w w') {a : Addr} (h : a.block < B) : w'.cell? a = w.cell? a := World.cell?_of_block (hb.block _ h)
theorem ActAt.lt {w : World} {ad : Addr} {i : Nat} {a : Act1} {v : Value} (h : ActAt w ad i a v) : ad.block < w.heap.size := by
  have := World.block_lt_of_cell? w _ h.c0
  rwa [addr_block] at this
theorem ActAt.keep {w w' : World} {ad : Addr} {i : Nat} {a : Act1} {v : Value} (h : ActAt w ad i a v) (hlt : ad.block < w.heap.size) (hb : Below w.heap.size w w') : ActAt w' ad i a v := by
  have e : ∀ j : Nat, (⟨(ad.add (i * 5)).block, (ad.add (i * 5)).off + j, none⟩ : Addr).block < w.heap.size := fun j => by show (ad.add (i * 5)).block < _; rw [addr_block]; exact hlt
  exact ⟨(below_at hb (by rw [addr_block]; exact hlt)).trans h.c0, (below_at hb (e 1)).trans h.c1, (below_at hb (e 2)).trans h.c2, (below_at hb (e 3)).trans h.c3, (below_at hb (e 4)).trans h.c4, h.k.keep hb, h.ok⟩
theorem ActsAt.keep {w w' : World} {x : Value} {l : List Act1} (h : ActsAt w x l) (hb : Below w.heap.size w w') : ActsAt w' x l := by
  rcases h with h | ⟨ad, cap, hx, hm, hl⟩
  · exact .inl h
  · refine .inr ⟨ad, cap, hx, hm, fun i a hi => ?_⟩
    obtain ⟨v, hv⟩ := hl i a hi
    exact ⟨v, hv.keep hv.lt hb⟩
theorem acts_form {w : World} {x : Value} {l : List Act1} (h : ActsAt w x l) : ∃ a cap, x = .slice a l.length cap := by
  rcases h with ⟨rfl, rfl⟩ | ⟨ad, cap, rfl, _⟩
  · exact ⟨none, 0, rfl⟩
  · exact ⟨_, cap, rfl⟩
theorem acts_le {w : World} {x : Value} {l : List Act1} (h : ActsAt w x l) : l.length ≤ maxLen := by
  rcases h with ⟨rfl, rfl⟩ | ⟨ad, cap, rfl, h, _⟩
  · exact Nat.zero_le _
  · exact h
theorem acts_at {w : World} {x : Option Addr} {n cap : Nat} {l : List Act1} (h : ActsAt w (.slice x n cap) l) {k : Nat} (hk : k < l.length) : ∃ ad a v, x = some ad ∧ l[k]? = some a ∧ ActAt w ad k a v ∧ ad.block < w.heap.size := by
  rcases h with ⟨_, rfl⟩ | ⟨ad, cap', hv, _, hc⟩
  · simp at hk
  · simp only [Value.slice.injEq] at hv
    obtain ⟨v, hv2⟩ := hc k l[k] (List.getElem?_eq_getElem hk)
    exact ⟨ad, l[k], v, hv.1, List.getElem?_eq_getElem hk, hv2, hv2.lt⟩
/-- Is an act more than is gone through? -/
def greatA (a : Act1) : Bool := decide (600 < a.data.size) || decide (60 < a.keep.length)
def greatB (l : List Act1) (most : Nat) : Bool := l.any greatA || decide (most < l.length)
set_option maxRecDepth 100000 in
set_option maxHeartbeats 1000000 in
theorem great_any {w : World} {x : Value} {l : List Act1} (h : ActsAt w x l) (most : Nat) :
    Calls Try.prog 7 #[x, .int .i64 (most : Int)] w fun e w' => e = .returned (.bool (greatB l most)) ∧ w = w' := by
  obtain ⟨ad, cap, rfl⟩ := acts_form h
  have hle := acts_le h
  unfold maxLen at hle
  have H := Lib.hid h
  obtain ⟨N, hN⟩ : ∃ N, N = l.length := ⟨_, rfl⟩
  rw [← hN] at H hle ⊢
  have HN := Lib.hid hN
  clear h hN
  go_enter Try.func7, Try.ntmps7
  go_wp2
  go_loop [5] (fun i => ∃ k : Nat, k ≤ N ∧ i = .int .i64 k ∧ (l.take k).any greatA = false) (fun i => N - (intOf i).toNat)
  case atStart => exact ⟨0, Nat.zero_le _, rfl, rfl⟩
  case round =>
    obtain ⟨k, hk, rfl, hn⟩ := hrel
    have HF := Lib.hid hn
    clear hn
    by_cases hlt : k < N
    · obtain ⟨ad, a, v, rfl, hak, hat, _⟩ := acts_at H.out (k := k) (by rw [← HN.out]; exact hlt)
      have c3 := hat.c3
      have c4 := hat.c4
      have g1 : (k : Int) < (N : Int) := by omega
      have g0 : (0 : Int) ≤ (k : Int) := by omega
      obtain ⟨aK, capK, rfl⟩ := keep_form hat.k
      have hds := hat.ok.data
      have hks := hat.ok.keep
      unfold maxLen at hds hks
      have HST := Lib.hid (show l.take (k + 1) = l.take k ++ [a] by
        have hkl : k < l.length := by rw [← HN.out]; exact hlt
        rw [List.take_succ_eq_append_getElem hkl]
        rw [List.getElem?_eq_getElem hkl] at hak
        rw [Option.some.inj hak])
      have HIN := Lib.hid (show a ∈ l from List.mem_of_getElem? hak)
      clear hat hak
      by_cases hg : greatA a = true
      · have HG := Lib.hid (show greatB l most = true by
          unfold greatB
          rw [List.any_eq_true.2 ⟨a, HIN.out, hg⟩]; rfl)
        have hg2 : 600 < a.data.size ∨ (a.data.size ≤ 600 ∧ 60 < a.keep.length) := by
          unfold greatA at hg
          simp only [Bool.or_eq_true, decide_eq_true_eq] at hg
          omega
        clear hg
        rcases hg2 with hg2 | ⟨hg2, hg3⟩
        · have i1 : (600 : Int) < (a.data.size : Int) := by omega
          clear hg2
          go_wp2
          go_ret
          exact ⟨retBool HG.out.symm, rfl⟩
        · have i1 : (a.data.size : Int) ≤ 600 := by omega
          have i2 : (60 : Int) < (a.keep.length : Int) := by omega
          clear hg2 hg3
          go_wp2
          go_ret
          exact ⟨retBool HG.out.symm, rfl⟩
      · have hg' : greatA a = false := by simpa using hg
        have HG := Lib.hid (show (l.take (k + 1)).any greatA = false by rw [HST.out, List.any_append, HF.out]; simp [hg'])
        have hg2 : a.data.size ≤ 600 ∧ a.keep.length ≤ 60 := by
          unfold greatA at hg'
          simp only [Bool.or_eq_false_iff, decide_eq_false_iff_not] at hg'
          omega
        obtain ⟨hg2, hg3⟩ := hg2
        have i1 : (a.data.size : Int) ≤ 600 := by omega
        have i2 : (a.keep.length : Int) ≤ 60 := by omega
        clear hg hg' hg2 hg3
        go_wp2
        go_round
        case rel => exact ⟨k + 1, by omega, by go_num, HG.out⟩
        case measure => simp [intOf]; omega
    · obtain rfl : k = N := by omega
      have HG := Lib.hid (show greatB l most = decide (most < k) by
        have := HF.out
        rw [HN.out, List.take_of_length_le (Nat.le_refl _)] at this
        unfold greatB
        rw [this, Bool.false_or, ← HN.out])
      by_cases hmk : most < k
      · have i1 : (most : Int) < (k : Int) := by omega
        rw [decide_eq_true hmk] at HG
        clear hmk
        go_wp2
        go_ret
        exact ⟨retBool HG.out.symm, rfl⟩
      · have i1 : ¬ (most : Int) < (k : Int) := by omega
        rw [decide_eq_false hmk] at HG
        clear hmk
        go_wp2
        go_ret
        exact ⟨retBool HG.out.symm, rfl⟩
end Go.Proofs.Ytikeobmcnpncjaa
