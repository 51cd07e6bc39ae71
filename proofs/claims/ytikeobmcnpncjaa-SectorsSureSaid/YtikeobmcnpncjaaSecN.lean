/- Layer 6: what an act is, and the beginning of Do. -/
import Derived.Test.YtikeobmcnpncjaaSecL
namespace Go.Proofs.Ytikeobmcnpncjaa
open Go.RowKit

theorem i64_mask (n : Int) (j : Nat) (hj : j ≤ 60) (m : Int) (hm : (BitVec.ofInt 64 m).toNat = 2 ^ j - 1) : bits .and .i64 n m = n % ((2 ^ j : Nat) : Int) := by
  have key : (BitVec.ofInt 64 n &&& BitVec.ofInt 64 m).toNat = (n % ((2 ^ 64 : Nat) : Int)).toNat % 2 ^ j := by
    rw [BitVec.toNat_and, BitVec.toNat_ofInt, hm, Nat.and_two_pow_sub_one_eq_mod]
  show IntKind.i64.wrap ((BitVec.ofInt 64 n &&& BitVec.ofInt 64 m).toNat : Nat) = n % ((2 ^ j : Nat) : Int)
  rw [key, IntKind.wrap_i64]
  have hp : (2 ^ j) ∣ 18446744073709551616 := by
    have : (2 : Nat) ^ j ∣ 2 ^ 64 := Nat.pow_dvd_pow 2 (by omega)
    simpa using this
  have hle : 2 ^ j ≤ 1152921504606846976 := Nat.le_trans (Nat.pow_le_pow_right (n := 2) (by omega) hj) (by decide)
  have hpos : 0 < 2 ^ j := Nat.two_pow_pos j
  generalize 2 ^ j = p at *
  obtain ⟨q, hq⟩ := hp
  have h1 : (n % ((2 ^ 64 : Nat) : Int)).toNat % p < p := Nat.mod_lt _ hpos
  have h2 : (((n % ((2 ^ 64 : Nat) : Int)).toNat % p : Nat) : Int) = n % (p : Int) := by
    rw [Int.natCast_emod, Int.toNat_of_nonneg (Int.emod_nonneg _ (by decide))]
    exact Int.emod_emod_of_dvd _ ⟨(q : Int), by rw [← Int.natCast_mul, ← hq]⟩
  rw [h2]
  have h3 : n % (p : Int) < p := Int.emod_lt_of_pos _ (by omega)
  have h4 : 0 ≤ n % (p : Int) := Int.emod_nonneg _ (by omega)
  omega
theorem i64_and4095 (n : Int) : bits .and .i64 n 4095 = n % 4096 := i64_mask n 12 (by decide) 4095 (by decide)
theorem i64_and7 (n : Int) : bits .and .i64 n 7 = n % 8 := i64_mask n 3 (by decide) 7 (by decide)
/-- What an act makes of a disk. -/
def actD (d : RD) (kind : Nat) (c : UInt8) (n : Int) (s : ByteArray) (ks : List Bool) : RD :=
  if kind % 13 = 6 then (d.write n s).1
  else if kind % 13 = 7 then d.flush.1
  else if kind % 13 = 8 then (d.crash ks).1
  else if kind % 13 = 9 ∨ kind % 13 = 10 then d.start.1
  else if kind % 13 = 11 then (d.fail (if 0 < n then n % 8 else n) ks).1
  else if kind % 13 = 12 then d
  else (d.write ((n % 4096) % (d.sure.length : Int)) (secB c)).1
/-- What Do leaves. -/
def DoPost (I : Impl) (w : World) (q p : Nat) (vS vL vK : Value) (o : Nat → Prop) (d' : RD) (e : Ending) (w' : World) : Prop :=
  e = .returned (.bool true) ∧ ∃ vS' vL' vK' o', RefV w' p vS' vL' vK' d' ∧ I.Inv w' q d' o' ∧ (∀ k, refOwn p vS' vL' vK' k → ¬ o' k) ∧ Chg (fun k => o k ∨ refOwn p vS vL vK k) w w' ∧ ∀ k, (o' k ∨ refOwn p vS' vL' vK' k) → (o k ∨ refOwn p vS vL vK k) ∨ w.heap.size ≤ k
/-- What Do is given. -/
structure DoArgs (I : Impl) (w : World) (q p : Nat) (vS vL vK : Value) (o : Nat → Prop) (d : RD) (v : Value) (ks : List Bool) : Prop where
  r : RefV w p vS vL vK d
  i : I.Inv w q d o
  x : ∀ k, refOwn p vS vL vK k → ¬ o k
  ok : d.ok
  few : d.few
  k : KeepAt w v ks
  l : ks.length ≤ 100000
  y : ∀ k, keepOwn v k → ¬ o k ∧ ¬ refOwn p vS vL vK k
theorem DoArgs.start {I : Impl} {w : World} {q p : Nat} {vS vL vK : Value} {o : Nat → Prop} {d : RD} {v : Value} {ks : List Bool} (h : DoArgs I w q p vS vL vK o d v ks) (xc : Array Value) :
    DoM I w (w.alloc (.cells xc 34)) (fun k => o k ∨ refOwn p vS vL vK k) q p d d w.heap.size xc v ks := by
  have hb : Below w.heap.size w (w.alloc (.cells xc 34)) := (Below.refl _ _).alloc (Nat.le_refl _) _
  refine ⟨⟨vS, vL, vK, o, h.r.below hb, I.below h.i hb, h.x, ⟨fun ho => ?_, fun ho => ?_⟩, h.y, fun k hk => .inl (.inl hk), fun k hk => .inl (.inr hk)⟩, rowC_new _ _ _, h.k.keep hb, Chg.of_below hb⟩
  · have := I.lt h.i _ ho; omega
  · have := h.r.lt _ ho; omega
theorem DoM.post {I : Impl} {w w' : World} {q p : Nat} {vS vL vK : Value} {o : Nat → Prop} {d' : RD} {b : Nat} {xc : Array Value} {v : Value} {ks : List Bool} (h : DoM I w w' (fun k => o k ∨ refOwn p vS vL vK k) q p d' d' b xc v ks) : DoPost I w q p vS vL vK o d' (.returned (.bool true)) w' := by
  obtain ⟨vS', vL', vK', o', h1, h2, h3, _, _, h6, h7⟩ := h.ex
  exact ⟨rfl, vS', vL', vK', o', h1, h2, h3, h.chg, fun k hk => hk.elim (h6 k) (h7 k)⟩
set_option maxRecDepth 100000 in
set_option maxHeartbeats 1000000 in
theorem do_7 {I : Impl} {w : World} {q p : Nat} {vS vL vK : Value} {o : Nat → Prop} {d : RD} {v : Value} {ks : List Bool} (h : DoArgs I w q p vS vL vK o d v ks) {kind : Nat} (hk : kind < 256) (hk7 : kind % 13 = 7) (c : UInt8) (n : Int) (s : ByteArray) :
    Calls Try.prog 11 #[.agg (actC kind c n s v), .pointer (some ⟨q, 0, none⟩), .pointer (some ⟨p, 0, none⟩)] w (DoPost I w q p vS vL vK o (actD d kind c n s ks)) := by
  have hd : actD d kind c n s ks = d.flush.1 := by unfold actD; rw [if_neg (by omega), if_pos hk7]
  rw [hd]
  clear hd
  obtain ⟨gS, capS, rfl⟩ := owns_some h.r.s (by have := h.ok.lo; omega)
  have M0 := Lib.hid (h.start (actC kind c n s v))
  have c0 : (w.alloc (.cells (actC kind c n s v) 34)).cell? ⟨p, 0, none⟩ = some (.slice (some ⟨gS, 0, none⟩) d.sure.length capS) := (h.r.below ((Below.refl _ _).alloc (Nat.le_refl _) _)).cell.1
  have b0 : (w.alloc (.cells (actC kind c n s v) 34)).cell? ⟨w.heap.size, 0, none⟩ = some (.int .u8 (kind : Int)) := rowC_cell M0.out.box 0
  have b2 : (w.alloc (.cells (actC kind c n s v) 34)).cell? ⟨w.heap.size, 2, none⟩ = some (.int .i64 n) := rowC_cell M0.out.box 2
  have lo := h.ok.lo
  have hi := h.ok.hi
  have C1 := Lib.hid (fun w' (m : DoM I w w' (fun k => o k ∨ refOwn p (.slice (some ⟨gS, 0, none⟩) d.sure.length capS) vL vK k) q p d d w.heap.size (actC kind c n s v) v ks) => do_flush m h.ok h.few)
  have C2 := Lib.hid (fun w' (m : DoM I w w' (fun k => o k ∨ refOwn p (.slice (some ⟨gS, 0, none⟩) d.sure.length capS) vL vK k) q p d.flush.1 d w.heap.size (actC kind c n s v) v ks) => do_rflush m h.ok h.few)
  have ea := i64_and4095 n
  have e1 : 0 ≤ n % 4096 := Int.emod_nonneg _ (by decide)
  have e2 : n % 4096 < 4096 := Int.emod_lt_of_pos _ (by decide)
  have e3 : (8 : Int) ≤ (d.sure.length : Int) := by omega
  have e4 : (kind : Int) % 13 = 7 := by omega
  have e5 : (kind : Int) ≤ 255 := by omega
  generalize d.sure.length = S at *
  generalize n % 4096 = y at *
  clear h
  go_enter Try.func11, Try.ntmps11
  go_wp2
  generalize w.alloc _ = w1 at *
  go_quiet (fail)
  replace b0 : (w1.drewN nq).cell? ⟨w.heap.size, 0, none⟩ = _ := b0
  have M1 := Lib.hid (M0.out.below (below_drewN (Below.refl _ _) nq))
  clear M0 c0 b2 ea
  generalize w1.drewN nq = w2 at *
  go_wp2_with (first
    | (go_at_call 15; ((with_reducible refine (C1.out _ M1.out).mono ?_); rintro e w3 ⟨rfl, m3⟩))
    | (go_at_call 27; ((with_reducible refine (C2.out _ m3).mono ?_); rintro e w4 ⟨rfl, m4⟩)))
  go_ret
  exact m4.post
end Go.Proofs.Ytikeobmcnpncjaa
