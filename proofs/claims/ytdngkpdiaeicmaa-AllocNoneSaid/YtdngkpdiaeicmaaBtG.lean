/- (Beside Row.) The iterator over the places of the bits that are set, as a range over it takes it. -/
import Derived.RangeFuncNested
import Derived.RangeFuncBound
import Derived.RangeFuncCalls
import Derived.RangeFuncLeaves
import Derived.RangeFuncFrom
import Derived.Shelf.Abstract
import Derived.OwnWalkIn
import Derived.TacticsInMore
import Derived.LoopNIn
import Derived.LoopIn
import Derived.Test.YtdngkpdiaeicmaaShelf
import Derived.Test.YtdngkpdiaeicmaaBtA
namespace Go.Proofs.Ytdngkpdiaeicmaa
open Go.RowKit Go.Shelf
attribute [local go_sem] Oper.semAt_some

/-- The places that a range is handed. -/
abbrev Place := { x : Nat // x ≤ 8000000 }
def vals (p : List Place) : List Nat := p.map (·.1)
theorem trailing_any (b : Nat) (w : World) (h : b ≤ 255) :
    Calls Try.prog 61 #[.int .u8 (b : Int)] w fun e w' => e = .returned (.int .i64 (Lib.trailingZeros8 b : Nat)) ∧ w = w' :=
  (Try.bits_TrailingZeros8 b w (by omega) (by omega)).mono fun _ _ ⟨he, hw⟩ => ⟨he, hw.symm⟩
theorem vals_snoc (p : List Place) (x : Place) : vals (p ++ [x]) = vals p ++ [x.1] := by simp [vals]

/-- What a round leaves of the variable at a block. -/
def KeepsAt (B : Nat) (W W' : World) : Prop := ∀ v, W.cell? ⟨B, 0, none⟩ = some v → W'.cell? ⟨B, 0, none⟩ = some v
theorem KeepsAt.refl (B : Nat) (W : World) : KeepsAt B W W := fun _ h => h
theorem KeepsAt.trans {B : Nat} {W W' W'' : World} (h : KeepsAt B W W') (h' : KeepsAt B W' W'') : KeepsAt B W W'' := fun v hv => h' v (h v hv)
theorem KeepsAt.put (B : Nat) (W : World) (l : Nat) (o o' : Obj) (h : W.heap[l]? = some o) (hc : o.isCells = false) : KeepsAt B W (W.putObj l o') := fun v hv =>
  cell_kept hv (grownBy_putObj' _ l o') (fun r e => by cases e; exact ⟨_, h, hc⟩)
theorem KeepsAt.setCell {B : Nat} {W : World} {p : Addr} (h : B ≠ p.block) (u : Value) : KeepsAt B W (W.setCell p u) := fun v hv =>
  (World.cell?_setCell_other W p ⟨B, 0, none⟩ u (fun e => h (by rw [e]))).trans hv
set_option maxRecDepth 100000 in
set_option maxHeartbeats 2000000 in
theorem iter_in (F : Fence) (n : Nat) (h23 : F.fn 60) (hw : F = Fence.wide) (hro : F.round = none) (hn : 1 ≤ n) (l Bf Bs : Nat) (s : ByteArray) (f : Nat) (hs : s.size ≤ 1000000) (hf : (f : Int) ≤ 9223372036854775807)
    (J Jx : List Place → World → Prop)
    (hY : ∀ pre x W, J pre W → pre.length < (places s.data.toList f).length → YieldAt F (n - 1) Try.prog l #[.int .i64 (x.1 : Int)] W fun e W' =>
      (e = .returned (.bool true) ∧ J (pre ++ [x]) W' ∧ KeepsAt Bs W W') ∨ (e = .returned (.bool false) ∧ Jx (pre ++ [x]) W'))
    (W : World) (hcf : W.cell? ⟨Bf, 0, none⟩ = some (.int .i64 (f : Int))) (hcs : W.cell? ⟨Bs, 0, none⟩ = some (.string s)) (h0 : J [] W) :
    CallsIn F n Try.prog 60 #[.func (.yield l) #[] #[], .pointer (some ⟨Bf, 0, none⟩), .pointer (some ⟨Bs, 0, none⟩)] W fun e W' => (∃ v, e = .returned v) ∧
      ((∃ ys, vals ys = places s.data.toList f ∧ J ys W') ∨ (∃ pre, vals pre <+: places s.data.toList f ∧ Jx pre W')) := by
  have hst := Lib.hid (left_start s.data.toList f)
  have hl := Lib.hid (show s.data.toList.length = s.size by simp)
  have hmk : 255 * 2 ^ (f % 8) % 256 ≤ 255 := by omega
  refine callsIn_of_wp Try.func60 rfl h23 ?_ hro
  simp only [Try.ntmps60, List.size_toArray, List.length_cons, List.length_nil, Nat.reduceAdd, Nat.reduceSub, Array.replicate_succ, Array.replicate_zero, List.push_toArray, List.append_toArray, List.nil_append, List.cons_append]
  subst hw
  obtain ⟨m0, hm0⟩ : ∃ m0 : Nat, m0 = 255 * 2 ^ (f % 8) % 256 := ⟨_, rfl⟩
  rw [← hm0] at hst hmk
  have Hm := Lib.hid (show ((255 : Int) * 2 ^ (f % 8) % 256) = (m0 : Int) by rw [hm0]; simp)
  clear hm0
  gi_wp2
  gi_loopw [4, 5] (fun mv av wr => ∃ (pre : List Place) (m a : Nat), mv = .int .u8 (m : Int) ∧ av = .int .i64 (a : Int) ∧ m ≤ 255 ∧ (a ≤ s.size ∨ a = f / 8) ∧ Hid (places s.data.toList f = vals pre ++ left s.data.toList a m) ∧ wr.cell? ⟨Bs, 0, none⟩ = some (.string s) ∧ J pre wr)
    (fun _ av _ => s.size - (intOf av).toNat)
  case atStart => exact ⟨[], m0, f / 8, by rw [Hm.out], rfl, hmk, Or.inr rfl, Lib.hid hst.out, hcs, h0⟩
  case round =>
    obtain ⟨pre, m, a, rfl, rfl, hm, ha, hpl, hc, hJ⟩ := hrel
    clear hst Hm hcf hcs h0
    by_cases hlt : a < s.size
    · have hpl2 : Hid (places s.data.toList f = vals pre ++ ((inByte ((s[a]).toNat &&& m)).map (8 * a + ·) ++ places s.data.toList (8 * (a + 1)))) := by
        have h' : a < s.data.toList.length := by simpa using hlt
        have e := hpl.out
        unfold left at e
        rw [if_pos h', List.getD, List.getElem?_eq_getElem h', Option.getD_some] at e
        exact Lib.hid e
      clear hpl
      have hb1 := UInt8.toNat_lt s[a]
      have hand := u8_and_nat (s[a]).toNat m (by omega) (by omega)
      have hle : (s[a]).toNat &&& m ≤ 255 := Nat.le_trans Nat.and_le_left (by omega)
      obtain ⟨b0, hb0⟩ : ∃ b0, b0 = (s[a]).toNat &&& m := ⟨_, rfl⟩
      rw [← hb0] at hpl2 hand hle
      clear hb0
      gi_wp2
      gi_loopw [6] (fun bv wr => ∃ (pre : List Place) (b : Nat), bv = .int .u8 (b : Int) ∧ b ≤ 255 ∧ Hid (places s.data.toList f = vals pre ++ ((inByte b).map (8 * a + ·) ++ places s.data.toList (8 * (a + 1)))) ∧ wr.cell? ⟨Bs, 0, none⟩ = some (.string s) ∧ J pre wr)
        (fun bv _ => (intOf bv).toNat)
      case atStart => exact ⟨pre, b0, rfl, hle, hpl2, hc, hJ⟩
      case round =>
        clear hpl2 hc hJ hand hle
        obtain ⟨pre, b, rfl, hb, hpl, hc, hJ⟩ := hrel
        by_cases hz : b = 0
        · have hpl3 : Hid (places s.data.toList f = vals pre ++ left s.data.toList (a + 1) 255) := by
            have e := hpl.out
            rw [hz, inByte_none, List.map_nil, List.nil_append, left_next] at e
            exact Lib.hid e
          subst hz
          clear hpl
          gi_wp2
          go_roundw
          case rel => exact ⟨pre, 255, a + 1, rfl, by go_num, by omega, Or.inl (by omega), hpl3, hc, hJ⟩
          case measure => simp [intOf]; omega
        · have hnx := inByte_next b (by omega) hz
          have hzl := ntz_lt b (by omega) hz
          have hdec := ntz_places b (by omega) hz
          have htr := fun w => trailing_any b w hb
          have hand : bits BinOp.and IntKind.u8 (b : Int) ((b : Int) - 1) = ((b &&& (b - 1) : Nat) : Int) := by
            have := u8_and_nat b (b - 1) (by omega) (by omega)
            rwa [show ((b - 1 : Nat) : Int) = (b : Int) - 1 by omega] at this
          have hpl2 := hpl.out
          rw [hnx, List.map_cons, List.cons_append] at hpl2
          obtain ⟨z, hze⟩ : ∃ z : Nat, z = Lib.trailingZeros8 b := ⟨_, rfl⟩
          rw [← hze] at hpl2 htr hzl
          have hx : 8 * a + z ≤ 8000000 := by omega
          have hpl3 : Hid (places s.data.toList f = vals (pre ++ [⟨8 * a + z, hx⟩]) ++ ((inByte (b &&& (b - 1))).map (8 * a + ·) ++ places s.data.toList (8 * (a + 1)))) := by
            rw [vals_snoc, List.append_assoc]; exact Lib.hid hpl2
          have hlen : pre.length < (places s.data.toList f).length := by
            rw [hpl2]; simp [vals]
          have hY' := hY pre ⟨8 * a + z, hx⟩ wr hJ hlen
          dsimp only at hY'
          rw [show ((8 * a + z : Nat) : Int) = 8 * (a : Int) + (z : Int) by omega] at hY'
          have hpre : vals (pre ++ [⟨8 * a + z, hx⟩]) <+: places s.data.toList f := ⟨_, hpl3.out.symm⟩
          have Hpre := Lib.hid hpre
          obtain ⟨y, hy0⟩ : ∃ y : Place, y = ⟨8 * a + z, hx⟩ := ⟨_, rfl⟩
          rw [← hy0] at hpl3 Hpre hY'
          obtain ⟨d, hd⟩ : ∃ d : Nat, d = b &&& (b - 1) := ⟨_, rfl⟩
          rw [← hd] at hpl3 hand hdec
          have hb1 : 1 ≤ b := by omega
          obtain ⟨fn, tmps, assign, body, hy, hR⟩ := hY'
          clear hd hy0 hpre hlen hpl2 hze hnx hpl hz
          gi_wp2_with (refine ⟨trivial, ?_⟩; gi_at_call 61; refine (callsIn_wide.2 (htr _)).mono ?_; rintro e w' ⟨rfl, rfl⟩)
          refine hR.mono ?_
          rintro e W3 (⟨rfl, hJ3, hk3⟩ | ⟨rfl, hJx3⟩)
          · have hc3 : W3.cell? ⟨Bs, 0, none⟩ = some (.string s) := hk3 _ hc
            clear hc hJ hR hy htr
            gi_wp2
            go_roundw
            case rel => exact ⟨pre ++ [y], d, rfl, by omega, hpl3, hc3, hJ3⟩
            case measure => simp [intOf]; omega
          · clear hR hy htr
            gi_wp2
            refine bodyPost_ret (results_none rfl _ _ _) rfl ?_
            exact ⟨⟨_, rfl⟩, .inr ⟨pre ++ [y], Hpre.out, hJx3⟩⟩
    · have hend : Hid (vals pre = places s.data.toList f) := by
        have h' : ¬ a < s.data.toList.length := by rw [hl.out]; exact hlt
        have e := hpl.out
        unfold left at e
        rw [if_neg h', List.append_nil] at e
        exact Lib.hid e.symm
      clear hpl
      gi_wp2
      go_end0
      exact ⟨⟨_, rfl⟩, .inl ⟨pre, hend.out, hJ⟩⟩
end Go.Proofs.Ytdngkpdiaeicmaa
