/- Layer 14: PathsParts. -/
import Derived.Test.YtekfchlgkdgpdaaDoorPtR
import Derived.Sort.BigQuietIn
import Derived.OpenShut
import Derived.ChangeArms
namespace Go.Proofs.YtekfchlgkdgpdaaDoor
open Go.RowKit Go.ChangeShapes Go.WideShapes
attribute [local go_sem] wide_fn round_fn

/-- Worlds that have no more than new blocks. -/
structure After (w : World) where
  v : World
  h : Below w.heap.size w v
instance (w : World) : Nonempty (After w) := ⟨⟨w, Below.refl _ _⟩⟩
instance (w : World) : Nonempty (After w) := ⟨⟨w, Below.refl _ _⟩⟩
/-- The statement's parts. -/
def partOf (i : Nat) : List UInt8 := [[97], [98], [46], [46, 46], [], [46, 119, 104, 46, 97], [46, 119, 104, 46, 46, 119, 104, 46, 46, 111, 112, 113], [48, 49, 50, 51, 52, 53, 54, 55, 56, 57], [97, 0], [46, 46, 46]].getD i []
theorem partOf_le : ∀ i, (partOf i).length ≤ 12 := by
  intro i
  by_cases h : i < 10
  · have : ∀ i : Fin 10, (partOf i.val).length ≤ 12 := by decide
    exact this ⟨i, h⟩
  · unfold partOf
    rw [List.getD_eq_getElem?_getD, List.getElem?_eq_none (by simp; omega)]
    simp
def partsV : Array Value := #[.string ⟨#[97]⟩, .string ⟨#[98]⟩, .string ⟨#[46]⟩, .string ⟨#[46, 46]⟩, .string ⟨#[]⟩, .string ⟨#[46, 119, 104, 46, 97]⟩, .string ⟨#[46, 119, 104, 46, 46, 119, 104, 46, 46, 111, 112, 113]⟩, .string ⟨#[48, 49, 50, 51, 52, 53, 54, 55, 56, 57]⟩, .string ⟨#[97, 0]⟩, .string ⟨#[46, 46, 46]⟩]
theorem partsV_at (i : Nat) (h : i < 10) : partsV[i]? = some (.string (str (partOf i))) := by
  match i, h with
  | 0, _ => rfl
  | 1, _ => rfl
  | 2, _ => rfl
  | 3, _ => rfl
  | 4, _ => rfl
  | 5, _ => rfl
  | 6, _ => rfl
  | 7, _ => rfl
  | 8, _ => rfl
  | 9, _ => rfl
  | n + 10, h => omega
set_option maxRecDepth 100000 in
set_option maxHeartbeats 4000000 in
theorem pparts_any (a0 : Option Addr) (N cap0 : Nat) (a1 : Nat) (W : World) (z : Nat → Nat)
    (hz : 0 < N → ∃ b off, a0 = some ⟨b, off, none⟩ ∧ b < W.heap.size ∧ ∀ j, j < N → W.cell? ⟨b, off + j, none⟩ = some (.int .u8 (z j : Int)) ∧ z j < 256) (h1 : a1 < 256) :
    Calls Tryd.prog 4 #[.slice a0 N cap0, .int .u8 (a1 : Int)] W fun e w' => e = .returned (.bool true) ∧ Below W.heap.size W w' := by
  have CX := fun w => cleaned_any w
  by_cases hl : 60 < N
  · have g1 : (60 : Int) < (N : Int) := by omega
    go_enter Tryd.func4, Tryd.ntmps4
    go_wp2_with (go_at_call 8; with_reducible refine (CX _).mono ?_; rintro e w1 ⟨rfl, b1⟩)
    go_ret
    exact ⟨rfl, b1⟩
  have g1 : ¬ (60 : Int) < (N : Int) := by omega
  have hN60 : N ≤ 60 := by omega
  have HZ := Lib.hid hz
  clear hl hz
  go_enter Tryd.func4, Tryd.ntmps4
  go_wp2
  change Code.wp _ _ _ _ (W.alloc (.cells partsV 32))
  have hr := rowC_new W partsV 32
  have hb : Below W.heap.size W (W.alloc (.cells partsV 32)) := (Below.refl _ W).alloc (Nat.le_refl _) _
  generalize W.alloc (.cells partsV 32) = w1 at *
  have HP := Lib.hid (fun (i : Nat) (h : i < 10) => (rowC_cell hr i).trans (partsV_at i h))
  have HB := Lib.hid hb
  have HLE := Lib.hid partOf_le
  clear hr hb
  go_loopw [6, 7] (fun u v wr => ∃ (k : Nat) (t : List UInt8), k ≤ N ∧ v = .int .i64 k ∧ u = .string (str t) ∧ t.length ≤ 13 * k ∧ wr = w1) (fun _ v _ => N - (intOf v).toNat)
  case atStart => exact ⟨0, [], Nat.zero_le _, rfl, rfl, Nat.le_refl _, rfl⟩
  case round =>
    obtain ⟨k, t, hk, rfl, rfl, ht, rfl⟩ := hrel
    have zt := str_size t
    by_cases hlt : k < N
    · have g2 : (k : Int) < (N : Int) := by omega
      obtain ⟨b, off, rfl, hbl, hc⟩ := HZ.out (by omega)
      obtain ⟨e1', e2⟩ := hc k hlt
      have e1 : wr.cell? ⟨b, off + k, none⟩ = some (.int .u8 (z k : Int)) := (World.cell?_of_block (HB.out.block b hbl)).trans e1'
      have hmod : z k % 10 < 10 := Nat.mod_lt _ (by omega)
      have e3 := HP.out (z k % 10) hmod
      have hq : (partOf (z k % 10)).length ≤ 12 := HLE.out _
      have hmi : IntKind.u8.wrap (z k : Int) = (z k : Int) := IntWalk.u8_in _ (by omega)
      generalize z k = y at *
      have hm1 : (y : Int).tmod 10 = ((y % 10 : Nat) : Int) := by rw [Int.tmod_eq_emod_of_nonneg (by omega)]; omega
      have hm2 : (y : Int) % 10 = ((y % 10 : Nat) : Int) := by omega
      generalize y % 10 = r at *
      generalize partOf r = q at *
      have zq := str_size q
      have z1 : (⟨#[47]⟩ : ByteArray).size = 1 := rfl
      have htl : t.length ≤ 780 := by omega
      clear hc e1' HZ
      by_cases h0 : k = 0
      · subst h0
        rw [Nat.add_zero] at e1
        go_wp2
        go_roundw
        case rel => exact ⟨0 + 1, t ++ q, by omega, by go_num, by rw [← str_append], by rw [List.length_append]; omega, by trivial⟩
        case measure => simp [intOf]; omega
      · have g0 : (0 : Int) < (k : Int) := by omega
        have zmx : (str t ++ ⟨#[47]⟩ : ByteArray).size = t.length + 1 := by rw [ByteArray.size_append, zt, z1]
        go_wp2
        go_roundw
        case rel => exact ⟨k + 1, t ++ [47] ++ q, by omega, by go_num, by rw [← str_append, ← str_append]; rfl, by rw [List.length_append, List.length_append, List.length_singleton]; omega, by trivial⟩
        case measure => simp [intOf]; omega
    · have htl : t.length ≤ 780 := by omega
      have C1 := fun w => clean_any t (by omega) w
      have C2 := fun w => rclean_any t (by omega) w
      have hcl := clean_len t
      generalize (cleanL t).1 = c1 at *
      generalize (cleanL t).2 = c2 at *
      have B1 := fun w => base_any c1 (by omega) w
      have B2 := fun w => rbase_any c1 (by omega) w
      have hbl := base_le c1
      generalize baseL c1 = c3 at *
      have W1 := fun w => white_any c3 (by omega) w
      have W2 := fun w => rwhite_any c3 (by omega) w
      generalize (whiteL c3).1 = c4 at *
      generalize (whiteL c3).2.1 = c5 at *
      generalize (whiteL c3).2.2 = c6 at *
      obtain ⟨K, hK⟩ : ∃ K, K = a1 % (t.length + 1) := ⟨_, rfl⟩
      have hKl : K ≤ t.length := by have := Nat.mod_lt a1 (show 0 < t.length + 1 by omega); omega
      have hm2 : (a1 : Int) % ((t.length : Int) + 1) = (K : Int) := by rw [hK, Int.natCast_emod, Int.natCast_add]; rfl
      have hm1 : (a1 : Int).tmod ((t.length : Int) + 1) = (K : Int) := by rw [Int.tmod_eq_emod_of_nonneg (by omega)]; exact hm2
      clear hK
      have gK : (K : Int) ≤ (t.length : Int) := by omega
      have s1 : ∀ W, (Instr.slice 9 (.string (str t)) none (some (.int .i64 (K : Int))) none).run Tryd.prog W = .ok (.string (str (t.take K))) W := fun W => by
        have h := run_slice_string W 9 (str t) .i64 .i64 0 K Tryd.underlying9 (by omega) (by omega) (by rw [zt]; omega)
        rw [← show (str t).extract 0 K = str (t.take K) by rw [extract_str]; rfl]
        exact h
      have I1 := fun w => inside_any (t.take K) t w
      have I2 := fun w => rinside_any (t.take K) t (by rw [List.length_take]; omega) w
      generalize t.take K = tk at *
      generalize insideB tk t = c7 at *
      clear HZ HP HLE hbl hcl
      go_wp2_with (first
        | (go_at_call 9; with_reducible refine (C1 _).mono ?_; rintro e w2 ⟨rfl, b2⟩)
        | (go_at_call 10; with_reducible refine (C2 _).mono ?_; rintro e w3 ⟨rfl, b3⟩)
        | (go_at_call 15; with_reducible refine (B1 _).mono ?_; rintro e w4 ⟨rfl, b4⟩)
        | (go_at_call 11; with_reducible refine (W1 _).mono ?_; rintro e w5 ⟨rfl, b5⟩)
        | (go_at_call 16; with_reducible refine (B2 _).mono ?_; rintro e w6 ⟨rfl, b6⟩)
        | (go_at_call 12; with_reducible refine (W2 _).mono ?_; rintro e w7 ⟨rfl, k7, rfl⟩))
      have HBB : Hid (Below W.heap.size W (w6.drewN k7)) := by
        have d1 := HB.out
        have d2 := d1.trans (b2.mono d1.size)
        have d3 := d2.trans (b3.mono d2.size)
        have d4 := d3.trans (b4.mono d3.size)
        have d5 := d4.trans (b5.mono d4.size)
        have d6 := d5.trans (b6.mono d5.size)
        exact Lib.hid (below_drewN d6 k7)
      clear HB b2 b3 b4 b5 b6
      generalize w6.drewN k7 = w7 at *
      have Q1 : ∀ x : After w7, CallsIn Fence.wide 3 Tryd.prog 19 #[.string (str tk), .string (str t)] x.v fun e w'' => e = .returned (.bool c7) ∧ ∃ y : After w7, w'' = y.v := fun x =>
        (callsIn_wide.2 (I1 x.v)).mono fun e w'' ⟨he, hw⟩ => ⟨he, x, hw.symm⟩
      have Q2 : ∀ x : After w7, CallsIn Fence.wide 3 Tryd.prog 20 #[.string (str tk), .string (str t)] x.v fun e w'' => e = .returned (.bool c7) ∧ ∃ y : After w7, w'' = y.v := fun x =>
        (callsIn_wide.2 (I2 x.v)).mono fun e w'' ⟨he, hw⟩ => ⟨he, x, hw.symm⟩
      have Q3 : ∀ x : After w7, CallsIn Fence.wide 3 Tryd.prog 8 #[] x.v fun e w'' => e = .returned (.bool true) ∧ ∃ y : After w7, w'' = y.v := fun x =>
        (callsIn_wide.2 (CX x.v)).mono fun e w'' ⟨he, hb⟩ => ⟨he, ⟨w'', x.h.trans (hb.mono x.h.size)⟩, rfl⟩
      clear C1 C2 B1 B2 W1 W2 I1 I2 CX
      refine (wpIn_wide (n := 4)).1 ?_
      refine region_quiet (C := fun w' => ∃ x : After w7, w' = x.v) (by kernel_rfl) (by kernel_rfl) (by kernel_rfl) ⟨⟨w7.drew, (Below.refl _ _).drew⟩, rfl⟩ ?_
      repeat (gi_big_quiet_step (first | (gi_at_call 19; exact Q1 _) | (gi_at_call 20; exact Q2 _) | (gi_at_call 8; exact Q3 _)))
      refine wpQuietIn_nil ?_
      rintro _ ⟨x, rfl⟩
      have HX := Lib.hid (HBB.out.trans (x.h.mono HBB.out.size))
      clear Q1 Q2 Q3 s1
      gi_wp2
      go_wp2
      go_ret
      exact ⟨rfl, HX.out⟩
theorem getD_in {zs : List Int} {j : Nat} (h : j < zs.length) : zs.getD j 0 ∈ zs := by
  rw [List.getD_eq_getElem?_getD, List.getElem?_eq_getElem h]
  exact List.getElem_mem _
theorem boundsU8 {a : Int} (h : (Lit.int .u8 a).wf = true) : 0 ≤ a ∧ a ≤ 255 := by
  simp [Lit.wf, IntKind.min, IntKind.max, IntKind.signed, IntKind.bits] at h
  omega
theorem pparts_walk {H : Type} {enc : TypeId × Value → H} {base : Nat} {sp : Nat → Bool} {held : Bool} {d : DataW H} {p : List MemPlace} (a0 : Option Addr) (len0 cap0 : Nat) (a1 : Int) (W : World)
    (k0 : DataW.Trod enc Tryd.prog W base sp held 31 (.slice a0 len0 cap0) d p) (w1 : (Lit.int .u8 a1).wf = true) :
    Calls Tryd.prog 4 #[.slice a0 len0 cap0, .int .u8 a1] W fun e w' => e = .returned (.bool true) ∧ Below W.heap.size W w' := by
  obtain ⟨b1, b2⟩ := boundsU8 w1
  obtain ⟨n, rfl⟩ : ∃ n : Nat, a1 = (n : Int) := ⟨a1.toNat, by omega⟩
  obtain ⟨fuel1, hf1⟩ := k0
  have hz : ∃ z : Nat → Nat, 0 < len0 → ∃ b off, a0 = some ⟨b, off, none⟩ ∧ b < W.heap.size ∧ ∀ j, j < len0 → W.cell? ⟨b, off + j, none⟩ = some (.int .u8 (z j : Int)) ∧ z j < 256 := by
    rcases open_ints Tryd.underlying31 Tryd.underlying5 (by kernel_rfl) hf1 with ⟨hcs, _⟩ | ⟨x, l', c, zs, hcs, _, hl', hm, hz, _, hcell, hwz⟩
    · simp [Value.cells] at hcs
      obtain ⟨rfl, rfl, rfl⟩ := hcs
      exact ⟨fun _ => 0, fun h => absurd h (Nat.lt_irrefl 0)⟩
    · simp [Value.cells] at hcs
      obtain ⟨rfl, rfl, rfl⟩ := hcs
      have hz' : len0 ≤ zs.length := by rw [hz]; split <;> omega
      refine ⟨fun j => (zs.getD j 0).toNat, fun h => ?_⟩
      obtain ⟨b, off, rfl, hc⟩ := ints_at hcell (by omega)
      refine ⟨b, off, rfl, World.block_lt_of_cell? W ⟨b, off + 0, none⟩ (hc 0 (by omega)), fun j hj => ?_⟩
      obtain ⟨q1, q2⟩ := boundsU8 (hwz (zs.getD j 0) (getD_in (by omega)))
      refine ⟨?_, show (zs.getD j 0).toNat < 256 by omega⟩
      rw [hc j (by omega)]
      show some (Value.int .u8 (zs.getD j 0)) = some (Value.int .u8 (((zs.getD j 0).toNat : Nat) : Int))
      rw [Int.toNat_of_nonneg q1]
  obtain ⟨z, hz⟩ := hz
  exact pparts_any a0 len0 cap0 n W z hz (by omega)
end Go.Proofs.YtekfchlgkdgpdaaDoor
