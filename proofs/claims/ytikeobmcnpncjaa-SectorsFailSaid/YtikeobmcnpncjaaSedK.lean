/- Layer 6: the walk of SectorsFail. -/
import Derived.Test.YtikeobmcnpncjaaSedL
namespace Go.Proofs.Ytikeobmcnpncjaa
open Go.RowKit

/-- A list of bytes, wherever it lies. -/
def BytesAt (w : World) (v : Value) (zs : List UInt8) : Prop :=
  (v = .slice none 0 0 ∧ zs = []) ∨ ∃ (ad : Addr) (cap : Nat), v = .slice (some ad) zs.length cap ∧ ∀ j, j < zs.length → w.cell? (ad.add j) = some (byteV (zs.getD j 0))
theorem bytes_form {w : World} {v : Value} {zs : List UInt8} (h : BytesAt w v zs) : ∃ a cap, v = .slice a zs.length cap := by
  rcases h with ⟨rfl, rfl⟩ | ⟨ad, cap, rfl, _⟩
  · exact ⟨none, 0, rfl⟩
  · exact ⟨_, cap, rfl⟩
theorem bytes_at {W : World} {a : Option Addr} {n cap : Nat} {zs : List UInt8} (h : BytesAt W (.slice a n cap) zs) {k : Nat} (hk : k < zs.length) : ∃ (ad : Addr) (x : Nat), a = some ad ∧ x < 256 ∧ ∀ w, Below W.heap.size W w → w.cell? (ad.add k) = some (.int .u8 (x : Int)) := by
  rcases h with ⟨_, rfl⟩ | ⟨ad, cap', hv, hc⟩
  · simp at hk
  · simp only [Value.slice.injEq] at hv
    refine ⟨ad, (zs.getD k 0).toNat, hv.1, UInt8.toNat_lt _, fun w hb => ?_⟩
    have h1 := hc k hk
    have hlt := World.block_lt_of_cell? W _ h1
    exact (hb.cell hlt).trans h1
theorem byteV_nat {k : Nat} (h : k < 256) : byteV (UInt8.ofNat k) = .int .u8 (k : Int) := by
  unfold byteV
  rw [UInt8.toNat_ofNat_of_lt' (show _ < 256 by omega)]
/-- Both disks, k changes on; the failure is nn - k changes off. -/
def FailAt (I : Impl) (W w : World) (qa qb : Nat) (nn k : Nat) (ks : List Bool) : Prop := ∃ d : RD, d.calm k ∧ d.starts ≤ 9 ∧ Two I W w qa (d.armed ((nn : Int) - (k : Int)) ks) qb d
set_option maxRecDepth 100000 in
set_option maxHeartbeats 8000000 in
theorem sFail_any (I : Impl) {v vk : Value} {zs : List UInt8} {ks : List Bool} {nn : Nat} {w : World} (h : BytesAt w v zs) (hn : nn < 256) (hk : KeepAt w vk ks) :
    Calls Try.prog 6 #[v, .int .u8 (nn : Int), vk] w fun e w' => e = .returned (.bool true) ∧ Below w.heap.size w w' := by
  obtain ⟨a, cap, rfl⟩ := bytes_form h
  obtain ⟨aK, capK, rfl⟩ := keep_form hk
  have CU := Lib.hid (fun w' => spun_any I w')
  by_cases hg : 40 < zs.length ∨ 60 < ks.length
  · rcases (show 40 < zs.length ∨ (zs.length ≤ 40 ∧ 60 < ks.length) by omega) with h1 | ⟨h1, h2⟩
    · have d1 : decide ((40 : Int) < (zs.length : Int)) = true := decide_eq_true (by omega)
      clear hg h hk h1
      go_enter Try.func6, Try.ntmps6
      go_wp2_with (go_at_call 8; ((with_reducible refine (CU.out _).mono ?_); rintro e w9 ⟨rfl, b9⟩))
      go_ret
      exact ⟨rfl, b9⟩
    · have d1 : decide ((40 : Int) < (zs.length : Int)) = false := decide_eq_false (by omega)
      have d2 : decide ((60 : Int) < (ks.length : Int)) = true := decide_eq_true (by omega)
      clear hg h hk h1 h2
      go_enter Try.func6, Try.ntmps6
      go_wp2_with (go_at_call 8; ((with_reducible refine (CU.out _).mono ?_); rintro e w9 ⟨rfl, b9⟩))
      go_ret
      exact ⟨rfl, b9⟩
  · have hz : zs.length ≤ 40 := by omega
    have hkl : ks.length ≤ 60 := by omega
    have d1 : decide ((40 : Int) < (zs.length : Int)) = false := decide_eq_false (by omega)
    have d2 : decide ((60 : Int) < (ks.length : Int)) = false := decide_eq_false (by omega)
    have HZ := Lib.hid h
    have HK := Lib.hid hk
    have CN := Lib.hid (fun w' => I.new 8 w' (by decide) (by decide))
    replace CN : Hid (∀ w', Calls Try.prog 9 #[.int .i64 8] w' fun e w'' => ∃ q o, e = .returned (.tuple #[.pointer (some ⟨q, 0, none⟩), .int .i64 0]) ∧ I.Inv w'' q (rdNew 8) o ∧ Below w'.heap.size w' w'' ∧ ∀ k, o k → w'.heap.size ≤ k) := CN
    have CF := Lib.hid (fun (w' : World) (qa qb : Nat) (t : Two I w w' qa (rdNew 8) qb (rdNew 8)) => two_fail t calm_new.ok (calm_new.few (by omega)) hk (by omega) (nn : Int) (by omega) (d' := (rdNew 8).armed nn ks) (r := 0) (by unfold RD.fail RD.armed; rw [if_neg (by decide), if_neg (by omega)]))
    obtain ⟨N, hN⟩ : ∃ N, N = zs.length := ⟨_, rfl⟩
    rw [← hN] at HZ d1 hz ⊢
    have HN := Lib.hid hN
    clear hg h hk hN
    go_enter Try.func6, Try.ntmps6
    go_wp2_with (first
      | (go_at_call 9; ((with_reducible refine (CN.out _).mono ?_); rintro e w2 ⟨qb, ob, rfl, i2, b2, k2⟩); have HA2 := Lib.hid (two_new HA1.out.1 HA1.out.2.1 HA1.out.2.2 i2 b2 k2); clear i2 b2 k2)
      | (go_at_call 9; ((with_reducible refine (CN.out _).mono ?_); rintro e w1 ⟨qa, oa, rfl, i1, b1, k1⟩); have HA1 := Lib.hid (show I.Inv w1 qa (rdNew 8) oa ∧ Below w.heap.size w w1 ∧ ∀ k, oa k → w.heap.size ≤ k from ⟨i1, b1, k1⟩); clear i1 b1 k1)
      | (go_at_call 18; ((with_reducible refine (CF.out _ _ _ HA2.out).mono ?_); rintro e w3 ⟨rfl, t3⟩); have HT := Lib.hid t3; clear t3))
    have HS0 := Lib.hid (show FailAt I w w3 qa qb nn 0 ks from ⟨rdNew 8, calm_new, by simp [rdNew], by have := HT.out; rwa [show (nn : Int) - ((0 : Nat) : Int) = (nn : Int) by omega]⟩)
    clear HT HA1 HA2 CN CF
    go_loopw [11] (fun i wr => ∃ k : Nat, k ≤ N ∧ k ≤ nn ∧ i = .int .i64 k ∧ Hid (FailAt I w wr qa qb nn k ks)) (fun i _ => N - (intOf i).toNat)
    case atStart => exact ⟨0, Nat.zero_le _, Nat.zero_le _, rfl, HS0⟩
    case round =>
      clear HS0
      obtain ⟨k, hk, hkn, rfl, hF⟩ := hrel
      obtain ⟨d, hc, hst, T⟩ := hF.out
      have HT := Lib.hid T
      have HC := Lib.hid hc
      have HST := Lib.hid hst
      clear T hF hst
      by_cases hlt : k < N
      · obtain ⟨adr, x, rfl, hx, hcell⟩ := bytes_at HZ.out (k := k) (by rw [← HN.out]; exact hlt)
        have HCL := Lib.hid hcell
        have c0 := hcell _ HT.out.b
        have GO := Lib.hid (fail_go I w qa qb hc (by omega) ks)
        have g1 : (k : Int) < (N : Int) := by omega
        have g0 : (0 : Int) ≤ (k : Int) := by omega
        clear hcell hc
        by_cases hx2 : 200 ≤ x
        · have gx : (200 : Int) ≤ (x : Int) := by omega
          by_cases hkk : k < nn
          · have gk : (k : Int) < (nn : Int) := by omega
            have GO5 := Lib.hid (fail_go I w qa qb HC.out.flushed (by omega) ks)
            go_wp2_with (first
              | (go_at_call 15; ((with_reducible refine (GO.out.flusha _ _ (by omega) (by omega) HT.out).mono ?_); rintro e w4 ⟨rfl, t4⟩); have HT4 := Lib.hid t4; clear t4 c0)
              | (go_at_call 15; ((with_reducible refine (GO.out.flushb _ _ HT4.out).mono ?_); rintro e w5 ⟨rfl, t5⟩); have HT5 := Lib.hid t5; clear t5)
              | (go_at_call 21; ((with_reducible refine (GO5.out.up _ _ (by omega) (by omega) HT5.out).mono ?_); rintro e w6 ⟨rfl, t6⟩); have HT6 := Lib.hid t6; clear t6))
            go_roundw
            case rel => exact ⟨k + 1, by omega, by omega, by go_num, Lib.hid ⟨d.flushed, HC.out.flushed, HST.out, by have := HT6.out; rwa [show (nn : Int) - (k : Int) - 1 = (nn : Int) - ((k + 1 : Nat) : Int) by omega] at this⟩⟩
            case measure => simp [intOf]; omega
          · obtain rfl : k = nn := by omega
            have HT0 := Lib.hid (show Two I w wr qa (d.armed 0 ks) qb d by have := HT.out; rwa [show (k : Int) - (k : Int) = 0 by omega] at this)
            have ED := Lib.hid (fail_end I w qa qb HC.out (by omega) HST.out HK.out hkl)
            go_wp2_with (first
              | (go_at_call 15; ((with_reducible refine (GO.out.flushf _ HT0.out).mono ?_); rintro e w4 ⟨rfl, t4⟩); have HE0 := Lib.hid t4; clear t4 c0)
              | (go_at_call 21; ((with_reducible refine (ED.out.up _ HE0.out).mono ?_); rintro e w5 ⟨rfl, t5⟩); have HE1 := Lib.hid t5; clear t5)
              | (go_at_call 16; ((with_reducible refine (ED.out.crash _ HE1.out).mono ?_); rintro e w6 ⟨rfl, t6⟩); have HE2 := Lib.hid t6; clear t6)
              | (go_at_call 17; ((with_reducible refine (ED.out.startb _ HE3.out).mono ?_); rintro e w8 ⟨rfl, t8⟩); have HE4 := Lib.hid t8; clear t8)
              | (go_at_call 17; ((with_reducible refine (ED.out.starta _ HE2.out).mono ?_); rintro e w7 ⟨rfl, t7⟩); have HE3 := Lib.hid t7; clear t7))
            clear HC HST HT HT0 GO HE0 HE1 HE2 HE3 HCL
            go_loopw [14] (fun i wr => ∃ j : Nat, j ≤ 8 ∧ i = .int .i64 j ∧ Hid (Two I w wr qa (RD.fell d ks).again qb (RD.fall d ks).again)) (fun i _ => 8 - (intOf i).toNat)
            case atStart => exact ⟨0, Nat.zero_le _, rfl, HE4⟩
            case round =>
              clear HE4
              obtain ⟨j, hj, rfl, HJ⟩ := hrel
              by_cases hj8 : j < 8
              · have g8 : (j : Int) < 8 := by omega
                obtain ⟨S, hS⟩ : ∃ S, S = (RD.fall d ks).sure.getD j ByteArray.empty := ⟨_, rfl⟩
                have RA := Lib.hid (fun (w' : World) => ED.out.reada w' j hj8)
                have RB := Lib.hid (fun (w' : World) => ED.out.readb w' j hj8)
                rw [← hS] at RA RB
                clear hS
                go_wp2_with (first
                  | (go_at_call 13; ((with_reducible refine (RB.out _ HJ1.out).mono ?_); rintro e w12 ⟨rfl, t12⟩); have HJ2 := Lib.hid t12; clear t12)
                  | (go_at_call 13; ((with_reducible refine (RA.out _ HJ.out).mono ?_); rintro e w11 ⟨rfl, t11⟩); have HJ1 := Lib.hid t11; clear t11))
                go_roundw
                case rel => exact ⟨j + 1, by omega, by go_num, HJ2⟩
                case measure => simp [intOf]; omega
              · obtain rfl : j = 8 := by omega
                obtain ⟨Z, hZ⟩ : ∃ Z, Z = secB 122 := ⟨_, rfl⟩
                have hZZ : Z.size = 512 := by rw [hZ]; exact secB_size _
                have CZ : Calls Try.prog 23 #[.int .u8 122] wr fun e w' => e = .returned (.string (secB 122)) ∧ Two I w w' qa (RD.fell d ks).again qb (RD.fall d ks).again := two_sector HJ.out 122
                rw [← hZ] at CZ
                clear hZ
                go_wp2_with (first
                  | (go_at_call 23; ((with_reducible refine (CZ).mono ?_); rintro e w11 ⟨rfl, t11⟩); have HJ1 := Lib.hid t11; clear t11)
                  | (go_at_call 14; ((with_reducible refine (ED.out.write _ Z hZZ HJ1.out).mono ?_); rintro e w12 ⟨rfl, t12⟩); have HJ2 := Lib.hid t12; clear t12)
                  | (go_at_call 15; ((with_reducible refine (ED.out.flush _ Z HJ2.out).mono ?_); rintro e w13 ⟨rfl, b13⟩); have HB13 := Lib.hid b13; clear b13)
                  | (go_at_call 8; ((with_reducible refine (CU.out _).mono ?_); rintro e w14 ⟨rfl, b14⟩); have HB14 := Lib.hid (HB13.out.trans (b14.mono HB13.out.size)); clear b14))
                go_ret
                exact ⟨rfl, HB14.out⟩
        · have gx : ¬ (200 : Int) ≤ (x : Int) := by omega
          obtain ⟨n, hn8⟩ : ∃ n, n = x % 8 := ⟨_, rfl⟩
          have em : (x : Int) % 8 = (n : Int) := by omega
          have et : (x : Int).tmod 8 = (n : Int) := by rw [Int.tmod_eq_emod_of_nonneg (by omega)]; exact em
          have hn7 : n < 8 := by omega
          have ex : IntKind.i64.wrap (x : Int) = (x : Int) := IntWalk.i64_in _ (by omega)
          have ew : (k : Int) % 256 = (k : Int) := by omega
          have ew2 : IntKind.u8.wrap (k : Int) = (k : Int) := by rw [IntKind.wrap_u8]; exact ew
          obtain ⟨s, hs⟩ : ∃ s, s = secB (UInt8.ofNat k) := ⟨_, rfl⟩
          have hss : s.size = 512 := by rw [hs]; exact secB_size _
          have HSC := Lib.hid (fun (w' : World) (da db : RD) (t : Two I w w' qa da qb db) => two_sector t (UInt8.ofNat k))
          rw [byteV_nat (by omega), ← hs] at HSC
          clear hs hn8
          have md := HT.out.below (Below.refl _ wr).drew
          obtain ⟨SS, hSS⟩ : ∃ SS : World → Prop, SS = fun w' => w'.cell? (adr.add k) = some (.int .u8 (x : Int)) := ⟨_, rfl⟩
          have SO : ∀ w', w'.cell? (adr.add k) = some (.int .u8 (x : Int)) → SS w' := fun w' m => by rw [hSS]; exact m
          have OS : ∀ w', SS w' → w'.cell? (adr.add k) = some (.int .u8 (x : Int)) := fun w' h => by rw [hSS] at h; exact h
          clear hSS
          by_cases hkk : k < nn
          · have gk : (k : Int) < (nn : Int) := by omega
            have CS := Lib.hid (fun (w' : World) (t : Two I w w' qa (d.armed ((nn : Int) - (k : Int)) ks) qb d) => HSC.out w' _ _ t)
            have CW := Lib.hid (fun (w' : World) (t : Two I w w' qa (d.armed ((nn : Int) - (k : Int)) ks) qb d) => GO.out.writea w' _ n s (by omega) (by omega) hn7 hss t)
            have CS2 := Lib.hid (fun (w' : World) (t : Two I w w' qa ((d.wrote n s).armed ((nn : Int) - (k : Int) - 1) ks) qb d) => HSC.out w' _ _ t)
            have CW2 := Lib.hid (fun (w' : World) (t : Two I w w' qa ((d.wrote n s).armed ((nn : Int) - (k : Int) - 1) ks) qb d) => GO.out.writeb w' _ n s hn7 hss t)
            have GO5 := Lib.hid (fail_go I w qa qb (HC.out.wrote hn7 s) (by omega) ks)
            go_wp2
            clear c0
            refine wp_region_noPanic ?_
            refine wp_region_held_drew (S := SS) (by kernel_rfl) (SO _ (HCL.out _ md.b)) (fun hHeld => ?_)
            refine wpAnyH_take (i := 0) (oi := { dst := some 69, op := Op.move (Operand.tmp 7), type := 25, pos := "outright.go:72", after := #[], guard := none }) (v := ?_) rfl (by kernel_rfl) (by kernel_rfl) (by kernel_rfl) (fun _ _ _ h => h) (Or.inl ⟨by rfl, ?_⟩) (by assumption) ?_
            rotate_left
            · intro w hSw
              skip
              clear hSw
              go_simp
              try with_reducible rfl
            try simp only [Act.put, List.setIfInBounds_toArray, List.set_cons_zero, List.set_cons_succ]
            refine wpAnyH_take (i := 1) (oi := { dst := some 70, op := Op.move (Operand.tmp 0), type := 55, pos := "outright.go:72", after := #[], guard := none }) (v := ?_) rfl (by kernel_rfl) (by kernel_rfl) (by kernel_rfl) (fun _ _ _ h => h) (Or.inl ⟨by rfl, ?_⟩) (by assumption) ?_
            rotate_left
            · intro w hSw
              skip
              clear hSw
              go_simp
              try with_reducible rfl
            try simp only [Act.put, List.setIfInBounds_toArray, List.set_cons_zero, List.set_cons_succ]
            refine wpAnyH_take (i := 2) (oi := { dst := some 71, op := Op.move (Operand.tmp 11), type := 3, pos := "outright.go:72", after := #[], guard := none }) (v := ?_) rfl (by kernel_rfl) (by kernel_rfl) (by kernel_rfl) (fun _ _ _ h => h) (Or.inl ⟨by rfl, ?_⟩) (by assumption) ?_
            rotate_left
            · intro w hSw
              skip
              clear hSw
              go_simp
              try with_reducible rfl
            try simp only [Act.put, List.setIfInBounds_toArray, List.set_cons_zero, List.set_cons_succ]
            refine wpAnyH_take (i := 3) (oi := { dst := some 72, op := Op.indexAddr 55 (Operand.tmp 70) (Operand.tmp 71), type := 0, pos := "outright.go:72", after := #[{ on := 1, ground := Ground.data }, { on := 2, ground := Ground.data }], guard := none }) (v := ?_) rfl (by kernel_rfl) (by kernel_rfl) (by kernel_rfl) (fun _ _ _ h => h) (Or.inl ⟨by rfl, ?_⟩) (by assumption) ?_
            rotate_left
            · intro w hSw
              skip
              clear hSw
              go_simp
              try with_reducible rfl
            try simp only [Act.put, List.setIfInBounds_toArray, List.set_cons_zero, List.set_cons_succ]
            refine wpAnyH_take (i := 7) (oi := { dst := some 76, op := Op.move (Operand.tmp 11), type := 3, pos := "outright.go:72", after := #[], guard := none }) (v := ?_) rfl (by kernel_rfl) (by kernel_rfl) (by kernel_rfl) (fun _ _ _ h => h) (Or.inl ⟨by rfl, ?_⟩) (by assumption) ?_
            rotate_left
            · intro w hSw
              skip
              clear hSw
              go_simp
              try with_reducible rfl
            try simp only [Act.put, List.setIfInBounds_toArray, List.set_cons_zero, List.set_cons_succ]
            refine wpAnyH_take (i := 8) (oi := { dst := some 77, op := Op.convert 3 5 (Operand.tmp 76), type := 5, pos := "outright.go:72", after := #[{ on := 7, ground := Ground.data }], guard := none }) (v := ?_) rfl (by kernel_rfl) (by kernel_rfl) (by kernel_rfl) (fun _ _ _ h => h) (Or.inl ⟨by rfl, ?_⟩) (by assumption) ?_
            rotate_left
            · intro w hSw
              skip
              clear hSw
              go_simp
              try with_reducible rfl
            try simp only [Act.put, List.setIfInBounds_toArray, List.set_cons_zero, List.set_cons_succ]
            refine wpAnyH_take (i := 4) (oi := { dst := some 73, op := Op.load 5 (Operand.tmp 72), type := 5, pos := "outright.go:72", after := #[{ on := 3, ground := Ground.data }], guard := none }) (v := ?_) rfl (by kernel_rfl) (by kernel_rfl) (by kernel_rfl) (fun _ _ _ h => h) (Or.inl ⟨by rfl, ?_⟩) (by assumption) ?_
            rotate_left
            · intro w hSw
              have hSw := OS _ hSw
              go_simp
              try with_reducible rfl
            try simp only [Act.put, List.setIfInBounds_toArray, List.set_cons_zero, List.set_cons_succ]
            refine wpAnyH_take (i := 5) (oi := { dst := some 74, op := Op.convert 5 3 (Operand.tmp 73), type := 3, pos := "outright.go:72", after := #[{ on := 4, ground := Ground.data }], guard := none }) (v := ?_) rfl (by kernel_rfl) (by kernel_rfl) (by kernel_rfl) (fun _ _ _ h => h) (Or.inl ⟨by rfl, ?_⟩) (by assumption) ?_
            rotate_left
            · intro w hSw
              skip
              clear hSw
              go_simp
              try with_reducible rfl
            try simp only [Act.put, List.setIfInBounds_toArray, List.set_cons_zero, List.set_cons_succ]
            refine wpAnyH_take (i := 6) (oi := { dst := some 75, op := Op.binOp BinOp.rem 3 (Operand.tmp 74) (Operand.const (Value.int IntKind.i64 8)) 3, type := 3, pos := "outright.go:72", after := #[{ on := 5, ground := Ground.data }], guard := none }) (v := ?_) rfl (by kernel_rfl) (by kernel_rfl) (by kernel_rfl) (fun _ _ _ h => h) (Or.inl ⟨by rfl, ?_⟩) (by assumption) ?_
            rotate_left
            · intro w hSw
              skip
              clear hSw
              go_simp
              try with_reducible rfl
            try simp only [Act.put, List.setIfInBounds_toArray, List.set_cons_zero, List.set_cons_succ]
            refine wpAnyH_ready (rs := [9]) (by kernel_rfl) (by simp) ?_
            refine (AllReadyH.cons (o := { dst := some 78, op := Op.call { callee := Callee.value (Operand.func 23), args := #[Operand.tmp 77], argTypes := #[5] }, type := 9, pos := "outright.go:72", after := #[{ on := 8, ground := Ground.data }], guard := none }) rfl (fun K hK => ?_) AllReadyH.nil)
            go_simp
            refine (CS.out _ (by assumption)).mono ?_
            rintro e w9' ⟨rfl, m9'⟩
            refine hK.out _ _ (SO _ (HCL.out _ m9'.b)) (fun hHeld => ?_)
            clear hK K
            try simp only [Act.put, List.setIfInBounds_toArray, List.set_cons_zero, List.set_cons_succ]
            refine wpAnyH_ready (rs := [10]) (by kernel_rfl) (by simp) ?_
            refine (AllReadyH.cons (o := { dst := some 79, op := Op.call { callee := Callee.value (Operand.func 14), args := #[Operand.tmp 69, Operand.tmp 75, Operand.tmp 78], argTypes := #[25, 3, 9] }, type := 26, pos := "outright.go:72", after := #[{ on := 0, ground := Ground.data }, { on := 6, ground := Ground.data }, { on := 9, ground := Ground.data }, { on := 9, ground := Ground.chain }], guard := none }) rfl (fun K hK => ?_) AllReadyH.nil)
            go_simp
            refine (CW.out _ (by assumption)).mono ?_
            rintro e w10' ⟨rfl, m10'⟩
            refine hK.out _ _ (SO _ (HCL.out _ m10'.b)) (fun hHeld => ?_)
            clear hK K
            try simp only [Act.put, List.setIfInBounds_toArray, List.set_cons_zero, List.set_cons_succ]
            refine wpAnyH_take (i := 11) (oi := { dst := some 12, op := Op.assign (Operand.tmp 79), type := 26, pos := "outright.go:72", after := #[{ on := 10, ground := Ground.data }, { on := 10, ground := Ground.chain }, { on := 0, ground := Ground.phase }, { on := 1, ground := Ground.phase }, { on := 2, ground := Ground.phase }, { on := 3, ground := Ground.phase }, { on := 4, ground := Ground.phase }, { on := 5, ground := Ground.phase }, { on := 6, ground := Ground.phase }, { on := 7, ground := Ground.phase }, { on := 8, ground := Ground.phase }, { on := 9, ground := Ground.phase }, { on := 10, ground := Ground.phase }], guard := none }) (v := ?_) rfl (by kernel_rfl) (by kernel_rfl) (by kernel_rfl) (fun _ _ _ h => h) (Or.inl ⟨by rfl, ?_⟩) (by assumption) ?_
            rotate_left
            · intro w hSw
              skip
              clear hSw
              go_simp
              try with_reducible rfl
            try simp only [Act.put, List.setIfInBounds_toArray, List.set_cons_zero, List.set_cons_succ]
            refine wpAnyH_done (by kernel_rfl) ?_ _
            refine NoPanic.normal ?_
            have md := m10'.below (Below.refl _ w10').drew
            go_wp2
            refine wp_region_noPanic ?_
            refine wp_region_held_drew (S := SS) (by kernel_rfl) (SO _ (HCL.out _ md.b)) (fun hHeld => ?_)
            refine wpAnyH_take (i := 0) (oi := { dst := some 80, op := Op.move (Operand.tmp 9), type := 25, pos := "outright.go:73", after := #[], guard := none }) (v := ?_) rfl (by kernel_rfl) (by kernel_rfl) (by kernel_rfl) (fun _ _ _ h => h) (Or.inl ⟨by rfl, ?_⟩) (by assumption) ?_
            rotate_left
            · intro w hSw
              skip
              clear hSw
              go_simp
              try with_reducible rfl
            try simp only [Act.put, List.setIfInBounds_toArray, List.set_cons_zero, List.set_cons_succ]
            refine wpAnyH_take (i := 1) (oi := { dst := some 81, op := Op.move (Operand.tmp 0), type := 55, pos := "outright.go:73", after := #[], guard := none }) (v := ?_) rfl (by kernel_rfl) (by kernel_rfl) (by kernel_rfl) (fun _ _ _ h => h) (Or.inl ⟨by rfl, ?_⟩) (by assumption) ?_
            rotate_left
            · intro w hSw
              skip
              clear hSw
              go_simp
              try with_reducible rfl
            try simp only [Act.put, List.setIfInBounds_toArray, List.set_cons_zero, List.set_cons_succ]
            refine wpAnyH_take (i := 2) (oi := { dst := some 82, op := Op.move (Operand.tmp 11), type := 3, pos := "outright.go:73", after := #[], guard := none }) (v := ?_) rfl (by kernel_rfl) (by kernel_rfl) (by kernel_rfl) (fun _ _ _ h => h) (Or.inl ⟨by rfl, ?_⟩) (by assumption) ?_
            rotate_left
            · intro w hSw
              skip
              clear hSw
              go_simp
              try with_reducible rfl
            try simp only [Act.put, List.setIfInBounds_toArray, List.set_cons_zero, List.set_cons_succ]
            refine wpAnyH_take (i := 3) (oi := { dst := some 83, op := Op.indexAddr 55 (Operand.tmp 81) (Operand.tmp 82), type := 0, pos := "outright.go:73", after := #[{ on := 1, ground := Ground.data }, { on := 2, ground := Ground.data }], guard := none }) (v := ?_) rfl (by kernel_rfl) (by kernel_rfl) (by kernel_rfl) (fun _ _ _ h => h) (Or.inl ⟨by rfl, ?_⟩) (by assumption) ?_
            rotate_left
            · intro w hSw
              skip
              clear hSw
              go_simp
              try with_reducible rfl
            try simp only [Act.put, List.setIfInBounds_toArray, List.set_cons_zero, List.set_cons_succ]
            refine wpAnyH_take (i := 7) (oi := { dst := some 87, op := Op.move (Operand.tmp 11), type := 3, pos := "outright.go:73", after := #[], guard := none }) (v := ?_) rfl (by kernel_rfl) (by kernel_rfl) (by kernel_rfl) (fun _ _ _ h => h) (Or.inl ⟨by rfl, ?_⟩) (by assumption) ?_
            rotate_left
            · intro w hSw
              skip
              clear hSw
              go_simp
              try with_reducible rfl
            try simp only [Act.put, List.setIfInBounds_toArray, List.set_cons_zero, List.set_cons_succ]
            refine wpAnyH_take (i := 8) (oi := { dst := some 88, op := Op.convert 3 5 (Operand.tmp 87), type := 5, pos := "outright.go:73", after := #[{ on := 7, ground := Ground.data }], guard := none }) (v := ?_) rfl (by kernel_rfl) (by kernel_rfl) (by kernel_rfl) (fun _ _ _ h => h) (Or.inl ⟨by rfl, ?_⟩) (by assumption) ?_
            rotate_left
            · intro w hSw
              skip
              clear hSw
              go_simp
              try with_reducible rfl
            try simp only [Act.put, List.setIfInBounds_toArray, List.set_cons_zero, List.set_cons_succ]
            refine wpAnyH_take (i := 4) (oi := { dst := some 84, op := Op.load 5 (Operand.tmp 83), type := 5, pos := "outright.go:73", after := #[{ on := 3, ground := Ground.data }], guard := none }) (v := ?_) rfl (by kernel_rfl) (by kernel_rfl) (by kernel_rfl) (fun _ _ _ h => h) (Or.inl ⟨by rfl, ?_⟩) (by assumption) ?_
            rotate_left
            · intro w hSw
              have hSw := OS _ hSw
              go_simp
              try with_reducible rfl
            try simp only [Act.put, List.setIfInBounds_toArray, List.set_cons_zero, List.set_cons_succ]
            refine wpAnyH_take (i := 5) (oi := { dst := some 85, op := Op.convert 5 3 (Operand.tmp 84), type := 3, pos := "outright.go:73", after := #[{ on := 4, ground := Ground.data }], guard := none }) (v := ?_) rfl (by kernel_rfl) (by kernel_rfl) (by kernel_rfl) (fun _ _ _ h => h) (Or.inl ⟨by rfl, ?_⟩) (by assumption) ?_
            rotate_left
            · intro w hSw
              skip
              clear hSw
              go_simp
              try with_reducible rfl
            try simp only [Act.put, List.setIfInBounds_toArray, List.set_cons_zero, List.set_cons_succ]
            refine wpAnyH_take (i := 6) (oi := { dst := some 86, op := Op.binOp BinOp.rem 3 (Operand.tmp 85) (Operand.const (Value.int IntKind.i64 8)) 3, type := 3, pos := "outright.go:73", after := #[{ on := 5, ground := Ground.data }], guard := none }) (v := ?_) rfl (by kernel_rfl) (by kernel_rfl) (by kernel_rfl) (fun _ _ _ h => h) (Or.inl ⟨by rfl, ?_⟩) (by assumption) ?_
            rotate_left
            · intro w hSw
              skip
              clear hSw
              go_simp
              try with_reducible rfl
            try simp only [Act.put, List.setIfInBounds_toArray, List.set_cons_zero, List.set_cons_succ]
            refine wpAnyH_ready (rs := [9]) (by kernel_rfl) (by simp) ?_
            refine (AllReadyH.cons (o := { dst := some 89, op := Op.call { callee := Callee.value (Operand.func 23), args := #[Operand.tmp 88], argTypes := #[5] }, type := 9, pos := "outright.go:73", after := #[{ on := 8, ground := Ground.data }], guard := none }) rfl (fun K hK => ?_) AllReadyH.nil)
            go_simp
            refine (CS2.out _ (by assumption)).mono ?_
            rintro e w9' ⟨rfl, m9'⟩
            refine hK.out _ _ (SO _ (HCL.out _ m9'.b)) (fun hHeld => ?_)
            clear hK K
            try simp only [Act.put, List.setIfInBounds_toArray, List.set_cons_zero, List.set_cons_succ]
            refine wpAnyH_ready (rs := [10]) (by kernel_rfl) (by simp) ?_
            refine (AllReadyH.cons (o := { dst := some 90, op := Op.call { callee := Callee.value (Operand.func 14), args := #[Operand.tmp 80, Operand.tmp 86, Operand.tmp 89], argTypes := #[25, 3, 9] }, type := 26, pos := "outright.go:73", after := #[{ on := 0, ground := Ground.data }, { on := 6, ground := Ground.data }, { on := 9, ground := Ground.data }, { on := 9, ground := Ground.chain }], guard := none }) rfl (fun K hK => ?_) AllReadyH.nil)
            go_simp
            refine (CW2.out _ (by assumption)).mono ?_
            rintro e w10' ⟨rfl, m10'⟩
            refine hK.out _ _ (SO _ (HCL.out _ m10'.b)) (fun hHeld => ?_)
            clear hK K
            try simp only [Act.put, List.setIfInBounds_toArray, List.set_cons_zero, List.set_cons_succ]
            refine wpAnyH_take (i := 11) (oi := { dst := some 13, op := Op.assign (Operand.tmp 90), type := 26, pos := "outright.go:73", after := #[{ on := 10, ground := Ground.data }, { on := 10, ground := Ground.chain }, { on := 0, ground := Ground.phase }, { on := 1, ground := Ground.phase }, { on := 2, ground := Ground.phase }, { on := 3, ground := Ground.phase }, { on := 4, ground := Ground.phase }, { on := 5, ground := Ground.phase }, { on := 6, ground := Ground.phase }, { on := 7, ground := Ground.phase }, { on := 8, ground := Ground.phase }, { on := 9, ground := Ground.phase }, { on := 10, ground := Ground.phase }], guard := none }) (v := ?_) rfl (by kernel_rfl) (by kernel_rfl) (by kernel_rfl) (fun _ _ _ h => h) (Or.inl ⟨by rfl, ?_⟩) (by assumption) ?_
            rotate_left
            · intro w hSw
              skip
              clear hSw
              go_simp
              try with_reducible rfl
            try simp only [Act.put, List.setIfInBounds_toArray, List.set_cons_zero, List.set_cons_succ]
            refine wpAnyH_done (by kernel_rfl) ?_ _
            refine NoPanic.normal ?_
            go_wp2_with (go_at_call 21; ((with_reducible refine (GO5.out.up _ _ (by omega) (by omega) m10').mono ?_); rintro e w6 ⟨rfl, t6⟩); have HT6 := Lib.hid t6; clear t6)
            go_roundw
            case rel => exact ⟨k + 1, by omega, by omega, by go_num, Lib.hid ⟨d.wrote n s, HC.out.wrote hn7 s, HST.out, by have := HT6.out; rwa [show (nn : Int) - (k : Int) - 1 = (nn : Int) - ((k + 1 : Nat) : Int) by omega] at this⟩⟩
            case measure => simp [intOf]; omega
          · obtain rfl : k = nn := by omega
            have HT0 := Lib.hid (show Two I w wr.drew qa (d.armed 0 ks) qb d by have := md; rwa [show (k : Int) - (k : Int) = 0 by omega] at this)
            clear md
            have md := HT0.out
            have ED := Lib.hid (fail_end I w qa qb (HC.out.wrote hn7 s) (by omega) HST.out HK.out hkl)
            have CS := Lib.hid (fun (w' : World) (t : Two I w w' qa (d.armed 0 ks) qb d) => HSC.out w' _ _ t)
            have CW := Lib.hid (fun (w' : World) (t : Two I w w' qa (d.armed 0 ks) qb d) => GO.out.writef w' n s hn7 hss t)
            have CS2 := Lib.hid (fun (w' : World) (t : Two I w w' qa ((d.wrote n s).fell ks) qb d) => HSC.out w' _ _ t)
            have CW2 := Lib.hid (fun (w' : World) (t : Two I w w' qa ((d.wrote n s).fell ks) qb d) => GO.out.writeb w' _ n s hn7 hss t)
            go_wp2
            clear c0
            refine wp_region_noPanic ?_
            refine wp_region_held_drew (S := SS) (by kernel_rfl) (SO _ (HCL.out _ md.b)) (fun hHeld => ?_)
            refine wpAnyH_take (i := 0) (oi := { dst := some 69, op := Op.move (Operand.tmp 7), type := 25, pos := "outright.go:72", after := #[], guard := none }) (v := ?_) rfl (by kernel_rfl) (by kernel_rfl) (by kernel_rfl) (fun _ _ _ h => h) (Or.inl ⟨by rfl, ?_⟩) (by assumption) ?_
            rotate_left
            · intro w hSw
              skip
              clear hSw
              go_simp
              try with_reducible rfl
            try simp only [Act.put, List.setIfInBounds_toArray, List.set_cons_zero, List.set_cons_succ]
            refine wpAnyH_take (i := 1) (oi := { dst := some 70, op := Op.move (Operand.tmp 0), type := 55, pos := "outright.go:72", after := #[], guard := none }) (v := ?_) rfl (by kernel_rfl) (by kernel_rfl) (by kernel_rfl) (fun _ _ _ h => h) (Or.inl ⟨by rfl, ?_⟩) (by assumption) ?_
            rotate_left
            · intro w hSw
              skip
              clear hSw
              go_simp
              try with_reducible rfl
            try simp only [Act.put, List.setIfInBounds_toArray, List.set_cons_zero, List.set_cons_succ]
            refine wpAnyH_take (i := 2) (oi := { dst := some 71, op := Op.move (Operand.tmp 11), type := 3, pos := "outright.go:72", after := #[], guard := none }) (v := ?_) rfl (by kernel_rfl) (by kernel_rfl) (by kernel_rfl) (fun _ _ _ h => h) (Or.inl ⟨by rfl, ?_⟩) (by assumption) ?_
            rotate_left
            · intro w hSw
              skip
              clear hSw
              go_simp
              try with_reducible rfl
            try simp only [Act.put, List.setIfInBounds_toArray, List.set_cons_zero, List.set_cons_succ]
            refine wpAnyH_take (i := 3) (oi := { dst := some 72, op := Op.indexAddr 55 (Operand.tmp 70) (Operand.tmp 71), type := 0, pos := "outright.go:72", after := #[{ on := 1, ground := Ground.data }, { on := 2, ground := Ground.data }], guard := none }) (v := ?_) rfl (by kernel_rfl) (by kernel_rfl) (by kernel_rfl) (fun _ _ _ h => h) (Or.inl ⟨by rfl, ?_⟩) (by assumption) ?_
            rotate_left
            · intro w hSw
              skip
              clear hSw
              go_simp
              try with_reducible rfl
            try simp only [Act.put, List.setIfInBounds_toArray, List.set_cons_zero, List.set_cons_succ]
            refine wpAnyH_take (i := 7) (oi := { dst := some 76, op := Op.move (Operand.tmp 11), type := 3, pos := "outright.go:72", after := #[], guard := none }) (v := ?_) rfl (by kernel_rfl) (by kernel_rfl) (by kernel_rfl) (fun _ _ _ h => h) (Or.inl ⟨by rfl, ?_⟩) (by assumption) ?_
            rotate_left
            · intro w hSw
              skip
              clear hSw
              go_simp
              try with_reducible rfl
            try simp only [Act.put, List.setIfInBounds_toArray, List.set_cons_zero, List.set_cons_succ]
            refine wpAnyH_take (i := 8) (oi := { dst := some 77, op := Op.convert 3 5 (Operand.tmp 76), type := 5, pos := "outright.go:72", after := #[{ on := 7, ground := Ground.data }], guard := none }) (v := ?_) rfl (by kernel_rfl) (by kernel_rfl) (by kernel_rfl) (fun _ _ _ h => h) (Or.inl ⟨by rfl, ?_⟩) (by assumption) ?_
            rotate_left
            · intro w hSw
              skip
              clear hSw
              go_simp
              try with_reducible rfl
            try simp only [Act.put, List.setIfInBounds_toArray, List.set_cons_zero, List.set_cons_succ]
            refine wpAnyH_take (i := 4) (oi := { dst := some 73, op := Op.load 5 (Operand.tmp 72), type := 5, pos := "outright.go:72", after := #[{ on := 3, ground := Ground.data }], guard := none }) (v := ?_) rfl (by kernel_rfl) (by kernel_rfl) (by kernel_rfl) (fun _ _ _ h => h) (Or.inl ⟨by rfl, ?_⟩) (by assumption) ?_
            rotate_left
            · intro w hSw
              have hSw := OS _ hSw
              go_simp
              try with_reducible rfl
            try simp only [Act.put, List.setIfInBounds_toArray, List.set_cons_zero, List.set_cons_succ]
            refine wpAnyH_take (i := 5) (oi := { dst := some 74, op := Op.convert 5 3 (Operand.tmp 73), type := 3, pos := "outright.go:72", after := #[{ on := 4, ground := Ground.data }], guard := none }) (v := ?_) rfl (by kernel_rfl) (by kernel_rfl) (by kernel_rfl) (fun _ _ _ h => h) (Or.inl ⟨by rfl, ?_⟩) (by assumption) ?_
            rotate_left
            · intro w hSw
              skip
              clear hSw
              go_simp
              try with_reducible rfl
            try simp only [Act.put, List.setIfInBounds_toArray, List.set_cons_zero, List.set_cons_succ]
            refine wpAnyH_take (i := 6) (oi := { dst := some 75, op := Op.binOp BinOp.rem 3 (Operand.tmp 74) (Operand.const (Value.int IntKind.i64 8)) 3, type := 3, pos := "outright.go:72", after := #[{ on := 5, ground := Ground.data }], guard := none }) (v := ?_) rfl (by kernel_rfl) (by kernel_rfl) (by kernel_rfl) (fun _ _ _ h => h) (Or.inl ⟨by rfl, ?_⟩) (by assumption) ?_
            rotate_left
            · intro w hSw
              skip
              clear hSw
              go_simp
              try with_reducible rfl
            try simp only [Act.put, List.setIfInBounds_toArray, List.set_cons_zero, List.set_cons_succ]
            refine wpAnyH_ready (rs := [9]) (by kernel_rfl) (by simp) ?_
            refine (AllReadyH.cons (o := { dst := some 78, op := Op.call { callee := Callee.value (Operand.func 23), args := #[Operand.tmp 77], argTypes := #[5] }, type := 9, pos := "outright.go:72", after := #[{ on := 8, ground := Ground.data }], guard := none }) rfl (fun K hK => ?_) AllReadyH.nil)
            go_simp
            refine (CS.out _ (by assumption)).mono ?_
            rintro e w9' ⟨rfl, m9'⟩
            refine hK.out _ _ (SO _ (HCL.out _ m9'.b)) (fun hHeld => ?_)
            clear hK K
            try simp only [Act.put, List.setIfInBounds_toArray, List.set_cons_zero, List.set_cons_succ]
            refine wpAnyH_ready (rs := [10]) (by kernel_rfl) (by simp) ?_
            refine (AllReadyH.cons (o := { dst := some 79, op := Op.call { callee := Callee.value (Operand.func 14), args := #[Operand.tmp 69, Operand.tmp 75, Operand.tmp 78], argTypes := #[25, 3, 9] }, type := 26, pos := "outright.go:72", after := #[{ on := 0, ground := Ground.data }, { on := 6, ground := Ground.data }, { on := 9, ground := Ground.data }, { on := 9, ground := Ground.chain }], guard := none }) rfl (fun K hK => ?_) AllReadyH.nil)
            go_simp
            refine (CW.out _ (by assumption)).mono ?_
            rintro e w10' ⟨rfl, m10'⟩
            refine hK.out _ _ (SO _ (HCL.out _ m10'.b)) (fun hHeld => ?_)
            clear hK K
            try simp only [Act.put, List.setIfInBounds_toArray, List.set_cons_zero, List.set_cons_succ]
            refine wpAnyH_take (i := 11) (oi := { dst := some 12, op := Op.assign (Operand.tmp 79), type := 26, pos := "outright.go:72", after := #[{ on := 10, ground := Ground.data }, { on := 10, ground := Ground.chain }, { on := 0, ground := Ground.phase }, { on := 1, ground := Ground.phase }, { on := 2, ground := Ground.phase }, { on := 3, ground := Ground.phase }, { on := 4, ground := Ground.phase }, { on := 5, ground := Ground.phase }, { on := 6, ground := Ground.phase }, { on := 7, ground := Ground.phase }, { on := 8, ground := Ground.phase }, { on := 9, ground := Ground.phase }, { on := 10, ground := Ground.phase }], guard := none }) (v := ?_) rfl (by kernel_rfl) (by kernel_rfl) (by kernel_rfl) (fun _ _ _ h => h) (Or.inl ⟨by rfl, ?_⟩) (by assumption) ?_
            rotate_left
            · intro w hSw
              skip
              clear hSw
              go_simp
              try with_reducible rfl
            try simp only [Act.put, List.setIfInBounds_toArray, List.set_cons_zero, List.set_cons_succ]
            refine wpAnyH_done (by kernel_rfl) ?_ _
            refine NoPanic.normal ?_
            have md := m10'.below (Below.refl _ w10').drew
            go_wp2
            refine wp_region_noPanic ?_
            refine wp_region_held_drew (S := SS) (by kernel_rfl) (SO _ (HCL.out _ md.b)) (fun hHeld => ?_)
            refine wpAnyH_take (i := 0) (oi := { dst := some 80, op := Op.move (Operand.tmp 9), type := 25, pos := "outright.go:73", after := #[], guard := none }) (v := ?_) rfl (by kernel_rfl) (by kernel_rfl) (by kernel_rfl) (fun _ _ _ h => h) (Or.inl ⟨by rfl, ?_⟩) (by assumption) ?_
            rotate_left
            · intro w hSw
              skip
              clear hSw
              go_simp
              try with_reducible rfl
            try simp only [Act.put, List.setIfInBounds_toArray, List.set_cons_zero, List.set_cons_succ]
            refine wpAnyH_take (i := 1) (oi := { dst := some 81, op := Op.move (Operand.tmp 0), type := 55, pos := "outright.go:73", after := #[], guard := none }) (v := ?_) rfl (by kernel_rfl) (by kernel_rfl) (by kernel_rfl) (fun _ _ _ h => h) (Or.inl ⟨by rfl, ?_⟩) (by assumption) ?_
            rotate_left
            · intro w hSw
              skip
              clear hSw
              go_simp
              try with_reducible rfl
            try simp only [Act.put, List.setIfInBounds_toArray, List.set_cons_zero, List.set_cons_succ]
            refine wpAnyH_take (i := 2) (oi := { dst := some 82, op := Op.move (Operand.tmp 11), type := 3, pos := "outright.go:73", after := #[], guard := none }) (v := ?_) rfl (by kernel_rfl) (by kernel_rfl) (by kernel_rfl) (fun _ _ _ h => h) (Or.inl ⟨by rfl, ?_⟩) (by assumption) ?_
            rotate_left
            · intro w hSw
              skip
              clear hSw
              go_simp
              try with_reducible rfl
            try simp only [Act.put, List.setIfInBounds_toArray, List.set_cons_zero, List.set_cons_succ]
            refine wpAnyH_take (i := 3) (oi := { dst := some 83, op := Op.indexAddr 55 (Operand.tmp 81) (Operand.tmp 82), type := 0, pos := "outright.go:73", after := #[{ on := 1, ground := Ground.data }, { on := 2, ground := Ground.data }], guard := none }) (v := ?_) rfl (by kernel_rfl) (by kernel_rfl) (by kernel_rfl) (fun _ _ _ h => h) (Or.inl ⟨by rfl, ?_⟩) (by assumption) ?_
            rotate_left
            · intro w hSw
              skip
              clear hSw
              go_simp
              try with_reducible rfl
            try simp only [Act.put, List.setIfInBounds_toArray, List.set_cons_zero, List.set_cons_succ]
            refine wpAnyH_take (i := 7) (oi := { dst := some 87, op := Op.move (Operand.tmp 11), type := 3, pos := "outright.go:73", after := #[], guard := none }) (v := ?_) rfl (by kernel_rfl) (by kernel_rfl) (by kernel_rfl) (fun _ _ _ h => h) (Or.inl ⟨by rfl, ?_⟩) (by assumption) ?_
            rotate_left
            · intro w hSw
              skip
              clear hSw
              go_simp
              try with_reducible rfl
            try simp only [Act.put, List.setIfInBounds_toArray, List.set_cons_zero, List.set_cons_succ]
            refine wpAnyH_take (i := 8) (oi := { dst := some 88, op := Op.convert 3 5 (Operand.tmp 87), type := 5, pos := "outright.go:73", after := #[{ on := 7, ground := Ground.data }], guard := none }) (v := ?_) rfl (by kernel_rfl) (by kernel_rfl) (by kernel_rfl) (fun _ _ _ h => h) (Or.inl ⟨by rfl, ?_⟩) (by assumption) ?_
            rotate_left
            · intro w hSw
              skip
              clear hSw
              go_simp
              try with_reducible rfl
            try simp only [Act.put, List.setIfInBounds_toArray, List.set_cons_zero, List.set_cons_succ]
            refine wpAnyH_take (i := 4) (oi := { dst := some 84, op := Op.load 5 (Operand.tmp 83), type := 5, pos := "outright.go:73", after := #[{ on := 3, ground := Ground.data }], guard := none }) (v := ?_) rfl (by kernel_rfl) (by kernel_rfl) (by kernel_rfl) (fun _ _ _ h => h) (Or.inl ⟨by rfl, ?_⟩) (by assumption) ?_
            rotate_left
            · intro w hSw
              have hSw := OS _ hSw
              go_simp
              try with_reducible rfl
            try simp only [Act.put, List.setIfInBounds_toArray, List.set_cons_zero, List.set_cons_succ]
            refine wpAnyH_take (i := 5) (oi := { dst := some 85, op := Op.convert 5 3 (Operand.tmp 84), type := 3, pos := "outright.go:73", after := #[{ on := 4, ground := Ground.data }], guard := none }) (v := ?_) rfl (by kernel_rfl) (by kernel_rfl) (by kernel_rfl) (fun _ _ _ h => h) (Or.inl ⟨by rfl, ?_⟩) (by assumption) ?_
            rotate_left
            · intro w hSw
              skip
              clear hSw
              go_simp
              try with_reducible rfl
            try simp only [Act.put, List.setIfInBounds_toArray, List.set_cons_zero, List.set_cons_succ]
            refine wpAnyH_take (i := 6) (oi := { dst := some 86, op := Op.binOp BinOp.rem 3 (Operand.tmp 85) (Operand.const (Value.int IntKind.i64 8)) 3, type := 3, pos := "outright.go:73", after := #[{ on := 5, ground := Ground.data }], guard := none }) (v := ?_) rfl (by kernel_rfl) (by kernel_rfl) (by kernel_rfl) (fun _ _ _ h => h) (Or.inl ⟨by rfl, ?_⟩) (by assumption) ?_
            rotate_left
            · intro w hSw
              skip
              clear hSw
              go_simp
              try with_reducible rfl
            try simp only [Act.put, List.setIfInBounds_toArray, List.set_cons_zero, List.set_cons_succ]
            refine wpAnyH_ready (rs := [9]) (by kernel_rfl) (by simp) ?_
            refine (AllReadyH.cons (o := { dst := some 89, op := Op.call { callee := Callee.value (Operand.func 23), args := #[Operand.tmp 88], argTypes := #[5] }, type := 9, pos := "outright.go:73", after := #[{ on := 8, ground := Ground.data }], guard := none }) rfl (fun K hK => ?_) AllReadyH.nil)
            go_simp
            refine (CS2.out _ (by assumption)).mono ?_
            rintro e w9' ⟨rfl, m9'⟩
            refine hK.out _ _ (SO _ (HCL.out _ m9'.b)) (fun hHeld => ?_)
            clear hK K
            try simp only [Act.put, List.setIfInBounds_toArray, List.set_cons_zero, List.set_cons_succ]
            refine wpAnyH_ready (rs := [10]) (by kernel_rfl) (by simp) ?_
            refine (AllReadyH.cons (o := { dst := some 90, op := Op.call { callee := Callee.value (Operand.func 14), args := #[Operand.tmp 80, Operand.tmp 86, Operand.tmp 89], argTypes := #[25, 3, 9] }, type := 26, pos := "outright.go:73", after := #[{ on := 0, ground := Ground.data }, { on := 6, ground := Ground.data }, { on := 9, ground := Ground.data }, { on := 9, ground := Ground.chain }], guard := none }) rfl (fun K hK => ?_) AllReadyH.nil)
            go_simp
            refine (CW2.out _ (by assumption)).mono ?_
            rintro e w10' ⟨rfl, m10'⟩
            refine hK.out _ _ (SO _ (HCL.out _ m10'.b)) (fun hHeld => ?_)
            clear hK K
            try simp only [Act.put, List.setIfInBounds_toArray, List.set_cons_zero, List.set_cons_succ]
            refine wpAnyH_take (i := 11) (oi := { dst := some 13, op := Op.assign (Operand.tmp 90), type := 26, pos := "outright.go:73", after := #[{ on := 10, ground := Ground.data }, { on := 10, ground := Ground.chain }, { on := 0, ground := Ground.phase }, { on := 1, ground := Ground.phase }, { on := 2, ground := Ground.phase }, { on := 3, ground := Ground.phase }, { on := 4, ground := Ground.phase }, { on := 5, ground := Ground.phase }, { on := 6, ground := Ground.phase }, { on := 7, ground := Ground.phase }, { on := 8, ground := Ground.phase }, { on := 9, ground := Ground.phase }, { on := 10, ground := Ground.phase }], guard := none }) (v := ?_) rfl (by kernel_rfl) (by kernel_rfl) (by kernel_rfl) (fun _ _ _ h => h) (Or.inl ⟨by rfl, ?_⟩) (by assumption) ?_
            rotate_left
            · intro w hSw
              skip
              clear hSw
              go_simp
              try with_reducible rfl
            try simp only [Act.put, List.setIfInBounds_toArray, List.set_cons_zero, List.set_cons_succ]
            refine wpAnyH_done (by kernel_rfl) ?_ _
            refine NoPanic.normal ?_
            have HE0 := Lib.hid m10'
            go_wp2_with (first
              | (go_at_call 21; ((with_reducible refine (ED.out.up _ HE0.out).mono ?_); rintro e w5 ⟨rfl, t5⟩); have HE1 := Lib.hid t5; clear t5)
              | (go_at_call 16; ((with_reducible refine (ED.out.crash _ HE1.out).mono ?_); rintro e w6 ⟨rfl, t6⟩); have HE2 := Lib.hid t6; clear t6)
              | (go_at_call 17; ((with_reducible refine (ED.out.startb _ HE3.out).mono ?_); rintro e w8 ⟨rfl, t8⟩); have HE4 := Lib.hid t8; clear t8)
              | (go_at_call 17; ((with_reducible refine (ED.out.starta _ HE2.out).mono ?_); rintro e w7 ⟨rfl, t7⟩); have HE3 := Lib.hid t7; clear t7))
            clear HC HST HT HT0 GO HE0 HE1 HE2 HE3 HCL CS CW CS2 CW2 HSC
            go_loopw [14] (fun i wr => ∃ j : Nat, j ≤ 8 ∧ i = .int .i64 j ∧ Hid (Two I w wr qa (RD.fell (d.wrote n s) ks).again qb (RD.fall (d.wrote n s) ks).again)) (fun i _ => 8 - (intOf i).toNat)
            case atStart => exact ⟨0, Nat.zero_le _, rfl, HE4⟩
            case round =>
              clear HE4
              obtain ⟨j, hj, rfl, HJ⟩ := hrel
              by_cases hj8 : j < 8
              · have g8 : (j : Int) < 8 := by omega
                obtain ⟨S, hS⟩ : ∃ S, S = (RD.fall (d.wrote n s) ks).sure.getD j ByteArray.empty := ⟨_, rfl⟩
                have RA := Lib.hid (fun (w' : World) => ED.out.reada w' j hj8)
                have RB := Lib.hid (fun (w' : World) => ED.out.readb w' j hj8)
                rw [← hS] at RA RB
                clear hS
                go_wp2_with (first
                  | (go_at_call 13; ((with_reducible refine (RB.out _ HJ1.out).mono ?_); rintro e w12 ⟨rfl, t12⟩); have HJ2 := Lib.hid t12; clear t12)
                  | (go_at_call 13; ((with_reducible refine (RA.out _ HJ.out).mono ?_); rintro e w11 ⟨rfl, t11⟩); have HJ1 := Lib.hid t11; clear t11))
                go_roundw
                case rel => exact ⟨j + 1, by omega, by go_num, HJ2⟩
                case measure => simp [intOf]; omega
              · obtain rfl : j = 8 := by omega
                obtain ⟨Z, hZ⟩ : ∃ Z, Z = secB 122 := ⟨_, rfl⟩
                have hZZ : Z.size = 512 := by rw [hZ]; exact secB_size _
                have CZ : Calls Try.prog 23 #[.int .u8 122] wr fun e w' => e = .returned (.string (secB 122)) ∧ Two I w w' qa (RD.fell (d.wrote n s) ks).again qb (RD.fall (d.wrote n s) ks).again := two_sector HJ.out 122
                rw [← hZ] at CZ
                clear hZ
                go_wp2_with (first
                  | (go_at_call 23; ((with_reducible refine (CZ).mono ?_); rintro e w11 ⟨rfl, t11⟩); have HJ1 := Lib.hid t11; clear t11)
                  | (go_at_call 14; ((with_reducible refine (ED.out.write _ Z hZZ HJ1.out).mono ?_); rintro e w12 ⟨rfl, t12⟩); have HJ2 := Lib.hid t12; clear t12)
                  | (go_at_call 15; ((with_reducible refine (ED.out.flush _ Z HJ2.out).mono ?_); rintro e w13 ⟨rfl, b13⟩); have HB13 := Lib.hid b13; clear b13)
                  | (go_at_call 8; ((with_reducible refine (CU.out _).mono ?_); rintro e w14 ⟨rfl, b14⟩); have HB14 := Lib.hid (HB13.out.trans (b14.mono HB13.out.size)); clear b14))
                go_ret
                exact ⟨rfl, HB14.out⟩
      · obtain rfl : k = N := by omega
        have HB := Lib.hid HT.out.b
        go_wp2_with (go_at_call 8; ((with_reducible refine (CU.out _).mono ?_); rintro e w9 ⟨rfl, b9⟩))
        go_ret
        exact ⟨rfl, HB.out.trans (b9.mono HB.out.size)⟩
end Go.Proofs.Ytikeobmcnpncjaa
