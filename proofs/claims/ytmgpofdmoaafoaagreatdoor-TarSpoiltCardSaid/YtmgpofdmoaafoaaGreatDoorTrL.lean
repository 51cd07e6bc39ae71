/- Layer 15: the program's putNumber. -/
import Derived.Test.YtmgpofdmoaafoaaGreatDoorTrK
namespace Go.Proofs.YtmgpofdmoaafoaaGreatDoor
open Go.RowKit

theorem octD_front : ∀ (j n : Nat), octD n (j + 1) = UInt8.ofNat (48 + n / 8 ^ j % 8) :: octD n j
  | 0, n => by rw [Nat.pow_zero, Nat.div_one]; rfl
  | j + 1, n => by
    rw [octD, octD_front j (n / 8), List.cons_append, Nat.div_div_eq_div_mul, show 8 * 8 ^ j = 8 ^ (j + 1) by rw [Nat.pow_succ, Nat.mul_comm]]
    rfl
/-- A field that is filled from behind. -/
def fillF (F : Bs) (n j : Nat) : Bs := F.take (F.length - 1 - j) ++ octD n j ++ [0]
theorem fillF_len {F : Bs} {n j : Nat} (hj : j + 1 ≤ F.length) : (fillF F n j).length = F.length := by
  unfold fillF
  simp only [List.length_append, List.length_take, octD_len, List.length_cons, List.length_nil]
  omega
theorem fillF_zero {F : Bs} (hF : 1 ≤ F.length) (n : Nat) : F.set (F.length - 1) 0 = fillF F n 0 := by
  unfold fillF octD
  rw [List.append_nil, Nat.sub_zero, List.set_eq_take_append_cons_drop, if_pos (by omega), List.drop_of_length_le (by omega)]
theorem fillF_next {F : Bs} {n j : Nat} (hj : j + 2 ≤ F.length) : (fillF F n j).set (F.length - 2 - j) (UInt8.ofNat (48 + n / 8 ^ j % 8)) = fillF F n (j + 1) := by
  unfold fillF
  have h1 : F.length - 1 - j = F.length - 2 - j + 1 := by omega
  have h2 : F.length - 1 - (j + 1) = F.length - 2 - j := by omega
  rw [h2, h1, octD_front]
  have hlt : F.length - 2 - j < F.length := by omega
  rw [take_getD hlt]
  have hl : (F.take (F.length - 2 - j)).length = F.length - 2 - j := by rw [List.length_take]; omega
  simp only [List.append_assoc]
  rw [List.set_append_right _ _ (by omega), hl, Nat.sub_self]
  rfl
theorem fillF_end (F : Bs) (n : Nat) : fillF F n (F.length - 1) = octD n (F.length - 1) ++ [0] := by
  unfold fillF
  rw [Nat.sub_self, List.take_zero, List.nil_append]
theorem set_mid (A F C : Bs) (i : Nat) (x : UInt8) (hi : i < F.length) : (A ++ F ++ C).set (A.length + i) x = A ++ F.set i x ++ C := by
  rw [List.append_assoc, List.set_append_right _ _ (by omega), Nat.add_sub_cancel_left, List.set_append_left _ _ hi, List.append_assoc]
set_option maxRecDepth 100000 in
set_option maxHeartbeats 4000000 in
theorem putNum_any (g : Nat) (T : TypeId) (A F C : Bs) (hF : 1 ≤ F.length) (hl : (A ++ F ++ C).length ≤ 1000000) (cap : Nat) (hcap : F.length ≤ cap) (n : Nat) (hn : n ≤ 1099511627776) (w : World) (h : rowC w g (cells8 (A ++ F ++ C)) T) :
    Calls Tryz.prog 86 #[.slice (some ⟨g, A.length, none⟩) F.length cap, .int .i64 (n : Int)] w fun e w' => e = .returned (.tuple #[]) ∧ rowC w' g (cells8 (A ++ (octD n (F.length - 1) ++ [0]) ++ C)) T ∧ Chg (isB g) w w' := by
  obtain ⟨m, hm⟩ : ∃ m, F.length = m + 1 := ⟨F.length - 1, by omega⟩
  have hal : A.length ≤ 1000000 ∧ F.length ≤ 1000000 := by simp only [List.length_append] at hl; omega
  obtain ⟨b1, b2⟩ := hal
  have HL := Lib.hid hl
  have HM := Lib.hid hm
  have HROW : Hid (∀ (W : World) (F' : Bs) (i : Nat), F'.length = m + 1 → i < m + 1 → rowC W g (cells8 (A ++ F' ++ C)) T → W.frozen? ⟨g, A.length + i, none⟩ = false ∧ W.cell? ⟨g, A.length + i, none⟩ = some (byteV ((A ++ F' ++ C).getD (A.length + i) 0))) := Lib.hid fun W F' i hF' hi hr =>
    ⟨rowC_free hr _, by rw [rowC_cell hr, cells8_get _ _ (by simp only [List.length_append]; omega)]⟩
  have HSET : Hid (∀ (W : World) (F' : Bs) (i : Nat) (x : UInt8), F'.length = m + 1 → i < m + 1 → rowC W g (cells8 (A ++ F' ++ C)) T → rowC (W.setCell ⟨g, A.length + i, none⟩ (byteV x)) g (cells8 (A ++ F'.set i x ++ C)) T) := Lib.hid fun W F' i x hF' hi hr => by
    have := rowC_set hr (A.length + i) (byteV x)
    rwa [cells8_set, set_mid A F' C i x (by omega)] at this
  obtain ⟨fz0, cz0⟩ := HROW.out w F m hm (by omega) h
  have HR0 := Lib.hid (HSET.out w F m 0 hm (by omega) h)
  have e0 : F.set m 0 = fillF F n 0 := by have := fillF_zero hF n; rwa [hm, Nat.add_sub_cancel] at this
  rw [e0] at HR0
  have HG0 : Hid (Chg (isB g) w (w.setCell ⟨g, A.length + m, none⟩ (byteV 0))) := Lib.hid ((Chg.refl _ _).setCell ⟨g, A.length + m, none⟩ _ (.inl rfl))
  have HFL := Lib.hid (fun j (hj : j ≤ m) => (fillF_len (F := F) (n := n) (j := j) (by omega)).trans hm)
  have HNX := Lib.hid (fun j (hj : j + 1 ≤ m) => fillF_next (F := F) (n := n) (j := j) (by omega))
  have HEN := Lib.hid (fillF_end F n)
  rw [hm] at hcap ⊢
  rw [hm, Nat.add_sub_cancel] at HEN
  rw [Nat.add_sub_cancel]
  have hm1 : m + 1 ≤ 1000000 := by omega
  have eb0 : byteV 0 = .int .u8 0 := rfl
  rw [eb0] at HR0 HG0
  clear h hF hl hm e0 eb0 b2
  go_enter Tryz.func86, Tryz.ntmps86
  go_upto_region 3 with (fail)
  generalize w.setCell ⟨g, A.length + m, none⟩ (.int .u8 0) = W1 at *
  go_loopw [1, 5] (fun x i wr => ∃ j : Nat, j ≤ m ∧ x = .int .i64 ((n / 8 ^ j : Nat) : Int) ∧ i = .int .i64 ((m : Int) - 1 - (j : Int)) ∧ Hid (rowC wr g (cells8 (A ++ fillF F n j ++ C)) T) ∧ Hid (Chg (isB g) w wr)) (fun _ i _ => (intOf i + 1).toNat)
  case atStart => exact ⟨0, Nat.zero_le _, by rw [Nat.pow_zero, Nat.div_one], by simp, HR0, HG0⟩
  case round =>
    clear HR0 HG0 fz0 cz0
    obtain ⟨j, hj, rfl, rfl, hR, hG⟩ := hrel
    by_cases hlt : j < m
    · obtain ⟨i, hi⟩ : ∃ i, m = i + j + 1 := ⟨m - j - 1, by omega⟩
      have hx : n / 8 ^ j ≤ 1099511627776 := Nat.le_trans (Nat.div_le_self _ _) hn
      have hnx : n / 8 ^ (j + 1) = n / 8 ^ j / 8 := by rw [Nat.pow_succ, Nat.div_div_eq_div_mul]
      obtain ⟨x, hxx⟩ : ∃ x, x = n / 8 ^ j := ⟨_, rfl⟩
      obtain ⟨f1, c1⟩ := HROW.out wr (fillF F n j) i (HFL.out j hj) (by omega) hR.out
      have HS := Lib.hid (HSET.out wr (fillF F n j) i (UInt8.ofNat (48 + x % 8)) (HFL.out j hj) (by omega) hR.out)
      have e1 := HNX.out j (by omega)
      rw [HM.out, show m + 1 - 2 - j = i by omega, ← hxx] at e1
      rw [e1, byteV_ofNat] at HS
      rw [← hxx] at hx hnx ⊢
      have HNX2 := Lib.hid hnx
      have ei : (m : Int) - 1 - (j : Int) = (i : Int) := by omega
      rw [ei]
      have HG1 : Hid (Chg (isB g) w (wr.setCell ⟨g, A.length + i, none⟩ (.int .u8 (((48 + x % 8 : Nat) : Int) % 256)))) := Lib.hid (hG.out.setCell ⟨g, A.length + i, none⟩ _ (.inl rfl))
      have ev : ((48 + x % 8 : Nat) : Int) % 256 = 48 + (x : Int) % 8 := by omega
      rw [ev] at HS HG1
      have im : (i : Int) < (m : Int) + 1 := by omega
      have ib : (i : Int) ≤ 1000000 := by omega
      have HI := Lib.hid hi
      have hm8 : 0 ≤ (x : Int) % 8 ∧ (x : Int) % 8 < 8 := by omega
      obtain ⟨h8a, h8b⟩ := hm8
      clear hR hG e1 ev ei hnx hxx hi hlt
      go_wp2
      refine ⟨⟨j + 1, by have := HI.out; omega, by rw [HNX2.out]; rfl, ?_, HS, HG1⟩, ?_⟩
      · congr 1
        have := HI.out
        omega
      · simp [intOf]
    · obtain rfl : j = m := by omega
      have HR2 := Lib.hid (show rowC wr g (cells8 (A ++ (octD n j ++ [0]) ++ C)) T by rw [← HEN.out]; exact hR.out)
      have ei : (j : Int) - 1 - (j : Int) = -1 := by omega
      rw [ei]
      clear hR
      go_wp2
      go_end0
      exact ⟨rfl, HR2.out, hG.out⟩
end Go.Proofs.YtmgpofdmoaafoaaGreatDoor
