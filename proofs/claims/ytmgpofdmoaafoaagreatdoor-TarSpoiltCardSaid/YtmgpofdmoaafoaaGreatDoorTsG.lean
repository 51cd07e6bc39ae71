/- Layer 15: the document's records, and what may be written. -/
import Derived.Test.YtmgpofdmoaafoaaGreatDoorTsF
namespace Go.Proofs.YtmgpofdmoaafoaaGreatDoor
open Go.RowKit

theorem decN_len (n : Nat) : (decN n).length = if n < 10 then 1 else if n < 100 then 2 else 3 := by
  unfold decN dec3
  split
  · rfl
  · split <;> rfl
theorem decR_any (n : Nat) (h : n < 1000) (w : World) : Calls Tryz.prog 33 #[.int .i64 (n : Int)] w fun e w' => e = .returned (.string (str (decN n))) ∧ w = w' := by
  by_cases h1 : n < 10
  · have e : decN n = [UInt8.ofNat (48 + n)] := by unfold decN; rw [if_pos h1]
    rw [e]
    exact dec_one n h1 w
  · by_cases h2 : n < 100
    · have e : str (decN n) = str [UInt8.ofNat (48 + n / 10)] ++ str [UInt8.ofNat (48 + n % 10)] := by unfold decN; rw [if_neg h1, if_pos h2, str_append]; rfl
      rw [e]
      exact dec_more n (by omega) (by omega) _ (by rw [str_size]; exact (show 1 ≤ 10 by decide)) (fun W => dec_one (n / 10) (by omega) W) w
    · have e : str (decN n) = (str [UInt8.ofNat (48 + n / 10 / 10)] ++ str [UInt8.ofNat (48 + n / 10 % 10)]) ++ str [UInt8.ofNat (48 + n % 10)] := by
        unfold decN dec3
        rw [if_neg h1, if_neg h2, str_append, str_append, show n / 10 / 10 = n / 100 by omega]
        rfl
      rw [e]
      exact dec_more n (by omega) (by omega) _ (by rw [str_append, str_size]; exact (show 2 ≤ 10 by decide)) (fun W => dec_more (n / 10) (by omega) (by omega) _ (by rw [str_size]; exact (show 1 ≤ 10 by decide)) (fun W => dec_one (n / 10 / 10) (by omega) W) W) w
set_option maxRecDepth 100000 in
set_option maxHeartbeats 8000000 in
theorem recordR_any (k v : Bs) (h1 : 100 ≤ (lineL k v).length) (h2 : (lineL k v).length ≤ 996) (w : World) : Calls Tryz.prog 13 #[.string (str k), .string (str v)] w fun e w' => e = .returned (.string (str (recW k v))) ∧ w = w' := by
  have hl : (lineL k v).length = k.length + v.length + 3 := by unfold lineL; simp only [List.length_append, List.length_cons, List.length_nil]; omega
  rw [hl] at h1 h2
  have HD := Lib.hid (fun n hn W => decR_any n hn W)
  have HL := Lib.hid (fun n => decN_len n)
  have HE : Hid (str (decN (k.length + v.length + 6)) ++ ⟨#[32]⟩ ++ str k ++ ⟨#[61]⟩ ++ str v ++ ⟨#[10]⟩ = str (recW k v)) := Lib.hid (by
    rw [show (⟨#[32]⟩ : ByteArray) = str [32] from rfl, show (⟨#[61]⟩ : ByteArray) = str [61] from rfl, show (⟨#[10]⟩ : ByteArray) = str [10] from rfl]
    simp only [str_append]
    unfold recW
    rw [hl]
    unfold decN
    rw [if_neg (by omega), if_neg (by omega), show k.length + v.length + 3 + 3 = k.length + v.length + 6 by omega]
    unfold lineL
    simp only [List.append_assoc])
  have hk := str_size k
  have hv := str_size v
  generalize str (recW k v) = R at *
  generalize str k = S1 at *
  generalize str v = S2 at *
  generalize k.length = a at *
  generalize v.length = b at *
  clear hl
  go_enter Tryz.func13, Tryz.ntmps13
  go_upto_region 2 with (fail)
  go_loop [5, 6] (fun i x => ∃ n : Nat, n ≤ a + b + 6 ∧ i = .int .i64 n) (fun i _ => 1000 - (intOf i).toNat)
  case atStart => exact ⟨0, Nat.zero_le _, rfl⟩
  case round =>
    obtain ⟨n, hn, rfl⟩ := hrel
    have g1 : (n : Int) < 1000 := by omega
    have CD := HD.out n (by omega)
    have hzd := str_size (decN n)
    rw [HL.out] at hzd
    by_cases hlast : n = a + b + 6
    · rw [← hlast] at HE
      have hz : (str (decN n)).size = 3 := by rw [hzd, if_neg (by omega), if_neg (by omega)]
      clear HD HL hzd
      generalize str (decN n) = T at *
      have HLA := Lib.hid hlast
      have hs : (T ++ ⟨#[32]⟩ ++ S1 ++ ⟨#[61]⟩ ++ S2 ++ ⟨#[10]⟩).size = n := by
        simp only [ByteArray.size_append, hz, hk, hv]
        show 3 + 1 + a + 1 + b + 1 = _
        omega
      rw [HE.out] at hs
      clear hlast
      go_upto_region 5 with (first
        | (go_at_call 33; ((with_reducible refine (CD _).mono ?_); rintro e w1 ⟨rfl, rfl⟩)))
      rw [HE.out]
      go_wp2
      go_ret
      exact ⟨rfl, rfl⟩
    · have hz : (str (decN n)).size ≤ 3 := by rw [hzd]; split <;> (try split) <;> omega
      have hne : (str (decN n)).size + a + b + 3 ≠ n := by rw [hzd]; split <;> (try split) <;> omega
      clear HD HL hzd HE
      generalize str (decN n) = T at *
      have hs : (T ++ ⟨#[32]⟩ ++ S1 ++ ⟨#[61]⟩ ++ S2 ++ ⟨#[10]⟩).size = T.size + a + b + 3 := by
        simp only [ByteArray.size_append, hk, hv]
        show T.size + 1 + a + 1 + b + 1 = _
        omega
      go_upto_region 5 with (first
        | (go_at_call 33; ((with_reducible refine (CD _).mono ?_); rintro e w1 ⟨rfl, rfl⟩)))
      generalize T ++ ⟨#[32]⟩ ++ S1 ++ ⟨#[61]⟩ ++ S2 ++ ⟨#[10]⟩ = X at *
      have hx : ((X.size : Int) == (n : Int)) = false := by rw [beq_eq_false_iff_ne]; omega
      go_wp2
      go_round
      case rel => exact ⟨n + 1, by omega, by go_num⟩
      case measure => simp [intOf]; omega
end Go.Proofs.YtmgpofdmoaafoaaGreatDoor
