/- Layer 6: Do, of any act. -/
import Derived.Test.YtikeobmcnpncjaaSecO
namespace Go.Proofs.Ytikeobmcnpncjaa
open Go.RowKit

theorem do_any {I : Impl} {w : World} {q p : Nat} {vS vL vK : Value} {o : Nat → Prop} {d : RD} {v : Value} {ks : List Bool} (h : DoArgs I w q p vS vL vK o d v ks) {kind : Nat} (hk : kind < 256) (c : UInt8) (n : Int) (s : ByteArray) (hs : s.size ≤ maxLen) :
    Calls Try.prog 11 #[.agg (actC kind c n s v), .pointer (some ⟨q, 0, none⟩), .pointer (some ⟨p, 0, none⟩)] w (DoPost I w q p vS vL vK o (actD d kind c n s ks)) := by
  rcases (show kind % 13 < 6 ∨ kind % 13 = 6 ∨ kind % 13 = 7 ∨ kind % 13 = 8 ∨ kind % 13 = 9 ∨ kind % 13 = 10 ∨ kind % 13 = 11 ∨ kind % 13 = 12 by omega) with hj | hj | hj | hj | hj | hj | hj | hj
  · exact do_else h hk hj c n s
  · exact do_6 h hk hj c n s hs
  · exact do_7 h hk hj c n s
  · exact do_8 h hk hj c n s
  · exact do_9 h hk hj c n s
  · exact do_10 h hk hj c n s
  · by_cases hn : 0 < n
    · exact do_11a h hk hj c n s hn
    · exact do_11b h hk hj c n s hn
  · exact do_12 h hk hj c n s
theorem actD_ok {d : RD} (h : d.ok) (kind : Nat) (c : UInt8) (n : Int) (s : ByteArray) (ks : List Bool) : (actD d kind c n s ks).ok := by
  unfold actD
  split
  · exact h.write n s
  · split
    · exact h.flush
    · split
      · exact h.crash ks
      · split
        · exact h.start
        · split
          · refine h.fail ?_ ks
            split
            · have := Int.emod_lt_of_pos n (show (0 : Int) < 8 by decide)
              omega
            · omega
          · split
            · exact h
            · exact h.write _ _
theorem settle_loose (d : RD) (i : Int) (s : ByteArray) : (d.write i s).1.loose.length ≤ d.loose.length + 1 ∧ (d.write i s).1.starts = d.starts := by
  unfold RD.write
  split
  · exact ⟨by simp, rfl⟩
  · split
    · exact ⟨by simp, rfl⟩
    · dsimp only
      split
      · exact ⟨by simp [RD.fall], rfl⟩
      · exact ⟨by simp, rfl⟩
theorem fail_loose (d : RD) (i : Int) (ks : List Bool) : (d.fail i ks).1.loose = d.loose ∧ (d.fail i ks).1.starts = d.starts := by
  unfold RD.fail
  split
  · exact ⟨rfl, rfl⟩
  · split
    · exact ⟨rfl, rfl⟩
    · exact ⟨rfl, rfl⟩
/-- An act makes at most one more loose write, and one more start. -/
theorem actD_few (d : RD) (kind : Nat) (c : UInt8) (n : Int) (s : ByteArray) (ks : List Bool) : (actD d kind c n s ks).loose.length ≤ d.loose.length + 1 ∧ (actD d kind c n s ks).starts ≤ d.starts + 1 := by
  unfold actD
  split
  · have := settle_loose d n s; exact ⟨this.1, by rw [this.2]; omega⟩
  · split
    · unfold RD.flush
      split
      · first | exact ⟨by simp, by simp⟩ | exact ⟨Nat.le_succ _, Nat.le_succ _⟩
      · split
        · exact ⟨by simp [RD.fall], by simp [RD.fall, RD.less]⟩
        · exact ⟨by simp, by simp [RD.less]⟩
    · split
      · unfold RD.crash
        split
        · first | exact ⟨by simp, by simp⟩ | exact ⟨Nat.le_succ _, Nat.le_succ _⟩
        · exact ⟨by simp [RD.fall], by simp [RD.fall]⟩
      · split
        · unfold RD.start
          split
          · first | exact ⟨by simp, by simp⟩ | exact ⟨Nat.le_succ _, Nat.le_succ _⟩
          · first | exact ⟨by simp, by simp⟩ | exact ⟨Nat.le_succ _, Nat.le_succ _⟩
        · split
          · have := fail_loose d (if 0 < n then n % 8 else n) ks
            rw [this.1, this.2]
            exact ⟨Nat.le_succ _, Nat.le_succ _⟩
          · split
            · exact ⟨by omega, by omega⟩
            · have := settle_loose d (n % 4096 % (d.sure.length : Int)) (secB c)
              exact ⟨this.1, by rw [this.2]; omega⟩
end Go.Proofs.Ytikeobmcnpncjaa
