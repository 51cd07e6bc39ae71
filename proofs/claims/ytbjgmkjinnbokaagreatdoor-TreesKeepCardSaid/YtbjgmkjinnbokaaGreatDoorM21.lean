/- Merged: TtX, TtY. -/
import Derived.Test.YtbjgmkjinnbokaaGreatDoorM20
/- Layer 16: the law's own file, path, white, paths; the program's Find. -/
namespace Go.Proofs.YtbjgmkjinnbokaaGreatDoor
open Go.RowKit

def fileE (name data : List UInt8) : En := ⟨1, name, [], 0, data⟩
theorem file_any (name data : List UInt8) (w : World) :
    Calls Tryz.prog 12 #[.string (str name), .string (str data)] w fun e w' => e = .returned (.agg (enA (fileE name data))) ∧ Below w.heap.size w w' := by
  have HI := Lib.hid info_en5
  obtain ⟨W0, hW0⟩ : ∃ W0, W0 = w.alloc (.cells #[.int .i64 0, .string ⟨#[]⟩, .string ⟨#[]⟩, .int .i64 0, .string ⟨#[]⟩] 38) := ⟨_, rfl⟩
  have HW0 := Lib.hid hW0
  have HR0 : Hid (rowC W0 w.heap.size #[.int .i64 0, .string ⟨#[]⟩, .string ⟨#[]⟩, .int .i64 0, .string ⟨#[]⟩] 38) := Lib.hid (by rw [hW0]; exact rowC_new w _ _)
  have HB0 : Hid (Below w.heap.size w W0) := Lib.hid (by rw [hW0]; exact (Below.refl _ _).alloc (Nat.le_refl _) _)
  have hone := Lib.hid (enA_one (fileE name data))
  clear hW0
  go_enter Tryz.func12, Tryz.ntmps12
  go_upto_region 1 with (fail)
  rw [← HW0.out]
  go_wp2_with (first
    | ((with_reducible show wpList _ _ _ (⟨none, .store _ (.tmp 4) _, _, _, _, _⟩ :: _) _ _); refine wpList_store_row rfl 38 _ _ rfl w.heap.size (enA (fileE name data)) rfl rfl 38 _ HR0.out HI.out rfl hone.out ?_))
  refine bodyPost_ret (results_cell_row rfl _ _ w.heap.size 38 (enA (fileE name data)) (0, 0) _ rfl (rowC_setRow HR0.out _) Tryz.underlying38 rfl HI.out) rfl ?_
  exact ⟨rfl, below_setRow HB0.out (Nat.le_refl _) _⟩
/-! ### path -/
end Go.Proofs.YtbjgmkjinnbokaaGreatDoor

/- Layer 16: the law's own white, paths; the program's Find. -/
namespace Go.Proofs.YtbjgmkjinnbokaaGreatDoor
open Go.RowKit
/-- A tree's paths. -/
def pathsL (l : List Nd) : List UInt8 := l.flatMap fun n => n.path ++ [32]
set_option maxRecDepth 100000 in
set_option maxHeartbeats 8000000 in
theorem paths_any (l : List Nd) (ad : Option Addr) (c : Nat) (hl : l.length ≤ 1000) (hp : ∀ n ∈ l, n.path.length ≤ 1000) (w : World) (h : NodesAt w ad l) :
    Calls Tryz.prog 13 #[.slice ad l.length c] w fun e w' => e = .returned (.string (str (pathsL l))) ∧ w = w' := by
  have HN := Lib.hid h
  have HS : Hid (∀ k x, l[k]? = some x → str (pathsL (l.take (k + 1))) = (str (pathsL (l.take k)) ++ str x.path) ++ ⟨#[32]⟩) := Lib.hid fun k x hx => by
    obtain ⟨hk, rfl⟩ := List.getElem?_eq_some_iff.1 hx
    rw [List.take_succ_eq_append_getElem hk, show (⟨#[32]⟩ : ByteArray) = str [32] from rfl, str_append, str_append]
    unfold pathsL
    rw [List.flatMap_append, List.append_assoc]
    simp
  have HZ : Hid (∀ k, k ≤ l.length → (str (pathsL (l.take k))).size ≤ 1001 * k) := Lib.hid fun k hk => by
    rw [str_size]
    unfold pathsL
    have : ∀ m : List Nd, (∀ n ∈ m, n.path.length ≤ 1000) → (m.flatMap fun n => n.path ++ [32]).length ≤ 1001 * m.length := by
      intro m
      induction m with
      | nil => intro _; exact Nat.zero_le _
      | cons a r ih =>
        intro hm
        have h1 := ih (fun n hn => hm n (by simp [hn]))
        have h2 := hm a (by simp)
        rw [List.flatMap_cons, List.length_append, List.length_append]
        simp only [List.length_cons, List.length_nil]
        omega
    have h1 := this (l.take k) (fun n hn => hp n (List.mem_of_mem_take hn))
    rw [List.length_take] at h1
    omega
  have HX : Hid (∀ i, i < l.length → ∃ x, l[i]? = some x ∧ (str x.path).size ≤ 1000) := Lib.hid fun i hi => ⟨_, List.getElem?_eq_getElem hi, by rw [str_size]; exact hp _ (List.getElem_mem hi)⟩
  have HALL : Hid (l.take l.length = l) := Lib.hid List.take_length
  obtain ⟨N, hN⟩ : ∃ N, N = l.length := ⟨_, rfl⟩
  rw [← hN] at hl HX HALL HZ ⊢
  clear h hp hN
  have z32 : (⟨#[32]⟩ : ByteArray).size = 1 := rfl
  go_enter Tryz.func13, Tryz.ntmps13
  go_upto_region 3 with (fail)
  go_loopw [3, 4] (fun s i wr => ∃ k : Nat, k ≤ N ∧ i = .int .i64 k ∧ s = .string (str (pathsL (l.take k))) ∧ wr = w) (fun _ i _ => N - (intOf i).toNat)
  case atStart => exact ⟨0, Nat.zero_le _, rfl, rfl, rfl⟩
  case round =>
    obtain ⟨k, hk, rfl, rfl, rfl⟩ := hrel
    have zk := HZ.out k hk
    by_cases hlt : k < N
    · obtain ⟨x, hx, hxz⟩ := HX.out k hlt
      obtain ⟨ax, rfl, hax, hcx⟩ := HN.out k x hx
      have d0 : wr.cell? (ax.add (k * 4)) = some (.string (str x.path)) := by have := hcx 0 _ rfl; rwa [addr_zero] at this
      have g1 : (k : Int) < (N : Int) := by omega
      have g0 : (0 : Int) ≤ (k : Int) := by omega
      have HST := Lib.hid (HS.out k x hx)
      clear hcx hx
      generalize str (pathsL (l.take k)) = S at *
      generalize str x.path = P at *
      go_wp2
      go_roundw
      case rel => exact ⟨k + 1, by omega, by go_num, by rw [HST.out], by trivial⟩
      case measure => simp [intOf]; omega
    · obtain rfl : k = N := by omega
      rw [HALL.out]
      go_wp2
      go_ret
      exact ⟨rfl, rfl⟩
/-- The first node of a path. -/
def findN (l : List Nd) (p : List UInt8) : Option Nd := l.find? fun n => decide (n.path = p)
end Go.Proofs.YtbjgmkjinnbokaaGreatDoor

