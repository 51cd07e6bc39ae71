/- Merged: TtY, TtZ. -/
import Derived.Test.YtbkpbgcbpakpeaaGreatDoorM24
/- Layer 16: the law's own white, paths; the program's Find. -/
namespace Go.Proofs.YtbkpbgcbpakpeaaGreatDoor
open Go.RowKit
/-- A tree's paths. -/
def pathsL (l : List Nd) : List UInt8 := l.flatMap fun n => n.path ++ [32]
set_option maxRecDepth 100000 in
set_option maxHeartbeats 8000000 in
theorem paths_any (l : List Nd) (ad : Option Addr) (c : Nat) (hl : l.length ≤ 1000) (hp : ∀ n ∈ l, n.path.length ≤ 1000) (w : World) (h : NodesAt w ad l) :
    Calls Tryz.prog 22 #[.slice ad l.length c] w fun e w' => e = .returned (.string (str (pathsL l))) ∧ w = w' := by
  have HN := Lib.hid h
  have HS : Hid (∀ k x, l[k]? = some x → str (pathsL (l.take (k + 1))) = (str (pathsL (l.take k)) ++ str x.path) ++ ⟨#[32]⟩) := Lib.hid fun k x hx => by
    obtain ⟨hk, rfl⟩ := List.getElem?_eq_some_iff.1 hx
    rw [List.take_succ_eq_append_getElem hk, show (⟨#[32]⟩ : ByteArray) = str [32] from rfl, str_append, str_append]
    unfold pathsL
    rw [List.flatMap_append, List.append_assoc]
    simp
  have HZ : Hid (∀ k, k ≤ l.length → (str (pathsL (l.take k))).size ≤ 1001 * k) := Lib.hid fun k hk => by
    rw [str_size]
    unfold pathsL
    have : ∀ m : List Nd, (∀ n ∈ m, n.path.length ≤ 1000) → (m.flatMap fun n => n.path ++ [32]).length ≤ 1001 * m.length := by
      intro m
      induction m with
      | nil => intro _; exact Nat.zero_le _
      | cons a r ih =>
        intro hm
        have h1 := ih (fun n hn => hm n (by simp [hn]))
        have h2 := hm a (by simp)
        rw [List.flatMap_cons, List.length_append, List.length_append]
        simp only [List.length_cons, List.length_nil]
        omega
    have h1 := this (l.take k) (fun n hn => hp n (List.mem_of_mem_take hn))
    rw [List.length_take] at h1
    omega
  have HX : Hid (∀ i, i < l.length → ∃ x, l[i]? = some x ∧ (str x.path).size ≤ 1000) := Lib.hid fun i hi => ⟨_, List.getElem?_eq_getElem hi, by rw [str_size]; exact hp _ (List.getElem_mem hi)⟩
  have HALL : Hid (l.take l.length = l) := Lib.hid List.take_length
  obtain ⟨N, hN⟩ : ∃ N, N = l.length := ⟨_, rfl⟩
  rw [← hN] at hl HX HALL HZ ⊢
  clear h hp hN
  have z32 : (⟨#[32]⟩ : ByteArray).size = 1 := rfl
  go_enter Tryz.func22, Tryz.ntmps22
  go_upto_region 3 with (fail)
  go_loopw [3, 4] (fun s i wr => ∃ k : Nat, k ≤ N ∧ i = .int .i64 k ∧ s = .string (str (pathsL (l.take k))) ∧ wr = w) (fun _ i _ => N - (intOf i).toNat)
  case atStart => exact ⟨0, Nat.zero_le _, rfl, rfl, rfl⟩
  case round =>
    obtain ⟨k, hk, rfl, rfl, rfl⟩ := hrel
    have zk := HZ.out k hk
    by_cases hlt : k < N
    · obtain ⟨x, hx, hxz⟩ := HX.out k hlt
      obtain ⟨ax, rfl, hax, hcx⟩ := HN.out k x hx
      have d0 : wr.cell? (ax.add (k * 4)) = some (.string (str x.path)) := by have := hcx 0 _ rfl; rwa [addr_zero] at this
      have g1 : (k : Int) < (N : Int) := by omega
      have g0 : (0 : Int) ≤ (k : Int) := by omega
      have HST := Lib.hid (HS.out k x hx)
      clear hcx hx
      generalize str (pathsL (l.take k)) = S at *
      generalize str x.path = P at *
      go_wp2
      go_roundw
      case rel => exact ⟨k + 1, by omega, by go_num, by rw [HST.out], by trivial⟩
      case measure => simp [intOf]; omega
    · obtain rfl : k = N := by omega
      rw [HALL.out]
      go_wp2
      go_ret
      exact ⟨rfl, rfl⟩
/-- The first node of a path. -/
def findN (l : List Nd) (p : List UInt8) : Option Nd := l.find? fun n => decide (n.path = p)
theorem find_skip {l : List Nd} {p : List UInt8} {k : Nat} {x : Nd} (h : ∀ (j : Nat) (y : Nd), j < k → l[j]? = some y → y.path ≠ p) (hx : l[k]? = some x) (hp : x.path = p) : findN l p = some x := by
  unfold findN
  obtain ⟨hk, rfl⟩ := List.getElem?_eq_some_iff.1 hx
  rw [List.find?_eq_some_iff_getElem]
  refine ⟨decide_eq_true hp, k, hk, rfl, fun j hj => ?_⟩
  rw [decide_eq_false (h j _ hj (List.getElem?_eq_getElem (by omega)))]
  rfl
theorem find_none {l : List Nd} {p : List UInt8} (h : ∀ (j : Nat) (y : Nd), l[j]? = some y → y.path ≠ p) : findN l p = none := by
  unfold findN
  rw [List.find?_eq_none]
  intro x hx
  obtain ⟨j, hj, rfl⟩ := List.getElem_of_mem hx
  rw [decide_eq_false (h j _ (List.getElem?_eq_getElem hj))]
  decide
set_option maxRecDepth 100000 in
set_option maxHeartbeats 8000000 in
theorem find_any (l : List Nd) (p : List UInt8) (ad : Option Addr) (c : Nat) (hl : l.length ≤ maxLen) (hsz : ∀ n ∈ l, n.path.length ≤ 900000 ∧ n.data.length ≤ 900000) (w : World) (h : NodesAt w ad l) :
    Calls Tryz.prog 10 #[.slice ad l.length c, .string (str p)] w fun e w' => e = .returned (.tuple #[.agg (ndA ((findN l p).getD nd0)), .bool (findN l p).isSome]) ∧ Below w.heap.size w w' := by
  have HI := Lib.hid info_nd4
  have HN := Lib.hid h
  have HSZ := Lib.hid hsz
  have hone0 := Lib.hid (ndA_one nd0)
  have HX : Hid (∀ i, i < l.length → ∃ x, l[i]? = some x) := Lib.hid fun i hi => ⟨_, List.getElem?_eq_getElem hi⟩
  have HLT : Hid (∀ (k : Nat) (x : Nd), l[k]? = some x → k < l.length) := Lib.hid fun k x hx => (List.getElem?_eq_some_iff.1 hx).1
  unfold maxLen at hl
  obtain ⟨N, hN⟩ : ∃ N, N = l.length := ⟨_, rfl⟩
  rw [← hN] at hl HX HLT ⊢
  obtain ⟨W0, hW0⟩ : ∃ W0, W0 = w.alloc (.cells #[.string ⟨#[]⟩, .int .i64 0, .int .i64 0, .string ⟨#[]⟩] 32) := ⟨_, rfl⟩
  have HW0 := Lib.hid hW0
  have HB0 : Hid (Below w.heap.size w W0) := Lib.hid (by rw [hW0]; exact (Below.refl _ _).alloc (Nat.le_refl _) _)
  have HR0 : Hid (rowC W0 w.heap.size (ndA nd0) 32) := Lib.hid (by rw [hW0]; exact rowC_new w _ _)
  clear h hsz hN hW0
  go_enter Tryz.func10, Tryz.ntmps10
  go_upto_region 1 with (fail)
  rw [← HW0.out]
  go_upto_region 2 with (fail)
  go_loopw [7, 10] (fun _ i wr => ∃ k : Nat, k ≤ N ∧ i = .int .i64 k ∧ Hid (∀ (j : Nat) (y : Nd), j < k → l[j]? = some y → y.path ≠ p) ∧ Hid (rowC wr w.heap.size (ndA nd0) 32) ∧ Hid (Below w.heap.size w wr)) (fun _ i _ => N - (intOf i).toNat)
  case atStart => exact ⟨0, Nat.zero_le _, rfl, Lib.hid (fun j y hj => by omega), HR0, HB0⟩
  case round =>
    obtain ⟨k, hk, rfl, hno, hR, hB⟩ := hrel
    by_cases hlt : k < N
    · obtain ⟨x, hx⟩ := HX.out k hlt
      obtain ⟨ax, rfl, hax, hcx⟩ := HN.out k x hx
      have HCX : Hid (∀ j u, (ndV x)[j]? = some u → wr.cell? ((ax.add (k * 4)).add j) = some u) := Lib.hid fun j u hu => by
        rw [cell_far hB.out (by rw [add_blk, add_blk]; exact hax)]
        exact hcx j u hu
      have hone := Lib.hid (ndA_one x)
      have g1 : (k : Int) < (N : Int) := by omega
      have q := eq_strs x.path p
      obtain ⟨s1, s2⟩ := HSZ.out x (List.mem_of_getElem? hx)
      have CC := fun W => nclone_any x (by omega) (by omega) W
      have HHIT := Lib.hid (fun (e : x.path = p) => find_skip hno.out hx e)
      have HMISS : Hid (x.path ≠ p → ∀ (j : Nat) (y : Nd), j < k + 1 → l[j]? = some y → y.path ≠ p) := Lib.hid fun e j y hj hy => by
        by_cases hjk : j = k
        · subst hjk
          rw [hx] at hy
          cases hy
          exact e
        · exact hno.out j y (by omega) hy
      obtain ⟨W1, hW1⟩ : ∃ W1, W1 = wr.alloc (.cells (ndA x) 32) := ⟨_, rfl⟩
      have HW1 := Lib.hid hW1
      have HB1 : Hid (Below w.heap.size w W1) := Lib.hid (by rw [hW1]; exact hB.out.alloc hB.out.size _)
      have HZ1 : Hid (rowC W1 wr.heap.size (ndA x) 32) := Lib.hid (by rw [hW1]; exact rowC_new wr _ _)
      have HR1 : Hid (rowC W1 w.heap.size (ndA nd0) 32) := Lib.hid (by rw [hW1]; exact rowC_alloc hR.out _)
      have d0 : W1.cell? ⟨wr.heap.size, 0, none⟩ = some (.string (str x.path)) := rowC_cell HZ1.out 0
      clear hW1 hx hcx s1 s2
      by_cases he : x.path = p
      · have HR := Lib.hid (HHIT.out he)
        rw [decide_eq_true he] at q
        clear HHIT HMISS he
        go_wp2_with (first
          | ((with_reducible show wpList _ _ _ (⟨some 13, .load _ _, _, _, _, _⟩ :: _) _ _); refine wpList_load_at rfl 32 _ rfl (ax.add (k * 4)) rfl (ndV x) _ HCX.out Tryz.underlying32 rfl HI.out ?_)
          | ((with_reducible show wpList _ _ _ (⟨none, .store _ (.tmp 7) _, _, _, _, _⟩ :: _) _ _); refine wpList_store_last rfl 32 _ _ rfl wr.heap.size (ndA x) rfl rfl 32 _ rfl HI.out rfl hone.out ?_; rw [← HW1.out])
          | ((with_reducible show wpList _ _ _ (⟨some 18, .load _ _, _, _, _, _⟩ :: _) _ _); refine wpList_load_row rfl 32 _ rfl wr.heap.size rfl 32 (ndA x) (0, 0) _ HZ1.out Tryz.underlying32 rfl HI.out ?_)
          | (go_at_call 28; (refine (CC _).mono ?_; rintro e w3 ⟨rfl, hB3⟩; have HB3 := Lib.hid (HB1.out.trans (hB3.mono HB1.out.size)); have HR3 := Lib.hid (rowC_below HR1.out hB3 (rowC_lt HR1.out)); clear hB3))
          | ((with_reducible show wpList _ _ _ (⟨none, .store _ (.tmp 4) _, _, _, _, _⟩ :: _) _ _); refine wpList_store_row rfl 32 _ _ rfl w.heap.size (ndA x) rfl rfl 32 (ndA nd0) HR3.out HI.out rfl hone.out ?_))
        exact bodyPost_ret (results_row_tmp rfl _ _ w.heap.size 32 (ndA x) _ rfl (rowC_setRow HR3.out _) Tryz.underlying32 rfl HI.out (.bool true) rfl) rfl ⟨by rw [HR.out]; rfl, below_setRow HB3.out (Nat.le_refl _) _⟩
      · have HNX := Lib.hid (HMISS.out he)
        rw [decide_eq_false he] at q
        clear HHIT HMISS he
        go_wp2_with (first
          | ((with_reducible show wpList _ _ _ (⟨some 13, .load _ _, _, _, _, _⟩ :: _) _ _); refine wpList_load_at rfl 32 _ rfl (ax.add (k * 4)) rfl (ndV x) _ HCX.out Tryz.underlying32 rfl HI.out ?_)
          | ((with_reducible show wpList _ _ _ (⟨none, .store _ (.tmp 7) _, _, _, _, _⟩ :: _) _ _); refine wpList_store_last rfl 32 _ _ rfl wr.heap.size (ndA x) rfl rfl 32 _ rfl HI.out rfl hone.out ?_; rw [← HW1.out]))
        go_roundw
        case rel => exact ⟨k + 1, by omega, by go_num, HNX, HR1, HB1⟩
        case measure => simp [intOf]; omega
    · obtain rfl : k = N := by omega
      have HR := Lib.hid (find_none (fun j y hy => hno.out j y (HLT.out j y hy) hy))
      go_wp2_with (first
        | ((with_reducible show wpList _ _ _ (⟨none, .store _ (.tmp 4) _, _, _, _, _⟩ :: _) _ _); refine wpList_store_row rfl 32 _ _ rfl w.heap.size (ndA nd0) rfl rfl 32 (ndA nd0) hR.out HI.out rfl hone0.out ?_))
      exact bodyPost_ret (results_row_tmp rfl _ _ w.heap.size 32 (ndA nd0) _ rfl (rowC_setRow hR.out _) Tryz.underlying32 rfl HI.out (.bool false) rfl) rfl ⟨by rw [HR.out]; rfl, below_setRow hB.out (Nat.le_refl _) _⟩
end Go.Proofs.YtbkpbgcbpakpeaaGreatDoor
#print axioms Go.Proofs.YtbkpbgcbpakpeaaGreatDoor.find_any

/- Layer 16, plainly: the chapter's layers. -/
namespace Go.Proofs.YtbkpbgcbpakpeaaGreatDoor

def opqN : List UInt8 := [97, 47, 46, 119, 104, 46, 46, 119, 104, 46, 46, 111, 112, 113]
def A1 : List Nd := [⟨[97], 2, 493, []⟩, ⟨[97, 47, 98], 1, 0, [120]⟩]
def A2 : List Nd := [⟨[97], 2, 493, []⟩, ⟨[99], 4, 0, [46, 46, 47, 120]⟩]
def A3 : List Nd := [⟨[97], 1, 0, [121]⟩, ⟨[99], 4, 0, [46, 46, 47, 120]⟩]
def A5 : List Nd := [⟨[97], 2, 493, []⟩, ⟨[97, 47, 98], 1, 0, []⟩, ⟨[97, 47, 99], 2, 493, []⟩, ⟨[97, 47, 99, 47, 101], 1, 0, []⟩]
def A6 : List Nd := [⟨[97], 2, 493, []⟩, ⟨[97, 47, 100], 1, 0, []⟩]
def E1 : List En := [⟨1, [97, 47, 98], [], 0, [120]⟩]
def E2 : List En := [⟨1, [97, 47, 46, 119, 104, 46, 98], [], 0, []⟩, ⟨4, [99], [46, 46, 47, 120], 0, []⟩]
def E3 : List En := [⟨1, [97], [], 0, [121]⟩]
def E4 : List En := [⟨1, [46, 46, 47, 120], [], 0, []⟩]
def E5 : List En := [⟨1, [97, 47, 98], [], 0, []⟩, ⟨1, [97, 47, 99, 47, 101], [], 0, []⟩]
def E6 : List En := [⟨1, opqN, [], 0, []⟩, ⟨1, [97, 47, 100], [], 0, []⟩]
theorem ap1 : applyT [] E1 = (A1, 0) := by decide +kernel
theorem ap2 : applyT A1 E2 = (A2, 0) := by decide +kernel
theorem ap3 : applyT A2 E3 = (A3, 0) := by decide +kernel
theorem ap4 : applyT A3 E4 = ([], 71) := by decide +kernel
theorem ap5 : applyT [] E5 = (A5, 0) := by decide +kernel
theorem ap6 : applyT A5 E6 = (A6, 0) := by decide +kernel
end Go.Proofs.YtbkpbgcbpakpeaaGreatDoor
#print axioms Go.Proofs.YtbkpbgcbpakpeaaGreatDoor.ap6

