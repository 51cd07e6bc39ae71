/- Layer 8: the program's map: an extent that is empty; the blocks of extents, given. -/
import Derived.Test.YtdngkpdiaeicmaaAmC
namespace Go.Proofs.Ytdngkpdiaeicmaa
open Go.RowKit Go.Shelf

set_option maxHeartbeats 1000000 in
theorem blocks_call (n : Nat) (a : Option Addr) (N cap : Nat) (w : World) :
    CallsIn Fence.wide n Try.prog 31 #[.slice a N cap] w fun e w' => e = .returned (.func (.func 47) #[] #[.pointer (some ⟨w.heap.size, 0, none⟩)]) ∧ w' = w.alloc (.cells #[.slice a N cap] 33) := by
  refine callsIn_of_wp Try.func31 rfl trivial ?_ rfl
  simp only [Try.ntmps31, List.size_toArray, List.length_cons, List.length_nil, Nat.reduceAdd, Nat.reduceSub, Array.replicate_succ, Array.replicate_zero, List.push_toArray, List.append_toArray, List.nil_append, List.cons_append]
  gi_wp2
  go_ret
  exact ⟨rfl, rfl⟩
theorem blocks_stops {P : Int → Prop} (n : Nat) (hn : 1 ≤ n) (Bs N cap : Nat) (a : Option Addr) (L : List (Int × Int)) (s : Nat → Prop) (hN : N = L.length) (hP : ∀ y ∈ blkL L, P y) (hok : extOk L) (w : World) (hs : ∀ k, s k → k < w.heap.size)
    (hcs : w.cell? ⟨Bs, 0, none⟩ = some (.slice a N cap)) (hL : ExtAt w (.slice a N cap) L) (hns : ∀ ad, a = some ad → 0 < N → ¬ s ad.block) :
    SeqStopsK Fence.wide n Try.prog 47 #[.pointer (some ⟨Bs, 0, none⟩)] (fun x : NumP P => #[Value.int .i64 x.1]) (KeepsBut s) (fun ys => valsP ys = blkL L) (fun pre => valsP pre <+: blkL L) (blkL L).length w := fun l J Jx W hW hA _ hY h0 =>
  blocks_in Fence.wide n trivial rfl rfl hn l Bs N cap a L s hN (by rw [hN]; exact hL.le) hP hok J Jx (fun pre W1 W2 hJ hg => hA pre W1 W2 none hJ hg (fun r e => by cases e)) hY W (fun k hk => Nat.lt_of_lt_of_le (hs k hk) hW.size) ((hW.cell (p := ⟨Bs, 0, none⟩) (World.block_lt_of_cell? w _ hcs)).trans hcs) (hL.below hW) hns h0
set_option maxHeartbeats 1000000 in
theorem empty_any (f c : Int) (w : World) :
    Calls Try.prog 30 #[.agg #[.int .i64 f, .int .i64 c]] w fun e w' => e = .returned (.bool (decide (c < 1))) ∧ Below w.heap.size w w' := by
  go_enter Try.func30, Try.ntmps30
  go_wp2
  go_ret
  exact ⟨rfl, (Below.refl _ _).alloc (Nat.le_refl _) _⟩
set_option maxRecDepth 100000 in
set_option maxHeartbeats 2000000 in
theorem index_any {w : World} {a : Option Addr} {N cap : Nat} {l : List (Int × Int)} (hN : N = l.length) (hx : ExtAt w (.slice a N cap) l) :
    Calls Try.prog 46 #[.slice a N cap, .func (.func 30) #[] #[]] w fun e w' => ((e = .returned (.int .i64 (-1)) ∧ ∀ j, j < l.length → 1 ≤ (l.getD j (0, 0)).2) ∨ (∃ k : Nat, e = .returned (.int .i64 k) ∧ k < l.length ∧ (l.getD k (0, 0)).2 < 1)) ∧ Below w.heap.size w w' := by
  have hle := hx.le
  rw [← hN] at hle
  unfold maxLen at hle
  have HX := Lib.hid hx
  have HN := Lib.hid hN
  clear hx hN
  go_enter Try.func46, Try.ntmps46
  go_wp2
  go_loopw [8] (fun v wr => ∃ k : Nat, k ≤ N ∧ v = .int .i64 k ∧ Hid (∀ j, j < k → 1 ≤ (l.getD j (0, 0)).2) ∧ Below w.heap.size w wr) (fun v _ => N - (intOf v).toNat)
  case atStart => exact ⟨0, Nat.zero_le _, rfl, Lib.hid (fun j hj => by omega), Below.refl _ _⟩
  case round =>
    obtain ⟨k, hk, rfl, hno, hB⟩ := hrel
    by_cases hlt : k < N
    · have hlt2 : k < l.length := by have := HN.out; omega
      obtain ⟨ad, rfl, hadb, e1, e2⟩ := (HX.out.below hB).at (k := k) hlt2
      have i1 : (k : Int) < (N : Int) := by omega
      have i0 : (0 : Int) ≤ (k : Int) := by omega
      have CE := empty_any (l.getD k (0, 0)).1 (l.getD k (0, 0)).2 wr
      by_cases hc : (l.getD k (0, 0)).2 < 1
      · have HR := Lib.hid (show ∃ k' : Nat, k' = k ∧ k' < l.length ∧ (l.getD k' (0, 0)).2 < 1 from ⟨k, rfl, hlt2, hc⟩)
        rw [decide_eq_true hc] at CE
        generalize l.getD k (0, 0) = y at e1 e2 CE
        obtain ⟨f, c⟩ := y
        dsimp only at e1 e2 CE
        clear hc hno hlt2
        go_wp2_with (go_at_call 30; ((with_reducible refine (CE).mono ?_); rintro e w1 ⟨rfl, b1⟩))
        go_ret
        obtain ⟨k', rfl, h1, h2⟩ := HR.out
        exact ⟨.inr ⟨k', rfl, h1, h2⟩, hB.trans (b1.mono hB.size)⟩
      · have hno2 := Lib.hid (show ∀ j, j < k + 1 → 1 ≤ (l.getD j (0, 0)).2 from fun j hj => if e : j = k then (by rw [e]; omega) else hno.out j (by omega))
        rw [decide_eq_false hc] at CE
        generalize l.getD k (0, 0) = y at e1 e2 CE
        obtain ⟨f, c⟩ := y
        dsimp only at e1 e2 CE
        clear hc hno hlt2
        go_wp2_with (go_at_call 30; ((with_reducible refine (CE).mono ?_); rintro e w1 ⟨rfl, b1⟩))
        go_roundw
        case rel => exact ⟨k + 1, by omega, by go_num, hno2, hB.trans (b1.mono hB.size)⟩
        case measure => simp [intOf]; omega
    · have hend := Lib.hid (show ∀ j, j < l.length → 1 ≤ (l.getD j (0, 0)).2 from fun j h1 => hno.out j (by have := HN.out; omega))
      clear hno
      go_wp2
      go_ret
      exact ⟨.inl ⟨rfl, hend.out⟩, hB⟩
/-- Has each of them a block? -/
def someE (l : List (Int × Int)) : Bool := l.any fun x => decide (x.2 < 1)
theorem someE_at {l : List (Int × Int)} : someE l = true ↔ ∃ k, k < l.length ∧ (l.getD k (0, 0)).2 < 1 := by
  unfold someE
  rw [List.any_eq_true]
  constructor
  · rintro ⟨x, hx, hd⟩
    obtain ⟨k, hk, rfl⟩ := List.getElem_of_mem hx
    exact ⟨k, hk, by rw [List.getD_eq_getElem?_getD, List.getElem?_eq_getElem hk]; simpa using hd⟩
  · rintro ⟨k, hk, hd⟩
    rw [List.getD_eq_getElem?_getD, List.getElem?_eq_getElem hk] at hd
    exact ⟨_, List.getElem_mem hk, by simpa using hd⟩
set_option maxHeartbeats 1000000 in
theorem contains_any {w : World} {a : Option Addr} {N cap : Nat} {l : List (Int × Int)} (hN : N = l.length) (hx : ExtAt w (.slice a N cap) l) :
    Calls Try.prog 29 #[.slice a N cap, .func (.func 30) #[] #[]] w fun e w' => e = .returned (.bool (someE l)) ∧ Below w.heap.size w w' := by
  have CI := index_any hN hx
  cases hb : someE l
  · have CI' : Calls Try.prog 46 #[.slice a N cap, .func (.func 30) #[] #[]] w fun e w' => e = .returned (.int .i64 (-1)) ∧ Below w.heap.size w w' := CI.mono fun e w' ⟨h, hB⟩ => by
      rcases h with ⟨he, _⟩ | ⟨k, _, hk⟩
      · exact ⟨he, hB⟩
      · rw [someE_at.2 ⟨k, hk⟩] at hb; cases hb
    clear CI hx hb hN
    go_enter Try.func29, Try.ntmps29
    go_wp2_with (go_at_call 46; go_loud (((with_reducible refine (CI').mono ?_); rintro e w1 ⟨rfl, b1⟩)))
    go_ret
    exact ⟨rfl, b1⟩
  · have CI' : Calls Try.prog 46 #[.slice a N cap, .func (.func 30) #[] #[]] w fun e w' => (∃ k : Nat, e = .returned (.int .i64 k)) ∧ Below w.heap.size w w' := CI.mono fun e w' ⟨h, hB⟩ => by
      rcases h with ⟨_, h⟩ | ⟨k, he, hk⟩
      · obtain ⟨j, j1, j2⟩ := someE_at.1 hb
        have := h j j1
        omega
      · exact ⟨⟨k, he⟩, hB⟩
    clear CI hx hb hN
    go_enter Try.func29, Try.ntmps29
    go_wp2_with (go_at_call 46; ((with_reducible refine (CI').mono ?_); rintro e w1 ⟨⟨k, rfl⟩, b1⟩))
    go_ret
    exact ⟨retBool (by simp), b1⟩
/-! ### Blocks, given one by one -/
def giveB : List Bool → List Int → Option (List Bool)
  | M, [] => some M
  | M, b :: r => if 0 ≤ b ∧ M.getD b.toNat false = true then giveB (M.set b.toNat false) r else none
theorem giveB_append : ∀ (a b : List Int) (M : List Bool), giveB M (a ++ b) = (match giveB M a with | none => none | some K => giveB K b)
  | [], _, _ => rfl
  | y :: r, b, M => by
    rw [List.cons_append, giveB, giveB]
    split
    · exact giveB_append r b _
    · rfl
theorem giveB_snoc (M : List Bool) (a : List Int) (b : Int) : giveB M (a ++ [b]) = (match giveB M a with | none => none | some K => if 0 ≤ b ∧ K.getD b.toNat false = true then some (K.set b.toNat false) else none) := by
  rw [giveB_append]
  cases giveB M a with
  | none => rfl
  | some K => simp only [giveB]
theorem giveB_length : ∀ {a : List Int} {M K : List Bool}, giveB M a = some K → K.length = M.length
  | [], M, K, h => by obtain rfl := Option.some.inj h; rfl
  | y :: r, M, K, h => by
    rw [giveB] at h
    split at h
    · rw [giveB_length h, List.length_set]
    · cases h
theorem wrap64_id {x : Int} (h : -9223372036854775808 ≤ x ∧ x ≤ 9223372036854775807) : wrap64 x = x := IntWalk.wrap64_in x h
/-- The first k blocks of an extent from f on. -/
def firstB (f k : Nat) : List Int := (List.range k).map fun (j : Nat) => wrap64 ((f : Int) + (j : Int))
theorem giveB_first {M : List Bool} {f : Nat} : ∀ k, f + k ≤ 9223372036854775807 → giveB M (firstB f k) = if allB M f k = true then some (markN M f false k) else none
  | 0, _ => rfl
  | k + 1, h => by
    have ih := giveB_first (M := M) (f := f) k (by omega)
    have e : firstB f (k + 1) = firstB f k ++ [((f + k : Nat) : Int)] := by
      unfold firstB
      rw [List.range_succ, List.map_append, List.map_singleton, wrap64_id (by omega)]
      rfl
    have ha : allB M f (k + 1) = (allB M f k && M.getD (f + k) false) := by
      unfold allB
      rw [List.range_succ, List.all_append]
      simp
    rw [e, giveB_snoc, ih, ha]
    cases hb : allB M f k
    · rfl
    · simp only [if_true, Bool.true_and]
      have hk : (markN M f false k).getD (f + k) false = M.getD (f + k) false := by rw [markN_getD, if_neg (by omega)]
      rw [show ((f + k : Nat) : Int).toNat = f + k by omega, hk, markN]
      by_cases hg : M.getD (f + k) false = true
      · rw [if_pos ⟨by omega, hg⟩, if_pos hg]
      · rw [if_neg (fun hh => hg hh.2), if_neg hg]
theorem blkX_first {f : Nat} {c : Int} (k : Nat) (h : k ≤ c.toNat) : ∃ r, blkX ((f : Int), c) 0 = firstB f k ++ r := by
  refine ⟨(List.range' k (c.toNat - k)).map fun (j : Nat) => wrap64 ((f : Int) + (j : Int)), ?_⟩
  unfold blkX firstB
  rw [← List.map_append, List.range_eq_range']
  congr 1
  have := List.range'_append_1 (s := 0) (m := k) (n := c.toNat - k)
  rw [Nat.zero_add] at this
  rw [this]
  congr 1
  show c.toNat - 0 = _
  omega
theorem allB_getD {M : List Bool} {f k j : Nat} (h : allB M f k = true) (hj : j < k) : M.getD (f + j) false = true := allB_iff.1 h j hj
theorem getD_beyond {M : List Bool} {j : Nat} (h : M.length ≤ j) : M.getD j false = false := by rw [List.getD_eq_getElem?_getD, List.getElem?_eq_none h]; rfl
/-- One extent. -/
theorem giveB_one {M : List Bool} {x : Int × Int} (hM : M.length ≤ 4096) (h1 : 1 ≤ x.2) (hf : -9223372036854775808 ≤ x.1 ∧ x.1 ≤ 9223372036854775807) : giveB M (blkX x 0) = giveE M x := by
  obtain ⟨f, c⟩ := x
  dsimp only at h1 hf
  unfold giveE
  dsimp only
  by_cases hf0 : f < 0
  · rw [if_pos (.inr (.inr (.inl hf0))), blkX_next (by show 0 < c.toNat; omega), giveB, if_neg]
    rintro ⟨h, _⟩
    dsimp only at h
    rw [wrap64_id (by omega)] at h
    omega
  · obtain ⟨f, rfl⟩ : ∃ g : Nat, f = g := ⟨f.toNat, by omega⟩
    by_cases hbig : (M.length : Int) < f
    · rw [if_pos (.inr (.inr (.inr hbig))), blkX_next (by show 0 < c.toNat; omega), giveB, if_neg]
      rintro ⟨_, h⟩
      dsimp only at h
      rw [wrap64_id (by omega), getD_beyond (by omega)] at h
      cases h
    · by_cases hc : (M.length : Int) < c
      · rw [if_pos (.inr (.inl hc))]
        obtain ⟨r, hr⟩ := blkX_first (f := f) (c := c) (M.length - f + 1) (by omega)
        rw [hr, giveB_append, giveB_first _ (by omega), if_neg]
        intro h
        have := allB_getD h (j := M.length - f) (by omega)
        rw [getD_beyond (by omega)] at this
        cases this
      · rw [if_neg (by omega)]
        obtain ⟨r, hr⟩ := blkX_first (f := f) (c := c) c.toNat (Nat.le_refl _)
        have hr0 : blkX ((f : Int), c) 0 = firstB f c.toNat := by
          unfold blkX firstB
          rw [List.range_eq_range']
          rfl
        rw [hr0, giveB_first _ (by omega), Int.toNat_natCast]
/-- All of them. -/
theorem giveB_all : ∀ {l : List (Int × Int)} {M : List Bool}, M.length ≤ 4096 → (∀ x ∈ l, 1 ≤ x.2 ∧ -9223372036854775808 ≤ x.1 ∧ x.1 ≤ 9223372036854775807) → giveB M (blkL l) = giveL M l
  | [], _, _, _ => rfl
  | x :: r, M, hM, h => by
    show giveB M (blkX x 0 ++ blkL r) = _
    obtain ⟨h1, h2⟩ := h x (List.mem_cons_self ..)
    rw [giveB_append, giveB_one hM h1 h2, giveL]
    cases he : giveE M x with
    | none => rfl
    | some K => exact giveB_all (by rw [giveE_length he]; exact hM) (fun y hy => h y (List.mem_cons_of_mem _ hy))
/-- An empty one. -/
theorem giveL_empty : ∀ {l : List (Int × Int)} {M : List Bool}, someE l = true → giveL M l = none
  | [], _, h => by cases h
  | x :: r, M, h => by
    rw [giveL]
    unfold someE at h
    rw [List.any_cons, Bool.or_eq_true, decide_eq_true_eq] at h
    cases he : giveE M x with
    | none => rfl
    | some K =>
      rcases h with h | h
      · unfold giveE at he
        rw [if_pos (.inl h)] at he
        cases he
      · exact giveL_empty h
end Go.Proofs.Ytdngkpdiaeicmaa
