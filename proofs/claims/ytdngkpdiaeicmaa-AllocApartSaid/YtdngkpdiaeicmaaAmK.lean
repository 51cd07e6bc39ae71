/- Layer 8: the program's map is the document's; a map that is none. -/
import Derived.Test.YtdngkpdiaeicmaaAmJ
import Derived.Test.YtdngkpdiaeicmaaAlcY
namespace Go.Proofs.Ytdngkpdiaeicmaa
open Go.RowKit Go.Shelf
attribute [local go_sem] Oper.semAt_some wide_fn round_fn

theorem take_any {w : World} {q : Nat} {L : List Bool} {o : Nat → Prop} (n : Int) (h : ImpInv w q L o) (hI : isI n) :
    Calls Try.prog 15 #[.pointer (some ⟨q, 0, none⟩), .int .i64 n] w fun e w' => ∃ x, e = .returned (.tuple #[x, .bool (takeL L n).2.1]) ∧ OwnsE w' w.heap.size x (takeL L n).1 ∧ ∃ o', ImpInv w' q (takeL L n).2.2 o' ∧ Chg o w w' ∧ (∀ k, o' k → o k ∨ w.heap.size ≤ k) ∧ ∀ g, x.ownBlock = some g → ¬ o' g := by
  by_cases hn : n < 1 ∨ (L.length : Int) - (usedL L : Int) < n
  · have HR : takeL L n = ([], false, L) := by unfold takeL; rw [if_pos hn]
    rw [HR]
    obtain ⟨r, h, rfl⟩ := h
    exact (take_less n ⟨r, h, rfl⟩ hn hI).mono fun e w' ⟨he, hb⟩ => ⟨.slice none 0 0, he, OwnsE.nil _ _, impOwn q r, ⟨r, h.below hb, rfl⟩, Chg.of_below hb, fun k hk => .inl hk, fun g hg => by cases hg⟩
  · exact take_more n h hn hI
/-- The program's map. -/
def imp : Impl where
  Inv := ImpInv
  lt := fun ⟨_, h, e⟩ k hk => by subst e; exact h.lt k hk
  ok := fun ⟨_, h, _⟩ => ⟨h.lo, h.hi⟩
  chg := fun ⟨r, h, e⟩ hc hs => ⟨r, by subst e; exact h.chg hc hs, e⟩
  new := new_any
  newNo := fun n w h _ => new_no n w h
  of := mof_any
  ofNo := fun s n w h _ _ => mof_no s n w h
  take := fun n h hn => take_any n h hn
  give := fun h hx hl _ => give_any h hx hl
  used := used_any
  bytes := bytes_any
  size := size_any
  copy := copy_any
/-! ### nil, or a map that New and Of did not make -/
def NoM (w : World) (v : Value) : Prop := v = .pointer none ∨ ∃ b, v = .pointer (some ⟨b, 0, none⟩) ∧ rowC w b #[.pointer none] 51
theorem NoM.below {w w' : World} {v : Value} (h : NoM w v) (hb : Below w.heap.size w w') : NoM w' v := by
  rcases h with rfl | ⟨b, rfl, h⟩
  · exact .inl rfl
  · exact .inr ⟨b, rfl, rowC_below h hb (rowC_lt h)⟩
set_option maxHeartbeats 400000 in
theorem none_yes {w : World} {v : Value} (h : NoM w v) : Calls Try.prog 28 #[v] w fun e w' => e = .returned (.bool true) ∧ w = w' := by
  rcases h with rfl | ⟨b, rfl, h⟩
  · go_enter Try.func28, Try.ntmps28
    go_wp2
    go_ret
    exact ⟨rfl, rfl⟩
  · have c := rowC_cell h 0
    clear h
    go_enter Try.func28, Try.ntmps28
    go_wp2
    go_ret
    exact ⟨rfl, rfl⟩
set_option maxHeartbeats 400000 in
theorem nsize_any {w : World} {v : Value} (h : NoM w v) : Calls Try.prog 20 #[v] w fun e w' => e = .returned (.int .i64 0) ∧ Below w.heap.size w w' := by
  have CN := none_yes h
  clear h
  go_enter Try.func20, Try.ntmps20
  go_wp2_with (go_at_call 28; ((with_reducible refine (CN).mono ?_); rintro e w1 ⟨rfl, rfl⟩))
  go_ret
  exact ⟨rfl, Below.refl _ _⟩
set_option maxHeartbeats 400000 in
theorem nbytes_same {w : World} {v : Value} (h : NoM w v) : Calls Try.prog 21 #[v] w fun e w' => e = .returned (.string ⟨#[]⟩) ∧ w = w' := by
  have CN := none_yes h
  clear h
  go_enter Try.func21, Try.ntmps21
  go_wp2_with (go_at_call 28; ((with_reducible refine (CN).mono ?_); rintro e w1 ⟨rfl, rfl⟩))
  go_ret
  exact ⟨rfl, rfl⟩
set_option maxHeartbeats 400000 in
theorem ncopy_any {w : World} {v : Value} (h : NoM w v) : Calls Try.prog 14 #[v] w fun e w' => e = .returned (.pointer none) ∧ Below w.heap.size w w' := by
  have CN := none_yes h
  clear h
  go_enter Try.func14, Try.ntmps14
  go_wp2_with (go_at_call 28; ((with_reducible refine (CN).mono ?_); rintro e w1 ⟨rfl, rfl⟩))
  go_ret
  exact ⟨rfl, Below.refl _ _⟩
set_option maxHeartbeats 400000 in
theorem nused_any {w : World} {v : Value} (h : NoM w v) : Calls Try.prog 18 #[v] w fun e w' => e = .returned (.int .i64 0) ∧ Below w.heap.size w w' := by
  have CB := nbytes_same h
  have CC := count_any ⟨#[]⟩ w (by decide)
  rw [show ((countN (ByteArray.mk #[]).data.toList : Nat) : Int) = 0 from rfl] at CC
  clear h
  go_enter Try.func18, Try.ntmps18
  go_wp2_with (first
    | (go_at_call 21; ((with_reducible refine (CB).mono ?_); rintro e w1 ⟨rfl, rfl⟩))
    | (go_at_call 37; ((with_reducible refine (CC).mono ?_); rintro e w2 ⟨rfl, b2⟩)))
  go_ret
  exact ⟨rfl, b2⟩
set_option maxRecDepth 100000 in
set_option maxHeartbeats 1000000 in
theorem ngive_any {w : World} {v x : Value} {l : List (Int × Int)} (h : NoM w v) (hx : ExtAt w x l) : Calls Try.prog 12 #[v, x] w fun e w' => e = .returned (.bool false) ∧ Below w.heap.size w w' := by
  have al : Below w.heap.size w (w.alloc (.cells #[.bool false] 4)) := (Below.refl _ _).alloc (Nat.le_refl _) _
  have CN := none_yes (h.below al)
  obtain ⟨a, cap, rfl⟩ := hx.form
  have r0 := rowC_new w #[.bool false] 4
  have HB := Lib.hid al
  have HR0 := Lib.hid r0
  clear h hx al r0
  generalize l.length = N at *
  go_enter Try.func12, Try.ntmps12
  go_wp2_with (go_at_call 28; ((with_reducible refine (CN).mono ?_); rintro e w1 ⟨rfl, rfl⟩; have c2 := rowC_cell HR0.out 0; have f2 := rowC_free HR0.out 0))
  exact bodyPost_ret (v := .bool false) (by simp [results, Try.f12, go_sem]) rfl ⟨rfl, HB.out⟩
set_option maxRecDepth 100000 in
set_option maxHeartbeats 1000000 in
theorem ntake_any {w : World} {v : Value} (n : Int) (h : NoM w v) (hI : isI n) : Calls Try.prog 15 #[v, .int .i64 n] w fun e w' => e = .returned (.tuple #[.slice none 0 0, .bool false]) ∧ Below w.heap.size w w' := by
  have al : Below w.heap.size w (w.alloc (.cells #[v] 25)) := (Below.refl _ _).alloc (Nat.le_refl _) _
  have h1 := h.below al
  have r0 := rowC_new w #[v] 25
  have HB := Lib.hid al
  obtain ⟨w1, hw1⟩ : ∃ w1, w1 = w.alloc (.cells #[v] 25) := ⟨_, rfl⟩
  rw [← hw1] at h1 r0 HB
  have cM : ∀ x : After w1, x.v.cell? ⟨w.heap.size, 0, none⟩ = some v := fun x => rowC_cell (rowC_below r0 x.h (rowC_lt r0)) 0
  have CN : ∀ x : After w1, CallsIn Fence.wide 3 Try.prog 28 #[v] x.v fun e w'' => e = .returned (.bool true) ∧ ∃ y : After w1, w'' = y.v := fun x =>
    (callsIn_wide.2 (none_yes (h1.below x.h))).mono fun e w'' ⟨he, hw⟩ => ⟨he, x, hw.symm⟩
  obtain ⟨i1, i2⟩ := hI
  have hv : v.cells = #[v] := by rcases h with rfl | ⟨b, rfl, _⟩ <;> rfl
  rcases h with rfl | ⟨b, rfl, _⟩
  all_goals
    clear h1 r0 hv
    refine (callsIn_wide (n := 4)).1 ?_
    refine callsIn_of_wp_marks Try.func15 rfl trivial ?_ rfl
    simp only [Try.ntmps15, List.size_toArray, List.length_cons, List.length_nil, Nat.reduceAdd, Nat.reduceSub, Array.replicate_succ, Array.replicate_zero, List.push_toArray, List.append_toArray, List.nil_append, List.cons_append]
    gi_wp2_with fail
    rw [← hw1]
    refine region_quiet (C := fun w' => ∃ x : After w1, w' = x.v) (by kernel_rfl) (by kernel_rfl) (by kernel_rfl) ⟨⟨w1.drew, (Below.refl _ _).drew⟩, rfl⟩ ?_
    repeat (gi_big_quiet_step ((gi_at_call 28; exact CN _)))
    refine wpQuietIn_nil ?_
    rintro _ ⟨x, rfl⟩
    have HX := Lib.hid (HB.out.trans (x.h.mono HB.out.size))
    clear CN cM hw1
    gi_wp2
    exact ⟨_, results_tmp2 rfl _ _ _, rfl, HX.out⟩
def nimp : NoneI where
  No := NoM
  nil := fun _ => .inl rfl
  zero := fun w => .inr ⟨_, rfl, rowC_new w zeroC 51⟩
  below := fun h hb => h.below hb
  take := fun n h hn => ntake_any n h hn
  give := fun h hx _ => ngive_any h hx
  used := nused_any
  size := nsize_any
  bytes := fun h => (nbytes_same h).mono fun _ _ ⟨he, hw⟩ => ⟨he, hw ▸ Below.refl _ _⟩
  copy := ncopy_any
end Go.Proofs.Ytdngkpdiaeicmaa
