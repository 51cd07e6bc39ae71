/- Layer 6: the program's disk: Write. -/
import Derived.Test.YtikeobmcnpncjaaSecW
import Derived.Test.YtikeobmcnpncjaaShelf
import Derived.Deep.AppendLies
namespace Go.Proofs.Ytikeobmcnpncjaa
open Go.RowKit

set_option maxHeartbeats 400000 in
theorem cloneS_any (s : ByteArray) (w : World) (hs : s.size ≤ 1000000) : Calls Try.prog 35 #[.string s] w fun e w' => e = .returned (.string s) ∧ Below w.heap.size w w' := by
  have CC := Try.stringslite_Clone s w (by omega)
  go_enter Try.func35, Try.ntmps35
  go_wp2_with (go_at_call 50; ((with_reducible refine (CC).mono ?_); rintro e w1 ⟨rfl, b1⟩))
  go_ret
  exact ⟨rfl, b1⟩
theorem has_yes {w : World} {r : Nat} {a : Option Addr} {S cap : Nat} (h0 : w.cell? ⟨r, 0, none⟩ = some (.slice a S cap)) {n : Int} (h : 0 ≤ n ∧ n < (S : Int)) :
    Calls Try.prog 33 #[.pointer (some ⟨r, 0, none⟩), .int .i64 n] w fun e w' => e = .returned (.bool true) ∧ w = w' := by
  have := has_any h0 n
  rwa [decide_eq_true h] at this
theorem has_no {w : World} {r : Nat} {a : Option Addr} {S cap : Nat} (h0 : w.cell? ⟨r, 0, none⟩ = some (.slice a S cap)) {n : Int} (h : ¬ (0 ≤ n ∧ n < (S : Int))) :
    Calls Try.prog 33 #[.pointer (some ⟨r, 0, none⟩), .int .i64 n] w fun e w' => e = .returned (.bool false) ∧ w = w' := by
  have := has_any h0 n
  rwa [decide_eq_false h] at this
/-- Write's world, ahead of the append. -/
structure MoreM (W w : World) (q r : Nat) (vS vL vK : Value) (d : RD) : Prop where
  i : ImpV w q r vS vL vK d
  b : Below W.heap.size W w
theorem MoreM.clone {W w : World} {q r : Nat} {vS vL vK : Value} {d : RD} (h : MoreM W w q r vS vL vK d) {s : ByteArray} (hs : s.size ≤ 1000000) :
    Calls Try.prog 35 #[.string s] w fun e w' => e = .returned (.string s) ∧ MoreM W w' q r vS vL vK d :=
  (cloneS_any s w hs).mono fun _ _ ⟨he, hb⟩ => ⟨he, h.i.below hb, h.b.trans (hb.mono h.b.size)⟩
/-- .. with the new write in a block of its own. -/
structure MoreX (W w : World) (q r : Nat) (vS vL vK : Value) (d : RD) (x : Nat) (n : Nat) (s : ByteArray) : Prop where
  i : ImpV w q r vS vL vK d
  b : Below W.heap.size W w
  x : rowC w x #[.int .i64 (n : Int), .string s] 72
theorem MoreM.lay {W w : World} {q r : Nat} {vS vL vK : Value} {d : RD} (h : MoreM W w q r vS vL vK d) (n : Nat) (s : ByteArray) :
    MoreX W (w.alloc (.cells #[.int .i64 (n : Int), .string s] 72)) q r vS vL vK d w.heap.size n s := by
  have al : Below w.heap.size w (w.alloc (.cells #[.int .i64 (n : Int), .string s] 72)) := (Below.refl _ _).alloc (Nat.le_refl _) _
  exact ⟨h.i.below al, h.b.trans (al.mono h.b.size), rowC_new _ _ _⟩
theorem ImpV.l' {w : World} {q r : Nat} {vS vL vK : Value} {d : RD} (h : ImpV w q r vS vL vK d) {N : Nat} (hN : N = d.loose.length) : w.ownsRow 0 72 2 vL N (looseV d.loose) := by rw [hN]; exact h.l
/-- .. behind the append. -/
structure MoreN (W w : World) (q r : Nat) (vS vL vK : Value) (d : RD) (v : Value) (M : Nat) (n : Nat) (t : ByteArray) : Prop where
  q : rowC w q #[.pointer (some ⟨r, 0, none⟩)] 46
  r : rowC w r (impC vS vL vK d) 64
  s : w.ownsRow 0 9 1 vS d.sure.length (d.sure.map Value.string)
  l : w.ownsRow 0 72 2 v M (looseV (d.loose ++ [(n, t)]))
  k : w.ownsRow 0 4 1 vK d.kept.length (d.kept.map Value.bool)
  c : Chg (fun j => vL.ownBlock = some j) W w
  o : ∀ j, v.ownBlock = some j → vL.ownBlock = some j ∨ W.heap.size ≤ j
theorem MoreX.more {W w : World} {q r : Nat} {vS vL vK : Value} {d : RD} {x n : Nat} {s : ByteArray} (h : MoreX W w q r vS vL vK d x n s) {N : Nat} (_hN : N = d.loose.length) {g cap : Nat} {w' : World}
    (ho : w'.ownsRow 0 72 2 (.slice (some ⟨g, 0, none⟩) (N + 1) cap) (N + 1) (looseV (d.loose ++ [(n, s)]))) (hg : w.grownBy w' vL.ownBlock) (hat : vL.ownBlock = some g ∨ g = w.heap.size) :
    MoreN W w' q r vS vL vK d (.slice (some ⟨g, 0, none⟩) (N + 1) cap) (N + 1) n s := by
  have hc : Chg (fun j => vL.ownBlock = some j) w w' := (Chg.refl _ w).grown hg (fun k hk => .inl hk)
  refine ⟨hc.rowC h.i.q (fun e => owns_ne h.i.l h.i.q (by decide) q e rfl), hc.rowC h.i.r (fun e => owns_ne h.i.l h.i.r (by decide) r e rfl), hc.owns h.i.s (fun j hj e => owns_apart h.i.s h.i.l (by decide) j hj e), ho, hc.owns h.i.k (fun j hj e => owns_apart h.i.k h.i.l (by decide) j hj e), (Chg.of_below h.b).trans hc (fun _ _ h => h), fun j hj => ?_⟩
  simp only [Value.ownBlock, Option.some.injEq] at hj
  subst hj
  rcases hat with hat | hat
  · exact .inl hat
  · exact .inr (by rw [hat]; exact h.b.size)
theorem MoreN.q0 {W w : World} {q r : Nat} {vS vL vK : Value} {d : RD} {v : Value} {M n : Nat} {s : ByteArray} (h : MoreN W w q r vS vL vK d v M n s) : w.cell? ⟨q, 0, none⟩ = some (.pointer (some ⟨r, 0, none⟩)) := rowC_cell h.q 0
theorem MoreN.cells {W w : World} {q r : Nat} {vS vL vK : Value} {d : RD} {v : Value} {M n : Nat} {s : ByteArray} (h : MoreN W w q r vS vL vK d v M n s) : w.cell? ⟨r, 1, none⟩ = some vL ∧ w.frozen? ⟨r, 1, none⟩ = false := ⟨rowC_cell h.r 1, rowC_free h.r 1⟩
/-- The disk with one loose write more, ahead of what is counted. -/
def RD.one (d : RD) (n : Nat) (s : ByteArray) : RD := { d with loose := d.loose ++ [(n, s)] }
structure MoreD (W w : World) (q r : Nat) (vS vL vK : Value) (d : RD) (v : Value) (n : Nat) (s : ByteArray) : Prop where
  i : ImpV w q r vS v vK (d.one n s)
  c : Chg (fun j => j = r ∨ vL.ownBlock = some j) W w
  o : ∀ j, v.ownBlock = some j → vL.ownBlock = some j ∨ W.heap.size ≤ j
theorem MoreN.done {W w : World} {q r : Nat} {vS vL vK : Value} {d : RD} {v : Value} {M n : Nat} {s : ByteArray} (h : MoreN W w q r vS vL vK d v (M + 1) n s) (hN : M = d.loose.length) : MoreD W (w.setCell ⟨r, 1, none⟩ v) q r vS vL vK d v n s := by
  have hc : Chg (· = r) w (w.setCell ⟨r, 1, none⟩ v) := (Chg.refl _ _).setP _ _
  have hqr : q ≠ r := by
    intro e
    have h1 := h.q
    have h2 := h.r
    rw [e] at h1
    unfold rowC at h1 h2
    rw [h1] at h2
    have := Option.some.inj h2
    injection this with _ h3 _
    exact absurd h3 (by decide)
  refine ⟨⟨hc.rowC h.q hqr, rowC_set h.r 1 v, hc.owns h.s (owns_ne h.s h.r (by decide)), ?_, hc.owns h.k (owns_ne h.k h.r (by decide))⟩, (h.c.mono (fun _ _ h => .inr h)).trans hc (fun _ _ h => .inl h), h.o⟩
  have := hc.owns h.l (owns_ne h.l h.r (by decide))
  rw [show (d.one n s).loose.length = M + 1 by rw [hN]; simp [RD.one]]
  exact this
theorem MoreD.post {W w w' : World} {q r : Nat} {vS vL vK : Value} {d d' : RD} {v vL' vK' : Value} {n : Nat} {s : ByteArray} (h : MoreD W w q r vS vL vK d v n s) (hi : ImpV w' q r vS vL' vK' d') (hc : Chg (fun j => j = r ∨ vS.ownBlock = some j) w w')
    (hL : vL' = v ∨ vL'.ownBlock = none) (hK : vK' = vK ∨ vK'.ownBlock = none) : InvPost ImpInv W q (impOwn q r vS vL vK) d' w' := by
  refine imp_post hi ((h.c.mono (fun k _ hk => ?_)).trans hc (fun k _ hk => ?_)) (fun k hk => ?_)
  · rcases hk with hk | hk
    · exact .inr (.inl hk)
    · exact .inr (.inr (.inr (.inl hk)))
  · rcases hk with hk | hk
    · exact .inr (.inl hk)
    · exact .inr (.inr (.inl hk))
  · rcases hk with hk | hk | hk | hk | hk
    · exact .inl (.inl hk)
    · exact .inl (.inr (.inl hk))
    · exact .inl (.inr (.inr (.inl hk)))
    · rcases hL with rfl | hL
      · rcases h.o k hk with h1 | h1
        · exact .inl (.inr (.inr (.inr (.inl h1))))
        · exact .inr h1
      · rw [hL] at hk; cases hk
    · rcases hK with rfl | hK
      · exact .inl (.inr (.inr (.inr (.inr hk))))
      · rw [hK] at hk; cases hk
theorem RD.ok.one {d : RD} (h : d.ok) {n : Nat} (hn : n < d.sure.length) (s : ByteArray) : (d.one n s).ok :=
  ⟨h.lo, h.hi, fun p hp => by
    simp only [RD.one, List.mem_append, List.mem_singleton] at hp
    rcases hp with hp | rfl
    · exact h.within p hp
    · exact hn, h.left⟩
/-- The change that Write counts, behind its write. -/
theorem MoreD.change {W w : World} {q r : Nat} {vS vL vK : Value} {d : RD} {v : Value} {n : Nat} {s : ByteArray} (h : MoreD W w q r vS vL vK d v n s) (hok : (d.one n s).ok) (hf : d.loose.length ≤ 100000) {x : Int} {d' : RD} (hr : (if d.fails = true then ((d.more n s).fall (d.more n s).keep, 61) else (d.more n s, 0)) = (d', x)) :
    Calls Try.prog 36 #[.pointer (some ⟨r, 0, none⟩)] w fun e w' => e = .returned (.int .i64 x) ∧ InvPost ImpInv W q (impOwn q r vS vL vK) d' w' := by
  have hl : (d.one n s).loose.length ≤ 1000000 := by simp [RD.one]; omega
  cases hn : d.fails
  · rw [hn] at hr
    obtain ⟨rfl, rfl⟩ := Prod.mk.inj hr
    refine (change_no h.i hok (show (d.one n s).fails = false from hn)).mono fun e w' ⟨he, hi, hc⟩ => ⟨he, ?_⟩
    exact h.post (show ImpV w' q r vS v vK (d.more n s) from hi) (hc.mono (fun _ _ h => .inl h)) (.inl rfl) (.inl rfl)
  · rw [hn] at hr
    have hz : d.left = 0 := by unfold RD.fails at hn; simpa using hn
    have e1 : d.more n s = d.one n s := by unfold RD.more RD.one; rw [less_same (by omega)]
    rw [e1] at hr
    obtain ⟨rfl, rfl⟩ := Prod.mk.inj hr
    refine (change_yes h.i hok hl (show (d.one n s).fails = true from hn)).mono fun e w' ⟨he, hi, hc⟩ => ⟨he, ?_⟩
    exact h.post hi hc (.inr rfl) (.inr rfl)
set_option maxRecDepth 100000 in
set_option maxHeartbeats 4000000 in
theorem write_any {w : World} {q : Nat} {d : RD} {o : Nat → Prop} (i : Int) (s : ByteArray) (h : ImpInv w q d o) (hok : d.ok) (hf : d.few) :
    Calls Try.prog 14 #[.pointer (some ⟨q, 0, none⟩), .int .i64 i, .string s] w fun e w' => e = .returned (.int .i64 (d.write i s).2) ∧ InvPost ImpInv w q o (d.write i s).1 w' := by
  obtain ⟨r, vS, vL, vK, h, rfl⟩ := h
  obtain ⟨c, c0, c1, c2, c3, c4, c5, c6⟩ := h.cell
  have CR := refusal_any c c2
  have H := Lib.hid h
  obtain ⟨aS, capS, rfl⟩ := owns_form h.s
  have hl := hf.loose
  cases hd : d.down
  · rw [hd, if_neg (by decide)] at CR
    by_cases hin : 0 ≤ i ∧ i < (d.sure.length : Int)
    · have CH := has_yes c0 hin
      by_cases h5 : s.size = 512
      · obtain ⟨n, rfl⟩ : ∃ n : Nat, i = n := ⟨i.toNat, by omega⟩
        have md := MoreM.mk (W := w) (w := w.drew) (h.below (Below.refl _ _).drew) (Below.refl _ _).drew
        have CL := Lib.hid (fun w' (m : MoreM w w' q r (.slice aS d.sure.length capS) vL vK d) => m.clone (s := s) (by omega))
        obtain ⟨x, d', hr⟩ : ∃ x d', d.write n s = (d', x) := ⟨_, _, rfl⟩
        have hr1 : d.write n s = if d.fails = true then ((d.more n s).fall (d.more n s).keep, 61) else (d.more n s, 0) := by
          unfold RD.write
          rw [hd, if_neg (by decide), if_neg (by omega), Int.toNat_natCast]
          rfl
        have hr2 := hr1.symm.trans hr
        have HR := Lib.hid hr
        have CC := Lib.hid (fun (w' : World) (v : Value) (m : MoreD w w' q r (.slice aS d.sure.length capS) vL vK d v n s) => m.change (hok.one (by omega) s) (by omega) hr2)
        obtain ⟨j0, ji, jz0, jz1, jz2⟩ := info_parts info_write
        obtain ⟨aL, capL, rfl⟩ := owns_form h.l
        have h52 : ((s.size : Int) == 512) = true := by rw [beq_iff_eq]; omega
        have h53 : ((s.size : Int) != 512) = false := by rw [bne, h52]; rfl
        have H1 := Lib.hid (show ∀ u ∈ [Value.int .i64 (n : Int), Value.string s], u.oneCell' = true by intro u hu; simp at hu; rcases hu with rfl | rfl <;> rfl)
        obtain ⟨N, hN⟩ : ∃ N, N = d.loose.length := ⟨_, rfl⟩
        have HN := Lib.hid hN
        rw [← hN] at hl CC CL md ⊢
        obtain ⟨SS, hSS⟩ : ∃ SS : World → Prop, SS = fun w' => w'.cell? ⟨q, 0, none⟩ = some (.pointer (some ⟨r, 0, none⟩)) := ⟨_, rfl⟩
        have SO : ∀ w', w'.cell? ⟨q, 0, none⟩ = some (.pointer (some ⟨r, 0, none⟩)) → SS w' := fun w' m => by rw [hSS]; exact m
        have OS : ∀ w', SS w' → w'.cell? ⟨q, 0, none⟩ = some (.pointer (some ⟨r, 0, none⟩)) := fun w' h => by rw [hSS] at h; exact h
        clear hSS h hok hf h5 hd hr hr1 hr2 hin hN c1 c2 c3 c4 c5 c6
        go_enter Try.func14, Try.ntmps14
        go_wp2_with (first
          | (go_at_call 32; ((with_reducible refine (CR).mono ?_); rintro e w0 ⟨rfl, rfl⟩))
          | (go_at_call 33; ((with_reducible refine (CH).mono ?_); rintro e w0 ⟨rfl, rfl⟩)))
        clear c c0 CR CH
        refine wp_region_noPanic ?_
        refine wp_region_held_drew (S := SS) (by kernel_rfl) (SO _ md.i.cell.1) (fun hHeld => ?_)
        refine wpAnyH_take (i := 0) (oi := { dst := some 25, op := Op.move (Operand.tmp 0), type := 25, pos := "sectors.go:77", after := #[], guard := none }) (v := ?_) rfl (by kernel_rfl) (by kernel_rfl) (by kernel_rfl) (fun _ _ _ h => h) (Or.inl ⟨by rfl, ?_⟩) (by assumption) ?_
        rotate_left
        · intro w hSw
          skip
          clear hSw
          go_simp
          try with_reducible rfl
        try simp only [Act.put, List.setIfInBounds_toArray, List.set_cons_zero, List.set_cons_succ]
        refine wpAnyH_take (i := 1) (oi := { dst := some 26, op := Op.nilCheck (Operand.tmp 25), type := 0, pos := "sectors.go:77", after := #[{ on := 0, ground := Ground.data }], guard := none }) (v := ?_) rfl (by kernel_rfl) (by kernel_rfl) (by kernel_rfl) (fun _ _ _ h => h) (Or.inl ⟨by rfl, ?_⟩) (by assumption) ?_
        rotate_left
        · intro w hSw
          skip
          clear hSw
          go_simp
          try with_reducible rfl
        try simp only [Act.put, List.setIfInBounds_toArray, List.set_cons_zero, List.set_cons_succ]
        refine wpAnyH_take (i := 2) (oi := { dst := some 27, op := Op.fieldAddr 46 (Operand.tmp 26) 0, type := 0, pos := "sectors.go:77", after := #[{ on := 1, ground := Ground.data }], guard := none }) (v := ?_) rfl (by kernel_rfl) (by kernel_rfl) (by kernel_rfl) (fun _ _ _ h => h) (Or.inl ⟨by rfl, ?_⟩) (by assumption) ?_
        rotate_left
        · intro w hSw
          skip
          clear hSw
          go_simp
          try with_reducible rfl
        try simp only [Act.put, List.setIfInBounds_toArray, List.set_cons_zero, List.set_cons_succ]
        refine wpAnyH_take (i := 4) (oi := { dst := some 29, op := Op.move (Operand.tmp 0), type := 25, pos := "sectors.go:77", after := #[], guard := none }) (v := ?_) rfl (by kernel_rfl) (by kernel_rfl) (by kernel_rfl) (fun _ _ _ h => h) (Or.inl ⟨by rfl, ?_⟩) (by assumption) ?_
        rotate_left
        · intro w hSw
          skip
          clear hSw
          go_simp
          try with_reducible rfl
        try simp only [Act.put, List.setIfInBounds_toArray, List.set_cons_zero, List.set_cons_succ]
        refine wpAnyH_take (i := 5) (oi := { dst := some 30, op := Op.nilCheck (Operand.tmp 29), type := 0, pos := "sectors.go:77", after := #[{ on := 4, ground := Ground.data }], guard := none }) (v := ?_) rfl (by kernel_rfl) (by kernel_rfl) (by kernel_rfl) (fun _ _ _ h => h) (Or.inl ⟨by rfl, ?_⟩) (by assumption) ?_
        rotate_left
        · intro w hSw
          skip
          clear hSw
          go_simp
          try with_reducible rfl
        try simp only [Act.put, List.setIfInBounds_toArray, List.set_cons_zero, List.set_cons_succ]
        refine wpAnyH_take (i := 6) (oi := { dst := some 31, op := Op.fieldAddr 46 (Operand.tmp 30) 0, type := 0, pos := "sectors.go:77", after := #[{ on := 5, ground := Ground.data }], guard := none }) (v := ?_) rfl (by kernel_rfl) (by kernel_rfl) (by kernel_rfl) (fun _ _ _ h => h) (Or.inl ⟨by rfl, ?_⟩) (by assumption) ?_
        rotate_left
        · intro w hSw
          skip
          clear hSw
          go_simp
          try with_reducible rfl
        try simp only [Act.put, List.setIfInBounds_toArray, List.set_cons_zero, List.set_cons_succ]
        refine wpAnyH_take (i := 11) (oi := { dst := some 36, op := Op.move (Operand.tmp 1), type := 3, pos := "sectors.go:77", after := #[], guard := none }) (v := ?_) rfl (by kernel_rfl) (by kernel_rfl) (by kernel_rfl) (fun _ _ _ h => h) (Or.inl ⟨by rfl, ?_⟩) (by assumption) ?_
        rotate_left
        · intro w hSw
          skip
          clear hSw
          go_simp
          try with_reducible rfl
        try simp only [Act.put, List.setIfInBounds_toArray, List.set_cons_zero, List.set_cons_succ]
        refine wpAnyH_take (i := 12) (oi := { dst := some 37, op := Op.move (Operand.tmp 2), type := 9, pos := "sectors.go:77", after := #[], guard := none }) (v := ?_) rfl (by kernel_rfl) (by kernel_rfl) (by kernel_rfl) (fun _ _ _ h => h) (Or.inl ⟨by rfl, ?_⟩) (by assumption) ?_
        rotate_left
        · intro w hSw
          skip
          clear hSw
          go_simp
          try with_reducible rfl
        try simp only [Act.put, List.setIfInBounds_toArray, List.set_cons_zero, List.set_cons_succ]
        refine wpAnyH_take (i := 3) (oi := { dst := some 28, op := Op.load 44 (Operand.tmp 27), type := 44, pos := "sectors.go:77", after := #[{ on := 2, ground := Ground.data }], guard := none }) (v := ?_) rfl (by kernel_rfl) (by kernel_rfl) (by kernel_rfl) (fun _ _ _ h => h) (Or.inl ⟨by rfl, ?_⟩) (by assumption) ?_
        rotate_left
        · intro w hSw
          have hSw := OS _ hSw
          go_simp
          try with_reducible rfl
        try simp only [Act.put, List.setIfInBounds_toArray, List.set_cons_zero, List.set_cons_succ]
        refine wpAnyH_take (i := 7) (oi := { dst := some 32, op := Op.load 44 (Operand.tmp 31), type := 44, pos := "sectors.go:77", after := #[{ on := 6, ground := Ground.data }], guard := none }) (v := ?_) rfl (by kernel_rfl) (by kernel_rfl) (by kernel_rfl) (fun _ _ _ h => h) (Or.inl ⟨by rfl, ?_⟩) (by assumption) ?_
        rotate_left
        · intro w hSw
          have hSw := OS _ hSw
          go_simp
          try with_reducible rfl
        try simp only [Act.put, List.setIfInBounds_toArray, List.set_cons_zero, List.set_cons_succ]
        refine wpAnyH_take (i := 8) (oi := { dst := some 33, op := Op.nilCheck (Operand.tmp 32), type := 0, pos := "sectors.go:77", after := #[{ on := 7, ground := Ground.data }], guard := none }) (v := ?_) rfl (by kernel_rfl) (by kernel_rfl) (by kernel_rfl) (fun _ _ _ h => h) (Or.inl ⟨by rfl, ?_⟩) (by assumption) ?_
        rotate_left
        · intro w hSw
          skip
          clear hSw
          go_simp
          try with_reducible rfl
        try simp only [Act.put, List.setIfInBounds_toArray, List.set_cons_zero, List.set_cons_succ]
        refine wpAnyH_take (i := 9) (oi := { dst := some 34, op := Op.fieldAddr 64 (Operand.tmp 33) 1, type := 0, pos := "sectors.go:77", after := #[{ on := 8, ground := Ground.data }], guard := none }) (v := ?_) rfl (by kernel_rfl) (by kernel_rfl) (by kernel_rfl) (fun _ _ _ h => h) (Or.inl ⟨by rfl, ?_⟩) (by assumption) ?_
        rotate_left
        · intro w hSw
          skip
          clear hSw
          go_simp
          try with_reducible rfl
        try simp only [Act.put, List.setIfInBounds_toArray, List.set_cons_zero, List.set_cons_succ]
        refine wpAnyH_ready (rs := [10, 13]) (by kernel_rfl) (by simp) ?_
        refine (AllReadyH.cons (o := { dst := some 35, op := Op.load 60 (Operand.tmp 34), type := 60, pos := "sectors.go:77", after := #[{ on := 9, ground := Ground.data }], guard := none }) rfl (fun K hK => ?_) (AllReadyH.cons (o := { dst := some 38, op := Op.call { callee := Callee.value (Operand.func 35), args := #[Operand.tmp 37], argTypes := #[9] }, type := 9, pos := "sectors.go:77", after := #[{ on := 12, ground := Ground.data }], guard := none }) rfl (fun K hK => ?_) AllReadyH.nil))
        · have c10 := md.i.cell.2.2.1
          go_simp
          refine hK.out _ _ (SO _ (md.i.cell.1)) (fun hHeld => ?_)
          clear hK K
          try simp only [Act.put, List.setIfInBounds_toArray, List.set_cons_zero, List.set_cons_succ]
          refine wpAnyH_ready (rs := [13]) (by kernel_rfl) (by simp) ?_
          refine (AllReadyH.cons (o := { dst := some 38, op := Op.call { callee := Callee.value (Operand.func 35), args := #[Operand.tmp 37], argTypes := #[9] }, type := 9, pos := "sectors.go:77", after := #[{ on := 12, ground := Ground.data }], guard := none }) rfl (fun K hK => ?_) AllReadyH.nil)
          go_simp
          refine (CL.out _ (by assumption)).mono ?_
          rintro e w13' ⟨rfl, m13'⟩
          have m15' := m13'.lay n s
          refine hK.out _ _ (SO _ m13'.i.cell.1) (fun hHeld => ?_)
          clear hK K
          try simp only [Act.put, List.setIfInBounds_toArray, List.set_cons_zero, List.set_cons_succ]
          refine wpAnyH_take (i := 14) (oi := { dst := some 39, op := Op.build 72 #[(0, Operand.tmp 36), (1, Operand.tmp 38)], type := 72, pos := "sectors.go:77", after := #[{ on := 11, ground := Ground.data }, { on := 13, ground := Ground.data }], guard := none }) (v := ?_) rfl (by kernel_rfl) (by kernel_rfl) (by kernel_rfl) (fun _ _ _ h => h) (Or.inl ⟨by rfl, ?_⟩) (by assumption) ?_
          rotate_left
          · intro w hSw
            skip
            clear hSw
            go_simp
            try with_reducible rfl
          try simp only [Act.put, List.setIfInBounds_toArray, List.set_cons_zero, List.set_cons_succ]
          refine wpAnyH_ready (rs := [15]) (by kernel_rfl) (by simp) ?_
          refine (AllReadyH.cons (o := { dst := some 40, op := Op.buildSlice 60 1 #[(0, Operand.tmp 39)], type := 60, pos := "sectors.go:77", after := #[{ on := 14, ground := Ground.data }], guard := none }) rfl (fun K hK => ?_) AllReadyH.nil)
          skip
          go_simp
          refine hK.out _ _ (SO _ (m15'.i.cell.1)) (fun hHeld => ?_)
          clear hK K
          try simp only [Act.put, List.setIfInBounds_toArray, List.set_cons_zero, List.set_cons_succ]
          refine wpAnyH_ready (rs := [16]) (by kernel_rfl) (by simp) ?_
          refine (AllReadyH.cons (o := { dst := some 41, op := Op.call { callee := Callee.builtin Builtin.append, args := #[Operand.tmp 35, Operand.tmp 40], argTypes := #[60, 60] }, type := 60, pos := "sectors.go:77", after := #[{ on := 10, ground := Ground.data }, { on := 15, ground := Ground.data }, { on := 13, ground := Ground.chain }], guard := none }) rfl (fun K hK => ?_) AllReadyH.nil)
          refine step_append_lies _ rfl (.tmp 35) (.tmp 40) 60 rfl 0 72 j0 (.agg #[.int .i64 0, .string ⟨#[]⟩]) 2 24 Try.underlying60 ji jz0 jz1 jz2 rfl (by decide) _ N (looseV d.loose) rfl (m15'.i.l' HN.out) _ 1 1 [.int .i64 (n : Int), .string s] rfl rfl (World.news_of_block m15'.x) H1.out (by decide) (by unfold maxLen; omega) (by omega) (Nat.zero_le _) _ rfl ?_
          intro g cap w16 hown16 hgrow16 hat16 hgl16
          rw [looseV_snoc] at hown16
          have m16' := m15'.more HN.out hown16 hgrow16 hat16
          clear hown16 hgrow16 hat16 hgl16
          refine hK.out _ _ (SO _ (m16'.q0)) (fun hHeld => ?_)
          clear hK K
          try simp only [Act.put, List.setIfInBounds_toArray, List.set_cons_zero, List.set_cons_succ]
          refine wpAnyH_take (i := 17) (oi := { dst := some 42, op := Op.nilCheck (Operand.tmp 28), type := 0, pos := "sectors.go:77", after := #[{ on := 3, ground := Ground.data }, { on := 0, ground := Ground.phase }, { on := 1, ground := Ground.phase }, { on := 2, ground := Ground.phase }, { on := 3, ground := Ground.phase }, { on := 4, ground := Ground.phase }, { on := 5, ground := Ground.phase }, { on := 6, ground := Ground.phase }, { on := 7, ground := Ground.phase }, { on := 8, ground := Ground.phase }, { on := 9, ground := Ground.phase }, { on := 10, ground := Ground.phase }, { on := 11, ground := Ground.phase }, { on := 12, ground := Ground.phase }, { on := 13, ground := Ground.phase }, { on := 14, ground := Ground.phase }, { on := 15, ground := Ground.phase }, { on := 16, ground := Ground.phase }], guard := none }) (v := ?_) rfl (by kernel_rfl) (by kernel_rfl) (by kernel_rfl) (fun _ _ _ h => h) (Or.inl ⟨by rfl, ?_⟩) (by assumption) ?_
          rotate_left
          · intro w hSw
            skip
            clear hSw
            go_simp
            try with_reducible rfl
          try simp only [Act.put, List.setIfInBounds_toArray, List.set_cons_zero, List.set_cons_succ]
          refine wpAnyH_take (i := 18) (oi := { dst := some 43, op := Op.fieldAddr 64 (Operand.tmp 42) 1, type := 0, pos := "sectors.go:77", after := #[{ on := 17, ground := Ground.data }, { on := 0, ground := Ground.phase }, { on := 1, ground := Ground.phase }, { on := 2, ground := Ground.phase }, { on := 3, ground := Ground.phase }, { on := 4, ground := Ground.phase }, { on := 5, ground := Ground.phase }, { on := 6, ground := Ground.phase }, { on := 7, ground := Ground.phase }, { on := 8, ground := Ground.phase }, { on := 9, ground := Ground.phase }, { on := 10, ground := Ground.phase }, { on := 11, ground := Ground.phase }, { on := 12, ground := Ground.phase }, { on := 13, ground := Ground.phase }, { on := 14, ground := Ground.phase }, { on := 15, ground := Ground.phase }, { on := 16, ground := Ground.phase }], guard := none }) (v := ?_) rfl (by kernel_rfl) (by kernel_rfl) (by kernel_rfl) (fun _ _ _ h => h) (Or.inl ⟨by rfl, ?_⟩) (by assumption) ?_
          rotate_left
          · intro w hSw
            skip
            clear hSw
            go_simp
            try with_reducible rfl
          try simp only [Act.put, List.setIfInBounds_toArray, List.set_cons_zero, List.set_cons_succ]
          refine wpAnyH_ready (rs := [19]) (by kernel_rfl) (by simp) ?_
          refine (AllReadyH.cons (o := { dst := none, op := Op.store 60 (Operand.tmp 43) (Operand.tmp 41), type := 0, pos := "sectors.go:77", after := #[{ on := 18, ground := Ground.data }, { on := 16, ground := Ground.data }, { on := 16, ground := Ground.chain }, { on := 0, ground := Ground.phase }, { on := 1, ground := Ground.phase }, { on := 2, ground := Ground.phase }, { on := 3, ground := Ground.phase }, { on := 4, ground := Ground.phase }, { on := 5, ground := Ground.phase }, { on := 6, ground := Ground.phase }, { on := 7, ground := Ground.phase }, { on := 8, ground := Ground.phase }, { on := 9, ground := Ground.phase }, { on := 10, ground := Ground.phase }, { on := 11, ground := Ground.phase }, { on := 12, ground := Ground.phase }, { on := 13, ground := Ground.phase }, { on := 14, ground := Ground.phase }, { on := 15, ground := Ground.phase }, { on := 16, ground := Ground.phase }], guard := none }) rfl (fun K hK => ?_) AllReadyH.nil)
          obtain ⟨e1, f1⟩ := m16'.cells
          have m19' := m16'.done HN.out
          go_simp
          refine hK.out _ _ (SO _ (m19'.i.cell.1)) (fun hHeld => ?_)
          clear hK K
          try simp only [Act.put, List.setIfInBounds_toArray, List.set_cons_zero, List.set_cons_succ]
          refine wpAnyH_done (by kernel_rfl) ?_ _
          refine NoPanic.normal ?_
          have HQ := Lib.hid m19'
          clear m15' m16' m13'
          have c0' := m19'.i.cell.1
          have CC' := CC.out _ _ m19'
          clear m19'
          go_wp2_with (go_at_call 36; ((with_reducible refine (CC').mono ?_); rintro e w20 ⟨rfl, V20⟩); have HV := Lib.hid V20; clear V20)
          go_ret
          exact ⟨retInt (by rw [HR.out]), by rw [HR.out]; exact HV.out⟩
        · go_simp
          refine (CL.out _ (by assumption)).mono ?_
          rintro e w13' ⟨rfl, m13'⟩
          have m15' := m13'.lay n s
          refine hK.out _ _ (SO _ m13'.i.cell.1) (fun hHeld => ?_)
          clear hK K
          try simp only [Act.put, List.setIfInBounds_toArray, List.set_cons_zero, List.set_cons_succ]
          refine wpAnyH_take (i := 14) (oi := { dst := some 39, op := Op.build 72 #[(0, Operand.tmp 36), (1, Operand.tmp 38)], type := 72, pos := "sectors.go:77", after := #[{ on := 11, ground := Ground.data }, { on := 13, ground := Ground.data }], guard := none }) (v := ?_) rfl (by kernel_rfl) (by kernel_rfl) (by kernel_rfl) (fun _ _ _ h => h) (Or.inl ⟨by rfl, ?_⟩) (by assumption) ?_
          rotate_left
          · intro w hSw
            skip
            clear hSw
            go_simp
            try with_reducible rfl
          try simp only [Act.put, List.setIfInBounds_toArray, List.set_cons_zero, List.set_cons_succ]
          refine wpAnyH_ready (rs := [10, 15]) (by kernel_rfl) (by simp) ?_
          refine (AllReadyH.cons (o := { dst := some 35, op := Op.load 60 (Operand.tmp 34), type := 60, pos := "sectors.go:77", after := #[{ on := 9, ground := Ground.data }], guard := none }) rfl (fun K hK => ?_) (AllReadyH.cons (o := { dst := some 40, op := Op.buildSlice 60 1 #[(0, Operand.tmp 39)], type := 60, pos := "sectors.go:77", after := #[{ on := 14, ground := Ground.data }], guard := none }) rfl (fun K hK => ?_) AllReadyH.nil))
          · have c10 := m13'.i.cell.2.2.1
            go_simp
            refine hK.out _ _ (SO _ (m13'.i.cell.1)) (fun hHeld => ?_)
            clear hK K
            try simp only [Act.put, List.setIfInBounds_toArray, List.set_cons_zero, List.set_cons_succ]
            refine wpAnyH_ready (rs := [15]) (by kernel_rfl) (by simp) ?_
            refine (AllReadyH.cons (o := { dst := some 40, op := Op.buildSlice 60 1 #[(0, Operand.tmp 39)], type := 60, pos := "sectors.go:77", after := #[{ on := 14, ground := Ground.data }], guard := none }) rfl (fun K hK => ?_) AllReadyH.nil)
            skip
            go_simp
            refine hK.out _ _ (SO _ (m15'.i.cell.1)) (fun hHeld => ?_)
            clear hK K
            try simp only [Act.put, List.setIfInBounds_toArray, List.set_cons_zero, List.set_cons_succ]
            refine wpAnyH_ready (rs := [16]) (by kernel_rfl) (by simp) ?_
            refine (AllReadyH.cons (o := { dst := some 41, op := Op.call { callee := Callee.builtin Builtin.append, args := #[Operand.tmp 35, Operand.tmp 40], argTypes := #[60, 60] }, type := 60, pos := "sectors.go:77", after := #[{ on := 10, ground := Ground.data }, { on := 15, ground := Ground.data }, { on := 13, ground := Ground.chain }], guard := none }) rfl (fun K hK => ?_) AllReadyH.nil)
            refine step_append_lies _ rfl (.tmp 35) (.tmp 40) 60 rfl 0 72 j0 (.agg #[.int .i64 0, .string ⟨#[]⟩]) 2 24 Try.underlying60 ji jz0 jz1 jz2 rfl (by decide) _ N (looseV d.loose) rfl (m15'.i.l' HN.out) _ 1 1 [.int .i64 (n : Int), .string s] rfl rfl (World.news_of_block m15'.x) H1.out (by decide) (by unfold maxLen; omega) (by omega) (Nat.zero_le _) _ rfl ?_
            intro g cap w16 hown16 hgrow16 hat16 hgl16
            rw [looseV_snoc] at hown16
            have m16' := m15'.more HN.out hown16 hgrow16 hat16
            clear hown16 hgrow16 hat16 hgl16
            refine hK.out _ _ (SO _ (m16'.q0)) (fun hHeld => ?_)
            clear hK K
            try simp only [Act.put, List.setIfInBounds_toArray, List.set_cons_zero, List.set_cons_succ]
            refine wpAnyH_take (i := 17) (oi := { dst := some 42, op := Op.nilCheck (Operand.tmp 28), type := 0, pos := "sectors.go:77", after := #[{ on := 3, ground := Ground.data }, { on := 0, ground := Ground.phase }, { on := 1, ground := Ground.phase }, { on := 2, ground := Ground.phase }, { on := 3, ground := Ground.phase }, { on := 4, ground := Ground.phase }, { on := 5, ground := Ground.phase }, { on := 6, ground := Ground.phase }, { on := 7, ground := Ground.phase }, { on := 8, ground := Ground.phase }, { on := 9, ground := Ground.phase }, { on := 10, ground := Ground.phase }, { on := 11, ground := Ground.phase }, { on := 12, ground := Ground.phase }, { on := 13, ground := Ground.phase }, { on := 14, ground := Ground.phase }, { on := 15, ground := Ground.phase }, { on := 16, ground := Ground.phase }], guard := none }) (v := ?_) rfl (by kernel_rfl) (by kernel_rfl) (by kernel_rfl) (fun _ _ _ h => h) (Or.inl ⟨by rfl, ?_⟩) (by assumption) ?_
            rotate_left
            · intro w hSw
              skip
              clear hSw
              go_simp
              try with_reducible rfl
            try simp only [Act.put, List.setIfInBounds_toArray, List.set_cons_zero, List.set_cons_succ]
            refine wpAnyH_take (i := 18) (oi := { dst := some 43, op := Op.fieldAddr 64 (Operand.tmp 42) 1, type := 0, pos := "sectors.go:77", after := #[{ on := 17, ground := Ground.data }, { on := 0, ground := Ground.phase }, { on := 1, ground := Ground.phase }, { on := 2, ground := Ground.phase }, { on := 3, ground := Ground.phase }, { on := 4, ground := Ground.phase }, { on := 5, ground := Ground.phase }, { on := 6, ground := Ground.phase }, { on := 7, ground := Ground.phase }, { on := 8, ground := Ground.phase }, { on := 9, ground := Ground.phase }, { on := 10, ground := Ground.phase }, { on := 11, ground := Ground.phase }, { on := 12, ground := Ground.phase }, { on := 13, ground := Ground.phase }, { on := 14, ground := Ground.phase }, { on := 15, ground := Ground.phase }, { on := 16, ground := Ground.phase }], guard := none }) (v := ?_) rfl (by kernel_rfl) (by kernel_rfl) (by kernel_rfl) (fun _ _ _ h => h) (Or.inl ⟨by rfl, ?_⟩) (by assumption) ?_
            rotate_left
            · intro w hSw
              skip
              clear hSw
              go_simp
              try with_reducible rfl
            try simp only [Act.put, List.setIfInBounds_toArray, List.set_cons_zero, List.set_cons_succ]
            refine wpAnyH_ready (rs := [19]) (by kernel_rfl) (by simp) ?_
            refine (AllReadyH.cons (o := { dst := none, op := Op.store 60 (Operand.tmp 43) (Operand.tmp 41), type := 0, pos := "sectors.go:77", after := #[{ on := 18, ground := Ground.data }, { on := 16, ground := Ground.data }, { on := 16, ground := Ground.chain }, { on := 0, ground := Ground.phase }, { on := 1, ground := Ground.phase }, { on := 2, ground := Ground.phase }, { on := 3, ground := Ground.phase }, { on := 4, ground := Ground.phase }, { on := 5, ground := Ground.phase }, { on := 6, ground := Ground.phase }, { on := 7, ground := Ground.phase }, { on := 8, ground := Ground.phase }, { on := 9, ground := Ground.phase }, { on := 10, ground := Ground.phase }, { on := 11, ground := Ground.phase }, { on := 12, ground := Ground.phase }, { on := 13, ground := Ground.phase }, { on := 14, ground := Ground.phase }, { on := 15, ground := Ground.phase }, { on := 16, ground := Ground.phase }], guard := none }) rfl (fun K hK => ?_) AllReadyH.nil)
            obtain ⟨e1, f1⟩ := m16'.cells
            have m19' := m16'.done HN.out
            go_simp
            refine hK.out _ _ (SO _ (m19'.i.cell.1)) (fun hHeld => ?_)
            clear hK K
            try simp only [Act.put, List.setIfInBounds_toArray, List.set_cons_zero, List.set_cons_succ]
            refine wpAnyH_done (by kernel_rfl) ?_ _
            refine NoPanic.normal ?_
            have HQ := Lib.hid m19'
            clear m15' m16' m13'
            have c0' := m19'.i.cell.1
            have CC' := CC.out _ _ m19'
            clear m19'
            go_wp2_with (go_at_call 36; ((with_reducible refine (CC').mono ?_); rintro e w20 ⟨rfl, V20⟩); have HV := Lib.hid V20; clear V20)
            go_ret
            exact ⟨retInt (by rw [HR.out]), by rw [HR.out]; exact HV.out⟩
          · skip
            go_simp
            refine hK.out _ _ (SO _ (m15'.i.cell.1)) (fun hHeld => ?_)
            clear hK K
            try simp only [Act.put, List.setIfInBounds_toArray, List.set_cons_zero, List.set_cons_succ]
            refine wpAnyH_ready (rs := [10]) (by kernel_rfl) (by simp) ?_
            refine (AllReadyH.cons (o := { dst := some 35, op := Op.load 60 (Operand.tmp 34), type := 60, pos := "sectors.go:77", after := #[{ on := 9, ground := Ground.data }], guard := none }) rfl (fun K hK => ?_) AllReadyH.nil)
            have c10 := m15'.i.cell.2.2.1
            go_simp
            refine hK.out _ _ (SO _ (m15'.i.cell.1)) (fun hHeld => ?_)
            clear hK K
            try simp only [Act.put, List.setIfInBounds_toArray, List.set_cons_zero, List.set_cons_succ]
            refine wpAnyH_ready (rs := [16]) (by kernel_rfl) (by simp) ?_
            refine (AllReadyH.cons (o := { dst := some 41, op := Op.call { callee := Callee.builtin Builtin.append, args := #[Operand.tmp 35, Operand.tmp 40], argTypes := #[60, 60] }, type := 60, pos := "sectors.go:77", after := #[{ on := 10, ground := Ground.data }, { on := 15, ground := Ground.data }, { on := 13, ground := Ground.chain }], guard := none }) rfl (fun K hK => ?_) AllReadyH.nil)
            refine step_append_lies _ rfl (.tmp 35) (.tmp 40) 60 rfl 0 72 j0 (.agg #[.int .i64 0, .string ⟨#[]⟩]) 2 24 Try.underlying60 ji jz0 jz1 jz2 rfl (by decide) _ N (looseV d.loose) rfl (m15'.i.l' HN.out) _ 1 1 [.int .i64 (n : Int), .string s] rfl rfl (World.news_of_block m15'.x) H1.out (by decide) (by unfold maxLen; omega) (by omega) (Nat.zero_le _) _ rfl ?_
            intro g cap w16 hown16 hgrow16 hat16 hgl16
            rw [looseV_snoc] at hown16
            have m16' := m15'.more HN.out hown16 hgrow16 hat16
            clear hown16 hgrow16 hat16 hgl16
            refine hK.out _ _ (SO _ (m16'.q0)) (fun hHeld => ?_)
            clear hK K
            try simp only [Act.put, List.setIfInBounds_toArray, List.set_cons_zero, List.set_cons_succ]
            refine wpAnyH_take (i := 17) (oi := { dst := some 42, op := Op.nilCheck (Operand.tmp 28), type := 0, pos := "sectors.go:77", after := #[{ on := 3, ground := Ground.data }, { on := 0, ground := Ground.phase }, { on := 1, ground := Ground.phase }, { on := 2, ground := Ground.phase }, { on := 3, ground := Ground.phase }, { on := 4, ground := Ground.phase }, { on := 5, ground := Ground.phase }, { on := 6, ground := Ground.phase }, { on := 7, ground := Ground.phase }, { on := 8, ground := Ground.phase }, { on := 9, ground := Ground.phase }, { on := 10, ground := Ground.phase }, { on := 11, ground := Ground.phase }, { on := 12, ground := Ground.phase }, { on := 13, ground := Ground.phase }, { on := 14, ground := Ground.phase }, { on := 15, ground := Ground.phase }, { on := 16, ground := Ground.phase }], guard := none }) (v := ?_) rfl (by kernel_rfl) (by kernel_rfl) (by kernel_rfl) (fun _ _ _ h => h) (Or.inl ⟨by rfl, ?_⟩) (by assumption) ?_
            rotate_left
            · intro w hSw
              skip
              clear hSw
              go_simp
              try with_reducible rfl
            try simp only [Act.put, List.setIfInBounds_toArray, List.set_cons_zero, List.set_cons_succ]
            refine wpAnyH_take (i := 18) (oi := { dst := some 43, op := Op.fieldAddr 64 (Operand.tmp 42) 1, type := 0, pos := "sectors.go:77", after := #[{ on := 17, ground := Ground.data }, { on := 0, ground := Ground.phase }, { on := 1, ground := Ground.phase }, { on := 2, ground := Ground.phase }, { on := 3, ground := Ground.phase }, { on := 4, ground := Ground.phase }, { on := 5, ground := Ground.phase }, { on := 6, ground := Ground.phase }, { on := 7, ground := Ground.phase }, { on := 8, ground := Ground.phase }, { on := 9, ground := Ground.phase }, { on := 10, ground := Ground.phase }, { on := 11, ground := Ground.phase }, { on := 12, ground := Ground.phase }, { on := 13, ground := Ground.phase }, { on := 14, ground := Ground.phase }, { on := 15, ground := Ground.phase }, { on := 16, ground := Ground.phase }], guard := none }) (v := ?_) rfl (by kernel_rfl) (by kernel_rfl) (by kernel_rfl) (fun _ _ _ h => h) (Or.inl ⟨by rfl, ?_⟩) (by assumption) ?_
            rotate_left
            · intro w hSw
              skip
              clear hSw
              go_simp
              try with_reducible rfl
            try simp only [Act.put, List.setIfInBounds_toArray, List.set_cons_zero, List.set_cons_succ]
            refine wpAnyH_ready (rs := [19]) (by kernel_rfl) (by simp) ?_
            refine (AllReadyH.cons (o := { dst := none, op := Op.store 60 (Operand.tmp 43) (Operand.tmp 41), type := 0, pos := "sectors.go:77", after := #[{ on := 18, ground := Ground.data }, { on := 16, ground := Ground.data }, { on := 16, ground := Ground.chain }, { on := 0, ground := Ground.phase }, { on := 1, ground := Ground.phase }, { on := 2, ground := Ground.phase }, { on := 3, ground := Ground.phase }, { on := 4, ground := Ground.phase }, { on := 5, ground := Ground.phase }, { on := 6, ground := Ground.phase }, { on := 7, ground := Ground.phase }, { on := 8, ground := Ground.phase }, { on := 9, ground := Ground.phase }, { on := 10, ground := Ground.phase }, { on := 11, ground := Ground.phase }, { on := 12, ground := Ground.phase }, { on := 13, ground := Ground.phase }, { on := 14, ground := Ground.phase }, { on := 15, ground := Ground.phase }, { on := 16, ground := Ground.phase }], guard := none }) rfl (fun K hK => ?_) AllReadyH.nil)
            obtain ⟨e1, f1⟩ := m16'.cells
            have m19' := m16'.done HN.out
            go_simp
            refine hK.out _ _ (SO _ (m19'.i.cell.1)) (fun hHeld => ?_)
            clear hK K
            try simp only [Act.put, List.setIfInBounds_toArray, List.set_cons_zero, List.set_cons_succ]
            refine wpAnyH_done (by kernel_rfl) ?_ _
            refine NoPanic.normal ?_
            have HQ := Lib.hid m19'
            clear m15' m16' m13'
            have c0' := m19'.i.cell.1
            have CC' := CC.out _ _ m19'
            clear m19'
            go_wp2_with (go_at_call 36; ((with_reducible refine (CC').mono ?_); rintro e w20 ⟨rfl, V20⟩); have HV := Lib.hid V20; clear V20)
            go_ret
            exact ⟨retInt (by rw [HR.out]), by rw [HR.out]; exact HV.out⟩

      · have HR := Lib.hid (show d.write i s = (d, 2) by unfold RD.write; rw [hd, if_neg (by decide), if_pos (.inr (.inr h5))])
        have h52 : ((s.size : Int) == 512) = false := by rw [beq_eq_false_iff_ne]; omega
        have h53 : ((s.size : Int) != 512) = true := by rw [bne, h52]; rfl
        clear h hok hf hd hin h5
        go_enter Try.func14, Try.ntmps14
        go_wp2_with (first
          | (go_at_call 32; ((with_reducible refine (CR).mono ?_); rintro e w0 ⟨rfl, rfl⟩))
          | (go_at_call 33; ((with_reducible refine (CH).mono ?_); rintro e w0 ⟨rfl, rfl⟩)))
        go_ret
        exact ⟨retInt (by rw [HR.out]), by rw [HR.out]; exact imp_same H.out (Chg.refl _ _)⟩
    · have CH := has_no c0 hin
      have HR := Lib.hid (show d.write i s = (d, 2) by unfold RD.write; rw [hd, if_neg (by decide), if_pos (by omega)])
      clear h hok hf hd hin
      go_enter Try.func14, Try.ntmps14
      go_wp2_with (first
        | (go_at_call 32; ((with_reducible refine (CR).mono ?_); rintro e w0 ⟨rfl, rfl⟩))
        | (go_at_call 33; ((with_reducible refine (CH).mono ?_); rintro e w0 ⟨rfl, rfl⟩)))
      go_ret
      exact ⟨retInt (by rw [HR.out]), by rw [HR.out]; exact imp_same H.out (Chg.refl _ _)⟩
  · have HR := Lib.hid (show d.write i s = (d, 61) by unfold RD.write; rw [hd]; rfl)
    rw [hd, if_pos rfl] at CR
    clear hd h hok hf
    go_enter Try.func14, Try.ntmps14
    go_wp2_with (go_at_call 32; ((with_reducible refine (CR).mono ?_); rintro e w0 ⟨rfl, rfl⟩))
    go_ret
    exact ⟨retInt (by rw [HR.out]), by rw [HR.out]; exact imp_same H.out (Chg.refl _ _)⟩
end Go.Proofs.Ytikeobmcnpncjaa
