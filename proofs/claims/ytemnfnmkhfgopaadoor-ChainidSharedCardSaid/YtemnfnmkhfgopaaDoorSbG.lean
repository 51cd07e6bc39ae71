/- Layer 4: what a block makes of eight numbers, as the program does it. -/
import Derived.Test.YtemnfnmkhfgopaaDoorSbF
import Derived.StillTailTactics
namespace Go.Proofs.YtemnfnmkhfgopaaDoor
open Go.RowKit

/-- The two tables of the package stand as they were laid. -/
structure Laid (w : World) : Prop where
  h : ∀ i, i < 8 → w.cell? ⟨0, i, none⟩ = some (.int .u32 (initN.list.getD i 0 : Nat))
  k : ∀ i, i < 64 → w.cell? ⟨1, i, none⟩ = some (.int .u32 (kN i : Nat))
  lt : 2 ≤ w.heap.size
theorem Laid.below {w w' : World} (h : Laid w) {B : Nat} (hb : Below B w w') (hB : 2 ≤ B) : Laid w' :=
  ⟨fun i hi => (hb.cell (p := ⟨0, i, none⟩) (by show 0 < B; omega)).trans (h.h i hi), fun i hi => (hb.cell (p := ⟨1, i, none⟩) (by show 1 < B; omega)).trans (h.k i hi), Nat.le_trans h.lt hb.size⟩

/-- The memory of behind: the eight numbers, the block, the answer to be; and the sixteen numbers that are gone around. -/
structure BhM (W w : World) (G : Nat) (v : List Nat) (b : List UInt8) (z x : List Nat) : Prop where
  r0 : rowC w W.heap.size (cells32 v) 41
  r1 : rowC w (W.heap.size + 1) (cells8 b) 42
  r2 : rowC w (W.heap.size + 1 + 1) (cells32 z) 41
  rG : rowC w G (cells32 x) 53
  gt : W.heap.size + 3 ≤ G
  nx : Below W.heap.size W w
theorem BhM.drewN {W w : World} {G : Nat} {v : List Nat} {b : List UInt8} {z x : List Nat} (h : BhM W w G v b z x) (n : Nat) : BhM W (w.drewN n) G v b z x := ⟨h.r0, h.r1, h.r2, h.rG, h.gt, below_drewN h.nx n⟩
theorem BhM.drew {W w : World} {G : Nat} {v : List Nat} {b : List UInt8} {z x : List Nat} (h : BhM W w G v b z x) : BhM W w.drew G v b z x := ⟨h.r0, h.r1, h.r2, h.rG, h.gt, h.nx.drew⟩
theorem BhM.setG {W w : World} {G : Nat} {v : List Nat} {b : List UInt8} {z x : List Nat} (h : BhM W w G v b z x) (i n : Nat) : BhM W (w.setCell ⟨G, i, none⟩ (.int .u32 (n : Int))) G v b z (x.set i n) := by
  have gt := h.gt
  refine ⟨rowC_other h.r0 _ _ (by simp; omega), rowC_other h.r1 _ _ (by simp; omega), rowC_other h.r2 _ _ (by simp; omega), ?_, gt, h.nx.setCell (p := ⟨G, i, none⟩) (by simp; omega) _⟩
  rw [← cells32_set]
  exact rowC_set h.rG i _
theorem cell32 {w : World} {b : Nat} {l : List Nat} {t : TypeId} (h : rowC w b (cells32 l) t) {i n : Nat} (hl : l.length = n) (hi : i < n) : w.cell? ⟨b, i, none⟩ = some (.int .u32 (l.getD i 0 : Nat)) := by
  rw [rowC_cell h, cells32_get _ _ (by rw [hl]; exact hi)]; rfl
theorem wrapN {n : Nat} (h : n < 64) : IntKind.i64.wrap (n : Int) = (n : Int) := IntWalk.i64_in _ (by omega)
theorem tmod16 {n m : Nat} (h : m = n % 16) : (n : Int).tmod 16 = (m : Int) := by
  rw [h, Int.tmod_eq_emod_of_nonneg (by omega)]; omega
theorem Laid.set {w : World} (h : Laid w) {a : Addr} (ha : 2 ≤ a.block) (u : Value) : Laid (w.setCell a u) :=
  h.below ((Below.refl 2 w).setCell ha u) (Nat.le_refl _)
theorem sha_sumW (a l b h : Nat) : ((a : Int) + (((l : Int) + (b : Int)) % 4294967296 + (h : Int)) % 4294967296) % 4294967296 = ((a + l + b + h) % 4294967296 : Nat) := by omega
theorem chI2 {e f g : Nat} (he : e < 4294967296) (hf : f < 4294967296) (hg : g < 4294967296) :
    bits .xor .u32 (bits .and .u32 (e : Int) (f : Int)) (bits .and .u32 (bits .xor .u32 (if IntKind.u32.signed = true then -1 else IntKind.u32.max) (e : Int)) (g : Int)) = (chN e f g : Nat) := by
  rw [if_neg (by decide)]
  exact chI he hf hg
theorem sumA (a b c d e f g : Nat) : (((a : Int) + (b : Int) + (c : Int) + (d : Int) + (e : Int)) % 4294967296 + ((f : Int) + (g : Int)) % 4294967296) % 4294967296 = (((a + b + c + d + e) % 4294967296 + (f + g) % 4294967296) % 4294967296 : Nat) := by omega
theorem sumE (a b c d e f : Nat) : ((f : Int) + ((a : Int) + (b : Int) + (c : Int) + (d : Int) + (e : Int)) % 4294967296) % 4294967296 = ((f + (a + b + c + d + e) % 4294967296) % 4294967296 : Nat) := by omega
theorem cells_add (v D : St) : #[Value.int IntKind.u32 (((v.a : Int) + (D.a : Int)) % 4294967296), Value.int IntKind.u32 (((v.b : Int) + (D.b : Int)) % 4294967296), Value.int IntKind.u32 (((v.c : Int) + (D.c : Int)) % 4294967296), Value.int IntKind.u32 (((v.d : Int) + (D.d : Int)) % 4294967296), Value.int IntKind.u32 (((v.e : Int) + (D.e : Int)) % 4294967296), Value.int IntKind.u32 (((v.f : Int) + (D.f : Int)) % 4294967296), Value.int IntKind.u32 (((v.g : Int) + (D.g : Int)) % 4294967296), Value.int IntKind.u32 (((v.h : Int) + (D.h : Int)) % 4294967296)] = cells32 (addN v D).list := by
  simp [cells32, St.list, addN, u32V]
theorem built8 (z0 z1 z2 z3 z4 z5 z6 z7 : Int) : Tryd.prog.built 41 [(0, .int .u32 z0), (1, .int .u32 z1), (2, .int .u32 z2), (3, .int .u32 z3), (4, .int .u32 z4), (5, .int .u32 z5), (6, .int .u32 z6), (7, .int .u32 z7)] = some #[.int .u32 z0, .int .u32 z1, .int .u32 z2, .int .u32 z3, .int .u32 z4, .int .u32 z5, .int .u32 z6, .int .u32 z7] := by kernel_rfl
theorem wpList_build_list {P : Program} {w : World} {ops : Array Oper} {rest : List Oper} {o : Oper} {a : Act} {Q : Exit → Act → World → Prop} (hg : o.guard = none) (t : TypeId) (parts : List (Nat × Operand)) (ho : o.op = .build t parts.toArray) (cells : Array Value)
    (hc : P.built t (parts.map fun (i, x) => (i, a.eval x)) = some cells) (h : wpList P ops Q rest (a.put o.dst (.agg cells)) w) : wpList P ops Q (o :: rest) a w :=
  wpList_build_as hg t parts.toArray ho cells (by rw [← hc]; simp) h
theorem u32_eq {a b : Int} (h : a = b) : Value.int .u32 a = Value.int .u32 b := by rw [h]
/-- The three blocks at the start. -/
theorem three_rows (w : World) (A B C : Array Value) (t u v : TypeId) : rowC (((w.alloc (.cells A t)).alloc (.cells B u)).alloc (.cells C v)) w.heap.size A t ∧ rowC (((w.alloc (.cells A t)).alloc (.cells B u)).alloc (.cells C v)) (w.heap.size + 1) B u ∧ rowC (((w.alloc (.cells A t)).alloc (.cells B u)).alloc (.cells C v)) (w.heap.size + 1 + 1) C v ∧ Below w.heap.size w (((w.alloc (.cells A t)).alloc (.cells B u)).alloc (.cells C v)) := by
  have h2 := rowC_new (w.alloc (.cells A t)) B u
  have h3 := rowC_new ((w.alloc (.cells A t)).alloc (.cells B u)) C v
  simp only [size_alloc] at h2 h3
  exact ⟨rowC_alloc (rowC_alloc (rowC_new w _ _) _) _, rowC_alloc h2 _, h3, (((Below.refl _ _).alloc (Nat.le_refl _) _).alloc (by simp) _).alloc (by simp; omega) _⟩

set_option maxRecDepth 100000 in
set_option maxHeartbeats 1000000 in
theorem sha_behind_any (v : St) (b : List UInt8) (w : World) (L : Laid w) (hv : v.ok) (hb : b.length = 64) :
    Calls Tryd.prog 22 #[.agg (cells32 v.list), .agg (cells8 b)] w fun e w' => e = .returned (.agg (cells32 (compN v b).list)) ∧ Below w.heap.size w w' := by
  obtain ⟨R, hR⟩ : ∃ R, R = compN v b := ⟨_, rfl⟩
  rw [← hR]
  have HR := Lib.hid (hR.trans (compN_def v b))
  clear hR
  have h64 : (Tryd.prog.info? 42).map (·.size) = some (cells8 b).size := by rw [cells8_size, hb]; kernel_rfl
  have H64 := Lib.hid h64
  have CW := fun w => sha_words_any b w hb
  obtain ⟨X, hX⟩ : ∃ X, X = (List.range 16).map (wN b) := ⟨_, rfl⟩
  rw [← hX] at CW
  have hring : Ring b 16 X := by rw [hX]; exact Ring.start b
  have hl : X.length = 16 := hring.1
  have h16 : (Tryd.prog.info? 53).map (·.size) = some (cells32 X).size := by rw [cells32_size, hl]; kernel_rfl
  have H16 := Lib.hid h16
  have HL := Lib.hid (show 16 = (cells32 X).size by rw [cells32_size, hl])
  have Hring := Lib.hid hring
  have LH := Lib.hid L
  clear hb h64 h16 hl hring hX L
  have T3 := three_rows w (cells32 v.list) (cells8 b) (cells32 (List.replicate 8 0)) 41 42 41
  have TH := Lib.hid T3
  clear T3
  go_enter Tryd.func22, Tryd.ntmps22
  go_wp2_with (first
    | (refine wpList_load_row rfl 42 _ rfl (w.heap.size + 1) rfl 42 _ (0, 0) _ TH.out.2.1 Tryd.underlying42 rfl H64.out ?_)
    | (go_at_call 27; ((with_reducible refine (CW _).mono ?_); rintro e w1 ⟨rfl, hb1⟩))
    | (refine wpList_store_last rfl 53 _ _ rfl w1.heap.size (cells32 X) rfl rfl 53 _ rfl H16.out HL.out (cells32_one _) ?_))
  have N : BhM w (w1.alloc (.cells (cells32 X) 53)) w1.heap.size v.list b (List.replicate 8 0) X := by
    have hz : w.heap.size + 1 + 1 + 1 ≤ w1.heap.size := by
      have := hb1.size
      simp only [size_alloc] at this
      exact this
    have hlt : ∀ k, k < w.heap.size + 3 → k < (((w.alloc (.cells (cells32 v.list) 41)).alloc (.cells (cells8 b) 42)).alloc (.cells (cells32 (List.replicate 8 0)) 41)).heap.size := fun k hk => by
      simp only [size_alloc]; omega
    exact ⟨rowC_alloc (rowC_below TH.out.1 hb1 (hlt _ (by omega))) _, rowC_alloc (rowC_below TH.out.2.1 hb1 (hlt _ (by omega))) _, rowC_alloc (rowC_below TH.out.2.2.1 hb1 (hlt _ (by omega))) _, rowC_new _ _ _, by omega, (TH.out.2.2.2.trans (hb1.mono (Nat.le_of_lt (hlt _ (by omega))))).alloc (by omega) _⟩
  have L2 : Laid (w1.alloc (.cells (cells32 X) 53)) := LH.out.below N.nx LH.out.lt
  have hlt := LH.out.lt
  clear hb1 TH HL LH CW
  generalize w1.alloc _ = w2 at N L2 ⊢
  generalize w1.heap.size = G at N ⊢
  have HV := Lib.hid hv
  have c0 : w2.cell? ⟨w.heap.size, 0, none⟩ = some (.int .u32 (v.a : Nat)) := rowC_cell N.r0 0
  have c1 : w2.cell? ⟨w.heap.size, 1, none⟩ = some (.int .u32 (v.b : Nat)) := rowC_cell N.r0 1
  have c2 : w2.cell? ⟨w.heap.size, 2, none⟩ = some (.int .u32 (v.c : Nat)) := rowC_cell N.r0 2
  have c3 : w2.cell? ⟨w.heap.size, 3, none⟩ = some (.int .u32 (v.d : Nat)) := rowC_cell N.r0 3
  have c4 : w2.cell? ⟨w.heap.size, 4, none⟩ = some (.int .u32 (v.e : Nat)) := rowC_cell N.r0 4
  have c5 : w2.cell? ⟨w.heap.size, 5, none⟩ = some (.int .u32 (v.f : Nat)) := rowC_cell N.r0 5
  have c6 : w2.cell? ⟨w.heap.size, 6, none⟩ = some (.int .u32 (v.g : Nat)) := rowC_cell N.r0 6
  have c7 : w2.cell? ⟨w.heap.size, 7, none⟩ = some (.int .u32 (v.h : Nat)) := rowC_cell N.r0 7
  have N' := Lib.hid N
  have L' := Lib.hid L2
  clear N L2 hv
  simp only [Act.put]
  go_quiet (fail)
  clear c0 c1 c2 c3 c4 c5 c6 c7
  have N := N'.out.drewN nq
  have L2 : Laid (w2.drewN nq) := ⟨L'.out.h, L'.out.k, L'.out.lt⟩
  generalize w2.drewN nq = w3 at N L2 ⊢
  clear N' L'
  have N' := Lib.hid N
  have L' := Lib.hid L2
  clear N L2
  go_wp2
  go_loopw [6, 7, 8, 9, 10, 11, 12, 13, 36] (fun s1 s2 s3 s4 s5 s6 s7 s8 i wr => ∃ (k : Nat) (x : List Nat), k ≤ 64 ∧ i = .int .i64 k ∧ s1 = .int .u32 ((rdsN b v k).a : Nat) ∧ s2 = .int .u32 ((rdsN b v k).b : Nat) ∧ s3 = .int .u32 ((rdsN b v k).c : Nat) ∧ s4 = .int .u32 ((rdsN b v k).d : Nat) ∧ s5 = .int .u32 ((rdsN b v k).e : Nat) ∧ s6 = .int .u32 ((rdsN b v k).f : Nat) ∧ s7 = .int .u32 ((rdsN b v k).g : Nat) ∧ s8 = .int .u32 ((rdsN b v k).h : Nat) ∧ Ring b (max k 16) x ∧ BhM w wr G v.list b (List.replicate 8 0) x ∧ Laid wr) (fun _ _ _ _ _ _ _ _ i _ => 64 - (intOf i).toNat)
  case atStart => exact ⟨0, X, by omega, rfl, rfl, rfl, rfl, rfl, rfl, rfl, rfl, rfl, Hring.out, N'.out, L'.out⟩
  case round =>
    clear N' L' Hring H16
    obtain ⟨k, x, hk, rfl, rfl, rfl, rfl, rfl, rfl, rfl, rfl, rfl, hring, N, L⟩ := hrel
    by_cases hlt : k < 64
    · have hok := rdsN_ok b HV.out k
      have hst : rdsN b v (k + 1) = stepN (kN k) (wN b k) (rdsN b v k) := rfl
      generalize rdsN b v k = st at hok hst ⊢
      obtain ⟨a1, a2, a3, a4, a5, a6, a7, a8⟩ := st
      obtain ⟨o1, o2, o3, o4, o5, o6, o7, o8⟩ := hok
      simp only at o1 o2 o3 o4 o5 o6 o7 o8 ⊢
      have HST := Lib.hid hst
      clear hst
      obtain ⟨m, hm⟩ : ∃ m, m = k % 16 := ⟨_, rfl⟩
      have m16 : m < 16 := by omega
      have em : (k : Int) % 16 = (m : Int) := by omega
      have gm : (m : Int) < 16 := by omega
      have hl := hring.1
      have L' := Lib.hid L
      clear L
      by_cases h16 : k < 16
      case' pos =>
        have hR2 : Ring b (max (k + 1) 16) x := by rw [show max (k + 1) 16 = 16 by omega]; rw [show max k 16 = 16 by omega] at hring; exact hring
        have hq := hR2.2 k (by omega) (by omega)
        rw [← hm] at hq
        have HR2 := Lib.hid hR2
        have N' := Lib.hid N
        have HL := Lib.hid hl
        have HQ := Lib.hid hq
        clear hR2 hring hq N hm hl
        go_wp2
        obtain ⟨wz, hwz⟩ : ∃ wz, wz = wr := ⟨_, rfl⟩
        have N3 := N'.out
        have L3 := L'.out
        rw [← hwz] at N3 L3 ⊢
        have cm := cell32 N3.rG HL.out m16
        rw [HQ.out] at cm
        clear hwz N' L' HL HQ
      case' neg =>
        rw [show max k 16 = k by omega] at hring
        have q0 := hring.2 (k - 16) (by omega) (by omega)
        have q1 := hring.2 (k - 15) (by omega) (by omega)
        have q2 := hring.2 (k - 7) (by omega) (by omega)
        have q3 := hring.2 (k - 2) (by omega) (by omega)
        rw [show (k - 16) % 16 = m by omega] at q0
        obtain ⟨n1, hn1⟩ : ∃ n, n = k - 15 := ⟨_, rfl⟩
        obtain ⟨n2, hn2⟩ : ∃ n, n = k - 7 := ⟨_, rfl⟩
        obtain ⟨n3, hn3⟩ : ∃ n, n = k - 2 := ⟨_, rfl⟩
        have e1 : (k : Int) - 15 = (n1 : Int) := by omega
        have e2 : (k : Int) - 7 = (n2 : Int) := by omega
        have e3 : (k : Int) - 2 = (n3 : Int) := by omega
        have hR2 := hring.next
        have hwn := wN_next b (show 16 ≤ k by omega)
        rw [← hn1, ← hn2, ← hn3] at hwn
        rw [← hn1] at q1
        rw [← hn2] at q2
        rw [← hn3] at q3
        obtain ⟨m1, hm1⟩ : ∃ m, m = n1 % 16 := ⟨_, rfl⟩
        obtain ⟨m2, hm2⟩ : ∃ m, m = n2 % 16 := ⟨_, rfl⟩
        obtain ⟨m3, hm3⟩ : ∃ m, m = n3 % 16 := ⟨_, rfl⟩
        rw [← hm1] at q1
        rw [← hm2] at q2
        rw [← hm3] at q3
        have t1 := tmod16 hm1
        have v1 : m1 < 16 := by omega
        have t2 := tmod16 hm2
        have v2 : m2 < 16 := by omega
        have t3 := tmod16 hm3
        have v3 : m3 < 16 := by omega
        have g1 : (m1 : Int) < 16 := by omega
        have g2 : (m2 : Int) < 16 := by omega
        have g3 : (m3 : Int) < 16 := by omega
        have y1 : n1 < 64 := by omega
        have y2 : n2 < 64 := by omega
        have y3 : n3 < 64 := by omega
        have d0 := cell32 N.rG hl m16
        have d1 := cell32 N.rG hl v1
        have d2 := cell32 N.rG hl v2
        have d3 := cell32 N.rG hl v3
        have f0 := rowC_free N.rG m
        rw [q0] at d0
        rw [q1] at d1
        rw [q2] at d2
        rw [q3] at d3
        have b0 := wN_lt b (k - 16)
        have b1 := wN_lt b n1
        have b2 := wN_lt b n2
        have b3 := wN_lt b n3
        generalize wN b (k - 16) = x0 at d0 hwn b0
        generalize wN b n1 = x1 at d1 hwn b1
        generalize wN b n2 = x2 at d2 hwn b2
        generalize wN b n3 = x3 at d3 hwn b3
        have HW := Lib.hid hwn
        rw [← hm] at hR2
        have HR2 := Lib.hid hR2
        have HM := Lib.hid hm
        have N' := Lib.hid N
        clear hwn q0 q1 q2 q3 hn1 hn2 hn3 hm1 hm2 hm3 hR2 hring hm N hl
        have CL : ∀ w, Calls Tryd.prog 28 #[.int .u32 (x1 : Int)] w fun e w'' => e = .returned (.int .u32 (lowN x1 : Nat)) ∧ w'' = w := fun w => (low_any x1 w b1).mono fun _ _ ⟨h1, h2⟩ => ⟨h1, h2.symm⟩
        have CH : ∀ w, Calls Tryd.prog 29 #[.int .u32 (x3 : Int)] w fun e w'' => e = .returned (.int .u32 (highN x3 : Nat)) ∧ w'' = w := fun w => (high_any x3 w b3).mono fun _ _ ⟨h1, h2⟩ => ⟨h1, h2.symm⟩
        have u1 := wrapN y1
        have u2 := wrapN y2
        have u3 := wrapN y3
        have u4 := wrapN (show m1 < 64 by exact Nat.lt_trans v1 (by decide))
        have u5 := wrapN (show m2 < 64 by exact Nat.lt_trans v2 (by decide))
        have u6 := wrapN (show m3 < 64 by exact Nat.lt_trans v3 (by decide))
        go_wp2
        refine wp_region_still_tail 24 (by kernel_rfl) (by kernel_rfl) ?_
        simp only [List.take_succ_cons, List.take_zero, List.drop_succ_cons, List.drop_zero]
        repeat still_step
        still_call (CL _)
        repeat still_step
        still_call (CH _)
        repeat still_step
        refine wpStill_nil ?_
        change wpList _ _ _ _ _ wr.drew
        have N2 := N'.out.drew
        have L2 : Laid wr.drew := ⟨L'.out.h, L'.out.k, L'.out.lt⟩
        replace d0 : wr.drew.cell? _ = _ := d0
        replace f0 : wr.drew.frozen? _ = _ := f0
        clear N' L' d1 d2 d3 t1 t2 t3 u1 u2 u3 u4 u5 u6 e1 e2 e3 CL CH g1 g2 g3
        generalize wr.drew = wq at N2 L2 d0 f0 ⊢
        have N' := Lib.hid N2
        have L' := Lib.hid L2
        clear N2 L2
        go_wp2
        rw [sha_sumW, ← HW.out]
        have N3 := N'.out.setG m (wN b k)
        have L3 : Laid (wq.setCell ⟨G, m, none⟩ (.int .u32 (wN b k : Nat))) := L'.out.set (by have := N'.out.gt; show 2 ≤ G; omega) _
        generalize World.setCell wq _ _ = wz at N3 L3 ⊢
        rw [show k + 1 = max (k + 1) 16 by omega] at HR2
        have hq := HR2.out.2 k (by omega) (by omega)
        rw [← HM.out] at hq
        have cm := cell32 N3.rG HR2.out.1 m16
        rw [hq] at cm
        clear hq N' L' HW HM d0 f0
      all_goals
        have ck := L3.k k hlt
        have gk : (k : Int) < 64 := by omega
        have bk := kN_lt k
        have bw := wN_lt b k
        have N' := Lib.hid N3
        have L' := Lib.hid L3
        clear N3 L3
        have e1 := s1I a5
        have ec := chI o5 o6 o7
        have ec2 := chI2 o5 o6 o7
        have e0 := s0I a1
        have e2 := majI o1 o2 o3
        generalize wN b k = wk at *
        generalize kN k = kk at *
        go_quiet ((go_at_call 30; exact qs (right_z _ _ _ (by omega) (by omega) (by omega))))
        go_wp2_with (go_at_call 30; ((with_reducible refine (right_z _ _ _ (by omega) (by omega) (by omega)).mono ?_); rintro e w' ⟨rfl, rfl⟩))
        go_roundw
        case rel =>
          refine ⟨k + 1, _, by omega, by go_num, ?_, ?_, ?_, ?_, ?_, ?_, ?_, ?_, HR2.out, N'.out.drewN _, ⟨L'.out.h, L'.out.k, L'.out.lt⟩⟩
          · rw [HST.out]; exact u32_eq (sumA _ _ _ _ _ _ _)
          · rw [HST.out]; rfl
          · rw [HST.out]; rfl
          · rw [HST.out]; rfl
          · rw [HST.out]; exact u32_eq (sumE _ _ _ _ _ _)
          · rw [HST.out]; rfl
          · rw [HST.out]; rfl
          · rw [HST.out]; rfl
        case measure => simp [intOf]; omega
    · obtain rfl : k = 64 := by omega
      have HR0 := HR.out
      generalize rdsN b v 64 = D at HR0 ⊢
      have HR := Lib.hid HR0
      have c0 : wr.cell? ⟨w.heap.size, 0, none⟩ = some (.int .u32 (v.a : Nat)) := rowC_cell N.r0 0
      have c1 : wr.cell? ⟨w.heap.size, 1, none⟩ = some (.int .u32 (v.b : Nat)) := rowC_cell N.r0 1
      have c2 : wr.cell? ⟨w.heap.size, 2, none⟩ = some (.int .u32 (v.c : Nat)) := rowC_cell N.r0 2
      have c3 : wr.cell? ⟨w.heap.size, 3, none⟩ = some (.int .u32 (v.d : Nat)) := rowC_cell N.r0 3
      have c4 : wr.cell? ⟨w.heap.size, 4, none⟩ = some (.int .u32 (v.e : Nat)) := rowC_cell N.r0 4
      have c5 : wr.cell? ⟨w.heap.size, 5, none⟩ = some (.int .u32 (v.f : Nat)) := rowC_cell N.r0 5
      have c6 : wr.cell? ⟨w.heap.size, 6, none⟩ = some (.int .u32 (v.g : Nat)) := rowC_cell N.r0 6
      have c7 : wr.cell? ⟨w.heap.size, 7, none⟩ = some (.int .u32 (v.h : Nat)) := rowC_cell N.r0 7
      have h2 := N.r2
      have nx := N.nx
      clear N L hring HR0
      have hadd := (built8 _ _ _ _ _ _ _ _).trans (congrArg some (cells_add v D))
      rw [← HR.out] at hadd
      have HA := Lib.hid hadd
      clear hadd
      go_wp2_with (first
        | ((with_reducible refine wpList_build_list rfl 41 _ rfl (cells32 R.list) ?_ ?_); exact HA.out)
        | (refine wpList_store_row rfl 41 _ _ rfl (w.heap.size + 1 + 1) (cells32 R.list) rfl rfl 41 _ h2 (by kernel_rfl) rfl (cells32_one _) ?_))
      exact bodyPost_ret (results_cell_row rfl _ _ (w.heap.size + 1 + 1) 41 (cells32 R.list) (0, 0) _ rfl (setRow_heap _ _ _ _ _ _ h2) Tryd.underlying41 rfl (by kernel_rfl)) rfl ⟨rfl, below_setRow nx (by omega) _⟩
end Go.Proofs.YtemnfnmkhfgopaaDoor
