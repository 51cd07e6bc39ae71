/- Layer 8: the walk of AllocPlay. -/
import Derived.Test.YtdngkpdiaeicmaaAlcN
import Derived.Deep.DeepCutAuto
import Derived.Deep.CutBlock
namespace Go.Proofs.Ytdngkpdiaeicmaa
open Go.RowKit

/-- What stands at the head of the loop. -/
def RoundI (I : Impl) (W w : World) (q p m k : Nat) (vt : Value) : Prop := ∃ L tk hs, PlayI I W w q p L L vt tk hs [] ∧ L.length = m ∧ 1 ≤ tk.length ∧ tk.length ≤ k + 1
set_option maxRecDepth 100000 in
set_option maxHeartbeats 8000000 in
theorem play_in (I : Impl) (n : Int) {ad : Option Addr} {cap m : Nat} {l : List Act1} {w : World} (hn : isI n) (h : ActsAt w (.slice ad l.length cap) l) (hg : greatB l 50 = false) (hm : 1 ≤ m) (hm2 : m ≤ 4096) (hnm : (300 < n ∧ n ≤ 4096 ∧ (m : Int) = n % 300) ∨ (n ≤ 300 ∧ (m : Int) = n)) :
    Calls Try.prog 3 #[.int .i64 n, .slice ad l.length cap] w fun e w' => e = .returned (.bool true) ∧ Below w.heap.size w w' := by
  have CG := great_any h 50
  rw [hg] at CG
  replace CG : Calls Try.prog 8 #[.slice ad l.length cap, .int .i64 50] w fun e w' => e = .returned (.bool false) ∧ w = w' := CG
  have CU := Lib.hid (fun w' => took_any I w')
  have CN := Lib.hid (I.new m w hm hm2)
  have CR := Lib.hid (fun w' => rnew_any m w' hm hm2)
  have HGR := Lib.hid (great_data hg)
  have HST := Lib.hid (fun (w1 w2 : World) (q p : Nat) (v : Value) (o : Nat → Prop) (h1 : I.Inv w1 q (List.replicate m false) o) (hb1 : Below w.heap.size w w1) (ho : ∀ k, o k → w.heap.size ≤ k) (h2 : RefM w2 p v (List.replicate m false)) (hb2 : Below w1.heap.size w1 w2) (ho2 : ∀ k, refOwn p v k → w1.heap.size ≤ k) => play_start h1 hb1 ho h2 hb2 ho2 hm hm2)
  have HA := Lib.hid h
  obtain ⟨N, hN⟩ : ∃ N, N = l.length := ⟨_, rfl⟩
  rw [← hN] at CG HA ⊢
  have HN := Lib.hid hN
  clear h hg hN
  have hp : n % 300 = n.tmod 300 ∨ n ≤ 300 := by
    rcases hnm with h | h
    · left; rw [Int.tmod_eq_emod_of_nonneg (by omega)]
    · right; exact h.1
  rcases hnm with ⟨h1, h2, h3⟩ | ⟨h1, h3⟩
  · have e1 : n.tmod 300 = (m : Int) := by rcases hp with h | h <;> omega
    have e2 : n % 300 = (m : Int) := by omega
    clear hp h3
    go_enter Try.func3, Try.ntmps3
    go_wp2_with (first
      | (go_at_call 8; ((with_reducible refine (CG).mono ?_); rintro e w1 ⟨rfl, rfl⟩))
      | (go_at_call 10; ((with_reducible refine (CN.out).mono ?_); rintro e w1 ⟨q, o, rfl, i1, b1, o1⟩); have HI1 := Lib.hid i1; have HB1 := Lib.hid b1; have HO1 := Lib.hid o1; clear i1 b1 o1)
      | (go_at_call 11; ((with_reducible refine (CR.out _).mono ?_); rintro e w2 ⟨p, v, rfl, i2, b2, o2⟩); have HP := Lib.hid (HST.out _ _ _ _ _ _ HI1.out HB1.out HO1.out i2 b2 o2); clear i2 b2 o2))
    clear HI1 HB1 HO1 HST CN CR CG hm hm2 hn
    go_loopw [9, 10] (fun vt i wr => ∃ k : Nat, k ≤ N ∧ i = .int .i64 k ∧ Hid (RoundI I w wr q p m k vt)) (fun _ i _ => N - (intOf i).toNat)
    case atStart => exact ⟨0, Nat.zero_le _, rfl, Lib.hid ⟨_, _, _, HP.out, List.length_replicate, Nat.le_refl _, Nat.le_refl _⟩⟩
    case round =>
      obtain ⟨k, hk, rfl, hM⟩ := hrel
      obtain ⟨L, tk, hs, M, hLm, ht1, ht2⟩ := hM.out
      have HM := Lib.hid M
      have HL := Lib.hid hLm
      clear M hM HP hLm
      have hN50 : N ≤ 50 := by rw [HN.out]; exact HGR.out.1
      by_cases hlt : k < N
      · obtain ⟨adr, a, v, rfl, hak, hat, _⟩ := acts_at (HA.out.keep HM.out.size) (k := k) (by rw [← HN.out]; exact hlt)
        obtain ⟨adr', a', v', hr', hak', hat', _⟩ := acts_at HA.out (k := k) (by rw [← HN.out]; exact hlt)
        obtain rfl := Option.some.inj hr'
        obtain rfl := Option.some.inj (hak.symm.trans hak')
        have hra := HGR.out.2 a (List.mem_of_getElem? hak)
        have c0 := hat.c0
        have c1 := hat.c1
        have c2 := hat.c2
        obtain rfl : v = v' := Option.some.inj (c2.symm.trans (((hat'.keep hat'.lt HM.out.size)).c2))
        have HRAW := Lib.hid hat'.r
        obtain ⟨aR, capR, rfl⟩ := hat'.r.form
        have hki := hat.ok.kind
        obtain ⟨hn1, hn2⟩ := hat.ok.n
        have HEO := Lib.hid hat.ok.raw
        have g1 : (k : Int) < (N : Int) := by omega
        have g0 : (0 : Int) ≤ (k : Int) := by omega
        clear hat hak hat' hak' hr'
        generalize a.kind = ki at *
        generalize a.n = an at *
        generalize a.raw = ra at *
        have e5 : (ki : Int) ≤ 255 := by omega
        obtain ⟨T, hT⟩ : ∃ T, T = tk.length := ⟨_, rfl⟩
        rw [← hT] at ht1 ht2
        have HT := Lib.hid hT
        clear hT
        have hkk : ki % 8 < 4 ∨ ki % 8 = 4 ∨ ki % 8 = 5 ∨ ki % 8 = 6 ∨ ki % 8 = 7 := by omega
        rcases hkk with hk4 | hkk4 | hkk4 | hkk4 | hkk4
        · obtain ⟨x, hx⟩ : ∃ x : Int, x = (ki : Int) % 8 := ⟨_, rfl⟩
          have x0 : 0 ≤ x := by omega
          have x1 : x < 4 := by omega
          have ex : (ki : Int) % 8 = x := hx.symm
          clear hx hk4
          have ea := i64_and31 an
          have e1 : 0 ≤ an % 32 := Int.emod_nonneg _ (by decide)
          have e2 : an % 32 < 32 := Int.emod_lt_of_pos _ (by decide)
          generalize an % 32 = y at *
          have hmany : (0 < an ∧ isI y) ∨ (an ≤ 0 ∧ isI an) := by
            by_cases h0 : 0 < an
            · exact .inl ⟨h0, by unfold isI; omega⟩
            · exact .inr ⟨by omega, hn1, hn2⟩
          obtain ⟨j0, ji, jz0, jz1, jz2⟩ := info_parts info_exts
          have M1 := Lib.hid (HM.out.box #[.int .u8 (ki : Int), .int .i64 an, .slice aR ra.length capR])
          rcases hmany with ⟨han, hI⟩ | ⟨han, hI⟩
          · obtain ⟨lt, bo, M, htk⟩ : ∃ lt bo M, takeL L y = (lt, bo, M) := ⟨_, _, _, rfl⟩
            have HTK := Lib.hid htk
            have hml := takeL_length L y
            rw [htk] at hml
            have HML := Lib.hid (show M.length = m from Eq.trans hml HL.out)
            clear htk hml
            go_wp2_with (first
              | (go_at_call 15; ((with_reducible refine (play_ptake M1.out _ hI HTK.out).mono ?_); rintro e w3 ⟨a3, cap3, rfl, m3⟩); have M3 := Lib.hid m3; clear m3 c0 c1 c2)
              | (go_at_call 16; ((with_reducible refine (play_rtake M3.out _ HTK.out).mono ?_); rintro e w4 ⟨a4, cap4, rfl, m4⟩); have M4 := Lib.hid m4; have CE := Lib.hid (extents_any (m4.owns (x := .slice a3 lt.length cap3) (l := lt) (by simp)).1 (m4.owns (x := .slice a4 lt.length cap4) (l := lt) (by simp)).1 (by have := (m4.owns (x := .slice a4 lt.length cap4) (l := lt) (by simp)).2; omega)); clear m4 M3)
              | (go_at_call 17; ((with_reducible refine (CE.out).mono ?_); rintro e w5 ⟨rfl, b5⟩); have M5 := Lib.hid (M4.out.below b5); clear M4 CE b5)
              | ((with_reducible show wpList _ _ _ (⟨some 101, _, _, _, _, _⟩ :: _) _ _); refine wpList_append_lies _ rfl _ _ 32 rfl w.heap.size 33 j0 (.slice none 0 0) 1 24 Try.underlying32 ji jz0 jz1 jz2 rfl (by decide) _ T (tk.map (·.1)) rfl (World.ownsRow.alloc (by have := M5.out.row; rw [← HT.out] at this; exact this) _) _ 1 1 [.slice a4 lt.length cap4] rfl rfl (World.news_of_block (heap_alloc_new _ _)) (by intro u hu; simp at hu; rw [hu]; rfl) (by decide) (by unfold maxLen; omega) (by omega) (by have := M5.out.size.size; rw [size_alloc]; omega) _ rfl ?_; intro g6 cap6 w6 hown6 hgrow6 hat6 hgl6; have M6 := Lib.hid (M5.out.append (y := (.slice a4 lt.length cap4, lt)) HT.out (by simp) hgrow6 hown6 (by rw [size_alloc] at hat6; exact hat6)); clear hown6 hgrow6 hat6 hgl6 M5)
              | (go_at_call 18; ((with_reducible refine (play_pused M6.out).mono ?_); rintro e wa ⟨rfl, ma⟩); have MA := Lib.hid ma; clear ma M6)
              | (go_at_call 19; ((with_reducible refine (play_rused MA.out).mono ?_); rintro e wb ⟨rfl, mb⟩); have MB := Lib.hid mb; have CS := play_psize mb; rw [HML.out] at CS; clear mb MA)
              | (go_at_call 20; ((with_reducible refine (CS).mono ?_); rintro e wc ⟨rfl, mc⟩); have MC := Lib.hid mc; clear mc MB CS)
              | (go_at_call 21; ((with_reducible refine (play_pbytes MC.out).mono ?_); rintro e wd ⟨rfl, md⟩); have MD := Lib.hid md; clear md MC)
              | (go_at_call 22; ((with_reducible refine (play_rbytes MD.out).mono ?_); rintro e we ⟨rfl, me⟩); have ME := Lib.hid me; clear me MD))
            go_roundw
            case rel => exact ⟨k + 1, by omega, by go_num, Lib.hid ⟨_, _, _, ME.out.less, HML.out, by rw [List.length_append]; simp, by rw [List.length_append, ← HT.out]; simp; omega⟩⟩
            case measure => simp [intOf]; omega
          · obtain ⟨lt, bo, M, htk⟩ : ∃ lt bo M, takeL L an = (lt, bo, M) := ⟨_, _, _, rfl⟩
            have HTK := Lib.hid htk
            have hml := takeL_length L an
            rw [htk] at hml
            have HML := Lib.hid (show M.length = m from Eq.trans hml HL.out)
            clear htk hml
            go_wp2_with (first
              | (go_at_call 15; ((with_reducible refine (play_ptake M1.out _ hI HTK.out).mono ?_); rintro e w3 ⟨a3, cap3, rfl, m3⟩); have M3 := Lib.hid m3; clear m3 c0 c1 c2)
              | (go_at_call 16; ((with_reducible refine (play_rtake M3.out _ HTK.out).mono ?_); rintro e w4 ⟨a4, cap4, rfl, m4⟩); have M4 := Lib.hid m4; have CE := Lib.hid (extents_any (m4.owns (x := .slice a3 lt.length cap3) (l := lt) (by simp)).1 (m4.owns (x := .slice a4 lt.length cap4) (l := lt) (by simp)).1 (by have := (m4.owns (x := .slice a4 lt.length cap4) (l := lt) (by simp)).2; omega)); clear m4 M3)
              | (go_at_call 17; ((with_reducible refine (CE.out).mono ?_); rintro e w5 ⟨rfl, b5⟩); have M5 := Lib.hid (M4.out.below b5); clear M4 CE b5)
              | ((with_reducible show wpList _ _ _ (⟨some 101, _, _, _, _, _⟩ :: _) _ _); refine wpList_append_lies _ rfl _ _ 32 rfl w.heap.size 33 j0 (.slice none 0 0) 1 24 Try.underlying32 ji jz0 jz1 jz2 rfl (by decide) _ T (tk.map (·.1)) rfl (World.ownsRow.alloc (by have := M5.out.row; rw [← HT.out] at this; exact this) _) _ 1 1 [.slice a4 lt.length cap4] rfl rfl (World.news_of_block (heap_alloc_new _ _)) (by intro u hu; simp at hu; rw [hu]; rfl) (by decide) (by unfold maxLen; omega) (by omega) (by have := M5.out.size.size; rw [size_alloc]; omega) _ rfl ?_; intro g6 cap6 w6 hown6 hgrow6 hat6 hgl6; have M6 := Lib.hid (M5.out.append (y := (.slice a4 lt.length cap4, lt)) HT.out (by simp) hgrow6 hown6 (by rw [size_alloc] at hat6; exact hat6)); clear hown6 hgrow6 hat6 hgl6 M5)
              | (go_at_call 18; ((with_reducible refine (play_pused M6.out).mono ?_); rintro e wa ⟨rfl, ma⟩); have MA := Lib.hid ma; clear ma M6)
              | (go_at_call 19; ((with_reducible refine (play_rused MA.out).mono ?_); rintro e wb ⟨rfl, mb⟩); have MB := Lib.hid mb; have CS := play_psize mb; rw [HML.out] at CS; clear mb MA)
              | (go_at_call 20; ((with_reducible refine (CS).mono ?_); rintro e wc ⟨rfl, mc⟩); have MC := Lib.hid mc; clear mc MB CS)
              | (go_at_call 21; ((with_reducible refine (play_pbytes MC.out).mono ?_); rintro e wd ⟨rfl, md⟩); have MD := Lib.hid md; clear md MC)
              | (go_at_call 22; ((with_reducible refine (play_rbytes MD.out).mono ?_); rintro e we ⟨rfl, me⟩); have ME := Lib.hid me; clear me MD))
            go_roundw
            case rel => exact ⟨k + 1, by omega, by go_num, Lib.hid ⟨_, _, _, ME.out.less, HML.out, by rw [List.length_append]; simp, by rw [List.length_append, ← HT.out]; simp; omega⟩⟩
            case measure => simp [intOf]; omega
        · have e4 : (ki : Int) % 8 = 4 := by omega
          have ea := i64_and255 an
          have e1 : 0 ≤ an % 256 := Int.emod_nonneg _ (by decide)
          have e2 : an % 256 < 256 := Int.emod_lt_of_pos _ (by decide)
          generalize an % 256 = y0 at *
          obtain ⟨y, rfl⟩ : ∃ y : Nat, y0 = y := ⟨y0.toNat, by omega⟩
          obtain ⟨kx, hkx⟩ : ∃ kx, kx = y % T := ⟨_, rfl⟩
          have hkT : kx < T := by rw [hkx]; exact Nat.mod_lt _ (by omega)
          have em : (y : Int) % (T : Int) = (kx : Int) := by rw [hkx]; exact (Int.natCast_emod y T).symm
          have hkt : kx < tk.length := by rw [← HT.out]; exact hkT
          obtain ⟨gT, capT, hvt, hcell⟩ := HM.out.taken hkt
          rw [← HT.out] at hvt
          subst hvt
          obtain ⟨yv, hyv⟩ : ∃ yv, yv = tk[kx].1 := ⟨_, rfl⟩
          obtain ⟨yl, hyl⟩ : ∃ yl, yl = tk[kx].2 := ⟨_, rfl⟩
          have hmem : (yv, yl) ∈ hs := by rw [hyv, hyl]; obtain ⟨_, _, hC⟩ := HM.out; exact hC.sub _ (List.getElem_mem hkt)
          have M1 := Lib.hid (HM.out.box #[.int .u8 (ki : Int), .int .i64 an, .slice aR ra.length capR])
          have HS26 := Lib.hid (fun (w' : World) (LP LR : List Bool) (m' : PlayI I w w' q p LP LR (.slice (some ⟨gT, 0, none⟩) T capT) tk hs ((wr.heap.size, #[.int .u8 (ki : Int), .int .i64 an, .slice aR ra.length capR]) :: [])) => show w'.cell? ⟨gT, kx, none⟩ = some yv by
            obtain ⟨g', c', hv', hc'⟩ := m'.taken hkt
            simp only [Value.slice.injEq, Option.some.injEq, Addr.mk.injEq] at hv'
            rw [← hv'.1.1] at hc'
            rw [hyv]
            exact hc')
          obtain ⟨bo, M, hgv⟩ : ∃ bo M, giveR L (toI yl) = (bo, M) := ⟨_, _, rfl⟩
          have hml := giveR_length L (toI yl)
          rw [hgv] at hml
          have HML := Lib.hid (show M.length = m from Eq.trans hml HL.out)
          have C1 := Lib.hid (fun w' (m' : PlayI I w w' q p L L (.slice (some ⟨gT, 0, none⟩) T capT) tk hs ((wr.heap.size, #[.int .u8 (ki : Int), .int .i64 an, .slice aR ra.length capR]) :: [])) => play_pgive m' (m'.ext hmem).1 (m'.ext hmem).2.1 (m'.ext hmem).2.2 hgv)
          have C2 := Lib.hid (fun w' (m' : PlayI I w w' q p M L (.slice (some ⟨gT, 0, none⟩) T capT) tk hs ((wr.heap.size, #[.int .u8 (ki : Int), .int .i64 an, .slice aR ra.length capR]) :: [])) => play_rgive m' (m'.ext hmem).1 (m'.ext hmem).2.1 hgv)
          clear hml hgv hyv hyl hmem hcell hkt hkx hkk4 HM
          go_wp2
          generalize wr.alloc _ = w2 at *
          have md := M1.out.below (Below.refl w2.heap.size w2).drew
          obtain ⟨SS, hSS⟩ : ∃ SS : World → Prop, SS = fun w' => w'.cell? ⟨gT, kx, none⟩ = some yv := ⟨_, rfl⟩
          have SO : ∀ w', w'.cell? ⟨gT, kx, none⟩ = some yv → SS w' := fun w' m' => by rw [hSS]; exact m'
          have OS : ∀ w', SS w' → w'.cell? ⟨gT, kx, none⟩ = some yv := fun w' h => by rw [hSS] at h; exact h
          clear hSS c0 c1 c2 M1
          refine wp_region_noPanic ?_
          refine wp_region_held_drew (S := SS) (by kernel_rfl) (SO _ (HS26.out _ _ _ md)) (fun hHeld => ?_)
          refine wpAnyH_take (i := 0) (oi := { dst := some 111, op := Op.move (Operand.tmp 5), type := 25, pos := "law.go:74", after := #[], guard := none }) (v := ?_) rfl (by kernel_rfl) (by kernel_rfl) (by kernel_rfl) (fun _ _ _ h => h) (Or.inl ⟨by rfl, ?_⟩) (by assumption) ?_
          rotate_left
          · intro w hSw
            skip
            clear hSw
            go_simp
            try with_reducible rfl
          try simp only [Act.put, List.setIfInBounds_toArray, List.set_cons_zero, List.set_cons_succ]
          refine wpAnyH_take (i := 1) (oi := { dst := some 112, op := Op.move (Operand.tmp 9), type := 32, pos := "law.go:74", after := #[], guard := none }) (v := ?_) rfl (by kernel_rfl) (by kernel_rfl) (by kernel_rfl) (fun _ _ _ h => h) (Or.inl ⟨by rfl, ?_⟩) (by assumption) ?_
          rotate_left
          · intro w hSw
            skip
            clear hSw
            go_simp
            try with_reducible rfl
          try simp only [Act.put, List.setIfInBounds_toArray, List.set_cons_zero, List.set_cons_succ]
          refine wpAnyH_take (i := 2) (oi := { dst := some 113, op := Op.move (Operand.tmp 12), type := 3, pos := "law.go:74", after := #[], guard := none }) (v := ?_) rfl (by kernel_rfl) (by kernel_rfl) (by kernel_rfl) (fun _ _ _ h => h) (Or.inl ⟨by rfl, ?_⟩) (by assumption) ?_
          rotate_left
          · intro w hSw
            skip
            clear hSw
            go_simp
            try with_reducible rfl
          try simp only [Act.put, List.setIfInBounds_toArray, List.set_cons_zero, List.set_cons_succ]
          refine wpAnyH_take (i := 3) (oi := { dst := some 114, op := Op.indexAddr 32 (Operand.tmp 112) (Operand.tmp 113), type := 0, pos := "law.go:74", after := #[{ on := 1, ground := Ground.data }, { on := 2, ground := Ground.data }], guard := none }) (v := ?_) rfl (by kernel_rfl) (by kernel_rfl) (by kernel_rfl) (fun _ _ _ h => h) (Or.inl ⟨by rfl, ?_⟩) (by assumption) ?_
          rotate_left
          · intro w hSw
            skip
            clear hSw
            go_simp
            try with_reducible rfl
          try simp only [Act.put, List.setIfInBounds_toArray, List.set_cons_zero, List.set_cons_succ]
          refine wpAnyH_take (i := 6) (oi := { dst := some 117, op := Op.move (Operand.tmp 7), type := 29, pos := "law.go:74", after := #[], guard := none }) (v := ?_) rfl (by kernel_rfl) (by kernel_rfl) (by kernel_rfl) (fun _ _ _ h => h) (Or.inl ⟨by rfl, ?_⟩) (by assumption) ?_
          rotate_left
          · intro w hSw
            skip
            clear hSw
            go_simp
            try with_reducible rfl
          try simp only [Act.put, List.setIfInBounds_toArray, List.set_cons_zero, List.set_cons_succ]
          refine wpAnyH_take (i := 7) (oi := { dst := some 118, op := Op.move (Operand.tmp 9), type := 32, pos := "law.go:74", after := #[], guard := none }) (v := ?_) rfl (by kernel_rfl) (by kernel_rfl) (by kernel_rfl) (fun _ _ _ h => h) (Or.inl ⟨by rfl, ?_⟩) (by assumption) ?_
          rotate_left
          · intro w hSw
            skip
            clear hSw
            go_simp
            try with_reducible rfl
          try simp only [Act.put, List.setIfInBounds_toArray, List.set_cons_zero, List.set_cons_succ]
          refine wpAnyH_take (i := 8) (oi := { dst := some 119, op := Op.move (Operand.tmp 12), type := 3, pos := "law.go:74", after := #[], guard := none }) (v := ?_) rfl (by kernel_rfl) (by kernel_rfl) (by kernel_rfl) (fun _ _ _ h => h) (Or.inl ⟨by rfl, ?_⟩) (by assumption) ?_
          rotate_left
          · intro w hSw
            skip
            clear hSw
            go_simp
            try with_reducible rfl
          try simp only [Act.put, List.setIfInBounds_toArray, List.set_cons_zero, List.set_cons_succ]
          refine wpAnyH_take (i := 9) (oi := { dst := some 120, op := Op.indexAddr 32 (Operand.tmp 118) (Operand.tmp 119), type := 0, pos := "law.go:74", after := #[{ on := 7, ground := Ground.data }, { on := 8, ground := Ground.data }], guard := none }) (v := ?_) rfl (by kernel_rfl) (by kernel_rfl) (by kernel_rfl) (fun _ _ _ h => h) (Or.inl ⟨by rfl, ?_⟩) (by assumption) ?_
          rotate_left
          · intro w hSw
            skip
            clear hSw
            go_simp
            try with_reducible rfl
          try simp only [Act.put, List.setIfInBounds_toArray, List.set_cons_zero, List.set_cons_succ]
          refine wpAnyH_take (i := 4) (oi := { dst := some 115, op := Op.load 33 (Operand.tmp 114), type := 33, pos := "law.go:74", after := #[{ on := 3, ground := Ground.data }], guard := none }) (v := ?_) rfl (by kernel_rfl) (by kernel_rfl) (by kernel_rfl) (fun _ _ _ h => h) (Or.inl ⟨by rfl, ?_⟩) (by assumption) ?_
          rotate_left
          · intro w hSw
            have hSw := OS _ hSw
            go_simp
            try with_reducible rfl
          try simp only [Act.put, List.setIfInBounds_toArray, List.set_cons_zero, List.set_cons_succ]
          refine wpAnyH_take (i := 10) (oi := { dst := some 121, op := Op.load 33 (Operand.tmp 120), type := 33, pos := "law.go:74", after := #[{ on := 9, ground := Ground.data }], guard := none }) (v := ?_) rfl (by kernel_rfl) (by kernel_rfl) (by kernel_rfl) (fun _ _ _ h => h) (Or.inl ⟨by rfl, ?_⟩) (by assumption) ?_
          rotate_left
          · intro w hSw
            have hSw := OS _ hSw
            go_simp
            try with_reducible rfl
          try simp only [Act.put, List.setIfInBounds_toArray, List.set_cons_zero, List.set_cons_succ]
          refine wpAnyH_ready (rs := [5]) (by kernel_rfl) (by simp) ?_
          refine (AllReadyH.cons (o := { dst := some 116, op := Op.call { callee := Callee.value (Operand.func 12), args := #[Operand.tmp 111, Operand.tmp 115], argTypes := #[25, 33] }, type := 4, pos := "law.go:74", after := #[{ on := 0, ground := Ground.data }, { on := 4, ground := Ground.data }], guard := none }) rfl (fun K hK => ?_) AllReadyH.nil)
          go_simp
          refine (C1.out _ (by assumption)).mono ?_
          rintro e w5' ⟨rfl, m5'⟩
          refine hK.out _ _ (SO _ (HS26.out _ _ _ m5')) (fun hHeld => ?_)
          clear hK K
          try simp only [Act.put, List.setIfInBounds_toArray, List.set_cons_zero, List.set_cons_succ]
          refine wpAnyH_ready (rs := [11]) (by kernel_rfl) (by simp) ?_
          refine (AllReadyH.cons (o := { dst := some 122, op := Op.call { callee := Callee.value (Operand.func 13), args := #[Operand.tmp 117, Operand.tmp 121], argTypes := #[29, 33] }, type := 4, pos := "law.go:74", after := #[{ on := 6, ground := Ground.data }, { on := 10, ground := Ground.data }, { on := 5, ground := Ground.chain }], guard := none }) rfl (fun K hK => ?_) AllReadyH.nil)
          go_simp
          refine (C2.out _ (by assumption)).mono ?_
          rintro e w11' ⟨rfl, m11'⟩
          refine hK.out _ _ (SO _ (HS26.out _ _ _ m11')) (fun hHeld => ?_)
          clear hK K
          try simp only [Act.put, List.setIfInBounds_toArray, List.set_cons_zero, List.set_cons_succ]
          refine wpAnyH_take (i := 12) (oi := { dst := some 123, op := Op.binOp BinOp.neq 4 (Operand.tmp 116) (Operand.tmp 122) 4, type := 4, pos := "law.go:74", after := #[{ on := 5, ground := Ground.data }, { on := 11, ground := Ground.data }], guard := none }) (v := ?_) rfl (by kernel_rfl) (by kernel_rfl) (by kernel_rfl) (fun _ _ _ h => h) (Or.inl ⟨by rfl, ?_⟩) (by assumption) ?_
          rotate_left
          · intro w hSw
            skip
            clear hSw
            go_simp
            try with_reducible rfl
          try simp only [Act.put, List.setIfInBounds_toArray, List.set_cons_zero, List.set_cons_succ]
          refine wpAnyH_done (by kernel_rfl) ?_ _
          refine NoPanic.normal ?_
          have M6 := Lib.hid m11'
          clear m5' m11' md
          go_wp2_with (first
            | (go_at_call 18; ((with_reducible refine (play_pused M6.out).mono ?_); rintro e wa ⟨rfl, ma⟩); have MA := Lib.hid ma; clear ma M6)
            | (go_at_call 19; ((with_reducible refine (play_rused MA.out).mono ?_); rintro e wb ⟨rfl, mb⟩); have MB := Lib.hid mb; have CS := play_psize mb; rw [HML.out] at CS; clear mb MA)
            | (go_at_call 20; ((with_reducible refine (CS).mono ?_); rintro e wc ⟨rfl, mc⟩); have MC := Lib.hid mc; clear mc MB CS)
            | (go_at_call 21; ((with_reducible refine (play_pbytes MC.out).mono ?_); rintro e wd ⟨rfl, md⟩); have MD := Lib.hid md; clear md MC)
            | (go_at_call 22; ((with_reducible refine (play_rbytes MD.out).mono ?_); rintro e we ⟨rfl, me⟩); have ME := Lib.hid me; clear me MD))
          go_roundw
          case rel => exact ⟨k + 1, by omega, by go_num, Lib.hid ⟨_, _, _, ME.out.less, HML.out, by rw [← HT.out]; exact ht1, by rw [← HT.out]; omega⟩⟩
          case measure => simp [intOf]; omega
        · have e4 : (ki : Int) % 8 = 5 := by omega
          have ea := i64_and255 an
          have e1 : 0 ≤ an % 256 := Int.emod_nonneg _ (by decide)
          have e2 : an % 256 < 256 := Int.emod_lt_of_pos _ (by decide)
          generalize an % 256 = y0 at *
          obtain ⟨y, rfl⟩ : ∃ y : Nat, y0 = y := ⟨y0.toNat, by omega⟩
          obtain ⟨kx, hkx⟩ : ∃ kx, kx = y % T := ⟨_, rfl⟩
          have hkT : kx < T := by rw [hkx]; exact Nat.mod_lt _ (by omega)
          have em : (y : Int) % (T : Int) = (kx : Int) := by rw [hkx]; exact (Int.natCast_emod y T).symm
          have hkt : kx < tk.length := by rw [← HT.out]; exact hkT
          obtain ⟨gT, capT, hvt, hcell⟩ := HM.out.taken hkt
          rw [← HT.out] at hvt
          subst hvt
          obtain ⟨yv, hyv⟩ : ∃ yv, yv = tk[kx].1 := ⟨_, rfl⟩
          obtain ⟨yl, hyl⟩ : ∃ yl, yl = tk[kx].2 := ⟨_, rfl⟩
          have hmem : (yv, yl) ∈ hs := by rw [hyv, hyl]; obtain ⟨_, _, hC⟩ := HM.out; exact hC.sub _ (List.getElem_mem hkt)
          have M1 := Lib.hid (HM.out.box #[.int .u8 (ki : Int), .int .i64 an, .slice aR ra.length capR])
          have HS26 := Lib.hid (fun (w' : World) (LP LR : List Bool) (m' : PlayI I w w' q p LP LR (.slice (some ⟨gT, 0, none⟩) T capT) tk hs ((wr.heap.size, #[.int .u8 (ki : Int), .int .i64 an, .slice aR ra.length capR]) :: [])) => show w'.cell? ⟨gT, kx, none⟩ = some yv by
            obtain ⟨g', c', hv', hc'⟩ := m'.taken hkt
            simp only [Value.slice.injEq, Option.some.injEq, Addr.mk.injEq] at hv'
            rw [← hv'.1.1] at hc'
            rw [hyv]
            exact hc')
          obtain ⟨bo, M, hgv⟩ : ∃ bo M, giveR L (toI yl) = (bo, M) := ⟨_, _, rfl⟩
          have hml := giveR_length L (toI yl)
          rw [hgv] at hml
          have HML := Lib.hid (show M.length = m from Eq.trans hml HL.out)
          have C1 := Lib.hid (fun w' (m' : PlayI I w w' q p L L (.slice (some ⟨gT, 0, none⟩) T capT) tk hs ((wr.heap.size, #[.int .u8 (ki : Int), .int .i64 an, .slice aR ra.length capR]) :: [])) => play_pgive m' (m'.ext hmem).1 (m'.ext hmem).2.1 (m'.ext hmem).2.2 hgv)
          have C2 := Lib.hid (fun w' (m' : PlayI I w w' q p M L (.slice (some ⟨gT, 0, none⟩) T capT) tk hs ((wr.heap.size, #[.int .u8 (ki : Int), .int .i64 an, .slice aR ra.length capR]) :: [])) => play_rgive m' (m'.ext hmem).1 (m'.ext hmem).2.1 hgv)
          clear hml hgv hyv hyl hmem hcell hkt hkx hkk4 HM
          go_wp2
          generalize wr.alloc _ = w2 at *
          have md := M1.out.below (Below.refl w2.heap.size w2).drew
          obtain ⟨SS, hSS⟩ : ∃ SS : World → Prop, SS = fun w' => w'.cell? ⟨gT, kx, none⟩ = some yv := ⟨_, rfl⟩
          have SO : ∀ w', w'.cell? ⟨gT, kx, none⟩ = some yv → SS w' := fun w' m' => by rw [hSS]; exact m'
          have OS : ∀ w', SS w' → w'.cell? ⟨gT, kx, none⟩ = some yv := fun w' h => by rw [hSS] at h; exact h
          clear hSS c0 c1 c2 M1
          refine wp_region_noPanic ?_
          refine wp_region_held_drew (S := SS) (by kernel_rfl) (SO _ (HS26.out _ _ _ md)) (fun hHeld => ?_)
          refine wpAnyH_take (i := 0) (oi := { dst := some 111, op := Op.move (Operand.tmp 5), type := 25, pos := "law.go:74", after := #[], guard := none }) (v := ?_) rfl (by kernel_rfl) (by kernel_rfl) (by kernel_rfl) (fun _ _ _ h => h) (Or.inl ⟨by rfl, ?_⟩) (by assumption) ?_
          rotate_left
          · intro w hSw
            skip
            clear hSw
            go_simp
            try with_reducible rfl
          try simp only [Act.put, List.setIfInBounds_toArray, List.set_cons_zero, List.set_cons_succ]
          refine wpAnyH_take (i := 1) (oi := { dst := some 112, op := Op.move (Operand.tmp 9), type := 32, pos := "law.go:74", after := #[], guard := none }) (v := ?_) rfl (by kernel_rfl) (by kernel_rfl) (by kernel_rfl) (fun _ _ _ h => h) (Or.inl ⟨by rfl, ?_⟩) (by assumption) ?_
          rotate_left
          · intro w hSw
            skip
            clear hSw
            go_simp
            try with_reducible rfl
          try simp only [Act.put, List.setIfInBounds_toArray, List.set_cons_zero, List.set_cons_succ]
          refine wpAnyH_take (i := 2) (oi := { dst := some 113, op := Op.move (Operand.tmp 12), type := 3, pos := "law.go:74", after := #[], guard := none }) (v := ?_) rfl (by kernel_rfl) (by kernel_rfl) (by kernel_rfl) (fun _ _ _ h => h) (Or.inl ⟨by rfl, ?_⟩) (by assumption) ?_
          rotate_left
          · intro w hSw
            skip
            clear hSw
            go_simp
            try with_reducible rfl
          try simp only [Act.put, List.setIfInBounds_toArray, List.set_cons_zero, List.set_cons_succ]
          refine wpAnyH_take (i := 3) (oi := { dst := some 114, op := Op.indexAddr 32 (Operand.tmp 112) (Operand.tmp 113), type := 0, pos := "law.go:74", after := #[{ on := 1, ground := Ground.data }, { on := 2, ground := Ground.data }], guard := none }) (v := ?_) rfl (by kernel_rfl) (by kernel_rfl) (by kernel_rfl) (fun _ _ _ h => h) (Or.inl ⟨by rfl, ?_⟩) (by assumption) ?_
          rotate_left
          · intro w hSw
            skip
            clear hSw
            go_simp
            try with_reducible rfl
          try simp only [Act.put, List.setIfInBounds_toArray, List.set_cons_zero, List.set_cons_succ]
          refine wpAnyH_take (i := 6) (oi := { dst := some 117, op := Op.move (Operand.tmp 7), type := 29, pos := "law.go:74", after := #[], guard := none }) (v := ?_) rfl (by kernel_rfl) (by kernel_rfl) (by kernel_rfl) (fun _ _ _ h => h) (Or.inl ⟨by rfl, ?_⟩) (by assumption) ?_
          rotate_left
          · intro w hSw
            skip
            clear hSw
            go_simp
            try with_reducible rfl
          try simp only [Act.put, List.setIfInBounds_toArray, List.set_cons_zero, List.set_cons_succ]
          refine wpAnyH_take (i := 7) (oi := { dst := some 118, op := Op.move (Operand.tmp 9), type := 32, pos := "law.go:74", after := #[], guard := none }) (v := ?_) rfl (by kernel_rfl) (by kernel_rfl) (by kernel_rfl) (fun _ _ _ h => h) (Or.inl ⟨by rfl, ?_⟩) (by assumption) ?_
          rotate_left
          · intro w hSw
            skip
            clear hSw
            go_simp
            try with_reducible rfl
          try simp only [Act.put, List.setIfInBounds_toArray, List.set_cons_zero, List.set_cons_succ]
          refine wpAnyH_take (i := 8) (oi := { dst := some 119, op := Op.move (Operand.tmp 12), type := 3, pos := "law.go:74", after := #[], guard := none }) (v := ?_) rfl (by kernel_rfl) (by kernel_rfl) (by kernel_rfl) (fun _ _ _ h => h) (Or.inl ⟨by rfl, ?_⟩) (by assumption) ?_
          rotate_left
          · intro w hSw
            skip
            clear hSw
            go_simp
            try with_reducible rfl
          try simp only [Act.put, List.setIfInBounds_toArray, List.set_cons_zero, List.set_cons_succ]
          refine wpAnyH_take (i := 9) (oi := { dst := some 120, op := Op.indexAddr 32 (Operand.tmp 118) (Operand.tmp 119), type := 0, pos := "law.go:74", after := #[{ on := 7, ground := Ground.data }, { on := 8, ground := Ground.data }], guard := none }) (v := ?_) rfl (by kernel_rfl) (by kernel_rfl) (by kernel_rfl) (fun _ _ _ h => h) (Or.inl ⟨by rfl, ?_⟩) (by assumption) ?_
          rotate_left
          · intro w hSw
            skip
            clear hSw
            go_simp
            try with_reducible rfl
          try simp only [Act.put, List.setIfInBounds_toArray, List.set_cons_zero, List.set_cons_succ]
          refine wpAnyH_take (i := 4) (oi := { dst := some 115, op := Op.load 33 (Operand.tmp 114), type := 33, pos := "law.go:74", after := #[{ on := 3, ground := Ground.data }], guard := none }) (v := ?_) rfl (by kernel_rfl) (by kernel_rfl) (by kernel_rfl) (fun _ _ _ h => h) (Or.inl ⟨by rfl, ?_⟩) (by assumption) ?_
          rotate_left
          · intro w hSw
            have hSw := OS _ hSw
            go_simp
            try with_reducible rfl
          try simp only [Act.put, List.setIfInBounds_toArray, List.set_cons_zero, List.set_cons_succ]
          refine wpAnyH_take (i := 10) (oi := { dst := some 121, op := Op.load 33 (Operand.tmp 120), type := 33, pos := "law.go:74", after := #[{ on := 9, ground := Ground.data }], guard := none }) (v := ?_) rfl (by kernel_rfl) (by kernel_rfl) (by kernel_rfl) (fun _ _ _ h => h) (Or.inl ⟨by rfl, ?_⟩) (by assumption) ?_
          rotate_left
          · intro w hSw
            have hSw := OS _ hSw
            go_simp
            try with_reducible rfl
          try simp only [Act.put, List.setIfInBounds_toArray, List.set_cons_zero, List.set_cons_succ]
          refine wpAnyH_ready (rs := [5]) (by kernel_rfl) (by simp) ?_
          refine (AllReadyH.cons (o := { dst := some 116, op := Op.call { callee := Callee.value (Operand.func 12), args := #[Operand.tmp 111, Operand.tmp 115], argTypes := #[25, 33] }, type := 4, pos := "law.go:74", after := #[{ on := 0, ground := Ground.data }, { on := 4, ground := Ground.data }], guard := none }) rfl (fun K hK => ?_) AllReadyH.nil)
          go_simp
          refine (C1.out _ (by assumption)).mono ?_
          rintro e w5' ⟨rfl, m5'⟩
          refine hK.out _ _ (SO _ (HS26.out _ _ _ m5')) (fun hHeld => ?_)
          clear hK K
          try simp only [Act.put, List.setIfInBounds_toArray, List.set_cons_zero, List.set_cons_succ]
          refine wpAnyH_ready (rs := [11]) (by kernel_rfl) (by simp) ?_
          refine (AllReadyH.cons (o := { dst := some 122, op := Op.call { callee := Callee.value (Operand.func 13), args := #[Operand.tmp 117, Operand.tmp 121], argTypes := #[29, 33] }, type := 4, pos := "law.go:74", after := #[{ on := 6, ground := Ground.data }, { on := 10, ground := Ground.data }, { on := 5, ground := Ground.chain }], guard := none }) rfl (fun K hK => ?_) AllReadyH.nil)
          go_simp
          refine (C2.out _ (by assumption)).mono ?_
          rintro e w11' ⟨rfl, m11'⟩
          refine hK.out _ _ (SO _ (HS26.out _ _ _ m11')) (fun hHeld => ?_)
          clear hK K
          try simp only [Act.put, List.setIfInBounds_toArray, List.set_cons_zero, List.set_cons_succ]
          refine wpAnyH_take (i := 12) (oi := { dst := some 123, op := Op.binOp BinOp.neq 4 (Operand.tmp 116) (Operand.tmp 122) 4, type := 4, pos := "law.go:74", after := #[{ on := 5, ground := Ground.data }, { on := 11, ground := Ground.data }], guard := none }) (v := ?_) rfl (by kernel_rfl) (by kernel_rfl) (by kernel_rfl) (fun _ _ _ h => h) (Or.inl ⟨by rfl, ?_⟩) (by assumption) ?_
          rotate_left
          · intro w hSw
            skip
            clear hSw
            go_simp
            try with_reducible rfl
          try simp only [Act.put, List.setIfInBounds_toArray, List.set_cons_zero, List.set_cons_succ]
          refine wpAnyH_done (by kernel_rfl) ?_ _
          refine NoPanic.normal ?_
          have M6 := Lib.hid m11'
          clear m5' m11' md
          go_wp2_with (first
            | (go_at_call 18; ((with_reducible refine (play_pused M6.out).mono ?_); rintro e wa ⟨rfl, ma⟩); have MA := Lib.hid ma; clear ma M6)
            | (go_at_call 19; ((with_reducible refine (play_rused MA.out).mono ?_); rintro e wb ⟨rfl, mb⟩); have MB := Lib.hid mb; have CS := play_psize mb; rw [HML.out] at CS; clear mb MA)
            | (go_at_call 20; ((with_reducible refine (CS).mono ?_); rintro e wc ⟨rfl, mc⟩); have MC := Lib.hid mc; clear mc MB CS)
            | (go_at_call 21; ((with_reducible refine (play_pbytes MC.out).mono ?_); rintro e wd ⟨rfl, md⟩); have MD := Lib.hid md; clear md MC)
            | (go_at_call 22; ((with_reducible refine (play_rbytes MD.out).mono ?_); rintro e we ⟨rfl, me⟩); have ME := Lib.hid me; clear me MD))
          go_roundw
          case rel => exact ⟨k + 1, by omega, by go_num, Lib.hid ⟨_, _, _, ME.out.less, HML.out, by rw [← HT.out]; exact ht1, by rw [← HT.out]; omega⟩⟩
          case measure => simp [intOf]; omega
        · have e4 : (ki : Int) % 8 = 6 := by omega
          have M1 := Lib.hid (HM.out.box #[.int .u8 (ki : Int), .int .i64 an, .slice aR ra.length capR])
          have HS29 := Lib.hid (fun (w' : World) (LP LR : List Bool) (m' : PlayI I w w' q p LP LR u9 tk hs ((wr.heap.size, #[.int .u8 (ki : Int), .int .i64 an, .slice aR ra.length capR]) :: [])) => show w'.cell? ⟨wr.heap.size, 2, none⟩ = some (.slice aR ra.length capR) from rowC_cell (m'.boxAt (b := wr.heap.size) (cs := #[.int .u8 (ki : Int), .int .i64 an, .slice aR ra.length capR]) (by simp)) 2)
          obtain ⟨bo, M, hgv⟩ : ∃ bo M, giveR L ra = (bo, M) := ⟨_, _, rfl⟩
          have hml := giveR_length L ra
          rw [hgv] at hml
          have HML := Lib.hid (show M.length = m from Eq.trans hml HL.out)
          have C1 := Lib.hid (fun w' (m' : PlayI I w w' q p L L u9 tk hs ((wr.heap.size, #[.int .u8 (ki : Int), .int .i64 an, .slice aR ra.length capR]) :: [])) => play_pgive m' (m'.came HRAW.out).1 HEO.out (m'.came HRAW.out).2 hgv)
          have C2 := Lib.hid (fun w' (m' : PlayI I w w' q p M L u9 tk hs ((wr.heap.size, #[.int .u8 (ki : Int), .int .i64 an, .slice aR ra.length capR]) :: [])) => play_rgive m' (m'.came HRAW.out).1 HEO.out hgv)
          clear hml hgv hkk4 HM HRAW HEO
          go_wp2
          generalize wr.alloc _ = w2 at *
          have md := M1.out.below (Below.refl w2.heap.size w2).drew
          obtain ⟨SS, hSS⟩ : ∃ SS : World → Prop, SS = fun w' => w'.cell? ⟨wr.heap.size, 2, none⟩ = some (.slice aR ra.length capR) := ⟨_, rfl⟩
          have SO : ∀ w', w'.cell? ⟨wr.heap.size, 2, none⟩ = some (.slice aR ra.length capR) → SS w' := fun w' m' => by rw [hSS]; exact m'
          have OS : ∀ w', SS w' → w'.cell? ⟨wr.heap.size, 2, none⟩ = some (.slice aR ra.length capR) := fun w' h => by rw [hSS] at h; exact h
          clear hSS c0 c1 c2 M1
          refine wp_region_noPanic ?_
          refine wp_region_held_drew (S := SS) (by kernel_rfl) (SO _ (HS29.out _ _ _ md)) (fun hHeld => ?_)
          refine wpAnyH_take (i := 0) (oi := { dst := some 126, op := Op.move (Operand.tmp 5), type := 25, pos := "law.go:78", after := #[], guard := none }) (v := ?_) rfl (by kernel_rfl) (by kernel_rfl) (by kernel_rfl) (fun _ _ _ h => h) (Or.inl ⟨by rfl, ?_⟩) (by assumption) ?_
          rotate_left
          · intro w hSw
            skip
            clear hSw
            go_simp
            try with_reducible rfl
          try simp only [Act.put, List.setIfInBounds_toArray, List.set_cons_zero, List.set_cons_succ]
          refine wpAnyH_take (i := 1) (oi := { dst := some 127, op := Op.fieldAddr 35 (Operand.tmp 11) 2, type := 0, pos := "law.go:78", after := #[], guard := none }) (v := ?_) rfl (by kernel_rfl) (by kernel_rfl) (by kernel_rfl) (fun _ _ _ h => h) (Or.inl ⟨by rfl, ?_⟩) (by assumption) ?_
          rotate_left
          · intro w hSw
            skip
            clear hSw
            go_simp
            try with_reducible rfl
          try simp only [Act.put, List.setIfInBounds_toArray, List.set_cons_zero, List.set_cons_succ]
          refine wpAnyH_take (i := 4) (oi := { dst := some 130, op := Op.move (Operand.tmp 7), type := 29, pos := "law.go:78", after := #[], guard := none }) (v := ?_) rfl (by kernel_rfl) (by kernel_rfl) (by kernel_rfl) (fun _ _ _ h => h) (Or.inl ⟨by rfl, ?_⟩) (by assumption) ?_
          rotate_left
          · intro w hSw
            skip
            clear hSw
            go_simp
            try with_reducible rfl
          try simp only [Act.put, List.setIfInBounds_toArray, List.set_cons_zero, List.set_cons_succ]
          refine wpAnyH_take (i := 5) (oi := { dst := some 131, op := Op.fieldAddr 35 (Operand.tmp 11) 2, type := 0, pos := "law.go:78", after := #[], guard := none }) (v := ?_) rfl (by kernel_rfl) (by kernel_rfl) (by kernel_rfl) (fun _ _ _ h => h) (Or.inl ⟨by rfl, ?_⟩) (by assumption) ?_
          rotate_left
          · intro w hSw
            skip
            clear hSw
            go_simp
            try with_reducible rfl
          try simp only [Act.put, List.setIfInBounds_toArray, List.set_cons_zero, List.set_cons_succ]
          refine wpAnyH_take (i := 2) (oi := { dst := some 128, op := Op.load 33 (Operand.tmp 127), type := 33, pos := "law.go:78", after := #[{ on := 1, ground := Ground.data }], guard := none }) (v := ?_) rfl (by kernel_rfl) (by kernel_rfl) (by kernel_rfl) (fun _ _ _ h => h) (Or.inl ⟨by rfl, ?_⟩) (by assumption) ?_
          rotate_left
          · intro w hSw
            have hSw := OS _ hSw
            go_simp
            try with_reducible rfl
          try simp only [Act.put, List.setIfInBounds_toArray, List.set_cons_zero, List.set_cons_succ]
          refine wpAnyH_take (i := 6) (oi := { dst := some 132, op := Op.load 33 (Operand.tmp 131), type := 33, pos := "law.go:78", after := #[{ on := 5, ground := Ground.data }], guard := none }) (v := ?_) rfl (by kernel_rfl) (by kernel_rfl) (by kernel_rfl) (fun _ _ _ h => h) (Or.inl ⟨by rfl, ?_⟩) (by assumption) ?_
          rotate_left
          · intro w hSw
            have hSw := OS _ hSw
            go_simp
            try with_reducible rfl
          try simp only [Act.put, List.setIfInBounds_toArray, List.set_cons_zero, List.set_cons_succ]
          refine wpAnyH_ready (rs := [3]) (by kernel_rfl) (by simp) ?_
          refine (AllReadyH.cons (o := { dst := some 129, op := Op.call { callee := Callee.value (Operand.func 12), args := #[Operand.tmp 126, Operand.tmp 128], argTypes := #[25, 33] }, type := 4, pos := "law.go:78", after := #[{ on := 0, ground := Ground.data }, { on := 2, ground := Ground.data }], guard := none }) rfl (fun K hK => ?_) AllReadyH.nil)
          go_simp
          refine (C1.out _ (by assumption)).mono ?_
          rintro e w3' ⟨rfl, m3'⟩
          refine hK.out _ _ (SO _ (HS29.out _ _ _ m3')) (fun hHeld => ?_)
          clear hK K
          try simp only [Act.put, List.setIfInBounds_toArray, List.set_cons_zero, List.set_cons_succ]
          refine wpAnyH_ready (rs := [7]) (by kernel_rfl) (by simp) ?_
          refine (AllReadyH.cons (o := { dst := some 133, op := Op.call { callee := Callee.value (Operand.func 13), args := #[Operand.tmp 130, Operand.tmp 132], argTypes := #[29, 33] }, type := 4, pos := "law.go:78", after := #[{ on := 4, ground := Ground.data }, { on := 6, ground := Ground.data }, { on := 3, ground := Ground.chain }], guard := none }) rfl (fun K hK => ?_) AllReadyH.nil)
          go_simp
          refine (C2.out _ (by assumption)).mono ?_
          rintro e w7' ⟨rfl, m7'⟩
          refine hK.out _ _ (SO _ (HS29.out _ _ _ m7')) (fun hHeld => ?_)
          clear hK K
          try simp only [Act.put, List.setIfInBounds_toArray, List.set_cons_zero, List.set_cons_succ]
          refine wpAnyH_take (i := 8) (oi := { dst := some 134, op := Op.binOp BinOp.neq 4 (Operand.tmp 129) (Operand.tmp 133) 4, type := 4, pos := "law.go:78", after := #[{ on := 3, ground := Ground.data }, { on := 7, ground := Ground.data }], guard := none }) (v := ?_) rfl (by kernel_rfl) (by kernel_rfl) (by kernel_rfl) (fun _ _ _ h => h) (Or.inl ⟨by rfl, ?_⟩) (by assumption) ?_
          rotate_left
          · intro w hSw
            skip
            clear hSw
            go_simp
            try with_reducible rfl
          try simp only [Act.put, List.setIfInBounds_toArray, List.set_cons_zero, List.set_cons_succ]
          refine wpAnyH_done (by kernel_rfl) ?_ _
          refine NoPanic.normal ?_
          have M6 := Lib.hid m7'
          clear m3' m7' md
          go_wp2_with (first
            | (go_at_call 18; ((with_reducible refine (play_pused M6.out).mono ?_); rintro e wa ⟨rfl, ma⟩); have MA := Lib.hid ma; clear ma M6)
            | (go_at_call 19; ((with_reducible refine (play_rused MA.out).mono ?_); rintro e wb ⟨rfl, mb⟩); have MB := Lib.hid mb; have CS := play_psize mb; rw [HML.out] at CS; clear mb MA)
            | (go_at_call 20; ((with_reducible refine (CS).mono ?_); rintro e wc ⟨rfl, mc⟩); have MC := Lib.hid mc; clear mc MB CS)
            | (go_at_call 21; ((with_reducible refine (play_pbytes MC.out).mono ?_); rintro e wd ⟨rfl, md⟩); have MD := Lib.hid md; clear md MC)
            | (go_at_call 22; ((with_reducible refine (play_rbytes MD.out).mono ?_); rintro e we ⟨rfl, me⟩); have ME := Lib.hid me; clear me MD))
          go_roundw
          case rel => exact ⟨k + 1, by omega, by go_num, Lib.hid ⟨_, _, _, ME.out.less, HML.out, by rw [← HT.out]; exact ht1, by rw [← HT.out]; omega⟩⟩
          case measure => simp [intOf]; omega
        · have e4 : (ki : Int) % 8 = 7 := by omega
          have M1 := Lib.hid (HM.out.box #[.int .u8 (ki : Int), .int .i64 an, .slice aR ra.length capR])
          have HML := Lib.hid (show L.length = m from HL.out)
          clear hkk4 HM
          go_wp2_with (first
            | (go_at_call 14; ((with_reducible refine (play_copy M1.out).mono ?_); rintro e w3 ⟨q3, rfl, m3⟩); have M3 := Lib.hid m3; clear m3 c0 c1 c2)
            | (go_at_call 15; ((with_reducible refine (own_take M3.out 1 (small_I (by decide))).mono ?_); rintro e w4 ⟨x4, rfl, m4⟩); have M4 := Lib.hid m4; clear m4 M3)
            | (go_at_call 12; ((with_reducible refine (own_give1 M4.out).mono ?_); rintro e w5 ⟨b5, rfl, m5⟩); have M6 := Lib.hid (M1.out.below (own_b m5)); clear m5 M4 M1)
            | (go_at_call 18; ((with_reducible refine (play_pused M6.out).mono ?_); rintro e wa ⟨rfl, ma⟩); have MA := Lib.hid ma; clear ma M6)
            | (go_at_call 19; ((with_reducible refine (play_rused MA.out).mono ?_); rintro e wb ⟨rfl, mb⟩); have MB := Lib.hid mb; have CS := play_psize mb; rw [HML.out] at CS; clear mb MA)
            | (go_at_call 20; ((with_reducible refine (CS).mono ?_); rintro e wc ⟨rfl, mc⟩); have MC := Lib.hid mc; clear mc MB CS)
            | (go_at_call 21; ((with_reducible refine (play_pbytes MC.out).mono ?_); rintro e wd ⟨rfl, md⟩); have MD := Lib.hid md; clear md MC)
            | (go_at_call 22; ((with_reducible refine (play_rbytes MD.out).mono ?_); rintro e we ⟨rfl, me⟩); have ME := Lib.hid me; clear me MD))
          go_roundw
          case rel => exact ⟨k + 1, by omega, by go_num, Lib.hid ⟨_, _, _, ME.out.less, HML.out, by rw [← HT.out]; exact ht1, by rw [← HT.out]; omega⟩⟩
          case measure => simp [intOf]; omega
      · obtain rfl : k = N := by omega
        clear hlt hk
        go_wp2_with (first
          | (go_at_call 14; ((with_reducible refine (play_copy HM.out).mono ?_); rintro e w3 ⟨q3, rfl, m3⟩); have M3 := Lib.hid m3; have M4 := Lib.hid (HM.out.below (own_b m3)); clear m3 HM)
          | (go_at_call 21; ((with_reducible refine (own_bytes M3.out).mono ?_); rintro e w4 ⟨rfl, b4⟩); have M5 := Lib.hid (M4.out.below b4); clear b4 M3 M4)
          | (go_at_call 22; ((with_reducible refine (play_rbytes M5.out).mono ?_); rintro e w5 ⟨rfl, m5⟩); have M6 := Lib.hid m5; clear m5 M5)
          | (go_at_call 9; ((with_reducible refine (CU.out _).mono ?_); rintro e w9 ⟨rfl, b9⟩); have B9 := Lib.hid b9; clear b9))
        go_ret
        exact ⟨rfl, M6.out.size.trans (B9.out.mono M6.out.size.size)⟩
  · clear hp
    have em : n = (m : Int) := h3.symm
    subst em
    clear h3
    go_enter Try.func3, Try.ntmps3
    go_wp2_with (first
      | (go_at_call 8; ((with_reducible refine (CG).mono ?_); rintro e w1 ⟨rfl, rfl⟩))
      | (go_at_call 10; ((with_reducible refine (CN.out).mono ?_); rintro e w1 ⟨q, o, rfl, i1, b1, o1⟩); have HI1 := Lib.hid i1; have HB1 := Lib.hid b1; have HO1 := Lib.hid o1; clear i1 b1 o1)
      | (go_at_call 11; ((with_reducible refine (CR.out _).mono ?_); rintro e w2 ⟨p, v, rfl, i2, b2, o2⟩); have HP := Lib.hid (HST.out _ _ _ _ _ _ HI1.out HB1.out HO1.out i2 b2 o2); clear i2 b2 o2))
    clear HI1 HB1 HO1 HST CN CR CG hm hm2 hn
    go_loopw [9, 10] (fun vt i wr => ∃ k : Nat, k ≤ N ∧ i = .int .i64 k ∧ Hid (RoundI I w wr q p m k vt)) (fun _ i _ => N - (intOf i).toNat)
    case atStart => exact ⟨0, Nat.zero_le _, rfl, Lib.hid ⟨_, _, _, HP.out, List.length_replicate, Nat.le_refl _, Nat.le_refl _⟩⟩
    case round =>
      obtain ⟨k, hk, rfl, hM⟩ := hrel
      obtain ⟨L, tk, hs, M, hLm, ht1, ht2⟩ := hM.out
      have HM := Lib.hid M
      have HL := Lib.hid hLm
      clear M hM HP hLm
      have hN50 : N ≤ 50 := by rw [HN.out]; exact HGR.out.1
      by_cases hlt : k < N
      · obtain ⟨adr, a, v, rfl, hak, hat, _⟩ := acts_at (HA.out.keep HM.out.size) (k := k) (by rw [← HN.out]; exact hlt)
        obtain ⟨adr', a', v', hr', hak', hat', _⟩ := acts_at HA.out (k := k) (by rw [← HN.out]; exact hlt)
        obtain rfl := Option.some.inj hr'
        obtain rfl := Option.some.inj (hak.symm.trans hak')
        have hra := HGR.out.2 a (List.mem_of_getElem? hak)
        have c0 := hat.c0
        have c1 := hat.c1
        have c2 := hat.c2
        obtain rfl : v = v' := Option.some.inj (c2.symm.trans (((hat'.keep hat'.lt HM.out.size)).c2))
        have HRAW := Lib.hid hat'.r
        obtain ⟨aR, capR, rfl⟩ := hat'.r.form
        have hki := hat.ok.kind
        obtain ⟨hn1, hn2⟩ := hat.ok.n
        have HEO := Lib.hid hat.ok.raw
        have g1 : (k : Int) < (N : Int) := by omega
        have g0 : (0 : Int) ≤ (k : Int) := by omega
        clear hat hak hat' hak' hr'
        generalize a.kind = ki at *
        generalize a.n = an at *
        generalize a.raw = ra at *
        have e5 : (ki : Int) ≤ 255 := by omega
        obtain ⟨T, hT⟩ : ∃ T, T = tk.length := ⟨_, rfl⟩
        rw [← hT] at ht1 ht2
        have HT := Lib.hid hT
        clear hT
        have hkk : ki % 8 < 4 ∨ ki % 8 = 4 ∨ ki % 8 = 5 ∨ ki % 8 = 6 ∨ ki % 8 = 7 := by omega
        rcases hkk with hk4 | hkk4 | hkk4 | hkk4 | hkk4
        · obtain ⟨x, hx⟩ : ∃ x : Int, x = (ki : Int) % 8 := ⟨_, rfl⟩
          have x0 : 0 ≤ x := by omega
          have x1 : x < 4 := by omega
          have ex : (ki : Int) % 8 = x := hx.symm
          clear hx hk4
          have ea := i64_and31 an
          have e1 : 0 ≤ an % 32 := Int.emod_nonneg _ (by decide)
          have e2 : an % 32 < 32 := Int.emod_lt_of_pos _ (by decide)
          generalize an % 32 = y at *
          have hmany : (0 < an ∧ isI y) ∨ (an ≤ 0 ∧ isI an) := by
            by_cases h0 : 0 < an
            · exact .inl ⟨h0, by unfold isI; omega⟩
            · exact .inr ⟨by omega, hn1, hn2⟩
          obtain ⟨j0, ji, jz0, jz1, jz2⟩ := info_parts info_exts
          have M1 := Lib.hid (HM.out.box #[.int .u8 (ki : Int), .int .i64 an, .slice aR ra.length capR])
          rcases hmany with ⟨han, hI⟩ | ⟨han, hI⟩
          · obtain ⟨lt, bo, M, htk⟩ : ∃ lt bo M, takeL L y = (lt, bo, M) := ⟨_, _, _, rfl⟩
            have HTK := Lib.hid htk
            have hml := takeL_length L y
            rw [htk] at hml
            have HML := Lib.hid (show M.length = m from Eq.trans hml HL.out)
            clear htk hml
            go_wp2_with (first
              | (go_at_call 15; ((with_reducible refine (play_ptake M1.out _ hI HTK.out).mono ?_); rintro e w3 ⟨a3, cap3, rfl, m3⟩); have M3 := Lib.hid m3; clear m3 c0 c1 c2)
              | (go_at_call 16; ((with_reducible refine (play_rtake M3.out _ HTK.out).mono ?_); rintro e w4 ⟨a4, cap4, rfl, m4⟩); have M4 := Lib.hid m4; have CE := Lib.hid (extents_any (m4.owns (x := .slice a3 lt.length cap3) (l := lt) (by simp)).1 (m4.owns (x := .slice a4 lt.length cap4) (l := lt) (by simp)).1 (by have := (m4.owns (x := .slice a4 lt.length cap4) (l := lt) (by simp)).2; omega)); clear m4 M3)
              | (go_at_call 17; ((with_reducible refine (CE.out).mono ?_); rintro e w5 ⟨rfl, b5⟩); have M5 := Lib.hid (M4.out.below b5); clear M4 CE b5)
              | ((with_reducible show wpList _ _ _ (⟨some 101, _, _, _, _, _⟩ :: _) _ _); refine wpList_append_lies _ rfl _ _ 32 rfl w.heap.size 33 j0 (.slice none 0 0) 1 24 Try.underlying32 ji jz0 jz1 jz2 rfl (by decide) _ T (tk.map (·.1)) rfl (World.ownsRow.alloc (by have := M5.out.row; rw [← HT.out] at this; exact this) _) _ 1 1 [.slice a4 lt.length cap4] rfl rfl (World.news_of_block (heap_alloc_new _ _)) (by intro u hu; simp at hu; rw [hu]; rfl) (by decide) (by unfold maxLen; omega) (by omega) (by have := M5.out.size.size; rw [size_alloc]; omega) _ rfl ?_; intro g6 cap6 w6 hown6 hgrow6 hat6 hgl6; have M6 := Lib.hid (M5.out.append (y := (.slice a4 lt.length cap4, lt)) HT.out (by simp) hgrow6 hown6 (by rw [size_alloc] at hat6; exact hat6)); clear hown6 hgrow6 hat6 hgl6 M5)
              | (go_at_call 18; ((with_reducible refine (play_pused M6.out).mono ?_); rintro e wa ⟨rfl, ma⟩); have MA := Lib.hid ma; clear ma M6)
              | (go_at_call 19; ((with_reducible refine (play_rused MA.out).mono ?_); rintro e wb ⟨rfl, mb⟩); have MB := Lib.hid mb; have CS := play_psize mb; rw [HML.out] at CS; clear mb MA)
              | (go_at_call 20; ((with_reducible refine (CS).mono ?_); rintro e wc ⟨rfl, mc⟩); have MC := Lib.hid mc; clear mc MB CS)
              | (go_at_call 21; ((with_reducible refine (play_pbytes MC.out).mono ?_); rintro e wd ⟨rfl, md⟩); have MD := Lib.hid md; clear md MC)
              | (go_at_call 22; ((with_reducible refine (play_rbytes MD.out).mono ?_); rintro e we ⟨rfl, me⟩); have ME := Lib.hid me; clear me MD))
            go_roundw
            case rel => exact ⟨k + 1, by omega, by go_num, Lib.hid ⟨_, _, _, ME.out.less, HML.out, by rw [List.length_append]; simp, by rw [List.length_append, ← HT.out]; simp; omega⟩⟩
            case measure => simp [intOf]; omega
          · obtain ⟨lt, bo, M, htk⟩ : ∃ lt bo M, takeL L an = (lt, bo, M) := ⟨_, _, _, rfl⟩
            have HTK := Lib.hid htk
            have hml := takeL_length L an
            rw [htk] at hml
            have HML := Lib.hid (show M.length = m from Eq.trans hml HL.out)
            clear htk hml
            go_wp2_with (first
              | (go_at_call 15; ((with_reducible refine (play_ptake M1.out _ hI HTK.out).mono ?_); rintro e w3 ⟨a3, cap3, rfl, m3⟩); have M3 := Lib.hid m3; clear m3 c0 c1 c2)
              | (go_at_call 16; ((with_reducible refine (play_rtake M3.out _ HTK.out).mono ?_); rintro e w4 ⟨a4, cap4, rfl, m4⟩); have M4 := Lib.hid m4; have CE := Lib.hid (extents_any (m4.owns (x := .slice a3 lt.length cap3) (l := lt) (by simp)).1 (m4.owns (x := .slice a4 lt.length cap4) (l := lt) (by simp)).1 (by have := (m4.owns (x := .slice a4 lt.length cap4) (l := lt) (by simp)).2; omega)); clear m4 M3)
              | (go_at_call 17; ((with_reducible refine (CE.out).mono ?_); rintro e w5 ⟨rfl, b5⟩); have M5 := Lib.hid (M4.out.below b5); clear M4 CE b5)
              | ((with_reducible show wpList _ _ _ (⟨some 101, _, _, _, _, _⟩ :: _) _ _); refine wpList_append_lies _ rfl _ _ 32 rfl w.heap.size 33 j0 (.slice none 0 0) 1 24 Try.underlying32 ji jz0 jz1 jz2 rfl (by decide) _ T (tk.map (·.1)) rfl (World.ownsRow.alloc (by have := M5.out.row; rw [← HT.out] at this; exact this) _) _ 1 1 [.slice a4 lt.length cap4] rfl rfl (World.news_of_block (heap_alloc_new _ _)) (by intro u hu; simp at hu; rw [hu]; rfl) (by decide) (by unfold maxLen; omega) (by omega) (by have := M5.out.size.size; rw [size_alloc]; omega) _ rfl ?_; intro g6 cap6 w6 hown6 hgrow6 hat6 hgl6; have M6 := Lib.hid (M5.out.append (y := (.slice a4 lt.length cap4, lt)) HT.out (by simp) hgrow6 hown6 (by rw [size_alloc] at hat6; exact hat6)); clear hown6 hgrow6 hat6 hgl6 M5)
              | (go_at_call 18; ((with_reducible refine (play_pused M6.out).mono ?_); rintro e wa ⟨rfl, ma⟩); have MA := Lib.hid ma; clear ma M6)
              | (go_at_call 19; ((with_reducible refine (play_rused MA.out).mono ?_); rintro e wb ⟨rfl, mb⟩); have MB := Lib.hid mb; have CS := play_psize mb; rw [HML.out] at CS; clear mb MA)
              | (go_at_call 20; ((with_reducible refine (CS).mono ?_); rintro e wc ⟨rfl, mc⟩); have MC := Lib.hid mc; clear mc MB CS)
              | (go_at_call 21; ((with_reducible refine (play_pbytes MC.out).mono ?_); rintro e wd ⟨rfl, md⟩); have MD := Lib.hid md; clear md MC)
              | (go_at_call 22; ((with_reducible refine (play_rbytes MD.out).mono ?_); rintro e we ⟨rfl, me⟩); have ME := Lib.hid me; clear me MD))
            go_roundw
            case rel => exact ⟨k + 1, by omega, by go_num, Lib.hid ⟨_, _, _, ME.out.less, HML.out, by rw [List.length_append]; simp, by rw [List.length_append, ← HT.out]; simp; omega⟩⟩
            case measure => simp [intOf]; omega
        · have e4 : (ki : Int) % 8 = 4 := by omega
          have ea := i64_and255 an
          have e1 : 0 ≤ an % 256 := Int.emod_nonneg _ (by decide)
          have e2 : an % 256 < 256 := Int.emod_lt_of_pos _ (by decide)
          generalize an % 256 = y0 at *
          obtain ⟨y, rfl⟩ : ∃ y : Nat, y0 = y := ⟨y0.toNat, by omega⟩
          obtain ⟨kx, hkx⟩ : ∃ kx, kx = y % T := ⟨_, rfl⟩
          have hkT : kx < T := by rw [hkx]; exact Nat.mod_lt _ (by omega)
          have em : (y : Int) % (T : Int) = (kx : Int) := by rw [hkx]; exact (Int.natCast_emod y T).symm
          have hkt : kx < tk.length := by rw [← HT.out]; exact hkT
          obtain ⟨gT, capT, hvt, hcell⟩ := HM.out.taken hkt
          rw [← HT.out] at hvt
          subst hvt
          obtain ⟨yv, hyv⟩ : ∃ yv, yv = tk[kx].1 := ⟨_, rfl⟩
          obtain ⟨yl, hyl⟩ : ∃ yl, yl = tk[kx].2 := ⟨_, rfl⟩
          have hmem : (yv, yl) ∈ hs := by rw [hyv, hyl]; obtain ⟨_, _, hC⟩ := HM.out; exact hC.sub _ (List.getElem_mem hkt)
          have M1 := Lib.hid (HM.out.box #[.int .u8 (ki : Int), .int .i64 an, .slice aR ra.length capR])
          have HS26 := Lib.hid (fun (w' : World) (LP LR : List Bool) (m' : PlayI I w w' q p LP LR (.slice (some ⟨gT, 0, none⟩) T capT) tk hs ((wr.heap.size, #[.int .u8 (ki : Int), .int .i64 an, .slice aR ra.length capR]) :: [])) => show w'.cell? ⟨gT, kx, none⟩ = some yv by
            obtain ⟨g', c', hv', hc'⟩ := m'.taken hkt
            simp only [Value.slice.injEq, Option.some.injEq, Addr.mk.injEq] at hv'
            rw [← hv'.1.1] at hc'
            rw [hyv]
            exact hc')
          obtain ⟨bo, M, hgv⟩ : ∃ bo M, giveR L (toI yl) = (bo, M) := ⟨_, _, rfl⟩
          have hml := giveR_length L (toI yl)
          rw [hgv] at hml
          have HML := Lib.hid (show M.length = m from Eq.trans hml HL.out)
          have C1 := Lib.hid (fun w' (m' : PlayI I w w' q p L L (.slice (some ⟨gT, 0, none⟩) T capT) tk hs ((wr.heap.size, #[.int .u8 (ki : Int), .int .i64 an, .slice aR ra.length capR]) :: [])) => play_pgive m' (m'.ext hmem).1 (m'.ext hmem).2.1 (m'.ext hmem).2.2 hgv)
          have C2 := Lib.hid (fun w' (m' : PlayI I w w' q p M L (.slice (some ⟨gT, 0, none⟩) T capT) tk hs ((wr.heap.size, #[.int .u8 (ki : Int), .int .i64 an, .slice aR ra.length capR]) :: [])) => play_rgive m' (m'.ext hmem).1 (m'.ext hmem).2.1 hgv)
          clear hml hgv hyv hyl hmem hcell hkt hkx hkk4 HM
          go_wp2
          generalize wr.alloc _ = w2 at *
          have md := M1.out.below (Below.refl w2.heap.size w2).drew
          obtain ⟨SS, hSS⟩ : ∃ SS : World → Prop, SS = fun w' => w'.cell? ⟨gT, kx, none⟩ = some yv := ⟨_, rfl⟩
          have SO : ∀ w', w'.cell? ⟨gT, kx, none⟩ = some yv → SS w' := fun w' m' => by rw [hSS]; exact m'
          have OS : ∀ w', SS w' → w'.cell? ⟨gT, kx, none⟩ = some yv := fun w' h => by rw [hSS] at h; exact h
          clear hSS c0 c1 c2 M1
          refine wp_region_noPanic ?_
          refine wp_region_held_drew (S := SS) (by kernel_rfl) (SO _ (HS26.out _ _ _ md)) (fun hHeld => ?_)
          refine wpAnyH_take (i := 0) (oi := { dst := some 111, op := Op.move (Operand.tmp 5), type := 25, pos := "law.go:74", after := #[], guard := none }) (v := ?_) rfl (by kernel_rfl) (by kernel_rfl) (by kernel_rfl) (fun _ _ _ h => h) (Or.inl ⟨by rfl, ?_⟩) (by assumption) ?_
          rotate_left
          · intro w hSw
            skip
            clear hSw
            go_simp
            try with_reducible rfl
          try simp only [Act.put, List.setIfInBounds_toArray, List.set_cons_zero, List.set_cons_succ]
          refine wpAnyH_take (i := 1) (oi := { dst := some 112, op := Op.move (Operand.tmp 9), type := 32, pos := "law.go:74", after := #[], guard := none }) (v := ?_) rfl (by kernel_rfl) (by kernel_rfl) (by kernel_rfl) (fun _ _ _ h => h) (Or.inl ⟨by rfl, ?_⟩) (by assumption) ?_
          rotate_left
          · intro w hSw
            skip
            clear hSw
            go_simp
            try with_reducible rfl
          try simp only [Act.put, List.setIfInBounds_toArray, List.set_cons_zero, List.set_cons_succ]
          refine wpAnyH_take (i := 2) (oi := { dst := some 113, op := Op.move (Operand.tmp 12), type := 3, pos := "law.go:74", after := #[], guard := none }) (v := ?_) rfl (by kernel_rfl) (by kernel_rfl) (by kernel_rfl) (fun _ _ _ h => h) (Or.inl ⟨by rfl, ?_⟩) (by assumption) ?_
          rotate_left
          · intro w hSw
            skip
            clear hSw
            go_simp
            try with_reducible rfl
          try simp only [Act.put, List.setIfInBounds_toArray, List.set_cons_zero, List.set_cons_succ]
          refine wpAnyH_take (i := 3) (oi := { dst := some 114, op := Op.indexAddr 32 (Operand.tmp 112) (Operand.tmp 113), type := 0, pos := "law.go:74", after := #[{ on := 1, ground := Ground.data }, { on := 2, ground := Ground.data }], guard := none }) (v := ?_) rfl (by kernel_rfl) (by kernel_rfl) (by kernel_rfl) (fun _ _ _ h => h) (Or.inl ⟨by rfl, ?_⟩) (by assumption) ?_
          rotate_left
          · intro w hSw
            skip
            clear hSw
            go_simp
            try with_reducible rfl
          try simp only [Act.put, List.setIfInBounds_toArray, List.set_cons_zero, List.set_cons_succ]
          refine wpAnyH_take (i := 6) (oi := { dst := some 117, op := Op.move (Operand.tmp 7), type := 29, pos := "law.go:74", after := #[], guard := none }) (v := ?_) rfl (by kernel_rfl) (by kernel_rfl) (by kernel_rfl) (fun _ _ _ h => h) (Or.inl ⟨by rfl, ?_⟩) (by assumption) ?_
          rotate_left
          · intro w hSw
            skip
            clear hSw
            go_simp
            try with_reducible rfl
          try simp only [Act.put, List.setIfInBounds_toArray, List.set_cons_zero, List.set_cons_succ]
          refine wpAnyH_take (i := 7) (oi := { dst := some 118, op := Op.move (Operand.tmp 9), type := 32, pos := "law.go:74", after := #[], guard := none }) (v := ?_) rfl (by kernel_rfl) (by kernel_rfl) (by kernel_rfl) (fun _ _ _ h => h) (Or.inl ⟨by rfl, ?_⟩) (by assumption) ?_
          rotate_left
          · intro w hSw
            skip
            clear hSw
            go_simp
            try with_reducible rfl
          try simp only [Act.put, List.setIfInBounds_toArray, List.set_cons_zero, List.set_cons_succ]
          refine wpAnyH_take (i := 8) (oi := { dst := some 119, op := Op.move (Operand.tmp 12), type := 3, pos := "law.go:74", after := #[], guard := none }) (v := ?_) rfl (by kernel_rfl) (by kernel_rfl) (by kernel_rfl) (fun _ _ _ h => h) (Or.inl ⟨by rfl, ?_⟩) (by assumption) ?_
          rotate_left
          · intro w hSw
            skip
            clear hSw
            go_simp
            try with_reducible rfl
          try simp only [Act.put, List.setIfInBounds_toArray, List.set_cons_zero, List.set_cons_succ]
          refine wpAnyH_take (i := 9) (oi := { dst := some 120, op := Op.indexAddr 32 (Operand.tmp 118) (Operand.tmp 119), type := 0, pos := "law.go:74", after := #[{ on := 7, ground := Ground.data }, { on := 8, ground := Ground.data }], guard := none }) (v := ?_) rfl (by kernel_rfl) (by kernel_rfl) (by kernel_rfl) (fun _ _ _ h => h) (Or.inl ⟨by rfl, ?_⟩) (by assumption) ?_
          rotate_left
          · intro w hSw
            skip
            clear hSw
            go_simp
            try with_reducible rfl
          try simp only [Act.put, List.setIfInBounds_toArray, List.set_cons_zero, List.set_cons_succ]
          refine wpAnyH_take (i := 4) (oi := { dst := some 115, op := Op.load 33 (Operand.tmp 114), type := 33, pos := "law.go:74", after := #[{ on := 3, ground := Ground.data }], guard := none }) (v := ?_) rfl (by kernel_rfl) (by kernel_rfl) (by kernel_rfl) (fun _ _ _ h => h) (Or.inl ⟨by rfl, ?_⟩) (by assumption) ?_
          rotate_left
          · intro w hSw
            have hSw := OS _ hSw
            go_simp
            try with_reducible rfl
          try simp only [Act.put, List.setIfInBounds_toArray, List.set_cons_zero, List.set_cons_succ]
          refine wpAnyH_take (i := 10) (oi := { dst := some 121, op := Op.load 33 (Operand.tmp 120), type := 33, pos := "law.go:74", after := #[{ on := 9, ground := Ground.data }], guard := none }) (v := ?_) rfl (by kernel_rfl) (by kernel_rfl) (by kernel_rfl) (fun _ _ _ h => h) (Or.inl ⟨by rfl, ?_⟩) (by assumption) ?_
          rotate_left
          · intro w hSw
            have hSw := OS _ hSw
            go_simp
            try with_reducible rfl
          try simp only [Act.put, List.setIfInBounds_toArray, List.set_cons_zero, List.set_cons_succ]
          refine wpAnyH_ready (rs := [5]) (by kernel_rfl) (by simp) ?_
          refine (AllReadyH.cons (o := { dst := some 116, op := Op.call { callee := Callee.value (Operand.func 12), args := #[Operand.tmp 111, Operand.tmp 115], argTypes := #[25, 33] }, type := 4, pos := "law.go:74", after := #[{ on := 0, ground := Ground.data }, { on := 4, ground := Ground.data }], guard := none }) rfl (fun K hK => ?_) AllReadyH.nil)
          go_simp
          refine (C1.out _ (by assumption)).mono ?_
          rintro e w5' ⟨rfl, m5'⟩
          refine hK.out _ _ (SO _ (HS26.out _ _ _ m5')) (fun hHeld => ?_)
          clear hK K
          try simp only [Act.put, List.setIfInBounds_toArray, List.set_cons_zero, List.set_cons_succ]
          refine wpAnyH_ready (rs := [11]) (by kernel_rfl) (by simp) ?_
          refine (AllReadyH.cons (o := { dst := some 122, op := Op.call { callee := Callee.value (Operand.func 13), args := #[Operand.tmp 117, Operand.tmp 121], argTypes := #[29, 33] }, type := 4, pos := "law.go:74", after := #[{ on := 6, ground := Ground.data }, { on := 10, ground := Ground.data }, { on := 5, ground := Ground.chain }], guard := none }) rfl (fun K hK => ?_) AllReadyH.nil)
          go_simp
          refine (C2.out _ (by assumption)).mono ?_
          rintro e w11' ⟨rfl, m11'⟩
          refine hK.out _ _ (SO _ (HS26.out _ _ _ m11')) (fun hHeld => ?_)
          clear hK K
          try simp only [Act.put, List.setIfInBounds_toArray, List.set_cons_zero, List.set_cons_succ]
          refine wpAnyH_take (i := 12) (oi := { dst := some 123, op := Op.binOp BinOp.neq 4 (Operand.tmp 116) (Operand.tmp 122) 4, type := 4, pos := "law.go:74", after := #[{ on := 5, ground := Ground.data }, { on := 11, ground := Ground.data }], guard := none }) (v := ?_) rfl (by kernel_rfl) (by kernel_rfl) (by kernel_rfl) (fun _ _ _ h => h) (Or.inl ⟨by rfl, ?_⟩) (by assumption) ?_
          rotate_left
          · intro w hSw
            skip
            clear hSw
            go_simp
            try with_reducible rfl
          try simp only [Act.put, List.setIfInBounds_toArray, List.set_cons_zero, List.set_cons_succ]
          refine wpAnyH_done (by kernel_rfl) ?_ _
          refine NoPanic.normal ?_
          have M6 := Lib.hid m11'
          clear m5' m11' md
          go_wp2_with (first
            | (go_at_call 18; ((with_reducible refine (play_pused M6.out).mono ?_); rintro e wa ⟨rfl, ma⟩); have MA := Lib.hid ma; clear ma M6)
            | (go_at_call 19; ((with_reducible refine (play_rused MA.out).mono ?_); rintro e wb ⟨rfl, mb⟩); have MB := Lib.hid mb; have CS := play_psize mb; rw [HML.out] at CS; clear mb MA)
            | (go_at_call 20; ((with_reducible refine (CS).mono ?_); rintro e wc ⟨rfl, mc⟩); have MC := Lib.hid mc; clear mc MB CS)
            | (go_at_call 21; ((with_reducible refine (play_pbytes MC.out).mono ?_); rintro e wd ⟨rfl, md⟩); have MD := Lib.hid md; clear md MC)
            | (go_at_call 22; ((with_reducible refine (play_rbytes MD.out).mono ?_); rintro e we ⟨rfl, me⟩); have ME := Lib.hid me; clear me MD))
          go_roundw
          case rel => exact ⟨k + 1, by omega, by go_num, Lib.hid ⟨_, _, _, ME.out.less, HML.out, by rw [← HT.out]; exact ht1, by rw [← HT.out]; omega⟩⟩
          case measure => simp [intOf]; omega
        · have e4 : (ki : Int) % 8 = 5 := by omega
          have ea := i64_and255 an
          have e1 : 0 ≤ an % 256 := Int.emod_nonneg _ (by decide)
          have e2 : an % 256 < 256 := Int.emod_lt_of_pos _ (by decide)
          generalize an % 256 = y0 at *
          obtain ⟨y, rfl⟩ : ∃ y : Nat, y0 = y := ⟨y0.toNat, by omega⟩
          obtain ⟨kx, hkx⟩ : ∃ kx, kx = y % T := ⟨_, rfl⟩
          have hkT : kx < T := by rw [hkx]; exact Nat.mod_lt _ (by omega)
          have em : (y : Int) % (T : Int) = (kx : Int) := by rw [hkx]; exact (Int.natCast_emod y T).symm
          have hkt : kx < tk.length := by rw [← HT.out]; exact hkT
          obtain ⟨gT, capT, hvt, hcell⟩ := HM.out.taken hkt
          rw [← HT.out] at hvt
          subst hvt
          obtain ⟨yv, hyv⟩ : ∃ yv, yv = tk[kx].1 := ⟨_, rfl⟩
          obtain ⟨yl, hyl⟩ : ∃ yl, yl = tk[kx].2 := ⟨_, rfl⟩
          have hmem : (yv, yl) ∈ hs := by rw [hyv, hyl]; obtain ⟨_, _, hC⟩ := HM.out; exact hC.sub _ (List.getElem_mem hkt)
          have M1 := Lib.hid (HM.out.box #[.int .u8 (ki : Int), .int .i64 an, .slice aR ra.length capR])
          have HS26 := Lib.hid (fun (w' : World) (LP LR : List Bool) (m' : PlayI I w w' q p LP LR (.slice (some ⟨gT, 0, none⟩) T capT) tk hs ((wr.heap.size, #[.int .u8 (ki : Int), .int .i64 an, .slice aR ra.length capR]) :: [])) => show w'.cell? ⟨gT, kx, none⟩ = some yv by
            obtain ⟨g', c', hv', hc'⟩ := m'.taken hkt
            simp only [Value.slice.injEq, Option.some.injEq, Addr.mk.injEq] at hv'
            rw [← hv'.1.1] at hc'
            rw [hyv]
            exact hc')
          obtain ⟨bo, M, hgv⟩ : ∃ bo M, giveR L (toI yl) = (bo, M) := ⟨_, _, rfl⟩
          have hml := giveR_length L (toI yl)
          rw [hgv] at hml
          have HML := Lib.hid (show M.length = m from Eq.trans hml HL.out)
          have C1 := Lib.hid (fun w' (m' : PlayI I w w' q p L L (.slice (some ⟨gT, 0, none⟩) T capT) tk hs ((wr.heap.size, #[.int .u8 (ki : Int), .int .i64 an, .slice aR ra.length capR]) :: [])) => play_pgive m' (m'.ext hmem).1 (m'.ext hmem).2.1 (m'.ext hmem).2.2 hgv)
          have C2 := Lib.hid (fun w' (m' : PlayI I w w' q p M L (.slice (some ⟨gT, 0, none⟩) T capT) tk hs ((wr.heap.size, #[.int .u8 (ki : Int), .int .i64 an, .slice aR ra.length capR]) :: [])) => play_rgive m' (m'.ext hmem).1 (m'.ext hmem).2.1 hgv)
          clear hml hgv hyv hyl hmem hcell hkt hkx hkk4 HM
          go_wp2
          generalize wr.alloc _ = w2 at *
          have md := M1.out.below (Below.refl w2.heap.size w2).drew
          obtain ⟨SS, hSS⟩ : ∃ SS : World → Prop, SS = fun w' => w'.cell? ⟨gT, kx, none⟩ = some yv := ⟨_, rfl⟩
          have SO : ∀ w', w'.cell? ⟨gT, kx, none⟩ = some yv → SS w' := fun w' m' => by rw [hSS]; exact m'
          have OS : ∀ w', SS w' → w'.cell? ⟨gT, kx, none⟩ = some yv := fun w' h => by rw [hSS] at h; exact h
          clear hSS c0 c1 c2 M1
          refine wp_region_noPanic ?_
          refine wp_region_held_drew (S := SS) (by kernel_rfl) (SO _ (HS26.out _ _ _ md)) (fun hHeld => ?_)
          refine wpAnyH_take (i := 0) (oi := { dst := some 111, op := Op.move (Operand.tmp 5), type := 25, pos := "law.go:74", after := #[], guard := none }) (v := ?_) rfl (by kernel_rfl) (by kernel_rfl) (by kernel_rfl) (fun _ _ _ h => h) (Or.inl ⟨by rfl, ?_⟩) (by assumption) ?_
          rotate_left
          · intro w hSw
            skip
            clear hSw
            go_simp
            try with_reducible rfl
          try simp only [Act.put, List.setIfInBounds_toArray, List.set_cons_zero, List.set_cons_succ]
          refine wpAnyH_take (i := 1) (oi := { dst := some 112, op := Op.move (Operand.tmp 9), type := 32, pos := "law.go:74", after := #[], guard := none }) (v := ?_) rfl (by kernel_rfl) (by kernel_rfl) (by kernel_rfl) (fun _ _ _ h => h) (Or.inl ⟨by rfl, ?_⟩) (by assumption) ?_
          rotate_left
          · intro w hSw
            skip
            clear hSw
            go_simp
            try with_reducible rfl
          try simp only [Act.put, List.setIfInBounds_toArray, List.set_cons_zero, List.set_cons_succ]
          refine wpAnyH_take (i := 2) (oi := { dst := some 113, op := Op.move (Operand.tmp 12), type := 3, pos := "law.go:74", after := #[], guard := none }) (v := ?_) rfl (by kernel_rfl) (by kernel_rfl) (by kernel_rfl) (fun _ _ _ h => h) (Or.inl ⟨by rfl, ?_⟩) (by assumption) ?_
          rotate_left
          · intro w hSw
            skip
            clear hSw
            go_simp
            try with_reducible rfl
          try simp only [Act.put, List.setIfInBounds_toArray, List.set_cons_zero, List.set_cons_succ]
          refine wpAnyH_take (i := 3) (oi := { dst := some 114, op := Op.indexAddr 32 (Operand.tmp 112) (Operand.tmp 113), type := 0, pos := "law.go:74", after := #[{ on := 1, ground := Ground.data }, { on := 2, ground := Ground.data }], guard := none }) (v := ?_) rfl (by kernel_rfl) (by kernel_rfl) (by kernel_rfl) (fun _ _ _ h => h) (Or.inl ⟨by rfl, ?_⟩) (by assumption) ?_
          rotate_left
          · intro w hSw
            skip
            clear hSw
            go_simp
            try with_reducible rfl
          try simp only [Act.put, List.setIfInBounds_toArray, List.set_cons_zero, List.set_cons_succ]
          refine wpAnyH_take (i := 6) (oi := { dst := some 117, op := Op.move (Operand.tmp 7), type := 29, pos := "law.go:74", after := #[], guard := none }) (v := ?_) rfl (by kernel_rfl) (by kernel_rfl) (by kernel_rfl) (fun _ _ _ h => h) (Or.inl ⟨by rfl, ?_⟩) (by assumption) ?_
          rotate_left
          · intro w hSw
            skip
            clear hSw
            go_simp
            try with_reducible rfl
          try simp only [Act.put, List.setIfInBounds_toArray, List.set_cons_zero, List.set_cons_succ]
          refine wpAnyH_take (i := 7) (oi := { dst := some 118, op := Op.move (Operand.tmp 9), type := 32, pos := "law.go:74", after := #[], guard := none }) (v := ?_) rfl (by kernel_rfl) (by kernel_rfl) (by kernel_rfl) (fun _ _ _ h => h) (Or.inl ⟨by rfl, ?_⟩) (by assumption) ?_
          rotate_left
          · intro w hSw
            skip
            clear hSw
            go_simp
            try with_reducible rfl
          try simp only [Act.put, List.setIfInBounds_toArray, List.set_cons_zero, List.set_cons_succ]
          refine wpAnyH_take (i := 8) (oi := { dst := some 119, op := Op.move (Operand.tmp 12), type := 3, pos := "law.go:74", after := #[], guard := none }) (v := ?_) rfl (by kernel_rfl) (by kernel_rfl) (by kernel_rfl) (fun _ _ _ h => h) (Or.inl ⟨by rfl, ?_⟩) (by assumption) ?_
          rotate_left
          · intro w hSw
            skip
            clear hSw
            go_simp
            try with_reducible rfl
          try simp only [Act.put, List.setIfInBounds_toArray, List.set_cons_zero, List.set_cons_succ]
          refine wpAnyH_take (i := 9) (oi := { dst := some 120, op := Op.indexAddr 32 (Operand.tmp 118) (Operand.tmp 119), type := 0, pos := "law.go:74", after := #[{ on := 7, ground := Ground.data }, { on := 8, ground := Ground.data }], guard := none }) (v := ?_) rfl (by kernel_rfl) (by kernel_rfl) (by kernel_rfl) (fun _ _ _ h => h) (Or.inl ⟨by rfl, ?_⟩) (by assumption) ?_
          rotate_left
          · intro w hSw
            skip
            clear hSw
            go_simp
            try with_reducible rfl
          try simp only [Act.put, List.setIfInBounds_toArray, List.set_cons_zero, List.set_cons_succ]
          refine wpAnyH_take (i := 4) (oi := { dst := some 115, op := Op.load 33 (Operand.tmp 114), type := 33, pos := "law.go:74", after := #[{ on := 3, ground := Ground.data }], guard := none }) (v := ?_) rfl (by kernel_rfl) (by kernel_rfl) (by kernel_rfl) (fun _ _ _ h => h) (Or.inl ⟨by rfl, ?_⟩) (by assumption) ?_
          rotate_left
          · intro w hSw
            have hSw := OS _ hSw
            go_simp
            try with_reducible rfl
          try simp only [Act.put, List.setIfInBounds_toArray, List.set_cons_zero, List.set_cons_succ]
          refine wpAnyH_take (i := 10) (oi := { dst := some 121, op := Op.load 33 (Operand.tmp 120), type := 33, pos := "law.go:74", after := #[{ on := 9, ground := Ground.data }], guard := none }) (v := ?_) rfl (by kernel_rfl) (by kernel_rfl) (by kernel_rfl) (fun _ _ _ h => h) (Or.inl ⟨by rfl, ?_⟩) (by assumption) ?_
          rotate_left
          · intro w hSw
            have hSw := OS _ hSw
            go_simp
            try with_reducible rfl
          try simp only [Act.put, List.setIfInBounds_toArray, List.set_cons_zero, List.set_cons_succ]
          refine wpAnyH_ready (rs := [5]) (by kernel_rfl) (by simp) ?_
          refine (AllReadyH.cons (o := { dst := some 116, op := Op.call { callee := Callee.value (Operand.func 12), args := #[Operand.tmp 111, Operand.tmp 115], argTypes := #[25, 33] }, type := 4, pos := "law.go:74", after := #[{ on := 0, ground := Ground.data }, { on := 4, ground := Ground.data }], guard := none }) rfl (fun K hK => ?_) AllReadyH.nil)
          go_simp
          refine (C1.out _ (by assumption)).mono ?_
          rintro e w5' ⟨rfl, m5'⟩
          refine hK.out _ _ (SO _ (HS26.out _ _ _ m5')) (fun hHeld => ?_)
          clear hK K
          try simp only [Act.put, List.setIfInBounds_toArray, List.set_cons_zero, List.set_cons_succ]
          refine wpAnyH_ready (rs := [11]) (by kernel_rfl) (by simp) ?_
          refine (AllReadyH.cons (o := { dst := some 122, op := Op.call { callee := Callee.value (Operand.func 13), args := #[Operand.tmp 117, Operand.tmp 121], argTypes := #[29, 33] }, type := 4, pos := "law.go:74", after := #[{ on := 6, ground := Ground.data }, { on := 10, ground := Ground.data }, { on := 5, ground := Ground.chain }], guard := none }) rfl (fun K hK => ?_) AllReadyH.nil)
          go_simp
          refine (C2.out _ (by assumption)).mono ?_
          rintro e w11' ⟨rfl, m11'⟩
          refine hK.out _ _ (SO _ (HS26.out _ _ _ m11')) (fun hHeld => ?_)
          clear hK K
          try simp only [Act.put, List.setIfInBounds_toArray, List.set_cons_zero, List.set_cons_succ]
          refine wpAnyH_take (i := 12) (oi := { dst := some 123, op := Op.binOp BinOp.neq 4 (Operand.tmp 116) (Operand.tmp 122) 4, type := 4, pos := "law.go:74", after := #[{ on := 5, ground := Ground.data }, { on := 11, ground := Ground.data }], guard := none }) (v := ?_) rfl (by kernel_rfl) (by kernel_rfl) (by kernel_rfl) (fun _ _ _ h => h) (Or.inl ⟨by rfl, ?_⟩) (by assumption) ?_
          rotate_left
          · intro w hSw
            skip
            clear hSw
            go_simp
            try with_reducible rfl
          try simp only [Act.put, List.setIfInBounds_toArray, List.set_cons_zero, List.set_cons_succ]
          refine wpAnyH_done (by kernel_rfl) ?_ _
          refine NoPanic.normal ?_
          have M6 := Lib.hid m11'
          clear m5' m11' md
          go_wp2_with (first
            | (go_at_call 18; ((with_reducible refine (play_pused M6.out).mono ?_); rintro e wa ⟨rfl, ma⟩); have MA := Lib.hid ma; clear ma M6)
            | (go_at_call 19; ((with_reducible refine (play_rused MA.out).mono ?_); rintro e wb ⟨rfl, mb⟩); have MB := Lib.hid mb; have CS := play_psize mb; rw [HML.out] at CS; clear mb MA)
            | (go_at_call 20; ((with_reducible refine (CS).mono ?_); rintro e wc ⟨rfl, mc⟩); have MC := Lib.hid mc; clear mc MB CS)
            | (go_at_call 21; ((with_reducible refine (play_pbytes MC.out).mono ?_); rintro e wd ⟨rfl, md⟩); have MD := Lib.hid md; clear md MC)
            | (go_at_call 22; ((with_reducible refine (play_rbytes MD.out).mono ?_); rintro e we ⟨rfl, me⟩); have ME := Lib.hid me; clear me MD))
          go_roundw
          case rel => exact ⟨k + 1, by omega, by go_num, Lib.hid ⟨_, _, _, ME.out.less, HML.out, by rw [← HT.out]; exact ht1, by rw [← HT.out]; omega⟩⟩
          case measure => simp [intOf]; omega
        · have e4 : (ki : Int) % 8 = 6 := by omega
          have M1 := Lib.hid (HM.out.box #[.int .u8 (ki : Int), .int .i64 an, .slice aR ra.length capR])
          have HS29 := Lib.hid (fun (w' : World) (LP LR : List Bool) (m' : PlayI I w w' q p LP LR u9 tk hs ((wr.heap.size, #[.int .u8 (ki : Int), .int .i64 an, .slice aR ra.length capR]) :: [])) => show w'.cell? ⟨wr.heap.size, 2, none⟩ = some (.slice aR ra.length capR) from rowC_cell (m'.boxAt (b := wr.heap.size) (cs := #[.int .u8 (ki : Int), .int .i64 an, .slice aR ra.length capR]) (by simp)) 2)
          obtain ⟨bo, M, hgv⟩ : ∃ bo M, giveR L ra = (bo, M) := ⟨_, _, rfl⟩
          have hml := giveR_length L ra
          rw [hgv] at hml
          have HML := Lib.hid (show M.length = m from Eq.trans hml HL.out)
          have C1 := Lib.hid (fun w' (m' : PlayI I w w' q p L L u9 tk hs ((wr.heap.size, #[.int .u8 (ki : Int), .int .i64 an, .slice aR ra.length capR]) :: [])) => play_pgive m' (m'.came HRAW.out).1 HEO.out (m'.came HRAW.out).2 hgv)
          have C2 := Lib.hid (fun w' (m' : PlayI I w w' q p M L u9 tk hs ((wr.heap.size, #[.int .u8 (ki : Int), .int .i64 an, .slice aR ra.length capR]) :: [])) => play_rgive m' (m'.came HRAW.out).1 HEO.out hgv)
          clear hml hgv hkk4 HM HRAW HEO
          go_wp2
          generalize wr.alloc _ = w2 at *
          have md := M1.out.below (Below.refl w2.heap.size w2).drew
          obtain ⟨SS, hSS⟩ : ∃ SS : World → Prop, SS = fun w' => w'.cell? ⟨wr.heap.size, 2, none⟩ = some (.slice aR ra.length capR) := ⟨_, rfl⟩
          have SO : ∀ w', w'.cell? ⟨wr.heap.size, 2, none⟩ = some (.slice aR ra.length capR) → SS w' := fun w' m' => by rw [hSS]; exact m'
          have OS : ∀ w', SS w' → w'.cell? ⟨wr.heap.size, 2, none⟩ = some (.slice aR ra.length capR) := fun w' h => by rw [hSS] at h; exact h
          clear hSS c0 c1 c2 M1
          refine wp_region_noPanic ?_
          refine wp_region_held_drew (S := SS) (by kernel_rfl) (SO _ (HS29.out _ _ _ md)) (fun hHeld => ?_)
          refine wpAnyH_take (i := 0) (oi := { dst := some 126, op := Op.move (Operand.tmp 5), type := 25, pos := "law.go:78", after := #[], guard := none }) (v := ?_) rfl (by kernel_rfl) (by kernel_rfl) (by kernel_rfl) (fun _ _ _ h => h) (Or.inl ⟨by rfl, ?_⟩) (by assumption) ?_
          rotate_left
          · intro w hSw
            skip
            clear hSw
            go_simp
            try with_reducible rfl
          try simp only [Act.put, List.setIfInBounds_toArray, List.set_cons_zero, List.set_cons_succ]
          refine wpAnyH_take (i := 1) (oi := { dst := some 127, op := Op.fieldAddr 35 (Operand.tmp 11) 2, type := 0, pos := "law.go:78", after := #[], guard := none }) (v := ?_) rfl (by kernel_rfl) (by kernel_rfl) (by kernel_rfl) (fun _ _ _ h => h) (Or.inl ⟨by rfl, ?_⟩) (by assumption) ?_
          rotate_left
          · intro w hSw
            skip
            clear hSw
            go_simp
            try with_reducible rfl
          try simp only [Act.put, List.setIfInBounds_toArray, List.set_cons_zero, List.set_cons_succ]
          refine wpAnyH_take (i := 4) (oi := { dst := some 130, op := Op.move (Operand.tmp 7), type := 29, pos := "law.go:78", after := #[], guard := none }) (v := ?_) rfl (by kernel_rfl) (by kernel_rfl) (by kernel_rfl) (fun _ _ _ h => h) (Or.inl ⟨by rfl, ?_⟩) (by assumption) ?_
          rotate_left
          · intro w hSw
            skip
            clear hSw
            go_simp
            try with_reducible rfl
          try simp only [Act.put, List.setIfInBounds_toArray, List.set_cons_zero, List.set_cons_succ]
          refine wpAnyH_take (i := 5) (oi := { dst := some 131, op := Op.fieldAddr 35 (Operand.tmp 11) 2, type := 0, pos := "law.go:78", after := #[], guard := none }) (v := ?_) rfl (by kernel_rfl) (by kernel_rfl) (by kernel_rfl) (fun _ _ _ h => h) (Or.inl ⟨by rfl, ?_⟩) (by assumption) ?_
          rotate_left
          · intro w hSw
            skip
            clear hSw
            go_simp
            try with_reducible rfl
          try simp only [Act.put, List.setIfInBounds_toArray, List.set_cons_zero, List.set_cons_succ]
          refine wpAnyH_take (i := 2) (oi := { dst := some 128, op := Op.load 33 (Operand.tmp 127), type := 33, pos := "law.go:78", after := #[{ on := 1, ground := Ground.data }], guard := none }) (v := ?_) rfl (by kernel_rfl) (by kernel_rfl) (by kernel_rfl) (fun _ _ _ h => h) (Or.inl ⟨by rfl, ?_⟩) (by assumption) ?_
          rotate_left
          · intro w hSw
            have hSw := OS _ hSw
            go_simp
            try with_reducible rfl
          try simp only [Act.put, List.setIfInBounds_toArray, List.set_cons_zero, List.set_cons_succ]
          refine wpAnyH_take (i := 6) (oi := { dst := some 132, op := Op.load 33 (Operand.tmp 131), type := 33, pos := "law.go:78", after := #[{ on := 5, ground := Ground.data }], guard := none }) (v := ?_) rfl (by kernel_rfl) (by kernel_rfl) (by kernel_rfl) (fun _ _ _ h => h) (Or.inl ⟨by rfl, ?_⟩) (by assumption) ?_
          rotate_left
          · intro w hSw
            have hSw := OS _ hSw
            go_simp
            try with_reducible rfl
          try simp only [Act.put, List.setIfInBounds_toArray, List.set_cons_zero, List.set_cons_succ]
          refine wpAnyH_ready (rs := [3]) (by kernel_rfl) (by simp) ?_
          refine (AllReadyH.cons (o := { dst := some 129, op := Op.call { callee := Callee.value (Operand.func 12), args := #[Operand.tmp 126, Operand.tmp 128], argTypes := #[25, 33] }, type := 4, pos := "law.go:78", after := #[{ on := 0, ground := Ground.data }, { on := 2, ground := Ground.data }], guard := none }) rfl (fun K hK => ?_) AllReadyH.nil)
          go_simp
          refine (C1.out _ (by assumption)).mono ?_
          rintro e w3' ⟨rfl, m3'⟩
          refine hK.out _ _ (SO _ (HS29.out _ _ _ m3')) (fun hHeld => ?_)
          clear hK K
          try simp only [Act.put, List.setIfInBounds_toArray, List.set_cons_zero, List.set_cons_succ]
          refine wpAnyH_ready (rs := [7]) (by kernel_rfl) (by simp) ?_
          refine (AllReadyH.cons (o := { dst := some 133, op := Op.call { callee := Callee.value (Operand.func 13), args := #[Operand.tmp 130, Operand.tmp 132], argTypes := #[29, 33] }, type := 4, pos := "law.go:78", after := #[{ on := 4, ground := Ground.data }, { on := 6, ground := Ground.data }, { on := 3, ground := Ground.chain }], guard := none }) rfl (fun K hK => ?_) AllReadyH.nil)
          go_simp
          refine (C2.out _ (by assumption)).mono ?_
          rintro e w7' ⟨rfl, m7'⟩
          refine hK.out _ _ (SO _ (HS29.out _ _ _ m7')) (fun hHeld => ?_)
          clear hK K
          try simp only [Act.put, List.setIfInBounds_toArray, List.set_cons_zero, List.set_cons_succ]
          refine wpAnyH_take (i := 8) (oi := { dst := some 134, op := Op.binOp BinOp.neq 4 (Operand.tmp 129) (Operand.tmp 133) 4, type := 4, pos := "law.go:78", after := #[{ on := 3, ground := Ground.data }, { on := 7, ground := Ground.data }], guard := none }) (v := ?_) rfl (by kernel_rfl) (by kernel_rfl) (by kernel_rfl) (fun _ _ _ h => h) (Or.inl ⟨by rfl, ?_⟩) (by assumption) ?_
          rotate_left
          · intro w hSw
            skip
            clear hSw
            go_simp
            try with_reducible rfl
          try simp only [Act.put, List.setIfInBounds_toArray, List.set_cons_zero, List.set_cons_succ]
          refine wpAnyH_done (by kernel_rfl) ?_ _
          refine NoPanic.normal ?_
          have M6 := Lib.hid m7'
          clear m3' m7' md
          go_wp2_with (first
            | (go_at_call 18; ((with_reducible refine (play_pused M6.out).mono ?_); rintro e wa ⟨rfl, ma⟩); have MA := Lib.hid ma; clear ma M6)
            | (go_at_call 19; ((with_reducible refine (play_rused MA.out).mono ?_); rintro e wb ⟨rfl, mb⟩); have MB := Lib.hid mb; have CS := play_psize mb; rw [HML.out] at CS; clear mb MA)
            | (go_at_call 20; ((with_reducible refine (CS).mono ?_); rintro e wc ⟨rfl, mc⟩); have MC := Lib.hid mc; clear mc MB CS)
            | (go_at_call 21; ((with_reducible refine (play_pbytes MC.out).mono ?_); rintro e wd ⟨rfl, md⟩); have MD := Lib.hid md; clear md MC)
            | (go_at_call 22; ((with_reducible refine (play_rbytes MD.out).mono ?_); rintro e we ⟨rfl, me⟩); have ME := Lib.hid me; clear me MD))
          go_roundw
          case rel => exact ⟨k + 1, by omega, by go_num, Lib.hid ⟨_, _, _, ME.out.less, HML.out, by rw [← HT.out]; exact ht1, by rw [← HT.out]; omega⟩⟩
          case measure => simp [intOf]; omega
        · have e4 : (ki : Int) % 8 = 7 := by omega
          have M1 := Lib.hid (HM.out.box #[.int .u8 (ki : Int), .int .i64 an, .slice aR ra.length capR])
          have HML := Lib.hid (show L.length = m from HL.out)
          clear hkk4 HM
          go_wp2_with (first
            | (go_at_call 14; ((with_reducible refine (play_copy M1.out).mono ?_); rintro e w3 ⟨q3, rfl, m3⟩); have M3 := Lib.hid m3; clear m3 c0 c1 c2)
            | (go_at_call 15; ((with_reducible refine (own_take M3.out 1 (small_I (by decide))).mono ?_); rintro e w4 ⟨x4, rfl, m4⟩); have M4 := Lib.hid m4; clear m4 M3)
            | (go_at_call 12; ((with_reducible refine (own_give1 M4.out).mono ?_); rintro e w5 ⟨b5, rfl, m5⟩); have M6 := Lib.hid (M1.out.below (own_b m5)); clear m5 M4 M1)
            | (go_at_call 18; ((with_reducible refine (play_pused M6.out).mono ?_); rintro e wa ⟨rfl, ma⟩); have MA := Lib.hid ma; clear ma M6)
            | (go_at_call 19; ((with_reducible refine (play_rused MA.out).mono ?_); rintro e wb ⟨rfl, mb⟩); have MB := Lib.hid mb; have CS := play_psize mb; rw [HML.out] at CS; clear mb MA)
            | (go_at_call 20; ((with_reducible refine (CS).mono ?_); rintro e wc ⟨rfl, mc⟩); have MC := Lib.hid mc; clear mc MB CS)
            | (go_at_call 21; ((with_reducible refine (play_pbytes MC.out).mono ?_); rintro e wd ⟨rfl, md⟩); have MD := Lib.hid md; clear md MC)
            | (go_at_call 22; ((with_reducible refine (play_rbytes MD.out).mono ?_); rintro e we ⟨rfl, me⟩); have ME := Lib.hid me; clear me MD))
          go_roundw
          case rel => exact ⟨k + 1, by omega, by go_num, Lib.hid ⟨_, _, _, ME.out.less, HML.out, by rw [← HT.out]; exact ht1, by rw [← HT.out]; omega⟩⟩
          case measure => simp [intOf]; omega
      · obtain rfl : k = N := by omega
        clear hlt hk
        go_wp2_with (first
          | (go_at_call 14; ((with_reducible refine (play_copy HM.out).mono ?_); rintro e w3 ⟨q3, rfl, m3⟩); have M3 := Lib.hid m3; have M4 := Lib.hid (HM.out.below (own_b m3)); clear m3 HM)
          | (go_at_call 21; ((with_reducible refine (own_bytes M3.out).mono ?_); rintro e w4 ⟨rfl, b4⟩); have M5 := Lib.hid (M4.out.below b4); clear b4 M3 M4)
          | (go_at_call 22; ((with_reducible refine (play_rbytes M5.out).mono ?_); rintro e w5 ⟨rfl, m5⟩); have M6 := Lib.hid m5; clear m5 M5)
          | (go_at_call 9; ((with_reducible refine (CU.out _).mono ?_); rintro e w9 ⟨rfl, b9⟩); have B9 := Lib.hid b9; clear b9))
        go_ret
        exact ⟨rfl, M6.out.size.trans (B9.out.mono M6.out.size.size)⟩
end Go.Proofs.Ytdngkpdiaeicmaa
