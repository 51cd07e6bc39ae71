/- Layer 12: the walk of back. -/
import Derived.Test.YtldbfjcfobdkpaaDoorRfR
import Derived.Test.YtldbfjcfobdkpaaDoorRfS
namespace Go.Proofs.YtldbfjcfobdkpaaDoor
open Go.RowKit

set_option maxRecDepth 100000 in
set_option maxHeartbeats 16000000 in
theorem back_any (I : Impl) (r : RR) (w : World) (ho : r.ok) (hm : mayR r = true) : Calls Tryd.prog 17 #[.agg (refC r)] w fun e w' => e = .returned (.bool true) ∧ Below w.heap.size w w' := by
  have HO := Lib.hid ho
  have hsz : (refC r).size = 36 := refC_size ho
  have r0 : refAt (w.alloc (.cells (refC r) 26)) w.heap.size r := rowC_new w _ _
  have al : Below w.heap.size w (w.alloc (.cells (refC r) 26)) := (Below.refl _ _).alloc (Nat.le_refl _) _
  obtain ⟨w0, hw0⟩ : ∃ w0, w.alloc (.cells (refC r) 26) = w0 := ⟨_, rfl⟩
  rw [hw0] at r0 al
  have HI := Lib.hid (info_ref ho)
  have hA := info_refL ho
  have HS := Lib.hid (show (refC zeroR).size = (refC r).size by rw [refC_size zero_ok, refC_size HO.out])
  have M := Lib.hid (show LM w w0 [(w.heap.size, r)] from ⟨al, fun g x hm => by
    rcases List.mem_cons.1 hm with e | hm
    · cases e
      exact ⟨r0, Nat.le_refl _⟩
    · cases hm⟩)
  clear al r0 ho
  have hMl := may_parts hm
  have hT : showR r = textR r := show_yes hm
  have ht1 := text_back HO.out.dig hm
  have hs1 := short_back HO.out.dig hm
  have hne := text_ne r
  have hlT := hMl.l
  clear hMl hm
  have CT : ∀ w', LM w w' [(w.heap.size, r)] → _ := fun w' m => LM.call (I.text r w' HO.out) m
  have CS : ∀ w', LM w w' [(w.heap.size, r)] → _ := fun w' m => LM.call (I.short r w' HO.out) m
  rw [hT] at CT
  clear hT
  generalize textR r = T at *
  generalize shortR r = S at *
  have CP1 := fun w => I.parse T w (by omega)
  have CP2 := fun w => I.parse S w (by have := hs1.2.2; omega)
  rw [ht1] at CP1
  rw [hs1.1] at CP2
  have fT := (eq_none T).trans (decide_eq_false hne)
  have fS := (eq_none S).trans (decide_eq_false hs1.2.1)
  have zT := str_size T
  have zS := str_size S
  have hle : (S.length : Int) ≤ (T.length : Int) := by have := hs1.2.2; omega
  clear hs1 ht1 hne hlT
  have q1 : ∀ w, (Op.equalIn 10000 26 (.agg (refC r)) (.agg (refC r))).run Tryd.prog w = .ok true w := fun w => by
    rw [eq_ref w 9997 HO.out HO.out]; simp
  have gd := guard_ref
  have hu := Tryd.underlying26
  have R1 : ∀ w', LM w w' [(w.heap.size, r)] → w'.rangeAt w.heap.size 0 (refL r) := fun w' m => range_ref (m.at_ _ _ (by repeat (first | exact List.Mem.head _ | apply List.Mem.tail))).1
  go_enter Tryd.func17, Tryd.ntmps17
  go_upto_region 1 with (fail)
  go_cut [3, 4] from 9 to 12 (fun s3 s4 wx => s3 = .string (str T) ∧ s4 = .string (str S) ∧ Hid (LM w wx [(w.heap.size, r)]))
  case first =>
    clear CP1 CP2 q1 fT fS
    have md := M.out.below (Below.refl w0.heap.size w0).drew
    obtain ⟨LMM, hM⟩ : ∃ LMM : World → Prop, LMM = fun w' => LM w w' [(w.heap.size, r)] := ⟨_, rfl⟩
    have MT : ∀ w', LMM w' → LM w w' [(w.heap.size, r)] := fun w' h => by rw [hM] at h; exact h
    have TM : ∀ w', LM w w' [(w.heap.size, r)] → LMM w' := fun w' h => by rw [hM]; exact h
    replace md := TM _ md
    have HMT := Lib.hid MT
    have TM' : ∀ {f args v} w', LMM w' → (LM w w' [(w.heap.size, r)] → Calls Tryd.prog f args w' fun e w'' => e = .returned v ∧ LM w w'' [(w.heap.size, r)]) → Calls Tryd.prog f args w' fun e w'' => e = .returned v ∧ LMM w'' :=
      fun w' h hc => (hc (MT w' h)).mono fun _ _ ⟨h1, h2⟩ => ⟨h1, TM _ h2⟩
    replace CT := fun w' (h : LMM w') => TM' w' h (CT w')
    replace CS := fun w' (h : LMM w') => TM' w' h (CS w')
    replace R1 := fun w' (h : LMM w') => R1 w' (MT w' h)
    unfold refC at *
    clear MT TM TM' hM M HI HS hsz hw0
    generalize hNA : refL r = NA at *
    clear hNA
    obtain ⟨SS, hSS⟩ : ∃ SS : World → Prop, SS = fun w' => LMM w' ∧ w'.rangeAt w.heap.size 0 NA := ⟨_, rfl⟩
    have SO : ∀ w', LMM w' → SS w' := fun w' m => by rw [hSS]; exact ⟨m, R1 w' m⟩
    have OS : ∀ w', SS w' → LMM w' ∧ w'.rangeAt w.heap.size 0 NA := fun w' h => by rw [hSS] at h; exact h
    clear hSS R1
    refine wp_region_noPanic ?_
    refine wp_region_held_drew (S := SS) (by kernel_rfl) (SO _ md) (fun hHeld => ?_)
    refine wpAnyH_take (i := 0) (oi := { dst := some 9, op := Op.load 26 (Operand.tmp 1), type := 26, pos := "outright.go:12", after := #[], guard := none }) (v := _) rfl (by kernel_rfl) (by kernel_rfl) (by kernel_rfl) (fun _ _ _ h => h) (yieldsIf_load_mid (by rfl) _ _ rfl _ _ rfl _ _ (by intro w hSw; have hSw := OS _ hSw; go_split_ands; assumption) (by assumption) rfl (by assumption)) (by assumption) ?_
    try simp only [Act.put, List.setIfInBounds_toArray, List.set_cons_zero, List.set_cons_succ]
    refine wpAnyH_take (i := 2) (oi := { dst := some 11, op := Op.load 26 (Operand.tmp 1), type := 26, pos := "outright.go:12", after := #[], guard := none }) (v := _) rfl (by kernel_rfl) (by kernel_rfl) (by kernel_rfl) (fun _ _ _ h => h) (yieldsIf_load_mid (by rfl) _ _ rfl _ _ rfl _ _ (by intro w hSw; have hSw := OS _ hSw; go_split_ands; assumption) (by assumption) rfl (by assumption)) (by assumption) ?_
    try simp only [Act.put, List.setIfInBounds_toArray, List.set_cons_zero, List.set_cons_succ]
    refine wpAnyH_ready (rs := [1]) (by kernel_rfl) (by simp) ?_
    refine (AllReadyH.cons (o := { dst := some 10, op := Op.call { callee := Callee.value (Operand.func 11), args := #[Operand.tmp 9], argTypes := #[26] }, type := 9, pos := "outright.go:12", after := #[{ on := 0, ground := Ground.data }], guard := none }) rfl (fun K hK => ?_) AllReadyH.nil)
    go_simp
    refine (CT _ (by assumption)).mono ?_
    rintro e w1' ⟨rfl, m1'⟩
    refine hK.out _ _ (SO _ (by assumption)) (fun hHeld => ?_)
    clear hK K
    try simp only [Act.put, List.setIfInBounds_toArray, List.set_cons_zero, List.set_cons_succ]
    refine wpAnyH_ready (rs := [3]) (by kernel_rfl) (by simp) ?_
    refine (AllReadyH.cons (o := { dst := some 12, op := Op.call { callee := Callee.value (Operand.func 13), args := #[Operand.tmp 11], argTypes := #[26] }, type := 9, pos := "outright.go:12", after := #[{ on := 2, ground := Ground.data }, { on := 1, ground := Ground.chain }], guard := none }) rfl (fun K hK => ?_) AllReadyH.nil)
    go_simp
    refine (CS _ (by assumption)).mono ?_
    rintro e w3' ⟨rfl, m3'⟩
    refine hK.out _ _ (SO _ (by assumption)) (fun hHeld => ?_)
    clear hK K
    try simp only [Act.put, List.setIfInBounds_toArray, List.set_cons_zero, List.set_cons_succ]
    refine wpAnyH_take (i := 4) (oi := { dst := some 3, op := Op.assign (Operand.tmp 10), type := 9, pos := "outright.go:12", after := #[{ on := 1, ground := Ground.data }, { on := 3, ground := Ground.chain }, { on := 0, ground := Ground.phase }, { on := 1, ground := Ground.phase }, { on := 2, ground := Ground.textOnly Departure.lateStores }, { on := 3, ground := Ground.textOnly Departure.lateStoresUnsure }], guard := none }) (v := ?_) rfl (by kernel_rfl) (by kernel_rfl) (by kernel_rfl) (fun _ _ _ h => h) (Or.inl ⟨by rfl, ?_⟩) (by assumption) ?_
    rotate_left
    · intro w hSw
      skip
      clear hSw
      go_simp
      try with_reducible rfl
    try simp only [Act.put, List.setIfInBounds_toArray, List.set_cons_zero, List.set_cons_succ]
    refine wpAnyH_take (i := 5) (oi := { dst := some 4, op := Op.assign (Operand.tmp 12), type := 9, pos := "outright.go:12", after := #[{ on := 3, ground := Ground.data }, { on := 4, ground := Ground.chain }, { on := 0, ground := Ground.phase }, { on := 1, ground := Ground.phase }, { on := 2, ground := Ground.phase }, { on := 3, ground := Ground.phase }, { on := 4, ground := Ground.phase }], guard := none }) (v := ?_) rfl (by kernel_rfl) (by kernel_rfl) (by kernel_rfl) (fun _ _ _ h => h) (Or.inl ⟨by rfl, ?_⟩) (by assumption) ?_
    rotate_left
    · intro w hSw
      skip
      clear hSw
      go_simp
      try with_reducible rfl
    try simp only [Act.put, List.setIfInBounds_toArray, List.set_cons_zero, List.set_cons_succ]
    refine wpAnyH_done (by kernel_rfl) ?_ _
    refine NoPanic.normal ?_
    go_wp2_with (fail)
    go_meet
    case rel => exact ⟨rfl, rfl, Lib.hid (HMT.out _ (by assumption))⟩
  case rest =>
    obtain ⟨rfl, rfl, M1⟩ := hcut
    clear M CT CS R1
    have M := M1
    clear M1
    go_wp2_with (first
    | (go_at_call 9; ((with_reducible refine (CP1 _).mono ?_); rintro e w1 ⟨rfl, b1⟩); replace M := Lib.hid (M.out.below b1); clear b1 CP1; obtain ⟨v1, hv1⟩ : ∃ v, w1.alloc (.cells #[.string ⟨#[]⟩, .string ⟨#[]⟩, .string ⟨#[]⟩, .int .u8 0, .int .u8 0, .int .u8 0, .int .u8 0, .int .u8 0, .int .u8 0, .int .u8 0, .int .u8 0, .int .u8 0, .int .u8 0, .int .u8 0, .int .u8 0, .int .u8 0, .int .u8 0, .int .u8 0, .int .u8 0, .int .u8 0, .int .u8 0, .int .u8 0, .int .u8 0, .int .u8 0, .int .u8 0, .int .u8 0, .int .u8 0, .int .u8 0, .int .u8 0, .int .u8 0, .int .u8 0, .int .u8 0, .int .u8 0, .int .u8 0, .int .u8 0, .bool false] 26) = v := ⟨_, rfl⟩; obtain ⟨HZ1, HN1⟩ := M.out.made hv1 r; replace HZ1 := Lib.hid HZ1; replace M := Lib.hid HN1; clear HN1)
    | ((with_reducible show wpList _ _ _ (⟨none, .store _ (.tmp 5) _, _, _, _, _⟩ :: _) _ _); refine wpList_store_row rfl 26 _ _ rfl w1.heap.size (refC r) rfl rfl 26 (refC zeroR) HZ1.out HI.out HS.out (refC_all _) ?_; generalize World.setRow _ _ _ = x1 at *; clear hv1)
    | (go_at_call 9; ((with_reducible refine (CP2 _).mono ?_); rintro e w2 ⟨rfl, b2⟩); replace M := Lib.hid (M.out.below b2); clear b2 CP2; obtain ⟨v2, hv2⟩ : ∃ v, w2.alloc (.cells #[.string ⟨#[]⟩, .string ⟨#[]⟩, .string ⟨#[]⟩, .int .u8 0, .int .u8 0, .int .u8 0, .int .u8 0, .int .u8 0, .int .u8 0, .int .u8 0, .int .u8 0, .int .u8 0, .int .u8 0, .int .u8 0, .int .u8 0, .int .u8 0, .int .u8 0, .int .u8 0, .int .u8 0, .int .u8 0, .int .u8 0, .int .u8 0, .int .u8 0, .int .u8 0, .int .u8 0, .int .u8 0, .int .u8 0, .int .u8 0, .int .u8 0, .int .u8 0, .int .u8 0, .int .u8 0, .int .u8 0, .int .u8 0, .int .u8 0, .bool false] 26) = v := ⟨_, rfl⟩; obtain ⟨HZ2, HN2⟩ := M.out.made hv2 r; replace HZ2 := Lib.hid HZ2; replace M := Lib.hid HN2; clear HN2)
    | ((with_reducible show wpList _ _ _ (⟨none, .store _ (.tmp 7) _, _, _, _, _⟩ :: _) _ _); refine wpList_store_row rfl 26 _ _ rfl w2.heap.size (refC r) rfl rfl 26 (refC zeroR) HZ2.out HI.out HS.out (refC_all _) ?_; generalize World.setRow _ _ _ = x2 at *; clear hv2)
    | ((with_reducible show wpList _ _ _ (⟨some 45, _, _, _, _, _⟩ :: _) _ _); refine wpList_load_rowG rfl 26 _ rfl w1.heap.size rfl 26 (refC r) _ (M.out.at_ _ _ (by repeat (first | exact List.Mem.head _ | apply List.Mem.tail))).1 Tryd.underlying26 rfl HI.out ?_)
    | ((with_reducible show wpList _ _ _ (⟨some 46, _, _, _, _, _⟩ :: _) _ _); refine wpList_load_rowG rfl 26 _ rfl w.heap.size rfl 26 (refC r) _ (M.out.at_ _ _ (by repeat (first | exact List.Mem.head _ | apply List.Mem.tail))).1 Tryd.underlying26 rfl HI.out ?_)
    | ((with_reducible show wpList _ _ _ (⟨some 50, _, _, _, _, _⟩ :: _) _ _); refine wpList_load_rowG rfl 26 _ rfl w2.heap.size rfl 26 (refC r) _ (M.out.at_ _ _ (by repeat (first | exact List.Mem.head _ | apply List.Mem.tail))).1 Tryd.underlying26 rfl HI.out ?_)
    | ((with_reducible show wpList _ _ _ (⟨some 51, _, _, _, _, _⟩ :: _) _ _); refine wpList_load_rowG rfl 26 _ rfl w.heap.size rfl 26 (refC r) _ (M.out.at_ _ _ (by repeat (first | exact List.Mem.head _ | apply List.Mem.tail))).1 Tryd.underlying26 rfl HI.out ?_))
    go_ret
    exact ⟨rfl, M.out.b⟩
end Go.Proofs.YtldbfjcfobdkpaaDoor
