/- Merged: OdU, OdV, OdW. -/
import Derived.Test.YtnkencdibniagaaGreatDoorM31
/- Layer 13: Manifest. -/
namespace Go.Proofs.YtnkencdibniagaaGreatDoor
open Go.RowKit

def zeroM : Array Value := encM zeroD (.slice none 0 0)
theorem encM_all (c : DV) (x : Option Addr) (n cc : Nat) : (encM c (.slice x n cc)).all (·.oneCell') = true := all_oneCell_toArray (fun v hv => by
  rcases List.mem_append.1 hv with hv | hv
  · have h := encD_one c
    rw [encD_list] at h
    exact Array.all_eq_true_iff_forall_mem.1 h v (by simpa using hv)
  · rw [List.mem_singleton.1 hv]
    rfl)
theorem zeroM_all : zeroM.all (·.oneCell') = true := encM_all _ _ _ _
theorem encM_size {c : DV} (h : goodD c) (x : Option Addr) (n cc : Nat) : (encM c (.slice x n cc)).size = 37 := by
  unfold encM
  rw [List.size_toArray, List.length_append, encL_len h.1]
  rfl
theorem info_M : (Tryz.prog.info? 31).map (·.size) = some 37 := by kernel_rfl
theorem built_man (c : DV) (h : c.dig.length = 32) (x : Option Addr) (n cc : Nat) : Tryz.prog.built 31 [(0, .agg (encD c)), (1, .slice x n cc)] = some (encM c (.slice x n cc)) := by
  obtain ⟨media, g, size, os, arch⟩ := c
  match g, h with
  | [a0, a1, a2, a3, a4, a5, a6, a7, a8, a9, b0, b1, b2, b3, b4, b5, b6, b7, b8, b9, c0, c1, c2, c3, c4, c5, c6, c7, c8, c9, d0, d1], _ =>
    show _ = _
    kernel_rfl
def manR (R : Res JV) : Got (DV × List DV) := match R with | .bad c _ => .bad c | .ok v _ => manV v
/-- What Manifest answers. -/
def ManP (w : World) (G : Got (DV × List DV)) (e : Ending) (w' : World) : Prop :=
  ∃ c l x cc code, e = .returned (.tuple #[.agg (encM c (.slice x l.length cc)), .int .i64 ((code : Nat) : Int)]) ∧ eDess.at_ w' (fun k => w.heap.size ≤ k ∧ k < w'.heap.size) l (.slice x l.length cc) ∧
    goodD c ∧ (G = .ok (c, l) ∧ code = 0 ∨ G = .bad code ∧ code ≠ 0 ∧ c = zeroD ∧ l = []) ∧ Below w.heap.size w w'
theorem manP_bad {w w' : World} {code : Nat} (hB : Below w.heap.size w w') (h : code ≠ 0 := by decide) : ManP w (.bad code) (.returned (.tuple #[.agg zeroM, .int .i64 ((code : Nat) : Int)])) w' :=
  ⟨zeroD, [], none, 0, code, rfl, .inl ⟨rfl, rfl⟩, ⟨rfl, by simp [zeroD], by simp [zeroD], by simp [zeroD]⟩, .inr ⟨rfl, h, rfl, rfl⟩, hB⟩
theorem manR_bad {R : Res JV} {code : Nat} (h : code ≠ 0 ∧ code = codeP 1 R) : manR R = .bad code := by
  obtain ⟨h0, rfl⟩ := h
  cases R with
  | bad c r => rfl
  | ok v r =>
    have h0 : headV 1 v ≠ 0 := h0
    show manV v = _
    unfold manV
    rw [if_pos h0]
    rfl
set_option maxRecDepth 100000 in
set_option maxHeartbeats 16000000 in
theorem manifest_any {q : Nat} {S : Bs} {R : Res JV} (hS : S.length ≤ 65536) (w : World) (hE : Env2 w) (hR : allP q S = some R) :
    Calls Tryz.prog 9 #[.string (str S)] w fun e w' => ManP w (manR R) e w' := by
  obtain ⟨W0, hW0⟩ : ∃ W0, W0 = w.alloc (.cells #[.string ⟨#[]⟩, .int .u8 0, .int .u8 0, .int .u8 0, .int .u8 0, .int .u8 0, .int .u8 0, .int .u8 0, .int .u8 0, .int .u8 0, .int .u8 0, .int .u8 0, .int .u8 0, .int .u8 0, .int .u8 0, .int .u8 0, .int .u8 0, .int .u8 0, .int .u8 0, .int .u8 0, .int .u8 0, .int .u8 0, .int .u8 0, .int .u8 0, .int .u8 0, .int .u8 0, .int .u8 0, .int .u8 0, .int .u8 0, .int .u8 0, .int .u8 0, .int .u8 0, .int .u8 0, .int .i64 0, .string ⟨#[]⟩, .string ⟨#[]⟩, .slice none 0 0] 31) := ⟨_, rfl⟩
  have Z0 : rowC W0 w.heap.size zeroM 31 := by rw [hW0]; exact rowC_new w _ _
  have B0 : Below w.heap.size w W0 := by rw [hW0]; exact (Below.refl _ _).alloc (Nat.le_refl _) _
  have S0 : W0.heap.size = w.heap.size + 1 := by rw [hW0, size_alloc]
  have CQ : Calls Tryz.prog 31 #[.string (str S), .int .i64 1] W0 fun e w' => ParP W0 1 R e w' := oparse_any hS 1 W0 (hE.below B0) hR
  obtain ⟨G, hG⟩ : ∃ G, G = manR R := ⟨_, rfl⟩
  rw [← hG]
  have HG := Lib.hid hG
  have HW0 := Lib.hid hW0
  have HZ0 := Lib.hid Z0
  have HB0 := Lib.hid B0
  have HI := Lib.hid info_V
  have HIM : Hid ((Tryz.prog.info? 31).map (·.size) = some zeroM.size) := Lib.hid info_M
  have HID := Lib.hid (fun (d : DV) (h : goodD d) => show (Tryz.prog.info? 28).map (·.size) = some (encD d).size by rw [encD_size d h]; exact info_D)
  have HSZ := Lib.hid (fun (d : DV) (h : goodD d) => show (encD zeroD).size = (encD d).size by rw [encD_size d h]; rfl)
  have HE := Lib.hid hE
  have HRR := Lib.hid hR
  have HSL := Lib.hid hS
  clear hE hR hS hG hW0 Z0 B0
  go_enter Tryz.func9, Tryz.ntmps9
  go_upto_region 1 with (fail)
  rw [← HW0.out]
  go_upto_region 2 with (first
    | (go_at_call 31; ((with_reducible refine CQ.mono ?_); rintro e w1 ⟨v, code, y, m, z, n, rfl, hV, hor, hb⟩; have HV := Lib.hid hV; have HOR := Lib.hid hor; have HB := Lib.hid hb; have s1 := hb.size; clear hV hor hb CQ))
    | ((with_reducible show wpList _ _ _ (⟨none, .store _ (.tmp 4) _, _, _, _, _⟩ :: _) _ _); refine wpList_store_last rfl 63 _ _ rfl w1.heap.size (row4 v.kind (str v.text) y v.items.length m z v.keys.length n) rfl rfl 63 zeroV4 rfl HI.out rfl (row4_all _ _ _ _ _ _ _ _) ?_))
  obtain ⟨W2, hW2⟩ : ∃ W2, W2 = w1.alloc (.cells (row4 v.kind (str v.text) y v.items.length m z v.keys.length n) 63) := ⟨_, rfl⟩
  rw [← hW2]
  have sw2 : W2.heap.size = w1.heap.size + 1 := by rw [hW2]; exact size_alloc _ _
  have b02 : Hid (Below W0.heap.size W0 W2) := Lib.hid (by rw [hW2]; exact HB.out.alloc (by omega) _)
  have B2 : Hid (Below w.heap.size w W2) := Lib.hid (HB0.out.trans (b02.out.mono (by omega)))
  have Z2 : Hid (rowC W2 w.heap.size zeroM 31) := Lib.hid (rowC_below HZ0.out b02.out (by omega))
  have R2 : Hid (rowC W2 w1.heap.size (row4 v.kind (str v.text) y v.items.length m z v.keys.length n) 63) := Lib.hid (by rw [hW2]; exact rowC_new _ _ _)
  have H2 : Hid (HoldsC W2 (fun k => k < W2.heap.size) v (.int .i64 v.kind) (.string (str v.text)) (.slice y v.items.length m) (.slice z v.keys.length n)) := Lib.hid (by rw [hW2]; exact HoldsC.mono (fun k _ hlt => hlt) _ _ _ _ _ (HoldsC.chg (s := no) ((Chg.refl _ _).alloc _) (fun _ _ h => h) _ _ _ _ _ HV.out))
  clear hW2 HV
  rcases HOR.out with ⟨⟨r, hr⟩, hcode, hv0⟩ | hbad
  rotate_left
  · have e0 : Hid (G = .bad code) := Lib.hid (by rw [HG.out]; exact manR_bad hbad)
    have hc : code ≠ 0 := hbad.1
    have hci : ¬ (code : Int) = 0 := by have := hbad.1; omega
    have hcb : ((code : Int) == 0) = false := by rw [beq_eq_false_iff_ne]; exact hci
    clear hbad
    go_wp2_with (first
      | ((with_reducible show wpList _ _ _ (⟨some 16, .build _ _, _, _, _, _⟩ :: _) _ _); refine wpList_build_as rfl 31 _ rfl zeroM (by kernel_rfl) ?_)
      | ((with_reducible show wpList _ _ _ (⟨none, .store _ (.tmp 2) _, _, _, _, _⟩ :: _) _ _); refine wpList_store_row rfl 31 _ _ rfl w.heap.size zeroM rfl rfl 31 zeroM Z2.out HIM.out rfl zeroM_all ?_))
    refine bodyPost_ret (results_row_tmp rfl _ _ w.heap.size 31 zeroM _ rfl (rowC_setRow Z2.out _) Tryz.underlying31 rfl HIM.out (.int .i64 ((code : Nat) : Int)) rfl) rfl ?_
    rw [e0.out]
    exact manP_bad (below_setRow B2.out (Nat.le_refl _) _) hc
  subst hcode
  have HGV : Hid (G = manV v) := Lib.hid (by rw [HG.out, hr]; rfl)
  have HOK := Lib.hid (okR_all HSL.out (by rw [← hr]; exact HRR.out))
  clear hr
  have CC : Calls Tryz.prog 32 #[.agg (row4 v.kind (str v.text) y v.items.length m z v.keys.length n), .string ⟨#[99, 111, 110, 102, 105, 103]⟩, .func (.func 33) #[] #[]] W2 fun e w' => ReadP eDes W2 (partV v kCfg plainV) e w' := part_des rd_pln HOK.out kCfg (HE.out.below B2.out) trivial H2.out
  go_upto_region 5 with (first
    | ((with_reducible show wpList _ _ _ (⟨some 19, .load _ _, _, _, _, _⟩ :: _) _ _); refine wpList_load_row rfl 63 _ rfl w1.heap.size rfl 63 (row4 v.kind (str v.text) y v.items.length m z v.keys.length n) (0, 0) _ R2.out Tryz.underlying63 rfl HI.out ?_)
    | (go_at_call 32; ((with_reducible refine CC.mono ?_); rintro e w3 ⟨c, tv, ok3, rfl, ⟨rfl, hgc⟩, hor3, hb3⟩; have HGC := Lib.hid hgc; have HOR3 := Lib.hid hor3; have HB3 := Lib.hid hb3; have s3 := hb3.size; clear hgc hor3 hb3 CC))
    | ((with_reducible show wpList _ _ _ (⟨none, .store _ (.tmp 5) _, _, _, _, _⟩ :: _) _ _); refine wpList_store_last rfl 28 _ _ rfl w3.heap.size (encD c) rfl rfl 28 (encD zeroD) rfl (HID.out _ HGC.out) (HSZ.out _ HGC.out) (encD_one _) ?_))
  obtain ⟨W3, hW3⟩ : ∃ W3, W3 = w3.alloc (.cells (encD c) 28) := ⟨_, rfl⟩
  rw [← hW3]
  have sw3 : W3.heap.size = w3.heap.size + 1 := by rw [hW3]; exact size_alloc _ _
  have b23 : Hid (Below W2.heap.size W2 W3) := Lib.hid (by rw [hW3]; exact HB3.out.alloc (by omega) _)
  have B3 : Hid (Below w.heap.size w W3) := Lib.hid (B2.out.trans (b23.out.mono (by omega)))
  have Z3 : Hid (rowC W3 w.heap.size zeroM 31) := Lib.hid (rowC_below Z2.out b23.out (by omega))
  have R3 : Hid (rowC W3 w1.heap.size (row4 v.kind (str v.text) y v.items.length m z v.keys.length n) 63) := Lib.hid (rowC_below R2.out b23.out (by omega))
  have C3 : Hid (rowC W3 w3.heap.size (encD c) 28) := Lib.hid (by rw [hW3]; exact rowC_new _ _ _)
  have H3 : Hid (HoldsC W3 (fun k => k < W3.heap.size) v (.int .i64 v.kind) (.string (str v.text)) (.slice y v.items.length m) (.slice z v.keys.length n)) := Lib.hid (HoldsC.mono (fun k _ hlt => hlt) _ _ _ _ _ (HoldsC.chg (Chg.of_below (s := no) b23.out) (fun _ _ h => h) _ _ _ _ _ H2.out))
  clear hW3
  rcases HOR3.out with ⟨h3, hok⟩ | ⟨h3, hok⟩
  rotate_left
  · subst hok
    have e0 : Hid (G = .bad 10) := Lib.hid (by rw [HGV.out]; unfold manV; rw [if_neg (by simp [hv0]), h3])
    go_wp2_with (first
      | ((with_reducible show wpList _ _ _ (⟨some 25, .build _ _, _, _, _, _⟩ :: _) _ _); refine wpList_build_as rfl 31 _ rfl zeroM (by kernel_rfl) ?_)
      | ((with_reducible show wpList _ _ _ (⟨none, .store _ (.tmp 2) _, _, _, _, _⟩ :: _) _ _); refine wpList_store_row rfl 31 _ _ rfl w.heap.size zeroM rfl rfl 31 zeroM Z3.out HIM.out rfl zeroM_all ?_))
    refine bodyPost_ret (results_row_tmp rfl _ _ w.heap.size 31 zeroM _ rfl (rowC_setRow Z3.out _) Tryz.underlying31 rfl HIM.out (.int .i64 ((10 : Nat) : Int)) rfl) rfl ?_
    rw [e0.out]
    exact manP_bad (below_setRow B3.out (Nat.le_refl _) _)
  subst hok
  have CL : ∀ w', Gn W3 no w' → Calls Tryz.prog 35 #[.func (.func 33) #[] #[]] w' fun e w1 => e = .returned (.func (.func 78) #[] #[.pointer (some ⟨w'.heap.size, 0, none⟩)]) ∧ w1.cell? ⟨w'.heap.size, 0, none⟩ = some (.func (.func 33) #[] #[]) ∧ Gn W3 no w1 := fun w' hg => (listOf_des _ _ w').mono fun e w1 ⟨h1, h2, h3⟩ => ⟨h1, h2, hg.call h3⟩
  have CP : ∀ bl w', Gn W3 no w' → w'.cell? ⟨bl, 0, none⟩ = some (.func (.func 33) #[] #[]) → Calls Tryz.prog 34 #[.agg #[.int .i64 v.kind, .string (str v.text), .slice y v.items.length m, .slice z v.keys.length n], .string ⟨#[108, 97, 121, 101, 114, 115]⟩, .func (.func 78) #[] #[.pointer (some ⟨bl, 0, none⟩)]] w' fun e w2 => ∃ a t ok, e = .returned (.tuple #[t, .bool ok]) ∧ eDess.at_ w2 (fun k => W0.heap.size ≤ k ∧ k < w2.heap.size) a t ∧ (partV v kLay (listV plainV) = some a ∧ ok = true ∨ partV v kLay (listV plainV) = none ∧ ok = false) ∧ Gn W3 no w2 := fun bl w' hg hc => by
    have hb : Below w.heap.size w w' := B3.out.trans (hg.below (by omega) (fun _ _ h => h))
    have sw := hg.size
    refine (part_dess (rd_lsdes rd_pln bl) HOK.out kLay (HE.out.below hb) ⟨trivial, hc⟩ (HoldsC.mono (fun k hk hlt => hlt) _ _ _ _ _ (HoldsC.chg hg (fun _ _ h => h) _ _ _ _ _ H3.out))).mono ?_
    rintro e w2 ⟨a, t, ok, rfl, h2, h3, h4⟩
    exact ⟨a, t, ok, rfl, eDess.mono h2 (fun k hk hlt => ⟨by have := hk.1; omega, hlt⟩), h3, hg.call h4⟩
  go_upto_region 7 with (fail)
  have OS : ∀ w', Gn W3 no w' → w'.rangeAt w1.heap.size 0 [.int .i64 v.kind, .string (str v.text), .slice y v.items.length m, .slice z v.keys.length n] ∧ True := fun w' h => ⟨rowC_range (h.row R3.out id) 0 _ (fun u hq hh => by rw [Nat.zero_add]; simpa [row4] using hh), trivial⟩
  have SO : ∀ w', Gn W3 no w' → Gn W3 no w' := fun _ h => h
  have ui := Tryz.underlying63
  have ii := HI.out
  refine wp_region_noPanic ?_
  refine wp_region_held_drew (S := Gn W3 no) (by kernel_rfl) (Gn.start _ _) (fun hHeld => ?_)
  generalize W3.drew = wd at *
  refine wpAnyH_take (i := 0) (oi := { dst := some 27, op := Op.load 63 (Operand.tmp 4), type := 63, pos := "oci.go:94", after := #[], guard := none }) (v := _) rfl (by kernel_rfl) (by kernel_rfl) (by kernel_rfl) (fun _ _ _ h => h) (yieldsIf_load_mid (by rfl) _ _ rfl _ _ rfl _ _ (by intro w hSw; have hSw := OS _ hSw; go_split_ands; assumption) (by assumption) rfl (by assumption)) (by assumption) ?_
  try simp only [Act.put, List.setIfInBounds_toArray, List.set_cons_zero, List.set_cons_succ]
  refine wpAnyH_ready (rs := [1]) (by kernel_rfl) (by simp) ?_
  refine (AllReadyH.cons (o := { dst := some 28, op := Op.call { callee := Callee.value (Operand.func 35), args := #[Operand.func 33], argTypes := #[73] }, type := 75, pos := "oci.go:94", after := #[], guard := none }) rfl (fun K hK => ?_) AllReadyH.nil)
  go_simp
  with_reducible refine (CL _ hHeld).mono ?_
  rintro e w1' ⟨rfl, hc1, m1'⟩
  refine hK.out _ _ (SO _ (by assumption)) (fun hHeld => ?_)
  clear hK K
  try simp only [Act.put, List.setIfInBounds_toArray, List.set_cons_zero, List.set_cons_succ]
  refine wpAnyH_ready (rs := [2]) (by kernel_rfl) (by simp) ?_
  refine (AllReadyH.cons (o := { dst := some 29, op := Op.call { callee := Callee.value (Operand.func 34), args := #[Operand.tmp 27, Operand.const (Value.string { data := #[108, 97, 121, 101, 114, 115] }), Operand.tmp 28], argTypes := #[63, 9, 75] }, type := 48, pos := "oci.go:94", after := #[{ on := 0, ground := Ground.data }, { on := 1, ground := Ground.data }, { on := 1, ground := Ground.chain }], guard := none }) rfl (fun K hK => ?_) AllReadyH.nil)
  go_simp
  with_reducible refine (CP _ _ hHeld hc1).mono ?_
  rintro e w2' ⟨a2, t2, ok2, rfl, hA2, hor2, m2'⟩
  refine hK.out _ _ (SO _ (by assumption)) (fun hHeld => ?_)
  clear hK K
  try simp only [Act.put, List.setIfInBounds_toArray, List.set_cons_zero, List.set_cons_succ]
  refine wpAnyH_take (i := 3) (oi := { dst := some 26, op := Op.move (Operand.tmp 29), type := 48, pos := "oci.go:94", after := #[{ on := 2, ground := Ground.data }], guard := none }) (v := ?_) rfl (by kernel_rfl) (by kernel_rfl) (by kernel_rfl) (fun _ _ _ h => h) (Or.inl ⟨by rfl, ?_⟩) (by assumption) ?_
  rotate_left
  · intro w hSw
    skip
    clear hSw
    go_simp
    try with_reducible rfl
  try simp only [Act.put, List.setIfInBounds_toArray, List.set_cons_zero, List.set_cons_succ]
  refine wpAnyH_take (i := 4) (oi := { dst := some 30, op := Op.extract (Operand.tmp 26) 0, type := 29, pos := "oci.go:94", after := #[{ on := 3, ground := Ground.data }], guard := none }) (v := ?_) rfl (by kernel_rfl) (by kernel_rfl) (by kernel_rfl) (fun _ _ _ h => h) (Or.inl ⟨by rfl, ?_⟩) (by assumption) ?_
  rotate_left
  · intro w hSw
    skip
    clear hSw
    go_simp
    try with_reducible rfl
  try simp only [Act.put, List.setIfInBounds_toArray, List.set_cons_zero, List.set_cons_succ]
  refine wpAnyH_take (i := 5) (oi := { dst := some 31, op := Op.extract (Operand.tmp 26) 1, type := 4, pos := "oci.go:94", after := #[{ on := 3, ground := Ground.data }, { on := 6, ground := Ground.gcOnly Departure.lateStores }], guard := none }) (v := ?_) rfl (by kernel_rfl) (by kernel_rfl) (by kernel_rfl) (fun _ _ _ h => h) (Or.inl ⟨by rfl, ?_⟩) (by assumption) ?_
  rotate_left
  · intro w hSw
    skip
    clear hSw
    go_simp
    try with_reducible rfl
  try simp only [Act.put, List.setIfInBounds_toArray, List.set_cons_zero, List.set_cons_succ]
  refine wpAnyH_take (i := 6) (oi := { dst := some 7, op := Op.assign (Operand.tmp 30), type := 29, pos := "oci.go:94", after := #[{ on := 4, ground := Ground.data }, { on := 2, ground := Ground.chain }, { on := 0, ground := Ground.phase }, { on := 1, ground := Ground.phase }, { on := 2, ground := Ground.phase }, { on := 3, ground := Ground.phase }, { on := 4, ground := Ground.phase }, { on := 5, ground := Ground.textOnly Departure.lateStores }], guard := none }) (v := ?_) rfl (by kernel_rfl) (by kernel_rfl) (by kernel_rfl) (fun _ _ _ h => h) (Or.inl ⟨by rfl, ?_⟩) (by assumption) ?_
  rotate_left
  · intro w hSw
    skip
    clear hSw
    go_simp
    try with_reducible rfl
  try simp only [Act.put, List.setIfInBounds_toArray, List.set_cons_zero, List.set_cons_succ]
  refine wpAnyH_take (i := 7) (oi := { dst := some 6, op := Op.assign (Operand.tmp 31), type := 4, pos := "oci.go:94", after := #[{ on := 5, ground := Ground.data }, { on := 6, ground := Ground.chain }, { on := 0, ground := Ground.phase }, { on := 1, ground := Ground.phase }, { on := 2, ground := Ground.phase }, { on := 3, ground := Ground.phase }, { on := 4, ground := Ground.phase }, { on := 5, ground := Ground.phase }, { on := 6, ground := Ground.phase }], guard := none }) (v := ?_) rfl (by kernel_rfl) (by kernel_rfl) (by kernel_rfl) (fun _ _ _ h => h) (Or.inl ⟨by rfl, ?_⟩) (by assumption) ?_
  rotate_left
  · intro w hSw
    skip
    clear hSw
    go_simp
    try with_reducible rfl
  try simp only [Act.put, List.setIfInBounds_toArray, List.set_cons_zero, List.set_cons_succ]
  refine wpAnyH_done (by kernel_rfl) ?_ _
  refine NoPanic.normal ?_
  have sm := m2'.size
  have B4 : Hid (Below w.heap.size w w2') := Lib.hid (B3.out.trans (m2'.below (by omega) (fun _ _ h => h)))
  have Z4 : Hid (rowC w2' w.heap.size zeroM 31) := Lib.hid (m2'.row Z3.out id)
  have C4 : Hid (rowC w2' w3.heap.size (encD c) 28) := Lib.hid (m2'.row C3.out id)
  rcases hor2 with ⟨h4, hok⟩ | ⟨h4, hok⟩
  rotate_left
  · subst hok
    have e0 : Hid (G = .bad 10) := Lib.hid (by rw [HGV.out]; unfold manV; rw [if_neg (by simp [hv0]), h3]; dsimp only; rw [h4])
    go_wp2_with (first
      | ((with_reducible show wpList _ _ _ (⟨some 34, .build _ _, _, _, _, _⟩ :: _) _ _); refine wpList_build_as rfl 31 _ rfl zeroM (by kernel_rfl) ?_)
      | ((with_reducible show wpList _ _ _ (⟨none, .store _ (.tmp 2) _, _, _, _, _⟩ :: _) _ _); refine wpList_store_row rfl 31 _ _ rfl w.heap.size zeroM rfl rfl 31 zeroM Z4.out HIM.out rfl zeroM_all ?_))
    refine bodyPost_ret (results_row_tmp rfl _ _ w.heap.size 31 zeroM _ rfl (rowC_setRow Z4.out _) Tryz.underlying31 rfl HIM.out (.int .i64 ((10 : Nat) : Int)) rfl) rfl ?_
    rw [e0.out]
    exact manP_bad (below_setRow B4.out (Nat.le_refl _) _)
  subst hok
  obtain ⟨xl, cl, rfl⟩ := dess_len hA2
  have HA := Lib.hid hA2
  have hlw : eDess.at_ w2' (fun k => k < w2'.heap.size) a2 (.slice xl a2.length cl) := eDess.mono hA2 (fun k hk hlt => hlt)
  have HMS := Lib.hid (encM_size HGC.out xl a2.length cl)
  have HMA := Lib.hid (encM_all c xl a2.length cl)
  have HBM := Lib.hid (built_man c HGC.out.1 xl a2.length cl)
  clear hA2
  go_upto_region 11 with (first
    | ((with_reducible show wpList _ _ _ (⟨some 35, .load _ _, _, _, _, _⟩ :: _) _ _); refine wpList_load_row rfl 28 _ rfl w3.heap.size rfl 28 (encD c) (0, 0) _ C4.out Tryz.underlying28 rfl (HID.out _ HGC.out) ?_)
    | ((with_reducible show wpList _ _ _ (⟨some 37, .build _ _, _, _, _, _⟩ :: _) _ _); refine wpList_build_as (o := ⟨some 37, _, _, _, _, _⟩) rfl 31 _ rfl (encM c (.slice xl a2.length cl)) (Eq.trans ?_ HBM.out) ?_; kernel_rfl)
    | ((with_reducible show wpList _ _ _ (⟨none, .store _ (.tmp 2) _, _, _, _, _⟩ :: _) _ _); refine wpList_store_row rfl 31 _ _ rfl w.heap.size (encM c (.slice xl a2.length cl)) rfl rfl 31 zeroM Z4.out (by rw [HMS.out]; exact info_M) (by rw [HMS.out]; rfl) HMA.out ?_))
  obtain ⟨W5, hW5⟩ : ∃ W5, W5 = w2'.setRow w.heap.size (encM c (.slice xl a2.length cl)) := ⟨_, rfl⟩
  rw [← hW5]
  have s5 : W5.heap.size = w2'.heap.size := by rw [hW5]; exact setRow_size _ _ _
  have B5 : Hid (Below w.heap.size w W5) := Lib.hid (by rw [hW5]; exact below_setRow B4.out (Nat.le_refl _) _)
  have Z5 : Hid (rowC W5 w.heap.size (encM c (.slice xl a2.length cl)) 31) := Lib.hid (by rw [hW5]; exact rowC_setRow Z4.out _)
  have HA5 : Hid (eDess.at_ W5 (fun k => W0.heap.size ≤ k ∧ k < W5.heap.size) a2 (.slice xl a2.length cl)) := Lib.hid (by rw [hW5]; exact eDess.mono (eDess.chg (s := fun k => k = w.heap.size) HA.out ((Chg.refl _ _).setRow _ _ (.inl rfl)) (fun k hk e => by have := hk.1; omega)) (fun k hk hlt => ⟨hk.1, hlt⟩))
  clear hW5 hlw HA
  have CF := fits_any c a2 xl cl W5 HGC.out (eDess.mono HA5.out (fun k hk hlt => hlt))
  obtain ⟨fc, hfc⟩ : ∃ fc, fc = fitsN c a2 := ⟨_, rfl⟩
  rw [← hfc] at CF
  have HFC := Lib.hid hfc
  clear hfc
  go_upto_region 12 with (first
    | ((with_reducible show wpList _ _ _ (⟨some 38, .load _ _, _, _, _, _⟩ :: _) _ _); refine wpList_load_row rfl 31 _ rfl w.heap.size rfl 31 (encM c (.slice xl a2.length cl)) (0, 0) _ Z5.out Tryz.underlying31 rfl (by rw [HMS.out]; exact info_M) ?_)
    | (go_at_call 36; ((with_reducible refine CF.mono ?_); rintro e W6 ⟨rfl, hb6⟩; have HB6 := Lib.hid hb6; have s6 := hb6.size; clear hb6 CF)))
  have l5 := rowC_lt Z5.out
  have B6 : Hid (Below w.heap.size w W6) := Lib.hid (B5.out.trans (HB6.out.mono (by omega)))
  have Z6 : Hid (rowC W6 w.heap.size (encM c (.slice xl a2.length cl)) 31) := Lib.hid (rowC_below Z5.out HB6.out (by omega))
  by_cases hf0 : fc = 0
  rotate_left
  · have e0 : Hid (G = .bad fc) := Lib.hid (by rw [HGV.out]; unfold manV; rw [if_neg (by simp [hv0]), h3]; dsimp only; rw [h4]; dsimp only; rw [if_pos (by rw [← HFC.out]; exact hf0), ← HFC.out])
    have hfi : ¬ (fc : Int) = 0 := by omega
    have hfb : ((fc : Int) == 0) = false := by rw [beq_eq_false_iff_ne]; exact hfi
    go_wp2_with (first
      | ((with_reducible show wpList _ _ _ (⟨some 42, .build _ _, _, _, _, _⟩ :: _) _ _); refine wpList_build_as rfl 31 _ rfl zeroM (by kernel_rfl) ?_)
      | ((with_reducible show wpList _ _ _ (⟨none, .store _ (.tmp 2) _, _, _, _, _⟩ :: _) _ _); refine wpList_store_row rfl 31 _ _ rfl w.heap.size zeroM rfl rfl 31 _ Z6.out HIM.out (by rw [HMS.out]; rfl) zeroM_all ?_))
    refine bodyPost_ret (results_row_tmp rfl _ _ w.heap.size 31 zeroM _ rfl (rowC_setRow Z6.out _) Tryz.underlying31 rfl HIM.out (.int .i64 ((fc : Nat) : Int)) rfl) rfl ?_
    rw [e0.out]
    exact manP_bad (below_setRow B6.out (Nat.le_refl _) _) hf0
  have e0 : Hid (G = .ok (c, a2)) := Lib.hid (by rw [HGV.out]; unfold manV; rw [if_neg (by simp [hv0]), h3]; dsimp only; rw [h4]; dsimp only; rw [if_neg (by rw [← HFC.out]; simp [hf0])])
  subst hf0
  clear HFC
  go_wp2_with (first
    | ((with_reducible show wpList _ _ _ (⟨some 44, .load _ _, _, _, _, _⟩ :: _) _ _); refine wpList_load_row rfl 31 _ rfl w.heap.size rfl 31 (encM c (.slice xl a2.length cl)) (0, 0) _ Z6.out Tryz.underlying31 rfl (by rw [HMS.out]; exact info_M) ?_)
    | ((with_reducible show wpList _ _ _ (⟨none, .store _ (.tmp 2) _, _, _, _, _⟩ :: _) _ _); refine wpList_store_row rfl 31 _ _ rfl w.heap.size (encM c (.slice xl a2.length cl)) rfl rfl 31 _ Z6.out (by rw [HMS.out]; exact info_M) rfl HMA.out ?_))
  refine bodyPost_ret (results_row_tmp rfl _ _ w.heap.size 31 (encM c (.slice xl a2.length cl)) _ rfl (rowC_setRow Z6.out _) Tryz.underlying31 rfl (by rw [HMS.out]; exact info_M) (.int .i64 ((0 : Nat) : Int)) rfl) rfl ?_
  rw [e0.out]
  exact ⟨c, a2, xl, cl, 0, rfl, eDess.mono (eDess.chg (s := fun k => k = w.heap.size) (eDess.chg (s := no) HA5.out (Chg.of_below HB6.out) (fun _ _ h => h)) ((Chg.refl _ _).setRow _ _ (.inl rfl)) (fun k hk e => by have := hk.1; omega)) (fun k hk hlt => ⟨by have := hk.1; omega, hlt⟩), HGC.out, .inl ⟨rfl, rfl⟩, below_setRow B6.out (Nat.le_refl _) _⟩
end Go.Proofs.YtnkencdibniagaaGreatDoor

/- Layer 13: a text's value, an integer's, a digest's. -/
namespace Go.Proofs.YtnkencdibniagaaGreatDoor
open Go.RowKit

set_option maxRecDepth 100000 in
set_option maxHeartbeats 4000000 in
theorem text_put (s : Bs) (w : World) : Calls Tryz.prog 52 #[.string (str s)] w fun e w' => e = .returned (.agg (row4 4 (str s) none 0 0 none 0 0)) ∧ Below w.heap.size w w' := by
  have HI := Lib.hid info_V
  go_enter Tryz.func52, Tryz.ntmps52
  go_wp2_with (first
    | ((with_reducible show wpList _ _ _ (⟨some 4, .build _ _, _, _, _, _⟩ :: _) _ _); refine wpList_build_as rfl 63 _ rfl (row4 4 (str s) none 0 0 none 0 0) (by kernel_rfl) ?_)
    | ((with_reducible show wpList _ _ _ (⟨none, .store _ (.tmp 2) _, _, _, _, _⟩ :: _) _ _); refine wpList_store_last rfl 63 _ _ rfl w.heap.size (row4 4 (str s) none 0 0 none 0 0) rfl rfl 63 zeroV4 rfl HI.out rfl (row4_all _ _ _ _ _ _ _ _) ?_))
  refine bodyPost_ret (results_cell_row rfl _ _ w.heap.size 63 (row4 4 (str s) none 0 0 none 0 0) (0, 0) _ rfl (rowC_new _ _ _) Tryz.underlying63 rfl HI.out) rfl ?_
  exact ⟨rfl, (Below.refl _ _).alloc (Nat.le_refl _) _⟩
theorem below_grow (w : World) (k : Nat) (os : Array Obj) : Below w.heap.size w (Sort.grow (w.drewN k) os) := by
  refine ⟨rfl, rfl, rfl, ?_, fun q hq => ?_⟩
  · show w.heap.size ≤ (w.heap ++ os).size
    rw [Array.size_append]
    omega
  · show (w.heap ++ os)[q]? = w.heap[q]?
    exact Array.getElem?_append_left hq
set_option maxRecDepth 100000 in
set_option maxHeartbeats 4000000 in
theorem number_put (n : Int) (h0 : -9223372036854775808 ≤ n) (h1 : n ≤ 9223372036854775807) (w : World) (hE : Env2 w) : Calls Tryz.prog 51 #[.int .i64 n] w fun e w' => e = .returned (.agg (row4 3 (str (Lib.itoa n)) none 0 0 none 0 0)) ∧ Below w.heap.size w w' := by
  have HI := Lib.hid info_V
  obtain ⟨W0, hW0⟩ : ∃ W0, W0 = w.alloc (.cells #[.int .i64 0, .string ⟨#[]⟩, .slice none 0 0, .slice none 0 0] 63) := ⟨_, rfl⟩
  have Z0 : rowC W0 w.heap.size zeroV4 63 := by rw [hW0]; exact rowC_new w _ _
  have B0 : Below w.heap.size w W0 := by rw [hW0]; exact (Below.refl _ _).alloc (Nat.le_refl _) _
  have S0 : W0.heap.size = w.heap.size + 1 := by rw [hW0, size_alloc]
  have CI := Tryz.strconv_Itoa n h0 h1 W0 (hE.below B0).tab
  have HW0 := Lib.hid hW0
  have HZ0 := Lib.hid Z0
  have HB0 := Lib.hid B0
  clear hW0 Z0 B0 hE
  go_enter Tryz.func51, Tryz.ntmps51
  go_upto_region 1 with (fail)
  rw [← HW0.out]
  go_wp2_with (first
    | (go_at_call 90; ((with_reducible refine CI.mono ?_); rintro e w2 ⟨rfl, k, os, hw2⟩; have HB2 : Hid (Below W0.heap.size W0 w2) := Lib.hid (by rw [hw2]; exact below_grow _ _ _); have HZ2 := Lib.hid (rowC_below HZ0.out HB2.out (by omega)); clear hw2))
    | ((with_reducible show wpList _ _ _ (⟨some 5, .build _ _, _, _, _, _⟩ :: _) _ _); refine wpList_build_as rfl 63 _ rfl (row4 3 (str (Lib.itoa n)) none 0 0 none 0 0) (by kernel_rfl) ?_)
    | ((with_reducible show wpList _ _ _ (⟨none, .store _ (.tmp 2) _, _, _, _, _⟩ :: _) _ _); refine wpList_store_row rfl 63 _ _ rfl w.heap.size (row4 3 (str (Lib.itoa n)) none 0 0 none 0 0) rfl rfl 63 zeroV4 HZ2.out HI.out rfl (row4_all _ _ _ _ _ _ _ _) ?_))
  refine bodyPost_ret (results_cell_row rfl _ _ w.heap.size 63 (row4 3 (str (Lib.itoa n)) none 0 0 none 0 0) (0, 0) _ rfl (rowC_setRow HZ2.out _) Tryz.underlying63 rfl HI.out) rfl ?_
  exact ⟨rfl, below_setRow (HB0.out.trans (HB2.out.mono (by omega))) (Nat.le_refl _) _⟩
end Go.Proofs.YtnkencdibniagaaGreatDoor

/- Layer 13: an object of fields. -/
namespace Go.Proofs.YtnkencdibniagaaGreatDoor
open Go.RowKit

/-- Fields, as a slice has them. -/
def FldR (w : World) (B : Nat) (l : List (Bs × JV)) (x : Option Addr) : Prop :=
  ∀ i k v, l[i]? = some (k, v) → ∃ ad a b c d, x = some ad ∧ ad.block < w.heap.size ∧ (∀ j u, ([.string (str k), a, b, c, d] : List Value)[j]? = some u → w.cell? ((ad.add (i * 5)).add j) = some u) ∧ HoldsC w (fun q => B ≤ q ∧ q < w.heap.size) v a b c d
def ObjI (W : World) (bc B : Nat) (l : List (Bs × JV)) (j : Nat) (w : World) : Prop :=
  ∃ I K xs, Chg (fun q => q = bc) W w ∧ rowC w bc #[.int .i64 6, .string ⟨#[]⟩, I, K] 63 ∧ w.ownsRow W.heap.size 63 4 I j xs ∧ w.ownsRow W.heap.size 9 1 K j (keysV ((l.take j).map (·.1))) ∧
    (∀ q, I.ownBlock = some q → K.ownBlock ≠ some q) ∧ ItemsC w (fun q => B ≤ q ∧ q < W.heap.size ∧ q ≠ bc ∧ q + 1 ≠ bc) ((l.take j).map (·.2)) xs
/-- Behind the key. -/
theorem obj_mid {W wr W2 w4 : World} {bc B j gk capk ci ck b5 : Nat} {xi xk : Option Addr} {xs ks : List Value} {items : List JV} {k : Bs} {o1 : Obj} {r5 : Array Value} {T5 : TypeId} (hbc : bc < W.heap.size) (hG : Chg (fun q => q = bc) W wr)
    (hR : rowC wr bc #[.int .i64 6, .string ⟨#[]⟩, .slice xi j ci, .slice xk j ck] 63) (hI : wr.ownsRow W.heap.size 63 4 (.slice xi j ci) j xs) (hK : wr.ownsRow W.heap.size 9 1 (.slice xk j ck) j ks)
    (hne : ∀ q, (Value.slice xi j ci).ownBlock = some q → (Value.slice xk j ck).ownBlock ≠ some q) (hit : ItemsC wr (fun q => B ≤ q ∧ q < W.heap.size ∧ q ≠ bc ∧ q + 1 ≠ bc) items xs) (h2 : Chg no wr W2) (hb5 : wr.heap.size ≤ b5) (h5 : rowC W2 b5 r5 T5)
    (hg4 : (W2.alloc o1).grownBy w4 (Value.slice xk j ck).ownBlock) (hown4 : w4.ownsRow W.heap.size 9 1 (.slice (some ⟨gk, 0, none⟩) (j + 1) capk) (j + 1) (ks ++ [.string (str k)])) (hat4 : (Value.slice xk j ck).ownBlock = some gk ∨ gk = W2.heap.size + 1) :
    rowC (w4.setCell ⟨bc, 3, none⟩ (.slice (some ⟨gk, 0, none⟩) (j + 1) capk)) bc #[.int .i64 6, .string ⟨#[]⟩, .slice xi j ci, .slice (some ⟨gk, 0, none⟩) (j + 1) capk] 63 ∧
    (w4.setCell ⟨bc, 3, none⟩ (.slice (some ⟨gk, 0, none⟩) (j + 1) capk)).ownsRow W.heap.size 63 4 (.slice xi j ci) j xs ∧
    (w4.setCell ⟨bc, 3, none⟩ (.slice (some ⟨gk, 0, none⟩) (j + 1) capk)).ownsRow W.heap.size 9 1 (.slice (some ⟨gk, 0, none⟩) (j + 1) capk) (j + 1) (ks ++ [.string (str k)]) ∧
    rowC (w4.setCell ⟨bc, 3, none⟩ (.slice (some ⟨gk, 0, none⟩) (j + 1) capk)) b5 r5 T5 ∧ Chg (fun q => q = bc) W (w4.setCell ⟨bc, 3, none⟩ (.slice (some ⟨gk, 0, none⟩) (j + 1) capk)) ∧
    (∀ q, (Value.slice xi j ci).ownBlock = some q → gk ≠ q) ∧ ItemsC (w4.setCell ⟨bc, 3, none⟩ (.slice (some ⟨gk, 0, none⟩) (j + 1) capk)) (fun q => B ≤ q ∧ q < W.heap.size ∧ q ≠ bc ∧ q + 1 ≠ bc) items xs ∧
    rowC w4 bc #[.int .i64 6, .string ⟨#[]⟩, .slice xi j ci, .slice xk j ck] 63 := by
  have sg := hG.size
  have s2 := h2.size
  have hKl : ∀ q, (Value.slice xk j ck).ownBlock = some q → W.heap.size ≤ q ∧ q < wr.heap.size := fun q hq => hK.lt q hq
  have hIl : ∀ q, (Value.slice xi j ci).ownBlock = some q → W.heap.size ≤ q ∧ q < wr.heap.size := fun q hq => hI.lt q hq
  have c4 : Chg (fun q => (Value.slice xk j ck).ownBlock = some q) wr w4 := ((h2.alloc o1).mono (fun _ _ h => h.elim)).grown hg4 (fun q hq => .inl hq)
  have c24 : Chg (fun q => (Value.slice xk j ck).ownBlock = some q) W2 w4 := ((Chg.refl _ W2).alloc o1).grown hg4 (fun q hq => .inl hq)
  have cb : Chg (fun q => q = bc) w4 (w4.setCell ⟨bc, 3, none⟩ (.slice (some ⟨gk, 0, none⟩) (j + 1) capk)) := (Chg.refl _ _).cellq _ _
  have r4 := c4.rowC hR (fun e => by have := (hKl _ e).1; omega)
  have gb : gk ≠ bc := by
    rcases hat4 with h | h
    · have := (hKl _ h).1; omega
    · omega
  have gi : ∀ q, (Value.slice xi j ci).ownBlock = some q → gk ≠ q := fun q hq e => by
    subst e
    rcases hat4 with h | h
    · exact hne _ hq h
    · have := (hIl _ hq).2; omega
  refine ⟨rowC_set r4 3 _, cb.owns (c4.owns hI (fun q hq e => hne q hq e)) (fun q hq e => by have := (hIl q hq).1; omega), cb.owns hown4 (fun q hq e => by simp only [Value.ownBlock, Option.some.injEq] at hq; omega), cb.rowC (c24.rowC h5 (fun e => by have := (hKl _ e).2; omega)) (by omega), (hG.trans c4 (fun q hq e => by have := (hKl q e).1; omega)).trans cb (fun q _ e => e), gi, ItemsC.chg cb (fun q hq e => hq.2.2.1 e) _ _ (ItemsC.chg c4 (fun q hq e => by have := (hKl q e).1; have := hq.2.1; omega) _ _ hit), r4⟩
/-- Behind the item. -/
theorem obj_end {W wr w5 w7 : World} {bc B j gk capk gi capi ci : Nat} {xi : Option Addr} {xs : List Value} {l : List (Bs × JV)} {k : Bs} {v : JV} {a b c d : Value} {o2 : Obj} (hbc : bc < W.heap.size) (hl : l[j]? = some (k, v))
    (hR : rowC w5 bc #[.int .i64 6, .string ⟨#[]⟩, .slice xi j ci, .slice (some ⟨gk, 0, none⟩) (j + 1) capk] 63) (hI : w5.ownsRow W.heap.size 63 4 (.slice xi j ci) j xs) (hK : w5.ownsRow W.heap.size 9 1 (.slice (some ⟨gk, 0, none⟩) (j + 1) capk) (j + 1) (keysV ((l.take j).map (·.1)) ++ [.string (str k)]))
    (hG : Chg (fun q => q = bc) W w5) (hne : ∀ q, (Value.slice xi j ci).ownBlock = some q → gk ≠ q) (hit : ItemsC w5 (fun q => B ≤ q ∧ q < W.heap.size ∧ q ≠ bc ∧ q + 1 ≠ bc) ((l.take j).map (·.2)) xs) (hx : HoldsC wr (fun q => B ≤ q ∧ q < W.heap.size ∧ q ≠ bc ∧ q + 1 ≠ bc) v a b c d) (hwr : Chg (fun q => q = bc ∨ W.heap.size ≤ q) wr w5)
    (hg7 : (w5.alloc o2).grownBy w7 (Value.slice xi j ci).ownBlock) (hown7 : w7.ownsRow W.heap.size 63 4 (.slice (some ⟨gi, 0, none⟩) (j + 1) capi) (j + 1) (xs ++ [a, b, c, d])) (hat7 : (Value.slice xi j ci).ownBlock = some gi ∨ gi = w5.heap.size + 1) :
    ObjI W bc B l (j + 1) (w7.setCell ⟨bc, 2, none⟩ (.slice (some ⟨gi, 0, none⟩) (j + 1) capi)) := by
  have sg := hG.size
  have hIl : ∀ q, (Value.slice xi j ci).ownBlock = some q → W.heap.size ≤ q ∧ q < w5.heap.size := fun q hq => hI.lt q hq
  have hKl := hK.lt gk rfl
  have c7 : Chg (fun q => (Value.slice xi j ci).ownBlock = some q) w5 w7 := ((Chg.refl _ w5).alloc o2).grown hg7 (fun q hq => .inl hq)
  have cb : Chg (fun q => q = bc) w7 (w7.setCell ⟨bc, 2, none⟩ (.slice (some ⟨gi, 0, none⟩) (j + 1) capi)) := (Chg.refl _ _).cellq _ _
  have r7 := c7.rowC hR (fun e => by have := (hIl _ e).1; omega)
  have ng : gi ≠ gk := by
    rcases hat7 with h | h
    · exact fun e => hne _ h e.symm
    · omega
  have gb : gi ≠ bc := by
    rcases hat7 with h | h
    · have := (hIl _ h).1; omega
    · omega
  refine ⟨_, _, xs ++ [a, b, c, d], (hG.trans c7 (fun q hq e => by have := (hIl q e).1; omega)).trans cb (fun q _ e => e), rowC_set r7 2 _, cb.owns hown7 (fun q hq e => by simp only [Value.ownBlock, Option.some.injEq] at hq; omega), ?_, ?_, ?_⟩
  · rw [take_one hl, List.map_append]
    have := cb.owns (c7.owns hK (fun q hq e => by simp only [Value.ownBlock, Option.some.injEq] at hq; exact hne q e hq)) (fun q hq e => by simp only [Value.ownBlock, Option.some.injEq] at hq; omega)
    unfold keysV at this ⊢
    rw [List.map_append]
    exact this
  · intro q hq e
    simp only [Value.ownBlock, Option.some.injEq] at hq e
    omega
  · rw [take_one hl, List.map_append]
    refine ItemsC.snoc ?_ _ _ ?_
    · exact HoldsC.chg cb (fun q hq e => hq.2.2.1 e) _ _ _ _ _ (HoldsC.chg c7 (fun q hq e => by have := (hIl q e).1; have := hq.2.1; omega) _ _ _ _ _ (HoldsC.chg hwr (fun q hq e => by rcases e with e | e; exact hq.2.2.1 e; have := hq.2.1; omega) _ _ _ _ _ hx))
    · exact ItemsC.chg cb (fun q hq e => hq.2.2.1 e) _ _ (ItemsC.chg c7 (fun q hq e => by have := (hIl q e).1; have := hq.2.1; omega) _ _ hit)
theorem items_hold {w : World} {H j : Nat} {I : Value} {xs : List Value} {items : List JV} {F G : Nat → Prop} (hI : w.ownsRow H 63 4 I j xs) (hj : items.length = j) (hit : ItemsC w F items xs) (hF : ∀ q, F q → G q) (hH : ∀ q, H ≤ q → G q) :
    (I = .slice none 0 0 ∧ items = []) ∨ ∃ (ad : Addr) (cap : Nat), I = .slice (some ad) items.length cap ∧ HoldsR w G items ad 0 := by
  subst hj
  rcases hI.2 with ⟨hv, hn⟩ | ⟨g, cap, cur, hv, hb, _⟩
  · exact .inl ⟨hv, List.eq_nil_of_length_eq_zero hn⟩
  · refine .inr ⟨⟨g, 0, none⟩, cap, hv, ItemsC.row items xs 0 (ItemsC.mono (fun k hk _ => hF k hk) items xs hit) (fun _ => hH _ hb) fun j u hj => ?_⟩
    have := hI.cells (g := g) (by rw [hv]; rfl) j u hj
    simpa using this
end Go.Proofs.YtnkencdibniagaaGreatDoor

