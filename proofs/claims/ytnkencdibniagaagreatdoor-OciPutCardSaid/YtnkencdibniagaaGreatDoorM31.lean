/- Merged: OdR, OdS, OdT. -/
import Derived.Test.YtnkencdibniagaaGreatDoorM30
/- Layer 13: Index. -/
namespace Go.Proofs.YtnkencdibniagaaGreatDoor
open Go.RowKit

def idxR (R : Res JV) : Got (List DV) := match R with | .bad c _ => .bad c | .ok v _ => idxV v
/-- What Index answers. -/
def IdxP (w : World) (G : Got (List DV)) (e : Ending) (w' : World) : Prop :=
  ∃ l t code, e = .returned (.tuple #[t, .int .i64 ((code : Nat) : Int)]) ∧ eDess.at_ w' (fun k => w.heap.size ≤ k ∧ k < w'.heap.size) l t ∧ (G = .ok l ∧ code = 0 ∨ G = .bad code ∧ l = []) ∧ Below w.heap.size w w'
theorem idxR_bad {R : Res JV} {code : Nat} (h : code ≠ 0 ∧ code = codeP 2 R) : idxR R = .bad code := by
  obtain ⟨h0, rfl⟩ := h
  cases R with
  | bad c r => rfl
  | ok v r =>
    have h0 : headV 2 v ≠ 0 := h0
    show idxV v = _
    unfold idxV
    rw [if_pos h0]
    rfl
theorem idx_none {v : JV} (h : headV 2 v = 0) (h2 : partV v kMan (listV descV) = none) : idxV v = .bad 10 := by unfold idxV; rw [if_neg (by simp [h]), h2]
theorem idx_many {v : JV} {l : List DV} (h : headV 2 v = 0) (h2 : partV v kMan (listV descV) = some l) (h3 : 32 < l.length) : idxV v = .bad 63 := by unfold idxV; rw [if_neg (by simp [h]), h2]; dsimp only; rw [if_pos h3]
theorem idx_some {v : JV} {l : List DV} (h : headV 2 v = 0) (h2 : partV v kMan (listV descV) = some l) (h3 : ¬ 32 < l.length) : idxV v = .ok l := by unfold idxV; rw [if_neg (by simp [h]), h2]; dsimp only; rw [if_neg h3]
theorem dess_len {w : World} {F : Nat → Prop} {l : List DV} {t : Value} (h : eDess.at_ w F l t) : ∃ x c, t = .slice x l.length c := by
  rcases h with ⟨h, h2⟩ | ⟨ad, cap, h, _⟩
  · exact ⟨none, 0, by rw [h, h2]; rfl⟩
  · exact ⟨some ad, cap, h⟩
set_option maxRecDepth 100000 in
set_option maxHeartbeats 16000000 in
theorem index_any2 {q : Nat} {S : Bs} {R : Res JV} (hS : S.length ≤ 65536) (w : World) (hE : Env2 w) (hR : allP q S = some R) :
    Calls Tryz.prog 11 #[.string (str S)] w fun e w' => IdxP w (idxR R) e w' := by
  have CQ : Calls Tryz.prog 31 #[.string (str S), .int .i64 2] w fun e w' => ParP w 2 R e w' := oparse_any hS 2 w hE hR
  obtain ⟨G, hG⟩ : ∃ G, G = idxR R := ⟨_, rfl⟩
  rw [← hG]
  have HG := Lib.hid hG
  have HI := Lib.hid info_V
  have HE := Lib.hid hE
  have HRR := Lib.hid hR
  have HSL := Lib.hid hS
  clear hE hR hS hG
  go_enter Tryz.func11, Tryz.ntmps11
  go_upto_region 2 with (first
    | (go_at_call 31; ((with_reducible refine CQ.mono ?_); rintro e w1 ⟨v, code, y, m, z, n, rfl, hV, hor, hb⟩; have HV := Lib.hid hV; have HOR := Lib.hid hor; have HB := Lib.hid hb; have s1 := hb.size; clear hV hor hb CQ))
    | ((with_reducible show wpList _ _ _ (⟨none, .store _ (.tmp 4) _, _, _, _, _⟩ :: _) _ _); refine wpList_store_last rfl 63 _ _ rfl w1.heap.size (row4 v.kind (str v.text) y v.items.length m z v.keys.length n) rfl rfl 63 zeroV4 rfl HI.out rfl (row4_all _ _ _ _ _ _ _ _) ?_))
  obtain ⟨W2, hW2⟩ : ∃ W2, W2 = w1.alloc (.cells (row4 v.kind (str v.text) y v.items.length m z v.keys.length n) 63) := ⟨_, rfl⟩
  rw [← hW2]
  have sw2 : W2.heap.size = w1.heap.size + 1 := by rw [hW2]; exact size_alloc _ _
  have B2 : Hid (Below w.heap.size w W2) := Lib.hid (by rw [hW2]; exact HB.out.alloc (by omega) _)
  have R2 : Hid (rowC W2 w1.heap.size (row4 v.kind (str v.text) y v.items.length m z v.keys.length n) 63) := Lib.hid (by rw [hW2]; exact rowC_new _ _ _)
  have H2 : Hid (HoldsC W2 (fun k => k < W2.heap.size) v (.int .i64 v.kind) (.string (str v.text)) (.slice y v.items.length m) (.slice z v.keys.length n)) := Lib.hid (by rw [hW2]; exact HoldsC.mono (fun k _ hlt => hlt) _ _ _ _ _ (HoldsC.chg (s := no) ((Chg.refl _ _).alloc _) (fun _ _ h => h) _ _ _ _ _ HV.out))
  clear hW2 HV
  rcases HOR.out with ⟨⟨r, hr⟩, hcode, hv0⟩ | hbad
  rotate_left
  · have e0 : Hid (G = .bad code) := Lib.hid (by rw [HG.out]; exact idxR_bad hbad)
    have hci : ¬ (code : Int) = 0 := by have := hbad.1; omega
    have hcb : ((code : Int) == 0) = false := by rw [beq_eq_false_iff_ne]; exact hci
    clear hbad
    go_wp2
    go_ret2
    rw [e0.out]
    exact ⟨[], _, code, rfl, .inl ⟨rfl, rfl⟩, .inr ⟨rfl, rfl⟩, B2.out⟩
  subst hcode
  have HGV : Hid (G = idxV v) := Lib.hid (by rw [HG.out, hr]; rfl)
  have HOK := Lib.hid (okR_all HSL.out (by rw [← hr]; exact HRR.out))
  clear hr
  have CL : ∀ w', Gn W2 no w' → Calls Tryz.prog 35 #[.func (.func 42) #[] #[]] w' fun e w1 => e = .returned (.func (.func 78) #[] #[.pointer (some ⟨w'.heap.size, 0, none⟩)]) ∧ w1.cell? ⟨w'.heap.size, 0, none⟩ = some (.func (.func 42) #[] #[]) ∧ Gn W2 no w1 := fun w' hg => (listOf_des _ _ w').mono fun e w1 ⟨h1, h2, h3⟩ => ⟨h1, h2, hg.call h3⟩
  have CP : ∀ bl w', Gn W2 no w' → w'.cell? ⟨bl, 0, none⟩ = some (.func (.func 42) #[] #[]) → Calls Tryz.prog 34 #[.agg #[.int .i64 v.kind, .string (str v.text), .slice y v.items.length m, .slice z v.keys.length n], .string ⟨#[109, 97, 110, 105, 102, 101, 115, 116, 115]⟩, .func (.func 78) #[] #[.pointer (some ⟨bl, 0, none⟩)]] w' fun e w2 => ∃ a t ok, e = .returned (.tuple #[t, .bool ok]) ∧ eDess.at_ w2 (fun k => w.heap.size ≤ k ∧ k < w2.heap.size) a t ∧ (partV v kMan (listV descV) = some a ∧ ok = true ∨ partV v kMan (listV descV) = none ∧ ok = false) ∧ Gn W2 no w2 := fun bl w' hg hc => by
    have hb : Below w.heap.size w w' := B2.out.trans (hg.below (by omega) (fun _ _ h => h))
    have sw := hg.size
    refine (part_dess (rd_lsdes rd_des bl) HOK.out kMan (HE.out.below hb) ⟨trivial, hc⟩ (HoldsC.mono (fun k hk hlt => hlt) _ _ _ _ _ (HoldsC.chg hg (fun _ _ h => h) _ _ _ _ _ H2.out))).mono ?_
    rintro e w2 ⟨a, t, ok, rfl, h2, h3, h4⟩
    exact ⟨a, t, ok, rfl, eDess.mono h2 (fun k hk hlt => ⟨by have := hk.1; omega, hlt⟩), h3, hg.call h4⟩
  go_upto_region 4 with (fail)
  have OS : ∀ w', Gn W2 no w' → w'.rangeAt w1.heap.size 0 [.int .i64 v.kind, .string (str v.text), .slice y v.items.length m, .slice z v.keys.length n] ∧ True := fun w' h => ⟨rowC_range (h.row R2.out id) 0 _ (fun u hq hh => by rw [Nat.zero_add]; simpa [row4] using hh), trivial⟩
  have SO : ∀ w', Gn W2 no w' → Gn W2 no w' := fun _ h => h
  have ui := Tryz.underlying63
  have ii := HI.out
  refine wp_region_noPanic ?_
  refine wp_region_held_drew (S := Gn W2 no) (by kernel_rfl) (Gn.start _ _) (fun hHeld => ?_)
  generalize W2.drew = wd at *
  refine wpAnyH_take (i := 0) (oi := { dst := some 15, op := Op.load 63 (Operand.tmp 4), type := 63, pos := "oci.go:111", after := #[], guard := none }) (v := _) rfl (by kernel_rfl) (by kernel_rfl) (by kernel_rfl) (fun _ _ _ h => h) (yieldsIf_load_mid (by rfl) _ _ rfl _ _ rfl _ _ (by intro w hSw; have hSw := OS _ hSw; go_split_ands; assumption) (by assumption) rfl (by assumption)) (by assumption) ?_
  try simp only [Act.put, List.setIfInBounds_toArray, List.set_cons_zero, List.set_cons_succ]
  refine wpAnyH_ready (rs := [1]) (by kernel_rfl) (by simp) ?_
  refine (AllReadyH.cons (o := { dst := some 16, op := Op.call { callee := Callee.value (Operand.func 35), args := #[Operand.func 42], argTypes := #[73] }, type := 75, pos := "oci.go:111", after := #[], guard := none }) rfl (fun K hK => ?_) AllReadyH.nil)
  go_simp
  with_reducible refine (CL _ hHeld).mono ?_
  rintro e w1' ⟨rfl, hc1, m1'⟩
  refine hK.out _ _ (SO _ (by assumption)) (fun hHeld => ?_)
  clear hK K
  try simp only [Act.put, List.setIfInBounds_toArray, List.set_cons_zero, List.set_cons_succ]
  refine wpAnyH_ready (rs := [2]) (by kernel_rfl) (by simp) ?_
  refine (AllReadyH.cons (o := { dst := some 17, op := Op.call { callee := Callee.value (Operand.func 34), args := #[Operand.tmp 15, Operand.const (Value.string { data := #[109, 97, 110, 105, 102, 101, 115, 116, 115] }), Operand.tmp 16], argTypes := #[63, 9, 75] }, type := 48, pos := "oci.go:111", after := #[{ on := 0, ground := Ground.data }, { on := 1, ground := Ground.data }, { on := 1, ground := Ground.chain }], guard := none }) rfl (fun K hK => ?_) AllReadyH.nil)
  go_simp
  with_reducible refine (CP _ _ hHeld hc1).mono ?_
  rintro e w2' ⟨a2, t2, ok2, rfl, hA2, hor2, m2'⟩
  refine hK.out _ _ (SO _ (by assumption)) (fun hHeld => ?_)
  clear hK K
  try simp only [Act.put, List.setIfInBounds_toArray, List.set_cons_zero, List.set_cons_succ]
  refine wpAnyH_take (i := 3) (oi := { dst := some 14, op := Op.move (Operand.tmp 17), type := 48, pos := "oci.go:111", after := #[{ on := 2, ground := Ground.data }], guard := none }) (v := ?_) rfl (by kernel_rfl) (by kernel_rfl) (by kernel_rfl) (fun _ _ _ h => h) (Or.inl ⟨by rfl, ?_⟩) (by assumption) ?_
  rotate_left
  · intro w hSw
    skip
    clear hSw
    go_simp
    try with_reducible rfl
  try simp only [Act.put, List.setIfInBounds_toArray, List.set_cons_zero, List.set_cons_succ]
  refine wpAnyH_take (i := 4) (oi := { dst := some 18, op := Op.extract (Operand.tmp 14) 0, type := 29, pos := "oci.go:111", after := #[{ on := 3, ground := Ground.data }], guard := none }) (v := ?_) rfl (by kernel_rfl) (by kernel_rfl) (by kernel_rfl) (fun _ _ _ h => h) (Or.inl ⟨by rfl, ?_⟩) (by assumption) ?_
  rotate_left
  · intro w hSw
    skip
    clear hSw
    go_simp
    try with_reducible rfl
  try simp only [Act.put, List.setIfInBounds_toArray, List.set_cons_zero, List.set_cons_succ]
  refine wpAnyH_take (i := 5) (oi := { dst := some 19, op := Op.extract (Operand.tmp 14) 1, type := 4, pos := "oci.go:111", after := #[{ on := 3, ground := Ground.data }, { on := 6, ground := Ground.gcOnly Departure.lateStores }], guard := none }) (v := ?_) rfl (by kernel_rfl) (by kernel_rfl) (by kernel_rfl) (fun _ _ _ h => h) (Or.inl ⟨by rfl, ?_⟩) (by assumption) ?_
  rotate_left
  · intro w hSw
    skip
    clear hSw
    go_simp
    try with_reducible rfl
  try simp only [Act.put, List.setIfInBounds_toArray, List.set_cons_zero, List.set_cons_succ]
  refine wpAnyH_take (i := 6) (oi := { dst := some 2, op := Op.assign (Operand.tmp 18), type := 29, pos := "oci.go:111", after := #[{ on := 4, ground := Ground.data }, { on := 2, ground := Ground.chain }, { on := 0, ground := Ground.phase }, { on := 1, ground := Ground.phase }, { on := 2, ground := Ground.phase }, { on := 3, ground := Ground.phase }, { on := 4, ground := Ground.phase }, { on := 5, ground := Ground.textOnly Departure.lateStores }], guard := none }) (v := ?_) rfl (by kernel_rfl) (by kernel_rfl) (by kernel_rfl) (fun _ _ _ h => h) (Or.inl ⟨by rfl, ?_⟩) (by assumption) ?_
  rotate_left
  · intro w hSw
    skip
    clear hSw
    go_simp
    try with_reducible rfl
  try simp only [Act.put, List.setIfInBounds_toArray, List.set_cons_zero, List.set_cons_succ]
  refine wpAnyH_take (i := 7) (oi := { dst := some 5, op := Op.assign (Operand.tmp 19), type := 4, pos := "oci.go:111", after := #[{ on := 5, ground := Ground.data }, { on := 6, ground := Ground.chain }, { on := 0, ground := Ground.phase }, { on := 1, ground := Ground.phase }, { on := 2, ground := Ground.phase }, { on := 3, ground := Ground.phase }, { on := 4, ground := Ground.phase }, { on := 5, ground := Ground.phase }, { on := 6, ground := Ground.phase }], guard := none }) (v := ?_) rfl (by kernel_rfl) (by kernel_rfl) (by kernel_rfl) (fun _ _ _ h => h) (Or.inl ⟨by rfl, ?_⟩) (by assumption) ?_
  rotate_left
  · intro w hSw
    skip
    clear hSw
    go_simp
    try with_reducible rfl
  try simp only [Act.put, List.setIfInBounds_toArray, List.set_cons_zero, List.set_cons_succ]
  refine wpAnyH_done (by kernel_rfl) ?_ _
  refine NoPanic.normal ?_
  have B4 : Hid (Below w.heap.size w w2') := Lib.hid (B2.out.trans (m2'.below (by omega) (fun _ _ h => h)))
  rcases hor2 with ⟨h4, hok⟩ | ⟨h4, hok⟩
  rotate_left
  · subst hok
    have e0 : Hid (G = .bad 10) := Lib.hid (by rw [HGV.out]; exact idx_none hv0 h4)
    go_wp2
    go_ret2
    rw [e0.out]
    exact ⟨[], _, 10, rfl, .inl ⟨rfl, rfl⟩, .inr ⟨rfl, rfl⟩, B4.out⟩
  subst hok
  have hlen := dess_len hA2
  obtain ⟨xl, cl, rfl⟩ := hlen
  by_cases h32 : 32 < a2.length
  · have e0 : Hid (G = .bad 63) := Lib.hid (by rw [HGV.out]; exact idx_many hv0 h4 h32)
    have h32' : (32 : Int) < (a2.length : Int) := by omega
    go_wp2
    go_ret2
    rw [e0.out]
    exact ⟨[], _, 63, rfl, .inl ⟨rfl, rfl⟩, .inr ⟨rfl, rfl⟩, B4.out⟩
  have e0 : Hid (G = .ok a2) := Lib.hid (by rw [HGV.out]; exact idx_some hv0 h4 h32)
  have h32' : ¬ (32 : Int) < (a2.length : Int) := by omega
  have HA := Lib.hid hA2
  clear hA2 h32
  go_wp2
  go_ret2
  rw [e0.out]
  exact ⟨a2, _, 0, rfl, HA.out, .inl ⟨rfl, rfl⟩, B4.out⟩
end Go.Proofs.YtnkencdibniagaaGreatDoor

/- Layer 13: Image. -/
namespace Go.Proofs.YtnkencdibniagaaGreatDoor
open Go.RowKit

def row3 (a b : ByteArray) (x : Option Addr) (n c : Nat) : Array Value := #[.string a, .string b, .slice x n c]
theorem row3_all (a b : ByteArray) (x : Option Addr) (n c : Nat) : (row3 a b x n c).all (·.oneCell') = true := all_oneCell_toArray (fun v hv => by
  rcases List.mem_cons.1 hv with rfl | hv
  · rfl
  rcases List.mem_cons.1 hv with rfl | hv
  · rfl
  rcases List.mem_cons.1 hv with rfl | hv
  · rfl
  cases hv)
def zeroI : Array Value := row3 ⟨#[]⟩ ⟨#[]⟩ none 0 0
theorem info_I : (Tryz.prog.info? 39).map (·.size) = some 3 := by kernel_rfl
end Go.Proofs.YtnkencdibniagaaGreatDoor

/- Layer 13: by what a manifest would not be read. -/
namespace Go.Proofs.YtnkencdibniagaaGreatDoor
open Go.RowKit

def encM (c : DV) (t : Value) : Array Value := (encL c ++ [t]).toArray
theorem encM_36 {c : DV} (h : goodD c) (t : Value) : (encM c t)[36]? = some t := by
  unfold encM
  rw [List.getElem?_toArray, List.getElem?_append_right (by rw [encL_len h.1]; omega), encL_len h.1]
  rfl
theorem encM_0 (c : DV) (t : Value) : (encM c t)[0]? = some (.string (str c.media)) := rfl
theorem fits_not {c : DV} {l : List DV} {d : DV} (h8 : ¬ 8 < l.length) (h3 : kindN c.media = 3) (hm : d ∈ l) (hd : kindN d.media ≠ 4) : fitsN c l = 72 := by
  unfold fitsN
  rw [if_neg h8, if_neg (by simp [h3]), if_neg]
  intro h
  have := List.all_eq_true.1 h d hm
  exact hd (by simpa using this)
theorem fits_yes {c : DV} {l : List DV} (h8 : ¬ 8 < l.length) (h3 : kindN c.media = 3) (hd : ∀ d ∈ l, kindN d.media = 4) : fitsN c l = 0 := by
  unfold fitsN
  rw [if_neg h8, if_neg (by simp [h3]), if_pos]
  rw [List.all_eq_true]
  intro d hm
  simpa using hd d hm
/-- Rows' cells, by the address that a walk reckons. -/
theorem dess_at {w : World} {F : Nat → Prop} {l : List DV} {x : Option Addr} {n c : Nat} (h : eDess.at_ w F l (.slice x n c)) {i : Nat} {d : DV} (hi : l[i]? = some d) : goodD d ∧ ∃ ad, x = some ad ∧ F ad.block ∧ ∀ j u, (encL d)[j]? = some u → w.cell? ((ad.add (i * 36)).add j) = some u := by
  rcases h with ⟨_, h2⟩ | ⟨ad, cap, h1, h2⟩
  · subst h2; simp at hi
  · cases h1
    obtain ⟨h3, h4, h5⟩ := h2 i d hi
    refine ⟨h4, ad, rfl, h3, fun j u hj => ?_⟩
    have := h5 j u (by rw [encD_list]; exact hj)
    rw [add_add, show i * 36 + j = 36 * i + j by omega]
    exact this
set_option maxRecDepth 100000 in
set_option maxHeartbeats 16000000 in
theorem fits_any (c : DV) (l : List DV) (x : Option Addr) (cc : Nat) (w : World) (hc : goodD c) (hL : eDess.at_ w (fun k => k < w.heap.size) l (.slice x l.length cc)) :
    Calls Tryz.prog 36 #[.agg (encM c (.slice x l.length cc))] w fun e w' => e = .returned (.int .i64 (fitsN c l : Int)) ∧ Below w.heap.size w w' := by
  obtain ⟨W0, hW0⟩ : ∃ W0, W0 = w.alloc (.cells (encM c (.slice x l.length cc)) 31) := ⟨_, rfl⟩
  have R0 : rowC W0 w.heap.size (encM c (.slice x l.length cc)) 31 := by rw [hW0]; exact rowC_new w _ _
  have B0 : Below w.heap.size w W0 := by rw [hW0]; exact (Below.refl _ _).alloc (Nat.le_refl _) _
  have S0 : W0.heap.size = w.heap.size + 1 := by rw [hW0, size_alloc]
  have q36 : W0.cell? ⟨w.heap.size, 36, none⟩ = some (.slice x l.length cc) := by rw [rowC_cell R0]; exact encM_36 hc _
  have q0 : W0.cell? ⟨w.heap.size, 0, none⟩ = some (.string (str c.media)) := by rw [rowC_cell R0]; exact encM_0 _ _
  have CK := fun (s : Bs) (w : World) => kind_any s w
  obtain ⟨N, hN⟩ : ∃ N, N = fitsN c l := ⟨_, rfl⟩
  rw [← hN]
  have HN := Lib.hid hN
  have HW0 := Lib.hid hW0
  have HR0 := Lib.hid R0
  have HB0 := Lib.hid B0
  have HL := Lib.hid hL
  have HCK := Lib.hid CK
  have HID := Lib.hid (fun (d : DV) (h : goodD d) => show (Tryz.prog.info? 28).map (·.size) = some (encD d).size by rw [encD_size d h]; exact info_D)
  have HSZ := Lib.hid (fun (d : DV) (h : goodD d) => show (encD zeroD).size = (encD d).size by rw [encD_size d h]; rfl)
  clear hN hW0 R0 B0 hL CK
  go_enter Tryz.func36, Tryz.ntmps36
  go_upto_region 1 with (fail)
  rw [← HW0.out]
  by_cases h8 : 8 < l.length
  · have e0 : Hid (N = 63) := Lib.hid (by rw [HN.out]; unfold fitsN; rw [if_pos h8])
    have h8' : (8 : Int) < (l.length : Int) := by omega
    go_wp2
    go_ret
    rw [e0.out]
    exact ⟨rfl, HB0.out⟩
  have h8' : ¬ (8 : Int) < (l.length : Int) := by omega
  have CC := HCK.out c.media
  by_cases h3 : kindN c.media = 3
  rotate_left
  · have e0 : Hid (N = 72) := Lib.hid (by rw [HN.out]; unfold fitsN; rw [if_neg h8, if_pos h3])
    have h3' : ¬ ((kindN c.media : Nat) : Int) = 3 := by omega
    have h3b : (((kindN c.media : Nat) : Int) != 3) = true := by simpa using h3'
    generalize kindN c.media = kc at *
    clear h8 h3
    go_wp2_with (go_at_call 24; ((with_reducible refine (CC _).mono ?_); rintro e w2 ⟨rfl, rfl⟩))
    go_ret
    rw [e0.out]
    exact ⟨rfl, HB0.out⟩
  have H3 := Lib.hid h3
  have H8 := Lib.hid h8
  rw [h3] at CC
  clear h3 h8
  go_wp2_with (go_at_call 24; ((with_reducible refine (CC _).mono ?_); rintro e w2 ⟨rfl, rfl⟩))
  go_loopg [17] l.length (fun gk s17 wr => ∃ j : Nat, s17 = .int .i64 (j : Int) ∧ Hid (gk = l.length - j) ∧ Hid (j ≤ l.length) ∧ Hid (∀ i d, i < j → l[i]? = some d → kindN d.media = 4) ∧ Hid (Below W0.heap.size W0 wr))
  case atStart => exact ⟨0, rfl, Lib.hid rfl, Lib.hid (Nat.zero_le _), Lib.hid (fun i d h => absurd h (Nat.not_lt_zero _)), Lib.hid (Below.refl _ _)⟩
  case round =>
    obtain ⟨j, rfl, HNj, HNL, HM, HBW⟩ := hrel
    have sw := HBW.out.size
    have hbw : Below w.heap.size w wr := HB0.out.trans (HBW.out.mono (by omega))
    by_cases hj : j < l.length
    · have hj1 : (j : Int) < (l.length : Int) := by omega
      obtain ⟨d, hd⟩ : ∃ d, l[j]? = some d := ⟨_, List.getElem?_eq_getElem hj⟩
      obtain ⟨gd, ad, rfl, hab, hcs⟩ := dess_at HL.out hd
      have HGD := Lib.hid gd
      have HCS := Lib.hid (show ∀ i u, (encL d)[i]? = some u → wr.cell? ((ad.add (j * 36)).add i) = some u from fun i u hu => by
        rw [World.cell?_of_block (w := w) (w' := wr) (hbw.block _ (by rw [add_block, add_block]; exact hab))]
        exact hcs i u hu)
      have HDJ := Lib.hid hd
      have hjm : j ≤ 65536 := by omega
      have CD := HCK.out d.media
      have HEL := Lib.hid (encD_list d)
      have HIL := Lib.hid (show (Tryz.prog.info? 28).map (·.size) = some (encL d).length by rw [encL_len gd.1]; exact info_D)
      clear gd hcs hd hj
      go_upto_region 8 with (first
        | ((with_reducible show wpList _ _ _ (⟨some 20, .load _ _, _, _, _, _⟩ :: _) _ _); refine wpList_load_at rfl 28 _ rfl (ad.add (j * 36)) rfl (encL d) _ HCS.out Tryz.underlying28 rfl HIL.out ?_)
        | ((with_reducible show wpList _ _ _ (⟨none, .store _ (.tmp 4) _, _, _, _, _⟩ :: _) _ _); refine wpList_store_last rfl 28 _ _ rfl wr.heap.size (encD d) rfl (by rw [HEL.out]; rfl) 28 (encD zeroD) rfl (HID.out d HGD.out) (HSZ.out d HGD.out) (encD_one _) ?_))
      obtain ⟨W1, hW1⟩ : ∃ W1, W1 = wr.alloc (.cells (encD d) 28) := ⟨_, rfl⟩
      rw [← hW1]
      have q1 : W1.cell? ⟨wr.heap.size, 0, none⟩ = some (.string (str d.media)) := by rw [hW1, rowC_cell (rowC_new _ _ _), encD_list]; rfl
      have B1 : Hid (Below W0.heap.size W0 W1) := Lib.hid (by rw [hW1]; exact HBW.out.alloc sw _)
      clear hW1
      by_cases h4 : kindN d.media = 4
      rotate_left
      · have e0 : Hid (N = 72) := Lib.hid (by rw [HN.out]; exact fits_not H8.out H3.out (List.mem_of_getElem? HDJ.out) h4)
        have h4' : ¬ ((kindN d.media : Nat) : Int) = 4 := by omega
        generalize kindN d.media = kd at *
        clear h4
        go_wp2_with (go_at_call 24; ((with_reducible refine (CD _).mono ?_); rintro e w2 ⟨rfl, rfl⟩))
        go_ret
        rw [e0.out]
        exact ⟨rfl, HB0.out.trans (B1.out.mono (by omega))⟩
      have H4 := Lib.hid h4
      rw [h4] at CD
      clear h4
      go_wp2_with (go_at_call 24; ((with_reducible refine (CD _).mono ?_); rintro e w2 ⟨rfl, rfl⟩))
      go_roundg (l.length - (j + 1))
      case measure => rw [HNj.out]; omega
      case rel =>
        refine ⟨j + 1, rfl, Lib.hid rfl, Lib.hid (by omega), Lib.hid (fun i d' hi hd' => ?_), B1⟩
        by_cases hij : i = j
        · subst hij
          rw [HDJ.out] at hd'
          injection hd' with hd'
          rw [← hd']
          exact H4.out
        · exact HM.out i d' (by omega) hd'
    · have hj1 : ¬ (j : Int) < (l.length : Int) := by omega
      have e0 : Hid (N = 0) := Lib.hid (by
        rw [HN.out]
        refine fits_yes H8.out H3.out fun d hd => ?_
        obtain ⟨i, hi⟩ := List.getElem?_of_mem hd
        exact HM.out i d (by have := (List.getElem?_eq_some_iff.1 hi).1; omega) hi)
      clear hj
      go_wp2
      go_ret
      rw [e0.out]
      exact ⟨rfl, hbw⟩
end Go.Proofs.YtnkencdibniagaaGreatDoor

