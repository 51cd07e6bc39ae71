/- Merged: OdX, DpB, OdY. -/
import Derived.Test.YtnkencdibniagaaGreatDoorM32
import Derived.Test.YtnkencdibniagaaGreatDoorM22
/- Layer 13: the walk of object. -/
namespace Go.Proofs.YtnkencdibniagaaGreatDoor
open Go.RowKit

theorem info_F : (Tryz.prog.info? 102).map (·.size) = some 5 := by kernel_rfl
def row5 (s : ByteArray) (k : Int) (t : ByteArray) (x1 : Option Addr) (n1 c1 : Nat) (x2 : Option Addr) (n2 c2 : Nat) : Array Value := #[.string s, .int .i64 k, .string t, .slice x1 n1 c1, .slice x2 n2 c2]
theorem row5_all (s : ByteArray) (k : Int) (t : ByteArray) (x1 : Option Addr) (n1 c1 : Nat) (x2 : Option Addr) (n2 c2 : Nat) : (row5 s k t x1 n1 c1 x2 n2 c2).all (·.oneCell') = true := all_oneCell_toArray (fun v hv => by
  simp only [List.mem_cons, List.not_mem_nil, or_false] at hv
  rcases hv with rfl | rfl | rfl | rfl | rfl <;> rfl)
def zeroF : Array Value := row5 ⟨#[]⟩ 0 ⟨#[]⟩ none 0 0 none 0 0
/-- An object in memory. -/
def ObjP (w : World) (B : Nat) (l : List (Bs × JV)) (e : Ending) (w' : World) : Prop :=
  ∃ y m z n, e = .returned (.agg (row4 6 ⟨#[]⟩ y l.length m z l.length n)) ∧ HoldsC w' (fun q => B ≤ q ∧ q < w'.heap.size) (objJ l) (.int .i64 6) (.string ⟨#[]⟩) (.slice y l.length m) (.slice z l.length n) ∧ Below w.heap.size w w'
set_option maxRecDepth 100000 in
set_option maxHeartbeats 16000000 in
theorem object_put (l : List (Bs × JV)) (B : Nat) (x : Option Addr) (cap : Nat) (w : World) (hB : B ≤ w.heap.size) (hl : l.length ≤ 1000) (hF : FldR w B l x) :
    Calls Tryz.prog 50 #[.slice x l.length cap] w fun e w' => ObjP w B l e w' := by
  obtain ⟨W1, hW1⟩ : ∃ W1, W1 = (w.alloc (.cells #[.int .i64 0, .string ⟨#[]⟩, .slice none 0 0, .slice none 0 0] 63)).alloc (.cells (row4 6 ⟨#[]⟩ none 0 0 none 0 0) 63) := ⟨_, rfl⟩
  have s1 := size_alloc w (.cells #[.int .i64 0, .string ⟨#[]⟩, .slice none 0 0, .slice none 0 0] 63)
  have Z1 : rowC W1 w.heap.size zeroV4 63 := by rw [hW1]; exact rowC_alloc (rowC_new w _ _) _
  have R1 : rowC W1 (w.heap.size + 1) (row4 6 ⟨#[]⟩ none 0 0 none 0 0) 63 := by rw [hW1, ← s1]; exact rowC_new _ _ _
  have B1 : Below w.heap.size w W1 := by rw [hW1]; exact ((Below.refl _ _).alloc (Nat.le_refl _) _).alloc (by omega) _
  have S1 : W1.heap.size = w.heap.size + 2 := by rw [hW1, size_alloc, s1]
  have HW1 := Lib.hid hW1
  have HZ1 := Lib.hid Z1
  have HR1 := Lib.hid R1
  have HB1 := Lib.hid B1
  have HF := Lib.hid hF
  have HI := Lib.hid info_V
  have HIF := Lib.hid info_F
  obtain ⟨i0, hi0, hz0, hz1, hz2⟩ := info_parts info_V3
  obtain ⟨j0, ji0, jz0, jz1, jz2⟩ := info_parts info_S1
  clear hW1 Z1 R1 B1 hF
  go_enter Tryz.func50, Tryz.ntmps50
  go_upto_region 2 with (first
    | ((with_reducible show wpList _ _ _ (⟨some 6, .build _ _, _, _, _, _⟩ :: _) _ _); refine wpList_build_as rfl 63 _ rfl (row4 6 ⟨#[]⟩ none 0 0 none 0 0) (by kernel_rfl) ?_)
    | ((with_reducible show wpList _ _ _ (⟨none, .store _ (.tmp 3) _, _, _, _, _⟩ :: _) _ _); refine wpList_store_last rfl 63 _ _ rfl (w.heap.size + 1) (row4 6 ⟨#[]⟩ none 0 0 none 0 0) rfl rfl 63 zeroV4 (by rw [size_alloc]) HI.out rfl (row4_all _ _ _ _ _ _ _ _) ?_))
  rw [← HW1.out]
  go_wp2
  go_loopg [9] l.length (fun gk s9 wr => ∃ j : Nat, s9 = .int .i64 (j : Int) ∧ Hid (gk = l.length - j) ∧ Hid (j ≤ l.length) ∧ Hid (ObjI W1 (w.heap.size + 1) B l j wr))
  case atStart => exact ⟨0, rfl, Lib.hid rfl, Lib.hid (Nat.zero_le _), Lib.hid ⟨.slice none 0 0, .slice none 0 0, [], Chg.refl _ _, HR1.out, World.ownsRow_nil _ _ _ _, World.ownsRow_nil _ _ _ _, (fun q h => (by cases h)), trivial⟩⟩
  case round =>
    obtain ⟨j, rfl, HN, HNL, HM⟩ := hrel
    obtain ⟨I, K, xs, hG, hR, hI, hK, hne, hit⟩ := HM.out
    obtain ⟨xi, ci, rfl⟩ := owns_form hI
    obtain ⟨xk, ck, rfl⟩ := owns_form hK
    have sg := hG.size
    have hbw : Below w.heap.size w wr := HB1.out.trans (hG.below (by omega) (fun q hq e => by omega))
    by_cases hj : j < l.length
    · have hj1 : (j : Int) < (l.length : Int) := by omega
      obtain ⟨kv, hkv⟩ : ∃ kv, l[j]? = some kv := ⟨_, List.getElem?_eq_getElem hj⟩
      obtain ⟨k, v⟩ := kv
      obtain ⟨ad, a, b, c, d, rfl, hab, h5, hHx⟩ := HF.out j k v hkv
      obtain ⟨rfl, rfl, ⟨p1, q1, rfl⟩, p2, q2, rfl⟩ := hHx.form
      have h5r := Lib.hid (show ∀ i u, ([.string (str k), .int .i64 v.kind, .string (str v.text), .slice p1 v.items.length q1, .slice p2 v.keys.length q2] : List Value)[i]? = some u → wr.cell? ((ad.add (j * 5)).add i) = some u from fun i u hu => by
        rw [World.cell?_of_block (w := w) (w' := wr) (hbw.block _ (by rw [add_block, add_block]; exact hab))]
        exact h5 i u hu)
      have hxr : HoldsC wr (fun q => B ≤ q ∧ q < W1.heap.size ∧ q ≠ w.heap.size + 1 ∧ q + 1 ≠ w.heap.size + 1) v (.int .i64 v.kind) (.string (str v.text)) (.slice p1 v.items.length q1) (.slice p2 v.keys.length q2) := HoldsC.mono (fun q hq _ => ⟨hq.1, by have := hq.2; omega, by have := hq.2; omega, by have := hq.2; omega⟩) _ _ _ _ _ (HoldsC.chg (s := fun q => w.heap.size ≤ q) ((Chg.of_below hbw)) (fun q hq e => by have := hq.2; omega) _ _ _ _ _ hHx)
      obtain ⟨W2, hW2⟩ : ∃ W2, W2 = wr.alloc (.cells (row5 (str k) v.kind (str v.text) p1 v.items.length q1 p2 v.keys.length q2) 102) := ⟨_, rfl⟩
      have s2 : W2.heap.size = wr.heap.size + 1 := by rw [hW2]; exact size_alloc _ _
      have F2 : rowC W2 wr.heap.size (row5 (str k) v.kind (str v.text) p1 v.items.length q1 p2 v.keys.length q2) 102 := by rw [hW2]; exact rowC_new _ _ _
      have c2 : Chg no wr W2 := by rw [hW2]; exact (Chg.refl _ _).alloc _
      have R2 := c2.rowC hR id
      have k3 : W2.cell? ⟨w.heap.size + 1, 3, none⟩ = some (.slice xk j ck) := rowC_cell R2 3
      have k0 : W2.cell? ⟨wr.heap.size, 0, none⟩ = some (.string (str k)) := rowC_cell F2 0
      have hK2 := c2.owns hK (fun _ _ h => h)
      have HS2 := Lib.hid s2
      have hw12 : W1.heap.size ≤ W2.heap.size := by omega
      clear s2
      have HG := Lib.hid hG
      have HR := Lib.hid hR
      have HIo := Lib.hid hI
      have HKo := Lib.hid hK
      have HK2 := Lib.hid hK2
      have HNE := Lib.hid hne
      have HIT := Lib.hid hit
      have HXR := Lib.hid hxr
      have HKV := Lib.hid hkv
      have HW2 := Lib.hid hW2
      have HF2 := Lib.hid F2
      have HC2 := Lib.hid c2
      have hjm : j ≤ 1000 := by omega
      clear hG hR hI hK hne hit hxr hkv hW2 F2 c2 R2 hK2 h5 hHx HM hj hbw
      go_upto_region 5 with (first
        | ((with_reducible show wpList _ _ _ (⟨some 12, .load _ _, _, _, _, _⟩ :: _) _ _); refine wpList_load_at rfl 102 _ rfl (ad.add (j * 5)) rfl [.string (str k), .int .i64 v.kind, .string (str v.text), .slice p1 v.items.length q1, .slice p2 v.keys.length q2] _ h5r.out Tryz.underlying102 rfl HIF.out ?_)
        | ((with_reducible show wpList _ _ _ (⟨none, .store _ (.tmp 5) _, _, _, _, _⟩ :: _) _ _); refine wpList_store_last rfl 102 _ _ rfl wr.heap.size (row5 (str k) v.kind (str v.text) p1 v.items.length q1 p2 v.keys.length q2) rfl rfl 102 zeroF rfl HIF.out rfl (row5_all _ _ _ _ _ _ _ _ _) ?_))
      rw [← HW2.out]
      go_upto_region 6 with ((with_reducible show wpList _ _ _ (⟨some 18, _, _, _, _, _⟩ :: _) _ _); refine wpList_append_lies _ rfl _ _ 61 rfl W1.heap.size 9 j0 (.string ⟨#[]⟩) 1 16 Tryz.underlying61 ji0 jz0 jz1 jz2 rfl (by decide) (.slice xk j ck) j (keysV ((l.take j).map (·.1))) rfl (HK2.out.alloc _) ⟨W2.heap.size, 0, none⟩ 1 1 [.string (str k)] rfl rfl (World.news_of_block (heap_alloc_new W2 _)) (by intro u hu; simp at hu; rw [hu]; rfl) (by decide) (by unfold maxLen; omega) (by omega) (by rw [size_alloc]; omega) _ rfl ?_; intro gk capk w4 hown4 hgrow4 hat4 hlt4; rw [size_alloc] at hat4; obtain ⟨m1, m2, m3, m4, m5, m6, m7, m8⟩ := obj_mid (by omega) HG.out HR.out HIo.out HKo.out HNE.out HIT.out HC2.out (Nat.le_refl _) HF2.out hgrow4 hown4 hat4; have cbk := rowC_cell m8 3; have fbk := rowC_free m8 3; have M1 := Lib.hid m1; have M2 := Lib.hid m2; have M3 := Lib.hid m3; have M4 := Lib.hid m4; have M5 := Lib.hid m5; have M6 := Lib.hid m6; have M7 := Lib.hid m7; have HG4 := Lib.hid hgrow4; clear hown4 hgrow4 hat4 m1 m2 m3 m4 m5 m6 m7 m8)
      have c45 : Hid (Chg (fun q => q = w.heap.size + 1 ∨ W1.heap.size ≤ q) wr (w4.setCell ⟨w.heap.size + 1, 3, none⟩ (.slice (some ⟨gk, 0, none⟩) (j + 1) capk))) := Lib.hid ((((HC2.out.alloc _).mono (fun _ _ h => h.elim)).grown HG4.out (fun q hq => .inl (.inr (HKo.out.lt q hq).1))).trans ((Chg.refl (fun q => q = w.heap.size + 1) w4).cellq _ _) (fun q _ e => .inl e))
      obtain ⟨W5, hW5⟩ : ∃ W5, W5 = w4.setCell ⟨w.heap.size + 1, 3, none⟩ (.slice (some ⟨gk, 0, none⟩) (j + 1) capk) := ⟨_, rfl⟩
      rw [← hW5] at M1 M2 M3 M4 M5 M7 c45 ⊢
      have k2 : W5.cell? ⟨w.heap.size + 1, 2, none⟩ = some (.slice xi j ci) := rowC_cell M1.out 2
      have s5 := M5.out.size
      have HRG := Lib.hid (rowC_range M4.out 1 [.int .i64 v.kind, .string (str v.text), .slice p1 v.items.length q1, .slice p2 v.keys.length q2] (fun i u hu => by rw [Nat.add_comm]; simpa [row5] using hu))
      clear hW5 HG4 k3 k0 cbk fbk
      go_upto_region 7 with (first
        | ((with_reducible show wpList _ _ _ (⟨some 23, .load _ _, _, _, _, _⟩ :: _) _ _); refine wpList_load_mid rfl 63 _ rfl wr.heap.size 1 rfl [.int .i64 v.kind, .string (str v.text), .slice p1 v.items.length q1, .slice p2 v.keys.length q2] _ HRG.out Tryz.underlying63 rfl HI.out ?_)
        | ((with_reducible show wpList _ _ _ (⟨some 25, _, _, _, _, _⟩ :: _) _ _); refine wpList_append_lies _ rfl _ _ 60 rfl W1.heap.size 63 i0 _ 4 72 Tryz.underlying60 hi0 hz0 hz1 hz2 (by rfl) (by decide) (.slice xi j ci) j xs rfl (M2.out.alloc _) ⟨W5.heap.size, 0, none⟩ 1 1 [.int .i64 v.kind, .string (str v.text), .slice p1 v.items.length q1, .slice p2 v.keys.length q2] rfl rfl (World.news_of_block (heap_alloc_new W5 _)) (fun u hu => all_one4 u hu) (by decide) (by unfold maxLen; omega) (by omega) (by rw [size_alloc]; omega) _ rfl ?_; intro gi capi w7 hown7 hgrow7 hat7 hlt7; rw [size_alloc] at hat7; have r7 := Chg.rowC (((Chg.refl (fun q => (Value.slice xi j ci).ownBlock = some q) W5).alloc _).grown hgrow7 (fun q hq => .inl hq)) M1.out (fun e => by have := (M2.out.lt _ e).1; omega); have cbi := rowC_cell r7 2; have fbi := rowC_free r7 2; have END := Lib.hid (obj_end (by omega) HKV.out M1.out M2.out M3.out M5.out M6.out M7.out HXR.out c45.out hgrow7 hown7 hat7); clear hown7 hgrow7 hat7 r7))
      go_wp2
      go_roundg (l.length - (j + 1))
      case measure => rw [HN.out]; omega
      case rel => exact ⟨j + 1, rfl, Lib.hid rfl, Lib.hid (by omega), END⟩
    · have hj1 : ¬ (j : Int) < (l.length : Int) := by omega
      have hjl : j = l.length := by have := HNL.out; omega
      subst hjl
      have htk : l.take l.length = l := List.take_length
      rw [htk] at hit hK
      have hz := rowC_below HZ1.out (hG.below (B := w.heap.size + 1) (by omega) (fun q hq e => by omega)) (by omega)
      have HHI := Lib.hid (items_hold (G := fun q => B ≤ q ∧ q ≠ w.heap.size) hI (by rw [List.length_map]) hit (fun q hq => ⟨hq.1, by have := hq.2.2.2; omega⟩) (fun q hq => ⟨by omega, by omega⟩))
      have HHK := Lib.hid (keys_holds hK (by rw [List.length_map]))
      have HR := Lib.hid hR
      have HZ := Lib.hid hz
      have HBW := Lib.hid hbw
      clear hG hR hI hK hne hit hz hbw HM hj htk
      go_wp2_with (first
        | ((with_reducible show wpList _ _ _ (⟨some 28, .load _ _, _, _, _, _⟩ :: _) _ _); refine wpList_load_row rfl 63 _ rfl (w.heap.size + 1) rfl 63 (row4 6 ⟨#[]⟩ xi l.length ci xk l.length ck) (0, 0) _ HR.out Tryz.underlying63 rfl HI.out ?_)
        | ((with_reducible show wpList _ _ _ (⟨none, .store _ (.tmp 2) _, _, _, _, _⟩ :: _) _ _); refine wpList_store_row rfl 63 _ _ rfl w.heap.size (row4 6 ⟨#[]⟩ xi l.length ci xk l.length ck) rfl rfl 63 zeroV4 HZ.out HI.out rfl (row4_all _ _ _ _ _ _ _ _) ?_))
      refine bodyPost_ret (results_cell_row rfl _ _ w.heap.size 63 (row4 6 ⟨#[]⟩ xi l.length ci xk l.length ck) (0, 0) _ rfl (rowC_setRow HZ.out _) Tryz.underlying63 rfl HI.out) rfl ?_
      refine ⟨xi, ci, xk, ck, rfl, ?_, below_setRow HBW.out (Nat.le_refl _) _⟩
      have cz : Chg (fun q => q = w.heap.size) wr (wr.setRow w.heap.size (row4 6 ⟨#[]⟩ xi l.length ci xk l.length ck)) := (Chg.refl _ _).setRow _ _ (.inl rfl)
      have hK2 : HoldsK (wr.setRow w.heap.size (row4 6 ⟨#[]⟩ xi l.length ci xk l.length ck)) (fun q => B ≤ q ∧ q < (wr.setRow w.heap.size (row4 6 ⟨#[]⟩ xi l.length ci xk l.length ck)).heap.size) (l.map (·.1)) (.slice xk l.length ck) := (HHK.out.chg cz (fun q hq e => by have := hq.1; omega)).mono fun q hq hlt => ⟨by have := hq.1; omega, hlt⟩
      unfold objJ
      rw [HoldsC]
      refine ⟨rfl, rfl, by simp, hK2, ?_⟩
      rcases HHI.out with ⟨h1, h2⟩ | ⟨ad, cap, h1, h2⟩
      · exact .inl ⟨h1, h2⟩
      · refine .inr ⟨ad, cap, h1, HoldsR.mono (fun q hq hlt => ⟨hq.1, hlt⟩) _ _ _ (HoldsR.chg cz (fun q hq e => hq.2 e) _ _ _ h2)⟩
end Go.Proofs.YtnkencdibniagaaGreatDoor

/- Layer 5, for whoever stands on it: a digest's text, as the program has it. (Out of DigD.) -/
namespace Go.Proofs.YtnkencdibniagaaGreatDoor
open Go.RowKit

theorem hexB_at (i : Nat) (h : i < 16) : ((⟨#[48, 49, 50, 51, 52, 53, 54, 55, 56, 57, 97, 98, 99, 100, 101, 102]⟩ : ByteArray)).data.toList.getD i 0 = hexB i := by
  have : ∀ i, i < 16 → ((⟨#[48, 49, 50, 51, 52, 53, 54, 55, 56, 57, 97, 98, 99, 100, 101, 102]⟩ : ByteArray)).data.toList.getD i 0 = hexB i := by decide
  exact this i h
theorem and15 (x : Nat) (h : x < 256) : bits BinOp.and IntKind.u8 (x : Int) 15 = ((x % 16 : Nat) : Int) := by
  have := u8_and_nat x 15 h (by decide)
  rw [show ((15 : Nat) : Int) = 15 from rfl] at this
  rw [this, show (15 : Nat) = 2 ^ 4 - 1 from rfl, Nat.and_two_pow_sub_one_eq_mod]
theorem hex_step (l : List UInt8) (k : Nat) (h : k < l.length) : (hexL (l.take k)).map byteV ++ [byteV (hexB ((l.getD k 0).toNat / 16)), byteV (hexB ((l.getD k 0).toNat % 16))] = (hexL (l.take (k + 1))).map byteV := by
  rw [take_snoc8 l k h, hexL_snoc, List.map_append]; rfl
theorem hex_length (l : List UInt8) (k : Nat) (h : k ≤ l.length) : (hexL (l.take k)).length = 2 * k := by
  rw [hexL_length, List.length_take, Nat.min_eq_left h]
set_option maxRecDepth 100000 in
set_option maxHeartbeats 1000000 in
theorem digitsOf_any (l : List UInt8) (w : World) (hl : l.length = 32) :
    Calls Tryz.prog 127 #[.agg (cells8 l)] w fun e w' => e = .returned (.string (str (hexL l))) ∧ Below w.heap.size w w' := by
  obtain ⟨i0, hi0, hz0, hz1, hz2⟩ := info_parts info_u8
  have hI : (Tryz.prog.info? 24).map (·.size) = some (cells8 l).size := by rw [cells8_size, hl]; kernel_rfl
  have HI := Lib.hid hI
  have HL := Lib.hid hl
  have IX := Lib.hid (fun k hk => idx_row l k hk hl)
  clear hl hI
  go_enter Tryz.func127, Tryz.ntmps127
  go_wp2_with (refine wpList_load_row rfl 24 _ rfl w.heap.size rfl 24 (cells8 l) (0, 0) _ (rowC_new w (cells8 l) 24) Tryz.underlying24 rfl HI.out ?_)
  go_loopw [3, 7] (fun v i wr => ∃ k : Nat, k ≤ 32 ∧ i = .int .i64 k ∧ wr.ownsRow w.heap.size 5 1 v (2 * k) ((hexL (l.take k)).map byteV) ∧ Below w.heap.size w wr) (fun _ i _ => 32 - (intOf i).toNat)
  case atStart => exact ⟨0, by omega, rfl, World.ownsRow_nil _ _ _ _, (Below.refl _ _).alloc (Nat.le_refl _) _⟩
  case round =>
    obtain ⟨k, hk, rfl, hown, hnx⟩ := hrel
    by_cases hlt : k < 32
    · have hst := Lib.hid (hex_step l k (by rw [HL.out]; exact hlt))
      have hlen := Lib.hid (hex_length l k (by rw [HL.out]; omega))
      have ix := IX.out k hlt
      have hsz := hnx.size
      obtain ⟨x, hx⟩ : ∃ x, x = (l.getD k 0).toNat := ⟨_, rfl⟩
      have hx2 : x < 256 := by rw [hx]; exact UInt8.toNat_lt _
      rw [← hx] at hst ix
      clear hx
      have a15 := and15 x hx2
      have j1 := idx_strK .u8 ⟨#[48, 49, 50, 51, 52, 53, 54, 55, 56, 57, 97, 98, 99, 100, 101, 102]⟩ (x / 16) ((x : Int) / 16) (by omega) (by show _ < 16; omega)
      have j2 := idx_strK .u8 ⟨#[48, 49, 50, 51, 52, 53, 54, 55, 56, 57, 97, 98, 99, 100, 101, 102]⟩ (x % 16) ((x : Int) % 16) (by omega) (by show _ < 16; omega)
      rw [hexB_at _ (by omega)] at j1 j2
      go_wp2
      have hns := fun (w' : World) => World.news_of_block (heap_alloc_new w' (.cells #[.int .u8 ((hexB (x / 16)).toNat : Int), .int .u8 ((hexB (x % 16)).toNat : Int)] 5))
      go_region_held3 (fun _ => True) (trivial) ((refine step_append_lies _ (by rfl) _ _ _ (by rfl) w.heap.size 5 i0 (.int .u8 0) 1 1 Tryz.underlying132 hi0 hz0 hz1 hz2 (by rfl) (by decide) _ (2 * k) _ (by rfl) (hown.drew.alloc _) _ 2 2 [.int .u8 ((hexB (x / 16)).toNat : Int), .int .u8 ((hexB (x % 16)).toNat : Int)] (by rfl) (by rfl) (hns _) (fun u hu => by simp at hu; rcases hu with rfl | rfl <;> rfl) (by decide) (by unfold maxLen; omega) (by omega) (by simp; omega) (wr.heap.size + 1) (by simp) ?_; intro g cap w1 hown1 hgrow hat hlt))
      all_goals
        have hown2 : w1.ownsRow w.heap.size 5 1 (.slice (some ⟨g, 0, none⟩) (2 * k + 2) cap) (2 * (k + 1)) ((hexL (l.take (k + 1))).map byteV) := by
          rw [← hst.out]; exact hown1
        have hnx2 : Below w.heap.size w w1 := (hnx.drew.alloc hsz _).grown hgrow (by simp; omega) (fun j hj => (hown.lt j hj).1)
        clear hown1 hgrow hown hnx hns hlt
        go_wp2
        go_roundw
        case rel => exact ⟨k + 1, by omega, by go_num, hown2, hnx2⟩
        case measure => simp [intOf]; omega
    · obtain rfl : k = 32 := by omega
      have hlen := hex_length l 32 (by rw [HL.out]; omega)
      obtain ⟨a, cap, rfl, hcv⟩ := conv_own hown hlen
      have HT := Lib.hid (show l.take 32 = l from List.take_of_length_le (by rw [HL.out]; omega))
      clear hown hlen
      go_wp2
      go_ret
      exact ⟨retStr (by rw [HT.out]), hnx⟩
theorem name_text (l : List UInt8) : (⟨#[115, 104, 97, 50, 53, 54, 58]⟩ : ByteArray) ++ str (hexL l) = str (textL l) := str_append nameL (hexL l)
set_option maxRecDepth 100000 in
set_option maxHeartbeats 1000000 in
theorem text_any (l : List UInt8) (w : World) (hl : l.length = 32) :
    Calls Tryz.prog 93 #[.agg (cells8 l)] w fun e w' => e = .returned (.string (str (textL l))) ∧ Below w.heap.size w w' := by
  have hI : (Tryz.prog.info? 24).map (·.size) = some (cells8 l).size := by rw [cells8_size, hl]; kernel_rfl
  have HI := Lib.hid hI
  have CD := fun w => digitsOf_any l w hl
  have HN := Lib.hid (name_text l)
  have sz : (str (hexL l)).size = 64 := by rw [str_size, hexL_length, hl]
  clear hl hI
  go_enter Tryz.func93, Tryz.ntmps93
  go_wp2_with (first
    | (refine wpList_load_row rfl 24 _ rfl w.heap.size rfl 24 (cells8 l) (0, 0) _ (rowC_new w (cells8 l) 24) Tryz.underlying24 rfl HI.out ?_)
    | (go_at_call 127; ((with_reducible refine (CD _).mono ?_); rintro e w1 ⟨rfl, hb⟩)))
  go_ret
  exact ⟨retStr HN.out, ((Below.refl _ _).alloc (Nat.le_refl _) _).trans (hb.mono (by simp))⟩
end Go.Proofs.YtnkencdibniagaaGreatDoor

/- Layer 13: a digest's value. -/
namespace Go.Proofs.YtnkencdibniagaaGreatDoor
open Go.RowKit

set_option maxRecDepth 100000 in
set_option maxHeartbeats 4000000 in
theorem digest_put (D : Bs) (hD : D.length = 32) (w : World) : Calls Tryz.prog 62 #[.agg (cells8 D)] w fun e w' => e = .returned (.agg (row4 4 (str (textL D)) none 0 0 none 0 0)) ∧ Below w.heap.size w w' := by
  have HI := Lib.hid info_V
  have HID := Lib.hid (info_Gc D hD)
  obtain ⟨W0, hW0⟩ : ∃ W0, W0 = (w.alloc (.cells (cells8 D) 24)).alloc (.cells #[.int .i64 0, .string ⟨#[]⟩, .slice none 0 0, .slice none 0 0] 63) := ⟨_, rfl⟩
  have R0 : rowC W0 w.heap.size (cells8 D) 24 := by rw [hW0]; exact rowC_alloc (rowC_new w _ _) _
  have Z0 : rowC W0 (w.heap.size + 1) zeroV4 63 := by rw [hW0, ← size_alloc w (.cells (cells8 D) 24)]; exact rowC_new _ _ _
  have B0 : Below w.heap.size w W0 := by rw [hW0]; exact ((Below.refl _ _).alloc (Nat.le_refl _) _).alloc (by rw [size_alloc]; omega) _
  have S0 : W0.heap.size = w.heap.size + 2 := by rw [hW0, size_alloc, size_alloc]
  have CT := fun w' => text_any D w' hD
  have CX := fun w' => text_put (textL D) w'
  have HW0 := Lib.hid hW0
  have HR0 := Lib.hid R0
  have HZ0 := Lib.hid Z0
  have HB0 := Lib.hid B0
  clear hW0 R0 Z0 B0
  go_enter Tryz.func62, Tryz.ntmps62
  go_upto_region 1 with (fail)
  rw [← HW0.out]
  go_wp2_with (first
    | ((with_reducible show wpList _ _ _ (⟨some 3, .load _ _, _, _, _, _⟩ :: _) _ _); refine wpList_load_row rfl 24 _ rfl w.heap.size rfl 24 (cells8 D) (0, 0) _ HR0.out Tryz.underlying24 rfl HID.out ?_)
    | (go_at_call 93; ((with_reducible refine (CT _).mono ?_); rintro e w2 ⟨rfl, hb2⟩; have HB2 := Lib.hid hb2; have s2 := hb2.size; have HZ2 := Lib.hid (rowC_below HZ0.out hb2 (by omega)); clear hb2))
    | (go_at_call 52; ((with_reducible refine (CX _).mono ?_); rintro e w3 ⟨rfl, hb3⟩; have HB3 := Lib.hid hb3; have s3 := hb3.size; have HZ3 := Lib.hid (rowC_below HZ2.out hb3 (by omega)); clear hb3))
    | ((with_reducible show wpList _ _ _ (⟨none, .store _ (.tmp 2) _, _, _, _, _⟩ :: _) _ _); refine wpList_store_row rfl 63 _ _ rfl (w.heap.size + 1) (row4 4 (str (textL D)) none 0 0 none 0 0) rfl rfl 63 zeroV4 HZ3.out HI.out rfl (row4_all _ _ _ _ _ _ _ _) ?_))
  refine bodyPost_ret (results_cell_row rfl _ _ (w.heap.size + 1) 63 (row4 4 (str (textL D)) none 0 0 none 0 0) (0, 0) _ rfl (rowC_setRow HZ3.out _) Tryz.underlying63 rfl HI.out) rfl ?_
  have b3 := (HB0.out.trans (HB2.out.mono (by omega))).trans (HB3.out.mono (by omega))
  exact ⟨rfl, below_setRow b3 (by omega) _⟩
end Go.Proofs.YtnkencdibniagaaGreatDoor

