/- Merged: OfG, OfH, OhD. -/
import Derived.Test.YtnkencdibniagaaGreatDoorM39
import Derived.Sort.BigQuietIn
import Derived.Sort.QuietLawsIn
import Derived.Test.YtnkencdibniagaaGreatDoorM04
import Derived.Test.YtnkencdibniagaaGreatDoorM08
import Derived.Test.YtnkencdibniagaaGreatDoorM10
import Derived.Test.YtnkencdibniagaaGreatDoorM31
import Derived.Test.YtnkencdibniagaaGreatDoorM35
/- Layer 13: the chapter's texts. -/
namespace Go.Proofs.YtnkencdibniagaaGreatDoor
open Go.RowKit

def imgT : Bs := [123, 34, 97, 114, 99, 104, 105, 116, 101, 99, 116, 117, 114, 101, 34, 58, 34, 97, 109, 100, 54, 52, 34, 44, 34, 111, 115, 34, 58, 34, 108, 105, 110, 117, 120, 34, 44, 34, 114, 111, 111, 116, 102, 115, 34, 58, 123, 34, 116, 121, 112, 101, 34, 58, 34, 108, 97, 121, 101, 114, 115, 34, 44, 34, 100, 105, 102, 102, 95, 105, 100, 115, 34, 58, 91, 93, 125, 125]
def linB : Bs := [108, 105, 110, 117, 120]
def amdB : Bs := [97, 109, 100, 54, 52]
theorem imgA_ex : imgA (linB, amdB) [] = (imgT, 0) := by decide +kernel
theorem man_ex1 : allP 20 [123, 125] = some (.ok (.mk 6 [] [] []) []) := by rfl
theorem man_ex2 : allP 20 [91] = some (.bad 10 []) := by rfl
theorem manV_ex : manR (.ok (.mk 6 [] [] []) []) = .bad 10 := by
  show manV (.mk 6 [] [] []) = .bad 10
  have h : headV 1 (.mk 6 [] [] []) = 10 := by decide +kernel
  unfold manV
  rw [if_pos (by rw [h]; decide), h]
theorem kind_ex : kindN [97, 112, 112, 108, 105, 99, 97, 116, 105, 111, 110, 47, 118, 110, 100, 46, 111, 99, 105, 46, 105, 109, 97, 103, 101, 46, 108, 97, 121, 101, 114, 46, 118, 49, 46, 116, 97, 114] = 4 ∧ kindN [116, 101, 120, 116, 47, 112, 108, 97, 105, 110] = 0 := by decide +kernel
theorem man_bad {S : Bs} {q : Nat} {R : Res JV} (hR : allP q S = some R) (hb : manR R = .bad 10) (hS : S.length ≤ 65536) (w : World) (hE : Env2 w) :
    Calls Tryz.prog 9 #[.string (str S)] w fun e w' => ∃ c x cc, e = .returned (.tuple #[.agg (encM c (.slice x 0 cc)), .int .i64 10]) ∧ goodD c ∧ Below w.heap.size w w' := by
  refine (manifest_any hS w hE hR).mono ?_
  rintro e w' ⟨c, l, x, cc, code, rfl, _, hg, h, hB⟩
  rw [hb] at h
  rcases h with ⟨h, _⟩ | ⟨h, _, rfl, rfl⟩
  · cases h
  · injection h with h
    subst h
    exact ⟨_, x, cc, rfl, hg, hB⟩
set_option maxRecDepth 100000 in
set_option maxHeartbeats 8000000 in
theorem described_any (w : World) (hE : Env2 w) : Calls Tryz.prog 8 #[] w fun e w' => e = .returned (.bool true) ∧ Below w.heap.size w w' := by
  have M1 : ∀ w, Env2 w → Calls Tryz.prog 9 #[.string ⟨#[123, 125]⟩] w fun e w' => ∃ c x cc, e = .returned (.tuple #[.agg (encM c (.slice x 0 cc)), .int .i64 10]) ∧ goodD c ∧ Below w.heap.size w w' := fun w hE => man_bad man_ex1 manV_ex (by decide) w hE
  have M2 : ∀ w, Env2 w → Calls Tryz.prog 9 #[.string ⟨#[91]⟩] w fun e w' => ∃ c x cc, e = .returned (.tuple #[.agg (encM c (.slice x 0 cc)), .int .i64 10]) ∧ goodD c ∧ Below w.heap.size w w' := fun w hE => man_bad (R := .bad 10 []) man_ex2 rfl (by decide) w hE
  obtain ⟨T, hT⟩ : ∃ T, T = imgT := ⟨_, rfl⟩
  have PI : ∀ w, Env2 w → Calls Tryz.prog 22 #[.agg #[.string ⟨#[108, 105, 110, 117, 120]⟩, .string ⟨#[97, 109, 100, 54, 52]⟩, .slice none 0 0]] w fun e w' => e = .returned (.tuple #[.string (str T), .int .i64 0]) ∧ Below w.heap.size w w' := fun w hE => by
    have h := putImage_any (linB, amdB) [] none 0 w hE (by decide) (by decide) (by decide) (.inl ⟨rfl, rfl⟩)
    rw [imgA_ex, ← hT] at h
    exact h
  have PK : ∀ w, Calls Tryz.prog 27 #[.slice none 0 0, .agg #[.string ⟨#[]⟩, .string ⟨#[]⟩]] w fun e w' => e = .returned (.tuple #[.agg (encD zeroD), .int .i64 73]) ∧ Below w.heap.size w w' := fun w => pick_any [] ([], []) none 0 w (by decide) (.inl ⟨rfl, rfl⟩)
  have K1 : ∀ w, Calls Tryz.prog 24 #[.string ⟨#[97, 112, 112, 108, 105, 99, 97, 116, 105, 111, 110, 47, 118, 110, 100, 46, 111, 99, 105, 46, 105, 109, 97, 103, 101, 46, 108, 97, 121, 101, 114, 46, 118, 49, 46, 116, 97, 114]⟩] w fun e w' => e = .returned (.int .i64 4) ∧ w = w' := fun w => by
    have h := kind_any [97, 112, 112, 108, 105, 99, 97, 116, 105, 111, 110, 47, 118, 110, 100, 46, 111, 99, 105, 46, 105, 109, 97, 103, 101, 46, 108, 97, 121, 101, 114, 46, 118, 49, 46, 116, 97, 114] w
    rw [kind_ex.1] at h
    exact h
  have K2 : ∀ w, Calls Tryz.prog 24 #[.string ⟨#[116, 101, 120, 116, 47, 112, 108, 97, 105, 110]⟩] w fun e w' => e = .returned (.int .i64 0) ∧ w = w' := fun w => by
    have h := kind_any [116, 101, 120, 116, 47, 112, 108, 97, 105, 110] w
    rw [kind_ex.2] at h
    exact h
  have hq : ((str T).toList == [123, 34, 97, 114, 99, 104, 105, 116, 101, 99, 116, 117, 114, 101, 34, 58, 34, 97, 109, 100, 54, 52, 34, 44, 34, 111, 115, 34, 58, 34, 108, 105, 110, 117, 120, 34, 44, 34, 114, 111, 111, 116, 102, 115, 34, 58, 123, 34, 116, 121, 112, 101, 34, 58, 34, 108, 97, 121, 101, 114, 115, 34, 44, 34, 100, 105, 102, 102, 95, 105, 100, 115, 34, 58, 91, 93, 125, 125]) = true := by rw [hT]; exact (eqT imgT imgT).trans (decide_eq_true rfl)
  have HIM := Lib.hid (fun (c : DV) (hg : goodD c) (x : Option Addr) (cc : Nat) => show (Tryz.prog.info? 31).map (·.size) = some (encM c (.slice x 0 cc)).size by rw [encM_size hg]; exact info_M)
  have HZM := Lib.hid (fun (c : DV) (hg : goodD c) (x : Option Addr) (cc : Nat) => show zeroM.size = (encM c (.slice x 0 cc)).size by rw [encM_size hg]; rfl)
  have HE := Lib.hid hE
  clear hT hE
  go_enter Tryz.func8, Tryz.ntmps8
  go_upto_region 2 with (first
    | (go_at_call 9; (with_reducible refine (M1 _ HE.out).mono ?_); rintro e w1 ⟨c1, x1, k1, rfl, hg1, b1⟩; have HG1 := Lib.hid hg1; have HB1 := Lib.hid b1; clear hg1 b1)
    | ((with_reducible show wpList _ _ _ (⟨none, .store _ (.tmp 1) _, _, _, _, _⟩ :: _) _ _); refine wpList_store_last rfl 31 _ _ rfl w1.heap.size (encM c1 (.slice x1 0 k1)) rfl rfl 31 zeroM rfl (HIM.out _ HG1.out _ _) (HZM.out _ HG1.out _ _) (encM_all _ _ _ _) ?_))
  have HB1' := Lib.hid (HB1.out.alloc HB1.out.size (.cells (encM c1 (.slice x1 0 k1)) 31))
  generalize w1.alloc (.cells (encM c1 (.slice x1 0 k1)) 31) = v1 at *
  go_upto_region 3 with (first
    | (go_at_call 9; (with_reducible refine (M2 _ (HE.out.below HB1'.out)).mono ?_); rintro e w2 ⟨c2, x2, k2, rfl, hg2, b2⟩; have HG2 := Lib.hid hg2; have HB2 := Lib.hid (HB1'.out.trans (b2.mono HB1'.out.size)); clear hg2 b2)
    | ((with_reducible show wpList _ _ _ (⟨none, .store _ (.tmp 3) _, _, _, _, _⟩ :: _) _ _); refine wpList_store_last rfl 31 _ _ rfl w2.heap.size (encM c2 (.slice x2 0 k2)) rfl rfl 31 zeroM rfl (HIM.out _ HG2.out _ _) (HZM.out _ HG2.out _ _) (encM_all _ _ _ _) ?_))
  have HB2' := Lib.hid (HB2.out.alloc HB2.out.size (.cells (encM c2 (.slice x2 0 k2)) 31))
  generalize w2.alloc (.cells (encM c2 (.slice x2 0 k2)) 31) = v2 at *
  go_upto_region 5 with (first
    | (go_at_call 22; (with_reducible refine (PI _ (HE.out.below HB2'.out)).mono ?_); rintro e w3 ⟨rfl, b3⟩; have HB3 := Lib.hid (HB2'.out.trans (b3.mono HB2'.out.size)); clear b3)
    | (go_at_call 27; (with_reducible refine (PK _).mono ?_); rintro e w4 ⟨rfl, b4⟩; have HB4 := Lib.hid (HB3.out.trans (b4.mono HB3.out.size)); clear b4)
    | ((with_reducible show wpList _ _ _ (⟨none, .store _ (.tmp 7) _, _, _, _, _⟩ :: _) _ _); refine wpList_store_last rfl 28 _ _ rfl w4.heap.size (encD zeroD) rfl rfl 28 (encD zeroD) rfl info_D rfl (encD_one _) ?_))
  have HB4' := Lib.hid (HB4.out.alloc HB4.out.size (.cells (encD zeroD) 28))
  generalize w4.alloc (.cells (encD zeroD) 28) = v4 at *
  go_wp2_with (first
    | (go_at_call 24; (with_reducible refine (K1 _).mono ?_); rintro e w5 ⟨rfl, rfl⟩)
    | (go_at_call 24; (with_reducible refine (K2 _).mono ?_); rintro e w6 ⟨rfl, rfl⟩))
  go_ret
  exact ⟨rfl, HB4'.out⟩
end Go.Proofs.YtnkencdibniagaaGreatDoor

/- Layer 13: what OciKind keeps; quiet loads of rows. -/
namespace Go.Proofs.YtnkencdibniagaaGreatDoor
open Go.RowKit

theorem wpQuietIn_load_midG {F : Fence} {n : Nat} {P : Program} {ops : Array Oper} {C : World → Prop} {Q : Act → Prop} {o : Oper} {rest : List Oper} {a : Act} (hF : ∀ f, F.fn f) (hw : Region.wanted o (yielded ops a.tmps) = true) (ty : TypeId) (x : Operand) (ho : o.op = .load ty x)
    (b k : Nat) (hx : a.eval x = .pointer (some ⟨b, k, none⟩)) (cs : List Value) (d : TypeDesc) (hc : ∀ w, C w → w.rangeAt b k cs)
    (hu : P.underlying ty = some d) (hd : d.isRow = true) (hi : (P.info? ty).map (·.size) = some cs.length)
    (h : wpQuietIn F n P ops C Q rest (a.put o.dst (.agg cs.toArray))) : wpQuietIn F n P ops C Q (o :: rest) a :=
  wpQuietIn_step (fun _ _ f _ => hF f) (fun K hK => by
    rw [if_pos hw]
    exact ⟨.agg cs.toArray, fun w hC => by
    unfold Oper.quietAtIn execOp
    simp only [ho, hx, Instr.loadAt, Instr.sureAddr, Sem.run_bind, Sem.run_pure, Result.andThen_ok, run_loadVar_mid w b k ty cs d (hc w hC) hu hd hi]
    exact ⟨rfl, rfl⟩, hK _ h⟩)
/-- Worlds that have no more than new blocks. -/
structure After (w : World) where
  v : World
  h : Below w.heap.size w v
instance (w : World) : Nonempty (After w) := ⟨⟨w, Below.refl _ _⟩⟩
theorem own_des {w : World} {B : Nat} {a : Option Addr} {n c : Nat} {Y : List DV} (h : w.ownsRow B 28 36 (.slice a n c) Y.length (flatD Y)) (hY : ∀ d ∈ Y, goodD d) : eDess.at_ w (fun k => k < w.heap.size) Y (.slice a n c) := by
  have h1 := rows_own (enc := encD) (good := goodD) (acc := Y) h (fun d hd => ⟨hY d hd, encD_size d (hY d hd)⟩)
  exact eDess.mono h1 (fun k _ hk => hk)
end Go.Proofs.YtnkencdibniagaaGreatDoor

/- Layer 13, the document's own side: numerals; a descriptor's text; a list's. -/
namespace Go.Proofs.YtnkencdibniagaaGreatDoor
open Go.RowKit Go.Lib
attribute [local go_sem] wide_fn round_fn

theorem digT (d : Nat) (h : d < 10) : (⟨#[48, 49, 50, 51, 52, 53, 54, 55, 56, 57]⟩ : ByteArray).extract d (d + 1) = str [UInt8.ofNat (48 + d)] := by
  have : ∀ d : Fin 10, (⟨#[48, 49, 50, 51, 52, 53, 54, 55, 56, 57]⟩ : ByteArray).extract d.val (d.val + 1) = str [UInt8.ofNat (48 + d.val)] := by decide +kernel
  exact this ⟨d, h⟩
theorem dec_len (n : Nat) (h : n ≤ 9223372036854775807) : (decDigits n).length ≤ 21 := by
  have := itoa_length_le (n : Int) (by omega) (by omega)
  rwa [itoa_nonneg] at this
set_option maxRecDepth 100000 in
set_option maxHeartbeats 2000000 in
theorem rdec_any : ∀ (m n : Nat), n ≤ m → n ≤ 9223372036854775807 → ∀ w : World,
    Calls Tryz.prog 92 #[.int .i64 (n : Int)] w fun e w' => e = .returned (.string (str (decDigits n))) ∧ Below w.heap.size w w'
  | m, n, hm, hn, w => by
    by_cases h : n < 10
    · have hd := digT n h
      rw [show decDigits n = [UInt8.ofNat (48 + n)] by rw [decDigits, dif_pos h]]
      obtain ⟨Z, hZ⟩ : ∃ Z, Z = str [UInt8.ofNat (48 + n)] := ⟨_, rfl⟩
      rw [← hZ] at hd ⊢
      have g1 : (n : Int) < 10 := by omega
      clear hZ h hm
      go_enter Tryz.func92, Tryz.ntmps92
      go_wp2
      go_ret
      exact ⟨rfl, Below.refl _ _⟩
    · match m, hm with
      | 0, hm => exact absurd hm (by omega)
      | m + 1, hm =>
        have g1 : ¬ (n : Int) < 10 := by omega
        have C1 := fun w => rdec_any m (n / 10) (by omega) (by omega) w
        have C2 := fun w => rdec_any m (n % 10) (by omega) (by omega) w
        have e1 : ((n / 10 : Nat) : Int) = (n : Int) / 10 := by omega
        have e2 : ((n % 10 : Nat) : Int) = (n : Int) % 10 := by omega
        rw [e1] at C1
        rw [e2] at C2
        have hr : str (decDigits n) = str (decDigits (n / 10)) ++ str (decDigits (n % 10)) := by
          rw [str_append, decDigits, dif_neg h, show decDigits (n % 10) = [UInt8.ofNat (48 + n % 10)] by rw [decDigits, dif_pos (by omega)]]
        have z1 : (str (decDigits (n / 10))).size ≤ 21 := by rw [str_size]; exact dec_len _ (by omega)
        have z2 : (str (decDigits (n % 10))).size ≤ 21 := by rw [str_size]; exact dec_len _ (by omega)
        rw [hr]
        generalize str (decDigits (n / 10)) = A at *
        generalize str (decDigits (n % 10)) = B at *
        clear hr e1 e2 h hm
        go_enter Tryz.func92, Tryz.ntmps92
        go_wp2_with (go_at_call 92; first | ((with_reducible refine (C1 _).mono ?_); rintro e w1 ⟨rfl, b1⟩) | ((with_reducible refine (C2 _).mono ?_); rintro e w2 ⟨rfl, b2⟩))
        go_ret
        exact ⟨rfl, b1.trans (b2.mono b1.size)⟩
/-- A descriptor's text, but for what closes it. -/
def baseT (d : DV) : Bs := [123, 34, 109, 101, 100, 105, 97, 84, 121, 112, 101, 34, 58] ++ qL d.media ++ [44, 34, 100, 105, 103, 101, 115, 116, 34, 58] ++ qL (textL d.dig) ++ [44, 34, 115, 105, 122, 101, 34, 58] ++ decDigits d.size.toNat
def platT (d : DV) : Bs := [44, 34, 112, 108, 97, 116, 102, 111, 114, 109, 34, 58, 123, 34, 111, 115, 34, 58] ++ qL d.os ++ [44, 34, 97, 114, 99, 104, 105, 116, 101, 99, 116, 117, 114, 101, 34, 58] ++ qL d.arch ++ [125]
def showT (d : DV) (fit : Bool) : Bs := baseT d ++ (if fit then platT d else []) ++ [125]
/-- A descriptor that may be shown. -/
def okShow (d : DV) : Prop := goodD d ∧ mayD d = true ∧ d.media.length ≤ 1000 ∧ d.os.length ≤ 1000 ∧ d.arch.length ≤ 1000 ∧ validD (textL d.dig) = true
theorem base_len {d : DV} (h : okShow d) : (baseT d).length ≤ 6600 := by
  obtain ⟨h1, h2, h3, h4, h5, h6⟩ := h
  have a1 := qL_len d.media
  have a2 := qL_len (textL d.dig)
  have a3 := textL_length d.dig
  have a4 := h1.1
  have a5 := dec_len d.size.toNat (by have := ((mayD_iff d).1 h2).2.1; omega)
  unfold baseT
  simp only [List.length_append, List.length_cons, List.length_nil]
  omega
theorem plat_len {d : DV} (h : okShow d) : (platT d).length ≤ 12100 := by
  obtain ⟨h1, h2, h3, h4, h5, h6⟩ := h
  have a1 := qL_len d.os
  have a2 := qL_len d.arch
  unfold platT
  simp only [List.length_append, List.length_cons, List.length_nil]
  omega
set_option maxRecDepth 100000 in
set_option maxHeartbeats 4000000 in
theorem rshow_any (d : DV) (fit : Bool) (hd : okShow d) (w : World) :
    Calls Tryz.prog 57 #[.agg (encD d), .bool fit] w fun e w' => e = .returned (.string (str (showT d fit))) ∧ Below w.heap.size w w' := by
  obtain ⟨h1, h2, h3, h4, h5, h6⟩ := hd
  have hm := (mayD_iff d).1 h2
  obtain ⟨n, hn⟩ : ∃ n : Nat, d.size = (n : Int) := ⟨d.size.toNat, by omega⟩
  obtain ⟨WA, hWA⟩ : ∃ W, W = w.alloc (.cells (encD d) 28) := ⟨_, rfl⟩
  have R0 : rowC WA w.heap.size (encD d) 28 := by rw [hWA]; exact rowC_new _ _ _
  have B0 : Below w.heap.size w WA := by rw [hWA]; exact (Below.refl _ _).alloc (Nat.le_refl _) _
  have hrow := fun (y : After WA) => rowC_below R0 y.h (rowC_lt R0)
  have q0 := fun (y : After WA) => (encD_range h1.1 (hrow y)).1
  have q33 := fun (y : After WA) => (encD_range h1.1 (hrow y)).2.2
  have q34 := fun (y : After WA) => (encD_pla h1.1 (hrow y)).2.1
  have q35 := fun (y : After WA) => (encD_pla h1.1 (hrow y)).2.2
  rw [hn] at q33
  have HRD := Lib.hid (fun (y : After WA) => show y.v.rangeAt w.heap.size 1 (d.dig.map byteV) from by have := (encD_range h1.1 (hrow y)).2.1; unfold cells8 at this; exact this)
  have HID := Lib.hid (show (Tryz.prog.info? 24).map (·.size) = some (d.dig.map byteV).length by rw [List.length_map, h1.1]; exact info_G)
  have hln : (textL d.dig).length = 71 := by rw [textL_length, h1.1]
  have mk : ∀ {f : FuncId} {args : Array Value} {X : Value}, (∀ w, Calls Tryz.prog f args w fun e w' => e = .returned X ∧ Below w.heap.size w w') → ∀ y : After WA, CallsIn Fence.wide 3 Tryz.prog f args y.v fun e w'' => e = .returned X ∧ ∃ z : After WA, w'' = z.v := fun C y =>
    (callsIn_wide.2 (C y.v)).mono fun e w'' ⟨he, hb⟩ => ⟨he, ⟨w'', y.h.trans (hb.mono y.h.size)⟩, rfl⟩
  have C1 := mk (fun w => rq_any d.media (by omega) hm.2.2.1 w)
  have C2 := mk (fun w => rtext_any d.dig w h1.1)
  have C3 := mk (fun w => rq_any (textL d.dig) (by omega) h6 w)
  have C4 := mk (fun w => rdec_any n n (Nat.le_refl _) (by omega) w)
  have C5 := mk (fun w => rq_any d.os (by omega) hm.2.2.2.1 w)
  have C6 := mk (fun w => rq_any d.arch (by omega) hm.2.2.2.2 w)
  have z1 : (str (qL d.media)).size ≤ 6100 := by have := qL_len d.media; rw [str_size]; omega
  have z3 : (str (qL (textL d.dig))).size ≤ 6100 := by have := qL_len (textL d.dig); rw [str_size]; omega
  have z4 : (str (decDigits n)).size ≤ 21 := by rw [str_size]; exact dec_len _ (by omega)
  have z5 : (str (qL d.os)).size ≤ 6100 := by have := qL_len d.os; rw [str_size]; omega
  have z6 : (str (qL d.arch)).size ≤ 6100 := by have := qL_len d.arch; rw [str_size]; omega
  have hnn : d.size.toNat = n := by rw [hn]; rfl
  have HV1 : Hid (str (showT d true) = ⟨#[123, 34, 109, 101, 100, 105, 97, 84, 121, 112, 101, 34, 58]⟩ ++ str (qL d.media) ++ ⟨#[44, 34, 100, 105, 103, 101, 115, 116, 34, 58]⟩ ++ str (qL (textL d.dig)) ++ ⟨#[44, 34, 115, 105, 122, 101, 34, 58]⟩ ++ str (decDigits n) ++ ⟨#[44, 34, 112, 108, 97, 116, 102, 111, 114, 109, 34, 58, 123, 34, 111, 115, 34, 58]⟩ ++ str (qL d.os) ++ ⟨#[44, 34, 97, 114, 99, 104, 105, 116, 101, 99, 116, 117, 114, 101, 34, 58]⟩ ++ str (qL d.arch) ++ ⟨#[125]⟩ ++ ⟨#[125]⟩) := Lib.hid (by
    apply bytes_toList
    simp only [ByteArray.data_append, Array.toList_append, str_toList, showT, baseT, platT, hnn, if_pos, List.append_assoc])
  have HV0 : Hid (str (showT d false) = ⟨#[123, 34, 109, 101, 100, 105, 97, 84, 121, 112, 101, 34, 58]⟩ ++ str (qL d.media) ++ ⟨#[44, 34, 100, 105, 103, 101, 115, 116, 34, 58]⟩ ++ str (qL (textL d.dig)) ++ ⟨#[44, 34, 115, 105, 122, 101, 34, 58]⟩ ++ str (decDigits n) ++ ⟨#[125]⟩) := Lib.hid (by
    apply bytes_toList
    simp only [ByteArray.data_append, Array.toList_append, str_toList, showT, baseT, hnn, List.append_assoc, Bool.false_eq_true, if_false, List.nil_append])
  obtain ⟨V, hV⟩ : ∃ V, V = str (showT d fit) := ⟨_, rfl⟩
  rw [← hV]
  have HV := Lib.hid hV
  have HB := Lib.hid B0
  have HW := Lib.hid (show w.alloc (.cells (encD d) 28) = WA from hWA.symm)
  clear hWA R0 B0 hrow mk hV hnn hm h2 h3 h4 h5 h6 hln hn
  generalize str (qL d.media) = QM at *
  generalize str (qL (textL d.dig)) = QD at *
  generalize str (decDigits n) = DC at *
  generalize str (qL d.os) = QO at *
  generalize str (qL d.arch) = QA at *
  go_enter Tryz.func57, Tryz.ntmps57
  go_upto_region 1 with (fail)
  change Code.wp _ _ _ _ (w.alloc (.cells (encD d) 28))
  rw [HW.out]
  clear HW
  refine (wpIn_wide (n := 4)).1 ?_
  refine region_quiet (C := fun w' => ∃ y : After WA, w' = y.v) (by kernel_rfl) (by kernel_rfl) (by kernel_rfl) ⟨⟨WA.drew, (Below.refl _ _).drew⟩, rfl⟩ ?_
  iterate 6 (gi_big_quiet_step ((gi_at_call 64; exact C1 _)))
  refine wpQuietIn_load_midG (fun _ => trivial) rfl 24 _ rfl w.heap.size 1 rfl (d.dig.map byteV) _ (by rintro _ ⟨y, rfl⟩; exact HRD.out y) Tryz.underlying24 rfl HID.out ?_
  simp only [Act.put, List.setIfInBounds_toArray, List.set_cons_zero, List.set_cons_succ]
  gi_big_quiet_step ((gi_at_call 65; exact C2 _))
  gi_big_quiet_step ((gi_at_call 64; exact C3 _))
  iterate 7 (gi_big_quiet_step ((gi_at_call 92; exact C4 _)))
  refine wpQuietIn_nil ?_
  rintro _ ⟨y, rfl⟩
  obtain ⟨S1, hS1⟩ : ∃ S, S = (⟨#[123, 34, 109, 101, 100, 105, 97, 84, 121, 112, 101, 34, 58]⟩ : ByteArray) ++ QM ++ ⟨#[44, 34, 100, 105, 103, 101, 115, 116, 34, 58]⟩ ++ QD ++ ⟨#[44, 34, 115, 105, 122, 101, 34, 58]⟩ ++ DC := ⟨_, rfl⟩
  rw [← hS1] at HV0 HV1 ⊢
  have zS : S1.size ≤ 13000 := by
    rw [hS1]
    simp only [ByteArray.size_append]
    have a1 : (⟨#[123, 34, 109, 101, 100, 105, 97, 84, 121, 112, 101, 34, 58]⟩ : ByteArray).size = 13 := rfl
    have a2 : (⟨#[44, 34, 100, 105, 103, 101, 115, 116, 34, 58]⟩ : ByteArray).size = 10 := rfl
    have a3 : (⟨#[44, 34, 115, 105, 122, 101, 34, 58]⟩ : ByteArray).size = 8 := rfl
    omega
  clear hS1 C1 C2 C3 C4 HRD HID q0 q33 z1 z3 z4
  have HY := Lib.hid y.h
  cases fit
  · have HE : Hid (S1 ++ ⟨#[125]⟩ = V) := Lib.hid (by rw [HV.out, HV0.out])
    clear HV0 HV1 HV C5 C6 q34 q35
    generalize y.v = W1 at *
    gi_wp2
    go_wp2
    go_ret
    exact ⟨by rw [HE.out]; rfl, HB.out.trans (HY.out.mono HB.out.size)⟩
  · have HE : Hid (S1 ++ ⟨#[44, 34, 112, 108, 97, 116, 102, 111, 114, 109, 34, 58, 123, 34, 111, 115, 34, 58]⟩ ++ QO ++ ⟨#[44, 34, 97, 114, 99, 104, 105, 116, 101, 99, 116, 117, 114, 101, 34, 58]⟩ ++ QA ++ ⟨#[125]⟩ ++ ⟨#[125]⟩ = V) := Lib.hid (by rw [HV.out, HV1.out])
    clear HV0 HV1 HV
    gi_wp2
    go_upto_region 3 with (fail)
    refine (wpIn_wide (n := 4)).1 ?_
    refine region_quiet (C := fun w' => ∃ y : After WA, w' = y.v) (by kernel_rfl) (by kernel_rfl) (by kernel_rfl) ⟨⟨y.v.drew, y.h.drew⟩, rfl⟩ ?_
    iterate 6 (gi_big_quiet_step ((gi_at_call 64; exact C5 _)))
    iterate 9 (gi_big_quiet_step ((gi_at_call 64; exact C6 _)))
    refine wpQuietIn_nil ?_
    rintro _ ⟨y2, rfl⟩
    have HY2 := Lib.hid y2.h
    clear C5 C6 q34 q35 HY
    generalize y2.v = W1 at *
    gi_wp2
    go_wp2
    go_ret
    exact ⟨by rw [HE.out]; rfl, HB.out.trans (HY2.out.mono HB.out.size)⟩
end Go.Proofs.YtnkencdibniagaaGreatDoor

