/- Merged: OcM, OhB, Chg. -/
import Derived.Test.YtnkencdibniagaaGreatDoorM03
import Derived.Test.YtnkencdibniagaaGreatDoorM04
import Derived.Lib.AtoiAll
import Derived.Lib.ItoaNum
import Derived.Test.YtnkencdibniagaaGreatDoorM01
/- Layer 13, plain: manifests, indexes and configurations, as functions on values of JSON. -/
namespace Go.Proofs.YtnkencdibniagaaGreatDoor
open Go.Lib

def mMan : Bs := [97, 112, 112, 108, 105, 99, 97, 116, 105, 111, 110, 47, 118, 110, 100, 46, 111, 99, 105, 46, 105, 109, 97, 103, 101, 46, 109, 97, 110, 105, 102, 101, 115, 116, 46, 118, 49, 43, 106, 115, 111, 110]
def mIdx : Bs := [97, 112, 112, 108, 105, 99, 97, 116, 105, 111, 110, 47, 118, 110, 100, 46, 111, 99, 105, 46, 105, 109, 97, 103, 101, 46, 105, 110, 100, 101, 120, 46, 118, 49, 43, 106, 115, 111, 110]
def mCfg : Bs := [97, 112, 112, 108, 105, 99, 97, 116, 105, 111, 110, 47, 118, 110, 100, 46, 111, 99, 105, 46, 105, 109, 97, 103, 101, 46, 99, 111, 110, 102, 105, 103, 46, 118, 49, 43, 106, 115, 111, 110]
def mLay : Bs := [97, 112, 112, 108, 105, 99, 97, 116, 105, 111, 110, 47, 118, 110, 100, 46, 111, 99, 105, 46, 105, 109, 97, 103, 101, 46, 108, 97, 121, 101, 114, 46, 118, 49, 46, 116, 97, 114]
def dMan : Bs := [97, 112, 112, 108, 105, 99, 97, 116, 105, 111, 110, 47, 118, 110, 100, 46, 100, 111, 99, 107, 101, 114, 46, 100, 105, 115, 116, 114, 105, 98, 117, 116, 105, 111, 110, 46, 109, 97, 110, 105, 102, 101, 115, 116, 46, 118, 50, 43, 106, 115, 111, 110]
def dIdx : Bs := [97, 112, 112, 108, 105, 99, 97, 116, 105, 111, 110, 47, 118, 110, 100, 46, 100, 111, 99, 107, 101, 114, 46, 100, 105, 115, 116, 114, 105, 98, 117, 116, 105, 111, 110, 46, 109, 97, 110, 105, 102, 101, 115, 116, 46, 108, 105, 115, 116, 46, 118, 50, 43, 106, 115, 111, 110]
def dCfg : Bs := [97, 112, 112, 108, 105, 99, 97, 116, 105, 111, 110, 47, 118, 110, 100, 46, 100, 111, 99, 107, 101, 114, 46, 99, 111, 110, 116, 97, 105, 110, 101, 114, 46, 105, 109, 97, 103, 101, 46, 118, 49, 43, 106, 115, 111, 110]
def dLay : Bs := [97, 112, 112, 108, 105, 99, 97, 116, 105, 111, 110, 47, 118, 110, 100, 46, 100, 111, 99, 107, 101, 114, 46, 105, 109, 97, 103, 101, 46, 114, 111, 111, 116, 102, 115, 46, 100, 105, 102, 102, 46, 116, 97, 114]
def kVer : Bs := [115, 99, 104, 101, 109, 97, 86, 101, 114, 115, 105, 111, 110]
def kMed : Bs := [109, 101, 100, 105, 97, 84, 121, 112, 101]
def kCfg : Bs := [99, 111, 110, 102, 105, 103]
def kLay : Bs := [108, 97, 121, 101, 114, 115]
def kMan : Bs := [109, 97, 110, 105, 102, 101, 115, 116, 115]
def kDig : Bs := [100, 105, 103, 101, 115, 116]
def kSiz : Bs := [115, 105, 122, 101]
def kPla : Bs := [112, 108, 97, 116, 102, 111, 114, 109]
def kOS : Bs := [111, 115]
def kArc : Bs := [97, 114, 99, 104, 105, 116, 101, 99, 116, 117, 114, 101]
def kRoo : Bs := [114, 111, 111, 116, 102, 115]
def kTyp : Bs := [116, 121, 112, 101]
def kDif : Bs := [100, 105, 102, 102, 95, 105, 100, 115]
def kAnn : Bs := [97, 110, 110, 111, 116, 97, 116, 105, 111, 110, 115]
/-- What a media type is. -/
def kindN (s : Bs) : Nat := if s = mMan ∨ s = dMan then 1 else if s = mIdx ∨ s = dIdx then 2 else if s = mCfg ∨ s = dCfg then 3 else if s = mLay ∨ s = dLay then 4 else 0
/-- A descriptor. -/
structure DV where
  media : Bs
  dig : Bs
  size : Int
  os : Bs
  arch : Bs
/-- Without its platform. -/
def DV.plain (d : DV) : DV := { d with os := [], arch := [] }
def getL : List Bs → List JV → Bs → Option JV
  | k :: ks, x :: xs, key => if k = key then some x else getL ks xs key
  | _, _, _ => none
/-- What an object has by a key. -/
def getV (v : JV) (key : Bs) : Option JV := if v.kind = 6 then getL v.keys v.items key else none
/-- An integer that is told as one. -/
def intV (v : JV) : Option Int :=
  if v.kind = 3 ∧ isNumB v.text = true then (match atoiAll v.text with | .ok n => if -9007199254740992 ≤ n ∧ n ≤ 9007199254740992 then some n else none | _ => none) else none
def textV (v : JV) : Option Bs := if v.kind = 4 then some v.text else none
def digV (v : JV) : Option Bs := if v.kind = 4 ∧ isText v.text = true then some (digL v.text) else none
/-- A part of an object, as it is read. -/
def partV {α : Type} (v : JV) (key : Bs) (f : JV → Option α) : Option α := (getV v key).bind f
def anyV {α : Type} (z : α) (v : JV) (key : Bs) (f : JV → Option α) : Option α := match getV v key with | none => some z | some x => f x
def platV (v : JV) : Option (Bs × Bs) :=
  match partV v kOS textV with
  | none => none
  | some os => match partV v kArc textV with
    | none => none
    | some arch => some (os, arch)
def sizeV (v : JV) : Option Int := (intV v).bind fun n => if n < 0 then none else some n
def descV (v : JV) : Option DV :=
  match partV v kMed textV with
  | none => none
  | some media => match partV v kDig digV with
    | none => none
    | some d => match partV v kSiz sizeV with
      | none => none
      | some n => match anyV ([], []) v kPla platV with
        | none => none
        | some p => some ⟨media, d, n, p.1, p.2⟩
def plainV (v : JV) : Option DV := (descV v).map DV.plain
def mapO {α : Type} (f : JV → Option α) : List JV → Option (List α)
  | [] => some []
  | x :: l => match f x with
    | none => none
    | some t => match mapO f l with
      | none => none
      | some r => some (t :: r)
def listV {α : Type} (f : JV → Option α) (v : JV) : Option (List α) := if v.kind = 5 then mapO f v.items else none
def mediaV (kind : Nat) (v : JV) : Option Bs := (textV v).bind fun s => if kindN s = kind then some s else none
/-- What is wrong with the head of a manifest or an index: 0 is nothing. -/
def headV (kind : Nat) (v : JV) : Nat := if partV v kVer intV ≠ some 2 then 10 else match anyV [] v kMed (mediaV kind) with | none => 72 | some _ => 0
def fitsN (c : DV) (l : List DV) : Nat := if 8 < l.length then 63 else if kindN c.media ≠ 3 then 72 else if l.all (fun d => kindN d.media == 4) = true then 0 else 72
/-- An answer, or an error. -/
inductive Got (α : Type) where
  | ok (a : α)
  | bad (code : Nat)
def manV (v : JV) : Got (DV × List DV) :=
  if headV 1 v ≠ 0 then .bad (headV 1 v) else match partV v kCfg plainV with
  | none => .bad 10
  | some c => match partV v kLay (listV plainV) with
    | none => .bad 10
    | some l => if fitsN c l ≠ 0 then .bad (fitsN c l) else .ok (c, l)
def idxV (v : JV) : Got (List DV) :=
  if headV 2 v ≠ 0 then .bad (headV 2 v) else match partV v kMan (listV descV) with
  | none => .bad 10
  | some l => if 32 < l.length then .bad 63 else .ok l
/-! ### What is put -/
def txtJ (s : Bs) : JV := .mk 4 s [] []
def numJ (n : Int) : JV := .mk 3 (itoa n) [] []
def objJ (l : List (Bs × JV)) : JV := .mk 6 [] (l.map (·.2)) (l.map (·.1))
def lstJ (l : List JV) : JV := .mk 5 [] l []
def fldJ (d : DV) : List (Bs × JV) := [(kMed, txtJ d.media), (kDig, txtJ (textL d.dig)), (kSiz, numJ d.size)]
def plaJ (os arch : Bs) : JV := objJ [(kOS, txtJ os), (kArc, txtJ arch)]
def fullJ (d : DV) : JV := objJ (fldJ d ++ [(kPla, plaJ d.os d.arch)])
def bareJ (d : DV) : JV := objJ (fldJ d)
def manJ (c : DV) (l : List DV) : JV := objJ [(kVer, numJ 2), (kMed, txtJ mMan), (kCfg, bareJ c), (kLay, lstJ (l.map bareJ))]
def idxJ (l : List DV) : JV := objJ [(kVer, numJ 2), (kMed, txtJ mIdx), (kMan, lstJ (l.map fullJ))]
def imgJ (p : Bs × Bs) (l : List Bs) : JV := objJ [(kArc, txtJ p.2), (kOS, txtJ p.1), (kRoo, objJ [(kTyp, txtJ kLay), (kDif, lstJ (l.map fun d => txtJ (textL d)))])]
def mayD (d : DV) : Bool := decide (0 ≤ d.size) && decide (d.size ≤ 9007199254740992) && validD d.media && (validD d.os && validD d.arch)
def manA (c : DV) (l : List DV) : Bs × Nat := if mayD c = false ∨ l.all mayD = false then ([], 2) else if fitsN c l ≠ 0 then ([], fitsN c l) else printA (manJ c l)
def idxA (l : List DV) : Bs × Nat := if l.all mayD = false then ([], 2) else if 32 < l.length then ([], 63) else printA (idxJ l)
def imgA (p : Bs × Bs) (l : List Bs) : Bs × Nat := if (validD p.1 && validD p.2) = false then ([], 2) else if 8 < l.length then ([], 63) else printA (imgJ p l)
end Go.Proofs.YtnkencdibniagaaGreatDoor

/- Layer 13, the document's own side: a text quoted, byte by byte. -/
namespace Go.Proofs.YtnkencdibniagaaGreatDoor
open Go.RowKit Go.Lib
attribute [local go_sem] wide_fn round_fn

def quoB (c : UInt8) : Bs :=
  match escR c.toNat with
  | some b => [92, b]
  | none => if c.toNat < 16 then [92, 117, 48, 48, 48, hexd c.toNat] else if c.toNat < 32 then [92, 117, 48, 48, 49, hexd (c.toNat - 16)] else [c]
theorem quoB_big {c : UInt8} (h : 128 ≤ c.toNat) : quoB c = [c] := by
  unfold quoB escR
  rw [if_neg (by omega), if_neg (by omega), if_neg (by omega), if_neg (by omega), if_neg (by omega), if_neg (by omega), if_neg (by omega)]
  simp only
  rw [if_neg (by omega), if_neg (by omega)]
theorem flat_big : ∀ l : Bs, (∀ b ∈ l, 128 ≤ b.toNat) → l.flatMap quoB = l
  | [], _ => rfl
  | b :: l, h => by
    rw [List.flatMap_cons, quoB_big (h b (by simp)), flat_big l (fun c hc => h c (by simp [hc]))]
    rfl
theorem printed_bytes {c : Nat} (hc : scal c) : printedR c = (encodeRune (c : Int)).flatMap quoB := by
  by_cases h : 128 ≤ c
  · rw [flat_big _ (enc_big hc h)]
    unfold printedR escR
    rw [if_neg (by omega), if_neg (by omega), if_neg (by omega), if_neg (by omega), if_neg (by omega), if_neg (by omega), if_neg (by omega)]
    simp only
    rw [if_neg (by omega), if_neg (by omega)]
  · have e : (UInt8.ofNat c).toNat = c := by simp; omega
    rw [enc_ascii (by omega), List.flatMap_cons, List.flatMap_nil, List.append_nil]
    unfold printedR quoB
    rw [e, enc_ascii (by omega)]
    cases escR c <;> rfl
theorem quoT_bytes {t : Bs} (h : validD t = true) : quoT t = 34 :: (t.flatMap quoB ++ [34]) := by
  obtain ⟨cs, hs, rfl⟩ := valid_utf _ t (Nat.le_refl _) h
  unfold quoT quoR
  rw [runesT_utf hs]
  have : ∀ l : List Nat, (∀ c ∈ l, scal c) → l.flatMap printedR = (utfB l).flatMap quoB := by
    intro l
    induction l with
    | nil => intro _; rfl
    | cons c l ih =>
      intro hl
      rw [List.flatMap_cons, utfB, List.flatMap_append, ih (fun x hx => hl x (by simp [hx])), printed_bytes (hl c (by simp))]
  rw [this cs hs]
theorem ext_one {S : Bs} {i : Nat} (h : i < S.length) : (str S).extract i (i + 1) = str [S.getD i 0] := by
  apply bytes_toList
  rw [str_toList]
  rw [ByteArray.data_extract, Array.toList_extract, str_toList, List.extract_eq_take_drop, show i + 1 - i = 1 by omega, drop_cons h]
  simp
theorem two_dig (q : Nat) (h : q < 2) : (⟨#[48, 49]⟩ : ByteArray).extract q (q + 1) = str [UInt8.ofNat (48 + q)] := by
  have : ∀ d : Fin 2, (⟨#[48, 49]⟩ : ByteArray).extract d.val (d.val + 1) = str [UInt8.ofNat (48 + d.val)] := by decide +kernel
  exact this ⟨q, h⟩
theorem hex_dig (q : Nat) (h : q < 16) : (⟨#[48, 49, 50, 51, 52, 53, 54, 55, 56, 57, 97, 98, 99, 100, 101, 102]⟩ : ByteArray).extract q (q + 1) = str [hexd q] := by
  have : ∀ d : Fin 16, (⟨#[48, 49, 50, 51, 52, 53, 54, 55, 56, 57, 97, 98, 99, 100, 101, 102]⟩ : ByteArray).extract d.val (d.val + 1) = str [hexd d.val] := by decide +kernel
  exact this ⟨q, h⟩
theorem take_flat {S : Bs} {k : Nat} (h : k < S.length) : (S.take (k + 1)).flatMap quoB = (S.take k).flatMap quoB ++ quoB (S.getD k 0) := by
  rw [List.take_add_one, List.getElem?_eq_getElem h, List.flatMap_append]
  simp [List.getD, h]
theorem bapp_assoc (a b c : ByteArray) : a ++ b ++ c = a ++ (b ++ c) := by
  apply bytes_toList
  simp
theorem byte_is {c : UInt8} {n : Nat} (h : c.toNat = n) : c = UInt8.ofNat n := by
  rw [← h]
  simp
theorem quoB_low {c : UInt8} (h : c.toNat < 32) (he : escR c.toNat = none) : quoB c = [92, 117, 48, 48, UInt8.ofNat (48 + c.toNat / 16), hexd (c.toNat % 16)] := by
  unfold quoB
  rw [he]
  simp only
  by_cases h1 : c.toNat < 16
  · rw [if_pos h1, show c.toNat / 16 = 0 by omega, show c.toNat % 16 = c.toNat by omega]
    rfl
  · rw [if_neg h1, if_pos h, show c.toNat / 16 = 1 by omega, show c.toNat % 16 = c.toNat - 16 by omega]
    rfl
theorem quoB_mid {c : UInt8} (h : 32 ≤ c.toNat) (he : escR c.toNat = none) : quoB c = [c] := by
  unfold quoB
  rw [he]
  simp only
  rw [if_neg (by omega), if_neg (by omega)]
theorem escR_none {z : Nat} (h1 : z ≠ 34) (h2 : z ≠ 92) (h3 : z ≠ 8) (h4 : z ≠ 12) (h5 : z ≠ 10) (h6 : z ≠ 13) (h7 : z ≠ 9) : escR z = none := by
  unfold escR
  rw [if_neg h1, if_neg h2, if_neg h3, if_neg h4, if_neg h5, if_neg h6, if_neg h7]
theorem quoB_len (c : UInt8) : (quoB c).length ≤ 6 := by
  unfold quoB
  split
  · exact Nat.le_of_ble_eq_true rfl
  · split
    · exact Nat.le_of_ble_eq_true rfl
    · split
      · exact Nat.le_of_ble_eq_true rfl
      · exact Nat.le_of_ble_eq_true rfl
theorem flat_len : ∀ l : Bs, (l.flatMap quoB).length ≤ 6 * l.length
  | [] => Nat.le_refl _
  | c :: l => by
    have h1 := quoB_len c
    have h2 := flat_len l
    rw [List.flatMap_cons, List.length_append, List.length_cons]
    omega
set_option maxRecDepth 100000 in
set_option maxHeartbeats 2000000 in
theorem rquoted_any (S : Bs) (hS : S.length ≤ 1000000) (w : World) :
    Calls Tryz.prog 154 #[.string (str S)] w fun e w' => e = .returned (.string (str (34 :: (S.flatMap quoB ++ [34])))) ∧ Below w.heap.size w w' := by
  have ix : ∀ k, k < S.length → ∀ w, (Instr.index 9 (.string (str S)) (.int .i64 (k : Int))).run Tryz.prog w = .ok (.int .u8 ((S.getD k 0).toNat : Int)) w := fun k hk => by
    have := idx_str (str S) k _ rfl (by rw [str_size]; exact hk)
    rwa [str_toList] at this
  have ex : ∀ k, k < S.length → (str S).extract k (k + 1) = str [S.getD k 0] := fun k hk => ext_one hk
  obtain ⟨T, hT⟩ : ∃ T, T = str S := ⟨_, rfl⟩
  have hTs : T.size = S.length := by rw [hT, str_size]
  rw [← hT] at ix ex ⊢
  obtain ⟨N, hN⟩ : ∃ N, N = S.length := ⟨_, rfl⟩
  rw [← hN] at hTs hS ix ex
  have HIX := Lib.hid ix
  have HEX := Lib.hid ex
  have HN := Lib.hid hN
  obtain ⟨V, hV⟩ : ∃ V, V = str (34 :: (S.flatMap quoB ++ [34])) := ⟨_, rfl⟩
  rw [← hV]
  have HV := Lib.hid hV
  clear hT hN hV ix ex
  go_enter Tryz.func154, Tryz.ntmps154
  go_wp2
  go_loopw [4, 3] (fun a b wr => ∃ (k : Nat) (O : ByteArray), a = .int .i64 (k : Int) ∧ b = .string O ∧ k ≤ N ∧ Hid (O = str (34 :: (S.take k).flatMap quoB)) ∧ Hid (Below w.heap.size w wr)) (fun a _ _ => N - (intOf a).toNat)
  case atStart => exact ⟨0, _, rfl, rfl, Nat.zero_le _, Lib.hid rfl, Lib.hid (Below.refl _ _)⟩
  case round =>
    obtain ⟨k, O, rfl, rfl, hk, hO, hB⟩ := hrel
    have oz : O.size ≤ 6 * k + 1 := by
      have h1 := flat_len (S.take k)
      have h2 : (S.take k).length ≤ k := by rw [List.length_take]; omega
      rw [hO.out, str_size, List.length_cons]
      omega
    by_cases hlt : k < N
    · have q0 : (k : Int) < (N : Int) := by omega
      obtain ⟨z, hz⟩ : ∃ z, z = (S.getD k 0).toNat := ⟨_, rfl⟩
      have i0 := HIX.out k hlt
      rw [← hz] at i0
      obtain ⟨P, hP⟩ : ∃ P, P = str [S.getD k 0] := ⟨_, rfl⟩
      have x0 := HEX.out k hlt
      rw [← hP] at x0
      have hz2 : z < 256 := by rw [hz]; exact (S.getD k 0).toNat_lt
      have HQ : ∀ p : Bs, quoB (S.getD k 0) = p → str (34 :: (S.take (k + 1)).flatMap quoB) = O ++ str p := fun p hp => by
        rw [take_flat (by rw [← HN.out]; exact hlt), hp, hO.out, str_append]
        rfl
      have HZ := Lib.hid hz
      have HP := Lib.hid hP
      have HQ := Lib.hid HQ
      have HEQ := Lib.hid (show ∀ c : UInt8, S.getD k 0 = c → P = str [c] from fun c hc => by rw [HP.out, hc])
      clear hz hP hO HEX HIX HV
      have pz : P.size = 1 := by rw [HP.out, str_size]; rfl
      by_cases e34 : z = 34
      · have hc := byte_is (c := S.getD k 0) (n := 34) (by rw [← HZ.out, e34])
        have HX : Hid (O ++ ⟨#[92]⟩ ++ P = str (34 :: (S.take (k + 1)).flatMap quoB)) := Lib.hid (by
          rw [HQ.out [92, 34] (by rw [hc]; rfl)]
          rw [HEQ.out _ hc, bapp_assoc, show (⟨#[92]⟩ : ByteArray) = str [92] from rfl, str_append]
          rfl)
        subst e34
        clear hc
        go_wp2
        go_roundw
        case rel => exact ⟨k + 1, _, by go_num, rfl, by omega, HX, hB⟩
        case measure => simp [intOf] <;> omega
      have f34 : ((z : Int) == 34) = false := by rw [beq_eq_false_iff_ne]; omega
      by_cases e92 : z = 92
      · have hc := byte_is (c := S.getD k 0) (n := 92) (by rw [← HZ.out, e92])
        have HX : Hid (O ++ ⟨#[92]⟩ ++ P = str (34 :: (S.take (k + 1)).flatMap quoB)) := Lib.hid (by
          rw [HQ.out [92, 92] (by rw [hc]; rfl)]
          rw [HEQ.out _ hc, bapp_assoc, show (⟨#[92]⟩ : ByteArray) = str [92] from rfl, str_append]
          rfl)
        subst e92
        clear hc
        go_wp2
        go_roundw
        case rel => exact ⟨k + 1, _, by go_num, rfl, by omega, HX, hB⟩
        case measure => simp [intOf] <;> omega
      have f92 : ((z : Int) == 92) = false := by rw [beq_eq_false_iff_ne]; omega
      by_cases e8 : z = 8
      · have hc := byte_is (c := S.getD k 0) (n := 8) (by rw [← HZ.out, e8])
        have HX : Hid (O ++ ⟨#[92, 98]⟩ = str (34 :: (S.take (k + 1)).flatMap quoB)) := Lib.hid (by
          rw [HQ.out [92, 98] (by rw [hc]; rfl)]
          rfl)
        subst e8
        clear hc
        go_wp2
        go_roundw
        case rel => exact ⟨k + 1, _, by go_num, rfl, by omega, HX, hB⟩
        case measure => simp [intOf] <;> omega
      have f8 : ((z : Int) == 8) = false := by rw [beq_eq_false_iff_ne]; omega
      by_cases e12 : z = 12
      · have hc := byte_is (c := S.getD k 0) (n := 12) (by rw [← HZ.out, e12])
        have HX : Hid (O ++ ⟨#[92, 102]⟩ = str (34 :: (S.take (k + 1)).flatMap quoB)) := Lib.hid (by
          rw [HQ.out [92, 102] (by rw [hc]; rfl)]
          rfl)
        subst e12
        clear hc
        go_wp2
        go_roundw
        case rel => exact ⟨k + 1, _, by go_num, rfl, by omega, HX, hB⟩
        case measure => simp [intOf] <;> omega
      have f12 : ((z : Int) == 12) = false := by rw [beq_eq_false_iff_ne]; omega
      by_cases e10 : z = 10
      · have hc := byte_is (c := S.getD k 0) (n := 10) (by rw [← HZ.out, e10])
        have HX : Hid (O ++ ⟨#[92, 110]⟩ = str (34 :: (S.take (k + 1)).flatMap quoB)) := Lib.hid (by
          rw [HQ.out [92, 110] (by rw [hc]; rfl)]
          rfl)
        subst e10
        clear hc
        go_wp2
        go_roundw
        case rel => exact ⟨k + 1, _, by go_num, rfl, by omega, HX, hB⟩
        case measure => simp [intOf] <;> omega
      have f10 : ((z : Int) == 10) = false := by rw [beq_eq_false_iff_ne]; omega
      by_cases e13 : z = 13
      · have hc := byte_is (c := S.getD k 0) (n := 13) (by rw [← HZ.out, e13])
        have HX : Hid (O ++ ⟨#[92, 114]⟩ = str (34 :: (S.take (k + 1)).flatMap quoB)) := Lib.hid (by
          rw [HQ.out [92, 114] (by rw [hc]; rfl)]
          rfl)
        subst e13
        clear hc
        go_wp2
        go_roundw
        case rel => exact ⟨k + 1, _, by go_num, rfl, by omega, HX, hB⟩
        case measure => simp [intOf] <;> omega
      have f13 : ((z : Int) == 13) = false := by rw [beq_eq_false_iff_ne]; omega
      by_cases e9 : z = 9
      · have hc := byte_is (c := S.getD k 0) (n := 9) (by rw [← HZ.out, e9])
        have HX : Hid (O ++ ⟨#[92, 116]⟩ = str (34 :: (S.take (k + 1)).flatMap quoB)) := Lib.hid (by
          rw [HQ.out [92, 116] (by rw [hc]; rfl)]
          rfl)
        subst e9
        clear hc
        go_wp2
        go_roundw
        case rel => exact ⟨k + 1, _, by go_num, rfl, by omega, HX, hB⟩
        case measure => simp [intOf] <;> omega
      have f9 : ((z : Int) == 9) = false := by rw [beq_eq_false_iff_ne]; omega
      have he : escR (S.getD k 0).toNat = none := by rw [← HZ.out]; exact escR_none e34 e92 e8 e12 e10 e13 e9
      clear e34 e92 e8 e12 e10 e13 e9
      by_cases h32 : z < 32
      · have f0 : (z : Int) < 32 := by omega
        obtain ⟨q, hq⟩ : ∃ q, q = z / 16 := ⟨_, rfl⟩
        obtain ⟨m, hm⟩ : ∃ m, m = z % 16 := ⟨_, rfl⟩
        have hq2 : q < 2 := by omega
        have hm2 : m < 16 := by omega
        obtain ⟨P1, hP1⟩ : ∃ P, P = str [UInt8.ofNat (48 + q)] := ⟨_, rfl⟩
        obtain ⟨P2, hP2⟩ : ∃ P, P = str [hexd m] := ⟨_, rfl⟩
        have x1 := two_dig q hq2
        have x2 := hex_dig m hm2
        rw [← hP1] at x1
        rw [← hP2] at x2
        have HX : Hid (O ++ ⟨#[92, 117, 48, 48]⟩ ++ P1 ++ P2 = str (34 :: (S.take (k + 1)).flatMap quoB)) := Lib.hid (by
          rw [HQ.out _ (quoB_low (by rw [← HZ.out]; exact h32) he), ← HZ.out, ← hq, ← hm, hP1, hP2, bapp_assoc, bapp_assoc, str_append, show (⟨#[92, 117, 48, 48]⟩ : ByteArray) = str [92, 117, 48, 48] from rfl, str_append]
          rfl)
        have z1 : P1.size = 1 := by rw [hP1, str_size]; rfl
        have z2 : P2.size = 1 := by rw [hP2, str_size]; rfl
        have y1 : (z : Int) / 16 = (q : Int) := by omega
        have y2 : (z : Int) % 16 = (m : Int) := by omega
        clear he hq hm hP1 hP2 h32
        go_upto_region 7 with (fail)
        go_quiet (fail)
        go_wp2
        go_roundw
        case rel => exact ⟨k + 1, _, by go_num, rfl, by omega, HX, Lib.hid (hB.out.trans ⟨rfl, rfl, rfl, Nat.le_refl _, fun _ _ => rfl⟩)⟩
        case measure => simp [intOf] <;> omega
      · have f0 : ¬ (z : Int) < 32 := by omega
        have HX : Hid (O ++ P = str (34 :: (S.take (k + 1)).flatMap quoB)) := Lib.hid (by
          rw [HQ.out _ (quoB_mid (by rw [← HZ.out]; omega) he), ← HP.out])
        clear he h32
        go_wp2
        go_roundw
        case rel => exact ⟨k + 1, _, by go_num, rfl, by omega, HX, hB⟩
        case measure => simp [intOf] <;> omega
    · obtain rfl : k = N := by omega
      have HF : Hid (O ++ ⟨#[34]⟩ = V) := Lib.hid (by
        rw [HV.out, hO.out, List.take_of_length_le (by rw [← HN.out]; omega), show (⟨#[34]⟩ : ByteArray) = str [34] from rfl, str_append]
        rfl)
      clear hO
      go_wp2
      go_ret
      exact ⟨by rw [HF.out]; rfl, hB.out⟩
end Go.Proofs.YtnkencdibniagaaGreatDoor

/- What a call changes: new blocks, and of the old ones just some. (Generic: it names nothing of the cut.) -/
namespace Go.Proofs.YtnkencdibniagaaGreatDoor
open Go.RowKit

/-- w' is w with new blocks, and of the old ones none but those of s is another one. -/
structure Chg (s : Nat → Prop) (w w' : World) : Prop where
  os : w'.os = w.os
  tape : w'.tape = w.tape
  output : w'.output = w.output
  size : w.heap.size ≤ w'.heap.size
  block : ∀ k, k < w.heap.size → ¬ s k → w'.heap[k]? = w.heap[k]?
theorem Chg.refl (s : Nat → Prop) (w : World) : Chg s w w := ⟨rfl, rfl, rfl, Nat.le_refl _, fun _ _ _ => rfl⟩
theorem Chg.trans {s t : Nat → Prop} {a b c : World} (h : Chg s a b) (g : Chg t b c) (ht : ∀ k, k < a.heap.size → t k → s k) : Chg s a c :=
  ⟨g.os.trans h.os, g.tape.trans h.tape, g.output.trans h.output, Nat.le_trans h.size g.size, fun k hk hs => (g.block k (Nat.lt_of_lt_of_le hk h.size) (fun hh => hs (ht k hk hh))).trans (h.block k hk hs)⟩
theorem Chg.of_below {s : Nat → Prop} {w w' : World} (h : Below w.heap.size w w') : Chg s w w' := ⟨h.os, h.tape, h.output, h.size, fun k hk _ => h.block k hk⟩
theorem Chg.below {s : Nat → Prop} {w w' : World} (h : Chg s w w') {B : Nat} (hB : B ≤ w.heap.size) (hs : ∀ k, k < B → ¬ s k) : Below B w w' :=
  ⟨h.os, h.tape, h.output, h.size, fun k hk => h.block k (Nat.lt_of_lt_of_le hk hB) (hs k hk)⟩
theorem Chg.mono {s t : Nat → Prop} {w w' : World} (h : Chg s w w') (hs : ∀ k, k < w.heap.size → s k → t k) : Chg t w w' :=
  ⟨h.os, h.tape, h.output, h.size, fun k hk ht => h.block k hk (fun hh => ht (hs k hk hh))⟩
theorem Chg.then_below {s : Nat → Prop} {a w w' : World} (h : Chg s a w) (g : Below w.heap.size w w') : Chg s a w' := h.trans (t := s) (Chg.of_below g) (fun _ _ h => h)
theorem Chg.alloc {s : Nat → Prop} {a w : World} (h : Chg s a w) (o : Obj) : Chg s a (w.alloc o) := h.then_below ((Below.refl _ _).alloc (Nat.le_refl _) _)
theorem Chg.drew {s : Nat → Prop} {a w : World} (h : Chg s a w) : Chg s a w.drew := ⟨h.os, h.tape, h.output, h.size, h.block⟩
theorem Chg.drewN {s : Nat → Prop} {a w : World} (h : Chg s a w) (n : Nat) : Chg s a (w.drewN n) := ⟨h.os, h.tape, h.output, h.size, h.block⟩
theorem Chg.setCell {s : Nat → Prop} {a w : World} (h : Chg s a w) (p : Addr) (v : Value) (hp : s p.block ∨ a.heap.size ≤ p.block) : Chg s a (w.setCell p v) := by
  refine ⟨h.os, h.tape, h.output, ?_, fun k hk hs => ?_⟩
  · rw [World.size_setCell]; exact h.size
  · rw [heap_setCell_other w p k v (fun e => by subst e; rcases hp with hp | hp; exact hs hp; omega)]
    exact h.block k hk hs
theorem Chg.setRow {s : Nat → Prop} {a w : World} (h : Chg s a w) (g : Nat) (cs : Array Value) (hp : s g ∨ a.heap.size ≤ g) : Chg s a (w.setRow g cs) := by
  refine ⟨h.os, h.tape, h.output, ?_, fun k hk hs => ?_⟩
  · rw [setRow_size]; exact h.size
  · rw [setRow_other w g k cs (fun e => by subst e; rcases hp with hp | hp; exact hs hp; omega)]
    exact h.block k hk hs
theorem Chg.grown {s : Nat → Prop} {a w w' : World} (h : Chg s a w) {row : Option Nat} (g : w.grownBy w' row) (hr : ∀ k, row = some k → s k ∨ a.heap.size ≤ k) : Chg s a w' := by
  refine ⟨g.os.trans h.os, g.tape.trans h.tape, g.output.trans h.output, Nat.le_trans h.size g.size, fun k hk hs => ?_⟩
  rw [g.block k (Nat.lt_of_lt_of_le hk h.size) (fun e => by rcases hr k e.symm with hp | hp; exact hs hp; omega)]
  exact h.block k hk hs
theorem Chg.rowC {s : Nat → Prop} {w w' : World} (h : Chg s w w') {b : Nat} {cs : Array Value} {t : TypeId} (hr : rowC w b cs t) (hs : ¬ s b) : rowC w' b cs t := (h.block b (rowC_lt hr) hs).trans hr
theorem Chg.owns {s : Nat → Prop} {w w' : World} (h : Chg s w w') {base : Nat} {e : TypeId} {size n : Nat} {v : Value} {xs : List Value} (ho : w.ownsRow base e size v n xs) (hs : ∀ g, v.ownBlock = some g → ¬ s g) : w'.ownsRow base e size v n xs := by
  have hl := ho.lt
  refine ⟨ho.1, ?_⟩
  rcases ho.2 with hn | ⟨g, cap, cur, hv, hb, hg, hrest⟩
  · exact .inl hn
  · refine .inr ⟨g, cap, cur, hv, hb, ?_, hrest⟩
    have hlt := (hl g (by rw [hv]; rfl)).2
    exact (h.block g hlt (hs g (by rw [hv]; rfl))).trans hg
theorem owns_form {w : World} {base : Nat} {e : TypeId} {size n : Nat} {v : Value} {xs : List Value} (ho : w.ownsRow base e size v n xs) : ∃ a cap, v = .slice a n cap := by
  rcases ho.2 with ⟨hv, rfl⟩ | ⟨g, cap, cur, hv, _⟩
  · exact ⟨none, 0, hv⟩
  · exact ⟨_, cap, hv⟩
theorem owns_some {w : World} {base : Nat} {e : TypeId} {size n : Nat} {v : Value} {xs : List Value} (ho : w.ownsRow base e size v n xs) (hn : 0 < n) : ∃ g cap, v = .slice (some ⟨g, 0, none⟩) n cap := by
  rcases ho.2 with ⟨hv, rfl⟩ | ⟨g, cap, cur, hv, _⟩
  · omega
  · exact ⟨g, cap, hv⟩
end Go.Proofs.YtnkencdibniagaaGreatDoor

