/- Merged: OhE, OhF, OfW. -/
import Derived.Test.YtnkencdibniagaaGreatDoorM40
import Derived.Test.YtnkencdibniagaaGreatDoorM34
import Derived.Test.YtnkencdibniagaaGreatDoorM39
/- Layer 13, the document's own side: a list's text; may descriptors be; short. -/
namespace Go.Proofs.YtnkencdibniagaaGreatDoor
open Go.RowKit Go.Lib

/-- Texts, a comma between each two. -/
def sepT : List Bs → Bs
  | [] => []
  | x :: l => x ++ l.flatMap (fun y => 44 :: y)
theorem sepT_snoc (L : List Bs) (z : Bs) : sepT (L ++ [z]) = if L = [] then z else sepT L ++ 44 :: z := by
  cases L with
  | nil => simp [sepT]
  | cons x l => simp [sepT]
theorem sepT_len (m : Nat) : ∀ L : List Bs, (∀ x ∈ L, x.length ≤ m) → (sepT L).length ≤ L.length * (m + 1) := by
  have : ∀ L : List Bs, (∀ x ∈ L, x.length ≤ m) → (L.flatMap (fun y => 44 :: y)).length ≤ L.length * (m + 1) := by
    intro L
    induction L with
    | nil => intro _; simp
    | cons x l ih =>
      intro h
      have h1 := h x (by simp)
      have h2 := ih (fun y hy => h y (by simp [hy]))
      rw [List.flatMap_cons, List.length_append, List.length_cons, List.length_cons, Nat.succ_mul]
      omega
  intro L h
  cases L with
  | nil => simp [sepT]
  | cons x l =>
    have h1 := h x (by simp)
    have h2 := this l (fun y hy => h y (by simp [hy]))
    rw [sepT, List.length_append, List.length_cons, Nat.succ_mul]
    omega
def listT (l : List DV) (fit : Bool) : Bs := [91] ++ sepT (l.map fun d => showT d fit) ++ [93]
theorem show_len {d : DV} (h : okShow d) (fit : Bool) : (showT d fit).length ≤ 18701 := by
  have h1 := base_len h
  have h2 := plat_len h
  unfold showT
  rw [List.length_append, List.length_append, List.length_singleton]
  cases fit
  · simp; omega
  · simp; omega
theorem list_len {l : List DV} (h : ∀ d ∈ l, okShow d) (fit : Bool) : (listT l fit).length ≤ l.length * 18702 + 2 := by
  have h1 := sepT_len 18701 (l.map fun d => showT d fit) (fun x hx => by
    obtain ⟨d, hd, rfl⟩ := List.mem_map.1 hx
    exact show_len (h d hd) fit)
  rw [List.length_map] at h1
  unfold listT
  rw [List.length_append, List.length_append, List.length_singleton, List.length_singleton]
  omega
theorem listT_step {l : List DV} {fit : Bool} {k : Nat} {d : DV} (h : l[k]? = some d) (hk : 0 < k) : [91] ++ sepT ((l.take (k + 1)).map fun d => showT d fit) = [91] ++ sepT ((l.take k).map fun d => showT d fit) ++ [44] ++ showT d fit := by
  rw [List.take_add_one, h, Option.toList_some, List.map_append, List.map_singleton, sepT_snoc, if_neg (fun e => by
    have h1 := congrArg List.length e
    have h2 := (List.getElem?_eq_some_iff.1 h).1
    rw [List.length_map, List.length_take, List.length_nil] at h1
    omega)]
  simp
theorem listT_first {l : List DV} {fit : Bool} {d : DV} (h : l[0]? = some d) : [91] ++ sepT ((l.take (0 + 1)).map fun d => showT d fit) = [91] ++ sepT ((l.take 0).map fun d => showT d fit) ++ showT d fit := by
  rw [List.take_add_one, h]
  simp [sepT]
set_option maxRecDepth 100000 in
set_option maxHeartbeats 4000000 in
theorem rlist_any (l : List DV) (fit : Bool) (x : Option Addr) (cc : Nat) (w : World) (hn : l.length ≤ 1000) (hl : ∀ d ∈ l, okShow d) (hL : eDess.at_ w (fun k => k < w.heap.size) l (.slice x l.length cc)) :
    Calls Tryz.prog 58 #[.slice x l.length cc, .bool fit] w fun e w' => e = .returned (.string (str (listT l fit))) ∧ Below w.heap.size w w' := by
  have HL := Lib.hid hL
  have HS := Lib.hid hl
  obtain ⟨N, hN⟩ : ∃ N, N = l.length := ⟨_, rfl⟩
  have HN := Lib.hid hN
  obtain ⟨V, hV⟩ : ∃ V, V = str (listT l fit) := ⟨_, rfl⟩
  have HV := Lib.hid hV
  rw [← hN] at hn ⊢
  rw [← hV]
  clear hN hV hL hl
  go_enter Tryz.func58, Tryz.ntmps58
  go_wp2
  go_loopw [6, 5] (fun i s wr => ∃ (k : Nat) (O : ByteArray), i = .int .i64 (k : Int) ∧ s = .string O ∧ k ≤ N ∧ Hid (O = str ([91] ++ sepT ((l.take k).map fun d => showT d fit))) ∧ Hid (Below w.heap.size w wr)) (fun i _ _ => N - (RowKit.intOf i).toNat)
  case atStart => exact ⟨0, _, rfl, rfl, Nat.zero_le _, Lib.hid rfl, Lib.hid (Below.refl _ _)⟩
  case round =>
    obtain ⟨k, O, rfl, rfl, hk, hO, hB⟩ := hrel
    have oz : O.size ≤ k * 18702 + 1 := by
      have h1 := sepT_len 18701 ((l.take k).map fun d => showT d fit) (fun x hx => by
        obtain ⟨d, hd, rfl⟩ := List.mem_map.1 hx
        exact show_len (HS.out d (List.mem_of_mem_take hd)) fit)
      have h2 : (l.take k).length ≤ k := by rw [List.length_take]; omega
      rw [List.length_map] at h1
      have h3 : (l.take k).length * (18701 + 1) ≤ k * 18702 := Nat.mul_le_mul_right _ h2
      rw [hO.out, str_size, List.length_append, List.length_singleton]
      omega
    by_cases hlt : k < N
    · have g0 : (k : Int) < (N : Int) := by omega
      obtain ⟨d, hd⟩ : ∃ d, l[k]? = some d := ⟨_, List.getElem?_eq_getElem (by rw [← HN.out]; exact hlt)⟩
      have hok := HS.out d (List.mem_of_getElem? hd)
      obtain ⟨hgd, ad, rfl, hax, hcx⟩ := dess_at HL.out hd
      have HC := Lib.hid (show ∀ i u, (encL d)[i]? = some u → wr.cell? ((ad.add (k * 36)).add i) = some u from fun i u hu => by
        rw [World.cell?_of_block (w := w) (w' := wr) (hB.out.block _ (by rw [add_block, add_block]; exact hax))]
        exact hcx i u hu)
      have HI := Lib.hid (show (Tryz.prog.info? 28).map (·.size) = some (encL d).length by rw [encL_len hgd.1]; exact info_D)
      have CS := fun w => rshow_any d fit hok w
      have zP : (str (showT d fit)).size ≤ 18701 := by rw [str_size]; exact show_len hok fit
      obtain ⟨P, hP⟩ : ∃ P, P = str (showT d fit) := ⟨_, rfl⟩
      rw [← hP] at CS zP
      rw [encD_list] at CS
      by_cases hk0 : k = 0
      · subst hk0
        have HX : Hid (O ++ P = str ([91] ++ sepT ((l.take (0 + 1)).map fun d => showT d fit))) := Lib.hid (by rw [listT_first hd, hO.out, hP, str_append])
        clear hP hd hok hgd hax hcx hO
        go_wp2_with (first
          | ((with_reducible show wpList _ _ _ (⟨some 21, .load _ _, _, _, _, _⟩ :: _) _ _); refine wpList_load_at rfl 28 _ rfl (ad.add (0 * 36)) rfl (encL d) _ HC.out Tryz.underlying28 rfl HI.out ?_)
          | (go_at_call 57; (with_reducible refine (CS _).mono ?_); rintro e w2 ⟨rfl, b2⟩; have HB2 := Lib.hid (hB.out.trans (b2.mono hB.out.size)); clear b2))
        go_roundw
        case rel => exact ⟨0 + 1, _, by go_num, rfl, by omega, HX, HB2⟩
        case measure => simp [RowKit.intOf] <;> omega
      · have g2 : (0 : Int) < (k : Int) := by omega
        have HX : Hid (O ++ ⟨#[44]⟩ ++ P = str ([91] ++ sepT ((l.take (k + 1)).map fun d => showT d fit))) := Lib.hid (by rw [listT_step hd (by omega), hO.out, hP, show (⟨#[44]⟩ : ByteArray) = str [44] from rfl, str_append, str_append])
        clear hP hd hok hgd hax hcx hO hk0
        go_wp2_with (first
          | ((with_reducible show wpList _ _ _ (⟨some 21, .load _ _, _, _, _, _⟩ :: _) _ _); refine wpList_load_at rfl 28 _ rfl (ad.add (k * 36)) rfl (encL d) _ HC.out Tryz.underlying28 rfl HI.out ?_)
          | (go_at_call 57; (with_reducible refine (CS _).mono ?_); rintro e w2 ⟨rfl, b2⟩; have HB2 := Lib.hid (hB.out.trans (b2.mono hB.out.size)); clear b2))
        go_roundw
        case rel => exact ⟨k + 1, _, by go_num, rfl, by omega, HX, HB2⟩
        case measure => simp [RowKit.intOf] <;> omega
    · obtain rfl : k = N := by omega
      have HF : Hid (O ++ ⟨#[93]⟩ = V) := Lib.hid (by
        rw [HV.out, hO.out, List.take_of_length_le (by rw [← HN.out]; omega), show (⟨#[93]⟩ : ByteArray) = str [93] from rfl, str_append]
        rfl)
      clear hO
      go_wp2
      go_ret
      exact ⟨by rw [HF.out]; rfl, hB.out⟩
/-- A text, if it is not too long. -/
def shortT (s : Bs) : Bs × Nat := if 65536 < s.length then ([], 3) else (s, 0)
set_option maxRecDepth 100000 in
theorem rshort_any (s : Bs) (w : World) (_hs : s.length ≤ 100000000) :
    Calls Tryz.prog 56 #[.string (str s)] w fun e w' => e = .returned (.tuple #[.string (str (shortT s).1), .int .i64 ((shortT s).2 : Int)]) ∧ Below w.heap.size w w' := by
  have hz := str_size s
  unfold shortT
  by_cases h : 65536 < s.length
  · rw [if_pos h]
    rw [show (str (([] : Bs), 3).1) = ⟨#[]⟩ from rfl]
    generalize str s = T at *
    have g : (65536 : Int) < (s.length : Int) := by omega
    go_enter Tryz.func56, Tryz.ntmps56
    go_wp2
    go_ret2
    exact ⟨rfl, Below.refl _ _⟩
  · rw [if_neg h]
    have e : str (s, 0).1 = str s := rfl
    rw [e]
    generalize str s = T at *
    have g : ¬ (65536 : Int) < (s.length : Int) := by omega
    go_enter Tryz.func56, Tryz.ntmps56
    go_wp2
    go_ret2
    exact ⟨rfl, Below.refl _ _⟩
end Go.Proofs.YtnkencdibniagaaGreatDoor

/- Layer 13, the document's own side: its texts are those that are put (idxA, imgA, manA). -/
namespace Go.Proofs.YtnkencdibniagaaGreatDoor
open Go.RowKit Go.Lib

theorem join_sep : ∀ L : List Bs, joinG [] L = sepT L
  | [] => rfl
  | [x] => by simp [joinG, sepT]
  | x :: y :: l => by
    rw [joinG, join_sep (y :: l), sepT, sepT]
    simp
theorem quo_kMed : quoT kMed = [34, 109, 101, 100, 105, 97, 84, 121, 112, 101, 34] := by rfl
theorem quo_kDig : quoT kDig = [34, 100, 105, 103, 101, 115, 116, 34] := by rfl
theorem quo_kSiz : quoT kSiz = [34, 115, 105, 122, 101, 34] := by rfl
theorem quo_kPla : quoT kPla = [34, 112, 108, 97, 116, 102, 111, 114, 109, 34] := by rfl
theorem quo_kOS : quoT kOS = [34, 111, 115, 34] := by rfl
theorem quo_kArc : quoT kArc = [34, 97, 114, 99, 104, 105, 116, 101, 99, 116, 117, 114, 101, 34] := by rfl
theorem quo_q {s : Bs} (h : validD s = true) : quoT s = qL s := quoT_bytes h
theorem pr_txt {s : Bs} (h : validD s = true) : prG [] (txtJ s) = qL s := by
  unfold txtJ
  rw [prG, if_neg (by decide), if_pos rfl, quo_q h]
theorem pr_num {n : Int} (h : 0 ≤ n) : prG [] (numJ n) = decDigits n.toNat := by
  unfold numJ
  rw [prG, if_pos rfl]
  unfold itoa
  rw [if_neg (by omega)]
theorem pr_obj (l : List (Bs × JV)) : prG [] (objJ l) = [123] ++ sepT (l.map fun p => quoT p.1 ++ [58] ++ prG [] p.2) ++ [125] := by
  unfold objJ
  rw [prG, if_neg (by decide), if_neg (by decide), if_neg (by decide), if_pos rfl, join_sep]
  have : List.zipWith (pairG []) (l.map (·.1)) (prL [] (l.map (·.2))) = l.map fun p => quoT p.1 ++ [58] ++ prG [] p.2 := by
    induction l with
    | nil => rfl
    | cons p l ih =>
      rw [List.map_cons, List.map_cons, prL, List.zipWith_cons_cons, ih, List.map_cons]
      rfl
  rw [this]
  simp
theorem pr_lst (l : List JV) : prG [] (lstJ l) = [91] ++ sepT (l.map (prG [])) ++ [93] := by
  unfold lstJ
  rw [prG, if_neg (by decide), if_neg (by decide), if_pos rfl, join_sep, prL_map]
  simp
theorem pr_full {d : DV} (h : mayD d = true) : prG [] (fullJ d) = showT d true := by
  obtain ⟨h1, h2, h3, h4, h5⟩ := (mayD_iff d).1 h
  unfold fullJ
  rw [pr_obj]
  unfold plaJ fldJ
  simp only [List.cons_append, List.nil_append, List.map_cons, List.map_nil, pr_obj, pr_txt h3, pr_txt (valid_text d.dig), pr_num h1, pr_txt h4, pr_txt h5, quo_kMed, quo_kDig, quo_kSiz, quo_kPla, quo_kOS, quo_kArc, sepT, List.flatMap_cons, List.flatMap_nil, showT, baseT, platT, List.append_assoc, if_pos, List.append_nil]
theorem pr_bare {d : DV} (h : mayD d = true) : prG [] (bareJ d) = showT d false := by
  obtain ⟨h1, h2, h3, h4, h5⟩ := (mayD_iff d).1 h
  unfold bareJ
  rw [pr_obj]
  unfold fldJ
  simp only [List.cons_append, List.nil_append, List.map_cons, List.map_nil, pr_txt h3, pr_txt (valid_text d.dig), pr_num h1, quo_kMed, quo_kDig, quo_kSiz, sepT, List.flatMap_cons, List.flatMap_nil, showT, baseT, List.append_assoc, List.append_nil, Bool.false_eq_true, if_false]
theorem pr_list {l : List DV} (h : l.all mayD = true) (fit : Bool) : prG [] (lstJ (l.map (if fit then fullJ else bareJ))) = listT l fit := by
  rw [pr_lst, listT, List.map_map]
  have : l.map (prG [] ∘ (if fit then fullJ else bareJ)) = l.map fun d => showT d fit := List.map_congr_left (fun d hd => by
    have := List.all_eq_true.1 h d hd
    cases fit
    · exact pr_bare this
    · exact pr_full this)
  rw [this]
theorem print_short {v : JV} (h : may v) (hd : deep v ≤ 16) : printA v = shortT (prG [] v) := by
  rw [printA_may h hd]
  rfl
/-- What stands ahead of an index's list. -/
def preI : Bs := [123, 34, 115, 99, 104, 101, 109, 97, 86, 101, 114, 115, 105, 111, 110, 34, 58, 50, 44, 34, 109, 101, 100, 105, 97, 84, 121, 112, 101, 34, 58, 34] ++ mIdx ++ [34, 44, 34, 109, 97, 110, 105, 102, 101, 115, 116, 115, 34, 58]
theorem pr_idx {l : List DV} (h : l.all mayD = true) : prG [] (idxJ l) = preI ++ listT l true ++ [125] := by
  unfold idxJ
  rw [pr_obj]
  have e := pr_list h true
  rw [if_pos rfl] at e
  have q1 : quoT kVer = [34, 115, 99, 104, 101, 109, 97, 86, 101, 114, 115, 105, 111, 110, 34] := by rfl
  have q2 : quoT kMan = [34, 109, 97, 110, 105, 102, 101, 115, 116, 115, 34] := by rfl
  have q3 : prG [] (numJ 2) = [50] := by rw [pr_num (by decide)]; rw [decDigits, dif_pos (by decide)]; rfl
  have q4 : prG [] (txtJ mIdx) = [34] ++ mIdx ++ [34] := by rw [pr_txt (by decide)]; rfl
  simp only [List.map_cons, List.map_nil, e, q1, q2, q3, q4, quo_kMed, sepT, List.flatMap_cons, List.flatMap_nil, preI, List.cons_append, List.nil_append, List.append_assoc, List.append_nil]
theorem idxA_is (l : List DV) : idxA l = if l.all mayD = false then ([], 2) else if 32 < l.length then ([], 63) else shortT (preI ++ listT l true ++ [125]) := by
  unfold idxA
  by_cases h : l.all mayD = false
  · rw [if_pos h, if_pos h]
  · rw [if_neg h, if_neg h]
    have h2 : l.all mayD = true := by simpa using h
    by_cases h3 : 32 < l.length
    · rw [if_pos h3, if_pos h3]
    · rw [if_neg h3, if_neg h3, print_short (may_idx (List.all_eq_true.1 h2)) (by have := deep_idx l; omega), pr_idx h2]
def preM : Bs := [123, 34, 115, 99, 104, 101, 109, 97, 86, 101, 114, 115, 105, 111, 110, 34, 58, 50, 44, 34, 109, 101, 100, 105, 97, 84, 121, 112, 101, 34, 58, 34] ++ mMan ++ [34, 44, 34, 99, 111, 110, 102, 105, 103, 34, 58]
def midM : Bs := [44, 34, 108, 97, 121, 101, 114, 115, 34, 58]
theorem pr_man {c : DV} {l : List DV} (hc : mayD c = true) (h : l.all mayD = true) : prG [] (manJ c l) = preM ++ showT c false ++ midM ++ listT l false ++ [125] := by
  unfold manJ
  rw [pr_obj]
  have e := pr_list h false
  rw [if_neg (by decide)] at e
  have q1 : quoT kVer = [34, 115, 99, 104, 101, 109, 97, 86, 101, 114, 115, 105, 111, 110, 34] := by rfl
  have q2 : quoT kCfg = [34, 99, 111, 110, 102, 105, 103, 34] := by rfl
  have q5 : quoT kLay = [34, 108, 97, 121, 101, 114, 115, 34] := by rfl
  have q3 : prG [] (numJ 2) = [50] := by rw [pr_num (by decide)]; rw [decDigits, dif_pos (by decide)]; rfl
  have q4 : prG [] (txtJ mMan) = [34] ++ mMan ++ [34] := by rw [pr_txt (by decide)]; rfl
  simp only [List.map_cons, List.map_nil, e, q1, q2, q3, q4, q5, pr_bare hc, quo_kMed, sepT, List.flatMap_cons, List.flatMap_nil, preM, midM, List.cons_append, List.nil_append, List.append_assoc, List.append_nil]
theorem manA_is (c : DV) (l : List DV) : manA c l = if mayD c = false ∨ l.all mayD = false then ([], 2) else if fitsN c l ≠ 0 then ([], fitsN c l) else shortT (preM ++ showT c false ++ midM ++ listT l false ++ [125]) := by
  unfold manA
  by_cases h : mayD c = false ∨ l.all mayD = false
  · rw [if_pos h, if_pos h]
  · rw [if_neg h, if_neg h]
    have h1 : mayD c = true := by simpa using fun e => h (.inl e)
    have h2 : l.all mayD = true := by
      by_cases e : l.all mayD = false
      · exact absurd (.inr e) h
      · simpa using e
    by_cases h3 : fitsN c l ≠ 0
    · rw [if_pos h3, if_pos h3]
    · rw [if_neg h3, if_neg h3, print_short (may_man h1 (List.all_eq_true.1 h2)) (by have := deep_man c l; omega), pr_man h1 h2]
def preA : Bs := [123, 34, 97, 114, 99, 104, 105, 116, 101, 99, 116, 117, 114, 101, 34, 58]
def osA : Bs := [44, 34, 111, 115, 34, 58]
def rootA : Bs := [44, 34, 114, 111, 111, 116, 102, 115, 34, 58, 123, 34, 116, 121, 112, 101, 34, 58, 34, 108, 97, 121, 101, 114, 115, 34, 44, 34, 100, 105, 102, 102, 95, 105, 100, 115, 34, 58, 91]
def imgX (p : Bs × Bs) (l : List Bs) : Bs := preA ++ qL p.2 ++ osA ++ qL p.1 ++ rootA ++ sepT (l.map fun d => qL (textL d)) ++ [93, 125, 125]
theorem pr_img {p : Bs × Bs} {l : List Bs} (h1 : validD p.1 = true) (h2 : validD p.2 = true) : prG [] (imgJ p l) = imgX p l := by
  unfold imgJ
  rw [pr_obj]
  have q1 : quoT kRoo = [34, 114, 111, 111, 116, 102, 115, 34] := by rfl
  have q2 : quoT kTyp = [34, 116, 121, 112, 101, 34] := by rfl
  have q3 : quoT kDif = [34, 100, 105, 102, 102, 95, 105, 100, 115, 34] := by rfl
  have q4 : prG [] (txtJ kLay) = [34, 108, 97, 121, 101, 114, 115, 34] := by rw [pr_txt (by decide)]; rfl
  have e : prG [] (lstJ (l.map fun d => txtJ (textL d))) = [91] ++ sepT (l.map fun d => qL (textL d)) ++ [93] := by
    rw [pr_lst, List.map_map]
    have : l.map (prG [] ∘ fun d => txtJ (textL d)) = l.map fun d => qL (textL d) := List.map_congr_left (fun d _ => pr_txt (valid_text d))
    rw [this]
  simp only [List.map_cons, List.map_nil, pr_obj, e, q1, q2, q3, q4, pr_txt h1, pr_txt h2, quo_kOS, quo_kArc, sepT, List.flatMap_cons, List.flatMap_nil, imgX, preA, osA, rootA, List.cons_append, List.nil_append, List.append_assoc, List.append_nil]
theorem imgA_is (p : Bs × Bs) (l : List Bs) : imgA p l = if (validD p.1 && validD p.2) = false then ([], 2) else if 8 < l.length then ([], 63) else shortT (imgX p l) := by
  unfold imgA
  by_cases h : (validD p.1 && validD p.2) = false
  · rw [if_pos h, if_pos h]
  · rw [if_neg h, if_neg h]
    have h2 : validD p.1 = true ∧ validD p.2 = true := by
      rw [← Bool.and_eq_true]
      simpa using h
    by_cases h3 : 8 < l.length
    · rw [if_pos h3, if_pos h3]
    · rw [if_neg h3, if_neg h3, print_short (may_img h2.1 h2.2) (by have := deep_img p l; omega), pr_img h2.1 h2.2]
end Go.Proofs.YtnkencdibniagaaGreatDoor

/- Layer 13: the document's Kind. -/
namespace Go.Proofs.YtnkencdibniagaaGreatDoor
open Go.RowKit

set_option maxRecDepth 100000 in
set_option maxHeartbeats 4000000 in
theorem rkind_any (s : Bs) (w : World) : Calls Tryz.prog 26 #[.string (str s)] w fun e w' => e = .returned (.int .i64 (kindN s : Int)) ∧ Below w.heap.size w w' := by
  have HA := Lib.hid (fun i (h : i < 8) => kind_at h)
  have HN := Lib.hid (fun h => kind_none (s := s) h)
  go_enter Tryz.func26, Tryz.ntmps26
  go_wp2
  change Code.wp _ _ _ _ (w.alloc (.cells kindV 116))
  have hr := rowC_new w kindV 116
  have hb : Below w.heap.size w (w.alloc (.cells kindV 116)) := (Below.refl _ w).alloc (Nat.le_refl _) _
  generalize w.alloc (.cells kindV 116) = w1 at *
  have HP := Lib.hid (fun (i : Nat) (h : i < 8) => (rowC_cell hr i).trans (kindV_at i h))
  have HB := Lib.hid hb
  clear hr hb
  go_loopw [4] (fun v wr => ∃ k : Nat, k ≤ 8 ∧ v = .int .i64 k ∧ Hid (∀ i, i < k → kindL i ≠ s) ∧ wr = w1) (fun v _ => 8 - (intOf v).toNat)
  case atStart => exact ⟨0, Nat.zero_le _, rfl, Lib.hid (fun i h => absurd h (Nat.not_lt_zero _)), rfl⟩
  case round =>
    obtain ⟨k, hk, rfl, hne, rfl⟩ := hrel
    by_cases hlt : k < 8
    · have g1 : (k : Int) < 8 := by omega
      have e1 := HP.out k hlt
      have q1 : ((str (kindL k)).toList == (str s).toList) = decide (kindL k = s) := eq_texts _ _
      by_cases h : kindL k = s
      · have e0 : Hid (kindN s = 1 + k / 2) := Lib.hid (by rw [← h]; exact HA.out k hlt)
        rw [decide_eq_true h] at q1
        have hd1 : (k : Int).tdiv 2 = ((k / 2 : Nat) : Int) := by rw [Int.tdiv_eq_ediv_of_nonneg (by omega)]; omega
        have hd2 : (k : Int) / 2 = ((k / 2 : Nat) : Int) := by omega
        obtain ⟨r, hr⟩ : ∃ r, r = k / 2 := ⟨_, rfl⟩
        rw [← hr] at hd1 hd2 e0
        have hr8 : r ≤ 4 := by omega
        clear h hr
        generalize kindL k = kl at *
        go_wp2
        go_ret
        rw [e0.out]
        exact ⟨retInt (k := .i64) (show (1 + (r : Int)) = ((1 + r : Nat) : Int) by omega), HB.out⟩
      · have HNE := Lib.hid h
        rw [decide_eq_false h] at q1
        clear h
        have HKL := Lib.hid (rfl : kindL k = kindL k)
        go_wp2
        go_roundw
        case rel => exact ⟨k + 1, by omega, by go_num, Lib.hid (fun i hi => by
          by_cases e : i = k
          · rw [e]; exact HNE.out
          · exact hne.out i (by omega)), by trivial⟩
        case measure => simp [intOf]; omega
    · have e0 : Hid (kindN s = 0) := Lib.hid (HN.out fun i hi => hne.out i (by omega))
      go_wp2
      go_ret
      rw [e0.out]
      exact ⟨rfl, HB.out⟩
end Go.Proofs.YtnkencdibniagaaGreatDoor

