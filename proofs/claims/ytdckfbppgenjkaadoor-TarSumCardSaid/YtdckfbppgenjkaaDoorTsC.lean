/- Layer 15: TarSum walked. -/
import Derived.Test.YtdckfbppgenjkaaDoorTrY
import Derived.Laws.IdiomStrings
namespace Go.Proofs.YtdckfbppgenjkaaDoor
open Go.RowKit Go.WideShapes
attribute [local go_sem] wide_fn round_fn

/-- Bytes that stand in a row. -/
def BytesAt (w : World) (q : Nat) (l : List UInt8) : Prop := q < w.heap.size ∧ ∀ j, j < l.length → w.cell? ⟨q, j, none⟩ = some (byteV (l.getD j 0))
theorem xor_byte (a b : UInt8) : bits .xor .u8 (a.toNat : Int) (b.toNat : Int) = ((a ^^^ b).toNat : Int) := by
  have h1 : (BitVec.ofInt 8 (a.toNat : Int)).toNat = a.toNat := by
    rw [BitVec.ofInt_natCast, BitVec.toNat_ofNat]; exact Nat.mod_eq_of_lt (by have := a.toNat_lt; omega)
  have h2 : (BitVec.ofInt 8 (b.toNat : Int)).toNat = b.toNat := by
    rw [BitVec.ofInt_natCast, BitVec.toNat_ofNat]; exact Nat.mod_eq_of_lt (by have := b.toNat_lt; omega)
  have hx : a.toNat ^^^ b.toNat < 2 ^ 8 := Nat.xor_lt_two_pow (by have := a.toNat_lt; omega) (by have := b.toNat_lt; omega)
  show IntKind.u8.wrap ((BitVec.ofInt 8 (a.toNat : Int) ^^^ BitVec.ofInt 8 (b.toNat : Int)).toNat : Int) = _
  rw [BitVec.toNat_xor, h1, h2, UInt8.toNat_xor]
  simp [IntKind.wrap, IntKind.bits, IntKind.signed]
  omega
/-- '[]byte(s)' with what it lays as one. -/
theorem conv_bytes (l : List UInt8) (w : World) : ∃ cap t fr, (convert 9 29 (.string (str l))).run Tryd.prog w = .ok (.slice (some ⟨w.heap.size, 0, none⟩) l.length cap) (w.drew.alloc (.cells (bytesRow (str l) cap) t (fr, fr + 1))) ∧ fr = (bytesRow (str l) cap).size := by
  refine ⟨grownCap w l.length 0 5, 5, _, ?_, rfl⟩
  have := run_bytes_of_string (P := Tryd.prog) w 9 29 5 (str l) Tryd.underlying9 Tryd.underlying29 Tryd.underlying5
  rw [str_size] at this
  exact this

theorem conv_back {w : World} {q cap n : Nat} {z : List UInt8} (h : BytesAt w q z) (hn : z.length = n) : (convert 29 9 (.slice (some ⟨q, 0, none⟩) n cap)).run Tryd.prog w = .ok (.string (str z)) w := by
  subst hn
  refine run_convert_bytes_back (P := Tryd.prog) w 29 9 5 ⟨q, 0, none⟩ cap z Tryd.underlying29 Tryd.underlying5 Tryd.underlying9 (fun j hj => ?_)
  rw [Go.WideShapes.add_plain, Nat.zero_add, h.2 j hj]
  simp [byteV, List.getD, hj]

/-- A byte of a text is another one: through a row of bytes. -/
theorem flip_world (T : Bs) (k : Nat) (v : UInt8) (hk : k < T.length) (w : World) : ∃ cap W5, (convert 9 29 (.string (str T))).run Tryd.prog w = .ok (.slice (some ⟨w.heap.size, 0, none⟩) T.length cap) W5 ∧
    W5.cell? ⟨w.heap.size, k, none⟩ = some (.int .u8 ((T.getD k 0).toNat : Int)) ∧ W5.frozen? ⟨w.heap.size, k, none⟩ = false ∧
    Below w.heap.size w (W5.setCell ⟨w.heap.size, k, none⟩ (.int .u8 (v.toNat : Int))) ∧
    (convert 29 9 (.slice (some ⟨w.heap.size, 0, none⟩) T.length cap)).run Tryd.prog (W5.setCell ⟨w.heap.size, k, none⟩ (.int .u8 (v.toNat : Int))) = .ok (.string (str (T.set k v))) (W5.setCell ⟨w.heap.size, k, none⟩ (.int .u8 (v.toNat : Int))) := by
  obtain ⟨cap, tt, fr, hcv, hfr⟩ := conv_bytes T w
  refine ⟨cap, _, hcv, ?_⟩
  have hb : Below w.heap.size w (w.drew.alloc (.cells (bytesRow (str T) cap) tt (fr, fr + 1))) := ((Below.refl _ _).drew).alloc (Nat.le_refl _) _
  have hat : BytesAt (w.drew.alloc (.cells (bytesRow (str T) cap) tt (fr, fr + 1))) w.heap.size T := by
    refine ⟨by simp, fun j hj => ?_⟩
    have := World.cell?_alloc_mark w.drew (bytesRow (str T) cap) tt (fr, fr + 1) j
    refine Eq.trans this ?_
    unfold bytesRow str byteV
    rw [Array.getElem?_append_left (by simpa using hj)]
    simp [List.getD, hj]
  have hc := hat.2 k hk
  refine ⟨hc, ?_, hb.setCell (p := ⟨w.heap.size, k, none⟩) (Nat.le_refl _) _, conv_back ⟨?_, fun j hj => ?_⟩ (by rw [List.length_set])⟩
  · refine Eq.trans (World.frozen?_alloc_mark w.drew (bytesRow (str T) cap) tt fr (fr + 1) k) ?_
    rw [hfr]
    have : T.length ≤ (bytesRow (str T) cap).size := by unfold bytesRow str; simp
    simp; omega
  · exact Nat.lt_of_lt_of_le hat.1 ((Below.refl w.heap.size _).setCell (p := ⟨w.heap.size, k, none⟩) (Nat.le_refl _) _).size
  · rw [List.length_set] at hj
    by_cases e : j = k
    · subst e
      rw [World.cell?_setCell_same _ _ _ hc]
      simp [List.getD, hj, byteV]
    · rw [World.cell?_setCell_other _ _ _ _ (by simp <;> omega), hat.2 j hj]
      simp [List.getD, List.getElem?_set_ne (Ne.symm e)]
def oddE (x : Ent) : Bool := decide (0 < x.data.length) || decide (100 < x.name.length) || decide (100 < x.to.length)
theorem odd_no {x : Ent} (h : oddE x = false) : x.data = [] ∧ x.name.length ≤ 100 ∧ x.to.length ≤ 100 := by
  unfold oddE at h
  simp only [Bool.or_eq_false_iff, decide_eq_false_iff_not] at h
  exact ⟨List.eq_nil_of_length_eq_zero (by omega), by omega, by omega⟩

set_option maxRecDepth 100000 in
set_option maxHeartbeats 32000000 in
theorem tsum_any (l : List Ent) (ad : Option Addr) (c at_ : Nat) (b : UInt8) (hat : at_ < 65536) (hlen : l.length ≤ maxLen) (w : World) (hE : EnvT w) (h : EntsAt w ad l) :
    Calls Tryd.prog 4 #[.slice ad l.length c, .int .u16 (at_ : Int), .int .u8 (b.toNat : Int)] w fun e w' => e = .returned (.bool true) ∧ Below w.heap.size w w' := by
  have CG := great_any l ad c 6 hlen w h
  rw [show ((6 : Nat) : Int) = 6 from rfl] at CG
  have HP := packed_any w hE
  by_cases hq : greatB l 6 = true ∨ b.toNat = 0 ∨ l.length = 0
  · obtain ⟨G, hG⟩ : ∃ G, G = greatB l 6 := ⟨_, rfl⟩
    obtain ⟨N, hN⟩ : ∃ N, N = l.length := ⟨_, rfl⟩
    obtain ⟨bn, hbn⟩ : ∃ bn, bn = b.toNat := ⟨_, rfl⟩
    rw [← hG, ← hN] at CG
    rw [← hG, ← hN, ← hbn] at hq
    rw [← hN, ← hbn]
    rw [← hN] at hlen
    unfold maxLen at hlen
    clear hG hN hbn
    rcases hq with rfl | rfl | rfl
    · go_enter Tryd.func4, Tryd.ntmps4
      go_wp2_with (first
        | (go_at_call 6; ((with_reducible refine CG.mono ?_); rintro e w1 ⟨rfl, rfl⟩))
        | (go_at_call 7; ((with_reducible refine HP.mono ?_); rintro e w2 ⟨rfl, hb⟩)))
      go_ret
      exact ⟨rfl, hb⟩
    · cases G <;>
      · go_enter Tryd.func4, Tryd.ntmps4
        go_wp2_with (first
          | (go_at_call 6; ((with_reducible refine CG.mono ?_); rintro e w1 ⟨rfl, rfl⟩))
          | (go_at_call 7; ((with_reducible refine HP.mono ?_); rintro e w2 ⟨rfl, hb⟩)))
        go_ret
        exact ⟨rfl, hb⟩
    · have hbb : ((bn : Int) == 0) = true ∨ ((bn : Int) == 0) = false := by cases ((bn : Int) == 0) <;> simp
      cases G <;> rcases hbb with hbb | hbb <;>
      · go_enter Tryd.func4, Tryd.ntmps4
        go_wp2_with (first
          | (go_at_call 6; ((with_reducible refine CG.mono ?_); rintro e w1 ⟨rfl, rfl⟩))
          | (go_at_call 7; ((with_reducible refine HP.mono ?_); rintro e w2 ⟨rfl, hb⟩)))
        go_ret
        exact ⟨rfl, hb⟩
  obtain ⟨hg, hb0, hl0⟩ : greatB l 6 = false ∧ b.toNat ≠ 0 ∧ l.length ≠ 0 := by
    refine ⟨?_, fun e => hq (.inr (.inl e)), fun e => hq (.inr (.inr e))⟩
    cases hgg : greatB l 6 with
    | true => exact absurd (.inl hgg) hq
    | false => rfl
  clear hq
  rw [hg] at CG
  obtain ⟨hl6, hsm⟩ := great_no hg
  have hd : ∀ x ∈ l, x.data.length ≤ 1000000 := fun x hx => by have := hsm x hx; omega
  have HCW := Lib.hid (writes_any l ad c hd hlen w hE h)
  have HE := Lib.hid hE
  have HENT := Lib.hid h
  have HB : Hid (b ≠ 0) := Lib.hid fun e => hb0 (by rw [e]; rfl)
  have HD := Lib.hid hd
  obtain ⟨N, hN⟩ : ∃ N, N = l.length := ⟨_, rfl⟩
  obtain ⟨bn, hbn⟩ : ∃ bn, bn = b.toNat := ⟨_, rfl⟩
  have HBN := Lib.hid hbn
  have hbl : bn < 256 := by rw [hbn]; exact b.toNat_lt
  rw [← hN] at CG HCW hl6 hl0 ⊢
  rw [← hbn] at hb0 ⊢
  have HN := Lib.hid hN
  have e3 : ((bn : Int) == 0) = false := by rw [beq_eq_false_iff_ne]; omega
  have e4 : ((N : Int) == 0) = false := by rw [beq_eq_false_iff_ne]; omega
  have HPK := Lib.hid HP
  clear hE h hg hsm hd hlen hN hbn HP
  go_enter Tryd.func4, Tryd.ntmps4
  go_wp2_with (first
    | (go_at_call 6; ((with_reducible refine CG.mono ?_); rintro e w1 ⟨rfl, rfl⟩)))
  clear CG
  go_loop [7] (fun i => ∃ k : Nat, k ≤ N ∧ i = .int .i64 k ∧ Hid ((l.take k).any oddE = false)) (fun i => N - (intOf i).toNat)
  case atStart => exact ⟨0, Nat.zero_le _, rfl, Lib.hid rfl⟩
  case round =>
    obtain ⟨k, hk, rfl, hF⟩ := hrel
    by_cases hlt : k < N
    · have hkl : k < l.length := by rw [← HN.out]; exact hlt
      obtain ⟨a, rfl, hab, hcell⟩ := HENT.out k l[k] (List.getElem?_eq_getElem hkl)
      have HTK : Hid (l.take (k + 1) = l.take k ++ [l[k]]) := Lib.hid (List.take_succ_eq_append_getElem hkl)
      generalize l[k] = x at *
      have c1 : w.cell? ⟨(a.add (k * 5)).block, (a.add (k * 5)).off + 1, none⟩ = some (.string (str x.name)) := hcell 1 _ rfl
      have c2 : w.cell? ⟨(a.add (k * 5)).block, (a.add (k * 5)).off + 2, none⟩ = some (.string (str x.to)) := hcell 2 _ rfl
      have c4 : w.cell? ⟨(a.add (k * 5)).block, (a.add (k * 5)).off + 4, none⟩ = some (.string (str x.data)) := hcell 4 _ rfl
      have z1 := str_size x.name
      have z2 := str_size x.to
      have z4 := str_size x.data
      have g1 : (k : Int) < (N : Int) := by omega
      have HBE : Hid (oddE x = (decide (0 < x.data.length) || decide (100 < x.name.length) || decide (100 < x.to.length))) := Lib.hid rfl
      generalize str x.name = S1 at *
      generalize str x.to = S2 at *
      generalize str x.data = S4 at *
      have HNX : Hid (oddE x = false → (l.take (k + 1)).any oddE = false) := Lib.hid fun hb => by rw [HTK.out, List.any_append, hF.out]; simp [hb]
      clear hcell hab
      by_cases h4 : 0 < x.data.length
      · have i4 : 0 < S4.size := by omega
        clear HBE h4 HNX z1 z2 z4
        go_wp2_with (first
          | (go_at_call 7; ((with_reducible refine HPK.out.mono ?_); rintro e w2 ⟨rfl, hb⟩)))
        go_ret
        exact ⟨rfl, hb⟩
      · have i4 : S4.size = 0 := by omega
        by_cases h1 : 100 < x.name.length
        · have i1 : (100 : Int) < (S1.size : Int) := by omega
          clear HBE h4 h1 HNX z1 z2 z4
          go_wp2_with (first
            | (go_at_call 7; ((with_reducible refine HPK.out.mono ?_); rintro e w2 ⟨rfl, hb⟩)))
          go_ret
          exact ⟨rfl, hb⟩
        · have i1 : ¬ (100 : Int) < (S1.size : Int) := by omega
          by_cases h2 : 100 < x.to.length
          · have i2 : (100 : Int) < (S2.size : Int) := by omega
            clear HBE h4 h1 h2 HNX z1 z2 z4
            go_wp2_with (first
              | (go_at_call 7; ((with_reducible refine HPK.out.mono ?_); rintro e w2 ⟨rfl, hb⟩)))
            go_ret
            exact ⟨rfl, hb⟩
          · have i2 : ¬ (100 : Int) < (S2.size : Int) := by omega
            have HR := Lib.hid (HNX.out (by rw [HBE.out, decide_eq_false h4, decide_eq_false h1, decide_eq_false h2]; rfl))
            clear HBE h1 h2 h4 HNX z1 z2 z4
            go_wp2
            go_round
            case rel => exact ⟨k + 1, by omega, by go_num, HR⟩
            case measure => simp [intOf]; omega
    · obtain rfl : k = N := by omega
      have HF : Hid (l.any oddE = false) := Lib.hid (by
        have := hF.out
        rwa [HN.out, List.take_length] at this)
      clear hF HPK
      cases hall : l.all mayE with
      | false =>
        have HCN := HCW.out
        rw [write_no (by have := HN.out; omega) hall] at HCN
        dsimp only at HCN
        rw [show ((2 : Nat) : Int) = 2 from rfl] at HCN
        clear HCW hall
        go_upto_region 9 with (first
          | (go_at_call 8; ((with_reducible refine HCN.mono ?_); rintro e w2 ⟨rfl, hb⟩)))
        have HP := packed_any w2 (HE.out.below hb)
        go_wp2_with (first
          | (go_at_call 7; ((with_reducible refine HP.mono ?_); rintro e w3 ⟨rfl, hb3⟩)))
        go_ret
        exact ⟨rfl, hb.trans (hb3.mono hb.size)⟩
      | true =>
        have hP := all_entP hall HD.out
        have hBare : ∀ x ∈ l, BareP x := fun x hx => by
          have := odd_no (x := x) (by
            have h1 := List.any_eq_false.1 HF.out x hx
            simpa using h1)
          exact ⟨hP x hx, this.1, this.2.1, this.2.2⟩
        have HCN := HCW.out
        rw [write_ok (by have := HN.out; omega) hall] at HCN
        dsimp only at HCN
        have hTl : (encL l ++ zerosL 1024).length = 512 * k + 1024 := by rw [List.length_append, bare_len l hBare, zerosL_len, HN.out]
        obtain ⟨j, hj⟩ : ∃ j, j = at_ % (512 * k) := ⟨_, rfl⟩
        have hjl : j < 512 * k := by rw [hj]; exact Nat.mod_lt _ (by omega)
        have hfl := read_flip l [] j b hBare (by have := HN.out; simp; omega) (by rw [← HN.out]; exact hjl) HB.out
        generalize encL l ++ zerosL 1024 = T at *
        have CR := read_any (T.set j (T.getD j 0 ^^^ b)) (by rw [List.length_set, hTl]; omega)
        obtain ⟨m, hm⟩ : ∃ m, m = (readR (T.set j (T.getD j 0 ^^^ b)) none []).1 := ⟨_, rfl⟩
        rw [← hm] at CR hfl
        have HRD := Lib.hid CR
        have hz : (str T).size = 512 * k + 1024 := by rw [str_size, hTl]
        have ek : (at_ : Int) % (512 * (k : Int)) = (j : Int) := by rw [hj]; push_cast; rfl
        have hor : m = 10 ∨ (148 ≤ (j : Int) % 512 ∧ (j : Int) % 512 < 156 ∧ m = 0) := by
          rcases hfl with h | ⟨h1, h2⟩
          · exact .inl h
          · unfold inSum at h1
            rw [Bool.and_eq_true, decide_eq_true_eq, decide_eq_true_eq] at h1
            exact .inr ⟨by omega, by omega, h2⟩
        clear HCW hall hP hBare HF HD HENT CR hfl hm hj
        go_upto_region 13 with (first
          | (go_at_call 8; ((with_reducible refine HCN.mono ?_); rintro e w2 ⟨rfl, hb⟩; have B2 := Lib.hid hb; clear hb)))
        clear HCN
        obtain ⟨cap, W5, hcv, hc5, hf5, hb6, hcb⟩ := flip_world T j (T.getD j 0 ^^^ b) (by rw [hTl]; omega) w2
        have hxo := xor_byte (T.getD j 0) b
        rw [← HBN.out] at hxo
        rw [hTl] at hcv hcb
        have B6 := Lib.hid (B2.out.trans (hb6.mono B2.out.size))
        have HBN2 := HBN.out
        generalize T.getD j 0 = u at *
        generalize u ^^^ b = v at *
        have q1 : (0 : Int) ≤ (j : Int) := by omega
        have q2 : (j : Int) < 512 * (k : Int) + 1024 := by omega
        have q3 : (0 : Int) < 512 * (k : Int) := by omega
        have q4 : j < 512 * k + 1024 := by omega
        clear hb6 hjl hTl HB HBN HBN2
        go_upto_region 16 with (fail)
        generalize W5.setCell ⟨w2.heap.size, j, none⟩ (.int .u8 (v.toNat : Int)) = W6 at *
        clear hc5 hf5 hcv hxo
        go_upto_region 17 with (first
          | (go_at_call 9; ((with_reducible refine (HRD.out _).mono ?_); rintro e w7 ⟨vr, rfl, ho, b7⟩; clear ho; have B7 := Lib.hid (B6.out.trans (b7.mono B6.out.size)); clear b7 B6)))
        clear HRD hcb
        have HP := packed_any w7 (HE.out.below B7.out)
        rcases hor with rfl | ⟨s1, s2, rfl⟩
        · by_cases s1 : 148 ≤ (j : Int) % 512
          · by_cases s2 : (j : Int) % 512 < 156
            · go_wp2_with (first
                | (go_at_call 7; ((with_reducible refine HP.mono ?_); rintro e w8 ⟨rfl, b8⟩)))
              go_ret
              exact ⟨rfl, B7.out.trans (b8.mono B7.out.size)⟩
            · go_wp2_with (first
                | (go_at_call 7; ((with_reducible refine HP.mono ?_); rintro e w8 ⟨rfl, b8⟩)))
              go_ret
              exact ⟨rfl, B7.out.trans (b8.mono B7.out.size)⟩
          · go_wp2_with (first
              | (go_at_call 7; ((with_reducible refine HP.mono ?_); rintro e w8 ⟨rfl, b8⟩)))
            go_ret
            exact ⟨rfl, B7.out.trans (b8.mono B7.out.size)⟩
        · go_wp2_with (first
            | (go_at_call 7; ((with_reducible refine HP.mono ?_); rintro e w8 ⟨rfl, b8⟩)))
          go_ret
          exact ⟨rfl, B7.out.trans (b8.mono B7.out.size)⟩
end Go.Proofs.YtdckfbppgenjkaaDoor
