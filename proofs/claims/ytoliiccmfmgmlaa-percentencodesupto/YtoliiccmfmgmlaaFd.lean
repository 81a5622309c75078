/-
  The contracts of a Decoder: Feed lets out what is sure of what was held and the piece, and holds the rest; End lets out what is held; Held tells it; the document's Held. Condition: what is held and the piece are together no longer than a text that comes in can be.
-/
import Derived.Test.YtoliiccmfmgmlaaDc
import Derived.Test.YtoliiccmfmgmlaaRdc
import Derived.Test.YtoliiccmfmgmlaaFm
namespace Go.Proofs.Ytoliiccmfmgmlaa
open Go.RowKit
set_option maxRecDepth 100000 in
set_option maxHeartbeats 1000000 in
theorem digit_any (b : Nat) (w : World) (hb : b < 256) : Calls Try.prog 42 #[.int .u8 b, .int .i64 16] w fun e w' => e = .returned (.int .i64 (dig b)) ∧ w' = w := by
  have k0 := isBase16 w
  have k1 := worth_any b w hb
  by_cases c : hx b < 16
  · rw [dig_yes b c]
    obtain ⟨X, hX⟩ : ∃ X, hx b = X := ⟨_, rfl⟩
    rw [hX] at k1 c ⊢
    have ci : (X : Int) < 16 := by omega
    go_enter Try.func42, Try.ntmps42
    go_wp2_with (first | (go_at_call 47; refine k0.mono ?_; rintro e w' ⟨rfl, rfl⟩) | (go_at_call 48; refine k1.mono ?_; rintro e w' ⟨rfl, rfl⟩))
    go_ret
    exact ⟨rfl, rfl⟩
  · rw [dig_no b c]
    obtain ⟨X, hX⟩ : ∃ X, hx b = X := ⟨_, rfl⟩
    rw [hX] at k1 c
    have ci : ¬ (X : Int) < 16 := by omega
    go_enter Try.func42, Try.ntmps42
    go_wp2_with (first | (go_at_call 47; refine k0.mono ?_; rintro e w' ⟨rfl, rfl⟩) | (go_at_call 48; refine k1.mono ?_; rintro e w' ⟨rfl, rfl⟩))
    go_ret
    exact ⟨rfl, rfl⟩
theorem ret_str {a b : ByteArray} (h : a = b) : Ending.returned (.string a) = .returned (.string b) := by rw [h]
theorem hd_none (s : ByteArray) (h : uns s = 0) : hd s = ⟨#[]⟩ := by
  have := hd_size s
  refine ext_byt _ _ (by rw [this, h]; rfl) fun j hj => by omega
/-- The ways that a text can end. -/
theorem ends (s : ByteArray) : (s.size = 0 ∧ uns s = 0) ∨ (1 ≤ s.size ∧ byt s (s.size - 1) = 37 ∧ uns s = 1) ∨ (s.size = 1 ∧ ¬ byt s (s.size - 1) = 37 ∧ uns s = 0) ∨
    (2 ≤ s.size ∧ ¬ byt s (s.size - 1) = 37 ∧ ((byt s (s.size - 2) = 37 ∧ hx (byt s (s.size - 1)) < 16 ∧ uns s = 2) ∨ (byt s (s.size - 2) = 37 ∧ ¬ hx (byt s (s.size - 1)) < 16 ∧ uns s = 0) ∨ (¬ byt s (s.size - 2) = 37 ∧ uns s = 0))) := by
  rw [uns_is]
  unfold unsN
  by_cases h0 : s.size = 0
  · left; rw [h0]; simp
  · by_cases h1 : byt s (s.size - 1) = 37
    · right; left; exact ⟨by omega, h1, if_pos ⟨by omega, h1⟩⟩
    · rw [if_neg (fun q => h1 q.2)]
      by_cases h2 : s.size = 1
      · right; right; left
        exact ⟨h2, h1, if_neg (by omega)⟩
      · right; right; right
        refine ⟨by omega, h1, ?_⟩
        by_cases h3 : byt s (s.size - 2) = 37
        · by_cases h4 : hx (byt s (s.size - 1)) < 16
          · exact .inl ⟨h3, h4, if_pos ⟨by omega, h3, h4⟩⟩
          · exact .inr (.inl ⟨h3, h4, if_neg (fun q => h4 q.2.2)⟩)
        · exact .inr (.inr ⟨h3, if_neg (fun q => h3 q.2.1)⟩)
set_option maxRecDepth 100000 in
set_option maxHeartbeats 4000000 in
theorem unsure_any (s : ByteArray) (w : World) (hs : s.size ≤ 140737488351232) : Calls Try.prog 35 #[.string s] w fun e w' => e = .returned (.int .i64 (uns s)) ∧ w' = w := by
  rcases ends s with ⟨h0, e⟩ | ⟨h0, h1, e⟩ | ⟨h0, h1, e⟩ | ⟨h0, h1, h2⟩
  · rw [e]
    have d0 : decide ((1 : Int) ≤ (s.size : Int)) = false := decide_eq_false (by omega)
    have d1 : decide ((2 : Int) ≤ (s.size : Int)) = false := decide_eq_false (by omega)
    clear e h0
    go_enter Try.func35, Try.ntmps35
    go_wp2
    go_ret
    exact ⟨rfl, rfl⟩
  · rw [e]
    have d0 : decide ((1 : Int) ≤ (s.size : Int)) = true := decide_eq_true (by omega)
    have g0 : (0 : Int) ≤ (s.size : Int) - 1 := by omega
    have g1 : (s.size : Int) - 1 < (s.size : Int) := by omega
    have t1 : ((s.size : Int) - 1).toNat = s.size - 1 := by omega
    have q0 : (s[s.size - 1]'(by omega)).toNat = 37 := (byt_eq s (s.size - 1) (by omega)).trans h1
    clear e h1
    go_enter Try.func35, Try.ntmps35
    go_wp2
    go_ret
    exact ⟨rfl, rfl⟩
  · rw [e]
    have d0 : decide ((1 : Int) ≤ (s.size : Int)) = true := decide_eq_true (by omega)
    have d1 : decide ((2 : Int) ≤ (s.size : Int)) = false := decide_eq_false (by omega)
    have q0 : (s[0]'(by omega)).toNat = byt s 0 := byt_eq s 0 (by omega)
    rw [show s.size - 1 = 0 by omega] at h1
    obtain ⟨B1, eB1⟩ : ∃ B, byt s 0 = B := ⟨_, rfl⟩
    rw [eB1] at q0 h1
    have c0 : ((B1 : Int) == 37) = false := beq_false_of_ne (by omega)
    clear e h1 eB1
    go_enter Try.func35, Try.ntmps35
    go_wp2
    go_ret
    exact ⟨rfl, rfl⟩
  · have d0 : decide ((1 : Int) ≤ (s.size : Int)) = true := decide_eq_true (by omega)
    have d1 : decide ((2 : Int) ≤ (s.size : Int)) = true := decide_eq_true (by omega)
    have g0 : (0 : Int) ≤ (s.size : Int) - 1 := by omega
    have g1 : (s.size : Int) - 1 < (s.size : Int) := by omega
    have g2 : (0 : Int) ≤ (s.size : Int) - 2 := by omega
    have g3 : (s.size : Int) - 2 < (s.size : Int) := by omega
    have t1 : ((s.size : Int) - 1).toNat = s.size - 1 := by omega
    have t2 : ((s.size : Int) - 2).toNat = s.size - 2 := by omega
    have q0 : (s[s.size - 1]'(by omega)).toNat = byt s (s.size - 1) := byt_eq s (s.size - 1) (by omega)
    have q1 : (s[s.size - 2]'(by omega)).toNat = byt s (s.size - 2) := byt_eq s (s.size - 2) (by omega)
    have l1 := byt_lt s (s.size - 1)
    obtain ⟨B1, eB1⟩ : ∃ B, byt s (s.size - 1) = B := ⟨_, rfl⟩
    obtain ⟨B2, eB2⟩ : ∃ B, byt s (s.size - 2) = B := ⟨_, rfl⟩
    rw [eB1] at q0 h1 h2 l1; rw [eB2] at q1 h2
    have c0 : ((B1 : Int) == 37) = false := beq_false_of_ne (by omega)
    clear h1 eB1 eB2
    rcases h2 with ⟨h2, h3, e⟩ | ⟨h2, h3, e⟩ | ⟨h2, e⟩
    · rw [e]
      have gd := dig_yes B1 h3
      obtain ⟨X, hX⟩ : ∃ X, hx B1 = X := ⟨_, rfl⟩
      rw [hX] at gd
      have d3 : decide ((0 : Int) ≤ (X : Int)) = true := decide_eq_true (by omega)
      rw [h2] at q1
      clear e h3 hX
      go_enter Try.func35, Try.ntmps35
      go_wp2_with (go_at_call 42; refine (digit_any _ _ (by assumption)).mono ?_; rintro e w' ⟨rfl, rfl⟩)
      go_ret
      exact ⟨rfl, rfl⟩
    · rw [e]
      have gd := dig_no B1 h3
      rw [h2] at q1
      clear e h3
      go_enter Try.func35, Try.ntmps35
      go_wp2_with (go_at_call 42; refine (digit_any _ _ (by assumption)).mono ?_; rintro e w' ⟨rfl, rfl⟩)
      go_ret
      exact ⟨rfl, rfl⟩
    · rw [e]
      have c2 : ((B2 : Int) == 37) = false := beq_false_of_ne (by omega)
      clear e h2
      go_enter Try.func35, Try.ntmps35
      go_wp2
      go_ret
      exact ⟨rfl, rfl⟩
set_option maxRecDepth 100000 in
set_option maxHeartbeats 4000000 in
theorem rheld_any (s : ByteArray) (w : World) (hs : s.size ≤ 140737488351232) : Calls Try.prog 23 #[.string s] w fun e w' => e = .returned (.string (hd s)) ∧ w' = w := by
  rcases ends s with ⟨h0, e⟩ | ⟨h0, h1, e⟩ | ⟨h0, h1, e⟩ | ⟨h0, h1, h2⟩
  · have E : Hid (hd s = ⟨#[]⟩) := hd_none s e
    have d0 : decide ((0 : Int) < (s.size : Int)) = false := decide_eq_false (by omega)
    have d1 : decide ((1 : Int) < (s.size : Int)) = false := decide_eq_false (by omega)
    clear e
    go_enter Try.func23, Try.ntmps23
    go_wp2
    go_ret
    exact ⟨ret_str E.out.symm, rfl⟩
  · have E : Hid (hd s = s.extract (s.size - 1) s.size) := by unfold Hid hd; rw [e]
    have d0 : decide ((0 : Int) < (s.size : Int)) = true := decide_eq_true (by omega)
    have g0 : (0 : Int) ≤ (s.size : Int) - 1 := by omega
    have g1 : (s.size : Int) - 1 < (s.size : Int) := by omega
    have t1 : ((s.size : Int) - 1).toNat = s.size - 1 := by omega
    have q0 : (s[s.size - 1]'(by omega)).toNat = 37 := (byt_eq s (s.size - 1) (by omega)).trans h1
    clear e h1
    go_enter Try.func23, Try.ntmps23
    go_wp2
    go_ret
    exact ⟨ret_str E.out.symm, rfl⟩
  · have E : Hid (hd s = ⟨#[]⟩) := hd_none s e
    have d0 : decide ((0 : Int) < (s.size : Int)) = true := decide_eq_true (by omega)
    have d1 : decide ((1 : Int) < (s.size : Int)) = false := decide_eq_false (by omega)
    have q0 : (s[0]'(by omega)).toNat = byt s 0 := byt_eq s 0 (by omega)
    rw [show s.size - 1 = 0 by omega] at h1
    obtain ⟨B1, eB1⟩ : ∃ B, byt s 0 = B := ⟨_, rfl⟩
    rw [eB1] at q0 h1
    have c0 : ((B1 : Int) == 37) = false := beq_false_of_ne (by omega)
    clear e h1 eB1
    go_enter Try.func23, Try.ntmps23
    go_wp2
    go_ret
    exact ⟨ret_str E.out.symm, rfl⟩
  · have d0 : decide ((0 : Int) < (s.size : Int)) = true := decide_eq_true (by omega)
    have d1 : decide ((1 : Int) < (s.size : Int)) = true := decide_eq_true (by omega)
    have g0 : (0 : Int) ≤ (s.size : Int) - 1 := by omega
    have g1 : (s.size : Int) - 1 < (s.size : Int) := by omega
    have g2 : (0 : Int) ≤ (s.size : Int) - 2 := by omega
    have g3 : (s.size : Int) - 2 < (s.size : Int) := by omega
    have t1 : ((s.size : Int) - 1).toNat = s.size - 1 := by omega
    have t2 : ((s.size : Int) - 2).toNat = s.size - 2 := by omega
    have q0 : (s[s.size - 1]'(by omega)).toNat = byt s (s.size - 1) := byt_eq s (s.size - 1) (by omega)
    have q1 : (s[s.size - 2]'(by omega)).toNat = byt s (s.size - 2) := byt_eq s (s.size - 2) (by omega)
    have l1 := byt_lt s (s.size - 1)
    obtain ⟨B1, eB1⟩ : ∃ B, byt s (s.size - 1) = B := ⟨_, rfl⟩
    obtain ⟨B2, eB2⟩ : ∃ B, byt s (s.size - 2) = B := ⟨_, rfl⟩
    rw [eB1] at q0 h1 h2 l1; rw [eB2] at q1 h2
    have c0 : ((B1 : Int) == 37) = false := beq_false_of_ne (by omega)
    clear h1 eB1 eB2
    rcases h2 with ⟨h2, h3, e⟩ | ⟨h2, h3, e⟩ | ⟨h2, e⟩
    · have E : Hid (hd s = s.extract (s.size - 2) s.size) := by unfold Hid hd; rw [e]
      have gd := dig_yes B1 h3
      obtain ⟨X, hX⟩ : ∃ X, hx B1 = X := ⟨_, rfl⟩
      rw [hX] at gd
      have d3 : decide ((0 : Int) ≤ (X : Int)) = true := decide_eq_true (by omega)
      rw [h2] at q1
      clear e h3 hX
      go_enter Try.func23, Try.ntmps23
      go_wp2_with (go_at_call 37; refine (rdigit_any _ _ (by assumption)).mono ?_; rintro e w' ⟨rfl, rfl⟩)
      go_ret
      exact ⟨ret_str E.out.symm, rfl⟩
    · have E : Hid (hd s = ⟨#[]⟩) := hd_none s e
      have gd := dig_no B1 h3
      rw [h2] at q1
      clear e h3
      go_enter Try.func23, Try.ntmps23
      go_wp2_with (go_at_call 37; refine (rdigit_any _ _ (by assumption)).mono ?_; rintro e w' ⟨rfl, rfl⟩)
      go_ret
      exact ⟨ret_str E.out.symm, rfl⟩
    · have E : Hid (hd s = ⟨#[]⟩) := hd_none s e
      have c2 : ((B2 : Int) == 37) = false := beq_false_of_ne (by omega)
      clear e h2
      go_enter Try.func23, Try.ntmps23
      go_wp2
      go_ret
      exact ⟨ret_str E.out.symm, rfl⟩
theorem clone_any (s : ByteArray) (w : World) (hs : s.size ≤ 140737488351232) : Calls Try.prog 36 #[.string s] w fun e w' => e = .returned (.string s) ∧ Below w.heap.size w w' := by
  have k := Try.stringslite_Clone s w (by omega)
  go_enter Try.func36, Try.ntmps36
  go_wp2_with (go_at_call 43; refine k.mono ?_; rintro e w' ⟨rfl, hb⟩)
  go_ret
  exact ⟨rfl, hb⟩
theorem newDecoder_any (w : World) : Calls Try.prog 19 #[] w fun e w' => e = .returned (.pointer (some ⟨w.heap.size, 0, none⟩)) ∧ w' = w.alloc (.cells #[.string ⟨#[]⟩] 71) := by
  go_enter Try.func19, Try.ntmps19
  go_wp2
  go_ret
  exact ⟨rfl, rfl⟩
/-- A decoder that holds h lies in block b. -/
def DecAt (w : World) (b : Nat) (h : ByteArray) : Prop := w.heap[b]? = some (.cells #[.string h] 71 (0, 0))
theorem DecAt.lt {w : World} {b : Nat} {h : ByteArray} (d : DecAt w b h) : b < w.heap.size := (Array.getElem?_eq_some_iff.1 d).1
theorem DecAt.cell {w : World} {b : Nat} {h : ByteArray} (d : DecAt w b h) : w.cell? ⟨b, 0, none⟩ = some (.string h) := by simp [World.cell?, show w.heap[b]? = _ from d]
theorem DecAt.frozen {w : World} {b : Nat} {h : ByteArray} (d : DecAt w b h) : w.frozen? ⟨b, 0, none⟩ = false := by simp [World.frozen?, show w.heap[b]? = _ from d]
theorem DecAt.set {w : World} {b : Nat} {h : ByteArray} (d : DecAt w b h) (h' : ByteArray) : DecAt (w.setCell ⟨b, 0, none⟩ (.string h')) b h' := by
  unfold DecAt
  have := show w.heap[b]? = _ from d
  simp [World.setCell, Array.getElem?_modify, this]
theorem DecAt.below {w w' : World} {b : Nat} {h : ByteArray} (d : DecAt w b h) (hb : Below w.heap.size w w') : DecAt w' b h := (hb.block b d.lt).trans d
theorem grown_set (w : World) (b : Nat) (v : Value) : w.grownBy (w.setCell ⟨b, 0, none⟩ v) (some b) := ⟨rfl, rfl, rfl, by simp [World.setCell], fun k _ hk => Below.heap_setCell _ _ _ _ (fun e => hk (by simp [e]))⟩
theorem grown_below {w w' : World} {row : Option Nat} (h : Below w.heap.size w w') : w.grownBy w' row := ⟨h.os, h.tape, h.output, h.size, fun k hk _ => h.block k hk⟩
theorem grown_trans {a b c : World} {row : Option Nat} (h : a.grownBy b row) (k : b.grownBy c row) : a.grownBy c row := ⟨k.os.trans h.os, k.tape.trans h.tape, k.output.trans h.output, Nat.le_trans h.size k.size, fun j hj hn => (k.block j (Nat.lt_of_lt_of_le hj h.size) hn).trans (h.block j hj hn)⟩
theorem end_any (b : Nat) (h : ByteArray) (w : World) (d : DecAt w b h) : Calls Try.prog 21 #[.pointer (some ⟨b, 0, none⟩)] w fun e w' => e = .returned (.string h) ∧ DecAt w' b ⟨#[]⟩ ∧ w.grownBy w' (some b) := by
  have hc := d.cell
  have hf := d.frozen
  have F : Hid (DecAt (w.setCell ⟨b, 0, none⟩ (.string ⟨#[]⟩)) b ⟨#[]⟩ ∧ w.grownBy (w.setCell ⟨b, 0, none⟩ (.string ⟨#[]⟩)) (some b)) := ⟨d.set _, grown_set _ _ _⟩
  clear d
  go_enter Try.func21, Try.ntmps21
  go_wp2
  go_ret
  exact ⟨rfl, F.out⟩
theorem held_any (b : Nat) (h : ByteArray) (w : World) (hh : h.size ≤ 140737488351232) (d : DecAt w b h) : Calls Try.prog 22 #[.pointer (some ⟨b, 0, none⟩)] w fun e w' => e = .returned (.string h) ∧ Below w.heap.size w w' := by
  have hc := d.cell
  have k := clone_any h w hh
  go_enter Try.func22, Try.ntmps22
  go_wp2_with (go_at_call 36; refine k.mono ?_; rintro e w' ⟨rfl, hb⟩)
  go_ret
  exact ⟨rfl, hb⟩
set_option maxRecDepth 100000 in
set_option maxHeartbeats 2000000 in
theorem feed_any (b : Nat) (h p : ByteArray) (w : World) (hz : (h ++ p).size ≤ 140737488351232) (d : DecAt w b h) :
    Calls Try.prog 20 #[.pointer (some ⟨b, 0, none⟩), .string p] w fun e w' => e = .returned (.string (decB (su (h ++ p)))) ∧ DecAt w' b (hd (h ++ p)) ∧ w.grownBy w' (some b) := by
  have hc := d.cell
  have k1 := unsure_any (h ++ p) w hz
  have hu := uns_le (h ++ p)
  have k2 := fun w => clone_any (hd (h ++ p)) w (by rw [hd_size]; omega)
  have k3 := fun w => decode_any (su (h ++ p)) w (by rw [su_size]; omega)
  have es : (h ++ p).extract 0 ((h ++ p).size - uns (h ++ p)) = su (h ++ p) := rfl
  have eh : (h ++ p).extract ((h ++ p).size - uns (h ++ p)) (h ++ p).size = hd (h ++ p) := rfl
  have hcat : ¬ 9223372036854775807 < h.size + p.size := by
    have : (h ++ p).size = h.size + p.size := by simp
    omega
  obtain ⟨S, hS⟩ : ∃ S, su (h ++ p) = S := ⟨_, rfl⟩
  obtain ⟨H, hH⟩ : ∃ H, hd (h ++ p) = H := ⟨_, rfl⟩
  obtain ⟨D, hD⟩ : ∃ D, decB S = D := ⟨_, rfl⟩
  rw [hS] at es k3 ⊢; rw [hH] at eh k2 ⊢; rw [hD] at k3 ⊢
  obtain ⟨T, hT⟩ : ∃ T, h ++ p = T := ⟨_, rfl⟩
  rw [hT] at es eh k1 hu hz
  obtain ⟨U, hU⟩ : ∃ U, uns T = U := ⟨_, rfl⟩
  rw [hU] at es eh k1 hu
  have g1 : (0 : Int) ≤ (T.size : Int) - (U : Int) := by omega
  have g2 : (T.size : Int) - (U : Int) ≤ (T.size : Int) := by omega
  have t1 : ((T.size : Int) - (U : Int)).toNat = T.size - U := by omega
  clear hS hH hD hU
  go_enter Try.func20, Try.ntmps20
  go_wp2_with (first | (go_at_call 35; refine k1.mono ?_; rintro e w' ⟨rfl, rfl⟩) | (go_at_call 36; refine (k2 _).mono ?_))
  rintro e w1 ⟨rfl, b1⟩
  have d1 := d.below b1
  have hc1 := d1.cell
  have hf1 := d1.frozen
  have F1 : Hid (DecAt (w1.setCell ⟨b, 0, none⟩ (.string H)) b H ∧ w'.grownBy (w1.setCell ⟨b, 0, none⟩ (.string H)) (some b)) := ⟨d1.set H, grown_trans (grown_below b1) (grown_set _ _ _)⟩
  clear d1 b1 d k1 k2
  go_wp2_with (go_at_call 10; refine (k3 _).mono ?_)
  rintro e w2 ⟨rfl, b2⟩
  go_wp2
  go_ret
  exact ⟨rfl, F1.out.1.below b2, grown_trans F1.out.2 (grown_below b2)⟩
theorem feed_nil (p : ByteArray) (w : World) : Calls Try.prog 20 #[.pointer none, .string p] w fun e w' => e = .returned (.string ⟨#[]⟩) ∧ w' = w := by
  go_enter Try.func20, Try.ntmps20
  go_wp2
  go_ret
  exact ⟨rfl, rfl⟩
theorem end_nil (w : World) : Calls Try.prog 21 #[.pointer none] w fun e w' => e = .returned (.string ⟨#[]⟩) ∧ w' = w := by
  go_enter Try.func21, Try.ntmps21
  go_wp2
  go_ret
  exact ⟨rfl, rfl⟩
theorem held_nil (w : World) : Calls Try.prog 22 #[.pointer none] w fun e w' => e = .returned (.string ⟨#[]⟩) ∧ w' = w := by
  go_enter Try.func22, Try.ntmps22
  go_wp2
  go_ret
  exact ⟨rfl, rfl⟩
theorem decB_41 : decB ⟨#[37, 52, 49]⟩ = ⟨#[65]⟩ := by decide
theorem awake_any (w : World) : Calls Try.prog 9 #[] w fun e w' => e = .returned (.bool true) ∧ Below w.heap.size w w' := by
  have k := decode_any ⟨#[37, 52, 49]⟩ w (by decide)
  rw [decB_41] at k
  go_enter Try.func9, Try.ntmps9
  go_wp2_with (go_at_call 10; refine k.mono ?_; rintro e w' ⟨rfl, hb⟩)
  go_ret
  exact ⟨rfl, hb⟩
end Go.Proofs.Ytoliiccmfmgmlaa
