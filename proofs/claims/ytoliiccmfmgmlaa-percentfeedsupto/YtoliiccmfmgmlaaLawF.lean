/-
  The walk of the law PercentFeeds: it returns true and turns nothing that was there. Conditions: the list has at most about a million texts, and they have together at most about a million bytes.
-/
import Derived.Test.YtoliiccmfmgmlaaLawT
namespace Go.Proofs.Ytoliiccmfmgmlaa
open Go.RowKit
theorem below_grown {w wa wb : World} {b : Nat} (hb : w.heap.size ≤ b) (hB : Below w.heap.size w wa) (hg : wa.grownBy wb (some b)) : Below w.heap.size w wb :=
  hB.trans ⟨hg.os, hg.tape, hg.output, hg.size, fun j hj => hg.block j (Nat.lt_of_lt_of_le hj hB.size) (by simp; omega)⟩
/-- What a piece does, in letters. -/
theorem feed_step (ss : List ByteArray) (k b : Nat) (w : World) (a : Option Addr) (c : Nat) (hR : StrsA w (.slice a ss.length c) ss) (l : k < ss.length) (ht : tot ss ≤ 1048576) :
    ∃ (g o : Nat) (P X Y C T Z H S : ByteArray), a = some ⟨g, o, none⟩ ∧ cat (ss.take k) = C ∧ decB (su (cat (ss.take k))) = X ∧ C ++ P = T ∧ X ++ Y = Z ∧ T.extract 0 (T.size - H.size) = S ∧ H.size ≤ T.size ∧ H.size ≤ 2 ∧ T.size ≤ 1048576 ∧ P.size ≤ 1048576 ∧ X.size ≤ 1048576 ∧ Y.size ≤ 1048578 ∧ C.size ≤ 1048576 ∧
      (∀ wa, Below w.heap.size w wa → wa.cell? ⟨g, o + k, none⟩ = some (.string P)) ∧
      (∀ wa, DecAt wa b (hd (cat (ss.take k))) → Calls Try.prog 20 #[.pointer (some ⟨b, 0, none⟩), .string P] wa fun e w' => e = .returned (.string Y) ∧ DecAt w' b H ∧ wa.grownBy w' (some b)) ∧
      (∀ wa, Calls Try.prog 23 #[.string T] wa fun e w' => e = .returned (.string H) ∧ w' = wa) ∧
      (∀ wa, Calls Try.prog 7 #[.string S] wa fun e w' => ∃ n v, e = .returned (.tuple #[.string Z, .int .i64 n, v]) ∧ Below wa.heap.size wa w') ∧
      (∀ wa, DecAt wa b H → FedIn ss (k + 1) b (.string T) (.string Z) wa) := by
  obtain ⟨s1, s2, s3, s4, s5⟩ := fed_sizes ss k l ht
  obtain ⟨a', c', e, h⟩ := hR
  cases e
  obtain ⟨g, off, e2, hg, hc⟩ := h (by omega)
  have hts := tot_at ss k l
  have hcs := cat_size (ss.take k)
  have hT : (cat (ss.take k) ++ ss.getD k ⟨#[]⟩).size = (cat (ss.take k)).size + (ss.getD k ⟨#[]⟩).size := by simp
  have hhd : hd (cat (ss.take k) ++ ss.getD k ⟨#[]⟩) = hd (hd (cat (ss.take k)) ++ ss.getD k ⟨#[]⟩) := next_hd _ _
  have hz : (hd (hd (cat (ss.take k)) ++ ss.getD k ⟨#[]⟩)).size = uns (cat (ss.take k) ++ ss.getD k ⟨#[]⟩) := (hd_size _).trans (next_uns _ _).symm
  have hu := uns_le (cat (ss.take k) ++ ss.getD k ⟨#[]⟩)
  have hu2 : uns (cat (ss.take k) ++ ss.getD k ⟨#[]⟩) ≤ 2 := unsN_two _ _ _
  have hZ : decB (su (cat (ss.take k))) ++ decB (su (hd (cat (ss.take k)) ++ ss.getD k ⟨#[]⟩)) = decB (su (cat (ss.take k) ++ ss.getD k ⟨#[]⟩)) := (out_next _ _).symm
  have hfe := fed_next ss k b
  rw [hZ] at hfe
  have hsu := su_size (cat (ss.take k) ++ ss.getD k ⟨#[]⟩)
  refine ⟨g, off, ss.getD k ⟨#[]⟩, _, decB (su (hd (cat (ss.take k)) ++ ss.getD k ⟨#[]⟩)), _, _, _, hd (hd (cat (ss.take k)) ++ ss.getD k ⟨#[]⟩), su (cat (ss.take k) ++ ss.getD k ⟨#[]⟩), e2, rfl, rfl, rfl, hZ, by rw [hz]; rfl, by omega, by omega, by omega, s2, s3, s5, s1,
    fun wa hb => (hb.cell (p := ⟨g, off + k, none⟩) hg).trans (hc k l), fun wa d => feed_any _ _ _ wa (by omega) d, fun wa => ?_, fun wa => ?_, fun wa d => hfe wa l d⟩
  · rw [← hhd]; exact rheld_any _ wa (by omega)
  · refine (rdecode_any _ wa (by omega)).mono ?_
    rintro e w' ⟨v, rfl, _, hb⟩
    exact ⟨_, v, rfl, hb⟩
set_option maxRecDepth 100000 in
set_option maxHeartbeats 4000000 in
theorem lawF (ss : List ByteArray) (v0 : Value) (w : World) (h1 : StrsA w v0 ss) (n1 : ss.length ≤ 1048576) (t1 : tot ss ≤ 1048576) :
    Calls Try.prog 5 #[v0] w fun e w' => e = .returned (.bool true) ∧ Below w.heap.size w w' := by
  obtain ⟨a1, c1, rfl, r1⟩ := h1
  have H1 : Hid (StrsA w (.slice a1 ss.length c1) ss) := ⟨a1, c1, rfl, r1⟩
  clear r1
  go_enter Try.func5, Try.ntmps5
  go_wp2_with (first | (go_at_call 19; refine (newDecoder_any _).mono ?_; rintro e w' ⟨rfl, rfl⟩) | (go_at_call 9; refine (awake_any _).mono ?_))
  rintro e w1 ⟨rfl, b1⟩
  have z1 := b1.size
  simp only [World.size_alloc] at z1
  have B1 : Below w.heap.size w w1 := ((Below.refl _ w).alloc (Nat.le_refl _) _).trans (b1.mono (by simp))
  have d1 : DecAt w1 w.heap.size ⟨#[]⟩ := (b1.block _ (by simp)).trans (World.alloc_heap_new _ _)
  have H0 : Hid (DecAt w1 w.heap.size ⟨#[]⟩ ∧ Below w.heap.size w w1) := ⟨d1, B1⟩
  clear b1 d1 B1
  go_wp2_with (first | (go_at_call 20; refine (feed_nil _ _).mono ?_; rintro e w' ⟨rfl, rfl⟩) | (go_at_call 21; refine (end_nil _).mono ?_; rintro e w' ⟨rfl, rfl⟩) | (go_at_call 22; refine (held_nil _).mono ?_; rintro e w' ⟨rfl, rfl⟩))
  go_loopw [5] (fun i wr => ∃ r : Nat, i = .int .i64 r ∧ r ≤ 2 ∧ Hid (DecAt wr w.heap.size ⟨#[]⟩ ∧ Below w.heap.size w wr)) (fun i _ => 2 - (intOf i).toNat)
  case atStart => exact ⟨0, rfl, by omega, H0⟩
  case round =>
    clear H0
    obtain ⟨r, rfl, hr, HI⟩ := hrel
    by_cases hlt : r < 2
    · have hlti : (r : Int) < 2 := by omega
      have HS : Hid (FedIn ss 0 w.heap.size (.string ⟨#[]⟩) (.string ⟨#[]⟩) wr ∧ Below w.heap.size w wr) := ⟨⟨rfl, rfl, HI.out.1⟩, HI.out.2⟩
      clear HI
      go_wp2
      go_loopw [6, 7, 8] (fun p x i wr => ∃ k : Nat, i = .int .i64 k ∧ k ≤ ss.length ∧ Hid (FedIn ss k w.heap.size p x wr ∧ Below w.heap.size w wr)) (fun _ _ i _ => ss.length - (intOf i).toNat)
      case atStart => exact ⟨0, rfl, Nat.zero_le _, HS⟩
      case round =>
        clear HS
        obtain ⟨k, rfl, hk, HI⟩ := hrel
        obtain ⟨⟨rfl, rfl, d1⟩, hB⟩ := HI.out
        clear HI
        have HB : Hid (Below w.heap.size w wr) := hB
        have HD : Hid (DecAt wr w.heap.size (hd (cat (ss.take k)))) := d1
        clear hB d1
        by_cases l1 : k < ss.length
        · have l1i : (k : Int) < (ss.length : Int) := by omega
          obtain ⟨g, o, P, X, Y, C, T, Z, H, S, rfl, eC, eX, eT, eZ, eS, y1, y2, y3, y4, y5, y6, y7, cl, fd, rh, rd, nx⟩ := feed_step ss k w.heap.size w a1 c1 H1.out l1 t1
          rw [eX, eC]
          have hk1 := cl wr HB.out
          have f1 := fd wr HD.out
          have NX : Hid _ := nx
          have q1 : ¬ 9223372036854775807 < C.size + P.size := by omega
          have q2 : ¬ 9223372036854775807 < X.size + Y.size := by omega
          have g1 : (0 : Int) ≤ (T.size : Int) - (H.size : Int) := by omega
          have g2 : (T.size : Int) - (H.size : Int) ≤ (T.size : Int) := by omega
          have g3 : ((T.size : Int) - (H.size : Int)).toNat = T.size - H.size := by omega
          clear cl fd nx eC eX
          go_wp2_with (go_at_call 20; refine f1.mono ?_)
          first | rintro e w2 rfl da gr | rintro e w2 ⟨rfl, da, gr⟩
          have HB2 : Hid (Below w.heap.size w w2) := below_grown (Nat.le_refl _) HB.out gr
          have HD2 : Hid (DecAt w2 w.heap.size H) := da
          clear da gr f1
          go_wp2_with (first | (go_at_call 23; refine (rh _).mono ?_; rintro e w' ⟨rfl, rfl⟩) | (go_at_call 7; refine (rd _).mono ?_))
          first | rintro e w3 n v rfl b3 | rintro e w3 ⟨n, v, rfl, b3⟩
          have HB3 : Hid (Below w.heap.size w w3) := HB2.out.trans (b3.mono HB2.out.size)
          have d3 := HD2.out.below b3
          have kh := held_any w.heap.size H w3 (by omega) d3
          have HD3 : Hid (DecAt w3 w.heap.size H) := d3
          clear b3 d3 HB2 HD2
          go_wp2_with (go_at_call 22; refine kh.mono ?_)
          first | rintro e w4 rfl b4 | rintro e w4 ⟨rfl, b4⟩
          have HF : Hid (FedIn ss (k + 1) w.heap.size (.string T) (.string Z) w4 ∧ Below w.heap.size w w4) := ⟨NX.out w4 (HD3.out.below b4), HB3.out.trans (b4.mono HB3.out.size)⟩
          clear NX b4 HB3 HD3 kh
          go_wp2
          exact ⟨⟨k + 1, by go_num, by omega, HF⟩, by simp [intOf]; omega⟩
        · have l1i : ¬ (k : Int) < (ss.length : Int) := by omega
          have x1 : ss.take k = ss := List.take_of_length_le (by omega)
          rw [x1] at HD ⊢
          have oa1 := out_all (cat ss)
          have c1s := cat_size ss
          have m1 := decB_le (cat ss)
          have a1s : (decB (su (cat ss)) ++ hd (cat ss)).size = (decB (su (cat ss))).size + (hd (cat ss)).size := by simp
          rw [oa1] at a1s
          have k1 := fun wa => rdecode_any (cat ss) wa (by omega)
          have q1 : ¬ 9223372036854775807 < (decB (su (cat ss))).size + (hd (cat ss)).size := by omega
          obtain ⟨C1, eC1⟩ : ∃ C, cat ss = C := ⟨_, rfl⟩
          rw [eC1] at HD oa1 k1 q1 ⊢
          obtain ⟨X1, eX1⟩ : ∃ X, decB (su C1) = X := ⟨_, rfl⟩
          obtain ⟨T1, eT1⟩ : ∃ X, hd C1 = X := ⟨_, rfl⟩
          obtain ⟨M1, eM1⟩ : ∃ X, decB C1 = X := ⟨_, rfl⟩
          rw [eX1] at oa1 q1 ⊢; rw [eT1] at HD oa1 q1; rw [eM1] at oa1 k1
          clear eC1 eX1 eT1 eM1 a1s c1s m1 x1
          go_wp2_with (go_at_call 7; refine (k1 _).mono ?_)
          first | rintro e w2 va rfl _ b1 | rintro e w2 ⟨va, rfl, _, b1⟩
          have HB2 : Hid (Below w.heap.size w w2) := HB.out.trans (b1.mono HB.out.size)
          have ke := end_any w.heap.size T1 w2 (HD.out.below b1)
          clear b1 HD k1
          go_wp2_with (go_at_call 21; refine ke.mono ?_)
          first | rintro e w3 rfl da gr | rintro e w3 ⟨rfl, da, gr⟩
          have HB3 : Hid (Below w.heap.size w w3) := below_grown (Nat.le_refl _) HB2.out gr
          have kh := held_any w.heap.size ⟨#[]⟩ w3 (by decide) da
          have HD3 : Hid (DecAt w3 w.heap.size ⟨#[]⟩) := da
          clear gr ke da HB2
          go_wp2_with (go_at_call 22; refine kh.mono ?_)
          first | rintro e w4 rfl b4 | rintro e w4 ⟨rfl, b4⟩
          have HF : Hid (DecAt w4 w.heap.size ⟨#[]⟩ ∧ Below w.heap.size w w4) := ⟨HD3.out.below b4, HB3.out.trans (b4.mono HB3.out.size)⟩
          clear b4 HB3 HD3 kh
          go_wp2
          exact ⟨⟨r + 1, by go_num, by omega, HF⟩, by simp [intOf]; omega⟩
    · have hlti : ¬ (r : Int) < 2 := by omega
      go_wp2
      go_ret
      exact ⟨rfl, HI.out.2⟩
end Go.Proofs.Ytoliiccmfmgmlaa
