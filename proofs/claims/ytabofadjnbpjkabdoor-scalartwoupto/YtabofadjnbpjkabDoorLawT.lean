/-
  The walk of the law ScalarTwo: it returns true and turns nothing that was there. Conditions: each list has at most about a million texts, and they have together at most about a million bytes; the library's two tables hold what their text lays.
-/
import Derived.Test.YtabofadjnbpjkabDoorCa
import Derived.Test.YtabofadjnbpjkabDoorEnc
namespace Go.Proofs.YtabofadjnbpjkabDoor
open Go.RowKit Go.Lib
theorem dec_new (w : World) : DecAt (w.alloc (.cells #[.string ByteArray.empty] 67)) w.heap.size ⟨#[]⟩ := World.alloc_heap_new _ _
theorem sn_empty : sn ⟨#[]⟩ = [] := by decide
theorem hd_empty : hd ⟨#[]⟩ = ⟨#[]⟩ := by decide
set_option maxRecDepth 100000 in
set_option maxHeartbeats 4000000 in
theorem lawT (one two : List ByteArray) (v1 v2 : Value) (w : World) (h1 : StrsA w v1 one) (h2 : StrsA w v2 two) (n1 : one.length ≤ 1048576) (n2 : two.length ≤ 1048576) (t1 : tot one ≤ 1048576) (t2 : tot two ≤ 1048576) (hT : Utf8Tabs 0 1 w) (hg : 2 ≤ w.heap.size) :
    Calls Tryd.prog 5 #[v1, v2] w fun e w' => e = .returned (.bool true) ∧ Below w.heap.size w w' := by
  obtain ⟨a1, c1, rfl, r1⟩ := h1
  obtain ⟨a2, c2, rfl, r2⟩ := h2
  have H1 : Hid (StrsA w (.slice a1 one.length c1) one) := ⟨a1, c1, rfl, r1⟩
  have H2 : Hid (StrsA w (.slice a2 two.length c2) two) := ⟨a2, c2, rfl, r2⟩
  have HT : Hid (Utf8Tabs 0 1 w) := hT
  have TB : Hid (∀ W, Below w.heap.size w W → Utf8Tabs 0 1 W) := fun W hb => tabs_below hT (by omega) hb
  clear r1 r2 hT
  go_enter Tryd.func5, Tryd.ntmps5
  go_wp2_with (first | (go_at_call 16; refine (newDecoder_any _).mono ?_; rintro e w' ⟨rfl, rfl⟩))
  have B0 : Below w.heap.size w ((w.alloc (.cells #[.string ByteArray.empty] 67)).alloc (.cells #[.string ByteArray.empty] 67)) := ((Below.refl _ w).alloc (Nat.le_refl _) _).alloc (by simp) _
  refine (awake_any _ (TB.out _ B0) (by simp)).mono ?_
  rintro e w1 ⟨rfl, b1⟩
  have z1 := b1.size
  simp only [World.size_alloc] at z1
  have B1 : Below w.heap.size w w1 := B0.trans (b1.mono (by simp; omega))
  have d1 : DecAt w1 w.heap.size ⟨#[]⟩ := (b1.block _ (by simp; omega)).trans ((Below.heap_alloc _ _ _ (by simp)).trans (dec_new w))
  have d2 : DecAt w1 (w.heap.size + 1) ⟨#[]⟩ := by
    have := dec_new (w.alloc (.cells #[.string ByteArray.empty] 67))
    rw [World.size_alloc] at this
    exact (b1.block _ (by simp)).trans this
  have H0 : Hid (Two w w.heap.size w.heap.size (w.heap.size + 1) (sn (cat (one.take 0))) (sn (cat (two.take 0))) (hd (cat (one.take 0))) (hd (cat (two.take 0))) (.slice none 0 0) (.slice none 0 0) w1) := by
    have e : ∀ ss : List ByteArray, cat (ss.take 0) = ⟨#[]⟩ := fun ss => by rw [List.take_zero]; rfl
    unfold Hid
    rw [e, e, sn_empty, hd_empty]
    exact ⟨World.ownsRow_nil _ _ _ _, World.ownsRow_nil _ _ _ _, (fun g hg => by cases hg), d1, d2, B1, by omega, Nat.le_refl _, by omega⟩
  clear b1 d1 d2 B1 B0
  go_wp2
  go_loopw [7, 8, 9, 10, 11] (fun x y p q i wr => ∃ k : Nat, i = .int .i64 k ∧ (k ≤ one.length ∨ k ≤ two.length) ∧ p = .string (cat (one.take k)) ∧ q = .string (cat (two.take k)) ∧ Hid (Two w w.heap.size w.heap.size (w.heap.size + 1) (sn (cat (one.take k))) (sn (cat (two.take k))) (hd (cat (one.take k))) (hd (cat (two.take k))) x y wr)) (fun _ _ _ _ i _ => one.length + two.length - (RowKit.intOf i).toNat)
  case atStart => exact ⟨0, rfl, .inl (Nat.zero_le _), rfl, rfl, H0⟩
  case round =>
    clear H0
    obtain ⟨k, rfl, hk, rfl, rfl, HI⟩ := hrel
    by_cases l1 : k < one.length
    · have l1i : (k : Int) < (one.length : Int) := by omega
      have e1 : decide ((k : Int) < (one.length : Int)) = true := decide_eq_true l1i
      obtain ⟨g1, o1, P1, C1, K1, T1, rfl, eC1, eK1, eT1, eN1, eS1, eD1, p1, p2, p3, p4, p5, p6, cl1⟩ := one_more one k w a1 c1 H1.out l1 t1
      rw [eC1, eK1] at HI
      rw [eC1]
      have hk1 := cl1 wr HI.out.bl
      have f1 := HI.out.feed rfl HT.out hg P1 (by omega)
      have q1 : ¬ 9223372036854775807 < C1.size + P1.size := by omega
      have HC1 : Hid _ := cl1
      have HE1 : Hid (cat (one.take (k + 1)) = T1 ∧ sn T1 = sn C1 ++ sn (K1 ++ P1) ∧ hd T1 = hd (K1 ++ P1)) := ⟨eN1, eS1, eD1⟩
      clear cl1 eN1 eS1 eD1 eC1 eK1
      obtain ⟨N1, hN1⟩ : ∃ N, sn C1 = N := ⟨_, rfl⟩
      obtain ⟨M1, hM1⟩ : ∃ N, sn (K1 ++ P1) = N := ⟨_, rfl⟩
      obtain ⟨J1, hJ1⟩ : ∃ N, hd (K1 ++ P1) = N := ⟨_, rfl⟩
      rw [hN1] at HI f1 p4 HE1; rw [hM1] at f1 p5 HE1; rw [hJ1] at f1 HE1
      clear hN1 hM1 hJ1
      by_cases l2 : k < two.length
      · have l2i : (k : Int) < (two.length : Int) := by omega
        have e2 : decide ((k : Int) < (two.length : Int)) = true := decide_eq_true l2i
        obtain ⟨g2, o2, P2, C2, K2, T2, rfl, eC2, eK2, eT2, eN2, eS2, eD2, r1, r2, r3, r4, r5, r6, cl2⟩ := one_more two k w a2 c2 H2.out l2 t2
        rw [eC2, eK2] at HI f1
        rw [eC2]
        have q2 : ¬ 9223372036854775807 < C2.size + P2.size := by omega
        have HC2 : Hid _ := cl2
        have HE2 : Hid (cat (two.take (k + 1)) = T2 ∧ sn T2 = sn C2 ++ sn (K2 ++ P2) ∧ hd T2 = hd (K2 ++ P2)) := ⟨eN2, eS2, eD2⟩
        clear cl2 eN2 eS2 eD2 eC2 eK2
        obtain ⟨N2, hN2⟩ : ∃ N, sn C2 = N := ⟨_, rfl⟩
        rw [hN2] at HI f1 r4 HE2
        clear hN2
        go_wp2_with (go_at_call 18; refine f1.mono ?_)
        first | rintro e w2 v rfl hr s2 | rintro e w2 ⟨v, rfl, hr, s2⟩
        have z2 := s2.bl.size
        have S2 : Hid _ := s2
        have HR : Hid _ := hr
        have hk1' := HC1.out w2 s2.bl
        clear s2 hr f1 HI hk1
        go_wp2_with (at_builtin; go_must (refine wpList_append_more rfl _ _ rfl w.heap.size _ v N1 M1 rfl S2.out.rx rfl HR.out (by omega) z2 ?_))
        intro x' w3 ho gr hat
        have s3 := S2.out.more (M := M1) z2 (by rw [List.length_append]; exact ho) gr hat
        have z3 := s3.bl.size
        have hk1'' := HC1.out w3 s3.bl
        have hk2 := HC2.out w3 s3.bl
        have f2 := s3.swap.feed rfl HT.out hg P2 (by omega)
        obtain ⟨M2, hM2⟩ : ∃ N, sn (K2 ++ P2) = N := ⟨_, rfl⟩
        obtain ⟨J2, hJ2⟩ : ∃ N, hd (K2 ++ P2) = N := ⟨_, rfl⟩
        rw [hM2] at f2 r5 HE2; rw [hJ2] at f2 HE2
        clear ho gr hat s3 S2 HR hk1' hM2 hJ2
        go_wp2_with (go_at_call 18; refine f2.mono ?_)
        first | rintro e w4 v4 rfl hr s4 | rintro e w4 ⟨v4, rfl, hr, s4⟩
        have z4 := s4.bl.size
        have S4 : Hid _ := s4
        have HR : Hid _ := hr
        have hk2' := HC2.out w4 s4.bl
        clear s4 hr f2 hk2 hk1''
        go_wp2_with (at_builtin; go_must (refine wpList_append_more rfl _ _ rfl w.heap.size _ v4 N2 M2 rfl S4.out.rx rfl HR.out (by omega) z4 ?_))
        intro y' w5 ho gr hat
        have s5 := (S4.out.more (M := M2) z4 (by rw [List.length_append]; exact ho) gr hat).swap
        have hk2'' := HC2.out w5 s5.bl
        have HF : Hid (Two w w.heap.size w.heap.size (w.heap.size + 1) (sn (cat (one.take (k + 1)))) (sn (cat (two.take (k + 1)))) (hd (cat (one.take (k + 1)))) (hd (cat (two.take (k + 1)))) x' y' w5) := by
          unfold Hid
          rw [HE1.out.1, HE1.out.2.1, HE1.out.2.2, HE2.out.1, HE2.out.2.1, HE2.out.2.2]
          exact s5
        clear ho gr hat s5 S4 HR hk2'
        go_wp2
        exact ⟨⟨k + 1, by go_num, by omega, by rw [HE1.out.1], by rw [HE2.out.1], HF⟩, by simp [RowKit.intOf]; omega⟩
      · have l2i : ¬ (k : Int) < (two.length : Int) := by omega
        have e2 : decide ((k : Int) < (two.length : Int)) = false := decide_eq_false l2i
        have HN2 : Hid (two.take (k + 1) = two.take k) := cat_same two k l2
        go_wp2_with (go_at_call 18; refine f1.mono ?_)
        first | rintro e w2 v rfl hr s2 | rintro e w2 ⟨v, rfl, hr, s2⟩
        have z2 := s2.bl.size
        have S2 : Hid _ := s2
        have HR : Hid _ := hr
        have hk1' := HC1.out w2 s2.bl
        clear s2 hr f1 HI hk1
        go_wp2_with (at_builtin; go_must (refine wpList_append_more rfl _ _ rfl w.heap.size _ v N1 M1 rfl S2.out.rx rfl HR.out (by omega) z2 ?_))
        intro x' w3 ho gr hat
        have s3 := S2.out.more (M := M1) z2 (by rw [List.length_append]; exact ho) gr hat
        have hk1'' := HC1.out w3 s3.bl
        have HF : Hid (Two w w.heap.size w.heap.size (w.heap.size + 1) (sn (cat (one.take (k + 1)))) (sn (cat (two.take (k + 1)))) (hd (cat (one.take (k + 1)))) (hd (cat (two.take (k + 1)))) x' u8 w3) := by
          unfold Hid
          rw [HE1.out.1, HE1.out.2.1, HE1.out.2.2, HN2.out]
          exact s3
        clear ho gr hat s3 S2 HR hk1'
        go_wp2
        exact ⟨⟨k + 1, by go_num, by omega, by rw [HE1.out.1], by rw [HN2.out], HF⟩, by simp [RowKit.intOf]; omega⟩
    · have l1i : ¬ (k : Int) < (one.length : Int) := by omega
      have e1 : decide ((k : Int) < (one.length : Int)) = false := decide_eq_false l1i
      by_cases l2 : k < two.length
      · have l2i : (k : Int) < (two.length : Int) := by omega
        have e2 : decide ((k : Int) < (two.length : Int)) = true := decide_eq_true l2i
        have HN1 : Hid (one.take (k + 1) = one.take k) := cat_same one k l1
        obtain ⟨g2, o2, P2, C2, K2, T2, rfl, eC2, eK2, eT2, eN2, eS2, eD2, r1, r2, r3, r4, r5, r6, cl2⟩ := one_more two k w a2 c2 H2.out l2 t2
        rw [eC2, eK2] at HI
        rw [eC2]
        have q2 : ¬ 9223372036854775807 < C2.size + P2.size := by omega
        have HC2 : Hid _ := cl2
        have HE2 : Hid (cat (two.take (k + 1)) = T2 ∧ sn T2 = sn C2 ++ sn (K2 ++ P2) ∧ hd T2 = hd (K2 ++ P2)) := ⟨eN2, eS2, eD2⟩
        clear cl2 eN2 eS2 eD2 eC2 eK2
        have hk2 := HC2.out wr HI.out.bl
        have f2 := HI.out.swap.feed rfl HT.out hg P2 (by omega)
        obtain ⟨N2, hN2⟩ : ∃ N, sn C2 = N := ⟨_, rfl⟩
        obtain ⟨M2, hM2⟩ : ∃ N, sn (K2 ++ P2) = N := ⟨_, rfl⟩
        obtain ⟨J2, hJ2⟩ : ∃ N, hd (K2 ++ P2) = N := ⟨_, rfl⟩
        rw [hN2] at f2 r4 HE2; rw [hM2] at f2 r5 HE2; rw [hJ2] at f2 HE2
        clear hN2 hM2 hJ2 HI
        go_wp2_with (go_at_call 18; refine f2.mono ?_)
        first | rintro e w4 v4 rfl hr s4 | rintro e w4 ⟨v4, rfl, hr, s4⟩
        have z4 := s4.bl.size
        have S4 : Hid _ := s4
        have HR : Hid _ := hr
        have hk2' := HC2.out w4 s4.bl
        clear s4 hr f2 hk2
        go_wp2_with (at_builtin; go_must (refine wpList_append_more rfl _ _ rfl w.heap.size _ v4 N2 M2 rfl S4.out.rx rfl HR.out (by omega) z4 ?_))
        intro y' w5 ho gr hat
        have s5 := (S4.out.more (M := M2) z4 (by rw [List.length_append]; exact ho) gr hat).swap
        have hk2'' := HC2.out w5 s5.bl
        have HF : Hid (Two w w.heap.size w.heap.size (w.heap.size + 1) (sn (cat (one.take (k + 1)))) (sn (cat (two.take (k + 1)))) (hd (cat (one.take (k + 1)))) (hd (cat (two.take (k + 1)))) u7 y' w5) := by
          unfold Hid
          rw [HN1.out, HE2.out.1, HE2.out.2.1, HE2.out.2.2]
          exact s5
        clear ho gr hat s5 S4 HR hk2'
        go_wp2
        exact ⟨⟨k + 1, by go_num, by omega, by rw [HN1.out], by rw [HE2.out.1], HF⟩, by simp [RowKit.intOf]; omega⟩
      · have l2i : ¬ (k : Int) < (two.length : Int) := by omega
        have e2 : decide ((k : Int) < (two.length : Int)) = false := decide_eq_false l2i
        have x1 : one.take k = one := List.take_of_length_le (by omega)
        have x2 : two.take k = two := List.take_of_length_le (by omega)
        rw [x1, x2] at HI ⊢
        have m1 := cat_size one
        have m2 := cat_size two
        obtain ⟨C1, eC1⟩ : ∃ C, cat one = C := ⟨_, rfl⟩
        obtain ⟨C2, eC2⟩ : ∃ C, cat two = C := ⟨_, rfl⟩
        rw [eC1] at HI m1 ⊢; rw [eC2] at HI m2 ⊢
        have y1 : C1.size ≤ 1048576 := by omega
        have y2 : C2.size ≤ 1048576 := by omega
        have i1 := sn_len C1
        have i2 := sn_len C2
        have j1 : (endL (hd C1)).length ≤ 1 := by unfold endL; split <;> simp
        have j2 : (endL (hd C2)).length ≤ 1 := by unfold endL; split <;> simp
        have E1 : Hid (sn C1 ++ endL (hd C1) = nums C1) := rest_end C1
        have E2 : Hid (sn C2 ++ endL (hd C2) = nums C2) := rest_end C2
        have f1 := HI.out.ended rfl
        obtain ⟨N1, hN1⟩ : ∃ N, sn C1 = N := ⟨_, rfl⟩
        obtain ⟨N2, hN2⟩ : ∃ N, sn C2 = N := ⟨_, rfl⟩
        obtain ⟨M1, hM1⟩ : ∃ N, endL (hd C1) = N := ⟨_, rfl⟩
        obtain ⟨M2, hM2⟩ : ∃ N, endL (hd C2) = N := ⟨_, rfl⟩
        rw [hN1] at f1 i1 E1; rw [hN2] at f1 i2 E2; rw [hM1] at f1 j1 E1; rw [hM2] at j2 E2
        have HM2 : Hid (endL (hd C2) = M2) := hM2
        clear eC1 eC2 x1 x2 m1 m2 HI hN1 hN2 hM1 hM2 hk
        go_wp2_with (go_at_call 19; refine f1.mono ?_)
        first | rintro e w2 v rfl hr s2 | rintro e w2 ⟨v, rfl, hr, s2⟩
        have z2 := s2.bl.size
        have S2 : Hid _ := s2
        have HR : Hid _ := hr
        clear s2 hr f1
        go_wp2_with (at_builtin; go_must (refine wpList_append_more rfl _ _ rfl w.heap.size _ v N1 M1 rfl S2.out.rx rfl HR.out (by omega) z2 ?_))
        intro x' w3 ho gr hat
        have s3 := S2.out.more (M := M1) z2 (by rw [List.length_append]; exact ho) gr hat
        have f2 := s3.swap.ended rfl
        rw [HM2.out] at f2
        clear ho gr hat s3 S2 HR
        go_wp2_with (go_at_call 19; refine f2.mono ?_)
        first | rintro e w4 v4 rfl hr s4 | rintro e w4 ⟨v4, rfl, hr, s4⟩
        have z4 := s4.bl.size
        have S4 : Hid _ := s4
        have HR : Hid _ := hr
        clear s4 hr f2
        go_wp2_with (at_builtin; go_must (refine wpList_append_more rfl _ _ rfl w.heap.size _ v4 N2 M2 rfl S4.out.rx rfl HR.out (by omega) z4 ?_))
        intro y' w5 ho gr hat
        have s5 := (S4.out.more (M := M2) z4 (by rw [List.length_append]; exact ho) gr hat).swap
        have z5 := s5.bl.size
        have R1 : Hid (RdsA w5 x' (nums C1)) := by unfold Hid; rw [← E1.out]; exact RdsA.of_owns s5.rx
        have R2 : Hid (RdsA w5 y' (nums C2)) := by unfold Hid; rw [← E2.out]; exact RdsA.of_owns s5.ry
        have B5 : Hid (Below w.heap.size w w5) := s5.bl
        have k1 := decode_any C1 w5 (by omega) (TB.out w5 s5.bl) (by omega)
        clear ho gr hat s5 S4 HR E1 E2
        go_wp2_with (go_at_call 10; refine k1.mono ?_)
        first | rintro e w6 u rfl hu b6 | rintro e w6 ⟨u, rfl, hu, b6⟩
        rw [runes_nums] at hu
        have Lu1 : (poss C1).length = (nums C1).length := by unfold nums; rw [List.length_map]
        have Lu2 : (poss C2).length = (nums C2).length := by unfold nums; rw [List.length_map]
        have Lp1 : (nums C1).length ≤ C1.size := by rw [← Lu1]; exact posAt_len C1 C1.size 0 (by omega)
        have Lp2 : (nums C2).length ≤ C2.size := by rw [← Lu2]; exact posAt_len C2 C2.size 0 (by omega)
        rw [Lu1] at hu
        have z6 := b6.size
        have k2 := same_rds (nums C1) x' u w6 (R1.out.below b6).rds (Rds.of_owns hu) (by omega)
        have B6 : Hid (Below w.heap.size w w6) := B5.out.trans (b6.mono z5)
        have R2b : Hid (RdsA w6 y' (nums C2)) := R2.out.below b6
        clear hu k1 b6 R1 R2 B5
        go_wp2_with (go_at_call 13; refine k2.mono ?_)
        rintro e w7 ⟨rfl, b7⟩
        have z7 := b7.size
        have B7 : Hid (Below w.heap.size w w7) := B6.out.trans (b7.mono (by omega))
        have R2c : Hid (RdsA w7 y' (nums C2)) := R2b.out.below b7
        have k3 := decode_any C2 w7 (by omega) (TB.out w7 B7.out) (by omega)
        clear k2 b7 B6 R2b
        go_wp2_with (go_at_call 10; refine k3.mono ?_)
        first | rintro e w8 u2 rfl hu b8 | rintro e w8 ⟨u2, rfl, hu, b8⟩
        rw [runes_nums, Lu2] at hu
        have z8 := b8.size
        have k4 := same_rds (nums C2) y' u2 w8 (R2c.out.below b8).rds (Rds.of_owns hu) (by omega)
        have B8 : Hid (Below w.heap.size w w8) := B7.out.trans (b8.mono (by omega))
        clear hu k3 b8 R2c B7
        go_wp2_with (go_at_call 13; refine k4.mono ?_)
        rintro e w9 ⟨rfl, b9⟩
        have B9 : Hid (Below w.heap.size w w9) := B8.out.trans (b9.mono (by omega))
        clear k4 b9 B8
        go_wp2
        go_ret
        exact ⟨rfl, B9.out⟩
end Go.Proofs.YtabofadjnbpjkabDoor
