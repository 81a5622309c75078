/-
  The document's Decode.
-/
import Derived.Test.YtahmeejcgddlhaaPq
namespace Go.Proofs.Ytahmeejcgddlhaa
open Go.RowKit
set_option maxRecDepth 100000 in
set_option maxHeartbeats 8000000 in
theorem rdec_main (s : ByteArray) (F : (Nat × Int) ⊕ List Int) (R O : Nat) (L0 : List Int) (v0 : Value) (a : Act) (w w1 : World) (HS : Hid (s.size < 67108865)) (hR : R ≤ s.size) (hL : L0.length ≤ R) (hF : Hid (F = finJ L0 (rdL usual s (s.size - R) R 128 0 72 L0.length))) (hv : Hid (Rw .i32 21 O w1 v0 L0)) (hB : Hid (Below O w w1)) (hO : O ≤ w.heap.size)
    (ha : At 149 [(0, .string s), (5, .int .i64 (R : Int)), (7, v0)] a) : Code.wp Try.prog (sq 6 body14) (bodyPost Try.prog Try.f14 fun e w' => dcA F O e w' ∧ Below O w w') a w1 := by
  obtain ⟨f, rfl, h0, h5, h7, -⟩ := ha.lit
  change Code.wp _ _ _ ⟨#[f 0, f 1, f 2, f 3, f 4, f 5, f 6, f 7, f 8, f 9, f 10, f 11, f 12, f 13, f 14, f 15, f 16, f 17, f 18, f 19, f 20, f 21, f 22, f 23, f 24, f 25, f 26, f 27, f 28, f 29, f 30, f 31, f 32, f 33, f 34, f 35, f 36, f 37, f 38, f 39, f 40, f 41, f 42, f 43, f 44, f 45, f 46, f 47, f 48, f 49, f 50, f 51, f 52, f 53, f 54, f 55, f 56, f 57, f 58, f 59, f 60, f 61, f 62, f 63, f 64, f 65, f 66, f 67, f 68, f 69, f 70, f 71, f 72, f 73, f 74, f 75, f 76, f 77, f 78, f 79, f 80, f 81, f 82, f 83, f 84, f 85, f 86, f 87, f 88, f 89, f 90, f 91, f 92, f 93, f 94, f 95, f 96, f 97, f 98, f 99, f 100, f 101, f 102, f 103, f 104, f 105, f 106, f 107, f 108, f 109, f 110, f 111, f 112, f 113, f 114, f 115, f 116, f 117, f 118, f 119, f 120, f 121, f 122, f 123, f 124, f 125, f 126, f 127, f 128, f 129, f 130, f 131, f 132, f 133, f 134, f 135, f 136, f 137, f 138, f 139, f 140, f 141, f 142, f 143, f 144, f 145, f 146, f 147, f 148], []⟩ _
  simp only at h0 h5 h7
  simp only [h0, h5, h7]
  clear h0 h5 h7
  conv => arg 2; whnf
  go_wp2
  go_loopw [5, 7, 9, 10, 11] (fun x5 v x9 x10 x11 wr => ∃ (at_ : Nat) (n i bias : Int) (L : List Int), x5 = .int .i64 (at_ : Int) ∧ x9 = .int .i64 n ∧ x10 = .int .i64 i ∧ x11 = .int .i64 bias ∧ at_ ≤ s.size ∧ L.length ≤ at_ ∧ Hid (Rw .i32 21 O wr v L) ∧ Hid (1 ≤ n ∧ n ≤ 1114111 ∧ 0 ≤ i ∧ i ≤ 2147483647 ∧ 0 ≤ bias ∧ bias ≤ 10000) ∧ Hid (F = finJ L (rdL usual s (s.size - at_) at_ n i bias L.length)) ∧ Hid (Below O w wr)) (fun x5 _ _ _ _ _ => s.size - (RowKit.intOf x5).toNat)
  case atStart => exact ⟨R, 128, 0, 72, L0, rfl, rfl, rfl, rfl, hR, hL, hv, ⟨by decide, by decide, by decide, by decide, by decide, by decide⟩, hF, hB⟩
  case round =>
    clear hF hv hB hR hL
    obtain ⟨wo, hwo⟩ : ∃ wo, wr = wo := ⟨_, rfl⟩
    rw [hwo] at hrel ⊢
    clear hwo
    obtain ⟨at_, n, i, bias, L, rfl, rfl, rfl, rfl, hat, hL, hv, HN, HJ, HB⟩ := hrel
    obtain ⟨V, hV⟩ : ∃ V, u7 = V := ⟨_, rfl⟩
    rw [hV] at hv ⊢
    clear hV
    by_cases c : at_ < s.size
    · have c1 : (at_ : Int) < (s.size : Int) := by omega
      have c2 : decide ((at_ : Int) < (s.size : Int)) = true := decide_eq_true c1
      obtain ⟨ff, hff⟩ : ∃ ff, s.size - at_ = ff + 1 := ⟨s.size - at_ - 1, by omega⟩
      obtain ⟨r, hr⟩ : ∃ r, rdN usual s bias (s.size - at_) at_ i 1 usual.base = r := ⟨_, rfl⟩
      have HT : Hid (F = rdT usual s ff n i L r) := by
        have := HJ.out
        rw [hff, fin_step _ _ _ _ _ _ _ _ c, hr] at this
        exact this
      replace hr : Hid (rdN usual s bias (s.size - at_) at_ i 1 36 = r) := hr
      have HR0 : Hid (rdN usual s bias (s.size - at_) at_ i 1 36 = r) := hr
      clear HJ
      have hTail : Hid (∀ (Q : Exit → Act → World → Prop) (x : Int) (at2 : Nat) (a : Act), Hid (1 ≤ n ∧ n ≤ 1114111 ∧ 0 ≤ i ∧ i ≤ x ∧ x ≤ 2147483647 ∧ L.length ≤ at2 ∧ at2 < s.size ∧ O ≤ w.heap.size ∧ s.size ≤ at2 + 1 + ff) → Hid (F = rdT usual s ff n i L (.inr (x, at2))) → Hid (∀ a code, F = .inl (at2, code) → At 149 [(2, .slice none 0 0), (3, .int .i64 (at2 : Int)), (4, .int .i64 code)] a → Q .ret a wo) → Hid (∀ a w2 v2 (n2 i2 b2 : Int) (L2 : List Int), L2.length ≤ at2 + 1 → Hid (Rw .i32 21 O w2 v2 L2) → Hid (1 ≤ n2 ∧ n2 ≤ 1114111 ∧ 0 ≤ i2 ∧ i2 ≤ 2147483647 ∧ 0 ≤ b2 ∧ b2 ≤ 10000) → Hid (F = finJ L2 (rdL usual s (s.size - (at2 + 1)) (at2 + 1) n2 i2 b2 L2.length)) → Hid (Below O w w2) → At 149 [(0, .string s), (5, .int .i64 ((at2 + 1 : Nat) : Int)), (7, v2), (9, .int .i64 n2), (10, .int .i64 i2), (11, .int .i64 b2), (1, f 1), (6, f 6), (8, f 8), (19, f 19), (20, f 20), (21, f 21), (22, f 22), (23, f 23), (24, f 24), (25, f 25), (26, f 26), (27, f 27), (28, f 28), (29, f 29), (30, f 30), (31, f 31), (32, f 32), (33, f 33), (34, f 34), (35, f 35), (36, f 36), (37, f 37), (38, f 38), (39, f 39), (40, f 40), (41, f 41), (42, f 42), (43, f 43), (44, f 44), (45, f 45), (46, f 46), (47, f 47), (48, f 48), (49, f 49), (50, f 50), (51, f 51), (148, f 148)] a → Q .normal a w2) → At 149 [(0, .string s), (5, .int .i64 (at2 : Int)), (7, V), (9, .int .i64 n), (10, .int .i64 x), (11, .int .i64 bias), (12, .int .i64 i), (1, f 1), (6, f 6), (8, f 8), (19, f 19), (20, f 20), (21, f 21), (22, f 22), (23, f 23), (24, f 24), (25, f 25), (26, f 26), (27, f 27), (28, f 28), (29, f 29), (30, f 30), (31, f 31), (32, f 32), (33, f 33), (34, f 34), (35, f 35), (36, f 36), (37, f 37), (38, f 38), (39, f 39), (40, f 40), (41, f 41), (42, f 42), (43, f 43), (44, f 44), (45, f 45), (46, f 46), (47, f 47), (48, f 48), (49, f 49), (50, f 50), (51, f 51), (148, f 148)] a → Code.wp Try.prog (sq 2 in14) Q a wo) := fun Q x at2 a h1 h2 h3 h4 ha =>
        rdec_tail s F ff at2 O n i x bias L V f a w wo HS h1 h2 hv HB h3 h4 ha
      change Code.wp _ (Code.seq _ (Code.block _ (Code.seq _ (Code.seq _ (sq 2 in14))))) _ _ _
      generalize sq 2 in14 = REST at hTail ⊢
      go_wp2
      go_loopw [5, 10, 13, 14] (fun x5 x10 x13 x14 wq => ∃ (at2 : Nat) (i2 wi k : Int), x5 = .int .i64 (at2 : Int) ∧ x10 = .int .i64 i2 ∧ x13 = .int .i64 wi ∧ x14 = .int .i64 k ∧ at2 ≤ s.size ∧ at_ ≤ at2 ∧ Hid (0 ≤ i2 ∧ i2 ≤ 2147483647 ∧ 0 ≤ wi ∧ wi ≤ 2147483647 ∧ 0 ≤ k ∧ k ≤ 36 * (at2 : Int) + 36 ∧ rdN usual s bias (s.size - at2) at2 i2 wi k = r) ∧ Hid (wq = wo)) (fun x5 _ _ _ _ => s.size - (RowKit.intOf x5).toNat)
      case atStart => exact ⟨at_, i, 1, 36, rfl, rfl, rfl, rfl, hat, Nat.le_refl _, by have h1 := HN.out; exact ⟨h1.2.2.1, h1.2.2.2.1, by omega, by omega, by omega, by omega, hr.out⟩, rfl⟩
      case round =>
        clear hr
        obtain ⟨at2, i2, wi, k, rfl, rfl, rfl, rfl, hat2, hat3, H2, hwq⟩ := hrel
        rw [Hid] at hwq
        subst hwq
        by_cases c : at2 < s.size
        · have hne : ((at2 : Int) == (s.size : Int)) = false := by simp; omega
          have q0 : (s[at2]'c).toNat = byt s at2 := byt_eq s at2 c
          have c1 : (at2 : Int) < (s.size : Int) := by omega
          obtain ⟨g1, g2, g3, g4, g5, g6, g7⟩ := H2.out
          have q2 := byt_lt s at2
          have kdd := fun w => rdigit_any (byt s at2 : Int) w (by omega) (by omega)
          have ktt := fun w => rthr_any k bias w g5 (by have := HS.out; omega) (by have := HN.out; omega) (by have := HN.out; omega)
          have tb := thr_bound usual usual_ok k bias
          have db := dg_bound (byt s at2)
          obtain ⟨f3, hf3⟩ : ∃ f3, s.size - at2 = f3 + 1 := ⟨s.size - at2 - 1, by omega⟩
          have hf4 : s.size - (at2 + 1) = f3 := by omega
          have hdd : dgTo usual.base (byt s at2 : Int) = dg (byt s at2) := by
            unfold dgTo; rw [if_pos (show dg (byt s at2 : Int) < usual.base from by show _ < (36 : Int); omega)]
          rw [hf3, rdN, hdd] at g7
          obtain ⟨D, hD⟩ : ∃ D, dg (byt s at2 : Int) = D := ⟨_, rfl⟩
          obtain ⟨T, hT⟩ : ∃ T, thr usual k bias = T := ⟨_, rfl⟩
          simp only [hD] at g7 kdd db
          simp only [hT] at g7 ktt tb
          rw [show usual.base = 36 from rfl] at g7 tb
          obtain ⟨d1, d2⟩ := db
          obtain ⟨t1, t2⟩ := tb
          have m0 : D * wi ≤ 35 * 2147483647 := by
            by_cases z : 0 ≤ D
            · exact Int.mul_le_mul d2 g4 g3 (by omega)
            · have : D = -1 := by omega
              subst this; omega
          have m1 : -2147483647 ≤ D * wi := by
            by_cases z : 0 ≤ D
            · have := Int.mul_nonneg z g3; omega
            · have : D = -1 := by omega
              subst this; omega
          have m2 : 0 ≤ wi * (36 - T) := Int.mul_nonneg g3 (by omega)
          have m3 : wi * (36 - T) ≤ 2147483647 * 36 := Int.mul_le_mul g4 (by omega) (by omega) (by omega)
          have hX0 : 0 ≤ D → 0 ≤ D * wi := fun h => Int.mul_nonneg h g3
          have k6 : k ≤ 9007199254740992 := by have := HS.out; omega
          have k7 : (at2 : Int) ≤ 9007199254740992 := by have := HS.out; omega
          generalize hX : D * wi = X at *
          generalize hY : wi * (36 - T) = Y at *
          have HK : Hid (∀ x, rdN usual s bias f3 (at2 + 1) x Y (k + 36) = r → 0 ≤ x → x ≤ 2147483647 → Y ≤ 2147483647 → (at2 + 1 ≤ s.size ∧ at_ ≤ at2 + 1 ∧ Hid (0 ≤ x ∧ x ≤ 2147483647 ∧ 0 ≤ Y ∧ Y ≤ 2147483647 ∧ 0 ≤ k + 36 ∧ k + 36 ≤ 36 * ((at2 + 1 : Nat) : Int) + 36 ∧ rdN usual s bias (s.size - (at2 + 1)) (at2 + 1) x Y (k + 36) = r) ∧ Hid (wr = wr))) := fun x h1 h2 h3 h5 =>
            ⟨by omega, by omega, ⟨h2, h3, m2, h5, by omega, by omega, by rw [hf4]; exact h1⟩, rfl⟩
          clear hf3 hf4 g6 hdd
          by_cases e1 : D < 0
          · rw [if_pos e1] at g7
            subst g7
            have e1' : decide (D < 0) = true := decide_eq_true e1
            have HE : Hid (F = .inl (at2, 140)) := HT.out
            clear m0 m1 m2 m3 HK hX0 k6 t1 t2 g1 g2 d1 d2 H2 hat2 hat3
            go_wp2_with (first | (go_at_call 17; refine (kdd _).mono ?_; rintro e w' ⟨rfl, hw⟩; rw [hw]; clear hw))
            go_ret3
            rw [HE.out]
            exact ⟨rfl, HB.out⟩
          rw [if_neg e1] at g7
          have e1' : decide (D < 0) = false := decide_eq_false e1
          by_cases e2 : 2147483647 < i2 + X
          · rw [if_pos e2] at g7
            subst g7
            have e2' : decide (2147483647 < i2 + X) = true := decide_eq_true e2
            have HE : Hid (F = .inl (at2, 142)) := HT.out
            clear m2 m3 HK hX0 k6 t1 t2 H2 hat2 hat3
            go_wp2_with (first | (go_at_call 17; refine (kdd _).mono ?_; rintro e w' ⟨rfl, hw⟩; rw [hw]; clear hw))
            go_ret3
            rw [HE.out]
            exact ⟨rfl, HB.out⟩
          rw [if_neg e2] at g7
          have e2' : decide (2147483647 < i2 + X) = false := decide_eq_false e2
          by_cases e3 : D < T
          · rw [if_pos e3] at g7
            have e3' : decide (D < T) = true := decide_eq_true e3
            have HX2 : Hid (0 ≤ i2 + X ∧ i2 + X ≤ 2147483647 ∧ at2 < s.size) := ⟨by have := hX0 (by omega); omega, by omega, c⟩
            have hk := rdN_ok usual s bias _ _ _ _ _ _ _ (HR0.out.trans g7.symm) (by omega) (by omega)
            rw [← g7] at HT
            obtain ⟨x, hx⟩ : ∃ x, i2 + X = x := ⟨_, rfl⟩
            rw [hx] at HT hk e2'
            obtain ⟨⟨la1, -⟩, x1, x2⟩ := hk
            obtain ⟨n1, n2, i1, i2', b1, b2⟩ := HN.out
            have HX1 : Hid (1 ≤ n ∧ n ≤ 1114111 ∧ 0 ≤ i ∧ i ≤ x ∧ x ≤ 2147483647 ∧ L.length ≤ at2 ∧ at2 < s.size ∧ O ≤ w.heap.size ∧ s.size ≤ at2 + 1 + ff) := ⟨n1, n2, i1, x1, x2, by omega, c, hO, by omega⟩
            clear m2 m3 HK hX0 k6 t1 t2 g7 n1 n2 i1 i2' b1 b2 x1 H2 hat hat3 hL HN e1 e2 e3 hY g5 k7 HR0
            go_wp2_with (first | (go_at_call 17; refine (kdd _).mono ?_; rintro e w' ⟨rfl, hw⟩; rw [hw]; clear hw) | (go_at_call 25; refine (ktt _).mono ?_; rintro e w' ⟨rfl, hw⟩; rw [hw]; clear hw))
            refine hTail.out _ x at2 _ HX1 HT ?hE ?hK ⟨rfl, rfl, rfl, rfl, rfl, rfl, rfl, rfl, rfl, rfl, rfl, rfl, rfl, rfl, rfl, rfl, rfl, rfl, rfl, rfl, rfl, rfl, rfl, rfl, rfl, rfl, rfl, rfl, rfl, rfl, rfl, rfl, rfl, rfl, rfl, rfl, rfl, rfl, rfl, rfl, rfl, rfl, rfl, rfl, rfl, rfl, trivial⟩
            case hE =>
              intro a code hc ha
              obtain ⟨f', rfl, h2, h3, h4, -⟩ := ha.lit
              change bodyPost Try.prog Try.f14 (fun e w' => dcA F O e w' ∧ Below O w w') Exit.ret _ _
              refine bodyPost_ret (results_tmp3 rfl _ _ _) rfl ?_
              rw [hc]
              exact ⟨by simp [dcA, h2, h3, h4], HB.out⟩
            case hK =>
              intro a w2 v2 n2 i2 b2 L2 hL2 hR2 hN2 hF2 hB2 ha
              obtain ⟨f', rfl, h0, h5, h7, h9, h10, h11, h1, h6, h8, h19, h20, h21, h22, h23, h24, h25, h26, h27, h28, h29, h30, h31, h32, h33, h34, h35, h36, h37, h38, h39, h40, h41, h42, h43, h44, h45, h46, h47, h48, h49, h50, h51, h148, -⟩ := ha.lit
              change Exit.inBlock 5 _ _ ⟨#[f' 0, f' 1, f' 2, f' 3, f' 4, f' 5, f' 6, f' 7, f' 8, f' 9, f' 10, f' 11, f' 12, f' 13, f' 14, f' 15, f' 16, f' 17, f' 18, f' 19, f' 20, f' 21, f' 22, f' 23, f' 24, f' 25, f' 26, f' 27, f' 28, f' 29, f' 30, f' 31, f' 32, f' 33, f' 34, f' 35, f' 36, f' 37, f' 38, f' 39, f' 40, f' 41, f' 42, f' 43, f' 44, f' 45, f' 46, f' 47, f' 48, f' 49, f' 50, f' 51, f' 52, f' 53, f' 54, f' 55, f' 56, f' 57, f' 58, f' 59, f' 60, f' 61, f' 62, f' 63, f' 64, f' 65, f' 66, f' 67, f' 68, f' 69, f' 70, f' 71, f' 72, f' 73, f' 74, f' 75, f' 76, f' 77, f' 78, f' 79, f' 80, f' 81, f' 82, f' 83, f' 84, f' 85, f' 86, f' 87, f' 88, f' 89, f' 90, f' 91, f' 92, f' 93, f' 94, f' 95, f' 96, f' 97, f' 98, f' 99, f' 100, f' 101, f' 102, f' 103, f' 104, f' 105, f' 106, f' 107, f' 108, f' 109, f' 110, f' 111, f' 112, f' 113, f' 114, f' 115, f' 116, f' 117, f' 118, f' 119, f' 120, f' 121, f' 122, f' 123, f' 124, f' 125, f' 126, f' 127, f' 128, f' 129, f' 130, f' 131, f' 132, f' 133, f' 134, f' 135, f' 136, f' 137, f' 138, f' 139, f' 140, f' 141, f' 142, f' 143, f' 144, f' 145, f' 146, f' 147, f' 148], []⟩ _
              simp only at h0 h5 h7 h9 h10 h11 h1 h6 h8 h19 h20 h21 h22 h23 h24 h25 h26 h27 h28 h29 h30 h31 h32 h33 h34 h35 h36 h37 h38 h39 h40 h41 h42 h43 h44 h45 h46 h47 h48 h49 h50 h51 h148
              simp only [h0, h5, h7, h9, h10, h11, h1, h6, h8, h19, h20, h21, h22, h23, h24, h25, h26, h27, h28, h29, h30, h31, h32, h33, h34, h35, h36, h37, h38, h39, h40, h41, h42, h43, h44, h45, h46, h47, h48, h49, h50, h51, h148]
              clear h0 h5 h7 h9 h10 h11 h1 h6 h8 h19 h20 h21 h22 h23 h24 h25 h26 h27 h28 h29 h30 h31 h32 h33 h34 h35 h36 h37 h38 h39 h40 h41 h42 h43 h44 h45 h46 h47 h48 h49 h50 h51 h148
              simp only [Exit.inBlock]
              refine ⟨⟨_, _, _, _, _, _, _, _, _, _, _, _, _, _, _, _, _, _, _, _, _, _, _, _, _, _, _, _, _, _, _, _, _, _, _, _, _, _, _, _, _, _, _, _, _, _, _, _, _, _, _, _, _, _, _, _, _, _, _, _, _, _, _, _, _, _, _, _, _, _, _, _, _, _, _, _, _, _, _, _, _, _, _, _, _, _, _, _, _, _, _, _, _, _, _, _, _, _, _, _, _, _, _, _, _, _, _, _, _, _, _, ?rel, rfl⟩, ?m⟩
              case rel => exact ⟨at2 + 1, n2, i2, b2, L2, rfl, rfl, rfl, rfl, by have := HX1.out; omega, hL2, hR2, hN2, hF2, hB2⟩
              case m => simp [RowKit.intOf]; have := HX1.out; omega
          rw [if_neg e3] at g7
          have e3' : decide (D < T) = false := decide_eq_false e3
          by_cases e4 : 2147483647 < Y
          · rw [if_pos e4] at g7
            subst g7
            have e4' : decide (2147483647 < Y) = true := decide_eq_true e4
            have HE : Hid (F = .inl (at2, 142)) := HT.out
            have M2 : Y ≤ 9007199254740992 := by omega
            clear m3 HK hX0 H2 hat2 hat3
            go_wp2_with (first | (go_at_call 17; refine (kdd _).mono ?_; rintro e w' ⟨rfl, hw⟩; rw [hw]; clear hw) | (go_at_call 25; refine (ktt _).mono ?_; rintro e w' ⟨rfl, hw⟩; rw [hw]; clear hw))
            go_ret3
            rw [HE.out]
            exact ⟨rfl, HB.out⟩
          · rw [if_neg e4] at g7
            have e4' : decide (2147483647 < Y) = false := decide_eq_false e4
            have HK2 : Hid _ := HK.out _ g7 (by have := hX0 (by omega); omega) (by omega) (by omega)
            clear g7 HK hX0 H2 hat2 hat3
            have e5 : Y ≤ 2147483647 := by omega
            clear e4 m3
            go_wp2_with (first | (go_at_call 17; refine (kdd _).mono ?_; rintro e w' ⟨rfl, hw⟩; rw [hw]; clear hw) | (go_at_call 25; refine (ktt _).mono ?_; rintro e w' ⟨rfl, hw⟩; rw [hw]; clear hw))
            refine ⟨⟨at2 + 1, i2 + X, Y, k + 36, by simp, rfl, rfl, rfl, HK2.out⟩, ?_⟩
            simp [RowKit.intOf]; omega
        · obtain rfl : at2 = s.size := by omega
          have hne : ((s.size : Int) == (s.size : Int)) = true := by simp
          have g7 := H2.out.2.2.2.2.2.2
          rw [Nat.sub_self, rdN] at g7
          subst g7
          have HE : Hid (F = .inl (s.size, 140)) := HT.out
          clear H2 hat2 hat3
          go_wp2
          go_ret3
          rw [HE.out]
          exact ⟨rfl, HB.out⟩
    · obtain rfl : at_ = s.size := by omega
      have c2 : decide ((s.size : Int) < (s.size : Int)) = false := by simp
      have HE : Hid (F = .inr L) := by
        have := HJ.out
        rw [Nat.sub_self, rdL] at this
        exact this
      clear HJ HN
      go_wp2
      go_ret3
      rw [HE.out]
      exact ⟨⟨_, rfl, hv.out⟩, HB.out⟩
set_option maxRecDepth 100000 in
set_option maxHeartbeats 2000000 in
theorem rdec_cond {Q : Exit → Act → World → Prop} (s : ByteArray) (H R : Nat) (v0 : Value) (a : Act) (w : World) (hR : R = if 0 < H then H + 1 else 0) (hH : (H : Int) ≤ 9007199254740992)
    (hK : Hid (∀ a, At 149 [(0, .string s), (5, .int .i64 (R : Int)), (7, v0)] a → Code.wp Try.prog (sq 6 body14) Q a w)) (ha : At 149 [(0, .string s), (5, .int .i64 (H : Int)), (7, v0)] a) : Code.wp Try.prog (sq 5 body14) Q a w := by
  obtain ⟨f, rfl, h0, h5, h7, -⟩ := ha.lit
  change Code.wp _ _ _ ⟨#[f 0, f 1, f 2, f 3, f 4, f 5, f 6, f 7, f 8, f 9, f 10, f 11, f 12, f 13, f 14, f 15, f 16, f 17, f 18, f 19, f 20, f 21, f 22, f 23, f 24, f 25, f 26, f 27, f 28, f 29, f 30, f 31, f 32, f 33, f 34, f 35, f 36, f 37, f 38, f 39, f 40, f 41, f 42, f 43, f 44, f 45, f 46, f 47, f 48, f 49, f 50, f 51, f 52, f 53, f 54, f 55, f 56, f 57, f 58, f 59, f 60, f 61, f 62, f 63, f 64, f 65, f 66, f 67, f 68, f 69, f 70, f 71, f 72, f 73, f 74, f 75, f 76, f 77, f 78, f 79, f 80, f 81, f 82, f 83, f 84, f 85, f 86, f 87, f 88, f 89, f 90, f 91, f 92, f 93, f 94, f 95, f 96, f 97, f 98, f 99, f 100, f 101, f 102, f 103, f 104, f 105, f 106, f 107, f 108, f 109, f 110, f 111, f 112, f 113, f 114, f 115, f 116, f 117, f 118, f 119, f 120, f 121, f 122, f 123, f 124, f 125, f 126, f 127, f 128, f 129, f 130, f 131, f 132, f 133, f 134, f 135, f 136, f 137, f 138, f 139, f 140, f 141, f 142, f 143, f 144, f 145, f 146, f 147, f 148], []⟩ _
  simp only at h0 h5 h7
  simp only [h0, h5, h7]
  clear h0 h5 h7
  change Code.wp _ (Code.seq (hd (sq 5 body14)) (sq 6 body14)) _ _ _
  generalize sq 6 body14 = REST at hK ⊢
  conv => arg 2; arg 1; whnf
  by_cases d : 0 < H
  · have d2 : decide ((0 : Int) < (H : Int)) = true := decide_eq_true (by omega)
    rw [if_pos d] at hR
    have hRk : (H : Int) + 1 = (R : Int) := by omega
    clear hR
    go_wp2
    exact hK.out _ ⟨rfl, rfl, rfl, rfl, rfl, trivial⟩
  · have d2 : decide ((0 : Int) < (H : Int)) = false := decide_eq_false (by omega)
    rw [if_neg d] at hR
    obtain rfl : H = 0 := by omega
    subst hR
    go_wp2
    exact hK.out _ ⟨rfl, rfl, rfl, rfl, rfl, trivial⟩
set_option maxRecDepth 100000 in
set_option maxHeartbeats 4000000 in
theorem rDecode_any (s : ByteArray) (w : World) (hs : s.size < 67108865) : Calls Try.prog 14 #[.string s] w fun e w' => dcA (decS usual s) w.heap.size e w' ∧ Below w.heap.size w w' := by
  obtain ⟨F, hF⟩ : ∃ F, Hid (decS usual s = F) := ⟨_, rfl⟩
  rw [hF.out]
  have HS : Hid (s.size < 67108865) := hs
  clear hs
  have hB0 : Hid (Below w.heap.size w (w.alloc (.cells #[] 21))) := (Below.refl _ w).alloc (Nat.le_refl _) _
  have hE0 : Hid (Rw .i32 21 w.heap.size (w.alloc (.cells #[] 21)) (.slice (some ⟨w.heap.size, 0, none⟩) 0 0) []) := ⟨rfl, .inr ⟨_, _, _, rfl, Nat.le_refl _, heap_new _ _, by simp, by decide, rfl, rfl⟩⟩
  generalize hO : w.heap.size = O at *
  have hK : Hid (∀ a W v0 L0, Hid (F = finJ L0 (rdL usual s (s.size - frN usual s) (frN usual s) 128 0 72 L0.length)) → L0.length = hdN usual s → Hid (Rw .i32 21 O W v0 L0) → Hid (Below O w W) → At 149 [(0, .string s), (5, .int .i64 (hdN usual s : Int)), (7, v0)] a → Code.wp Try.prog (sq 5 body14) (bodyPost Try.prog Try.f14 fun e w' => dcA F O e w' ∧ Below O w w') a W) := fun a W v0 L0 h1 h2 h3 h4 ha =>
    rdec_cond s (hdN usual s) (frN usual s) v0 a W rfl (by have hx := HS.out; have := (hdN_lt usual s).1; omega) (fun a ha => rdec_main s F (frN usual s) O L0 v0 a w W HS (frN_le usual s).1 (by rw [h2]; exact (frN_le usual s).2) h1 h3 h4 (by omega) ha) ha
  go_enter Try.func14, Try.ntmps14
  change Code.wp _ (Code.seq (hd (sq 0 body14)) (Code.seq (hd (sq 1 body14)) (Code.seq (hd (sq 2 body14)) (Code.seq (hd (sq 3 body14)) (Code.seq (hd (sq 4 body14)) (sq 5 body14)))))) _ _ _
  generalize sq 5 body14 = REST at hK ⊢
  conv => arg 2; arg 1; whnf
  conv => arg 2; arg 2; arg 1; whnf
  conv => arg 2; arg 2; arg 2; arg 1; whnf
  conv => arg 2; arg 2; arg 2; arg 2; arg 1; whnf
  conv => arg 2; arg 2; arg 2; arg 2; arg 2; arg 1; whnf
  go_wp2
  go_loopw [5, 6] (fun y x wr => ∃ k : Nat, x = .int .i64 (k : Int) ∧ y = .int .i64 ((lix s 45 k).toNat : Int) ∧ k ≤ s.size ∧ Hid (wr = w)) (fun _ x _ => s.size - (RowKit.intOf x).toNat)
  case atStart => exact ⟨0, rfl, rfl, Nat.zero_le _, rfl⟩
  case round =>
    obtain ⟨k, rfl, rfl, hk, hwr⟩ := hrel
    rw [Hid] at hwr
    replace hwr := hwr.symm
    subst hwr
    by_cases c : k < s.size
    · have c1 : (k : Int) < (s.size : Int) := by omega
      have c2 : decide ((k : Int) < (s.size : Int)) = true := decide_eq_true c1
      have q0 : (s[k]'c).toNat = byt s k := byt_eq s k c
      have k9 : (k : Int) ≤ 9007199254740992 := by have := HS.out; omega
      have hx : lix s 45 (k + 1) = if (byt s k : Int) = 45 then (k : Int) else lix s 45 k := rfl
      have hl := (lix_bound s 45 k).1
      clear hE0 hB0
      by_cases d : (byt s k : Int) = 45
      · rw [if_pos d] at hx
        have d2 : ((byt s k : Int) == 45) = true := by simpa using d
        have HX : Hid ((k : Int) = ((lix s 45 (k + 1)).toNat : Int)) := by show _ = _; rw [hx]; omega
        clear hx hl d
        generalize byt s k = Y at *
        generalize lix s 45 k = Z at *
        go_wp2
        refine ⟨⟨k + 1, by simp, by rw [← HX.out], by omega, by first | exact trivial | exact rfl⟩, ?_⟩
        simp [RowKit.intOf]; omega
      · rw [if_neg d] at hx
        have d2 : ((byt s k : Int) == 45) = false := by simpa using d
        have HX : Hid (((lix s 45 k).toNat : Int) = ((lix s 45 (k + 1)).toNat : Int)) := by show _ = _; rw [hx]
        clear hx hl d
        generalize byt s k = Y at *
        generalize lix s 45 k = Z at *
        go_wp2
        refine ⟨⟨k + 1, by simp, by rw [← HX.out], by omega, by first | exact trivial | exact rfl⟩, ?_⟩
        simp [RowKit.intOf]; omega
    · obtain rfl : k = s.size := by omega
      have c2 : decide ((s.size : Int) < (s.size : Int)) = false := by simp
      have hH : (lix s 45 s.size).toNat = hdN usual s := rfl
      have hhd := hdN_lt usual s
      have hfr := frN_le usual s
      have hfe : frN usual s = if 0 < hdN usual s then hdN usual s + 1 else 0 := rfl
      have hdS := decS_fin usual s
      have hdB : ∀ k, fbF usual s (hdN usual s) 0 = some k → decS usual s = .inl (k, 141) := fun k h => by unfold decS; rw [h]
      rw [hH]
      simp only [hF.out] at hdS hdB
      obtain ⟨H, hHH⟩ : ∃ H, hdN usual s = H := ⟨_, rfl⟩
      obtain ⟨R, hRR⟩ : ∃ R, frN usual s = R := ⟨_, rfl⟩
      simp only [hHH, hRR] at hhd hfr hfe hdS hdB hK ⊢
      replace hK : Hid _ := hK
      replace hdS : Hid _ := hdS
      replace hdB : Hid _ := hdB
      replace hhd : Hid _ := hhd
      replace hfr : Hid _ := hfr
      clear hH hF hk
      go_wp2
      generalize w.alloc (.cells #[] 21) = W1 at *
      go_loopw [7, 8] (fun v x wq => ∃ k : Nat, x = .int .i64 (k : Int) ∧ k ≤ H ∧ Hid (fbF usual s H 0 = fbF usual s (H - k) k) ∧ Hid (Rw .i32 21 O wq v (ahd s k)) ∧ Hid (Below O w wq)) (fun _ x _ => H - (RowKit.intOf x).toNat)
      case atStart => exact ⟨0, rfl, Nat.zero_le _, rfl, hE0.out, hB0⟩
      case round =>
        clear hE0 hB0
        obtain ⟨k, rfl, hk, hfb, hRw, hB⟩ := hrel
        by_cases c : k < H
        · have c1 : (k : Int) < (H : Int) := by omega
          have c2 : decide ((k : Int) < (H : Int)) = true := decide_eq_true c1
          have hks : k < s.size := by have := hhd.out; omega
          have q0 : (s[k]'hks).toNat = byt s k := byt_eq s k hks
          have q1 : (k : Int) < (s.size : Int) := by omega
          have k9 : (k : Int) ≤ 9007199254740992 := by have := HS.out; omega
          have hfx : fbF usual s H 0 = if (byt s k : Int) < 128 ∧ (byt s k : Int) < 128 then fbF usual s (H - (k + 1)) (k + 1) else some k := by
            rw [hfb.out, show H - k = (H - (k + 1)) + 1 by omega, fbF]; rfl
          have hsn := ahd_snoc s k
          have hy := byt_lt s k
          have hlen := ahd_len s k
          by_cases d : (127 : Int) < (byt s k : Int)
          · rw [if_neg (by omega)] at hfx
            have HE : Hid (F = .inl (k, 141)) := hdB.out k hfx
            have d2 : decide ((127 : Int) < (byt s k : Int)) = true := decide_eq_true d
            clear hfx hsn hy d hRw hlen
            generalize byt s k = Y at *
            go_wp2
            go_ret3
            rw [HE.out]
            exact ⟨rfl, hB.out⟩
          · rw [if_pos (by omega)] at hfx
            have HE : Hid (fbF usual s H 0 = fbF usual s (H - (k + 1)) (k + 1)) := hfx
            have d2 : decide ((127 : Int) < (byt s k : Int)) = false := decide_eq_false d
            have hi32 : IntKind.i32.wrap (byt s k : Int) = (byt s k : Int) := IntWalk.i32_in _ ⟨by omega, by omega⟩
            replace hsn : Hid (ahd s (k + 1) = ahd s k ++ [(byt s k : Int)]) := hsn
            obtain ⟨AL, hAL⟩ : ∃ AL, ahd s k = AL := ⟨_, rfl⟩
            rw [hAL] at hRw hsn hlen
            have hlA : AL.length < 1000000000 := by have := HS.out; omega
            have hbO : O ≤ wr.heap.size := by have := hB.out.size; omega
            clear hfx hy d hlen hAL
            generalize byt s k = Y at *
            go_wp2_with (at_builtin; go_must (refine wpList_app1 rfl _ _ 22 rfl O 21 .i32 4 Try.underlying22 info21 (by decide) u7 AL (Y : Int) rfl hRw.out rfl hlA hbO ?_))
            intro v' w3 hR3 _ hB3
            have HX : Hid (k + 1 ≤ H ∧ Hid (fbF usual s H 0 = fbF usual s (H - (k + 1)) (k + 1)) ∧ Hid (Rw .i32 21 O w3 v' (ahd s (k + 1))) ∧ Hid (Below O w w3)) := ⟨by omega, HE, by rw [hsn.out]; exact hR3, hB.out.trans hB3.out⟩
            clear hRw hB hR3 hB3 HE hsn
            go_wp2
            refine ⟨⟨k + 1, by simp, HX.out⟩, ?_⟩
            simp [RowKit.intOf]; omega
        · obtain rfl : k = H := by omega
          have c2 : decide ((k : Int) < (k : Int)) = false := by simp
          have hfN : fbF usual s k 0 = none := by rw [hfb.out, Nat.sub_self, fbF]
          have HF : Hid (F = finJ (ahd s k) (rdL usual s (s.size - R) R 128 0 72 (ahd s k).length)) := by rw [ahd_len]; exact hdS.out hfN
          have hlen := ahd_len s k
          have hk9 : (k : Int) ≤ 9007199254740992 := by have h1 := HS.out; have h2 := hhd.out; omega
          go_wp2
          exact hK.out _ _ u7 _ HF hlen hRw hB ⟨rfl, rfl, rfl, rfl, rfl, trivial⟩
end Go.Proofs.Ytahmeejcgddlhaa
