/-
  Two rows in order become one: where both have more.
-/
import Derived.Test.YtahmeejcgddlhabQf
import Derived.Test.YtahmeejcgddlhabQg
namespace Go.Proofs.Ytahmeejcgddlhab
open Go.RowKit
noncomputable def body61 : Code := Try.f62.body.getD .skip
set_option maxRecDepth 100000 in
set_option maxHeartbeats 4000000 in
theorem sym_p1 {Q : Exit → Act → World → Prop} (B lb : Nat) (zs : List Int) (g cap n a m b mid N s0 r0 : Nat) (f : Nat → Int) (ac : Act) (w : World) (hI : Hid (InL B lb zs w)) (hC : Hid (CelC .i64 3 w g cap n f)) (hD : Hid (InD f n zs)) (h1 : Hid (Srt (KZ zs) f a m)) (h2 : Hid (Srt (KZ zs) f m b))
    (HN : Hid (a < m ∧ m < b ∧ b ≤ n ∧ n < 2097152 ∧ B ≤ g ∧ N = mid + m ∧ mid = (a + b) / 2 ∧ (m > mid ∧ s0 = N - b ∧ r0 = mid ∨ ¬ m > mid ∧ s0 = a ∧ r0 = m)))
    (hK : Hid (∀ ac w2 s, Hid (s0 ≤ s ∧ s ≤ r0 ∧ (∀ c, s0 ≤ c → c < s → KZ zs (f c) ≤ KZ zs (f (N - 1 - c))) ∧ (∀ c, s ≤ c → c < r0 → KZ zs (f (N - 1 - c)) < KZ zs (f c))) → Hid (CelC .i64 3 w2 g cap n f) → Hid (Only g w w2) → At 220 [(0, .slice (some ⟨g, 0, none⟩) n cap), (1, .int .i64 (a : Int)), (2, .int .i64 (m : Int)), (3, .int .i64 (b : Int)), (4, .func (.func 50) #[] #[.pointer (some ⟨lb, 0, none⟩)]), (18, .int .i64 (mid : Int)), (19, .int .i64 (N : Int)), (20, .int .i64 (s : Int))] ac → Code.wp Try.prog (sq 8 body61) Q ac w2)) (ha : At 220 [(0, .slice (some ⟨g, 0, none⟩) n cap), (1, .int .i64 (a : Int)), (2, .int .i64 (m : Int)), (3, .int .i64 (b : Int)), (4, .func (.func 50) #[] #[.pointer (some ⟨lb, 0, none⟩)]), (18, .int .i64 (mid : Int)), (19, .int .i64 (N : Int)), (20, .int .i64 (s0 : Int)), (21, .int .i64 (r0 : Int))] ac) : Code.wp Try.prog (sq 6 body61) Q ac w := by
  have N9 : (N : Int) ≤ 9007199254740992 := by have := HN.out; omega
  have N1 : 1 ≤ (N : Int) := by have := HN.out; omega
  have hst : s0 ≤ r0 := by have := HN.out; omega
  have hm : Hid (m < b ∧ b ≤ n) := ⟨HN.out.2.1, HN.out.2.2.1⟩
  obtain ⟨fr, rfl, h0, h1, h2, h3, h4, h18, h19, h20, h21, -⟩ := ha.lit
  change Code.wp _ _ _ ⟨#[fr 0, fr 1, fr 2, fr 3, fr 4, fr 5, fr 6, fr 7, fr 8, fr 9, fr 10, fr 11, fr 12, fr 13, fr 14, fr 15, fr 16, fr 17, fr 18, fr 19, fr 20, fr 21, fr 22, fr 23, fr 24, fr 25, fr 26, fr 27, fr 28, fr 29, fr 30, fr 31, fr 32, fr 33, fr 34, fr 35, fr 36, fr 37, fr 38, fr 39, fr 40, fr 41, fr 42, fr 43, fr 44, fr 45, fr 46, fr 47, fr 48, fr 49, fr 50, fr 51, fr 52, fr 53, fr 54, fr 55, fr 56, fr 57, fr 58, fr 59, fr 60, fr 61, fr 62, fr 63, fr 64, fr 65, fr 66, fr 67, fr 68, fr 69, fr 70, fr 71, fr 72, fr 73, fr 74, fr 75, fr 76, fr 77, fr 78, fr 79, fr 80, fr 81, fr 82, fr 83, fr 84, fr 85, fr 86, fr 87, fr 88, fr 89, fr 90, fr 91, fr 92, fr 93, fr 94, fr 95, fr 96, fr 97, fr 98, fr 99, fr 100, fr 101, fr 102, fr 103, fr 104, fr 105, fr 106, fr 107, fr 108, fr 109, fr 110, fr 111, fr 112, fr 113, fr 114, fr 115, fr 116, fr 117, fr 118, fr 119, fr 120, fr 121, fr 122, fr 123, fr 124, fr 125, fr 126, fr 127, fr 128, fr 129, fr 130, fr 131, fr 132, fr 133, fr 134, fr 135, fr 136, fr 137, fr 138, fr 139, fr 140, fr 141, fr 142, fr 143, fr 144, fr 145, fr 146, fr 147, fr 148, fr 149, fr 150, fr 151, fr 152, fr 153, fr 154, fr 155, fr 156, fr 157, fr 158, fr 159, fr 160, fr 161, fr 162, fr 163, fr 164, fr 165, fr 166, fr 167, fr 168, fr 169, fr 170, fr 171, fr 172, fr 173, fr 174, fr 175, fr 176, fr 177, fr 178, fr 179, fr 180, fr 181, fr 182, fr 183, fr 184, fr 185, fr 186, fr 187, fr 188, fr 189, fr 190, fr 191, fr 192, fr 193, fr 194, fr 195, fr 196, fr 197, fr 198, fr 199, fr 200, fr 201, fr 202, fr 203, fr 204, fr 205, fr 206, fr 207, fr 208, fr 209, fr 210, fr 211, fr 212, fr 213, fr 214, fr 215, fr 216, fr 217, fr 218, fr 219], []⟩ _
  simp only at h0 h1 h2 h3 h4 h18 h19 h20 h21
  simp only [h0, h1, h2, h3, h4, h18, h19, h20, h21]
  clear h0 h1 h2 h3 h4 h18 h19 h20 h21
  change Code.wp _ (Code.seq (hd (sq 6 body61)) (Code.seq (hd (sq 7 body61)) (sq 8 body61))) _ _ _
  generalize sq 8 body61 = REST at hK ⊢
  conv => arg 2; arg 1; whnf
  conv => arg 2; arg 2; arg 1; whnf
  go_wp2
  go_loopw [20, 21] (fun x y wr => ∃ i j : Nat, x = .int .i64 (i : Int) ∧ y = .int .i64 (j : Int) ∧ Hid (s0 ≤ i ∧ i ≤ j ∧ j ≤ r0 ∧ (∀ c, s0 ≤ c → c < i → KZ zs (f c) ≤ KZ zs (f (N - 1 - c))) ∧ (∀ c, j ≤ c → c < r0 → KZ zs (f (N - 1 - c)) < KZ zs (f c)) ∧ CelC .i64 3 wr g cap n f) ∧ Hid (Only g w wr)) (fun x y _ => (RowKit.intOf y).toNat - (RowKit.intOf x).toNat)
  case atStart => exact ⟨s0, r0, rfl, rfl, ⟨Nat.le_refl _, hst, Nat.le_refl _, fun d _ _ => by omega, fun d _ _ => by omega, hC.out⟩, Only.refl _ _⟩
  case round =>
    clear hC hst
    obtain ⟨i, j, rfl, rfl, ⟨g1, g2, g3, g4, g5, hC⟩, hO⟩ := hrel
    obtain ⟨n1, n2, n3, n4, n5, n6, n7, n8⟩ := HN.out
    by_cases c : i < j
    · have c1 : decide ((i : Int) < (j : Int)) = true := decide_eq_true (by omega)
      have i9 : (i : Int) ≤ 9007199254740992 := by omega
      have j9 : (j : Int) ≤ 9007199254740992 := by omega
      obtain ⟨h, hh⟩ : ∃ h, (i + j) / 2 = h := ⟨_, rfl⟩
      obtain ⟨v, hv⟩ : ∃ v, N - 1 - h = v := ⟨_, rfl⟩
      have e1 : ((i : Int) + (j : Int)) / 2 = (h : Int) := by omega
      have hh1 : i ≤ h ∧ h < j := by omega
      have hb1 : a ≤ h ∧ h < m ∧ m ≤ v ∧ v < b := by omega
      have e2 : (N : Int) - 1 - (h : Int) = (v : Int) := by omega
      obtain ⟨x1, -⟩ := hC.at h (by omega)
      obtain ⟨y1, -⟩ := hC.at v (by omega)
      have kq := cmp_quiet B lb zs (f v) (f h) wr (hI.out.only hO.out n5) (hD.out _ (by omega)) (hD.out _ (by omega))
      have hk := cmpV_neg (KZ zs (f v)) (KZ zs (f h))
      have hn1 : (h : Int) < (n : Int) := by omega
      have an1 : (v : Int) < (n : Int) := by omega
      have h9 : (h : Int) ≤ 9007199254740992 := by omega
      have v9 : (v : Int) ≤ 9007199254740992 := by omega
      obtain ⟨R, hR⟩ : ∃ R, cmpV (KZ zs (f v)) (KZ zs (f h)) = R := ⟨_, rfl⟩
      rw [hR] at hk
      simp only [hR] at kq
      by_cases cc : R < 0
      · have c3 : decide (R < 0) = true := decide_eq_true cc
        have HE : Hid (∀ q, Hid (s0 ≤ i ∧ i ≤ h ∧ h ≤ r0 ∧ (∀ c, s0 ≤ c → c < i → KZ zs (f c) ≤ KZ zs (f (N - 1 - c))) ∧ (∀ c, h ≤ c → c < r0 → KZ zs (f (N - 1 - c)) < KZ zs (f c)) ∧ CelC .i64 3 (wr.drewN q) g cap n f) ∧ Hid (Only g w (wr.drewN q))) := fun q =>
          ⟨⟨g1, by omega, by omega, g4, fun d x1 x2 => by
            by_cases dj : j ≤ d
            · exact g5 d dj x2
            · have z := h1.out.le (show a ≤ h by omega) x1 (by omega)
              have z2 := h2.out.le (show m ≤ N - 1 - d by omega) (show N - 1 - d ≤ v by omega) (by omega)
              have := hk.1 cc; omega, hC.drew q⟩, only_drew hO.out q⟩
        have hj2 : Hid (i ≤ h ∧ h < j) := hh1
        clear g1 g2 g3 g4 g5 hC hO n1 n2 n3 n4 n5 n6 n7 n8 hk hR cc hh hh1 hb1 hv HN hm
        obtain ⟨X, hX⟩ : ∃ X, f h = X := ⟨_, rfl⟩
        obtain ⟨Y, hY⟩ : ∃ Y, f v = Y := ⟨_, rfl⟩
        simp only [hX] at x1
        simp only [hY] at y1
        simp only [hX, hY] at kq
        clear hX hY
        go_wp2
        go_quiet (first | (go_at_call 50; exact kq _))
        obtain ⟨HE1, HE2⟩ := HE.out nq
        clear x1 y1 kq HE
        generalize wr.drewN nq = W0 at *
        go_wp2
        refine ⟨⟨i, h, rfl, by simp, HE1, HE2⟩, ?_⟩
        have := hj2.out
        simp [RowKit.intOf]; omega
      · have c3 : decide (R < 0) = false := decide_eq_false cc
        have HE : Hid (∀ q, Hid (s0 ≤ h + 1 ∧ h + 1 ≤ j ∧ j ≤ r0 ∧ (∀ c, s0 ≤ c → c < h + 1 → KZ zs (f c) ≤ KZ zs (f (N - 1 - c))) ∧ (∀ c, j ≤ c → c < r0 → KZ zs (f (N - 1 - c)) < KZ zs (f c)) ∧ CelC .i64 3 (wr.drewN q) g cap n f) ∧ Hid (Only g w (wr.drewN q))) := fun q =>
          ⟨⟨by omega, by omega, g3, fun d x1 x2 => by
            have z := h1.out.le (show a ≤ d by omega) (show d ≤ h by omega) (by omega)
            have z2 := h2.out.le (show m ≤ v by omega) (show v ≤ N - 1 - d by omega) (by omega)
            have : ¬ KZ zs (f v) < KZ zs (f h) := fun q => cc (hk.2 q)
            omega, g5, hC.drew q⟩, only_drew hO.out q⟩
        have hj2 : Hid (i ≤ h ∧ h < j) := hh1
        clear g1 g2 g3 g4 g5 hC hO n1 n2 n3 n4 n5 n6 n7 n8 hk hR cc hh hh1 hb1 hv HN hm
        obtain ⟨X, hX⟩ : ∃ X, f h = X := ⟨_, rfl⟩
        obtain ⟨Y, hY⟩ : ∃ Y, f v = Y := ⟨_, rfl⟩
        simp only [hX] at x1
        simp only [hY] at y1
        simp only [hX, hY] at kq
        clear hX hY
        go_wp2
        go_quiet (first | (go_at_call 50; exact kq _))
        obtain ⟨HE1, HE2⟩ := HE.out nq
        clear x1 y1 kq HE
        generalize wr.drewN nq = W0 at *
        go_wp2
        refine ⟨⟨h + 1, j, by simp, rfl, HE1, HE2⟩, ?_⟩
        have := hj2.out
        simp [RowKit.intOf]; omega
    · obtain rfl : i = j := by omega
      have c1 : decide ((i : Int) < (i : Int)) = false := by simp
      have HE : Hid (s0 ≤ i ∧ i ≤ r0 ∧ (∀ c, s0 ≤ c → c < i → KZ zs (f c) ≤ KZ zs (f (N - 1 - c))) ∧ (∀ c, i ≤ c → c < r0 → KZ zs (f (N - 1 - c)) < KZ zs (f c))) := ⟨g1, g3, g4, g5⟩
      have HC : Hid (CelC .i64 3 wr g cap n f) := hC
      clear g1 g2 g3 g4 g5 hC n1 n2 n3 n4 n5 n6 n7 n8 c HN hm
      go_wp2
      exact hK.out _ _ i HE HC hO ⟨rfl, rfl, rfl, rfl, rfl, rfl, rfl, rfl, rfl, rfl, trivial⟩
set_option maxRecDepth 100000 in
set_option maxHeartbeats 2000000 in
theorem sym_p2 {Q : Exit → Act → World → Prop} (lb g cap n a m b mid N s e : Nat) (f : Nat → Int) (ac : Act) (w : World) (hC : Hid (CelC .i64 3 w g cap n f)) (HN : Hid (s ≤ m ∧ m ≤ e ∧ e ≤ b ∧ b ≤ n ∧ n < 2097152 ∧ e = N - s ∧ s ≤ N ∧ N ≤ 4194304))
    (hK : Hid (∀ ac w2, Hid (CelC .i64 3 w2 g cap n (rot f s m e)) → Hid (Only g w w2) → At 220 [(0, .slice (some ⟨g, 0, none⟩) n cap), (1, .int .i64 (a : Int)), (2, .int .i64 (m : Int)), (3, .int .i64 (b : Int)), (4, .func (.func 50) #[] #[.pointer (some ⟨lb, 0, none⟩)]), (18, .int .i64 (mid : Int)), (20, .int .i64 (s : Int)), (24, .int .i64 (e : Int))] ac → Code.wp Try.prog (sq 10 body61) Q ac w2)) (ha : At 220 [(0, .slice (some ⟨g, 0, none⟩) n cap), (1, .int .i64 (a : Int)), (2, .int .i64 (m : Int)), (3, .int .i64 (b : Int)), (4, .func (.func 50) #[] #[.pointer (some ⟨lb, 0, none⟩)]), (18, .int .i64 (mid : Int)), (19, .int .i64 (N : Int)), (20, .int .i64 (s : Int))] ac) : Code.wp Try.prog (sq 8 body61) Q ac w := by
  obtain ⟨n1, n2, n3, n4, n5, n6, n7, n8⟩ := HN.out
  have e1 : (N : Int) - (s : Int) = (e : Int) := by omega
  have N9 : (N : Int) ≤ 9007199254740992 := by omega
  have s9 : (s : Int) ≤ 9007199254740992 := by omega
  obtain ⟨fr, rfl, h0, h1, h2, h3, h4, h18, h19, h20, -⟩ := ha.lit
  change Code.wp _ _ _ ⟨#[fr 0, fr 1, fr 2, fr 3, fr 4, fr 5, fr 6, fr 7, fr 8, fr 9, fr 10, fr 11, fr 12, fr 13, fr 14, fr 15, fr 16, fr 17, fr 18, fr 19, fr 20, fr 21, fr 22, fr 23, fr 24, fr 25, fr 26, fr 27, fr 28, fr 29, fr 30, fr 31, fr 32, fr 33, fr 34, fr 35, fr 36, fr 37, fr 38, fr 39, fr 40, fr 41, fr 42, fr 43, fr 44, fr 45, fr 46, fr 47, fr 48, fr 49, fr 50, fr 51, fr 52, fr 53, fr 54, fr 55, fr 56, fr 57, fr 58, fr 59, fr 60, fr 61, fr 62, fr 63, fr 64, fr 65, fr 66, fr 67, fr 68, fr 69, fr 70, fr 71, fr 72, fr 73, fr 74, fr 75, fr 76, fr 77, fr 78, fr 79, fr 80, fr 81, fr 82, fr 83, fr 84, fr 85, fr 86, fr 87, fr 88, fr 89, fr 90, fr 91, fr 92, fr 93, fr 94, fr 95, fr 96, fr 97, fr 98, fr 99, fr 100, fr 101, fr 102, fr 103, fr 104, fr 105, fr 106, fr 107, fr 108, fr 109, fr 110, fr 111, fr 112, fr 113, fr 114, fr 115, fr 116, fr 117, fr 118, fr 119, fr 120, fr 121, fr 122, fr 123, fr 124, fr 125, fr 126, fr 127, fr 128, fr 129, fr 130, fr 131, fr 132, fr 133, fr 134, fr 135, fr 136, fr 137, fr 138, fr 139, fr 140, fr 141, fr 142, fr 143, fr 144, fr 145, fr 146, fr 147, fr 148, fr 149, fr 150, fr 151, fr 152, fr 153, fr 154, fr 155, fr 156, fr 157, fr 158, fr 159, fr 160, fr 161, fr 162, fr 163, fr 164, fr 165, fr 166, fr 167, fr 168, fr 169, fr 170, fr 171, fr 172, fr 173, fr 174, fr 175, fr 176, fr 177, fr 178, fr 179, fr 180, fr 181, fr 182, fr 183, fr 184, fr 185, fr 186, fr 187, fr 188, fr 189, fr 190, fr 191, fr 192, fr 193, fr 194, fr 195, fr 196, fr 197, fr 198, fr 199, fr 200, fr 201, fr 202, fr 203, fr 204, fr 205, fr 206, fr 207, fr 208, fr 209, fr 210, fr 211, fr 212, fr 213, fr 214, fr 215, fr 216, fr 217, fr 218, fr 219], []⟩ _
  simp only at h0 h1 h2 h3 h4 h18 h19 h20
  simp only [h0, h1, h2, h3, h4, h18, h19, h20]
  clear h0 h1 h2 h3 h4 h18 h19 h20
  change Code.wp _ (Code.seq (hd (sq 8 body61)) (Code.seq (hd (sq 9 body61)) (sq 10 body61))) _ _ _
  generalize sq 10 body61 = REST at hK ⊢
  conv => arg 2; arg 1; whnf
  conv => arg 2; arg 2; arg 1; whnf
  by_cases c1 : s < m
  · have c1' : decide (s < m) = true := decide_eq_true c1
    have c1i : (s : Int) < (m : Int) := by omega
    by_cases c2 : m < e
    · have c2' : decide (m < e) = true := decide_eq_true c2
      have c2i : (m : Int) < (e : Int) := by omega
      have k62 := rotate_any g cap n s m e f (.func (.func 50) #[] #[.pointer (some ⟨lb, 0, none⟩)]) w c1 c2 (by omega) n5 hC.out
      clear HN n1 n2 n3 n4 n5 n6 n7 n8 hC
      go_wp2_with (go_at_call 63; refine k62.mono ?_)
      rintro _ w2 ⟨rfl, hc2, ho2⟩
      have hC2 : Hid (CelC .i64 3 w2 g cap n (rot f s m e)) := hc2
      have hO2 : Hid (Only g w w2) := ho2
      clear hc2 ho2 k62
      go_wp2
      exact hK.out _ _ hC2 hO2 ⟨rfl, rfl, rfl, rfl, rfl, rfl, rfl, rfl, rfl, rfl, trivial⟩
    · have c2' : decide (m < e) = false := decide_eq_false c2
      have hC2 : Hid (CelC .i64 3 w g cap n (rot f s m e)) := hC.out.congr (fun k _ => by
        obtain rfl : e = m := by omega
        rw [rot_none f s e n1 k])
      have hO2 : Hid (Only g w w) := Only.refl _ _
      clear HN n1 n2 n3 n4 n5 n6 n7 n8 hC
      go_wp2
      exact hK.out _ _ hC2 hO2 ⟨rfl, rfl, rfl, rfl, rfl, rfl, rfl, rfl, rfl, rfl, trivial⟩
  · have c1' : decide (s < m) = false := decide_eq_false c1
    have hC2 : Hid (CelC .i64 3 w g cap n (rot f s m e)) := hC.out.congr (fun k _ => by
      obtain rfl : s = m := by omega
      rw [rot_nil f s e n2 k])
    have hO2 : Hid (Only g w w) := Only.refl _ _
    clear HN n1 n2 n3 n4 n5 n6 n7 n8 hC
    go_wp2
    exact hK.out _ _ hC2 hO2 ⟨rfl, rfl, rfl, rfl, rfl, rfl, rfl, rfl, rfl, rfl, trivial⟩
end Go.Proofs.Ytahmeejcgddlhab
