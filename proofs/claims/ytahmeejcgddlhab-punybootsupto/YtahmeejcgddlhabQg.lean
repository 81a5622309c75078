/-
  Two rows in order become one: where the second has but one.
-/
import Derived.Test.YtahmeejcgddlhabQe
namespace Go.Proofs.Ytahmeejcgddlhab
open Go.RowKit
set_option maxRecDepth 100000 in
set_option maxHeartbeats 8000000 in
theorem symB (B lb : Nat) (zs : List Int) (g cap n a m : Nat) (f : Nat → Int) (w : World) (hI : InL B lb zs w) (hBg : B ≤ g) (hab : a + 2 ≤ m) (hbn : m + 1 ≤ n) (hn : n < 2097152) (hd : InD f n zs) (hs : Srt (KZ zs) f a m) (hx : Idx f a m (m + 1)) (hC : CelC .i64 3 w g cap n f) :
    Calls Try.prog 62 #[.slice (some ⟨g, 0, none⟩) n cap, .int .i64 (a : Int), .int .i64 (m : Int), .int .i64 ((m + 1 : Nat) : Int), .func (.func 50) #[] #[.pointer (some ⟨lb, 0, none⟩)]] w fun e w' => e = .returned (.tuple #[]) ∧ (∃ h, CelC .i64 3 w' g cap n h ∧ Sam f h a (m + 1) ∧ Srt (KZ zs) h a (m + 1)) ∧ Only g w w' := by
  have HN : Hid (a + 2 ≤ m ∧ m + 1 ≤ n ∧ n < 2097152 ∧ B ≤ g) := ⟨hab, hbn, hn, hBg⟩
  have HC : Hid (CelC .i64 3 w g cap n f) := hC
  have HD : Hid (InD f n zs) := hd
  have HI : Hid (InL B lb zs w) := hI
  have HS : Hid (Srt (KZ zs) f a m) := hs
  have HX : Hid (Idx f a m (m + 1)) := hx
  have a9 : (a : Int) ≤ 9007199254740992 := by omega
  have m9 : (m : Int) ≤ 9007199254740992 := by omega
  obtain ⟨b, hm⟩ : ∃ b, m + 1 = b := ⟨_, rfl⟩
  have m1 : (b : Int) - (m : Int) = 1 := by omega
  have m2 : (((m : Int) - (a : Int)) == 1) = false := by simp; omega
  have b9 : (b : Int) ≤ 9007199254740992 := by omega
  rw [hm]
  replace hm : Hid (m + 1 = b) := hm
  clear hab hbn hn hBg hC hd hI hs hx
  go_enter Try.func62, Try.ntmps62
  go_wp2
  clear m1 m2
  go_loopw [14, 15] (fun x y wr => ∃ i j : Nat, x = .int .i64 (i : Int) ∧ y = .int .i64 (j : Int) ∧ Hid (a ≤ i ∧ i ≤ j ∧ j ≤ m ∧ (∀ c, a ≤ c → c < i → KZ zs (f c) ≤ KZ zs (f m)) ∧ (∀ c, j ≤ c → c < m → KZ zs (f m) < KZ zs (f c)) ∧ CelC .i64 3 wr g cap n f) ∧ Hid (Only g w wr)) (fun x y _ => (RowKit.intOf y).toNat - (RowKit.intOf x).toNat)
  case atStart => exact ⟨a, m, rfl, rfl, ⟨Nat.le_refl _, by have h1 := HN.out; omega, Nat.le_refl _, fun d _ _ => by omega, fun d _ _ => by omega, HC.out⟩, Only.refl _ _⟩
  case round =>
    clear HC
    obtain ⟨i, j, rfl, rfl, ⟨g1, g2, g3, g4, g5, hC⟩, hO⟩ := hrel
    obtain ⟨n1, n2, n3, n4⟩ := HN.out
    by_cases c : i < j
    · have c1 : decide ((i : Int) < (j : Int)) = true := decide_eq_true (by omega)
      have i9 : (i : Int) ≤ 9007199254740992 := by omega
      have j9 : (j : Int) ≤ 9007199254740992 := by omega
      obtain ⟨h, hh⟩ : ∃ h, (i + j) / 2 = h := ⟨_, rfl⟩
      have e1 : ((i : Int) + (j : Int)) / 2 = (h : Int) := by omega
      obtain ⟨x1, -⟩ := hC.at h (by omega)
      obtain ⟨y1, -⟩ := hC.at m (by omega)
      have hh1 : i ≤ h ∧ h < j := by omega
      have kq := cmp_quiet B lb zs (f m) (f h) wr (HI.out.only hO.out n4) (HD.out _ (by omega)) (HD.out _ (by omega))
      have hk := cmpV_neg (KZ zs (f m)) (KZ zs (f h))
      have hn1 : (h : Int) < (n : Int) := by omega
      have an1 : (m : Int) < (n : Int) := by omega
      have h9 : (h : Int) ≤ 9007199254740992 := by omega
      obtain ⟨R, hR⟩ : ∃ R, cmpV (KZ zs (f m)) (KZ zs (f h)) = R := ⟨_, rfl⟩
      rw [hR] at hk
      simp only [hR] at kq
      by_cases cc : R < 0
      · have c3 : decide (R < 0) = true := decide_eq_true cc
        have HE : Hid (∀ q, Hid (a ≤ i ∧ i ≤ h ∧ h ≤ m ∧ (∀ c, a ≤ c → c < i → KZ zs (f c) ≤ KZ zs (f m)) ∧ (∀ c, h ≤ c → c < m → KZ zs (f m) < KZ zs (f c)) ∧ CelC .i64 3 (wr.drewN q) g cap n f) ∧ Hid (Only g w (wr.drewN q))) := fun q =>
          ⟨⟨g1, by omega, by omega, g4, fun d h1 h2 => by
            have z := HS.out.le (show a ≤ h by omega) h1 h2
            have := hk.1 cc; omega, hC.drew q⟩, only_drew hO.out q⟩
        have hj2 : Hid (i ≤ h ∧ h < j) := hh1
        clear g1 g2 g3 g4 g5 hC hO n1 n2 n3 n4 hk hR cc hh hh1
        obtain ⟨X, hX⟩ : ∃ X, f h = X := ⟨_, rfl⟩
        obtain ⟨Y, hY⟩ : ∃ Y, f m = Y := ⟨_, rfl⟩
        simp only [hX] at x1
        simp only [hY] at y1
        simp only [hX, hY] at kq
        clear hX hY
        go_wp2
        go_quiet (first | (go_at_call 50; exact kq _))
        obtain ⟨HE1, HE2⟩ := HE.out nq
        clear x1 y1 kq HE
        generalize wr.drewN nq = W0 at *
        go_wp2
        refine ⟨⟨i, h, rfl, by simp, HE1, HE2⟩, ?_⟩
        have := hj2.out
        simp [RowKit.intOf]; omega
      · have c3 : decide (R < 0) = false := decide_eq_false cc
        have HE : Hid (∀ q, Hid (a ≤ h + 1 ∧ h + 1 ≤ j ∧ j ≤ m ∧ (∀ c, a ≤ c → c < h + 1 → KZ zs (f c) ≤ KZ zs (f m)) ∧ (∀ c, j ≤ c → c < m → KZ zs (f m) < KZ zs (f c)) ∧ CelC .i64 3 (wr.drewN q) g cap n f) ∧ Hid (Only g w (wr.drewN q))) := fun q =>
          ⟨⟨by omega, by omega, g3, fun d h1 h2 => by
            have z := HS.out.le h1 (show d ≤ h by omega) (by omega)
            have : ¬ KZ zs (f m) < KZ zs (f h) := fun q => cc (hk.2 q)
            omega, g5, hC.drew q⟩, only_drew hO.out q⟩
        have hj2 : Hid (i ≤ h ∧ h < j) := hh1
        clear g1 g2 g3 g4 g5 hC hO n1 n2 n3 n4 hk hR cc hh hh1
        obtain ⟨X, hX⟩ : ∃ X, f h = X := ⟨_, rfl⟩
        obtain ⟨Y, hY⟩ : ∃ Y, f m = Y := ⟨_, rfl⟩
        simp only [hX] at x1
        simp only [hY] at y1
        simp only [hX, hY] at kq
        clear hX hY
        go_wp2
        go_quiet (first | (go_at_call 50; exact kq _))
        obtain ⟨HE1, HE2⟩ := HE.out nq
        clear x1 y1 kq HE
        generalize wr.drewN nq = W0 at *
        go_wp2
        refine ⟨⟨h + 1, j, by simp, rfl, HE1, HE2⟩, ?_⟩
        have := hj2.out
        simp [RowKit.intOf]; omega
    · obtain rfl : i = j := by omega
      have c1 : decide ((i : Int) < (i : Int)) = false := by simp
      have HF : Hid (Srt (KZ zs) (rot f i m (m + 1)) a (m + 1)) := one_back HS.out HX.out g1 g3 g5 (fun d h1 h2 => by have := g4 d h1 h2; omega)
      have HC0 : Hid (CelC .i64 3 wr g cap n (rot f m m (m + 1))) := hC.congr (fun k _ => (rot_nil f m (m + 1) (by omega) k).symm)
      have hib : Hid (a ≤ i ∧ i ≤ m ∧ m + 1 ≤ n ∧ n < 2097152) := ⟨g1, g3, n2, n3⟩
      have i9 : (i : Int) ≤ 9007199254740992 := by omega
      have hm2 := hm.out
      clear g1 g2 g3 g4 g5 hC n1 n2 n3 n4 c
      go_wp2
      go_loopw [17] (fun x wq => ∃ k : Nat, x = .int .i64 (k : Int) ∧ Hid (i ≤ k ∧ k ≤ m ∧ CelC .i64 3 wq g cap n (rot f k m (m + 1))) ∧ Hid (Only g w wq)) (fun x _ => (RowKit.intOf x).toNat)
      case atStart => exact ⟨m, rfl, ⟨hib.out.2.1, Nat.le_refl _, HC0.out⟩, hO⟩
      case round =>
        clear HC0 hO
        obtain ⟨k, rfl, ⟨r1, r2, hC⟩, hO⟩ := hrel
        obtain ⟨b1, b2, b3, b4⟩ := hib.out
        have k9 : (k : Int) ≤ 9007199254740992 := by omega
        by_cases d : i < k
        · have d1 : decide ((i : Int) < (k : Int)) = true := decide_eq_true (by omega)
          have d0 : (i : Int) < (k : Int) := by omega
          obtain ⟨v, hv⟩ : ∃ v, v + 1 = k := ⟨k - 1, by omega⟩
          have e1 : (k : Int) - 1 = (v : Int) := by omega
          obtain ⟨x1, x2⟩ := hC.at k (by omega)
          obtain ⟨y1, y2⟩ := hC.at v (by omega)
          have kn : (k : Int) < (n : Int) := by omega
          have vn : (v : Int) < (n : Int) := by omega
          have v9 : (v : Int) ≤ 9007199254740992 := by omega
          have hne : k ≠ v := by omega
          obtain ⟨X, hX⟩ : ∃ X, rot f k m (m + 1) k = X := ⟨_, rfl⟩
          obtain ⟨Y, hY⟩ : ∃ Y, rot f k m (m + 1) v = Y := ⟨_, rfl⟩
          have HE : Hid (i ≤ v ∧ v ≤ m ∧ CelC .i64 3 ((wr.setCell ⟨g, k, none⟩ (.int .i64 Y)).setCell ⟨g, v, none⟩ (.int .i64 X)).drew g cap n (rot f v m (m + 1))) := ⟨by omega, by omega, ((hC.set k Y).set v X).congr (fun t _ => by
            rw [rot_down f m v (by omega) t, hv, ← hX, ← hY]
            unfold swp
            by_cases p1 : t = v
            · rw [if_pos p1, if_neg (by omega), if_pos p1]
            · rw [if_neg p1]
              by_cases p2 : t = k
              · rw [if_pos p2, if_pos p2]
              · rw [if_neg p2, if_neg p2, if_neg p1])⟩
          have HO : Hid (Only g w ((wr.setCell ⟨g, k, none⟩ (.int .i64 Y)).setCell ⟨g, v, none⟩ (.int .i64 X)).drew) := only_drew1 ((hO.out.set _ _).set _ _)
          have hkv : Hid (v + 1 = k) := hv
          rw [hX] at x1
          rw [hY] at y1
          clear hX hY hC hO r1 r2 b1 b2 b3 b4 hv
          go_wp2
          go_region
          generalize ((wr.setCell ⟨g, k, none⟩ (.int .i64 Y)).setCell ⟨g, v, none⟩ (.int .i64 X)).drew = W2 at *
          clear x1 x2 y1 y2
          go_wp2
          refine ⟨⟨v, by first | rfl | rw [e1] | simp, HE, HO⟩, ?_⟩
          have := hkv.out
          simp [RowKit.intOf]; omega
        · obtain rfl : i = k := by omega
          have d1 : decide ((i : Int) < (i : Int)) = false := by simp
          have HE : Hid (∃ h, CelC .i64 3 wr g cap n h ∧ Sam f h a b ∧ Srt (KZ zs) h a b) := by rw [← hm2]; exact ⟨_, hC, (Sam.rot f i m (m + 1) b2 (by omega)).wide b1 (Nat.le_refl _), HF.out⟩
          clear hC r1 r2 b1 b2 b3 b4 d
          go_wp2
          refine bodyPost_ret (v := .tuple #[]) (by first | rfl | simp [results, go_sem]) rfl ?_
          exact ⟨rfl, HE.out, hO.out⟩
end Go.Proofs.Ytahmeejcgddlhab
