/-
  Two rows in order become one: where the first has but one.
-/
import Derived.Test.YtahmeejcgddlhabQe
namespace Go.Proofs.Ytahmeejcgddlhab
open Go.RowKit
set_option maxRecDepth 100000 in
set_option maxHeartbeats 8000000 in
theorem symA (B lb : Nat) (zs : List Int) (g cap n a b : Nat) (f : Nat → Int) (w : World) (hI : InL B lb zs w) (hBg : B ≤ g) (hab : a + 1 < b) (hbn : b ≤ n) (hn : n < 2097152) (hd : InD f n zs) (hs : Srt (KZ zs) f (a + 1) b) (hx : Idx f a (a + 1) b) (hC : CelC .i64 3 w g cap n f) :
    Calls Try.prog 62 #[.slice (some ⟨g, 0, none⟩) n cap, .int .i64 (a : Int), .int .i64 ((a + 1 : Nat) : Int), .int .i64 (b : Int), .func (.func 50) #[] #[.pointer (some ⟨lb, 0, none⟩)]] w fun e w' => e = .returned (.tuple #[]) ∧ (∃ h, CelC .i64 3 w' g cap n h ∧ Sam f h a b ∧ Srt (KZ zs) h a b) ∧ Only g w w' := by
  have HN : Hid (a + 1 < b ∧ b ≤ n ∧ n < 2097152 ∧ B ≤ g) := ⟨hab, hbn, hn, hBg⟩
  have HC : Hid (CelC .i64 3 w g cap n f) := hC
  have HD : Hid (InD f n zs) := hd
  have HI : Hid (InL B lb zs w) := hI
  have HS : Hid (Srt (KZ zs) f (a + 1) b) := hs
  have HX : Hid (Idx f a (a + 1) b) := hx
  have a9 : (a : Int) ≤ 9007199254740992 := by omega
  have b9 : (b : Int) ≤ 9007199254740992 := by omega
  obtain ⟨m, hm⟩ : ∃ m, a + 1 = m := ⟨_, rfl⟩
  have m1 : (m : Int) - (a : Int) = 1 := by omega
  have m9 : (m : Int) ≤ 9007199254740992 := by omega
  rw [hm]
  replace hm : Hid (a + 1 = m) := hm
  clear hab hbn hn hBg hC hd hI hs hx
  go_enter Try.func62, Try.ntmps62
  go_wp2
  clear m1
  go_loopw [10, 11] (fun x y wr => ∃ i j : Nat, x = .int .i64 (i : Int) ∧ y = .int .i64 (j : Int) ∧ Hid (m ≤ i ∧ i ≤ j ∧ j ≤ b ∧ (∀ d, m ≤ d → d < i → KZ zs (f d) < KZ zs (f a)) ∧ (∀ d, j ≤ d → d < b → KZ zs (f a) ≤ KZ zs (f d)) ∧ CelC .i64 3 wr g cap n f) ∧ Hid (Only g w wr)) (fun x y _ => (RowKit.intOf y).toNat - (RowKit.intOf x).toNat)
  case atStart => exact ⟨m, b, rfl, rfl, ⟨Nat.le_refl _, by have h1 := HN.out; have h2 := hm.out; omega, Nat.le_refl _, fun d _ _ => by omega, fun d _ _ => by omega, HC.out⟩, Only.refl _ _⟩
  case round =>
    clear HC
    obtain ⟨i, j, rfl, rfl, ⟨g1, g2, g3, g4, g5, hC⟩, hO⟩ := hrel
    obtain ⟨n1, n2, n3, n4⟩ := HN.out
    by_cases c : i < j
    · have c1 : decide ((i : Int) < (j : Int)) = true := decide_eq_true (by omega)
      have i9 : (i : Int) ≤ 9007199254740992 := by omega
      have j9 : (j : Int) ≤ 9007199254740992 := by omega
      obtain ⟨h, hh⟩ : ∃ h, (i + j) / 2 = h := ⟨_, rfl⟩
      have e1 : ((i : Int) + (j : Int)) / 2 = (h : Int) := by omega
      obtain ⟨x1, -⟩ := hC.at h (by omega)
      obtain ⟨y1, -⟩ := hC.at a (by have := hm.out; omega)
      have hh1 : i ≤ h ∧ h < j := by omega
      have kq := cmp_quiet B lb zs (f h) (f a) wr (HI.out.only hO.out n4) (HD.out _ (by omega)) (HD.out _ (by have := hm.out; omega))
      have hk := cmpV_neg (KZ zs (f h)) (KZ zs (f a))
      have hn1 : (h : Int) < (n : Int) := by omega
      have an1 : (a : Int) < (n : Int) := by have := hm.out; omega
      have h9 : (h : Int) ≤ 9007199254740992 := by omega
      obtain ⟨R, hR⟩ : ∃ R, cmpV (KZ zs (f h)) (KZ zs (f a)) = R := ⟨_, rfl⟩
      rw [hR] at hk
      simp only [hR] at kq
      have hmo := hm.out
      by_cases cc : R < 0
      · have c3 : decide (R < 0) = true := decide_eq_true cc
        have HE : Hid (∀ q, Hid (m ≤ h + 1 ∧ h + 1 ≤ j ∧ j ≤ b ∧ (∀ d, m ≤ d → d < h + 1 → KZ zs (f d) < KZ zs (f a)) ∧ (∀ d, j ≤ d → d < b → KZ zs (f a) ≤ KZ zs (f d)) ∧ CelC .i64 3 (wr.drewN q) g cap n f) ∧ Hid (Only g w (wr.drewN q))) := fun q =>
          ⟨⟨by omega, by omega, g3, fun d h1 h2 => by
            have z := HS.out.le (show a + 1 ≤ d by omega) (show d ≤ h by omega) (by omega)
            have := hk.1 cc; omega, g5, hC.drew q⟩, only_drew hO.out q⟩
        have hj2 : Hid (i ≤ h ∧ h < j) := hh1
        clear g1 g2 g3 g4 g5 hC hO n1 n2 n3 n4 hk hR cc hh hh1 hmo
        obtain ⟨X, hX⟩ : ∃ X, f h = X := ⟨_, rfl⟩
        obtain ⟨Y, hY⟩ : ∃ Y, f a = Y := ⟨_, rfl⟩
        simp only [hX] at x1
        simp only [hY] at y1
        simp only [hX, hY] at kq
        clear hX hY
        go_wp2
        go_quiet (first | (go_at_call 50; exact kq _))
        obtain ⟨HE1, HE2⟩ := HE.out nq
        clear x1 y1 kq HE
        generalize wr.drewN nq = W0 at *
        go_wp2
        refine ⟨⟨h + 1, j, by simp, rfl, HE1, HE2⟩, ?_⟩
        have := hj2.out
        simp [RowKit.intOf]; omega
      · have c3 : decide (R < 0) = false := decide_eq_false cc
        have HE : Hid (∀ q, Hid (m ≤ i ∧ i ≤ h ∧ h ≤ b ∧ (∀ d, m ≤ d → d < i → KZ zs (f d) < KZ zs (f a)) ∧ (∀ d, h ≤ d → d < b → KZ zs (f a) ≤ KZ zs (f d)) ∧ CelC .i64 3 (wr.drewN q) g cap n f) ∧ Hid (Only g w (wr.drewN q))) := fun q =>
          ⟨⟨g1, by omega, by omega, g4, fun d h1 h2 => by
            have z := HS.out.le (show a + 1 ≤ h by omega) h1 h2
            have : ¬ KZ zs (f h) < KZ zs (f a) := fun q => cc (hk.2 q)
            omega, hC.drew q⟩, only_drew hO.out q⟩
        have hj2 : Hid (i ≤ h ∧ h < j) := hh1
        clear g1 g2 g3 g4 g5 hC hO n1 n2 n3 n4 hk hR cc hh hh1 hmo
        obtain ⟨X, hX⟩ : ∃ X, f h = X := ⟨_, rfl⟩
        obtain ⟨Y, hY⟩ : ∃ Y, f a = Y := ⟨_, rfl⟩
        simp only [hX] at x1
        simp only [hY] at y1
        simp only [hX, hY] at kq
        clear hX hY
        go_wp2
        go_quiet (first | (go_at_call 50; exact kq _))
        obtain ⟨HE1, HE2⟩ := HE.out nq
        clear x1 y1 kq HE
        generalize wr.drewN nq = W0 at *
        go_wp2
        refine ⟨⟨i, h, rfl, by simp, HE1, HE2⟩, ?_⟩
        have := hj2.out
        simp [RowKit.intOf]; omega
    · obtain rfl : i = j := by omega
      have c1 : decide ((i : Int) < (i : Int)) = false := by simp
      have hmo := hm.out
      have HF : Hid (Srt (KZ zs) (rot f a (a + 1) i) a b) := one_front HS.out HX.out (by omega) g3 (fun d h1 h2 => g4 d (by omega) h2) (fun d h1 h2 => by have := g5 d h1 h2; omega)
      have HC0 : Hid (CelC .i64 3 wr g cap n (rot f a (a + 1) (a + 1))) := hC.congr (fun k _ => (rot_none f a (a + 1) (by omega) k).symm)
      have hib : Hid (a + 1 ≤ i ∧ i ≤ b ∧ b ≤ n ∧ n < 2097152 ∧ a + 1 ≤ b) := ⟨by omega, g3, n2, n3, by omega⟩
      have i9 : (i : Int) ≤ 9007199254740992 := by omega
      have i1 : 1 ≤ (i : Int) := by omega
      clear g1 g2 g3 g4 g5 hC n1 n2 n3 n4 hmo c
      go_wp2
      go_loopw [13] (fun x wq => ∃ k : Nat, x = .int .i64 (k : Int) ∧ Hid (a ≤ k ∧ k + 1 ≤ i ∧ CelC .i64 3 wq g cap n (rot f a (a + 1) (k + 1))) ∧ Hid (Only g w wq)) (fun x _ => i - (RowKit.intOf x).toNat)
      case atStart => exact ⟨a, rfl, ⟨Nat.le_refl _, hib.out.1, HC0.out⟩, hO⟩
      case round =>
        clear HC0 hO
        obtain ⟨k, rfl, ⟨r1, r2, hC⟩, hO⟩ := hrel
        obtain ⟨b1, b2, b3, b4, b5⟩ := hib.out
        have k9 : (k : Int) ≤ 9007199254740992 := by omega
        have z1 : (i : Int) - 1 = ((i - 1 : Nat) : Int) := by omega
        by_cases d : k < i - 1
        · have d1 : decide ((k : Int) < (i : Int) - 1) = true := decide_eq_true (by omega)
          have d0 : (k : Int) < (i : Int) - 1 := by omega
          obtain ⟨v, hv⟩ : ∃ v, k + 1 = v := ⟨_, rfl⟩
          have e1 : (k : Int) + 1 = (v : Int) := by omega
          obtain ⟨x1, x2⟩ := hC.at k (by omega)
          obtain ⟨y1, y2⟩ := hC.at v (by omega)
          have kn : (k : Int) < (n : Int) := by omega
          have vn : (v : Int) < (n : Int) := by omega
          have v9 : (v : Int) ≤ 9007199254740992 := by omega
          have hne : k ≠ v := by omega
          obtain ⟨X, hX⟩ : ∃ X, rot f a (a + 1) (k + 1) k = X := ⟨_, rfl⟩
          obtain ⟨Y, hY⟩ : ∃ Y, rot f a (a + 1) (k + 1) v = Y := ⟨_, rfl⟩
          have HE : Hid (a ≤ v ∧ v + 1 ≤ i ∧ CelC .i64 3 ((wr.setCell ⟨g, k, none⟩ (.int .i64 Y)).setCell ⟨g, v, none⟩ (.int .i64 X)).drew g cap n (rot f a (a + 1) (v + 1))) := ⟨by omega, by omega, ((hC.set k Y).set v X).congr (fun t _ => by
            rw [← hv, rot_up f a k r1 t, ← hX, ← hY, hv]
            unfold swp
            by_cases p1 : t = v
            · rw [if_pos p1, if_neg (by omega), if_pos p1]
            · rw [if_neg p1]
              by_cases p2 : t = k
              · rw [if_pos p2, if_pos p2]
              · rw [if_neg p2, if_neg p2, if_neg p1])⟩
          have HO : Hid (Only g w ((wr.setCell ⟨g, k, none⟩ (.int .i64 Y)).setCell ⟨g, v, none⟩ (.int .i64 X)).drew) := only_drew1 ((hO.out.set _ _).set _ _)
          have hkv : Hid (k + 1 = v ∧ v + 1 ≤ i) := ⟨hv, by omega⟩
          rw [hX] at x1
          rw [hY] at y1
          clear hX hY hC hO r1 r2 b1 b2 b3 b4 b5 d z1 hv
          go_wp2
          go_region
          generalize ((wr.setCell ⟨g, k, none⟩ (.int .i64 Y)).setCell ⟨g, v, none⟩ (.int .i64 X)).drew = W2 at *
          clear x1 x2 y1 y2
          go_wp2
          refine ⟨⟨v, by first | rfl | rw [e1] | simp, HE, HO⟩, ?_⟩
          have := hkv.out
          simp [RowKit.intOf]; omega
        · have hke : k + 1 = i := by omega
          rw [hke] at hC
          have d1 : decide ((k : Int) < (i : Int) - 1) = false := decide_eq_false (by omega)
          have HE : Hid (∃ h, CelC .i64 3 wr g cap n h ∧ Sam f h a b ∧ Srt (KZ zs) h a b) := ⟨_, hC, (Sam.rot f a (a + 1) i (by omega) b1).wide (Nat.le_refl _) b2, HF.out⟩
          clear hC r1 r2 b1 b2 b3 b4 b5 d z1 hke
          go_wp2
          refine bodyPost_ret (v := .tuple #[]) (by first | rfl | simp [results, go_sem]) rfl ?_
          exact ⟨rfl, HE.out, hO.out⟩
end Go.Proofs.Ytahmeejcgddlhab
