/-
  The stable sort.
-/
import Derived.Test.YtahmeejcgddlhabQi
import Derived.Test.YtahmeejcgddlhabQj
namespace Go.Proofs.Ytahmeejcgddlhab
open Go.RowKit
theorem calls_hid {f : FuncId} {args : Array Value} {w : World} {Q : Ending → World → Prop} (h : Calls Try.prog f args w Q) : Calls Try.prog f args w (fun e w' => Hid (Q e w')) := h
/-- What stands between two mergings. -/
structure StI (K : Int → Int) (f : Nat → Int) (bs n a k : Nat) (h : Nat → Int) : Prop where
  at_ : a = k * (bs * 2)
  le : a ≤ n
  s2 : SC K (bs * 2) h 0 a
  c2 : CI (bs * 2) h 0 n
  s1 : SC K bs h a n
  c1 : CI bs h a n
  sam : Sam f h 0 n
set_option maxRecDepth 100000 in
set_option maxHeartbeats 8000000 in
theorem stable_any (B lb : Nat) (zs : List Int) (g cap n : Nat) (f : Nat → Int) (w : World) (hI : InL B lb zs w) (hBg : B ≤ g) (hn : n < 1048577) (hd : InD f n zs) (hasc : ∀ u v, u < v → v < n → f u < f v) (hC : CelC .i64 3 w g cap n f) :
    Calls Try.prog 56 #[.slice (some ⟨g, 0, none⟩) n cap, .int .i64 (n : Int), .func (.func 50) #[] #[.pointer (some ⟨lb, 0, none⟩)]] w fun e w' => e = .returned (.tuple #[]) ∧ (∃ h, CelC .i64 3 w' g cap n h ∧ Sam f h 0 n ∧ Srt (KZ zs) h 0 n) ∧ Only g w w' := by
  have HN : Hid (n < 1048577 ∧ B ≤ g) := ⟨hn, hBg⟩
  have HC : Hid (CelC .i64 3 w g cap n f) := hC
  have HD : Hid (InD f n zs) := hd
  have HI : Hid (InL B lb zs w) := hI
  have HA : Hid (∀ u v, u < v → v < n → f u < f v) := hasc
  have n9 : (n : Int) ≤ 9007199254740992 := by omega
  clear hn hBg hC hd hI hasc
  go_enter Try.func56, Try.ntmps56
  go_wp2
  go_loopw [7, 8] (fun x y wr => ∃ a b : Nat, x = .int .i64 (a : Int) ∧ y = .int .i64 (b : Int) ∧ Hid (b = a + 20 ∧ a ≤ n ∧ ∃ k h, a = k * 20 ∧ SC (KZ zs) 20 h 0 a ∧ (∀ j, a ≤ j → h j = f j) ∧ CI 20 h 0 n ∧ Sam f h 0 n ∧ CelC .i64 3 wr g cap n h) ∧ Hid (Only g w wr)) (fun _ y _ => n + 21 - (RowKit.intOf y).toNat)
  case atStart => exact ⟨0, 20, rfl, rfl, ⟨rfl, Nat.zero_le _, 0, f, rfl, fun _ _ _ _ _ _ _ h => by omega, fun _ _ => rfl, fun k u v _ h1 h2 h3 => HA.out u v (by omega) h3, Sam.refl _ _ _, HC.out⟩, Only.refl _ _⟩
  case round =>
    clear HC
    obtain ⟨a, b, rfl, rfl, ⟨g1, g2, k, h, g3, g4, g5, g6, g7, hC⟩, hO⟩ := hrel
    have hN := HN.out
    have a9 : (a : Int) ≤ 9007199254740992 := by omega
    have b9 : (b : Int) ≤ 9007199254740992 := by omega
    have hI2 := HI.out.only hO.out hN.2
    have hd2 : InD h n zs := HD.out.sam g7 (Nat.le_refl _)
    by_cases c : b ≤ n
    · have c1 : decide ((b : Int) ≤ (n : Int)) = true := decide_eq_true (by omega)
      have k60 := insertion_any B lb zs g cap n a b h wr hI2 hN.2 (by omega) c (by omega) hd2 (fun u v h1 h2 h3 => by rw [g5 u h1, g5 v (by omega)]; exact HA.out u v h2 (by omega)) hC
      have HF : Hid (∀ w2 h2, CelC .i64 3 w2 g cap n h2 → Sam h h2 a b → Srt (KZ zs) h2 a b → Hid (b ≤ n ∧ ∃ k h, b = k * 20 ∧ SC (KZ zs) 20 h 0 b ∧ (∀ j, b ≤ j → h j = f j) ∧ CI 20 h 0 n ∧ Sam f h 0 n ∧ CelC .i64 3 w2 g cap n h)) := fun w2 h2 q1 q2 q3 =>
        ⟨c, k + 1, h2, by omega, g4.sam q2 q3 g3, fun j hj => by rw [q2.out j (by omega)]; exact g5 j (by omega), g6.sam q2 g3 (by omega) c, g7.trans (q2.wide (Nat.zero_le _) c), q1⟩
      have hbn : Hid (b ≤ n) := c
      clear g1 g2 g3 g4 g5 g6 g7 hC hN hI2 hd2
      go_wp2_with (go_at_call 61; refine (calls_hid k60).mono ?_)
      intro _ w2 hq
      obtain ⟨rfl, ⟨h2, q1, q2, q3⟩, q4⟩ := hq.out
      have HE := HF.out w2 h2 q1 q2 q3
      have hO2 : Hid (Only g w w2) := hO.out.trans q4
      clear hq q1 q2 q3 q4 k60 HF
      go_wp2
      refine ⟨⟨b, b + 20, rfl, by simp, ⟨rfl, HE.out⟩, hO2⟩, ?_⟩
      have := hbn.out
      simp [RowKit.intOf]; omega
    · have c1 : decide ((b : Int) ≤ (n : Int)) = false := decide_eq_false (by omega)
      have k60 := insertion_any B lb zs g cap n a n h wr hI2 hN.2 g2 (Nat.le_refl _) (by omega) hd2 (fun u v h1 h2 h3 => by rw [g5 u h1, g5 v (by omega)]; exact HA.out u v h2 h3) hC
      have HF : Hid (∀ w2 h2, CelC .i64 3 w2 g cap n h2 → Sam h h2 a n → Srt (KZ zs) h2 a n → Hid (SC (KZ zs) 20 h2 0 n ∧ CI 20 h2 0 n ∧ Sam f h2 0 n ∧ CelC .i64 3 w2 g cap n h2)) := fun w2 h2 q1 q2 q3 =>
        ⟨g4.sam q2 q3 g3, g6.sam q2 g3 (by omega) (Nat.le_refl _), g7.trans (q2.wide (Nat.zero_le _) (Nat.le_refl _)), q1⟩
      clear g1 g2 g3 g4 g5 g6 g7 hC hN hI2 hd2
      go_wp2_with (go_at_call 61; refine (calls_hid k60).mono ?_)
      intro _ w2 hq
      obtain ⟨rfl, ⟨h2, q1, q2, q3⟩, q4⟩ := hq.out
      have HE := HF.out w2 h2 q1 q2 q3
      have hO2 : Hid (Only g w w2) := hO.out.trans q4
      clear hq q1 q2 q3 q4 k60 HF hO h
      go_wp2
      go_loopw [6] (fun x wr => ∃ bs : Nat, x = .int .i64 (bs : Int) ∧ Hid (20 ≤ bs ∧ bs ≤ 2097154 ∧ ∃ h, SC (KZ zs) bs h 0 n ∧ CI bs h 0 n ∧ Sam f h 0 n ∧ CelC .i64 3 wr g cap n h) ∧ Hid (Only g w wr)) (fun x _ => n - (RowKit.intOf x).toNat)
      case atStart => exact ⟨20, rfl, ⟨by omega, by omega, h2, HE.out⟩, hO2⟩
      case round =>
        clear HE hO2 h2
        obtain ⟨wo, hwo⟩ : ∃ wo, wr = wo := ⟨_, rfl⟩
        rw [hwo] at hrel ⊢
        clear hwo
        obtain ⟨bs, rfl, ⟨g1, g2, h, g3, g4, g5, hC⟩, hO⟩ := hrel
        have hN := HN.out
        have bs9 : (bs : Int) ≤ 9007199254740992 := by omega
        by_cases c : bs < n
        · have c1 : decide ((bs : Int) < (n : Int)) = true := decide_eq_true (by omega)
          obtain ⟨D, hD⟩ : ∃ D, bs * 2 = D := ⟨_, rfl⟩
          have e2 : 2 * (bs : Int) = (D : Int) := by omega
          have e3 : (bs : Int) * 2 = (D : Int) := by omega
          have D9 : (D : Int) ≤ 9007199254740992 := by omega
          have HD2 : Hid (bs * 2 = D ∧ bs < n ∧ 20 ≤ bs) := ⟨hD, c, g1⟩
          have H0 : Hid (∃ k h, StI (KZ zs) f bs n 0 k h ∧ CelC .i64 3 wo g cap n h) := ⟨0, h, ⟨by omega, Nat.zero_le _, fun _ _ _ _ _ _ _ h => by omega, g4.twice, g3, g4, g5⟩, hC⟩
          clear g1 g2 g3 g4 g5 hC hN hD
          go_wp2
          go_loopw [7, 8] (fun x y wq => ∃ a b : Nat, x = .int .i64 (a : Int) ∧ y = .int .i64 (b : Int) ∧ Hid (b = a + D ∧ a ≤ n ∧ ∃ k h, StI (KZ zs) f bs n a k h ∧ CelC .i64 3 wq g cap n h) ∧ Hid (Only g w wq)) (fun _ y _ => n + D + 1 - (RowKit.intOf y).toNat)
          case atStart => exact ⟨0, D, rfl, rfl, ⟨by omega, Nat.zero_le _, H0.out⟩, hO⟩
          case round =>
            clear H0 hO h
            obtain ⟨a, b, rfl, rfl, ⟨g1, g2, k, h, hS, hC⟩, hO⟩ := hrel
            have hN := HN.out
            obtain ⟨d1, d2, d3⟩ := HD2.out
            have a9 : (a : Int) ≤ 9007199254740992 := by omega
            have b9 : (b : Int) ≤ 9007199254740992 := by omega
            have hI2 := HI.out.only hO.out hN.2
            have hd2 : InD h n zs := HD.out.sam hS.sam (Nat.le_refl _)
            obtain ⟨m, hm⟩ : ∃ m, a + bs = m := ⟨_, rfl⟩
            have em : (a : Int) + (bs : Int) = (m : Int) := by omega
            have m9 : (m : Int) ≤ 9007199254740992 := by omega
            by_cases c : b ≤ n
            · have c1 : decide ((b : Int) ≤ (n : Int)) = true := decide_eq_true (by omega)
              obtain ⟨p1, p2, p3⟩ := pair_ok hS.s1 hS.c1 hS.at_ (show a + bs < b by omega) (show b ≤ a + bs * 2 by omega) c
              rw [hm] at p1 p2 p3
              have k61 : SymOk lb zs g cap n a m b h wr := sym_any B lb zs g cap n hN.2 (by omega) _ a m b h wr (Nat.le_refl _) (by omega) (by omega) c hI2 hd2 p1 p2 p3 hC
              unfold SymOk at k61
              have HF : Hid (∀ w2 h2, CelC .i64 3 w2 g cap n h2 → Sam h h2 a b → Srt (KZ zs) h2 a b → Hid (b ≤ n ∧ ∃ k h, StI (KZ zs) f bs n b k h ∧ CelC .i64 3 w2 g cap n h)) := fun w2 h2 q1 q2 q3 =>
                ⟨c, k + 1, h2, ⟨by rw [Nat.succ_mul, ← hS.at_]; omega, c, hS.s2.sam q2 q3 hS.at_, hS.c2.sam q2 hS.at_ (by omega) c, hS.s1.rest q2 (by omega), hS.c1.rest q2 (by omega), hS.sam.trans (q2.wide (Nat.zero_le _) c)⟩, q1⟩
              have hbn : Hid (b ≤ n ∧ 0 < D) := ⟨c, by omega⟩
              clear g1 g2 hS hC hN hI2 hd2 d1 d2 d3 p1 p2 p3 hm
              go_wp2_with (go_at_call 62; refine (calls_hid k61).mono ?_)
              intro _ w2 hq
              obtain ⟨rfl, ⟨h2, q1, q2, q3⟩, q4⟩ := hq.out
              have HE := HF.out w2 h2 q1 q2 q3
              have hO2 : Hid (Only g w w2) := hO.out.trans q4
              clear hq q1 q2 q3 q4 k61 HF
              go_wp2
              refine ⟨⟨b, b + D, rfl, by simp, ⟨rfl, HE.out⟩, hO2⟩, ?_⟩
              have := hbn.out
              simp [RowKit.intOf]; omega
            · have c1 : decide ((b : Int) ≤ (n : Int)) = false := decide_eq_false (by omega)
              by_cases c2 : m < n
              · have c2' : decide ((m : Int) < (n : Int)) = true := decide_eq_true (by omega)
                obtain ⟨p1, p2, p3⟩ := pair_ok hS.s1 hS.c1 hS.at_ (show a + bs < n by omega) (show n ≤ a + bs * 2 by omega) (Nat.le_refl _)
                rw [hm] at p1 p2 p3
                have k61 : SymOk lb zs g cap n a m n h wr := sym_any B lb zs g cap n hN.2 (by omega) _ a m n h wr (Nat.le_refl _) (by omega) c2 (Nat.le_refl _) hI2 hd2 p1 p2 p3 hC
                unfold SymOk at k61
                have HF : Hid (∀ w2 h2, CelC .i64 3 w2 g cap n h2 → Sam h h2 a n → Srt (KZ zs) h2 a n → Hid (20 ≤ D ∧ D ≤ 2097154 ∧ ∃ h, SC (KZ zs) D h 0 n ∧ CI D h 0 n ∧ Sam f h 0 n ∧ CelC .i64 3 w2 g cap n h)) := fun w2 h2 q1 q2 q3 =>
                  ⟨by omega, by omega, h2, by rw [← d1]; exact hS.s2.sam q2 q3 hS.at_, by rw [← d1]; exact hS.c2.sam q2 hS.at_ (by omega) (Nat.le_refl _), hS.sam.trans (q2.wide (Nat.zero_le _) (Nat.le_refl _)), q1⟩
                have hbn : Hid (bs * 2 = D ∧ bs < n ∧ 20 ≤ bs) := ⟨d1, d2, d3⟩
                clear g1 g2 hS hC hN hI2 hd2 d1 d2 d3 p1 p2 p3 hm
                go_wp2_with (go_at_call 62; refine (calls_hid k61).mono ?_)
                intro _ w2 hq
                obtain ⟨rfl, ⟨h2, q1, q2, q3⟩, q4⟩ := hq.out
                have HE := HF.out w2 h2 q1 q2 q3
                have hO2 : Hid (Only g w w2) := hO.out.trans q4
                clear hq q1 q2 q3 q4 k61 HF
                go_wp2
                refine ⟨⟨D, by simp, HE, hO2⟩, ?_⟩
                have := hbn.out
                simp [RowKit.intOf]; omega
              · have c2' : decide ((m : Int) < (n : Int)) = false := decide_eq_false (by omega)
                have HE : Hid (20 ≤ D ∧ D ≤ 2097154 ∧ ∃ h, SC (KZ zs) D h 0 n ∧ CI D h 0 n ∧ Sam f h 0 n ∧ CelC .i64 3 wr g cap n h) :=
                  ⟨by omega, by omega, h, by rw [← d1]; exact last_ok hS.s1 hS.s2 hS.at_ (by omega), by rw [← d1]; exact hS.c2, hS.sam, hC⟩
                have hbn : Hid (bs * 2 = D ∧ bs < n ∧ 20 ≤ bs) := ⟨d1, d2, d3⟩
                clear g1 g2 hS hC hN hI2 hd2 d1 d2 d3 hm
                go_wp2
                refine ⟨⟨D, by simp, HE, hO⟩, ?_⟩
                have := hbn.out
                simp [RowKit.intOf]; omega
        · have c1 : decide ((bs : Int) < (n : Int)) = false := decide_eq_false (by omega)
          have HE : Hid (∃ h, CelC .i64 3 wo g cap n h ∧ Sam f h 0 n ∧ Srt (KZ zs) h 0 n) := ⟨h, hC, g5, g3.all (by omega)⟩
          clear g1 g2 g3 g4 g5 hC hN
          go_wp2
          go_end0
          exact ⟨rfl, HE.out, hO.out⟩
end Go.Proofs.Ytahmeejcgddlhab
