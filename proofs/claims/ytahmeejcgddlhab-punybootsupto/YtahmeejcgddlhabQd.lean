/-
  Stretches that change places.
-/
import Derived.Test.YtahmeejcgddlhabQc
import Derived.BigRegion
namespace Go.Proofs.Ytahmeejcgddlhab
open Go.RowKit
theorem CelC.only' {w w' : World} {g : Nat} (h : w' = w) : Only g w w' := by subst h; exact Only.refl _ _
theorem only_drew {g : Nat} {w w' : World} (h : Only g w w') (q : Nat) : Only g w (w'.drewN q) := ⟨h.os, h.tape, h.output, h.size, h.block⟩
theorem only_drew1 {g : Nat} {w w' : World} (h : Only g w w') : Only g w w'.drew := ⟨h.os, h.tape, h.output, h.size, h.block⟩
theorem Only.trans {g : Nat} {w w1 w2 : World} (h : Only g w w1) (h2 : Only g w1 w2) : Only g w w2 :=
  ⟨h2.os.trans h.os, h2.tape.trans h.tape, h2.output.trans h.output, Nat.le_trans h.size h2.size, fun k hk hr => (h2.block k (Nat.lt_of_lt_of_le hk h.size) hr).trans (h.block k hk hr)⟩
theorem CelC.drew {kd : IntKind} {e : TypeId} {w : World} {b cap n : Nat} {f : Nat → Int} (h : CelC kd e w b cap n f) (q : Nat) : CelC kd e (w.drewN q) b cap n f := h
set_option maxRecDepth 100000 in
set_option maxHeartbeats 4000000 in
theorem swapRange_any (g cap n a b k : Nat) (f : Nat → Int) (fv : Value) (w : World) (hab : a + k ≤ b) (hbn : b + k ≤ n) (hn : n < 2097152) (hC : CelC .i64 3 w g cap n f) : Calls Try.prog 64 #[.slice (some ⟨g, 0, none⟩) n cap, .int .i64 (a : Int), .int .i64 (b : Int), .int .i64 (k : Int), fv] w fun e w' => e = .returned (.tuple #[]) ∧ CelC .i64 3 w' g cap n (swR f a b k) ∧ Only g w w' := by
  have HN : Hid (a + k ≤ b ∧ b + k ≤ n ∧ n < 2097152) := ⟨hab, hbn, hn⟩
  have HC : Hid (CelC .i64 3 w g cap n f) := hC
  clear hab hbn hn hC
  go_enter Try.func64, Try.ntmps64
  go_wp2
  go_loopw [10] (fun x wr => ∃ i : Nat, x = .int .i64 (i : Int) ∧ i ≤ k ∧ Hid (CelC .i64 3 wr g cap n (swR f a b i)) ∧ Hid (Only g w wr)) (fun x _ => k - (RowKit.intOf x).toNat)
  case atStart => exact ⟨0, rfl, Nat.zero_le _, HC.out.congr (fun j _ => by unfold swR; rw [if_neg (by omega), if_neg (by omega)]), Only.refl _ _⟩
  case round =>
    clear HC
    obtain ⟨i, rfl, hi, hC, hO⟩ := hrel
    obtain ⟨n1, n2, n3⟩ := HN.out
    by_cases c : i < k
    · have c1 : (i : Int) < (k : Int) := by omega
      have c2 : decide ((i : Int) < (k : Int)) = true := decide_eq_true c1
      obtain ⟨u, hu⟩ : ∃ u, a + i = u := ⟨_, rfl⟩
      obtain ⟨v, hv⟩ : ∃ v, b + i = v := ⟨_, rfl⟩
      obtain ⟨x1, x2⟩ := hC.out.at u (by omega)
      obtain ⟨y1, y2⟩ := hC.out.at v (by omega)
      have e1 : (a : Int) + (i : Int) = (u : Int) := by omega
      have e2 : (b : Int) + (i : Int) = (v : Int) := by omega
      have u1 : (u : Int) < (n : Int) := by omega
      have v1 : (v : Int) < (n : Int) := by omega
      have u9 : (u : Int) ≤ 9007199254740992 := by omega
      have v9 : (v : Int) ≤ 9007199254740992 := by omega
      have i9 : (i : Int) ≤ 9007199254740992 := by omega
      have hne : u ≠ v := by omega
      obtain ⟨A, hA⟩ : ∃ A, swR f a b i u = A := ⟨_, rfl⟩
      obtain ⟨B, hB⟩ : ∃ B, swR f a b i v = B := ⟨_, rfl⟩
      have HE : Hid (CelC .i64 3 ((wr.setCell ⟨g, u, none⟩ (.int .i64 B)).setCell ⟨g, v, none⟩ (.int .i64 A)).drew g cap n (swR f a b (i + 1))) :=
        ((hC.out.set u B).set v A).congr (fun j _ => by
          rw [swR_step f a b i (by omega) j, ← hA, ← hB, hu, hv]
          unfold swp
          by_cases p1 : j = v
          · rw [if_pos p1, if_neg (by omega), if_pos p1]
          · rw [if_neg p1]
            by_cases p2 : j = u
            · rw [if_pos p2, if_pos p2]
            · rw [if_neg p2, if_neg p2, if_neg p1])
      rw [hA] at x1
      rw [hB] at y1
      clear hA hB hC n1 n2 n3 hi HN
      go_wp2
      go_region
      have HO : Hid (Only g w ((wr.setCell ⟨g, u, none⟩ (.int .i64 B)).setCell ⟨g, v, none⟩ (.int .i64 A)).drew) := only_drew1 ((hO.out.set _ _).set _ _)
      generalize ((wr.setCell ⟨g, u, none⟩ (.int .i64 B)).setCell ⟨g, v, none⟩ (.int .i64 A)).drew = W2 at *
      clear hO x1 x2 y1 y2
      go_wp2
      refine ⟨⟨i + 1, by simp, by omega, HE, HO⟩, ?_⟩
      simp [RowKit.intOf]; omega
    · obtain rfl : i = k := by omega
      have c2 : decide ((i : Int) < (i : Int)) = false := by simp
      clear HN n1 n2 n3
      go_wp2
      go_end0
      exact ⟨rfl, hC.out, hO.out⟩
set_option maxRecDepth 100000 in
set_option maxHeartbeats 4000000 in
theorem rotate_any (g cap n a m b : Nat) (f : Nat → Int) (fv : Value) (w : World) (h1 : a < m) (h2 : m < b) (h3 : b ≤ n) (hn : n < 2097152) (hC : CelC .i64 3 w g cap n f) : Calls Try.prog 63 #[.slice (some ⟨g, 0, none⟩) n cap, .int .i64 (a : Int), .int .i64 (m : Int), .int .i64 (b : Int), fv] w fun e w' => e = .returned (.tuple #[]) ∧ CelC .i64 3 w' g cap n (rot f a m b) ∧ Only g w w' := by
  have HN : Hid (a < m ∧ m < b ∧ b ≤ n ∧ n < 2097152) := ⟨h1, h2, h3, hn⟩
  have HC : Hid (CelC .i64 3 w g cap n f) := hC
  obtain ⟨T, hT⟩ : ∃ T, Hid (rot f a m b = T) := ⟨_, rfl⟩
  rw [hT.out]
  have e1 : (m : Int) - (a : Int) = ((m - a : Nat) : Int) := by omega
  have e2 : (b : Int) - (m : Int) = ((b - m : Nat) : Int) := by omega
  have E : Hid (m - (m - a) = a ∧ m + (b - m) = b) := ⟨by omega, by omega⟩
  have m9 : (m : Int) ≤ 9007199254740992 := by omega
  have b9 : (b : Int) ≤ 9007199254740992 := by omega
  have a9 : (a : Int) ≤ 9007199254740992 := by omega
  clear h1 h2 h3 hn hC
  go_enter Try.func63, Try.ntmps63
  go_wp2
  clear e1 e2 b9 a9
  go_loopw [10, 11] (fun x y wr => ∃ i j : Nat, x = .int .i64 (i : Int) ∧ y = .int .i64 (j : Int) ∧ Hid (0 < i ∧ 0 < j ∧ i ≤ m ∧ m + j ≤ n ∧ ∃ h, CelC .i64 3 wr g cap n h ∧ ∀ k, rot h (m - i) m (m + j) k = T k) ∧ Hid (Only g w wr)) (fun x y _ => (RowKit.intOf x).toNat + (RowKit.intOf y).toNat)
  case atStart => exact ⟨m - a, b - m, rfl, rfl, ⟨by have := HN.out; omega, by have := HN.out; omega, by omega, by have := HN.out; omega, f, HC.out, fun k => by rw [E.out.1, E.out.2, hT.out]⟩, Only.refl _ _⟩
  case round =>
    clear HC hT
    obtain ⟨i, j, rfl, rfl, ⟨g1, g2, g3, g4, h, hC, hr⟩, hO⟩ := hrel
    obtain ⟨n1, n2, n3, n4⟩ := HN.out
    have i9 : (i : Int) ≤ 9007199254740992 := by omega
    have j9 : (j : Int) ≤ 9007199254740992 := by omega
    have z1 : (m : Int) - (i : Int) = ((m - i : Nat) : Int) := by omega
    by_cases c : i = j
    · subst c
      have c2 : ((i : Int) != (i : Int)) = false := by simp
      have k63 := swapRange_any g cap n (m - i) m i h fv wr (by omega) (by omega) n4 hC
      have HF : Hid (∀ w2, CelC .i64 3 w2 g cap n (swR h (m - i) m i) → CelC .i64 3 w2 g cap n T) := fun w2 h2 => h2.congr (fun k _ => by rw [rot_same _ _ _ g3, hr])
      clear hC hr n1 n2 n3 n4 g1 g2 g3 g4 HN
      go_wp2_with (go_at_call 64; refine k63.mono ?_)
      rintro e w2 ⟨rfl, hc2, ho2⟩
      have hO2 : Hid (Only g w w2) := hO.out.trans ho2
      have hC2 : Hid (CelC .i64 3 w2 g cap n T) := HF.out w2 hc2
      clear k63 hc2 ho2
      go_wp2
      go_end0
      exact ⟨rfl, hC2.out, hO2.out⟩
    · have c2 : ((i : Int) != (j : Int)) = true := by simp; omega
      by_cases d : j < i
      · have d2 : decide ((j : Int) < (i : Int)) = true := decide_eq_true (by omega)
        have k63 := swapRange_any g cap n (m - i) m j h fv wr (by omega) (by omega) n4 hC
        have z2 : (i : Int) - (j : Int) = ((i - j : Nat) : Int) := by omega
        have HF : Hid (∀ w2, CelC .i64 3 w2 g cap n (swR h (m - i) m j) → (0 < i - j ∧ 0 < j ∧ i - j ≤ m ∧ m + j ≤ n ∧ ∃ h, CelC .i64 3 w2 g cap n h ∧ ∀ k, rot h (m - (i - j)) m (m + j) k = T k)) := fun w2 h2 => ⟨by omega, g2, by omega, g4, _, h2, fun k => by rw [rot_more _ _ _ _ g3 d, hr]⟩
        have dd : j < i := d
        clear hC hr n1 n2 n3 n4 g1 g3 g4 HN
        go_wp2_with (go_at_call 64; refine k63.mono ?_)
        rintro e w2 ⟨rfl, hc2, ho2⟩
        have hO2 : Hid (Only g w w2) := hO.out.trans ho2
        have hC2 : Hid _ := HF.out w2 hc2
        clear k63 hc2 ho2
        go_wp2
        refine ⟨⟨i - j, j, by rw [← z2], rfl, hC2.out, hO2⟩, ?_⟩
        simp [RowKit.intOf]; omega
      · have d2 : decide ((j : Int) < (i : Int)) = false := decide_eq_false (by omega)
        have k63 := swapRange_any g cap n (m - i) (m + j - i) i h fv wr (by omega) (by omega) n4 hC
        have z2 : (j : Int) - (i : Int) = ((j - i : Nat) : Int) := by omega
        have z3 : (m : Int) + (j : Int) - (i : Int) = ((m + j - i : Nat) : Int) := by omega
        have HF : Hid (∀ w2, CelC .i64 3 w2 g cap n (swR h (m - i) (m + j - i) i) → (0 < i ∧ 0 < j - i ∧ i ≤ m ∧ m + (j - i) ≤ n ∧ ∃ h, CelC .i64 3 w2 g cap n h ∧ ∀ k, rot h (m - i) m (m + (j - i)) k = T k)) := fun w2 h2 => ⟨g1, by omega, g3, by omega, _, h2, fun k => by rw [rot_less _ _ _ _ g3 (by omega), hr]⟩
        have dd : i < j := by omega
        clear hC hr n1 n2 n3 n4 g2 g3 g4 HN
        go_wp2_with (go_at_call 64; refine k63.mono ?_)
        rintro e w2 ⟨rfl, hc2, ho2⟩
        have hO2 : Hid (Only g w w2) := hO.out.trans ho2
        have hC2 : Hid _ := HF.out w2 hc2
        clear k63 hc2 ho2
        go_wp2
        refine ⟨⟨i, j - i, rfl, by rw [← z2], hC2.out, hO2⟩, ?_⟩
        simp [RowKit.intOf]; omega
end Go.Proofs.Ytahmeejcgddlhab
