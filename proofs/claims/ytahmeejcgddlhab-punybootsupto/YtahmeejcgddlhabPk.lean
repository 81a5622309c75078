/-
  Reading a number of digits, and the last place of a byte.
-/
import Derived.Test.YtahmeejcgddlhabPj
import Derived.Deep.QuietTactic
import Derived.BigQuiet
namespace Go.Proofs.Ytahmeejcgddlhab
open Go.RowKit
theorem below_drewN {B : Nat} {a w : World} (h : Below B a w) (n : Nat) : Below B a (w.drewN n) := h.trans ⟨rfl, rfl, rfl, Nat.le_refl _, fun _ _ => rfl⟩
/-- The greatest place of a byte below one; -1: none. -/
def lix (s : ByteArray) (c : Int) : Nat → Int
  | 0 => -1
  | n + 1 => if (byt s n : Int) = c then (n : Int) else lix s c n
theorem lix_bound (s : ByteArray) (c : Int) : ∀ n, -1 ≤ lix s c n ∧ lix s c n < n
  | 0 => by simp [lix]
  | n + 1 => by
    rw [lix]
    have := lix_bound s c n
    by_cases h : (byt s n : Int) = c
    · rw [if_pos h]; omega
    · rw [if_neg h]; omega
set_option maxRecDepth 100000 in
set_option maxHeartbeats 1000000 in
theorem last_any (s : ByteArray) (c : Int) (w : World) (hs : s.size < 134217728) (hc0 : 0 ≤ c) (hc : c < 256) : Calls Try.prog 43 #[.string s, .int .u8 c] w fun e w' => e = .returned (.int .i64 (lix s c s.size)) ∧ w' = w := by
  obtain ⟨F, hF⟩ : ∃ F, Hid (lix s c s.size = F) := ⟨_, rfl⟩
  rw [hF.out]
  have hs2 : (s.size : Int) < 134217728 := by omega
  go_enter Try.func43, Try.ntmps43
  go_wp2
  go_loopw [5] (fun x wr => ∃ (i : Int), x = .int .i64 i ∧ Hid (∃ n : Nat, i = (n : Int) - 1 ∧ n ≤ s.size ∧ lix s c n = F) ∧ Hid (wr = w)) (fun x _ => (RowKit.intOf x + 1).toNat)
  case atStart => exact ⟨_, rfl, ⟨s.size, rfl, Nat.le_refl _, hF.out⟩, rfl⟩
  case round =>
    clear hF
    obtain ⟨i, rfl, ⟨n, g1, g2, g3⟩, g4⟩ := hrel
    rw [Hid] at g4
    subst g4
    cases n with
    | zero =>
      obtain rfl : i = -1 := by omega
      have g5 : -1 = F := g3
      subst g5
      clear g1 g3
      go_wp2
      go_ret
      exact ⟨rfl, rfl⟩
    | succ n =>
      obtain rfl : i = (n : Int) := by omega
      have q0 : (s[n]'(by omega)).toNat = byt s n := byt_eq s n (by omega)
      have q1 : (n : Int) < (s.size : Int) := by omega
      have q2 := byt_lt s n
      rw [lix] at g3
      by_cases d : (byt s n : Int) = c
      · rw [if_pos d] at g3
        subst d g3
        clear g1
        generalize byt s n = Y at *
        go_wp2
        go_ret
        exact ⟨rfl, rfl⟩
      · rw [if_neg d] at g3
        have d2 : ((byt s n : Int) == c) = false := by simpa using d
        have HE : Hid (∃ m : Nat, (n : Int) - 1 = (m : Int) - 1 ∧ m ≤ s.size ∧ lix s c m = F) := ⟨n, rfl, by omega, g3⟩
        clear g1 g3 d
        generalize byt s n = Y at *
        go_wp2
        refine ⟨⟨_, rfl, HE, by first | exact trivial | exact rfl⟩, ?_⟩
        simp [RowKit.intOf]
set_option maxRecDepth 100000 in
theorem lastIndex_any (s : ByteArray) (c : Int) (w : World) (hs : s.size < 134217728) (hc0 : 0 ≤ c) (hc : c < 256) : Calls Try.prog 35 #[.string s, .int .u8 c] w fun e w' => e = .returned (.int .i64 (lix s c s.size)) ∧ w' = w := by
  have k := fun w => last_any s c w hs hc0 hc
  generalize lix s c s.size = X at *
  go_enter Try.func35, Try.ntmps35
  go_wp2_with (go_at_call 43; refine (k _).mono ?_; rintro e w' ⟨rfl, rfl⟩)
  go_ret
  exact ⟨rfl, rfl⟩
/-- What a number says that is read from a place on, and where it ends; or what is wrong. -/
def rdN (p : Bt) (s : ByteArray) (bias : Int) : Nat → Nat → Int → Int → Int → (Nat × Int) ⊕ (Int × Nat)
  | 0, _, _, _, _ => .inl (s.size, 140)
  | f + 1, at_, i, w, k =>
    if dgTo p.base (byt s at_) < 0 then .inl (at_, 140)
    else if 2147483647 < i + dgTo p.base (byt s at_) * w then .inl (at_, 142)
    else if dgTo p.base (byt s at_) < thr p k bias then .inr (i + dgTo p.base (byt s at_) * w, at_)
    else if 2147483647 < w * (p.base - thr p k bias) then .inl (at_, 142)
    else rdN p s bias f (at_ + 1) (i + dgTo p.base (byt s at_) * w) (w * (p.base - thr p k bias)) (k + p.base)
def rdV : (Nat × Int) ⊕ (Int × Nat) → Value
  | .inl (a, c) => .tuple #[.int .i64 0, .int .i64 (a : Int), .int .i64 c]
  | .inr (x, l) => .tuple #[.int .i64 x, .int .i64 (l : Int), .int .i64 0]
theorem dg_bound (c : Int) : -1 ≤ dg c ∧ dg c ≤ 35 := by
  unfold dg
  repeat' split
  all_goals omega
theorem dgTo_bound (b c : Int) (hb : 0 ≤ b) : -1 ≤ dgTo b c ∧ dgTo b c ≤ 35 ∧ (dgTo b c < b) := by
  have := dg_bound c
  unfold dgTo
  split <;> omega
theorem thr_bound (p : Bt) (hp : Okb p) (k b : Int) : 0 ≤ thr p k b ∧ thr p k b ≤ p.base - 2 := by
  obtain ⟨b1, b2, l1, l2, m1, m2, -⟩ := hp
  unfold thr
  omega
set_option maxRecDepth 100000 in
set_option maxHeartbeats 2000000 in
theorem readNumber_any (p : Bt) (s : ByteArray) (at0 : Nat) (i0 bias : Int) (w : World) (hp : Okb p) (hs : s.size < 134217728) (ha : at0 ≤ s.size) (hi0 : 0 ≤ i0) (hi1 : i0 ≤ 2147483647) (hb0 : 0 ≤ bias) (hb1 : bias ≤ 100000) :
    Calls Try.prog 44 #[.agg (bv p), .string s, .int .i64 (at0 : Int), .int .i64 i0, .int .i64 bias] w fun e w' => e = .returned (rdV (rdN p s bias (s.size - at0) at0 i0 1 p.base)) ∧ Below w.heap.size w w' := by
  obtain ⟨F, hF⟩ : ∃ F, Hid (rdN p s bias (s.size - at0) at0 i0 1 p.base = F) := ⟨_, rfl⟩
  rw [hF.out]
  have hs2 : (s.size : Int) < 134217728 := by omega
  have kt := fun k w h1 h2 => thr_any p k bias w h1 h2 hb0 (by omega)
  have HN : Hid (3 ≤ p.base ∧ p.base ≤ 36 ∧ (s.size : Int) < 134217728) := ⟨hp.b1, hp.b2, by omega⟩
  have HB : Hid (Below w.heap.size w (w.alloc (.cells (bv p) 23))) := (Below.refl w.heap.size w).alloc (Nat.le_refl _) _
  have c0 : (w.alloc (.cells (bv p) 23)).cell? ⟨w.heap.size, 0, none⟩ = some (.int .i64 p.base) := World.cell?_alloc_at _ _ _ _ rfl
  have kd := fun c w h0 h1 => digitTo_any p.base c w h0 h1
  have kth := thr_bound p hp
  have hl : Hid ((w.alloc (.cells (bv p) 23)).heap[w.heap.size]? = some (.cells (bv p) 23)) := heap_new _ _
  have hZ : Hid (i0 ≤ 2147483647 ∧ 0 ≤ i0) := ⟨hi1, hi0⟩
  clear hs2 hb0 hb1 hi0 hi1 hs
  go_enter Try.func44, Try.ntmps44
  go_wp2
  generalize w.alloc (.cells (bv p) 23) = W1 at *
  generalize hO : w.heap.size = O at *
  go_loopw [2, 3, 13, 14, 15, 16] (fun x2 x3 x13 x14 _ _ wr => ∃ (at_ : Nat) (i wi k : Int), x2 = .int .i64 (at_ : Int) ∧ x3 = .int .i64 i ∧ x13 = .int .i64 wi ∧ x14 = .int .i64 k ∧ at_ ≤ s.size ∧ Hid (0 ≤ i ∧ i ≤ 2147483647 ∧ 0 ≤ wi ∧ wi ≤ 2147483647 ∧ 0 ≤ k ∧ k ≤ 36 * (at_ : Int) + 36 ∧ rdN p s bias (s.size - at_) at_ i wi k = F) ∧ Hid (Below O w wr) ∧ Hid (wr.heap[O]? = some (.cells (bv p) 23))) (fun x2 _ _ _ _ _ _ => s.size - (RowKit.intOf x2).toNat)
  case atStart => exact ⟨at0, i0, 1, p.base, rfl, rfl, rfl, rfl, ha, by have h1 := hZ.out; have h2 := HN.out; exact ⟨h1.2, h1.1, by omega, by omega, by omega, by omega, hF.out⟩, HB, hl⟩
  case round =>
    clear hF hZ HB hl ha
    obtain ⟨at_, i, wi, k, rfl, rfl, rfl, rfl, hat, H, HB, hl⟩ := hrel
    obtain ⟨g1, g2, g3, g4, g5, g6, g7⟩ := H.out
    obtain ⟨n1, n2, n3⟩ := HN.out
    clear H
    by_cases c : at_ < s.size
    · have q0 : (s[at_]'c).toNat = byt s at_ := byt_eq s at_ c
      have c1 : (at_ : Int) < (s.size : Int) := by omega
      have c2 : decide ((at_ : Int) < (s.size : Int)) = true := decide_eq_true c1
      have q2 := byt_lt s at_
      have q3 : (byt s at_ : Int) < 256 := by omega
      have kdd := fun w => kd (byt s at_) w (by omega) q3
      have db := dgTo_bound p.base (byt s at_) (by omega)
      obtain ⟨f, hf⟩ : ∃ f, s.size - at_ = f + 1 := ⟨s.size - at_ - 1, by omega⟩
      have hf2 : s.size - (at_ + 1) = f := by omega
      rw [hf, rdN] at g7
      have g8 : Hid (Below O w wr) := HB
      obtain ⟨D, hD⟩ : ∃ D, dgTo p.base (byt s at_ : Int) = D := ⟨_, rfl⟩
      obtain ⟨T, hT⟩ : ∃ T, thr p k bias = T := ⟨_, rfl⟩
      have tb := kth k bias
      have ktt := fun w => kt k w g5 (by have := n3; omega)
      simp only [hD] at g7 kdd db
      simp only [hT] at g7 ktt tb
      obtain ⟨d1, d2, d3⟩ := db
      obtain ⟨t1, t2⟩ := tb
      have m0 : D * wi ≤ 35 * 2147483647 := by
        by_cases z : 0 ≤ D
        · exact Int.mul_le_mul d2 g4 g3 (by omega)
        · have : D = -1 := by omega
          subst this; omega
      have m1 : -2147483647 ≤ D * wi := by
        by_cases z : 0 ≤ D
        · have := Int.mul_nonneg z g3; omega
        · have : D = -1 := by omega
          subst this; omega
      have m2 : 0 ≤ wi * (p.base - T) := Int.mul_nonneg g3 (by omega)
      have m3 : wi * (p.base - T) ≤ 2147483647 * 36 := Int.mul_le_mul g4 (by omega) (by omega) (by omega)
      have k6 : k ≤ 36 * 134217728 + 36 := by omega
      have G5 : Hid (0 ≤ k ∧ k ≤ 36 * (at_ : Int) + 36) := ⟨g5, g6⟩
      have hB1 := fun W1 (h : Below wr.heap.size wr W1) => g8.out.trans (h.mono (by have := (Array.getElem?_eq_some_iff.1 hl.out).1; omega))
      have hl1 := fun W1 (h : Below wr.heap.size wr W1) => (h.block O (Array.getElem?_eq_some_iff.1 hl.out).1).trans hl.out
      have cb := fun (j : Nat) (u : Value) (h : (bv p)[j]? = some u) (W1 : World) (hh : W1.heap[O]? = some (.cells (bv p) 23)) => (show W1.cell? ⟨O, j, none⟩ = some u by simp [World.cell?, hh, h])
      have cb0 := cb 0 (.int .i64 p.base) rfl wr hl.out
      have cb1 := cb 1 (.int .i64 p.least) rfl wr hl.out
      have cb2 := cb 2 (.int .i64 p.most) rfl wr hl.out
      have cb3 := cb 3 (.int .i64 p.skew) rfl wr hl.out
      have cb4 := cb 4 (.int .i64 p.damp) rfl wr hl.out
      have cb5 := cb 5 (.int .i64 p.bias) rfl wr hl.out
      have cb6 := cb 6 (.int .i64 p.first) rfl wr hl.out
      have cb7 := cb 7 (.int .u8 p.btw) rfl wr hl.out
      generalize hX : D * wi = X at *
      generalize hY : wi * (p.base - T) = Y at *
      replace hl1 : Hid (∀ (W1 : World), Below wr.heap.size wr W1 → W1.heap[O]? = some (Obj.cells (bv p) 23)) := hl1
      replace hB1 : Hid (∀ (W1 : World), Below wr.heap.size wr W1 → Below O w W1) := hB1
      replace hT : Hid (thr p k bias = T) := hT
      replace hD : Hid (dgTo p.base (byt s at_ : Int) = D) := hD
      have HK : Hid (∀ x, rdN p s bias f (at_ + 1) x Y (k + p.base) = F → 0 ≤ x → x ≤ 2147483647 → ∀ wz, Below wr.heap.size wr wz → Y ≤ 2147483647 → (at_ + 1 ≤ s.size ∧ Hid (0 ≤ x ∧ x ≤ 2147483647 ∧ 0 ≤ Y ∧ Y ≤ 2147483647 ∧ 0 ≤ k + p.base ∧ k + p.base ≤ 36 * ((at_ + 1 : Nat) : Int) + 36 ∧ rdN p s bias (s.size - (at_ + 1)) (at_ + 1) x Y (k + p.base) = F) ∧ Hid (Below O w wz) ∧ Hid (wz.heap[O]? = some (.cells (bv p) 23)))) := fun x h1 h2 h3 wz h4 h5 =>
        ⟨by omega, ⟨h2, h3, m2, h5, by omega, by omega, by rw [hf2]; exact h1⟩, hB1.out wz h4, hl1.out wz h4⟩
      have P1 : p.base ≤ 36 := n2
      have P0 : 3 ≤ p.base := n1
      have hO2 : Hid (O < wr.heap.size) := (Array.getElem?_eq_some_iff.1 hl.out).1
      have hX0 : 0 ≤ D → 0 ≤ X := fun h => by rw [← hX]; exact Int.mul_nonneg h g3
      have hi0 : Hid (¬ D < 0 → 0 ≤ i + X) := fun h => by have := hX0 (by omega); omega
      clear hX0
      clear cb kt kd kth g5 g6 hat n1 n2 n3 hf hf2 hl hl1
      have hs2 : (at_ : Int) < 134217728 := by have := HN.out; omega
      clear HN
      by_cases e1 : D < 0
      · rw [if_pos e1] at g7
        subst g7
        have e1' : decide (D < 0) = true := decide_eq_true e1
        clear m0 m1 m2 m3 HK
        go_wp2
        go_quiet (first | (go_at_call 18; refine Calls.quiet_of_same (kdd _)))
        go_wp2
        go_ret3
        exact ⟨rfl, by rw [hO]; exact below_drewN g8.out _⟩
      · rw [if_neg e1] at g7
        have e1' : decide (D < 0) = false := decide_eq_false e1
        by_cases e2 : 2147483647 < i + X
        · rw [if_pos e2] at g7
          subst g7
          have e2' : decide (2147483647 < i + X) = true := decide_eq_true e2
          clear m2 m3 HK
          go_wp2
          go_quiet (first | (go_at_call 18; refine Calls.quiet_of_same (kdd _)))
          go_wp2
          go_ret3
          exact ⟨rfl, by rw [hO]; exact below_drewN g8.out _⟩
        · rw [if_neg e2] at g7
          have e2' : decide (2147483647 < i + X) = false := decide_eq_false e2
          by_cases e3 : D < T
          · rw [if_pos e3] at g7
            subst g7
            have e3' : decide (D < T) = true := decide_eq_true e3
            clear m2 m3 HK
            go_wp2
            go_quiet (first | (go_at_call 18; refine Calls.quiet_of_same (kdd _)))
            go_wp2_with (go_at_call 53; refine (ktt _).mono ?_)
            rintro e w1 ⟨rfl, b1⟩
            have b2 := hB1.out w1 ((below_drewN (Below.refl _ _) _).trans b1)
            go_wp2
            go_ret3
            exact ⟨rfl, by rw [hO]; exact b2⟩
          · rw [if_neg e3] at g7
            have e3' : decide (D < T) = false := decide_eq_false e3
            by_cases e4 : 2147483647 < Y
            · rw [if_pos e4] at g7
              subst g7
              have e4' : decide (2147483647 < Y) = true := decide_eq_true e4
              clear HK
              have M : Hid (0 ≤ Y ∧ Y ≤ 2147483647 * 36) := ⟨m2, m3⟩
              clear m2 m3
              go_wp2
              go_quiet (first | (go_at_call 18; refine Calls.quiet_of_same (kdd _)))
              go_wp2_with (go_at_call 53; refine (ktt _).mono ?_)
              rintro e w1 ⟨rfl, b1⟩
              have b2 := hB1.out w1 ((below_drewN (Below.refl _ _) _).trans b1)
              have hc1 := (b1.cell (p := ⟨O, 0, none⟩) (by have := hO2.out; simpa using this)).trans cb0
              obtain ⟨M1, M2⟩ := M.out
              clear m0 m1 k6 g1 g2
              go_wp2
              go_ret3
              exact ⟨rfl, by rw [hO]; exact b2⟩
            · rw [if_neg e4] at g7
              have e4' : decide (2147483647 < Y) = false := decide_eq_false e4
              have HK2 : Hid _ := HK.out _ g7 (hi0.out e1) (by omega)
              clear g7 HK
              have M : Hid (0 ≤ Y ∧ Y ≤ 2147483647 * 36) := ⟨m2, m3⟩
              clear m2 m3 e4
              go_wp2
              go_quiet (first | (go_at_call 18; refine Calls.quiet_of_same (kdd _)))
              go_wp2_with (go_at_call 53; refine (ktt _).mono ?_)
              rintro e w1 ⟨rfl, b1⟩
              have hc1 := (b1.cell (p := ⟨O, 0, none⟩) (by have := hO2.out; simpa using this)).trans cb0
              obtain ⟨M1, M2⟩ := M.out
              clear m0 m1 g1 g2
              go_wp2
              have hw : wrap64 (k + p.base) = k + p.base := by have := G5.out; unfold wrap64; omega
              refine ⟨⟨at_ + 1, i + X, Y, k + p.base, by simp, rfl, rfl, by rw [hw], HK2.out w1 ((below_drewN (Below.refl _ _) _).trans b1) (by have := of_decide_eq_false e4'; omega)⟩, ?_⟩
              simp [RowKit.intOf]; omega
    · obtain rfl : at_ = s.size := by omega
      rw [Nat.sub_self, rdN] at g7
      subst g7
      have c2 : decide ((s.size : Int) < (s.size : Int)) = false := by simp
      clear g1 g2 g3 g4 g5 g6 n1 n2 n3 kd kt kth
      go_wp2
      go_ret3
      exact ⟨rfl, by rw [hO]; exact HB.out⟩
end Go.Proofs.Ytahmeejcgddlhab
