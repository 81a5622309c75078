/-
  Any parameters: the document's DecodeBy, its loops.
-/
import Derived.Test.YtahmeejcgddlhabSh
import Derived.Test.YtahmeejcgddlhabPp
import Derived.Deep.QuietTactic
import Derived.BigQuiet
import Derived.Deep.DeepMust
namespace Go.Proofs.Ytahmeejcgddlhab
open Go.RowKit
noncomputable def body13 : Code := Try.f13.body.getD .skip
/-- What comes behind a number that is read. -/
def rdT (p : Bt) (s : ByteArray) (f : Nat) (n i : Int) (L : List Int) : (Nat × Int) ⊕ (Int × Nat) → (Nat × Int) ⊕ List Int
  | .inl e => .inl e
  | .inr (x, last) =>
    if 1114111 < n + x / ((L.length + 1 : Nat) : Int) then .inl (last, 142)
    else if 55296 ≤ n + x / ((L.length + 1 : Nat) : Int) ∧ n + x / ((L.length + 1 : Nat) : Int) ≤ 57343 then .inl (last, 143)
    else finJ (L.insertIdx (x % ((L.length + 1 : Nat) : Int)).toNat (n + x / ((L.length + 1 : Nat) : Int))) (rdL p s f (last + 1) (n + x / ((L.length + 1 : Nat) : Int)) (x % ((L.length + 1 : Nat) : Int) + 1) (adF p (x - i) ((L.length + 1 : Nat) : Int) (i == 0)) (L.length + 1))
theorem fin_step (p : Bt) (s : ByteArray) (f at_ : Nat) (n i bias : Int) (L : List Int) (h : at_ < s.size) : finJ L (rdL p s (f + 1) at_ n i bias L.length) = rdT p s f n i L (rdN p s bias (s.size - at_) at_ i 1 p.base) := by
  rw [rdL, if_neg (by omega)]
  cases rdN p s bias (s.size - at_) at_ i 1 p.base with
  | inl e => rfl
  | inr r =>
    obtain ⟨x, last⟩ := r
    simp only [rdT]
    split
    · rfl
    · split
      · rfl
      · cases rdL p s f (last + 1) (n + x / ((L.length + 1 : Nat) : Int)) (x % ((L.length + 1 : Nat) : Int) + 1) (adF p (x - i) ((L.length + 1 : Nat) : Int) (i == 0)) (L.length + 1) <;> rfl
set_option maxRecDepth 100000 in
set_option maxHeartbeats 16000000 in
theorem rdecB_main (p : Bt) (hp : Okb p) (s : ByteArray) (F : (Nat × Int) ⊕ List Int) (R Bx O : Nat) (L0 : List Int) (v0 : Value) (P : Ending → World → Prop) (a : Act) (w w1 : World) (HS : Hid (s.size < 9000000000000)) (hR : R ≤ s.size) (hL : L0.length ≤ R) (HO : Hid (O = w.heap.size)) (HBX : Hid (w.heap[Bx]? = some (.cells (bv p) 29))) (hF : Hid (F = finJ L0 (rdL p s (s.size - R) R p.first 0 p.bias L0.length))) (hv : Hid (Rw .i32 21 O w1 v0 L0)) (hB : Hid (Below O w w1))
    (HPE : Hid (∀ at_ code w', F = .inl (at_, code) → Below O w w' → P (.returned (.tuple #[.slice none 0 0, .int .i64 (at_ : Int), .int .i64 code])) w'))
    (HPK : Hid (∀ L v w', F = .inr L → Rw .i32 21 O w' v L → Below O w w' → P (.returned (.tuple #[v, .int .i64 0, .int .i64 0])) w'))
    (ha : At 173 [(1, .string s), (2, .pointer (some ⟨Bx, 0, none⟩)), (7, .int .i64 (R : Int)), (9, v0), (11, .int .i64 p.first), (12, .int .i64 0), (13, .int .i64 p.bias)] a) : Code.wp Try.prog (sq 8 body13) (bodyPost Try.prog Try.f13 P) a w1 := by
  obtain ⟨f, rfl, h1, h2, h7, h9, h11, h12, h13, -⟩ := ha.lit
  change Code.wp _ _ _ ⟨#[f 0, f 1, f 2, f 3, f 4, f 5, f 6, f 7, f 8, f 9, f 10, f 11, f 12, f 13, f 14, f 15, f 16, f 17, f 18, f 19, f 20, f 21, f 22, f 23, f 24, f 25, f 26, f 27, f 28, f 29, f 30, f 31, f 32, f 33, f 34, f 35, f 36, f 37, f 38, f 39, f 40, f 41, f 42, f 43, f 44, f 45, f 46, f 47, f 48, f 49, f 50, f 51, f 52, f 53, f 54, f 55, f 56, f 57, f 58, f 59, f 60, f 61, f 62, f 63, f 64, f 65, f 66, f 67, f 68, f 69, f 70, f 71, f 72, f 73, f 74, f 75, f 76, f 77, f 78, f 79, f 80, f 81, f 82, f 83, f 84, f 85, f 86, f 87, f 88, f 89, f 90, f 91, f 92, f 93, f 94, f 95, f 96, f 97, f 98, f 99, f 100, f 101, f 102, f 103, f 104, f 105, f 106, f 107, f 108, f 109, f 110, f 111, f 112, f 113, f 114, f 115, f 116, f 117, f 118, f 119, f 120, f 121, f 122, f 123, f 124, f 125, f 126, f 127, f 128, f 129, f 130, f 131, f 132, f 133, f 134, f 135, f 136, f 137, f 138, f 139, f 140, f 141, f 142, f 143, f 144, f 145, f 146, f 147, f 148, f 149, f 150, f 151, f 152, f 153, f 154, f 155, f 156, f 157, f 158, f 159, f 160, f 161, f 162, f 163, f 164, f 165, f 166, f 167, f 168, f 169, f 170, f 171, f 172], []⟩ _
  simp only at h1 h2 h7 h9 h11 h12 h13
  simp only [h1, h2, h7, h9, h11, h12, h13]
  clear h1 h2 h7 h9 h11 h12 h13
  conv => arg 2; whnf
  have s9 : (s.size : Int) ≤ 9007199254740992 := by have := HS.out; omega
  have HPB : Hid (1 ≤ p.first ∧ p.first ≤ 1114111 ∧ 0 ≤ p.bias ∧ p.bias ≤ 10000) := ⟨hp.f1, hp.f2, hp.i1, hp.i2⟩
  go_wp2
  go_loopw [7, 9, 11, 12, 13] (fun x7 v x11 x12 x13 wr => ∃ (at_ : Nat) (n i bias : Int) (L : List Int), x7 = .int .i64 (at_ : Int) ∧ x11 = .int .i64 n ∧ x12 = .int .i64 i ∧ x13 = .int .i64 bias ∧ at_ ≤ s.size ∧ L.length ≤ at_ ∧ Hid (Rw .i32 21 O wr v L) ∧ Hid (1 ≤ n ∧ n ≤ 1114111 ∧ 0 ≤ i ∧ i ≤ 2147483648 ∧ 0 ≤ bias ∧ bias ≤ 10000) ∧ Hid (F = finJ L (rdL p s (s.size - at_) at_ n i bias L.length)) ∧ Hid (Below O w wr)) (fun x7 _ _ _ _ _ => s.size - (RowKit.intOf x7).toNat)
  case atStart => exact ⟨R, p.first, 0, p.bias, L0, rfl, rfl, rfl, rfl, hR, hL, hv, ⟨HPB.out.1, HPB.out.2.1, by decide, by decide, HPB.out.2.2.1, HPB.out.2.2.2⟩, hF, hB⟩
  case round =>
    clear hF hv hB hR hL
    obtain ⟨wo, hwo⟩ : ∃ wo, wr = wo := ⟨_, rfl⟩
    rw [hwo] at hrel ⊢
    clear hwo
    obtain ⟨at_, n, i, bias, L, rfl, rfl, rfl, rfl, hat, hL, hv, HN, HJ, HB⟩ := hrel
    obtain ⟨V, hV⟩ : ∃ V, u9 = V := ⟨_, rfl⟩
    rw [hV] at hv ⊢
    clear hV
    by_cases c : at_ < s.size
    · have c1 : (at_ : Int) < (s.size : Int) := by omega
      have c2 : decide ((at_ : Int) < (s.size : Int)) = true := decide_eq_true c1
      obtain ⟨ff, hff⟩ : ∃ ff, s.size - at_ = ff + 1 := ⟨s.size - at_ - 1, by omega⟩
      obtain ⟨r, hr⟩ : ∃ r, rdN p s bias (s.size - at_) at_ i 1 p.base = r := ⟨_, rfl⟩
      have HT : Hid (F = rdT p s ff n i L r) := by
        have := HJ.out
        rw [hff, fin_step _ _ _ _ _ _ _ _ c, hr] at this
        exact this
      have HAT : Hid (at_ ≤ s.size ∧ L.length ≤ at_ ∧ s.size ≤ at_ + 1 + ff) := ⟨by omega, hL, by omega⟩
      replace hr : Hid (rdN p s bias (s.size - at_) at_ i 1 p.base = r) := hr
      have hr0 : Hid (rdN p s bias (s.size - at_) at_ i 1 p.base = r) := hr
      have a0 := box_cell (box_at HBX.out HO.out HB.out) 0 (.int .i64 p.base) rfl
      have hpb : 3 ≤ p.base ∧ p.base ≤ 36 := ⟨hp.b1, hp.b2⟩
      have hat9 : (at_ : Int) ≤ 9007199254740992 := by omega
      clear HJ hff
      go_wp2
      go_quiet (fail)
      have HBq : Hid (Below O w (wo.drewN nq)) := below_drewN HB.out _
      have hvq : Hid (Rw .i32 21 O (wo.drewN nq) V L) := hv.out.below (below_drewN (Below.refl _ _) _)
      clear a0 HB hv c2
      generalize wo.drewN nq = wx at *
      go_wp2
      go_loopw [7, 12, 15, 16] (fun x7 x12 x15 x16 wq => ∃ (at2 : Nat) (i2 wi k : Int), x7 = .int .i64 (at2 : Int) ∧ x12 = .int .i64 i2 ∧ x15 = .int .i64 wi ∧ x16 = .int .i64 k ∧ at2 ≤ s.size ∧ at_ ≤ at2 ∧ Hid (0 ≤ i2 ∧ i2 ≤ 2147483648 ∧ 0 ≤ wi ∧ wi ≤ 2147483647 ∧ 0 ≤ k ∧ k ≤ 36 * (at2 : Int) + 36 ∧ rdN p s bias (s.size - at2) at2 i2 wi k = r) ∧ Hid (Rw .i32 21 O wq V L) ∧ Hid (Below O w wq)) (fun x7 _ _ _ _ => s.size - (RowKit.intOf x7).toNat)
      case atStart => exact ⟨at_, i, 1, p.base, rfl, rfl, rfl, rfl, hat, Nat.le_refl _, by have h1 := HN.out; exact ⟨h1.2.2.1, h1.2.2.2.1, by omega, by omega, by omega, by omega, hr.out⟩, hvq, HBq⟩
      case round =>
        clear hr hvq HBq
        obtain ⟨wy, hwy⟩ : ∃ wy, wr = wy := ⟨_, rfl⟩
        rw [hwy] at hrel ⊢
        clear hwy
        obtain ⟨at2, i2, wi, k, rfl, rfl, rfl, rfl, hat2, hat3, H2, hv, HB⟩ := hrel
        by_cases c : at2 < s.size
        · have hne : ((at2 : Int) == (s.size : Int)) = false := by simp; omega
          have q0 : (s[at2]'c).toNat = byt s at2 := byt_eq s at2 c
          have c1 : (at2 : Int) < (s.size : Int) := by omega
          obtain ⟨g1, g2, g3, g4, g5, g6, g7⟩ := H2.out
          have q2 := byt_lt s at2
          have k9 : k ≤ 9007199254740992 := by have := HS.out; omega
          have kd := fun w => rdigitBy_any p.base (byt s at2 : Int) w (by omega) (by omega)
          have k23 := fun w => rthrBy_any p k bias w hp.l2 g5 k9 (by have := HN.out; omega) (by have := HN.out; omega)
          have tb := thr_bound p hp k bias
          have db := dgTo_bound p.base (byt s at2 : Int) (by omega)
          obtain ⟨f3, hf3⟩ : ∃ f3, s.size - at2 = f3 + 1 := ⟨s.size - at2 - 1, by omega⟩
          have hf4 : s.size - (at2 + 1) = f3 := by omega
          rw [hf3, rdN] at g7
          obtain ⟨D, hD⟩ : ∃ D, dgTo p.base (byt s at2 : Int) = D := ⟨_, rfl⟩
          obtain ⟨T, hT⟩ : ∃ T, thr p k bias = T := ⟨_, rfl⟩
          simp only [hD] at g7 kd db
          simp only [hT] at g7 k23 tb
          obtain ⟨d1, d2, d3⟩ := db
          obtain ⟨t1, t2⟩ := tb
          obtain ⟨RR, hRR⟩ : ∃ RR, p.base - T = RR := ⟨_, rfl⟩
          have rr0 : 2 ≤ RR ∧ RR ≤ 36 := by omega
          have rw0 : wrap64 RR = RR := by unfold wrap64; omega
          have m0 : D * wi ≤ 35 * 2147483647 := by
            by_cases z : 0 ≤ D
            · exact Int.mul_le_mul d2 g4 g3 (by omega)
            · have : D = -1 := by omega
              subst this; omega
          have m1 : -2147483647 ≤ D * wi := by
            by_cases z : 0 ≤ D
            · have := Int.mul_nonneg z g3; omega
            · have : D = -1 := by omega
              subst this; omega
          rw [hRR] at g7
          have m2 : 0 ≤ wi * RR := Int.mul_nonneg g3 (by omega)
          have m3 : wi * RR ≤ 2147483647 * 36 := Int.mul_le_mul g4 (by omega) (by omega) (by omega)
          have hX0 : 0 ≤ D → 0 ≤ D * wi := fun h => Int.mul_nonneg h g3
          have k7 : (at2 : Int) ≤ 9007199254740992 := by omega
          have hpb2 : wrap64 (k + p.base) = k + p.base := by have := HS.out; unfold wrap64; omega
          generalize hX : D * wi = X at *
          generalize hY : wi * RR = Y at *
          have HK : Hid (∀ x, rdN p s bias f3 (at2 + 1) x Y (k + p.base) = r → 0 ≤ x → x ≤ 2147483647 → Y ≤ 2147483647 → (at2 + 1 ≤ s.size ∧ at_ ≤ at2 + 1 ∧ Hid (0 ≤ x ∧ x ≤ 2147483648 ∧ 0 ≤ Y ∧ Y ≤ 2147483647 ∧ 0 ≤ k + p.base ∧ k + p.base ≤ 36 * ((at2 + 1 : Nat) : Int) + 36 ∧ rdN p s bias (s.size - (at2 + 1)) (at2 + 1) x Y (k + p.base) = r))) := fun x h1 h2 h3 h5 =>
            ⟨by omega, by omega, ⟨h2, by omega, m2, h5, by omega, by omega, by rw [hf4]; exact h1⟩⟩
          have hbx := box_at HBX.out HO.out HB.out
          have a0 := box_cell hbx 0 (.int .i64 p.base) rfl
          have a1 := box_cell hbx 1 (.int .i64 p.least) rfl
          have a2 := box_cell hbx 2 (.int .i64 p.most) rfl
          have a3 := box_cell hbx 3 (.int .i64 p.skew) rfl
          have a4 := box_cell hbx 4 (.int .i64 p.damp) rfl
          have a5 := box_cell hbx 5 (.int .i64 p.bias) rfl
          have a6 := box_cell hbx 6 (.int .i64 p.first) rfl
          have a7 := box_cell hbx 7 (.int .u8 p.btw) rfl
          have hOy : Hid (O ≤ wy.heap.size) := by have := HB.out.size; have := HO.out; show _ ≤ _; omega
          have HAT2 : Hid (at_ ≤ at2 ∧ at2 < s.size) := ⟨hat3, c⟩
          clear hf3 hf4 g6 hbx H2 hat2 hat3 hD hT
          by_cases e1 : D < 0
          · rw [if_pos e1] at g7
            subst g7
            have e1' : decide (D < 0) = true := decide_eq_true e1
            have HE : Hid (F = .inl (at2, 140)) := HT.out
            clear m2 m3 HK hX0 t1 t2 g1 g2 d1 d2 a1 a2 a3 a4 a5 a6 a7
            go_wp2
            go_quiet (first | (go_at_call 19; refine Calls.quiet_of_same (kd _)))
            go_wp2
            go_ret3
            exact HPE.out at2 140 _ HE.out (below_drewN HB.out _)
          rw [if_neg e1] at g7
          have e1' : decide (D < 0) = false := decide_eq_false e1
          have hX1 := hX0 (by omega)
          have xw : wrap64 X = X := by unfold wrap64; omega
          have xw2 : wrap64 (i2 + X) = i2 + X := by unfold wrap64; omega
          by_cases e2 : 2147483647 < i2 + X
          · rw [if_pos e2] at g7
            subst g7
            have e2' : decide (2147483647 < i2 + X) = true := decide_eq_true e2
            have HE : Hid (F = .inl (at2, 142)) := HT.out
            clear m2 m3 HK hX0 t1 t2 a1 a2 a3 a4 a5 a6 a7
            go_wp2
            go_quiet (first | (go_at_call 19; refine Calls.quiet_of_same (kd _)))
            go_wp2
            go_ret3
            exact HPE.out at2 142 _ HE.out (below_drewN HB.out _)
          rw [if_neg e2] at g7
          have e2' : decide (2147483647 < i2 + X) = false := decide_eq_false e2
          clear m0 m1
          by_cases e3 : D < T
          · rw [if_pos e3] at g7
            have HT3 : Hid (F = rdT p s ff n i L (.inr (i2 + X, at2))) := by show _ = _; rw [HT.out, ← g7]
            have e3' : decide (D < T) = true := decide_eq_true e3
            have HX2 : Hid (i ≤ i2 + X) := by
              have h0 := HT.out
              have hr2 := hr0.out
              rw [← g7] at hr2
              have := rdN_ok p s bias _ _ _ _ _ _ _ hr2 (by omega) (by have := HAT.out; omega)
              show _ ≤ _; omega
            obtain ⟨x, hx⟩ : ∃ x, i2 + X = x := ⟨_, rfl⟩
            rw [hx] at HT3 HX2
            have HXB : Hid (0 ≤ x ∧ x ≤ 2147483647) := ⟨by omega, by omega⟩
            have xw3 : wrap64 x = x := by unfold wrap64; omega
            have e2x : decide (2147483647 < x) = false := by rw [← hx]; exact e2'
            clear m2 m3 HK hX0 t1 t2 e2 e3 g7 HT hr0 xw2
            go_wp2
            go_quiet (first | (go_at_call 19; refine Calls.quiet_of_same (kd _)))
            go_wp2_with (go_at_call 23; refine (calls_hid (k23 _)).mono ?_)
            intro _ w3 hq
            obtain ⟨rfl, b3⟩ := hq.out
            have HB3 : Hid (Below O w w3) := HB.out.trans ((below_drewN (Below.refl _ _) nq).trans (b3.mono (by first | exact Nat.le_refl _ | simp)) |>.mono hOy.out)
            have hv3 : Hid (Rw .i32 21 O w3 V L) := (hv.out.below (below_drewN (Below.refl _ _) nq)).below b3
            clear hq b3 k23 a0 a1 a2 a3 a4 a5 a6 a7 HB hv hOy kd e2' e2x
            obtain ⟨aV, cV, hVV, -⟩ := owns_slice hv3.out
            subst hVV
            obtain ⟨M, hM⟩ : ∃ M, L.length + 1 = M := ⟨_, rfl⟩
            have hh := HN.out
            have hs := HS.out
            have hat4 := HAT.out
            have hat5 := HAT2.out
            have hx1 := HXB.out
            have hM1 : 1 ≤ (M : Int) := by omega
            have hM3 : (M : Int) ≤ 9000000000001 := by omega
            have x0 : 0 ≤ x := hx1.1
            have q0 := Int.ediv_nonneg x0 (show 0 ≤ (M : Int) by omega)
            have q1 : x / (M : Int) ≤ 2147483647 := by have := Int.ediv_le_self (a := x) (M : Int) x0; omega
            have r0 := Int.emod_nonneg x (show (M : Int) ≠ 0 by omega)
            have r1 := Int.emod_lt_of_pos x (show 0 < (M : Int) by omega)
            have k25 := fun w => radaptBy_any p (x - i) (M : Int) (i == 0) w hp (by have := HX2.out; omega) (by omega) hM1 (by omega)
            have ab := adF_bound p hp (x - i) (M : Int) (i == 0) (by have := HX2.out; omega) (by omega) hM1
            rw [rdT, hM] at HT3
            obtain ⟨A, hA⟩ : ∃ A, adF p (x - i) (M : Int) (i == 0) = A := ⟨_, rfl⟩
            simp only [hA] at k25 ab HT3
            obtain ⟨Qd, hQd⟩ : ∃ Qd, x / (M : Int) = Qd := ⟨_, rfl⟩
            rw [hQd] at q0 q1 HT3
            have QR : Hid (0 ≤ Qd ∧ 0 ≤ x % (M : Int) ∧ x % (M : Int) < (M : Int) ∧ (M : Int) ≤ 9000000000001 ∧ L.length + 1 = M ∧ 0 ≤ A ∧ A ≤ 10000) := ⟨q0, r0, r1, hM3, hM, ab.1, ab.2⟩
            have n3 : n + Qd ≤ 9007199254740992 := by omega
            have n4 : 1 ≤ n + Qd := by omega
            have Z1 : Hid (x / (M : Int) = Qd ∧ n + Qd ≤ 9007199254740992 ∧ 1 ≤ n + Qd ∧ wrap64 (n + Qd) = n + Qd ∧ ((M : Int) == 0) = false ∧ 0 ≤ x ∧ x ≤ 9007199254740992) := ⟨hQd, n3, n4, by unfold wrap64; omega, by simp; omega, x0, by omega⟩
            have xi : wrap64 (x - i) = x - i := by unfold wrap64; omega
            have hM2 : (L.length : Int) + 1 = (M : Int) := by omega
            have hM4 : (M : Int) ≤ 9007199254740992 := by omega
            have hbx := box_at HBX.out HO.out HB3.out
            have a0 := box_cell hbx 0 (.int .i64 p.base) rfl
            have a1 := box_cell hbx 1 (.int .i64 p.least) rfl
            have a2 := box_cell hbx 2 (.int .i64 p.most) rfl
            have a3 := box_cell hbx 3 (.int .i64 p.skew) rfl
            have a4 := box_cell hbx 4 (.int .i64 p.damp) rfl
            have a5 := box_cell hbx 5 (.int .i64 p.bias) rfl
            have a6 := box_cell hbx 6 (.int .i64 p.first) rfl
            have a7 := box_cell hbx 7 (.int .u8 p.btw) rfl
            have hO3 : Hid (O ≤ w3.heap.size) := by have := HB3.out.size; have := HO.out; show _ ≤ _; omega
            clear hA hh hs hM3 x0 q0 q1 r0 r1 ab hQd n3 n4 hM hat4 hat5 hx1 hbx
            go_wp2_with (go_at_call 25; refine (calls_hid (k25 _)).mono ?_)
            intro _ w4 hq
            obtain ⟨rfl, b4⟩ := hq.out
            have HB4 : Hid (Below O w w4) := HB3.out.trans (b4.mono hO3.out)
            have hv4 : Hid (Rw .i32 21 O w4 (.slice aV L.length cV) L) := hv3.out.below b4
            have hO4 : Hid (O ≤ w4.heap.size) := Nat.le_trans hO3.out b4.size
            clear hq b4 k25 xi hM2 hM4 a0 a1 a2 a3 a4 a5 a6 a7 HB3 hv3 hO3
            obtain ⟨hQd, n3, n4, wn, hM0, x0, x9⟩ := Z1.out
            by_cases t1 : 1114111 < n + Qd
            · rw [if_pos t1] at HT3
              have t1' : decide (1114111 < n + Qd) = true := decide_eq_true t1
              go_wp2
              go_ret3
              exact HPE.out at2 142 _ HT3.out HB4.out
            rw [if_neg t1] at HT3
            have t1' : decide (1114111 < n + Qd) = false := decide_eq_false t1
            have hn32 : IntKind.i32.wrap (n + Qd) = n + Qd := IntWalk.i32_in _ ⟨by omega, by omega⟩
            by_cases t2 : 55296 ≤ n + Qd ∧ n + Qd ≤ 57343
            · rw [if_pos t2] at HT3
              have t2' : isSc (n + Qd) = false := by unfold isSc; simp; omega
              clear t1 t2
              go_wp2_with (go_at_call 21; refine (rscalar_any _ _).mono ?_; rintro e w' ⟨rfl, hw⟩; rw [hw]; clear hw)
              go_ret3
              exact HPE.out at2 143 _ HT3.out HB4.out
            rw [if_neg t2] at HT3
            have t2' : isSc (n + Qd) = true := by unfold isSc; simp; omega
            have hlA : L.length < 10000000000000 := by have := QR.out; omega
            have hbO : O ≤ w4.heap.size := hO4.out
            have T9 : Hid (n + Qd ≤ 1114111) := by show n + Qd ≤ 1114111; omega
            clear t2
            go_wp2_with (first | (go_at_call 21; refine (rscalar_any _ _).mono ?_; rintro e w' ⟨rfl, hw⟩; rw [hw]; clear hw) | (at_builtin; go_must (refine wpList_appL rfl _ _ 24 rfl O 21 .i32 4 Try.underlying24 info21 (by decide) (.slice aV L.length cV) L 0 rfl hv4.out rfl hlA hbO ?_)))
            intro v3 w5 hR3 _ hB3
            have hl1 : (L ++ [0]).length = M := by have := QR.out; simp; omega
            obtain ⟨g, cap, rfl, hg, hC⟩ := hR3.out.celc (by have := QR.out; omega)
            rw [hl1] at hC ⊢
            obtain ⟨q0, r0, r1, hM3, hM, A0, A1⟩ := QR.out
            obtain ⟨pp, hpp⟩ : ∃ pp : Nat, x % (M : Int) = (pp : Int) := ⟨(x % (M : Int)).toNat, by omega⟩
            have hpn : (x % (M : Int)).toNat = pp := by omega
            rw [hpn] at HT3
            have hpl : pp ≤ L.length := by omega
            have hpM : (pp : Int) < (M : Int) := by omega
            have HB5 : Hid (Below O w w5) := HB4.out.trans hB3.out
            have hgd : ∀ j, (L ++ [0]).getD j 0 = L.getD j 0 := fun j => by
              simp only [List.getD_eq_getElem?_getD]
              by_cases c : j < L.length
              · rw [List.getElem?_append_left c]
              · rw [List.getElem?_append_right (by omega), List.getElem?_eq_none (l := L) (by omega)]
                by_cases d : j - L.length = 0
                · rw [d]; rfl
                · rw [List.getElem?_eq_none (by simp; omega)]
            have hC2 : Hid (CelC .i32 21 w5 g cap M (fun j => if j ≤ L.length then L.getD j 0 else L.getD (j - 1) 0)) := hC.congr (fun j hj => by rw [hgd, if_pos (by omega)])
            have hMi : (M : Int) = (L.length : Int) + 1 := by omega
            have hLM : (L.length : Int) = (M : Int) - 1 := by omega
            have hM9 : (M : Int) ≤ 9007199254740992 := by omega
            have hMM : Hid (L.length + 1 = M ∧ pp ≤ L.length) := ⟨hM, hpl⟩
            have Z3 : Hid (n + Qd ≤ 9007199254740992 ∧ wrap64 (n + Qd) = n + Qd ∧ 1 ≤ n + Qd ∧ IntKind.i32.wrap (n + Qd) = n + Qd) := ⟨n3, wn, n4, hn32⟩
            have hgO : Hid (w.heap.size ≤ g ∧ O ≤ g) := ⟨by have := HO.out; omega, hg⟩
            clear hC hgd hR3 hB3 hv4 n3 n4 wn hn32 x0 x9 hQd hM0 t1' t2' r0 r1 q0 A0 A1 hM3 hl1 hlA hbO hMi hM hpl hpn HB4 hO4 t1 hg
            replace hpp : Hid (x % (M : Int) = (pp : Int)) := hpp
            go_wp2
            rw [hpp.out]
            go_loopw [20] (fun z wq => ∃ j : Nat, z = .int .i64 (j : Int) ∧ pp ≤ j ∧ Hid (j < M ∧ CelC .i32 21 wq g cap M (fun y => if y ≤ j then L.getD y 0 else L.getD (y - 1) 0) ∧ Below O w wq)) (fun z _ => (RowKit.intOf z).toNat)
            case atStart => exact ⟨L.length, by rw [hLM], hMM.out.2, by have := hMM.out; omega, hC2.out, HB5.out⟩
            case round =>
              clear hC2 HB5
              obtain ⟨wv, hwv⟩ : ∃ wv, wr = wv := ⟨_, rfl⟩
              rw [hwv] at hrel ⊢
              clear hwv
              obtain ⟨j, rfl, hj, hj2, hC, hB⟩ := hrel
              by_cases c : pp < j
              · obtain ⟨j, rfl⟩ : ∃ j', j = j' + 1 := ⟨j - 1, by omega⟩
                have e : ((j + 1 : Nat) : Int) = (j : Int) + 1 := by omega
                have c1 : (pp : Int) < (j : Int) + 1 := by omega
                have c2 : decide ((pp : Int) < (j : Int) + 1) = true := decide_eq_true c1
                obtain ⟨x1, -⟩ := hC.at j (by omega)
                obtain ⟨y1, y2⟩ := hC.at (j + 1) hj2
                rw [if_pos (by omega)] at x1
                have HE : Hid (j < M ∧ CelC .i32 21 (wv.setCell ⟨g, j + 1, none⟩ (.int .i32 (L.getD j 0))) g cap M (fun y => if y ≤ j then L.getD y 0 else L.getD (y - 1) 0) ∧ Below O w (wv.setCell ⟨g, j + 1, none⟩ (.int .i32 (L.getD j 0)))) :=
                  ⟨by omega, (hC.set (j + 1) (L.getD j 0)).congr (fun y hy => by
                    by_cases d : y = j + 1
                    · subst d; rw [if_pos rfl, if_neg (by omega)]; simp
                    · rw [if_neg d]
                      by_cases d2 : y ≤ j
                      · rw [if_pos (by omega), if_pos d2]
                      · rw [if_neg (by omega), if_neg d2]), hB.setCell (by have := hgO.out; simp; omega) _⟩
                have k1 : (j : Int) + 1 < (M : Int) := by omega
                have k2 : (j : Int) < (M : Int) := by omega
                have k3 : (j : Int) ≤ 9007199254740992 := by omega
                clear hC hB hj2
                generalize L.getD j 0 = U at *
                rw [e]
                go_wp2
                refine ⟨⟨j, by simp, by omega, HE⟩, ?_⟩
                simp [RowKit.intOf]
              · obtain rfl : pp = j := by omega
                have c2 : decide ((pp : Int) < (pp : Int)) = false := by simp
                obtain ⟨n3, wn, n4, hn32⟩ := Z3.out
                obtain ⟨y1, y2⟩ := hC.at pp (by omega)
                have hlen : (L.insertIdx pp (n + Qd)).length = M := by rw [len_ins _ _ _ hMM.out.2]; exact hMM.out.1
                have hfin : CelC .i32 21 (wv.setCell ⟨g, pp, none⟩ (.int .i32 (n + Qd))) g cap (L.insertIdx pp (n + Qd)).length (fun y => (L.insertIdx pp (n + Qd)).getD y 0) := by
                  rw [hlen]
                  refine (hC.set pp (n + Qd)).congr (fun y hy => ?_)
                  rw [getD_ins _ _ _ _ hMM.out.2]
                  by_cases d : y = pp
                  · rw [if_pos d, if_neg (by omega), if_pos d]
                  · rw [if_neg d]
                    by_cases d2 : y < pp
                    · rw [if_pos (by omega), if_pos d2]
                    · rw [if_neg (by omega), if_neg d2, if_neg d]
                have hfb : Below O w (wv.setCell ⟨g, pp, none⟩ (.int .i32 (n + Qd))) := hB.setCell (by have := hgO.out; simp; omega) _
                have hrw := hfin.owns O hgO.out.2
                rw [hlen] at hrw
                obtain ⟨h1, h2, h3, h4, h5, h6⟩ := HN.out
                have hq := QR.out
                have ha1 := HAT.out
                have ha2 := HAT2.out
                have HFIN : Hid (∃ (at_ : Nat) (n' i' bias' : Int) (L' : List Int), ((at2 : Int) + 1) = (at_ : Int) ∧ n + Qd = n' ∧ (pp : Int) + 1 = i' ∧ A = bias' ∧ at_ ≤ s.size ∧ L'.length ≤ at_ ∧ Hid (Rw .i32 21 O (wv.setCell ⟨g, pp, none⟩ (.int .i32 (n + Qd))) (.slice (some ⟨g, 0, none⟩) M cap) L') ∧ Hid (1 ≤ n' ∧ n' ≤ 1114111 ∧ 0 ≤ i' ∧ i' ≤ 2147483648 ∧ 0 ≤ bias' ∧ bias' ≤ 10000) ∧ Hid (F = finJ L' (rdL p s (s.size - at_) at_ n' i' bias' L'.length)) ∧ Hid (Below O w (wv.setCell ⟨g, pp, none⟩ (.int .i32 (n + Qd))))) := by
                  refine ⟨at2 + 1, n + Qd, (pp : Int) + 1, A, L.insertIdx pp (n + Qd), by omega, rfl, rfl, rfl, by omega, by rw [hlen]; have := hMM.out; omega, hrw, ⟨by omega, T9.out, by omega, ?_, hq.2.2.2.2.2.1, hq.2.2.2.2.2.2⟩, ?_, hfb⟩
                  · have hx1 := HXB.out
                    have h9 := hpp.out
                    have h10 : x % (M : Int) ≤ x := (by have q1 := Int.mul_ediv_add_emod x (M : Int); have q2 := Int.mul_nonneg (show (0 : Int) ≤ (M : Int) by omega) (Int.ediv_nonneg hx1.1 (show (0 : Int) ≤ (M : Int) by omega)); omega)
                    omega
                  · show _ = _
                    have e1 := hpp.out
                    rw [HT3.out, hlen, e1, rdL_fuel p s (s.size - (at2 + 1)) ff (at2 + 1) _ _ _ _ (by omega) (by omega)]
                have a9 : (at2 : Int) ≤ 9007199254740992 := by have := HS.out; omega
                have p9 : (pp : Int) ≤ 9007199254740992 := by omega
                clear hC hB hfin hfb hrw h1 h2 h3 h4 h5 h6 hq hlen hj hj2 HT3 hLM hM9 ha1 ha2
                go_wp2
                obtain ⟨at9, n9, i9, b9, L9, f1, f2, f3, f4, f5⟩ := HFIN.out
                refine ⟨⟨at9, n9, i9, b9, L9, by first | (rw [← f1]) | simp [← f1], by rw [← f2], by rw [← f3], by rw [← f4], f5⟩, ?_⟩
                have := HAT2.out
                have := HAT.out
                simp [RowKit.intOf]; omega
          rw [if_neg e3] at g7
          have e3' : decide (D < T) = false := decide_eq_false e3
          have yw : wrap64 Y = Y := by unfold wrap64; omega
          by_cases e4 : 2147483647 < Y
          · rw [if_pos e4] at g7
            subst g7
            have e4' : decide (2147483647 < Y) = true := decide_eq_true e4
            have HE : Hid (F = .inl (at2, 142)) := HT.out
            clear HK hX0 m3 e2 e3 HT
            go_wp2
            go_quiet (first | (go_at_call 19; refine Calls.quiet_of_same (kd _)))
            go_wp2_with (go_at_call 23; refine (calls_hid (k23 _)).mono ?_)
            intro _ w3 hq
            obtain ⟨rfl, b3⟩ := hq.out
            have HB3 : Hid (Below O w w3) := HB.out.trans ((below_drewN (Below.refl _ _) nq).trans (b3.mono (by first | exact Nat.le_refl _ | simp)) |>.mono hOy.out)
            have b0 := box_cell (box_at HBX.out HO.out HB3.out) 0 (.int .i64 p.base) rfl
            clear hq b3 k23 a0 a1 a2 a3 a4 a5 a6 a7 HB hv hOy kd
            go_wp2
            go_ret3
            exact HPE.out at2 142 _ HE.out HB3.out
          rw [if_neg e4] at g7
          have e4' : decide (2147483647 < Y) = false := decide_eq_false e4
          obtain ⟨z1, z2, HK3⟩ := HK.out _ g7 (by omega) (by omega) (by omega)
          have HZ2 : Hid (at2 + 1 ≤ s.size ∧ at_ ≤ at2 + 1) := ⟨z1, z2⟩
          clear m2 m3 HK hX0 g7 e3 HT z1 z2
          go_wp2
          go_quiet (first | (go_at_call 19; refine Calls.quiet_of_same (kd _)))
          go_wp2_with (go_at_call 23; refine (calls_hid (k23 _)).mono ?_)
          intro _ w3 hq
          obtain ⟨rfl, b3⟩ := hq.out
          have HB3 : Hid (Below O w w3) := HB.out.trans ((below_drewN (Below.refl _ _) nq).trans (b3.mono (by first | exact Nat.le_refl _ | simp)) |>.mono hOy.out)
          have hv3 : Hid (Rw .i32 21 O w3 V L) := (hv.out.below (below_drewN (Below.refl _ _) nq)).below b3
          have b0 := box_cell (box_at HBX.out HO.out HB3.out) 0 (.int .i64 p.base) rfl
          clear hq b3 k23 a0 a1 a2 a3 a4 a5 a6 a7 HB hv hOy kd
          go_wp2
          refine ⟨⟨at2 + 1, i2 + X, Y, k + p.base, by simp, by first | rfl | simp [xw2], by first | rfl | simp [yw] | simp [hRR, hY, yw], by first | rfl | simp [hpb2], HZ2.out.1, HZ2.out.2, HK3, hv3, HB3⟩, ?_⟩
          have := HAT2.out
          simp [RowKit.intOf]; omega
        · obtain rfl : at2 = s.size := by omega
          have hne : ((s.size : Int) == (s.size : Int)) = true := by simp
          have g7 := H2.out.2.2.2.2.2.2
          rw [Nat.sub_self, rdN] at g7
          subst g7
          have HE : Hid (F = .inl (s.size, 140)) := HT.out
          clear H2 HT
          go_wp2
          go_ret3
          exact HPE.out s.size 140 _ HE.out HB.out
    · obtain rfl : at_ = s.size := by omega
      have c2 : decide ((s.size : Int) < (s.size : Int)) = false := by simp
      have hFF := HJ.out
      rw [Nat.sub_self, rdL, finJ] at hFF
      have HFF : Hid (F = .inr L) := by show _ = _; rw [hFF]; rfl
      obtain ⟨a2, cc2, rfl, -⟩ := owns_slice hv.out
      clear hFF HJ
      go_wp2
      go_ret3
      exact HPK.out L _ _ HFF.out hv.out HB.out
end Go.Proofs.Ytahmeejcgddlhab
