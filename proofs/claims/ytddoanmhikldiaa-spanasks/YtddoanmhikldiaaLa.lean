/-
  What the statement of the questions asks, walked. Conditions: the numbers fit; the lists take no more bytes than there are.
-/
import Derived.Test.YtddoanmhikldiaaRf
import Derived.Test.YtddoanmhikldiaaPl
import Derived.Test.YtddoanmhikldiaaLl
import Derived.Test.YtddoanmhikldiaaGv
import Derived.Test.YtddoanmhikldiaaPq
import Derived.Test.YtddoanmhikldiaaLz
namespace Go.Proofs.Ytddoanmhikldiaa
open Go.RowKit
noncomputable def body5 : Code := Try.f5.body.getD .skip
set_option maxRecDepth 100000 in
set_option maxHeartbeats 2000000 in
theorem asks_E {Q : Ending → World → Prop} (A B : List Sn) (va vb vm vn : Value) (a : Act) (w0 w : World) (hb0 : Below w0.heap.size w0 w) (sA : isB A = true) (ra : RdS w va A) (rb : RdS w vb B) (rm : RdS w vm A) (rn : RdS w vn B) (fa : fitS A) (fb : fitS B) (la : A.length ≤ 17592186044416) (lb : B.length ≤ 17592186044416)
    (hQ : ∀ w', Below w0.heap.size w0 w' → Q (.returned (.bool true)) w') (ha : At 118 [(0, va), (1, vb), (7, vm), (8, vn)] a) : Code.wp Try.prog (sq 5 body5) (bodyPost Try.prog Try.f5 Q) a w := by
  have FA : Hid (fitS A) := fa
  have FB : Hid (fitS B) := fb
  have RA : Hid (RdS w va A) := ra
  have RB : Hid (RdS w vb B) := rb
  have RM : Hid (RdS w vm A) := rm
  have RN : Hid (RdS w vn B) := rn
  have HQ : Hid (∀ w', Below w0.heap.size w0 w' → Q (.returned (.bool true)) w') := hQ
  have B00 : Hid (Below w0.heap.size w0 w) := hb0
  have B0 : Hid (Below w.heap.size w w) := Below.refl _ _
  clear fa fb hQ hb0 ra rb rm rn
  obtain ⟨f, rfl, h0, h1, h7, h8, -⟩ := ha.lit
  change Code.wp _ _ _ ⟨#[f 0, f 1, f 2, f 3, f 4, f 5, f 6, f 7, f 8, f 9, f 10, f 11, f 12, f 13, f 14, f 15, f 16, f 17, f 18, f 19, f 20, f 21, f 22, f 23, f 24, f 25, f 26, f 27, f 28, f 29, f 30, f 31, f 32, f 33, f 34, f 35, f 36, f 37, f 38, f 39, f 40, f 41, f 42, f 43, f 44, f 45, f 46, f 47, f 48, f 49, f 50, f 51, f 52, f 53, f 54, f 55, f 56, f 57, f 58, f 59, f 60, f 61, f 62, f 63, f 64, f 65, f 66, f 67, f 68, f 69, f 70, f 71, f 72, f 73, f 74, f 75, f 76, f 77, f 78, f 79, f 80, f 81, f 82, f 83, f 84, f 85, f 86, f 87, f 88, f 89, f 90, f 91, f 92, f 93, f 94, f 95, f 96, f 97, f 98, f 99, f 100, f 101, f 102, f 103, f 104, f 105, f 106, f 107, f 108, f 109, f 110, f 111, f 112, f 113, f 114, f 115, f 116, f 117], []⟩ _
  simp only at h0 h1 h7 h8
  simp only [h0, h1, h7, h8]
  clear h0 h1 h7 h8
  conv => arg 2; whnf
  go_wp2_with fail
  refine (Within_any A B va vb w RA.out RB.out FA.out FB.out la lb).mono ?_
  rintro e w1 ⟨b, rfl, q1, q2, b1⟩
  have Q1 : Hid ((isB A && isB B) = false → b = false) := q1
  have Q2 : Hid ((isB A && isB B) = true → ∀ S, isS 0 S = true → (∀ p, hasB S p = (hasB A p && !hasB B p)) → b = decide (S.length = 0)) := q2
  clear q1 q2
  have B1 : Hid (Below w.heap.size w w1) := B0.out.trans (b1.mono B0.out.size)
  clear b1 B0
  go_wp2_with fail
  refine (ris_any B vn w1 (RN.out.below B1.out) FB.out (by omega)).mono ?_
  rintro e w2 ⟨rfl, b2⟩
  have B2 : Hid (Below w.heap.size w w2) := B1.out.trans (b2.mono B1.out.size)
  clear b2 B1
  cases sB : isB B
  · have hb : b = false := Q1.out (by rw [sA, sB]; rfl)
    subst hb
    clear Q1 Q2
    go_wp2
    exact HQ.out _ (B00.out.trans (B2.out.mono B00.out.size))
  · have q := Q2.out (by rw [sA, sB]; rfl)
    have KQ : Hid (∀ S, isS 0 S = true → (∀ p, hasB S p = (hasB A p && !hasB B p)) → b = decide (S.length = 0)) := q
    have la2 := (isB_iff.1 sA).1
    have lb2 := (isB_iff.1 sB).1
    have SA : Hid (isS 0 A = true) := (isB_iff.1 sA).2
    have SB : Hid (isS 0 B = true) := (isB_iff.1 sB).2
    have KP : Hid (∀ w1 : World, RdS w1 vm A → RdS w1 vn B → Calls Try.prog 20 #[vm, vn, .int .i64 2] w1 fun e w' => ∃ v' X, e = .returned v' ∧ w'.ownsRow w1.heap.size 58 2 v' X.length (celS X) ∧ isS 0 X = true ∧ (∀ p, hasB X p = (decide (0 ≤ p) && decide (p < 1114112) && opB 2 (hasB A p) (hasB B p))) ∧ X.length ≤ 1 + 2 * A.length + 2 * B.length ∧ Below w1.heap.size w1 w') := fun w1 h1 h2 => put_any A B vm vn 2 w1 (by omega) h1 h2 (fun s hs => (isS_mem SA.out s hs).1) (fun s hs => (isS_mem SB.out s hs).1) (by omega) (by omega)
    have LB : Hid (A.length ≤ 65536 ∧ B.length ≤ 65536) := ⟨la2, lb2⟩
    clear q Q1 Q2 la lb la2 lb2
    go_wp2_with fail
    refine (KP.out w2 (RM.out.below B2.out) (RN.out.below B2.out)).mono ?_
    rintro e w3 ⟨v', X, rfl, o3, hX1, hX2, hX3, b3⟩
    have hbd := KQ.out X hX1 (fun p => by rw [hX2, ← first_has SA.out])
    obtain ⟨pX, cX, rfl, _, _⟩ := RdS.of_owns o3
    have B3 : Hid (Below w.heap.size w w3) := B2.out.trans (b3.mono B2.out.size)
    have LX : Hid (X.length ≤ 1 + 2 * A.length + 2 * B.length) := hX3
    have HB : Hid (b = ((X.length : Int) == 0)) := by rw [Hid, hbd]; by_cases c : X.length = 0 <;> simp [c]
    have hxl : (X.length : Int) ≤ 1000000 := by have := LX.out; have := LB.out; omega
    clear hX1 hX2 hX3 b3 o3 B2 KP KQ hbd
    go_wp2
    rw [← HB.out]
    first | go_ret | skip
    simp only [beq_self_eq_true]
    exact HQ.out _ (B00.out.trans (B3.out.mono B00.out.size))
set_option maxRecDepth 100000 in
set_option maxHeartbeats 2000000 in
theorem asks_D {Q : Exit → Act → World → Prop} (A : List Sn) (va vb vm vn : Value) (p : Int) (a : Act) (w : World) (sA : isB A = true) (ra : RdS w va A) (rm : RdS w vm A) (fa : fitS A) (hp : -2147483648 ≤ p ∧ p ≤ 2147483647)
    (hK : Hid (∀ a w', Below w.heap.size w w' → At 118 [(0, va), (1, vb), (7, vm), (8, vn)] a → Code.wp Try.prog (sq 5 body5) Q a w')) (ha : At 118 [(0, va), (1, vb), (2, .int .i32 p), (7, vm), (8, vn), (9, .int .i64 p)] a) : Code.wp Try.prog (sq 4 body5) Q a w := by
  have la2 := (isB_iff.1 sA).1
  have SA : Hid (isS 0 A = true) := (isB_iff.1 sA).2
  have FA : Hid (fitS A) := fa
  have RA : Hid (RdS w va A) := ra
  have RM : Hid (RdS w vm A) := rm
  have B0 : Hid (Below w.heap.size w w) := Below.refl _ _
  have HP : Hid (-2147483648 ≤ p ∧ p ≤ 2147483647) := hp
  have KA : Hid (∃ x, ∀ w1 : World, (RdS w1 va A → Calls Try.prog 23 #[va, .int .i64 p] w1 fun e w' => e = .returned (.int .i32 x) ∧ Below w1.heap.size w1 w') ∧ (RdS w1 vm A → Calls Try.prog 29 #[vm, .int .i64 p] w1 fun e w' => e = .returned (.int .i32 x) ∧ Below w1.heap.size w1 w')) := by
    by_cases c : p < 0
    · exact ⟨-1, fun w1 => ⟨fun h => At_no A p va w1 h FA.out (by omega) (.inr ⟨sA, c⟩), fun _ => rat_no p vm w1 c⟩⟩
    · exact ⟨atL A p, fun w1 => ⟨fun h => At_any A p va w1 h FA.out sA (by omega) (by have := hp.2; omega), fun h => rat_any A p vm w1 h SA.out (by omega) (by omega) hp.2⟩⟩
  have KP : Hid (∃ x, ∀ w1 : World, (RdS w1 va A → Calls Try.prog 24 #[va, .int .i32 p] w1 fun e w' => e = .returned (.int .i64 x) ∧ Below w1.heap.size w1 w') ∧ (RdS w1 vm A → Calls Try.prog 30 #[vm, .int .i32 p] w1 fun e w' => e = .returned (.int .i64 x) ∧ Below w1.heap.size w1 w')) := by
    cases c : hasB A p
    · exact ⟨-1, fun w1 => ⟨fun h => Place_no A p va w1 h FA.out (by omega) (.inr ⟨sA, c⟩), fun h => rplace_no A p vm w1 h (by omega) c⟩⟩
    · exact ⟨plL A p, fun w1 => ⟨fun h => Place_any A p va w1 h FA.out sA c, fun h => rplace_any A p vm w1 h SA.out (by omega) c⟩⟩
  have KN : Hid (∃ x, ∀ w1 : World, (RdS w1 va A → Calls Try.prog 25 #[va, .int .i32 p] w1 fun e w' => e = .returned (.int .i32 x) ∧ Below w1.heap.size w1 w') ∧ (RdS w1 vm A → Calls Try.prog 31 #[vm, .int .i32 p] w1 fun e w' => e = .returned (.int .i32 x) ∧ Below w1.heap.size w1 w')) := ⟨nxL A p, fun w1 => ⟨fun h => Next_any A p va w1 h FA.out sA, fun h => rnext_any A p vm w1 h SA.out (by omega)⟩⟩
  have KC : Hid (∃ x, ∀ w1 : World, (RdS w1 va A → Calls Try.prog 22 #[va] w1 fun e w' => e = .returned (.int .i64 x) ∧ Below w1.heap.size w1 w') ∧ (RdS w1 vm A → Calls Try.prog 28 #[vm] w1 fun e w' => e = .returned (.int .i64 x) ∧ Below w1.heap.size w1 w')) := ⟨cntL A, fun w1 => ⟨fun h => Count_any A va w1 h FA.out sA, fun h => rcount_any A vm w1 h SA.out (by omega)⟩⟩
  have KH : Hid (∃ x, ∀ w1 : World, (RdS w1 va A → Calls Try.prog 21 #[va, .int .i32 p] w1 fun e w' => e = .returned (.bool x) ∧ Below w1.heap.size w1 w') ∧ (RdS w1 vm A → Calls Try.prog 27 #[vm, .int .i32 p] w1 fun e w' => e = .returned (.bool x) ∧ Below w1.heap.size w1 w')) := ⟨hasB A p, fun w1 => ⟨fun h => Has_any A p va w1 h FA.out sA, fun h => rhas_any A p vm w1 h (by omega)⟩⟩
  obtain ⟨xa, ka⟩ := KA.out
  obtain ⟨xp, kp⟩ := KP.out
  obtain ⟨xn, kn⟩ := KN.out
  obtain ⟨xc, kc⟩ := KC.out
  obtain ⟨xh, kh⟩ := KH.out
  have H1a : Hid (∀ w1 : World, RdS w1 va A → Calls Try.prog 23 #[va, .int .i64 p] w1 fun e w' => e = .returned (.int .i32 xa) ∧ Below w1.heap.size w1 w') := fun w1 => (ka w1).1
  have H2a : Hid (∀ w1 : World, RdS w1 vm A → Calls Try.prog 29 #[vm, .int .i64 p] w1 fun e w' => e = .returned (.int .i32 xa) ∧ Below w1.heap.size w1 w') := fun w1 => (ka w1).2
  have H1p : Hid (∀ w1 : World, RdS w1 va A → Calls Try.prog 24 #[va, .int .i32 p] w1 fun e w' => e = .returned (.int .i64 xp) ∧ Below w1.heap.size w1 w') := fun w1 => (kp w1).1
  have H2p : Hid (∀ w1 : World, RdS w1 vm A → Calls Try.prog 30 #[vm, .int .i32 p] w1 fun e w' => e = .returned (.int .i64 xp) ∧ Below w1.heap.size w1 w') := fun w1 => (kp w1).2
  have H1n : Hid (∀ w1 : World, RdS w1 va A → Calls Try.prog 25 #[va, .int .i32 p] w1 fun e w' => e = .returned (.int .i32 xn) ∧ Below w1.heap.size w1 w') := fun w1 => (kn w1).1
  have H2n : Hid (∀ w1 : World, RdS w1 vm A → Calls Try.prog 31 #[vm, .int .i32 p] w1 fun e w' => e = .returned (.int .i32 xn) ∧ Below w1.heap.size w1 w') := fun w1 => (kn w1).2
  have H1c : Hid (∀ w1 : World, RdS w1 va A → Calls Try.prog 22 #[va] w1 fun e w' => e = .returned (.int .i64 xc) ∧ Below w1.heap.size w1 w') := fun w1 => (kc w1).1
  have H2c : Hid (∀ w1 : World, RdS w1 vm A → Calls Try.prog 28 #[vm] w1 fun e w' => e = .returned (.int .i64 xc) ∧ Below w1.heap.size w1 w') := fun w1 => (kc w1).2
  have H1h : Hid (∀ w1 : World, RdS w1 va A → Calls Try.prog 21 #[va, .int .i32 p] w1 fun e w' => e = .returned (.bool xh) ∧ Below w1.heap.size w1 w') := fun w1 => (kh w1).1
  have H2h : Hid (∀ w1 : World, RdS w1 vm A → Calls Try.prog 27 #[vm, .int .i32 p] w1 fun e w' => e = .returned (.bool xh) ∧ Below w1.heap.size w1 w') := fun w1 => (kh w1).2
  clear KA KP KN KC KH ka kp kn kc kh ra rm fa hp la2
  obtain ⟨f, rfl, h0, h1, h2, h7, h8, h9, -⟩ := ha.lit
  change Code.wp _ _ _ ⟨#[f 0, f 1, f 2, f 3, f 4, f 5, f 6, f 7, f 8, f 9, f 10, f 11, f 12, f 13, f 14, f 15, f 16, f 17, f 18, f 19, f 20, f 21, f 22, f 23, f 24, f 25, f 26, f 27, f 28, f 29, f 30, f 31, f 32, f 33, f 34, f 35, f 36, f 37, f 38, f 39, f 40, f 41, f 42, f 43, f 44, f 45, f 46, f 47, f 48, f 49, f 50, f 51, f 52, f 53, f 54, f 55, f 56, f 57, f 58, f 59, f 60, f 61, f 62, f 63, f 64, f 65, f 66, f 67, f 68, f 69, f 70, f 71, f 72, f 73, f 74, f 75, f 76, f 77, f 78, f 79, f 80, f 81, f 82, f 83, f 84, f 85, f 86, f 87, f 88, f 89, f 90, f 91, f 92, f 93, f 94, f 95, f 96, f 97, f 98, f 99, f 100, f 101, f 102, f 103, f 104, f 105, f 106, f 107, f 108, f 109, f 110, f 111, f 112, f 113, f 114, f 115, f 116, f 117], []⟩ _
  simp only at h0 h1 h2 h7 h8 h9
  simp only [h0, h1, h2, h7, h8, h9]
  clear h0 h1 h2 h7 h8 h9
  change Code.wp _ (Code.seq (hd (sq 4 body5)) (sq 5 body5)) _ _ _
  generalize sq 5 body5 = REST at hK ⊢
  conv => arg 2; arg 1; whnf
  go_wp2_with fail
  refine (awake_any w).mono ?_
  rintro e w1 ⟨rfl, b1⟩
  have B1 : Hid (Below w.heap.size w w1) := B0.out.trans (b1.mono B0.out.size)
  clear b1 B0
  go_wp2_with fail
  refine (H1h.out w1 (RA.out.below B1.out)).mono ?_
  rintro e w2 ⟨rfl, b2⟩
  have B2 : Hid (Below w.heap.size w w2) := B1.out.trans (b2.mono B1.out.size)
  clear b2 B1
  go_wp2_with fail
  refine (H2h.out w2 (RM.out.below B2.out)).mono ?_
  rintro e w3 ⟨rfl, b3⟩
  have B3 : Hid (Below w.heap.size w w3) := B2.out.trans (b3.mono B2.out.size)
  clear b3 B2
  go_wp2_with fail
  refine (H1c.out w3 (RA.out.below B3.out)).mono ?_
  rintro e w4 ⟨rfl, b4⟩
  have B4 : Hid (Below w.heap.size w w4) := B3.out.trans (b4.mono B3.out.size)
  clear b4 B3
  go_wp2_with fail
  refine (H2c.out w4 (RM.out.below B4.out)).mono ?_
  rintro e w5 ⟨rfl, b5⟩
  have B5 : Hid (Below w.heap.size w w5) := B4.out.trans (b5.mono B4.out.size)
  clear b5 B4
  go_wp2_with fail
  refine (H1a.out w5 (RA.out.below B5.out)).mono ?_
  rintro e w6 ⟨rfl, b6⟩
  have B6 : Hid (Below w.heap.size w w6) := B5.out.trans (b6.mono B5.out.size)
  clear b6 B5
  go_wp2_with fail
  refine (H2a.out w6 (RM.out.below B6.out)).mono ?_
  rintro e w7 ⟨rfl, b7⟩
  have B7 : Hid (Below w.heap.size w w7) := B6.out.trans (b7.mono B6.out.size)
  clear b7 B6
  go_wp2_with fail
  refine (H1p.out w7 (RA.out.below B7.out)).mono ?_
  rintro e w8 ⟨rfl, b8⟩
  have B8 : Hid (Below w.heap.size w w8) := B7.out.trans (b8.mono B7.out.size)
  clear b8 B7
  go_wp2_with fail
  refine (H2p.out w8 (RM.out.below B8.out)).mono ?_
  rintro e w9 ⟨rfl, b9⟩
  have B9 : Hid (Below w.heap.size w w9) := B8.out.trans (b9.mono B8.out.size)
  clear b9 B8
  go_wp2_with fail
  refine (H1n.out w9 (RA.out.below B9.out)).mono ?_
  rintro e w10 ⟨rfl, b10⟩
  have B10 : Hid (Below w.heap.size w w10) := B9.out.trans (b10.mono B9.out.size)
  clear b10 B9
  go_wp2_with fail
  refine (H2n.out w10 (RM.out.below B10.out)).mono ?_
  rintro e w11 ⟨rfl, b11⟩
  have B11 : Hid (Below w.heap.size w w11) := B10.out.trans (b11.mono B10.out.size)
  clear b11 B10
  go_wp2
  exact hK.out _ _ B11.out ⟨rfl, rfl, rfl, rfl, rfl, rfl, trivial⟩
set_option maxRecDepth 100000 in
set_option maxHeartbeats 2000000 in
theorem law_asks (A B : List Sn) (va vb : Value) (p : Int) (w : World) (ra : RdS w va A) (rb : RdS w vb B) (fa : fitS A) (fb : fitS B) (la : A.length ≤ 17592186044416) (lb : B.length ≤ 17592186044416) (hp : -2147483648 ≤ p ∧ p ≤ 2147483647) : Calls Try.prog 5 #[va, vb, .int .i32 p] w fun e w' => e = .returned (.bool true) ∧ Below w.heap.size w w' := by
  have RA : Hid (RdS w va A) := ra
  have RB : Hid (RdS w vb B) := rb
  have FA : Hid (fitS A) := fa
  have FB : Hid (fitS B) := fb
  obtain ⟨pa, ca, rfl, _, _⟩ := ra
  obtain ⟨pb, cb, rfl, _, _⟩ := rb
  have B0 : Hid (Below w.heap.size w w) := Below.refl _ _
  clear fa fb
  have HE : Hid (isB A = true → ∀ (vm vn : Value) (w2 : World), RdS w2 vm A → RdS w2 vn B → Below w.heap.size w w2 → ∀ (a : Act) (w1 : World), Below w2.heap.size w2 w1 → At 118 [(0, (.slice pa A.length ca)), (1, (.slice pb B.length cb)), (7, vm), (8, vn)] a → Code.wp Try.prog (sq 5 body5) (bodyPost Try.prog Try.f5 fun e w' => e = .returned (.bool true) ∧ Below w.heap.size w w') a w1) := fun sA vm vn w2 rm rn hb2 a w1 hb h => asks_E A B _ _ vm vn a w w1 (hb2.trans (hb.mono hb2.size)) sA (RA.out.below (hb2.trans (hb.mono hb2.size))) (RB.out.below (hb2.trans (hb.mono hb2.size))) (rm.below hb) (rn.below hb) FA.out FB.out la lb (fun w' hb' => ⟨rfl, hb'⟩) h
  have HZ : Hid (isB A = true → ∀ (vm vn : Value) (a : Act) (w1 : World), RdS w1 vm A → RdS w1 vn B → Below w.heap.size w w1 → At 118 [(0, (.slice pa A.length ca)), (1, (.slice pb B.length cb)), (2, .int .i32 p), (7, vm), (8, vn), (9, .int .i64 p)] a → Code.wp Try.prog (sq 4 body5) (bodyPost Try.prog Try.f5 fun e w' => e = .returned (.bool true) ∧ Below w.heap.size w w') a w1) := fun sA vm vn a w1 rm rn hb h => asks_D A _ _ vm vn p a w1 sA (RA.out.below hb) rm FA.out hp (fun a w' hb' h' => HE.out sA vm vn w1 rm rn hb a w' hb' h') h
  go_enter Try.func5, Try.ntmps5
  change Code.wp _ (Code.seq (hd (sq 0 body5)) (Code.seq (hd (sq 1 body5)) (Code.seq (hd (sq 2 body5)) (Code.seq (hd (sq 3 body5)) (sq 4 body5))))) _ _ _
  generalize sq 4 body5 = REST at HZ ⊢
  conv => arg 2; arg 1; whnf
  conv => arg 2; arg 2; arg 1; whnf
  conv => arg 2; arg 2; arg 2; arg 1; whnf
  conv => arg 2; arg 2; arg 2; arg 2; arg 1; whnf
  clear HE
  go_wp2_with fail
  refine (given_any A (.slice pa A.length ca) w RA.out la).mono ?_
  rintro e w1 ⟨g1, rfl, o1, b1⟩
  have G1 : Hid (RdS w1 g1 A) := RdS.of_owns o1
  have B1 : Hid (Below w.heap.size w w1) := b1
  clear o1 b1
  go_wp2_with fail
  refine (given_any B (.slice pb B.length cb) w1 (RB.out.below B1.out) lb).mono ?_
  rintro e w2 ⟨g2, rfl, o2, b2⟩
  have G2 : Hid (RdS w2 g2 B) := RdS.of_owns o2
  have G12 : Hid (RdS w2 g1 A) := G1.out.below b2
  have B2 : Hid (Below w.heap.size w w2) := B1.out.trans (b2.mono B1.out.size)
  clear o2 b2
  go_wp2_with fail
  refine (ris_any A g1 w2 G12.out FA.out (by omega)).mono ?_
  rintro e w3 ⟨rfl, b3⟩
  have G13 : Hid (RdS w3 g1 A) := G12.out.below b3
  have G23 : Hid (RdS w3 g2 B) := G2.out.below b3
  have B3 : Hid (Below w.heap.size w w3) := B2.out.trans (b3.mono B2.out.size)
  clear b3
  cases sA : isB A
  · clear HZ
    go_wp2_with fail
    refine (awake_any w3).mono ?_
    rintro e w4 ⟨rfl, b4⟩
    have B4 : Hid (Below w.heap.size w w4) := B3.out.trans (b4.mono B3.out.size)
    clear b4 B3
    go_wp2_with fail
    refine (Has_no A p (.slice pa A.length ca) w4 (RA.out.below B4.out) FA.out la sA).mono ?_
    rintro e w5 ⟨rfl, b5⟩
    have B5 : Hid (Below w.heap.size w w5) := B4.out.trans (b5.mono B4.out.size)
    clear b5 B4
    go_wp2_with fail
    refine (Count_no A (.slice pa A.length ca) w5 (RA.out.below B5.out) FA.out la sA).mono ?_
    rintro e w6 ⟨rfl, b6⟩
    have B6 : Hid (Below w.heap.size w w6) := B5.out.trans (b6.mono B5.out.size)
    clear b6 B5
    go_wp2_with fail
    refine (At_no A 0 (.slice pa A.length ca) w6 (RA.out.below B6.out) FA.out la (.inl sA)).mono ?_
    rintro e w7 ⟨rfl, b7⟩
    have B7 : Hid (Below w.heap.size w w7) := B6.out.trans (b7.mono B6.out.size)
    clear b7 B6
    go_wp2_with fail
    refine (Place_no A p (.slice pa A.length ca) w7 (RA.out.below B7.out) FA.out la (.inl sA)).mono ?_
    rintro e w8 ⟨rfl, b8⟩
    have B8 : Hid (Below w.heap.size w w8) := B7.out.trans (b8.mono B7.out.size)
    clear b8 B7
    go_wp2_with fail
    refine (Next_no A p (.slice pa A.length ca) w8 (RA.out.below B8.out) FA.out la sA).mono ?_
    rintro e w9 ⟨rfl, b9⟩
    have B9 : Hid (Below w.heap.size w w9) := B8.out.trans (b9.mono B8.out.size)
    clear b9 B8
    go_wp2_with fail
    refine (Within_any A B (.slice pa A.length ca) (.slice pb B.length cb) w9 (RA.out.below B9.out) (RB.out.below B9.out) FA.out FB.out la lb).mono ?_
    rintro e w10 ⟨b, rfl, q1, -, b10⟩
    obtain rfl : b = false := q1 (by rw [sA]; rfl)
    clear q1
    have B10 : Hid (Below w.heap.size w w10) := B9.out.trans (b10.mono B9.out.size)
    clear b10 B9
    go_wp2_with fail
    refine (Within_any B A (.slice pb B.length cb) (.slice pa A.length ca) w10 (RB.out.below B10.out) (RA.out.below B10.out) FB.out FA.out lb la).mono ?_
    rintro e w11 ⟨b, rfl, q1, -, b11⟩
    obtain rfl : b = false := q1 (by rw [sA]; cases isB B <;> rfl)
    clear q1
    have B11 : Hid (Below w.heap.size w w11) := B10.out.trans (b11.mono B10.out.size)
    clear b11 B10
    go_wp2
    first | go_ret | skip
    exact ⟨rfl, B11.out⟩
  · obtain ⟨hp1, hp2⟩ := hp
    go_wp2_with fail
    exact HZ.out sA g1 g2 _ w3 G13.out G23.out B3.out ⟨rfl, rfl, rfl, rfl, rfl, rfl, rfl, rfl, trivial⟩
end Go.Proofs.Ytddoanmhikldiaa
