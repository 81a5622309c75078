/-
  The walk of the law PercentBack: it returns true and turns nothing that was there. Condition: the text is no longer than a third of what one that comes in can be.
-/
import Derived.Test.YtoliiccmfmgmlaaDoorFs
namespace Go.Proofs.YtoliiccmfmgmlaaDoor
open Go.RowKit
theorem decB_41 : decB ⟨#[37, 52, 49]⟩ = ⟨#[65]⟩ := ByteArray.ext (by decide +kernel)
theorem awake_any (w : World) : Calls Tryd.prog 5 #[] w fun e w' => e = .returned (.bool true) ∧ Below w.heap.size w w' := by
  have k := decode_any ⟨#[37, 52, 49]⟩ w (by decide)
  rw [decB_41] at k
  go_enter Tryd.func5, Tryd.ntmps5
  go_wp2_with (go_at_call 11; refine k.mono ?_; rintro e w' ⟨rfl, hb⟩)
  go_ret
  exact ⟨rfl, hb⟩
theorem withP_is (p : Nat → Bool) : withP p = fun j => p j || j == 37 := by funext j; unfold withP; rw [from37]
theorem withP_sign (p : Nat → Bool) : withP p 37 = true := by rw [withP_is]; simp
theorem withP_0 (p : Nat → Bool) : bits BinOp.or IntKind.u64 (wd p 0) 137438953472 = wd (withP p) 0 := by
  rw [withP_is]; exact or_bit p 37 0 (by decide)
theorem withP_more (p : Nat → Bool) (i : Nat) (hi : ¬ 0 = i) : wd (withP p) i = wd p i := by
  rw [withP_is]; exact or_bit_other p 37 i (by simpa using hi)
/-- Block b holds these words. -/
def Hw (w : World) (b : Nat) (a c d e : Int) : Prop := w.heap[b]? = some (.cells #[.int .u64 a, .int .u64 c, .int .u64 d, .int .u64 e] 27 (0, 0))
theorem Hw.cells {w : World} {b : Nat} {a c d e : Int} (h : Hw w b a c d e) : w.cell? ⟨b, 0, none⟩ = some (.int .u64 a) ∧ w.cell? ⟨b, 1, none⟩ = some (.int .u64 c) ∧ w.cell? ⟨b, 2, none⟩ = some (.int .u64 d) ∧ w.cell? ⟨b, 3, none⟩ = some (.int .u64 e) := by
  unfold Hw at h
  refine ⟨?_, ?_, ?_, ?_⟩ <;> simp [World.cell?, h]
theorem Hw.below {w w' : World} {b : Nat} {a c d e : Int} (h : Hw w b a c d e) (hb : Below w.heap.size w w') : Hw w' b a c d e := below_at h hb
set_option maxRecDepth 100000 in
set_option maxHeartbeats 4000000 in
theorem lawB (s : ByteArray) (p : Nat → Bool) (w : World) (hs : s.size ≤ 46912496100000) : Calls Tryd.prog 4 #[.string s, .agg #[.int .u64 (wd p 0), .int .u64 (wd p 1), .int .u64 (wd p 2), .int .u64 (wd p 3)]] w fun e w' => e = .returned (.bool true) ∧ Below w.heap.size w w' := by
  have zd := decB_le s
  have z1 : (encB (withP p) (decB s)).size ≤ 140737488351232 := by have : (encB (withP p) (decB s)).size ≤ 3 * (decB s).size := encT_size _ _ _; omega
  have z2 : (encB (withP p) s).size ≤ 140737488351232 := by have : (encB (withP p) s).size ≤ 3 * s.size := encT_size _ _ _; omega
  have z3 : (sw 32 43 (encB fS s)).size ≤ 140737488351232 := by
    rw [sw_size]
    have : (encB fS s).size ≤ 3 * s.size := encT_size _ _ _
    omega
  have hb1 := dec_enc (withP p) (withP_sign p) (decB s)
  have hb2 := dec_enc (withP p) (withP_sign p) s
  have hb3 := form_back s
  have k1 := fun w => normal_wide p s w (by omega) (by omega)
  have k2 := fun w => normal_wide p (encB (withP p) (decB s)) w z1 (by rw [hb1]; omega)
  rw [hb1] at k2
  have k3 := fun w => enc_any (withP p) s w hs
  rw [withP_more p 1 (by omega), withP_more p 2 (by omega), withP_more p 3 (by omega)] at k3
  have k4 := fun w => decode_any (encB (withP p) s) w (by omega)
  rw [hb2] at k4
  have k5 := fun w => decode_any (encB (withP p) (decB s)) w (by omega)
  rw [hb1] at k5
  have k6 := fun w => decode_any s w (by omega)
  have k7 := fun w => form_any s w hs
  have k8 := fun w => formDecode_any (sw 32 43 (encB fS s)) w z3
  rw [hb3] at k8
  have k0 := fun w => awake_any w
  have hor := withP_0 p
  obtain ⟨E, hE⟩ : ∃ E, encB (withP p) s = E := ⟨_, rfl⟩
  rw [hE] at k3 k4
  obtain ⟨M, hM⟩ : ∃ M, encB (withP p) (decB s) = M := ⟨_, rfl⟩
  rw [hM] at k1 k2 k5
  obtain ⟨D, hD⟩ : ∃ D, decB s = D := ⟨_, rfl⟩
  rw [hD] at k5 k6
  obtain ⟨G, hG⟩ : ∃ G, sw 32 43 (encB fS s) = G := ⟨_, rfl⟩
  rw [hG] at k7 k8
  obtain ⟨Y0, hY0⟩ : ∃ Y, wd (withP p) 0 = Y := ⟨_, rfl⟩
  rw [hY0] at k3 hor
  obtain ⟨X0, hX0⟩ : ∃ X, wd p 0 = X := ⟨_, rfl⟩
  obtain ⟨X1, hX1⟩ : ∃ X, wd p 1 = X := ⟨_, rfl⟩
  obtain ⟨X2, hX2⟩ : ∃ X, wd p 2 = X := ⟨_, rfl⟩
  obtain ⟨X3, hX3⟩ : ∃ X, wd p 3 = X := ⟨_, rfl⟩
  rw [hX0] at k1 k2 hor ⊢
  rw [hX1, hX2, hX3] at k1 k2 k3 ⊢
  clear zd z1 z2 z3 hb1 hb2 hb3 hE hM hD hG hY0 hX0 hX1 hX2 hX3
  have H0 : Hid (Hw ((w.alloc (.cells #[.int .u64 X0, .int .u64 X1, .int .u64 X2, .int .u64 X3] 27)).alloc (.cells #[.int .u64 Y0, .int .u64 X1, .int .u64 X2, .int .u64 X3] 27)) w.heap.size X0 X1 X2 X3 ∧ Hw ((w.alloc (.cells #[.int .u64 X0, .int .u64 X1, .int .u64 X2, .int .u64 X3] 27)).alloc (.cells #[.int .u64 Y0, .int .u64 X1, .int .u64 X2, .int .u64 X3] 27)) (w.heap.size + 1) Y0 X1 X2 X3 ∧ Below w.heap.size w ((w.alloc (.cells #[.int .u64 X0, .int .u64 X1, .int .u64 X2, .int .u64 X3] 27)).alloc (.cells #[.int .u64 Y0, .int .u64 X1, .int .u64 X2, .int .u64 X3] 27))) := by
    refine ⟨?_, ?_, ((Below.refl _ _).alloc (Nat.le_refl _) _).alloc (by simp) _⟩
    · exact (Below.heap_alloc _ _ _ (by simp)).trans (heap_alloc_last _ _)
    · have := heap_alloc_last (w.alloc (.cells #[.int .u64 X0, .int .u64 X1, .int .u64 X2, .int .u64 X3] 27)) (.cells #[.int .u64 Y0, .int .u64 X1, .int .u64 X2, .int .u64 X3] 27)
      rwa [World.size_alloc] at this
  go_enter Tryd.func4, Tryd.ntmps4
  go_wp2_with (go_at_call 10; refine (k1 _).mono ?_)
  first | rintro e w1 ⟨rfl, b1⟩ | rintro e w1 rfl b1
  have H1 : Hid (Hw w1 w.heap.size X0 X1 X2 X3 ∧ Hw w1 (w.heap.size + 1) Y0 X1 X2 X3 ∧ Below w.heap.size w w1) := by
    obtain ⟨q1, q2, q3⟩ := H0.out
    exact ⟨q1.below b1, q2.below b1, q3.trans (b1.mono q3.size)⟩
  clear b1 H0
  have c1 := H1.out.1.cells
  have d1 := H1.out.2.1.cells
  obtain ⟨c10, c11, c12, c13⟩ := c1
  obtain ⟨d10, d11, d12, d13⟩ := d1
  go_wp2_with (go_at_call 5; refine (k0 _).mono ?_)
  first | rintro e w2 ⟨rfl, b2⟩ | rintro e w2 rfl b2
  have H2 : Hid (Hw w2 w.heap.size X0 X1 X2 X3 ∧ Hw w2 (w.heap.size + 1) Y0 X1 X2 X3 ∧ Below w.heap.size w w2) := by
    obtain ⟨q1, q2, q3⟩ := H1.out
    exact ⟨q1.below b2, q2.below b2, q3.trans (b2.mono q3.size)⟩
  clear b2 H1
  have c2 := H2.out.1.cells
  have d2 := H2.out.2.1.cells
  obtain ⟨c20, c21, c22, c23⟩ := c2
  obtain ⟨d20, d21, d22, d23⟩ := d2
  go_wp2_with (go_at_call 12; refine (k3 _).mono ?_)
  first | rintro e w3 ⟨rfl, b3⟩ | rintro e w3 rfl b3
  have H3 : Hid (Hw w3 w.heap.size X0 X1 X2 X3 ∧ Hw w3 (w.heap.size + 1) Y0 X1 X2 X3 ∧ Below w.heap.size w w3) := by
    obtain ⟨q1, q2, q3⟩ := H2.out
    exact ⟨q1.below b3, q2.below b3, q3.trans (b3.mono q3.size)⟩
  clear b3 H2
  have c3 := H3.out.1.cells
  have d3 := H3.out.2.1.cells
  obtain ⟨c30, c31, c32, c33⟩ := c3
  obtain ⟨d30, d31, d32, d33⟩ := d3
  go_wp2_with (go_at_call 11; refine (k4 _).mono ?_)
  first | rintro e w4 ⟨rfl, b4⟩ | rintro e w4 rfl b4
  have H4 : Hid (Hw w4 w.heap.size X0 X1 X2 X3 ∧ Hw w4 (w.heap.size + 1) Y0 X1 X2 X3 ∧ Below w.heap.size w w4) := by
    obtain ⟨q1, q2, q3⟩ := H3.out
    exact ⟨q1.below b4, q2.below b4, q3.trans (b4.mono q3.size)⟩
  clear b4 H3
  have c4 := H4.out.1.cells
  have d4 := H4.out.2.1.cells
  obtain ⟨c40, c41, c42, c43⟩ := c4
  obtain ⟨d40, d41, d42, d43⟩ := d4
  go_wp2_with (go_at_call 10; refine (k2 _).mono ?_)
  first | rintro e w5 ⟨rfl, b5⟩ | rintro e w5 rfl b5
  have H5 : Hid (Hw w5 w.heap.size X0 X1 X2 X3 ∧ Hw w5 (w.heap.size + 1) Y0 X1 X2 X3 ∧ Below w.heap.size w w5) := by
    obtain ⟨q1, q2, q3⟩ := H4.out
    exact ⟨q1.below b5, q2.below b5, q3.trans (b5.mono q3.size)⟩
  clear b5 H4
  have c5 := H5.out.1.cells
  have d5 := H5.out.2.1.cells
  obtain ⟨c50, c51, c52, c53⟩ := c5
  obtain ⟨d50, d51, d52, d53⟩ := d5
  go_wp2_with (go_at_call 11; refine (k5 _).mono ?_)
  first | rintro e w6 ⟨rfl, b6⟩ | rintro e w6 rfl b6
  have H6 : Hid (Hw w6 w.heap.size X0 X1 X2 X3 ∧ Hw w6 (w.heap.size + 1) Y0 X1 X2 X3 ∧ Below w.heap.size w w6) := by
    obtain ⟨q1, q2, q3⟩ := H5.out
    exact ⟨q1.below b6, q2.below b6, q3.trans (b6.mono q3.size)⟩
  clear b6 H5
  have c6 := H6.out.1.cells
  have d6 := H6.out.2.1.cells
  obtain ⟨c60, c61, c62, c63⟩ := c6
  obtain ⟨d60, d61, d62, d63⟩ := d6
  go_wp2_with (go_at_call 11; refine (k6 _).mono ?_)
  first | rintro e w7 ⟨rfl, b7⟩ | rintro e w7 rfl b7
  have H7 : Hid (Hw w7 w.heap.size X0 X1 X2 X3 ∧ Hw w7 (w.heap.size + 1) Y0 X1 X2 X3 ∧ Below w.heap.size w w7) := by
    obtain ⟨q1, q2, q3⟩ := H6.out
    exact ⟨q1.below b7, q2.below b7, q3.trans (b7.mono q3.size)⟩
  clear b7 H6
  have c7 := H7.out.1.cells
  have d7 := H7.out.2.1.cells
  obtain ⟨c70, c71, c72, c73⟩ := c7
  obtain ⟨d70, d71, d72, d73⟩ := d7
  go_wp2_with (go_at_call 6; refine (k7 _).mono ?_)
  first | rintro e w8 ⟨rfl, b8⟩ | rintro e w8 rfl b8
  have H8 : Hid (Hw w8 w.heap.size X0 X1 X2 X3 ∧ Hw w8 (w.heap.size + 1) Y0 X1 X2 X3 ∧ Below w.heap.size w w8) := by
    obtain ⟨q1, q2, q3⟩ := H7.out
    exact ⟨q1.below b8, q2.below b8, q3.trans (b8.mono q3.size)⟩
  clear b8 H7
  have c8 := H8.out.1.cells
  have d8 := H8.out.2.1.cells
  obtain ⟨c80, c81, c82, c83⟩ := c8
  obtain ⟨d80, d81, d82, d83⟩ := d8
  go_wp2_with (go_at_call 8; refine (k8 _).mono ?_)
  first | rintro e w9 ⟨rfl, b9⟩ | rintro e w9 rfl b9
  have H9 : Hid (Hw w9 w.heap.size X0 X1 X2 X3 ∧ Hw w9 (w.heap.size + 1) Y0 X1 X2 X3 ∧ Below w.heap.size w w9) := by
    obtain ⟨q1, q2, q3⟩ := H8.out
    exact ⟨q1.below b9, q2.below b9, q3.trans (b9.mono q3.size)⟩
  clear b9 H8
  have c9 := H9.out.1.cells
  have d9 := H9.out.2.1.cells
  obtain ⟨c90, c91, c92, c93⟩ := c9
  obtain ⟨d90, d91, d92, d93⟩ := d9
  go_wp2
  go_ret
  exact ⟨rfl, H9.out.2.2⟩
end Go.Proofs.YtoliiccmfmgmlaaDoor
