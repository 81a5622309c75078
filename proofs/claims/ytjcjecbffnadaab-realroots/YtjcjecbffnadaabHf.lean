/-
  The contracts of the two lesser layouts, of Half, Brain, FromHalf and FromBrain. Condition: the bits fit their sizes.
-/
import Derived.Test.YtjcjecbffnadaabEx
import Derived.Test.YtjcjecbffnadaabOq
namespace Go.Proofs.Ytjcjecbffnadaab
open Go.RowKit
theorem lay16 : Lay 10 5 15 := ⟨by decide, by decide, by decide, by decide, by decide⟩
theorem layBr : Lay 7 8 127 := ⟨by decide, by decide, by decide, by decide, by decide⟩
theorem half_any (w : World) : Calls Try.prog 67 #[] w fun e w' => e = .returned (.agg #[.int .i64 10, .int .u64 31, .int .i64 15]) ∧ Below w.heap.size w w' := by
  go_enter Try.func67, Try.ntmps67
  go_wp2
  refine bodyPost_ret (v := .agg #[.int .i64 10, .int .u64 31, .int .i64 15]) (by simp [results, Try.results67, go_sem]) rfl ⟨rfl, ?_⟩
  exact (Below.refl _ _).alloc (Nat.le_refl _) _
set_option maxHeartbeats 1000000 in
theorem from_half (h : Nat) (w : World) (hh : h < 65536) : Calls Try.prog 41 #[.int .u16 (h : Int)] w fun e w' => e = .returned (.float .f64 (rndB 52 11 1023 (pt 10 5 15 h))) ∧ Below w.heap.size w w' := by
  have k1 := half_any
  have k2 : ∀ w, Calls Try.prog 69 #[.agg #[.int .i64 10, .int .u64 31, .int .i64 15], .int .u64 (h : Int)] w fun e w' => e = .returned (pt 10 5 15 h).val ∧ Below w.heap.size w w' := fun w => parts_any lay16 h w (by omega)
  have k3 := fun w => number_any (pt 10 5 15 h) w (pt_small lay16 h).1 (pt_exp lay16 h).1 (pt_exp lay16 h).2
  generalize rndB 52 11 1023 (pt 10 5 15 h) = r at *
  generalize pt 10 5 15 h = x at *
  obtain ⟨kd, ng, M, X, qu, LD⟩ := x
  unfold Pt.val at k2 k3
  dsimp only at k2 k3
  go_enter Try.func41, Try.ntmps41
  go_wp2_with (go_at_call 67; refine (k1 _).mono ?_)
  rintro e w1 ⟨rfl, b1⟩
  have B1 : Hid (Below w.heap.size w w1) := b1
  clear b1
  go_wp2_with (go_at_call 69; refine (k2 _).mono ?_)
  intro e w2 hq
  first | (obtain ⟨rfl, b2⟩ : _ ∧ _ := hq) | (subst hq; intro b2)
  have B2 : Hid (Below w.heap.size w w2) := B1.out.trans (b2.mono B1.out.size)
  clear b2 B1
  go_wp2_with (go_at_call 50; refine (k3 _).mono ?_)
  intro e w3 hq
  first | (obtain ⟨rfl, b3⟩ : _ ∧ _ := hq) | (subst hq; intro b3)
  have B3 : Hid (Below w.heap.size w w3) := B2.out.trans (b3.mono B2.out.size)
  clear b3 B2
  go_wp2
  go_ret
  exact ⟨rfl, B3.out⟩
set_option maxHeartbeats 1000000 in
theorem to_half (b : Nat) (w : World) (hb : b < 18446744073709551616) : Calls Try.prog 39 #[.float .f64 b] w fun e w' => e = .returned (.int .u16 (rndB 10 5 15 (pt 52 11 1023 b) : Nat)) ∧ Below w.heap.size w w' := by
  have k1 := half_any
  have k2 := fun w => Parts_any b w hb
  have k3 : ∀ w, Calls Try.prog 56 #[.agg #[.int .i64 10, .int .u64 31, .int .i64 15], (pt 52 11 1023 b).val] w fun e w' => e = .returned (.int .u64 (rndB 10 5 15 (pt 52 11 1023 b) : Nat)) ∧ Below w.heap.size w w' := fun w => rounded_any lay16 _ w (pt_small lay64 b).1 (pt_exp lay64 b).1 (pt_exp lay64 b).2
  have hr : rndB 10 5 15 (pt 52 11 1023 b) < 65536 := rndB_lt lay16 _ (pt_small lay64 b).1
  generalize rndB 10 5 15 (pt 52 11 1023 b) = r at *
  generalize pt 52 11 1023 b = x at *
  obtain ⟨kd, ng, M, X, qu, LD⟩ := x
  unfold Pt.val at k2 k3
  dsimp only at k2 k3
  have hw : IntKind.u16.wrap (r : Int) = r := by
    simp [IntKind.wrap, IntKind.bits, IntKind.signed]; omega
  clear hr
  go_enter Try.func39, Try.ntmps39
  go_wp2_with (go_at_call 67; refine (k1 _).mono ?_)
  rintro e w1 ⟨rfl, b1⟩
  have B1 : Hid (Below w.heap.size w w1) := b1
  clear b1
  go_wp2_with (go_at_call 46; refine (k2 _).mono ?_)
  intro e w2 hq
  first | (obtain ⟨rfl, b2⟩ : _ ∧ _ := hq) | (subst hq; intro b2)
  have B2 : Hid (Below w.heap.size w w2) := B1.out.trans (b2.mono B1.out.size)
  clear b2 B1
  go_wp2_with (go_at_call 56; refine (k3 _).mono ?_)
  intro e w3 hq
  first | (obtain ⟨rfl, b3⟩ : _ ∧ _ := hq) | (subst hq; intro b3)
  have B3 : Hid (Below w.heap.size w w3) := B2.out.trans (b3.mono B2.out.size)
  clear b3 B2
  go_wp2
  go_ret
  exact ⟨rfl, B3.out⟩
theorem brain_any (w : World) : Calls Try.prog 68 #[] w fun e w' => e = .returned (.agg #[.int .i64 7, .int .u64 255, .int .i64 127]) ∧ Below w.heap.size w w' := by
  go_enter Try.func68, Try.ntmps68
  go_wp2
  refine bodyPost_ret (v := .agg #[.int .i64 7, .int .u64 255, .int .i64 127]) (by simp [results, Try.results68, go_sem]) rfl ⟨rfl, ?_⟩
  exact (Below.refl _ _).alloc (Nat.le_refl _) _
set_option maxHeartbeats 1000000 in
theorem from_brain (h : Nat) (w : World) (hh : h < 65536) : Calls Try.prog 43 #[.int .u16 (h : Int)] w fun e w' => e = .returned (.float .f64 (rndB 52 11 1023 (pt 7 8 127 h))) ∧ Below w.heap.size w w' := by
  have k1 := brain_any
  have k2 : ∀ w, Calls Try.prog 69 #[.agg #[.int .i64 7, .int .u64 255, .int .i64 127], .int .u64 (h : Int)] w fun e w' => e = .returned (pt 7 8 127 h).val ∧ Below w.heap.size w w' := fun w => parts_any layBr h w (by omega)
  have k3 := fun w => number_any (pt 7 8 127 h) w (pt_small layBr h).1 (pt_exp layBr h).1 (pt_exp layBr h).2
  generalize rndB 52 11 1023 (pt 7 8 127 h) = r at *
  generalize pt 7 8 127 h = x at *
  obtain ⟨kd, ng, M, X, qu, LD⟩ := x
  unfold Pt.val at k2 k3
  dsimp only at k2 k3
  go_enter Try.func43, Try.ntmps43
  go_wp2_with (go_at_call 68; refine (k1 _).mono ?_)
  rintro e w1 ⟨rfl, b1⟩
  have B1 : Hid (Below w.heap.size w w1) := b1
  clear b1
  go_wp2_with (go_at_call 69; refine (k2 _).mono ?_)
  intro e w2 hq
  first | (obtain ⟨rfl, b2⟩ : _ ∧ _ := hq) | (subst hq; intro b2)
  have B2 : Hid (Below w.heap.size w w2) := B1.out.trans (b2.mono B1.out.size)
  clear b2 B1
  go_wp2_with (go_at_call 50; refine (k3 _).mono ?_)
  intro e w3 hq
  first | (obtain ⟨rfl, b3⟩ : _ ∧ _ := hq) | (subst hq; intro b3)
  have B3 : Hid (Below w.heap.size w w3) := B2.out.trans (b3.mono B2.out.size)
  clear b3 B2
  go_wp2
  go_ret
  exact ⟨rfl, B3.out⟩
set_option maxHeartbeats 1000000 in
theorem to_brain (b : Nat) (w : World) (hb : b < 18446744073709551616) : Calls Try.prog 40 #[.float .f64 b] w fun e w' => e = .returned (.int .u16 (rndB 7 8 127 (pt 52 11 1023 b) : Nat)) ∧ Below w.heap.size w w' := by
  have k1 := brain_any
  have k2 := fun w => Parts_any b w hb
  have k3 : ∀ w, Calls Try.prog 56 #[.agg #[.int .i64 7, .int .u64 255, .int .i64 127], (pt 52 11 1023 b).val] w fun e w' => e = .returned (.int .u64 (rndB 7 8 127 (pt 52 11 1023 b) : Nat)) ∧ Below w.heap.size w w' := fun w => rounded_any layBr _ w (pt_small lay64 b).1 (pt_exp lay64 b).1 (pt_exp lay64 b).2
  have hr : rndB 7 8 127 (pt 52 11 1023 b) < 65536 := rndB_lt layBr _ (pt_small lay64 b).1
  generalize rndB 7 8 127 (pt 52 11 1023 b) = r at *
  generalize pt 52 11 1023 b = x at *
  obtain ⟨kd, ng, M, X, qu, LD⟩ := x
  unfold Pt.val at k2 k3
  dsimp only at k2 k3
  have hw : IntKind.u16.wrap (r : Int) = r := by
    simp [IntKind.wrap, IntKind.bits, IntKind.signed]; omega
  clear hr
  go_enter Try.func40, Try.ntmps40
  go_wp2_with (go_at_call 68; refine (k1 _).mono ?_)
  rintro e w1 ⟨rfl, b1⟩
  have B1 : Hid (Below w.heap.size w w1) := b1
  clear b1
  go_wp2_with (go_at_call 46; refine (k2 _).mono ?_)
  intro e w2 hq
  first | (obtain ⟨rfl, b2⟩ : _ ∧ _ := hq) | (subst hq; intro b2)
  have B2 : Hid (Below w.heap.size w w2) := B1.out.trans (b2.mono B1.out.size)
  clear b2 B1
  go_wp2_with (go_at_call 56; refine (k3 _).mono ?_)
  intro e w3 hq
  first | (obtain ⟨rfl, b3⟩ : _ ∧ _ := hq) | (subst hq; intro b3)
  have B3 : Hid (Below w.heap.size w w3) := B2.out.trans (b3.mono B2.out.size)
  clear b3 B2
  go_wp2
  go_ret
  exact ⟨rfl, B3.out⟩
end Go.Proofs.Ytjcjecbffnadaab
