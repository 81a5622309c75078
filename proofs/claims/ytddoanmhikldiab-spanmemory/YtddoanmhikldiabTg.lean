/-
  The contract of together: what is in one set at least of up to three. Conditions: the lists are sets.
-/
import Derived.Test.YtddoanmhikldiabEi
import Derived.Test.YtddoanmhikldiabIn
import Derived.Test.YtddoanmhikldiabCr
namespace Go.Proofs.Ytddoanmhikldiab
open Go.RowKit
/-- A value that reads as a set of these. -/
def SetV (f : Int → Bool) (n : Nat) (v : Value) (w : World) : Prop := ∃ X, RdS w v X ∧ isS 0 X = true ∧ (∀ p, hasB X p = f p) ∧ X.length ≤ n
theorem SetV.below {f : Int → Bool} {n : Nat} {v : Value} {w w' : World} (h : SetV f n v w) (hb : Below w.heap.size w w') : SetV f n v w' := by
  obtain ⟨X, h1, h2⟩ := h
  exact ⟨X, h1.below hb, h2⟩
def SetO (f : Int → Bool) (n b : Nat) (v : Value) (w : World) : Prop := ∃ X, w.ownsRow b 41 2 v X.length (celS X) ∧ isS 0 X = true ∧ (∀ p, hasB X p = f p) ∧ X.length ≤ n
theorem SetO.below {f : Int → Bool} {n b : Nat} {v : Value} {w w' : World} (h : SetO f n b v w) (hb : Below w.heap.size w w') : SetO f n b v w' := by
  obtain ⟨X, h1, h2⟩ := h
  exact ⟨X, owns_below h1 hb, h2⟩
theorem SetO.rd {f : Int → Bool} {n b : Nat} {v : Value} {w : World} (h : SetO f n b v w) : SetV f n v w := by
  obtain ⟨X, h1, h2⟩ := h
  exact ⟨X, RdS.of_owns h1, h2⟩
def VT (f1 f2 : Int → Bool) (n1 n2 g off n c B : Nat) : (Nat → Bool) → Nat → Value → World → Prop := fun _ j v w => match j with
  | 0 => v = .slice (some ⟨g, off, none⟩) n c
  | 1 => v = .int .i64 1
  | 2 => v = .slice (some ⟨g, off, none⟩) 1 c
  | 3 => SetV f1 n1 v w
  | 4 => v = .slice (some ⟨g, off, none⟩) n c
  | 5 => v = .int .i64 1
  | 6 => v = .slice (some ⟨g, off + 1, none⟩) (n - 1) (c - 1)
  | 7 => SetV f2 n2 v w
  | 8 => SetO (fun p => f1 p || f2 p) (n1 + n2) B v w
  | 9 => SetO (fun p => f1 p || f2 p) (n1 + n2) B v w
  | _ => True
theorem vt_calm (f1 f2 : Int → Bool) (n1 n2 g off n c B : Nat) (w0 : World) (i : Nat) : Calm (grown w0) (VT f1 f2 n1 n2 g off n c B) i :=
  ⟨fun s w w' hs h hb => grown_steady w0 i s w w' hs h hb, fun s j u w w' _ _ h hb => by
    unfold VT at h ⊢
    match j with
    | 0 => exact h
    | 1 => exact h
    | 2 => exact h
    | 3 => exact SetV.below h hb
    | 4 => exact h
    | 5 => exact h
    | 6 => exact h
    | 7 => exact SetV.below h hb
    | 8 => exact SetO.below h hb
    | 9 => exact SetO.below h hb
    | _ + 10 => trivial⟩
theorem run_upto62 (w : World) (g off n c : Nat) (h : 1 ≤ n) (hc : n ≤ c) : (Instr.sliceAt 50 (.slice (some ⟨g, off, none⟩) n c) none (some (.int .i64 1)) none).run Try.prog w = .ok (.slice (some ⟨g, off, none⟩) 1 c) w := by
  have h1 : (1 : Int) ≤ (c : Int) := by omega
  simp [Instr.sliceAt, Instr.slice, go_sem, run_underlying Try.underlying50, h1]
theorem run_from62 (w : World) (g off n c : Nat) (h : 2 ≤ n) (hc : n ≤ c) : (Instr.sliceAt 50 (.slice (some ⟨g, off, none⟩) n c) (some (.int .i64 1)) none none).run Try.prog w = .ok (.slice (some ⟨g, off + 1, none⟩) (n - 1) (c - 1)) w := by
  have h1 : (1 : Int) ≤ (n : Int) := by omega
  have h2 : ¬ c = 1 := by omega
  simp [Instr.sliceAt, Instr.slice, go_sem, run_underlying Try.underlying50, h1, h2]
noncomputable def body36 : Code := Try.f23.body.getD .skip
set_option maxRecDepth 100000 in
set_option maxHeartbeats 1000000 in
theorem tog_7 {Q : Exit → Act → World → Prop} (f1 f2 : Int → Bool) (n1 n2 g off n c : Nat) (a : Act) (w0 : World) (hn : 2 ≤ n) (hc : n ≤ c) (hn1 : n1 + n2 ≤ 1000000)
    (k1 : ∀ w : World, Below w0.heap.size w0 w → Calls Try.prog 23 #[.slice (some ⟨g, off, none⟩) 1 c] w fun e w' => ∃ v, e = .returned v ∧ SetV f1 n1 v w' ∧ Below w.heap.size w w')
    (k2 : ∀ w : World, Below w0.heap.size w0 w → Calls Try.prog 23 #[.slice (some ⟨g, off + 1, none⟩) (n - 1) (c - 1)] w fun e w' => ∃ v, e = .returned v ∧ SetV f2 n2 v w' ∧ Below w.heap.size w w')
    (hK : Hid (∀ a w2 vt, Below w0.heap.size w0 w2 → SetO (fun p => f1 p || f2 p) (n1 + n2) w0.heap.size vt w2 → At 26 [(2, vt)] a → Code.wp Try.prog (sq 4 body36) Q a w2)) (ha : At 26 [(0, .slice (some ⟨g, off, none⟩) n c), (3, .int .i64 1)] a) : Code.wp Try.prog (sq 3 body36) Q a w0 := by
  obtain ⟨f, rfl, h0, h3, -⟩ := ha.lit
  change Code.wp _ _ _ ⟨#[f 0, f 1, f 2, f 3, f 4, f 5, f 6, f 7, f 8, f 9, f 10, f 11, f 12, f 13, f 14, f 15, f 16, f 17, f 18, f 19, f 20, f 21, f 22, f 23, f 24, f 25], []⟩ _
  simp only at h0 h3
  simp only [h0, h3]
  clear h0 h3
  change Code.wp _ (Code.seq (hd (sq 3 body36)) (sq 4 body36)) _ _ _
  generalize sq 4 body36 = REST at hK ⊢
  conv => arg 2; arg 1; whnf
  refine wp_seq ?_
  refine wp_region_turn (grown w0) (VT f1 f2 n1 n2 g off n c w0.heap.size) 26 rfl (by kernel_rfl) (by kernel_rfl) (grown_start w0) ⟨?o0, ?o1, ?o2, ?o3, ?o4, ?o5, ?o6, ?o7, ?o8, ?o9, trivial⟩ ?hdone
  case o0 => exact FlowOp4.plain (vt_calm _ _ _ _ _ _ _ _ _ _ 0) fun a w s cx => ⟨wanted_none rfl, fun K hK => wp_gen [(0, .slice (some ⟨g, off, none⟩) n c)] ⟨cx.keep 0 _ (by kernel_rfl) rfl, trivial⟩ (by kernel_rfl) (by kernel_rfl) (hK.out _ w (show VT _ _ _ _ _ _ _ _ _ _ 0 _ _ from rfl) (Below.refl _ _))⟩
  case o4 => exact FlowOp4.plain (vt_calm _ _ _ _ _ _ _ _ _ _ 4) fun a w s cx => ⟨wanted_none rfl, fun K hK => wp_gen [(0, .slice (some ⟨g, off, none⟩) n c)] ⟨cx.keep 0 _ (by kernel_rfl) rfl, trivial⟩ (by kernel_rfl) (by kernel_rfl) (hK.out _ w (show VT _ _ _ _ _ _ _ _ _ _ 4 _ _ from rfl) (Below.refl _ _))⟩
  case o1 => exact FlowOp4.plain (vt_calm _ _ _ _ _ _ _ _ _ _ 1) fun a w s cx => ⟨wanted_none rfl, fun K hK => wp_gen [(3, .int .i64 1)] ⟨cx.keep 3 _ (by kernel_rfl) rfl, trivial⟩ (by kernel_rfl) (by kernel_rfl) (hK.out _ w (show VT _ _ _ _ _ _ _ _ _ _ 1 _ _ from rfl) (Below.refl _ _))⟩
  case o5 => exact FlowOp4.plain (vt_calm _ _ _ _ _ _ _ _ _ _ 5) fun a w s cx => ⟨wanted_none rfl, fun K hK => wp_gen [(3, .int .i64 1)] ⟨cx.keep 3 _ (by kernel_rfl) rfl, trivial⟩ (by kernel_rfl) (by kernel_rfl) (hK.out _ w (show VT _ _ _ _ _ _ _ _ _ _ 5 _ _ from rfl) (Below.refl _ _))⟩
  case o2 =>
    exact FlowOp4.plain (vt_calm _ _ _ _ _ _ _ _ _ _ 2) fun a w s cx => ⟨wanted_none rfl, fun K hK => by
      obtain ⟨v1, e1, r1⟩ := cx.slot 0 17 (by kernel_rfl)
      obtain ⟨v2, e2, r2⟩ := cx.slot 1 18 (by kernel_rfl)
      obtain rfl : v1 = _ := r1
      obtain rfl : v2 = _ := r2
      exact wp_gen [(17, .slice (some ⟨g, off, none⟩) n c), (18, .int .i64 1)] ⟨e1, e2, trivial⟩ (by kernel_rfl) (run_slc rfl (run_upto62 w g off n _ (by omega) hc)) (hK.out _ w (show VT _ _ _ _ _ _ _ _ _ _ 2 _ _ from rfl) (Below.refl _ _))⟩
  case o6 =>
    exact FlowOp4.plain (vt_calm _ _ _ _ _ _ _ _ _ _ 6) fun a w s cx => ⟨wanted_none rfl, fun K hK => by
      obtain ⟨v1, e1, r1⟩ := cx.slot 4 21 (by kernel_rfl)
      obtain ⟨v2, e2, r2⟩ := cx.slot 5 22 (by kernel_rfl)
      obtain rfl : v1 = _ := r1
      obtain rfl : v2 = _ := r2
      exact wp_gen [(21, .slice (some ⟨g, off, none⟩) n c), (22, .int .i64 1)] ⟨e1, e2, trivial⟩ (by kernel_rfl) (run_slc rfl (run_from62 w g off n _ hn hc)) (hK.out _ w (show VT _ _ _ _ _ _ _ _ _ _ 6 _ _ from rfl) (Below.refl _ _))⟩
  case o3 =>
    exact FlowOp4.plain (vt_calm _ _ _ _ _ _ _ _ _ _ 3) fun a w s cx => ⟨wanted_none rfl, fun K hK => by
      obtain ⟨v1, e1, r1⟩ := cx.slot 2 19 (by kernel_rfl)
      obtain rfl : v1 = _ := r1
      have hg : Below w0.heap.size w0 w := cx.ground
      refine wp_gen_call [(19, .slice (some ⟨g, off, none⟩) 1 c)] ⟨e1, trivial⟩ (by kernel_rfl) (fun _ => by kernel_rfl) ((k1 w hg).mono ?_)
      rintro e w' ⟨v, rfl, hv, hb⟩
      exact ⟨v, rfl, hK.out v w' hv hb⟩⟩
  case o7 =>
    exact FlowOp4.plain (vt_calm _ _ _ _ _ _ _ _ _ _ 7) fun a w s cx => ⟨wanted_none rfl, fun K hK => by
      obtain ⟨v1, e1, r1⟩ := cx.slot 6 23 (by kernel_rfl)
      obtain rfl : v1 = _ := r1
      have hg : Below w0.heap.size w0 w := cx.ground
      refine wp_gen_call [(23, .slice (some ⟨g, off + 1, none⟩) (n - 1) (c - 1))] ⟨e1, trivial⟩ (by kernel_rfl) (fun _ => by kernel_rfl) ((k2 w hg).mono ?_)
      rintro e w' ⟨v, rfl, hv, hb⟩
      exact ⟨v, rfl, hK.out v w' hv hb⟩⟩
  case o8 =>
    exact FlowOp4.plain (vt_calm _ _ _ _ _ _ _ _ _ _ 8) fun a w s cx => ⟨wanted_none rfl, fun K hK => by
      obtain ⟨v1, e1, r1⟩ := cx.slot 3 20 (by kernel_rfl)
      obtain ⟨v2, e2, r2⟩ := cx.slot 7 24 (by kernel_rfl)
      have hg : Below w0.heap.size w0 w := cx.ground
      obtain ⟨X, x1, x2, x3, x4⟩ : SetV f1 n1 v1 w := r1
      obtain ⟨Y, y1, y2, y3, y4⟩ : SetV f2 n2 v2 w := r2
      refine wp_gen_call [(20, v1), (24, v2)] ⟨e1, e2, trivial⟩ (by kernel_rfl) (fun _ => by kernel_rfl) ((either_any X Y v1 v2 w x1 y1 x2 y2 (by omega) (by omega)).mono ?_)
      rintro e w' ⟨v, Z, rfl, z1, z2, z3, z4, hb⟩
      exact ⟨v, rfl, hK.out v w' ⟨Z, owns_lo z1 hg.size, z2, fun p => by rw [z3, x3, y3], by omega⟩ hb⟩⟩
  case o9 =>
    exact FlowOp4.plain (vt_calm _ _ _ _ _ _ _ _ _ _ 9) fun a w s cx => ⟨wanted_none rfl, fun K hK => by
      obtain ⟨v1, e1, r1⟩ := cx.slot 8 25 (by kernel_rfl)
      have r1 : SetO (fun p => f1 p || f2 p) (n1 + n2) w0.heap.size v1 w := r1
      exact wp_gen [(25, v1)] ⟨e1, trivial⟩ (by kernel_rfl) (by kernel_rfl) (hK.out _ w r1 (Below.refl _ _))⟩
  case hdone =>
    intro a w s hs hg hz hdf hk hgot
    obtain ⟨vt, et, rt⟩ := got_slot4 hgot 9 2 (by kernel_rfl)
    have rt : SetO (fun p => f1 p || f2 p) (n1 + n2) w0.heap.size vt w := rt
    exact hK.out a w vt hg rt ⟨hz, hdf, et, trivial⟩
theorem tog_none (w : World) : Calls Try.prog 23 #[.slice none 0 0] w fun e w' => e = .returned (.slice none 0 0) ∧ w' = w := by
  go_enter Try.func23, Try.ntmps23
  go_wp2
  go_ret
  exact ⟨rfl, rfl⟩
set_option maxRecDepth 100000 in
set_option maxHeartbeats 1000000 in
theorem tog_one (A : List Sn) (va : Value) (g off c : Nat) (w : World) (hc : w.cell? ⟨g, off, none⟩ = some va) (hr : RdS w va A) (hl : A.length ≤ 1000000) : Calls Try.prog 23 #[.slice (some ⟨g, off, none⟩) 1 c] w fun e w' => ∃ v', e = .returned v' ∧ w'.ownsRow w.heap.size 41 2 v' A.length (celS A) ∧ Below w.heap.size w w' := by
  have HR : Hid (RdS w va A) := hr
  clear hr
  go_enter Try.func23, Try.ntmps23
  go_wp2_with fail
  refine (clone_any A va w HR.out (by omega)).mono ?_
  rintro e w1 ⟨v1, rfl, O1, B1⟩
  have HO : Hid (w1.ownsRow w.heap.size 41 2 v1 A.length (celS A)) := O1
  have HB : Hid (Below w.heap.size w w1) := B1
  clear O1 B1
  go_wp2
  go_ret
  exact ⟨_, rfl, HO.out, HB.out⟩
set_option maxRecDepth 100000 in
set_option maxHeartbeats 1000000 in
theorem tog_many (f1 f2 : Int → Bool) (n1 n2 g off n c : Nat) (w : World) (hn : n = 2 ∨ n = 3) (hc : n ≤ c) (hn1 : n1 + n2 ≤ 1000000)
    (k1 : ∀ w1 : World, Below w.heap.size w w1 → Calls Try.prog 23 #[.slice (some ⟨g, off, none⟩) 1 c] w1 fun e w' => ∃ v, e = .returned v ∧ SetV f1 n1 v w' ∧ Below w1.heap.size w1 w')
    (k2 : ∀ w1 : World, Below w.heap.size w w1 → Calls Try.prog 23 #[.slice (some ⟨g, off + 1, none⟩) (n - 1) (c - 1)] w1 fun e w' => ∃ v, e = .returned v ∧ SetV f2 n2 v w' ∧ Below w1.heap.size w1 w') : Calls Try.prog 23 #[.slice (some ⟨g, off, none⟩) n c] w fun e w' => ∃ v', e = .returned v' ∧ SetO (fun p => f1 p || f2 p) (n1 + n2) w.heap.size v' w' ∧ Below w.heap.size w w' := by
  have H7 : Hid (∀ (Q : Exit → Act → World → Prop) (a : Act), (∀ a w2 vt, Below w.heap.size w w2 → SetO (fun p => f1 p || f2 p) (n1 + n2) w.heap.size vt w2 → At 26 [(2, vt)] a → Code.wp Try.prog (sq 4 body36) Q a w2) → At 26 [(0, .slice (some ⟨g, off, none⟩) n c), (3, .int .i64 1)] a → Code.wp Try.prog (sq 3 body36) Q a w) := fun Q a h1 h2 => tog_7 f1 f2 n1 n2 g off n c a w (by omega) hc hn1 k1 k2 h1 h2
  clear k1 k2
  rcases hn with rfl | rfl
  · go_enter Try.func23, Try.ntmps23
    change Code.wp _ (Code.seq (hd (sq 0 body36)) (Code.seq (hd (sq 1 body36)) (Code.seq (hd (sq 2 body36)) (sq 3 body36)))) _ _ _
    generalize sq 3 body36 = REST at H7 ⊢
    conv => arg 2; arg 1; whnf
    conv => arg 2; arg 2; arg 1; whnf
    conv => arg 2; arg 2; arg 2; arg 1; whnf
    go_wp2_with fail
    refine H7.out _ _ (fun a w2 vt B2 O2 ha => ?_) ⟨rfl, rfl, rfl, rfl, trivial⟩
    have HO := show Hid _ from O2
    have HB := show Hid _ from B2
    clear B2 O2 H7
    obtain ⟨f, rfl, h2, -⟩ := ha.lit
    change Code.wp _ _ _ ⟨#[f 0, f 1, f 2, f 3, f 4, f 5, f 6, f 7, f 8, f 9, f 10, f 11, f 12, f 13, f 14, f 15, f 16, f 17, f 18, f 19, f 20, f 21, f 22, f 23, f 24, f 25], []⟩ _
    simp only at h2
    simp only [h2]
    clear h2
    conv => arg 2; whnf
    go_wp2
    go_ret
    exact ⟨_, rfl, HO.out, HB.out⟩
  · go_enter Try.func23, Try.ntmps23
    change Code.wp _ (Code.seq (hd (sq 0 body36)) (Code.seq (hd (sq 1 body36)) (Code.seq (hd (sq 2 body36)) (sq 3 body36)))) _ _ _
    generalize sq 3 body36 = REST at H7 ⊢
    conv => arg 2; arg 1; whnf
    conv => arg 2; arg 2; arg 1; whnf
    conv => arg 2; arg 2; arg 2; arg 1; whnf
    go_wp2_with fail
    refine H7.out _ _ (fun a w2 vt B2 O2 ha => ?_) ⟨rfl, rfl, rfl, rfl, trivial⟩
    have HO := show Hid _ from O2
    have HB := show Hid _ from B2
    clear B2 O2 H7
    obtain ⟨f, rfl, h2, -⟩ := ha.lit
    change Code.wp _ _ _ ⟨#[f 0, f 1, f 2, f 3, f 4, f 5, f 6, f 7, f 8, f 9, f 10, f 11, f 12, f 13, f 14, f 15, f 16, f 17, f 18, f 19, f 20, f 21, f 22, f 23, f 24, f 25], []⟩ _
    simp only at h2
    simp only [h2]
    clear h2
    conv => arg 2; whnf
    go_wp2
    go_ret
    exact ⟨_, rfl, HO.out, HB.out⟩
end Go.Proofs.Ytddoanmhikldiab
