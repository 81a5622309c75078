/-
  The contracts of Even and Whole, the code's. Condition: the float's bits fit.
-/
import Derived.Test.YtjcjecbffnadaabNw
import Derived.Test.YtjcjecbffnadaabWa
import Derived.Laws.FloatArith
namespace Go.Proofs.Ytjcjecbffnadaab
open Go.RowKit
set_option maxRecDepth 100000 in
set_option maxHeartbeats 2000000 in
theorem even_stay (b : Nat) (kd X : Int) (ng qu : Bool) (M LD : Nat) (w : World) (hX : 0 ≤ X) (k46 : ∀ w, Calls Try.prog 46 #[.float .f64 b] w fun e w' => e = .returned (.agg #[.int .i64 kd, .bool ng, .int .u64 (M : Int), .int .i64 X, .bool qu, .int .u64 (LD : Int)]) ∧ Below w.heap.size w w') :
    Calls Try.prog 19 #[.float .f64 b] w fun e w' => e = .returned (.float .f64 b) ∧ Below w.heap.size w w' := by
  go_enter Try.func19, Try.ntmps19
  go_wp2_with (go_at_call 46; refine (k46 _).mono ?_)
  intro e1 w1 hq
  first | (obtain ⟨rfl, b1⟩ : _ ∧ _ := hq) | (subst hq; intro b1)
  have B1 : Hid (Below w.heap.size w (w1.alloc (.cells #[.int .i64 kd, .bool ng, .int .u64 (M : Int), .int .i64 X, .bool qu, .int .u64 (LD : Int)] 66))) := b1.alloc b1.size _
  clear b1
  go_wp2
  go_ret
  exact ⟨rfl, B1.out⟩
noncomputable def body19 : Code := Try.f19.body.getD .skip
set_option maxRecDepth 100000 in
set_option maxHeartbeats 2000000 in
theorem even_go1 {Q : Ending → World → Prop} (b R : Nat) (kd X nX : Int) (ng qu : Bool) (M LD : Nat) (w : World) (hX : X < 0) (hn : IntKind.i64.wrap (-X) = nX) (k46 : ∀ w, Calls Try.prog 46 #[.float .f64 b] w fun e w' => e = .returned (.agg #[.int .i64 kd, .bool ng, .int .u64 (M : Int), .int .i64 X, .bool qu, .int .u64 (LD : Int)]) ∧ Below w.heap.size w w')
    (k51 : ∀ w, Calls Try.prog 51 #[.int .u64 (M : Int), .int .i64 nX] w fun e w' => e = .returned (.int .u64 (R : Int)) ∧ Below w.heap.size w w')
    (hK : Hid (∀ a w' g, Below w.heap.size w w' → w'.heap[g]? = some (.cells #[.int .i64 kd, .bool ng, .int .u64 (R : Int), .int .i64 0, .bool qu, .int .u64 (LD : Int)] 66 (0, 0)) → At 20 [(3, .pointer (some ⟨g, 0, none⟩))] a → Code.wp Try.prog (sq 4 body19) (bodyPost Try.prog Try.f19 Q) a w')) :
    Calls Try.prog 19 #[.float .f64 b] w Q := by
  go_enter Try.func19, Try.ntmps19
  change Code.wp _ (Code.seq (hd (sq 0 body19)) (Code.seq (hd (sq 1 body19)) (Code.seq (hd (sq 2 body19)) (Code.seq (hd (sq 3 body19)) (sq 4 body19))))) _ _ _
  generalize sq 4 body19 = REST at hK ⊢
  conv => arg 2; arg 1; whnf
  conv => arg 2; arg 2; arg 1; whnf
  conv => arg 2; arg 2; arg 2; arg 1; whnf
  conv => arg 2; arg 2; arg 2; arg 2; arg 1; whnf
  go_wp2_with (go_at_call 46; refine (k46 _).mono ?_)
  intro e1 w1 hq
  first | (obtain ⟨rfl, b1⟩ : _ ∧ _ := hq) | (subst hq; intro b1)
  go_wp2_with (go_at_call 51; refine (k51 _).mono ?_)
  intro e2 w2 hq
  first | (obtain ⟨rfl, b2⟩ : _ ∧ _ := hq) | (subst hq; intro b2)
  have z1 := b1.size
  have r2 : w2.heap[w1.heap.size]? = some (.cells #[.int .i64 kd, .bool ng, .int .u64 (M : Int), .int .i64 X, .bool qu, .int .u64 (LD : Int)] 66 (0, 0)) := (b2.block _ (by simp)).trans (heap_alloc_last _ _)
  have B2 : Hid (Below w.heap.size w w2) := (b1.alloc b1.size _).trans (b2.mono (by simp; omega))
  have fz : ∀ i, w2.frozen? ⟨w1.heap.size, i, none⟩ = false := fun i => froz r2
  obtain ⟨m0, m1, m2, m3, m4, m5⟩ := cells6 r2
  have hr2 := show Hid _ from r2
  clear b1 b2 r2
  go_wp2
  refine hK.out _ _ w1.heap.size ?_ ?_ ⟨rfl, rfl, rfl, trivial⟩
  · exact (B2.out.setCell (p := ⟨w1.heap.size, 2, none⟩) (by show w.heap.size ≤ w1.heap.size; omega) _).setCell (p := ⟨w1.heap.size, 3, none⟩) (by show w.heap.size ≤ w1.heap.size; omega) _
  · exact set_at _ (set_at _ hr2.out)
set_option maxRecDepth 100000 in
set_option maxHeartbeats 2000000 in
theorem even_go2 (R V g : Nat) (kd : Int) (ng qu : Bool) (LD : Nat) (a : Act) (w0 w : World) (B : Hid (Below w0.heap.size w0 w)) (r : Hid (w.heap[g]? = some (.cells #[.int .i64 kd, .bool ng, .int .u64 (R : Int), .int .i64 0, .bool qu, .int .u64 (LD : Int)] 66 (0, 0)))) (k50 : ∀ w, Calls Try.prog 50 #[.agg #[.int .i64 kd, .bool ng, .int .u64 (R : Int), .int .i64 0, .bool qu, .int .u64 (LD : Int)]] w fun e w' => e = .returned (.float .f64 V) ∧ Below w.heap.size w w') (ha : At 20 [(3, .pointer (some ⟨g, 0, none⟩))] a) :
    Code.wp Try.prog (sq 4 body19) (bodyPost Try.prog Try.f19 fun e w' => e = .returned (.float .f64 V) ∧ Below w0.heap.size w0 w') a w := by
  obtain ⟨f, rfl, h3, -⟩ := ha.lit
  change Code.wp _ _ _ ⟨#[f 0, f 1, f 2, f 3, f 4, f 5, f 6, f 7, f 8, f 9, f 10, f 11, f 12, f 13, f 14, f 15, f 16, f 17, f 18, f 19], []⟩ _
  simp only at h3
  simp only [h3]
  clear h3
  conv => arg 2; whnf
  obtain ⟨m0, m1, m2, m3, m4, m5⟩ := cells6 r.out
  go_wp2_with (go_at_call 50; refine (k50 _).mono ?_)
  intro e1 w1 hq
  first | (obtain ⟨rfl, b1⟩ : _ ∧ _ := hq) | (subst hq; intro b1)
  have B1 : Hid (Below w0.heap.size w0 w1) := B.out.trans (b1.mono B.out.size)
  clear b1
  go_wp2
  go_ret
  exact ⟨rfl, B1.out⟩
/-- The bits of the whole number that is nearest. -/
def evenB (b : Nat) : Nat := if 0 ≤ (pt 52 11 1023 b).exp then b else rndB 52 11 1023 { pt 52 11 1023 b with mant := rnd (pt 52 11 1023 b).mant (-(pt 52 11 1023 b).exp).toNat, exp := 0 }
theorem rnd_small {m : Nat} (s : Nat) (h : m < 18446744073709551616) : rnd m (s + 1) < 18446744073709551616 := by
  have h1 := rnd_le m (s + 1)
  have h2 : m / 2 ^ (s + 1) ≤ m / 2 := by
    refine Nat.div_le_div_left ?_ (by omega)
    rw [Nat.pow_succ]
    have := Nat.two_pow_pos s
    omega
  omega
theorem even_any (b : Nat) (w : World) (hb : b < 18446744073709551616) : Calls Try.prog 19 #[.float .f64 b] w fun e w' => e = .returned (.float .f64 (evenB b)) ∧ Below w.heap.size w w' := by
  have k46 := fun w => Parts_any b w hb
  have sm := pt_small lay64 b
  have pe := pt_exp lay64 b
  unfold evenB
  generalize pt 52 11 1023 b = y at *
  obtain ⟨kd, ng, M, X, qu, LD⟩ := y
  unfold Pt.val at k46
  dsimp only at *
  by_cases c : 0 ≤ X
  · rw [if_pos c]
    exact even_stay b kd X ng qu M LD w c k46
  · rw [if_neg c]
    obtain ⟨s, hs⟩ : ∃ s : Nat, -X = ((s + 1 : Nat) : Int) := ⟨(-X - 1).toNat, by omega⟩
    have k51 := fun w => inU_any M (-X) w sm.1 (fun h => by omega)
    have hr : inU M (-X) = rnd M (-X).toNat := by unfold inU; rw [if_neg (by omega)]
    rw [hr] at k51
    have hlt : rnd M (-X).toNat < 18446744073709551616 := by rw [hs, Int.toNat_natCast]; exact rnd_small s sm.1
    have k50 := fun w => number_any ⟨kd, ng, rnd M (-X).toNat, 0, qu, LD⟩ w hlt (by show (-10000 : Int) ≤ 0; decide) (by show (0 : Int) ≤ 10000; decide)
    exact even_go1 b (rnd M (-X).toNat) kd X (-X) ng qu M LD w (by omega) (i64_in _ (by omega) (by omega)) k46 k51 fun a w' g B r ha => even_go2 _ _ g kd ng qu LD a w w' B r k50 ha
end Go.Proofs.Ytjcjecbffnadaab
