/-
  The contracts of the document's other sizes: Into, From and Bits, and of the code's Bits. Conditions: the sizes are ones that are reckoned with.
-/
import Derived.Test.YtjcjecbffnadaabLawT
import Derived.Test.YtjcjecbffnadaabHf
namespace Go.Proofs.Ytjcjecbffnadaab
open Go.RowKit
theorem World.heap_alloc_size (w : World) (o : Obj) : (w.alloc o).heap.size = w.heap.size + 1 := by simp
set_option maxRecDepth 100000 in
set_option maxHeartbeats 2000000 in
theorem into_none (b V : Nat) (p q bi kd X : Int) (ng qu : Bool) (M LD : Nat) (E : Int) (w : World) (h4 : kd = 4)
    (k11 : ∀ w, Calls Try.prog 11 #[.int .u64 (b : Int), .agg #[.int .i64 52, .int .i64 2047, .int .i64 1023]] w fun e w' => e = .returned (.agg #[.int .i64 kd, .bool ng, .int .u64 (M : Int), .int .i64 X, .bool qu, .int .u64 (LD : Int)]) ∧ Below w.heap.size w w') (k66 : ∀ w, Calls Try.prog 66 #[.agg #[.int .i64 4, .bool false, .int .u64 0, .int .i64 0, .bool true, .int .u64 0], .agg #[.int .i64 p, .int .i64 q, .int .i64 bi]] w fun e w' => e = .returned (.tuple #[.int .u64 (V : Int), .int .i64 E]) ∧ Below w.heap.size w w') :
    Calls Try.prog 36 #[.int .u64 (b : Int), .agg #[.int .i64 p, .int .i64 q, .int .i64 bi]] w fun e w' => e = .returned (.int .u64 (V : Int)) ∧ Below w.heap.size w w' := by
  have k12 := k16l
  unfold k16L at k12
  have bl : ∀ w, (Instr.build 27 #[(0, .int .i64 4), (4, .bool true)]).run Try.prog w = .ok (.agg #[.int .i64 4, .bool false, .int .u64 0, .int .i64 0, .bool true, .int .u64 0]) w := fun _ => by kernel_rfl
  go_enter Try.func36, Try.ntmps36
  go_wp2_with (go_at_call 12; refine (k12 _).mono ?_)
  intro e1 w1 hq
  first | (obtain ⟨rfl, b1⟩ : _ ∧ _ := hq) | (subst hq; intro b1)
  go_wp2_with (go_at_call 11; refine (k11 _).mono ?_)
  intro e2 w2 hq
  first | (obtain ⟨rfl, b2⟩ : _ ∧ _ := hq) | (subst hq; intro b2)
  have z1 := b1.size
  have z2 := b2.size
  simp only [World.heap_alloc_size] at z1
  have rz : w2.heap[w.heap.size]? = some (.cells #[.int .i64 p, .int .i64 q, .int .i64 bi] 30 (0, 0)) := ((b2.block _ (by omega)).trans (b1.block _ (by simp))).trans (heap_alloc_last _ _)
  have B2 : Hid (Below w.heap.size w w2) := (((Below.refl _ _).alloc (Nat.le_refl _) _).trans (b1.mono (by simp))).trans (b2.mono (by omega))
  have rg : (w2.alloc (.cells #[.int .i64 kd, .bool ng, .int .u64 (M : Int), .int .i64 X, .bool qu, .int .u64 (LD : Int)] 27)).heap[w2.heap.size]? = some (.cells #[.int .i64 kd, .bool ng, .int .u64 (M : Int), .int .i64 X, .bool qu, .int .u64 (LD : Int)] 27 (0, 0)) := heap_alloc_last _ _
  have rz2 : (w2.alloc (.cells #[.int .i64 kd, .bool ng, .int .u64 (M : Int), .int .i64 X, .bool qu, .int .u64 (LD : Int)] 27)).heap[w.heap.size]? = some (.cells #[.int .i64 p, .int .i64 q, .int .i64 bi] 30 (0, 0)) := (Below.heap_alloc _ _ _ (by omega)).trans rz
  have B3 : Hid (Below w.heap.size w (w2.alloc (.cells #[.int .i64 kd, .bool ng, .int .u64 (M : Int), .int .i64 X, .bool qu, .int .u64 (LD : Int)] 27))) := B2.out.alloc (by omega) _
  obtain ⟨m0, m1, m2, m3, m4, m5⟩ := cells6 rg
  obtain ⟨y0, y1, y2⟩ := cells3 rz2
  clear b1 b2 rz B2 rz2 rg
  subst h4
  go_wp2_with (go_at_call 66; refine (k66 _).mono ?_)
  intro e3 w3 hq
  first | (obtain ⟨rfl, b3⟩ : _ ∧ _ := hq) | (subst hq; intro b3)
  have B4 : Hid (Below w.heap.size w w3) := B3.out.trans (b3.mono B3.out.size)
  clear b3
  go_wp2
  go_ret
  exact ⟨rfl, B4.out⟩
set_option maxRecDepth 100000 in
set_option maxHeartbeats 2000000 in
theorem into_inf (b V : Nat) (p q bi kd X : Int) (ng qu : Bool) (M LD : Nat) (E : Int) (w : World) (h3 : kd = 3)
    (k11 : ∀ w, Calls Try.prog 11 #[.int .u64 (b : Int), .agg #[.int .i64 52, .int .i64 2047, .int .i64 1023]] w fun e w' => e = .returned (.agg #[.int .i64 kd, .bool ng, .int .u64 (M : Int), .int .i64 X, .bool qu, .int .u64 (LD : Int)]) ∧ Below w.heap.size w w') (k66 : ∀ w, Calls Try.prog 66 #[.agg #[.int .i64 kd, .bool ng, .int .u64 (M : Int), .int .i64 X, .bool qu, .int .u64 (LD : Int)], .agg #[.int .i64 p, .int .i64 q, .int .i64 bi]] w fun e w' => e = .returned (.tuple #[.int .u64 (V : Int), .int .i64 E]) ∧ Below w.heap.size w w') :
    Calls Try.prog 36 #[.int .u64 (b : Int), .agg #[.int .i64 p, .int .i64 q, .int .i64 bi]] w fun e w' => e = .returned (.int .u64 (V : Int)) ∧ Below w.heap.size w w' := by
  have k12 := k16l
  unfold k16L at k12
  have bl : ∀ w, (Instr.build 27 #[(0, .int .i64 4), (4, .bool true)]).run Try.prog w = .ok (.agg #[.int .i64 4, .bool false, .int .u64 0, .int .i64 0, .bool true, .int .u64 0]) w := fun _ => by kernel_rfl
  go_enter Try.func36, Try.ntmps36
  go_wp2_with (go_at_call 12; refine (k12 _).mono ?_)
  intro e1 w1 hq
  first | (obtain ⟨rfl, b1⟩ : _ ∧ _ := hq) | (subst hq; intro b1)
  go_wp2_with (go_at_call 11; refine (k11 _).mono ?_)
  intro e2 w2 hq
  first | (obtain ⟨rfl, b2⟩ : _ ∧ _ := hq) | (subst hq; intro b2)
  have z1 := b1.size
  have z2 := b2.size
  simp only [World.heap_alloc_size] at z1
  have rz : w2.heap[w.heap.size]? = some (.cells #[.int .i64 p, .int .i64 q, .int .i64 bi] 30 (0, 0)) := ((b2.block _ (by omega)).trans (b1.block _ (by simp))).trans (heap_alloc_last _ _)
  have B2 : Hid (Below w.heap.size w w2) := (((Below.refl _ _).alloc (Nat.le_refl _) _).trans (b1.mono (by simp))).trans (b2.mono (by omega))
  have rg : (w2.alloc (.cells #[.int .i64 kd, .bool ng, .int .u64 (M : Int), .int .i64 X, .bool qu, .int .u64 (LD : Int)] 27)).heap[w2.heap.size]? = some (.cells #[.int .i64 kd, .bool ng, .int .u64 (M : Int), .int .i64 X, .bool qu, .int .u64 (LD : Int)] 27 (0, 0)) := heap_alloc_last _ _
  have rz2 : (w2.alloc (.cells #[.int .i64 kd, .bool ng, .int .u64 (M : Int), .int .i64 X, .bool qu, .int .u64 (LD : Int)] 27)).heap[w.heap.size]? = some (.cells #[.int .i64 p, .int .i64 q, .int .i64 bi] 30 (0, 0)) := (Below.heap_alloc _ _ _ (by omega)).trans rz
  have B3 : Hid (Below w.heap.size w (w2.alloc (.cells #[.int .i64 kd, .bool ng, .int .u64 (M : Int), .int .i64 X, .bool qu, .int .u64 (LD : Int)] 27))) := B2.out.alloc (by omega) _
  obtain ⟨m0, m1, m2, m3, m4, m5⟩ := cells6 rg
  obtain ⟨y0, y1, y2⟩ := cells3 rz2
  clear b1 b2 rz B2 rz2 rg
  subst h3
  go_wp2_with (go_at_call 66; refine (k66 _).mono ?_)
  intro e3 w3 hq
  first | (obtain ⟨rfl, b3⟩ : _ ∧ _ := hq) | (subst hq; intro b3)
  have B4 : Hid (Below w.heap.size w w3) := B3.out.trans (b3.mono B3.out.size)
  clear b3
  go_wp2
  go_ret
  exact ⟨rfl, B4.out⟩
set_option maxRecDepth 100000 in
set_option maxHeartbeats 2000000 in
theorem into_num (b V : Nat) (p q bi kd X : Int) (ng qu : Bool) (M LD : Nat) (w : World) (h3 : (kd == 3) = false) (h4 : (kd == 4) = false)
    (k11 : ∀ w, Calls Try.prog 11 #[.int .u64 (b : Int), .agg #[.int .i64 52, .int .i64 2047, .int .i64 1023]] w fun e w' => e = .returned (.agg #[.int .i64 kd, .bool ng, .int .u64 (M : Int), .int .i64 X, .bool qu, .int .u64 (LD : Int)]) ∧ Below w.heap.size w w') (k15 : ∀ w, Calls Try.prog 15 #[.bool ng, .int .u64 (M : Int), .int .i64 X, .bool false, .agg #[.int .i64 p, .int .i64 q, .int .i64 bi]] w fun e w' => e = .returned (.int .u64 (V : Int)) ∧ Below w.heap.size w w') :
    Calls Try.prog 36 #[.int .u64 (b : Int), .agg #[.int .i64 p, .int .i64 q, .int .i64 bi]] w fun e w' => e = .returned (.int .u64 (V : Int)) ∧ Below w.heap.size w w' := by
  have k12 := k16l
  unfold k16L at k12
  have bl : ∀ w, (Instr.build 27 #[(0, .int .i64 4), (4, .bool true)]).run Try.prog w = .ok (.agg #[.int .i64 4, .bool false, .int .u64 0, .int .i64 0, .bool true, .int .u64 0]) w := fun _ => by kernel_rfl
  go_enter Try.func36, Try.ntmps36
  go_wp2_with (go_at_call 12; refine (k12 _).mono ?_)
  intro e1 w1 hq
  first | (obtain ⟨rfl, b1⟩ : _ ∧ _ := hq) | (subst hq; intro b1)
  go_wp2_with (go_at_call 11; refine (k11 _).mono ?_)
  intro e2 w2 hq
  first | (obtain ⟨rfl, b2⟩ : _ ∧ _ := hq) | (subst hq; intro b2)
  have z1 := b1.size
  have z2 := b2.size
  simp only [World.heap_alloc_size] at z1
  have rz : w2.heap[w.heap.size]? = some (.cells #[.int .i64 p, .int .i64 q, .int .i64 bi] 30 (0, 0)) := ((b2.block _ (by omega)).trans (b1.block _ (by simp))).trans (heap_alloc_last _ _)
  have B2 : Hid (Below w.heap.size w w2) := (((Below.refl _ _).alloc (Nat.le_refl _) _).trans (b1.mono (by simp))).trans (b2.mono (by omega))
  have rg : (w2.alloc (.cells #[.int .i64 kd, .bool ng, .int .u64 (M : Int), .int .i64 X, .bool qu, .int .u64 (LD : Int)] 27)).heap[w2.heap.size]? = some (.cells #[.int .i64 kd, .bool ng, .int .u64 (M : Int), .int .i64 X, .bool qu, .int .u64 (LD : Int)] 27 (0, 0)) := heap_alloc_last _ _
  have rz2 : (w2.alloc (.cells #[.int .i64 kd, .bool ng, .int .u64 (M : Int), .int .i64 X, .bool qu, .int .u64 (LD : Int)] 27)).heap[w.heap.size]? = some (.cells #[.int .i64 p, .int .i64 q, .int .i64 bi] 30 (0, 0)) := (Below.heap_alloc _ _ _ (by omega)).trans rz
  have B3 : Hid (Below w.heap.size w (w2.alloc (.cells #[.int .i64 kd, .bool ng, .int .u64 (M : Int), .int .i64 X, .bool qu, .int .u64 (LD : Int)] 27))) := B2.out.alloc (by omega) _
  obtain ⟨m0, m1, m2, m3, m4, m5⟩ := cells6 rg
  obtain ⟨y0, y1, y2⟩ := cells3 rz2
  clear b1 b2 rz B2 rz2 rg
  go_wp2_with (go_at_call 15; refine (k15 _).mono ?_)
  intro e3 w3 hq
  first | (obtain ⟨rfl, b3⟩ : _ ∧ _ := hq) | (subst hq; intro b3)
  have B4 : Hid (Below w.heap.size w w3) := B3.out.trans (b3.mono B3.out.size)
  clear b3
  go_wp2
  go_ret
  exact ⟨rfl, B4.out⟩
set_option maxRecDepth 100000 in
set_option maxHeartbeats 2000000 in
theorem from_none (b : Nat) (p q bi kd X : Int) (ng qu : Bool) (M LD : Nat) (_E : Int) (w : World) (h4 : kd = 4)
    (k11 : ∀ w, Calls Try.prog 11 #[.int .u64 (b : Int), .agg #[.int .i64 p, .int .i64 q, .int .i64 bi]] w fun e w' => e = .returned (.agg #[.int .i64 kd, .bool ng, .int .u64 (M : Int), .int .i64 X, .bool qu, .int .u64 (LD : Int)]) ∧ Below w.heap.size w w')  :
    Calls Try.prog 42 #[.int .u64 (b : Int), .agg #[.int .i64 p, .int .i64 q, .int .i64 bi]] w fun e w' => e = .returned (.int .u64 9221120237041090560) ∧ Below w.heap.size w w' := by
  have k12 := k16l
  unfold k16L at k12
  go_enter Try.func42, Try.ntmps42
  go_wp2_with (go_at_call 11; refine (k11 _).mono ?_)
  intro e2 w2 hq
  first | (obtain ⟨rfl, b2⟩ : _ ∧ _ := hq) | (subst hq; intro b2)
  have z2 := b2.size
  simp only [World.heap_alloc_size] at z2
  have B2 : Hid (Below w.heap.size w w2) := ((Below.refl _ _).alloc (Nat.le_refl _) _).trans (b2.mono (by simp))
  have rg : (w2.alloc (.cells #[.int .i64 kd, .bool ng, .int .u64 (M : Int), .int .i64 X, .bool qu, .int .u64 (LD : Int)] 27)).heap[w2.heap.size]? = some (.cells #[.int .i64 kd, .bool ng, .int .u64 (M : Int), .int .i64 X, .bool qu, .int .u64 (LD : Int)] 27 (0, 0)) := heap_alloc_last _ _
  have B3 : Hid (Below w.heap.size w (w2.alloc (.cells #[.int .i64 kd, .bool ng, .int .u64 (M : Int), .int .i64 X, .bool qu, .int .u64 (LD : Int)] 27))) := B2.out.alloc (by omega) _
  obtain ⟨m0, m1, m2, m3, m4, m5⟩ := cells6 rg
  clear b2 B2
  subst h4
  have k62 : ∀ w, Calls Try.prog 62 #[] w fun e w' => e = .returned (.int .u64 9221120237041090560) ∧ Below w.heap.size w w' := fun w => by
    go_enter Try.func62, Try.ntmps62
    go_wp2
    go_ret
    exact ⟨rfl, Below.refl _ _⟩
  go_wp2_with (go_at_call 62; refine (k62 _).mono ?_)
  intro e3 w3 hq
  first | (obtain ⟨rfl, b3⟩ : _ ∧ _ := hq) | (subst hq; intro b3)
  have B4 : Hid (Below w.heap.size w w3) := B3.out.trans (b3.mono B3.out.size)
  clear b3
  go_wp2
  go_ret
  exact ⟨rfl, B4.out⟩
set_option maxRecDepth 100000 in
set_option maxHeartbeats 2000000 in
theorem from_inf (b V : Nat) (p q bi kd X : Int) (ng qu : Bool) (M LD : Nat) (E : Int) (w : World) (h3 : kd = 3)
    (k11 : ∀ w, Calls Try.prog 11 #[.int .u64 (b : Int), .agg #[.int .i64 p, .int .i64 q, .int .i64 bi]] w fun e w' => e = .returned (.agg #[.int .i64 kd, .bool ng, .int .u64 (M : Int), .int .i64 X, .bool qu, .int .u64 (LD : Int)]) ∧ Below w.heap.size w w') (k66 : ∀ w, Calls Try.prog 66 #[.agg #[.int .i64 kd, .bool ng, .int .u64 (M : Int), .int .i64 X, .bool qu, .int .u64 (LD : Int)], .agg #[.int .i64 52, .int .i64 2047, .int .i64 1023]] w fun e w' => e = .returned (.tuple #[.int .u64 (V : Int), .int .i64 E]) ∧ Below w.heap.size w w') :
    Calls Try.prog 42 #[.int .u64 (b : Int), .agg #[.int .i64 p, .int .i64 q, .int .i64 bi]] w fun e w' => e = .returned (.int .u64 (V : Int)) ∧ Below w.heap.size w w' := by
  have k12 := k16l
  unfold k16L at k12
  go_enter Try.func42, Try.ntmps42
  go_wp2_with (go_at_call 11; refine (k11 _).mono ?_)
  intro e2 w2 hq
  first | (obtain ⟨rfl, b2⟩ : _ ∧ _ := hq) | (subst hq; intro b2)
  have z2 := b2.size
  simp only [World.heap_alloc_size] at z2
  have B2 : Hid (Below w.heap.size w w2) := ((Below.refl _ _).alloc (Nat.le_refl _) _).trans (b2.mono (by simp))
  have rg : (w2.alloc (.cells #[.int .i64 kd, .bool ng, .int .u64 (M : Int), .int .i64 X, .bool qu, .int .u64 (LD : Int)] 27)).heap[w2.heap.size]? = some (.cells #[.int .i64 kd, .bool ng, .int .u64 (M : Int), .int .i64 X, .bool qu, .int .u64 (LD : Int)] 27 (0, 0)) := heap_alloc_last _ _
  have B3 : Hid (Below w.heap.size w (w2.alloc (.cells #[.int .i64 kd, .bool ng, .int .u64 (M : Int), .int .i64 X, .bool qu, .int .u64 (LD : Int)] 27))) := B2.out.alloc (by omega) _
  obtain ⟨m0, m1, m2, m3, m4, m5⟩ := cells6 rg
  clear b2 B2
  subst h3
  go_wp2
  clear m0 m1 m2 m3 m4 m5
  generalize hw3 : w2.alloc (.cells #[.int .i64 3, .bool ng, .int .u64 (M : Int), .int .i64 X, .bool qu, .int .u64 (LD : Int)] 27) = w3 at *
  generalize hg9 : w2.heap.size = g at *
  refine wp_region_vals (a1 := ?a1r5n1) (grown _) [.agg #[.int .i64 3, .bool ng, .int .u64 (M : Int), .int .i64 X, .bool qu, .int .u64 (LD : Int)], .agg #[.int .i64 52, .int .i64 2047, .int .i64 1023], .tuple #[.int .u64 (V : Int), .int .i64 E], .tuple #[.int .u64 (V : Int), .int .i64 E], .int .u64 (V : Int), .int .i64 E, .int .u64 (V : Int), .int .i64 E] 33 rfl (by kernel_rfl) (by kernel_rfl) (grown_start _) ⟨?o0r5n1, ?o1r5n1, ?o2r5n1, ?o3r5n1, ?o4r5n1, ?o5r5n1, ?o6r5n1, ?o7r5n1, trivial⟩ ?har5n1 ?hdoner5n1
  case har5n1 => simp [putAll, Act.put]; exact rfl
  case o0r5n1 => exact ValOp.pure (grown_steady _ 0) [(5, .pointer (some ⟨g, 0, none⟩))] rfl (fun _ _ h2 => ⟨(h2 5 (by kernel_rfl)).trans rfl, trivial⟩) (by kernel_rfl) (fun _ _ _ hg _ => run_read rfl rfl (run_loadVar_row _ _ _ _ _ _ _ (below_at rg hg) Try.underlying27 rfl (by kernel_rfl)))
  case o1r5n1 => exact ValOp.call (grown_steady _ 1) [] rfl (fun _ _ _ => trivial) (by kernel_rfl) 12 #[] (fun _ => by kernel_rfl) (fun _ w _ => k12 w)
  case o2r5n1 => exact ValOp.call (grown_steady _ 2) [(19, .agg #[.int .i64 3, .bool ng, .int .u64 (M : Int), .int .i64 X, .bool qu, .int .u64 (LD : Int)]), (20, .agg #[.int .i64 52, .int .i64 2047, .int .i64 1023])] rfl (fun _ h1 _ => ⟨h1 0 19 (by kernel_rfl), h1 1 20 (by kernel_rfl), trivial⟩) (by kernel_rfl) 66 #[.agg #[.int .i64 3, .bool ng, .int .u64 (M : Int), .int .i64 X, .bool qu, .int .u64 (LD : Int)], .agg #[.int .i64 52, .int .i64 2047, .int .i64 1023]] (fun _ => by kernel_rfl) (fun _ w _ => k66 w)
  case o3r5n1 => exact ValOp.pure (grown_steady _ 3) [(21, .tuple #[.int .u64 (V : Int), .int .i64 E])] rfl (fun _ h1 _ => ⟨h1 2 21 (by kernel_rfl), trivial⟩) (by kernel_rfl) (fun _ _ _ _ _ => by kernel_rfl)
  case o4r5n1 => exact ValOp.pure (grown_steady _ 4) [(18, .tuple #[.int .u64 (V : Int), .int .i64 E])] rfl (fun _ h1 _ => ⟨h1 3 18 (by kernel_rfl), trivial⟩) (by kernel_rfl) (fun _ _ _ _ _ => by kernel_rfl)
  case o5r5n1 => exact ValOp.pure (grown_steady _ 5) [(18, .tuple #[.int .u64 (V : Int), .int .i64 E])] rfl (fun _ h1 _ => ⟨h1 3 18 (by kernel_rfl), trivial⟩) (by kernel_rfl) (fun _ _ _ _ _ => by kernel_rfl)
  case o6r5n1 => exact ValOp.pure (grown_steady _ 6) [(22, .int .u64 (V : Int))] rfl (fun _ h1 _ => ⟨h1 4 22 (by kernel_rfl), trivial⟩) (by kernel_rfl) (fun _ _ _ _ _ => by kernel_rfl)
  case o7r5n1 => exact ValOp.pure (grown_steady _ 7) [(23, .int .i64 E)] rfl (fun _ h1 _ => ⟨h1 5 23 (by kernel_rfl), trivial⟩) (by kernel_rfl) (fun _ _ _ _ _ => by kernel_rfl)
  intro w4 s4 _ bb
  have B4 : Hid (Below w.heap.size w w4) := B3.out.trans ((show Below _ _ w4 from bb).mono B3.out.size)
  clear bb
  go_wp2
  go_ret
  exact ⟨rfl, B4.out⟩
set_option maxRecDepth 100000 in
set_option maxHeartbeats 2000000 in
theorem from_num (b V : Nat) (p q bi kd X : Int) (ng qu : Bool) (M LD : Nat) (_E : Int) (w : World) (h3 : (kd == 3) = false) (h4 : (kd == 4) = false)
    (k11 : ∀ w, Calls Try.prog 11 #[.int .u64 (b : Int), .agg #[.int .i64 p, .int .i64 q, .int .i64 bi]] w fun e w' => e = .returned (.agg #[.int .i64 kd, .bool ng, .int .u64 (M : Int), .int .i64 X, .bool qu, .int .u64 (LD : Int)]) ∧ Below w.heap.size w w') (k15 : ∀ w, Calls Try.prog 15 #[.bool ng, .int .u64 (M : Int), .int .i64 X, .bool false, .agg #[.int .i64 52, .int .i64 2047, .int .i64 1023]] w fun e w' => e = .returned (.int .u64 (V : Int)) ∧ Below w.heap.size w w') :
    Calls Try.prog 42 #[.int .u64 (b : Int), .agg #[.int .i64 p, .int .i64 q, .int .i64 bi]] w fun e w' => e = .returned (.int .u64 (V : Int)) ∧ Below w.heap.size w w' := by
  have k12 := k16l
  unfold k16L at k12
  go_enter Try.func42, Try.ntmps42
  go_wp2_with (go_at_call 11; refine (k11 _).mono ?_)
  intro e2 w2 hq
  first | (obtain ⟨rfl, b2⟩ : _ ∧ _ := hq) | (subst hq; intro b2)
  have z2 := b2.size
  simp only [World.heap_alloc_size] at z2
  have B2 : Hid (Below w.heap.size w w2) := ((Below.refl _ _).alloc (Nat.le_refl _) _).trans (b2.mono (by simp))
  have rg : (w2.alloc (.cells #[.int .i64 kd, .bool ng, .int .u64 (M : Int), .int .i64 X, .bool qu, .int .u64 (LD : Int)] 27)).heap[w2.heap.size]? = some (.cells #[.int .i64 kd, .bool ng, .int .u64 (M : Int), .int .i64 X, .bool qu, .int .u64 (LD : Int)] 27 (0, 0)) := heap_alloc_last _ _
  have B3 : Hid (Below w.heap.size w (w2.alloc (.cells #[.int .i64 kd, .bool ng, .int .u64 (M : Int), .int .i64 X, .bool qu, .int .u64 (LD : Int)] 27))) := B2.out.alloc (by omega) _
  obtain ⟨m0, m1, m2, m3, m4, m5⟩ := cells6 rg
  clear b2 B2
  go_wp2
  clear m0 m1 m2 m3 m4 m5
  generalize hw3 : w2.alloc (.cells #[.int .i64 kd, .bool ng, .int .u64 (M : Int), .int .i64 X, .bool qu, .int .u64 (LD : Int)] 27) = w3 at *
  generalize hg9 : w2.heap.size = g at *
  refine wp_region_vals (a1 := ?a1r7n2) (grown _) [.pointer (some ⟨g, 1, none⟩), .bool ng, .pointer (some ⟨g, 2, none⟩), .int .u64 (M : Int), .pointer (some ⟨g, 3, none⟩), .int .i64 X, .agg #[.int .i64 52, .int .i64 2047, .int .i64 1023], .int .u64 (V : Int), .int .u64 (V : Int)] 33 rfl (by kernel_rfl) (by kernel_rfl) (grown_start _) ⟨?o0r7n2, ?o1r7n2, ?o2r7n2, ?o3r7n2, ?o4r7n2, ?o5r7n2, ?o6r7n2, ?o7r7n2, ?o8r7n2, trivial⟩ ?har7n2 ?hdoner7n2
  case har7n2 => simp [putAll, Act.put]; exact rfl
  case o0r7n2 => exact ValOp.pure (grown_steady _ 0) [(5, .pointer (some ⟨g, 0, none⟩))] rfl (fun _ _ h2 => ⟨(h2 5 (by kernel_rfl)).trans rfl, trivial⟩) (by kernel_rfl) (fun _ _ _ _ _ => by kernel_rfl)
  case o1r7n2 => exact ValOp.pure (grown_steady _ 1) [(25, .pointer (some ⟨g, 1, none⟩))] rfl (fun _ h1 _ => ⟨h1 0 25 (by kernel_rfl), trivial⟩) (by kernel_rfl) (fun _ _ _ hg _ => run_read rfl rfl (run_cell (below_at rg hg) rfl (Try.isAgg4 _)))
  case o2r7n2 => exact ValOp.pure (grown_steady _ 2) [(5, .pointer (some ⟨g, 0, none⟩))] rfl (fun _ _ h2 => ⟨(h2 5 (by kernel_rfl)).trans rfl, trivial⟩) (by kernel_rfl) (fun _ _ _ _ _ => by kernel_rfl)
  case o3r7n2 => exact ValOp.pure (grown_steady _ 3) [(27, .pointer (some ⟨g, 2, none⟩))] rfl (fun _ h1 _ => ⟨h1 2 27 (by kernel_rfl), trivial⟩) (by kernel_rfl) (fun _ _ _ hg _ => run_read rfl rfl (run_cell (below_at rg hg) rfl (Try.isAgg22 _)))
  case o4r7n2 => exact ValOp.pure (grown_steady _ 4) [(5, .pointer (some ⟨g, 0, none⟩))] rfl (fun _ _ h2 => ⟨(h2 5 (by kernel_rfl)).trans rfl, trivial⟩) (by kernel_rfl) (fun _ _ _ _ _ => by kernel_rfl)
  case o5r7n2 => exact ValOp.pure (grown_steady _ 5) [(29, .pointer (some ⟨g, 3, none⟩))] rfl (fun _ h1 _ => ⟨h1 4 29 (by kernel_rfl), trivial⟩) (by kernel_rfl) (fun _ _ _ hg _ => run_read rfl rfl (run_cell (below_at rg hg) rfl (Try.isAgg3 _)))
  case o6r7n2 => exact ValOp.call (grown_steady _ 6) [] rfl (fun _ _ _ => trivial) (by kernel_rfl) 12 #[] (fun _ => by kernel_rfl) (fun _ w _ => k12 w)
  case o7r7n2 => exact ValOp.call (grown_steady _ 7) [(26, .bool ng), (28, .int .u64 (M : Int)), (30, .int .i64 X), (31, .agg #[.int .i64 52, .int .i64 2047, .int .i64 1023])] rfl (fun _ h1 _ => ⟨h1 1 26 (by kernel_rfl), h1 3 28 (by kernel_rfl), h1 5 30 (by kernel_rfl), h1 6 31 (by kernel_rfl), trivial⟩) (by kernel_rfl) 15 #[.bool ng, .int .u64 (M : Int), .int .i64 X, .bool false, .agg #[.int .i64 52, .int .i64 2047, .int .i64 1023]] (fun _ => by kernel_rfl) (fun _ w _ => k15 w)
  case o8r7n2 => exact ValOp.pure (grown_steady _ 8) [(32, .int .u64 (V : Int))] rfl (fun _ h1 _ => ⟨h1 7 32 (by kernel_rfl), trivial⟩) (by kernel_rfl) (fun _ _ _ _ _ => by kernel_rfl)
  intro w4 s4 _ bb
  have B4 : Hid (Below w.heap.size w w4) := B3.out.trans ((show Below _ _ w4 from bb).mono B3.out.size)
  clear bb
  go_wp2
  go_ret
  exact ⟨rfl, B4.out⟩
set_option maxRecDepth 100000 in
set_option maxHeartbeats 2000000 in
theorem rbits_none (b : Nat) (n kd X : Int) (ng qu : Bool) (M LD : Nat) (w : World) (h4 : kd = 4) (k11 : ∀ w, Calls Try.prog 11 #[.int .u64 (b : Int), .agg #[.int .i64 52, .int .i64 2047, .int .i64 1023]] w fun e w' => e = .returned (.agg #[.int .i64 kd, .bool ng, .int .u64 (M : Int), .int .i64 X, .bool qu, .int .u64 (LD : Int)]) ∧ Below w.heap.size w w') :
    Calls Try.prog 45 #[.int .u64 (b : Int), .int .i64 n] w fun e w' => e = .returned (.int .u64 (b : Int)) ∧ Below w.heap.size w w' := by
  subst h4
  have k12 := k16l
  unfold k16L at k12
  have fl : ∀ w, (Instr.field 27 (.agg #[.int .i64 4, .bool ng, .int .u64 (M : Int), .int .i64 X, .bool qu, .int .u64 (LD : Int)]) 0).run Try.prog w = .ok (.int .i64 4) w := fun _ => by kernel_rfl
  go_enter Try.func45, Try.ntmps45
  go_wp2_with (go_at_call 12; refine (k12 _).mono ?_)
  intro e1 w1 hq
  first | (obtain ⟨rfl, b1⟩ : _ ∧ _ := hq) | (subst hq; intro b1)
  go_wp2_with (go_at_call 11; refine (k11 _).mono ?_)
  intro e2 w2 hq
  first | (obtain ⟨rfl, b2⟩ : _ ∧ _ := hq) | (subst hq; intro b2)
  have B2 : Hid (Below w.heap.size w w2) := b1.trans (b2.mono b1.size)
  clear b1 b2
  go_wp2
  go_ret
  exact ⟨rfl, B2.out⟩
set_option maxRecDepth 100000 in
set_option maxHeartbeats 2000000 in
theorem rbits_num (b V1 V : Nat) (n p kd X : Int) (ng qu : Bool) (M LD : Nat) (w : World) (hp : IntKind.i64.wrap (n - 1) = p) (h4 : (kd == 4) = false) (k11 : ∀ w, Calls Try.prog 11 #[.int .u64 (b : Int), .agg #[.int .i64 52, .int .i64 2047, .int .i64 1023]] w fun e w' => e = .returned (.agg #[.int .i64 kd, .bool ng, .int .u64 (M : Int), .int .i64 X, .bool qu, .int .u64 (LD : Int)]) ∧ Below w.heap.size w w')
    (k36 : ∀ w, Calls Try.prog 36 #[.int .u64 (b : Int), .agg #[.int .i64 p, .int .i64 2047, .int .i64 1023]] w fun e w' => e = .returned (.int .u64 (V1 : Int)) ∧ Below w.heap.size w w') (k42 : ∀ w, Calls Try.prog 42 #[.int .u64 (V1 : Int), .agg #[.int .i64 p, .int .i64 2047, .int .i64 1023]] w fun e w' => e = .returned (.int .u64 (V : Int)) ∧ Below w.heap.size w w') :
    Calls Try.prog 45 #[.int .u64 (b : Int), .int .i64 n] w fun e w' => e = .returned (.int .u64 (V : Int)) ∧ Below w.heap.size w w' := by
  have k12 := k16l
  unfold k16L at k12
  have fl : ∀ w, (Instr.field 27 (.agg #[.int .i64 kd, .bool ng, .int .u64 (M : Int), .int .i64 X, .bool qu, .int .u64 (LD : Int)]) 0).run Try.prog w = .ok (.int .i64 kd) w := fun _ => by kernel_rfl
  have bl : ∀ w, (Instr.build 30 #[(0, .int .i64 p), (1, .int .i64 2047), (2, .int .i64 1023)]).run Try.prog w = .ok (.agg #[.int .i64 p, .int .i64 2047, .int .i64 1023]) w := fun _ => by kernel_rfl
  go_enter Try.func45, Try.ntmps45
  go_wp2_with (go_at_call 12; refine (k12 _).mono ?_)
  intro e1 w1 hq
  first | (obtain ⟨rfl, b1⟩ : _ ∧ _ := hq) | (subst hq; intro b1)
  go_wp2_with (go_at_call 11; refine (k11 _).mono ?_)
  intro e2 w2 hq
  first | (obtain ⟨rfl, b2⟩ : _ ∧ _ := hq) | (subst hq; intro b2)
  have B2 : Hid (Below w.heap.size w w2) := b1.trans (b2.mono b1.size)
  have rg : (w2.alloc (.cells #[.int .i64 p, .int .i64 2047, .int .i64 1023] 30)).heap[w2.heap.size]? = some (.cells #[.int .i64 p, .int .i64 2047, .int .i64 1023] 30 (0, 0)) := heap_alloc_last _ _
  have B3 : Hid (Below w.heap.size w (w2.alloc (.cells #[.int .i64 p, .int .i64 2047, .int .i64 1023] 30))) := B2.out.alloc B2.out.size _
  clear b1 b2
  go_wp2
  generalize hw3 : w2.alloc (.cells #[.int .i64 p, .int .i64 2047, .int .i64 1023] 30) = w3 at *
  generalize hg9 : w2.heap.size = g at *
  refine wp_region_vals (a1 := ?a1r4n3) (grown _) [.int .u64 (b : Int), .agg #[.int .i64 p, .int .i64 2047, .int .i64 1023], .int .u64 (V1 : Int), .agg #[.int .i64 p, .int .i64 2047, .int .i64 1023], .int .u64 (V : Int), .int .u64 (V : Int)] 20 rfl (by kernel_rfl) (by kernel_rfl) (grown_start _) ⟨?o0r4n3, ?o1r4n3, ?o2r4n3, ?o3r4n3, ?o4r4n3, ?o5r4n3, trivial⟩ ?har4n3 ?hdoner4n3
  case har4n3 => simp [putAll, Act.put]; exact rfl
  case o0r4n3 => exact ValOp.pure (grown_steady _ 0) [(0, .int .u64 (b : Int))] rfl (fun _ _ h2 => ⟨(h2 0 (by kernel_rfl)).trans rfl, trivial⟩) (by kernel_rfl) (fun _ _ _ _ _ => by kernel_rfl)
  case o1r4n3 => exact ValOp.pure (grown_steady _ 1) [(5, .pointer (some ⟨g, 0, none⟩))] rfl (fun _ _ h2 => ⟨(h2 5 (by kernel_rfl)).trans rfl, trivial⟩) (by kernel_rfl) (fun _ _ _ hg _ => run_read rfl rfl (run_loadVar_row _ _ _ _ _ _ _ (below_at rg hg) Try.underlying30 rfl (by kernel_rfl)))
  case o2r4n3 => exact ValOp.call (grown_steady _ 2) [(15, .int .u64 (b : Int)), (16, .agg #[.int .i64 p, .int .i64 2047, .int .i64 1023])] rfl (fun _ h1 _ => ⟨h1 0 15 (by kernel_rfl), h1 1 16 (by kernel_rfl), trivial⟩) (by kernel_rfl) 36 #[.int .u64 (b : Int), .agg #[.int .i64 p, .int .i64 2047, .int .i64 1023]] (fun _ => by kernel_rfl) (fun _ w _ => k36 w)
  case o3r4n3 => exact ValOp.pure (grown_steady _ 3) [(5, .pointer (some ⟨g, 0, none⟩))] rfl (fun _ _ h2 => ⟨(h2 5 (by kernel_rfl)).trans rfl, trivial⟩) (by kernel_rfl) (fun _ _ _ hg _ => run_read rfl rfl (run_loadVar_row _ _ _ _ _ _ _ (below_at rg hg) Try.underlying30 rfl (by kernel_rfl)))
  case o4r4n3 => exact ValOp.call (grown_steady _ 4) [(17, .int .u64 (V1 : Int)), (18, .agg #[.int .i64 p, .int .i64 2047, .int .i64 1023])] rfl (fun _ h1 _ => ⟨h1 2 17 (by kernel_rfl), h1 3 18 (by kernel_rfl), trivial⟩) (by kernel_rfl) 42 #[.int .u64 (V1 : Int), .agg #[.int .i64 p, .int .i64 2047, .int .i64 1023]] (fun _ => by kernel_rfl) (fun _ w _ => k42 w)
  case o5r4n3 => exact ValOp.pure (grown_steady _ 5) [(19, .int .u64 (V : Int))] rfl (fun _ h1 _ => ⟨h1 4 19 (by kernel_rfl), trivial⟩) (by kernel_rfl) (fun _ _ _ _ _ => by kernel_rfl)
  intro w4 s4 _ bb
  have B4 : Hid (Below w.heap.size w w4) := B3.out.trans ((show Below _ _ w4 from bb).mono B3.out.size)
  clear bb
  go_wp2
  go_ret
  exact ⟨rfl, B4.out⟩
noncomputable def body70 : Code := Try.f70.body.getD .skip
theorem short_end (p : Int) (g gr : Nat) (a : Act) (w0 w : World) (B : Below w0.heap.size w0 w) (hgr0 : w0.heap.size ≤ gr) (r1 : w.heap[g]? = some (.cells #[.int .i64 p, .int .u64 2047, .int .i64 1023] 76 (0, 0))) (r2 : w.heap[gr]? = some (.cells #[.int .i64 0, .int .u64 0, .int .i64 0] 76 (0, 0))) (ha : At 8 [(2, .pointer (some ⟨gr, 0, none⟩)), (3, .pointer (some ⟨g, 0, none⟩))] a) :
    Code.wp Try.prog (sq 3 body70) (bodyPost Try.prog Try.f70 fun e w' => e = .returned (.agg #[.int .i64 p, .int .u64 2047, .int .i64 1023]) ∧ Below w0.heap.size w0 w') a w := by
  obtain ⟨hz, hd, h2, h3, -⟩ := ha
  conv => arg 2; whnf
  exact ret_row 76 3 7 2 rfl rfl rfl rfl ⟨rfl, rfl⟩ ⟨by rw [hz]; decide, by decide⟩ h3 h2 r1 r2 rfl Try.underlying76 rfl (by kernel_rfl) (by simp [Value.oneCell']) rfl hd ⟨rfl, below_set B hgr0⟩
set_option maxRecDepth 100000 in
set_option maxHeartbeats 2000000 in
theorem short_a {Q : Ending → World → Prop} (p : Int) (w : World)
    (hK : Hid (∀ a w' g gr, Below w.heap.size w w' → w.heap.size ≤ gr → w'.heap[g]? = some (.cells #[.int .i64 p, .int .u64 2047, .int .i64 1023] 76 (0, 0)) → w'.heap[gr]? = some (.cells #[.int .i64 0, .int .u64 0, .int .i64 0] 76 (0, 0)) → At 8 [(2, .pointer (some ⟨gr, 0, none⟩)), (3, .pointer (some ⟨g, 0, none⟩))] a → Code.wp Try.prog (sq 3 body70) (bodyPost Try.prog Try.f70 Q) a w')) :
    Calls Try.prog 70 #[.int .i64 p] w Q := by
  have k64 := k41l
  unfold k41L at k64
  go_enter Try.func70, Try.ntmps70
  change Code.wp _ (Code.seq (hd (sq 0 body70)) (Code.seq (hd (sq 1 body70)) (Code.seq (hd (sq 2 body70)) (sq 3 body70)))) _ _ _
  generalize sq 3 body70 = REST at hK ⊢
  conv => arg 2; arg 1; whnf
  conv => arg 2; arg 2; arg 1; whnf
  conv => arg 2; arg 2; arg 2; arg 1; whnf
  go_wp2_with (go_at_call 64; refine (k64 _).mono ?_)
  intro e1 w1 hq
  first | (obtain ⟨rfl, b1⟩ : _ ∧ _ := hq) | (subst hq; intro b1)
  have z1 := b1.size
  simp only [World.heap_alloc_size] at z1
  have q1 : w1.heap[w.heap.size]? = some (.cells #[.int .i64 0, .int .u64 0, .int .i64 0] 76 (0, 0)) := (b1.block _ (by simp)).trans (heap_alloc_last _ _)
  have B1 : Hid (Below w.heap.size w w1) := ((Below.refl _ _).alloc (Nat.le_refl _) _).trans (b1.mono (by simp))
  clear b1
  go_wp2
  refine hK.out _ _ w1.heap.size w.heap.size ?_ (Nat.le_refl _) ?_ ?_ ⟨rfl, rfl, rfl, rfl, trivial⟩
  · exact B1.out.alloc B1.out.size _
  · exact heap_alloc_last _ _
  · exact (Below.heap_alloc _ _ _ (by omega)).trans q1
theorem short_any (p : Int) (w : World) : Calls Try.prog 70 #[.int .i64 p] w fun e w' => e = .returned (.agg #[.int .i64 p, .int .u64 2047, .int .i64 1023]) ∧ Below w.heap.size w w' :=
  short_a p w fun a w' g gr B hg r1 r2 ha => short_end p g gr a w w' B hg r1 r2 ha
set_option maxRecDepth 100000 in
set_option maxHeartbeats 2000000 in
theorem bits_wrong (b : Nat) (n : Int) (w : World) (h : n < 2 ∨ 53 < n) : Calls Try.prog 44 #[.float .f64 b, .int .i64 n] w fun e w' => e = .returned (.tuple #[.float .f64 0, .int .i64 1]) ∧ Below w.heap.size w w' := by
  rcases h with h | h
  · go_enter Try.func44, Try.ntmps44
    go_wp2
    go_ret2
    exact ⟨rfl, Below.refl _ _⟩
  · have h' : ¬ n < 2 := by omega
    go_enter Try.func44, Try.ntmps44
    go_wp2
    go_ret2
    exact ⟨rfl, Below.refl _ _⟩
theorem bits_by (b V1 V : Nat) (n p s kd X : Int) (ng qu : Bool) (M LD : Nat) (w : World) (h1 : ¬ n < 2) (h2 : ¬ 53 < n) (hp : IntKind.i64.wrap (n - 1) = p) (hs : IntKind.i64.wrap (53 - n) = s) (hs0 : 0 ≤ s) (hsh : IntKind.u64.wrap ((V1 : Int) * 2 ^ min s.toNat 64) = (V : Int))
    (k46 : ∀ w, Calls Try.prog 46 #[.float .f64 b] w fun e w' => e = .returned (.agg #[.int .i64 kd, .bool ng, .int .u64 (M : Int), .int .i64 X, .bool qu, .int .u64 (LD : Int)]) ∧ Below w.heap.size w w') (k70 : ∀ w, Calls Try.prog 70 #[.int .i64 p] w fun e w' => e = .returned (.agg #[.int .i64 p, .int .u64 2047, .int .i64 1023]) ∧ Below w.heap.size w w') (k56 : ∀ w, Calls Try.prog 56 #[.agg #[.int .i64 p, .int .u64 2047, .int .i64 1023], .agg #[.int .i64 kd, .bool ng, .int .u64 (M : Int), .int .i64 X, .bool qu, .int .u64 (LD : Int)]] w fun e w' => e = .returned (.int .u64 (V1 : Int)) ∧ Below w.heap.size w w') :
    Calls Try.prog 44 #[.float .f64 b, .int .i64 n] w fun e w' => e = .returned (.tuple #[.float .f64 V, .int .i64 0]) ∧ Below w.heap.size w w' := by
  have x10 := ext10
  go_enter Try.func44, Try.ntmps44
  go_wp2_with (go_at_call 70; refine (k70 _).mono ?_)
  intro e1 w1 hq
  first | (obtain ⟨rfl, b1⟩ : _ ∧ _ := hq) | (subst hq; intro b1)
  go_wp2_with (go_at_call 46; refine (k46 _).mono ?_)
  intro e2 w2 hq
  first | (obtain ⟨rfl, b2⟩ : _ ∧ _ := hq) | (subst hq; intro b2)
  go_wp2_with (go_at_call 56; refine (k56 _).mono ?_)
  intro e3 w3 hq
  first | (obtain ⟨rfl, b3⟩ : _ ∧ _ := hq) | (subst hq; intro b3)
  have B3 : Hid (Below w.heap.size w w3) := (b1.trans (b2.mono b1.size)).trans (b3.mono (Nat.le_trans b1.size b2.size))
  clear b1 b2 b3
  go_wp2
  go_ret2
  exact ⟨by simp, B3.out⟩
end Go.Proofs.Ytjcjecbffnadaab
