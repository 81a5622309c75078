/-
  The contracts of the code's Remainder and Sign. Condition: the floats' bits fit.
-/
import Derived.Test.YtjcjecbffnadaabRa1
namespace Go.Proofs.Ytjcjecbffnadaab
open Go.RowKit
theorem World.heap_alloc_size2 (w : World) (o : Obj) : (w.alloc o).heap.size = w.heap.size + 1 := by simp
noncomputable def body63 : Code := Try.f63.body.getD .skip
set_option maxRecDepth 100000 in
set_option maxHeartbeats 2000000 in
theorem nr_a {Q : Ending → World → Prop} (kx Xx : Int) (nx qx : Bool) (Mx Lx : Nat) (ky Xy : Int) (ny qy : Bool) (My Ly : Nat) (dd d2 ee s : Int) (D r : Nat) (o : Bool) (w : World) (hdd : IntKind.i64.wrap (Xy - Xx) = dd) (hd2 : min (max dd 0) 2 = d2) (hd0 : 0 ≤ d2) (hsh : IntKind.u64.wrap ((My : Int) * 2 ^ d2.toNat) = (D : Int)) (hee : IntKind.i64.wrap (Xx - Xy) = ee) (hs : max ee 0 = s)
    (k76 : ∀ w, Calls Try.prog 76 #[.int .u64 (Mx : Int), .int .i64 s, .int .u64 (D : Int)] w fun e w' => e = .returned (.tuple #[.int .u64 (r : Int), .bool o]) ∧ Below w.heap.size w w')
    (hK : Hid (∀ a w' gx gy gr, Below w.heap.size w w' → w.heap.size ≤ gx → w'.heap[gx]? = some (.cells #[.int .i64 kx, .bool nx, .int .u64 (Mx : Int), .int .i64 Xx, .bool qx, .int .u64 (Lx : Int)] 66 (0, 0)) ∧ w'.heap[gy]? = some (.cells #[.int .i64 ky, .bool ny, .int .u64 (My : Int), .int .i64 Xy, .bool qy, .int .u64 (Ly : Int)] 66 (0, 0)) ∧ w'.heap[gr]? = some (.cells #[.int .i64 0, .bool false, .int .u64 0, .int .i64 0, .bool false, .int .u64 0] 66 (0, 0)) ∧ gx < gy ∧ gy < gr → At 60 [(2, .pointer (some ⟨gx, 0, none⟩)), (3, .pointer (some ⟨gy, 0, none⟩)), (4, .pointer (some ⟨gr, 0, none⟩)), (5, .int .u64 (D : Int)), (6, .int .u64 (r : Int)), (7, .bool o)] a → Code.wp Try.prog (sq 3 body63) (bodyPost Try.prog Try.f63 Q) a w')) :
    Calls Try.prog 63 #[.agg #[.int .i64 kx, .bool nx, .int .u64 (Mx : Int), .int .i64 Xx, .bool qx, .int .u64 (Lx : Int)], .agg #[.int .i64 ky, .bool ny, .int .u64 (My : Int), .int .i64 Xy, .bool qy, .int .u64 (Ly : Int)]] w Q := by
  go_enter Try.func63, Try.ntmps63
  change Code.wp _ (Code.seq (hd (sq 0 body63)) (Code.seq (hd (sq 1 body63)) (Code.seq (hd (sq 2 body63)) (sq 3 body63)))) _ _ _
  generalize sq 3 body63 = REST at hK ⊢
  conv => arg 2; arg 1; whnf
  conv => arg 2; arg 2; arg 1; whnf
  conv => arg 2; arg 2; arg 2; arg 1; whnf
  go_wp2_with (go_at_call 76; refine (k76 _).mono ?_)
  intro e1 w1 hq
  first | (obtain ⟨rfl, b1⟩ : _ ∧ _ := hq) | (subst hq; intro b1)
  have z1 := b1.size
  simp only [World.heap_alloc_size2] at z1
  have B1 : Hid (Below w.heap.size w w1) := ((((Below.refl _ _).alloc (Nat.le_refl _) _).alloc (by simp) _).alloc (by simp; omega) _).trans (b1.mono (by simp; omega))
  have q1 : Hid (w1.heap[w.heap.size]? = some (.cells #[.int .i64 kx, .bool nx, .int .u64 (Mx : Int), .int .i64 Xx, .bool qx, .int .u64 (Lx : Int)] 66 (0, 0)) ∧ w1.heap[(w.heap.size + 1)]? = some (.cells #[.int .i64 ky, .bool ny, .int .u64 (My : Int), .int .i64 Xy, .bool qy, .int .u64 (Ly : Int)] 66 (0, 0)) ∧ w1.heap[(w.heap.size + 1 + 1)]? = some (.cells #[.int .i64 0, .bool false, .int .u64 0, .int .i64 0, .bool false, .int .u64 0] 66 (0, 0)) ∧ w.heap.size < (w.heap.size + 1) ∧ (w.heap.size + 1) < (w.heap.size + 1 + 1)) := by
    refine ⟨?_, ?_, ?_, by omega, by omega⟩
    · refine (b1.block _ (by simp; omega)).trans ?_
      refine (Below.heap_alloc _ _ _ (by simp; omega)).trans ?_
      exact (Below.heap_alloc _ _ _ (by simp)).trans (heap_alloc_last _ _)
    · refine (b1.block _ (by simp)).trans ?_
      exact (Below.heap_alloc _ _ _ (by simp)).trans (last_at _ _ (by simp))
    · exact (b1.block _ (by simp)).trans (last_at _ _ (by simp))
  clear b1
  go_wp2
  exact hK.out _ _ _ _ _ B1.out (Nat.le_refl _) q1.out ⟨rfl, rfl, rfl, rfl, rfl, rfl, rfl, rfl, trivial⟩
set_option maxRecDepth 100000 in
set_option maxHeartbeats 2000000 in
theorem nr_n1 {Q : Exit → Act → World → Prop} (_kx _Xx : Int) (_nx _qx : Bool) (_Mx _Lx : Nat) (_ky _Xy : Int) (_ny _qy : Bool) (_My _Ly : Nat) (D r gx gy gr : Nat) (o : Bool) (a : Act) (w : World) (r2 : Nat) (hm : IntKind.u64.wrap (2 * (r : Int)) = (r2 : Int)) (h1 : ¬ (D : Int) < (r2 : Int)) (h2 : ((r2 : Int) == (D : Int)) = false) (hK : Hid (∀ a, At 60 [(2, .pointer (some ⟨gx, 0, none⟩)), (3, .pointer (some ⟨gy, 0, none⟩)), (4, .pointer (some ⟨gr, 0, none⟩)), (6, .int .u64 (r : Int))] a → Code.wp Try.prog (sq 4 body63) Q a w)) (ha : At 60 [(2, .pointer (some ⟨gx, 0, none⟩)), (3, .pointer (some ⟨gy, 0, none⟩)), (4, .pointer (some ⟨gr, 0, none⟩)), (5, .int .u64 (D : Int)), (6, .int .u64 (r : Int)), (7, .bool o)] a) : Code.wp Try.prog (sq 3 body63) Q a w := by
  obtain ⟨f, rfl, h2, h3, h4, h5, h6, h7, -⟩ := ha.lit
  change Code.wp _ _ _ ⟨#[f 0, f 1, f 2, f 3, f 4, f 5, f 6, f 7, f 8, f 9, f 10, f 11, f 12, f 13, f 14, f 15, f 16, f 17, f 18, f 19, f 20, f 21, f 22, f 23, f 24, f 25, f 26, f 27, f 28, f 29, f 30, f 31, f 32, f 33, f 34, f 35, f 36, f 37, f 38, f 39, f 40, f 41, f 42, f 43, f 44, f 45, f 46, f 47, f 48, f 49, f 50, f 51, f 52, f 53, f 54, f 55, f 56, f 57, f 58, f 59], []⟩ _
  simp only at h2 h3 h4 h5 h6 h7
  simp only [h2, h3, h4, h5, h6, h7]
  clear h2 h3 h4 h5 h6 h7
  change Code.wp _ (Code.seq (hd (sq 3 body63)) (sq 4 body63)) _ _ _
  generalize sq 4 body63 = REST at hK ⊢
  conv => arg 2; arg 1; whnf
  go_wp2
  exact hK.out _ ⟨rfl, rfl, rfl, rfl, rfl, rfl, trivial⟩
set_option maxRecDepth 100000 in
set_option maxHeartbeats 2000000 in
theorem nr_n2 {Q : Exit → Act → World → Prop} (_kx _Xx : Int) (_nx _qx : Bool) (_Mx _Lx : Nat) (_ky _Xy : Int) (_ny _qy : Bool) (_My _Ly : Nat) (D r gx gy gr : Nat) (o : Bool) (a : Act) (w : World) (r2 : Nat) (hm : IntKind.u64.wrap (2 * (r : Int)) = (r2 : Int)) (h1 : (r2 : Int) = (D : Int)) (ho : o = false) (hK : Hid (∀ a, At 60 [(2, .pointer (some ⟨gx, 0, none⟩)), (3, .pointer (some ⟨gy, 0, none⟩)), (4, .pointer (some ⟨gr, 0, none⟩)), (6, .int .u64 (r : Int))] a → Code.wp Try.prog (sq 4 body63) Q a w)) (ha : At 60 [(2, .pointer (some ⟨gx, 0, none⟩)), (3, .pointer (some ⟨gy, 0, none⟩)), (4, .pointer (some ⟨gr, 0, none⟩)), (5, .int .u64 (D : Int)), (6, .int .u64 (r : Int)), (7, .bool o)] a) : Code.wp Try.prog (sq 3 body63) Q a w := by
  subst ho
  obtain ⟨f, rfl, h2, h3, h4, h5, h6, h7, -⟩ := ha.lit
  change Code.wp _ _ _ ⟨#[f 0, f 1, f 2, f 3, f 4, f 5, f 6, f 7, f 8, f 9, f 10, f 11, f 12, f 13, f 14, f 15, f 16, f 17, f 18, f 19, f 20, f 21, f 22, f 23, f 24, f 25, f 26, f 27, f 28, f 29, f 30, f 31, f 32, f 33, f 34, f 35, f 36, f 37, f 38, f 39, f 40, f 41, f 42, f 43, f 44, f 45, f 46, f 47, f 48, f 49, f 50, f 51, f 52, f 53, f 54, f 55, f 56, f 57, f 58, f 59], []⟩ _
  simp only at h2 h3 h4 h5 h6 h7
  simp only [h2, h3, h4, h5, h6, h7]
  clear h2 h3 h4 h5 h6 h7
  change Code.wp _ (Code.seq (hd (sq 3 body63)) (sq 4 body63)) _ _ _
  generalize sq 4 body63 = REST at hK ⊢
  conv => arg 2; arg 1; whnf
  go_wp2
  exact hK.out _ ⟨rfl, rfl, rfl, rfl, rfl, rfl, trivial⟩
set_option maxRecDepth 100000 in
set_option maxHeartbeats 2000000 in
theorem nr_y1 {Q : Exit → Act → World → Prop} (kx Xx : Int) (nx qx : Bool) (Mx Lx : Nat) (ky Xy : Int) (ny qy : Bool) (My Ly : Nat) (D r gx gy gr : Nat) (o : Bool) (a : Act) (w : World) (r2 r3 : Nat) (hw : Hid (w.heap[gx]? = some (.cells #[.int .i64 kx, .bool nx, .int .u64 (Mx : Int), .int .i64 Xx, .bool qx, .int .u64 (Lx : Int)] 66 (0, 0)) ∧ w.heap[gy]? = some (.cells #[.int .i64 ky, .bool ny, .int .u64 (My : Int), .int .i64 Xy, .bool qy, .int .u64 (Ly : Int)] 66 (0, 0)) ∧ w.heap[gr]? = some (.cells #[.int .i64 0, .bool false, .int .u64 0, .int .i64 0, .bool false, .int .u64 0] 66 (0, 0)) ∧ gx < gy ∧ gy < gr)) (hm : IntKind.u64.wrap (2 * (r : Int)) = (r2 : Int)) (h3 : IntKind.u64.wrap ((D : Int) - (r : Int)) = (r3 : Int)) (h1 : (D : Int) < (r2 : Int)) (hK : Hid (∀ a w', Below gx w w' → w'.heap[gx]? = some (.cells #[.int .i64 kx, .bool (!nx), .int .u64 (Mx : Int), .int .i64 Xx, .bool qx, .int .u64 (Lx : Int)] 66 (0, 0)) ∧ w'.heap[gy]? = some (.cells #[.int .i64 ky, .bool ny, .int .u64 (My : Int), .int .i64 Xy, .bool qy, .int .u64 (Ly : Int)] 66 (0, 0)) ∧ w'.heap[gr]? = some (.cells #[.int .i64 0, .bool false, .int .u64 0, .int .i64 0, .bool false, .int .u64 0] 66 (0, 0)) ∧ gx < gy ∧ gy < gr → At 60 [(2, .pointer (some ⟨gx, 0, none⟩)), (3, .pointer (some ⟨gy, 0, none⟩)), (4, .pointer (some ⟨gr, 0, none⟩)), (6, .int .u64 (r3 : Int))] a → Code.wp Try.prog (sq 4 body63) Q a w')) (ha : At 60 [(2, .pointer (some ⟨gx, 0, none⟩)), (3, .pointer (some ⟨gy, 0, none⟩)), (4, .pointer (some ⟨gr, 0, none⟩)), (5, .int .u64 (D : Int)), (6, .int .u64 (r : Int)), (7, .bool o)] a) : Code.wp Try.prog (sq 3 body63) Q a w := by
  obtain ⟨rx, ry, rr, o1, o2⟩ := hw.out
  have fz : ∀ i, w.frozen? ⟨gx, i, none⟩ = false := fun i => froz rx
  obtain ⟨m0, m1, m2, m3, m4, m5⟩ := cells6 rx
  have hrx := show Hid _ from rx
  have hry := show Hid _ from ry
  have hrr := show Hid _ from rr
  have ho1 := show Hid _ from o1
  have ho2 := show Hid _ from o2
  clear rx ry rr hw o1 o2
  obtain ⟨f, rfl, h2, h3, h4, h5, h6, h7, -⟩ := ha.lit
  change Code.wp _ _ _ ⟨#[f 0, f 1, f 2, f 3, f 4, f 5, f 6, f 7, f 8, f 9, f 10, f 11, f 12, f 13, f 14, f 15, f 16, f 17, f 18, f 19, f 20, f 21, f 22, f 23, f 24, f 25, f 26, f 27, f 28, f 29, f 30, f 31, f 32, f 33, f 34, f 35, f 36, f 37, f 38, f 39, f 40, f 41, f 42, f 43, f 44, f 45, f 46, f 47, f 48, f 49, f 50, f 51, f 52, f 53, f 54, f 55, f 56, f 57, f 58, f 59], []⟩ _
  simp only at h2 h3 h4 h5 h6 h7
  simp only [h2, h3, h4, h5, h6, h7]
  clear h2 h3 h4 h5 h6 h7
  change Code.wp _ (Code.seq (hd (sq 3 body63)) (sq 4 body63)) _ _ _
  generalize sq 4 body63 = REST at hK ⊢
  conv => arg 2; arg 1; whnf
  go_wp2
  refine hK.out _ _ ?_ ?_ ⟨rfl, rfl, rfl, rfl, rfl, rfl, trivial⟩
  · exact (Below.refl _ _).setCell (p := ⟨gx, 1, none⟩) (Nat.le_refl _) _
  · refine ⟨set_at _ hrx.out, set_other _ (by have := ho1.out; omega) hry.out, set_other _ (by have := ho1.out; have := ho2.out; omega) hrr.out, ho1.out, ho2.out⟩
set_option maxRecDepth 100000 in
set_option maxHeartbeats 2000000 in
theorem nr_y2 {Q : Exit → Act → World → Prop} (kx Xx : Int) (nx qx : Bool) (Mx Lx : Nat) (ky Xy : Int) (ny qy : Bool) (My Ly : Nat) (D r gx gy gr : Nat) (o : Bool) (a : Act) (w : World) (r2 r3 : Nat) (hw : Hid (w.heap[gx]? = some (.cells #[.int .i64 kx, .bool nx, .int .u64 (Mx : Int), .int .i64 Xx, .bool qx, .int .u64 (Lx : Int)] 66 (0, 0)) ∧ w.heap[gy]? = some (.cells #[.int .i64 ky, .bool ny, .int .u64 (My : Int), .int .i64 Xy, .bool qy, .int .u64 (Ly : Int)] 66 (0, 0)) ∧ w.heap[gr]? = some (.cells #[.int .i64 0, .bool false, .int .u64 0, .int .i64 0, .bool false, .int .u64 0] 66 (0, 0)) ∧ gx < gy ∧ gy < gr)) (hm : IntKind.u64.wrap (2 * (r : Int)) = (r2 : Int)) (h3 : IntKind.u64.wrap ((D : Int) - (r : Int)) = (r3 : Int)) (h1 : (r2 : Int) = (D : Int)) (ho : o = true) (hK : Hid (∀ a w', Below gx w w' → w'.heap[gx]? = some (.cells #[.int .i64 kx, .bool (!nx), .int .u64 (Mx : Int), .int .i64 Xx, .bool qx, .int .u64 (Lx : Int)] 66 (0, 0)) ∧ w'.heap[gy]? = some (.cells #[.int .i64 ky, .bool ny, .int .u64 (My : Int), .int .i64 Xy, .bool qy, .int .u64 (Ly : Int)] 66 (0, 0)) ∧ w'.heap[gr]? = some (.cells #[.int .i64 0, .bool false, .int .u64 0, .int .i64 0, .bool false, .int .u64 0] 66 (0, 0)) ∧ gx < gy ∧ gy < gr → At 60 [(2, .pointer (some ⟨gx, 0, none⟩)), (3, .pointer (some ⟨gy, 0, none⟩)), (4, .pointer (some ⟨gr, 0, none⟩)), (6, .int .u64 (r3 : Int))] a → Code.wp Try.prog (sq 4 body63) Q a w')) (ha : At 60 [(2, .pointer (some ⟨gx, 0, none⟩)), (3, .pointer (some ⟨gy, 0, none⟩)), (4, .pointer (some ⟨gr, 0, none⟩)), (5, .int .u64 (D : Int)), (6, .int .u64 (r : Int)), (7, .bool o)] a) : Code.wp Try.prog (sq 3 body63) Q a w := by
  subst ho
  obtain ⟨rx, ry, rr, o1, o2⟩ := hw.out
  have fz : ∀ i, w.frozen? ⟨gx, i, none⟩ = false := fun i => froz rx
  obtain ⟨m0, m1, m2, m3, m4, m5⟩ := cells6 rx
  have hrx := show Hid _ from rx
  have hry := show Hid _ from ry
  have hrr := show Hid _ from rr
  have ho1 := show Hid _ from o1
  have ho2 := show Hid _ from o2
  clear rx ry rr hw o1 o2
  obtain ⟨f, rfl, h2, h3, h4, h5, h6, h7, -⟩ := ha.lit
  change Code.wp _ _ _ ⟨#[f 0, f 1, f 2, f 3, f 4, f 5, f 6, f 7, f 8, f 9, f 10, f 11, f 12, f 13, f 14, f 15, f 16, f 17, f 18, f 19, f 20, f 21, f 22, f 23, f 24, f 25, f 26, f 27, f 28, f 29, f 30, f 31, f 32, f 33, f 34, f 35, f 36, f 37, f 38, f 39, f 40, f 41, f 42, f 43, f 44, f 45, f 46, f 47, f 48, f 49, f 50, f 51, f 52, f 53, f 54, f 55, f 56, f 57, f 58, f 59], []⟩ _
  simp only at h2 h3 h4 h5 h6 h7
  simp only [h2, h3, h4, h5, h6, h7]
  clear h2 h3 h4 h5 h6 h7
  change Code.wp _ (Code.seq (hd (sq 3 body63)) (sq 4 body63)) _ _ _
  generalize sq 4 body63 = REST at hK ⊢
  conv => arg 2; arg 1; whnf
  go_wp2
  refine hK.out _ _ ?_ ?_ ⟨rfl, rfl, rfl, rfl, rfl, rfl, trivial⟩
  · exact (Below.refl _ _).setCell (p := ⟨gx, 1, none⟩) (Nat.le_refl _) _
  · refine ⟨set_at _ hrx.out, set_other _ (by have := ho1.out; omega) hry.out, set_other _ (by have := ho1.out; have := ho2.out; omega) hrr.out, ho1.out, ho2.out⟩
set_option maxRecDepth 100000 in
set_option maxHeartbeats 2000000 in
theorem nr_c (kx Xx : Int) (nx qx : Bool) (Mx Lx : Nat) (ky Xy : Int) (ny qy : Bool) (My Ly : Nat) (r gx gy gr : Nat) (e0 : Int) (a : Act) (w0 w : World) (B : Hid (Below w0.heap.size w0 w)) (hg : Hid (w0.heap.size ≤ gx)) (hw : Hid (w.heap[gx]? = some (.cells #[.int .i64 kx, .bool nx, .int .u64 (Mx : Int), .int .i64 Xx, .bool qx, .int .u64 (Lx : Int)] 66 (0, 0)) ∧ w.heap[gy]? = some (.cells #[.int .i64 ky, .bool ny, .int .u64 (My : Int), .int .i64 Xy, .bool qy, .int .u64 (Ly : Int)] 66 (0, 0)) ∧ w.heap[gr]? = some (.cells #[.int .i64 0, .bool false, .int .u64 0, .int .i64 0, .bool false, .int .u64 0] 66 (0, 0)) ∧ gx < gy ∧ gy < gr)) (he : min Xx Xy = e0) (ha : At 60 [(2, .pointer (some ⟨gx, 0, none⟩)), (3, .pointer (some ⟨gy, 0, none⟩)), (4, .pointer (some ⟨gr, 0, none⟩)), (6, .int .u64 (r : Int))] a) :
    Code.wp Try.prog (sq 4 body63) (bodyPost Try.prog Try.f63 fun e w' => e = .returned (.agg #[.int .i64 0, .bool nx, .int .u64 (r : Int), .int .i64 e0, .bool false, .int .u64 0]) ∧ Below w0.heap.size w0 w') a w := by
  obtain ⟨rx, ry, rr, o1, o2⟩ := hw.out
  have bl : ∀ w, (Instr.build 66 #[(1, .bool nx), (2, .int .u64 (r : Int)), (3, .int .i64 e0)]).run Try.prog w = .ok (.agg #[.int .i64 0, .bool nx, .int .u64 (r : Int), .int .i64 e0, .bool false, .int .u64 0]) w := fun _ => by kernel_rfl
  have fz : ∀ i, w.frozen? ⟨gr, i, none⟩ = false := fun i => froz rr
  obtain ⟨m0, m1, m2, m3, m4, m5⟩ := cells6 rx
  obtain ⟨y0, y1, y2, y3, y4, y5⟩ := cells6 ry
  obtain ⟨t0, t1, t2, t3, t4, t5⟩ := cells6 rr
  have hrr := show Hid _ from rr
  have ho1 := show Hid _ from o1
  have ho2 := show Hid _ from o2
  clear rx ry rr hw o1 o2
  obtain ⟨f, rfl, h2, h3, h4, h6, -⟩ := ha.lit
  change Code.wp _ _ _ ⟨#[f 0, f 1, f 2, f 3, f 4, f 5, f 6, f 7, f 8, f 9, f 10, f 11, f 12, f 13, f 14, f 15, f 16, f 17, f 18, f 19, f 20, f 21, f 22, f 23, f 24, f 25, f 26, f 27, f 28, f 29, f 30, f 31, f 32, f 33, f 34, f 35, f 36, f 37, f 38, f 39, f 40, f 41, f 42, f 43, f 44, f 45, f 46, f 47, f 48, f 49, f 50, f 51, f 52, f 53, f 54, f 55, f 56, f 57, f 58, f 59], []⟩ _
  simp only at h2 h3 h4 h6
  simp only [h2, h3, h4, h6]
  clear h2 h3 h4 h6
  conv => arg 2; whnf
  go_wp2
  refine bodyPost_ret (v := .agg #[.int .i64 0, .bool nx, .int .u64 (r : Int), .int .i64 e0, .bool false, .int .u64 0]) (results_cell_row Try.results63 _ _ gr 66 #[.int .i64 0, .bool nx, .int .u64 (r : Int), .int .i64 e0, .bool false, .int .u64 0] (0, 0) _ rfl (six hrr.out) Try.underlying66 rfl (by kernel_rfl)) rfl ⟨rfl, below6 B.out (by have := hg.out; have := ho1.out; have := ho2.out; omega)⟩
noncomputable def body33 : Code := Try.f33.body.getD .skip
set_option maxRecDepth 100000 in
set_option maxHeartbeats 2000000 in
theorem rm_a {Q : Ending → World → Prop} (kx Xx : Int) (nx qx : Bool) (Mx Lx : Nat) (ky Xy : Int) (ny qy : Bool) (My Ly : Nat) (a0 b0 : Nat) (w : World) (k46 : ∀ w, Calls Try.prog 46 #[.float .f64 a0] w fun e w' => e = .returned (.agg #[.int .i64 kx, .bool nx, .int .u64 (Mx : Int), .int .i64 Xx, .bool qx, .int .u64 (Lx : Int)]) ∧ Below w.heap.size w w') (k46b : ∀ w, Calls Try.prog 46 #[.float .f64 b0] w fun e w' => e = .returned (.agg #[.int .i64 ky, .bool ny, .int .u64 (My : Int), .int .i64 Xy, .bool qy, .int .u64 (Ly : Int)]) ∧ Below w.heap.size w w')
    (hK : Hid (∀ a w' gx gy, Below w.heap.size w w' → w'.heap[gx]? = some (.cells #[.int .i64 kx, .bool nx, .int .u64 (Mx : Int), .int .i64 Xx, .bool qx, .int .u64 (Lx : Int)] 66 (0, 0)) ∧ w'.heap[gy]? = some (.cells #[.int .i64 ky, .bool ny, .int .u64 (My : Int), .int .i64 Xy, .bool qy, .int .u64 (Ly : Int)] 66 (0, 0)) → At 35 [(0, .float .f64 a0), (5, .pointer (some ⟨gx, 0, none⟩)), (6, .pointer (some ⟨gy, 0, none⟩))] a → Code.wp Try.prog (sq 2 body33) (bodyPost Try.prog Try.f33 Q) a w')) : Calls Try.prog 33 #[.float .f64 a0, .float .f64 b0] w Q := by
  go_enter Try.func33, Try.ntmps33
  change Code.wp _ (Code.seq (hd (sq 0 body33)) (Code.seq (hd (sq 1 body33)) (sq 2 body33))) _ _ _
  generalize sq 2 body33 = REST at hK ⊢
  conv => arg 2; arg 1; whnf
  conv => arg 2; arg 2; arg 1; whnf
  go_wp2_with (go_at_call 46; refine (k46 _).mono ?_)
  intro e1 w1 hq
  first | (obtain ⟨rfl, b1⟩ : _ ∧ _ := hq) | (subst hq; intro b1)
  go_wp2_with (go_at_call 46; refine (k46b _).mono ?_)
  intro e2 w2 hq
  first | (obtain ⟨rfl, b2⟩ : _ ∧ _ := hq) | (subst hq; intro b2)
  have B0 : Below w.heap.size w w2 := b1.trans (b2.mono b1.size)
  have z0 := B0.size
  clear b1 b2
  go_wp2
  refine hK.out _ _ w2.heap.size (w2.heap.size + 1) ((B0.alloc B0.size _).alloc (by simp; omega) _) ⟨(Below.heap_alloc _ _ _ (by simp)).trans (heap_alloc_last _ _), last_at _ _ (by simp)⟩ ⟨rfl, rfl, rfl, rfl, rfl, trivial⟩
set_option maxRecDepth 100000 in
set_option maxHeartbeats 2000000 in
theorem rm_x (kx Xx : Int) (nx qx : Bool) (Mx Lx : Nat) (ky Xy : Int) (ny qy : Bool) (My Ly : Nat) (a0 gx gy : Nat) (a : Act) (w0 w : World) (B : Hid (Below w0.heap.size w0 w)) (hw : Hid (w.heap[gx]? = some (.cells #[.int .i64 kx, .bool nx, .int .u64 (Mx : Int), .int .i64 Xx, .bool qx, .int .u64 (Lx : Int)] 66 (0, 0)) ∧ w.heap[gy]? = some (.cells #[.int .i64 ky, .bool ny, .int .u64 (My : Int), .int .i64 Xy, .bool qy, .int .u64 (Ly : Int)] 66 (0, 0))))  (k57 : ∀ w, Calls Try.prog 57 #[.agg #[.int .i64 kx, .bool nx, .int .u64 (Mx : Int), .int .i64 Xx, .bool qx, .int .u64 (Lx : Int)]] w fun e w' => e = .returned (.bool false) ∧ Below w.heap.size w w') (ha : At 35 [(0, .float .f64 a0), (5, .pointer (some ⟨gx, 0, none⟩)), (6, .pointer (some ⟨gy, 0, none⟩))] a) : Code.wp Try.prog (sq 2 body33) (bodyPost Try.prog Try.f33 fun e w' => e = .returned (.float .f64 9221120237041090560) ∧ Below w0.heap.size w0 w') a w := by
  have k59 := cnone_any
  obtain ⟨rx, ry⟩ := hw.out
  obtain ⟨m0, m1, m2, m3, m4, m5⟩ := cells6 rx
  have hry := show Hid _ from ry
  have hrx := show Hid _ from rx
  clear rx ry hw
  obtain ⟨f, rfl, h0, h5, h6, -⟩ := ha.lit
  change Code.wp _ _ _ ⟨#[f 0, f 1, f 2, f 3, f 4, f 5, f 6, f 7, f 8, f 9, f 10, f 11, f 12, f 13, f 14, f 15, f 16, f 17, f 18, f 19, f 20, f 21, f 22, f 23, f 24, f 25, f 26, f 27, f 28, f 29, f 30, f 31, f 32, f 33, f 34], []⟩ _
  simp only at h0 h5 h6
  simp only [h0, h5, h6]
  clear h0 h5 h6
  conv => arg 2; whnf
  go_wp2_with (go_at_call 57; refine (k57 _).mono ?_)
  intro e1 w1 hq
  first | (obtain ⟨rfl, b1⟩ : _ ∧ _ := hq) | (subst hq; intro b1)
  have ry1 := below_at hry.out b1
  have rx1 := below_at hrx.out b1
  obtain ⟨y0, y1, y2, y3, y4, y5⟩ := cells6 ry1
  obtain ⟨x0, x1, x2, x3, x4, x5⟩ := cells6 rx1
  have B1 : Hid (Below w0.heap.size w0 w1) := B.out.trans (b1.mono B.out.size)
  clear b1 m0 m1 m2 m3 m4 m5 rx1 ry1
  go_wp2_with (go_at_call 59; refine (k59 _).mono ?_)
  intro e2 w2 hq
  first | (obtain ⟨rfl, b2⟩ : _ ∧ _ := hq) | (subst hq; intro b2)
  have B2 : Hid (Below w0.heap.size w0 w2) := B1.out.trans (b2.mono B1.out.size)
  clear b2
  go_wp2
  go_ret
  exact ⟨rfl, B2.out⟩
set_option maxRecDepth 100000 in
set_option maxHeartbeats 2000000 in
theorem rm_y4 (kx Xx : Int) (nx qx : Bool) (Mx Lx : Nat) (ky Xy : Int) (ny qy : Bool) (My Ly : Nat) (a0 gx gy : Nat) (a : Act) (w0 w : World) (B : Hid (Below w0.heap.size w0 w)) (hw : Hid (w.heap[gx]? = some (.cells #[.int .i64 kx, .bool nx, .int .u64 (Mx : Int), .int .i64 Xx, .bool qx, .int .u64 (Lx : Int)] 66 (0, 0)) ∧ w.heap[gy]? = some (.cells #[.int .i64 ky, .bool ny, .int .u64 (My : Int), .int .i64 Xy, .bool qy, .int .u64 (Ly : Int)] 66 (0, 0)))) (h : ky = 4) (k57 : ∀ w, Calls Try.prog 57 #[.agg #[.int .i64 kx, .bool nx, .int .u64 (Mx : Int), .int .i64 Xx, .bool qx, .int .u64 (Lx : Int)]] w fun e w' => e = .returned (.bool true) ∧ Below w.heap.size w w') (ha : At 35 [(0, .float .f64 a0), (5, .pointer (some ⟨gx, 0, none⟩)), (6, .pointer (some ⟨gy, 0, none⟩))] a) : Code.wp Try.prog (sq 2 body33) (bodyPost Try.prog Try.f33 fun e w' => e = .returned (.float .f64 9221120237041090560) ∧ Below w0.heap.size w0 w') a w := by
  subst h
  have k59 := cnone_any
  obtain ⟨rx, ry⟩ := hw.out
  obtain ⟨m0, m1, m2, m3, m4, m5⟩ := cells6 rx
  have hry := show Hid _ from ry
  have hrx := show Hid _ from rx
  clear rx ry hw
  obtain ⟨f, rfl, h0, h5, h6, -⟩ := ha.lit
  change Code.wp _ _ _ ⟨#[f 0, f 1, f 2, f 3, f 4, f 5, f 6, f 7, f 8, f 9, f 10, f 11, f 12, f 13, f 14, f 15, f 16, f 17, f 18, f 19, f 20, f 21, f 22, f 23, f 24, f 25, f 26, f 27, f 28, f 29, f 30, f 31, f 32, f 33, f 34], []⟩ _
  simp only at h0 h5 h6
  simp only [h0, h5, h6]
  clear h0 h5 h6
  conv => arg 2; whnf
  go_wp2_with (go_at_call 57; refine (k57 _).mono ?_)
  intro e1 w1 hq
  first | (obtain ⟨rfl, b1⟩ : _ ∧ _ := hq) | (subst hq; intro b1)
  have ry1 := below_at hry.out b1
  have rx1 := below_at hrx.out b1
  obtain ⟨y0, y1, y2, y3, y4, y5⟩ := cells6 ry1
  obtain ⟨x0, x1, x2, x3, x4, x5⟩ := cells6 rx1
  have B1 : Hid (Below w0.heap.size w0 w1) := B.out.trans (b1.mono B.out.size)
  clear b1 m0 m1 m2 m3 m4 m5 rx1 ry1
  go_wp2_with (go_at_call 59; refine (k59 _).mono ?_)
  intro e2 w2 hq
  first | (obtain ⟨rfl, b2⟩ : _ ∧ _ := hq) | (subst hq; intro b2)
  have B2 : Hid (Below w0.heap.size w0 w2) := B1.out.trans (b2.mono B1.out.size)
  clear b2
  go_wp2
  go_ret
  exact ⟨rfl, B2.out⟩
set_option maxRecDepth 100000 in
set_option maxHeartbeats 2000000 in
theorem rm_y0 (kx Xx : Int) (nx qx : Bool) (Mx Lx : Nat) (ky Xy : Int) (ny qy : Bool) (My Ly : Nat) (a0 gx gy : Nat) (a : Act) (w0 w : World) (B : Hid (Below w0.heap.size w0 w)) (hw : Hid (w.heap[gx]? = some (.cells #[.int .i64 kx, .bool nx, .int .u64 (Mx : Int), .int .i64 Xx, .bool qx, .int .u64 (Lx : Int)] 66 (0, 0)) ∧ w.heap[gy]? = some (.cells #[.int .i64 ky, .bool ny, .int .u64 (My : Int), .int .i64 Xy, .bool qy, .int .u64 (Ly : Int)] 66 (0, 0)))) (h : ky = 0) (k57 : ∀ w, Calls Try.prog 57 #[.agg #[.int .i64 kx, .bool nx, .int .u64 (Mx : Int), .int .i64 Xx, .bool qx, .int .u64 (Lx : Int)]] w fun e w' => e = .returned (.bool true) ∧ Below w.heap.size w w') (ha : At 35 [(0, .float .f64 a0), (5, .pointer (some ⟨gx, 0, none⟩)), (6, .pointer (some ⟨gy, 0, none⟩))] a) : Code.wp Try.prog (sq 2 body33) (bodyPost Try.prog Try.f33 fun e w' => e = .returned (.float .f64 9221120237041090560) ∧ Below w0.heap.size w0 w') a w := by
  subst h
  have k59 := cnone_any
  obtain ⟨rx, ry⟩ := hw.out
  obtain ⟨m0, m1, m2, m3, m4, m5⟩ := cells6 rx
  have hry := show Hid _ from ry
  have hrx := show Hid _ from rx
  clear rx ry hw
  obtain ⟨f, rfl, h0, h5, h6, -⟩ := ha.lit
  change Code.wp _ _ _ ⟨#[f 0, f 1, f 2, f 3, f 4, f 5, f 6, f 7, f 8, f 9, f 10, f 11, f 12, f 13, f 14, f 15, f 16, f 17, f 18, f 19, f 20, f 21, f 22, f 23, f 24, f 25, f 26, f 27, f 28, f 29, f 30, f 31, f 32, f 33, f 34], []⟩ _
  simp only at h0 h5 h6
  simp only [h0, h5, h6]
  clear h0 h5 h6
  conv => arg 2; whnf
  go_wp2_with (go_at_call 57; refine (k57 _).mono ?_)
  intro e1 w1 hq
  first | (obtain ⟨rfl, b1⟩ : _ ∧ _ := hq) | (subst hq; intro b1)
  have ry1 := below_at hry.out b1
  have rx1 := below_at hrx.out b1
  obtain ⟨y0, y1, y2, y3, y4, y5⟩ := cells6 ry1
  obtain ⟨x0, x1, x2, x3, x4, x5⟩ := cells6 rx1
  have B1 : Hid (Below w0.heap.size w0 w1) := B.out.trans (b1.mono B.out.size)
  clear b1 m0 m1 m2 m3 m4 m5 rx1 ry1
  go_wp2_with (go_at_call 59; refine (k59 _).mono ?_)
  intro e2 w2 hq
  first | (obtain ⟨rfl, b2⟩ : _ ∧ _ := hq) | (subst hq; intro b2)
  have B2 : Hid (Below w0.heap.size w0 w2) := B1.out.trans (b2.mono B1.out.size)
  clear b2
  go_wp2
  go_ret
  exact ⟨rfl, B2.out⟩
set_option maxRecDepth 100000 in
set_option maxHeartbeats 2000000 in
theorem rm_y3 (kx Xx : Int) (nx qx : Bool) (Mx Lx : Nat) (ky Xy : Int) (ny qy : Bool) (My Ly : Nat) (a0 gx gy : Nat) (a : Act) (w0 w : World) (B : Hid (Below w0.heap.size w0 w)) (hw : Hid (w.heap[gx]? = some (.cells #[.int .i64 kx, .bool nx, .int .u64 (Mx : Int), .int .i64 Xx, .bool qx, .int .u64 (Lx : Int)] 66 (0, 0)) ∧ w.heap[gy]? = some (.cells #[.int .i64 ky, .bool ny, .int .u64 (My : Int), .int .i64 Xy, .bool qy, .int .u64 (Ly : Int)] 66 (0, 0)))) (h : ky = 3) (k57 : ∀ w, Calls Try.prog 57 #[.agg #[.int .i64 kx, .bool nx, .int .u64 (Mx : Int), .int .i64 Xx, .bool qx, .int .u64 (Lx : Int)]] w fun e w' => e = .returned (.bool true) ∧ Below w.heap.size w w') (ha : At 35 [(0, .float .f64 a0), (5, .pointer (some ⟨gx, 0, none⟩)), (6, .pointer (some ⟨gy, 0, none⟩))] a) : Code.wp Try.prog (sq 2 body33) (bodyPost Try.prog Try.f33 fun e w' => e = .returned (.float .f64 a0) ∧ Below w0.heap.size w0 w') a w := by
  subst h
  obtain ⟨rx, ry⟩ := hw.out
  obtain ⟨m0, m1, m2, m3, m4, m5⟩ := cells6 rx
  have hry := show Hid _ from ry
  have hrx := show Hid _ from rx
  clear rx ry hw
  obtain ⟨f, rfl, h0, h5, h6, -⟩ := ha.lit
  change Code.wp _ _ _ ⟨#[f 0, f 1, f 2, f 3, f 4, f 5, f 6, f 7, f 8, f 9, f 10, f 11, f 12, f 13, f 14, f 15, f 16, f 17, f 18, f 19, f 20, f 21, f 22, f 23, f 24, f 25, f 26, f 27, f 28, f 29, f 30, f 31, f 32, f 33, f 34], []⟩ _
  simp only at h0 h5 h6
  simp only [h0, h5, h6]
  clear h0 h5 h6
  conv => arg 2; whnf
  go_wp2_with (go_at_call 57; refine (k57 _).mono ?_)
  intro e1 w1 hq
  first | (obtain ⟨rfl, b1⟩ : _ ∧ _ := hq) | (subst hq; intro b1)
  have ry1 := below_at hry.out b1
  have rx1 := below_at hrx.out b1
  obtain ⟨y0, y1, y2, y3, y4, y5⟩ := cells6 ry1
  obtain ⟨x0, x1, x2, x3, x4, x5⟩ := cells6 rx1
  have B1 : Hid (Below w0.heap.size w0 w1) := B.out.trans (b1.mono B.out.size)
  clear b1 m0 m1 m2 m3 m4 m5 rx1 ry1
  go_wp2
  go_ret
  exact ⟨rfl, B1.out⟩
set_option maxRecDepth 100000 in
set_option maxHeartbeats 2000000 in
theorem rm_g1 (kx Xx : Int) (nx qx : Bool) (Mx Lx : Nat) (ky Xy : Int) (ny qy : Bool) (My Ly : Nat) (a0 gx gy : Nat) (a : Act) (w0 w : World) (B : Hid (Below w0.heap.size w0 w)) (hw : Hid (w.heap[gx]? = some (.cells #[.int .i64 kx, .bool nx, .int .u64 (Mx : Int), .int .i64 Xx, .bool qx, .int .u64 (Lx : Int)] 66 (0, 0)) ∧ w.heap[gy]? = some (.cells #[.int .i64 ky, .bool ny, .int .u64 (My : Int), .int .i64 Xy, .bool qy, .int .u64 (Ly : Int)] 66 (0, 0)))) (h : ky = 1) (ng : Bool) (r V : Nat) (e0 : Int) (k57 : ∀ w, Calls Try.prog 57 #[.agg #[.int .i64 kx, .bool nx, .int .u64 (Mx : Int), .int .i64 Xx, .bool qx, .int .u64 (Lx : Int)]] w fun e w' => e = .returned (.bool true) ∧ Below w.heap.size w w') (k63 : ∀ w, Calls Try.prog 63 #[.agg #[.int .i64 kx, .bool nx, .int .u64 (Mx : Int), .int .i64 Xx, .bool qx, .int .u64 (Lx : Int)], .agg #[.int .i64 ky, .bool ny, .int .u64 (My : Int), .int .i64 Xy, .bool qy, .int .u64 (Ly : Int)]] w fun e w' => e = .returned (.agg #[.int .i64 0, .bool ng, .int .u64 (r : Int), .int .i64 e0, .bool false, .int .u64 0]) ∧ Below w.heap.size w w') (k50 : ∀ w, Calls Try.prog 50 #[.agg #[.int .i64 0, .bool ng, .int .u64 (r : Int), .int .i64 e0, .bool false, .int .u64 0]] w fun e w' => e = .returned (.float .f64 V) ∧ Below w.heap.size w w') (ha : At 35 [(0, .float .f64 a0), (5, .pointer (some ⟨gx, 0, none⟩)), (6, .pointer (some ⟨gy, 0, none⟩))] a) : Code.wp Try.prog (sq 2 body33) (bodyPost Try.prog Try.f33 fun e w' => e = .returned (.float .f64 V) ∧ Below w0.heap.size w0 w') a w := by
  subst h
  obtain ⟨rx, ry⟩ := hw.out
  obtain ⟨m0, m1, m2, m3, m4, m5⟩ := cells6 rx
  have hry := show Hid _ from ry
  have hrx := show Hid _ from rx
  clear rx ry hw
  obtain ⟨f, rfl, h0, h5, h6, -⟩ := ha.lit
  change Code.wp _ _ _ ⟨#[f 0, f 1, f 2, f 3, f 4, f 5, f 6, f 7, f 8, f 9, f 10, f 11, f 12, f 13, f 14, f 15, f 16, f 17, f 18, f 19, f 20, f 21, f 22, f 23, f 24, f 25, f 26, f 27, f 28, f 29, f 30, f 31, f 32, f 33, f 34], []⟩ _
  simp only at h0 h5 h6
  simp only [h0, h5, h6]
  clear h0 h5 h6
  conv => arg 2; whnf
  go_wp2_with (go_at_call 57; refine (k57 _).mono ?_)
  intro e1 w1 hq
  first | (obtain ⟨rfl, b1⟩ : _ ∧ _ := hq) | (subst hq; intro b1)
  have ry1 := below_at hry.out b1
  have rx1 := below_at hrx.out b1
  obtain ⟨y0, y1, y2, y3, y4, y5⟩ := cells6 ry1
  obtain ⟨x0, x1, x2, x3, x4, x5⟩ := cells6 rx1
  have B1 : Hid (Below w0.heap.size w0 w1) := B.out.trans (b1.mono B.out.size)
  clear b1 m0 m1 m2 m3 m4 m5 rx1 ry1
  go_wp2_with (go_at_call 63; refine (k63 _).mono ?_)
  intro e2 w2 hq
  first | (obtain ⟨rfl, b2⟩ : _ ∧ _ := hq) | (subst hq; intro b2)
  have B2 : Hid (Below w0.heap.size w0 w2) := B1.out.trans (b2.mono B1.out.size)
  clear b2 x0 x1 x2 x3 x4 x5 y0 y1 y2 y3 y4 y5 hrx hry
  go_wp2_with (go_at_call 50; refine (k50 _).mono ?_)
  intro e3 w3 hq
  first | (obtain ⟨rfl, b3⟩ : _ ∧ _ := hq) | (subst hq; intro b3)
  have B3 : Hid (Below w0.heap.size w0 w3) := B2.out.trans (b3.mono B2.out.size)
  clear b3
  go_wp2
  go_ret
  exact ⟨rfl, B3.out⟩
set_option maxRecDepth 100000 in
set_option maxHeartbeats 2000000 in
theorem rm_g2 (kx Xx : Int) (nx qx : Bool) (Mx Lx : Nat) (ky Xy : Int) (ny qy : Bool) (My Ly : Nat) (a0 gx gy : Nat) (a : Act) (w0 w : World) (B : Hid (Below w0.heap.size w0 w)) (hw : Hid (w.heap[gx]? = some (.cells #[.int .i64 kx, .bool nx, .int .u64 (Mx : Int), .int .i64 Xx, .bool qx, .int .u64 (Lx : Int)] 66 (0, 0)) ∧ w.heap[gy]? = some (.cells #[.int .i64 ky, .bool ny, .int .u64 (My : Int), .int .i64 Xy, .bool qy, .int .u64 (Ly : Int)] 66 (0, 0)))) (h : ky = 2) (ng : Bool) (r V : Nat) (e0 : Int) (k57 : ∀ w, Calls Try.prog 57 #[.agg #[.int .i64 kx, .bool nx, .int .u64 (Mx : Int), .int .i64 Xx, .bool qx, .int .u64 (Lx : Int)]] w fun e w' => e = .returned (.bool true) ∧ Below w.heap.size w w') (k63 : ∀ w, Calls Try.prog 63 #[.agg #[.int .i64 kx, .bool nx, .int .u64 (Mx : Int), .int .i64 Xx, .bool qx, .int .u64 (Lx : Int)], .agg #[.int .i64 ky, .bool ny, .int .u64 (My : Int), .int .i64 Xy, .bool qy, .int .u64 (Ly : Int)]] w fun e w' => e = .returned (.agg #[.int .i64 0, .bool ng, .int .u64 (r : Int), .int .i64 e0, .bool false, .int .u64 0]) ∧ Below w.heap.size w w') (k50 : ∀ w, Calls Try.prog 50 #[.agg #[.int .i64 0, .bool ng, .int .u64 (r : Int), .int .i64 e0, .bool false, .int .u64 0]] w fun e w' => e = .returned (.float .f64 V) ∧ Below w.heap.size w w') (ha : At 35 [(0, .float .f64 a0), (5, .pointer (some ⟨gx, 0, none⟩)), (6, .pointer (some ⟨gy, 0, none⟩))] a) : Code.wp Try.prog (sq 2 body33) (bodyPost Try.prog Try.f33 fun e w' => e = .returned (.float .f64 V) ∧ Below w0.heap.size w0 w') a w := by
  subst h
  obtain ⟨rx, ry⟩ := hw.out
  obtain ⟨m0, m1, m2, m3, m4, m5⟩ := cells6 rx
  have hry := show Hid _ from ry
  have hrx := show Hid _ from rx
  clear rx ry hw
  obtain ⟨f, rfl, h0, h5, h6, -⟩ := ha.lit
  change Code.wp _ _ _ ⟨#[f 0, f 1, f 2, f 3, f 4, f 5, f 6, f 7, f 8, f 9, f 10, f 11, f 12, f 13, f 14, f 15, f 16, f 17, f 18, f 19, f 20, f 21, f 22, f 23, f 24, f 25, f 26, f 27, f 28, f 29, f 30, f 31, f 32, f 33, f 34], []⟩ _
  simp only at h0 h5 h6
  simp only [h0, h5, h6]
  clear h0 h5 h6
  conv => arg 2; whnf
  go_wp2_with (go_at_call 57; refine (k57 _).mono ?_)
  intro e1 w1 hq
  first | (obtain ⟨rfl, b1⟩ : _ ∧ _ := hq) | (subst hq; intro b1)
  have ry1 := below_at hry.out b1
  have rx1 := below_at hrx.out b1
  obtain ⟨y0, y1, y2, y3, y4, y5⟩ := cells6 ry1
  obtain ⟨x0, x1, x2, x3, x4, x5⟩ := cells6 rx1
  have B1 : Hid (Below w0.heap.size w0 w1) := B.out.trans (b1.mono B.out.size)
  clear b1 m0 m1 m2 m3 m4 m5 rx1 ry1
  go_wp2_with (go_at_call 63; refine (k63 _).mono ?_)
  intro e2 w2 hq
  first | (obtain ⟨rfl, b2⟩ : _ ∧ _ := hq) | (subst hq; intro b2)
  have B2 : Hid (Below w0.heap.size w0 w2) := B1.out.trans (b2.mono B1.out.size)
  clear b2 x0 x1 x2 x3 x4 x5 y0 y1 y2 y3 y4 y5 hrx hry
  go_wp2_with (go_at_call 50; refine (k50 _).mono ?_)
  intro e3 w3 hq
  first | (obtain ⟨rfl, b3⟩ : _ ∧ _ := hq) | (subst hq; intro b3)
  have B3 : Hid (Below w0.heap.size w0 w3) := B2.out.trans (b3.mono B2.out.size)
  clear b3
  go_wp2
  go_ret
  exact ⟨rfl, B3.out⟩
set_option maxRecDepth 100000 in
set_option maxHeartbeats 2000000 in
theorem sign_c (a b A B V : Nat) (w : World) (hA : bits .andNot .u64 (a : Int) 9223372036854775808 = (A : Int)) (hB : bits .and .u64 (b : Int) 9223372036854775808 = (B : Int)) (hV : bits .or .u64 (A : Int) (B : Int) = (V : Int)) : Calls Try.prog 35 #[.float .f64 a, .float .f64 b] w fun e w' => e = .returned (.float .f64 V) ∧ Below w.heap.size w w' := by
  have k64 := k41l
  unfold k41L at k64
  have k65 := k56l
  unfold k56L at k65
  have x10 := ext10
  have x20 := ext20
  go_enter Try.func35, Try.ntmps35
  go_wp2_with (go_at_call 64; refine (k64 _).mono ?_)
  intro e1 w1 hq
  first | (obtain ⟨rfl, b1⟩ : _ ∧ _ := hq) | (subst hq; intro b1)
  go_wp2_with (go_at_call 65; refine (k65 _).mono ?_)
  intro e2 w2 hq
  first | (obtain ⟨rfl, b2⟩ : _ ∧ _ := hq) | (subst hq; intro b2)
  have B2 : Hid (Below w.heap.size w w2) := b1.trans (b2.mono b1.size)
  clear b1 b2
  go_wp2
  go_ret
  exact ⟨by simp, B2.out⟩
end Go.Proofs.Ytjcjecbffnadaab
