/-
  The statement of memory, whole: for every two lists of spans its law returns true. Conditions: the numbers fit; the lists take no more bytes than there are.
-/
import Derived.Test.YtddoanmhikldiabMe2
namespace Go.Proofs.Ytddoanmhikldiab
open Go.RowKit
set_option maxRecDepth 100000 in
set_option maxHeartbeats 2000000 in
theorem law_memory (A B : List Sn) (va vb : Value) (w : World) (ra : RdS w va A) (rb : RdS w vb B) (fa : fitS A) (fb : fitS B) (la : A.length ≤ 17592186044416) (lb : B.length ≤ 17592186044416) : Calls Try.prog 4 #[va, vb] w fun e w' => e = .returned (.bool true) ∧ Below w.heap.size w w' := by
  have RA : Hid (RdS w va A) := ra
  have RB : Hid (RdS w vb B) := rb
  have FA : Hid (fitS A) := fa
  have FB : Hid (fitS B) := fb
  obtain ⟨pa, ca, rfl, _, _⟩ := ra
  obtain ⟨pb, cb, rfl, _, _⟩ := rb
  clear fa fb
  have HZ : Hid (∀ (Y Z X R V : List Sn) (v5 v6 vx vy vz vr vv vm vn : Value) (gm : Nat) (a : Act) (w0 : World), Below w.heap.size w w0 → A.length ≤ 1000000 → B.length ≤ 1000000 → Y.length ≤ 1000000 → Z.length ≤ 1000000 → X.length ≤ 1000000 → R.length ≤ 1000000 → V.length ≤ 1000000 → w0.ownsRow w.heap.size 41 2 vx X.length (celS X) → w0.ownsRow w.heap.size 41 2 vr R.length (celS R) → w0.ownsRow w.heap.size 41 2 vv V.length (celS V) → (∀ k, vx.ownBlock = some k → vr.ownBlock = some k → False) → (∀ k, vx.ownBlock = some k → vv.ownBlock = some k → False) → (∀ k, vr.ownBlock = some k → vv.ownBlock = some k → False) → w0.heap[gm]? = some (.cells #[.int .i32 (-9), .int .i32 (-9)] 41 (0, 0)) → ¬ three vx vr vv gm → (∀ w', Far (three vx vr vv) w0 w' → RdS w' (.slice pa A.length ca) A ∧ RdS w' (.slice pb B.length cb) B ∧ RdS w' v5 A ∧ RdS w' v6 B ∧ RdS w' vy Y ∧ RdS w' vz Z ∧ RdS w' vm Y ∧ RdS w' vn Z) → At 139 [(0, (.slice pa A.length ca)), (1, (.slice pb B.length cb)), (5, v5), (6, v6), (7, vx), (10, vy), (12, vz), (14, vr), (17, vv), (19, vm), (20, vn), (21, .pointer (some ⟨gm, 0, none⟩))] a → Code.wp Try.prog (sq 10 body4) (bodyPost Try.prog Try.f4 fun e w' => e = .returned (.bool true) ∧ Below w.heap.size w w') a w0) := fun Y Z X R V v5 v6 vx vy vz vr vv vm vn gm a w0 hb la lb ly lz lx lr lv hx hr hv d1 d2 d3 hm hmS hR h => mem_tail A B Y Z X R V _ _ v5 v6 vx vy vz vr vv vm vn gm a w w0 hb la lb ly lz lx lr lv hx hr hv d1 d2 d3 hm hmS hR h
  go_enter Try.func4, Try.ntmps4
  change Code.wp _ (Code.seq (hd (sq 0 body4)) (Code.seq (hd (sq 1 body4)) (Code.seq (hd (sq 2 body4)) (Code.seq (hd (sq 3 body4)) (Code.seq (hd (sq 4 body4)) (Code.seq (hd (sq 5 body4)) (Code.seq (hd (sq 6 body4)) (Code.seq (hd (sq 7 body4)) (Code.seq (hd (sq 8 body4)) (Code.seq (hd (sq 9 body4)) (sq 10 body4))))))))))) _ _ _
  generalize sq 10 body4 = REST at HZ ⊢
  conv => arg 2; arg 1; whnf
  conv => arg 2; arg 2; arg 1; whnf
  conv => arg 2; arg 2; arg 2; arg 1; whnf
  conv => arg 2; arg 2; arg 2; arg 2; arg 1; whnf
  conv => arg 2; arg 2; arg 2; arg 2; arg 2; arg 1; whnf
  conv => arg 2; arg 2; arg 2; arg 2; arg 2; arg 2; arg 1; whnf
  conv => arg 2; arg 2; arg 2; arg 2; arg 2; arg 2; arg 2; arg 1; whnf
  conv => arg 2; arg 2; arg 2; arg 2; arg 2; arg 2; arg 2; arg 2; arg 1; whnf
  conv => arg 2; arg 2; arg 2; arg 2; arg 2; arg 2; arg 2; arg 2; arg 2; arg 1; whnf
  conv => arg 2; arg 2; arg 2; arg 2; arg 2; arg 2; arg 2; arg 2; arg 2; arg 2; arg 1; whnf
  go_wp2_with fail
  refine (given_any A (.slice pa A.length ca) w RA.out la).mono ?_
  rintro e w1 ⟨g1, rfl, o1, b1⟩
  have G1 : Hid (RdS w1 g1 A) := RdS.of_owns o1
  have B1 : Hid (Below w.heap.size w w1) := b1
  clear o1 b1
  go_wp2_with fail
  refine (ris_any A g1 w1 G1.out FA.out (by omega)).mono ?_
  rintro e w2 ⟨rfl, b2⟩
  have B2 : Hid (Below w.heap.size w w2) := B1.out.trans (b2.mono B1.out.size)
  clear b2 G1 B1
  cases sA : isB A
  · clear HZ
    go_wp2_with fail
    refine (awake_any w2).mono ?_
    rintro e w3 ⟨rfl, b3⟩
    have B3 : Hid (Below w.heap.size w w3) := B2.out.trans (b3.mono B2.out.size)
    clear b3
    go_wp2
    first | go_ret | skip
    exact ⟨rfl, B3.out⟩
  go_wp2_with fail
  refine (given_any B (.slice pb B.length cb) w2 (RB.out.below B2.out) lb).mono ?_
  rintro e w3 ⟨g3, rfl, o3, b3⟩
  have G3 : Hid (RdS w3 g3 B) := RdS.of_owns o3
  have B3 : Hid (Below w.heap.size w w3) := B2.out.trans (b3.mono B2.out.size)
  clear o3 b3 B2
  go_wp2_with fail
  refine (ris_any B g3 w3 G3.out FB.out (by omega)).mono ?_
  rintro e w4 ⟨rfl, b4⟩
  have B4 : Hid (Below w.heap.size w w4) := B3.out.trans (b4.mono B3.out.size)
  clear b4 G3 B3
  cases sB : isB B
  · clear HZ
    go_wp2_with fail
    refine (awake_any w4).mono ?_
    rintro e w5 ⟨rfl, b5⟩
    have B5 : Hid (Below w.heap.size w w5) := B4.out.trans (b5.mono B4.out.size)
    clear b5
    go_wp2
    first | go_ret | skip
    exact ⟨rfl, B5.out⟩
  have la2 := (isB_iff.1 sA).1
  have lb2 := (isB_iff.1 sB).1
  have C4_4 : Hid (Below w4.heap.size w4 w4) := Below.refl _ _
  go_wp2_with fail
  refine (given_any A (.slice pa A.length ca) w4 (RA.out.below B4.out) la).mono ?_
  rintro e w5 ⟨v5, rfl, o5, b5⟩
  have O5 : Hid (w5.ownsRow w4.heap.size 44 2 v5 A.length (celS A)) := o5
  clear o5
  have S5 : Hid (w4.heap.size ≤ w5.heap.size) := b5.size
  have B5 : Hid (Below w.heap.size w w5) := B4.out.trans (b5.mono B4.out.size)
  have C4_5 : Hid (Below w4.heap.size w4 w5) := C4_4.out.trans (b5.mono C4_4.out.size)
  have C5_5 : Hid (Below w5.heap.size w5 w5) := Below.refl _ _
  clear b5 C4_4
  go_wp2_with fail
  refine (given_any B (.slice pb B.length cb) w5 (RB.out.below B5.out) lb).mono ?_
  rintro e w6 ⟨v6, rfl, o6, b6⟩
  have O6 : Hid (w6.ownsRow w5.heap.size 44 2 v6 B.length (celS B)) := o6
  clear o6
  have S6 : Hid (w5.heap.size ≤ w6.heap.size) := b6.size
  have B6 : Hid (Below w.heap.size w w6) := B5.out.trans (b6.mono B5.out.size)
  have C4_6 : Hid (Below w4.heap.size w4 w6) := C4_5.out.trans (b6.mono C4_5.out.size)
  have C5_6 : Hid (Below w5.heap.size w5 w6) := C5_5.out.trans (b6.mono C5_5.out.size)
  have C6_6 : Hid (Below w6.heap.size w6 w6) := Below.refl _ _
  clear b6 C4_5 C5_5
  have h6 := B6.out.size
  have BW : Hid (Below w.heap.size w (w6.alloc (.cells #[(.slice pa A.length ca), (.slice pb B.length cb)] 22))) := B6.out.alloc h6 _
  go_wp2_with fail
  refine (union2_len A B (.slice pa A.length ca) (.slice pb B.length cb) w6.heap.size _ (cells_new w6 #[(.slice pa A.length ca), (.slice pb B.length cb)] 22 0 _ rfl) (cells_new w6 #[(.slice pa A.length ca), (.slice pb B.length cb)] 22 1 _ rfl) (RA.out.below BW.out) (RB.out.below BW.out) FA.out FB.out sA sB).mono ?_
  rintro e w7 ⟨vx, X, at0, eu, rfl, o7, lx, b70⟩
  have O7 : Hid (w7.ownsRow w6.heap.size 41 2 vx X.length (celS X)) := owns_lo o7 (by simp)
  have LX : Hid (X.length ≤ 65536) := lx
  have b7 : Below w6.heap.size w6 w7 := ((Below.refl _ w6).alloc (Nat.le_refl _) _).trans (b70.mono (by simp))
  clear o7 lx b70 BW h6
  have S7 : Hid (w6.heap.size ≤ w7.heap.size) := b7.size
  have B7 : Hid (Below w.heap.size w w7) := B6.out.trans (b7.mono B6.out.size)
  have C4_7 : Hid (Below w4.heap.size w4 w7) := C4_6.out.trans (b7.mono C4_6.out.size)
  have C5_7 : Hid (Below w5.heap.size w5 w7) := C5_6.out.trans (b7.mono C5_6.out.size)
  have C6_7 : Hid (Below w6.heap.size w6 w7) := C6_6.out.trans (b7.mono C6_6.out.size)
  have C7_7 : Hid (Below w7.heap.size w7 w7) := Below.refl _ _
  clear b7 C4_6 C5_6 C6_6
  go_wp2_with fail
  refine (cross_any A B (.slice pa A.length ca) (.slice pb B.length cb) w7 (RA.out.below B7.out) (RB.out.below B7.out) FA.out FB.out la lb).mono ?_
  rintro e w8 ⟨vy, Y, ey, rfl, o8, p8, b8⟩
  have O8 : Hid (w8.ownsRow w7.heap.size 41 2 vy Y.length (celS Y)) := o8
  have LY : Hid (Y.length ≤ 65536) := puts_len p8
  clear o8 p8
  have S8 : Hid (w7.heap.size ≤ w8.heap.size) := b8.size
  have B8 : Hid (Below w.heap.size w w8) := B7.out.trans (b8.mono B7.out.size)
  have C4_8 : Hid (Below w4.heap.size w4 w8) := C4_7.out.trans (b8.mono C4_7.out.size)
  have C5_8 : Hid (Below w5.heap.size w5 w8) := C5_7.out.trans (b8.mono C5_7.out.size)
  have C6_8 : Hid (Below w6.heap.size w6 w8) := C6_7.out.trans (b8.mono C6_7.out.size)
  have C7_8 : Hid (Below w7.heap.size w7 w8) := C7_7.out.trans (b8.mono C7_7.out.size)
  have C8_8 : Hid (Below w8.heap.size w8 w8) := Below.refl _ _
  clear b8 C4_7 C5_7 C6_7 C7_7
  go_wp2_with fail
  refine (minus_any A B (.slice pa A.length ca) (.slice pb B.length cb) w8 (RA.out.below B8.out) (RB.out.below B8.out) FA.out FB.out la lb).mono ?_
  rintro e w9 ⟨vz, Z, ez, rfl, o9, p9, b9⟩
  have O9 : Hid (w9.ownsRow w8.heap.size 41 2 vz Z.length (celS Z)) := o9
  have LZ : Hid (Z.length ≤ 65536) := puts_len p9
  clear o9 p9
  have S9 : Hid (w8.heap.size ≤ w9.heap.size) := b9.size
  have B9 : Hid (Below w.heap.size w w9) := B8.out.trans (b9.mono B8.out.size)
  have C4_9 : Hid (Below w4.heap.size w4 w9) := C4_8.out.trans (b9.mono C4_8.out.size)
  have C5_9 : Hid (Below w5.heap.size w5 w9) := C5_8.out.trans (b9.mono C5_8.out.size)
  have C6_9 : Hid (Below w6.heap.size w6 w9) := C6_8.out.trans (b9.mono C6_8.out.size)
  have C7_9 : Hid (Below w7.heap.size w7 w9) := C7_8.out.trans (b9.mono C7_8.out.size)
  have C8_9 : Hid (Below w8.heap.size w8 w9) := C8_8.out.trans (b9.mono C8_8.out.size)
  have C9_9 : Hid (Below w9.heap.size w9 w9) := Below.refl _ _
  clear b9 C4_8 C5_8 C6_8 C7_8 C8_8
  go_wp2_with fail
  refine (make_any A (.slice pa A.length ca) w9 (RA.out.below B9.out) (by omega)).mono ?_
  rintro e w10 ⟨vr, R, im, em, rfl, o10, p10, b10⟩
  have O10 : Hid (w10.ownsRow w9.heap.size 41 2 vr R.length (celS R)) := o10
  have LR : Hid (R.length ≤ 65536) := make_len p10 sA
  clear o10 p10
  have S10 : Hid (w9.heap.size ≤ w10.heap.size) := b10.size
  have B10 : Hid (Below w.heap.size w w10) := B9.out.trans (b10.mono B9.out.size)
  have C4_10 : Hid (Below w4.heap.size w4 w10) := C4_9.out.trans (b10.mono C4_9.out.size)
  have C5_10 : Hid (Below w5.heap.size w5 w10) := C5_9.out.trans (b10.mono C5_9.out.size)
  have C6_10 : Hid (Below w6.heap.size w6 w10) := C6_9.out.trans (b10.mono C6_9.out.size)
  have C7_10 : Hid (Below w7.heap.size w7 w10) := C7_9.out.trans (b10.mono C7_9.out.size)
  have C8_10 : Hid (Below w8.heap.size w8 w10) := C8_9.out.trans (b10.mono C8_9.out.size)
  have C9_10 : Hid (Below w9.heap.size w9 w10) := C9_9.out.trans (b10.mono C9_9.out.size)
  have C10_10 : Hid (Below w10.heap.size w10 w10) := Below.refl _ _
  clear b10 C4_9 C5_9 C6_9 C7_9 C8_9 C9_9
  go_wp2_with fail
  refine (other_any A (.slice pa A.length ca) w10 (RA.out.below B10.out) FA.out la).mono ?_
  rintro e w11 ⟨vv, V, ev, rfl, o11, p11, b11⟩
  have O11 : Hid (w11.ownsRow w10.heap.size 41 2 vv V.length (celS V)) := o11
  have LV : Hid (V.length ≤ 65536) := puts_len p11
  clear o11 p11
  have S11 : Hid (w10.heap.size ≤ w11.heap.size) := b11.size
  have B11 : Hid (Below w.heap.size w w11) := B10.out.trans (b11.mono B10.out.size)
  have C4_11 : Hid (Below w4.heap.size w4 w11) := C4_10.out.trans (b11.mono C4_10.out.size)
  have C5_11 : Hid (Below w5.heap.size w5 w11) := C5_10.out.trans (b11.mono C5_10.out.size)
  have C6_11 : Hid (Below w6.heap.size w6 w11) := C6_10.out.trans (b11.mono C6_10.out.size)
  have C7_11 : Hid (Below w7.heap.size w7 w11) := C7_10.out.trans (b11.mono C7_10.out.size)
  have C8_11 : Hid (Below w8.heap.size w8 w11) := C8_10.out.trans (b11.mono C8_10.out.size)
  have C9_11 : Hid (Below w9.heap.size w9 w11) := C9_10.out.trans (b11.mono C9_10.out.size)
  have C10_11 : Hid (Below w10.heap.size w10 w11) := C10_10.out.trans (b11.mono C10_10.out.size)
  have C11_11 : Hid (Below w11.heap.size w11 w11) := Below.refl _ _
  clear b11 C4_10 C5_10 C6_10 C7_10 C8_10 C9_10 C10_10
  go_wp2_with fail
  refine (given_any Y vy w11 ((RdS.of_owns O8.out).below C8_11.out) (by have := LY.out; omega)).mono ?_
  rintro e w12 ⟨vm, rfl, o12, b12⟩
  have O12 : Hid (w12.ownsRow w11.heap.size 44 2 vm Y.length (celS Y)) := o12
  clear o12
  have S12 : Hid (w11.heap.size ≤ w12.heap.size) := b12.size
  have B12 : Hid (Below w.heap.size w w12) := B11.out.trans (b12.mono B11.out.size)
  have C4_12 : Hid (Below w4.heap.size w4 w12) := C4_11.out.trans (b12.mono C4_11.out.size)
  have C5_12 : Hid (Below w5.heap.size w5 w12) := C5_11.out.trans (b12.mono C5_11.out.size)
  have C6_12 : Hid (Below w6.heap.size w6 w12) := C6_11.out.trans (b12.mono C6_11.out.size)
  have C7_12 : Hid (Below w7.heap.size w7 w12) := C7_11.out.trans (b12.mono C7_11.out.size)
  have C8_12 : Hid (Below w8.heap.size w8 w12) := C8_11.out.trans (b12.mono C8_11.out.size)
  have C9_12 : Hid (Below w9.heap.size w9 w12) := C9_11.out.trans (b12.mono C9_11.out.size)
  have C10_12 : Hid (Below w10.heap.size w10 w12) := C10_11.out.trans (b12.mono C10_11.out.size)
  have C11_12 : Hid (Below w11.heap.size w11 w12) := C11_11.out.trans (b12.mono C11_11.out.size)
  have C12_12 : Hid (Below w12.heap.size w12 w12) := Below.refl _ _
  clear b12 C4_11 C5_11 C6_11 C7_11 C8_11 C9_11 C10_11 C11_11
  go_wp2_with fail
  refine (given_any Z vz w12 ((RdS.of_owns O9.out).below C9_12.out) (by have := LZ.out; omega)).mono ?_
  rintro e w13 ⟨vn, rfl, o13, b13⟩
  have O13 : Hid (w13.ownsRow w12.heap.size 44 2 vn Z.length (celS Z)) := o13
  clear o13
  have S13 : Hid (w12.heap.size ≤ w13.heap.size) := b13.size
  have B13 : Hid (Below w.heap.size w w13) := B12.out.trans (b13.mono B12.out.size)
  have C4_13 : Hid (Below w4.heap.size w4 w13) := C4_12.out.trans (b13.mono C4_12.out.size)
  have C5_13 : Hid (Below w5.heap.size w5 w13) := C5_12.out.trans (b13.mono C5_12.out.size)
  have C6_13 : Hid (Below w6.heap.size w6 w13) := C6_12.out.trans (b13.mono C6_12.out.size)
  have C7_13 : Hid (Below w7.heap.size w7 w13) := C7_12.out.trans (b13.mono C7_12.out.size)
  have C8_13 : Hid (Below w8.heap.size w8 w13) := C8_12.out.trans (b13.mono C8_12.out.size)
  have C9_13 : Hid (Below w9.heap.size w9 w13) := C9_12.out.trans (b13.mono C9_12.out.size)
  have C10_13 : Hid (Below w10.heap.size w10 w13) := C10_12.out.trans (b13.mono C10_12.out.size)
  have C11_13 : Hid (Below w11.heap.size w11 w13) := C11_12.out.trans (b13.mono C11_12.out.size)
  have C12_13 : Hid (Below w12.heap.size w12 w13) := C12_12.out.trans (b13.mono C12_12.out.size)
  have C13_13 : Hid (Below w13.heap.size w13 w13) := Below.refl _ _
  clear b13 C4_12 C5_12 C6_12 C7_12 C8_12 C9_12 C10_12 C11_12 C12_12
  go_wp2_with fail
  have hA : Below w13.heap.size w13 (w13.alloc (.cells #[.int .i32 (-9), .int .i32 (-9)] 41)) := (Below.refl _ w13).alloc (Nat.le_refl _) _
  have D4 : Hid (Below w4.heap.size w4 (w13.alloc (.cells #[.int .i32 (-9), .int .i32 (-9)] 41))) := C4_13.out.trans (hA.mono C4_13.out.size)
  have D5 : Hid (Below w5.heap.size w5 (w13.alloc (.cells #[.int .i32 (-9), .int .i32 (-9)] 41))) := C5_13.out.trans (hA.mono C5_13.out.size)
  have D6 : Hid (Below w6.heap.size w6 (w13.alloc (.cells #[.int .i32 (-9), .int .i32 (-9)] 41))) := C6_13.out.trans (hA.mono C6_13.out.size)
  have D7 : Hid (Below w7.heap.size w7 (w13.alloc (.cells #[.int .i32 (-9), .int .i32 (-9)] 41))) := C7_13.out.trans (hA.mono C7_13.out.size)
  have D8 : Hid (Below w8.heap.size w8 (w13.alloc (.cells #[.int .i32 (-9), .int .i32 (-9)] 41))) := C8_13.out.trans (hA.mono C8_13.out.size)
  have D9 : Hid (Below w9.heap.size w9 (w13.alloc (.cells #[.int .i32 (-9), .int .i32 (-9)] 41))) := C9_13.out.trans (hA.mono C9_13.out.size)
  have D10 : Hid (Below w10.heap.size w10 (w13.alloc (.cells #[.int .i32 (-9), .int .i32 (-9)] 41))) := C10_13.out.trans (hA.mono C10_13.out.size)
  have D11 : Hid (Below w11.heap.size w11 (w13.alloc (.cells #[.int .i32 (-9), .int .i32 (-9)] 41))) := C11_13.out.trans (hA.mono C11_13.out.size)
  have D12 : Hid (Below w12.heap.size w12 (w13.alloc (.cells #[.int .i32 (-9), .int .i32 (-9)] 41))) := C12_13.out.trans (hA.mono C12_13.out.size)
  have D13 : Hid (Below w13.heap.size w13 (w13.alloc (.cells #[.int .i32 (-9), .int .i32 (-9)] 41))) := C13_13.out.trans (hA.mono C13_13.out.size)
  have DW : Hid (Below w.heap.size w (w13.alloc (.cells #[.int .i32 (-9), .int .i32 (-9)] 41))) := B13.out.trans (hA.mono B13.out.size)
  have z5 := S5.out
  have z6 := S6.out
  have z7 := S7.out
  have z8 := S8.out
  have z9 := S9.out
  have z10 := S10.out
  have z11 := S11.out
  have z12 := S12.out
  have z13 := S13.out
  have zw := B4.out.size
  have h3 : ∀ k, three vx vr vv k → (w6.heap.size ≤ k ∧ k < w7.heap.size) ∨ (w9.heap.size ≤ k ∧ k < w10.heap.size) ∨ (w10.heap.size ≤ k ∧ k < w11.heap.size) := fun k h => by
    rcases h with h | h | h
    · exact .inl (own_in O7.out h)
    · exact .inr (.inl (own_in O10.out h))
    · exact .inr (.inr (own_in O11.out h))
  have hlx := LX.out
  have hly := LY.out
  have hlz := LZ.out
  have hlr := LR.out
  have hlv := LV.out
  refine HZ.out Y Z X R V v5 v6 vx vy vz vr vv vm vn w13.heap.size _ _ DW.out (by omega) (by omega) (by omega) (by omega) (by omega) (by omega) (by omega) (owns_lo (owns_below O7.out D7.out) (by omega)) (owns_lo (owns_below O10.out D10.out) (by omega)) (owns_lo (owns_below O11.out D11.out) (by omega)) (fun k h1 h2 => ?_) (fun k h1 h2 => ?_) (fun k h1 h2 => ?_) (heap_alloc_new w13 _) (fun h => ?_) (fun w' hf => ⟨?_, ?_, ?_, ?_, ?_, ?_, ?_, ?_⟩) ⟨rfl, rfl, rfl, rfl, rfl, rfl, rfl, rfl, rfl, rfl, rfl, rfl, rfl, rfl, trivial⟩
  · have := own_in O7.out h1
    have := own_in O10.out h2
    omega
  · have := own_in O7.out h1
    have := own_in O11.out h2
    omega
  · have := own_in O10.out h1
    have := own_in O11.out h2
    omega
  · have := h3 _ h
    omega
  · exact RA.out.far DW.out hf (fun k h => by have := h3 k h; omega)
  · exact RB.out.far DW.out hf (fun k h => by have := h3 k h; omega)
  · exact (RdS.of_owns O5.out).far D5.out hf (fun k h => by have := h3 k h; omega)
  · exact (RdS.of_owns O6.out).far D6.out hf (fun k h => by have := h3 k h; omega)
  · exact own_far O8.out D8.out hf (fun k h => by have := h3 k h; omega)
  · exact own_far O9.out D9.out hf (fun k h => by have := h3 k h; omega)
  · exact own_far O12.out D12.out hf (fun k h => by have := h3 k h; omega)
  · exact own_far O13.out D13.out hf (fun k h => by have := h3 k h; omega)
end Go.Proofs.Ytddoanmhikldiab
