/-
  The statement of walks, walked to where its loops begin. Conditions: the numbers fit; the list takes no more bytes than there are.
-/
import Derived.Test.YtddoanmhikldiabIv
import Derived.Test.YtddoanmhikldiabMk
import Derived.Laws.EntriesVeiled
namespace Go.Proofs.Ytddoanmhikldiab
open Go.RowKit Go.Shelf
attribute [local go_sem] Oper.semAt_some
theorem run_eqf (w : World) (g : Nat) : (binOp .eql 28 (.func (.func 20) #[] #[.pointer (some ⟨g, 0, none⟩)]) .nilFunc).run Try.prog w = .ok (.bool false) w := by kernel_rfl
attribute [local go_sem] run_eqf
theorem box_later {W W' : World} {B t : Nat} {v : Value} (h : Boxed W B t v) (hb : Below W.heap.size W W') : Boxed W' B t v := Boxed.kept h (grown_of hb) (by simp)
structure Pre (w : World) (A : List Sn) (left : Int) (vM : Value) (B5 : Nat) (W : World) : Prop where
  bel : Below w.heap.size w W
  x3 : Boxed W w.heap.size 3 (.int .i64 left)
  x4 : Boxed W (w.heap.size + 1) 4 (.bool false)
  x5 : Boxed W B5 23 vM
  rM : RdS W vM A
  l5 : w.heap.size + 1 < B5
  lM : ∀ k, vM.ownBlock = some k → k < W.heap.size
theorem Pre.later {w : World} {A : List Sn} {left : Int} {vM : Value} {B5 : Nat} {W W' : World} (h : Pre w A left vM B5 W) (hb : Below W.heap.size W W') : Pre w A left vM B5 W' :=
  ⟨h.bel.trans (hb.mono h.bel.size), box_later h.x3 hb, box_later h.x4 hb, box_later h.x5 hb, h.rM.below hb, h.l5, fun k hk => Nat.lt_of_lt_of_le (h.lM k hk) hb.size⟩
theorem alloc_below (W : World) (o : Obj) : Below W.heap.size W (W.alloc o) := (Below.refl _ W).alloc (Nat.le_refl _) _
set_option maxRecDepth 100000 in
set_option maxHeartbeats 2000000 in
theorem walks_main (A : List Sn) (va : Value) (left : Int) (w : World) (ra : RdS w va A) (fa : fitS A) (la : A.length ≤ 17592186044416)
    (hK : Hid (∀ (vN : Value) (B5 : Nat) (a : Act) (W : World), Pre w (setOf A) left vN B5 W → At 88 [(0, va), (3, .pointer (some ⟨w.heap.size, 0, none⟩)), (4, .pointer (some ⟨w.heap.size + 1, 0, none⟩)), (5, .pointer (some ⟨B5, 0, none⟩))] a → Code.wpIn Fence.wide 10 Try.prog (sq 4 body3) (bodyPostM Fence.wide 10 Try.prog Try.f3 fun e w' => e = .returned (.bool true) ∧ Below w.heap.size w w') a W)) : Calls Try.prog 3 #[va, .int .i64 left] w fun e w' => e = .returned (.bool true) ∧ Below w.heap.size w w' := by
  have RA : Hid (RdS w va A) := ra
  have FA : Hid (fitS A) := fa
  obtain ⟨pa, ca, rfl, _, _⟩ := ra
  clear fa
  refine (callsIn_wide (n := 10)).1 ?_
  refine callsIn_of_wp_marks Try.func3 rfl trivial ?_ rfl
  simp only [Try.ntmps3, List.size_toArray, List.length_cons, List.length_nil, Nat.reduceAdd, Nat.reduceSub, Array.replicate_succ, Array.replicate_zero, List.push_toArray, List.append_toArray, List.nil_append, List.cons_append]
  change Code.wpIn _ _ _ (Code.seq (hd (sq 0 body3)) (Code.seq (hd (sq 1 body3)) (Code.seq (hd (sq 2 body3)) (Code.seq (hd (sq 3 body3)) (sq 4 body3))))) _ _ _
  generalize sq 4 body3 = REST at hK ⊢
  conv => arg 4; arg 1; whnf
  conv => arg 4; arg 2; arg 1; whnf
  conv => arg 4; arg 2; arg 2; arg 1; whnf
  conv => arg 4; arg 2; arg 2; arg 2; arg 1; whnf
  have HB0 : Hid (Below w.heap.size w ((w.alloc (.cells #[.int .i64 left] 3)).alloc (.cells #[.bool false] 4))) := ((Below.refl _ w).alloc (Nat.le_refl _) _).alloc (by simp) _
  have x3 : Boxed ((w.alloc (.cells #[.int .i64 left] 3)).alloc (.cells #[.bool false] 4)) w.heap.size 3 (.int .i64 left) := (Boxed.new w 3 _).alloc _
  have x4 : Boxed ((w.alloc (.cells #[.int .i64 left] 3)).alloc (.cells #[.bool false] 4)) (w.heap.size + 1) 4 (.bool false) := by have := Boxed.new (w.alloc (.cells #[.int .i64 left] 3)) 4 (.bool false); simpa using this
  gi_wp2_with (refine ⟨trivial, ?_⟩; gi_at_call 5; refine (callsIn_wide.2 (given_any A _ _ (RA.out.below HB0.out) la)).mono ?_; rintro e w1 ⟨vM, rfl, o1, b1⟩; obtain ⟨pM, cM, rfl, _, _⟩ := owns_slice o1)
  have hb1 : Below w1.heap.size w1 (w1.alloc (.cells #[.slice pM A.length cM] 23)) := alloc_below _ _
  have P1 : Hid (Pre w A left (.slice pM A.length cM) w1.heap.size (w1.alloc (.cells #[.slice pM A.length cM] 23))) := by
    have hs := b1.size
    have hbb := b1.trans (hb1.mono b1.size)
    simp only [World.size_alloc] at hs
    refine ⟨HB0.out.trans (hbb.mono HB0.out.size), box_later x3 hbb, box_later x4 hbb, Boxed.new _ _ _, (RdS.of_owns o1).below hb1, by omega, fun k hk => ?_⟩
    have := (own_in2 o1 hk).2
    simp; omega
  clear o1 b1 hb1 x3 x4
  refine ⟨trivial, (callsIn_wide.2 (awake_any _)).mono ?_⟩
  rintro e w2 ⟨rfl, b2⟩
  have P2 : Hid (Pre w A left (.slice pM A.length cM) w1.heap.size w2) := P1.out.later b2
  clear b2 P1
  have c5 := P2.out.x5.cell
  generalize w1.heap.size = B5 at *
  gi_wp2_with fail
  refine ⟨trivial, (callsIn_wide.2 (ris_any A _ w2 P2.out.rM FA.out (by omega))).mono ?_⟩
  rintro e w3 ⟨rfl, b3⟩
  have P3 : Hid (Pre w A left (.slice pM A.length cM) B5 w3) := P2.out.later b3
  clear b3 P2 c5
  cases sA : isB A
  · have hs : setOf A = [] := by simp [setOf, sA]
    have P4 : Hid (Pre w A left (.slice pM A.length cM) B5 (w3.alloc (.cells #[] 44))) := P3.out.later (alloc_below _ _)
    have c5 := P4.out.x5.cell
    have f5 := P4.out.x5.frozen
    gi_wp2_with fail
    refine hK.out (.slice (some ⟨w3.heap.size, 0, none⟩) 0 0) B5 _ _ ?_ ⟨rfl, rfl, rfl, rfl, rfl, rfl, trivial⟩
    have h5 := P4.out.l5
    refine ⟨P4.out.bel.setCell (p := ⟨B5, 0, none⟩) (by simp; omega) _, Boxed.other P4.out.x3 (by omega) _, Boxed.other P4.out.x4 (by omega) _, P4.out.x5.set _, ?_, h5, fun k hk => ?_⟩
    · rw [hs]; exact ⟨_, 0, rfl, Nat.le_refl _, fun h => by simp at h⟩
    · obtain rfl : w3.heap.size = k := by simpa [Value.ownBlock] using hk
      simp
  · have hs : setOf A = A := by simp [setOf, sA]
    gi_wp2_with fail
    exact hK.out _ B5 _ w3 (by rw [hs]; exact P3.out) ⟨rfl, rfl, rfl, rfl, rfl, rfl, trivial⟩
set_option maxRecDepth 100000 in
set_option maxHeartbeats 2000000 in
theorem walks_4 (A : List Sn) (va vN : Value) (B5 : Nat) (left : Int) (a : Act) (w W : World) (ra : RdS w va A) (fa : fitS A) (la : A.length ≤ 17592186044416) (hp : Pre w (setOf A) left vN B5 W)
    (hK : Hid (∀ (vA : Value) (B6 g : Nat) (a : Act) (W' : World), Below w.heap.size w W' → St W'.heap.size (setOf A) left vN vA w.heap.size (w.heap.size + 1) B5 B6 g W' → Boxed W' (w.heap.size + 1) 4 (.bool false) → At 88 [(3, .pointer (some ⟨w.heap.size, 0, none⟩)), (4, .pointer (some ⟨w.heap.size + 1, 0, none⟩)), (5, .pointer (some ⟨B5, 0, none⟩)), (6, .pointer (some ⟨B6, 0, none⟩))] a → Code.wpIn Fence.wide 10 Try.prog (sq 6 body3) (bodyPostM Fence.wide 10 Try.prog Try.f3 fun e w' => e = .returned (.bool true) ∧ Below w.heap.size w w') a W')) (ha : At 88 [(0, va), (3, .pointer (some ⟨w.heap.size, 0, none⟩)), (4, .pointer (some ⟨w.heap.size + 1, 0, none⟩)), (5, .pointer (some ⟨B5, 0, none⟩))] a) : Code.wpIn Fence.wide 10 Try.prog (sq 4 body3) (bodyPostM Fence.wide 10 Try.prog Try.f3 fun e w' => e = .returned (.bool true) ∧ Below w.heap.size w w') a W := by
  have RA : Hid (RdS W va A) := ra.below hp.bel
  have FA : Hid (fitS A) := fa
  have HP : Hid (Pre w (setOf A) left vN B5 W) := hp
  obtain ⟨pa, ca, rfl, _, _⟩ := ra
  clear fa hp
  obtain ⟨f, rfl, h0, h3, h4, h5, -⟩ := ha.lit
  change Code.wpIn _ _ _ _ _ ⟨#[f 0, f 1, f 2, f 3, f 4, f 5, f 6, f 7, f 8, f 9, f 10, f 11, f 12, f 13, f 14, f 15, f 16, f 17, f 18, f 19, f 20, f 21, f 22, f 23, f 24, f 25, f 26, f 27, f 28, f 29, f 30, f 31, f 32, f 33, f 34, f 35, f 36, f 37, f 38, f 39, f 40, f 41, f 42, f 43, f 44, f 45, f 46, f 47, f 48, f 49, f 50, f 51, f 52, f 53, f 54, f 55, f 56, f 57, f 58, f 59, f 60, f 61, f 62, f 63, f 64, f 65, f 66, f 67, f 68, f 69, f 70, f 71, f 72, f 73, f 74, f 75, f 76, f 77, f 78, f 79, f 80, f 81, f 82, f 83, f 84, f 85, f 86, f 87], []⟩ _
  simp only at h0 h3 h4 h5
  simp only [h0, h3, h4, h5]
  clear h0 h3 h4 h5
  change Code.wpIn _ _ _ (Code.seq (hd (sq 4 body3)) (Code.seq (hd (sq 5 body3)) (sq 6 body3))) _ _ _
  generalize sq 6 body3 = REST at hK ⊢
  conv => arg 4; arg 1; whnf
  conv => arg 4; arg 2; arg 1; whnf
  gi_wp2_with fail
  refine ⟨trivial, (callsIn_wide.2 (all_any A _ W RA.out FA.out la)).mono ?_⟩
  rintro e w1 ⟨vA, rfl, c1, r1, o1, b1⟩
  have P1 : Hid (Pre w (setOf A) left vN B5 w1) := HP.out.later b1
  have hb := alloc_below w1 (.cells #[.func (.func 20) #[] #[.pointer (some ⟨W.heap.size, 0, none⟩)]] 28)
  have ST : Hid (St (w1.heap.size + 1) (setOf A) left vN vA w.heap.size (w.heap.size + 1) B5 w1.heap.size W.heap.size (w1.alloc (.cells #[.func (.func 20) #[] #[.pointer (some ⟨W.heap.size, 0, none⟩)]] 28))) := by
    have P2 := P1.out.later hb
    have h4 := P1.out.x4.lt
    have h5 := P1.out.x5.lt
    have hg := World.block_lt_of_cell? w1 _ c1
    simp only at hg
    exact ⟨by omega, by omega, by omega, by omega, by omega, fun k hk => by have := P1.out.lM k hk; omega, fun k hk => by have := (o1 k hk).2; omega, P2.x3, ⟨_, P2.x4⟩, P2.x5, Boxed.new _ _ _, P2.rM, (hb.cell (p := ⟨W.heap.size, 0, none⟩) hg).trans c1, r1.below hb⟩
  have X4 : Hid (Boxed (w1.alloc (.cells #[.func (.func 20) #[] #[.pointer (some ⟨W.heap.size, 0, none⟩)]] 28)) (w.heap.size + 1) 4 (.bool false)) := (P1.out.later hb).x4
  have BE : Hid (Below w.heap.size w (w1.alloc (.cells #[.func (.func 20) #[] #[.pointer (some ⟨W.heap.size, 0, none⟩)]] 28))) := (P1.out.later hb).bel
  have c6 := ST.out.b6.cell
  clear c1 r1 o1 b1 hb
  gi_wp2_with fail
  refine hK.out vA w1.heap.size W.heap.size _ _ BE.out ?_ X4.out ?_
  · rw [World.size_alloc]; exact ST.out
  · exact ⟨rfl, rfl, rfl, rfl, rfl, rfl, trivial⟩
end Go.Proofs.Ytddoanmhikldiab
