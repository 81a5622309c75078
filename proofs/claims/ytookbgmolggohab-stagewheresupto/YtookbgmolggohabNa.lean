/-
  The contract of stage's Runs. Conditions: the table's numbers are from 0 to 65535; runs_good: the two are code points in their order.
-/
import Derived.Test.YtookbgmolggohabMa
namespace Go.Proofs.Ytookbgmolggohab
open Go.RowKit Go.Shelf
attribute [local go_sem] Oper.semAt_some
set_option maxRecDepth 100000 in
set_option maxHeartbeats 2000000 in
theorem sruns_good (vt : Value) (F : Int → Int) (A E : Int) (w : World) (hT : Tab w vt F) (hF : ∀ p, 0 ≤ F p ∧ F p ≤ 65535) (hA0 : 0 ≤ A) (hAE : A ≤ E) (hE0 : E ≤ 1114111) :
    Calls Try.prog 33 #[vt, .int .i32 A, .int .i32 E] w fun e W' => ∃ v ys, e = .returned v ∧ Rn F A ys (E + 1) ∧ W'.ownsRow w.heap.size 33 3 v ys.length (cel3 .i32 ys) ∧ Below w.heap.size w W' := by
  have HT : Hid (Tab w vt F) := hT
  have HF : Hid (∀ p, 0 ≤ F p ∧ F p ≤ 65535) := hF
  refine (callsIn_wide (n := 9)).1 ?_
  obtain ⟨i0, hi, hz0, hz1, hz2⟩ := info_parts info62
  have hg : decide (E < A) = false := decide_eq_false (by omega)
  clear hT hF
  refine callsIn_of_wp_marks Try.func33 rfl trivial ?_ rfl
  simp only [Try.ntmps33, List.size_toArray, List.length_cons, List.length_nil, Nat.reduceAdd, Nat.reduceSub, Array.replicate_succ, Array.replicate_zero, List.push_toArray, List.append_toArray, List.nil_append, List.cons_append]
  gi_wp2_with fail
  refine ⟨trivial, ?_⟩
  refine ((callsIn_wide (n := 8)).2 (point_any A _)).mono ?_
  rintro e wq ⟨rfl, bq⟩
  rw [decide_eq_true hA0, decide_eq_true (Int.le_trans hAE hE0)]
  replace bq : Hid (Below w.heap.size w wq) := bq
  gi_wp2_with fail
  refine ⟨trivial, ?_⟩
  refine ((callsIn_wide (n := 8)).2 (point_any E _)).mono ?_
  rintro e wp ⟨rfl, bp⟩
  rw [decide_eq_true (Int.le_trans hA0 hAE), decide_eq_true hE0]
  replace bp : Hid (Below w.heap.size w wp) := bq.out.trans (bp.mono bq.out.size)
  clear bq
  have HS0 : Hid (∀ (W1 : World) (p : Int), Below wp.heap.size wp W1 → A ≤ p → p ≤ E → Calls Try.prog 35 #[vt, .int .i32 p] W1 fun e w' => e = .returned (.int .i64 (F p)) ∧ Below W1.heap.size W1 w') := fun W1 p hb h1 h2 => by
    have := look_any p W1 vt F (HT.out.below (bp.out.trans (hb.mono bp.out.size))) HF.out
    rwa [if_pos ⟨by omega, by omega⟩] at this
  clear HT HF
  gi_wp2_with fail
  refine ⟨trivial, ?_⟩
  refine (si42_in _ A E _ _ ⟨_, _, _, rfl⟩).mono ?_
  rintro e w' ⟨rfl, rfl⟩
  gi_wp2_with fail
  have hB0 : Below wp.heap.size wp (((wp.alloc (.cells #[.slice none 0 0] 22)).alloc (.cells #[.int .i32 A, .int .i32 E] 41)).alloc (.cells #[.func (.func 35) #[vt] #[]] 71)) := (((Below.refl _ wp).alloc (Nat.le_refl _) _).alloc (by simp) _).alloc (by simp; omega) _
  have bO : Boxed (((wp.alloc (.cells #[.slice none 0 0] 22)).alloc (.cells #[.int .i32 A, .int .i32 E] 41)).alloc (.cells #[.func (.func 35) #[vt] #[]] 71)) wp.heap.size 22 (.slice none 0 0) := ((Boxed.new wp 22 (.slice none 0 0)).alloc _).alloc _
  have hw2 : (((wp.alloc (.cells #[.slice none 0 0] 22)).alloc (.cells #[.int .i32 A, .int .i32 E] 41)).alloc (.cells #[.func (.func 35) #[vt] #[]] 71)).heap[wp.heap.size + 1]? = some (.cells #[.int .i32 A, .int .i32 E] 41 (0, 0)) := by
    have h1 := heap_alloc_last (wp.alloc (.cells #[.slice none 0 0] 22)) (.cells #[.int .i32 A, .int .i32 E] 41)
    rw [Go.RowKit.Below.heap_alloc _ _ _ (by simp)]
    simpa using h1
  have hw3 : (((wp.alloc (.cells #[.slice none 0 0] 22)).alloc (.cells #[.int .i32 A, .int .i32 E] 41)).alloc (.cells #[.func (.func 35) #[vt] #[]] 71)).heap[wp.heap.size + 2]? = some (.cells #[.func (.func 35) #[vt] #[]] 71 (0, 0)) := by
    have h1 := heap_alloc_last ((wp.alloc (.cells #[.slice none 0 0] 22)).alloc (.cells #[.int .i32 A, .int .i32 E] 41)) (.cells #[.func (.func 35) #[vt] #[]] 71)
    simpa using h1
  have hsz : (((wp.alloc (.cells #[.slice none 0 0] 22)).alloc (.cells #[.int .i32 A, .int .i32 E] 41)).alloc (.cells #[.func (.func 35) #[vt] #[]] 71)).heap.size = wp.heap.size + 3 := by simp
  rw [show wp.heap.size + 1 + 1 = wp.heap.size + 2 by omega]
  generalize (((wp.alloc (.cells #[.slice none 0 0] 22)).alloc (.cells #[.int .i32 A, .int .i32 E] 41)).alloc (.cells #[.func (.func 35) #[vt] #[]] 71)) = W0 at *
  have hro : rowAt W0 wp.heap.size = none := by rw [rowAt_boxed bO]; rfl
  refine wpIn_rangeFunc_ownH rfl (by omega) (gf := 70) (lb := #[.pointer (some ⟨wp.heap.size + 1, 0, none⟩), .pointer (some ⟨wp.heap.size + 2, 0, none⟩)]) rfl trivial (enters_of Try.func70 (by kernel_rfl) rfl)
    (si_stops _ (wp.heap.size + 1) (wp.heap.size + 2) wp.heap.size wp.heap.size (wp.heap.size + 1) A E F vt W0 hA0 hAE hE0 (fun W1 p hb h1 h2 => HS0.out W1 p (hB0.trans hb) h1 h2) hw2 hw3 (by omega) (by omega) (by omega) (by omega) hro) (fun h k => h.trans k) (fun W l o o' hl hW hc _ => KpR.put (by omega) (by omega) W l o o' hl hW hc) (Below.refl _ _) (fun _ => rfl)
    (fun pre W => (∃ v, Boxed W wp.heap.size 22 v ∧ W.ownsRow wp.heap.size 33 3 v pre.length (cel3 .i32 pre) ∧ True) ∧ Below wp.heap.size wp W ∧ W0.heap.size ≤ W.heap.size)
    (fun _ _ _ => False)
    (OwnFrom.and (Own.from (holdsRow_own wp.heap.size wp.heap.size 22 33 3 (fun pre => pre.length) (fun pre => cel3 .i32 pre) (fun _ _ => True)) _) (OwnFrom.and (ownFrom_below (Nat.le_refl _) (by omega)) ?og))
    (fun _ _ _ _ _ hs _ _ => hs)
    ⟨⟨_, bO, World.ownsRow_nil _ _ _ _, trivial⟩, hB0, Nat.le_refl _⟩
    (fun r a' W => ∃ Bx, W0.heap.size ≤ Bx ∧ W.heap[Bx]? = some (.cells #[.int .i32 r.1, .int .i32 r.2.1] 41 (0, 0)) ∧ a' = { tmps := #[vt, .int .i32 A, .int .i32 E, undef, undef, undef, .slice none 0 0, .pointer (some ⟨wp.heap.size, 0, none⟩), .pointer (some ⟨Bx, 0, none⟩), .int .i64 r.2.2, .int .i32 A, .bool true, .bool false, .bool false, .int .i32 E, .bool true, .bool false, .bool false, .bool false, .int .i32 A, .int .i32 E, .bool false, .bool false, .int .i32 A, .int .i32 E, .agg #[.int .i32 A, .int .i32 E], vt, .func (.func 35) #[vt] #[], .func (.func 70) #[] #[.pointer (some ⟨wp.heap.size + 1, 0, none⟩), .pointer (some ⟨wp.heap.size + 2, 0, none⟩)], .agg #[.int .i32 r.1, .int .i32 r.2.1], .int .i64 r.2.2, undef, undef, undef, undef, undef, undef, undef, undef, undef, undef], defers := [] })
    (fun r a' => ?ax) ?assign ?body ?done ?stop
  case og =>
    intro s A B' row hs hg' _
    exact Nat.le_trans hs hg'.size
  case ax =>
    rintro u X Y row ⟨Bx, h1, h2, h3⟩ hg' hr
    exact ⟨Bx, h1, boxC_own (β := Unit) Bx #[.int .i32 r.1, .int .i32 r.2.1] 41 () X Y row h2 hg' (fun r e => (hr r e).2), h3⟩
  case assign =>
    rintro l pre r W K ⟨⟨v, hv, hrow, _⟩, hB, hW0⟩ hK
    have HK : Hid _ := hK _ _ ((KeepsOthers.alloc W (.cells #[.int .i32 r.1, .int .i32 r.2.1] 41)).from _) (kr_alloc (by omega) (by omega) _) ⟨⟨v, hv.alloc _, hrow.alloc _, trivial⟩, hB.alloc hB.size _, by simp; omega⟩ ⟨W.heap.size, hW0, World.alloc_heap_new _ _, rfl⟩
    clear hK
    gi_wp2
    exact HK
  case body =>
    rintro l pre r a' W hl ⟨rr, hrr⟩ ⟨⟨v, hv, hrow, _⟩, hB, hW0⟩ ⟨Bx, hBx, bX, rfl⟩ hlt
    obtain ⟨x, y, n⟩ := r
    simp only at bX
    have hc := hv.cell
    have cx : W.cell? ⟨Bx, 0, none⟩ = some (.int .i32 x) := by simp [World.cell?, bX]
    have cy : W.cell? ⟨Bx, 1, none⟩ = some (.int .i32 y) := by simp [World.cell?, bX]
    have hlt' : pre.length < (E + 1 - A).toNat := hlt
    gi_wp2_with (gi_at_builtin; go_must (refine wpListIn_append_own_at _ rfl _ _ 22 rfl wp.heap.size 33 i0 _ 3 16 Try.underlying22 hi hz0 hz1 hz2 rfl (by decide) _ _ _ rfl (hrow.alloc _) ⟨W.heap.size, 0, none⟩ 1 1 [.int .i32 x, .int .i32 y, .int .i64 n] rfl rfl (cells_new W #[.int .i32 x, .int .i32 y, .int .i64 n] 33) (by simp [Value.oneCell']) (by unfold maxLen; omega) (by omega) (by have := hB.size; simp; omega) ?_))
    intro v' w1 hown' hgrow _ hat
    obtain ⟨g', cap', rfl⟩ := ownsRow_succ hown'
    have hkp := kr_append (L := wp.heap.size + 1) hv (by decide) (by omega) hrow hB.size (Nat.le_refl _) hown' hgrow hat
    obtain ⟨hv1, hv2, hr2, hk2, hb2⟩ := hv.appended (by decide) hrow hB.size (Nat.le_refl _) hown' hgrow
    have hc1 := hv1.cell
    have hf1 := hv1.frozen
    clear hat
    gi_wp2
    exact ⟨hk2.from _, hkp, ⟨⟨_, hv2, by rw [cel3_snoc, List.length_append]; exact hr2, trivial⟩, hB.trans hb2, by have := hb2.size; omega⟩⟩
  case done =>
    rintro D ys W hD hRn ⟨⟨v, hv, hrow, _⟩, hB, hW0⟩ hK
    have hc := hv.cell
    gi_wp2
    refine ⟨by simp, .inl ⟨_, _, rfl, run_takeDeferred hK, ?_⟩⟩
    exact ⟨_, results_tmp rfl _ _ _, v, ys, rfl, hRn, owns_mono (ownsRow_putObj hrow _ hK rfl) bp.out.size, bp.out.trans ((hB.trans (belowK_b (w := wp) (Nat.le_refl _) W D _ _ (by omega) hK rfl rfl)).mono bp.out.size)⟩
  case stop =>
    rintro D c pre W _ _ h _
    exact h.elim
end Go.Proofs.Ytookbgmolggohab
