/-
  Three rows of the call's own, appended to in any order: what lies in no block of theirs stays as it was. Condition: the rows lie apart.
-/
import Derived.Test.YtddoanmhikldiabMk
import Derived.Deep.AppendLies
namespace Go.Proofs.Ytddoanmhikldiab
open Go.RowKit
noncomputable def body4 : Code := Try.f4.body.getD .skip
theorem run_bs (w : World) : (Instr.buildSlice 22 1 #[(0, .agg #[.int .i32 (-9), .int .i32 (-9)])]).run Try.prog w = .ok (.slice (some ⟨w.heap.size, 0, none⟩) 1 1) (w.alloc (.cells #[.int .i32 (-9), .int .i32 (-9)] 41)) := by kernel_rfl
theorem exec_bs {w : World} {l : List (Nat × Value)} {o : Oper} {x : Operand} (ho : o.op = .buildSlice 22 1 #[(0, x)]) (hx : rho l x = .agg #[.int .i32 (-9), .int .i32 (-9)]) : (execOp (rho l) o).run Try.prog w = .ok (.value (.slice (some ⟨w.heap.size, 0, none⟩) 1 1)) (w.alloc (.cells #[.int .i32 (-9), .int .i32 (-9)] 41)) := by
  unfold execOp
  simp only [ho]
  simp only [List.map_toArray, List.map_cons, List.map_nil, hx, Sem.run_bind, run_bs, Result.andThen_ok]
  rfl
/-- Outside the blocks of S the world is as it was. -/
structure Far (S : Nat → Prop) (w w' : World) : Prop where
  os : w'.os = w.os
  tape : w'.tape = w.tape
  output : w'.output = w.output
  size : w.heap.size ≤ w'.heap.size
  block : ∀ k, k < w.heap.size → ¬ S k → w'.heap[k]? = w.heap[k]?
theorem Far.refl (S : Nat → Prop) (w : World) : Far S w w := ⟨rfl, rfl, rfl, Nat.le_refl _, fun _ _ _ => rfl⟩
theorem Far.below {S : Nat → Prop} {w w' w'' : World} (h : Far S w w') (hb : Below w'.heap.size w' w'') : Far S w w'' :=
  ⟨hb.os.trans h.os, hb.tape.trans h.tape, hb.output.trans h.output, Nat.le_trans h.size hb.size, fun k hk hs => (hb.block k (Nat.lt_of_lt_of_le hk h.size)).trans (h.block k hk hs)⟩
theorem Far.grown {S : Nat → Prop} {w w' w'' : World} {r : Option Nat} (h : Far S w w') (hb : w'.grownBy w'' r) (hr : ∀ k, r = some k → S k) : Far S w w'' :=
  ⟨hb.os.trans h.os, hb.tape.trans h.tape, hb.output.trans h.output, Nat.le_trans h.size hb.size, fun k hk hs => (hb.block k (Nat.lt_of_lt_of_le hk h.size) (fun e => hs (hr k e.symm))).trans (h.block k hk hs)⟩
theorem Far.toBelow {S : Nat → Prop} {w w' : World} {E : Nat} (h : Far S w w') (hE : E ≤ w.heap.size) (hs : ∀ k, S k → E ≤ k) : Below E w w' :=
  ⟨h.os, h.tape, h.output, h.size, fun k hk => h.block k (by omega) (fun c => by have := hs k c; omega)⟩
theorem own_in {w : World} {b e s n : Nat} {v : Value} {xs : List Value} {k : Nat} (h : w.ownsRow b e s v n xs) (hk : v.ownBlock = some k) : b ≤ k ∧ k < w.heap.size := by
  rcases h.2 with ⟨rfl, _⟩ | ⟨g, cap, cur, rfl, hb, hg, _⟩
  · cases hk
  · obtain rfl : g = k := by simpa [Value.ownBlock] using hk
    exact ⟨hb, (Array.getElem?_eq_some_iff.1 hg).1⟩
theorem owns_same {w w' : World} {b e s n : Nat} {v : Value} {xs : List Value} (h : w.ownsRow b e s v n xs) (hs : ∀ k, v.ownBlock = some k → w'.heap[k]? = w.heap[k]?) : w'.ownsRow b e s v n xs := by
  refine ⟨h.1, ?_⟩
  rcases h.2 with hn | ⟨g, cap, cur, rfl, hb, hg, hr⟩
  · exact .inl hn
  · exact .inr ⟨g, cap, cur, rfl, hb, (hs g rfl).trans hg, hr⟩
/-- A row that may be written, so long. -/
def isOwn (n : Nat) (ok : Nat → Prop) : Value → World → Prop := fun u w => ∃ g cap cur, u = .slice (some ⟨g, 0, none⟩) n cap ∧ w.heap[g]? = some (.cells cur 41 (0, 0)) ∧ n * 2 ≤ cur.size ∧ n ≤ cap ∧ ok g
def isBs (H : Nat) : Value → World → Prop := fun u w => ∃ g, u = .slice (some ⟨g, 0, none⟩) 1 1 ∧ w.heap[g]? = some (.cells #[.int .i32 (-9), .int .i32 (-9)] 41 (0, 0)) ∧ H ≤ g
theorem isOwn.below {n : Nat} {ok : Nat → Prop} {u : Value} {w w' : World} (h : isOwn n ok u w) (hb : Below w.heap.size w w') : isOwn n ok u w' := by
  obtain ⟨g, cap, cur, h1, h2, h3⟩ := h
  exact ⟨g, cap, cur, h1, below_at h2 hb, h3⟩
theorem isBs.below {H : Nat} {u : Value} {w w' : World} (h : isBs H u w) (hb : Below w.heap.size w w') : isBs H u w' := by
  obtain ⟨g, h1, h2, h3⟩ := h
  exact ⟨g, h1, below_at h2 hb, h3⟩
theorem isOwn.grown {n : Nat} {ok : Nat → Prop} {u : Value} {w w' : World} {r : Option Nat} (h : isOwn n ok u w) (hb : w.grownBy w' r) (hr : ∀ k, ok k → r ≠ some k) : isOwn n ok u w' := by
  obtain ⟨g, cap, cur, h1, h2, h3, h5, h4⟩ := h
  exact ⟨g, cap, cur, h1, (hb.block g (Array.getElem?_eq_some_iff.1 h2).1 (fun e => hr g h4 e.symm)).trans h2, h3, h5, h4⟩
theorem isBs.grown {H : Nat} {u : Value} {w w' : World} {r : Option Nat} (h : isBs H u w) (hb : w.grownBy w' r) (hr : ∀ k, r = some k → k < H) : isBs H u w' := by
  obtain ⟨g, h1, h2, h4⟩ := h
  exact ⟨g, h1, (hb.block g (Array.getElem?_eq_some_iff.1 h2).1 (fun e => by have := hr g e.symm; omega)).trans h2, h4⟩
def okB (v : Value) (H : Nat) : Nat → Prop := fun k => v.ownBlock = some k ∨ H ≤ k
def three (vx vr vv : Value) : Nat → Prop := fun k => vx.ownBlock = some k ∨ vr.ownBlock = some k ∨ vv.ownBlock = some k
def VM (vx vr vv : Value) (nx nr nv H : Nat) : (Nat → Bool) → Nat → Value → World → Prop := fun _ i u w => match i with
  | 0 => u = vx
  | 1 => u = .agg #[.int .i32 (-9), .int .i32 (-9)]
  | 2 => isBs H u w
  | 3 => isOwn (nx + 1) (okB vx H) u w
  | 4 => u = vr
  | 5 => u = .agg #[.int .i32 (-9), .int .i32 (-9)]
  | 6 => isBs H u w
  | 7 => isOwn (nr + 1) (okB vr H) u w
  | 8 => u = vv
  | 9 => u = .agg #[.int .i32 (-9), .int .i32 (-9)]
  | 10 => isBs H u w
  | 11 => isOwn (nv + 1) (okB vv H) u w
  | 12 => isOwn (nx + 1) (okB vx H) u w
  | 13 => isOwn (nr + 1) (okB vr H) u w
  | 14 => isOwn (nv + 1) (okB vv H) u w
  | _ => True
def GM (E : Nat) (vx vr vv : Value) (nx nr nv : Nat) (Lx Lr Lv : List Value) (w0 : World) : (Nat → Bool) → World → Prop := fun s w =>
  Far (three vx vr vv) w0 w ∧ (s 3 = false → w.ownsRow E 41 2 vx nx Lx) ∧ (s 7 = false → w.ownsRow E 41 2 vr nr Lr) ∧ (s 11 = false → w.ownsRow E 41 2 vv nv Lv)
theorem vm_below {vx vr vv : Value} {nx nr nv H : Nat} {s s' : Nat → Bool} (j : Nat) {u : Value} {w w' : World} (h : VM vx vr vv nx nr nv H s j u w) (hb : Below w.heap.size w w') : VM vx vr vv nx nr nv H s' j u w' := by
  unfold VM at *
  match j with
  | 0 => exact h
  | 1 => exact h
  | 2 => exact isBs.below h hb
  | 3 => exact isOwn.below h hb
  | 4 => exact h
  | 5 => exact h
  | 6 => exact isBs.below h hb
  | 7 => exact isOwn.below h hb
  | 8 => exact h
  | 9 => exact h
  | 10 => exact isBs.below h hb
  | 11 => exact isOwn.below h hb
  | 12 => exact isOwn.below h hb
  | 13 => exact isOwn.below h hb
  | 14 => exact isOwn.below h hb
  | _ + 15 => trivial
theorem mark_same {s : Nat → Bool} {i j : Nat} (h : mark s i j = false) : s j = false := by
  unfold mark at h; split at h <;> simp_all
theorem gm_below {E : Nat} {vx vr vv : Value} {nx nr nv : Nat} {Lx Lr Lv : List Value} {w0 : World} {s : Nat → Bool} {w w' : World} (i : Nat) (h : GM E vx vr vv nx nr nv Lx Lr Lv w0 s w) (hb : Below w.heap.size w w') : GM E vx vr vv nx nr nv Lx Lr Lv w0 (mark s i) w' :=
  ⟨h.1.below hb, fun c => owns_below (h.2.1 (mark_same c)) hb, fun c => owns_below (h.2.2.1 (mark_same c)) hb, fun c => owns_below (h.2.2.2 (mark_same c)) hb⟩
theorem gm_calm (E : Nat) (vx vr vv : Value) (nx nr nv : Nat) (Lx Lr Lv : List Value) (w0 : World) (H i : Nat) : Calm (GM E vx vr vv nx nr nv Lx Lr Lv w0) (VM vx vr vv nx nr nv H) i :=
  ⟨fun _ _ _ _ h hb => gm_below i h hb, fun _ j _ _ _ _ _ h hb => vm_below j h hb⟩
set_option maxRecDepth 100000 in
set_option maxHeartbeats 2000000 in
theorem mem_R {Q : Exit → Act → World → Prop} (vx vr vv va vb v5 v6 vy vz vm vn : Value) (nx nr nv : Nat) (Lx Lr Lv : List Value) (E gm : Nat) (a : Act) (w0 : World) (hx : w0.ownsRow E 41 2 vx nx Lx) (hr : w0.ownsRow E 41 2 vr nr Lr) (hv : w0.ownsRow E 41 2 vv nv Lv)
    (d1 : ∀ k, vx.ownBlock = some k → vr.ownBlock = some k → False) (d2 : ∀ k, vx.ownBlock = some k → vv.ownBlock = some k → False) (d3 : ∀ k, vr.ownBlock = some k → vv.ownBlock = some k → False)
    (hm : w0.heap[gm]? = some (.cells #[.int .i32 (-9), .int .i32 (-9)] 41 (0, 0))) (hmS : ¬ three vx vr vv gm) (hE : E ≤ w0.heap.size) (lx : nx ≤ 1000000) (lr : nr ≤ 1000000) (lv : nv ≤ 1000000)
    (hK : Hid (∀ a w' ux ur uv, Far (three vx vr vv) w0 w' → isOwn (nx + 1) (okB vx w0.heap.size) ux w' → isOwn (nr + 1) (okB vr w0.heap.size) ur w' → isOwn (nv + 1) (okB vv w0.heap.size) uv w' → At 139 [(0, va), (1, vb), (5, v5), (6, v6), (7, ux), (10, vy), (12, vz), (14, ur), (17, uv), (19, vm), (20, vn), (21, .pointer (some ⟨gm, 0, none⟩))] a → Code.wp Try.prog (sq 11 body4) Q a w')) (ha : At 139 [(0, va), (1, vb), (5, v5), (6, v6), (7, vx), (10, vy), (12, vz), (14, vr), (17, vv), (19, vm), (20, vn), (21, .pointer (some ⟨gm, 0, none⟩))] a) : Code.wp Try.prog (sq 10 body4) Q a w0 := by
  obtain ⟨i0, hi, hz0, hz1, hz2⟩ := info_parts info57
  have bx : ∀ k, vx.ownBlock = some k → k < w0.heap.size := fun k h => (own_in hx h).2
  have br : ∀ k, vr.ownBlock = some k → k < w0.heap.size := fun k h => (own_in hr h).2
  have bv : ∀ k, vv.ownBlock = some k → k < w0.heap.size := fun k h => (own_in hv h).2
  have hgm := (Array.getElem?_eq_some_iff.1 hm).1
  obtain ⟨f, rfl, h0, h1, h5, h6, h7, h10, h12, h14, h17, h19, h20, h21, -⟩ := ha.lit
  change Code.wp _ _ _ ⟨#[f 0, f 1, f 2, f 3, f 4, f 5, f 6, f 7, f 8, f 9, f 10, f 11, f 12, f 13, f 14, f 15, f 16, f 17, f 18, f 19, f 20, f 21, f 22, f 23, f 24, f 25, f 26, f 27, f 28, f 29, f 30, f 31, f 32, f 33, f 34, f 35, f 36, f 37, f 38, f 39, f 40, f 41, f 42, f 43, f 44, f 45, f 46, f 47, f 48, f 49, f 50, f 51, f 52, f 53, f 54, f 55, f 56, f 57, f 58, f 59, f 60, f 61, f 62, f 63, f 64, f 65, f 66, f 67, f 68, f 69, f 70, f 71, f 72, f 73, f 74, f 75, f 76, f 77, f 78, f 79, f 80, f 81, f 82, f 83, f 84, f 85, f 86, f 87, f 88, f 89, f 90, f 91, f 92, f 93, f 94, f 95, f 96, f 97, f 98, f 99, f 100, f 101, f 102, f 103, f 104, f 105, f 106, f 107, f 108, f 109, f 110, f 111, f 112, f 113, f 114, f 115, f 116, f 117, f 118, f 119, f 120, f 121, f 122, f 123, f 124, f 125, f 126, f 127, f 128, f 129, f 130, f 131, f 132, f 133, f 134, f 135, f 136, f 137, f 138], []⟩ _
  simp only at h0 h1 h5 h6 h7 h10 h12 h14 h17 h19 h20 h21
  simp only [h0, h1, h5, h6, h7, h10, h12, h14, h17, h19, h20, h21]
  clear h0 h1 h5 h6 h7 h10 h12 h14 h17 h19 h20 h21
  change Code.wp _ (Code.seq (hd (sq 10 body4)) (sq 11 body4)) _ _ _
  generalize sq 11 body4 = REST at hK ⊢
  conv => arg 2; arg 1; whnf
  refine wp_seq ?_
  refine wp_region_turn (GM E vx vr vv nx nr nv Lx Lr Lv w0) (VM vx vr vv nx nr nv w0.heap.size) 139 rfl (by kernel_rfl) (by kernel_rfl) (fun w1 hb _ s _ => ⟨(Far.refl _ _).below hb, fun _ => owns_below hx hb, fun _ => owns_below hr hb, fun _ => owns_below hv hb⟩) ⟨?o0, ?o1, ?o2, ?o3, ?o4, ?o5, ?o6, ?o7, ?o8, ?o9, ?o10, ?o11, ?o12, ?o13, ?o14, trivial⟩ ?hdone
  case o0 => exact FlowOp4.plain (gm_calm _ _ _ _ _ _ _ _ _ _ _ _ 0) fun a w s cx => ⟨wanted_none rfl, fun K hK => wp_gen [(7, vx)] ⟨cx.keep 7 _ (by kernel_rfl) rfl, trivial⟩ (by kernel_rfl) (by kernel_rfl) (hK.out _ w (show VM _ _ _ _ _ _ _ _ 0 _ _ from rfl) (Below.refl _ _))⟩
  case o4 => exact FlowOp4.plain (gm_calm _ _ _ _ _ _ _ _ _ _ _ _ 4) fun a w s cx => ⟨wanted_none rfl, fun K hK => wp_gen [(14, vr)] ⟨cx.keep 14 _ (by kernel_rfl) rfl, trivial⟩ (by kernel_rfl) (by kernel_rfl) (hK.out _ w (show VM _ _ _ _ _ _ _ _ 4 _ _ from rfl) (Below.refl _ _))⟩
  case o8 => exact FlowOp4.plain (gm_calm _ _ _ _ _ _ _ _ _ _ _ _ 8) fun a w s cx => ⟨wanted_none rfl, fun K hK => wp_gen [(17, vv)] ⟨cx.keep 17 _ (by kernel_rfl) rfl, trivial⟩ (by kernel_rfl) (by kernel_rfl) (hK.out _ w (show VM _ _ _ _ _ _ _ _ 8 _ _ from rfl) (Below.refl _ _))⟩
  case o1 => exact FlowOp4.plain (gm_calm _ _ _ _ _ _ _ _ _ _ _ _ 1) fun a w s cx => ⟨wanted_none rfl, fun K hK => by
      obtain ⟨gF, -⟩ : GM E vx vr vv nx nr nv Lx Lr Lv w0 s w := cx.ground
      have hc := (gF.block gm hgm hmS).trans hm
      exact wp_gen [(21, .pointer (some ⟨gm, 0, none⟩))] ⟨cx.keep 21 _ (by kernel_rfl) rfl, trivial⟩ (by kernel_rfl) (run_read rfl rfl (run_l57 ((cell_of_row w gm 0 _ 41 (0, 0) hc).trans rfl) ((cell_of_row w gm 1 _ 41 (0, 0) hc).trans rfl))) (hK.out _ w (show VM _ _ _ _ _ _ _ _ 1 _ _ from rfl) (Below.refl _ _))⟩
  case o5 => exact FlowOp4.plain (gm_calm _ _ _ _ _ _ _ _ _ _ _ _ 5) fun a w s cx => ⟨wanted_none rfl, fun K hK => by
      obtain ⟨gF, -⟩ : GM E vx vr vv nx nr nv Lx Lr Lv w0 s w := cx.ground
      have hc := (gF.block gm hgm hmS).trans hm
      exact wp_gen [(21, .pointer (some ⟨gm, 0, none⟩))] ⟨cx.keep 21 _ (by kernel_rfl) rfl, trivial⟩ (by kernel_rfl) (run_read rfl rfl (run_l57 ((cell_of_row w gm 0 _ 41 (0, 0) hc).trans rfl) ((cell_of_row w gm 1 _ 41 (0, 0) hc).trans rfl))) (hK.out _ w (show VM _ _ _ _ _ _ _ _ 5 _ _ from rfl) (Below.refl _ _))⟩
  case o9 => exact FlowOp4.plain (gm_calm _ _ _ _ _ _ _ _ _ _ _ _ 9) fun a w s cx => ⟨wanted_none rfl, fun K hK => by
      obtain ⟨gF, -⟩ : GM E vx vr vv nx nr nv Lx Lr Lv w0 s w := cx.ground
      have hc := (gF.block gm hgm hmS).trans hm
      exact wp_gen [(21, .pointer (some ⟨gm, 0, none⟩))] ⟨cx.keep 21 _ (by kernel_rfl) rfl, trivial⟩ (by kernel_rfl) (run_read rfl rfl (run_l57 ((cell_of_row w gm 0 _ 41 (0, 0) hc).trans rfl) ((cell_of_row w gm 1 _ 41 (0, 0) hc).trans rfl))) (hK.out _ w (show VM _ _ _ _ _ _ _ _ 9 _ _ from rfl) (Below.refl _ _))⟩
  case o2 => exact FlowOp4.plain (gm_calm _ _ _ _ _ _ _ _ _ _ _ _ 2) fun a w s cx => ⟨wanted_none rfl, fun K hK => by
      obtain ⟨v1, e1, r1⟩ := cx.slot 1 77 (by kernel_rfl)
      obtain rfl : v1 = _ := r1
      obtain ⟨gF, -⟩ : GM E vx vr vv nx nr nv Lx Lr Lv w0 s w := cx.ground
      exact wp_gen [(77, .agg #[.int .i32 (-9), .int .i32 (-9)])] ⟨e1, trivial⟩ (by kernel_rfl) (exec_bs rfl rfl) (hK.out _ _ (show isBs _ _ _ from ⟨w.heap.size, rfl, heap_alloc_new w _, gF.size⟩) ((Below.refl _ w).alloc (Nat.le_refl _) _))⟩
  case o6 => exact FlowOp4.plain (gm_calm _ _ _ _ _ _ _ _ _ _ _ _ 6) fun a w s cx => ⟨wanted_none rfl, fun K hK => by
      obtain ⟨v1, e1, r1⟩ := cx.slot 5 81 (by kernel_rfl)
      obtain rfl : v1 = _ := r1
      obtain ⟨gF, -⟩ : GM E vx vr vv nx nr nv Lx Lr Lv w0 s w := cx.ground
      exact wp_gen [(81, .agg #[.int .i32 (-9), .int .i32 (-9)])] ⟨e1, trivial⟩ (by kernel_rfl) (exec_bs rfl rfl) (hK.out _ _ (show isBs _ _ _ from ⟨w.heap.size, rfl, heap_alloc_new w _, gF.size⟩) ((Below.refl _ w).alloc (Nat.le_refl _) _))⟩
  case o10 => exact FlowOp4.plain (gm_calm _ _ _ _ _ _ _ _ _ _ _ _ 10) fun a w s cx => ⟨wanted_none rfl, fun K hK => by
      obtain ⟨v1, e1, r1⟩ := cx.slot 9 85 (by kernel_rfl)
      obtain rfl : v1 = _ := r1
      obtain ⟨gF, -⟩ : GM E vx vr vv nx nr nv Lx Lr Lv w0 s w := cx.ground
      exact wp_gen [(85, .agg #[.int .i32 (-9), .int .i32 (-9)])] ⟨e1, trivial⟩ (by kernel_rfl) (exec_bs rfl rfl) (hK.out _ _ (show isBs _ _ _ from ⟨w.heap.size, rfl, heap_alloc_new w _, gF.size⟩) ((Below.refl _ w).alloc (Nat.le_refl _) _))⟩
  case o3 =>
    exact FlowOp4.turn fun a w s cx => ⟨wanted_none rfl, fun K hK => by
      obtain ⟨v1, e1, r1⟩ := cx.slot 0 76 (by kernel_rfl)
      obtain ⟨v2, e2, r2⟩ := cx.slot 2 78 (by kernel_rfl)
      have r1 : v1 = vx := r1
      rw [r1] at e1
      clear r1
      obtain ⟨g, rfl, hg, hgH⟩ : isBs w0.heap.size v2 w := r2
      obtain ⟨gF, gX, gR, gV⟩ : GM E vx vr vv nx nr nv Lx Lr Lv w0 s w := cx.ground
      have hO : w.ownsRow E 41 2 vx nx Lx := gX cx.new
      refine wp_append_lies w (.tmp 76) (.tmp 78) 22 rfl E 41 i0 _ 2 8 Try.underlying22 hi hz0 hz1 hz2 rfl (by decide) vx nx Lx (ev_tmp e1) hO ⟨g, 0, none⟩ 1 1 #[.int .i32 (-9), .int .i32 (-9)].toList (ev_tmp e2) rfl (World.news_of_block hg) (by simp [Value.oneCell']) (by decide) (by unfold maxLen; omega) (by omega) (Nat.le_trans hE gF.size) w.heap.size rfl fun g' cap w' hown' hgrow hat hlt => ?_
      have hgr : ∀ k, vx.ownBlock = some k → k < w0.heap.size := fun k h => bx k h
      refine hK.out _ w' ⟨gF.grown hgrow (fun k h => .inl h), ?g1, ?g2, ?g3⟩ ?gv ?gj
      case gv =>
        rcases hown'.2 with ⟨hn, _⟩ | ⟨g2, cap2, cur, hn, _, hc, hc1, _, hc2, _⟩
        · cases hn
        · cases hn
          refine ⟨_, _, cur, rfl, hc, by omega, hc1, ?_⟩
          rcases hat with h | h
          · exact .inl h
          · exact .inr (by have := gF.size; omega)
      case g1 => intro h; simp [mark] at h
      case g2 => exact fun h => owns_same (gR (mark_same h)) (fun k hk => hgrow.block k (own_in (gR (mark_same h)) hk).2 (fun hq => by have hq := hq.symm; exact d1 k hq hk))
      case g3 => exact fun h => owns_same (gV (mark_same h)) (fun k hk => hgrow.block k (own_in (gV (mark_same h)) hk).2 (fun hq => by have hq := hq.symm; exact d2 k hq hk))
      case gj =>
        intro j u hj hu
        have hBs : ∀ u, isBs w0.heap.size u w → isBs w0.heap.size u w' := fun u h => h.grown hgrow hgr
        have hvr : ∀ u n, isOwn n (okB vr w0.heap.size) u w → isOwn n (okB vr w0.heap.size) u w' := fun u n h => h.grown hgrow (fun k hk hq => by
          rcases hk with hk | hk
          · exact d1 k hq hk
          · have := hgr k hq; omega)
        have hvv : ∀ u n, isOwn n (okB vv w0.heap.size) u w → isOwn n (okB vv w0.heap.size) u w' := fun u n h => h.grown hgrow (fun k hk hq => by
          rcases hk with hk | hk
          · exact d2 k hq hk
          · have := hgr k hq; omega)
        have hno : s 3 = false := cx.new
        unfold VM at *
        match j with
        | 0 => exact hu
        | 1 => exact hu
        | 2 => exact hBs _ hu
        | 3 => rw [hno] at hj; cases hj
        | 4 => exact hu
        | 5 => exact hu
        | 6 => exact hBs _ hu
        | 7 => exact hvr _ _ hu
        | 8 => exact hu
        | 9 => exact hu
        | 10 => exact hBs _ hu
        | 11 => exact hvv _ _ hu
        | 12 => have := cx.down 12 _ rfl hj 3 (by kernel_rfl); rw [hno] at this; cases this
        | 13 => exact hvr _ _ hu
        | 14 => exact hvv _ _ hu
        | _ + 15 => trivial⟩
  case o7 =>
    exact FlowOp4.turn fun a w s cx => ⟨wanted_none rfl, fun K hK => by
      obtain ⟨v1, e1, r1⟩ := cx.slot 4 80 (by kernel_rfl)
      obtain ⟨v2, e2, r2⟩ := cx.slot 6 82 (by kernel_rfl)
      have r1 : v1 = vr := r1
      rw [r1] at e1
      clear r1
      obtain ⟨g, rfl, hg, hgH⟩ : isBs w0.heap.size v2 w := r2
      obtain ⟨gF, gX, gR, gV⟩ : GM E vx vr vv nx nr nv Lx Lr Lv w0 s w := cx.ground
      have hO : w.ownsRow E 41 2 vr nr Lr := gR cx.new
      refine wp_append_lies w (.tmp 80) (.tmp 82) 22 rfl E 41 i0 _ 2 8 Try.underlying22 hi hz0 hz1 hz2 rfl (by decide) vr nr Lr (ev_tmp e1) hO ⟨g, 0, none⟩ 1 1 #[.int .i32 (-9), .int .i32 (-9)].toList (ev_tmp e2) rfl (World.news_of_block hg) (by simp [Value.oneCell']) (by decide) (by unfold maxLen; omega) (by omega) (Nat.le_trans hE gF.size) w.heap.size rfl fun g' cap w' hown' hgrow hat hlt => ?_
      have hgr : ∀ k, vr.ownBlock = some k → k < w0.heap.size := fun k h => br k h
      refine hK.out _ w' ⟨gF.grown hgrow (fun k h => .inr (.inl h)), ?g1, ?g2, ?g3⟩ ?gv ?gj
      case gv =>
        rcases hown'.2 with ⟨hn, _⟩ | ⟨g2, cap2, cur, hn, _, hc, hc1, _, hc2, _⟩
        · cases hn
        · cases hn
          refine ⟨_, _, cur, rfl, hc, by omega, hc1, ?_⟩
          rcases hat with h | h
          · exact .inl h
          · exact .inr (by have := gF.size; omega)
      case g1 => exact fun h => owns_same (gX (mark_same h)) (fun k hk => hgrow.block k (own_in (gX (mark_same h)) hk).2 (fun hq => by have hq := hq.symm; exact d1 k hk hq))
      case g2 => intro h; simp [mark] at h
      case g3 => exact fun h => owns_same (gV (mark_same h)) (fun k hk => hgrow.block k (own_in (gV (mark_same h)) hk).2 (fun hq => by have hq := hq.symm; exact d3 k hq hk))
      case gj =>
        intro j u hj hu
        have hBs : ∀ u, isBs w0.heap.size u w → isBs w0.heap.size u w' := fun u h => h.grown hgrow hgr
        have hvx : ∀ u n, isOwn n (okB vx w0.heap.size) u w → isOwn n (okB vx w0.heap.size) u w' := fun u n h => h.grown hgrow (fun k hk hq => by
          rcases hk with hk | hk
          · exact d1 k hk hq
          · have := hgr k hq; omega)
        have hvv : ∀ u n, isOwn n (okB vv w0.heap.size) u w → isOwn n (okB vv w0.heap.size) u w' := fun u n h => h.grown hgrow (fun k hk hq => by
          rcases hk with hk | hk
          · exact d3 k hq hk
          · have := hgr k hq; omega)
        have hno : s 7 = false := cx.new
        unfold VM at *
        match j with
        | 0 => exact hu
        | 1 => exact hu
        | 2 => exact hBs _ hu
        | 3 => exact hvx _ _ hu
        | 4 => exact hu
        | 5 => exact hu
        | 6 => exact hBs _ hu
        | 7 => rw [hno] at hj; cases hj
        | 8 => exact hu
        | 9 => exact hu
        | 10 => exact hBs _ hu
        | 11 => exact hvv _ _ hu
        | 12 => exact hvx _ _ hu
        | 13 => have := cx.down 13 _ rfl hj 7 (by kernel_rfl); rw [hno] at this; cases this
        | 14 => exact hvv _ _ hu
        | _ + 15 => trivial⟩
  case o11 =>
    exact FlowOp4.turn fun a w s cx => ⟨wanted_none rfl, fun K hK => by
      obtain ⟨v1, e1, r1⟩ := cx.slot 8 84 (by kernel_rfl)
      obtain ⟨v2, e2, r2⟩ := cx.slot 10 86 (by kernel_rfl)
      have r1 : v1 = vv := r1
      rw [r1] at e1
      clear r1
      obtain ⟨g, rfl, hg, hgH⟩ : isBs w0.heap.size v2 w := r2
      obtain ⟨gF, gX, gR, gV⟩ : GM E vx vr vv nx nr nv Lx Lr Lv w0 s w := cx.ground
      have hO : w.ownsRow E 41 2 vv nv Lv := gV cx.new
      refine wp_append_lies w (.tmp 84) (.tmp 86) 22 rfl E 41 i0 _ 2 8 Try.underlying22 hi hz0 hz1 hz2 rfl (by decide) vv nv Lv (ev_tmp e1) hO ⟨g, 0, none⟩ 1 1 #[.int .i32 (-9), .int .i32 (-9)].toList (ev_tmp e2) rfl (World.news_of_block hg) (by simp [Value.oneCell']) (by decide) (by unfold maxLen; omega) (by omega) (Nat.le_trans hE gF.size) w.heap.size rfl fun g' cap w' hown' hgrow hat hlt => ?_
      have hgr : ∀ k, vv.ownBlock = some k → k < w0.heap.size := fun k h => bv k h
      refine hK.out _ w' ⟨gF.grown hgrow (fun k h => .inr (.inr h)), ?g1, ?g2, ?g3⟩ ?gv ?gj
      case gv =>
        rcases hown'.2 with ⟨hn, _⟩ | ⟨g2, cap2, cur, hn, _, hc, hc1, _, hc2, _⟩
        · cases hn
        · cases hn
          refine ⟨_, _, cur, rfl, hc, by omega, hc1, ?_⟩
          rcases hat with h | h
          · exact .inl h
          · exact .inr (by have := gF.size; omega)
      case g1 => exact fun h => owns_same (gX (mark_same h)) (fun k hk => hgrow.block k (own_in (gX (mark_same h)) hk).2 (fun hq => by have hq := hq.symm; exact d2 k hk hq))
      case g2 => exact fun h => owns_same (gR (mark_same h)) (fun k hk => hgrow.block k (own_in (gR (mark_same h)) hk).2 (fun hq => by have hq := hq.symm; exact d3 k hk hq))
      case g3 => intro h; simp [mark] at h
      case gj =>
        intro j u hj hu
        have hBs : ∀ u, isBs w0.heap.size u w → isBs w0.heap.size u w' := fun u h => h.grown hgrow hgr
        have hvx : ∀ u n, isOwn n (okB vx w0.heap.size) u w → isOwn n (okB vx w0.heap.size) u w' := fun u n h => h.grown hgrow (fun k hk hq => by
          rcases hk with hk | hk
          · exact d2 k hk hq
          · have := hgr k hq; omega)
        have hvr : ∀ u n, isOwn n (okB vr w0.heap.size) u w → isOwn n (okB vr w0.heap.size) u w' := fun u n h => h.grown hgrow (fun k hk hq => by
          rcases hk with hk | hk
          · exact d3 k hk hq
          · have := hgr k hq; omega)
        have hno : s 11 = false := cx.new
        unfold VM at *
        match j with
        | 0 => exact hu
        | 1 => exact hu
        | 2 => exact hBs _ hu
        | 3 => exact hvx _ _ hu
        | 4 => exact hu
        | 5 => exact hu
        | 6 => exact hBs _ hu
        | 7 => exact hvr _ _ hu
        | 8 => exact hu
        | 9 => exact hu
        | 10 => exact hBs _ hu
        | 11 => rw [hno] at hj; cases hj
        | 12 => exact hvx _ _ hu
        | 13 => exact hvr _ _ hu
        | 14 => have := cx.down 14 _ rfl hj 11 (by kernel_rfl); rw [hno] at this; cases this
        | _ + 15 => trivial⟩
  case o12 => exact FlowOp4.plain (gm_calm _ _ _ _ _ _ _ _ _ _ _ _ 12) fun a w s cx => ⟨wanted_none rfl, fun K hK => by
      obtain ⟨v1, e1, r1⟩ := cx.slot 3 79 (by kernel_rfl)
      have r1 : isOwn (nx + 1) (okB vx w0.heap.size) v1 w := r1
      exact wp_gen [(79, v1)] ⟨e1, trivial⟩ (by kernel_rfl) (by kernel_rfl) (hK.out _ w r1 (Below.refl _ _))⟩
  case o13 => exact FlowOp4.plain (gm_calm _ _ _ _ _ _ _ _ _ _ _ _ 13) fun a w s cx => ⟨wanted_none rfl, fun K hK => by
      obtain ⟨v1, e1, r1⟩ := cx.slot 7 83 (by kernel_rfl)
      have r1 : isOwn (nr + 1) (okB vr w0.heap.size) v1 w := r1
      exact wp_gen [(83, v1)] ⟨e1, trivial⟩ (by kernel_rfl) (by kernel_rfl) (hK.out _ w r1 (Below.refl _ _))⟩
  case o14 => exact FlowOp4.plain (gm_calm _ _ _ _ _ _ _ _ _ _ _ _ 14) fun a w s cx => ⟨wanted_none rfl, fun K hK => by
      obtain ⟨v1, e1, r1⟩ := cx.slot 11 87 (by kernel_rfl)
      have r1 : isOwn (nv + 1) (okB vv w0.heap.size) v1 w := r1
      exact wp_gen [(87, v1)] ⟨e1, trivial⟩ (by kernel_rfl) (by kernel_rfl) (hK.out _ w r1 (Below.refl _ _))⟩
  case hdone =>
    intro a w s hs hg hz hdf hk hgot
    obtain ⟨ux, e7, r7⟩ := got_slot4 hgot 12 7 (by kernel_rfl)
    obtain ⟨ur, e14, r14⟩ := got_slot4 hgot 13 14 (by kernel_rfl)
    obtain ⟨uv, e17, r17⟩ := got_slot4 hgot 14 17 (by kernel_rfl)
    exact hK.out a w ux ur uv hg.1 r7 r14 r17 ⟨hz, hdf, (hk 0 (by kernel_rfl)).trans rfl, (hk 1 (by kernel_rfl)).trans rfl, (hk 5 (by kernel_rfl)).trans rfl, (hk 6 (by kernel_rfl)).trans rfl, e7, (hk 10 (by kernel_rfl)).trans rfl, (hk 12 (by kernel_rfl)).trans rfl, e14, e17, (hk 19 (by kernel_rfl)).trans rfl, (hk 20 (by kernel_rfl)).trans rfl, (hk 21 (by kernel_rfl)).trans rfl, trivial⟩
end Go.Proofs.Ytddoanmhikldiab
