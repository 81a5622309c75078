/-
  The contract of the document's Named: the row of the set that has this number, or of none and the error. No condition.
-/
import Derived.Test.YtoliiccmfmgmlaaDoorRs
import Derived.Test.YtoliiccmfmgmlaaDoorFs
namespace Go.Proofs.YtoliiccmfmgmlaaDoor
open Go.RowKit
/-- Block b holds the row of the set p. -/
def Hr (wr : World) (b : Nat) (p : Nat → Bool) : Prop := isRow wr b 256 ∧ rowIn wr b = (rowOf .u8 256 (b01 p))
theorem Hr.lt {wr : World} {b : Nat} {p : Nat → Bool} (h : Hr wr b p) : b < wr.heap.size := by
  obtain ⟨⟨cs, t, hg, _⟩, _⟩ := h
  exact (Array.getElem?_eq_some_iff.1 hg).1
theorem Hr.below {wr w1 : World} {B b : Nat} {p : Nat → Bool} (h : Hr wr b p) (hb : Below B wr w1) (hB : b < B) : Hr w1 b p := by
  obtain ⟨h1, h2⟩ := h
  refine ⟨?_, ?_⟩
  · unfold isRow; rw [hb.block b hB]; exact h1
  · unfold rowIn; rw [hb.block b hB]; exact h2
theorem Hr.alloc {wr : World} {b : Nat} {p : Nat → Bool} (h : Hr wr b p) (o : Obj) : Hr (wr.alloc o) b p :=
  h.below ((Below.refl wr.heap.size wr).alloc (Nat.le_refl _) o) h.lt
theorem Hr.new (w : World) (p : Nat → Bool) (t : TypeId) : Hr (w.alloc (.cells (rowOf .u8 256 (b01 p)) t)) w.heap.size p :=
  ⟨by rw [isRow_at _ _ _ _ _ rfl]; exact rowOf_size _ _ _, rowIn_at _ _ _ _ rfl⟩
theorem row_none : (rowOf .u8 256 (b01 (fun _ => false))) = (rowOf .u8 256 fun _ => 0) := rowOf_congr .u8 256 _ _ fun _ _ => rfl
theorem row_congr {p q : Nat → Bool} (h : ∀ j, j < 256 → p j = q j) : (rowOf .u8 256 (b01 p)) = (rowOf .u8 256 (b01 q)) := rowOf_congr .u8 256 _ _ fun i hi => by unfold b01; rw [h i hi]
theorem from_zero (a b : Nat) (w : World) (ha : a < 256) (hb : b < 256) : Calls Tryd.prog 29 #[.agg (rowOf .u8 256 fun _ => 0), .int .i64 a, .int .i64 b] w fun e w' => e = .returned (.agg (rowOf .u8 256 (b01 (fromP (fun _ => false) a (b + 1))))) ∧ Below w.heap.size w w' := by
  have := from_any (fun _ => false) a b w ha hb
  rw [row_none] at this
  exact this
theorem with_zero (s : ByteArray) (w : World) (hs : s.size ≤ maxLen) : Calls Tryd.prog 30 #[.agg (rowOf .u8 256 fun _ => 0), .string s] w fun e w' => e = .returned (.agg (rowOf .u8 256 (b01 (withTo (fun _ => false) s s.size)))) ∧ Below w.heap.size w w' := by
  have := with_any (fun _ => false) s w hs
  rw [row_none] at this
  exact this
theorem isRow_set {W : World} {m : Nat} {c : Array Value} (h : isRow W m 256) (hc : c.size = 256) : isRow (W.setRow m c) m 256 := by
  obtain ⟨cs, t, hg, _⟩ := h
  exact ⟨c, t, setRow_heap W m cs c t (0, 0) hg, hc⟩
theorem rowIn_set {W : World} {m : Nat} {c : Array Value} (h : isRow W m 256) : rowIn (W.setRow m c) m = c := by
  obtain ⟨cs, t, hg, _⟩ := h
  unfold rowIn
  rw [setRow_heap W m cs c t (0, 0) hg]
theorem results2_ld {P : Program} {fn : Func} {p u : Tmp} {ty : TypeId} (h : fn.results = #[.cell p ty, .tmp u]) (tmps : Array Value) (w : World) (m n : Nat) {d : TypeDesc} (hp : tmps.getD p undef = .pointer (some ⟨m, 0, none⟩))
    (hu : P.underlying ty = some d) (hd : (match d with | .struct _ | .array _ _ => true | _ => false) = true) (hi : (P.info? ty).map (·.size) = some n) (cs : Array Value) (hr : isRow w m n) (hc : rowIn w m = cs) :
    (results fn tmps).run P w = .ok (.tuple #[.agg cs, tmps.getD u undef]) w := by
  obtain ⟨cs', t, hg, hn⟩ := hr
  have hr : rowIn w m = cs' := by unfold rowIn; rw [hg]
  rw [hr] at hc
  subst hc
  rw [results_cell_tmp h, hp]
  have hl := run_loadVar_row w m t ty cs' (0, 0) d hg hu hd (by rw [hn]; exact hi)
  simp [asAddr, Result.andThen, hl]
attribute [local go_sem] rowOf_size isRow_at isRow_past rowIn_at rowIn_past setRow_at
attribute [local go_sem] st_at
theorem c1 : (rowOf .u8 256 (b01 (fromP (fromP (fun _ => false) 0 (31 + 1)) 127 (255 + 1)))) = (rowOf .u8 256 (b01 (setP 1))) := row_congr (by decide +kernel)
theorem c2 : (rowOf .u8 256 (b01 (withTo (setP 1) ⟨#[32, 34, 60, 62, 96]⟩ (ByteArray.size ⟨#[32, 34, 60, 62, 96]⟩)))) = (rowOf .u8 256 (b01 (setP 2))) := row_congr (by decide +kernel)
theorem c3 : (rowOf .u8 256 (b01 (withTo (setP 1) ⟨#[32, 34, 35, 60, 62]⟩ (ByteArray.size ⟨#[32, 34, 35, 60, 62]⟩)))) = (rowOf .u8 256 (b01 (setP 3))) := row_congr (by decide +kernel)
theorem c4 : (rowOf .u8 256 (b01 (withTo (setP 3) ⟨#[39]⟩ (ByteArray.size ⟨#[39]⟩)))) = (rowOf .u8 256 (b01 (setP 4))) := row_congr (by decide +kernel)
theorem c5 : (rowOf .u8 256 (b01 (withTo (setP 3) ⟨#[63, 94, 96, 123, 125]⟩ (ByteArray.size ⟨#[63, 94, 96, 123, 125]⟩)))) = (rowOf .u8 256 (b01 (setP 5))) := row_congr (by decide +kernel)
theorem c6 : (rowOf .u8 256 (b01 (withTo (setP 5) ⟨#[47, 58, 59, 61, 64, 91, 92, 93, 124]⟩ (ByteArray.size ⟨#[47, 58, 59, 61, 64, 91, 92, 93, 124]⟩)))) = (rowOf .u8 256 (b01 (setP 6))) := row_congr (by decide +kernel)
theorem c7 : (rowOf .u8 256 (b01 (withTo (setP 6) ⟨#[36, 37, 38, 43, 44]⟩ (ByteArray.size ⟨#[36, 37, 38, 43, 44]⟩)))) = (rowOf .u8 256 (b01 (setP 7))) := row_congr (by decide +kernel)
theorem c8 : (rowOf .u8 256 (b01 (withTo (setP 7) ⟨#[33, 39, 40, 41, 126]⟩ (ByteArray.size ⟨#[33, 39, 40, 41, 126]⟩)))) = (rowOf .u8 256 (b01 (setP 8))) := row_congr (by decide +kernel)
theorem c9 : (rowOf .u8 256 (b01 (withTo (fun _ => false) ⟨#[0, 9, 10, 13, 32, 35, 47, 58, 60, 62, 63, 64, 91, 92, 93, 94, 124]⟩ (ByteArray.size ⟨#[0, 9, 10, 13, 32, 35, 47, 58, 60, 62, 63, 64, 91, 92, 93, 94, 124]⟩)))) = (rowOf .u8 256 (b01 (setP 9))) := row_congr (by decide +kernel)
theorem c10 : (rowOf .u8 256 (b01 (withTo (fromP (setP 9) 0 (31 + 1)) ⟨#[37, 127]⟩ (ByteArray.size ⟨#[37, 127]⟩)))) = (rowOf .u8 256 (b01 (setP 10))) := row_congr (by decide +kernel)

set_option maxRecDepth 100000 in
set_option maxHeartbeats 1600000 in
theorem rnamed_any (n : Int) (w : World) : Calls Tryd.prog 15 #[.int .i64 n] w fun e w' => e = .returned (.tuple #[.agg (rowOf .u8 256 (b01 (setP (nameK n)))), .int .i64 (nameE n)]) ∧ Below w.heap.size w w' := by
  obtain ⟨hz, hi⟩ := zero_of_info info35
  clear hi
  go_enter Tryd.func15, Tryd.ntmps15
  go_wp2_with fail
  refine (from_zero 0 31 _ (by omega) (by omega)).mono ?_
  rintro e w1 ⟨rfl, hb1⟩
  have h2a : Hr w1 w.heap.size (fun _ => false) := by
    have := Hr.new w (fun _ => false) 32
    rw [row_none] at this
    exact this.below hb1 (by simp)
  have hB1 : Below w.heap.size w w1 := ((Below.refl _ _).alloc (by simp) _).trans (hb1.mono (by simp))
  clear hb1
  go_wp2_with fail
  refine (from_any _ 127 255 _ (by omega) (by omega)).mono ?_
  rintro e w2 ⟨rfl, hb2⟩
  rw [c1]
  have h2b := h2a.below hb2 h2a.lt
  have hB2 := hB1.trans (hb2.mono hB1.size)
  clear hb2 hB1 h2a
  have hR := h2b
  have hB := hB2
  clear h2b hB2
  have g4 := Hr.new w2 (setP 1) 32
  replace hR := hR.alloc (.cells (rowOf .u8 256 (b01 (setP 1))) 32)
  replace hB := hB.alloc hB.size (.cells (rowOf .u8 256 (b01 (setP 1))) 32)
  go_wp2_with (refine wpList_ld rfl 32 _ rfl _ rfl 256 Tryd.underlying32 rfl (by kernel_rfl) (rowOf .u8 256 (b01 (setP 1))) g4.1 g4.2 ?_)
  refine (with_any (setP 1) ⟨#[32, 34, 35, 60, 62]⟩ _ (by decide)).mono ?_
  rintro e w3 ⟨rfl, hb⟩
  rw [c3]
  replace hR := hR.below hb hR.lt
  replace g4 := g4.below hb g4.lt
  replace hB := hB.trans (hb.mono hB.size)
  clear hb
  have g5 := Hr.new w3 (setP 3) 32
  replace hR := hR.alloc (.cells (rowOf .u8 256 (b01 (setP 3))) 32)
  replace g4 := g4.alloc (.cells (rowOf .u8 256 (b01 (setP 3))) 32)
  replace hB := hB.alloc hB.size (.cells (rowOf .u8 256 (b01 (setP 3))) 32)
  go_wp2_with (refine wpList_ld rfl 32 _ rfl _ rfl 256 Tryd.underlying32 rfl (by kernel_rfl) (rowOf .u8 256 (b01 (setP 3))) g5.1 g5.2 ?_)
  refine (with_any (setP 3) ⟨#[63, 94, 96, 123, 125]⟩ _ (by decide)).mono ?_
  rintro e w4 ⟨rfl, hb⟩
  rw [c5]
  replace hR := hR.below hb hR.lt
  replace g4 := g4.below hb g4.lt
  replace g5 := g5.below hb g5.lt
  replace hB := hB.trans (hb.mono hB.size)
  clear hb
  have g6 := Hr.new w4 (setP 5) 32
  replace hR := hR.alloc (.cells (rowOf .u8 256 (b01 (setP 5))) 32)
  replace g4 := g4.alloc (.cells (rowOf .u8 256 (b01 (setP 5))) 32)
  replace g5 := g5.alloc (.cells (rowOf .u8 256 (b01 (setP 5))) 32)
  replace hB := hB.alloc hB.size (.cells (rowOf .u8 256 (b01 (setP 5))) 32)
  go_wp2_with (refine wpList_ld rfl 32 _ rfl _ rfl 256 Tryd.underlying32 rfl (by kernel_rfl) (rowOf .u8 256 (b01 (setP 5))) g6.1 g6.2 ?_)
  refine (with_any (setP 5) ⟨#[47, 58, 59, 61, 64, 91, 92, 93, 124]⟩ _ (by decide)).mono ?_
  rintro e w5 ⟨rfl, hb⟩
  rw [c6]
  replace hR := hR.below hb hR.lt
  replace g4 := g4.below hb g4.lt
  replace g5 := g5.below hb g5.lt
  replace g6 := g6.below hb g6.lt
  replace hB := hB.trans (hb.mono hB.size)
  clear hb
  have g7 := Hr.new w5 (setP 6) 32
  replace hR := hR.alloc (.cells (rowOf .u8 256 (b01 (setP 6))) 32)
  replace g4 := g4.alloc (.cells (rowOf .u8 256 (b01 (setP 6))) 32)
  replace g5 := g5.alloc (.cells (rowOf .u8 256 (b01 (setP 6))) 32)
  replace g6 := g6.alloc (.cells (rowOf .u8 256 (b01 (setP 6))) 32)
  replace hB := hB.alloc hB.size (.cells (rowOf .u8 256 (b01 (setP 6))) 32)
  go_wp2_with (refine wpList_ld rfl 32 _ rfl _ rfl 256 Tryd.underlying32 rfl (by kernel_rfl) (rowOf .u8 256 (b01 (setP 6))) g7.1 g7.2 ?_)
  refine (with_any (setP 6) ⟨#[36, 37, 38, 43, 44]⟩ _ (by decide)).mono ?_
  rintro e w6 ⟨rfl, hb⟩
  rw [c7]
  replace hR := hR.below hb hR.lt
  replace g4 := g4.below hb g4.lt
  replace g5 := g5.below hb g5.lt
  replace g6 := g6.below hb g6.lt
  replace g7 := g7.below hb g7.lt
  replace hB := hB.trans (hb.mono hB.size)
  clear hb
  have g8 := Hr.new w6 (setP 7) 32
  replace hR := hR.alloc (.cells (rowOf .u8 256 (b01 (setP 7))) 32)
  replace g4 := g4.alloc (.cells (rowOf .u8 256 (b01 (setP 7))) 32)
  replace g5 := g5.alloc (.cells (rowOf .u8 256 (b01 (setP 7))) 32)
  replace g6 := g6.alloc (.cells (rowOf .u8 256 (b01 (setP 7))) 32)
  replace g7 := g7.alloc (.cells (rowOf .u8 256 (b01 (setP 7))) 32)
  replace hB := hB.alloc hB.size (.cells (rowOf .u8 256 (b01 (setP 7))) 32)
  go_wp2_with fail
  refine (with_zero ⟨#[0, 9, 10, 13, 32, 35, 47, 58, 60, 62, 63, 64, 91, 92, 93, 94, 124]⟩ _ (by decide)).mono ?_
  rintro e w7 ⟨rfl, hb⟩
  rw [c9]
  replace hR := hR.below hb hR.lt
  replace g4 := g4.below hb g4.lt
  replace g5 := g5.below hb g5.lt
  replace g6 := g6.below hb g6.lt
  replace g7 := g7.below hb g7.lt
  replace g8 := g8.below hb g8.lt
  replace hB := hB.trans (hb.mono hB.size)
  clear hb
  have g9 := Hr.new w7 (setP 9) 32
  replace hR := hR.alloc (.cells (rowOf .u8 256 (b01 (setP 9))) 32)
  replace g4 := g4.alloc (.cells (rowOf .u8 256 (b01 (setP 9))) 32)
  replace g5 := g5.alloc (.cells (rowOf .u8 256 (b01 (setP 9))) 32)
  replace g6 := g6.alloc (.cells (rowOf .u8 256 (b01 (setP 9))) 32)
  replace g7 := g7.alloc (.cells (rowOf .u8 256 (b01 (setP 9))) 32)
  replace g8 := g8.alloc (.cells (rowOf .u8 256 (b01 (setP 9))) 32)
  replace hB := hB.alloc hB.size (.cells (rowOf .u8 256 (b01 (setP 9))) 32)
  by_cases hn : 1 ≤ n ∧ n ≤ 10
  · rcases (show n = 1 ∨ n = 2 ∨ n = 3 ∨ n = 4 ∨ n = 5 ∨ n = 6 ∨ n = 7 ∨ n = 8 ∨ n = 9 ∨ n = 10 from by omega) with rfl | rfl | rfl | rfl | rfl | rfl | rfl | rfl | rfl | rfl
    · have hr1 := hR.1
      clear hn
      go_wp2_with (refine wpList_ld rfl 32 _ rfl _ rfl 256 Tryd.underlying32 rfl (by kernel_rfl) (rowOf .u8 256 (b01 (setP 1))) g4.1 g4.2 ?_)
      refine bodyPost_ret (v := .tuple #[.agg (rowOf .u8 256 (b01 (setP 1))), .int .i64 0]) (results2_ld Tryd.results15 _ _ w.heap.size 256 rfl Tryd.underlying32 rfl (by kernel_rfl) _ (isRow_set hr1 (rowOf_size _ _ _)) (rowIn_set hr1)) rfl ⟨rfl, below_set hB (Nat.le_refl _)⟩
    · go_wp2_with (refine wpList_ld rfl 32 _ rfl _ rfl 256 Tryd.underlying32 rfl (by kernel_rfl) (rowOf .u8 256 (b01 (setP 1))) g4.1 g4.2 ?_)
      refine (with_any (setP 1) ⟨#[32, 34, 60, 62, 96]⟩ _ (by decide)).mono ?_
      rintro e V2 ⟨rfl, hb⟩
      rw [c2]
      replace hR := hR.below hb hR.lt
      replace hB := hB.trans (hb.mono hB.size)
      have hr1 := hR.1
      clear hb g4 g5 g6 g7 g8 g9
      go_wp2
      refine bodyPost_ret (v := .tuple #[.agg (rowOf .u8 256 (b01 (setP 2))), .int .i64 0]) (results2_ld Tryd.results15 _ _ w.heap.size 256 rfl Tryd.underlying32 rfl (by kernel_rfl) _ (isRow_set hr1 (rowOf_size _ _ _)) (rowIn_set hr1)) rfl ⟨rfl, below_set hB (Nat.le_refl _)⟩
    · have hr1 := hR.1
      clear hn
      go_wp2_with (refine wpList_ld rfl 32 _ rfl _ rfl 256 Tryd.underlying32 rfl (by kernel_rfl) (rowOf .u8 256 (b01 (setP 3))) g5.1 g5.2 ?_)
      refine bodyPost_ret (v := .tuple #[.agg (rowOf .u8 256 (b01 (setP 3))), .int .i64 0]) (results2_ld Tryd.results15 _ _ w.heap.size 256 rfl Tryd.underlying32 rfl (by kernel_rfl) _ (isRow_set hr1 (rowOf_size _ _ _)) (rowIn_set hr1)) rfl ⟨rfl, below_set hB (Nat.le_refl _)⟩
    · go_wp2_with (refine wpList_ld rfl 32 _ rfl _ rfl 256 Tryd.underlying32 rfl (by kernel_rfl) (rowOf .u8 256 (b01 (setP 3))) g5.1 g5.2 ?_)
      refine (with_any (setP 3) ⟨#[39]⟩ _ (by decide)).mono ?_
      rintro e V2 ⟨rfl, hb⟩
      rw [c4]
      replace hR := hR.below hb hR.lt
      replace hB := hB.trans (hb.mono hB.size)
      have hr1 := hR.1
      clear hb g4 g5 g6 g7 g8 g9
      go_wp2
      refine bodyPost_ret (v := .tuple #[.agg (rowOf .u8 256 (b01 (setP 4))), .int .i64 0]) (results2_ld Tryd.results15 _ _ w.heap.size 256 rfl Tryd.underlying32 rfl (by kernel_rfl) _ (isRow_set hr1 (rowOf_size _ _ _)) (rowIn_set hr1)) rfl ⟨rfl, below_set hB (Nat.le_refl _)⟩
    · have hr1 := hR.1
      clear hn
      go_wp2_with (refine wpList_ld rfl 32 _ rfl _ rfl 256 Tryd.underlying32 rfl (by kernel_rfl) (rowOf .u8 256 (b01 (setP 5))) g6.1 g6.2 ?_)
      refine bodyPost_ret (v := .tuple #[.agg (rowOf .u8 256 (b01 (setP 5))), .int .i64 0]) (results2_ld Tryd.results15 _ _ w.heap.size 256 rfl Tryd.underlying32 rfl (by kernel_rfl) _ (isRow_set hr1 (rowOf_size _ _ _)) (rowIn_set hr1)) rfl ⟨rfl, below_set hB (Nat.le_refl _)⟩
    · have hr1 := hR.1
      clear hn
      go_wp2_with (refine wpList_ld rfl 32 _ rfl _ rfl 256 Tryd.underlying32 rfl (by kernel_rfl) (rowOf .u8 256 (b01 (setP 6))) g7.1 g7.2 ?_)
      refine bodyPost_ret (v := .tuple #[.agg (rowOf .u8 256 (b01 (setP 6))), .int .i64 0]) (results2_ld Tryd.results15 _ _ w.heap.size 256 rfl Tryd.underlying32 rfl (by kernel_rfl) _ (isRow_set hr1 (rowOf_size _ _ _)) (rowIn_set hr1)) rfl ⟨rfl, below_set hB (Nat.le_refl _)⟩
    · have hr1 := hR.1
      clear hn
      go_wp2_with (refine wpList_ld rfl 32 _ rfl _ rfl 256 Tryd.underlying32 rfl (by kernel_rfl) (rowOf .u8 256 (b01 (setP 7))) g8.1 g8.2 ?_)
      refine bodyPost_ret (v := .tuple #[.agg (rowOf .u8 256 (b01 (setP 7))), .int .i64 0]) (results2_ld Tryd.results15 _ _ w.heap.size 256 rfl Tryd.underlying32 rfl (by kernel_rfl) _ (isRow_set hr1 (rowOf_size _ _ _)) (rowIn_set hr1)) rfl ⟨rfl, below_set hB (Nat.le_refl _)⟩
    · go_wp2_with (refine wpList_ld rfl 32 _ rfl _ rfl 256 Tryd.underlying32 rfl (by kernel_rfl) (rowOf .u8 256 (b01 (setP 7))) g8.1 g8.2 ?_)
      refine (with_any (setP 7) ⟨#[33, 39, 40, 41, 126]⟩ _ (by decide)).mono ?_
      rintro e V2 ⟨rfl, hb⟩
      rw [c8]
      replace hR := hR.below hb hR.lt
      replace hB := hB.trans (hb.mono hB.size)
      have hr1 := hR.1
      clear hb g4 g5 g6 g7 g8 g9
      go_wp2
      refine bodyPost_ret (v := .tuple #[.agg (rowOf .u8 256 (b01 (setP 8))), .int .i64 0]) (results2_ld Tryd.results15 _ _ w.heap.size 256 rfl Tryd.underlying32 rfl (by kernel_rfl) _ (isRow_set hr1 (rowOf_size _ _ _)) (rowIn_set hr1)) rfl ⟨rfl, below_set hB (Nat.le_refl _)⟩
    · have hr1 := hR.1
      clear hn
      go_wp2_with (refine wpList_ld rfl 32 _ rfl _ rfl 256 Tryd.underlying32 rfl (by kernel_rfl) (rowOf .u8 256 (b01 (setP 9))) g9.1 g9.2 ?_)
      refine bodyPost_ret (v := .tuple #[.agg (rowOf .u8 256 (b01 (setP 9))), .int .i64 0]) (results2_ld Tryd.results15 _ _ w.heap.size 256 rfl Tryd.underlying32 rfl (by kernel_rfl) _ (isRow_set hr1 (rowOf_size _ _ _)) (rowIn_set hr1)) rfl ⟨rfl, below_set hB (Nat.le_refl _)⟩
    · go_wp2_with (refine wpList_ld rfl 32 _ rfl _ rfl 256 Tryd.underlying32 rfl (by kernel_rfl) (rowOf .u8 256 (b01 (setP 9))) g9.1 g9.2 ?_)
      refine (from_any (setP 9) 0 31 _ (by omega) (by omega)).mono ?_
      rintro e V2 ⟨rfl, hb⟩
      replace hR := hR.below hb hR.lt
      replace hB := hB.trans (hb.mono hB.size)
      clear hb g4 g5 g6 g7 g8 g9
      go_wp2_with fail
      refine (with_any (fromP (setP 9) 0 (31 + 1)) ⟨#[37, 127]⟩ _ (by decide)).mono ?_
      rintro e V3 ⟨rfl, hb⟩
      rw [c10]
      replace hR := hR.below hb hR.lt
      replace hB := hB.trans (hb.mono hB.size)
      have hr1 := hR.1
      clear hb
      go_wp2
      refine bodyPost_ret (v := .tuple #[.agg (rowOf .u8 256 (b01 (setP 10))), .int .i64 0]) (results2_ld Tryd.results15 _ _ w.heap.size 256 rfl Tryd.underlying32 rfl (by kernel_rfl) _ (isRow_set hr1 (rowOf_size _ _ _)) (rowIn_set hr1)) rfl ⟨rfl, below_set hB (Nat.le_refl _)⟩
  · have e1 : nameK n = 0 := if_neg hn
    have e2 : nameE n = 10 := if_neg hn
    have hz0 : (rowOf .u8 256 (b01 (setP 0))) = (rowOf .u8 256 fun _ => 0) := rowOf_congr .u8 256 _ _ fun _ _ => by simp [b01, setP]
    have HZ : Hid ((rowOf .u8 256 (b01 (setP 0))) = (rowOf .u8 256 fun _ => 0)) := hz0
    have HE : Hid (nameK n = 0 ∧ nameE n = 10) := ⟨e1, e2⟩
    clear e1 e2 hz0
    have q1 : (n == 1) = false := beq_eq_false_iff_ne.2 (by omega)
    have q2 : (n == 2) = false := beq_eq_false_iff_ne.2 (by omega)
    have q3 : (n == 3) = false := beq_eq_false_iff_ne.2 (by omega)
    have q4 : (n == 4) = false := beq_eq_false_iff_ne.2 (by omega)
    have q5 : (n == 5) = false := beq_eq_false_iff_ne.2 (by omega)
    have q6 : (n == 6) = false := beq_eq_false_iff_ne.2 (by omega)
    have q7 : (n == 7) = false := beq_eq_false_iff_ne.2 (by omega)
    have q8 : (n == 8) = false := beq_eq_false_iff_ne.2 (by omega)
    have q9 : (n == 9) = false := beq_eq_false_iff_ne.2 (by omega)
    have q10 : (n == 10) = false := beq_eq_false_iff_ne.2 (by omega)
    have hr1 := hR.1
    go_wp2
    refine bodyPost_ret (v := .tuple #[.agg (rowOf .u8 256 fun _ => 0), .int .i64 10]) (results2_ld Tryd.results15 _ _ w.heap.size 256 rfl Tryd.underlying32 rfl (by kernel_rfl) _ (isRow_set hr1 (rowOf_size _ _ _)) (rowIn_set hr1)) rfl ⟨?_, below_set hB (Nat.le_refl _)⟩
    rw [HE.out.1, HE.out.2, HZ.out]
end Go.Proofs.YtoliiccmfmgmlaaDoor
