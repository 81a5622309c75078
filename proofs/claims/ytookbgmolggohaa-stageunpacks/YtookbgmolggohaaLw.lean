/-
  The contract of laid, whole. Conditions: the rows may be, but there may be more of them than MaxRows; the table's numbers are from 0 to 65535.
-/
import Derived.Test.YtookbgmolggohaaLd
namespace Go.Proofs.Ytookbgmolggohaa
open Go.RowKit
variable {P : Program} {ops : Array Oper} {Q : Exit → Act → World → Prop} {G : (Nat → Bool) → World → Prop}
theorem ValOp.pure' {vs : List Value} {a0 : Act} {i : Nat} {o : Oper} (hG : ∀ s w, s i = false → G s w → G (mark s i) w) (l : List (Nat × Value)) (hw : wantsV ops vs o true)
    (hl : ∀ a : Act, (∀ j t, asks4 ops o j t = true → a.tmps[t]? = some (vs.getD j undef)) → (∀ t, keptAt ops i t = true → a.tmps[t]? = a0.tmps[t]?) → AllIn a l) (hc : covers o l = true)
    (hr : ∀ s w, s i = false → G s w → (∀ j, (needs o).contains j = true → s j = true) → (execOp (rho l) o).run P w = .ok (.value (vs.getD i undef)) w) : ValOp P ops Q G vs a0 i o :=
  ⟨true, hw, fun h => (by cases h), fun _ a w s hs hg hn h1 h2 _ hK => wp_gen l (hl a h1 h2) hc (hr s w hs hg hn) (hK.out w (hG s w hs hg))⟩
theorem run_l72 {w : World} {g o : Nat} {f : Nat → Int} (h : ∀ j, j < 128 → w.cell? ⟨g, o + j, none⟩ = some (.int .u16 (f j))) : (loadVar 72 ⟨g, o, none⟩).run Try.prog w = .ok (.agg (rowOf .u16 128 f)) w := by
  have hr := run_loadCells_list (P := Try.prog) w ⟨g, o, none⟩ (rowOf .u16 128 f).toList (fun j v hv => by
    have hj : j < 128 := by
      have := (List.getElem?_eq_some_iff.1 hv).1
      simpa [rowOf_size] using this
    rw [Array.getElem?_toList, rowOf_get _ _ _ _ hj] at hv
    rw [Go.WideShapes.add_plain]
    rw [h j hj]; exact hv)
  have ha : (isAgg 72).run Try.prog w = .ok true w := by kernel_rfl
  simp only [Array.length_toList, rowOf_size] at hr
  simp only [loadVar, Sem.run_bind, ha, Result.andThen_ok, if_true, sizeOf72, hr, Sem.run_pure]
theorem run_ia_74 {w : World} {l : List (Nat × Value)} {o : Oper} {a b : Operand} {g n c k : Nat} (ho : o.op = .indexAddr 74 a b) (ha : rho l a = .slice (some ⟨g, 0, none⟩) n c) (hb : rho l b = .int .u16 (k : Int)) (h : k < n) : (execOp (rho l) o).run Try.prog w = .ok (.value (.pointer (some ⟨g, k * 128, none⟩))) w := by
  have h2 : ¬ n ≤ k := by omega
  unfold execOp
  simp only [ho, ha, hb]
  simp [Instr.indexAt, asIntOf, run_underlying Try.underlying74, h2, Instr.sureAddr, Go.WideShapes.add_plain]
theorem run_al72 {w : World} {l : List (Nat × Value)} {o : Oper} (ho : o.op = .alloc 72) : (execOp (rho l) o).run Try.prog w = .ok (.value (.pointer (some ⟨w.heap.size, 0, none⟩))) (w.alloc (.cells (rowOf .u16 128 zerosF) 72)) := by
  obtain ⟨i, hi, hz, hs, hb⟩ := info_parts info72
  unfold execOp
  simp only [ho]
  simp [Instr.alloc, zeroValue, typeInfo, hi, hz, newVar, newRow, agg_cells]
theorem run_st72 {w : World} {b : Nat} {f g : Nat → Int} (h : w.heap[b]? = some (.cells (rowOf .u16 128 g) 72 (0, 0))) : (storeVar 72 ⟨b, 0, none⟩ (.agg (rowOf .u16 128 f))).run Try.prog w = .ok () (w.setRow b (rowOf .u16 128 f)) := by
  have hr := st_at (P := Try.prog) w b 128 .u16 f ⟨_, 72, h, rowOf_size _ _ _⟩
  simp [storeVar, agg_cells, rowOf_size, hr]
theorem below_setRow {B b : Nat} {a w : World} {X : Array Value} (h : Below B a w) (hb : B ≤ b) : Below B a (w.setRow b X) :=
  ⟨h.os, h.tape, h.output, by have := h.size; simpa [World.setRow] using this, fun k hk => (setRow_other w b k _ (by omega)).trans (h.block k hk)⟩
/-- A block is made by operation 10 and filled by operation 11. -/
def GR (b : Nat) (Z X : Array Value) (w0 : World) : (Nat → Bool) → World → Prop := fun s w =>
  Below b w0 w ∧ (s 10 = false → w.heap.size = b) ∧ (s 10 = true → s 11 = false → w.heap[b]? = some (.cells Z 72 (0, 0))) ∧ (s 11 = true → w.heap[b]? = some (.cells X 72 (0, 0))) ∧ (s 11 = true → s 10 = true)
theorem gr_same (b : Nat) (Z X : Array Value) (w0 : World) (i : Nat) (h0 : 10 ≠ i) (h1 : 11 ≠ i) : ∀ s w, s i = false → GR b Z X w0 s w → GR b Z X w0 (mark s i) w := fun s w _ ⟨g1, g2, g3, g4, g5⟩ =>
  ⟨g1, fun c => g2 (mark_same c), fun c d => g3 (mark_true h0 c) (mark_same d), fun c => g4 (mark_true h1 c), fun c => by have := g5 (mark_true h1 c); simp [mark, this]⟩
noncomputable def plcs (F : Int → Int) (i : Nat) : List Nat := (List.range i).map (plc F)
theorem plcs_len (F : Int → Int) (i : Nat) : (plcs F i).length = i := by simp [plcs]
theorem plcs_succ (F : Int → Int) (i : Nat) : plcs F (i + 1) = plcs F i ++ [plc F i] := by simp [plcs, List.range_succ]
open Classical in
theorem add_any (B M T K : Nat) (pv uv : Value) (F : Int → Int) (i : Nat) (w : World) (h : Mk w B M T K pv uv (unl F i) (plcs F i)) (hF : ∀ p, 0 ≤ F p ∧ F p ≤ 65535) (hi : i < 8704) :
    Calls Try.prog 49 #[.pointer (some ⟨M, 0, none⟩), .agg (rowOf .u16 128 (blk F i))] w fun e w' => e = .returned (.tuple #[]) ∧ Below B w w' ∧ ∃ pv' uv', Mk w' B M T K pv' uv' (unl F (i + 1)) (plcs F (i + 1)) := by
  by_cases hm : blk F i ∈ unl F i
  · obtain ⟨e1, e2⟩ := plc_step F i hm
    refine (add_old B M T K pv uv _ _ (blk F i) w h (isBlk_blk hF i) (by rw [plcs_len]; exact hi) hm).mono ?_
    rintro e w' ⟨h1, h2, pv', h3⟩
    exact ⟨h1, h2, pv', uv, by rw [e1, plcs_succ, e2]; exact h3⟩
  · obtain ⟨e1, e2⟩ := plc_new F i hm
    refine (add_new B M T K pv uv _ _ (blk F i) w h (isBlk_blk hF i) (by rw [plcs_len]; exact hi) (by rw [plcs_len]; exact unl_len F i) hm).mono ?_
    rintro e w' ⟨h1, h2, pv', uv', h3⟩
    exact ⟨h1, h2, pv', uv', by rw [e1, plcs_succ, e2]; exact h3⟩
theorem run_cv21 {w : World} {l : List (Nat × Value)} {o : Oper} {x : Operand} {n : Int} (ho : o.op = .convert 3 21 x) (hx : rho l x = .int .i64 n) (h : IntKind.i32.wrap n = n) : (execOp (rho l) o).run Try.prog w = .ok (.value (.int .i32 n)) w := by
  unfold execOp
  simp only [ho, hx]
  simp [go_sem, h]
set_option maxRecDepth 100000 in
set_option maxHeartbeats 2000000 in
theorem laid_R6 {Q : Exit → Act → World → Prop} (F : Int → Int) (i b m T0 M pg pc ug un uc : Nat) (v1 pv0 : Value) (a : Act) (w : World) (hi : i < 8704) (hbz : b = w.heap.size) (hT : w.heap[T0]? = some (.cells #[pv0, .slice (some ⟨ug, 0, none⟩) un uc] 76 (0, 0))) (hm : m < un) (hU : ∀ j, j < 128 → w.cell? ⟨ug, m * 128 + j, none⟩ = some (.int .u16 (blk F i j)))
    (ha : At 67 [(0, .pointer (some ⟨T0, 0, none⟩)), (1, v1), (5, .pointer (some ⟨M, 0, none⟩)), (6, .int .i64 (i : Nat)), (7, .int .u16 (m : Nat)), (16, .slice (some ⟨pg, 0, none⟩) 8704 pc), (17, .int .i64 8704), (18, .int .i64 (i : Nat))] a)
    (hK : ∀ a w', At 67 [(0, .pointer (some ⟨T0, 0, none⟩)), (1, v1), (5, .pointer (some ⟨M, 0, none⟩)), (8, .pointer (some ⟨b, 0, none⟩)), (9, .int .i32 (128 * (i : Nat) : Int)), (16, .slice (some ⟨pg, 0, none⟩) 8704 pc), (17, .int .i64 8704), (18, .int .i64 (i : Nat))] a → Below b w w' → w'.heap[b]? = some (.cells (rowOf .u16 128 (blk F i)) 72 (0, 0)) → Q .normal a w') : Code.wp Try.prog (hd (sq 1 in37)) Q a w := by
  have hTl : T0 < b := by rw [hbz]; exact (Array.getElem?_eq_some_iff.1 hT).1
  have hul : ug < b := by rw [hbz]; exact World.block_lt_of_cell? w _ (hU 0 (by decide))
  have a0 : IntKind.i64.wrap ((i : Int) * 128) = 128 * (i : Int) := by rw [IntWalk.i64_in _ (by omega)]; omega
  have a1 : IntKind.i32.wrap (128 * (i : Int)) = 128 * (i : Int) := IntWalk.i32_in _ (by omega)
  obtain ⟨f, rfl, h0, h1, h5, h6, h7, h16, h17, h18, -⟩ := ha.lit
  change Code.wp _ _ _ ⟨#[f 0, f 1, f 2, f 3, f 4, f 5, f 6, f 7, f 8, f 9, f 10, f 11, f 12, f 13, f 14, f 15, f 16, f 17, f 18, f 19, f 20, f 21, f 22, f 23, f 24, f 25, f 26, f 27, f 28, f 29, f 30, f 31, f 32, f 33, f 34, f 35, f 36, f 37, f 38, f 39, f 40, f 41, f 42, f 43, f 44, f 45, f 46, f 47, f 48, f 49, f 50, f 51, f 52, f 53, f 54, f 55, f 56, f 57, f 58, f 59, f 60, f 61, f 62, f 63, f 64, f 65, f 66], []⟩ _
  simp only at h0 h1 h5 h6 h7 h16 h17 h18
  simp only [h0, h1, h5, h6, h7, h16, h17, h18]
  clear h0 h1 h5 h6 h7 h16 h17 h18
  conv => arg 2; whnf
  refine wp_region_vals (a1 := ?a1r6) (GR b (rowOf .u16 128 zerosF) (rowOf .u16 128 (blk F i)) w) [.pointer (some ⟨T0, 0, none⟩), .pointer (some ⟨T0, 0, none⟩), .pointer (some ⟨T0, 1, none⟩), .slice (some ⟨ug, 0, none⟩) un uc, .int .u16 (m : Nat), .pointer (some ⟨ug, m * 128, none⟩), .agg (rowOf .u16 128 (blk F i)), .int .i64 (i : Nat), .int .i64 (128 * (i : Nat) : Int), .int .i32 (128 * (i : Nat) : Int), .pointer (some ⟨b, 0, none⟩), undef, .int .i32 (128 * (i : Nat) : Int)] 67 rfl (by kernel_rfl) (by kernel_rfl) (fun w1 hb1 hz1 s hs => ⟨hb1.mono (by omega), fun _ => by omega, fun c => (by rw [hs 10] at c; cases c), fun c => (by rw [hs 11] at c; cases c), fun c => (by rw [hs 11] at c; cases c)⟩) ⟨?o0r6, ?o1r6, ?o2r6, ?o3r6, ?o4r6, ?o5r6, ?o6r6, ?o7r6, ?o8r6, ?o9r6, ?o10r6, ?o11r6, ?o12r6, trivial⟩ ?har6 ?hdoner6
  case har6 => simp [putAll, Act.put]; exact rfl
  case o0r6 => exact ValOp.pure' (gr_same _ _ _ _ 0 (by decide) (by decide)) [(0, .pointer (some ⟨T0, 0, none⟩))] rfl (fun _ _ h2 => ⟨(h2 0 (by kernel_rfl)).trans rfl, trivial⟩) (by kernel_rfl) (fun _ _ _ _ _ => by kernel_rfl)
  case o1r6 => exact ValOp.pure' (gr_same _ _ _ _ 1 (by decide) (by decide)) [(23, .pointer (some ⟨T0, 0, none⟩))] rfl (fun _ h1 _ => ⟨h1 0 23 (by kernel_rfl), trivial⟩) (by kernel_rfl) (fun _ _ _ _ _ => by kernel_rfl)
  case o2r6 => exact ValOp.pure' (gr_same _ _ _ _ 2 (by decide) (by decide)) [(24, .pointer (some ⟨T0, 0, none⟩))] rfl (fun _ h1 _ => ⟨h1 1 24 (by kernel_rfl), trivial⟩) (by kernel_rfl) (fun _ _ _ _ _ => by kernel_rfl)
  case o3r6 => exact ValOp.pure' (gr_same _ _ _ _ 3 (by decide) (by decide)) [(25, .pointer (some ⟨T0, 1, none⟩))] rfl (fun _ h1 _ => ⟨h1 2 25 (by kernel_rfl), trivial⟩) (by kernel_rfl) (fun _ _ _ hg _ => run_read rfl rfl (run_cell ((hg.1.block T0 hTl).trans hT) rfl (isAgg74 _)))
  case o4r6 => exact ValOp.pure' (gr_same _ _ _ _ 4 (by decide) (by decide)) [(7, .int .u16 (m : Nat))] rfl (fun _ _ h2 => ⟨(h2 7 (by kernel_rfl)).trans rfl, trivial⟩) (by kernel_rfl) (fun _ _ _ _ _ => by kernel_rfl)
  case o5r6 => exact ValOp.pure' (gr_same _ _ _ _ 5 (by decide) (by decide)) [(26, .slice (some ⟨ug, 0, none⟩) un uc), (27, .int .u16 (m : Nat))] rfl (fun _ h1 _ => ⟨h1 3 26 (by kernel_rfl), h1 4 27 (by kernel_rfl), trivial⟩) (by kernel_rfl) (fun _ _ _ _ _ => run_ia_74 rfl rfl rfl hm)
  case o6r6 => exact ValOp.pure' (gr_same _ _ _ _ 6 (by decide) (by decide)) [(28, .pointer (some ⟨ug, m * 128, none⟩))] rfl (fun _ h1 _ => ⟨h1 5 28 (by kernel_rfl), trivial⟩) (by kernel_rfl) (fun _ _ _ hg _ => run_read rfl rfl (run_l72 fun j hj => (hg.1.cell (p := ⟨ug, m * 128 + j, none⟩) hul).trans (hU j hj)))
  case o7r6 => exact ValOp.pure' (gr_same _ _ _ _ 7 (by decide) (by decide)) [(6, .int .i64 (i : Nat))] rfl (fun _ _ h2 => ⟨(h2 6 (by kernel_rfl)).trans rfl, trivial⟩) (by kernel_rfl) (fun _ _ _ _ _ => by kernel_rfl)
  case o8r6 => exact ValOp.pure' (gr_same _ _ _ _ 8 (by decide) (by decide)) [(30, .int .i64 (i : Nat))] rfl (fun _ h1 _ => ⟨h1 7 30 (by kernel_rfl), trivial⟩) (by kernel_rfl) (fun _ _ _ _ _ => run_bin (a := .int .i64 (i : Nat)) (b := .int .i64 128) rfl rfl rfl (by kernel_rfl) (by simp [go_sem, a0]))
  case o9r6 => exact ValOp.pure' (gr_same _ _ _ _ 9 (by decide) (by decide)) [(31, .int .i64 (128 * (i : Nat) : Int))] rfl (fun _ h1 _ => ⟨h1 8 31 (by kernel_rfl), trivial⟩) (by kernel_rfl) (fun _ _ _ _ _ => run_cv21 rfl rfl a1)
  case o10r6 => exact ⟨true, rfl, fun h => (by cases h), fun _ a w s hs hg _ h1 h2 K' hK => by
      have hz := hg.2.1 hs
      refine wp_gen [] trivial (by kernel_rfl) (run_al72 rfl) ?_
      rw [hz]
      refine hK.out _ ⟨hg.1.alloc (by omega) _, fun c => (by simp [mark] at c), fun _ _ => (by rw [← hz]; exact heap_alloc_last _ _), fun c => (by have := hg.2.2.2.2 (mark_true (i := 10) (by decide) c); rw [hs] at this; cases this), fun c => (by simp [mark])⟩⟩
  case o11r6 => exact ⟨true, rfl, fun h => (by cases h), fun _ a w s hs hg hn h1 h2 K' hK => by
      have hz := hg.2.2.1 (hn 10 (by kernel_rfl)) hs
      exact wp_store_gen [(8, .pointer (some ⟨b, 0, none⟩)), (29, .agg (rowOf .u16 128 (blk F i)))] ⟨h1 10 8 (by kernel_rfl), h1 6 29 (by kernel_rfl), trivial⟩ (by kernel_rfl) rfl rfl rfl rfl (run_st72 hz) (hK.out _ ⟨below_setRow hg.1 (Nat.le_refl _), fun c => (by have := hn 10 (by kernel_rfl); rw [mark_same c] at this; cases this), fun _ c => (by simp [mark] at c), fun _ => setRow_heap _ _ _ _ _ _ hz, fun _ => by have := hn 10 (by kernel_rfl); simp [mark, this]⟩)⟩
  case o12r6 => exact ValOp.pure' (gr_same _ _ _ _ 12 (by decide) (by decide)) [(32, .int .i32 (128 * (i : Nat) : Int))] rfl (fun _ h1 _ => ⟨h1 9 32 (by kernel_rfl), trivial⟩) (by kernel_rfl) (fun _ _ _ _ _ => by kernel_rfl)
  case hdoner6 =>
    intro w' s hs hg
    exact hK _ w' ⟨rfl, rfl, rfl, rfl, rfl, rfl, rfl, rfl, rfl, rfl, trivial⟩ hg.1 (hg.2.2.2.1 (hs 11 (by decide)))
end Go.Proofs.Ytookbgmolggohaa
