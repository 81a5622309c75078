/-
  The contract of lay: a row's number at those of its code points that lie in a block. Conditions: the row may be; the block begins at a code point.
-/
import Derived.Test.YtookbgmolggohaaAw
namespace Go.Proofs.Ytookbgmolggohaa
open Go.RowKit
theorem cell_row {w : World} {b : Nat} {f : Nat → Int} {t : TypeId} (h : w.heap[b]? = some (.cells (rowOf .u16 128 f) t (0, 0))) {i : Nat} (hi : i < 128) : w.cell? ⟨b, i, none⟩ = some (.int .u16 (f i)) ∧ w.frozen? ⟨b, i, none⟩ = false := by
  constructor
  · rw [cell_of_row w b i _ t (0, 0) h, rowOf_get _ _ _ _ hi]
  · simp [World.frozen?, h]
theorem set_row {w : World} {b : Nat} {f : Nat → Int} {t : TypeId} (h : w.heap[b]? = some (.cells (rowOf .u16 128 f) t (0, 0))) (i : Nat) (x : Int) : (w.setCell ⟨b, i, none⟩ (.int .u16 x)).heap[b]? = some (.cells (rowOf .u16 128 (fun j => if j = i then x else f j)) t (0, 0)) := by
  rw [set_at _ h, rowOf_set]
theorem box3 (w : World) (x y z : Value) (t : TypeId) : (w.alloc (.cells #[x, y, z] t)).cell? ⟨w.heap.size, 0, none⟩ = some x ∧ (w.alloc (.cells #[x, y, z] t)).cell? ⟨w.heap.size, 1, none⟩ = some y ∧ (w.alloc (.cells #[x, y, z] t)).cell? ⟨w.heap.size, 2, none⟩ = some z := by
  have h := heap_alloc_last w (.cells #[x, y, z] t)
  obtain ⟨W, hW⟩ : ∃ W, w.alloc (.cells #[x, y, z] t) = W := ⟨_, rfl⟩
  rw [hW] at h ⊢
  refine ⟨?_, ?_, ?_⟩ <;> simp [World.cell?, h]
theorem sizeOf70 (w : World) : (sizeOf 70).run Try.prog w = .ok 1 w := by kernel_rfl
theorem run_l3 {w : World} {g o : Nat} {x : Int} (h : w.cell? ⟨g, o, none⟩ = some (.int .i64 x)) : (loadVar 3 ⟨g, o, none⟩).run Try.prog w = .ok (.int .i64 x) w := by
  simp [loadVar, go_sem, run_underlying Try.underlying3, isAgg, h]
theorem run_l21 {w : World} {g o : Nat} {x : Int} (h : w.cell? ⟨g, o, none⟩ = some (.int .i32 x)) : (loadVar 21 ⟨g, o, none⟩).run Try.prog w = .ok (.int .i32 x) w := by
  simp [loadVar, go_sem, run_underlying Try.underlying21, isAgg, h]
theorem run_cv {w : World} {l : List (Nat × Value)} {o : Oper} {x : Operand} {n : Int} (ho : o.op = .convert 3 70 x) (hx : rho l x = .int .i64 n) (h : IntKind.u16.wrap n = n) : (execOp (rho l) o).run Try.prog w = .ok (.value (.int .u16 n)) w := by
  unfold execOp
  simp only [ho, hx]
  simp [go_sem, h]
theorem run_ia_72 {w : World} {l : List (Nat × Value)} {o : Oper} {a b : Operand} {g off k : Nat} (ho : o.op = .indexAddr 72 a b) (ha : rho l a = .pointer (some ⟨g, off, none⟩)) (hb : rho l b = .int .i32 (k : Int)) (h : k < 128) : (execOp (rho l) o).run Try.prog w = .ok (.value (.pointer (some ⟨g, off + k, none⟩))) w := by
  have h2 : ¬ 128 ≤ k := by omega
  unfold execOp
  simp only [ho, ha, hb]
  simp [Instr.indexAt, asIntOf, run_underlying Try.underlying72, h2, Instr.sureAddr, Go.WideShapes.add_plain]
/-- One block is written at operation m. -/
def GW (m b : Nat) (x y : Obj) (w0 : World) : (Nat → Bool) → World → Prop := fun s w => Far (fun k => k = b) w0 w ∧ (s m = false → w.heap[b]? = some x) ∧ (s m = true → w.heap[b]? = some y)
theorem gw_steady (m b : Nat) (x y : Obj) (w0 : World) (hK : b < w0.heap.size) (i : Nat) (hi : m ≠ i) : Steady (GW m b x y w0) i := fun s w w' _ ⟨h1, h2, h3⟩ hb => by
  have hlt : b < w.heap.size := Nat.lt_of_lt_of_le hK h1.size
  exact ⟨h1.below hb, fun c => (hb.block b hlt).trans (h2 (mark_same c)), fun c => (hb.block b hlt).trans (h3 (mark_true hi c))⟩
theorem gw_start {m b : Nat} {x y : Obj} {w0 : World} (h : w0.heap[b]? = some x) : ∀ w1, Below w0.heap.size w0 w1 → w1.heap.size = w0.heap.size → ∀ s : Nat → Bool, (∀ j, s j = false) → GW m b x y w0 s w1 := fun w1 hb _ s hs => ⟨(Far.refl _ _).below hb, fun _ => below_at h hb, fun c => by rw [hs m] at c; cases c⟩
set_option maxRecDepth 100000 in
set_option maxHeartbeats 400000 in
theorem lay_any (b : Nat) (f : Nat → Int) (first x y n : Int) (w : World) (hb : w.heap[b]? = some (.cells (rowOf .u16 128 f) 72 (0, 0))) (h1 : 0 ≤ first) (h2 : first ≤ 1114111) (h3 : 0 ≤ x) (h4 : x ≤ 1114111) (h5 : 0 ≤ y) (h6 : y ≤ 1114111) (h7 : 0 ≤ n) (h8 : n ≤ 65535) :
    Calls Try.prog 55 #[.pointer (some ⟨b, 0, none⟩), .int .i32 first, .agg #[.int .i32 x, .int .i32 y, .int .i64 n]] w fun e w' => e = .returned (.tuple #[]) ∧ Far (fun k => k = b) w w' ∧ w'.heap[b]? = some (.cells (rowOf .u16 128 (fun j => if x ≤ first + j ∧ first + j ≤ y then n else f j)) 72 (0, 0)) := by
  have hbl := (Array.getElem?_eq_some_iff.1 hb).1
  have w1 : IntKind.i32.wrap (x - first) = x - first := IntWalk.i32_in _ (by omega)
  have w2 : IntKind.i32.wrap (y - first) = y - first := IntWalk.i32_in _ (by omega)
  have w3 : IntKind.u16.wrap n = n := by rw [IntWalk.u16_in _ (by omega)]
  have HB : Hid (w.heap[b]? = some (.cells (rowOf .u16 128 f) 72 (0, 0))) := hb
  clear hb
  go_enter Try.func55, Try.ntmps55
  go_wp2_with fail
  obtain ⟨c0, c1, c2⟩ := box3 w (.int .i32 x) (.int .i32 y) (.int .i64 n) 62
  have hb1 : Hid ((w.alloc (.cells #[.int .i32 x, .int .i32 y, .int .i64 n] 62)).heap[b]? = some (.cells (rowOf .u16 128 f) 72 (0, 0))) := (Go.RowKit.Below.heap_alloc w _ b hbl).trans HB.out
  have F1 : Hid (Far (fun k => k = b) w (w.alloc (.cells #[.int .i32 x, .int .i32 y, .int .i64 n] 62))) := (Far.refl _ _).below ((Below.refl _ _).alloc (Nat.le_refl _) _)
  generalize hq : w.heap.size = q at *
  generalize w.alloc (.cells #[.int .i32 x, .int .i32 y, .int .i64 n] 62) = W1 at *
  go_region
  have hlo : ∃ lo : Int, (if x - first < 0 then 0 else x - first) = lo ∧ 0 ≤ lo ∧ x - first ≤ lo ∧ (lo = 0 ∨ lo = x - first) ∧ lo ≤ 1114111 := ⟨_, rfl, by split <;> omega, by split <;> omega, by split <;> omega, by split <;> omega⟩
  have hhi : ∃ hi : Int, (if 127 < y - first then 127 else y - first) = hi ∧ hi ≤ 127 ∧ hi ≤ y - first ∧ (hi = 127 ∨ hi = y - first) ∧ -1114111 ≤ hi := ⟨_, rfl, by split <;> omega, by split <;> omega, by split <;> omega, by split <;> omega⟩
  obtain ⟨lo, e1, l1, l2, l3, l4⟩ := hlo
  obtain ⟨hi, e2, i1, i2, i3, i4⟩ := hhi
  simp only [e1, e2]
  clear e1 e2 w1 w2 hq c0 c1
  have F2 : Hid (Far (fun k => k = b) w W1.drew) := F1.out.below (Below.refl _ _).drew
  have hb2 : Hid (W1.drew.heap[b]? = some (.cells (rowOf .u16 128 f) 72 (0, 0))) := hb1.out
  have c3 : Hid (W1.drew.cell? ⟨q, 2, none⟩ = some (.int .i64 n)) := c2
  have hqb : q ≠ b := by
    rintro rfl
    have := c3.out
    rw [(cell_row hb2.out (i := 2) (by decide)).1] at this
    cases this
  clear c2 F1 hb1
  generalize W1.drew = W2 at *
  have hln : Hid (∀ j : Nat, j < 128 → ((lo ≤ (j : Int) ∧ (j : Int) ≤ hi) ↔ (x ≤ first + j ∧ first + j ≤ y))) := fun j hj => by
    constructor
    · rintro ⟨a1, a2⟩; omega
    · rintro ⟨a1, a2⟩; omega
  clear l2 l3 i2 i3 h3 h4 h5 h6
  go_wp2_with fail
  go_loopw [8] (fun z wr => ∃ i : Int, z = .int .i32 i ∧ lo ≤ i ∧ (i = lo ∨ i ≤ hi + 1) ∧ Hid (Far (fun k => k = b) w wr) ∧ Hid (wr.heap[b]? = some (.cells (rowOf .u16 128 (fun j => if lo ≤ (j : Int) ∧ (j : Int) < i then n else f j)) 72 (0, 0))) ∧ Hid (wr.cell? ⟨q, 2, none⟩ = some (.int .i64 n))) (fun z _ => (hi + 1 - intOf z).toNat)
  case atStart => exact ⟨lo, rfl, Int.le_refl _, .inl rfl, F2, by rw [Hid, hb2.out]; congr 3; funext j; rw [if_neg (by omega)], c3⟩
  case round =>
    obtain ⟨i, rfl, k1, k2, F3, hb3, c4⟩ := hrel
    clear F2 hb2 c3
    by_cases hi1 : i ≤ hi
    · obtain ⟨j, rfl⟩ : ∃ j : Nat, i = j := ⟨i.toNat, by omega⟩
      have hj : j < 128 := by omega
      have c5 := c4.out
      have hset : ∀ w : World, w.heap[b]? = some (.cells (rowOf .u16 128 (fun k => if lo ≤ (k : Int) ∧ (k : Int) < (j : Int) then n else f k)) 72 (0, 0)) → (w.setCell ⟨b, j, none⟩ (.int .u16 n)).heap[b]? = some (.cells (rowOf .u16 128 (fun k => if lo ≤ (k : Int) ∧ (k : Int) < (j : Int) + 1 then n else f k)) 72 (0, 0)) := fun w hw => by
        rw [set_row hw]
        congr 3
        funext k
        by_cases hk : k = j
        · subst hk; rw [if_pos rfl, if_pos (by omega)]
        · rw [if_neg hk]
          by_cases hk2 : lo ≤ (k : Int) ∧ (k : Int) < j
          · rw [if_pos hk2, if_pos (by omega)]
          · rw [if_neg hk2, if_neg (by omega)]
      have m3 : ¬ 128 ≤ j := by omega
      have k3 : (j : Int) ≤ hi := hi1
      have hbl1 := (Array.getElem?_eq_some_iff.1 hb3.out).1
      have hql := World.block_lt_of_cell? wr _ c5
      go_wp2_with fail
      refine wp_region_vals (a1 := ?a1rr) (GW 7 b (.cells (rowOf .u16 128 (fun k => if lo ≤ (k : Int) ∧ (k : Int) < (j : Int) then n else f k)) 72 (0, 0)) (.cells (rowOf .u16 128 (fun k => if lo ≤ (k : Int) ∧ (k : Int) < (j : Int) + 1 then n else f k)) 72 (0, 0)) wr) [.pointer (some ⟨b, 0, none⟩), .int .i32 (j : Nat), .pointer (some ⟨q, 2, none⟩), .int .i64 n, .int .u16 n, .pointer (some ⟨b, 0, none⟩), .pointer (some ⟨b, 0 + j, none⟩), undef] 32 rfl (by kernel_rfl) (by kernel_rfl) (gw_start hb3.out) ⟨?o0rr, ?o1rr, ?o2rr, ?o3rr, ?o4rr, ?o5rr, ?o6rr, ?o7rr, trivial⟩ ?harr ?hdonerr
      case harr => simp [putAll, Act.put]; exact rfl
      case o0rr => exact ValOp.pure (gw_steady _ _ _ _ _ hbl1 0 (by decide)) [(0, .pointer (some ⟨b, 0, none⟩))] rfl (fun _ _ h2 => ⟨(h2 0 (by kernel_rfl)).trans rfl, trivial⟩) (by kernel_rfl) (fun _ _ _ _ _ => by kernel_rfl)
      case o1rr => exact ValOp.pure (gw_steady _ _ _ _ _ hbl1 1 (by decide)) [(8, .int .i32 (j : Nat))] rfl (fun _ _ h2 => ⟨(h2 8 (by kernel_rfl)).trans rfl, trivial⟩) (by kernel_rfl) (fun _ _ _ _ _ => by kernel_rfl)
      case o2rr => exact ValOp.pure (gw_steady _ _ _ _ _ hbl1 2 (by decide)) [(5, .pointer (some ⟨q, 0, none⟩))] rfl (fun _ _ h2 => ⟨(h2 5 (by kernel_rfl)).trans rfl, trivial⟩) (by kernel_rfl) (fun _ _ _ _ _ => by kernel_rfl)
      case o3rr => exact ValOp.pure (gw_steady _ _ _ _ _ hbl1 3 (by decide)) [(27, .pointer (some ⟨q, 2, none⟩))] rfl (fun _ h1 _ => ⟨h1 2 27 (by kernel_rfl), trivial⟩) (by kernel_rfl) (fun _ _ _ hg _ => run_read rfl rfl (run_l3 ((World.cell?_of_block (hg.1.block q hql hqb)).trans c5)))
      case o4rr => exact ValOp.pure (gw_steady _ _ _ _ _ hbl1 4 (by decide)) [(28, .int .i64 n)] rfl (fun _ h1 _ => ⟨h1 3 28 (by kernel_rfl), trivial⟩) (by kernel_rfl) (fun _ _ _ _ _ => run_cv rfl rfl w3)
      case o5rr => exact ValOp.pure (gw_steady _ _ _ _ _ hbl1 5 (by decide)) [(25, .pointer (some ⟨b, 0, none⟩))] rfl (fun _ h1 _ => ⟨h1 0 25 (by kernel_rfl), trivial⟩) (by kernel_rfl) (fun _ _ _ _ _ => by kernel_rfl)
      case o6rr => exact ValOp.pure (gw_steady _ _ _ _ _ hbl1 6 (by decide)) [(30, .pointer (some ⟨b, 0, none⟩)), (26, .int .i32 (j : Nat))] rfl (fun _ h1 _ => ⟨h1 5 30 (by kernel_rfl), h1 1 26 (by kernel_rfl), trivial⟩) (by kernel_rfl) (fun _ _ _ _ _ => run_ia_72 rfl rfl rfl hj)
      case o7rr => exact ValOp.store [(31, .pointer (some ⟨b, 0 + j, none⟩)), (29, .int .u16 n)] rfl rfl (fun _ h1 _ => ⟨h1 6 31 (by kernel_rfl), h1 4 29 (by kernel_rfl), trivial⟩) (by kernel_rfl) rfl rfl rfl rfl (fun s w hs hg => run_store_int (hg.2.1 hs) (by rw [rowOf_size]; omega) (sizeOf70 _)) (fun s w hs hg => ⟨hg.1.set rfl, fun c => (by simp [mark] at c), fun _ => by rw [Nat.zero_add]; exact hset w (hg.2.1 hs)⟩)
      case hdonerr =>
        intro W5 s5 hs5 hg5
        have hb5 : Hid (W5.heap[b]? = some (.cells (rowOf .u16 128 (fun k => if lo ≤ (k : Int) ∧ (k : Int) < (j : Int) + 1 then n else f k)) 72 (0, 0))) := hg5.2.2 (hs5 7 (by decide))
        have F5 : Hid (Far (fun k => k = b) w W5) := F3.out.trans hg5.1
        have c7 : Hid (W5.cell? ⟨q, 2, none⟩ = some (.int .i64 n)) := (World.cell?_of_block (hg5.1.block q hql hqb)).trans c5
        clear hg5 hs5 F3 hb3 c4 c5
        go_wp2
        refine ⟨⟨(j : Int) + 1, by go_num, by omega, .inr (by omega), F5, hb5, c7⟩, by simp [intOf]; omega⟩
    · go_wp2
      refine bodyPost_end (v := .tuple #[]) (results_none rfl _ _ _) rfl ⟨rfl, F3.out, ?_⟩
      refine hb3.out.trans (congrArg (fun z => some (Obj.cells z 72 (0, 0))) (rowOf_congr _ _ _ _ fun j hj => ?_))
      have := hln.out j hj
      by_cases hc : x ≤ first + j ∧ first + j ≤ y
      · rw [if_pos hc, if_pos (by have := this.2 hc; omega)]
      · rw [if_neg hc, if_neg (by intro h; exact hc (this.1 (by omega)))]
end Go.Proofs.Ytookbgmolggohaa
