/-
  What the statement of the sum's order asks, walked: the list whose two halves change places. Conditions: the list is not too long.
-/
import Derived.Test.YtdhfkdopcphjlaaOr1
import Derived.Test.YtdhfkdopcphjlaaTn
import Derived.Test.YtdhfkdopcphjlaaCm
namespace Go.Proofs.Ytdhfkdopcphjlaa
open Go.RowKit
/-- What the region's operations give. -/
def V9 (bs : List Nat) (g off c0 at0 B : Nat) : (Nat → Bool) → Nat → Value → World → Prop := fun s j v w => match j with
  | 0 => s 4 = true ∨ w.ownsRow B 25 1 v 0 []
  | 1 => v = .slice (some ⟨g, off, none⟩) bs.length c0
  | 2 => v = .int .i64 (at0 : Nat)
  | 3 => v = .slice (some ⟨g, off + at0, none⟩) (bs.length - at0) (c0 - at0)
  | 4 => s 8 = true ∨ w.ownsRow B 25 1 v (bs.length - at0) (flt (bs.drop at0))
  | 5 => v = .slice (some ⟨g, off, none⟩) bs.length c0
  | 6 => v = .int .i64 (at0 : Nat)
  | 7 => v = .slice (some ⟨g, off, none⟩) at0 c0
  | 8 => w.ownsRow B 25 1 v bs.length (flt (bs.drop at0) ++ flt (bs.take at0))
  | 9 => w.ownsRow B 25 1 v bs.length (flt (bs.drop at0) ++ flt (bs.take at0))
  | _ => True
theorem mark_ne (s : Nat → Bool) (i j : Nat) (h : ¬ j = i) : mark s i j = s j := by simp [mark, h]
theorem mark_eq (s : Nat → Bool) (i : Nat) : mark s i i = true := by simp [mark]
theorem v9_below {bs : List Nat} {g off c0 at0 B : Nat} {s s' : Nat → Bool} {w w' : World} (h4 : s 4 = true → s' 4 = true) (h8 : s 8 = true → s' 8 = true) (hb : Below w.heap.size w w') (j : Nat) (v : Value) (h : V9 bs g off c0 at0 B s j v w) : V9 bs g off c0 at0 B s' j v w' := by
  unfold V9 at h ⊢
  match j with
  | 0 => exact h.elim (fun q => .inl (h4 q)) fun q => .inr (owns_below q hb)
  | 1 => exact h
  | 2 => exact h
  | 3 => exact h
  | 4 => exact h.elim (fun q => .inl (h8 q)) fun q => .inr (owns_below q hb)
  | 5 => exact h
  | 6 => exact h
  | 7 => exact h
  | 8 => exact owns_below h hb
  | 9 => exact owns_below h hb
  | _ + 10 => trivial
theorem v9_calm (bs : List Nat) (g off c0 at0 B : Nat) (w0 : World) (i : Nat) (h4 : (4 == i) = false) (h8 : (8 == i) = false) : Calm (grown w0) (V9 bs g off c0 at0 B) i :=
  ⟨fun s w w' hs h hb => grown_steady w0 i s w w' hs h hb, fun s j u w w' _ _ h hb => v9_below (fun q => by rw [mark_ne s i 4 (by simpa using h4)]; exact q) (fun q => by rw [mark_ne s i 8 (by simpa using h8)]; exact q) hb j u h⟩
theorem run_from (w : World) (g off n c at0 : Nat) (h : at0 < n) (hc : n ≤ c) : (Instr.sliceAt 22 (.slice (some ⟨g, off, none⟩) n c) (some (.int .i64 (at0 : Int))) none none).run Try.prog w = .ok (.slice (some ⟨g, off + at0, none⟩) (n - at0) (c - at0)) w := by
  have h1 : (at0 : Int) ≤ (n : Int) := by omega
  have h2 : ¬ c = at0 := by omega
  simp [Instr.sliceAt, Instr.slice, go_sem, run_underlying Try.underlying22, h1, h2]
theorem run_upto (w : World) (g off n c at0 : Nat) (h : at0 ≤ n) (hc : n ≤ c) : (Instr.sliceAt 22 (.slice (some ⟨g, off, none⟩) n c) none (some (.int .i64 (at0 : Int))) none).run Try.prog w = .ok (.slice (some ⟨g, off, none⟩) at0 c) w := by
  have h1 : (at0 : Int) ≤ (c : Int) := by omega
  simp [Instr.sliceAt, Instr.slice, go_sem, run_underlying Try.underlying22, h1]
theorem run_slc {w : World} {l : List (Nat × Value)} {o : Oper} {x : Operand} {lo hi mx : Option Operand} {t : TypeId} (ho : o.op = .slice t x lo hi mx) {v : Value} (hr : (Instr.sliceAt t (rho l x) (lo.map (rho l)) (hi.map (rho l)) (mx.map (rho l))).run Try.prog w = .ok v w) : (execOp (rho l) o).run Try.prog w = .ok (.value v) w := by
  unfold execOp
  simp only [ho, Sem.run_bind, Sem.run_pure, Result.andThen_ok, hr]
theorem cells_from {w0 w : World} {bs : List Nat} {g off : Nat} (hd : ∀ j, j < bs.length → w0.cell? ⟨g, off + j, none⟩ = some ((flt bs).getD j undef)) (hb : Below w0.heap.size w0 w) (k : Nat) : ∀ j u, (flt (bs.drop k))[j]? = some u → w.cell? ((⟨g, off + k, none⟩ : Addr).add j) = some u := fun j u h => by
  have hl : j < (bs.drop k).length := by have := (List.getElem?_eq_some_iff.1 h).1; rwa [flt_len] at this
  rw [List.length_drop] at hl
  have hc := hd (k + j) (by omega)
  rw [flt_get bs _ (by omega)] at hc
  rw [Go.WideShapes.add_plain, Nat.add_assoc, hb.cell (p := ⟨g, off + (k + j), none⟩) (by simpa using World.block_lt_of_cell? w0 _ hc), hc]
  rw [← h]
  simp [flt, List.getD, List.getElem?_eq_getElem (show k + j < bs.length by omega), List.getElem?_drop]
theorem cells_upto {w0 w : World} {bs : List Nat} {g off : Nat} (hd : ∀ j, j < bs.length → w0.cell? ⟨g, off + j, none⟩ = some ((flt bs).getD j undef)) (hb : Below w0.heap.size w0 w) (k : Nat) (hk : k ≤ bs.length) : ∀ j u, (flt (bs.take k))[j]? = some u → w.cell? ((⟨g, off, none⟩ : Addr).add j) = some u := fun j u h => by
  have hl : j < (bs.take k).length := by have := (List.getElem?_eq_some_iff.1 h).1; rwa [flt_len] at this
  rw [List.length_take] at hl
  have hc := hd j (by omega)
  rw [flt_get bs _ (by omega)] at hc
  rw [Go.WideShapes.add_plain, hb.cell (p := ⟨g, off + j, none⟩) (by simpa using World.block_lt_of_cell? w0 _ hc), hc]
  rw [← h]
  simp [flt, List.getD, List.getElem?_eq_getElem (show j < bs.length by omega), show j < k by omega]
theorem eval_slot {a : Act} {t : Tmp} {v : Value} (h : a.tmps[t]? = some v) : a.eval (.tmp t) = v := by
  show a.tmps.getD t undef = v
  rw [Array.getD_eq_getD_getElem?, h]; rfl
theorem one_flt (bs : List Nat) : ∀ u ∈ flt bs, u.oneCell' = true := fun u hu => by
  obtain ⟨b, _, rfl⟩ := List.mem_map.1 hu
  rfl
set_option maxRecDepth 100000 in
set_option maxHeartbeats 1000000 in
theorem or_9 {Q : Exit → Act → World → Prop} (bs : List Nat) (g off c0 at0 : Nat) (vb : Value) (a : Act) (w0 : World) (h1 : at0 < bs.length) (h2 : bs.length ≤ 1000) (hcap : bs.length ≤ c0) (hdd : ∀ j, j < bs.length → w0.cell? ⟨g, off + j, none⟩ = some ((flt bs).getD j undef))
    (hK : Hid (∀ a w2 vt, Below w0.heap.size w0 w2 → w2.ownsRow w0.heap.size 25 1 vt bs.length (flt (bs.drop at0) ++ flt (bs.take at0)) → At 109 [(0, .slice (some ⟨g, off, none⟩) bs.length c0), (5, vb), (7, vt)] a → Code.wp Try.prog (sq 6 body6) Q a w2)) (ha : At 109 [(0, .slice (some ⟨g, off, none⟩) bs.length c0), (1, .int .i64 (at0 : Nat)), (5, vb)] a) : Code.wp Try.prog (sq 5 body6) Q a w0 := by
  obtain ⟨i0, hi, hz0, hz1, hz2⟩ := info_parts info25
  obtain ⟨f, rfl, h0, h1, h5, -⟩ := ha.lit
  change Code.wp _ _ _ ⟨#[f 0, f 1, f 2, f 3, f 4, f 5, f 6, f 7, f 8, f 9, f 10, f 11, f 12, f 13, f 14, f 15, f 16, f 17, f 18, f 19, f 20, f 21, f 22, f 23, f 24, f 25, f 26, f 27, f 28, f 29, f 30, f 31, f 32, f 33, f 34, f 35, f 36, f 37, f 38, f 39, f 40, f 41, f 42, f 43, f 44, f 45, f 46, f 47, f 48, f 49, f 50, f 51, f 52, f 53, f 54, f 55, f 56, f 57, f 58, f 59, f 60, f 61, f 62, f 63, f 64, f 65, f 66, f 67, f 68, f 69, f 70, f 71, f 72, f 73, f 74, f 75, f 76, f 77, f 78, f 79, f 80, f 81, f 82, f 83, f 84, f 85, f 86, f 87, f 88, f 89, f 90, f 91, f 92, f 93, f 94, f 95, f 96, f 97, f 98, f 99, f 100, f 101, f 102, f 103, f 104, f 105, f 106, f 107, f 108], []⟩ _
  simp only at h0 h1 h5
  simp only [h0, h1, h5]
  clear h0 h1 h5
  change Code.wp _ (Code.seq (hd (sq 5 body6)) (sq 6 body6)) _ _ _
  generalize sq 6 body6 = REST at hK ⊢
  conv => arg 2; arg 1; whnf
  refine wp_seq ?_
  refine wp_region_turn (grown w0) (V9 bs g off c0 at0 w0.heap.size) 109 rfl (by kernel_rfl) (by kernel_rfl) (grown_start w0) ⟨?o0, ?o1, ?o2, ?o3, ?o4, ?o5, ?o6, ?o7, ?o8, ?o9, trivial⟩ ?hdone
  case o1 => exact FlowOp4.plain (v9_calm _ _ _ _ _ _ _ 1 rfl rfl) fun a w s c => ⟨wanted_none rfl, fun K hK => wp_gen [(0, .slice (some ⟨g, off, none⟩) bs.length c0)] ⟨c.keep 0 _ (by kernel_rfl) rfl, trivial⟩ (by kernel_rfl) (by kernel_rfl) (hK.out _ w (show V9 _ _ _ _ _ _ _ 1 _ _ from rfl) (Below.refl _ _))⟩
  case o5 => exact FlowOp4.plain (v9_calm _ _ _ _ _ _ _ 5 rfl rfl) fun a w s c => ⟨wanted_none rfl, fun K hK => wp_gen [(0, .slice (some ⟨g, off, none⟩) bs.length c0)] ⟨c.keep 0 _ (by kernel_rfl) rfl, trivial⟩ (by kernel_rfl) (by kernel_rfl) (hK.out _ w (show V9 _ _ _ _ _ _ _ 5 _ _ from rfl) (Below.refl _ _))⟩
  case o2 => exact FlowOp4.plain (v9_calm _ _ _ _ _ _ _ 2 rfl rfl) fun a w s c => ⟨wanted_none rfl, fun K hK => wp_gen [(1, .int .i64 (at0 : Nat))] ⟨c.keep 1 _ (by kernel_rfl) rfl, trivial⟩ (by kernel_rfl) (by kernel_rfl) (hK.out _ w (show V9 _ _ _ _ _ _ _ 2 _ _ from rfl) (Below.refl _ _))⟩
  case o6 => exact FlowOp4.plain (v9_calm _ _ _ _ _ _ _ 6 rfl rfl) fun a w s c => ⟨wanted_none rfl, fun K hK => wp_gen [(1, .int .i64 (at0 : Nat))] ⟨c.keep 1 _ (by kernel_rfl) rfl, trivial⟩ (by kernel_rfl) (by kernel_rfl) (hK.out _ w (show V9 _ _ _ _ _ _ _ 6 _ _ from rfl) (Below.refl _ _))⟩
  case o3 =>
    exact FlowOp4.plain (v9_calm _ _ _ _ _ _ _ 3 rfl rfl) fun a w s c => ⟨wanted_none rfl, fun K hK => by
      obtain ⟨v1, e1, r1⟩ := c.slot 1 50 (by kernel_rfl)
      obtain ⟨v2, e2, r2⟩ := c.slot 2 51 (by kernel_rfl)
      obtain rfl : v1 = _ := r1
      obtain rfl : v2 = _ := r2
      exact wp_gen [(50, .slice (some ⟨g, off, none⟩) bs.length c0), (51, .int .i64 (at0 : Nat))] ⟨e1, e2, trivial⟩ (by kernel_rfl) (run_slc rfl (run_from w g off bs.length c0 at0 h1 hcap)) (hK.out _ w (show V9 _ _ _ _ _ _ _ 3 _ _ from rfl) (Below.refl _ _))⟩
  case o7 =>
    exact FlowOp4.plain (v9_calm _ _ _ _ _ _ _ 7 rfl rfl) fun a w s c => ⟨wanted_none rfl, fun K hK => by
      obtain ⟨v1, e1, r1⟩ := c.slot 5 54 (by kernel_rfl)
      obtain ⟨v2, e2, r2⟩ := c.slot 6 55 (by kernel_rfl)
      obtain rfl : v1 = _ := r1
      obtain rfl : v2 = _ := r2
      exact wp_gen [(54, .slice (some ⟨g, off, none⟩) bs.length c0), (55, .int .i64 (at0 : Nat))] ⟨e1, e2, trivial⟩ (by kernel_rfl) (run_slc rfl (run_upto w g off bs.length c0 at0 (Nat.le_of_lt h1) hcap)) (hK.out _ w (show V9 _ _ _ _ _ _ _ 7 _ _ from rfl) (Below.refl _ _))⟩
  case o0 =>
    exact FlowOp4.turn fun a w s c => ⟨wanted_none rfl, fun K hK => by
      have hz : w0.heap.size ≤ w.heap.size := (show Below _ _ _ from c.ground).size
      exact wp_gen [] trivial (by kernel_rfl) (v := .slice (some ⟨w.heap.size, 0, none⟩) 0 0) (w' := w.alloc (.cells #[] 25)) (by kernel_rfl) (hK.out _ _ ((show Below _ _ _ from c.ground).alloc hz _) (.inr (own_none w _ hz)) fun j u _ hu => v9_below (fun q => by rw [mark_ne s 0 4 (by decide)]; exact q) (fun q => by rw [mark_ne s 0 8 (by decide)]; exact q) ((Below.refl _ _).alloc (Nat.le_refl _) _) j u hu)⟩
  case o4 =>
    exact FlowOp4.turn fun a w s c => ⟨wanted_none rfl, fun K hK => by
      have hg : Below w0.heap.size w0 w := c.ground
      have hn : s 4 = false := c.new
      have h8 : s 8 = false := by
        cases q : s 8 with
        | false => rfl
        | true => rw [c.down 8 _ rfl q 4 (by kernel_rfl)] at hn; cases hn
      have h9 : s 9 = false := by
        cases q : s 9 with
        | false => rfl
        | true => rw [c.down 9 _ rfl q 8 (by kernel_rfl)] at h8; cases h8
      obtain ⟨v1, e1, r1⟩ := c.slot 0 49 (by kernel_rfl)
      obtain ⟨v2, e2, r2⟩ := c.slot 3 52 (by kernel_rfl)
      obtain rfl : v2 = _ := r2
      have own : w.ownsRow w0.heap.size 25 1 v1 0 [] := Or.resolve_left r1 (by rw [hn]; decide)
      refine wp_append_own _ _ _ 22 rfl w0.heap.size 25 i0 (.float .f64 0) 1 8 Try.underlying22 hi hz0 hz1 hz2 rfl (by decide) v1 0 [] (eval_slot e1) own ⟨g, off + at0, none⟩ (bs.length - at0) (c0 - at0) (flt (bs.drop at0)) (eval_slot e2) (by rw [flt_len]; simp) (cells_from hdd hg at0) (one_flt _) (by unfold maxLen; omega) (by omega) hg.size ?_
      intro v' w' ho hgr _
      rw [Nat.zero_add, List.nil_append] at ho
      refine hK.out v' w' (hg.grown hgr hg.size fun k e => (own.lt k e).1) (.inr ho) fun j u hj hu => ?_
      unfold V9 at hu ⊢
      match j, hj with
      | 0, _ => exact .inl (mark_eq s 4)
      | 1, _ => exact hu
      | 2, _ => exact hu
      | 3, _ => exact hu
      | 4, hj => rw [hn] at hj; cases hj
      | 5, _ => exact hu
      | 6, _ => exact hu
      | 7, _ => exact hu
      | 8, hj => rw [h8] at hj; cases hj
      | 9, hj => rw [h9] at hj; cases hj
      | _ + 10, _ => trivial⟩
  case o8 =>
    exact FlowOp4.turn fun a w s c => ⟨wanted_none rfl, fun K hK => by
      have hg : Below w0.heap.size w0 w := c.ground
      have hn : s 8 = false := c.new
      have h4 : s 4 = true := c.has 4 (by kernel_rfl)
      have h9 : s 9 = false := by
        cases q : s 9 with
        | false => rfl
        | true => rw [c.down 9 _ rfl q 8 (by kernel_rfl)] at hn; cases hn
      obtain ⟨v1, e1, r1⟩ := c.slot 4 53 (by kernel_rfl)
      obtain ⟨v2, e2, r2⟩ := c.slot 7 56 (by kernel_rfl)
      obtain rfl : v2 = _ := r2
      have own : w.ownsRow w0.heap.size 25 1 v1 (bs.length - at0) (flt (bs.drop at0)) := Or.resolve_left r1 (by rw [hn]; decide)
      refine wp_append_own _ _ _ 22 rfl w0.heap.size 25 i0 (.float .f64 0) 1 8 Try.underlying22 hi hz0 hz1 hz2 rfl (by decide) v1 (bs.length - at0) (flt (bs.drop at0)) (eval_slot e1) own ⟨g, off, none⟩ at0 c0 (flt (bs.take at0)) (eval_slot e2) (by rw [flt_len, List.length_take]; omega) (cells_upto hdd hg at0 (Nat.le_of_lt h1)) (one_flt _) (by unfold maxLen; omega) (by omega) hg.size ?_
      intro v' w' ho hgr _
      rw [show bs.length - at0 + at0 = bs.length by omega] at ho
      refine hK.out v' w' (hg.grown hgr hg.size fun k e => (own.lt k e).1) ho fun j u hj hu => ?_
      unfold V9 at hu ⊢
      match j, hj with
      | 0, _ => exact .inl (by rw [mark_ne s 8 4 (by decide)]; exact h4)
      | 1, _ => exact hu
      | 2, _ => exact hu
      | 3, _ => exact hu
      | 4, _ => exact .inl (mark_eq s 8)
      | 5, _ => exact hu
      | 6, _ => exact hu
      | 7, _ => exact hu
      | 8, hj => rw [hn] at hj; cases hj
      | 9, hj => rw [h9] at hj; cases hj
      | _ + 10, _ => trivial⟩
  case o9 =>
    exact FlowOp4.plain (v9_calm _ _ _ _ _ _ _ 9 rfl rfl) fun a w s c => ⟨wanted_none rfl, fun K hK => by
      obtain ⟨v1, e1, r1⟩ := c.slot 8 57 (by kernel_rfl)
      have r1 : w.ownsRow w0.heap.size 25 1 v1 bs.length (flt (bs.drop at0) ++ flt (bs.take at0)) := r1
      exact wp_gen [(57, v1)] ⟨e1, trivial⟩ (by kernel_rfl) (by kernel_rfl) (hK.out _ w r1 (Below.refl _ _))⟩
  case hdone =>
    intro a w s hs hg hz hdf hk hgot
    obtain ⟨vt, et, rt⟩ := got_slot4 hgot 9 7 (by kernel_rfl)
    have rt : w.ownsRow w0.heap.size 25 1 vt bs.length (flt (bs.drop at0) ++ flt (bs.take at0)) := rt
    exact hK.out a w vt hg rt ⟨hz, hdf, (hk 0 (by kernel_rfl)).trans rfl, (hk 5 (by kernel_rfl)).trans rfl, et, trivial⟩
end Go.Proofs.Ytdhfkdopcphjlaa
