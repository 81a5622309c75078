/-
  The contract of the document's insert: a number put into a list that rises. Conditions: the list is not empty and not too long.
-/
import Derived.Test.YtddoanmhikldiaaGv
import Derived.Test.YtddoanmhikldiaaRu
import Derived.Test.YtddoanmhikldiaaTn
namespace Go.Proofs.Ytddoanmhikldiaa
open Go.RowKit
/-- Numbers, as cells. -/
def celI (l : List Int) : List Value := l.map fun x => .int .i32 x
theorem celI_len (l : List Int) : (celI l).length = l.length := by simp [celI]
theorem celI_app (a b : List Int) : celI (a ++ b) = celI a ++ celI b := by simp [celI]
theorem celI_one (l : List Int) : ∀ u ∈ celI l, u.oneCell' = true := fun u hu => by
  obtain ⟨b, _, rfl⟩ := List.mem_map.1 hu
  rfl
theorem info21 : (Try.prog.info? 21).map (fun i => (i.zero, i.size, i.bytes)) = some (some (.int .i32 0), 1, 4) := by kernel_rfl
/-- A slice that reads as these numbers. -/
def RdI (w : World) (v : Value) (l : List Int) : Prop :=
  ∃ g off c, v = .slice (some ⟨g, off, none⟩) l.length c ∧ l.length ≤ c ∧ ∀ j, j < l.length → w.cell? ⟨g, off + j, none⟩ = some (.int .i32 (l.getD j 0))
theorem RdI.below {w w' : World} {v : Value} {l : List Int} (h : RdI w v l) (hb : Below w.heap.size w w') : RdI w' v l := by
  obtain ⟨g, off, c, rfl, hl, hd⟩ := h
  refine ⟨g, off, c, rfl, hl, fun j hj => ?_⟩
  have g1 := World.block_lt_of_cell? w _ (hd j hj)
  exact (hb.cell (p := ⟨g, off + j, none⟩) (by simpa using g1)).trans (hd j hj)
theorem mark_ne (s : Nat → Bool) (i j : Nat) (h : ¬ j = i) : mark s i j = s j := by simp [mark, h]
theorem mark_eq (s : Nat → Bool) (i : Nat) : mark s i i = true := by simp [mark]
/-- What the region's operations give. -/
def VI (l : List Int) (p : Int) (g off n c at0 B : Nat) (ad : Addr) : (Nat → Bool) → Nat → Value → World → Prop := fun s j v w => match j with
  | 0 => s 4 = true ∨ (∃ g0, v = .slice (some ⟨g0, 0, none⟩) 0 0 ∧ B ≤ g0 ∧ w.heap[g0]? = some (.cells #[] 21 (0, 0)))
  | 4 => s 7 = true ∨ w.ownsRow B 21 1 v at0 (celI (l.take at0))
  | 6 => s 7 = true ∨ (∃ g1, v = .slice (some ⟨g1, 0, none⟩) 1 1 ∧ w.heap[g1]? = some (.cells #[.int .i32 p] 21 (0, 0)))
  | 7 => s 11 = true ∨ w.ownsRow B 21 1 v (at0 + 1) (celI (l.take at0 ++ [p]))
  | 11 => w.ownsRow B 21 1 v (n + 1) (celI (l.take at0 ++ [p] ++ l.drop at0))
  | 12 => w.ownsRow B 21 1 v (n + 1) (celI (l.take at0 ++ [p] ++ l.drop at0))
  | 1 => v = .slice (some ⟨g, off, none⟩) n c
  | 2 => v = .int .i64 (at0 : Nat)
  | 3 => v = .slice (some ⟨g, off, none⟩) at0 c
  | 5 => v = .int .i32 p
  | 8 => v = .slice (some ⟨g, off, none⟩) n c
  | 9 => v = .int .i64 (at0 : Nat)
  | 10 => v = .slice (some ad) (n - at0) (c - at0)
  | _ => True
theorem vi_below {l : List Int} {p : Int} {g off n c at0 B : Nat} {ad : Addr} {s s' : Nat → Bool} {w w' : World} (h4 : s 4 = true → s' 4 = true) (h7 : s 7 = true → s' 7 = true) (h11 : s 11 = true → s' 11 = true) (hb : Below w.heap.size w w') (j : Nat) (v : Value) (h : VI l p g off n c at0 B ad s j v w) : VI l p g off n c at0 B ad s' j v w' := by
  have key : ∀ {k : Nat} {o : Obj}, w.heap[k]? = some o → w'.heap[k]? = some o := fun h => (hb.block _ (Array.getElem?_eq_some_iff.1 h).1).trans h
  unfold VI at h ⊢
  match j with
  | 0 => exact h.elim (fun q => .inl (h4 q)) fun ⟨g0, e1, e2, e3⟩ => .inr ⟨g0, e1, e2, key e3⟩
  | 1 => exact h
  | 2 => exact h
  | 3 => exact h
  | 4 => exact h.elim (fun q => .inl (h7 q)) fun q => .inr (owns_below q hb)
  | 5 => exact h
  | 6 => exact h.elim (fun q => .inl (h7 q)) fun ⟨g0, e1, e3⟩ => .inr ⟨g0, e1, key e3⟩
  | 7 => exact h.elim (fun q => .inl (h11 q)) fun q => .inr (owns_below q hb)
  | 8 => exact h
  | 9 => exact h
  | 10 => exact h
  | 11 => exact owns_below h hb
  | 12 => exact owns_below h hb
  | _ + 13 => trivial
theorem vi_calm (l : List Int) (p : Int) (g off n c at0 B : Nat) (ad : Addr) (w0 : World) (i : Nat) (h4 : (4 == i) = false) (h7 : (7 == i) = false) (h11 : (11 == i) = false) : Calm (grown w0) (VI l p g off n c at0 B ad) i :=
  ⟨fun s w w' hs h hb => grown_steady w0 i s w w' hs h hb, fun s j u w w' _ _ h hb => vi_below (fun q => by rw [mark_ne s i 4 (by simpa using h4)]; exact q) (fun q => by rw [mark_ne s i 7 (by simpa using h7)]; exact q) (fun q => by rw [mark_ne s i 11 (by simpa using h11)]; exact q) hb j u h⟩
theorem run_slc {w : World} {l : List (Nat × Value)} {o : Oper} {x : Operand} {lo hi mx : Option Operand} {t : TypeId} (ho : o.op = .slice t x lo hi mx) {v : Value} (hr : (Instr.sliceAt t (rho l x) (lo.map (rho l)) (hi.map (rho l)) (mx.map (rho l))).run Try.prog w = .ok v w) : (execOp (rho l) o).run Try.prog w = .ok (.value v) w := by
  unfold execOp
  simp only [ho, Sem.run_bind, Sem.run_pure, Result.andThen_ok, hr]
theorem run_upto65 (w : World) (g off n c at0 : Nat) (h : at0 ≤ n) (hc : n ≤ c) : (Instr.sliceAt 65 (.slice (some ⟨g, off, none⟩) n c) none (some (.int .i64 (at0 : Int))) none).run Try.prog w = .ok (.slice (some ⟨g, off, none⟩) at0 c) w := by
  have h1 : (at0 : Int) ≤ (c : Int) := by omega
  simp [Instr.sliceAt, Instr.slice, go_sem, run_underlying Try.underlying65, h1]
theorem run_from65 (g off n c at0 : Nat) (h : at0 ≤ n) (hc : n ≤ c) : ∃ ad : Addr, (at0 < n → ad = ⟨g, off + at0, none⟩) ∧ ∀ w, (Instr.sliceAt 65 (.slice (some ⟨g, off, none⟩) n c) (some (.int .i64 (at0 : Int))) none none).run Try.prog w = .ok (.slice (some ad) (n - at0) (c - at0)) w := by
  have h1 : (at0 : Int) ≤ (n : Int) := by omega
  by_cases h2 : c = at0
  · refine ⟨⟨g, off, none⟩, fun h => by omega, fun w => ?_⟩
    simp [Instr.sliceAt, Instr.slice, go_sem, run_underlying Try.underlying65, h1, h2]
  · refine ⟨⟨g, off + at0, none⟩, fun _ => rfl, fun w => ?_⟩
    simp [Instr.sliceAt, Instr.slice, go_sem, run_underlying Try.underlying65, h1, h2]
theorem eval_slot {a : Act} {t : Tmp} {v : Value} (h : a.tmps[t]? = some v) : a.eval (.tmp t) = v := by
  show a.tmps.getD t undef = v
  rw [Array.getD_eq_getD_getElem?, h]; rfl
theorem get_take (l : List Int) (k j : Nat) (u : Value) (h : (celI (l.take k))[j]? = some u) : j < k ∧ j < l.length ∧ u = .int .i32 (l.getD j 0) := by
  have hj : j < (celI (l.take k)).length := (List.getElem?_eq_some_iff.1 h).1
  rw [celI_len, List.length_take] at hj
  refine ⟨by omega, by omega, ?_⟩
  simp [celI, show j < k by omega, show j < l.length by omega, List.getD] at h ⊢
  exact h.symm
theorem get_drop (l : List Int) (k j : Nat) (u : Value) (h : (celI (l.drop k))[j]? = some u) : k + j < l.length ∧ u = .int .i32 (l.getD (k + j) 0) := by
  have hj : j < (celI (l.drop k)).length := (List.getElem?_eq_some_iff.1 h).1
  rw [celI_len, List.length_drop] at hj
  refine ⟨by omega, ?_⟩
  simp [celI, List.getElem?_drop, show k + j < l.length by omega, List.getD] at h ⊢
  exact h.symm
noncomputable def body50 : Code := Try.f50.body.getD .skip
set_option maxRecDepth 100000 in
set_option maxHeartbeats 1000000 in
theorem ins_6 {Q : Exit → Act → World → Prop} (l : List Int) (p : Int) (g off n c at0 : Nat) (a : Act) (w0 : World) (hn : l.length = n) (hat : at0 ≤ n) (hsm : n ≤ 1000000000) (hcap : n ≤ c) (hdd : ∀ j, j < l.length → w0.cell? ⟨g, off + j, none⟩ = some (.int .i32 (l.getD j 0)))
    (hK : Hid (∀ a w2 vt, Below w0.heap.size w0 w2 → w2.ownsRow w0.heap.size 21 1 vt (n + 1) (celI (l.take at0 ++ [p] ++ l.drop at0)) → At 45 [(4, vt)] a → Code.wp Try.prog (sq 5 body50) Q a w2)) (ha : At 45 [(0, .slice (some ⟨g, off, none⟩) n c), (1, .int .i32 p), (5, .int .i64 (at0 : Nat))] a) : Code.wp Try.prog (sq 4 body50) Q a w0 := by
  obtain ⟨i0, hi, hz0, hz1, hz2⟩ := info_parts info21
  obtain ⟨ad, had, hrun⟩ := run_from65 g off n c at0 hat hcap
  obtain ⟨f, rfl, h0, h1, h5, -⟩ := ha.lit
  change Code.wp _ _ _ ⟨#[f 0, f 1, f 2, f 3, f 4, f 5, f 6, f 7, f 8, f 9, f 10, f 11, f 12, f 13, f 14, f 15, f 16, f 17, f 18, f 19, f 20, f 21, f 22, f 23, f 24, f 25, f 26, f 27, f 28, f 29, f 30, f 31, f 32, f 33, f 34, f 35, f 36, f 37, f 38, f 39, f 40, f 41, f 42, f 43, f 44], []⟩ _
  simp only at h0 h1 h5
  simp only [h0, h1, h5]
  clear h0 h1 h5
  change Code.wp _ (Code.seq (hd (sq 4 body50)) (sq 5 body50)) _ _ _
  generalize sq 5 body50 = REST at hK ⊢
  conv => arg 2; arg 1; whnf
  refine wp_seq ?_
  refine wp_region_turn (grown w0) (VI l p g off n c at0 w0.heap.size ad) 45 rfl (by kernel_rfl) (by kernel_rfl) (grown_start w0) ⟨?o0, ?o1, ?o2, ?o3, ?o4, ?o5, ?o6, ?o7, ?o8, ?o9, ?o10, ?o11, ?o12, trivial⟩ ?hdone
  case o1 => exact FlowOp4.plain (vi_calm _ _ _ _ _ _ _ _ _ _ 1 rfl rfl rfl) fun a w s cx => ⟨wanted_none rfl, fun K hK => wp_gen [(0, .slice (some ⟨g, off, none⟩) n c)] ⟨cx.keep 0 _ (by kernel_rfl) rfl, trivial⟩ (by kernel_rfl) (by kernel_rfl) (hK.out _ w (show VI _ _ _ _ _ _ _ _ _ _ 1 _ _ from rfl) (Below.refl _ _))⟩
  case o8 => exact FlowOp4.plain (vi_calm _ _ _ _ _ _ _ _ _ _ 8 rfl rfl rfl) fun a w s cx => ⟨wanted_none rfl, fun K hK => wp_gen [(0, .slice (some ⟨g, off, none⟩) n c)] ⟨cx.keep 0 _ (by kernel_rfl) rfl, trivial⟩ (by kernel_rfl) (by kernel_rfl) (hK.out _ w (show VI _ _ _ _ _ _ _ _ _ _ 8 _ _ from rfl) (Below.refl _ _))⟩
  case o2 => exact FlowOp4.plain (vi_calm _ _ _ _ _ _ _ _ _ _ 2 rfl rfl rfl) fun a w s cx => ⟨wanted_none rfl, fun K hK => wp_gen [(5, .int .i64 (at0 : Nat))] ⟨cx.keep 5 _ (by kernel_rfl) rfl, trivial⟩ (by kernel_rfl) (by kernel_rfl) (hK.out _ w (show VI _ _ _ _ _ _ _ _ _ _ 2 _ _ from rfl) (Below.refl _ _))⟩
  case o9 => exact FlowOp4.plain (vi_calm _ _ _ _ _ _ _ _ _ _ 9 rfl rfl rfl) fun a w s cx => ⟨wanted_none rfl, fun K hK => wp_gen [(5, .int .i64 (at0 : Nat))] ⟨cx.keep 5 _ (by kernel_rfl) rfl, trivial⟩ (by kernel_rfl) (by kernel_rfl) (hK.out _ w (show VI _ _ _ _ _ _ _ _ _ _ 9 _ _ from rfl) (Below.refl _ _))⟩
  case o5 => exact FlowOp4.plain (vi_calm _ _ _ _ _ _ _ _ _ _ 5 rfl rfl rfl) fun a w s cx => ⟨wanted_none rfl, fun K hK => wp_gen [(1, .int .i32 p)] ⟨cx.keep 1 _ (by kernel_rfl) rfl, trivial⟩ (by kernel_rfl) (by kernel_rfl) (hK.out _ w (show VI _ _ _ _ _ _ _ _ _ _ 5 _ _ from rfl) (Below.refl _ _))⟩
  case o3 =>
    exact FlowOp4.plain (vi_calm _ _ _ _ _ _ _ _ _ _ 3 rfl rfl rfl) fun a w s cx => ⟨wanted_none rfl, fun K hK => by
      obtain ⟨v1, e1, r1⟩ := cx.slot 1 34 (by kernel_rfl)
      obtain ⟨v2, e2, r2⟩ := cx.slot 2 35 (by kernel_rfl)
      obtain rfl : v1 = _ := r1
      obtain rfl : v2 = _ := r2
      exact wp_gen [(34, .slice (some ⟨g, off, none⟩) n c), (35, .int .i64 (at0 : Nat))] ⟨e1, e2, trivial⟩ (by kernel_rfl) (run_slc rfl (run_upto65 w g off n _ at0 hat hcap)) (hK.out _ w (show VI _ _ _ _ _ _ _ _ _ _ 3 _ _ from rfl) (Below.refl _ _))⟩
  case o10 =>
    exact FlowOp4.plain (vi_calm _ _ _ _ _ _ _ _ _ _ 10 rfl rfl rfl) fun a w s cx => ⟨wanted_none rfl, fun K hK => by
      obtain ⟨v1, e1, r1⟩ := cx.slot 8 41 (by kernel_rfl)
      obtain ⟨v2, e2, r2⟩ := cx.slot 9 42 (by kernel_rfl)
      obtain rfl : v1 = _ := r1
      obtain rfl : v2 = _ := r2
      exact wp_gen [(41, .slice (some ⟨g, off, none⟩) n c), (42, .int .i64 (at0 : Nat))] ⟨e1, e2, trivial⟩ (by kernel_rfl) (run_slc rfl (hrun w)) (hK.out _ w (show VI _ _ _ _ _ _ _ _ _ _ 10 _ _ from rfl) (Below.refl _ _))⟩
  case o0 =>
    exact FlowOp4.turn fun a w s cx => ⟨wanted_none rfl, fun K hK => by
      have hz : w0.heap.size ≤ w.heap.size := (show Below _ _ _ from cx.ground).size
      exact wp_gen [] trivial (by kernel_rfl) (v := .slice (some ⟨w.heap.size, 0, none⟩) 0 0) (w' := w.alloc (.cells #[] 21)) (by kernel_rfl) (hK.out _ _ ((show Below _ _ _ from cx.ground).alloc hz _) (.inr ⟨_, rfl, hz, heap_alloc_last _ _⟩) fun j u _ hu => vi_below (fun q => by rw [mark_ne s 0 4 (by decide)]; exact q) (fun q => by rw [mark_ne s 0 7 (by decide)]; exact q) (fun q => by rw [mark_ne s 0 11 (by decide)]; exact q) ((Below.refl _ _).alloc (Nat.le_refl _) _) j u hu)⟩
  case o6 =>
    exact FlowOp4.turn fun a w s cx => ⟨wanted_none rfl, fun K hK => by
      have hz : w0.heap.size ≤ w.heap.size := (show Below _ _ _ from cx.ground).size
      obtain ⟨v1, e1, r1⟩ := cx.slot 5 38 (by kernel_rfl)
      obtain rfl : v1 = _ := r1
      exact wp_gen [(38, .int .i32 p)] ⟨e1, trivial⟩ (by kernel_rfl) (v := .slice (some ⟨w.heap.size, 0, none⟩) 1 1) (w' := w.alloc (.cells #[.int .i32 p] 21)) (by kernel_rfl) (hK.out _ _ ((show Below _ _ _ from cx.ground).alloc hz _) (.inr ⟨_, rfl, heap_alloc_last _ _⟩) fun j u _ hu => vi_below (fun q => by rw [mark_ne s 6 4 (by decide)]; exact q) (fun q => by rw [mark_ne s 6 7 (by decide)]; exact q) (fun q => by rw [mark_ne s 6 11 (by decide)]; exact q) ((Below.refl _ _).alloc (Nat.le_refl _) _) j u hu)⟩
  case o4 =>
    exact FlowOp4.turn fun a w s cx => ⟨wanted_none rfl, fun K hK => by
      have hg : Below w0.heap.size w0 w := cx.ground
      have hn4 : s 4 = false := cx.new
      have h7 : s 7 = false := by
        cases q : s 7 with
        | false => rfl
        | true => rw [cx.down 7 _ rfl q 4 (by kernel_rfl)] at hn4; cases hn4
      have h11 : s 11 = false := by
        cases q : s 11 with
        | false => rfl
        | true => rw [cx.down 11 _ rfl q 7 (by kernel_rfl)] at h7; cases h7
      have h12 : s 12 = false := by
        cases q : s 12 with
        | false => rfl
        | true => rw [cx.down 12 _ rfl q 11 (by kernel_rfl)] at h11; cases h11
      obtain ⟨v1, e1, r1⟩ := cx.slot 0 33 (by kernel_rfl)
      obtain ⟨v2, e2, r2⟩ := cx.slot 3 36 (by kernel_rfl)
      obtain rfl : v2 = _ := r2
      obtain ⟨g0, rfl, hg0, hb0⟩ : ∃ g0, v1 = .slice (some ⟨g0, 0, none⟩) 0 0 ∧ w0.heap.size ≤ g0 ∧ w.heap[g0]? = some (.cells #[] 21 (0, 0)) := Or.resolve_left r1 (by rw [hn4]; decide)
      have own : w.ownsRow w0.heap.size 21 1 (.slice (some ⟨g0, 0, none⟩) 0 0) 0 [] := ⟨rfl, .inr ⟨g0, 0, #[], rfl, hg0, hb0, Nat.le_refl _, Nat.zero_le _, by simp, rfl⟩⟩
      refine wp_append_own _ _ _ 65 rfl w0.heap.size 21 i0 (.int .i32 0) 1 4 Try.underlying65 hi hz0 hz1 hz2 rfl (by decide) _ 0 [] (eval_slot e1) own ⟨g, off, none⟩ at0 _ (celI (l.take at0)) (eval_slot e2) (by rw [celI_len, List.length_take]; omega) (fun j u hj => by
        obtain ⟨_, h2, rfl⟩ := get_take l at0 j u hj
        have hc := hdd j h2
        rw [Go.WideShapes.add_plain, hg.cell (p := ⟨g, off + j, none⟩) (by simpa using World.block_lt_of_cell? w0 _ hc), hc]) (celI_one _) (by unfold maxLen; omega) (by omega) hg.size ?_
      intro v' w' ho hgr _
      rw [Nat.zero_add, List.nil_append] at ho
      have hkp : ∀ {k : Nat} {o : Obj}, w.heap[k]? = some o → k ≠ g0 → w'.heap[k]? = some o := fun {k o} h hne => (hgr.block k (Array.getElem?_eq_some_iff.1 h).1 (fun e => hne (by simpa [Value.ownBlock] using e))).trans h
      refine hK.out v' w' (hg.grown hgr hg.size fun k e => (own.lt k e).1) (.inr ho) fun j u hj hu => ?_
      unfold VI at hu ⊢
      match j, hj with
      | 0, _ => exact .inl (mark_eq s 4)
      | 1, _ => exact hu
      | 2, _ => exact hu
      | 3, _ => exact hu
      | 4, hj => rw [hn4] at hj; cases hj
      | 5, _ => exact hu
      | 6, _ => exact hu.elim (fun q => by rw [h7] at q; cases q) fun ⟨g1, q1, q2⟩ => .inr ⟨g1, q1, hkp q2 (fun e => by rw [e, hb0] at q2; cases q2)⟩
      | 7, hj => rw [h7] at hj; cases hj
      | 8, _ => exact hu
      | 9, _ => exact hu
      | 10, _ => exact hu
      | 11, hj => rw [h11] at hj; cases hj
      | 12, hj => rw [h12] at hj; cases hj
      | _ + 13, _ => trivial⟩
  case o7 =>
    exact FlowOp4.turn fun a w s cx => ⟨wanted_none rfl, fun K hK => by
      have hg : Below w0.heap.size w0 w := cx.ground
      have hn7 : s 7 = false := cx.new
      have h4 : s 4 = true := cx.has 4 (by kernel_rfl)
      have h11 : s 11 = false := by
        cases q : s 11 with
        | false => rfl
        | true => rw [cx.down 11 _ rfl q 7 (by kernel_rfl)] at hn7; cases hn7
      have h12 : s 12 = false := by
        cases q : s 12 with
        | false => rfl
        | true => rw [cx.down 12 _ rfl q 11 (by kernel_rfl)] at h11; cases h11
      obtain ⟨v1, e1, r1⟩ := cx.slot 4 37 (by kernel_rfl)
      obtain ⟨v2, e2, r2⟩ := cx.slot 6 39 (by kernel_rfl)
      obtain ⟨g1, rfl, hb1⟩ : ∃ g1, v2 = .slice (some ⟨g1, 0, none⟩) 1 1 ∧ w.heap[g1]? = some (.cells #[.int .i32 p] 21 (0, 0)) := Or.resolve_left r2 (by rw [hn7]; decide)
      have own : w.ownsRow w0.heap.size 21 1 v1 at0 (celI (l.take at0)) := Or.resolve_left r1 (by rw [hn7]; decide)
      refine wp_append_own _ _ _ 65 rfl w0.heap.size 21 i0 (.int .i32 0) 1 4 Try.underlying65 hi hz0 hz1 hz2 rfl (by decide) v1 at0 (celI (l.take at0)) (eval_slot e1) own ⟨g1, 0, none⟩ 1 1 (celI [p]) (eval_slot e2) rfl (fun j u hj => by
        have h0 : j = 0 := by have := (List.getElem?_eq_some_iff.1 hj).1; simp [celI] at this; omega
        subst h0
        simp [celI] at hj
        subst hj
        rw [Go.WideShapes.add_plain]
        simp [World.cell?, hb1]) (celI_one _) (by unfold maxLen; omega) (by omega) hg.size ?_
      intro v' w' ho hgr _
      rw [← celI_app] at ho
      refine hK.out v' w' (hg.grown hgr hg.size fun k e => (own.lt k e).1) (.inr ho) fun j u hj hu => ?_
      unfold VI at hu ⊢
      match j, hj with
      | 0, _ => exact .inl (by rw [mark_ne s 7 4 (by decide)]; exact h4)
      | 1, _ => exact hu
      | 2, _ => exact hu
      | 3, _ => exact hu
      | 4, _ => exact .inl (mark_eq s 7)
      | 5, _ => exact hu
      | 6, _ => exact .inl (mark_eq s 7)
      | 7, hj => rw [hn7] at hj; cases hj
      | 8, _ => exact hu
      | 9, _ => exact hu
      | 10, _ => exact hu
      | 11, hj => rw [h11] at hj; cases hj
      | 12, hj => rw [h12] at hj; cases hj
      | _ + 13, _ => trivial⟩
  case o11 =>
    exact FlowOp4.turn fun a w s cx => ⟨wanted_none rfl, fun K hK => by
      have hg : Below w0.heap.size w0 w := cx.ground
      have hn11 : s 11 = false := cx.new
      have h7 : s 7 = true := cx.has 7 (by kernel_rfl)
      have h4 : s 4 = true := cx.down 7 _ rfl h7 4 (by kernel_rfl)
      have h12 : s 12 = false := by
        cases q : s 12 with
        | false => rfl
        | true => rw [cx.down 12 _ rfl q 11 (by kernel_rfl)] at hn11; cases hn11
      obtain ⟨v1, e1, r1⟩ := cx.slot 7 40 (by kernel_rfl)
      obtain ⟨v2, e2, r2⟩ := cx.slot 10 43 (by kernel_rfl)
      obtain rfl : v2 = _ := r2
      have own : w.ownsRow w0.heap.size 21 1 v1 (at0 + 1) (celI (l.take at0 ++ [p])) := Or.resolve_left r1 (by rw [hn11]; decide)
      refine wp_append_own _ _ _ 65 rfl w0.heap.size 21 i0 (.int .i32 0) 1 4 Try.underlying65 hi hz0 hz1 hz2 rfl (by decide) v1 (at0 + 1) (celI (l.take at0 ++ [p])) (eval_slot e1) own ad (n - at0) _ (celI (l.drop at0)) (eval_slot e2) (by rw [celI_len, List.length_drop]; omega) (fun j u hj => by
        obtain ⟨h2, rfl⟩ := get_drop l at0 j u hj
        have hc := hdd (at0 + j) h2
        rw [had (by omega), Go.WideShapes.add_plain, Nat.add_assoc, hg.cell (p := ⟨g, off + (at0 + j), none⟩) (by simpa using World.block_lt_of_cell? w0 _ hc), hc]) (celI_one _) (by unfold maxLen; omega) (by omega) hg.size ?_
      intro v' w' ho hgr _
      rw [← celI_app, show at0 + 1 + (n - at0) = n + 1 by omega] at ho
      refine hK.out v' w' (hg.grown hgr hg.size fun k e => (own.lt k e).1) ho fun j u hj hu => ?_
      unfold VI at hu ⊢
      match j, hj with
      | 0, _ => exact .inl (by rw [mark_ne s 11 4 (by decide)]; exact h4)
      | 1, _ => exact hu
      | 2, _ => exact hu
      | 3, _ => exact hu
      | 4, _ => exact .inl (by rw [mark_ne s 11 7 (by decide)]; exact h7)
      | 5, _ => exact hu
      | 6, _ => exact .inl (by rw [mark_ne s 11 7 (by decide)]; exact h7)
      | 7, _ => exact .inl (mark_eq s 11)
      | 8, _ => exact hu
      | 9, _ => exact hu
      | 10, _ => exact hu
      | 11, hj => rw [hn11] at hj; cases hj
      | 12, hj => rw [h12] at hj; cases hj
      | _ + 13, _ => trivial⟩
  case o12 =>
    exact FlowOp4.plain (vi_calm _ _ _ _ _ _ _ _ _ _ 12 rfl rfl rfl) fun a w s cx => ⟨wanted_none rfl, fun K hK => by
      obtain ⟨v1, e1, r1⟩ := cx.slot 11 44 (by kernel_rfl)
      have r1 : w.ownsRow w0.heap.size 21 1 v1 (n + 1) (celI (l.take at0 ++ [p] ++ l.drop at0)) := r1
      exact wp_gen [(44, v1)] ⟨e1, trivial⟩ (by kernel_rfl) (by kernel_rfl) (hK.out _ w r1 (Below.refl _ _))⟩
  case hdone =>
    intro a w s hs hg hz hdf hk hgot
    obtain ⟨vt, et, rt⟩ := got_slot4 hgot 12 4 (by kernel_rfl)
    have rt : w.ownsRow w0.heap.size 21 1 vt (n + 1) (celI (l.take at0 ++ [p] ++ l.drop at0)) := rt
    exact hK.out a w vt hg rt ⟨hz, hdf, et, trivial⟩
end Go.Proofs.Ytddoanmhikldiaa
