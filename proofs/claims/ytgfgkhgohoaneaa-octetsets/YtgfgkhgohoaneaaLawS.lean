/-
  The walk of the law OctetSets: it returns true and turns nothing that was there. Conditions: the numbers are bytes; the two slices that came in read as bytes, no more than 2^47 of them.
-/
import Derived.Test.YtgfgkhgohoaneaaArd
import Derived.Test.YtgfgkhgohoaneaaSf
import Derived.Test.YtgfgkhgohoaneaaLawL
import Derived.BigRegion
namespace Go.Proofs.Ytgfgkhgohoaneaa.Sf
open Go.RowKit
theorem wp_load1 {P : Program} {Q : Exit → Act → World → Prop} {o : Oper} {a : Act} {w : World} {K : Act → World → Prop} (ty : TypeId) (x : Operand) (ho : o.op = .load ty x) (p : Addr) (hx : a.eval x = .pointer (some p)) (v : Value) (hr : (loadVar ty p).run P w = .ok v w) (h : K (a.put o.dst v) w) : o.wp P a w K Q := by
  unfold Oper.wp execOp
  simp only [ho, hx, Instr.loadAt, Instr.sureAddr, Sem.run_bind, Sem.run_pure, Result.andThen_ok, hr]
  exact h
theorem ld5 (p : Addr) (v : Value) (w : World) (h : w.cell? p = some v) : (loadVar 5 p).run Try.prog w = .ok v w := by
  simp [go_sem, loadVar, h]
theorem ld27 (p : Addr) (v : Value) (w : World) (h : w.cell? p = some v) : (loadVar 27 p).run Try.prog w = .ok v w := by
  simp [go_sem, loadVar, h]
theorem eql31 (p : Nat → Bool) (w : World) : (Op.equalIn 10000 31 (.agg (aggW p)) (.agg (aggW p))).run Try.prog w = .ok true w := eq31 _ _ _ _ w
theorem neo_w (p : Nat → Bool) (o : Oper) (t u : Nat) (ho : o.op = .binOp .neq 31 (.tmp t) (.tmp u) 31) (hne : (u == t) = false) (w : World) : (execOp (rho [(t, .agg (aggW p)), (u, .agg (aggW p))]) o).run Try.prog w = .ok (.value (.bool false)) w := by
  have h1 : (eqGuard .neq 31 (.tmp t) (.tmp u) (.agg (aggW p)) (.agg (aggW p))).run Try.prog w = .ok () w := by kernel_rfl
  have h2 : (binOp .neq 31 (.agg (aggW p)) (.agg (aggW p))).run Try.prog w = .ok (.bool false) w := by
    have := eql31 p w
    unfold binOp
    simp only [Op.equal, Op.maxDepth, Sem.run_bind, this, Result.andThen_ok, Sem.run_pure, Bool.not_true]
  have e1 : rho [(t, .agg (aggW p)), (u, .agg (aggW p))] (.tmp t) = .agg (aggW p) := by simp [rho]
  have e2 : rho [(t, .agg (aggW p)), (u, .agg (aggW p))] (.tmp u) = .agg (aggW p) := by simp [rho, List.lookup, hne]
  unfold execOp
  simp only [ho, e1, e2, Sem.run_bind, h1, h2, Result.andThen_ok, Sem.run_pure]
theorem eqo31 (p q : Nat → Bool) (hpq : aggW p = aggW q) (o : Oper) (t u : Nat) (ho : o.op = .binOp .eql 31 (.tmp t) (.tmp u) 31) (hne : (u == t) = false) (w : World) : (execOp (rho [(t, .agg (aggW p)), (u, .agg (aggW q))]) o).run Try.prog w = .ok (.value (.bool true)) w := by
  rw [← hpq]
  have h1 : (eqGuard .eql 31 (.tmp t) (.tmp u) (.agg (aggW p)) (.agg (aggW p))).run Try.prog w = .ok () w := by kernel_rfl
  have h2 : (binOp .eql 31 (.agg (aggW p)) (.agg (aggW p))).run Try.prog w = .ok (.bool true) w := by
    have := eql31 p w
    unfold binOp
    simp only [Op.equal, Op.maxDepth, Sem.run_bind, this, Result.andThen_ok, Sem.run_pure]
  have e1 : rho [(t, .agg (aggW p)), (u, .agg (aggW p))] (.tmp t) = .agg (aggW p) := by simp [rho]
  have e2 : rho [(t, .agg (aggW p)), (u, .agg (aggW p))] (.tmp u) = .agg (aggW p) := by simp [rho, List.lookup, hne]
  unfold execOp
  simp only [ho, e1, e2, Sem.run_bind, h1, h2, Result.andThen_ok, Sem.run_pure]
theorem str_ne (A : ByteArray) (o : Oper) (t u : Nat) (ho : o.op = .binOp .neq 9 (.tmp t) (.tmp u) 9) (hne : (u == t) = false) (w : World) : (execOp (rho [(t, .string A), (u, .string A)]) o).run Try.prog w = .ok (.value (.bool false)) w := by
  have e1 : rho [(t, .string A), (u, .string A)] (.tmp t) = .string A := by simp [rho]
  have e2 : rho [(t, .string A), (u, .string A)] (.tmp u) = .string A := by simp [rho, List.lookup, hne]
  have h1 : (eqGuard .neq 9 (.tmp t) (.tmp u) (.string A) (.string A)).run Try.prog w = .ok () w := by kernel_rfl
  have h2 : (binOp .neq 9 (.string A) (.string A)).run Try.prog w = .ok (.bool false) w := by
    simp [go_sem]
  unfold execOp
  simp only [ho, e1, e2, Sem.run_bind, h1, h2, Result.andThen_ok, Sem.run_pure]
theorem str_eq (A : ByteArray) (o : Oper) (t u : Nat) (ho : o.op = .binOp .eql 9 (.tmp t) (.tmp u) 9) (hne : (u == t) = false) (w : World) : (execOp (rho [(t, .string A), (u, .string A)]) o).run Try.prog w = .ok (.value (.bool true)) w := by
  have e1 : rho [(t, .string A), (u, .string A)] (.tmp t) = .string A := by simp [rho]
  have e2 : rho [(t, .string A), (u, .string A)] (.tmp u) = .string A := by simp [rho, List.lookup, hne]
  have h1 : (eqGuard .eql 9 (.tmp t) (.tmp u) (.string A) (.string A)).run Try.prog w = .ok () w := by kernel_rfl
  have h2 : (binOp .eql 9 (.string A) (.string A)).run Try.prog w = .ok (.bool true) w := by
    simp [go_sem]
  unfold execOp
  simp only [ho, e1, e2, Sem.run_bind, h1, h2, Result.andThen_ok, Sem.run_pure]
theorem cv_a {v : Value} {s : ByteArray} (o : Oper) (t : Nat) (ho : o.op = .convert 27 9 (.tmp t)) (w : World) (h : (convert 27 9 v).run Try.prog w = .ok (.string s) w) : (execOp (rho [(t, v)]) o).run Try.prog w = .ok (.value (.string s)) w := by
  have e1 : rho [(t, v)] (.tmp t) = v := by simp [rho]
  unfold execOp
  simp only [ho, e1, Sem.run_bind, h, Result.andThen_ok, Sem.run_pure]
theorem own_emptyM (w : World) (e : TypeId) (m : Nat) (hm : m = w.heap.size) : (w.alloc (.cells #[] e)).ownsRow m e 1 (.slice (some ⟨m, 0, none⟩) 0 0) 0 [] := by
  subst hm; exact own_empty w e
theorem owns_form {w : World} {B e n : Nat} {v : Value} {xs : List Value} (h : w.ownsRow B e 1 v n xs) : ∃ ao c, v = .slice ao n c := by
  obtain ⟨_, ⟨rfl, rfl⟩ | ⟨g, cap, cur, rfl, _⟩⟩ := h
  · exact ⟨_, _, rfl⟩
  · exact ⟨_, _, rfl⟩
theorem lit_act (a : Act) (n : Nat) (hz : a.tmps.size = n) (hd : a.defers = []) : a = { tmps := ((List.range n).map fun i => a.tmps.getD i undef).toArray, defers := [] } := by
  obtain ⟨ts, ds⟩ := a
  simp only at hz hd
  subst hd
  congr 1
  apply Array.ext_getElem?
  intro i
  by_cases h : i < n
  · simp [h, hz]
  · rw [Array.getElem?_eq_none (by omega), Array.getElem?_eq_none (by simp; omega)]
theorem getD_of {a : Act} {i : Nat} {v : Value} (h : a.tmps[i]? = some v) : a.tmps.getD i undef = v := by simp [h]
/-- Where the loop stands: the three rows, the members, what was there. -/
def Ls (M : Nat → Bool) (S : Nat) (w0 : World) (k : Nat) (v : Value) (p q r : Nat → Bool) (wr : World) : Prop :=
  wr.heap[S]? = some (.cells (rowOf .u8 256 (b01 p)) 35 (0, 0)) ∧ wr.heap[S + 1]? = some (.cells (rowOf .u8 256 (b01 q)) 35 (0, 0)) ∧ wr.heap[S + 1 + 1]? = some (.cells (rowOf .u8 256 (b01 r)) 35 (0, 0)) ∧ wr.ownsRow (S + 3) 5 1 v (mems (wd M) k).length ((mems (wd M) k).map fun z => Value.int .u8 z) ∧ Below S w0 wr
def LsIn (M N : Nat → Bool) (S : Nat) (w0 : World) (k : Nat) (v : Value) (wr : World) : Prop := Ls M S w0 k v (upTo (orP M N) k) (upTo (andP M N) k) (upTo (minusP M N) k) wr
theorem owns_far {w : World} {B e n b i : Nat} {v x : Value} {xs : List Value} (h : w.ownsRow B e 1 v n xs) (hb : b < B) : ((w.setCell ⟨b, i, none⟩ x).drew).ownsRow B e 1 v n xs := by
  obtain ⟨hl, h | ⟨g, cap, cur, rfl, h1, hg, h3, h4, h5, h6⟩⟩ := h
  · exact ⟨hl, .inl h⟩
  · exact ⟨hl, .inr ⟨g, cap, cur, rfl, h1, (heap_setCell_other w ⟨b, i, none⟩ g x (by simp; omega)).trans hg, h3, h4, h5, h6⟩⟩
theorem row_next (p : Nat → Bool) (k : Nat) : (rowOf .u8 256 (b01 (upTo p k))).setIfInBounds k (.int .u8 (b01 p k)) = rowOf .u8 256 (b01 (upTo p (k + 1))) := by
  rw [rowOf_set]
  refine rowOf_congr _ _ _ _ fun j _ => ?_
  unfold b01 upTo
  by_cases e : j = k
  · subst e; simp
  · have h1 : (decide (j < k + 1)) = decide (j < k) := by simp; omega
    simp [e, h1]
theorem Ls.one {M p q r : Nat → Bool} {S k : Nat} {w0 wr : World} {v : Value} (h : Ls M S w0 k v (upTo p k) q r wr) : Ls M S w0 k v (upTo p (k + 1)) q r ((wr.setCell ⟨S, k, none⟩ (.int .u8 (b01 p k))).drew) := by
  obtain ⟨h1, h2, h3, h4, h5⟩ := h
  refine ⟨?_, (heap_setCell_other _ _ _ _ (by simp)).trans h2, (heap_setCell_other _ _ _ _ (by simp; omega)).trans h3, owns_far h4 (by omega), (h5.setCell (by simp) _).drew⟩
  rw [← row_next]; exact heap_setCell_same wr S k _ 35 _ h1
theorem Ls.two {M p q r : Nat → Bool} {S k : Nat} {w0 wr : World} {v : Value} (h : Ls M S w0 k v p (upTo q k) r wr) : Ls M S w0 k v p (upTo q (k + 1)) r ((wr.setCell ⟨S + 1, k, none⟩ (.int .u8 (b01 q k))).drew) := by
  obtain ⟨h1, h2, h3, h4, h5⟩ := h
  refine ⟨(heap_setCell_other _ _ _ _ (by simp)).trans h1, ?_, (heap_setCell_other _ _ _ _ (by simp)).trans h3, owns_far h4 (by omega), (h5.setCell (by simp) _).drew⟩
  rw [← row_next]; exact heap_setCell_same wr (S + 1) k _ 35 _ h2
theorem Ls.three {M p q r : Nat → Bool} {S k : Nat} {w0 wr : World} {v : Value} (h : Ls M S w0 k v p q (upTo r k) wr) : Ls M S w0 k v p q (upTo r (k + 1)) ((wr.setCell ⟨S + 1 + 1, k, none⟩ (.int .u8 (b01 r k))).drew) := by
  obtain ⟨h1, h2, h3, h4, h5⟩ := h
  refine ⟨(heap_setCell_other _ _ _ _ (by simp; omega)).trans h1, (heap_setCell_other _ _ _ _ (by simp)).trans h2, ?_, owns_far h4 (by omega), (h5.setCell (by simp; omega) _).drew⟩
  rw [← row_next]; exact heap_setCell_same wr (S + 1 + 1) k _ 35 _ h3
theorem Ls.cells {M N p q r : Nat → Bool} {S k g10 g11 : Nat} {w0 wr : World} {v : Value} (h : Ls M S w0 k v p q r wr) (hk : k < 256) (hS : S = w0.heap.size) (k10 : w0.heap[g10]? = some (.cells (rowOf .u8 256 (b01 M)) 35 (0, 0))) (k11 : w0.heap[g11]? = some (.cells (rowOf .u8 256 (b01 N)) 35 (0, 0))) :
    wr.cell? ⟨g10, k, none⟩ = some (.int .u8 (b01 M k)) ∧ wr.cell? ⟨g11, k, none⟩ = some (.int .u8 (b01 N k)) ∧ (wr.cell? ⟨S, k, none⟩ = some (.int .u8 (b01 p k)) ∧ wr.frozen? ⟨S, k, none⟩ = false) ∧ (wr.cell? ⟨S + 1, k, none⟩ = some (.int .u8 (b01 q k)) ∧ wr.frozen? ⟨S + 1, k, none⟩ = false) ∧ (wr.cell? ⟨S + 1 + 1, k, none⟩ = some (.int .u8 (b01 r k)) ∧ wr.frozen? ⟨S + 1 + 1, k, none⟩ = false) := by
  obtain ⟨h1, h2, h3, h4, h5⟩ := h
  refine ⟨?_, ?_, ⟨?_, by simp [World.frozen?, h1]⟩, ⟨?_, by simp [World.frozen?, h2]⟩, ⟨?_, by simp [World.frozen?, h3]⟩⟩
  · rw [cell_blk ((h5.block _ (by rw [hS]; exact blk_lt k10)).trans k10)]; exact rowOf_get _ _ _ _ hk
  · rw [cell_blk ((h5.block _ (by rw [hS]; exact blk_lt k11)).trans k11)]; exact rowOf_get _ _ _ _ hk
  · rw [cell_blk h1]; exact rowOf_get _ _ _ _ hk
  · rw [cell_blk h2]; exact rowOf_get _ _ _ _ hk
  · rw [cell_blk h3]; exact rowOf_get _ _ _ _ hk
theorem three_new (w : World) (c : Array Value) (t : TypeId) :
    ((((w.alloc (.cells c t)).alloc (.cells c t)).alloc (.cells c t)).heap[w.heap.size]? = some (.cells c t (0, 0))) ∧ ((((w.alloc (.cells c t)).alloc (.cells c t)).alloc (.cells c t)).heap[w.heap.size + 1]? = some (.cells c t (0, 0))) ∧ ((((w.alloc (.cells c t)).alloc (.cells c t)).alloc (.cells c t)).heap[w.heap.size + 1 + 1]? = some (.cells c t (0, 0))) := by
  refine ⟨?_, ?_, ?_⟩
  · rw [Below.heap_alloc _ _ _ (by simp; omega), Below.heap_alloc _ _ _ (by simp)]; exact heap_alloc_last _ _
  · rw [Below.heap_alloc _ _ _ (by simp)]
    have := heap_alloc_last (w.alloc (.cells c t)) (.cells c t)
    rwa [World.size_alloc] at this
  · have := heap_alloc_last ((w.alloc (.cells c t)).alloc (.cells c t)) (.cells c t)
    rwa [World.size_alloc, World.size_alloc] at this
theorem st_same {P : Program} (W : World) (m : Nat) {t : TypeId} {kd : IntKind} {n : Nat} {f : Nat → Int} (h : W.heap[m]? = some (.cells (rowOf kd n f) t (0, 0))) : (storeCells ⟨m, 0, none⟩ (rowOf kd n f).toList 0).run P W = .ok () W := by
  rw [st_at W m n kd f ⟨_, _, h, rowOf_size _ _ _⟩]
  congr 1
  unfold World.setRow
  have : W.heap.modify m (fun o => match o with | .cells _ t fz => .cells (rowOf kd n f) t fz | o => o) = W.heap := by
    apply Array.ext_getElem?
    intro i
    rw [Array.getElem?_modify]
    by_cases e : m = i
    · subst e; rw [if_pos rfl, h]; rfl
    · rw [if_neg e]
  exact congrArg (fun hp => ({ W with heap := hp } : World)) this
theorem b01_or (M N : Nat → Bool) (k : Nat) : bits .or .u8 (b01 M k) (b01 N k) = b01 (orP M N) k := by
  unfold b01 orP; cases M k <;> cases N k <;> decide
theorem b01_and (M N : Nat → Bool) (k : Nat) : bits .and .u8 (b01 M k) (b01 N k) = b01 (andP M N) k := by
  unfold b01 andP; cases M k <;> cases N k <;> decide
theorem b01_minus (M N : Nat → Bool) (k : Nat) : bits .andNot .u8 (b01 M k) (b01 N k) = b01 (minusP M N) k := by
  unfold b01 minusP; cases M k <;> cases N k <;> decide
attribute [local go_sem] rowOf_size isRow_at isRow_past rowIn_at rowIn_past setRow_at setRow_past
attribute [local go_sem] st_at
theorem Shut.mk {p : Prop} (h : p) : Shut p := h
theorem union0_w (w : World) : Calls Try.prog 21 #[.slice none 0 0] w fun e w' => e = .returned (.agg (aggW (fun _ => false))) ∧ Below w.heap.size w w' := by rw [agg0]; exact union_none w
theorem idx35 (g x : Nat) (hx : x < 256) (o : Oper) (t u : Nat) (ho : o.op = .indexAddr 35 (.tmp t) (.tmp u)) (hne : (u == t) = false) (w : World) : (execOp (rho [(t, .pointer (some ⟨g, 0, none⟩)), (u, .int .u8 x)]) o).run Try.prog w = .ok (.value (.pointer (some ⟨g, x, none⟩))) w := by
  have e1 : rho [(t, .pointer (some ⟨g, 0, none⟩)), (u, .int .u8 x)] (.tmp t) = .pointer (some ⟨g, 0, none⟩) := by simp [rho]
  have e2 : rho [(t, .pointer (some ⟨g, 0, none⟩)), (u, .int .u8 x)] (.tmp u) = .int .u8 x := by simp [rho, List.lookup, hne]
  have hx' : (x : Int) < 256 := by omega
  unfold execOp
  simp only [ho, e1, e2]
  simp [go_sem, hx', Addr.add]
  exact fun e => e.symm
theorem keep_w {F : World → Prop} {w : World} (h : ∀ w0 : World, w0 = w → F w0) : F w := h w rfl
theorem wp_keepw {P : Program} {c : Code} {Q : Exit → Act → World → Prop} {a : Act} {w : World} (h : ∀ w0 : World, w0 = w → c.wp P Q a w0) : c.wp P Q a w := h w rfl
set_option maxRecDepth 100000 in
set_option maxHeartbeats 8000000 in
theorem lawS (fa ta fb tb x : Nat) (va vb : Value) (za zb : List Int) (w : World) (hfa : fa < 256) (hta : ta < 256) (hfb : fb < 256) (htb : tb < 256) (hx : x < 256) (hA : RdsA w va za) (hB : RdsA w vb zb) (la : za.length ≤ 140737488355328) (lb : zb.length ≤ 140737488355328) (ba : AreB za) (bb : AreB zb) :
    Calls Try.prog 4 #[.agg #[.int .u8 fa, .int .u8 ta, va], .agg #[.int .u8 fb, .int .u8 tb, vb], .int .u8 x] w fun e w' => e = .returned (.bool true) ∧ Below w.heap.size w w' := by
  obtain ⟨aa, ca, rfl⟩ := hA.form
  obtain ⟨ab, cb, rfl⟩ := hB.form
  have b0 : Below w.heap.size w (((w.alloc (.cells #[.int .u8 fa, .int .u8 ta, .slice aa za.length ca] 29)).alloc (.cells #[.int .u8 fb, .int .u8 tb, .slice ab zb.length cb] 29)).alloc (.cells #[] 5)) := (((Below.refl _ _).alloc (Nat.le_refl _) _).alloc (by simp) _).alloc (by simp; omega) _
  have HB0 : Hid (Below w.heap.size w (((w.alloc (.cells #[.int .u8 fa, .int .u8 ta, .slice aa za.length ca] 29)).alloc (.cells #[.int .u8 fb, .int .u8 tb, .slice ab zb.length cb] 29)).alloc (.cells #[] 5))) := b0
  have HA : Hid (RdsA w (.slice aa za.length ca) za) := hA
  have HB : Hid (RdsA w (.slice ab zb.length cb) zb) := hB
  clear b0 hA hB
  go_enter Try.func4, Try.ntmps4
  go_wp2_with (at_builtin; refine wpList_append_rds rfl _ _ rfl (w.heap.size + 2) _ _ za rfl ?c1 rfl ?c2 la ?c3 ?_)
  case c1 => exact own_emptyM _ 5 _ (by simp)
  case c2 => exact HA.out.below HB0.out
  case c3 => simp
  intro v7 w3 ho7 hb3
  obtain ⟨a7, c7, rfl⟩ := owns_form ho7
  have hBa : w3.heap[w.heap.size]? = some (.cells #[.int .u8 fa, .int .u8 ta, .slice aa za.length ca] 29 (0, 0)) := by
    rw [hb3.block _ (by omega), Below.heap_alloc _ _ _ (by simp; omega), Below.heap_alloc _ _ _ (by simp)]
    exact heap_alloc_last _ _
  have hBb : w3.heap[w.heap.size + 1]? = some (.cells #[.int .u8 fb, .int .u8 tb, .slice ab zb.length cb] 29 (0, 0)) := by
    rw [hb3.block _ (by omega), Below.heap_alloc _ _ _ (by simp)]
    have := heap_alloc_last (w.alloc (.cells #[.int .u8 fa, .int .u8 ta, .slice aa za.length ca] 29)) (.cells #[.int .u8 fb, .int .u8 tb, .slice ab zb.length cb] 29)
    rwa [World.size_alloc] at this
  have hbw : Below w.heap.size w w3 := HB0.out.trans (hb3.mono (by omega))
  have hA := HA.out.below hbw
  have hB := HB.out.below hbw
  clear HB0 HA HB hb3
  go_wp2_with fail
  rename_i Q' K' hcont
  refine wp_abs 153 rfl fun a0 hz hd hs => ?_
  have s2 : a0.tmps[2]? = some (.int .u8 x) := hs 2
  have s3 : a0.tmps[3]? = some (.pointer (some ⟨w.heap.size, 0, none⟩)) := hs 3
  have s4 : a0.tmps[4]? = some (.pointer (some ⟨w.heap.size + 1, 0, none⟩)) := hs 4
  have s7 : a0.tmps[7]? = some (.slice a7 za.length c7) := hs 7
  replace hd : a0.defers = [] := hd
  clear hs
  have HC : Shut _ := hcont
  clear hcont
  obtain ⟨M, hM⟩ : ∃ M, setOf fa ta za = M := ⟨_, rfl⟩
  obtain ⟨N, hN⟩ : ∃ N, setOf fb tb zb = N := ⟨_, rfl⟩
  obtain ⟨B, hBB⟩ : ∃ B, w.heap.size = B := ⟨_, rfl⟩
  rw [hBB] at hBa hBb s3 s4
  have kA : ∀ w9 : World, Below w3.heap.size w3 w9 → Calls Try.prog 17 #[.int .u8 fa, .int .u8 ta, .slice aa za.length ca] w9 fun e w2 => e = .returned (.agg (aggW M)) ∧ Below w9.heap.size w9 w2 := fun w9 hb => by rw [← hM]; exact mk17 fa ta _ za w9 hfa hta (hA.below hb) la ba
  have kB : ∀ w9 : World, Below w3.heap.size w3 w9 → Calls Try.prog 17 #[.int .u8 fb, .int .u8 tb, .slice ab zb.length cb] w9 fun e w2 => e = .returned (.agg (aggW N)) ∧ Below w9.heap.size w9 w2 := fun w9 hb => by rw [← hN]; exact mk17 fb tb _ zb w9 hfb htb (hB.below hb) lb bb
  refine wp_region_flow (nthP [isV (.pointer (some ⟨B, 0, none⟩)), isV (.int .u8 fa), isV (.pointer (some ⟨B, 1, none⟩)), isV (.int .u8 ta), isV (.pointer (some ⟨B, 2, none⟩)), isV (.slice aa za.length ca), isV (.agg (aggW M)), isV (.pointer (some ⟨B + 1, 0, none⟩)), isV (.int .u8 fb), isV (.pointer (some ⟨B + 1, 1, none⟩)), isV (.int .u8 tb), isV (.pointer (some ⟨B + 1, 2, none⟩)), isV (.slice ab zb.length cb), isV (.agg (aggW N)), isVar 4 32, isVar 4 32, isPtr (aggW M) 32, isPtr (aggW N) 32]) 153 (by assumption) (by kernel_rfl) (by kernel_rfl) (by kernel_rfl) (nthP_stays ⟨Stays.isV, Stays.isV, Stays.isV, Stays.isV, Stays.isV, Stays.isV, Stays.isV, Stays.isV, Stays.isV, Stays.isV, Stays.isV, Stays.isV, Stays.isV, Stays.isV, Stays.isVar, Stays.isVar, Stays.isPtr, Stays.isPtr, trivial⟩) (fun _ i v w w' L h1 h2 _ h4 => nthP_but (l := [isV (.pointer (some ⟨B, 0, none⟩)), isV (.int .u8 fa), isV (.pointer (some ⟨B, 1, none⟩)), isV (.int .u8 ta), isV (.pointer (some ⟨B, 2, none⟩)), isV (.slice aa za.length ca), isV (.agg (aggW M)), isV (.pointer (some ⟨B + 1, 0, none⟩)), isV (.int .u8 fb), isV (.pointer (some ⟨B + 1, 1, none⟩)), isV (.int .u8 tb), isV (.pointer (some ⟨B + 1, 2, none⟩)), isV (.slice ab zb.length cb), isV (.agg (aggW N)), isVar 4 32, isVar 4 32, isPtr (aggW M) 32, isPtr (aggW N) 32]) ⟨StaysBut.isV, StaysBut.isV, StaysBut.isV, StaysBut.isV, StaysBut.isV, StaysBut.isV, StaysBut.isV, StaysBut.isV, StaysBut.isV, StaysBut.isV, StaysBut.isV, StaysBut.isV, StaysBut.isV, StaysBut.isV, StaysBut.isVar, StaysBut.isVar, StaysBut.isPtr, StaysBut.isPtr, trivial⟩ i v w w' L h1 h2 h4) ⟨?o0, ?o1, ?o2, ?o3, ?o4, ?o5, ?o6, ?o7, ?o8, ?o9, ?o10, ?o11, ?o12, ?o13, ?o14, ?o15, ?o16, ?o17, trivial⟩ ?hdone
  case o0 =>
    refine FlowOp2.plain rfl fun a1 w1 cx => ?_
    have s3 := cx.keep 3 _ (by kernel_rfl) s3
    refine ⟨(wanted_none rfl), fun K hK => ?_⟩
    refine wp_gen [(3, _)] ⟨s3, trivial⟩ (by kernel_rfl) (v := .pointer (some ⟨B, 0, none⟩)) (w' := w1) (by kernel_rfl) ?_
    exact hK.out _ _ rfl (Below.refl _ _) (fun b hb => by simp [blockOf] at hb; subst hb; have := cx.below.size; exact ⟨by have := blk_lt hBa; omega, .inr ⟨blk_lt hBa, rfl⟩⟩)
  case o1 =>
    refine FlowOp2.plain rfl fun a1 w1 cx => ?_
    obtain ⟨v21, s21, p21⟩ := cx.slot 0 21 (by kernel_rfl)
    replace p21 : v21 = .pointer (some ⟨B, 0, none⟩) := p21
    subst p21
    refine ⟨(wanted_none rfl), fun K hK => ?_⟩
    exact wp_load1 5 _ rfl _ (ev_tmp s21) _ (ld5 _ _ w1 (by rw [cell_blk (below_at hBa cx.below)]; rfl)) (hK.out _ _ rfl (Below.refl _ _) (no_block rfl))
  case o2 =>
    refine FlowOp2.plain rfl fun a1 w1 cx => ?_
    have s3 := cx.keep 3 _ (by kernel_rfl) s3
    refine ⟨(wanted_none rfl), fun K hK => ?_⟩
    refine wp_gen [(3, _)] ⟨s3, trivial⟩ (by kernel_rfl) (v := .pointer (some ⟨B, 1, none⟩)) (w' := w1) (by kernel_rfl) ?_
    exact hK.out _ _ rfl (Below.refl _ _) (fun b hb => by simp [blockOf] at hb; subst hb; have := cx.below.size; exact ⟨by have := blk_lt hBa; omega, .inr ⟨blk_lt hBa, rfl⟩⟩)
  case o3 =>
    refine FlowOp2.plain rfl fun a1 w1 cx => ?_
    obtain ⟨v23, s23, p23⟩ := cx.slot 2 23 (by kernel_rfl)
    replace p23 : v23 = .pointer (some ⟨B, 1, none⟩) := p23
    subst p23
    refine ⟨(wanted_none rfl), fun K hK => ?_⟩
    exact wp_load1 5 _ rfl _ (ev_tmp s23) _ (ld5 _ _ w1 (by rw [cell_blk (below_at hBa cx.below)]; rfl)) (hK.out _ _ rfl (Below.refl _ _) (no_block rfl))
  case o4 =>
    refine FlowOp2.plain rfl fun a1 w1 cx => ?_
    have s3 := cx.keep 3 _ (by kernel_rfl) s3
    refine ⟨(wanted_none rfl), fun K hK => ?_⟩
    refine wp_gen [(3, _)] ⟨s3, trivial⟩ (by kernel_rfl) (v := .pointer (some ⟨B, 2, none⟩)) (w' := w1) (by kernel_rfl) ?_
    exact hK.out _ _ rfl (Below.refl _ _) (fun b hb => by simp [blockOf] at hb; subst hb; have := cx.below.size; exact ⟨by have := blk_lt hBa; omega, .inr ⟨blk_lt hBa, rfl⟩⟩)
  case o5 =>
    refine FlowOp2.plain rfl fun a1 w1 cx => ?_
    obtain ⟨v25, s25, p25⟩ := cx.slot 4 25 (by kernel_rfl)
    replace p25 : v25 = .pointer (some ⟨B, 2, none⟩) := p25
    subst p25
    refine ⟨(wanted_none rfl), fun K hK => ?_⟩
    exact wp_load1 27 _ rfl _ (ev_tmp s25) _ (ld27 _ _ w1 (by rw [cell_blk (below_at hBa cx.below)]; rfl)) (hK.out _ _ rfl (Below.refl _ _) (no_block rfl))
  case o6 =>
    refine FlowOp2.plain rfl fun a1 w1 cx => ?_
    obtain ⟨v22, s22, p22⟩ := cx.slot 1 22 (by kernel_rfl)
    replace p22 : v22 = .int .u8 fa := p22
    subst p22
    obtain ⟨v24, s24, p24⟩ := cx.slot 3 24 (by kernel_rfl)
    replace p24 : v24 = .int .u8 ta := p24
    subst p24
    obtain ⟨v26, s26, p26⟩ := cx.slot 5 26 (by kernel_rfl)
    replace p26 : v26 = .slice aa za.length ca := p26
    subst p26
    refine ⟨(wanted_none rfl), fun K hK => ?_⟩
    refine wp_gen_call [(22, .int .u8 fa), (24, .int .u8 ta), (26, .slice aa za.length ca)] ⟨s22, s24, s26, trivial⟩ (vs := #[.int .u8 fa, .int .u8 ta, .slice aa za.length ca]) (f := 17) (by kernel_rfl) (fun w => by kernel_rfl) ?_
    refine (kA _ cx.below).mono ?_
    rintro e w2 ⟨rfl, hb⟩
    exact ⟨_, rfl, hK.out _ _ rfl hb (no_block rfl)⟩
  case o7 =>
    refine FlowOp2.plain rfl fun a1 w1 cx => ?_
    have s4 := cx.keep 4 _ (by kernel_rfl) s4
    refine ⟨(wanted_none rfl), fun K hK => ?_⟩
    refine wp_gen [(4, _)] ⟨s4, trivial⟩ (by kernel_rfl) (v := .pointer (some ⟨B + 1, 0, none⟩)) (w' := w1) (by kernel_rfl) ?_
    exact hK.out _ _ rfl (Below.refl _ _) (fun b hb => by simp [blockOf] at hb; subst hb; have := cx.below.size; exact ⟨by have := blk_lt hBb; omega, .inr ⟨blk_lt hBb, rfl⟩⟩)
  case o8 =>
    refine FlowOp2.plain rfl fun a1 w1 cx => ?_
    obtain ⟨v28, s28, p28⟩ := cx.slot 7 28 (by kernel_rfl)
    replace p28 : v28 = .pointer (some ⟨B + 1, 0, none⟩) := p28
    subst p28
    refine ⟨(wanted_none rfl), fun K hK => ?_⟩
    exact wp_load1 5 _ rfl _ (ev_tmp s28) _ (ld5 _ _ w1 (by rw [cell_blk (below_at hBb cx.below)]; rfl)) (hK.out _ _ rfl (Below.refl _ _) (no_block rfl))
  case o9 =>
    refine FlowOp2.plain rfl fun a1 w1 cx => ?_
    have s4 := cx.keep 4 _ (by kernel_rfl) s4
    refine ⟨(wanted_none rfl), fun K hK => ?_⟩
    refine wp_gen [(4, _)] ⟨s4, trivial⟩ (by kernel_rfl) (v := .pointer (some ⟨B + 1, 1, none⟩)) (w' := w1) (by kernel_rfl) ?_
    exact hK.out _ _ rfl (Below.refl _ _) (fun b hb => by simp [blockOf] at hb; subst hb; have := cx.below.size; exact ⟨by have := blk_lt hBb; omega, .inr ⟨blk_lt hBb, rfl⟩⟩)
  case o10 =>
    refine FlowOp2.plain rfl fun a1 w1 cx => ?_
    obtain ⟨v30, s30, p30⟩ := cx.slot 9 30 (by kernel_rfl)
    replace p30 : v30 = .pointer (some ⟨B + 1, 1, none⟩) := p30
    subst p30
    refine ⟨(wanted_none rfl), fun K hK => ?_⟩
    exact wp_load1 5 _ rfl _ (ev_tmp s30) _ (ld5 _ _ w1 (by rw [cell_blk (below_at hBb cx.below)]; rfl)) (hK.out _ _ rfl (Below.refl _ _) (no_block rfl))
  case o11 =>
    refine FlowOp2.plain rfl fun a1 w1 cx => ?_
    have s4 := cx.keep 4 _ (by kernel_rfl) s4
    refine ⟨(wanted_none rfl), fun K hK => ?_⟩
    refine wp_gen [(4, _)] ⟨s4, trivial⟩ (by kernel_rfl) (v := .pointer (some ⟨B + 1, 2, none⟩)) (w' := w1) (by kernel_rfl) ?_
    exact hK.out _ _ rfl (Below.refl _ _) (fun b hb => by simp [blockOf] at hb; subst hb; have := cx.below.size; exact ⟨by have := blk_lt hBb; omega, .inr ⟨blk_lt hBb, rfl⟩⟩)
  case o12 =>
    refine FlowOp2.plain rfl fun a1 w1 cx => ?_
    obtain ⟨v32, s32, p32⟩ := cx.slot 11 32 (by kernel_rfl)
    replace p32 : v32 = .pointer (some ⟨B + 1, 2, none⟩) := p32
    subst p32
    refine ⟨(wanted_none rfl), fun K hK => ?_⟩
    exact wp_load1 27 _ rfl _ (ev_tmp s32) _ (ld27 _ _ w1 (by rw [cell_blk (below_at hBb cx.below)]; rfl)) (hK.out _ _ rfl (Below.refl _ _) (no_block rfl))
  case o13 =>
    refine FlowOp2.plain rfl fun a1 w1 cx => ?_
    obtain ⟨v29, s29, p29⟩ := cx.slot 8 29 (by kernel_rfl)
    replace p29 : v29 = .int .u8 fb := p29
    subst p29
    obtain ⟨v31, s31, p31⟩ := cx.slot 10 31 (by kernel_rfl)
    replace p31 : v31 = .int .u8 tb := p31
    subst p31
    obtain ⟨v33, s33, p33⟩ := cx.slot 12 33 (by kernel_rfl)
    replace p33 : v33 = .slice ab zb.length cb := p33
    subst p33
    refine ⟨(wanted_none rfl), fun K hK => ?_⟩
    refine wp_gen_call [(29, .int .u8 fb), (31, .int .u8 tb), (33, .slice ab zb.length cb)] ⟨s29, s31, s33, trivial⟩ (vs := #[.int .u8 fb, .int .u8 tb, .slice ab zb.length cb]) (f := 17) (by kernel_rfl) (fun w => by kernel_rfl) ?_
    refine (kB _ cx.below).mono ?_
    rintro e w2 ⟨rfl, hb⟩
    exact ⟨_, rfl, hK.out _ _ rfl hb (no_block rfl)⟩
  case o14 =>
    refine FlowOp2.plain rfl fun a1 w1 cx => ?_
    refine ⟨(wanted_none rfl), fun K hK => ?_⟩
    refine wp_gen [] trivial (by kernel_rfl) (v := .pointer (some ⟨w1.heap.size, 0, none⟩)) (w' := w1.alloc (.cells (#[.int .u64 0, .int .u64 0, .int .u64 0, .int .u64 0]) 32)) (by kernel_rfl) ?_
    exact hK.out _ _ ⟨w1.heap.size, _, rfl, heap_alloc_last _ _, by kernel_rfl⟩ ((Below.refl _ _).alloc (Nat.le_refl _) _) (fun b hb => by simp [blockOf] at hb; subst hb; exact ⟨by simp, .inl (Nat.le_refl _)⟩)
  case o15 =>
    refine FlowOp2.plain rfl fun a1 w1 cx => ?_
    refine ⟨(wanted_none rfl), fun K hK => ?_⟩
    refine wp_gen [] trivial (by kernel_rfl) (v := .pointer (some ⟨w1.heap.size, 0, none⟩)) (w' := w1.alloc (.cells (#[.int .u64 0, .int .u64 0, .int .u64 0, .int .u64 0]) 32)) (by kernel_rfl) ?_
    exact hK.out _ _ ⟨w1.heap.size, _, rfl, heap_alloc_last _ _, by kernel_rfl⟩ ((Below.refl _ _).alloc (Nat.le_refl _) _) (fun b hb => by simp [blockOf] at hb; subst hb; exact ⟨by simp, .inl (Nat.le_refl _)⟩)
  case o16 =>
    refine FlowOp2.store rfl rfl _ 8 _ rfl 14 (by kernel_rfl) fun a1 w1 cx => ?_
    obtain ⟨v8, s8, p8⟩ := cx.slot 14 8 (by kernel_rfl)
    obtain ⟨g8, cs8, rfl, k8, z8⟩ : isVar 4 32 v8 w1 := p8
    obtain ⟨v27, s27, p27⟩ := cx.slot 6 27 (by kernel_rfl)
    replace p27 : v27 = .agg (aggW M) := p27
    subst p27
    exact ⟨g8, cs8, aggW M, 32, s8, k8, z8, ev_tmp s27, by kernel_rfl, one_w _, fun w' h => ⟨⟨_, rfl, h⟩, ⟨_, _, rfl, h, rfl⟩⟩⟩
  case o17 =>
    refine FlowOp2.store rfl rfl _ 9 _ rfl 15 (by kernel_rfl) fun a1 w1 cx => ?_
    obtain ⟨v9, s9, p9⟩ := cx.slot 15 9 (by kernel_rfl)
    obtain ⟨g9, cs9, rfl, k9, z9⟩ : isVar 4 32 v9 w1 := p9
    obtain ⟨v34, s34, p34⟩ := cx.slot 13 34 (by kernel_rfl)
    replace p34 : v34 = .agg (aggW N) := p34
    subst p34
    exact ⟨g9, cs9, aggW N, 32, s9, k9, z9, ev_tmp s34, by kernel_rfl, one_w _, fun w' h => ⟨⟨_, rfl, h⟩, ⟨_, _, rfl, h, rfl⟩⟩⟩
  case hdone =>
    intro a1 w1 hb1 hz1 hd1 hk1 hg1
    obtain ⟨v8, s8, p8⟩ := got_slot hg1 16 8 (by kernel_rfl)
    obtain ⟨g8, rfl, k8⟩ : isPtr (aggW M) 32 v8 w1 := p8
    obtain ⟨v9, s9, p9⟩ := got_slot hg1 17 9 (by kernel_rfl)
    obtain ⟨g9, rfl, k9⟩ : isPtr (aggW N) 32 v9 w1 := p9
    replace s2 := (hk1 2 (by kernel_rfl)).trans s2
    replace s3 := (hk1 3 (by kernel_rfl)).trans s3
    replace s4 := (hk1 4 (by kernel_rfl)).trans s4
    replace s7 := (hk1 7 (by kernel_rfl)).trans s7
    replace hBa := below_at hBa hb1
    replace hBb := below_at hBb hb1
    replace ho7 := owns_below ho7 hb1
    replace hA := hA.below hb1
    replace hB := hB.below hb1
    replace hbw := hbw.trans (hb1.mono hbw.size)
    replace hd := hd1.trans hd
    replace hz := hz1
    replace HC := HC.out a1 w1
    refine HC ?_
    clear HC hg1 hk1 hb1 hz1 hd1
    refine wp_seq_k fun K2 hc2 => ?_
    have HC : Shut _ := hc2
    clear hc2
    clear kA kB
    have rA : ∀ w9 : World, Below w1.heap.size w1 w9 → Calls Try.prog 18 #[.int .u8 fa, .int .u8 ta, .slice a7 za.length c7] w9 fun e w2 => e = .returned (.agg (rowOf .u8 256 (b01 M))) ∧ Below w9.heap.size w9 w2 := fun w9 hb => by rw [← hM]; exact mk18 fa ta _ za w9 hfa hta (owns_conv (owns_below ho7 hb)) la
    have rB : ∀ w9 : World, Below w1.heap.size w1 w9 → Calls Try.prog 18 #[.int .u8 fb, .int .u8 tb, .slice ab zb.length cb] w9 fun e w2 => e = .returned (.agg (rowOf .u8 256 (b01 N))) ∧ Below w9.heap.size w9 w2 := fun w9 hb => by rw [← hN]; exact mk18 fb tb _ zb w9 hfb htb ((hB.below hb).convs) lb
    refine wp_region_flow (nthP [isV (.pointer (some ⟨B, 0, none⟩)), isV (.int .u8 fa), isV (.pointer (some ⟨B, 1, none⟩)), isV (.int .u8 ta), isV (.slice a7 za.length c7), isV (.agg (rowOf .u8 256 (b01 M))), isV (.pointer (some ⟨B + 1, 0, none⟩)), isV (.int .u8 fb), isV (.pointer (some ⟨B + 1, 1, none⟩)), isV (.int .u8 tb), isV (.pointer (some ⟨B + 1, 2, none⟩)), isV (.slice ab zb.length cb), isV (.agg (rowOf .u8 256 (b01 N))), isVar 256 35, isVar 256 35, isPtr (rowOf .u8 256 (b01 M)) 35, isPtr (rowOf .u8 256 (b01 N)) 35]) 153 (by assumption) (by kernel_rfl) (by kernel_rfl) (by kernel_rfl) (nthP_stays ⟨Stays.isV, Stays.isV, Stays.isV, Stays.isV, Stays.isV, Stays.isV, Stays.isV, Stays.isV, Stays.isV, Stays.isV, Stays.isV, Stays.isV, Stays.isV, Stays.isVar, Stays.isVar, Stays.isPtr, Stays.isPtr, trivial⟩) (fun _ i v w w' L h1 h2 _ h4 => nthP_but (l := [isV (.pointer (some ⟨B, 0, none⟩)), isV (.int .u8 fa), isV (.pointer (some ⟨B, 1, none⟩)), isV (.int .u8 ta), isV (.slice a7 za.length c7), isV (.agg (rowOf .u8 256 (b01 M))), isV (.pointer (some ⟨B + 1, 0, none⟩)), isV (.int .u8 fb), isV (.pointer (some ⟨B + 1, 1, none⟩)), isV (.int .u8 tb), isV (.pointer (some ⟨B + 1, 2, none⟩)), isV (.slice ab zb.length cb), isV (.agg (rowOf .u8 256 (b01 N))), isVar 256 35, isVar 256 35, isPtr (rowOf .u8 256 (b01 M)) 35, isPtr (rowOf .u8 256 (b01 N)) 35]) ⟨StaysBut.isV, StaysBut.isV, StaysBut.isV, StaysBut.isV, StaysBut.isV, StaysBut.isV, StaysBut.isV, StaysBut.isV, StaysBut.isV, StaysBut.isV, StaysBut.isV, StaysBut.isV, StaysBut.isV, StaysBut.isVar, StaysBut.isVar, StaysBut.isPtr, StaysBut.isPtr, trivial⟩ i v w w' L h1 h2 h4) ⟨?o0, ?o1, ?o2, ?o3, ?o4, ?o5, ?o6, ?o7, ?o8, ?o9, ?o10, ?o11, ?o12, ?o13, ?o14, ?o15, ?o16, trivial⟩ ?hdone
    case o0 =>
      refine FlowOp2.plain rfl fun a1 w1 cx => ?_
      have s3 := cx.keep 3 _ (by kernel_rfl) s3
      refine ⟨(wanted_none rfl), fun K hK => ?_⟩
      refine wp_gen [(3, _)] ⟨s3, trivial⟩ (by kernel_rfl) (v := .pointer (some ⟨B, 0, none⟩)) (w' := w1) (by kernel_rfl) ?_
      exact hK.out _ _ rfl (Below.refl _ _) (fun b hb => by simp [blockOf] at hb; subst hb; have := cx.below.size; exact ⟨by have := blk_lt hBa; omega, .inr ⟨blk_lt hBa, rfl⟩⟩)
    case o1 =>
      refine FlowOp2.plain rfl fun a1 w1 cx => ?_
      obtain ⟨v35, s35, p35⟩ := cx.slot 0 35 (by kernel_rfl)
      replace p35 : v35 = .pointer (some ⟨B, 0, none⟩) := p35
      subst p35
      refine ⟨(wanted_none rfl), fun K hK => ?_⟩
      exact wp_load1 5 _ rfl _ (ev_tmp s35) _ (ld5 _ _ w1 (by rw [cell_blk (below_at hBa cx.below)]; rfl)) (hK.out _ _ rfl (Below.refl _ _) (no_block rfl))
    case o2 =>
      refine FlowOp2.plain rfl fun a1 w1 cx => ?_
      have s3 := cx.keep 3 _ (by kernel_rfl) s3
      refine ⟨(wanted_none rfl), fun K hK => ?_⟩
      refine wp_gen [(3, _)] ⟨s3, trivial⟩ (by kernel_rfl) (v := .pointer (some ⟨B, 1, none⟩)) (w' := w1) (by kernel_rfl) ?_
      exact hK.out _ _ rfl (Below.refl _ _) (fun b hb => by simp [blockOf] at hb; subst hb; have := cx.below.size; exact ⟨by have := blk_lt hBa; omega, .inr ⟨blk_lt hBa, rfl⟩⟩)
    case o3 =>
      refine FlowOp2.plain rfl fun a1 w1 cx => ?_
      obtain ⟨v37, s37, p37⟩ := cx.slot 2 37 (by kernel_rfl)
      replace p37 : v37 = .pointer (some ⟨B, 1, none⟩) := p37
      subst p37
      refine ⟨(wanted_none rfl), fun K hK => ?_⟩
      exact wp_load1 5 _ rfl _ (ev_tmp s37) _ (ld5 _ _ w1 (by rw [cell_blk (below_at hBa cx.below)]; rfl)) (hK.out _ _ rfl (Below.refl _ _) (no_block rfl))
    case o4 =>
      refine FlowOp2.plain rfl fun a1 w1 cx => ?_
      have s7 := cx.keep 7 _ (by kernel_rfl) s7
      refine ⟨(wanted_none rfl), fun K hK => ?_⟩
      exact wp_moved _ rfl _ (ev_tmp s7) (hK.out _ _ rfl (Below.refl _ _) (no_block rfl))
    case o5 =>
      refine FlowOp2.plain rfl fun a1 w1 cx => ?_
      obtain ⟨v36, s36, p36⟩ := cx.slot 1 36 (by kernel_rfl)
      replace p36 : v36 = .int .u8 fa := p36
      subst p36
      obtain ⟨v38, s38, p38⟩ := cx.slot 3 38 (by kernel_rfl)
      replace p38 : v38 = .int .u8 ta := p38
      subst p38
      obtain ⟨v39, s39, p39⟩ := cx.slot 4 39 (by kernel_rfl)
      replace p39 : v39 = .slice a7 za.length c7 := p39
      subst p39
      refine ⟨(wanted_none rfl), fun K hK => ?_⟩
      refine wp_gen_call [(36, .int .u8 fa), (38, .int .u8 ta), (39, .slice a7 za.length c7)] ⟨s36, s38, s39, trivial⟩ (vs := #[.int .u8 fa, .int .u8 ta, .slice a7 za.length c7]) (f := 18) (by kernel_rfl) (fun w => by kernel_rfl) ?_
      refine (rA _ cx.below).mono ?_
      rintro e w2 ⟨rfl, hb⟩
      exact ⟨_, rfl, hK.out _ _ rfl hb (no_block rfl)⟩
    case o6 =>
      refine FlowOp2.plain rfl fun a1 w1 cx => ?_
      have s4 := cx.keep 4 _ (by kernel_rfl) s4
      refine ⟨(wanted_none rfl), fun K hK => ?_⟩
      refine wp_gen [(4, _)] ⟨s4, trivial⟩ (by kernel_rfl) (v := .pointer (some ⟨B + 1, 0, none⟩)) (w' := w1) (by kernel_rfl) ?_
      exact hK.out _ _ rfl (Below.refl _ _) (fun b hb => by simp [blockOf] at hb; subst hb; have := cx.below.size; exact ⟨by have := blk_lt hBb; omega, .inr ⟨blk_lt hBb, rfl⟩⟩)
    case o7 =>
      refine FlowOp2.plain rfl fun a1 w1 cx => ?_
      obtain ⟨v41, s41, p41⟩ := cx.slot 6 41 (by kernel_rfl)
      replace p41 : v41 = .pointer (some ⟨B + 1, 0, none⟩) := p41
      subst p41
      refine ⟨(wanted_none rfl), fun K hK => ?_⟩
      exact wp_load1 5 _ rfl _ (ev_tmp s41) _ (ld5 _ _ w1 (by rw [cell_blk (below_at hBb cx.below)]; rfl)) (hK.out _ _ rfl (Below.refl _ _) (no_block rfl))
    case o8 =>
      refine FlowOp2.plain rfl fun a1 w1 cx => ?_
      have s4 := cx.keep 4 _ (by kernel_rfl) s4
      refine ⟨(wanted_none rfl), fun K hK => ?_⟩
      refine wp_gen [(4, _)] ⟨s4, trivial⟩ (by kernel_rfl) (v := .pointer (some ⟨B + 1, 1, none⟩)) (w' := w1) (by kernel_rfl) ?_
      exact hK.out _ _ rfl (Below.refl _ _) (fun b hb => by simp [blockOf] at hb; subst hb; have := cx.below.size; exact ⟨by have := blk_lt hBb; omega, .inr ⟨blk_lt hBb, rfl⟩⟩)
    case o9 =>
      refine FlowOp2.plain rfl fun a1 w1 cx => ?_
      obtain ⟨v43, s43, p43⟩ := cx.slot 8 43 (by kernel_rfl)
      replace p43 : v43 = .pointer (some ⟨B + 1, 1, none⟩) := p43
      subst p43
      refine ⟨(wanted_none rfl), fun K hK => ?_⟩
      exact wp_load1 5 _ rfl _ (ev_tmp s43) _ (ld5 _ _ w1 (by rw [cell_blk (below_at hBb cx.below)]; rfl)) (hK.out _ _ rfl (Below.refl _ _) (no_block rfl))
    case o10 =>
      refine FlowOp2.plain rfl fun a1 w1 cx => ?_
      have s4 := cx.keep 4 _ (by kernel_rfl) s4
      refine ⟨(wanted_none rfl), fun K hK => ?_⟩
      refine wp_gen [(4, _)] ⟨s4, trivial⟩ (by kernel_rfl) (v := .pointer (some ⟨B + 1, 2, none⟩)) (w' := w1) (by kernel_rfl) ?_
      exact hK.out _ _ rfl (Below.refl _ _) (fun b hb => by simp [blockOf] at hb; subst hb; have := cx.below.size; exact ⟨by have := blk_lt hBb; omega, .inr ⟨blk_lt hBb, rfl⟩⟩)
    case o11 =>
      refine FlowOp2.plain rfl fun a1 w1 cx => ?_
      obtain ⟨v45, s45, p45⟩ := cx.slot 10 45 (by kernel_rfl)
      replace p45 : v45 = .pointer (some ⟨B + 1, 2, none⟩) := p45
      subst p45
      refine ⟨(wanted_none rfl), fun K hK => ?_⟩
      exact wp_load1 27 _ rfl _ (ev_tmp s45) _ (ld27 _ _ w1 (by rw [cell_blk (below_at hBb cx.below)]; rfl)) (hK.out _ _ rfl (Below.refl _ _) (no_block rfl))
    case o12 =>
      refine FlowOp2.plain rfl fun a1 w1 cx => ?_
      obtain ⟨v42, s42, p42⟩ := cx.slot 7 42 (by kernel_rfl)
      replace p42 : v42 = .int .u8 fb := p42
      subst p42
      obtain ⟨v44, s44, p44⟩ := cx.slot 9 44 (by kernel_rfl)
      replace p44 : v44 = .int .u8 tb := p44
      subst p44
      obtain ⟨v46, s46, p46⟩ := cx.slot 11 46 (by kernel_rfl)
      replace p46 : v46 = .slice ab zb.length cb := p46
      subst p46
      refine ⟨(wanted_none rfl), fun K hK => ?_⟩
      refine wp_gen_call [(42, .int .u8 fb), (44, .int .u8 tb), (46, .slice ab zb.length cb)] ⟨s42, s44, s46, trivial⟩ (vs := #[.int .u8 fb, .int .u8 tb, .slice ab zb.length cb]) (f := 18) (by kernel_rfl) (fun w => by kernel_rfl) ?_
      refine (rB _ cx.below).mono ?_
      rintro e w2 ⟨rfl, hb⟩
      exact ⟨_, rfl, hK.out _ _ rfl hb (no_block rfl)⟩
    case o13 =>
      refine FlowOp2.plain rfl fun a1 w1 cx => ?_
      refine ⟨(wanted_none rfl), fun K hK => ?_⟩
      refine wp_gen [] trivial (by kernel_rfl) (v := .pointer (some ⟨w1.heap.size, 0, none⟩)) (w' := w1.alloc (.cells (rowOf .u8 256 fun _ => 0) 35)) (by kernel_rfl) ?_
      exact hK.out _ _ ⟨w1.heap.size, _, rfl, heap_alloc_last _ _, by kernel_rfl⟩ ((Below.refl _ _).alloc (Nat.le_refl _) _) (fun b hb => by simp [blockOf] at hb; subst hb; exact ⟨by simp, .inl (Nat.le_refl _)⟩)
    case o14 =>
      refine FlowOp2.plain rfl fun a1 w1 cx => ?_
      refine ⟨(wanted_none rfl), fun K hK => ?_⟩
      refine wp_gen [] trivial (by kernel_rfl) (v := .pointer (some ⟨w1.heap.size, 0, none⟩)) (w' := w1.alloc (.cells (rowOf .u8 256 fun _ => 0) 35)) (by kernel_rfl) ?_
      exact hK.out _ _ ⟨w1.heap.size, _, rfl, heap_alloc_last _ _, by kernel_rfl⟩ ((Below.refl _ _).alloc (Nat.le_refl _) _) (fun b hb => by simp [blockOf] at hb; subst hb; exact ⟨by simp, .inl (Nat.le_refl _)⟩)
    case o15 =>
      refine FlowOp2.store rfl rfl _ 10 _ rfl 13 (by kernel_rfl) fun a1 w1 cx => ?_
      obtain ⟨v10, s10, p10⟩ := cx.slot 13 10 (by kernel_rfl)
      obtain ⟨g10, cs10, rfl, k10, z10⟩ : isVar 256 35 v10 w1 := p10
      obtain ⟨v40, s40, p40⟩ := cx.slot 5 40 (by kernel_rfl)
      replace p40 : v40 = .agg (rowOf .u8 256 (b01 M)) := p40
      subst p40
      exact ⟨g10, cs10, rowOf .u8 256 (b01 M), 35, s10, k10, z10.trans (rowOf_size _ _ _).symm, ev_tmp s40, by rw [rowOf_size]; kernel_rfl, rowOf_one _ _ _, fun w' h => ⟨⟨_, rfl, h⟩, ⟨_, _, rfl, h, rowOf_size _ _ _⟩⟩⟩
    case o16 =>
      refine FlowOp2.store rfl rfl _ 11 _ rfl 14 (by kernel_rfl) fun a1 w1 cx => ?_
      obtain ⟨v11, s11, p11⟩ := cx.slot 14 11 (by kernel_rfl)
      obtain ⟨g11, cs11, rfl, k11, z11⟩ : isVar 256 35 v11 w1 := p11
      obtain ⟨v47, s47, p47⟩ := cx.slot 12 47 (by kernel_rfl)
      replace p47 : v47 = .agg (rowOf .u8 256 (b01 N)) := p47
      subst p47
      exact ⟨g11, cs11, rowOf .u8 256 (b01 N), 35, s11, k11, z11.trans (rowOf_size _ _ _).symm, ev_tmp s47, by rw [rowOf_size]; kernel_rfl, rowOf_one _ _ _, fun w' h => ⟨⟨_, rfl, h⟩, ⟨_, _, rfl, h, rowOf_size _ _ _⟩⟩⟩
    case hdone =>
      intro a1 w1 hb1 hz1 hd1 hk1 hg1
      obtain ⟨v10, s10, p10⟩ := got_slot hg1 15 10 (by kernel_rfl)
      obtain ⟨g10, rfl, k10⟩ : isPtr (rowOf .u8 256 (b01 M)) 35 v10 w1 := p10
      obtain ⟨v11, s11, p11⟩ := got_slot hg1 16 11 (by kernel_rfl)
      obtain ⟨g11, rfl, k11⟩ : isPtr (rowOf .u8 256 (b01 N)) 35 v11 w1 := p11
      replace s2 := (hk1 2 (by kernel_rfl)).trans s2
      replace s3 := (hk1 3 (by kernel_rfl)).trans s3
      replace s4 := (hk1 4 (by kernel_rfl)).trans s4
      replace s7 := (hk1 7 (by kernel_rfl)).trans s7
      replace s8 := (hk1 8 (by kernel_rfl)).trans s8
      replace k8 := below_at k8 hb1
      replace s9 := (hk1 9 (by kernel_rfl)).trans s9
      replace k9 := below_at k9 hb1
      replace hBa := below_at hBa hb1
      replace hBb := below_at hBb hb1
      replace ho7 := owns_below ho7 hb1
      replace hA := hA.below hb1
      replace hB := hB.below hb1
      replace hbw := hbw.trans (hb1.mono hbw.size)
      replace hd := hd1.trans hd
      replace hz := hz1
      replace HC := HC.out a1 w1
      refine HC ?_
      clear HC hg1 hk1 hb1 hz1 hd1
      refine wp_seq_k fun K3 hc3 => ?_
      have HD : Shut _ := hc3
      clear hc3 rA rB
      refine wp_seq_k fun K2 hc2 => ?_
      have HC : Shut _ := hc2
      clear hc2
      refine wp_region_flow (nthP [isV (.bool true), isV (.bool false), isV (.bool false), isV (.agg (aggW M)), isV (.agg (rowOf .u8 256 (b01 M))), isV (.agg (aggW M)), isV (.bool false), isV (.bool false), isV (.bool false), isV (.pointer (some ⟨B, 2, none⟩)), isV (.slice aa za.length ca), isV (.string (strOfNums za)), isV (.slice a7 za.length c7), isV (.string (strOfNums za)), isV (.bool false), isV (.bool false)]) 153 (by assumption) (by kernel_rfl) (by kernel_rfl) (by kernel_rfl) (nthP_stays ⟨Stays.isV, Stays.isV, Stays.isV, Stays.isV, Stays.isV, Stays.isV, Stays.isV, Stays.isV, Stays.isV, Stays.isV, Stays.isV, Stays.isV, Stays.isV, Stays.isV, Stays.isV, Stays.isV, trivial⟩) (noStore (by kernel_rfl)) ⟨?o0, ?o1, ?o2, ?o3, ?o4, ?o5, ?o6, ?o7, ?o8, ?o9, ?o10, ?o11, ?o12, ?o13, ?o14, ?o15, trivial⟩ ?hdone
      case o0 =>
        refine FlowOp2.plain rfl fun a1 w1 cx => ?_
        refine ⟨(wanted_none rfl), fun K hK => ?_⟩
        refine wp_gen_call [] trivial (vs := #[]) (f := 9) (by kernel_rfl) (fun w => by kernel_rfl) ?_
        refine (awake_w _).mono ?_
        rintro e w2 ⟨rfl, hb⟩
        exact ⟨_, rfl, hK.out _ _ rfl hb (no_block rfl)⟩
      case o1 =>
        refine FlowOp2.plain rfl fun a1 w1 cx => ?_
        obtain ⟨v48, s48, p48⟩ := cx.slot 0 48 (by kernel_rfl)
        replace p48 : v48 = .bool true := p48
        subst p48
        refine ⟨(wanted_none rfl), fun K hK => ?_⟩
        refine wp_gen [(48, .bool true)] ⟨s48, trivial⟩ (by kernel_rfl) (v := .bool false) (w' := w1) ?_ (hK.out _ _ rfl (Below.refl _ _) (no_block rfl))
        kernel_rfl
      case o2 =>
        refine FlowOp2.plain rfl fun a1 w1 cx => ?_
        obtain ⟨v49, s49, p49⟩ := cx.slot 1 49 (by kernel_rfl)
        replace p49 : v49 = .bool false := p49
        subst p49
        refine ⟨(wanted_none rfl), fun K hK => ?_⟩
        exact wp_moved _ rfl _ (ev_tmp s49) (hK.out _ _ rfl (Below.refl _ _) (no_block rfl))
      case o3 =>
        refine FlowOp2.plain rfl fun a1 w1 cx => ?_
        obtain ⟨v50, s50, p50⟩ := cx.slot 2 50 (by kernel_rfl)
        replace p50 : v50 = .bool false := p50
        subst p50
        have s8 := cx.keep 8 _ (by kernel_rfl) s8
        have k8 := below_at k8 cx.below
        refine ⟨(wanted_yes rfl rfl s50), fun K hK => ?_⟩
        exact wp_loaded _ _ rfl g8 (ev_tmp s8) _ _ _ _ k8 Try.underlying32 rfl (by kernel_rfl) (hK.out _ _ rfl (Below.refl _ _) (no_block rfl))
      case o4 =>
        refine FlowOp2.plain rfl fun a1 w1 cx => ?_
        obtain ⟨v50, s50, p50⟩ := cx.slot 2 50 (by kernel_rfl)
        replace p50 : v50 = .bool false := p50
        subst p50
        have s10 := cx.keep 10 _ (by kernel_rfl) s10
        have k10 := below_at k10 cx.below
        refine ⟨(wanted_yes rfl rfl s50), fun K hK => ?_⟩
        exact wp_loaded _ _ rfl g10 (ev_tmp s10) _ _ _ _ k10 Try.underlying35 rfl (by rw [rowOf_size]; kernel_rfl) (hK.out _ _ rfl (Below.refl _ _) (no_block rfl))
      case o5 =>
        refine FlowOp2.plain rfl fun a1 w1 cx => ?_
        obtain ⟨v50, s50, p50⟩ := cx.slot 2 50 (by kernel_rfl)
        replace p50 : v50 = .bool false := p50
        subst p50
        obtain ⟨v52, s52, p52⟩ := cx.slot 4 52 (by kernel_rfl)
        replace p52 : v52 = .agg (rowOf .u8 256 (b01 M)) := p52
        subst p52
        refine ⟨(wanted_yes rfl rfl s50), fun K hK => ?_⟩
        refine wp_gen_call [(52, .agg (rowOf .u8 256 (b01 M)))] ⟨s52, trivial⟩ (vs := #[.agg (rowOf .u8 256 (b01 M))]) (f := 19) (by kernel_rfl) (fun w => by kernel_rfl) ?_
        refine (words_any M _).mono ?_
        rintro e w2 ⟨rfl, hb⟩
        exact ⟨_, rfl, hK.out _ _ rfl hb (no_block rfl)⟩
      case o6 =>
        refine FlowOp2.plain rfl fun a1 w1 cx => ?_
        obtain ⟨v50, s50, p50⟩ := cx.slot 2 50 (by kernel_rfl)
        replace p50 : v50 = .bool false := p50
        subst p50
        obtain ⟨v51, s51, p51⟩ := cx.slot 3 51 (by kernel_rfl)
        replace p51 : v51 = .agg (aggW M) := p51
        subst p51
        obtain ⟨v53, s53, p53⟩ := cx.slot 5 53 (by kernel_rfl)
        replace p53 : v53 = .agg (aggW M) := p53
        subst p53
        refine ⟨(wanted_yes rfl rfl s50), fun K hK => ?_⟩
        refine wp_gen [(51, .agg (aggW M)), (53, .agg (aggW M))] ⟨s51, s53, trivial⟩ (by kernel_rfl) (v := .bool false) (w' := w1) ?_ (hK.out _ _ rfl (Below.refl _ _) (no_block rfl))
        exact neo_w _ _ _ _ rfl rfl _
      case o7 =>
        refine FlowOp2.plain rfl fun a1 w1 cx => ?_
        obtain ⟨v50, s50, p50⟩ := cx.slot 2 50 (by kernel_rfl)
        replace p50 : v50 = .bool false := p50
        subst p50
        obtain ⟨v54, s54, p54⟩ := cx.slot 6 54 (by kernel_rfl)
        replace p54 : v54 = .bool false := p54
        subst p54
        refine ⟨(wanted_none rfl), fun K hK => ?_⟩
        exact wp_picked _ _ _ rfl false (ev_tmp s50) (.bool false) (ev_tmp s54) (hK.out _ _ rfl (Below.refl _ _) (no_block rfl))
      case o8 =>
        refine FlowOp2.plain rfl fun a1 w1 cx => ?_
        obtain ⟨v55, s55, p55⟩ := cx.slot 7 55 (by kernel_rfl)
        replace p55 : v55 = .bool false := p55
        subst p55
        refine ⟨(wanted_none rfl), fun K hK => ?_⟩
        exact wp_moved _ rfl _ (ev_tmp s55) (hK.out _ _ rfl (Below.refl _ _) (no_block rfl))
      case o9 =>
        refine FlowOp2.plain rfl fun a1 w1 cx => ?_
        obtain ⟨v56, s56, p56⟩ := cx.slot 8 56 (by kernel_rfl)
        replace p56 : v56 = .bool false := p56
        subst p56
        have s3 := cx.keep 3 _ (by kernel_rfl) s3
        refine ⟨(wanted_yes rfl rfl s56), fun K hK => ?_⟩
        refine wp_gen [(3, _)] ⟨s3, trivial⟩ (by kernel_rfl) (v := .pointer (some ⟨B, 2, none⟩)) (w' := w1) (by kernel_rfl) ?_
        exact hK.out _ _ rfl (Below.refl _ _) (fun b hb => by simp [blockOf] at hb; subst hb; have := cx.below.size; exact ⟨by have := blk_lt hBa; omega, .inr ⟨blk_lt hBa, rfl⟩⟩)
      case o10 =>
        refine FlowOp2.plain rfl fun a1 w1 cx => ?_
        obtain ⟨v56, s56, p56⟩ := cx.slot 8 56 (by kernel_rfl)
        replace p56 : v56 = .bool false := p56
        subst p56
        obtain ⟨v57, s57, p57⟩ := cx.slot 9 57 (by kernel_rfl)
        replace p57 : v57 = .pointer (some ⟨B, 2, none⟩) := p57
        subst p57
        refine ⟨(wanted_yes rfl rfl s56), fun K hK => ?_⟩
        exact wp_load1 27 _ rfl _ (ev_tmp s57) _ (ld27 _ _ w1 (by rw [cell_blk (below_at hBa cx.below)]; rfl)) (hK.out _ _ rfl (Below.refl _ _) (no_block rfl))
      case o11 =>
        refine FlowOp2.plain rfl fun a1 w1 cx => ?_
        obtain ⟨v56, s56, p56⟩ := cx.slot 8 56 (by kernel_rfl)
        replace p56 : v56 = .bool false := p56
        subst p56
        obtain ⟨v58, s58, p58⟩ := cx.slot 10 58 (by kernel_rfl)
        replace p58 : v58 = .slice aa za.length ca := p58
        subst p58
        refine ⟨(wanted_yes rfl rfl s56), fun K hK => ?_⟩
        refine wp_gen [(58, .slice aa za.length ca)] ⟨s58, trivial⟩ (by kernel_rfl) (v := .string (strOfNums za)) (w' := w1) ?_ (hK.out _ _ rfl (Below.refl _ _) (no_block rfl))
        exact cv_a _ 58 rfl _ (hA.convs w1 cx.below)
      case o12 =>
        refine FlowOp2.plain rfl fun a1 w1 cx => ?_
        obtain ⟨v56, s56, p56⟩ := cx.slot 8 56 (by kernel_rfl)
        replace p56 : v56 = .bool false := p56
        subst p56
        have s7 := cx.keep 7 _ (by kernel_rfl) s7
        refine ⟨(wanted_yes rfl rfl s56), fun K hK => ?_⟩
        exact wp_moved _ rfl _ (ev_tmp s7) (hK.out _ _ rfl (Below.refl _ _) (no_block rfl))
      case o13 =>
        refine FlowOp2.plain rfl fun a1 w1 cx => ?_
        obtain ⟨v56, s56, p56⟩ := cx.slot 8 56 (by kernel_rfl)
        replace p56 : v56 = .bool false := p56
        subst p56
        obtain ⟨v60, s60, p60⟩ := cx.slot 12 60 (by kernel_rfl)
        replace p60 : v60 = .slice a7 za.length c7 := p60
        subst p60
        refine ⟨(wanted_yes rfl rfl s56), fun K hK => ?_⟩
        refine wp_gen [(60, .slice a7 za.length c7)] ⟨s60, trivial⟩ (by kernel_rfl) (v := .string (strOfNums za)) (w' := w1) ?_ (hK.out _ _ rfl (Below.refl _ _) (no_block rfl))
        exact cv_a _ 60 rfl _ (owns_conv ho7 w1 cx.below)
      case o14 =>
        refine FlowOp2.plain rfl fun a1 w1 cx => ?_
        obtain ⟨v56, s56, p56⟩ := cx.slot 8 56 (by kernel_rfl)
        replace p56 : v56 = .bool false := p56
        subst p56
        obtain ⟨v59, s59, p59⟩ := cx.slot 11 59 (by kernel_rfl)
        replace p59 : v59 = .string (strOfNums za) := p59
        subst p59
        obtain ⟨v61, s61, p61⟩ := cx.slot 13 61 (by kernel_rfl)
        replace p61 : v61 = .string (strOfNums za) := p61
        subst p61
        refine ⟨(wanted_yes rfl rfl s56), fun K hK => ?_⟩
        refine wp_gen [(59, .string (strOfNums za)), (61, .string (strOfNums za))] ⟨s59, s61, trivial⟩ (by kernel_rfl) (v := .bool false) (w' := w1) ?_ (hK.out _ _ rfl (Below.refl _ _) (no_block rfl))
        exact str_ne _ _ _ _ rfl rfl _
      case o15 =>
        refine FlowOp2.plain rfl fun a1 w1 cx => ?_
        obtain ⟨v56, s56, p56⟩ := cx.slot 8 56 (by kernel_rfl)
        replace p56 : v56 = .bool false := p56
        subst p56
        obtain ⟨v62, s62, p62⟩ := cx.slot 14 62 (by kernel_rfl)
        replace p62 : v62 = .bool false := p62
        subst p62
        refine ⟨(wanted_none rfl), fun K hK => ?_⟩
        exact wp_picked _ _ _ rfl false (ev_tmp s56) (.bool false) (ev_tmp s62) (hK.out _ _ rfl (Below.refl _ _) (no_block rfl))
      case hdone =>
        intro a1 w1 hb1 hz1 hd1 hk1 hg1
        obtain ⟨v63, s63, p63⟩ := got_slot hg1 15 63 (by kernel_rfl)
        replace p63 : v63 = .bool false := p63
        subst p63
        replace s2 := (hk1 2 (by kernel_rfl)).trans s2
        replace s8 := (hk1 8 (by kernel_rfl)).trans s8
        replace k8 := below_at k8 hb1
        replace s9 := (hk1 9 (by kernel_rfl)).trans s9
        replace k9 := below_at k9 hb1
        replace s10 := (hk1 10 (by kernel_rfl)).trans s10
        replace k10 := below_at k10 hb1
        replace s11 := (hk1 11 (by kernel_rfl)).trans s11
        replace k11 := below_at k11 hb1
        replace hBa := below_at hBa hb1
        replace hBb := below_at hBb hb1
        replace ho7 := owns_below ho7 hb1
        replace hA := hA.below hb1
        replace hB := hB.below hb1
        replace hbw := hbw.trans (hb1.mono hbw.size)
        replace hd := hd1.trans hd
        replace hz := hz1
        replace HC := HC.out a1 w1
        refine HC ?_
        clear HC hg1 hk1 hb1 hz1 hd1
        have hlit : a1 = { tmps := #[a1.tmps.getD 0 undef, a1.tmps.getD 1 undef, a1.tmps.getD 2 undef, a1.tmps.getD 3 undef, a1.tmps.getD 4 undef, a1.tmps.getD 5 undef, a1.tmps.getD 6 undef, a1.tmps.getD 7 undef, a1.tmps.getD 8 undef, a1.tmps.getD 9 undef, a1.tmps.getD 10 undef, a1.tmps.getD 11 undef, a1.tmps.getD 12 undef, a1.tmps.getD 13 undef, a1.tmps.getD 14 undef, a1.tmps.getD 15 undef, a1.tmps.getD 16 undef, a1.tmps.getD 17 undef, a1.tmps.getD 18 undef, a1.tmps.getD 19 undef, a1.tmps.getD 20 undef, a1.tmps.getD 21 undef, a1.tmps.getD 22 undef, a1.tmps.getD 23 undef, a1.tmps.getD 24 undef, a1.tmps.getD 25 undef, a1.tmps.getD 26 undef, a1.tmps.getD 27 undef, a1.tmps.getD 28 undef, a1.tmps.getD 29 undef, a1.tmps.getD 30 undef, a1.tmps.getD 31 undef, a1.tmps.getD 32 undef, a1.tmps.getD 33 undef, a1.tmps.getD 34 undef, a1.tmps.getD 35 undef, a1.tmps.getD 36 undef, a1.tmps.getD 37 undef, a1.tmps.getD 38 undef, a1.tmps.getD 39 undef, a1.tmps.getD 40 undef, a1.tmps.getD 41 undef, a1.tmps.getD 42 undef, a1.tmps.getD 43 undef, a1.tmps.getD 44 undef, a1.tmps.getD 45 undef, a1.tmps.getD 46 undef, a1.tmps.getD 47 undef, a1.tmps.getD 48 undef, a1.tmps.getD 49 undef, a1.tmps.getD 50 undef, a1.tmps.getD 51 undef, a1.tmps.getD 52 undef, a1.tmps.getD 53 undef, a1.tmps.getD 54 undef, a1.tmps.getD 55 undef, a1.tmps.getD 56 undef, a1.tmps.getD 57 undef, a1.tmps.getD 58 undef, a1.tmps.getD 59 undef, a1.tmps.getD 60 undef, a1.tmps.getD 61 undef, a1.tmps.getD 62 undef, a1.tmps.getD 63 undef, a1.tmps.getD 64 undef, a1.tmps.getD 65 undef, a1.tmps.getD 66 undef, a1.tmps.getD 67 undef, a1.tmps.getD 68 undef, a1.tmps.getD 69 undef, a1.tmps.getD 70 undef, a1.tmps.getD 71 undef, a1.tmps.getD 72 undef, a1.tmps.getD 73 undef, a1.tmps.getD 74 undef, a1.tmps.getD 75 undef, a1.tmps.getD 76 undef, a1.tmps.getD 77 undef, a1.tmps.getD 78 undef, a1.tmps.getD 79 undef, a1.tmps.getD 80 undef, a1.tmps.getD 81 undef, a1.tmps.getD 82 undef, a1.tmps.getD 83 undef, a1.tmps.getD 84 undef, a1.tmps.getD 85 undef, a1.tmps.getD 86 undef, a1.tmps.getD 87 undef, a1.tmps.getD 88 undef, a1.tmps.getD 89 undef, a1.tmps.getD 90 undef, a1.tmps.getD 91 undef, a1.tmps.getD 92 undef, a1.tmps.getD 93 undef, a1.tmps.getD 94 undef, a1.tmps.getD 95 undef, a1.tmps.getD 96 undef, a1.tmps.getD 97 undef, a1.tmps.getD 98 undef, a1.tmps.getD 99 undef, a1.tmps.getD 100 undef, a1.tmps.getD 101 undef, a1.tmps.getD 102 undef, a1.tmps.getD 103 undef, a1.tmps.getD 104 undef, a1.tmps.getD 105 undef, a1.tmps.getD 106 undef, a1.tmps.getD 107 undef, a1.tmps.getD 108 undef, a1.tmps.getD 109 undef, a1.tmps.getD 110 undef, a1.tmps.getD 111 undef, a1.tmps.getD 112 undef, a1.tmps.getD 113 undef, a1.tmps.getD 114 undef, a1.tmps.getD 115 undef, a1.tmps.getD 116 undef, a1.tmps.getD 117 undef, a1.tmps.getD 118 undef, a1.tmps.getD 119 undef, a1.tmps.getD 120 undef, a1.tmps.getD 121 undef, a1.tmps.getD 122 undef, a1.tmps.getD 123 undef, a1.tmps.getD 124 undef, a1.tmps.getD 125 undef, a1.tmps.getD 126 undef, a1.tmps.getD 127 undef, a1.tmps.getD 128 undef, a1.tmps.getD 129 undef, a1.tmps.getD 130 undef, a1.tmps.getD 131 undef, a1.tmps.getD 132 undef, a1.tmps.getD 133 undef, a1.tmps.getD 134 undef, a1.tmps.getD 135 undef, a1.tmps.getD 136 undef, a1.tmps.getD 137 undef, a1.tmps.getD 138 undef, a1.tmps.getD 139 undef, a1.tmps.getD 140 undef, a1.tmps.getD 141 undef, a1.tmps.getD 142 undef, a1.tmps.getD 143 undef, a1.tmps.getD 144 undef, a1.tmps.getD 145 undef, a1.tmps.getD 146 undef, a1.tmps.getD 147 undef, a1.tmps.getD 148 undef, a1.tmps.getD 149 undef, a1.tmps.getD 150 undef, a1.tmps.getD 151 undef, a1.tmps.getD 152 undef], defers := [] } := lit_act a1 153 hz hd
        rw [getD_of s2, getD_of s8, getD_of s9, getD_of s10, getD_of s11, getD_of s63] at hlit
        obtain ⟨u, hu⟩ : ∃ u : Nat → Value, ∀ i, a1.tmps.getD i undef = u i := ⟨_, fun _ => rfl⟩
        simp only [hu] at hlit
        clear hu s2 s8 s9 s10 s11 s63 hz hd
        subst hlit
        have hc3 := HD.out
        clear HD
        obtain ⟨hz35, hi35⟩ := zero_of_info info35
        clear hi35 hBa hBb ho7 hA hB
        have q0 : ∀ W : World, ∀ m, W.heap[m]? = some (.cells (rowOf .u8 256 fun _ => 0) 35 (0, 0)) → (storeCells ⟨m, 0, none⟩ (rowOf .u8 256 fun _ => 0).toList 0).run Try.prog W = .ok () W := fun W m h => st_same W m h
        have h1 := q0 (((w1.alloc (.cells (rowOf .u8 256 fun _ => 0) 35)).alloc (.cells (rowOf .u8 256 fun _ => 0) 35)).alloc (.cells (rowOf .u8 256 fun _ => 0) 35)) w1.heap.size (three_new w1 _ _).1
        have h2 := q0 (((w1.alloc (.cells (rowOf .u8 256 fun _ => 0) 35)).alloc (.cells (rowOf .u8 256 fun _ => 0) 35)).alloc (.cells (rowOf .u8 256 fun _ => 0) 35)) (w1.heap.size + 1) (three_new w1 _ _).2.1
        have h3 := q0 (((w1.alloc (.cells (rowOf .u8 256 fun _ => 0) 35)).alloc (.cells (rowOf .u8 256 fun _ => 0) 35)).alloc (.cells (rowOf .u8 256 fun _ => 0) 35)) (w1.heap.size + 1 + 1) (three_new w1 _ _).2.2
        clear q0
        go_wp2_with fail
        go_loopw [15, 16] (fun v i wr => ∃ k : Nat, k ≤ 256 ∧ i = .int .i64 k ∧ Hid (LsIn M N w1.heap.size w1 k v wr)) (fun _ i _ => 256 - (RowKit.intOf i).toNat)
        case atStart =>
          refine ⟨0, by omega, rfl, ?_⟩
          have t3 := three_new w1 (rowOf .u8 256 fun _ => 0) 35
          have hup : ∀ p : Nat → Bool, (rowOf .u8 256 (b01 (upTo p 0))) = rowOf .u8 256 fun _ => 0 := fun p => rowOf_congr _ _ _ _ fun j _ => by simp [b01, upTo]
          refine ⟨?_, ?_, ?_, ?_, ?_⟩
          · rw [hup, Below.heap_alloc _ _ _ (by simp; omega)]; exact t3.1
          · rw [hup, Below.heap_alloc _ _ _ (by simp)]; exact t3.2.1
          · rw [hup, Below.heap_alloc _ _ _ (by simp)]; exact t3.2.2
          · exact own_emptyM _ 5 _ (by simp)
          · exact ((((Below.refl _ _).alloc (Nat.le_refl _) _).alloc (by simp) _).alloc (by simp; omega) _).alloc (by simp; omega) _
        case round =>
          obtain ⟨k, hk, rfl, HI⟩ := hrel
          clear h1 h2 h3
          by_cases hlt : k < 256
          · have HS : Hid (LsIn M N w1.heap.size w1 k _ wr) := HI
            clear HI
            obtain ⟨c10, c11, ⟨c12, f12⟩, _, _⟩ := Ls.cells (N := N) HS.out hlt rfl k10 k11
            have ho := b01_or M N k
            have hk10 : Hid (w1.heap[g10]? = some (.cells (rowOf .u8 256 (b01 M)) 35 (0, 0))) := k10
            have hk11 : Hid (w1.heap[g11]? = some (.cells (rowOf .u8 256 (b01 N)) 35 (0, 0))) := k11
            clear k10 k11
            go_wp2_with fail
            go_region
            refine keep_w (F := fun W => Exit.then _ _ _ _ W) fun w4 hw4 => ?_
            have H4 : Hid (Ls M w1.heap.size w1 k u15 (upTo (orP M N) (k + 1)) (upTo (andP M N) k) (upTo (minusP M N) k) w4) := by rw [hw4]; exact Ls.one HS.out
            clear hw4 c10 c11 c12 f12 ho HS
            obtain ⟨c10, c11, _, ⟨c12, f12⟩, _⟩ := Ls.cells (N := N) H4.out hlt rfl hk10.out hk11.out
            have ho := b01_and M N k
            go_wp2_with fail
            go_region
            refine keep_w (F := fun W => Exit.then _ _ _ _ W) fun w5 hw5 => ?_
            have H5 : Hid (Ls M w1.heap.size w1 k u15 (upTo (orP M N) (k + 1)) (upTo (andP M N) (k + 1)) (upTo (minusP M N) k) w5) := by rw [hw5]; exact Ls.two H4.out
            clear hw5 c10 c11 c12 f12 ho H4
            obtain ⟨c10, c11, _, _, ⟨c12, f12⟩⟩ := Ls.cells (N := N) H5.out hlt rfl hk10.out hk11.out
            have ho := b01_minus M N k
            go_wp2_with fail
            go_region
            refine keep_w (F := fun W => Exit.then _ _ _ _ W) fun w6 hw6 => ?_
            have H6 : Hid (Ls M w1.heap.size w1 k u15 (upTo (orP M N) (k + 1)) (upTo (andP M N) (k + 1)) (upTo (minusP M N) (k + 1)) w6) := by rw [hw6]; exact Ls.three H5.out
            clear hw6 c10 c11 c12 f12 ho H5
            obtain ⟨c10, _, _, _, _⟩ := Ls.cells (N := N) H6.out hlt rfl hk10.out hk11.out
            cases hq : M k
            · have hv : b01 M k = 0 := by simp [b01, hq]
              rw [hv] at c10
              clear hv
              go_wp2
              refine ⟨⟨k + 1, by omega, by go_num, ?_⟩, by simp [RowKit.intOf]; omega⟩
              obtain ⟨q1, q2, q3, q4, q5⟩ := H6.out
              refine ⟨q1, q2, q3, ?_, q5⟩
              have hs : mems (wd M) (k + 1) = mems (wd M) k := by rw [mems_succ, has_wd, hq]; simp
              rw [hs]; exact q4
            · have hv : b01 M k = 1 := by simp [b01, hq]
              rw [hv] at c10
              clear hv
              obtain ⟨q1, q2, q3, q4, q5⟩ := H6.out
              have hm := mems_le (wd M) k
              have z6 := q5.size
              have l3 := blk_lt q3
              obtain ⟨i0, hi, hz0, hz1, hz2⟩ := info_parts info5
              have HO : Hid (w6.ownsRow (w1.heap.size + 3) 5 1 _ (mems (wd M) k).length ((mems (wd M) k).map fun z => Value.int .u8 z)) := q4
              have HQ : Hid (w6.heap[w1.heap.size]? = some (.cells (rowOf .u8 256 (b01 (upTo (orP M N) (k + 1)))) 35 (0, 0)) ∧ w6.heap[w1.heap.size + 1]? = some (.cells (rowOf .u8 256 (b01 (upTo (andP M N) (k + 1)))) 35 (0, 0)) ∧ w6.heap[w1.heap.size + 1 + 1]? = some (.cells (rowOf .u8 256 (b01 (upTo (minusP M N) (k + 1)))) 35 (0, 0)) ∧ Below w1.heap.size w1 w6) := ⟨q1, q2, q3, q5⟩
              clear q1 q2 q3 q4 q5 H6
              go_wp2_with (at_builtin; refine wpList_append_own _ rfl _ _ 27 rfl (w1.heap.size + 3) 5 i0 (.int .u8 0) 1 1 Try.underlying27 hi hz0 hz1 hz2 rfl (by decide) _ _ _ rfl (HO.out.alloc _) ⟨w6.heap.size, 0, none⟩ 1 1 [.int .u8 (k : Int)] rfl rfl ?d1 ?d2 ?d3 ?d4 ?d5 ?_)
              case d1 =>
                intro j u hj
                match j, hj with
                | 0, hj => simp at hj; subst hj; simp [Addr.add]
              case d2 => intro u hu; simp at hu; subst hu; rfl
              case d3 => unfold maxLen; omega
              case d4 => omega
              case d5 => simp; omega
              intro v' w7 hown' hgrow _
              have hs : mems (wd M) (k + 1) = mems (wd M) k ++ [(k : Int)] := by rw [mems_succ, has_wd, hq]; simp
              have H7 : Hid (LsIn M N w1.heap.size w1 (k + 1) v' w7) := by
                obtain ⟨q1, q2, q3, q5⟩ := HQ.out
                have hne : ∀ b, b < w1.heap.size + 3 → ∀ g, (u15 : Value).ownBlock = some g → b ≠ g := fun b hb g hg e => by have := (HO.out.lt g hg).1; omega
                have keep : ∀ b o, b < w1.heap.size + 3 → w6.heap[b]? = some o → w7.heap[b]? = some o := fun b o hb h => by
                  rw [hgrow.block b (by have := blk_lt h; simp; omega) (fun e => hne b hb b e.symm rfl), Below.heap_alloc _ _ _ (blk_lt h)]; exact h
                refine ⟨keep _ _ (by omega) q1, keep _ _ (by omega) q2, keep _ _ (by omega) q3, ?_, ?_⟩
                · rw [hs, List.length_append, List.map_append]; exact hown'
                · exact (q5.alloc z6 _).grown hgrow (by simp; omega) (fun j hj => by have := (HO.out.lt j hj).1; omega)
              clear hown' hgrow HQ HO
              go_wp2
              exact ⟨⟨k + 1, by omega, by go_num, H7⟩, by simp [RowKit.intOf]; omega⟩
          · have e : k = 256 := by omega
            subst e
            obtain ⟨q1, q2, q3, q4, q5⟩ := HI.out
            have hup : ∀ p : Nat → Bool, (rowOf .u8 256 (b01 (upTo p 256))) = rowOf .u8 256 (b01 p) := fun p => row_congr fun j hj => by simp [upTo, hj]
            rw [hup] at q1 q2 q3
            have H1 := Shut.mk q1
            have H2 := Shut.mk q2
            have H3 := Shut.mk q3
            have H4 : Shut (wr.ownsRow (w1.heap.size + 3) 5 1 u15 (mems (wd M) 256).length ((mems (wd M) 256).map fun z => Value.int .u8 z)) := q4
            have H5 : Shut (Below w1.heap.size w1 wr) := q5
            have J8 := Shut.mk k8
            have J9 := Shut.mk k9
            have J10 := Shut.mk k10
            have hbq := Shut.mk hbw
            clear q1 q2 q3 q4 q5 HI hup k8 k9 k10 k11 hbw
            go_wp2_with fail
            rename_i Q9 K9 hcont9
            have HC : Shut _ := hcont9
            clear hcont9
            refine wp_abs 153 rfl fun a2 hz hd hs => ?_
            obtain ⟨g12, e12⟩ : ∃ g, w1.heap.size = g := ⟨_, rfl⟩
            obtain ⟨g13, e13⟩ : ∃ g, w1.heap.size + 1 = g := ⟨_, rfl⟩
            obtain ⟨g14, e14⟩ : ∃ g, w1.heap.size + 1 + 1 = g := ⟨_, rfl⟩
            have s2 : a2.tmps[2]? = some (.int .u8 x) := hs 2
            have s8 : a2.tmps[8]? = some (.pointer (some ⟨g8, 0, none⟩)) := hs 8
            have s9 : a2.tmps[9]? = some (.pointer (some ⟨g9, 0, none⟩)) := hs 9
            have s10 : a2.tmps[10]? = some (.pointer (some ⟨g10, 0, none⟩)) := hs 10
            have s12 : a2.tmps[12]? = some (.pointer (some ⟨w1.heap.size, 0, none⟩)) := hs 12
            have s13 : a2.tmps[13]? = some (.pointer (some ⟨w1.heap.size + 1, 0, none⟩)) := hs 13
            have s14 : a2.tmps[14]? = some (.pointer (some ⟨w1.heap.size + 1 + 1, 0, none⟩)) := hs 14
            have s15 : a2.tmps[15]? = some u15 := hs 15
            replace hd : a2.defers = [] := hd
            clear hs
            have k8 := (H5.out.block _ (blk_lt J8.out)).trans J8.out
            have k9 := (H5.out.block _ (blk_lt J9.out)).trans J9.out
            have k10 := (H5.out.block _ (blk_lt J10.out)).trans J10.out
            have k12 := H1.out
            have k13 := H2.out
            have k14 := H3.out
            have ho := H4.out
            have hbw := hbq.out.trans (H5.out.mono hbq.out.size)
            rw [e14] at k14 s14
            rw [e13] at k13 s13
            rw [e12] at k12 s12
            obtain ⟨a15, c15, rfl⟩ := owns_form ho
            clear H1 H2 H3 H4 H5 J8 J9 J10 hbq e12 e13 e14
            have K10 := k10
            refine wp_region_flow (nthP [isV (.agg (aggW M)), isV (.int .u8 x), isV (.bool (M x)), isV (.int .u8 x), isV (.pointer (some ⟨g10, x, none⟩)), isV (.int .u8 (b01 M x)), isV (.bool (M x)), isV (.bool true), isV (.bool true), isV (.agg (aggW M)), isV (.agg (aggW N)), isSl (agg2 M N) 32 2, isV (.agg (aggW (orP M N))), isV (.agg (rowOf .u8 256 (b01 (orP M N)))), isV (.agg (aggW (orP M N))), isV (.bool true), isV (.bool true), isV (.bool true), isV (.agg (aggW (fun _ => false))), isV (.agg (aggW (fun _ => false))), isV (.bool true), isV (.bool true), isV (.bool true), isV (.agg (aggW M)), isV (.agg (aggW N)), isV (.agg (aggW (andP M N))), isV (.agg (rowOf .u8 256 (b01 (andP M N)))), isV (.agg (aggW (andP M N))), isV (.bool true), isV (.bool true), isV (.bool true), isV (.agg (aggW M)), isV (.agg (aggW N)), isV (.agg (aggW (minusP M N))), isV (.agg (rowOf .u8 256 (b01 (minusP M N)))), isV (.agg (aggW (minusP M N))), isV (.bool true), isV (.bool true), isV (.bool true), isV (.agg (aggW M)), isV (.string (memS M)), isV (.slice a15 (mems (wd M) 256).length c15), isV (.string (memS M)), isV (.bool true), isV (.bool true), isV (.bool true)]) 153 (by assumption) (by kernel_rfl) (by kernel_rfl) (by kernel_rfl) (nthP_stays ⟨Stays.isV, Stays.isV, Stays.isV, Stays.isV, Stays.isV, Stays.isV, Stays.isV, Stays.isV, Stays.isV, Stays.isV, Stays.isV, Stays.isSl, Stays.isV, Stays.isV, Stays.isV, Stays.isV, Stays.isV, Stays.isV, Stays.isV, Stays.isV, Stays.isV, Stays.isV, Stays.isV, Stays.isV, Stays.isV, Stays.isV, Stays.isV, Stays.isV, Stays.isV, Stays.isV, Stays.isV, Stays.isV, Stays.isV, Stays.isV, Stays.isV, Stays.isV, Stays.isV, Stays.isV, Stays.isV, Stays.isV, Stays.isV, Stays.isV, Stays.isV, Stays.isV, Stays.isV, Stays.isV, trivial⟩) (noStore (by kernel_rfl)) ⟨?o0, ?o1, ?o2, ?o3, ?o4, ?o5, ?o6, ?o7, ?o8, ?o9, ?o10, ?o11, ?o12, ?o13, ?o14, ?o15, ?o16, ?o17, ?o18, ?o19, ?o20, ?o21, ?o22, ?o23, ?o24, ?o25, ?o26, ?o27, ?o28, ?o29, ?o30, ?o31, ?o32, ?o33, ?o34, ?o35, ?o36, ?o37, ?o38, ?o39, ?o40, ?o41, ?o42, ?o43, ?o44, ?o45, trivial⟩ ?hdone
            case o0 =>
              refine FlowOp2.plain rfl fun a1 w1 cx => ?_
              have s8 := cx.keep 8 _ (by kernel_rfl) s8
              have k8 := below_at k8 cx.below
              refine ⟨(wanted_none rfl), fun K hK => ?_⟩
              exact wp_loaded _ _ rfl g8 (ev_tmp s8) _ _ _ _ k8 Try.underlying32 rfl (by kernel_rfl) (hK.out _ _ rfl (Below.refl _ _) (no_block rfl))
            case o1 =>
              refine FlowOp2.plain rfl fun a1 w1 cx => ?_
              have s2 := cx.keep 2 _ (by kernel_rfl) s2
              refine ⟨(wanted_none rfl), fun K hK => ?_⟩
              exact wp_moved _ rfl _ (ev_tmp s2) (hK.out _ _ rfl (Below.refl _ _) (no_block rfl))
            case o2 =>
              refine FlowOp2.plain rfl fun a1 w1 cx => ?_
              obtain ⟨v108, s108, p108⟩ := cx.slot 0 108 (by kernel_rfl)
              replace p108 : v108 = .agg (aggW M) := p108
              subst p108
              obtain ⟨v109, s109, p109⟩ := cx.slot 1 109 (by kernel_rfl)
              replace p109 : v109 = .int .u8 x := p109
              subst p109
              refine ⟨(wanted_none rfl), fun K hK => ?_⟩
              refine wp_gen_call [(108, .agg (aggW M)), (109, .int .u8 x)] ⟨s108, s109, trivial⟩ (vs := #[.agg (aggW M), .int .u8 x]) (f := 20) (by kernel_rfl) (fun w => by kernel_rfl) ?_
              refine (has_w M x _ hx).mono ?_
              rintro e w2 ⟨rfl, hb⟩
              exact ⟨_, rfl, hK.out _ _ rfl hb (no_block rfl)⟩
            case o3 =>
              refine FlowOp2.plain rfl fun a1 w1 cx => ?_
              have s2 := cx.keep 2 _ (by kernel_rfl) s2
              refine ⟨(wanted_none rfl), fun K hK => ?_⟩
              exact wp_moved _ rfl _ (ev_tmp s2) (hK.out _ _ rfl (Below.refl _ _) (no_block rfl))
            case o4 =>
              refine FlowOp2.plain rfl fun a1 w1 cx => ?_
              have s10 := cx.keep 10 _ (by kernel_rfl) s10
              have k10 := below_at k10 cx.below
              obtain ⟨v111, s111, p111⟩ := cx.slot 3 111 (by kernel_rfl)
              replace p111 : v111 = .int .u8 x := p111
              subst p111
              refine ⟨(wanted_none rfl), fun K hK => ?_⟩
              refine wp_gen [(10, .pointer (some ⟨g10, 0, none⟩)), (111, .int .u8 x)] ⟨s10, s111, trivial⟩ (by kernel_rfl) (v := .pointer (some ⟨g10, x, none⟩)) (w' := w1) (idx35 g10 x hx _ 10 111 rfl rfl w1) ?_
              exact hK.out _ _ rfl (Below.refl _ _) (fun b hb => by simp [blockOf] at hb; subst hb; have := cx.below.size; have := blk_lt K10; exact ⟨by omega, .inr ⟨this, rfl⟩⟩)
            case o5 =>
              refine FlowOp2.plain rfl fun a1 w1 cx => ?_
              obtain ⟨v112, s112, p112⟩ := cx.slot 4 112 (by kernel_rfl)
              replace p112 : v112 = .pointer (some ⟨g10, x, none⟩) := p112
              subst p112
              refine ⟨(wanted_none rfl), fun K hK => ?_⟩
              exact wp_load1 5 _ rfl _ (ev_tmp s112) _ (ld5 _ _ w1 (by rw [cell_blk (below_at K10 cx.below)]; exact rowOf_get _ _ _ _ hx)) (hK.out _ _ rfl (Below.refl _ _) (no_block rfl))
            case o6 =>
              refine FlowOp2.plain rfl fun a1 w1 cx => ?_
              obtain ⟨v113, s113, p113⟩ := cx.slot 5 113 (by kernel_rfl)
              replace p113 : v113 = .int .u8 (b01 M x) := p113
              subst p113
              refine ⟨(wanted_none rfl), fun K hK => ?_⟩
              refine wp_gen [(113, .int .u8 (b01 M x))] ⟨s113, trivial⟩ (by kernel_rfl) (v := .bool (M x)) (w' := w1) ?_ (hK.out _ _ rfl (Below.refl _ _) (no_block rfl))
              unfold b01
              cases M x <;> kernel_rfl
            case o7 =>
              refine FlowOp2.plain rfl fun a1 w1 cx => ?_
              obtain ⟨v110, s110, p110⟩ := cx.slot 2 110 (by kernel_rfl)
              replace p110 : v110 = .bool (M x) := p110
              subst p110
              obtain ⟨v114, s114, p114⟩ := cx.slot 6 114 (by kernel_rfl)
              replace p114 : v114 = .bool (M x) := p114
              subst p114
              refine ⟨(wanted_none rfl), fun K hK => ?_⟩
              refine wp_gen [(110, .bool (M x)), (114, .bool (M x))] ⟨s110, s114, trivial⟩ (by kernel_rfl) (v := .bool true) (w' := w1) ?_ (hK.out _ _ rfl (Below.refl _ _) (no_block rfl))
              cases M x <;> kernel_rfl
            case o8 =>
              refine FlowOp2.plain rfl fun a1 w1 cx => ?_
              obtain ⟨v115, s115, p115⟩ := cx.slot 7 115 (by kernel_rfl)
              replace p115 : v115 = .bool true := p115
              subst p115
              refine ⟨(wanted_none rfl), fun K hK => ?_⟩
              exact wp_moved _ rfl _ (ev_tmp s115) (hK.out _ _ rfl (Below.refl _ _) (no_block rfl))
            case o9 =>
              refine FlowOp2.plain rfl fun a1 w1 cx => ?_
              obtain ⟨v116, s116, p116⟩ := cx.slot 8 116 (by kernel_rfl)
              replace p116 : v116 = .bool true := p116
              subst p116
              have s8 := cx.keep 8 _ (by kernel_rfl) s8
              have k8 := below_at k8 cx.below
              refine ⟨(wanted_yes rfl rfl s116), fun K hK => ?_⟩
              exact wp_loaded _ _ rfl g8 (ev_tmp s8) _ _ _ _ k8 Try.underlying32 rfl (by kernel_rfl) (hK.out _ _ rfl (Below.refl _ _) (no_block rfl))
            case o10 =>
              refine FlowOp2.plain rfl fun a1 w1 cx => ?_
              obtain ⟨v116, s116, p116⟩ := cx.slot 8 116 (by kernel_rfl)
              replace p116 : v116 = .bool true := p116
              subst p116
              have s9 := cx.keep 9 _ (by kernel_rfl) s9
              have k9 := below_at k9 cx.below
              refine ⟨(wanted_yes rfl rfl s116), fun K hK => ?_⟩
              exact wp_loaded _ _ rfl g9 (ev_tmp s9) _ _ _ _ k9 Try.underlying32 rfl (by kernel_rfl) (hK.out _ _ rfl (Below.refl _ _) (no_block rfl))
            case o11 =>
              refine FlowOp2.plain rfl fun a1 w1 cx => ?_
              obtain ⟨v116, s116, p116⟩ := cx.slot 8 116 (by kernel_rfl)
              replace p116 : v116 = .bool true := p116
              subst p116
              obtain ⟨v117, s117, p117⟩ := cx.slot 9 117 (by kernel_rfl)
              replace p117 : v117 = .agg (aggW M) := p117
              subst p117
              obtain ⟨v118, s118, p118⟩ := cx.slot 10 118 (by kernel_rfl)
              replace p118 : v118 = .agg (aggW N) := p118
              subst p118
              refine ⟨(wanted_yes rfl rfl s116), fun K hK => ?_⟩
              refine wp_gen [(117, .agg (aggW M)), (118, .agg (aggW N))] ⟨s117, s118, trivial⟩ (by kernel_rfl) (v := .slice (some ⟨w1.heap.size, 0, none⟩) 2 2) (w' := w1.alloc (.cells (agg2 M N) 32)) (by kernel_rfl) ?_
              exact hK.out _ _ ⟨_, _, rfl, heap_alloc_last _ _⟩ ((Below.refl _ _).alloc (Nat.le_refl _) _) (no_block rfl)
            case o12 =>
              refine FlowOp2.plain rfl fun a1 w1 cx => ?_
              obtain ⟨v116, s116, p116⟩ := cx.slot 8 116 (by kernel_rfl)
              replace p116 : v116 = .bool true := p116
              subst p116
              obtain ⟨v119, s119, p119⟩ := cx.slot 11 119 (by kernel_rfl)
              obtain ⟨g119, c119, rfl, k119⟩ : isSl (agg2 M N) 32 2 v119 w1 := p119
              refine ⟨(wanted_yes rfl rfl s116), fun K hK => ?_⟩
              refine wp_gen_call [(119, .slice (some ⟨g119, 0, none⟩) 2 c119)] ⟨s119, trivial⟩ (vs := #[.slice (some ⟨g119, 0, none⟩) 2 c119]) (f := 21) (by kernel_rfl) (fun w => by kernel_rfl) ?_
              refine (union2_w M N _ _ _ _ k119).mono ?_
              rintro e w2 ⟨rfl, hb⟩
              exact ⟨_, rfl, hK.out _ _ rfl hb (no_block rfl)⟩
            case o13 =>
              refine FlowOp2.plain rfl fun a1 w1 cx => ?_
              obtain ⟨v116, s116, p116⟩ := cx.slot 8 116 (by kernel_rfl)
              replace p116 : v116 = .bool true := p116
              subst p116
              have s12 := cx.keep 12 _ (by kernel_rfl) s12
              have k12 := below_at k12 cx.below
              refine ⟨(wanted_yes rfl rfl s116), fun K hK => ?_⟩
              exact wp_loaded _ _ rfl g12 (ev_tmp s12) _ _ _ _ k12 Try.underlying35 rfl (by rw [rowOf_size]; kernel_rfl) (hK.out _ _ rfl (Below.refl _ _) (no_block rfl))
            case o14 =>
              refine FlowOp2.plain rfl fun a1 w1 cx => ?_
              obtain ⟨v116, s116, p116⟩ := cx.slot 8 116 (by kernel_rfl)
              replace p116 : v116 = .bool true := p116
              subst p116
              obtain ⟨v121, s121, p121⟩ := cx.slot 13 121 (by kernel_rfl)
              replace p121 : v121 = .agg (rowOf .u8 256 (b01 (orP M N))) := p121
              subst p121
              refine ⟨(wanted_yes rfl rfl s116), fun K hK => ?_⟩
              refine wp_gen_call [(121, .agg (rowOf .u8 256 (b01 (orP M N))))] ⟨s121, trivial⟩ (vs := #[.agg (rowOf .u8 256 (b01 (orP M N)))]) (f := 19) (by kernel_rfl) (fun w => by kernel_rfl) ?_
              refine (words_any (orP M N) _).mono ?_
              rintro e w2 ⟨rfl, hb⟩
              exact ⟨_, rfl, hK.out _ _ rfl hb (no_block rfl)⟩
            case o15 =>
              refine FlowOp2.plain rfl fun a1 w1 cx => ?_
              obtain ⟨v116, s116, p116⟩ := cx.slot 8 116 (by kernel_rfl)
              replace p116 : v116 = .bool true := p116
              subst p116
              obtain ⟨v120, s120, p120⟩ := cx.slot 12 120 (by kernel_rfl)
              replace p120 : v120 = .agg (aggW (orP M N)) := p120
              subst p120
              obtain ⟨v122, s122, p122⟩ := cx.slot 14 122 (by kernel_rfl)
              replace p122 : v122 = .agg (aggW (orP M N)) := p122
              subst p122
              refine ⟨(wanted_yes rfl rfl s116), fun K hK => ?_⟩
              refine wp_gen [(120, .agg (aggW (orP M N))), (122, .agg (aggW (orP M N)))] ⟨s120, s122, trivial⟩ (by kernel_rfl) (v := .bool true) (w' := w1) ?_ (hK.out _ _ rfl (Below.refl _ _) (no_block rfl))
              exact eqo31 _ _ rfl _ _ _ rfl rfl _
            case o16 =>
              refine FlowOp2.plain rfl fun a1 w1 cx => ?_
              obtain ⟨v116, s116, p116⟩ := cx.slot 8 116 (by kernel_rfl)
              replace p116 : v116 = .bool true := p116
              subst p116
              obtain ⟨v123, s123, p123⟩ := cx.slot 15 123 (by kernel_rfl)
              replace p123 : v123 = .bool true := p123
              subst p123
              refine ⟨(wanted_none rfl), fun K hK => ?_⟩
              exact wp_picked _ _ _ rfl true (ev_tmp s116) (.bool true) (ev_tmp s123) (hK.out _ _ rfl (Below.refl _ _) (no_block rfl))
            case o17 =>
              refine FlowOp2.plain rfl fun a1 w1 cx => ?_
              obtain ⟨v124, s124, p124⟩ := cx.slot 16 124 (by kernel_rfl)
              replace p124 : v124 = .bool true := p124
              subst p124
              refine ⟨(wanted_none rfl), fun K hK => ?_⟩
              exact wp_moved _ rfl _ (ev_tmp s124) (hK.out _ _ rfl (Below.refl _ _) (no_block rfl))
            case o18 =>
              refine FlowOp2.plain rfl fun a1 w1 cx => ?_
              obtain ⟨v125, s125, p125⟩ := cx.slot 17 125 (by kernel_rfl)
              replace p125 : v125 = .bool true := p125
              subst p125
              refine ⟨(wanted_yes rfl rfl s125), fun K hK => ?_⟩
              refine wp_gen_call [] trivial (vs := #[.slice none 0 0]) (f := 21) (by kernel_rfl) (fun w => by kernel_rfl) ?_
              refine (union0_w _).mono ?_
              rintro e w2 ⟨rfl, hb⟩
              exact ⟨_, rfl, hK.out _ _ rfl hb (no_block rfl)⟩
            case o19 =>
              refine FlowOp2.plain rfl fun a1 w1 cx => ?_
              obtain ⟨v125, s125, p125⟩ := cx.slot 17 125 (by kernel_rfl)
              replace p125 : v125 = .bool true := p125
              subst p125
              refine ⟨(wanted_yes rfl rfl s125), fun K hK => ?_⟩
              refine wp_gen [] trivial (by kernel_rfl) (v := .agg (aggW (fun _ => false))) (w' := w1) (by rw [agg0]; kernel_rfl) ?_
              exact hK.out _ _ rfl (Below.refl _ _) (no_block rfl)
            case o20 =>
              refine FlowOp2.plain rfl fun a1 w1 cx => ?_
              obtain ⟨v125, s125, p125⟩ := cx.slot 17 125 (by kernel_rfl)
              replace p125 : v125 = .bool true := p125
              subst p125
              obtain ⟨v126, s126, p126⟩ := cx.slot 18 126 (by kernel_rfl)
              replace p126 : v126 = .agg (aggW (fun _ => false)) := p126
              subst p126
              obtain ⟨v127, s127, p127⟩ := cx.slot 19 127 (by kernel_rfl)
              replace p127 : v127 = .agg (aggW (fun _ => false)) := p127
              subst p127
              refine ⟨(wanted_yes rfl rfl s125), fun K hK => ?_⟩
              refine wp_gen [(126, .agg (aggW (fun _ => false))), (127, .agg (aggW (fun _ => false)))] ⟨s126, s127, trivial⟩ (by kernel_rfl) (v := .bool true) (w' := w1) ?_ (hK.out _ _ rfl (Below.refl _ _) (no_block rfl))
              exact eqo31 _ _ rfl _ _ _ rfl rfl _
            case o21 =>
              refine FlowOp2.plain rfl fun a1 w1 cx => ?_
              obtain ⟨v125, s125, p125⟩ := cx.slot 17 125 (by kernel_rfl)
              replace p125 : v125 = .bool true := p125
              subst p125
              obtain ⟨v128, s128, p128⟩ := cx.slot 20 128 (by kernel_rfl)
              replace p128 : v128 = .bool true := p128
              subst p128
              refine ⟨(wanted_none rfl), fun K hK => ?_⟩
              exact wp_picked _ _ _ rfl true (ev_tmp s125) (.bool true) (ev_tmp s128) (hK.out _ _ rfl (Below.refl _ _) (no_block rfl))
            case o22 =>
              refine FlowOp2.plain rfl fun a1 w1 cx => ?_
              obtain ⟨v129, s129, p129⟩ := cx.slot 21 129 (by kernel_rfl)
              replace p129 : v129 = .bool true := p129
              subst p129
              refine ⟨(wanted_none rfl), fun K hK => ?_⟩
              exact wp_moved _ rfl _ (ev_tmp s129) (hK.out _ _ rfl (Below.refl _ _) (no_block rfl))
            case o23 =>
              refine FlowOp2.plain rfl fun a1 w1 cx => ?_
              obtain ⟨v130, s130, p130⟩ := cx.slot 22 130 (by kernel_rfl)
              replace p130 : v130 = .bool true := p130
              subst p130
              have s8 := cx.keep 8 _ (by kernel_rfl) s8
              have k8 := below_at k8 cx.below
              refine ⟨(wanted_yes rfl rfl s130), fun K hK => ?_⟩
              exact wp_loaded _ _ rfl g8 (ev_tmp s8) _ _ _ _ k8 Try.underlying32 rfl (by kernel_rfl) (hK.out _ _ rfl (Below.refl _ _) (no_block rfl))
            case o24 =>
              refine FlowOp2.plain rfl fun a1 w1 cx => ?_
              obtain ⟨v130, s130, p130⟩ := cx.slot 22 130 (by kernel_rfl)
              replace p130 : v130 = .bool true := p130
              subst p130
              have s9 := cx.keep 9 _ (by kernel_rfl) s9
              have k9 := below_at k9 cx.below
              refine ⟨(wanted_yes rfl rfl s130), fun K hK => ?_⟩
              exact wp_loaded _ _ rfl g9 (ev_tmp s9) _ _ _ _ k9 Try.underlying32 rfl (by kernel_rfl) (hK.out _ _ rfl (Below.refl _ _) (no_block rfl))
            case o25 =>
              refine FlowOp2.plain rfl fun a1 w1 cx => ?_
              obtain ⟨v130, s130, p130⟩ := cx.slot 22 130 (by kernel_rfl)
              replace p130 : v130 = .bool true := p130
              subst p130
              obtain ⟨v131, s131, p131⟩ := cx.slot 23 131 (by kernel_rfl)
              replace p131 : v131 = .agg (aggW M) := p131
              subst p131
              obtain ⟨v132, s132, p132⟩ := cx.slot 24 132 (by kernel_rfl)
              replace p132 : v132 = .agg (aggW N) := p132
              subst p132
              refine ⟨(wanted_yes rfl rfl s130), fun K hK => ?_⟩
              refine wp_gen_call [(131, .agg (aggW M)), (132, .agg (aggW N))] ⟨s131, s132, trivial⟩ (vs := #[.agg (aggW M), .agg (aggW N)]) (f := 22) (by kernel_rfl) (fun w => by kernel_rfl) ?_
              refine (cross_w M N _).mono ?_
              rintro e w2 ⟨rfl, hb⟩
              exact ⟨_, rfl, hK.out _ _ rfl hb (no_block rfl)⟩
            case o26 =>
              refine FlowOp2.plain rfl fun a1 w1 cx => ?_
              obtain ⟨v130, s130, p130⟩ := cx.slot 22 130 (by kernel_rfl)
              replace p130 : v130 = .bool true := p130
              subst p130
              have s13 := cx.keep 13 _ (by kernel_rfl) s13
              have k13 := below_at k13 cx.below
              refine ⟨(wanted_yes rfl rfl s130), fun K hK => ?_⟩
              exact wp_loaded _ _ rfl g13 (ev_tmp s13) _ _ _ _ k13 Try.underlying35 rfl (by rw [rowOf_size]; kernel_rfl) (hK.out _ _ rfl (Below.refl _ _) (no_block rfl))
            case o27 =>
              refine FlowOp2.plain rfl fun a1 w1 cx => ?_
              obtain ⟨v130, s130, p130⟩ := cx.slot 22 130 (by kernel_rfl)
              replace p130 : v130 = .bool true := p130
              subst p130
              obtain ⟨v134, s134, p134⟩ := cx.slot 26 134 (by kernel_rfl)
              replace p134 : v134 = .agg (rowOf .u8 256 (b01 (andP M N))) := p134
              subst p134
              refine ⟨(wanted_yes rfl rfl s130), fun K hK => ?_⟩
              refine wp_gen_call [(134, .agg (rowOf .u8 256 (b01 (andP M N))))] ⟨s134, trivial⟩ (vs := #[.agg (rowOf .u8 256 (b01 (andP M N)))]) (f := 19) (by kernel_rfl) (fun w => by kernel_rfl) ?_
              refine (words_any (andP M N) _).mono ?_
              rintro e w2 ⟨rfl, hb⟩
              exact ⟨_, rfl, hK.out _ _ rfl hb (no_block rfl)⟩
            case o28 =>
              refine FlowOp2.plain rfl fun a1 w1 cx => ?_
              obtain ⟨v130, s130, p130⟩ := cx.slot 22 130 (by kernel_rfl)
              replace p130 : v130 = .bool true := p130
              subst p130
              obtain ⟨v133, s133, p133⟩ := cx.slot 25 133 (by kernel_rfl)
              replace p133 : v133 = .agg (aggW (andP M N)) := p133
              subst p133
              obtain ⟨v135, s135, p135⟩ := cx.slot 27 135 (by kernel_rfl)
              replace p135 : v135 = .agg (aggW (andP M N)) := p135
              subst p135
              refine ⟨(wanted_yes rfl rfl s130), fun K hK => ?_⟩
              refine wp_gen [(133, .agg (aggW (andP M N))), (135, .agg (aggW (andP M N)))] ⟨s133, s135, trivial⟩ (by kernel_rfl) (v := .bool true) (w' := w1) ?_ (hK.out _ _ rfl (Below.refl _ _) (no_block rfl))
              exact eqo31 _ _ rfl _ _ _ rfl rfl _
            case o29 =>
              refine FlowOp2.plain rfl fun a1 w1 cx => ?_
              obtain ⟨v130, s130, p130⟩ := cx.slot 22 130 (by kernel_rfl)
              replace p130 : v130 = .bool true := p130
              subst p130
              obtain ⟨v136, s136, p136⟩ := cx.slot 28 136 (by kernel_rfl)
              replace p136 : v136 = .bool true := p136
              subst p136
              refine ⟨(wanted_none rfl), fun K hK => ?_⟩
              exact wp_picked _ _ _ rfl true (ev_tmp s130) (.bool true) (ev_tmp s136) (hK.out _ _ rfl (Below.refl _ _) (no_block rfl))
            case o30 =>
              refine FlowOp2.plain rfl fun a1 w1 cx => ?_
              obtain ⟨v137, s137, p137⟩ := cx.slot 29 137 (by kernel_rfl)
              replace p137 : v137 = .bool true := p137
              subst p137
              refine ⟨(wanted_none rfl), fun K hK => ?_⟩
              exact wp_moved _ rfl _ (ev_tmp s137) (hK.out _ _ rfl (Below.refl _ _) (no_block rfl))
            case o31 =>
              refine FlowOp2.plain rfl fun a1 w1 cx => ?_
              obtain ⟨v138, s138, p138⟩ := cx.slot 30 138 (by kernel_rfl)
              replace p138 : v138 = .bool true := p138
              subst p138
              have s8 := cx.keep 8 _ (by kernel_rfl) s8
              have k8 := below_at k8 cx.below
              refine ⟨(wanted_yes rfl rfl s138), fun K hK => ?_⟩
              exact wp_loaded _ _ rfl g8 (ev_tmp s8) _ _ _ _ k8 Try.underlying32 rfl (by kernel_rfl) (hK.out _ _ rfl (Below.refl _ _) (no_block rfl))
            case o32 =>
              refine FlowOp2.plain rfl fun a1 w1 cx => ?_
              obtain ⟨v138, s138, p138⟩ := cx.slot 30 138 (by kernel_rfl)
              replace p138 : v138 = .bool true := p138
              subst p138
              have s9 := cx.keep 9 _ (by kernel_rfl) s9
              have k9 := below_at k9 cx.below
              refine ⟨(wanted_yes rfl rfl s138), fun K hK => ?_⟩
              exact wp_loaded _ _ rfl g9 (ev_tmp s9) _ _ _ _ k9 Try.underlying32 rfl (by kernel_rfl) (hK.out _ _ rfl (Below.refl _ _) (no_block rfl))
            case o33 =>
              refine FlowOp2.plain rfl fun a1 w1 cx => ?_
              obtain ⟨v138, s138, p138⟩ := cx.slot 30 138 (by kernel_rfl)
              replace p138 : v138 = .bool true := p138
              subst p138
              obtain ⟨v139, s139, p139⟩ := cx.slot 31 139 (by kernel_rfl)
              replace p139 : v139 = .agg (aggW M) := p139
              subst p139
              obtain ⟨v140, s140, p140⟩ := cx.slot 32 140 (by kernel_rfl)
              replace p140 : v140 = .agg (aggW N) := p140
              subst p140
              refine ⟨(wanted_yes rfl rfl s138), fun K hK => ?_⟩
              refine wp_gen_call [(139, .agg (aggW M)), (140, .agg (aggW N))] ⟨s139, s140, trivial⟩ (vs := #[.agg (aggW M), .agg (aggW N)]) (f := 23) (by kernel_rfl) (fun w => by kernel_rfl) ?_
              refine (minus_w M N _).mono ?_
              rintro e w2 ⟨rfl, hb⟩
              exact ⟨_, rfl, hK.out _ _ rfl hb (no_block rfl)⟩
            case o34 =>
              refine FlowOp2.plain rfl fun a1 w1 cx => ?_
              obtain ⟨v138, s138, p138⟩ := cx.slot 30 138 (by kernel_rfl)
              replace p138 : v138 = .bool true := p138
              subst p138
              have s14 := cx.keep 14 _ (by kernel_rfl) s14
              have k14 := below_at k14 cx.below
              refine ⟨(wanted_yes rfl rfl s138), fun K hK => ?_⟩
              exact wp_loaded _ _ rfl g14 (ev_tmp s14) _ _ _ _ k14 Try.underlying35 rfl (by rw [rowOf_size]; kernel_rfl) (hK.out _ _ rfl (Below.refl _ _) (no_block rfl))
            case o35 =>
              refine FlowOp2.plain rfl fun a1 w1 cx => ?_
              obtain ⟨v138, s138, p138⟩ := cx.slot 30 138 (by kernel_rfl)
              replace p138 : v138 = .bool true := p138
              subst p138
              obtain ⟨v142, s142, p142⟩ := cx.slot 34 142 (by kernel_rfl)
              replace p142 : v142 = .agg (rowOf .u8 256 (b01 (minusP M N))) := p142
              subst p142
              refine ⟨(wanted_yes rfl rfl s138), fun K hK => ?_⟩
              refine wp_gen_call [(142, .agg (rowOf .u8 256 (b01 (minusP M N))))] ⟨s142, trivial⟩ (vs := #[.agg (rowOf .u8 256 (b01 (minusP M N)))]) (f := 19) (by kernel_rfl) (fun w => by kernel_rfl) ?_
              refine (words_any (minusP M N) _).mono ?_
              rintro e w2 ⟨rfl, hb⟩
              exact ⟨_, rfl, hK.out _ _ rfl hb (no_block rfl)⟩
            case o36 =>
              refine FlowOp2.plain rfl fun a1 w1 cx => ?_
              obtain ⟨v138, s138, p138⟩ := cx.slot 30 138 (by kernel_rfl)
              replace p138 : v138 = .bool true := p138
              subst p138
              obtain ⟨v141, s141, p141⟩ := cx.slot 33 141 (by kernel_rfl)
              replace p141 : v141 = .agg (aggW (minusP M N)) := p141
              subst p141
              obtain ⟨v143, s143, p143⟩ := cx.slot 35 143 (by kernel_rfl)
              replace p143 : v143 = .agg (aggW (minusP M N)) := p143
              subst p143
              refine ⟨(wanted_yes rfl rfl s138), fun K hK => ?_⟩
              refine wp_gen [(141, .agg (aggW (minusP M N))), (143, .agg (aggW (minusP M N)))] ⟨s141, s143, trivial⟩ (by kernel_rfl) (v := .bool true) (w' := w1) ?_ (hK.out _ _ rfl (Below.refl _ _) (no_block rfl))
              exact eqo31 _ _ rfl _ _ _ rfl rfl _
            case o37 =>
              refine FlowOp2.plain rfl fun a1 w1 cx => ?_
              obtain ⟨v138, s138, p138⟩ := cx.slot 30 138 (by kernel_rfl)
              replace p138 : v138 = .bool true := p138
              subst p138
              obtain ⟨v144, s144, p144⟩ := cx.slot 36 144 (by kernel_rfl)
              replace p144 : v144 = .bool true := p144
              subst p144
              refine ⟨(wanted_none rfl), fun K hK => ?_⟩
              exact wp_picked _ _ _ rfl true (ev_tmp s138) (.bool true) (ev_tmp s144) (hK.out _ _ rfl (Below.refl _ _) (no_block rfl))
            case o38 =>
              refine FlowOp2.plain rfl fun a1 w1 cx => ?_
              obtain ⟨v145, s145, p145⟩ := cx.slot 37 145 (by kernel_rfl)
              replace p145 : v145 = .bool true := p145
              subst p145
              refine ⟨(wanted_none rfl), fun K hK => ?_⟩
              exact wp_moved _ rfl _ (ev_tmp s145) (hK.out _ _ rfl (Below.refl _ _) (no_block rfl))
            case o39 =>
              refine FlowOp2.plain rfl fun a1 w1 cx => ?_
              obtain ⟨v146, s146, p146⟩ := cx.slot 38 146 (by kernel_rfl)
              replace p146 : v146 = .bool true := p146
              subst p146
              have s8 := cx.keep 8 _ (by kernel_rfl) s8
              have k8 := below_at k8 cx.below
              refine ⟨(wanted_yes rfl rfl s146), fun K hK => ?_⟩
              exact wp_loaded _ _ rfl g8 (ev_tmp s8) _ _ _ _ k8 Try.underlying32 rfl (by kernel_rfl) (hK.out _ _ rfl (Below.refl _ _) (no_block rfl))
            case o40 =>
              refine FlowOp2.plain rfl fun a1 w1 cx => ?_
              obtain ⟨v146, s146, p146⟩ := cx.slot 38 146 (by kernel_rfl)
              replace p146 : v146 = .bool true := p146
              subst p146
              obtain ⟨v147, s147, p147⟩ := cx.slot 39 147 (by kernel_rfl)
              replace p147 : v147 = .agg (aggW M) := p147
              subst p147
              refine ⟨(wanted_yes rfl rfl s146), fun K hK => ?_⟩
              refine wp_gen_call [(147, .agg (aggW M))] ⟨s147, trivial⟩ (vs := #[.agg (aggW M)]) (f := 24) (by kernel_rfl) (fun w => by kernel_rfl) ?_
              refine (mem_w M _).mono ?_
              rintro e w2 ⟨rfl, hb⟩
              exact ⟨_, rfl, hK.out _ _ rfl hb (no_block rfl)⟩
            case o41 =>
              refine FlowOp2.plain rfl fun a1 w1 cx => ?_
              obtain ⟨v146, s146, p146⟩ := cx.slot 38 146 (by kernel_rfl)
              replace p146 : v146 = .bool true := p146
              subst p146
              have s15 := cx.keep 15 _ (by kernel_rfl) s15
              refine ⟨(wanted_yes rfl rfl s146), fun K hK => ?_⟩
              exact wp_moved _ rfl _ (ev_tmp s15) (hK.out _ _ rfl (Below.refl _ _) (no_block rfl))
            case o42 =>
              refine FlowOp2.plain rfl fun a1 w1 cx => ?_
              obtain ⟨v146, s146, p146⟩ := cx.slot 38 146 (by kernel_rfl)
              replace p146 : v146 = .bool true := p146
              subst p146
              obtain ⟨v149, s149, p149⟩ := cx.slot 41 149 (by kernel_rfl)
              replace p149 : v149 = .slice a15 (mems (wd M) 256).length c15 := p149
              subst p149
              refine ⟨(wanted_yes rfl rfl s146), fun K hK => ?_⟩
              refine wp_gen [(149, .slice a15 (mems (wd M) 256).length c15)] ⟨s149, trivial⟩ (by kernel_rfl) (v := .string (memS M)) (w' := w1) ?_ (hK.out _ _ rfl (Below.refl _ _) (no_block rfl))
              exact cv_a _ 149 rfl _ (owns_conv ho w1 cx.below)
            case o43 =>
              refine FlowOp2.plain rfl fun a1 w1 cx => ?_
              obtain ⟨v146, s146, p146⟩ := cx.slot 38 146 (by kernel_rfl)
              replace p146 : v146 = .bool true := p146
              subst p146
              obtain ⟨v148, s148, p148⟩ := cx.slot 40 148 (by kernel_rfl)
              replace p148 : v148 = .string (memS M) := p148
              subst p148
              obtain ⟨v150, s150, p150⟩ := cx.slot 42 150 (by kernel_rfl)
              replace p150 : v150 = .string (memS M) := p150
              subst p150
              refine ⟨(wanted_yes rfl rfl s146), fun K hK => ?_⟩
              refine wp_gen [(148, .string (memS M)), (150, .string (memS M))] ⟨s148, s150, trivial⟩ (by kernel_rfl) (v := .bool true) (w' := w1) ?_ (hK.out _ _ rfl (Below.refl _ _) (no_block rfl))
              exact str_eq _ _ _ _ rfl rfl _
            case o44 =>
              refine FlowOp2.plain rfl fun a1 w1 cx => ?_
              obtain ⟨v146, s146, p146⟩ := cx.slot 38 146 (by kernel_rfl)
              replace p146 : v146 = .bool true := p146
              subst p146
              obtain ⟨v151, s151, p151⟩ := cx.slot 43 151 (by kernel_rfl)
              replace p151 : v151 = .bool true := p151
              subst p151
              refine ⟨(wanted_none rfl), fun K hK => ?_⟩
              exact wp_picked _ _ _ rfl true (ev_tmp s146) (.bool true) (ev_tmp s151) (hK.out _ _ rfl (Below.refl _ _) (no_block rfl))
            case o45 =>
              refine FlowOp2.plain rfl fun a1 w1 cx => ?_
              obtain ⟨v152, s152, p152⟩ := cx.slot 44 152 (by kernel_rfl)
              replace p152 : v152 = .bool true := p152
              subst p152
              refine ⟨(wanted_none rfl), fun K hK => ?_⟩
              exact wp_assigned _ rfl _ (ev_tmp s152) (hK.out _ _ rfl (Below.refl _ _) (no_block rfl))
            case hdone =>
              intro a1 w1 hb1 hz1 hd1 hk1 hg1
              obtain ⟨v6, s6, p6⟩ := got_slot hg1 45 6 (by kernel_rfl)
              replace p6 : v6 = .bool true := p6
              subst p6
              replace hbw := hbw.trans (hb1.mono hbw.size)
              replace hd := hd1.trans hd
              replace HC := HC.out a1 w1
              refine HC ?_
              clear HC
              refine wp_ret ?_
              refine bodyPost_ret (v := .bool true) (by simp [results, Try.results4, s6]) hd ⟨rfl, hbw⟩
end Go.Proofs.Ytgfgkhgohoaneaa.Sf
