/-
  A Running in its block: what it holds, how it is made and asked. Conditions: the block holds one.
-/
import Derived.Test.YtdhfkdopcphjlabRk
import Derived.Test.YtdhfkdopcphjlabCt
import Derived.Test.YtdhfkdopcphjlabBt
import Derived.Test.YtdhfkdopcphjlabGa
import Derived.Test.YtdhfkdopcphjlabPa
import Derived.Deep.LoopGhost
namespace Go.Proofs.Ytdhfkdopcphjlab
open Go.RowKit
/-- The five cells of a Running. -/
def rc (n : Int) (m s l g : Nat) : Array Value := #[.int .i64 n, .float .f64 m, .float .f64 s, .float .f64 l, .float .f64 g]
/-- Block b holds this Running. -/
def RnB (w : World) (b : Nat) (n : Int) (m s l g : Nat) : Prop := w.heap[b]? = some (.cells (rc n m s l g) 95 (0, 0))
theorem RnB.lt {w : World} {b : Nat} {n : Int} {m s l g : Nat} (h : RnB w b n m s l g) : b < w.heap.size := (Array.getElem?_eq_some_iff.1 h).1
theorem RnB.below {w w' : World} {b : Nat} {n : Int} {m s l g : Nat} (h : RnB w b n m s l g) (hb : Below w.heap.size w w') : RnB w' b n m s l g := (hb.block b h.lt).trans h
theorem RnB.kept {w w' : World} {b c : Nat} {n : Int} {m s l g : Nat} (h : RnB w b n m s l g) (hg : w.grownBy w' (some c)) (hc : b ≠ c) : RnB w' b n m s l g :=
  (hg.block b h.lt (fun e => hc (by cases e; rfl))).trans h
theorem RnB.c0 {w : World} {b : Nat} {n : Int} {m s l g : Nat} (h : RnB w b n m s l g) : w.cell? ⟨b, 0, none⟩ = some (.int .i64 n) := cell_of_row w b 0 _ _ _ h
theorem RnB.c1 {w : World} {b : Nat} {n : Int} {m s l g : Nat} (h : RnB w b n m s l g) : w.cell? ⟨b, 1, none⟩ = some (.float .f64 m) := cell_of_row w b 1 _ _ _ h
theorem RnB.c2 {w : World} {b : Nat} {n : Int} {m s l g : Nat} (h : RnB w b n m s l g) : w.cell? ⟨b, 2, none⟩ = some (.float .f64 s) := cell_of_row w b 2 _ _ _ h
theorem RnB.c3 {w : World} {b : Nat} {n : Int} {m s l g : Nat} (h : RnB w b n m s l g) : w.cell? ⟨b, 3, none⟩ = some (.float .f64 l) := cell_of_row w b 3 _ _ _ h
theorem RnB.c4 {w : World} {b : Nat} {n : Int} {m s l g : Nat} (h : RnB w b n m s l g) : w.cell? ⟨b, 4, none⟩ = some (.float .f64 g) := cell_of_row w b 4 _ _ _ h
theorem info95 : (Try.prog.info? 95).map (fun i => (i.zero, i.size)) = some (some (.agg (rc 0 0 0 0 0)), 5) := by kernel_rfl
theorem run_lf22 {w : World} {g o b : Nat} (h : w.cell? ⟨g, o, none⟩ = some (.float .f64 b)) : (loadVar 22 ⟨g, o, none⟩).run Try.prog w = .ok (.float .f64 b) w := by
  simp [loadVar, go_sem, run_underlying Try.underlying22, isAgg, h]
theorem run_li3 {w : World} {g o : Nat} {b : Int} (h : w.cell? ⟨g, o, none⟩ = some (.int .i64 b)) : (loadVar 3 ⟨g, o, none⟩).run Try.prog w = .ok (.int .i64 b) w := by
  simp [loadVar, go_sem, run_underlying Try.underlying3, isAgg, h]
theorem run_fl {w : World} {l : List (Nat × Value)} {o : Oper} {op : BinOp} {t t' : TypeId} {a b : Operand} (ho : o.op = .binOp op t a b t') (hop : isAr op = true) {k : FloatKind} {p q : Nat} (ha : rho l a = .float k p) (hb : rho l b = .float k q) : ∃ r w', (execOp (rho l) o).run Try.prog w = .ok (.value (.float k r)) w' ∧ Fr k r (floatBits op k p q) ∧ Alike w w' := by
  obtain ⟨r, w', h1, h2, h3⟩ := run_flt (P := Try.prog) op t k p q w hop
  have he : (eqGuard op t a b (.float k p) (.float k q)).run Try.prog w = .ok () w := by cases op <;> first | rfl | (exact absurd hop (by decide))
  refine ⟨r, w', ?_, h2, h3⟩
  unfold execOp
  simp only [ho, ha, hb, Sem.run_bind, Sem.run_pure, Result.andThen_ok, he, h1]
theorem wp_fl {Q : Exit → Act → World → Prop} {o : Oper} {a : Act} {w : World} {K : Act → World → Prop} {op : BinOp} {t t' : TypeId} {x y : Operand} {k : FloatKind} {p q : Nat} (l : List (Nat × Value)) (hl : AllIn a l) (hc : covers o l = true) (ho : o.op = .binOp op t x y t') (hop : isAr op = true) (hx : rho l x = .float k p) (hy : rho l y = .float k q)
    (h : ∀ r w', Fr k r (floatBits op k p q) → Alike w w' → K (a.put o.dst (.float k r)) w') : o.wp Try.prog a w K Q := by
  obtain ⟨r, w', h1, h2, h3⟩ := run_fl (w := w) ho hop hx hy
  exact wp_gen l hl hc h1 (h r w' h2 h3)
theorem run_cv {w : World} {l : List (Nat × Value)} {o : Oper} {x : Operand} (ho : o.op = .convert 3 22 x) {n : Int} (hx : rho l x = .int .i64 n) : (execOp (rho l) o).run Try.prog w = .ok (.value (.float .f64 (floatOfInt .f64 n))) w := by
  unfold execOp
  simp only [ho, hx]
  kernel_rfl
theorem run_stf {P : Program} {w : World} (a : Addr) (m : Mode) (k : FloatKind) (b : Nat) : (store a (.float k b) m).run P w = stored P w a (.float k b) m := run_store P w a _ m rfl
attribute [local go_sem] run_stf
theorem run_sf {P : Program} {w : World} {g i : Nat} {cs : Array Value} {tt ty : TypeId} {k : FloatKind} {n : Nat} (hg : w.heap[g]? = some (.cells cs tt (0, 0))) (hi : i < cs.size) (hs : (sizeOf ty).run P w = .ok 1 w) : (storeVar ty ⟨g, i, none⟩ (.float k n)).run P w = .ok () (w.setCell ⟨g, i, none⟩ (.float k n)) := by
  have hc : w.cell? ⟨g, i, none⟩ = some cs[i] := by rw [cell_of_row w g i cs tt _ hg]; simp [hi]
  simp [storeVar, hs, storeCells, hc, go_sem]
  simp [World.frozen?, hg]
theorem wp_st {Q : Exit → Act → World → Prop} {o : Oper} {a : Act} {w : World} {K : Act → World → Prop} {x y : Operand} {b i r : Nat} {cs : Array Value} (l : List (Nat × Value)) (hl : AllIn a l) (hc : covers o l = true) (hd : o.dst = none) (ho : o.op = .store 22 x y) (hx : rho l x = .pointer (some ⟨b, i, none⟩)) (hy : rho l y = .float .f64 r)
    (hg : w.heap[b]? = some (.cells cs 95 (0, 0))) (hi : i < cs.size) (h : K a (w.setCell ⟨b, i, none⟩ (.float .f64 r))) : o.wp Try.prog a w K Q := by
  have hr := run_sf (P := Try.prog) (k := .f64) (n := r) hg hi (ty := 22) (by kernel_rfl)
  unfold Oper.wp
  rw [exec_rho l hl hc]
  unfold execOp
  simp only [ho, hx, hy, Instr.storeAt, Instr.sureAddr, Sem.run_bind, Sem.run_pure, Result.andThen_ok, hr, Oper.upon]
  rw [hd]
  exact h
/-- Only block b is written; what it holds hangs on which operations have come up. -/
structure Wr (b : Nat) (w0 : World) (C : (Nat → Bool) → Array Value → Prop) (s : Nat → Bool) (w : World) : Prop where
  grow : w0.grownBy w (some b)
  at_ : ∃ cs, C s cs ∧ w.heap[b]? = some (.cells cs 95 (0, 0))
theorem grow_below {w0 w w' : World} {b : Nat} (h : w0.grownBy w (some b)) (hb : Below w.heap.size w w') : w0.grownBy w' (some b) :=
  ⟨hb.os.trans h.os, hb.tape.trans h.tape, hb.output.trans h.output, Nat.le_trans h.size hb.size, fun k hk hne => (hb.block k (Nat.lt_of_lt_of_le hk h.size)).trans (h.block k hk hne)⟩
theorem grow_refl (w : World) (b : Nat) : w.grownBy w (some b) := ⟨rfl, rfl, rfl, Nat.le_refl _, fun _ _ _ => rfl⟩
theorem grow_trans {a b c : World} {k : Nat} (h : a.grownBy b (some k)) (g : b.grownBy c (some k)) : a.grownBy c (some k) :=
  ⟨g.os.trans h.os, g.tape.trans h.tape, g.output.trans h.output, Nat.le_trans h.size g.size, fun j hj hne => (g.block j (Nat.lt_of_lt_of_le hj h.size) hne).trans (h.block j hj hne)⟩
theorem grow_set (w : World) (b i : Nat) (v : Value) : w.grownBy (w.setCell ⟨b, i, none⟩ v) (some b) :=
  ⟨rfl, rfl, rfl, by simp, fun k hk hne => by
    have : k ≠ b := fun e => hne (by rw [e])
    simp [World.setCell, Array.getElem?_modify, Ne.symm this]⟩
theorem Wr.steady {b : Nat} {w0 : World} {C : (Nat → Bool) → Array Value → Prop} (i : Nat) (h : ∀ s cs, s i = false → C s cs → C (mark s i) cs) : ∀ s w w', s i = false → Wr b w0 C s w → Below w.heap.size w w' → Wr b w0 C (mark s i) w' := fun s w w' hs hw hb => by
  obtain ⟨cs, h1, h2⟩ := hw.at_
  exact ⟨grow_below hw.grow hb, cs, h s cs hs h1, below_at h2 hb⟩
theorem Wr.start {b : Nat} {w0 : World} {C : (Nat → Bool) → Array Value → Prop} (cs : Array Value) (h : w0.heap[b]? = some (.cells cs 95 (0, 0))) (hC : ∀ s, (∀ j, s j = false) → C s cs) : ∀ w1, Below w0.heap.size w0 w1 → w1.heap.size = w0.heap.size → ∀ s : Nat → Bool, (∀ j, s j = false) → Wr b w0 C s w1 := fun _ hb _ s hs =>
  ⟨grow_below (grow_refl w0 b) hb, cs, hC s hs, below_at h hb⟩
theorem Wr.set {b i r : Nat} {w0 w : World} {C : (Nat → Bool) → Array Value → Prop} {s s' : Nat → Bool} {cs : Array Value} (h : Wr b w0 C s w) (hat : w.heap[b]? = some (.cells cs 95 (0, 0))) (hC : C s' (cs.setIfInBounds i (.float .f64 r))) : Wr b w0 C s' (w.setCell ⟨b, i, none⟩ (.float .f64 r)) :=
  ⟨grow_trans h.grow (grow_set w b i _), _, hC, set_at _ hat⟩
set_option maxRecDepth 100000 in
theorem rnew_any (w : World) : Calls Try.prog 42 #[] w fun e w' => e = .returned (.pointer (some ⟨w.heap.size, 0, none⟩)) ∧ RnB w' w.heap.size 0 0 0 0 0 ∧ Below w.heap.size w w' := by
  obtain ⟨hz, hi⟩ := zero_of_info info95
  clear hi
  have E0 : Hid (RnB (w.alloc (.cells (rc 0 0 0 0 0) 95)) w.heap.size 0 0 0 0 0) := heap_alloc_last _ _
  have B0 : Hid (Below w.heap.size w (w.alloc (.cells (rc 0 0 0 0 0) 95))) := (Below.refl _ _).alloc (Nat.le_refl _) _
  generalize rc 0 0 0 0 0 = R at *
  go_enter Try.func42, Try.ntmps42
  go_wp2
  go_ret
  exact ⟨rfl, E0.out, B0.out⟩
set_option maxRecDepth 100000 in
theorem mean_r (b : Nat) (n : Int) (m s l g : Nat) (w : World) (h : RnB w b n m s l g) : Calls Try.prog 44 #[.pointer (some ⟨b, 0, none⟩)] w fun e w' => e = .returned (.float .f64 m) ∧ Below w.heap.size w w' := by
  have h1 := h.c1
  clear h
  go_enter Try.func44, Try.ntmps44
  go_wp2
  go_ret
  exact ⟨rfl, Below.refl _ _⟩
set_option maxRecDepth 100000 in
theorem mean_rn (w : World) : Calls Try.prog 44 #[.pointer none] w fun e w' => e = .returned (.float .f64 0) ∧ Below w.heap.size w w' := by
  go_enter Try.func44, Try.ntmps44
  go_wp2
  go_ret
  exact ⟨rfl, Below.refl _ _⟩
set_option maxRecDepth 100000 in
theorem var_rn (w : World) : Calls Try.prog 45 #[.pointer none] w fun e w' => e = .returned (.float .f64 0) ∧ Below w.heap.size w w' := by
  go_enter Try.func45, Try.ntmps45
  go_wp2
  go_ret
  exact ⟨rfl, Below.refl _ _⟩
set_option maxRecDepth 100000 in
theorem least_rn (w : World) : Calls Try.prog 46 #[.pointer none] w fun e w' => e = .returned (.tuple #[.float .f64 0, .bool false]) ∧ Below w.heap.size w w' := by
  go_enter Try.func46, Try.ntmps46
  go_wp2
  go_ret2
  exact ⟨rfl, Below.refl _ _⟩
set_option maxRecDepth 100000 in
theorem add_rn (x : Nat) (w : World) : Calls Try.prog 43 #[.pointer none, .float .f64 x] w fun e w' => e = .returned (.int .i64 50) ∧ Below w.heap.size w w' := by
  go_enter Try.func43, Try.ntmps43
  go_wp2
  go_ret
  exact ⟨rfl, Below.refl _ _⟩
set_option maxRecDepth 100000 in
theorem least_r (b : Nat) (n m s l g : Nat) (w : World) (h : RnB w b n m s l g) : Calls Try.prog 46 #[.pointer (some ⟨b, 0, none⟩)] w fun e w' => e = .returned (.tuple #[.float .f64 (if n = 0 then 0 else l), .bool (decide (0 < n))]) ∧ Below w.heap.size w w' := by
  have h0 := h.c0
  have h3 := h.c3
  clear h
  by_cases hn : n = 0
  · subst hn
    go_enter Try.func46, Try.ntmps46
    go_wp2
    go_ret2
    exact ⟨rfl, Below.refl _ _⟩
  · have hn2 : (((n : Nat) : Int) == 0) = false := by simp; omega
    rw [if_neg hn, decide_eq_true (by omega : 0 < n)]
    clear hn
    go_enter Try.func46, Try.ntmps46
    go_wp2
    go_ret2
    exact ⟨rfl, Below.refl _ _⟩
set_option maxRecDepth 100000 in
theorem great_r (b : Nat) (n m s l g : Nat) (w : World) (h : RnB w b n m s l g) : Calls Try.prog 82 #[.pointer (some ⟨b, 0, none⟩)] w fun e w' => e = .returned (.tuple #[.float .f64 (if n = 0 then 0 else g), .bool (decide (0 < n))]) ∧ Below w.heap.size w w' := by
  have h0 := h.c0
  have h3 := h.c4
  clear h
  by_cases hn : n = 0
  · subst hn
    go_enter Try.func82, Try.ntmps82
    go_wp2
    go_ret2
    exact ⟨rfl, Below.refl _ _⟩
  · have hn2 : (((n : Nat) : Int) == 0) = false := by simp; omega
    rw [if_neg hn, decide_eq_true (by omega : 0 < n)]
    clear hn
    go_enter Try.func82, Try.ntmps82
    go_wp2
    go_ret2
    exact ⟨rfl, Below.refl _ _⟩
noncomputable def body45 : Code := Try.f45.body.getD .skip
def V45 (b n s : Nat) (S : Option Nat) : (Nat → Bool) → Nat → Value → World → Prop := fun _ j v _ => match j with
  | 0 => v = .pointer (some ⟨b, 0, none⟩)
  | 1 => v = .pointer (some ⟨b, 0, none⟩)
  | 2 => v = .pointer (some ⟨b, 2, none⟩)
  | 3 => v = .float .f64 s
  | 4 => v = .pointer (some ⟨b, 0, none⟩)
  | 5 => v = .pointer (some ⟨b, 0, none⟩)
  | 6 => v = .pointer (some ⟨b, 0, none⟩)
  | 7 => v = .int .i64 (n : Int)
  | 8 => v = .float .f64 (floatOfInt .f64 (n : Int))
  | 9 => ∃ r, v = .float .f64 r ∧ Is r (fop .quo (S) (inj (floatOfInt .f64 (n : Int))))
  | 10 => ∃ r, v = .float .f64 r ∧ Is r (fop .quo (S) (inj (floatOfInt .f64 (n : Int))))
  | _ => True
theorem v45_calm (b n s : Nat) (S : Option Nat) (w0 : World) (i : Nat) : Calm (grown w0) (V45 b n s S) i := ⟨fun s w w' hs h hb => grown_steady w0 i s w w' hs h hb, fun _ _ _ _ _ _ _ h _ => h⟩
set_option maxRecDepth 100000 in
set_option maxHeartbeats 1000000 in
theorem var_3 {Q : Exit → Act → World → Prop} (b n m s l g : Nat) (S : Option Nat) (a : Act) (w0 : World) (hR : Hid (RnB w0 b n m s l g)) (hS : Hid (Is s S))
    (hK : Hid (∀ a w2 r, Below w0.heap.size w0 w2 → Is r (fop .quo S (inj (floatOfInt .f64 n))) → At 22 [(2, .float .f64 r)] a → Code.wp Try.prog (sq 3 body45) Q a w2)) (ha : At 22 [(0, .pointer (some ⟨b, 0, none⟩))] a) : Code.wp Try.prog (sq 2 body45) Q a w0 := by
  obtain ⟨f, rfl, h0, -⟩ := ha.lit
  change Code.wp _ _ _ ⟨#[f 0, f 1, f 2, f 3, f 4, f 5, f 6, f 7, f 8, f 9, f 10, f 11, f 12, f 13, f 14, f 15, f 16, f 17, f 18, f 19, f 20, f 21], []⟩ _
  simp only at h0
  simp only [h0]
  clear h0
  change Code.wp _ (Code.seq (hd (sq 2 body45)) (sq 3 body45)) _ _ _
  generalize sq 3 body45 = REST at hK ⊢
  conv => arg 2; arg 1; whnf
  refine wp_seq ?_
  refine wp_region_turn (grown w0) (V45 b n s S) 22 rfl (by kernel_rfl) (by kernel_rfl) (grown_start w0) ⟨?o0, ?o1, ?o2, ?o3, ?o4, ?o5, ?o6, ?o7, ?o8, ?o9, ?o10, trivial⟩ ?hdone
  case o0 => exact FlowOp4.plain (v45_calm _ _ _ _ _ 0) fun a4 w4 s4 cx => ⟨wanted_none rfl, fun K hK => by
    have e0 := cx.keep 0 (.pointer (some ⟨b, 0, none⟩)) (by kernel_rfl) rfl
    exact wp_gen [(0, .pointer (some ⟨b, 0, none⟩))] ⟨e0, trivial⟩ (by kernel_rfl) (by kernel_rfl) (hK.out _ w4 (show V45 b n s S _ 0 _ _ from rfl) (Below.refl _ _))⟩
  case o1 => exact FlowOp4.plain (v45_calm _ _ _ _ _ 1) fun a4 w4 s4 cx => ⟨wanted_none rfl, fun K hK => by
    obtain ⟨v0, e0, r0⟩ := cx.slot 0 12 (by kernel_rfl)
    obtain rfl : v0 = .pointer (some ⟨b, 0, none⟩) := r0
    exact wp_gen [(12, .pointer (some ⟨b, 0, none⟩))] ⟨e0, trivial⟩ (by kernel_rfl) (by kernel_rfl) (hK.out _ w4 (show V45 b n s S _ 1 _ _ from rfl) (Below.refl _ _))⟩
  case o2 => exact FlowOp4.plain (v45_calm _ _ _ _ _ 2) fun a4 w4 s4 cx => ⟨wanted_none rfl, fun K hK => by
    obtain ⟨v0, e0, r0⟩ := cx.slot 1 13 (by kernel_rfl)
    obtain rfl : v0 = .pointer (some ⟨b, 0, none⟩) := r0
    exact wp_gen [(13, .pointer (some ⟨b, 0, none⟩))] ⟨e0, trivial⟩ (by kernel_rfl) (by kernel_rfl) (hK.out _ w4 (show V45 b n s S _ 2 _ _ from rfl) (Below.refl _ _))⟩
  case o3 => exact FlowOp4.plain (v45_calm _ _ _ _ _ 3) fun a4 w4 s4 cx => ⟨wanted_none rfl, fun K hK => by
    obtain ⟨v0, e0, r0⟩ := cx.slot 2 14 (by kernel_rfl)
    obtain rfl : v0 = .pointer (some ⟨b, 2, none⟩) := r0
    exact wp_gen [(14, .pointer (some ⟨b, 2, none⟩))] ⟨e0, trivial⟩ (by kernel_rfl) (run_read rfl rfl (run_lf22 (RnB.c2 (hR.out.below cx.ground)))) (hK.out _ w4 (show V45 b n s S _ 3 _ _ from rfl) (Below.refl _ _))⟩
  case o4 => exact FlowOp4.plain (v45_calm _ _ _ _ _ 4) fun a4 w4 s4 cx => ⟨wanted_none rfl, fun K hK => by
    have e0 := cx.keep 0 (.pointer (some ⟨b, 0, none⟩)) (by kernel_rfl) rfl
    exact wp_gen [(0, .pointer (some ⟨b, 0, none⟩))] ⟨e0, trivial⟩ (by kernel_rfl) (by kernel_rfl) (hK.out _ w4 (show V45 b n s S _ 4 _ _ from rfl) (Below.refl _ _))⟩
  case o5 => exact FlowOp4.plain (v45_calm _ _ _ _ _ 5) fun a4 w4 s4 cx => ⟨wanted_none rfl, fun K hK => by
    obtain ⟨v0, e0, r0⟩ := cx.slot 4 16 (by kernel_rfl)
    obtain rfl : v0 = .pointer (some ⟨b, 0, none⟩) := r0
    exact wp_gen [(16, .pointer (some ⟨b, 0, none⟩))] ⟨e0, trivial⟩ (by kernel_rfl) (by kernel_rfl) (hK.out _ w4 (show V45 b n s S _ 5 _ _ from rfl) (Below.refl _ _))⟩
  case o6 => exact FlowOp4.plain (v45_calm _ _ _ _ _ 6) fun a4 w4 s4 cx => ⟨wanted_none rfl, fun K hK => by
    obtain ⟨v0, e0, r0⟩ := cx.slot 5 17 (by kernel_rfl)
    obtain rfl : v0 = .pointer (some ⟨b, 0, none⟩) := r0
    exact wp_gen [(17, .pointer (some ⟨b, 0, none⟩))] ⟨e0, trivial⟩ (by kernel_rfl) (by kernel_rfl) (hK.out _ w4 (show V45 b n s S _ 6 _ _ from rfl) (Below.refl _ _))⟩
  case o7 => exact FlowOp4.plain (v45_calm _ _ _ _ _ 7) fun a4 w4 s4 cx => ⟨wanted_none rfl, fun K hK => by
    obtain ⟨v0, e0, r0⟩ := cx.slot 6 18 (by kernel_rfl)
    obtain rfl : v0 = .pointer (some ⟨b, 0, none⟩) := r0
    exact wp_gen [(18, .pointer (some ⟨b, 0, none⟩))] ⟨e0, trivial⟩ (by kernel_rfl) (run_read rfl rfl (run_li3 (RnB.c0 (hR.out.below cx.ground)))) (hK.out _ w4 (show V45 b n s S _ 7 _ _ from rfl) (Below.refl _ _))⟩
  case o8 => exact FlowOp4.plain (v45_calm _ _ _ _ _ 8) fun a4 w4 s4 cx => ⟨wanted_none rfl, fun K hK => by
    obtain ⟨v0, e0, r0⟩ := cx.slot 7 19 (by kernel_rfl)
    obtain rfl : v0 = .int .i64 (n : Int) := r0
    exact wp_gen [(19, .int .i64 (n : Int))] ⟨e0, trivial⟩ (by kernel_rfl) (run_cv rfl rfl) (hK.out _ w4 (show V45 b n s S _ 8 _ _ from rfl) (Below.refl _ _))⟩
  case o9 => exact FlowOp4.plain (v45_calm _ _ _ _ _ 9) fun a4 w4 s4 cx => ⟨wanted_none rfl, fun K hK => by
    obtain ⟨v0, e0, r0⟩ := cx.slot 3 15 (by kernel_rfl)
    obtain rfl : v0 = .float .f64 s := r0
    obtain ⟨v1, e1, r1⟩ := cx.slot 8 20 (by kernel_rfl)
    obtain rfl : v1 = .float .f64 (floatOfInt .f64 (n : Int)) := r1
    exact wp_fl [(15, .float .f64 s), (20, .float .f64 (floatOfInt .f64 (n : Int)))] ⟨e0, e1, trivial⟩ (by kernel_rfl) rfl rfl rfl rfl fun r w' hf hal => hK.out _ w' ⟨r, rfl, (hS.out).op ((len_is (n : Int))) hf⟩ (hal.below _)⟩
  case o10 => exact FlowOp4.plain (v45_calm _ _ _ _ _ 10) fun a4 w4 s4 cx => ⟨wanted_none rfl, fun K hK => by
    obtain ⟨v0, e0, r0⟩ := cx.slot 9 21 (by kernel_rfl)
    obtain ⟨x0, rfl, i0⟩ : ∃ r, v0 = .float .f64 r ∧ Is r (fop .quo (S) (inj (floatOfInt .f64 (n : Int)))) := r0
    exact wp_gen [(21, .float .f64 x0)] ⟨e0, trivial⟩ (by kernel_rfl) (by kernel_rfl) (hK.out _ w4 ⟨_, rfl, i0⟩ (Below.refl _ _))⟩
  case hdone =>
    intro a w s hs hg hz hdf hk hgot
    obtain ⟨vt, et, rt⟩ := got_slot4 hgot 10 2 (by kernel_rfl)
    obtain ⟨q, rfl, iq⟩ : ∃ r, vt = .float .f64 r ∧ Is r (fop .quo (S) (inj (floatOfInt .f64 (n : Int)))) := rt
    exact hK.out a w q hg iq ⟨hz, hdf, et, trivial⟩
theorem mark_ne (s : Nat → Bool) (i j : Nat) (h : (j == i) = false) : mark s i j = s j := by simp at h; simp [mark, h]
theorem mark_eq (s : Nat → Bool) (i : Nat) : mark s i i = true := by simp [mark]
set_option maxRecDepth 100000 in
set_option maxHeartbeats 2000000 in
theorem var_r (b n m s l g : Nat) (S : Option Nat) (w : World) (h : RnB w b n m s l g) (hS : Is s S) (hn : 0 < n) : Calls Try.prog 45 #[.pointer (some ⟨b, 0, none⟩)] w fun e w' => ∃ r, e = .returned (.float .f64 r) ∧ Is r (fop .quo S (inj (floatOfInt .f64 n))) ∧ Below w.heap.size w w' := by
  have h0 := h.c0
  have hn2 : (((n : Nat) : Int) == 0) = false := by simp; omega
  have hK : Hid (∀ a w2 r, Below w.heap.size w w2 → Is r (fop .quo S (inj (floatOfInt .f64 n))) → At 22 [(2, .float .f64 r)] a → Code.wp Try.prog (sq 3 body45) (bodyPost Try.prog Try.f45 fun e w' => ∃ r, e = .returned (.float .f64 r) ∧ Is r (fop .quo S (inj (floatOfInt .f64 n))) ∧ Below w.heap.size w w') a w2) := by
    intro a w2 r B i ha
    replace i : Hid (Is r (fop .quo S (inj (floatOfInt .f64 n)))) := i
    replace B : Hid (Below w.heap.size w w2) := B
    clear h h0 hn2
    obtain ⟨f, rfl, h2, -⟩ := ha.lit
    change Code.wp _ _ _ ⟨#[f 0, f 1, f 2, f 3, f 4, f 5, f 6, f 7, f 8, f 9, f 10, f 11, f 12, f 13, f 14, f 15, f 16, f 17, f 18, f 19, f 20, f 21], []⟩ _
    simp only at h2
    simp only [h2]
    clear h2
    conv => arg 2; whnf
    go_wp2
    go_ret
    exact ⟨r, rfl, i.out, B.out⟩
  have hV : Hid (∀ a, At 22 [(0, .pointer (some ⟨b, 0, none⟩))] a → Code.wp Try.prog (sq 2 body45) (bodyPost Try.prog Try.f45 fun e w' => ∃ r, e = .returned (.float .f64 r) ∧ Is r (fop .quo S (inj (floatOfInt .f64 n))) ∧ Below w.heap.size w w') a w) := fun a ha => var_3 b n m s l g S a w h hS hK ha
  clear hK h hS hn
  go_enter Try.func45, Try.ntmps45
  change Code.wp _ (Code.seq (hd (sq 0 body45)) (Code.seq (hd (sq 1 body45)) (sq 2 body45))) _ _ _
  generalize sq 2 body45 = REST at hV ⊢
  conv => arg 2; arg 1; whnf
  conv => arg 2; arg 2; arg 1; whnf
  go_wp2_with fail
  exact hV.out _ ⟨rfl, rfl, rfl, trivial⟩
noncomputable def body43 : Code := Try.f43.body.getD .skip
def V435 (b x l g : Nat) : (Nat → Bool) → Nat → Value → World → Prop := fun _ j v _ => match j with
  | 0 => v = .pointer (some ⟨b, 0, none⟩)
  | 1 => v = .pointer (some ⟨b, 0, none⟩)
  | 2 => v = .pointer (some ⟨b, 0, none⟩)
  | 3 => v = .pointer (some ⟨b, 0, none⟩)
  | 4 => v = .pointer (some ⟨b, 3, none⟩)
  | 5 => v = .float .f64 l
  | 6 => v = .float .f64 x
  | 7 => v = .float .f64 (minB l x)
  | 8 => v = .pointer (some ⟨b, 0, none⟩)
  | 9 => v = .pointer (some ⟨b, 0, none⟩)
  | 10 => v = .pointer (some ⟨b, 4, none⟩)
  | 11 => v = .float .f64 g
  | 12 => v = .float .f64 x
  | 13 => v = .float .f64 (maxB g x)
  | 14 => v = .pointer (some ⟨b, 0, none⟩)
  | 15 => v = .pointer (some ⟨b, 3, none⟩)
  | 16 => True
  | 17 => v = .pointer (some ⟨b, 0, none⟩)
  | 18 => v = .pointer (some ⟨b, 4, none⟩)
  | 19 => True
  | _ => True
def C435 (n m s l g x : Nat) : (Nat → Bool) → Array Value → Prop := fun q cs => cs = rc n m s (if q 16 = true then minB l x else l) (if q 19 = true then maxB g x else g)
theorem v435_calm (b n m s l g x : Nat) (w0 : World) (i : Nat) (h1 : (16 == i) = false) (h2 : (19 == i) = false) : Calm (Wr b w0 (C435 n m s l g x)) (V435 b x l g) i :=
  ⟨Wr.steady i fun q cs _ h => by unfold C435 at *; rw [mark_ne q i 16 h1, mark_ne q i 19 h2]; exact h, fun _ _ _ _ _ _ _ h _ => h⟩
set_option maxRecDepth 100000 in
set_option maxHeartbeats 2000000 in
theorem add_5 {Q : Exit → Act → World → Prop} (b n m s l g x : Nat) (a : Act) (w0 : World) (hR : Hid (RnB w0 b n m s l g)) (hl : Hid (l < 18446744073709551616)) (hg : Hid (g < 18446744073709551616)) (hx : Hid (x < 18446744073709551616))
    (hK : Hid (∀ a w2, w0.grownBy w2 (some b) → RnB w2 b n m s (minB l x) (maxB g x) → At 88 [(0, .pointer (some ⟨b, 0, none⟩)), (1, .float .f64 x)] a → Code.wp Try.prog (sq 4 body43) Q a w2)) (ha : At 88 [(0, .pointer (some ⟨b, 0, none⟩)), (1, .float .f64 x)] a) : Code.wp Try.prog (sq 3 body43) Q a w0 := by
  obtain ⟨f, rfl, h0, h1, -⟩ := ha.lit
  change Code.wp _ _ _ ⟨#[f 0, f 1, f 2, f 3, f 4, f 5, f 6, f 7, f 8, f 9, f 10, f 11, f 12, f 13, f 14, f 15, f 16, f 17, f 18, f 19, f 20, f 21, f 22, f 23, f 24, f 25, f 26, f 27, f 28, f 29, f 30, f 31, f 32, f 33, f 34, f 35, f 36, f 37, f 38, f 39, f 40, f 41, f 42, f 43, f 44, f 45, f 46, f 47, f 48, f 49, f 50, f 51, f 52, f 53, f 54, f 55, f 56, f 57, f 58, f 59, f 60, f 61, f 62, f 63, f 64, f 65, f 66, f 67, f 68, f 69, f 70, f 71, f 72, f 73, f 74, f 75, f 76, f 77, f 78, f 79, f 80, f 81, f 82, f 83, f 84, f 85, f 86, f 87], []⟩ _
  simp only at h0 h1
  simp only [h0, h1]
  clear h0 h1
  change Code.wp _ (Code.seq (hd (sq 3 body43)) (sq 4 body43)) _ _ _
  generalize sq 4 body43 = REST at hK ⊢
  conv => arg 2; arg 1; whnf
  refine wp_seq ?_
  refine wp_region_turn (Wr b w0 (C435 n m s l g x)) (V435 b x l g) 88 rfl (by kernel_rfl) (by kernel_rfl) (Wr.start _ hR.out fun q hq => (show C435 n m s l g x _ _ from by unfold C435; rw [hq 16, hq 19]; rfl)) ⟨?o0, ?o1, ?o2, ?o3, ?o4, ?o5, ?o6, ?o7, ?o8, ?o9, ?o10, ?o11, ?o12, ?o13, ?o14, ?o15, ?o16, ?o17, ?o18, ?o19, trivial⟩ ?hdone
  case o0 => exact FlowOp4.plain (v435_calm _ _ _ _ _ _ _ _ 0 rfl rfl) fun a4 w4 s4 cx => ⟨wanted_none rfl, fun K hK => by
    have e0 := cx.keep 0 (.pointer (some ⟨b, 0, none⟩)) (by kernel_rfl) rfl
    exact wp_gen [(0, .pointer (some ⟨b, 0, none⟩))] ⟨e0, trivial⟩ (by kernel_rfl) (by kernel_rfl) (hK.out _ w4 (show V435 b x l g _ 0 _ _ from rfl) (Below.refl _ _))⟩
  case o1 => exact FlowOp4.plain (v435_calm _ _ _ _ _ _ _ _ 1 rfl rfl) fun a4 w4 s4 cx => ⟨wanted_none rfl, fun K hK => by
    have e0 := cx.keep 0 (.pointer (some ⟨b, 0, none⟩)) (by kernel_rfl) rfl
    exact wp_gen [(0, .pointer (some ⟨b, 0, none⟩))] ⟨e0, trivial⟩ (by kernel_rfl) (by kernel_rfl) (hK.out _ w4 (show V435 b x l g _ 1 _ _ from rfl) (Below.refl _ _))⟩
  case o2 => exact FlowOp4.plain (v435_calm _ _ _ _ _ _ _ _ 2 rfl rfl) fun a4 w4 s4 cx => ⟨wanted_none rfl, fun K hK => by
    have e0 := cx.keep 0 (.pointer (some ⟨b, 0, none⟩)) (by kernel_rfl) rfl
    exact wp_gen [(0, .pointer (some ⟨b, 0, none⟩))] ⟨e0, trivial⟩ (by kernel_rfl) (by kernel_rfl) (hK.out _ w4 (show V435 b x l g _ 2 _ _ from rfl) (Below.refl _ _))⟩
  case o3 => exact FlowOp4.plain (v435_calm _ _ _ _ _ _ _ _ 3 rfl rfl) fun a4 w4 s4 cx => ⟨wanted_none rfl, fun K hK => by
    obtain ⟨v0, e0, r0⟩ := cx.slot 2 30 (by kernel_rfl)
    obtain rfl : v0 = .pointer (some ⟨b, 0, none⟩) := r0
    exact wp_gen [(30, .pointer (some ⟨b, 0, none⟩))] ⟨e0, trivial⟩ (by kernel_rfl) (by kernel_rfl) (hK.out _ w4 (show V435 b x l g _ 3 _ _ from rfl) (Below.refl _ _))⟩
  case o4 => exact FlowOp4.plain (v435_calm _ _ _ _ _ _ _ _ 4 rfl rfl) fun a4 w4 s4 cx => ⟨wanted_none rfl, fun K hK => by
    obtain ⟨v0, e0, r0⟩ := cx.slot 3 31 (by kernel_rfl)
    obtain rfl : v0 = .pointer (some ⟨b, 0, none⟩) := r0
    exact wp_gen [(31, .pointer (some ⟨b, 0, none⟩))] ⟨e0, trivial⟩ (by kernel_rfl) (by kernel_rfl) (hK.out _ w4 (show V435 b x l g _ 4 _ _ from rfl) (Below.refl _ _))⟩
  case o5 => exact FlowOp4.plain (v435_calm _ _ _ _ _ _ _ _ 5 rfl rfl) fun a4 w4 s4 cx => ⟨wanted_none rfl, fun K hK => by
    obtain ⟨v0, e0, r0⟩ := cx.slot 4 32 (by kernel_rfl)
    obtain rfl : v0 = .pointer (some ⟨b, 3, none⟩) := r0
    have hn16 : s4 16 = false := by
      cases q : s4 16 with
      | false => rfl
      | true =>
        have q7 := cx.down 16 _ rfl q 7 (by kernel_rfl)
        have q5 := cx.down 7 _ rfl q7 5 (by kernel_rfl)
        rw [cx.new] at q5; cases q5
    obtain ⟨cs, hC, hat⟩ := cx.ground.at_
    obtain rfl : cs = rc n m s (if s4 16 = true then minB l x else l) (if s4 19 = true then maxB g x else g) := hC
    have hcl := RnB.c3 hat
    rw [hn16, if_neg (by decide)] at hcl
    exact wp_gen [(32, .pointer (some ⟨b, 3, none⟩))] ⟨e0, trivial⟩ (by kernel_rfl) (run_read rfl rfl (run_lf22 hcl)) (hK.out _ w4 (show V435 b x l g _ 5 _ _ from rfl) (Below.refl _ _))⟩
  case o6 => exact FlowOp4.plain (v435_calm _ _ _ _ _ _ _ _ 6 rfl rfl) fun a4 w4 s4 cx => ⟨wanted_none rfl, fun K hK => by
    have e0 := cx.keep 1 (.float .f64 x) (by kernel_rfl) rfl
    exact wp_gen [(1, .float .f64 x)] ⟨e0, trivial⟩ (by kernel_rfl) (by kernel_rfl) (hK.out _ w4 (show V435 b x l g _ 6 _ _ from rfl) (Below.refl _ _))⟩
  case o7 => exact FlowOp4.plain (v435_calm _ _ _ _ _ _ _ _ 7 rfl rfl) fun a4 w4 s4 cx => ⟨wanted_none rfl, fun K hK => by
    obtain ⟨v0, e0, r0⟩ := cx.slot 5 33 (by kernel_rfl)
    obtain rfl : v0 = .float .f64 l := r0
    obtain ⟨v1, e1, r1⟩ := cx.slot 6 34 (by kernel_rfl)
    obtain rfl : v1 = .float .f64 x := r1
    exact wp_gen_call [(33, .float .f64 l), (34, .float .f64 x)] ⟨e0, e1, trivial⟩ (by kernel_rfl) (fun _ => by kernel_rfl) ((min_any l x w4 hl.out hx.out).mono fun e w' h => ⟨_, h.1, hK.out _ w' (show V435 b x l g _ 7 _ _ from rfl) h.2⟩)⟩
  case o8 => exact FlowOp4.plain (v435_calm _ _ _ _ _ _ _ _ 8 rfl rfl) fun a4 w4 s4 cx => ⟨wanted_none rfl, fun K hK => by
    have e0 := cx.keep 0 (.pointer (some ⟨b, 0, none⟩)) (by kernel_rfl) rfl
    exact wp_gen [(0, .pointer (some ⟨b, 0, none⟩))] ⟨e0, trivial⟩ (by kernel_rfl) (by kernel_rfl) (hK.out _ w4 (show V435 b x l g _ 8 _ _ from rfl) (Below.refl _ _))⟩
  case o9 => exact FlowOp4.plain (v435_calm _ _ _ _ _ _ _ _ 9 rfl rfl) fun a4 w4 s4 cx => ⟨wanted_none rfl, fun K hK => by
    obtain ⟨v0, e0, r0⟩ := cx.slot 8 36 (by kernel_rfl)
    obtain rfl : v0 = .pointer (some ⟨b, 0, none⟩) := r0
    exact wp_gen [(36, .pointer (some ⟨b, 0, none⟩))] ⟨e0, trivial⟩ (by kernel_rfl) (by kernel_rfl) (hK.out _ w4 (show V435 b x l g _ 9 _ _ from rfl) (Below.refl _ _))⟩
  case o10 => exact FlowOp4.plain (v435_calm _ _ _ _ _ _ _ _ 10 rfl rfl) fun a4 w4 s4 cx => ⟨wanted_none rfl, fun K hK => by
    obtain ⟨v0, e0, r0⟩ := cx.slot 9 37 (by kernel_rfl)
    obtain rfl : v0 = .pointer (some ⟨b, 0, none⟩) := r0
    exact wp_gen [(37, .pointer (some ⟨b, 0, none⟩))] ⟨e0, trivial⟩ (by kernel_rfl) (by kernel_rfl) (hK.out _ w4 (show V435 b x l g _ 10 _ _ from rfl) (Below.refl _ _))⟩
  case o11 => exact FlowOp4.plain (v435_calm _ _ _ _ _ _ _ _ 11 rfl rfl) fun a4 w4 s4 cx => ⟨wanted_none rfl, fun K hK => by
    obtain ⟨v0, e0, r0⟩ := cx.slot 10 38 (by kernel_rfl)
    obtain rfl : v0 = .pointer (some ⟨b, 4, none⟩) := r0
    have hn19 : s4 19 = false := by
      cases q : s4 19 with
      | false => rfl
      | true =>
        have q13 := cx.down 19 _ rfl q 13 (by kernel_rfl)
        have q11 := cx.down 13 _ rfl q13 11 (by kernel_rfl)
        rw [cx.new] at q11; cases q11
    obtain ⟨cs, hC, hat⟩ := cx.ground.at_
    obtain rfl : cs = rc n m s (if s4 16 = true then minB l x else l) (if s4 19 = true then maxB g x else g) := hC
    have hcl := RnB.c4 hat
    rw [hn19, if_neg (by decide)] at hcl
    exact wp_gen [(38, .pointer (some ⟨b, 4, none⟩))] ⟨e0, trivial⟩ (by kernel_rfl) (run_read rfl rfl (run_lf22 hcl)) (hK.out _ w4 (show V435 b x l g _ 11 _ _ from rfl) (Below.refl _ _))⟩
  case o12 => exact FlowOp4.plain (v435_calm _ _ _ _ _ _ _ _ 12 rfl rfl) fun a4 w4 s4 cx => ⟨wanted_none rfl, fun K hK => by
    have e0 := cx.keep 1 (.float .f64 x) (by kernel_rfl) rfl
    exact wp_gen [(1, .float .f64 x)] ⟨e0, trivial⟩ (by kernel_rfl) (by kernel_rfl) (hK.out _ w4 (show V435 b x l g _ 12 _ _ from rfl) (Below.refl _ _))⟩
  case o13 => exact FlowOp4.plain (v435_calm _ _ _ _ _ _ _ _ 13 rfl rfl) fun a4 w4 s4 cx => ⟨wanted_none rfl, fun K hK => by
    obtain ⟨v0, e0, r0⟩ := cx.slot 11 39 (by kernel_rfl)
    obtain rfl : v0 = .float .f64 g := r0
    obtain ⟨v1, e1, r1⟩ := cx.slot 12 40 (by kernel_rfl)
    obtain rfl : v1 = .float .f64 x := r1
    exact wp_gen_call [(39, .float .f64 g), (40, .float .f64 x)] ⟨e0, e1, trivial⟩ (by kernel_rfl) (fun _ => by kernel_rfl) ((max_any g x w4 hg.out hx.out).mono fun e w' h => ⟨_, h.1, hK.out _ w' (show V435 b x l g _ 13 _ _ from rfl) h.2⟩)⟩
  case o14 => exact FlowOp4.plain (v435_calm _ _ _ _ _ _ _ _ 14 rfl rfl) fun a4 w4 s4 cx => ⟨wanted_none rfl, fun K hK => by
    obtain ⟨v0, e0, r0⟩ := cx.slot 0 28 (by kernel_rfl)
    obtain rfl : v0 = .pointer (some ⟨b, 0, none⟩) := r0
    exact wp_gen [(28, .pointer (some ⟨b, 0, none⟩))] ⟨e0, trivial⟩ (by kernel_rfl) (by kernel_rfl) (hK.out _ w4 (show V435 b x l g _ 14 _ _ from rfl) (Below.refl _ _))⟩
  case o15 => exact FlowOp4.plain (v435_calm _ _ _ _ _ _ _ _ 15 rfl rfl) fun a4 w4 s4 cx => ⟨wanted_none rfl, fun K hK => by
    obtain ⟨v0, e0, r0⟩ := cx.slot 14 42 (by kernel_rfl)
    obtain rfl : v0 = .pointer (some ⟨b, 0, none⟩) := r0
    exact wp_gen [(42, .pointer (some ⟨b, 0, none⟩))] ⟨e0, trivial⟩ (by kernel_rfl) (by kernel_rfl) (hK.out _ w4 (show V435 b x l g _ 15 _ _ from rfl) (Below.refl _ _))⟩
  case o16 => exact FlowOp4.turn fun a4 w4 s4 cx => ⟨wanted_none rfl, fun K hK => by
    obtain ⟨v0, e0, r0⟩ := cx.slot 15 43 (by kernel_rfl)
    obtain rfl : v0 = .pointer (some ⟨b, 3, none⟩) := r0
    obtain ⟨v1, e1, r1⟩ := cx.slot 7 35 (by kernel_rfl)
    obtain rfl : v1 = .float .f64 (minB l x) := r1
    obtain ⟨cs, hC, hat⟩ := cx.ground.at_
    obtain rfl : cs = rc n m s (if s4 16 = true then minB l x else l) (if s4 19 = true then maxB g x else g) := hC
    exact wp_st [(43, .pointer (some ⟨b, 3, none⟩)), (35, .float .f64 (minB l x))] ⟨e0, e1, trivial⟩ (by kernel_rfl) rfl rfl rfl rfl hat (show _ < 5 by decide) (hK.out undef _ (Wr.set cx.ground hat (show C435 n m s l g x _ _ from by unfold C435; rw [mark_eq s4 16, mark_ne s4 16 19 rfl, if_pos rfl]; rfl)) trivial fun j u _ hu => hu)⟩
  case o17 => exact FlowOp4.plain (v435_calm _ _ _ _ _ _ _ _ 17 rfl rfl) fun a4 w4 s4 cx => ⟨wanted_none rfl, fun K hK => by
    obtain ⟨v0, e0, r0⟩ := cx.slot 1 29 (by kernel_rfl)
    obtain rfl : v0 = .pointer (some ⟨b, 0, none⟩) := r0
    exact wp_gen [(29, .pointer (some ⟨b, 0, none⟩))] ⟨e0, trivial⟩ (by kernel_rfl) (by kernel_rfl) (hK.out _ w4 (show V435 b x l g _ 17 _ _ from rfl) (Below.refl _ _))⟩
  case o18 => exact FlowOp4.plain (v435_calm _ _ _ _ _ _ _ _ 18 rfl rfl) fun a4 w4 s4 cx => ⟨wanted_none rfl, fun K hK => by
    obtain ⟨v0, e0, r0⟩ := cx.slot 17 44 (by kernel_rfl)
    obtain rfl : v0 = .pointer (some ⟨b, 0, none⟩) := r0
    exact wp_gen [(44, .pointer (some ⟨b, 0, none⟩))] ⟨e0, trivial⟩ (by kernel_rfl) (by kernel_rfl) (hK.out _ w4 (show V435 b x l g _ 18 _ _ from rfl) (Below.refl _ _))⟩
  case o19 => exact FlowOp4.turn fun a4 w4 s4 cx => ⟨wanted_none rfl, fun K hK => by
    obtain ⟨v0, e0, r0⟩ := cx.slot 18 45 (by kernel_rfl)
    obtain rfl : v0 = .pointer (some ⟨b, 4, none⟩) := r0
    obtain ⟨v1, e1, r1⟩ := cx.slot 13 41 (by kernel_rfl)
    obtain rfl : v1 = .float .f64 (maxB g x) := r1
    obtain ⟨cs, hC, hat⟩ := cx.ground.at_
    obtain rfl : cs = rc n m s (if s4 16 = true then minB l x else l) (if s4 19 = true then maxB g x else g) := hC
    exact wp_st [(45, .pointer (some ⟨b, 4, none⟩)), (41, .float .f64 (maxB g x))] ⟨e0, e1, trivial⟩ (by kernel_rfl) rfl rfl rfl rfl hat (show _ < 5 by decide) (hK.out undef _ (Wr.set cx.ground hat (show C435 n m s l g x _ _ from by unfold C435; rw [mark_eq s4 19, mark_ne s4 19 16 rfl, if_pos rfl]; rfl)) trivial fun j u _ hu => hu)⟩
  case hdone =>
    intro a w q hs hw hz hdf hk hgot
    obtain ⟨cs, hC, hat⟩ := hw.at_
    unfold C435 at hC
    rw [hs 16 (by decide), hs 19 (by decide), if_pos rfl, if_pos rfl] at hC
    subst hC
    exact hK.out a w hw.grow hat ⟨hz, hdf, (hk 0 (by kernel_rfl)).trans rfl, (hk 1 (by kernel_rfl)).trans rfl, trivial⟩
def V438 (b n m d : Nat) (M D : Option Nat) : (Nat → Bool) → Nat → Value → World → Prop := fun _ j v _ => match j with
  | 0 => v = .pointer (some ⟨b, 0, none⟩)
  | 1 => v = .pointer (some ⟨b, 0, none⟩)
  | 2 => v = .pointer (some ⟨b, 1, none⟩)
  | 3 => v = .float .f64 m
  | 4 => v = .float .f64 d
  | 5 => v = .pointer (some ⟨b, 0, none⟩)
  | 6 => v = .pointer (some ⟨b, 0, none⟩)
  | 7 => v = .pointer (some ⟨b, 0, none⟩)
  | 8 => v = .int .i64 (n : Int)
  | 9 => v = .float .f64 (floatOfInt .f64 (n : Int))
  | 10 => ∃ r, v = .float .f64 r ∧ Is r (fop .quo (D) (inj (floatOfInt .f64 (n : Int))))
  | 11 => ∃ r, v = .float .f64 r ∧ Is r (fop .add (M) (fop .quo (D) (inj (floatOfInt .f64 (n : Int)))))
  | 12 => v = .pointer (some ⟨b, 0, none⟩)
  | 13 => v = .pointer (some ⟨b, 1, none⟩)
  | 14 => True
  | _ => True
def C438 (n m s l g : Nat) (O : Option Nat) : (Nat → Bool) → Array Value → Prop := fun q cs => ∃ m' : Nat, cs = rc n m' s l g ∧ (q 14 = false → m' = m) ∧ (q 14 = true → Is m' O)
theorem v438_calm (b n m d : Nat) (M D : Option Nat) (s l g : Nat) (O : Option Nat) (w0 : World) (i : Nat) (h1 : (14 == i) = false) : Calm (Wr b w0 (C438 n m s l g O)) (V438 b n m d M D) i :=
  ⟨Wr.steady i fun q cs _ h => by unfold C438 at *; rw [mark_ne q i 14 h1]; exact h, fun _ _ _ _ _ _ _ h _ => h⟩
theorem c438_set {n m s l g m' r : Nat} {O : Option Nat} (q : Nat → Bool) (h : Is r O) : C438 n m s l g O (mark q 14) ((rc n m' s l g).setIfInBounds 1 (.float .f64 r)) := ⟨r, rfl, fun k => (by rw [mark_eq] at k; cases k), fun _ => h⟩
set_option maxRecDepth 100000 in
set_option maxHeartbeats 2000000 in
theorem add_8 {Q : Exit → Act → World → Prop} (b n m s l g x d : Nat) (M D : Option Nat) (a : Act) (w0 : World) (hR : Hid (RnB w0 b n m s l g)) (hM : Hid (Is m M)) (hD : Hid (Is d D))
    (hK : Hid (∀ a w2 m', w0.grownBy w2 (some b) → RnB w2 b n m' s l g → Is m' (fop .add (M) (fop .quo (D) (inj (floatOfInt .f64 (n : Int))))) → At 88 [(0, .pointer (some ⟨b, 0, none⟩)), (1, .float .f64 x), (5, .float .f64 d)] a → Code.wp Try.prog (sq 7 body43) Q a w2)) (ha : At 88 [(0, .pointer (some ⟨b, 0, none⟩)), (1, .float .f64 x), (5, .float .f64 d)] a) : Code.wp Try.prog (sq 6 body43) Q a w0 := by
  obtain ⟨f, rfl, h0, h1, h5, -⟩ := ha.lit
  change Code.wp _ _ _ ⟨#[f 0, f 1, f 2, f 3, f 4, f 5, f 6, f 7, f 8, f 9, f 10, f 11, f 12, f 13, f 14, f 15, f 16, f 17, f 18, f 19, f 20, f 21, f 22, f 23, f 24, f 25, f 26, f 27, f 28, f 29, f 30, f 31, f 32, f 33, f 34, f 35, f 36, f 37, f 38, f 39, f 40, f 41, f 42, f 43, f 44, f 45, f 46, f 47, f 48, f 49, f 50, f 51, f 52, f 53, f 54, f 55, f 56, f 57, f 58, f 59, f 60, f 61, f 62, f 63, f 64, f 65, f 66, f 67, f 68, f 69, f 70, f 71, f 72, f 73, f 74, f 75, f 76, f 77, f 78, f 79, f 80, f 81, f 82, f 83, f 84, f 85, f 86, f 87], []⟩ _
  simp only at h0 h1 h5
  simp only [h0, h1, h5]
  clear h0 h1 h5
  change Code.wp _ (Code.seq (hd (sq 6 body43)) (sq 7 body43)) _ _ _
  generalize sq 7 body43 = REST at hK ⊢
  conv => arg 2; arg 1; whnf
  refine wp_seq ?_
  refine wp_region_turn (Wr b w0 (C438 n m s l g (fop .add (M) (fop .quo (D) (inj (floatOfInt .f64 (n : Int))))))) (V438 b n m d M D) 88 rfl (by kernel_rfl) (by kernel_rfl) (Wr.start _ hR.out fun q hq => ⟨m, rfl, fun _ => rfl, fun h => by rw [hq 14] at h; cases h⟩) ⟨?o0, ?o1, ?o2, ?o3, ?o4, ?o5, ?o6, ?o7, ?o8, ?o9, ?o10, ?o11, ?o12, ?o13, ?o14, trivial⟩ ?hdone
  case o0 => exact FlowOp4.plain (v438_calm _ _ _ _ _ _ _ _ _ _ _ 0 rfl) fun a4 w4 s4 cx => ⟨wanted_none rfl, fun K hK => by
    have e0 := cx.keep 0 (.pointer (some ⟨b, 0, none⟩)) (by kernel_rfl) rfl
    exact wp_gen [(0, .pointer (some ⟨b, 0, none⟩))] ⟨e0, trivial⟩ (by kernel_rfl) (by kernel_rfl) (hK.out _ w4 (show V438 b n m d M D _ 0 _ _ from rfl) (Below.refl _ _))⟩
  case o1 => exact FlowOp4.plain (v438_calm _ _ _ _ _ _ _ _ _ _ _ 1 rfl) fun a4 w4 s4 cx => ⟨wanted_none rfl, fun K hK => by
    obtain ⟨v0, e0, r0⟩ := cx.slot 0 59 (by kernel_rfl)
    obtain rfl : v0 = .pointer (some ⟨b, 0, none⟩) := r0
    exact wp_gen [(59, .pointer (some ⟨b, 0, none⟩))] ⟨e0, trivial⟩ (by kernel_rfl) (by kernel_rfl) (hK.out _ w4 (show V438 b n m d M D _ 1 _ _ from rfl) (Below.refl _ _))⟩
  case o2 => exact FlowOp4.plain (v438_calm _ _ _ _ _ _ _ _ _ _ _ 2 rfl) fun a4 w4 s4 cx => ⟨wanted_none rfl, fun K hK => by
    obtain ⟨v0, e0, r0⟩ := cx.slot 1 60 (by kernel_rfl)
    obtain rfl : v0 = .pointer (some ⟨b, 0, none⟩) := r0
    exact wp_gen [(60, .pointer (some ⟨b, 0, none⟩))] ⟨e0, trivial⟩ (by kernel_rfl) (by kernel_rfl) (hK.out _ w4 (show V438 b n m d M D _ 2 _ _ from rfl) (Below.refl _ _))⟩
  case o3 => exact FlowOp4.plain (v438_calm _ _ _ _ _ _ _ _ _ _ _ 3 rfl) fun a4 w4 s4 cx => ⟨wanted_none rfl, fun K hK => by
    obtain ⟨v0, e0, r0⟩ := cx.slot 2 61 (by kernel_rfl)
    obtain rfl : v0 = .pointer (some ⟨b, 1, none⟩) := r0
    have hn14 : s4 14 = false := by
      cases q : s4 14 with
      | false => rfl
      | true =>
        have q11 := cx.down 14 _ rfl q 11 (by kernel_rfl)
        have q3 := cx.down 11 _ rfl q11 3 (by kernel_rfl)
        rw [cx.new] at q3; cases q3
    obtain ⟨cs, ⟨m', rfl, h1, h2⟩, hat⟩ := cx.ground.at_
    rw [h1 hn14] at hat
    have hcl := RnB.c1 hat
    exact wp_gen [(61, .pointer (some ⟨b, 1, none⟩))] ⟨e0, trivial⟩ (by kernel_rfl) (run_read rfl rfl (run_lf22 hcl)) (hK.out _ w4 (show V438 b n m d M D _ 3 _ _ from rfl) (Below.refl _ _))⟩
  case o4 => exact FlowOp4.plain (v438_calm _ _ _ _ _ _ _ _ _ _ _ 4 rfl) fun a4 w4 s4 cx => ⟨wanted_none rfl, fun K hK => by
    have e0 := cx.keep 5 (.float .f64 d) (by kernel_rfl) rfl
    exact wp_gen [(5, .float .f64 d)] ⟨e0, trivial⟩ (by kernel_rfl) (by kernel_rfl) (hK.out _ w4 (show V438 b n m d M D _ 4 _ _ from rfl) (Below.refl _ _))⟩
  case o5 => exact FlowOp4.plain (v438_calm _ _ _ _ _ _ _ _ _ _ _ 5 rfl) fun a4 w4 s4 cx => ⟨wanted_none rfl, fun K hK => by
    have e0 := cx.keep 0 (.pointer (some ⟨b, 0, none⟩)) (by kernel_rfl) rfl
    exact wp_gen [(0, .pointer (some ⟨b, 0, none⟩))] ⟨e0, trivial⟩ (by kernel_rfl) (by kernel_rfl) (hK.out _ w4 (show V438 b n m d M D _ 5 _ _ from rfl) (Below.refl _ _))⟩
  case o6 => exact FlowOp4.plain (v438_calm _ _ _ _ _ _ _ _ _ _ _ 6 rfl) fun a4 w4 s4 cx => ⟨wanted_none rfl, fun K hK => by
    obtain ⟨v0, e0, r0⟩ := cx.slot 5 64 (by kernel_rfl)
    obtain rfl : v0 = .pointer (some ⟨b, 0, none⟩) := r0
    exact wp_gen [(64, .pointer (some ⟨b, 0, none⟩))] ⟨e0, trivial⟩ (by kernel_rfl) (by kernel_rfl) (hK.out _ w4 (show V438 b n m d M D _ 6 _ _ from rfl) (Below.refl _ _))⟩
  case o7 => exact FlowOp4.plain (v438_calm _ _ _ _ _ _ _ _ _ _ _ 7 rfl) fun a4 w4 s4 cx => ⟨wanted_none rfl, fun K hK => by
    obtain ⟨v0, e0, r0⟩ := cx.slot 6 65 (by kernel_rfl)
    obtain rfl : v0 = .pointer (some ⟨b, 0, none⟩) := r0
    exact wp_gen [(65, .pointer (some ⟨b, 0, none⟩))] ⟨e0, trivial⟩ (by kernel_rfl) (by kernel_rfl) (hK.out _ w4 (show V438 b n m d M D _ 7 _ _ from rfl) (Below.refl _ _))⟩
  case o8 => exact FlowOp4.plain (v438_calm _ _ _ _ _ _ _ _ _ _ _ 8 rfl) fun a4 w4 s4 cx => ⟨wanted_none rfl, fun K hK => by
    obtain ⟨v0, e0, r0⟩ := cx.slot 7 66 (by kernel_rfl)
    obtain rfl : v0 = .pointer (some ⟨b, 0, none⟩) := r0
    obtain ⟨cs, ⟨m', rfl, h1, h2⟩, hat⟩ := cx.ground.at_
    have hcl := RnB.c0 hat
    exact wp_gen [(66, .pointer (some ⟨b, 0, none⟩))] ⟨e0, trivial⟩ (by kernel_rfl) (run_read rfl rfl (run_li3 hcl)) (hK.out _ w4 (show V438 b n m d M D _ 8 _ _ from rfl) (Below.refl _ _))⟩
  case o9 => exact FlowOp4.plain (v438_calm _ _ _ _ _ _ _ _ _ _ _ 9 rfl) fun a4 w4 s4 cx => ⟨wanted_none rfl, fun K hK => by
    obtain ⟨v0, e0, r0⟩ := cx.slot 8 67 (by kernel_rfl)
    obtain rfl : v0 = .int .i64 (n : Int) := r0
    exact wp_gen [(67, .int .i64 (n : Int))] ⟨e0, trivial⟩ (by kernel_rfl) (run_cv rfl rfl) (hK.out _ w4 (show V438 b n m d M D _ 9 _ _ from rfl) (Below.refl _ _))⟩
  case o10 => exact FlowOp4.plain (v438_calm _ _ _ _ _ _ _ _ _ _ _ 10 rfl) fun a4 w4 s4 cx => ⟨wanted_none rfl, fun K hK => by
    obtain ⟨v0, e0, r0⟩ := cx.slot 4 63 (by kernel_rfl)
    obtain rfl : v0 = .float .f64 d := r0
    obtain ⟨v1, e1, r1⟩ := cx.slot 9 68 (by kernel_rfl)
    obtain rfl : v1 = .float .f64 (floatOfInt .f64 (n : Int)) := r1
    exact wp_fl [(63, .float .f64 d), (68, .float .f64 (floatOfInt .f64 (n : Int)))] ⟨e0, e1, trivial⟩ (by kernel_rfl) rfl rfl rfl rfl fun r w' hf hal => hK.out _ w' ⟨r, rfl, (hD.out).op ((len_is (n : Int))) hf⟩ (hal.below _)⟩
  case o11 => exact FlowOp4.plain (v438_calm _ _ _ _ _ _ _ _ _ _ _ 11 rfl) fun a4 w4 s4 cx => ⟨wanted_none rfl, fun K hK => by
    obtain ⟨v0, e0, r0⟩ := cx.slot 3 62 (by kernel_rfl)
    obtain rfl : v0 = .float .f64 m := r0
    obtain ⟨v1, e1, r1⟩ := cx.slot 10 69 (by kernel_rfl)
    obtain ⟨x1, rfl, i1⟩ : ∃ r, v1 = .float .f64 r ∧ Is r (fop .quo (D) (inj (floatOfInt .f64 (n : Int)))) := r1
    exact wp_fl [(62, .float .f64 m), (69, .float .f64 x1)] ⟨e0, e1, trivial⟩ (by kernel_rfl) rfl rfl rfl rfl fun r w' hf hal => hK.out _ w' ⟨r, rfl, (hM.out).op (i1) hf⟩ (hal.below _)⟩
  case o12 => exact FlowOp4.plain (v438_calm _ _ _ _ _ _ _ _ _ _ _ 12 rfl) fun a4 w4 s4 cx => ⟨wanted_none rfl, fun K hK => by
    obtain ⟨v0, e0, r0⟩ := cx.slot 0 59 (by kernel_rfl)
    obtain rfl : v0 = .pointer (some ⟨b, 0, none⟩) := r0
    exact wp_gen [(59, .pointer (some ⟨b, 0, none⟩))] ⟨e0, trivial⟩ (by kernel_rfl) (by kernel_rfl) (hK.out _ w4 (show V438 b n m d M D _ 12 _ _ from rfl) (Below.refl _ _))⟩
  case o13 => exact FlowOp4.plain (v438_calm _ _ _ _ _ _ _ _ _ _ _ 13 rfl) fun a4 w4 s4 cx => ⟨wanted_none rfl, fun K hK => by
    obtain ⟨v0, e0, r0⟩ := cx.slot 12 71 (by kernel_rfl)
    obtain rfl : v0 = .pointer (some ⟨b, 0, none⟩) := r0
    exact wp_gen [(71, .pointer (some ⟨b, 0, none⟩))] ⟨e0, trivial⟩ (by kernel_rfl) (by kernel_rfl) (hK.out _ w4 (show V438 b n m d M D _ 13 _ _ from rfl) (Below.refl _ _))⟩
  case o14 => exact FlowOp4.turn fun a4 w4 s4 cx => ⟨wanted_none rfl, fun K hK => by
    obtain ⟨v0, e0, r0⟩ := cx.slot 13 72 (by kernel_rfl)
    obtain rfl : v0 = .pointer (some ⟨b, 1, none⟩) := r0
    obtain ⟨v1, e1, r1⟩ := cx.slot 11 70 (by kernel_rfl)
    obtain ⟨x1, rfl, i1⟩ : ∃ r, v1 = .float .f64 r ∧ Is r (fop .add (M) (fop .quo (D) (inj (floatOfInt .f64 (n : Int))))) := r1
    obtain ⟨cs, ⟨m', rfl, h1, h2⟩, hat⟩ := cx.ground.at_
    exact wp_st [(72, .pointer (some ⟨b, 1, none⟩)), (70, .float .f64 x1)] ⟨e0, e1, trivial⟩ (by kernel_rfl) rfl rfl rfl rfl hat (show _ < 5 by decide) (hK.out undef _ (Wr.set cx.ground hat (c438_set s4 i1)) trivial fun j u _ hu => hu)⟩
  case hdone =>
    intro a w q hs hw hz hdf hk hgot
    obtain ⟨cs, ⟨m', rfl, h1, h2⟩, hat⟩ := hw.at_
    exact hK.out a w m' hw.grow hat (h2 (hs 14 (by decide))) ⟨hz, hdf, (hk 0 (by kernel_rfl)).trans rfl, (hk 1 (by kernel_rfl)).trans rfl, (hk 5 (by kernel_rfl)).trans rfl, trivial⟩
def V439 (b m s x d : Nat) (M S X D : Option Nat) : (Nat → Bool) → Nat → Value → World → Prop := fun _ j v _ => match j with
  | 0 => v = .pointer (some ⟨b, 0, none⟩)
  | 1 => v = .pointer (some ⟨b, 0, none⟩)
  | 2 => v = .pointer (some ⟨b, 2, none⟩)
  | 3 => v = .float .f64 s
  | 4 => v = .float .f64 d
  | 5 => v = .float .f64 x
  | 6 => v = .pointer (some ⟨b, 0, none⟩)
  | 7 => v = .pointer (some ⟨b, 0, none⟩)
  | 8 => v = .pointer (some ⟨b, 1, none⟩)
  | 9 => v = .float .f64 m
  | 10 => ∃ r, v = .float .f64 r ∧ Is r (fop .sub (X) (M))
  | 11 => ∃ r, v = .float .f64 r ∧ Is r (fop .mul (D) (fop .sub (X) (M)))
  | 12 => ∃ r, v = .float .f64 r ∧ Is r (fop .add (S) (fop .mul (D) (fop .sub (X) (M))))
  | 13 => v = .pointer (some ⟨b, 0, none⟩)
  | 14 => v = .pointer (some ⟨b, 2, none⟩)
  | 15 => True
  | _ => True
def C439 (n m s l g : Nat) (O : Option Nat) : (Nat → Bool) → Array Value → Prop := fun q cs => ∃ s' : Nat, cs = rc n m s' l g ∧ (q 15 = false → s' = s) ∧ (q 15 = true → Is s' O)
theorem v439_calm (b m s x d : Nat) (M S X D : Option Nat) (n l g : Nat) (O : Option Nat) (w0 : World) (i : Nat) (h1 : (15 == i) = false) : Calm (Wr b w0 (C439 n m s l g O)) (V439 b m s x d M S X D) i :=
  ⟨Wr.steady i fun q cs _ h => by unfold C439 at *; rw [mark_ne q i 15 h1]; exact h, fun _ _ _ _ _ _ _ h _ => h⟩
theorem c439_set {n m s l g m' r : Nat} {O : Option Nat} (q : Nat → Bool) (h : Is r O) : C439 n m s l g O (mark q 15) ((rc n m m' l g).setIfInBounds 2 (.float .f64 r)) := ⟨r, rfl, fun k => (by rw [mark_eq] at k; cases k), fun _ => h⟩
set_option maxRecDepth 100000 in
set_option maxHeartbeats 2000000 in
theorem add_9 {Q : Exit → Act → World → Prop} (b n m s l g x d : Nat) (M S X D : Option Nat) (a : Act) (w0 : World) (hR : Hid (RnB w0 b n m s l g)) (hM : Hid (Is m M)) (hS : Hid (Is s S)) (hX : Hid (Is x X)) (hD : Hid (Is d D))
    (hK : Hid (∀ a w2 s', w0.grownBy w2 (some b) → RnB w2 b n m s' l g → Is s' (fop .add (S) (fop .mul (D) (fop .sub (X) (M)))) → At 88 [(0, .pointer (some ⟨b, 0, none⟩))] a → Code.wp Try.prog (sq 8 body43) Q a w2)) (ha : At 88 [(0, .pointer (some ⟨b, 0, none⟩)), (1, .float .f64 x), (5, .float .f64 d)] a) : Code.wp Try.prog (sq 7 body43) Q a w0 := by
  obtain ⟨f, rfl, h0, h1, h5, -⟩ := ha.lit
  change Code.wp _ _ _ ⟨#[f 0, f 1, f 2, f 3, f 4, f 5, f 6, f 7, f 8, f 9, f 10, f 11, f 12, f 13, f 14, f 15, f 16, f 17, f 18, f 19, f 20, f 21, f 22, f 23, f 24, f 25, f 26, f 27, f 28, f 29, f 30, f 31, f 32, f 33, f 34, f 35, f 36, f 37, f 38, f 39, f 40, f 41, f 42, f 43, f 44, f 45, f 46, f 47, f 48, f 49, f 50, f 51, f 52, f 53, f 54, f 55, f 56, f 57, f 58, f 59, f 60, f 61, f 62, f 63, f 64, f 65, f 66, f 67, f 68, f 69, f 70, f 71, f 72, f 73, f 74, f 75, f 76, f 77, f 78, f 79, f 80, f 81, f 82, f 83, f 84, f 85, f 86, f 87], []⟩ _
  simp only at h0 h1 h5
  simp only [h0, h1, h5]
  clear h0 h1 h5
  change Code.wp _ (Code.seq (hd (sq 7 body43)) (sq 8 body43)) _ _ _
  generalize sq 8 body43 = REST at hK ⊢
  conv => arg 2; arg 1; whnf
  refine wp_seq ?_
  refine wp_region_turn (Wr b w0 (C439 n m s l g (fop .add (S) (fop .mul (D) (fop .sub (X) (M)))))) (V439 b m s x d M S X D) 88 rfl (by kernel_rfl) (by kernel_rfl) (Wr.start _ hR.out fun q hq => ⟨s, rfl, fun _ => rfl, fun h => by rw [hq 15] at h; cases h⟩) ⟨?o0, ?o1, ?o2, ?o3, ?o4, ?o5, ?o6, ?o7, ?o8, ?o9, ?o10, ?o11, ?o12, ?o13, ?o14, ?o15, trivial⟩ ?hdone
  case o0 => exact FlowOp4.plain (v439_calm _ _ _ _ _ _ _ _ _ _ _ _ _ _ 0 rfl) fun a4 w4 s4 cx => ⟨wanted_none rfl, fun K hK => by
    have e0 := cx.keep 0 (.pointer (some ⟨b, 0, none⟩)) (by kernel_rfl) rfl
    exact wp_gen [(0, .pointer (some ⟨b, 0, none⟩))] ⟨e0, trivial⟩ (by kernel_rfl) (by kernel_rfl) (hK.out _ w4 (show V439 b m s x d M S X D _ 0 _ _ from rfl) (Below.refl _ _))⟩
  case o1 => exact FlowOp4.plain (v439_calm _ _ _ _ _ _ _ _ _ _ _ _ _ _ 1 rfl) fun a4 w4 s4 cx => ⟨wanted_none rfl, fun K hK => by
    obtain ⟨v0, e0, r0⟩ := cx.slot 0 73 (by kernel_rfl)
    obtain rfl : v0 = .pointer (some ⟨b, 0, none⟩) := r0
    exact wp_gen [(73, .pointer (some ⟨b, 0, none⟩))] ⟨e0, trivial⟩ (by kernel_rfl) (by kernel_rfl) (hK.out _ w4 (show V439 b m s x d M S X D _ 1 _ _ from rfl) (Below.refl _ _))⟩
  case o2 => exact FlowOp4.plain (v439_calm _ _ _ _ _ _ _ _ _ _ _ _ _ _ 2 rfl) fun a4 w4 s4 cx => ⟨wanted_none rfl, fun K hK => by
    obtain ⟨v0, e0, r0⟩ := cx.slot 1 74 (by kernel_rfl)
    obtain rfl : v0 = .pointer (some ⟨b, 0, none⟩) := r0
    exact wp_gen [(74, .pointer (some ⟨b, 0, none⟩))] ⟨e0, trivial⟩ (by kernel_rfl) (by kernel_rfl) (hK.out _ w4 (show V439 b m s x d M S X D _ 2 _ _ from rfl) (Below.refl _ _))⟩
  case o3 => exact FlowOp4.plain (v439_calm _ _ _ _ _ _ _ _ _ _ _ _ _ _ 3 rfl) fun a4 w4 s4 cx => ⟨wanted_none rfl, fun K hK => by
    obtain ⟨v0, e0, r0⟩ := cx.slot 2 75 (by kernel_rfl)
    obtain rfl : v0 = .pointer (some ⟨b, 2, none⟩) := r0
    have hn15 : s4 15 = false := by
      cases q : s4 15 with
      | false => rfl
      | true =>
        have q12 := cx.down 15 _ rfl q 12 (by kernel_rfl)
        have q3 := cx.down 12 _ rfl q12 3 (by kernel_rfl)
        rw [cx.new] at q3; cases q3
    obtain ⟨cs, ⟨s', rfl, h1, h2⟩, hat⟩ := cx.ground.at_
    rw [h1 hn15] at hat
    have hcl := RnB.c2 hat
    exact wp_gen [(75, .pointer (some ⟨b, 2, none⟩))] ⟨e0, trivial⟩ (by kernel_rfl) (run_read rfl rfl (run_lf22 hcl)) (hK.out _ w4 (show V439 b m s x d M S X D _ 3 _ _ from rfl) (Below.refl _ _))⟩
  case o4 => exact FlowOp4.plain (v439_calm _ _ _ _ _ _ _ _ _ _ _ _ _ _ 4 rfl) fun a4 w4 s4 cx => ⟨wanted_none rfl, fun K hK => by
    have e0 := cx.keep 5 (.float .f64 d) (by kernel_rfl) rfl
    exact wp_gen [(5, .float .f64 d)] ⟨e0, trivial⟩ (by kernel_rfl) (by kernel_rfl) (hK.out _ w4 (show V439 b m s x d M S X D _ 4 _ _ from rfl) (Below.refl _ _))⟩
  case o5 => exact FlowOp4.plain (v439_calm _ _ _ _ _ _ _ _ _ _ _ _ _ _ 5 rfl) fun a4 w4 s4 cx => ⟨wanted_none rfl, fun K hK => by
    have e0 := cx.keep 1 (.float .f64 x) (by kernel_rfl) rfl
    exact wp_gen [(1, .float .f64 x)] ⟨e0, trivial⟩ (by kernel_rfl) (by kernel_rfl) (hK.out _ w4 (show V439 b m s x d M S X D _ 5 _ _ from rfl) (Below.refl _ _))⟩
  case o6 => exact FlowOp4.plain (v439_calm _ _ _ _ _ _ _ _ _ _ _ _ _ _ 6 rfl) fun a4 w4 s4 cx => ⟨wanted_none rfl, fun K hK => by
    have e0 := cx.keep 0 (.pointer (some ⟨b, 0, none⟩)) (by kernel_rfl) rfl
    exact wp_gen [(0, .pointer (some ⟨b, 0, none⟩))] ⟨e0, trivial⟩ (by kernel_rfl) (by kernel_rfl) (hK.out _ w4 (show V439 b m s x d M S X D _ 6 _ _ from rfl) (Below.refl _ _))⟩
  case o7 => exact FlowOp4.plain (v439_calm _ _ _ _ _ _ _ _ _ _ _ _ _ _ 7 rfl) fun a4 w4 s4 cx => ⟨wanted_none rfl, fun K hK => by
    obtain ⟨v0, e0, r0⟩ := cx.slot 6 79 (by kernel_rfl)
    obtain rfl : v0 = .pointer (some ⟨b, 0, none⟩) := r0
    exact wp_gen [(79, .pointer (some ⟨b, 0, none⟩))] ⟨e0, trivial⟩ (by kernel_rfl) (by kernel_rfl) (hK.out _ w4 (show V439 b m s x d M S X D _ 7 _ _ from rfl) (Below.refl _ _))⟩
  case o8 => exact FlowOp4.plain (v439_calm _ _ _ _ _ _ _ _ _ _ _ _ _ _ 8 rfl) fun a4 w4 s4 cx => ⟨wanted_none rfl, fun K hK => by
    obtain ⟨v0, e0, r0⟩ := cx.slot 7 80 (by kernel_rfl)
    obtain rfl : v0 = .pointer (some ⟨b, 0, none⟩) := r0
    exact wp_gen [(80, .pointer (some ⟨b, 0, none⟩))] ⟨e0, trivial⟩ (by kernel_rfl) (by kernel_rfl) (hK.out _ w4 (show V439 b m s x d M S X D _ 8 _ _ from rfl) (Below.refl _ _))⟩
  case o9 => exact FlowOp4.plain (v439_calm _ _ _ _ _ _ _ _ _ _ _ _ _ _ 9 rfl) fun a4 w4 s4 cx => ⟨wanted_none rfl, fun K hK => by
    obtain ⟨v0, e0, r0⟩ := cx.slot 8 81 (by kernel_rfl)
    obtain rfl : v0 = .pointer (some ⟨b, 1, none⟩) := r0
    obtain ⟨cs, ⟨s', rfl, h1, h2⟩, hat⟩ := cx.ground.at_
    have hcl := RnB.c1 hat
    exact wp_gen [(81, .pointer (some ⟨b, 1, none⟩))] ⟨e0, trivial⟩ (by kernel_rfl) (run_read rfl rfl (run_lf22 hcl)) (hK.out _ w4 (show V439 b m s x d M S X D _ 9 _ _ from rfl) (Below.refl _ _))⟩
  case o10 => exact FlowOp4.plain (v439_calm _ _ _ _ _ _ _ _ _ _ _ _ _ _ 10 rfl) fun a4 w4 s4 cx => ⟨wanted_none rfl, fun K hK => by
    obtain ⟨v0, e0, r0⟩ := cx.slot 5 78 (by kernel_rfl)
    obtain rfl : v0 = .float .f64 x := r0
    obtain ⟨v1, e1, r1⟩ := cx.slot 9 82 (by kernel_rfl)
    obtain rfl : v1 = .float .f64 m := r1
    exact wp_fl [(78, .float .f64 x), (82, .float .f64 m)] ⟨e0, e1, trivial⟩ (by kernel_rfl) rfl rfl rfl rfl fun r w' hf hal => hK.out _ w' ⟨r, rfl, (hX.out).op (hM.out) hf⟩ (hal.below _)⟩
  case o11 => exact FlowOp4.plain (v439_calm _ _ _ _ _ _ _ _ _ _ _ _ _ _ 11 rfl) fun a4 w4 s4 cx => ⟨wanted_none rfl, fun K hK => by
    obtain ⟨v0, e0, r0⟩ := cx.slot 4 77 (by kernel_rfl)
    obtain rfl : v0 = .float .f64 d := r0
    obtain ⟨v1, e1, r1⟩ := cx.slot 10 83 (by kernel_rfl)
    obtain ⟨x1, rfl, i1⟩ : ∃ r, v1 = .float .f64 r ∧ Is r (fop .sub (X) (M)) := r1
    exact wp_fl [(77, .float .f64 d), (83, .float .f64 x1)] ⟨e0, e1, trivial⟩ (by kernel_rfl) rfl rfl rfl rfl fun r w' hf hal => hK.out _ w' ⟨r, rfl, (hD.out).op (i1) hf⟩ (hal.below _)⟩
  case o12 => exact FlowOp4.plain (v439_calm _ _ _ _ _ _ _ _ _ _ _ _ _ _ 12 rfl) fun a4 w4 s4 cx => ⟨wanted_none rfl, fun K hK => by
    obtain ⟨v0, e0, r0⟩ := cx.slot 3 76 (by kernel_rfl)
    obtain rfl : v0 = .float .f64 s := r0
    obtain ⟨v1, e1, r1⟩ := cx.slot 11 84 (by kernel_rfl)
    obtain ⟨x1, rfl, i1⟩ : ∃ r, v1 = .float .f64 r ∧ Is r (fop .mul (D) (fop .sub (X) (M))) := r1
    exact wp_fl [(76, .float .f64 s), (84, .float .f64 x1)] ⟨e0, e1, trivial⟩ (by kernel_rfl) rfl rfl rfl rfl fun r w' hf hal => hK.out _ w' ⟨r, rfl, (hS.out).op (i1) hf⟩ (hal.below _)⟩
  case o13 => exact FlowOp4.plain (v439_calm _ _ _ _ _ _ _ _ _ _ _ _ _ _ 13 rfl) fun a4 w4 s4 cx => ⟨wanted_none rfl, fun K hK => by
    obtain ⟨v0, e0, r0⟩ := cx.slot 0 73 (by kernel_rfl)
    obtain rfl : v0 = .pointer (some ⟨b, 0, none⟩) := r0
    exact wp_gen [(73, .pointer (some ⟨b, 0, none⟩))] ⟨e0, trivial⟩ (by kernel_rfl) (by kernel_rfl) (hK.out _ w4 (show V439 b m s x d M S X D _ 13 _ _ from rfl) (Below.refl _ _))⟩
  case o14 => exact FlowOp4.plain (v439_calm _ _ _ _ _ _ _ _ _ _ _ _ _ _ 14 rfl) fun a4 w4 s4 cx => ⟨wanted_none rfl, fun K hK => by
    obtain ⟨v0, e0, r0⟩ := cx.slot 13 86 (by kernel_rfl)
    obtain rfl : v0 = .pointer (some ⟨b, 0, none⟩) := r0
    exact wp_gen [(86, .pointer (some ⟨b, 0, none⟩))] ⟨e0, trivial⟩ (by kernel_rfl) (by kernel_rfl) (hK.out _ w4 (show V439 b m s x d M S X D _ 14 _ _ from rfl) (Below.refl _ _))⟩
  case o15 => exact FlowOp4.turn fun a4 w4 s4 cx => ⟨wanted_none rfl, fun K hK => by
    obtain ⟨v0, e0, r0⟩ := cx.slot 14 87 (by kernel_rfl)
    obtain rfl : v0 = .pointer (some ⟨b, 2, none⟩) := r0
    obtain ⟨v1, e1, r1⟩ := cx.slot 12 85 (by kernel_rfl)
    obtain ⟨x1, rfl, i1⟩ : ∃ r, v1 = .float .f64 r ∧ Is r (fop .add (S) (fop .mul (D) (fop .sub (X) (M)))) := r1
    obtain ⟨cs, ⟨s', rfl, h1, h2⟩, hat⟩ := cx.ground.at_
    exact wp_st [(87, .pointer (some ⟨b, 2, none⟩)), (85, .float .f64 x1)] ⟨e0, e1, trivial⟩ (by kernel_rfl) rfl rfl rfl rfl hat (show _ < 5 by decide) (hK.out undef _ (Wr.set cx.ground hat (c439_set s4 i1)) trivial fun j u _ hu => hu)⟩
  case hdone =>
    intro a w q hs hw hz hdf hk hgot
    obtain ⟨cs, ⟨s', rfl, h1, h2⟩, hat⟩ := hw.at_
    exact hK.out a w s' hw.grow hat (h2 (hs 15 (by decide))) ⟨hz, hdf, (hk 0 (by kernel_rfl)).trans rfl, trivial⟩
theorem RnB.fz {w : World} {b i : Nat} {n : Int} {m s l g : Nat} (h : RnB w b n m s l g) : w.frozen? ⟨b, i, none⟩ = false := froz h
theorem RnB.set0 {w : World} {b : Nat} {n k : Int} {m s l g : Nat} (h : RnB w b n m s l g) : RnB (w.setCell ⟨b, 0, none⟩ (.int .i64 k)) b k m s l g := set_at (i := 0) _ h
theorem RnB.set3 {w : World} {b r : Nat} {n : Int} {m s l g : Nat} (h : RnB w b n m s l g) : RnB (w.setCell ⟨b, 3, none⟩ (.float .f64 r)) b n m s r g := set_at (i := 3) _ h
theorem RnB.set4 {w : World} {b r : Nat} {n : Int} {m s l g : Nat} (h : RnB w b n m s l g) : RnB (w.setCell ⟨b, 4, none⟩ (.float .f64 r)) b n m s l r := set_at (i := 4) _ h
attribute [local go_sem] run_stf
set_option maxRecDepth 100000 in
set_option maxHeartbeats 2000000 in
theorem add_10 {Q : Ending → World → Prop} (b : Nat) (a : Act) (w0 : World) (hK : Hid (Q (.returned (.int .i64 0)) w0)) (ha : At 88 [(0, .pointer (some ⟨b, 0, none⟩))] a) : Code.wp Try.prog (sq 8 body43) (bodyPost Try.prog Try.f43 Q) a w0 := by
  obtain ⟨f, rfl, h0, -⟩ := ha.lit
  change Code.wp _ _ _ ⟨#[f 0, f 1, f 2, f 3, f 4, f 5, f 6, f 7, f 8, f 9, f 10, f 11, f 12, f 13, f 14, f 15, f 16, f 17, f 18, f 19, f 20, f 21, f 22, f 23, f 24, f 25, f 26, f 27, f 28, f 29, f 30, f 31, f 32, f 33, f 34, f 35, f 36, f 37, f 38, f 39, f 40, f 41, f 42, f 43, f 44, f 45, f 46, f 47, f 48, f 49, f 50, f 51, f 52, f 53, f 54, f 55, f 56, f 57, f 58, f 59, f 60, f 61, f 62, f 63, f 64, f 65, f 66, f 67, f 68, f 69, f 70, f 71, f 72, f 73, f 74, f 75, f 76, f 77, f 78, f 79, f 80, f 81, f 82, f 83, f 84, f 85, f 86, f 87], []⟩ _
  simp only at h0
  simp only [h0]
  clear h0
  conv => arg 2; whnf
  go_wp2
  exact hK.out
set_option maxRecDepth 100000 in
set_option maxHeartbeats 2000000 in
theorem add_6 {Q : Exit → Act → World → Prop} (b n m s l g x : Nat) (M X : Option Nat) (a : Act) (w0 : World) (hn : n < 65536) (hR : RnB w0 b n m s l g) (hM : Hid (Is m M)) (hX : Hid (Is x X))
    (hK : Hid (∀ a w2 d, w0.grownBy w2 (some b) → RnB w2 b ((n + 1 : Nat) : Int) m s l g → Is d (fop .sub X M) → At 88 [(0, .pointer (some ⟨b, 0, none⟩)), (1, .float .f64 x), (5, .float .f64 d)] a → Code.wp Try.prog (sq 6 body43) Q a w2)) (ha : At 88 [(0, .pointer (some ⟨b, 0, none⟩)), (1, .float .f64 x)] a) : Code.wp Try.prog (sq 4 body43) Q a w0 := by
  have c0 := hR.c0
  have fz := hR.fz (i := 0)
  have hR2 : RnB (w0.setCell ⟨b, 0, none⟩ (.int .i64 ((n : Int) + 1))) b ((n : Int) + 1) m s l g := hR.set0
  have c1 := hR2.c1
  have hW : Hid (RnB (w0.setCell ⟨b, 0, none⟩ (.int .i64 ((n : Int) + 1))) b ((n : Int) + 1) m s l g) := hR2
  have hG : Hid (w0.grownBy (w0.setCell ⟨b, 0, none⟩ (.int .i64 ((n : Int) + 1))) (some b)) := grow_set _ _ _ _
  have hn2 : (n : Int) < 65536 := by omega
  have hE : Hid (((n + 1 : Nat) : Int) = (n : Int) + 1) := by rw [Hid]; omega
  clear hR hR2 hn
  obtain ⟨f, rfl, h0, h1, -⟩ := ha.lit
  change Code.wp _ _ _ ⟨#[f 0, f 1, f 2, f 3, f 4, f 5, f 6, f 7, f 8, f 9, f 10, f 11, f 12, f 13, f 14, f 15, f 16, f 17, f 18, f 19, f 20, f 21, f 22, f 23, f 24, f 25, f 26, f 27, f 28, f 29, f 30, f 31, f 32, f 33, f 34, f 35, f 36, f 37, f 38, f 39, f 40, f 41, f 42, f 43, f 44, f 45, f 46, f 47, f 48, f 49, f 50, f 51, f 52, f 53, f 54, f 55, f 56, f 57, f 58, f 59, f 60, f 61, f 62, f 63, f 64, f 65, f 66, f 67, f 68, f 69, f 70, f 71, f 72, f 73, f 74, f 75, f 76, f 77, f 78, f 79, f 80, f 81, f 82, f 83, f 84, f 85, f 86, f 87], []⟩ _
  simp only at h0 h1
  simp only [h0, h1]
  clear h0 h1
  change Code.wp _ (Code.seq (hd (sq 4 body43)) (Code.seq (hd (sq 5 body43)) (sq 6 body43))) _ _ _
  generalize sq 6 body43 = REST at hK ⊢
  conv => arg 2; arg 1; whnf
  conv => arg 2; arg 2; arg 1; whnf
  go_wp2_with (refine wpList_flt rfl .sub .f64 _ _ _ _ rfl rfl _ _ rfl rfl ?_)
  intro d w1 f1 a1
  have h5 := hX.out.op hM.out f1.out
  have hB := a1.out.below w0.heap.size
  have hR3 := hW.out.below (a1.out.below _)
  have hG3 := grow_below hG.out (a1.out.below _)
  rw [← hE.out] at hR3
  go_wp2
  exact hK.out _ w1 d hG3 hR3 h5 ⟨rfl, rfl, rfl, rfl, rfl, trivial⟩
set_option maxRecDepth 100000 in
set_option maxHeartbeats 2000000 in
theorem add_0 {Q : Ending → World → Prop} (b n m s l g x : Nat) (w : World) (hn : 0 < n) (hn3 : n < 65536) (hR : RnB w b n m s l g)
    (hK : Hid (∀ a, At 88 [(0, .pointer (some ⟨b, 0, none⟩)), (1, .float .f64 x)] a → Code.wp Try.prog (sq 3 body43) (bodyPost Try.prog Try.f43 Q) a w)) : Calls Try.prog 43 #[.pointer (some ⟨b, 0, none⟩), .float .f64 x] w Q := by
  have c0 := hR.c0
  have hn1 : (((n : Nat) : Int) == 0) = false := by simp; omega
  have hn2 : (((n : Nat) : Int) == 65536) = false := by simp; omega
  clear hn hn3 hR
  go_enter Try.func43, Try.ntmps43
  change Code.wp _ (Code.seq (hd (sq 0 body43)) (Code.seq (hd (sq 1 body43)) (Code.seq (hd (sq 2 body43)) (sq 3 body43)))) _ _ _
  generalize sq 3 body43 = REST at hK ⊢
  conv => arg 2; arg 1; whnf
  conv => arg 2; arg 2; arg 1; whnf
  conv => arg 2; arg 2; arg 2; arg 1; whnf
  go_wp2
  exact hK.out _ ⟨rfl, rfl, rfl, rfl, trivial⟩
set_option maxRecDepth 100000 in
set_option maxHeartbeats 2000000 in
theorem add_1 {Q : Ending → World → Prop} (b m s l g x : Nat) (w : World) (hR : RnB w b 0 m s l g)
    (hK : Hid (∀ a w2, w.grownBy w2 (some b) → RnB w2 b 0 m s x x → At 88 [(0, .pointer (some ⟨b, 0, none⟩)), (1, .float .f64 x)] a → Code.wp Try.prog (sq 3 body43) (bodyPost Try.prog Try.f43 Q) a w2)) : Calls Try.prog 43 #[.pointer (some ⟨b, 0, none⟩), .float .f64 x] w Q := by
  have c0 := hR.c0
  have c3 := hR.c3
  have fz := hR.fz (i := 3)
  have hR2 : RnB (w.setCell ⟨b, 3, none⟩ (.float .f64 x)) b 0 m s x g := hR.set3
  have c4 := hR2.c4
  have fz4 := hR2.fz (i := 4)
  have hR3 : Hid (RnB ((w.setCell ⟨b, 3, none⟩ (.float .f64 x)).setCell ⟨b, 4, none⟩ (.float .f64 x)) b 0 m s x x) := hR2.set4
  have hG : Hid (w.grownBy ((w.setCell ⟨b, 3, none⟩ (.float .f64 x)).setCell ⟨b, 4, none⟩ (.float .f64 x)) (some b)) := grow_trans (grow_set _ _ _ _) (grow_set _ _ _ _)
  clear hR hR2
  go_enter Try.func43, Try.ntmps43
  change Code.wp _ (Code.seq (hd (sq 0 body43)) (Code.seq (hd (sq 1 body43)) (Code.seq (hd (sq 2 body43)) (sq 3 body43)))) _ _ _
  generalize sq 3 body43 = REST at hK ⊢
  conv => arg 2; arg 1; whnf
  conv => arg 2; arg 2; arg 1; whnf
  conv => arg 2; arg 2; arg 2; arg 1; whnf
  go_wp2
  exact hK.out _ _ hG.out hR3.out ⟨rfl, rfl, rfl, rfl, trivial⟩
theorem add_tail {Q : Ending → World → Prop} (b n m s l g x : Nat) (M S X : Option Nat) (a : Act) (w w0 : World) (hn : n < 65536) (hg0 : w.grownBy w0 (some b)) (hR : RnB w0 b n m s l g) (hM : Is m M) (hS : Is s S) (hX : Is x X) (hl : l < 18446744073709551616) (hg : g < 18446744073709551616)
    (hK : ∀ w2 m' s', w.grownBy w2 (some b) → RnB w2 b ((n + 1 : Nat) : Int) m' s' (minB l x) (maxB g x) → Is m' (fop .add M (fop .quo (fop .sub X M) (inj (floatOfInt .f64 ((n + 1 : Nat) : Int))))) → Is s' (fop .add S (fop .mul (fop .sub X M) (fop .sub X (fop .add M (fop .quo (fop .sub X M) (inj (floatOfInt .f64 ((n + 1 : Nat) : Int)))))))) → Q (.returned (.int .i64 0)) w2)
    (ha : At 88 [(0, .pointer (some ⟨b, 0, none⟩)), (1, .float .f64 x)] a) : Code.wp Try.prog (sq 3 body43) (bodyPost Try.prog Try.f43 Q) a w0 := by
  refine add_5 b n m s l g x a w0 hR hl hg hX.lt (fun a w1 G1 R1 ha => ?_) ha
  refine add_6 b n m s _ _ x M X a w1 hn R1 hM hX (fun a w2 d G2 R2 D2 ha => ?_) ha
  refine add_8 b (n + 1) m s _ _ x d M _ a w2 R2 hM D2 (fun a w3 m' G3 R3 M3 ha => ?_) ha
  refine add_9 b (n + 1) m' s _ _ x d _ S X _ a w3 R3 M3 hS hX D2 (fun a w4 s' G4 R4 S4 ha => ?_) ha
  exact add_10 b a w4 (hK w4 m' s' (grow_trans (grow_trans (grow_trans (grow_trans hg0 G1) G2) G3) G4) R4 M3 S4) ha
/-- The lesser one by the total order; none if one is. -/
def lesO (a b : Option Nat) : Option Nat := a.bind fun x => b.bind fun y => if key64 x ≤ key64 y then some x else some y
/-- The greater one. -/
def greO (a b : Option Nat) : Option Nat := a.bind fun x => b.bind fun y => if key64 y ≤ key64 x then some x else some y
theorem min_is {l x : Nat} {L X : Option Nat} (h : Is l L) (k : Is x X) : Is (minB l x) (lesO L X) := by
  unfold minB lesO
  cases L with
  | none => obtain ⟨h1, -⟩ := h; rw [h1, if_pos (by simp)]; exact ⟨by decide, by decide⟩
  | some a =>
    obtain ⟨rfl, h2, h3⟩ := h
    cases X with
    | none => obtain ⟨h1, -⟩ := k; rw [h1, if_pos (by simp)]; exact ⟨by decide, by decide⟩
    | some b =>
      obtain ⟨rfl, k2, k3⟩ := k
      rw [h2, k2, if_neg (by decide)]
      dsimp only [Option.bind_some]
      by_cases c : key64 l ≤ key64 x
      · rw [if_pos c, if_pos c]; exact ⟨rfl, h2, h3⟩
      · rw [if_neg c, if_neg c]; exact ⟨rfl, k2, k3⟩
theorem max_is {l x : Nat} {L X : Option Nat} (h : Is l L) (k : Is x X) : Is (maxB l x) (greO L X) := by
  unfold maxB greO
  cases L with
  | none => obtain ⟨h1, -⟩ := h; rw [h1, if_pos (by simp)]; exact ⟨by decide, by decide⟩
  | some a =>
    obtain ⟨rfl, h2, h3⟩ := h
    cases X with
    | none => obtain ⟨h1, -⟩ := k; rw [h1, if_pos (by simp)]; exact ⟨by decide, by decide⟩
    | some b =>
      obtain ⟨rfl, k2, k3⟩ := k
      rw [h2, k2, if_neg (by decide)]
      dsimp only [Option.bind_some]
      by_cases c : key64 x ≤ key64 l
      · rw [if_pos c, if_pos c]; exact ⟨rfl, h2, h3⟩
      · rw [if_neg c, if_neg c]; exact ⟨rfl, k2, k3⟩
theorem les_self (X : Option Nat) : lesO X X = X := by cases X <;> simp [lesO]
theorem gre_self (X : Option Nat) : greO X X = X := by cases X <;> simp [greO]
/-- The other sign. -/
def ngB (p : Nat) : Nat := Op.negFloat .f64 p
theorem ng_val {p : Nat} (h : p < 18446744073709551616) : ngB p = if p < 9223372036854775808 then p + 9223372036854775808 else p - 9223372036854775808 := by
  unfold ngB
  by_cases c : p < 9223372036854775808
  · rw [if_pos c, neg_up c]
  · rw [if_neg c, neg_bits (by omega) h]
theorem ng_lt {p : Nat} (h : p < 18446744073709551616) : ngB p < 18446744073709551616 := by
  rw [ng_val h]; split <;> omega
theorem ng_ng {p : Nat} (h : p < 18446744073709551616) : ngB (ngB p) = p := by
  rw [ng_val (ng_lt h), ng_val h]
  by_cases c : p < 9223372036854775808
  · simp only [if_pos c]; rw [if_neg (by omega)]; omega
  · simp only [if_neg c]; rw [if_pos (by omega)]; omega
set_option maxRecDepth 100000 in
theorem ng_key {p : Nat} (h : p < 18446744073709551616) : key64 (ngB p) = -key64 p - 1 := by
  rw [ng_val h]; unfold key64
  by_cases c : p < 9223372036854775808
  · rw [if_pos c, if_pos c, if_neg (by omega)]; omega
  · rw [if_neg c, if_neg c, if_pos (by omega)]; omega
set_option maxRecDepth 100000 in
theorem nan_val (b : Nat) : nan64 b = decide (9218868437227405312 < b % 9223372036854775808) := by
  unfold nan64 isN
  have e : FloatKind.f64.format.signWeight = 9223372036854775808 := by decide
  have e2 : FloatKind.f64.format.infRung = 9218868437227405312 := by decide
  simp only [e, e2]
set_option maxRecDepth 100000 in
theorem ng_nan {p : Nat} (h : p < 18446744073709551616) : nan64 (ngB p) = nan64 p := by
  rw [nan_val, nan_val, ng_val h]
  by_cases c : p < 9223372036854775808
  · rw [if_pos c]; rw [decide_eq_decide]; omega
  · rw [if_neg c]; rw [decide_eq_decide]; omega
/-- The other sign of what stands for bits. -/
def ngO (o : Option Nat) : Option Nat := o.map ngB
theorem ng_is {p : Nat} {o : Option Nat} (h : Is p o) : Is (ngB p) (ngO o) := by
  cases o with
  | none => exact ⟨(ng_nan h.2).trans h.1, ng_lt h.2⟩
  | some s => obtain ⟨rfl, h1, h2⟩ := h; exact ⟨rfl, (ng_nan h2).trans h1, ng_lt h2⟩
/-- The greater one is the lesser one of the other signs, its sign turned. -/
theorem ng_les {l x : Nat} {G X : Option Nat} (h : Is l G) (k : Is x X) : ngO (lesO (ngO G) (ngO X)) = greO G X := by
  cases G with
  | none => rfl
  | some a =>
    obtain ⟨rfl, h2, h3⟩ := h
    cases X with
    | none => rfl
    | some b =>
      obtain ⟨rfl, k2, k3⟩ := k
      show ngO (if key64 (ngB l) ≤ key64 (ngB x) then some (ngB l) else some (ngB x)) = if key64 x ≤ key64 l then some l else some x
      rw [ng_key h3, ng_key k3]
      by_cases c : key64 x ≤ key64 l
      · rw [if_pos c, if_pos (by omega)]; show some (ngB (ngB l)) = _; rw [ng_ng h3]
      · rw [if_neg c, if_neg (by omega)]; show some (ngB (ngB x)) = _; rw [ng_ng k3]
/-- The document's lesser, in bits. -/
def lesB (x y : Nat) : Nat := if (nan64 x || nan64 y) = true then 9218868437227405313 else if key64 x ≤ key64 y then x else y
theorem les_is {l x : Nat} {L X : Option Nat} (h : Is l L) (k : Is x X) : Is (lesB l x) (lesO L X) := by
  unfold lesB lesO
  cases L with
  | none => obtain ⟨h1, -⟩ := h; rw [h1, if_pos (by simp)]; exact ⟨by decide, by decide⟩
  | some a =>
    obtain ⟨rfl, h2, h3⟩ := h
    cases X with
    | none => obtain ⟨h1, -⟩ := k; rw [h1, if_pos (by simp)]; exact ⟨by decide, by decide⟩
    | some b =>
      obtain ⟨rfl, k2, k3⟩ := k
      rw [h2, k2, if_neg (by decide)]
      dsimp only [Option.bind_some]
      by_cases c : key64 l ≤ key64 x
      · rw [if_pos c, if_pos c]; exact ⟨rfl, h2, h3⟩
      · rw [if_neg c, if_neg c]; exact ⟨rfl, k2, k3⟩
theorem key_plc {x y : Nat} (hx : x < 18446744073709551616) (hy : y < 18446744073709551616) : (plc64 y < plc64 x → ¬ key64 x ≤ key64 y) ∧ (plc64 x < plc64 y → key64 x ≤ key64 y) ∧ (plc64 y = plc64 x → sgB y = false → key64 x ≤ key64 y) ∧ (plc64 y = plc64 x → sgB y = true → (if key64 x ≤ key64 y then x else y) = y) := by
  unfold plc64 key64 sgB
  by_cases a : x < 9223372036854775808
  · by_cases b : y < 9223372036854775808
    · simp only [if_pos a, if_pos b]
      refine ⟨fun h => by omega, fun h => by omega, fun h _ => by omega, fun h g => ?_⟩
      have g' := of_decide_eq_true g
      omega
    · simp only [if_pos a, if_neg b]
      refine ⟨fun h => by omega, fun h => by omega, fun h g => ?_, fun h g => by rw [if_neg (by omega)]⟩
      have g' := of_decide_eq_false g
      omega
  · by_cases b : y < 9223372036854775808
    · simp only [if_neg a, if_pos b]
      refine ⟨fun h => by omega, fun h => by omega, fun h _ => by omega, fun h g => ?_⟩
      have g' := of_decide_eq_true g
      omega
    · simp only [if_neg a, if_neg b]
      refine ⟨fun h => by omega, fun h => by omega, fun h _ => by omega, fun h g => ?_⟩
      have : x = y := by omega
      rw [this]
      exact ite_self _
set_option maxRecDepth 100000 in
set_option maxHeartbeats 400000 in
theorem lesser_any (x y : Nat) (w : World) (hx : x < 18446744073709551616) (hy : y < 18446744073709551616) : Calls Try.prog 81 #[.float .f64 x, .float .f64 y] w fun e w' => e = .returned (.float .f64 (lesB x y)) ∧ w' = w := by
  have k1 := fun w => none_any x w
  have k2 := fun w => none_any y w
  have k3 := None_any
  have k4 := fun w => negative_any y w hy
  unfold lesB
  cases h1 : nan64 x
  · cases h2 : nan64 y
    · rw [h1] at k1
      rw [h2] at k2
      rw [if_neg (by decide)]
      have o1 := order_is hy hx h2 h1
      have o2 := order_is hx hy h1 h2
      obtain ⟨p1, p2, p3, p4⟩ := key_plc hx hy
      rcases Int.lt_trichotomy (plc64 y) (plc64 x) with c | c | c
      · rw [if_neg (p1 c)]
        have o3 : FloatKind.f64.format.order y x = some .lt := by rw [o1]; simp [compare, compareOfLessAndEq, c]
        clear o1 o2 p1 p2 p3 p4 c h1 h2 k3 k4
        go_enter Try.func81, Try.ntmps81
        go_wp2_with (first | (go_at_call 55; refine (k1 _).mono ?_; rintro e w' ⟨rfl, rfl⟩) | (go_at_call 55; refine (k2 _).mono ?_; rintro e w' ⟨rfl, rfl⟩))
        go_ret
        exact ⟨rfl, rfl⟩
      · have o3 : FloatKind.f64.format.order y x = some .eq := by rw [o1, c]; simp [compare, compareOfLessAndEq]
        have o4 : FloatKind.f64.format.order x y = some .eq := by rw [o2, c]; simp [compare, compareOfLessAndEq]
        clear o1 o2
        cases s : sgB y
        · rw [if_pos (p3 c s)]
          rw [s] at k4
          clear p1 p2 p3 p4 c h1 h2 k3 s
          go_enter Try.func81, Try.ntmps81
          go_wp2_with (first | (go_at_call 55; refine (k1 _).mono ?_; rintro e w' ⟨rfl, rfl⟩) | (go_at_call 55; refine (k2 _).mono ?_; rintro e w' ⟨rfl, rfl⟩) | (go_at_call 58; refine (k4 _).mono ?_; rintro e w' ⟨rfl, rfl⟩))
          go_ret
          exact ⟨rfl, rfl⟩
        · rw [p4 c s]
          rw [s] at k4
          clear p1 p2 p3 p4 c h1 h2 k3 s
          go_enter Try.func81, Try.ntmps81
          go_wp2_with (first | (go_at_call 55; refine (k1 _).mono ?_; rintro e w' ⟨rfl, rfl⟩) | (go_at_call 55; refine (k2 _).mono ?_; rintro e w' ⟨rfl, rfl⟩) | (go_at_call 58; refine (k4 _).mono ?_; rintro e w' ⟨rfl, rfl⟩))
          go_ret
          exact ⟨rfl, rfl⟩
      · rw [if_pos (p2 c)]
        have o3 : FloatKind.f64.format.order y x = some .gt := by rw [o1]; simp [compare, compareOfLessAndEq, show ¬ plc64 y < plc64 x by omega, show ¬ plc64 y = plc64 x by omega]
        have o4 : FloatKind.f64.format.order x y = some .lt := by rw [o2]; simp [compare, compareOfLessAndEq, c]
        clear o1 o2 p1 p2 p3 p4 c h1 h2 k3 k4
        go_enter Try.func81, Try.ntmps81
        go_wp2_with (first | (go_at_call 55; refine (k1 _).mono ?_; rintro e w' ⟨rfl, rfl⟩) | (go_at_call 55; refine (k2 _).mono ?_; rintro e w' ⟨rfl, rfl⟩))
        go_ret
        exact ⟨rfl, rfl⟩
    · rw [h1] at k1
      rw [h2] at k2
      rw [if_pos (by decide)]
      clear h1 h2 k4
      go_enter Try.func81, Try.ntmps81
      go_wp2_with (first | (go_at_call 55; refine (k1 _).mono ?_; rintro e w' ⟨rfl, rfl⟩) | (go_at_call 55; refine (k2 _).mono ?_; rintro e w' ⟨rfl, rfl⟩) | (go_at_call 56; refine (k3 _).mono ?_; rintro e w' ⟨rfl, rfl⟩))
      go_ret
      exact ⟨rfl, rfl⟩
  · rw [h1] at k1
    rw [if_pos (by simp)]
    clear h1 k4 k2
    go_enter Try.func81, Try.ntmps81
    go_wp2_with (first | (go_at_call 55; refine (k1 _).mono ?_; rintro e w' ⟨rfl, rfl⟩) | (go_at_call 56; refine (k3 _).mono ?_; rintro e w' ⟨rfl, rfl⟩))
    go_ret
    exact ⟨rfl, rfl⟩
/-- Block b holds this Run. -/
def RqB (w : World) (b : Nat) (n : Int) (m s l g : Nat) : Prop := w.heap[b]? = some (.cells (rc n m s l g) 63 (0, 0))
theorem RqB.lt {w : World} {b : Nat} {n : Int} {m s l g : Nat} (h : RqB w b n m s l g) : b < w.heap.size := (Array.getElem?_eq_some_iff.1 h).1
theorem RqB.below {w w' : World} {b : Nat} {n : Int} {m s l g : Nat} (h : RqB w b n m s l g) (hb : Below w.heap.size w w') : RqB w' b n m s l g := (hb.block b h.lt).trans h
theorem RqB.kept {w w' : World} {b c : Nat} {n : Int} {m s l g : Nat} (h : RqB w b n m s l g) (hg : w.grownBy w' (some c)) (hc : b ≠ c) : RqB w' b n m s l g :=
  (hg.block b h.lt (fun e => hc (by cases e; rfl))).trans h
theorem RqB.c0 {w : World} {b : Nat} {n : Int} {m s l g : Nat} (h : RqB w b n m s l g) : w.cell? ⟨b, 0, none⟩ = some (.int .i64 n) := cell_of_row w b 0 _ _ _ h
theorem RqB.c1 {w : World} {b : Nat} {n : Int} {m s l g : Nat} (h : RqB w b n m s l g) : w.cell? ⟨b, 1, none⟩ = some (.float .f64 m) := cell_of_row w b 1 _ _ _ h
theorem RqB.c2 {w : World} {b : Nat} {n : Int} {m s l g : Nat} (h : RqB w b n m s l g) : w.cell? ⟨b, 2, none⟩ = some (.float .f64 s) := cell_of_row w b 2 _ _ _ h
theorem RqB.c3 {w : World} {b : Nat} {n : Int} {m s l g : Nat} (h : RqB w b n m s l g) : w.cell? ⟨b, 3, none⟩ = some (.float .f64 l) := cell_of_row w b 3 _ _ _ h
theorem RqB.c4 {w : World} {b : Nat} {n : Int} {m s l g : Nat} (h : RqB w b n m s l g) : w.cell? ⟨b, 4, none⟩ = some (.float .f64 g) := cell_of_row w b 4 _ _ _ h
theorem wp_sq {Q : Exit → Act → World → Prop} {o : Oper} {a : Act} {w : World} {K : Act → World → Prop} {x y : Operand} {b i r : Nat} {cs : Array Value} (l : List (Nat × Value)) (hl : AllIn a l) (hc : covers o l = true) (hd : o.dst = none) (ho : o.op = .store 22 x y) (hx : rho l x = .pointer (some ⟨b, i, none⟩)) (hy : rho l y = .float .f64 r)
    (hg : w.heap[b]? = some (.cells cs 63 (0, 0))) (hi : i < cs.size) (h : K a (w.setCell ⟨b, i, none⟩ (.float .f64 r))) : o.wp Try.prog a w K Q := by
  have hr := run_sf (P := Try.prog) (k := .f64) (n := r) hg hi (ty := 22) (by kernel_rfl)
  unfold Oper.wp
  rw [exec_rho l hl hc]
  unfold execOp
  simp only [ho, hx, hy, Instr.storeAt, Instr.sureAddr, Sem.run_bind, Sem.run_pure, Result.andThen_ok, hr, Oper.upon]
  rw [hd]
  exact h
/-- Only block b is written. -/
structure Wq (b : Nat) (w0 : World) (C : (Nat → Bool) → Array Value → Prop) (s : Nat → Bool) (w : World) : Prop where
  grow : w0.grownBy w (some b)
  at_ : ∃ cs, C s cs ∧ w.heap[b]? = some (.cells cs 63 (0, 0))
theorem Wq.steady {b : Nat} {w0 : World} {C : (Nat → Bool) → Array Value → Prop} (i : Nat) (h : ∀ s cs, s i = false → C s cs → C (mark s i) cs) : ∀ s w w', s i = false → Wq b w0 C s w → Below w.heap.size w w' → Wq b w0 C (mark s i) w' := fun s w w' hs hw hb => by
  obtain ⟨cs, h1, h2⟩ := hw.at_
  exact ⟨grow_below hw.grow hb, cs, h s cs hs h1, below_at h2 hb⟩
theorem Wq.start {b : Nat} {w0 : World} {C : (Nat → Bool) → Array Value → Prop} (cs : Array Value) (h : w0.heap[b]? = some (.cells cs 63 (0, 0))) (hC : ∀ s, (∀ j, s j = false) → C s cs) : ∀ w1, Below w0.heap.size w0 w1 → w1.heap.size = w0.heap.size → ∀ s : Nat → Bool, (∀ j, s j = false) → Wq b w0 C s w1 := fun _ hb _ s hs =>
  ⟨grow_below (grow_refl w0 b) hb, cs, hC s hs, below_at h hb⟩
theorem Wq.set {b i r : Nat} {w0 w : World} {C : (Nat → Bool) → Array Value → Prop} {s s' : Nat → Bool} {cs : Array Value} (h : Wq b w0 C s w) (hat : w.heap[b]? = some (.cells cs 63 (0, 0))) (hC : C s' (cs.setIfInBounds i (.float .f64 r))) : Wq b w0 C s' (w.setCell ⟨b, i, none⟩ (.float .f64 r)) :=
  ⟨grow_trans h.grow (grow_set w b i _), _, hC, set_at _ hat⟩
theorem RqB.fz {w : World} {b i : Nat} {n : Int} {m s l g : Nat} (h : RqB w b n m s l g) : w.frozen? ⟨b, i, none⟩ = false := froz h
theorem RqB.set0 {w : World} {b : Nat} {n k : Int} {m s l g : Nat} (h : RqB w b n m s l g) : RqB (w.setCell ⟨b, 0, none⟩ (.int .i64 k)) b k m s l g := set_at (i := 0) _ h
theorem RqB.set3 {w : World} {b r : Nat} {n : Int} {m s l g : Nat} (h : RqB w b n m s l g) : RqB (w.setCell ⟨b, 3, none⟩ (.float .f64 r)) b n m s r g := set_at (i := 3) _ h
theorem RqB.set4 {w : World} {b r : Nat} {n : Int} {m s l g : Nat} (h : RqB w b n m s l g) : RqB (w.setCell ⟨b, 4, none⟩ (.float .f64 r)) b n m s l r := set_at (i := 4) _ h
theorem RqB.set1 {w : World} {b r : Nat} {n : Int} {m s l g : Nat} (h : RqB w b n m s l g) : RqB (w.setCell ⟨b, 1, none⟩ (.float .f64 r)) b n r s l g := set_at (i := 1) _ h
theorem RqB.set2 {w : World} {b r : Nat} {n : Int} {m s l g : Nat} (h : RqB w b n m s l g) : RqB (w.setCell ⟨b, 2, none⟩ (.float .f64 r)) b n m r l g := set_at (i := 2) _ h
attribute [local go_sem] run_stf
theorem info63 : (Try.prog.info? 63).map (fun i => (i.zero, i.size)) = some (some (.agg (rc 0 0 0 0 0)), 5) := by kernel_rfl
/-- The last, anywhere: a row is loaded, stored as the answer, and handed back. -/
theorem ret_rowQ {P : Program} {f : Func} {post : Ending → World → Prop} {Q2 : Exit → Act → World → Prop} {id : Nat} {o1 o2 : Oper} {a : Act} {w : World} {gp gr : Nat} (ty : TypeId) (tp td tr : Tmp) {cs cs0 : Array Value} {tt tt' : TypeId} {d : TypeDesc} (h1 : o1.op = .load ty (.tmp tp)) (h2 : o1.dst = some td) (h3 : o2.op = .store ty (.tmp tr) (.tmp td)) (h4 : o2.dst = none) (hgd : o1.guard = none ∧ o2.guard = none) (hne : td < a.tmps.size ∧ td ≠ tr)
    (hp : a.tmps[tp]? = some (.pointer (some ⟨gp, 0, none⟩))) (hr : a.tmps[tr]? = some (.pointer (some ⟨gr, 0, none⟩))) (hgp : w.heap[gp]? = some (.cells cs tt (0, 0))) (hgr : w.heap[gr]? = some (.cells cs0 tt' (0, 0))) (hsz : cs0.size = cs.size)
    (hu : P.underlying ty = some d) (hd : (match d with | .struct _ | .array _ _ => true | _ => false) = true) (hi : (P.info? ty).map (·.size) = some cs.size) (hone : cs.all (·.oneCell') = true) (hres : f.results = #[.cell tr ty]) (hdf : a.defers = [])
    (hQ : ∀ a w, bodyPost P f post .ret a w → Q2 .ret a w)
    (h : post (.returned (.agg cs)) (w.setRow gr cs)) : Code.wp P ((Code.region id #[o1, o2] false).seq Code.ret) Q2 a w := by
  refine wp_seq (wp_region_list ?_)
  show wpList P _ _ [o1, o2] a w
  refine wpList_load_row hgd.1 ty _ h1 gp (ev_tmp hp) tt cs (0, 0) d hgp hu hd hi ?_
  rw [h2]
  have e1 : (a.put (some td) (.agg cs)).tmps[tr]? = some (.pointer (some ⟨gr, 0, none⟩)) := (put_other hne.2).trans hr
  have e2 : (a.put (some td) (.agg cs)).tmps[td]? = some (.agg cs) := by simp [Act.put, hne.1]
  refine wpList_store_row hgd.2 ty _ _ h3 gr cs (ev_tmp e1) (ev_tmp e2) tt' cs0 hgr hi hsz hone ?_
  rw [h4]
  refine wp_ret (hQ _ _ (bodyPost_ret (results_cell_row hres _ _ gr tt' cs (0, 0) d ?_ (setRow_heap _ _ _ _ _ _ hgr) hu hd hi) ?_ h))
  · show ((a.put (some td) (.agg cs)).tmps).getD tr undef = _
    simp [e1]
  · exact hdf
noncomputable def body47 : Code := Try.f47.body.getD .skip
/-- The first branch. -/
def thn : Code → Code
  | .cond _ t _ => t
  | c => c
noncomputable def br47 : Code := thn (sq 1 (hd (sq 7 body47)))
set_option maxRecDepth 100000 in
set_option maxHeartbeats 2000000 in
theorem run_0 {Q : Ending → World → Prop} (n m s l g x : Nat) (w : World)
    (hK : Hid (∀ a w2, Below w.heap.size w w2 → RqB w2 w.heap.size n m s l g → RqB w2 (w.heap.size + 1) 0 0 0 0 0 → At 59 [(1, .float .f64 x), (2, .pointer (some ⟨w.heap.size, 0, none⟩)), (4, .pointer (some ⟨w.heap.size + 1, 0, none⟩))] a → Code.wp Try.prog (sq 1 body47) (bodyPost Try.prog Try.f47 Q) a w2)) : Calls Try.prog 47 #[.agg (rc n m s l g), .float .f64 x] w Q := by
  obtain ⟨hz, hi⟩ := zero_of_info info63
  have E0 : Hid (RqB ((w.alloc (.cells (rc n m s l g) 63)).alloc (.cells (rc 0 0 0 0 0) 63)) w.heap.size n m s l g) := (Below.heap_alloc _ _ _ (by simp)).trans (heap_alloc_last _ _)
  have E1 : Hid (RqB ((w.alloc (.cells (rc n m s l g) 63)).alloc (.cells (rc 0 0 0 0 0) 63)) (w.heap.size + 1) 0 0 0 0 0) := by
    have := heap_alloc_last (w.alloc (.cells (rc n m s l g) 63)) (.cells (rc 0 0 0 0 0) 63)
    rw [Hid]
    unfold RqB
    simpa using this
  have B0 : Hid (Below w.heap.size w ((w.alloc (.cells (rc n m s l g) 63)).alloc (.cells (rc 0 0 0 0 0) 63))) := ((Below.refl _ _).alloc (Nat.le_refl _) _).alloc (by simp) _
  have hs : (rc n m s l g).size = 5 := rfl
  generalize rc n m s l g = R1 at *
  generalize rc 0 0 0 0 0 = R2 at *
  go_enter Try.func47, Try.ntmps47
  change Code.wp _ (Code.seq (hd (sq 0 body47)) (sq 1 body47)) _ _ _
  generalize sq 1 body47 = REST at hK ⊢
  conv => arg 2; arg 1; whnf
  go_wp2
  exact hK.out _ _ B0.out E0.out E1.out ⟨rfl, rfl, rfl, rfl, rfl, trivial⟩
set_option maxRecDepth 100000 in
set_option maxHeartbeats 2000000 in
theorem run_1 {Q : Exit → Act → World → Prop} (p q n m s l g x : Nat) (M X : Option Nat) (a : Act) (w0 : World) (hn : n < 65536) (hR : RqB w0 p n m s l g) (hM : Hid (Is m M)) (hX : Hid (Is x X))
    (hK : Hid (∀ a w2 d, w0.grownBy w2 (some p) → RqB w2 p ((n + 1 : Nat) : Int) m s l g → Is d (fop .sub X M) → At 59 [(1, .float .f64 x), (2, .pointer (some ⟨p, 0, none⟩)), (4, .pointer (some ⟨q, 0, none⟩)), (5, .float .f64 d)] a → Code.wp Try.prog (sq 3 body47) Q a w2)) (ha : At 59 [(1, .float .f64 x), (2, .pointer (some ⟨p, 0, none⟩)), (4, .pointer (some ⟨q, 0, none⟩))] a) : Code.wp Try.prog (sq 1 body47) Q a w0 := by
  have c0 := hR.c0
  have fz := hR.fz (i := 0)
  have hR2 : RqB (w0.setCell ⟨p, 0, none⟩ (.int .i64 ((n : Int) + 1))) p ((n : Int) + 1) m s l g := hR.set0
  have c1 := hR2.c1
  have hW : Hid (RqB (w0.setCell ⟨p, 0, none⟩ (.int .i64 ((n : Int) + 1))) p ((n : Int) + 1) m s l g) := hR2
  have hG : Hid (w0.grownBy (w0.setCell ⟨p, 0, none⟩ (.int .i64 ((n : Int) + 1))) (some p)) := grow_set _ _ _ _
  have hn2 : (n : Int) < 65536 := by omega
  have hE : Hid (((n + 1 : Nat) : Int) = (n : Int) + 1) := by rw [Hid]; omega
  clear hR hR2 hn
  obtain ⟨f, rfl, h1, h2, h4, -⟩ := ha.lit
  change Code.wp _ _ _ ⟨#[f 0, f 1, f 2, f 3, f 4, f 5, f 6, f 7, f 8, f 9, f 10, f 11, f 12, f 13, f 14, f 15, f 16, f 17, f 18, f 19, f 20, f 21, f 22, f 23, f 24, f 25, f 26, f 27, f 28, f 29, f 30, f 31, f 32, f 33, f 34, f 35, f 36, f 37, f 38, f 39, f 40, f 41, f 42, f 43, f 44, f 45, f 46, f 47, f 48, f 49, f 50, f 51, f 52, f 53, f 54, f 55, f 56, f 57, f 58], []⟩ _
  simp only at h1 h2 h4
  simp only [h1, h2, h4]
  clear h1 h2 h4
  change Code.wp _ (Code.seq (hd (sq 1 body47)) (Code.seq (hd (sq 2 body47)) (sq 3 body47))) _ _ _
  generalize sq 3 body47 = REST at hK ⊢
  conv => arg 2; arg 1; whnf
  conv => arg 2; arg 2; arg 1; whnf
  go_wp2_with (refine wpList_flt rfl .sub .f64 _ _ _ _ rfl rfl _ _ rfl rfl ?_)
  intro d w1 f1 a1
  have h5 := hX.out.op hM.out f1.out
  have hR3 := hW.out.below (a1.out.below _)
  have hG3 := grow_below hG.out (a1.out.below _)
  rw [← hE.out] at hR3
  go_wp2
  exact hK.out _ w1 d hG3 hR3 h5 ⟨rfl, rfl, rfl, rfl, rfl, rfl, trivial⟩
set_option maxRecDepth 100000 in
set_option maxHeartbeats 2000000 in
theorem run_3 {Q : Exit → Act → World → Prop} (p q n m s l g x d : Nat) (M D : Option Nat) (a : Act) (w0 : World) (hR : RqB w0 p n m s l g) (hM : Hid (Is m M)) (hD : Hid (Is d D))
    (hK : Hid (∀ a w2 m', w0.grownBy w2 (some p) → RqB w2 p n m' s l g → Is m' (fop .add M (fop .quo D (inj (floatOfInt .f64 (n : Int))))) → At 59 [(1, .float .f64 x), (2, .pointer (some ⟨p, 0, none⟩)), (4, .pointer (some ⟨q, 0, none⟩)), (5, .float .f64 d)] a → Code.wp Try.prog (sq 5 body47) Q a w2)) (ha : At 59 [(1, .float .f64 x), (2, .pointer (some ⟨p, 0, none⟩)), (4, .pointer (some ⟨q, 0, none⟩)), (5, .float .f64 d)] a) : Code.wp Try.prog (sq 3 body47) Q a w0 := by
  have c0 := hR.c0
  have hW : Hid (RqB w0 p n m s l g) := hR
  clear hR
  obtain ⟨f, rfl, h1, h2, h4, h5, -⟩ := ha.lit
  change Code.wp _ _ _ ⟨#[f 0, f 1, f 2, f 3, f 4, f 5, f 6, f 7, f 8, f 9, f 10, f 11, f 12, f 13, f 14, f 15, f 16, f 17, f 18, f 19, f 20, f 21, f 22, f 23, f 24, f 25, f 26, f 27, f 28, f 29, f 30, f 31, f 32, f 33, f 34, f 35, f 36, f 37, f 38, f 39, f 40, f 41, f 42, f 43, f 44, f 45, f 46, f 47, f 48, f 49, f 50, f 51, f 52, f 53, f 54, f 55, f 56, f 57, f 58], []⟩ _
  simp only at h1 h2 h4 h5
  simp only [h1, h2, h4, h5]
  clear h1 h2 h4 h5
  change Code.wp _ (Code.seq (hd (sq 3 body47)) (Code.seq (hd (sq 4 body47)) (sq 5 body47))) _ _ _
  generalize sq 5 body47 = REST at hK ⊢
  conv => arg 2; arg 1; whnf
  conv => arg 2; arg 2; arg 1; whnf
  go_wp2_with (refine wpList_flt rfl .quo .f64 _ _ _ _ rfl rfl _ _ rfl rfl ?_)
  intro r w1 f1 a1
  have h5 : Hid (Is r (fop .quo D (inj (floatOfInt .f64 (n : Int))))) := hD.out.op (len_is (n : Int)) f1.out
  have hR1 := hW.out.below (a1.out.below _)
  have hG1 : Hid (w0.grownBy w1 (some p)) := grow_below (grow_refl _ _) (a1.out.below _)
  have c1 := hR1.c1
  have hW1 : Hid (RqB w1 p n m s l g) := hR1
  clear hW a1 f1 c0 hR1
  go_wp2_with (refine wpList_flt rfl .add .f64 _ _ _ _ rfl rfl _ _ rfl rfl ?_)
  intro r2 w2 f2 a2
  have h6 : Hid (Is r2 (fop .add M (fop .quo D (inj (floatOfInt .f64 (n : Int)))))) := hM.out.op h5.out f2.out
  have hR2 := hW1.out.below (a2.out.below _)
  have hG2 : Hid (w0.grownBy w2 (some p)) := grow_below hG1.out (a2.out.below _)
  have c2 := hR2.c1
  have fz := hR2.fz (i := 1)
  have hW2 : Hid (RqB w2 p n m s l g) := hR2
  clear hW1 a2 f2 c1 hR2 h5 hG1
  go_wp2
  exact hK.out _ _ r2 (grow_trans hG2.out (grow_set _ _ _ _)) hW2.out.set1 h6.out ⟨rfl, rfl, rfl, rfl, rfl, rfl, trivial⟩
set_option maxRecDepth 100000 in
set_option maxHeartbeats 2000000 in
theorem run_5 {Q : Exit → Act → World → Prop} (p q n m s l g x d : Nat) (M S X D : Option Nat) (a : Act) (w0 : World) (hR : RqB w0 p n m s l g) (hM : Hid (Is m M)) (hS : Hid (Is s S)) (hX : Hid (Is x X)) (hD : Hid (Is d D))
    (hK : Hid (∀ a w2 s', w0.grownBy w2 (some p) → RqB w2 p n m s' l g → Is s' (fop .add S (fop .mul D (fop .sub X M))) → At 59 [(1, .float .f64 x), (2, .pointer (some ⟨p, 0, none⟩)), (4, .pointer (some ⟨q, 0, none⟩))] a → Code.wp Try.prog (sq 7 body47) Q a w2)) (ha : At 59 [(1, .float .f64 x), (2, .pointer (some ⟨p, 0, none⟩)), (4, .pointer (some ⟨q, 0, none⟩)), (5, .float .f64 d)] a) : Code.wp Try.prog (sq 5 body47) Q a w0 := by
  have c1 := hR.c1
  have hW : Hid (RqB w0 p n m s l g) := hR
  clear hR
  obtain ⟨f, rfl, h1, h2, h4, h5, -⟩ := ha.lit
  change Code.wp _ _ _ ⟨#[f 0, f 1, f 2, f 3, f 4, f 5, f 6, f 7, f 8, f 9, f 10, f 11, f 12, f 13, f 14, f 15, f 16, f 17, f 18, f 19, f 20, f 21, f 22, f 23, f 24, f 25, f 26, f 27, f 28, f 29, f 30, f 31, f 32, f 33, f 34, f 35, f 36, f 37, f 38, f 39, f 40, f 41, f 42, f 43, f 44, f 45, f 46, f 47, f 48, f 49, f 50, f 51, f 52, f 53, f 54, f 55, f 56, f 57, f 58], []⟩ _
  simp only at h1 h2 h4 h5
  simp only [h1, h2, h4, h5]
  clear h1 h2 h4 h5
  change Code.wp _ (Code.seq (hd (sq 5 body47)) (Code.seq (hd (sq 6 body47)) (sq 7 body47))) _ _ _
  generalize sq 7 body47 = REST at hK ⊢
  conv => arg 2; arg 1; whnf
  conv => arg 2; arg 2; arg 1; whnf
  go_wp2_with (refine wpList_flt rfl .sub .f64 _ _ _ _ rfl rfl _ _ rfl rfl ?_)
  intro r w1 f1 a1
  have h5 : Hid (Is r (fop .sub X M)) := hX.out.op hM.out f1.out
  have hR1 := hW.out.below (a1.out.below _)
  have hG1 : Hid (w0.grownBy w1 (some p)) := grow_below (grow_refl _ _) (a1.out.below _)
  have c2 := hR1.c2
  have hW1 : Hid (RqB w1 p n m s l g) := hR1
  clear hW a1 f1 c1 hR1
  go_wp2_with (refine wpList_flt rfl .mul .f64 _ _ _ _ rfl rfl _ _ rfl rfl ?_)
  intro r2 w2 f2 a2
  have h6 : Hid (Is r2 (fop .mul D (fop .sub X M))) := hD.out.op h5.out f2.out
  have hR2 := hW1.out.below (a2.out.below _)
  have hG2 : Hid (w0.grownBy w2 (some p)) := grow_below hG1.out (a2.out.below _)
  have hW2 : Hid (RqB w2 p n m s l g) := hR2
  clear hW1 a2 f2 c2 hR2 h5 hG1
  go_wp2_with (refine wpList_flt rfl .add .f64 _ _ _ _ rfl rfl _ _ rfl rfl ?_)
  intro r3 w3 f3 a3
  have h7 : Hid (Is r3 (fop .add S (fop .mul D (fop .sub X M)))) := hS.out.op h6.out f3.out
  have hR3 := hW2.out.below (a3.out.below _)
  have hG3 : Hid (w0.grownBy w3 (some p)) := grow_below hG2.out (a3.out.below _)
  have c3 := hR3.c2
  have fz := hR3.fz (i := 2)
  have hW3 : Hid (RqB w3 p n m s l g) := hR3
  clear hW2 a3 f3 hR3 h6 hG2
  go_wp2
  exact hK.out _ _ r3 (grow_trans hG3.out (grow_set _ _ _ _)) hW3.out.set2 h7.out ⟨rfl, rfl, rfl, rfl, rfl, trivial⟩
set_option maxRecDepth 100000 in
set_option maxHeartbeats 2000000 in
theorem run_7a {Q : Exit → Act → World → Prop} (p q m s l g x : Nat) (a : Act) (w0 : World) (hR : RqB w0 p 1 m s l g)
    (hK : Hid (∀ (Q2 : Exit → Act → World → Prop), (∀ a w, Q .ret a w → Q2 .ret a w) → ∀ a w2, w0.grownBy w2 (some p) → RqB w2 p 1 m s x x → At 59 [(1, .float .f64 x), (2, .pointer (some ⟨p, 0, none⟩)), (4, .pointer (some ⟨q, 0, none⟩))] a → Code.wp Try.prog (sq 1 br47) Q2 a w2)) (ha : At 59 [(1, .float .f64 x), (2, .pointer (some ⟨p, 0, none⟩)), (4, .pointer (some ⟨q, 0, none⟩))] a) : Code.wp Try.prog (sq 7 body47) Q a w0 := by
  have c0 := hR.c0
  have c3 := hR.c3
  have fz := hR.fz (i := 3)
  have hR2 : RqB (w0.setCell ⟨p, 3, none⟩ (.float .f64 x)) p 1 m s x g := hR.set3
  have c4 := hR2.c4
  have fz4 := hR2.fz (i := 4)
  have hR3 : Hid (RqB ((w0.setCell ⟨p, 3, none⟩ (.float .f64 x)).setCell ⟨p, 4, none⟩ (.float .f64 x)) p 1 m s x x) := hR2.set4
  have hG : Hid (w0.grownBy ((w0.setCell ⟨p, 3, none⟩ (.float .f64 x)).setCell ⟨p, 4, none⟩ (.float .f64 x)) (some p)) := grow_trans (grow_set _ _ _ _) (grow_set _ _ _ _)
  clear hR hR2
  obtain ⟨f, rfl, h1, h2, h4, -⟩ := ha.lit
  change Code.wp _ _ _ ⟨#[f 0, f 1, f 2, f 3, f 4, f 5, f 6, f 7, f 8, f 9, f 10, f 11, f 12, f 13, f 14, f 15, f 16, f 17, f 18, f 19, f 20, f 21, f 22, f 23, f 24, f 25, f 26, f 27, f 28, f 29, f 30, f 31, f 32, f 33, f 34, f 35, f 36, f 37, f 38, f 39, f 40, f 41, f 42, f 43, f 44, f 45, f 46, f 47, f 48, f 49, f 50, f 51, f 52, f 53, f 54, f 55, f 56, f 57, f 58], []⟩ _
  simp only at h1 h2 h4
  simp only [h1, h2, h4]
  clear h1 h2 h4
  change Code.wp _ (Code.seq (Code.seq (hd (hd (sq 7 body47))) (Code.cond (.tmp 39) (Code.seq (hd br47) (sq 1 br47)) .skip)) (sq 8 body47)) _ _ _
  generalize sq 1 br47 = REST9 at hK ⊢
  generalize sq 8 body47 = REST
  conv => arg 2; arg 1; arg 1; whnf
  conv => arg 2; arg 1; arg 2; arg 2; arg 1; whnf
  go_wp2
  refine hK.out (Exit.then _ Q) (fun _ _ h => h) _ _ hG.out hR3.out ?_
  exact ⟨rfl, rfl, rfl, rfl, rfl, trivial⟩
set_option maxRecDepth 100000 in
set_option maxHeartbeats 2000000 in
theorem run_7b {Q : Exit → Act → World → Prop} (p q n m s l g x : Nat) (a : Act) (w0 : World) (hR : RqB w0 p n m s l g) (hn : (((n : Nat) : Int) == 1) = false)
    (hK : Hid (∀ a, At 59 [(1, .float .f64 x), (2, .pointer (some ⟨p, 0, none⟩)), (4, .pointer (some ⟨q, 0, none⟩))] a → Code.wp Try.prog (sq 8 body47) Q a w0)) (ha : At 59 [(1, .float .f64 x), (2, .pointer (some ⟨p, 0, none⟩)), (4, .pointer (some ⟨q, 0, none⟩))] a) : Code.wp Try.prog (sq 7 body47) Q a w0 := by
  have c0 := hR.c0
  clear hR
  obtain ⟨f, rfl, h1, h2, h4, -⟩ := ha.lit
  change Code.wp _ _ _ ⟨#[f 0, f 1, f 2, f 3, f 4, f 5, f 6, f 7, f 8, f 9, f 10, f 11, f 12, f 13, f 14, f 15, f 16, f 17, f 18, f 19, f 20, f 21, f 22, f 23, f 24, f 25, f 26, f 27, f 28, f 29, f 30, f 31, f 32, f 33, f 34, f 35, f 36, f 37, f 38, f 39, f 40, f 41, f 42, f 43, f 44, f 45, f 46, f 47, f 48, f 49, f 50, f 51, f 52, f 53, f 54, f 55, f 56, f 57, f 58], []⟩ _
  simp only at h1 h2 h4
  simp only [h1, h2, h4]
  clear h1 h2 h4
  change Code.wp _ (Code.seq (Code.seq (hd (hd (sq 7 body47))) (Code.cond (.tmp 39) (Code.seq (hd br47) (sq 1 br47)) .skip)) (sq 8 body47)) _ _ _
  generalize sq 1 br47 = REST9
  generalize sq 8 body47 = REST at hK ⊢
  conv => arg 2; arg 1; arg 1; whnf
  conv => arg 2; arg 1; arg 2; arg 2; arg 1; whnf
  go_wp2
  exact hK.out _ ⟨rfl, rfl, rfl, rfl, rfl, trivial⟩
def V4710 (p x l g : Nat) : (Nat → Bool) → Nat → Value → World → Prop := fun _ j v _ => match j with
  | 0 => v = .pointer (some ⟨p, 3, none⟩)
  | 1 => v = .float .f64 l
  | 2 => v = .float .f64 x
  | 3 => v = .float .f64 (lesB l x)
  | 4 => v = .pointer (some ⟨p, 4, none⟩)
  | 5 => v = .float .f64 g
  | 6 => v = .float .f64 (ngB g)
  | 7 => v = .float .f64 x
  | 8 => v = .float .f64 (ngB x)
  | 9 => v = .float .f64 (lesB (ngB g) (ngB x))
  | 10 => v = .float .f64 (ngB (lesB (ngB g) (ngB x)))
  | 11 => v = .pointer (some ⟨p, 3, none⟩)
  | 12 => True
  | 13 => v = .pointer (some ⟨p, 4, none⟩)
  | 14 => True
  | _ => True
def C4710 (n m s l g x : Nat) : (Nat → Bool) → Array Value → Prop := fun q cs => cs = rc n m s (if q 12 = true then lesB l x else l) (if q 14 = true then ngB (lesB (ngB g) (ngB x)) else g)
theorem v4710_calm (p n m s l g x : Nat) (w0 : World) (i : Nat) (h1 : (12 == i) = false) (h2 : (14 == i) = false) : Calm (Wq p w0 (C4710 n m s l g x)) (V4710 p x l g) i :=
  ⟨Wq.steady i fun q cs _ h => by unfold C4710 at *; rw [mark_ne q i 12 h1, mark_ne q i 14 h2]; exact h, fun _ _ _ _ _ _ _ h _ => h⟩
set_option maxRecDepth 100000 in
set_option maxHeartbeats 2000000 in
theorem run_8 {Q : Exit → Act → World → Prop} (p q n m s l g x : Nat) (a : Act) (w0 : World) (hR : Hid (RqB w0 p n m s l g)) (hl : Hid (l < 18446744073709551616)) (hg : Hid (g < 18446744073709551616)) (hx : Hid (x < 18446744073709551616))
    (hK : Hid (∀ a w2, w0.grownBy w2 (some p) → RqB w2 p n m s (lesB l x) (ngB (lesB (ngB g) (ngB x))) → At 59 [(2, .pointer (some ⟨p, 0, none⟩)), (4, .pointer (some ⟨q, 0, none⟩))] a → Code.wp Try.prog (sq 9 body47) Q a w2)) (ha : At 59 [(1, .float .f64 x), (2, .pointer (some ⟨p, 0, none⟩)), (4, .pointer (some ⟨q, 0, none⟩))] a) : Code.wp Try.prog (sq 8 body47) Q a w0 := by
  obtain ⟨f, rfl, h1, h2, h4, -⟩ := ha.lit
  change Code.wp _ _ _ ⟨#[f 0, f 1, f 2, f 3, f 4, f 5, f 6, f 7, f 8, f 9, f 10, f 11, f 12, f 13, f 14, f 15, f 16, f 17, f 18, f 19, f 20, f 21, f 22, f 23, f 24, f 25, f 26, f 27, f 28, f 29, f 30, f 31, f 32, f 33, f 34, f 35, f 36, f 37, f 38, f 39, f 40, f 41, f 42, f 43, f 44, f 45, f 46, f 47, f 48, f 49, f 50, f 51, f 52, f 53, f 54, f 55, f 56, f 57, f 58], []⟩ _
  simp only at h1 h2 h4
  simp only [h1, h2, h4]
  clear h1 h2 h4
  change Code.wp _ (Code.seq (hd (sq 8 body47)) (sq 9 body47)) _ _ _
  generalize sq 9 body47 = REST at hK ⊢
  conv => arg 2; arg 1; whnf
  refine wp_seq ?_
  refine wp_region_turn (Wq p w0 (C4710 n m s l g x)) (V4710 p x l g) 59 rfl (by kernel_rfl) (by kernel_rfl) (Wq.start _ hR.out fun q hq => (show C4710 n m s l g x _ _ from by unfold C4710; rw [hq 12, hq 14]; rfl)) ⟨?o0, ?o1, ?o2, ?o3, ?o4, ?o5, ?o6, ?o7, ?o8, ?o9, ?o10, ?o11, ?o12, ?o13, ?o14, trivial⟩ ?hdone
  case o0 => exact FlowOp4.plain (v4710_calm _ _ _ _ _ _ _ _ 0 rfl rfl) fun a4 w4 s4 cx => ⟨wanted_none rfl, fun K hK => by
    have e0 := cx.keep 2 (.pointer (some ⟨p, 0, none⟩)) (by kernel_rfl) rfl
    exact wp_gen [(2, .pointer (some ⟨p, 0, none⟩))] ⟨e0, trivial⟩ (by kernel_rfl) (by kernel_rfl) (hK.out _ w4 (show V4710 p x l g _ 0 _ _ from rfl) (Below.refl _ _))⟩
  case o1 => exact FlowOp4.plain (v4710_calm _ _ _ _ _ _ _ _ 1 rfl rfl) fun a4 w4 s4 cx => ⟨wanted_none rfl, fun K hK => by
    obtain ⟨v0, e0, r0⟩ := cx.slot 0 45 (by kernel_rfl)
    obtain rfl : v0 = .pointer (some ⟨p, 3, none⟩) := r0
    have hn12 : s4 12 = false := by
      cases q : s4 12 with
      | false => rfl
      | true =>
        have q3 := cx.down 12 _ rfl q 3 (by kernel_rfl)
        have q1 := cx.down 3 _ rfl q3 1 (by kernel_rfl)
        rw [cx.new] at q1; cases q1
    obtain ⟨cs, hC, hat⟩ := cx.ground.at_
    obtain rfl : cs = rc n m s (if s4 12 = true then lesB l x else l) (if s4 14 = true then ngB (lesB (ngB g) (ngB x)) else g) := hC
    have hcl := RqB.c3 hat
    rw [hn12, if_neg (by decide)] at hcl
    exact wp_gen [(45, .pointer (some ⟨p, 3, none⟩))] ⟨e0, trivial⟩ (by kernel_rfl) (run_read rfl rfl (run_lf22 hcl)) (hK.out _ w4 (show V4710 p x l g _ 1 _ _ from rfl) (Below.refl _ _))⟩
  case o2 => exact FlowOp4.plain (v4710_calm _ _ _ _ _ _ _ _ 2 rfl rfl) fun a4 w4 s4 cx => ⟨wanted_none rfl, fun K hK => by
    have e0 := cx.keep 1 (.float .f64 x) (by kernel_rfl) rfl
    exact wp_gen [(1, .float .f64 x)] ⟨e0, trivial⟩ (by kernel_rfl) (by kernel_rfl) (hK.out _ w4 (show V4710 p x l g _ 2 _ _ from rfl) (Below.refl _ _))⟩
  case o3 => exact FlowOp4.plain (v4710_calm _ _ _ _ _ _ _ _ 3 rfl rfl) fun a4 w4 s4 cx => ⟨wanted_none rfl, fun K hK => by
    obtain ⟨v0, e0, r0⟩ := cx.slot 1 46 (by kernel_rfl)
    obtain rfl : v0 = .float .f64 l := r0
    obtain ⟨v1, e1, r1⟩ := cx.slot 2 47 (by kernel_rfl)
    obtain rfl : v1 = .float .f64 x := r1
    exact wp_gen_call [(46, .float .f64 l), (47, .float .f64 x)] ⟨e0, e1, trivial⟩ (by kernel_rfl) (fun _ => by kernel_rfl) ((lesser_any l x w4 hl.out hx.out).mono fun e w' h => ⟨_, h.1, hK.out _ w' (show V4710 p x l g _ 3 _ _ from rfl) (by rw [h.2]; exact Below.refl _ _)⟩)⟩
  case o4 => exact FlowOp4.plain (v4710_calm _ _ _ _ _ _ _ _ 4 rfl rfl) fun a4 w4 s4 cx => ⟨wanted_none rfl, fun K hK => by
    have e0 := cx.keep 2 (.pointer (some ⟨p, 0, none⟩)) (by kernel_rfl) rfl
    exact wp_gen [(2, .pointer (some ⟨p, 0, none⟩))] ⟨e0, trivial⟩ (by kernel_rfl) (by kernel_rfl) (hK.out _ w4 (show V4710 p x l g _ 4 _ _ from rfl) (Below.refl _ _))⟩
  case o5 => exact FlowOp4.plain (v4710_calm _ _ _ _ _ _ _ _ 5 rfl rfl) fun a4 w4 s4 cx => ⟨wanted_none rfl, fun K hK => by
    obtain ⟨v0, e0, r0⟩ := cx.slot 4 49 (by kernel_rfl)
    obtain rfl : v0 = .pointer (some ⟨p, 4, none⟩) := r0
    have hn14 : s4 14 = false := by
      cases q : s4 14 with
      | false => rfl
      | true =>
        have q10 := cx.down 14 _ rfl q 10 (by kernel_rfl)
        have q9 := cx.down 10 _ rfl q10 9 (by kernel_rfl)
        have q6 := cx.down 9 _ rfl q9 6 (by kernel_rfl)
        have q5 := cx.down 6 _ rfl q6 5 (by kernel_rfl)
        rw [cx.new] at q5; cases q5
    obtain ⟨cs, hC, hat⟩ := cx.ground.at_
    obtain rfl : cs = rc n m s (if s4 12 = true then lesB l x else l) (if s4 14 = true then ngB (lesB (ngB g) (ngB x)) else g) := hC
    have hcl := RqB.c4 hat
    rw [hn14, if_neg (by decide)] at hcl
    exact wp_gen [(49, .pointer (some ⟨p, 4, none⟩))] ⟨e0, trivial⟩ (by kernel_rfl) (run_read rfl rfl (run_lf22 hcl)) (hK.out _ w4 (show V4710 p x l g _ 5 _ _ from rfl) (Below.refl _ _))⟩
  case o6 => exact FlowOp4.plain (v4710_calm _ _ _ _ _ _ _ _ 6 rfl rfl) fun a4 w4 s4 cx => ⟨wanted_none rfl, fun K hK => by
    obtain ⟨v0, e0, r0⟩ := cx.slot 5 50 (by kernel_rfl)
    obtain rfl : v0 = .float .f64 g := r0
    exact wp_gen [(50, .float .f64 g)] ⟨e0, trivial⟩ (by kernel_rfl) (by kernel_rfl) (hK.out _ w4 (show V4710 p x l g _ 6 _ _ from rfl) (Below.refl _ _))⟩
  case o7 => exact FlowOp4.plain (v4710_calm _ _ _ _ _ _ _ _ 7 rfl rfl) fun a4 w4 s4 cx => ⟨wanted_none rfl, fun K hK => by
    have e0 := cx.keep 1 (.float .f64 x) (by kernel_rfl) rfl
    exact wp_gen [(1, .float .f64 x)] ⟨e0, trivial⟩ (by kernel_rfl) (by kernel_rfl) (hK.out _ w4 (show V4710 p x l g _ 7 _ _ from rfl) (Below.refl _ _))⟩
  case o8 => exact FlowOp4.plain (v4710_calm _ _ _ _ _ _ _ _ 8 rfl rfl) fun a4 w4 s4 cx => ⟨wanted_none rfl, fun K hK => by
    obtain ⟨v0, e0, r0⟩ := cx.slot 7 52 (by kernel_rfl)
    obtain rfl : v0 = .float .f64 x := r0
    exact wp_gen [(52, .float .f64 x)] ⟨e0, trivial⟩ (by kernel_rfl) (by kernel_rfl) (hK.out _ w4 (show V4710 p x l g _ 8 _ _ from rfl) (Below.refl _ _))⟩
  case o9 => exact FlowOp4.plain (v4710_calm _ _ _ _ _ _ _ _ 9 rfl rfl) fun a4 w4 s4 cx => ⟨wanted_none rfl, fun K hK => by
    obtain ⟨v0, e0, r0⟩ := cx.slot 6 51 (by kernel_rfl)
    obtain rfl : v0 = .float .f64 (ngB g) := r0
    obtain ⟨v1, e1, r1⟩ := cx.slot 8 53 (by kernel_rfl)
    obtain rfl : v1 = .float .f64 (ngB x) := r1
    exact wp_gen_call [(51, .float .f64 (ngB g)), (53, .float .f64 (ngB x))] ⟨e0, e1, trivial⟩ (by kernel_rfl) (fun _ => by kernel_rfl) ((lesser_any (ngB g) (ngB x) w4 (ng_lt hg.out) (ng_lt hx.out)).mono fun e w' h => ⟨_, h.1, hK.out _ w' (show V4710 p x l g _ 9 _ _ from rfl) (by rw [h.2]; exact Below.refl _ _)⟩)⟩
  case o10 => exact FlowOp4.plain (v4710_calm _ _ _ _ _ _ _ _ 10 rfl rfl) fun a4 w4 s4 cx => ⟨wanted_none rfl, fun K hK => by
    obtain ⟨v0, e0, r0⟩ := cx.slot 9 54 (by kernel_rfl)
    obtain rfl : v0 = .float .f64 (lesB (ngB g) (ngB x)) := r0
    exact wp_gen [(54, .float .f64 (lesB (ngB g) (ngB x)))] ⟨e0, trivial⟩ (by kernel_rfl) (by kernel_rfl) (hK.out _ w4 (show V4710 p x l g _ 10 _ _ from rfl) (Below.refl _ _))⟩
  case o11 => exact FlowOp4.plain (v4710_calm _ _ _ _ _ _ _ _ 11 rfl rfl) fun a4 w4 s4 cx => ⟨wanted_none rfl, fun K hK => by
    have e0 := cx.keep 2 (.pointer (some ⟨p, 0, none⟩)) (by kernel_rfl) rfl
    exact wp_gen [(2, .pointer (some ⟨p, 0, none⟩))] ⟨e0, trivial⟩ (by kernel_rfl) (by kernel_rfl) (hK.out _ w4 (show V4710 p x l g _ 11 _ _ from rfl) (Below.refl _ _))⟩
  case o12 => exact FlowOp4.turn fun a4 w4 s4 cx => ⟨wanted_none rfl, fun K hK => by
    obtain ⟨v0, e0, r0⟩ := cx.slot 11 56 (by kernel_rfl)
    obtain rfl : v0 = .pointer (some ⟨p, 3, none⟩) := r0
    obtain ⟨v1, e1, r1⟩ := cx.slot 3 48 (by kernel_rfl)
    obtain rfl : v1 = .float .f64 (lesB l x) := r1
    obtain ⟨cs, hC, hat⟩ := cx.ground.at_
    obtain rfl : cs = rc n m s (if s4 12 = true then lesB l x else l) (if s4 14 = true then ngB (lesB (ngB g) (ngB x)) else g) := hC
    exact wp_sq [(56, .pointer (some ⟨p, 3, none⟩)), (48, .float .f64 (lesB l x))] ⟨e0, e1, trivial⟩ (by kernel_rfl) rfl rfl rfl rfl hat (show _ < 5 by decide) (hK.out undef _ (Wq.set cx.ground hat (show C4710 n m s l g x _ _ from by unfold C4710; rw [mark_eq s4 12, mark_ne s4 12 14 rfl, if_pos rfl]; rfl)) trivial fun j u _ hu => hu)⟩
  case o13 => exact FlowOp4.plain (v4710_calm _ _ _ _ _ _ _ _ 13 rfl rfl) fun a4 w4 s4 cx => ⟨wanted_none rfl, fun K hK => by
    have e0 := cx.keep 2 (.pointer (some ⟨p, 0, none⟩)) (by kernel_rfl) rfl
    exact wp_gen [(2, .pointer (some ⟨p, 0, none⟩))] ⟨e0, trivial⟩ (by kernel_rfl) (by kernel_rfl) (hK.out _ w4 (show V4710 p x l g _ 13 _ _ from rfl) (Below.refl _ _))⟩
  case o14 => exact FlowOp4.turn fun a4 w4 s4 cx => ⟨wanted_none rfl, fun K hK => by
    obtain ⟨v0, e0, r0⟩ := cx.slot 13 57 (by kernel_rfl)
    obtain rfl : v0 = .pointer (some ⟨p, 4, none⟩) := r0
    obtain ⟨v1, e1, r1⟩ := cx.slot 10 55 (by kernel_rfl)
    obtain rfl : v1 = .float .f64 (ngB (lesB (ngB g) (ngB x))) := r1
    obtain ⟨cs, hC, hat⟩ := cx.ground.at_
    obtain rfl : cs = rc n m s (if s4 12 = true then lesB l x else l) (if s4 14 = true then ngB (lesB (ngB g) (ngB x)) else g) := hC
    exact wp_sq [(57, .pointer (some ⟨p, 4, none⟩)), (55, .float .f64 (ngB (lesB (ngB g) (ngB x))))] ⟨e0, e1, trivial⟩ (by kernel_rfl) rfl rfl rfl rfl hat (show _ < 5 by decide) (hK.out undef _ (Wq.set cx.ground hat (show C4710 n m s l g x _ _ from by unfold C4710; rw [mark_eq s4 14, mark_ne s4 14 12 rfl, if_pos rfl]; rfl)) trivial fun j u _ hu => hu)⟩
  case hdone =>
    intro a w q hs hw hz hdf hk hgot
    obtain ⟨cs, hC, hat⟩ := hw.at_
    unfold C4710 at hC
    rw [hs 12 (by decide), hs 14 (by decide), if_pos rfl, if_pos rfl] at hC
    subst hC
    exact hK.out a w hw.grow hat ⟨hz, hdf, (hk 2 (by kernel_rfl)).trans rfl, (hk 4 (by kernel_rfl)).trans rfl, trivial⟩
set_option maxRecDepth 100000 in
set_option maxHeartbeats 2000000 in
theorem run_9 {Q : Ending → World → Prop} {Q2 : Exit → Act → World → Prop} (p q n m s l g : Nat) (a : Act) (w0 : World) (hR : RqB w0 p n m s l g) (hZ : RqB w0 q 0 0 0 0 0) (hQ : ∀ a w, bodyPost Try.prog Try.f47 Q .ret a w → Q2 .ret a w)
    (hK : Q (.returned (.agg (rc n m s l g))) (w0.setRow q (rc n m s l g))) (ha : At 59 [(2, .pointer (some ⟨p, 0, none⟩)), (4, .pointer (some ⟨q, 0, none⟩))] a) : Code.wp Try.prog (sq 9 body47) Q2 a w0 := by
  obtain ⟨f, rfl, h2, h4, -⟩ := ha.lit
  change Code.wp _ _ _ ⟨#[f 0, f 1, f 2, f 3, f 4, f 5, f 6, f 7, f 8, f 9, f 10, f 11, f 12, f 13, f 14, f 15, f 16, f 17, f 18, f 19, f 20, f 21, f 22, f 23, f 24, f 25, f 26, f 27, f 28, f 29, f 30, f 31, f 32, f 33, f 34, f 35, f 36, f 37, f 38, f 39, f 40, f 41, f 42, f 43, f 44, f 45, f 46, f 47, f 48, f 49, f 50, f 51, f 52, f 53, f 54, f 55, f 56, f 57, f 58], []⟩ _
  simp only at h2 h4
  simp only [h2, h4]
  clear h2 h4
  conv => arg 2; whnf
  exact ret_rowQ (f := Try.f47) (post := Q) (gp := p) (gr := q) 63 2 58 4 rfl rfl rfl rfl ⟨rfl, rfl⟩ ⟨by simp, by decide⟩ rfl rfl hR hZ rfl Try.underlying63 rfl (by kernel_rfl) (by simp [rc, Value.oneCell']) Try.results47 rfl hQ hK
set_option maxRecDepth 100000 in
set_option maxHeartbeats 2000000 in
theorem run_r9 {Q : Ending → World → Prop} {Q2 : Exit → Act → World → Prop} (p q n m s l g : Nat) (a : Act) (w0 : World) (hR : RqB w0 p n m s l g) (hZ : RqB w0 q 0 0 0 0 0) (hQ : ∀ a w, bodyPost Try.prog Try.f47 Q .ret a w → Q2 .ret a w)
    (hK : Q (.returned (.agg (rc n m s l g))) (w0.setRow q (rc n m s l g))) (ha : At 59 [(2, .pointer (some ⟨p, 0, none⟩)), (4, .pointer (some ⟨q, 0, none⟩))] a) : Code.wp Try.prog (sq 1 br47) Q2 a w0 := by
  obtain ⟨f, rfl, h2, h4, -⟩ := ha.lit
  change Code.wp _ _ _ ⟨#[f 0, f 1, f 2, f 3, f 4, f 5, f 6, f 7, f 8, f 9, f 10, f 11, f 12, f 13, f 14, f 15, f 16, f 17, f 18, f 19, f 20, f 21, f 22, f 23, f 24, f 25, f 26, f 27, f 28, f 29, f 30, f 31, f 32, f 33, f 34, f 35, f 36, f 37, f 38, f 39, f 40, f 41, f 42, f 43, f 44, f 45, f 46, f 47, f 48, f 49, f 50, f 51, f 52, f 53, f 54, f 55, f 56, f 57, f 58], []⟩ _
  simp only at h2 h4
  simp only [h2, h4]
  clear h2 h4
  conv => arg 2; whnf
  exact ret_rowQ (f := Try.f47) (post := Q) (gp := p) (gr := q) 63 2 44 4 rfl rfl rfl rfl ⟨rfl, rfl⟩ ⟨by simp, by decide⟩ rfl rfl hR hZ rfl Try.underlying63 rfl (by kernel_rfl) (by simp [rc, Value.oneCell']) Try.results47 rfl hQ hK
/-- What was added up so far. -/
structure Rs where
  n : Nat
  M : Option Nat
  S : Option Nat
  L : Option Nat
  G : Option Nat
def mO (n : Nat) (M X : Option Nat) : Option Nat := fop .add M (fop .quo (fop .sub X M) (inj (floatOfInt .f64 ((n + 1 : Nat) : Int))))
def sO (n : Nat) (M S X : Option Nat) : Option Nat := fop .add S (fop .mul (fop .sub X M) (fop .sub X (mO n M X)))
/-- One more. -/
def Rs.nx (r : Rs) (X : Option Nat) : Rs := ⟨r.n + 1, mO r.n r.M X, sO r.n r.M r.S X, if r.n = 0 then X else lesO r.L X, if r.n = 0 then X else greO r.G X⟩
def Rs.nil : Rs := ⟨0, some 0, some 0, some 0, some 0⟩
/-- The block holds it. -/
def Rg (w : World) (b : Nat) (r : Rs) : Prop := ∃ m s l g, RnB w b r.n m s l g ∧ Is m r.M ∧ Is s r.S ∧ Is l r.L ∧ Is g r.G
/-- The value is it. -/
def Rv (v : Value) (r : Rs) : Prop := ∃ m s l g, v = .agg (rc r.n m s l g) ∧ Is m r.M ∧ Is s r.S ∧ Is l r.L ∧ Is g r.G
theorem is_nul : Is 0 (some 0) := ⟨rfl, by decide, by decide⟩
theorem rg_nil {w : World} {b : Nat} (h : RnB w b 0 0 0 0 0) : Rg w b Rs.nil := ⟨0, 0, 0, 0, h, is_nul, is_nul, is_nul, is_nul⟩
theorem rv_nil : Rv (.agg (rc 0 0 0 0 0)) Rs.nil := ⟨0, 0, 0, 0, rfl, is_nul, is_nul, is_nul, is_nul⟩
theorem Rg.below {w w' : World} {b : Nat} {r : Rs} (h : Rg w b r) (hb : Below w.heap.size w w') : Rg w' b r := by
  obtain ⟨m, s, l, g, h1, h2⟩ := h
  exact ⟨m, s, l, g, h1.below hb, h2⟩
theorem Rg.kept {w w' : World} {b c : Nat} {r : Rs} (h : Rg w b r) (hg : w.grownBy w' (some c)) (hc : b ≠ c) : Rg w' b r := by
  obtain ⟨m, s, l, g, h1, h2⟩ := h
  exact ⟨m, s, l, g, h1.kept hg hc, h2⟩
theorem Rg.lt {w : World} {b : Nat} {r : Rs} (h : Rg w b r) : b < w.heap.size := by
  obtain ⟨m, s, l, g, h1, -⟩ := h
  exact h1.lt
theorem radd_any (b x : Nat) (r : Rs) (X : Option Nat) (w : World) (h : Rg w b r) (hX : Is x X) (hn : r.n < 65536) : Calls Try.prog 43 #[.pointer (some ⟨b, 0, none⟩), .float .f64 x] w fun e w' => e = .returned (.int .i64 0) ∧ w.grownBy w' (some b) ∧ Rg w' b (r.nx X) := by
  obtain ⟨n, M, S, L, G⟩ := r
  obtain ⟨m, s, l, g, hR, hM, hS, hL, hG⟩ := h
  simp only at hR hM hS hL hG hn
  by_cases hz : n = 0
  · subst hz
    refine add_1 b m s l g x w hR fun a w2 g2 R2 ha => ?_
    refine add_tail b 0 m s x x x M S X a w w2 hn g2 R2 hM hS hX hX.lt hX.lt (fun w3 m' s' g3 R3 i1 i2 => ?_) ha
    refine ⟨rfl, g3, m', s', _, _, R3, i1, i2, ?_, ?_⟩
    · have := min_is hX hX
      rw [les_self] at this
      exact this
    · have := max_is hX hX
      rw [gre_self] at this
      exact this
  · refine add_0 b n m s l g x w (by omega) hn hR fun a ha => ?_
    refine add_tail b n m s l g x M S X a w w hn (grow_refl _ _) hR hM hS hX hL.lt hG.lt (fun w3 m' s' g3 R3 i1 i2 => ?_) ha
    refine ⟨rfl, g3, m', s', _, _, R3, i1, i2, ?_, ?_⟩
    · show Is _ (if n = 0 then X else lesO L X)
      rw [if_neg hz]
      exact min_is hL hX
    · show Is _ (if n = 0 then X else greO G X)
      rw [if_neg hz]
      exact max_is hG hX
theorem far_below {N p : Nat} {w w1 w2 : World} (h : Below N w w1) (g : w1.grownBy w2 (some p)) (hp : N ≤ p) (hs : N ≤ w1.heap.size) : Below N w w2 :=
  h.trans ⟨g.os, g.tape, g.output, g.size, fun k hk => g.block k (by omega) (fun e => by cases e; omega)⟩
theorem rrun_any (v : Value) (x : Nat) (r : Rs) (X : Option Nat) (w : World) (h : Rv v r) (hX : Is x X) (hn : r.n < 65536) : Calls Try.prog 47 #[v, .float .f64 x] w fun e w' => ∃ v', e = .returned v' ∧ Rv v' (r.nx X) ∧ Below w.heap.size w w' := by
  obtain ⟨n, M, S, L, G⟩ := r
  obtain ⟨m, s, l, g, rfl, hM, hS, hL, hG⟩ := h
  simp only at hM hS hL hG hn ⊢
  refine run_0 n m s l g x w fun a w0 B0 R0 Z0 ha => ?_
  refine run_1 w.heap.size (w.heap.size + 1) n m s l g x M X a w0 hn R0 hM hX (fun a w1 d g1 R1 hD ha => ?_) ha
  have B1 := far_below B0 g1 (Nat.le_refl _) B0.size
  have Z1 := Z0.kept g1 (by omega)
  refine run_3 w.heap.size (w.heap.size + 1) (n + 1) m s l g x d M _ a w1 R1 hM hD (fun a w2 m' g2 R2 hM2 ha => ?_) ha
  have B2 := far_below B1 g2 (Nat.le_refl _) B1.size
  have Z2 := Z1.kept g2 (by omega)
  refine run_5 w.heap.size (w.heap.size + 1) (n + 1) m' s l g x d _ S X _ a w2 R2 hM2 hS hX hD (fun a w3 s' g3 R3 hS3 ha => ?_) ha
  have B3 := far_below B2 g3 (Nat.le_refl _) B2.size
  have Z3 := Z2.kept g3 (by omega)
  by_cases hz : n = 0
  · subst hz
    refine run_7a w.heap.size (w.heap.size + 1) m' s' l g x a w3 R3 (fun Q2 hQ a w4 g4 R4 ha => ?_) ha
    have B4 := far_below B3 g4 (Nat.le_refl _) B3.size
    have Z4 := Z3.kept g4 (by omega)
    exact run_r9 w.heap.size (w.heap.size + 1) 1 m' s' x x a w4 R4 Z4 hQ ⟨_, rfl, ⟨m', s', x, x, rfl, hM2, hS3, hX, hX⟩, below_set B4 (by omega)⟩ ⟨ha.1, ha.2, ha.3.2⟩
  · refine run_7b w.heap.size (w.heap.size + 1) (n + 1) m' s' l g x a w3 R3 (by simp; omega) (fun a ha => ?_) ha
    refine run_8 w.heap.size (w.heap.size + 1) (n + 1) m' s' l g x a w3 R3 hL.lt hG.lt hX.lt (fun a w4 g4 R4 ha => ?_) ha
    have B4 := far_below B3 g4 (Nat.le_refl _) B3.size
    have Z4 := Z3.kept g4 (by omega)
    refine run_9 w.heap.size (w.heap.size + 1) (n + 1) m' s' _ _ a w4 R4 Z4 (fun _ _ h => h) ⟨_, rfl, ⟨m', s', _, _, rfl, hM2, hS3, ?_, ?_⟩, below_set B4 (by omega)⟩ ha
    · show Is _ (if n = 0 then X else lesO L X)
      rw [if_neg hz]
      exact les_is hL hX
    · show Is _ (if n = 0 then X else greO G X)
      rw [if_neg hz, ← ng_les hG hX]
      exact ng_is (les_is (ng_is hG) (ng_is hX))
/-- The spread. -/
def varO (n : Nat) (S : Option Nat) : Option Nat := if n = 0 then some 0 else fop .quo S (inj (floatOfInt .f64 n))
set_option maxRecDepth 100000 in
set_option maxHeartbeats 2000000 in
theorem var45_any (b n m s l g : Nat) (S : Option Nat) (w : World) (h : RnB w b n m s l g) (hS : Is s S) : Calls Try.prog 45 #[.pointer (some ⟨b, 0, none⟩)] w fun e w' => ∃ r, e = .returned (.float .f64 r) ∧ Is r (varO n S) ∧ Below w.heap.size w w' := by
  by_cases hz : n = 0
  · have c0 := h.c0
    subst hz
    have hi : Hid (Is 0 (varO 0 S)) := is_nul
    clear h hS
    generalize varO 0 S = V at *
    go_enter Try.func45, Try.ntmps45
    go_wp2
    go_ret
    exact ⟨0, rfl, hi.out, Below.refl _ _⟩
  · have := var_r b n m s l g S w h hS (by omega)
    unfold varO
    rw [if_neg hz]
    exact this
set_option maxRecDepth 100000 in
set_option maxHeartbeats 2000000 in
theorem var83_any (n m s l g : Nat) (S : Option Nat) (w : World) (hS : Is s S) : Calls Try.prog 83 #[.agg (rc n m s l g)] w fun e w' => ∃ r, e = .returned (.float .f64 r) ∧ Is r (varO n S) ∧ Below w.heap.size w w' := by
  have E0 : RqB (w.alloc (.cells (rc n m s l g) 63)) w.heap.size n m s l g := heap_alloc_last _ _
  have B0 : Hid (Below w.heap.size w (w.alloc (.cells (rc n m s l g) 63))) := (Below.refl _ _).alloc (Nat.le_refl _) _
  have c0 := E0.c0
  have c2 := E0.c2
  have hs : (rc n m s l g).size = 5 := rfl
  clear E0
  generalize rc n m s l g = R at *
  by_cases hz : n = 0
  · subst hz
    have hi : Hid (Is 0 (varO 0 S)) := is_nul
    clear hS c2
    generalize varO 0 S = V at *
    go_enter Try.func83, Try.ntmps83
    go_wp2
    go_ret
    exact ⟨0, rfl, hi.out, B0.out⟩
  · have hV : Hid (varO n S = fop .quo S (inj (floatOfInt .f64 n))) := if_neg hz
    have hn2 : (((n : Nat) : Int) == 0) = false := by simp; omega
    generalize varO n S = V at *
    replace hS : Hid (Is s S) := hS
    clear hz
    go_enter Try.func83, Try.ntmps83
    go_wp2_with (refine wpList_flt rfl .quo .f64 _ _ _ _ rfl rfl _ _ rfl rfl ?_)
    intro r w1 f1 a1
    have h5 : Hid (Is r (fop .quo S (inj (floatOfInt .f64 (n : Int))))) := hS.out.op (len_is (n : Int)) f1.out
    have B1 : Hid (Below w.heap.size w w1) := B0.out.trans (a1.out.below _)
    clear a1 f1 B0 c0 c2 hs hn2
    go_wp2
    go_ret
    exact ⟨r, rfl, (by rw [hV.out]; exact h5.out), B1.out⟩
noncomputable def body48 : Code := Try.f48.body.getD .skip
def V483 (b p n m a0 b0 m2 s2 l2 g2 : Nat) (S : Option Nat) (T : Bool) : (Nat → Bool) → Nat → Value → World → Prop := fun _ j v _ => match j with
  | 0 => v = .pointer (some ⟨b, 0, none⟩)
  | 1 => v = .float .f64 m
  | 2 => v = .pointer (some ⟨p, 1, none⟩)
  | 3 => v = .float .f64 m2
  | 4 => v = .bool true
  | 5 => v = .bool true
  | 6 => v = .pointer (some ⟨b, 0, none⟩)
  | 7 => ∃ r, v = .float .f64 r ∧ Is r (varO n S)
  | 8 => v = .agg (rc n m2 s2 l2 g2)
  | 9 => ∃ r, v = .float .f64 r ∧ Is r (varO n S)
  | 10 => v = .bool true
  | 11 => v = .bool true
  | 12 => v = .bool true
  | 13 => v = .bool T
  | 14 => v = .pointer (some ⟨p, 0, none⟩)
  | 15 => v = .int .i64 (n : Int)
  | 16 => v = .bool T
  | 17 => v = .bool true
  | 18 => v = .bool true
  | 19 => v = .bool true
  | 20 => v = .bool T
  | 21 => v = .bool T
  | 22 => v = .bool true
  | 23 => v = .bool true
  | 24 => v = .bool true
  | 25 => v = .float .f64 a0
  | 26 => v = .pointer (some ⟨p, 3, none⟩)
  | 27 => v = .float .f64 l2
  | 28 => v = .bool true
  | 29 => v = .bool true
  | 30 => v = .bool true
  | 31 => v = .float .f64 b0
  | 32 => v = .pointer (some ⟨p, 4, none⟩)
  | 33 => v = .float .f64 g2
  | 34 => v = .bool true
  | 35 => v = .bool true
  | 36 => v = .bool true
  | _ => True
theorem v483_calm (b p n m a0 b0 m2 s2 l2 g2 : Nat) (S : Option Nat) (T : Bool) (w0 : World) (i : Nat) : Calm (grown w0) (V483 b p n m a0 b0 m2 s2 l2 g2 S T) i := ⟨fun s w w' hs h hb => grown_steady w0 i s w w' hs h hb, fun _ _ _ _ _ _ _ h _ => h⟩
set_option maxRecDepth 100000 in
set_option maxHeartbeats 2000000 in
theorem runs_3 {Q : Ending → World → Prop} (b p n m s l g m2 s2 l2 g2 a0 b0 : Nat) (M S L G : Option Nat) (T : Bool) (a : Act) (w0 : World) (hR : Hid (RnB w0 b n m s l g)) (hq : Hid (RqB w0 p n m2 s2 l2 g2)) (hM : Hid (Is m M)) (hS : Hid (Is s S)) (hM2 : Hid (Is m2 M)) (hS2 : Hid (Is s2 S)) (hL2 : Hid (Is l2 L)) (hG2 : Hid (Is g2 G)) (hA : Hid (Is a0 L)) (hB : Hid (Is b0 G)) (hT : decide (0 < n) = T)
    (hK : Hid (∀ w2, Below w0.heap.size w0 w2 → Q (.returned (.bool true)) w2)) (ha : At 55 [(0, .pointer (some ⟨b, 0, none⟩)), (3, .pointer (some ⟨p, 0, none⟩)), (5, .float .f64 a0), (6, .bool T), (7, .float .f64 b0), (8, .bool T)] a) : Code.wp Try.prog (sq 3 body48) (bodyPost Try.prog Try.f48 Q) a w0 := by
  obtain ⟨f, rfl, h0, h3, h5, h6, h7, h8, -⟩ := ha.lit
  change Code.wp _ _ _ ⟨#[f 0, f 1, f 2, f 3, f 4, f 5, f 6, f 7, f 8, f 9, f 10, f 11, f 12, f 13, f 14, f 15, f 16, f 17, f 18, f 19, f 20, f 21, f 22, f 23, f 24, f 25, f 26, f 27, f 28, f 29, f 30, f 31, f 32, f 33, f 34, f 35, f 36, f 37, f 38, f 39, f 40, f 41, f 42, f 43, f 44, f 45, f 46, f 47, f 48, f 49, f 50, f 51, f 52, f 53, f 54], []⟩ _
  simp only at h0 h3 h5 h6 h7 h8
  simp only [h0, h3, h5, h6, h7, h8]
  clear h0 h3 h5 h6 h7 h8
  conv => arg 2; whnf
  refine wp_seq ?_
  refine wp_region_turn (grown w0) (V483 b p n m a0 b0 m2 s2 l2 g2 S T) 55 rfl (by kernel_rfl) (by kernel_rfl) (grown_start w0) ⟨?o0, ?o1, ?o2, ?o3, ?o4, ?o5, ?o6, ?o7, ?o8, ?o9, ?o10, ?o11, ?o12, ?o13, ?o14, ?o15, ?o16, ?o17, ?o18, ?o19, ?o20, ?o21, ?o22, ?o23, ?o24, ?o25, ?o26, ?o27, ?o28, ?o29, ?o30, ?o31, ?o32, ?o33, ?o34, ?o35, ?o36, trivial⟩ ?hdone
  case o0 => exact FlowOp4.plain (v483_calm _ _ _ _ _ _ _ _ _ _ _ _ _ 0) fun a4 w4 s4 cx => (by
    refine ⟨wanted_none rfl, fun K hK => ?_⟩
    have e0 := cx.keep 0 (.pointer (some ⟨b, 0, none⟩)) (by kernel_rfl) rfl
    exact wp_gen [(0, .pointer (some ⟨b, 0, none⟩))] ⟨e0, trivial⟩ (by kernel_rfl) (by kernel_rfl) (hK.out _ w4 (show V483 b p n m a0 b0 m2 s2 l2 g2 S T _ 0 _ _ from rfl) (Below.refl _ _)))
  case o1 => exact FlowOp4.plain (v483_calm _ _ _ _ _ _ _ _ _ _ _ _ _ 1) fun a4 w4 s4 cx => (by
    refine ⟨wanted_none rfl, fun K hK => ?_⟩
    obtain ⟨v0, e0, r0⟩ := cx.slot 0 19 (by kernel_rfl)
    obtain rfl : v0 = .pointer (some ⟨b, 0, none⟩) := r0
    exact wp_gen_call [(19, .pointer (some ⟨b, 0, none⟩))] ⟨e0, trivial⟩ (by kernel_rfl) (fun _ => by kernel_rfl) ((mean_r b n m s l g w4 (hR.out.below cx.ground)).mono fun e w' h => ⟨_, h.1, hK.out _ w' (show V483 b p n m a0 b0 m2 s2 l2 g2 S T _ 1 _ _ from rfl) h.2⟩))
  case o2 => exact FlowOp4.plain (v483_calm _ _ _ _ _ _ _ _ _ _ _ _ _ 2) fun a4 w4 s4 cx => (by
    refine ⟨wanted_none rfl, fun K hK => ?_⟩
    have e0 := cx.keep 3 (.pointer (some ⟨p, 0, none⟩)) (by kernel_rfl) rfl
    exact wp_gen [(3, .pointer (some ⟨p, 0, none⟩))] ⟨e0, trivial⟩ (by kernel_rfl) (by kernel_rfl) (hK.out _ w4 (show V483 b p n m a0 b0 m2 s2 l2 g2 S T _ 2 _ _ from rfl) (Below.refl _ _)))
  case o3 => exact FlowOp4.plain (v483_calm _ _ _ _ _ _ _ _ _ _ _ _ _ 3) fun a4 w4 s4 cx => (by
    refine ⟨wanted_none rfl, fun K hK => ?_⟩
    obtain ⟨v0, e0, r0⟩ := cx.slot 2 21 (by kernel_rfl)
    obtain rfl : v0 = .pointer (some ⟨p, 1, none⟩) := r0
    exact wp_gen [(21, .pointer (some ⟨p, 1, none⟩))] ⟨e0, trivial⟩ (by kernel_rfl) (run_read rfl rfl (run_lf22 (RqB.c1 (hq.out.below cx.ground)))) (hK.out _ w4 (show V483 b p n m a0 b0 m2 s2 l2 g2 S T _ 3 _ _ from rfl) (Below.refl _ _)))
  case o4 => exact FlowOp4.plain (v483_calm _ _ _ _ _ _ _ _ _ _ _ _ _ 4) fun a4 w4 s4 cx => (by
    refine ⟨wanted_none rfl, fun K hK => ?_⟩
    obtain ⟨v0, e0, r0⟩ := cx.slot 1 20 (by kernel_rfl)
    obtain rfl : v0 = .float .f64 m := r0
    obtain ⟨v1, e1, r1⟩ := cx.slot 3 22 (by kernel_rfl)
    obtain rfl : v1 = .float .f64 m2 := r1
    exact wp_gen_call [(20, .float .f64 m), (22, .float .f64 m2)] ⟨e0, e1, trivial⟩ (by kernel_rfl) (fun _ => by kernel_rfl) ((same_any m m2 w4 (same_by hM.out hM2.out)).mono fun e w' h => ⟨_, h.1, hK.out _ w' (show V483 b p n m a0 b0 m2 s2 l2 g2 S T _ 4 _ _ from rfl) (by rw [h.2]; exact Below.refl _ _)⟩))
  case o5 => exact FlowOp4.plain (v483_calm _ _ _ _ _ _ _ _ _ _ _ _ _ 5) fun a4 w4 s4 cx => (by
    refine ⟨wanted_none rfl, fun K hK => ?_⟩
    obtain ⟨v0, e0, r0⟩ := cx.slot 4 23 (by kernel_rfl)
    obtain rfl : v0 = .bool true := r0
    exact wp_gen [(23, .bool true)] ⟨e0, trivial⟩ (by kernel_rfl) (by kernel_rfl) (hK.out _ w4 (show V483 b p n m a0 b0 m2 s2 l2 g2 S T _ 5 _ _ from rfl) (Below.refl _ _)))
  case o6 => exact FlowOp4.plain (v483_calm _ _ _ _ _ _ _ _ _ _ _ _ _ 6) fun a4 w4 s4 cx => (by
    obtain ⟨vg, eg, rg⟩ := cx.slot 5 24 (by kernel_rfl)
    obtain rfl : vg = .bool true := rg
    refine ⟨wanted_yes rfl rfl eg, fun K hK => ?_⟩
    have e0 := cx.keep 0 (.pointer (some ⟨b, 0, none⟩)) (by kernel_rfl) rfl
    exact wp_gen [(0, .pointer (some ⟨b, 0, none⟩))] ⟨e0, trivial⟩ (by kernel_rfl) (by kernel_rfl) (hK.out _ w4 (show V483 b p n m a0 b0 m2 s2 l2 g2 S T _ 6 _ _ from rfl) (Below.refl _ _)))
  case o7 => exact FlowOp4.plain (v483_calm _ _ _ _ _ _ _ _ _ _ _ _ _ 7) fun a4 w4 s4 cx => (by
    obtain ⟨vg, eg, rg⟩ := cx.slot 5 24 (by kernel_rfl)
    obtain rfl : vg = .bool true := rg
    refine ⟨wanted_yes rfl rfl eg, fun K hK => ?_⟩
    obtain ⟨v0, e0, r0⟩ := cx.slot 6 25 (by kernel_rfl)
    obtain rfl : v0 = .pointer (some ⟨b, 0, none⟩) := r0
    exact wp_gen_call [(25, .pointer (some ⟨b, 0, none⟩))] ⟨e0, trivial⟩ (by kernel_rfl) (fun _ => by kernel_rfl) ((var45_any b n m s l g S w4 (hR.out.below cx.ground) hS.out).mono fun e w' ⟨r, h1, h2, h3⟩ => ⟨_, h1, hK.out _ w' ⟨r, rfl, h2⟩ h3⟩))
  case o8 => exact FlowOp4.plain (v483_calm _ _ _ _ _ _ _ _ _ _ _ _ _ 8) fun a4 w4 s4 cx => (by
    obtain ⟨vg, eg, rg⟩ := cx.slot 5 24 (by kernel_rfl)
    obtain rfl : vg = .bool true := rg
    refine ⟨wanted_yes rfl rfl eg, fun K hK => ?_⟩
    have e0 := cx.keep 3 (.pointer (some ⟨p, 0, none⟩)) (by kernel_rfl) rfl
    exact wp_gen [(3, .pointer (some ⟨p, 0, none⟩))] ⟨e0, trivial⟩ (by kernel_rfl) (run_read rfl rfl (run_loadVar_row _ _ _ _ _ _ _ (hq.out.below cx.ground) Try.underlying63 rfl (by kernel_rfl))) (hK.out _ w4 (show V483 b p n m a0 b0 m2 s2 l2 g2 S T _ 8 _ _ from rfl) (Below.refl _ _)))
  case o9 => exact FlowOp4.plain (v483_calm _ _ _ _ _ _ _ _ _ _ _ _ _ 9) fun a4 w4 s4 cx => (by
    obtain ⟨vg, eg, rg⟩ := cx.slot 5 24 (by kernel_rfl)
    obtain rfl : vg = .bool true := rg
    refine ⟨wanted_yes rfl rfl eg, fun K hK => ?_⟩
    obtain ⟨v0, e0, r0⟩ := cx.slot 8 27 (by kernel_rfl)
    obtain rfl : v0 = .agg (rc n m2 s2 l2 g2) := r0
    exact wp_gen_call [(27, .agg (rc n m2 s2 l2 g2))] ⟨e0, trivial⟩ (by kernel_rfl) (fun _ => by kernel_rfl) ((var83_any n m2 s2 l2 g2 S w4 hS2.out).mono fun e w' ⟨r, h1, h2, h3⟩ => ⟨_, h1, hK.out _ w' ⟨r, rfl, h2⟩ h3⟩))
  case o10 => exact FlowOp4.plain (v483_calm _ _ _ _ _ _ _ _ _ _ _ _ _ 10) fun a4 w4 s4 cx => (by
    obtain ⟨vg, eg, rg⟩ := cx.slot 5 24 (by kernel_rfl)
    obtain rfl : vg = .bool true := rg
    refine ⟨wanted_yes rfl rfl eg, fun K hK => ?_⟩
    obtain ⟨v0, e0, r0⟩ := cx.slot 7 26 (by kernel_rfl)
    obtain ⟨x0, rfl, i0⟩ : ∃ r, v0 = .float .f64 r ∧ Is r (varO n S) := r0
    obtain ⟨v1, e1, r1⟩ := cx.slot 9 28 (by kernel_rfl)
    obtain ⟨x1, rfl, i1⟩ : ∃ r, v1 = .float .f64 r ∧ Is r (varO n S) := r1
    exact wp_gen_call [(26, .float .f64 x0), (28, .float .f64 x1)] ⟨e0, e1, trivial⟩ (by kernel_rfl) (fun _ => by kernel_rfl) ((same_any x0 x1 w4 (same_by i0 i1)).mono fun e w' h => ⟨_, h.1, hK.out _ w' (show V483 b p n m a0 b0 m2 s2 l2 g2 S T _ 10 _ _ from rfl) (by rw [h.2]; exact Below.refl _ _)⟩))
  case o11 => exact FlowOp4.plain (v483_calm _ _ _ _ _ _ _ _ _ _ _ _ _ 11) fun a4 w4 s4 cx => (by
    refine ⟨wanted_none rfl, fun K hK => ?_⟩
    obtain ⟨v0, e0, r0⟩ := cx.slot 5 24 (by kernel_rfl)
    obtain rfl : v0 = .bool true := r0
    obtain ⟨v1, e1, r1⟩ := cx.slot 10 29 (by kernel_rfl)
    obtain rfl : v1 = .bool true := r1
    exact wp_gen [(24, .bool true), (29, .bool true)] ⟨e0, e1, trivial⟩ (by kernel_rfl) (by kernel_rfl) (hK.out _ w4 (show V483 b p n m a0 b0 m2 s2 l2 g2 S T _ 11 _ _ from rfl) (Below.refl _ _)))
  case o12 => exact FlowOp4.plain (v483_calm _ _ _ _ _ _ _ _ _ _ _ _ _ 12) fun a4 w4 s4 cx => (by
    refine ⟨wanted_none rfl, fun K hK => ?_⟩
    obtain ⟨v0, e0, r0⟩ := cx.slot 11 30 (by kernel_rfl)
    obtain rfl : v0 = .bool true := r0
    exact wp_gen [(30, .bool true)] ⟨e0, trivial⟩ (by kernel_rfl) (by kernel_rfl) (hK.out _ w4 (show V483 b p n m a0 b0 m2 s2 l2 g2 S T _ 12 _ _ from rfl) (Below.refl _ _)))
  case o13 => exact FlowOp4.plain (v483_calm _ _ _ _ _ _ _ _ _ _ _ _ _ 13) fun a4 w4 s4 cx => (by
    obtain ⟨vg, eg, rg⟩ := cx.slot 12 31 (by kernel_rfl)
    obtain rfl : vg = .bool true := rg
    refine ⟨wanted_yes rfl rfl eg, fun K hK => ?_⟩
    have e0 := cx.keep 6 (.bool T) (by kernel_rfl) rfl
    exact wp_gen [(6, .bool T)] ⟨e0, trivial⟩ (by kernel_rfl) (by kernel_rfl) (hK.out _ w4 (show V483 b p n m a0 b0 m2 s2 l2 g2 S T _ 13 _ _ from rfl) (Below.refl _ _)))
  case o14 => exact FlowOp4.plain (v483_calm _ _ _ _ _ _ _ _ _ _ _ _ _ 14) fun a4 w4 s4 cx => (by
    obtain ⟨vg, eg, rg⟩ := cx.slot 12 31 (by kernel_rfl)
    obtain rfl : vg = .bool true := rg
    refine ⟨wanted_yes rfl rfl eg, fun K hK => ?_⟩
    have e0 := cx.keep 3 (.pointer (some ⟨p, 0, none⟩)) (by kernel_rfl) rfl
    exact wp_gen [(3, .pointer (some ⟨p, 0, none⟩))] ⟨e0, trivial⟩ (by kernel_rfl) (by kernel_rfl) (hK.out _ w4 (show V483 b p n m a0 b0 m2 s2 l2 g2 S T _ 14 _ _ from rfl) (Below.refl _ _)))
  case o15 => exact FlowOp4.plain (v483_calm _ _ _ _ _ _ _ _ _ _ _ _ _ 15) fun a4 w4 s4 cx => (by
    obtain ⟨vg, eg, rg⟩ := cx.slot 12 31 (by kernel_rfl)
    obtain rfl : vg = .bool true := rg
    refine ⟨wanted_yes rfl rfl eg, fun K hK => ?_⟩
    obtain ⟨v0, e0, r0⟩ := cx.slot 14 33 (by kernel_rfl)
    obtain rfl : v0 = .pointer (some ⟨p, 0, none⟩) := r0
    exact wp_gen [(33, .pointer (some ⟨p, 0, none⟩))] ⟨e0, trivial⟩ (by kernel_rfl) (run_read rfl rfl (run_li3 (RqB.c0 (hq.out.below cx.ground)))) (hK.out _ w4 (show V483 b p n m a0 b0 m2 s2 l2 g2 S T _ 15 _ _ from rfl) (Below.refl _ _)))
  case o16 => exact FlowOp4.plain (v483_calm _ _ _ _ _ _ _ _ _ _ _ _ _ 16) fun a4 w4 s4 cx => (by
    obtain ⟨vg, eg, rg⟩ := cx.slot 12 31 (by kernel_rfl)
    obtain rfl : vg = .bool true := rg
    refine ⟨wanted_yes rfl rfl eg, fun K hK => ?_⟩
    obtain ⟨v0, e0, r0⟩ := cx.slot 15 34 (by kernel_rfl)
    obtain rfl : v0 = .int .i64 (n : Int) := r0
    exact wp_gen [(34, .int .i64 (n : Int))] ⟨e0, trivial⟩ (by kernel_rfl) (run_bin (a := .int .i64 (n : Int)) (b := .int .i64 0) rfl rfl rfl (by kernel_rfl) (by simpa [go_sem] using hT)) (hK.out _ w4 (show V483 b p n m a0 b0 m2 s2 l2 g2 S T _ 16 _ _ from rfl) (Below.refl _ _)))
  case o17 => exact FlowOp4.plain (v483_calm _ _ _ _ _ _ _ _ _ _ _ _ _ 17) fun a4 w4 s4 cx => (by
    obtain ⟨vg, eg, rg⟩ := cx.slot 12 31 (by kernel_rfl)
    obtain rfl : vg = .bool true := rg
    refine ⟨wanted_yes rfl rfl eg, fun K hK => ?_⟩
    obtain ⟨v0, e0, r0⟩ := cx.slot 13 32 (by kernel_rfl)
    obtain rfl : v0 = .bool T := r0
    obtain ⟨v1, e1, r1⟩ := cx.slot 16 35 (by kernel_rfl)
    obtain rfl : v1 = .bool T := r1
    exact wp_gen [(32, .bool T), (35, .bool T)] ⟨e0, e1, trivial⟩ (by kernel_rfl) (run_bin (a := .bool T) (b := .bool T) rfl rfl rfl (by kernel_rfl) (by simp [go_sem])) (hK.out _ w4 (show V483 b p n m a0 b0 m2 s2 l2 g2 S T _ 17 _ _ from rfl) (Below.refl _ _)))
  case o18 => exact FlowOp4.plain (v483_calm _ _ _ _ _ _ _ _ _ _ _ _ _ 18) fun a4 w4 s4 cx => (by
    refine ⟨wanted_none rfl, fun K hK => ?_⟩
    obtain ⟨v0, e0, r0⟩ := cx.slot 12 31 (by kernel_rfl)
    obtain rfl : v0 = .bool true := r0
    obtain ⟨v1, e1, r1⟩ := cx.slot 17 36 (by kernel_rfl)
    obtain rfl : v1 = .bool true := r1
    exact wp_gen [(31, .bool true), (36, .bool true)] ⟨e0, e1, trivial⟩ (by kernel_rfl) (by kernel_rfl) (hK.out _ w4 (show V483 b p n m a0 b0 m2 s2 l2 g2 S T _ 18 _ _ from rfl) (Below.refl _ _)))
  case o19 => exact FlowOp4.plain (v483_calm _ _ _ _ _ _ _ _ _ _ _ _ _ 19) fun a4 w4 s4 cx => (by
    refine ⟨wanted_none rfl, fun K hK => ?_⟩
    obtain ⟨v0, e0, r0⟩ := cx.slot 18 37 (by kernel_rfl)
    obtain rfl : v0 = .bool true := r0
    exact wp_gen [(37, .bool true)] ⟨e0, trivial⟩ (by kernel_rfl) (by kernel_rfl) (hK.out _ w4 (show V483 b p n m a0 b0 m2 s2 l2 g2 S T _ 19 _ _ from rfl) (Below.refl _ _)))
  case o20 => exact FlowOp4.plain (v483_calm _ _ _ _ _ _ _ _ _ _ _ _ _ 20) fun a4 w4 s4 cx => (by
    obtain ⟨vg, eg, rg⟩ := cx.slot 19 38 (by kernel_rfl)
    obtain rfl : vg = .bool true := rg
    refine ⟨wanted_yes rfl rfl eg, fun K hK => ?_⟩
    have e0 := cx.keep 8 (.bool T) (by kernel_rfl) rfl
    exact wp_gen [(8, .bool T)] ⟨e0, trivial⟩ (by kernel_rfl) (by kernel_rfl) (hK.out _ w4 (show V483 b p n m a0 b0 m2 s2 l2 g2 S T _ 20 _ _ from rfl) (Below.refl _ _)))
  case o21 => exact FlowOp4.plain (v483_calm _ _ _ _ _ _ _ _ _ _ _ _ _ 21) fun a4 w4 s4 cx => (by
    obtain ⟨vg, eg, rg⟩ := cx.slot 19 38 (by kernel_rfl)
    obtain rfl : vg = .bool true := rg
    refine ⟨wanted_yes rfl rfl eg, fun K hK => ?_⟩
    have e0 := cx.keep 6 (.bool T) (by kernel_rfl) rfl
    exact wp_gen [(6, .bool T)] ⟨e0, trivial⟩ (by kernel_rfl) (by kernel_rfl) (hK.out _ w4 (show V483 b p n m a0 b0 m2 s2 l2 g2 S T _ 21 _ _ from rfl) (Below.refl _ _)))
  case o22 => exact FlowOp4.plain (v483_calm _ _ _ _ _ _ _ _ _ _ _ _ _ 22) fun a4 w4 s4 cx => (by
    obtain ⟨vg, eg, rg⟩ := cx.slot 19 38 (by kernel_rfl)
    obtain rfl : vg = .bool true := rg
    refine ⟨wanted_yes rfl rfl eg, fun K hK => ?_⟩
    obtain ⟨v0, e0, r0⟩ := cx.slot 20 39 (by kernel_rfl)
    obtain rfl : v0 = .bool T := r0
    obtain ⟨v1, e1, r1⟩ := cx.slot 21 40 (by kernel_rfl)
    obtain rfl : v1 = .bool T := r1
    exact wp_gen [(39, .bool T), (40, .bool T)] ⟨e0, e1, trivial⟩ (by kernel_rfl) (run_bin (a := .bool T) (b := .bool T) rfl rfl rfl (by kernel_rfl) (by simp [go_sem])) (hK.out _ w4 (show V483 b p n m a0 b0 m2 s2 l2 g2 S T _ 22 _ _ from rfl) (Below.refl _ _)))
  case o23 => exact FlowOp4.plain (v483_calm _ _ _ _ _ _ _ _ _ _ _ _ _ 23) fun a4 w4 s4 cx => (by
    refine ⟨wanted_none rfl, fun K hK => ?_⟩
    obtain ⟨v0, e0, r0⟩ := cx.slot 19 38 (by kernel_rfl)
    obtain rfl : v0 = .bool true := r0
    obtain ⟨v1, e1, r1⟩ := cx.slot 22 41 (by kernel_rfl)
    obtain rfl : v1 = .bool true := r1
    exact wp_gen [(38, .bool true), (41, .bool true)] ⟨e0, e1, trivial⟩ (by kernel_rfl) (by kernel_rfl) (hK.out _ w4 (show V483 b p n m a0 b0 m2 s2 l2 g2 S T _ 23 _ _ from rfl) (Below.refl _ _)))
  case o24 => exact FlowOp4.plain (v483_calm _ _ _ _ _ _ _ _ _ _ _ _ _ 24) fun a4 w4 s4 cx => (by
    refine ⟨wanted_none rfl, fun K hK => ?_⟩
    obtain ⟨v0, e0, r0⟩ := cx.slot 23 42 (by kernel_rfl)
    obtain rfl : v0 = .bool true := r0
    exact wp_gen [(42, .bool true)] ⟨e0, trivial⟩ (by kernel_rfl) (by kernel_rfl) (hK.out _ w4 (show V483 b p n m a0 b0 m2 s2 l2 g2 S T _ 24 _ _ from rfl) (Below.refl _ _)))
  case o25 => exact FlowOp4.plain (v483_calm _ _ _ _ _ _ _ _ _ _ _ _ _ 25) fun a4 w4 s4 cx => (by
    obtain ⟨vg, eg, rg⟩ := cx.slot 24 43 (by kernel_rfl)
    obtain rfl : vg = .bool true := rg
    refine ⟨wanted_yes rfl rfl eg, fun K hK => ?_⟩
    have e0 := cx.keep 5 (.float .f64 a0) (by kernel_rfl) rfl
    exact wp_gen [(5, .float .f64 a0)] ⟨e0, trivial⟩ (by kernel_rfl) (by kernel_rfl) (hK.out _ w4 (show V483 b p n m a0 b0 m2 s2 l2 g2 S T _ 25 _ _ from rfl) (Below.refl _ _)))
  case o26 => exact FlowOp4.plain (v483_calm _ _ _ _ _ _ _ _ _ _ _ _ _ 26) fun a4 w4 s4 cx => (by
    obtain ⟨vg, eg, rg⟩ := cx.slot 24 43 (by kernel_rfl)
    obtain rfl : vg = .bool true := rg
    refine ⟨wanted_yes rfl rfl eg, fun K hK => ?_⟩
    have e0 := cx.keep 3 (.pointer (some ⟨p, 0, none⟩)) (by kernel_rfl) rfl
    exact wp_gen [(3, .pointer (some ⟨p, 0, none⟩))] ⟨e0, trivial⟩ (by kernel_rfl) (by kernel_rfl) (hK.out _ w4 (show V483 b p n m a0 b0 m2 s2 l2 g2 S T _ 26 _ _ from rfl) (Below.refl _ _)))
  case o27 => exact FlowOp4.plain (v483_calm _ _ _ _ _ _ _ _ _ _ _ _ _ 27) fun a4 w4 s4 cx => (by
    obtain ⟨vg, eg, rg⟩ := cx.slot 24 43 (by kernel_rfl)
    obtain rfl : vg = .bool true := rg
    refine ⟨wanted_yes rfl rfl eg, fun K hK => ?_⟩
    obtain ⟨v0, e0, r0⟩ := cx.slot 26 45 (by kernel_rfl)
    obtain rfl : v0 = .pointer (some ⟨p, 3, none⟩) := r0
    exact wp_gen [(45, .pointer (some ⟨p, 3, none⟩))] ⟨e0, trivial⟩ (by kernel_rfl) (run_read rfl rfl (run_lf22 (RqB.c3 (hq.out.below cx.ground)))) (hK.out _ w4 (show V483 b p n m a0 b0 m2 s2 l2 g2 S T _ 27 _ _ from rfl) (Below.refl _ _)))
  case o28 => exact FlowOp4.plain (v483_calm _ _ _ _ _ _ _ _ _ _ _ _ _ 28) fun a4 w4 s4 cx => (by
    obtain ⟨vg, eg, rg⟩ := cx.slot 24 43 (by kernel_rfl)
    obtain rfl : vg = .bool true := rg
    refine ⟨wanted_yes rfl rfl eg, fun K hK => ?_⟩
    obtain ⟨v0, e0, r0⟩ := cx.slot 25 44 (by kernel_rfl)
    obtain rfl : v0 = .float .f64 a0 := r0
    obtain ⟨v1, e1, r1⟩ := cx.slot 27 46 (by kernel_rfl)
    obtain rfl : v1 = .float .f64 l2 := r1
    exact wp_gen_call [(44, .float .f64 a0), (46, .float .f64 l2)] ⟨e0, e1, trivial⟩ (by kernel_rfl) (fun _ => by kernel_rfl) ((same_any a0 l2 w4 (same_by hA.out hL2.out)).mono fun e w' h => ⟨_, h.1, hK.out _ w' (show V483 b p n m a0 b0 m2 s2 l2 g2 S T _ 28 _ _ from rfl) (by rw [h.2]; exact Below.refl _ _)⟩))
  case o29 => exact FlowOp4.plain (v483_calm _ _ _ _ _ _ _ _ _ _ _ _ _ 29) fun a4 w4 s4 cx => (by
    refine ⟨wanted_none rfl, fun K hK => ?_⟩
    obtain ⟨v0, e0, r0⟩ := cx.slot 24 43 (by kernel_rfl)
    obtain rfl : v0 = .bool true := r0
    obtain ⟨v1, e1, r1⟩ := cx.slot 28 47 (by kernel_rfl)
    obtain rfl : v1 = .bool true := r1
    exact wp_gen [(43, .bool true), (47, .bool true)] ⟨e0, e1, trivial⟩ (by kernel_rfl) (by kernel_rfl) (hK.out _ w4 (show V483 b p n m a0 b0 m2 s2 l2 g2 S T _ 29 _ _ from rfl) (Below.refl _ _)))
  case o30 => exact FlowOp4.plain (v483_calm _ _ _ _ _ _ _ _ _ _ _ _ _ 30) fun a4 w4 s4 cx => (by
    refine ⟨wanted_none rfl, fun K hK => ?_⟩
    obtain ⟨v0, e0, r0⟩ := cx.slot 29 48 (by kernel_rfl)
    obtain rfl : v0 = .bool true := r0
    exact wp_gen [(48, .bool true)] ⟨e0, trivial⟩ (by kernel_rfl) (by kernel_rfl) (hK.out _ w4 (show V483 b p n m a0 b0 m2 s2 l2 g2 S T _ 30 _ _ from rfl) (Below.refl _ _)))
  case o31 => exact FlowOp4.plain (v483_calm _ _ _ _ _ _ _ _ _ _ _ _ _ 31) fun a4 w4 s4 cx => (by
    obtain ⟨vg, eg, rg⟩ := cx.slot 30 49 (by kernel_rfl)
    obtain rfl : vg = .bool true := rg
    refine ⟨wanted_yes rfl rfl eg, fun K hK => ?_⟩
    have e0 := cx.keep 7 (.float .f64 b0) (by kernel_rfl) rfl
    exact wp_gen [(7, .float .f64 b0)] ⟨e0, trivial⟩ (by kernel_rfl) (by kernel_rfl) (hK.out _ w4 (show V483 b p n m a0 b0 m2 s2 l2 g2 S T _ 31 _ _ from rfl) (Below.refl _ _)))
  case o32 => exact FlowOp4.plain (v483_calm _ _ _ _ _ _ _ _ _ _ _ _ _ 32) fun a4 w4 s4 cx => (by
    obtain ⟨vg, eg, rg⟩ := cx.slot 30 49 (by kernel_rfl)
    obtain rfl : vg = .bool true := rg
    refine ⟨wanted_yes rfl rfl eg, fun K hK => ?_⟩
    have e0 := cx.keep 3 (.pointer (some ⟨p, 0, none⟩)) (by kernel_rfl) rfl
    exact wp_gen [(3, .pointer (some ⟨p, 0, none⟩))] ⟨e0, trivial⟩ (by kernel_rfl) (by kernel_rfl) (hK.out _ w4 (show V483 b p n m a0 b0 m2 s2 l2 g2 S T _ 32 _ _ from rfl) (Below.refl _ _)))
  case o33 => exact FlowOp4.plain (v483_calm _ _ _ _ _ _ _ _ _ _ _ _ _ 33) fun a4 w4 s4 cx => (by
    obtain ⟨vg, eg, rg⟩ := cx.slot 30 49 (by kernel_rfl)
    obtain rfl : vg = .bool true := rg
    refine ⟨wanted_yes rfl rfl eg, fun K hK => ?_⟩
    obtain ⟨v0, e0, r0⟩ := cx.slot 32 51 (by kernel_rfl)
    obtain rfl : v0 = .pointer (some ⟨p, 4, none⟩) := r0
    exact wp_gen [(51, .pointer (some ⟨p, 4, none⟩))] ⟨e0, trivial⟩ (by kernel_rfl) (run_read rfl rfl (run_lf22 (RqB.c4 (hq.out.below cx.ground)))) (hK.out _ w4 (show V483 b p n m a0 b0 m2 s2 l2 g2 S T _ 33 _ _ from rfl) (Below.refl _ _)))
  case o34 => exact FlowOp4.plain (v483_calm _ _ _ _ _ _ _ _ _ _ _ _ _ 34) fun a4 w4 s4 cx => (by
    obtain ⟨vg, eg, rg⟩ := cx.slot 30 49 (by kernel_rfl)
    obtain rfl : vg = .bool true := rg
    refine ⟨wanted_yes rfl rfl eg, fun K hK => ?_⟩
    obtain ⟨v0, e0, r0⟩ := cx.slot 31 50 (by kernel_rfl)
    obtain rfl : v0 = .float .f64 b0 := r0
    obtain ⟨v1, e1, r1⟩ := cx.slot 33 52 (by kernel_rfl)
    obtain rfl : v1 = .float .f64 g2 := r1
    exact wp_gen_call [(50, .float .f64 b0), (52, .float .f64 g2)] ⟨e0, e1, trivial⟩ (by kernel_rfl) (fun _ => by kernel_rfl) ((same_any b0 g2 w4 (same_by hB.out hG2.out)).mono fun e w' h => ⟨_, h.1, hK.out _ w' (show V483 b p n m a0 b0 m2 s2 l2 g2 S T _ 34 _ _ from rfl) (by rw [h.2]; exact Below.refl _ _)⟩))
  case o35 => exact FlowOp4.plain (v483_calm _ _ _ _ _ _ _ _ _ _ _ _ _ 35) fun a4 w4 s4 cx => (by
    refine ⟨wanted_none rfl, fun K hK => ?_⟩
    obtain ⟨v0, e0, r0⟩ := cx.slot 30 49 (by kernel_rfl)
    obtain rfl : v0 = .bool true := r0
    obtain ⟨v1, e1, r1⟩ := cx.slot 34 53 (by kernel_rfl)
    obtain rfl : v1 = .bool true := r1
    exact wp_gen [(49, .bool true), (53, .bool true)] ⟨e0, e1, trivial⟩ (by kernel_rfl) (by kernel_rfl) (hK.out _ w4 (show V483 b p n m a0 b0 m2 s2 l2 g2 S T _ 35 _ _ from rfl) (Below.refl _ _)))
  case o36 => exact FlowOp4.plain (v483_calm _ _ _ _ _ _ _ _ _ _ _ _ _ 36) fun a4 w4 s4 cx => (by
    refine ⟨wanted_none rfl, fun K hK => ?_⟩
    obtain ⟨v0, e0, r0⟩ := cx.slot 35 54 (by kernel_rfl)
    obtain rfl : v0 = .bool true := r0
    exact wp_gen [(54, .bool true)] ⟨e0, trivial⟩ (by kernel_rfl) (by kernel_rfl) (hK.out _ w4 (show V483 b p n m a0 b0 m2 s2 l2 g2 S T _ 36 _ _ from rfl) (Below.refl _ _)))
  case hdone =>
    intro a w q hs hg hz hdf hk hgot
    obtain ⟨vt, et, rt⟩ := got_slot4 hgot 36 4 (by kernel_rfl)
    obtain rfl : vt = .bool true := rt
    have ha : At 55 [(4, .bool true)] a := ⟨hz, hdf, et, trivial⟩
    have hF := hK.out w hg
    replace hF : Hid (Q (.returned (.bool true)) w) := hF
    clear hK hgot hk hs hg et
    obtain ⟨f, rfl, h4, -⟩ := ha.lit
    change Code.wp _ _ _ ⟨#[f 0, f 1, f 2, f 3, f 4, f 5, f 6, f 7, f 8, f 9, f 10, f 11, f 12, f 13, f 14, f 15, f 16, f 17, f 18, f 19, f 20, f 21, f 22, f 23, f 24, f 25, f 26, f 27, f 28, f 29, f 30, f 31, f 32, f 33, f 34, f 35, f 36, f 37, f 38, f 39, f 40, f 41, f 42, f 43, f 44, f 45, f 46, f 47, f 48, f 49, f 50, f 51, f 52, f 53, f 54], []⟩ _
    simp only at h4
    simp only [h4]
    clear h4
    go_wp2
    exact hF.out
set_option maxRecDepth 100000 in
set_option maxHeartbeats 2000000 in
theorem runs_any (b : Nat) (v : Value) (r : Rs) (w : World) (h : Rg w b r) (hv : Rv v r) (hz : r.n = 0 → r.L = some 0 ∧ r.G = some 0) : Calls Try.prog 48 #[.pointer (some ⟨b, 0, none⟩), v] w fun e w' => e = .returned (.bool true) ∧ Below w.heap.size w w' := by
  obtain ⟨n, M, S, L, G⟩ := r
  obtain ⟨m, s, l, g, hR, hM, hS, hL, hG⟩ := h
  obtain ⟨m2, s2, l2, g2, rfl, hM2, hS2, hL2, hG2⟩ := hv
  simp only at hR hM hS hL hG hM2 hS2 hL2 hG2 hz ⊢
  have hA : Hid (Is (if n = 0 then 0 else l) L) := by
    rw [Hid]
    by_cases c : n = 0
    · rw [if_pos c, (hz c).1]; exact is_nul
    · rw [if_neg c]; exact hL
  have hB : Hid (Is (if n = 0 then 0 else g) G) := by
    rw [Hid]
    by_cases c : n = 0
    · rw [if_pos c, (hz c).2]; exact is_nul
    · rw [if_neg c]; exact hG
  have k1 := fun w h => least_r b n m s l g w h
  have k2 := fun w h => great_r b n m s l g w h
  have E0 : Hid (RqB (w.alloc (.cells (rc n m2 s2 l2 g2) 63)) w.heap.size n m2 s2 l2 g2) := heap_alloc_last _ _
  have B0 : Hid (Below w.heap.size w (w.alloc (.cells (rc n m2 s2 l2 g2) 63))) := (Below.refl _ _).alloc (Nat.le_refl _) _
  have hR0 : Hid (RnB (w.alloc (.cells (rc n m2 s2 l2 g2) 63)) b n m s l g) := hR.below B0.out
  have hX : Hid (∀ a w0, Below w.heap.size w w0 → RnB w0 b n m s l g → RqB w0 w.heap.size n m2 s2 l2 g2 → At 55 [(0, .pointer (some ⟨b, 0, none⟩)), (3, .pointer (some ⟨w.heap.size, 0, none⟩)), (5, .float .f64 (if n = 0 then 0 else l)), (6, .bool (decide (0 < n))), (7, .float .f64 (if n = 0 then 0 else g)), (8, .bool (decide (0 < n)))] a → Code.wp Try.prog (sq 3 body48) (bodyPost Try.prog Try.f48 fun e w' => e = .returned (.bool true) ∧ Below w.heap.size w w') a w0) :=
    fun a w0 hb hr hq ha => runs_3 b w.heap.size n m s l g m2 s2 l2 g2 _ _ M S L G _ a w0 hr hq hM hS hM2 hS2 hL2 hG2 hA.out hB.out rfl (fun w2 h2 => ⟨rfl, hb.trans (h2.mono hb.size)⟩) ha
  clear hA hB hz hL hG hM hS hM2 hS2 hL2 hG2 hR
  have hs : (rc n m2 s2 l2 g2).size = 5 := rfl
  generalize (if n = 0 then 0 else l) = a0 at *
  generalize (if n = 0 then 0 else g) = b0 at *
  generalize decide (0 < n) = T at *
  generalize rc n m2 s2 l2 g2 = R at *
  go_enter Try.func48, Try.ntmps48
  change Code.wp _ (Code.seq (hd (sq 0 body48)) (Code.seq (hd (sq 1 body48)) (Code.seq (hd (sq 2 body48)) (sq 3 body48)))) _ _ _
  generalize sq 3 body48 = REST at hX ⊢
  conv => arg 2; arg 1; whnf
  conv => arg 2; arg 2; arg 1; whnf
  conv => arg 2; arg 2; arg 2; arg 1; whnf
  go_wp2_with (go_at_call 46; refine (k1 _ hR0.out).mono ?_)
  intro e1 w1 hq
  first | (obtain ⟨rfl, b1⟩ : _ ∧ _ := hq) | (subst hq; intro b1)
  have hR1 : Hid (RnB w1 b n m s l g) := hR0.out.below b1
  have E1 : Hid (RqB w1 w.heap.size n m2 s2 l2 g2) := E0.out.below b1
  have B1 : Hid (Below w.heap.size w w1) := B0.out.trans (b1.mono B0.out.size)
  clear b1 hR0 E0 B0 k1
  go_wp2_with (go_at_call 82; refine (k2 _ hR1.out).mono ?_)
  intro e2 w2 hq
  first | (obtain ⟨rfl, b2⟩ : _ ∧ _ := hq) | (subst hq; intro b2)
  have hR2 : Hid (RnB w2 b n m s l g) := hR1.out.below b2
  have E2 : Hid (RqB w2 w.heap.size n m2 s2 l2 g2) := E1.out.below b2
  have B2 : Hid (Below w.heap.size w w2) := B1.out.trans (b2.mono B1.out.size)
  clear b2 hR1 E1 B1 k2
  go_wp2
  exact hX.out _ w2 B2.out hR2.out E2.out ⟨rfl, rfl, rfl, rfl, rfl, rfl, rfl, rfl, trivial⟩
noncomputable def body8 : Code := Try.f8.body.getD .skip
def blkC : Code → Code
  | .block _ c => c
  | c => c
def lpC : Code → Code
  | .loop c => c
  | c => c
noncomputable def lp8 : Code := lpC (blkC (sq 1 (hd (sq 7 body8))))
noncomputable def in8 : Code := blkC (hd (sq 1 lp8))
noncomputable def br8l : Code := thn (sq 1 (hd in8))
noncomputable def br8m : Code := thn (sq 1 (hd (sq 1 in8)))
/-- The block holds the document's Run. -/
def Rc (w : World) (p : Nat) (r : Rs) : Prop := ∃ m s l g, RqB w p r.n m s l g ∧ Is m r.M ∧ Is s r.S ∧ Is l r.L ∧ Is g r.G
theorem Rc.below {w w' : World} {b : Nat} {r : Rs} (h : Rc w b r) (hb : Below w.heap.size w w') : Rc w' b r := by
  obtain ⟨m, s, l, g, h1, h2⟩ := h
  exact ⟨m, s, l, g, h1.below hb, h2⟩
theorem Rc.kept {w w' : World} {b c : Nat} {r : Rs} (h : Rc w b r) (hg : w.grownBy w' (some c)) (hc : b ≠ c) : Rc w' b r := by
  obtain ⟨m, s, l, g, h1, h2⟩ := h
  exact ⟨m, s, l, g, h1.kept hg hc, h2⟩
theorem Rc.lt {w : World} {b : Nat} {r : Rs} (h : Rc w b r) : b < w.heap.size := by
  obtain ⟨m, s, l, g, h1, -⟩ := h
  exact h1.lt
theorem run_ia24 {w : World} {l : List (Nat × Value)} {o : Oper} {a b : Operand} {g off n c k : Nat} (ho : o.op = .indexAddr 24 a b) (ha : rho l a = .slice (some ⟨g, off, none⟩) n c) (hb : rho l b = .int .i64 (k : Int)) (h : k < n) : (execOp (rho l) o).run Try.prog w = .ok (.value (.pointer (some ⟨g, off + k, none⟩))) w := by
  have h2 : ¬ n ≤ k := by omega
  unfold execOp
  simp only [ho, ha, hb]
  simp [Instr.indexAt, asIntOf, run_underlying Try.underlying24, h2, Try.sizeOf22, Instr.sureAddr, Go.WideShapes.add_plain]
theorem rc_one (n : Int) (m s l g : Nat) : (rc n m s l g).all (·.oneCell') = true := by kernel_rfl
theorem wp_s63 {Q : Exit → Act → World → Prop} {o : Oper} {a : Act} {w : World} {K : Act → World → Prop} {x y : Operand} {b : Nat} {cs cs0 : Array Value} (l : List (Nat × Value)) (hl : AllIn a l) (hc : covers o l = true) (hd : o.dst = none) (ho : o.op = .store 63 x y) (hx : rho l x = .pointer (some ⟨b, 0, none⟩)) (hy : rho l y = .agg cs)
    (hg : w.heap[b]? = some (.cells cs0 63 (0, 0))) (hs : cs0.size = cs.size) (h5 : cs.size = 5) (h1 : cs.all (·.oneCell') = true) (h : K a (w.setRow b cs)) : o.wp Try.prog a w K Q := by
  have hr := run_storeVar_row (P := Try.prog) w b 63 63 cs0 cs hg (by rw [h5]; kernel_rfl) hs h1
  unfold Oper.wp
  rw [exec_rho l hl hc]
  unfold execOp
  simp only [ho, hx, hy, Instr.storeAt, Instr.sureAddr, Sem.run_bind, Sem.run_pure, Result.andThen_ok, hr, Oper.upon]
  rw [hd]
  exact h
theorem grow_row (w : World) (b : Nat) (cs : Array Value) : w.grownBy (w.setRow b cs) (some b) :=
  ⟨rfl, rfl, rfl, by simp, fun k _ hk => setRow_other w b k cs (fun e => hk (by rw [e]))⟩
def V817 (_p i gb ob ln cp x n m s l g : Nat) (r : Rs) : (Nat → Bool) → Nat → Value → World → Prop := fun _ j v _ => match j with
  | 0 => v = .agg (rc n m s l g)
  | 1 => v = .slice (some ⟨gb, ob, none⟩) ln cp
  | 2 => v = .int .i64 (i : Int)
  | 3 => v = .pointer (some ⟨gb, ob + i, none⟩)
  | 4 => v = .float .f64 x
  | 5 => Rv v r
  | _ => True
def C817 (n m s l g : Nat) (r : Rs) : (Nat → Bool) → Array Value → Prop := fun q cs => (q 6 = false → cs = rc n m s l g) ∧ (q 6 = true → Rv (.agg cs) r)
theorem v817_calm (p i gb ob ln cp x n m s l g : Nat) (r : Rs) (w0 : World) (k : Nat) (h1 : (6 == k) = false) : Calm (Wq p w0 (C817 n m s l g r)) (V817 p i gb ob ln cp x n m s l g r) k :=
  ⟨Wq.steady k fun q cs _ h => by unfold C817 at *; rw [mark_ne q k 6 h1]; exact h, fun _ _ _ _ _ _ _ h _ => h⟩
set_option maxRecDepth 100000 in
set_option maxHeartbeats 2000000 in
theorem r17_any {Q : Exit → Act → World → Prop} (bx by_ p q i gb ob ln cp x : Nat) (SM : Value) (r : Rs) (X : Option Nat) (a : Act) (w0 : World) (hR : Hid (Rc w0 p r)) (hx : Hid (Is x X)) (hn : Hid (r.n < 65536)) (hi : Hid (i < ln)) (hc : Hid (w0.cell? ⟨gb, ob + i, none⟩ = some (.float .f64 x))) (hne : Hid (gb ≠ p))
    (hK : Hid (∀ a w2, w0.grownBy w2 (some p) → Rc w2 p (r.nx X) → At 120 [(0, .slice (some ⟨gb, ob, none⟩) ln cp), (1, SM), (6, .pointer (some ⟨bx, 0, none⟩)), (7, .pointer (some ⟨by_, 0, none⟩)), (10, .pointer (some ⟨p, 0, none⟩)), (11, .pointer (some ⟨q, 0, none⟩)), (12, .int .i64 (i : Int))] a → Q .normal a w2)) (ha : At 120 [(0, .slice (some ⟨gb, ob, none⟩) ln cp), (1, SM), (6, .pointer (some ⟨bx, 0, none⟩)), (7, .pointer (some ⟨by_, 0, none⟩)), (10, .pointer (some ⟨p, 0, none⟩)), (11, .pointer (some ⟨q, 0, none⟩)), (12, .int .i64 (i : Int))] a) : Code.wp Try.prog (sq 1 br8l) Q a w0 := by
  obtain ⟨m, s, l, g, hq, hM, hS, hL, hG⟩ := hR.out
  clear hR
  replace hq : Hid (RqB w0 p r.n m s l g) := hq
  have hv : Hid (Rv (.agg (rc r.n m s l g)) r) := ⟨m, s, l, g, rfl, hM, hS, hL, hG⟩
  clear hM hS hL hG
  have hcell : Hid (∀ W, w0.grownBy W (some p) → W.cell? ⟨gb, ob + i, none⟩ = some (.float .f64 x)) := fun W hW => by
    have hb := World.block_lt_of_cell? w0 _ hc.out
    have := hW.block gb (by simpa using hb) (fun e => hne.out (by cases e; rfl))
    have h2 := hc.out
    simp only [World.cell?] at h2 ⊢
    rw [this]; exact h2
  generalize hnn : r.n = n at hq hv
  clear hnn hc hne
  obtain ⟨f, rfl, h0, h1, h6, h7, h10, h11, h12, -⟩ := ha.lit
  change Code.wp _ _ _ ⟨#[f 0, f 1, f 2, f 3, f 4, f 5, f 6, f 7, f 8, f 9, f 10, f 11, f 12, f 13, f 14, f 15, f 16, f 17, f 18, f 19, f 20, f 21, f 22, f 23, f 24, f 25, f 26, f 27, f 28, f 29, f 30, f 31, f 32, f 33, f 34, f 35, f 36, f 37, f 38, f 39, f 40, f 41, f 42, f 43, f 44, f 45, f 46, f 47, f 48, f 49, f 50, f 51, f 52, f 53, f 54, f 55, f 56, f 57, f 58, f 59, f 60, f 61, f 62, f 63, f 64, f 65, f 66, f 67, f 68, f 69, f 70, f 71, f 72, f 73, f 74, f 75, f 76, f 77, f 78, f 79, f 80, f 81, f 82, f 83, f 84, f 85, f 86, f 87, f 88, f 89, f 90, f 91, f 92, f 93, f 94, f 95, f 96, f 97, f 98, f 99, f 100, f 101, f 102, f 103, f 104, f 105, f 106, f 107, f 108, f 109, f 110, f 111, f 112, f 113, f 114, f 115, f 116, f 117, f 118, f 119], []⟩ _
  simp only at h0 h1 h6 h7 h10 h11 h12
  simp only [h0, h1, h6, h7, h10, h11, h12]
  clear h0 h1 h6 h7 h10 h11 h12
  conv => arg 2; whnf
  refine wp_region_turn (Wq p w0 (C817 n m s l g (r.nx X))) (V817 p i gb ob ln cp x n m s l g (r.nx X)) 120 rfl (by kernel_rfl) (by kernel_rfl) (Wq.start (rc n m s l g) hq.out (fun s hs => ⟨fun _ => rfl, (fun h => by rw [hs 6] at h; cases h)⟩)) ⟨?o0, ?o1, ?o2, ?o3, ?o4, ?o5, ?o6, trivial⟩ ?hdone
  case o0 => exact FlowOp4.plain (v817_calm _ _ _ _ _ _ _ _ _ _ _ _ _ _ 0 rfl) fun a4 w4 s4 cx => ⟨wanted_none rfl, fun K hK => by
    have e0 := cx.keep 10 (.pointer (some ⟨p, 0, none⟩)) (by kernel_rfl) rfl
    have hn6 : s4 6 = false := by
      cases q6 : s4 6 with
      | false => rfl
      | true =>
        have q5 := cx.down 6 _ rfl q6 5 (by kernel_rfl)
        have q0 := cx.down 5 _ rfl q5 0 (by kernel_rfl)
        rw [cx.new] at q0; cases q0
    obtain ⟨cs, hC, hat⟩ := cx.ground.at_
    obtain rfl := hC.1 hn6
    exact wp_gen [(10, .pointer (some ⟨p, 0, none⟩))] ⟨e0, trivial⟩ (by kernel_rfl) (run_read rfl rfl (run_loadVar_row _ _ _ _ _ _ _ hat Try.underlying63 rfl (by kernel_rfl))) (hK.out _ w4 (show V817 p i gb ob ln cp x n m s l g (r.nx X) _ 0 _ _ from rfl) (Below.refl _ _))⟩
  case o1 => exact FlowOp4.plain (v817_calm _ _ _ _ _ _ _ _ _ _ _ _ _ _ 1 rfl) fun a4 w4 s4 cx => ⟨wanted_none rfl, fun K hK => by
    have e0 := cx.keep 0 (.slice (some ⟨gb, ob, none⟩) ln cp) (by kernel_rfl) rfl
    exact wp_gen [(0, .slice (some ⟨gb, ob, none⟩) ln cp)] ⟨e0, trivial⟩ (by kernel_rfl) (by kernel_rfl) (hK.out _ w4 (show V817 p i gb ob ln cp x n m s l g (r.nx X) _ 1 _ _ from rfl) (Below.refl _ _))⟩
  case o2 => exact FlowOp4.plain (v817_calm _ _ _ _ _ _ _ _ _ _ _ _ _ _ 2 rfl) fun a4 w4 s4 cx => ⟨wanted_none rfl, fun K hK => by
    have e0 := cx.keep 12 (.int .i64 (i : Int)) (by kernel_rfl) rfl
    exact wp_gen [(12, .int .i64 (i : Int))] ⟨e0, trivial⟩ (by kernel_rfl) (by kernel_rfl) (hK.out _ w4 (show V817 p i gb ob ln cp x n m s l g (r.nx X) _ 2 _ _ from rfl) (Below.refl _ _))⟩
  case o3 => exact FlowOp4.plain (v817_calm _ _ _ _ _ _ _ _ _ _ _ _ _ _ 3 rfl) fun a4 w4 s4 cx => ⟨wanted_none rfl, fun K hK => by
    obtain ⟨v0, e0, r0⟩ := cx.slot 1 80 (by kernel_rfl)
    obtain rfl : v0 = .slice (some ⟨gb, ob, none⟩) ln cp := r0
    obtain ⟨v1, e1, r1⟩ := cx.slot 2 81 (by kernel_rfl)
    obtain rfl : v1 = .int .i64 (i : Int) := r1
    exact wp_gen [(80, .slice (some ⟨gb, ob, none⟩) ln cp), (81, .int .i64 (i : Int))] ⟨e0, e1, trivial⟩ (by kernel_rfl) (run_ia24 rfl rfl rfl hi.out) (hK.out _ w4 (show V817 p i gb ob ln cp x n m s l g (r.nx X) _ 3 _ _ from rfl) (Below.refl _ _))⟩
  case o4 => exact FlowOp4.plain (v817_calm _ _ _ _ _ _ _ _ _ _ _ _ _ _ 4 rfl) fun a4 w4 s4 cx => ⟨wanted_none rfl, fun K hK => by
    obtain ⟨v0, e0, r0⟩ := cx.slot 3 82 (by kernel_rfl)
    obtain rfl : v0 = .pointer (some ⟨gb, ob + i, none⟩) := r0
    exact wp_gen [(82, .pointer (some ⟨gb, ob + i, none⟩))] ⟨e0, trivial⟩ (by kernel_rfl) (run_read rfl rfl (run_lf22 (hcell.out _ cx.ground.grow))) (hK.out _ w4 (show V817 p i gb ob ln cp x n m s l g (r.nx X) _ 4 _ _ from rfl) (Below.refl _ _))⟩
  case o5 => exact FlowOp4.plain (v817_calm _ _ _ _ _ _ _ _ _ _ _ _ _ _ 5 rfl) fun a4 w4 s4 cx => ⟨wanted_none rfl, fun K hK => by
    obtain ⟨v0, e0, r0⟩ := cx.slot 0 79 (by kernel_rfl)
    obtain rfl : v0 = .agg (rc n m s l g) := r0
    obtain ⟨v1, e1, r1⟩ := cx.slot 4 83 (by kernel_rfl)
    obtain rfl : v1 = .float .f64 x := r1
    exact wp_gen_call [(79, .agg (rc n m s l g)), (83, .float .f64 x)] ⟨e0, e1, trivial⟩ (by kernel_rfl) (fun _ => by kernel_rfl) ((rrun_any _ x r X w4 hv.out hx.out hn.out).mono fun e w' ⟨v', h1, h2, h3⟩ => ⟨_, h1, hK.out _ w' h2 h3⟩)⟩
  case o6 => exact FlowOp4.turn fun a4 w4 s4 cx => ⟨wanted_none rfl, fun K hK => by
    have e0 := cx.keep 10 (.pointer (some ⟨p, 0, none⟩)) (by kernel_rfl) rfl
    obtain ⟨v1, e1, r1⟩ := cx.slot 5 84 (by kernel_rfl)
    replace r1 : Rv v1 (r.nx X) := r1
    have r2 := r1
    obtain ⟨m', s', l', g', rfl, -⟩ := r1
    obtain ⟨cs, hC, hat⟩ := cx.ground.at_
    obtain rfl := hC.1 cx.new
    exact wp_s63 [(10, .pointer (some ⟨p, 0, none⟩)), (84, .agg (rc (r.nx X).n m' s' l' g'))] ⟨e0, e1, trivial⟩ (by kernel_rfl) rfl rfl rfl rfl hat rfl rfl (rc_one _ _ _ _ _) (hK.out undef _ ⟨grow_trans cx.ground.grow (grow_row _ _ _), _, ⟨(fun h => by rw [mark_eq] at h; cases h), fun _ => r2⟩, setRow_heap _ _ _ _ _ _ hat⟩ trivial fun j u _ hu => hu)⟩
  case hdone =>
    intro a w s4 hs hw hz hdf hk hgot
    obtain ⟨cs, hC, hat⟩ := hw.at_
    obtain ⟨m', s', l', g', he, h2⟩ := hC.2 (hs 6 (by decide))
    cases he
    exact hK.out a w hw.grow ⟨m', s', l', g', hat, h2⟩ ⟨hz, hdf, (hk 0 (by kernel_rfl)).trans rfl, (hk 1 (by kernel_rfl)).trans rfl, (hk 6 (by kernel_rfl)).trans rfl, (hk 7 (by kernel_rfl)).trans rfl, (hk 10 (by kernel_rfl)).trans rfl, (hk 11 (by kernel_rfl)).trans rfl, (hk 12 (by kernel_rfl)).trans rfl, trivial⟩
set_option maxRecDepth 100000 in
set_option maxHeartbeats 2000000 in
theorem r21_any {Q : Exit → Act → World → Prop} (bx by_ p q i gb ob ln cp x : Nat) (SL : Value) (r : Rs) (X : Option Nat) (a : Act) (w0 : World) (hR : Hid (Rc w0 q r)) (hx : Hid (Is x X)) (hn : Hid (r.n < 65536)) (hi : Hid (i < ln)) (hc : Hid (w0.cell? ⟨gb, ob + i, none⟩ = some (.float .f64 x))) (hne : Hid (gb ≠ q))
    (hK : Hid (∀ a w2, w0.grownBy w2 (some q) → Rc w2 q (r.nx X) → At 120 [(0, SL), (1, .slice (some ⟨gb, ob, none⟩) ln cp), (6, .pointer (some ⟨bx, 0, none⟩)), (7, .pointer (some ⟨by_, 0, none⟩)), (10, .pointer (some ⟨p, 0, none⟩)), (11, .pointer (some ⟨q, 0, none⟩)), (12, .int .i64 (i : Int))] a → Q .normal a w2)) (ha : At 120 [(0, SL), (1, .slice (some ⟨gb, ob, none⟩) ln cp), (6, .pointer (some ⟨bx, 0, none⟩)), (7, .pointer (some ⟨by_, 0, none⟩)), (10, .pointer (some ⟨p, 0, none⟩)), (11, .pointer (some ⟨q, 0, none⟩)), (12, .int .i64 (i : Int))] a) : Code.wp Try.prog (sq 1 br8m) Q a w0 := by
  obtain ⟨m, s, l, g, hq, hM, hS, hL, hG⟩ := hR.out
  clear hR
  replace hq : Hid (RqB w0 q r.n m s l g) := hq
  have hv : Hid (Rv (.agg (rc r.n m s l g)) r) := ⟨m, s, l, g, rfl, hM, hS, hL, hG⟩
  clear hM hS hL hG
  have hcell : Hid (∀ W, w0.grownBy W (some q) → W.cell? ⟨gb, ob + i, none⟩ = some (.float .f64 x)) := fun W hW => by
    have hb := World.block_lt_of_cell? w0 _ hc.out
    have := hW.block gb (by simpa using hb) (fun e => hne.out (by cases e; rfl))
    have h2 := hc.out
    simp only [World.cell?] at h2 ⊢
    rw [this]; exact h2
  generalize hnn : r.n = n at hq hv
  clear hnn hc hne
  obtain ⟨f, rfl, h0, h1, h6, h7, h10, h11, h12, -⟩ := ha.lit
  change Code.wp _ _ _ ⟨#[f 0, f 1, f 2, f 3, f 4, f 5, f 6, f 7, f 8, f 9, f 10, f 11, f 12, f 13, f 14, f 15, f 16, f 17, f 18, f 19, f 20, f 21, f 22, f 23, f 24, f 25, f 26, f 27, f 28, f 29, f 30, f 31, f 32, f 33, f 34, f 35, f 36, f 37, f 38, f 39, f 40, f 41, f 42, f 43, f 44, f 45, f 46, f 47, f 48, f 49, f 50, f 51, f 52, f 53, f 54, f 55, f 56, f 57, f 58, f 59, f 60, f 61, f 62, f 63, f 64, f 65, f 66, f 67, f 68, f 69, f 70, f 71, f 72, f 73, f 74, f 75, f 76, f 77, f 78, f 79, f 80, f 81, f 82, f 83, f 84, f 85, f 86, f 87, f 88, f 89, f 90, f 91, f 92, f 93, f 94, f 95, f 96, f 97, f 98, f 99, f 100, f 101, f 102, f 103, f 104, f 105, f 106, f 107, f 108, f 109, f 110, f 111, f 112, f 113, f 114, f 115, f 116, f 117, f 118, f 119], []⟩ _
  simp only at h0 h1 h6 h7 h10 h11 h12
  simp only [h0, h1, h6, h7, h10, h11, h12]
  clear h0 h1 h6 h7 h10 h11 h12
  conv => arg 2; whnf
  refine wp_region_turn (Wq q w0 (C817 n m s l g (r.nx X))) (V817 q i gb ob ln cp x n m s l g (r.nx X)) 120 rfl (by kernel_rfl) (by kernel_rfl) (Wq.start (rc n m s l g) hq.out (fun s hs => ⟨fun _ => rfl, (fun h => by rw [hs 6] at h; cases h)⟩)) ⟨?o0, ?o1, ?o2, ?o3, ?o4, ?o5, ?o6, trivial⟩ ?hdone
  case o0 => exact FlowOp4.plain (v817_calm _ _ _ _ _ _ _ _ _ _ _ _ _ _ 0 rfl) fun a4 w4 s4 cx => ⟨wanted_none rfl, fun K hK => by
    have e0 := cx.keep 11 (.pointer (some ⟨q, 0, none⟩)) (by kernel_rfl) rfl
    have hn6 : s4 6 = false := by
      cases q6 : s4 6 with
      | false => rfl
      | true =>
        have q5 := cx.down 6 _ rfl q6 5 (by kernel_rfl)
        have q0 := cx.down 5 _ rfl q5 0 (by kernel_rfl)
        rw [cx.new] at q0; cases q0
    obtain ⟨cs, hC, hat⟩ := cx.ground.at_
    obtain rfl := hC.1 hn6
    exact wp_gen [(11, .pointer (some ⟨q, 0, none⟩))] ⟨e0, trivial⟩ (by kernel_rfl) (run_read rfl rfl (run_loadVar_row _ _ _ _ _ _ _ hat Try.underlying63 rfl (by kernel_rfl))) (hK.out _ w4 (show V817 q i gb ob ln cp x n m s l g (r.nx X) _ 0 _ _ from rfl) (Below.refl _ _))⟩
  case o1 => exact FlowOp4.plain (v817_calm _ _ _ _ _ _ _ _ _ _ _ _ _ _ 1 rfl) fun a4 w4 s4 cx => ⟨wanted_none rfl, fun K hK => by
    have e0 := cx.keep 1 (.slice (some ⟨gb, ob, none⟩) ln cp) (by kernel_rfl) rfl
    exact wp_gen [(1, .slice (some ⟨gb, ob, none⟩) ln cp)] ⟨e0, trivial⟩ (by kernel_rfl) (by kernel_rfl) (hK.out _ w4 (show V817 q i gb ob ln cp x n m s l g (r.nx X) _ 1 _ _ from rfl) (Below.refl _ _))⟩
  case o2 => exact FlowOp4.plain (v817_calm _ _ _ _ _ _ _ _ _ _ _ _ _ _ 2 rfl) fun a4 w4 s4 cx => ⟨wanted_none rfl, fun K hK => by
    have e0 := cx.keep 12 (.int .i64 (i : Int)) (by kernel_rfl) rfl
    exact wp_gen [(12, .int .i64 (i : Int))] ⟨e0, trivial⟩ (by kernel_rfl) (by kernel_rfl) (hK.out _ w4 (show V817 q i gb ob ln cp x n m s l g (r.nx X) _ 2 _ _ from rfl) (Below.refl _ _))⟩
  case o3 => exact FlowOp4.plain (v817_calm _ _ _ _ _ _ _ _ _ _ _ _ _ _ 3 rfl) fun a4 w4 s4 cx => ⟨wanted_none rfl, fun K hK => by
    obtain ⟨v0, e0, r0⟩ := cx.slot 1 97 (by kernel_rfl)
    obtain rfl : v0 = .slice (some ⟨gb, ob, none⟩) ln cp := r0
    obtain ⟨v1, e1, r1⟩ := cx.slot 2 98 (by kernel_rfl)
    obtain rfl : v1 = .int .i64 (i : Int) := r1
    exact wp_gen [(97, .slice (some ⟨gb, ob, none⟩) ln cp), (98, .int .i64 (i : Int))] ⟨e0, e1, trivial⟩ (by kernel_rfl) (run_ia24 rfl rfl rfl hi.out) (hK.out _ w4 (show V817 q i gb ob ln cp x n m s l g (r.nx X) _ 3 _ _ from rfl) (Below.refl _ _))⟩
  case o4 => exact FlowOp4.plain (v817_calm _ _ _ _ _ _ _ _ _ _ _ _ _ _ 4 rfl) fun a4 w4 s4 cx => ⟨wanted_none rfl, fun K hK => by
    obtain ⟨v0, e0, r0⟩ := cx.slot 3 99 (by kernel_rfl)
    obtain rfl : v0 = .pointer (some ⟨gb, ob + i, none⟩) := r0
    exact wp_gen [(99, .pointer (some ⟨gb, ob + i, none⟩))] ⟨e0, trivial⟩ (by kernel_rfl) (run_read rfl rfl (run_lf22 (hcell.out _ cx.ground.grow))) (hK.out _ w4 (show V817 q i gb ob ln cp x n m s l g (r.nx X) _ 4 _ _ from rfl) (Below.refl _ _))⟩
  case o5 => exact FlowOp4.plain (v817_calm _ _ _ _ _ _ _ _ _ _ _ _ _ _ 5 rfl) fun a4 w4 s4 cx => ⟨wanted_none rfl, fun K hK => by
    obtain ⟨v0, e0, r0⟩ := cx.slot 0 96 (by kernel_rfl)
    obtain rfl : v0 = .agg (rc n m s l g) := r0
    obtain ⟨v1, e1, r1⟩ := cx.slot 4 100 (by kernel_rfl)
    obtain rfl : v1 = .float .f64 x := r1
    exact wp_gen_call [(96, .agg (rc n m s l g)), (100, .float .f64 x)] ⟨e0, e1, trivial⟩ (by kernel_rfl) (fun _ => by kernel_rfl) ((rrun_any _ x r X w4 hv.out hx.out hn.out).mono fun e w' ⟨v', h1, h2, h3⟩ => ⟨_, h1, hK.out _ w' h2 h3⟩)⟩
  case o6 => exact FlowOp4.turn fun a4 w4 s4 cx => ⟨wanted_none rfl, fun K hK => by
    have e0 := cx.keep 11 (.pointer (some ⟨q, 0, none⟩)) (by kernel_rfl) rfl
    obtain ⟨v1, e1, r1⟩ := cx.slot 5 101 (by kernel_rfl)
    replace r1 : Rv v1 (r.nx X) := r1
    have r2 := r1
    obtain ⟨m', s', l', g', rfl, -⟩ := r1
    obtain ⟨cs, hC, hat⟩ := cx.ground.at_
    obtain rfl := hC.1 cx.new
    exact wp_s63 [(11, .pointer (some ⟨q, 0, none⟩)), (101, .agg (rc (r.nx X).n m' s' l' g'))] ⟨e0, e1, trivial⟩ (by kernel_rfl) rfl rfl rfl rfl hat rfl rfl (rc_one _ _ _ _ _) (hK.out undef _ ⟨grow_trans cx.ground.grow (grow_row _ _ _), _, ⟨(fun h => by rw [mark_eq] at h; cases h), fun _ => r2⟩, setRow_heap _ _ _ _ _ _ hat⟩ trivial fun j u _ hu => hu)⟩
  case hdone =>
    intro a w s4 hs hw hz hdf hk hgot
    obtain ⟨cs, hC, hat⟩ := hw.at_
    obtain ⟨m', s', l', g', he, h2⟩ := hC.2 (hs 6 (by decide))
    cases he
    exact hK.out a w hw.grow ⟨m', s', l', g', hat, h2⟩ ⟨hz, hdf, (hk 0 (by kernel_rfl)).trans rfl, (hk 1 (by kernel_rfl)).trans rfl, (hk 6 (by kernel_rfl)).trans rfl, (hk 7 (by kernel_rfl)).trans rfl, (hk 10 (by kernel_rfl)).trans rfl, (hk 11 (by kernel_rfl)).trans rfl, (hk 12 (by kernel_rfl)).trans rfl, trivial⟩
theorem cell_kept {w W : World} {gb o b : Nat} {v : Value} (h : w.cell? ⟨gb, o, none⟩ = some v) (hg : w.grownBy W (some b)) (hne : gb ≠ b) : W.cell? ⟨gb, o, none⟩ = some v := by
  have hb := World.block_lt_of_cell? w _ h
  have := hg.block gb (by simpa using hb) (fun e => hne (by cases e; rfl))
  simp only [World.cell?] at h ⊢
  rw [this]; exact h
set_option maxRecDepth 100000 in
set_option maxHeartbeats 2000000 in
theorem stl_no {Q : Exit → Act → World → Prop} (bx by_ p q i ln cp : Nat) (P0 : Option Addr) (SM : Value) (a : Act) (w0 : World) (hi : decide ((i : Int) < (ln : Int)) = false)
    (hK : Hid (∀ a, At 120 [(0, .slice P0 ln cp), (1, SM), (6, .pointer (some ⟨bx, 0, none⟩)), (7, .pointer (some ⟨by_, 0, none⟩)), (10, .pointer (some ⟨p, 0, none⟩)), (11, .pointer (some ⟨q, 0, none⟩)), (12, .int .i64 (i : Int))] a → Q .normal a w0)) (ha : At 120 [(0, .slice P0 ln cp), (1, SM), (6, .pointer (some ⟨bx, 0, none⟩)), (7, .pointer (some ⟨by_, 0, none⟩)), (10, .pointer (some ⟨p, 0, none⟩)), (11, .pointer (some ⟨q, 0, none⟩)), (12, .int .i64 (i : Int))] a) : Code.wp Try.prog (hd in8) Q a w0 := by
  have I1 : ¬ ((i : Int) < (ln : Int)) := of_decide_eq_false hi
  obtain ⟨f, rfl, h0, h1, h6, h7, h10, h11, h12, -⟩ := ha.lit
  change Code.wp _ _ _ ⟨#[f 0, f 1, f 2, f 3, f 4, f 5, f 6, f 7, f 8, f 9, f 10, f 11, f 12, f 13, f 14, f 15, f 16, f 17, f 18, f 19, f 20, f 21, f 22, f 23, f 24, f 25, f 26, f 27, f 28, f 29, f 30, f 31, f 32, f 33, f 34, f 35, f 36, f 37, f 38, f 39, f 40, f 41, f 42, f 43, f 44, f 45, f 46, f 47, f 48, f 49, f 50, f 51, f 52, f 53, f 54, f 55, f 56, f 57, f 58, f 59, f 60, f 61, f 62, f 63, f 64, f 65, f 66, f 67, f 68, f 69, f 70, f 71, f 72, f 73, f 74, f 75, f 76, f 77, f 78, f 79, f 80, f 81, f 82, f 83, f 84, f 85, f 86, f 87, f 88, f 89, f 90, f 91, f 92, f 93, f 94, f 95, f 96, f 97, f 98, f 99, f 100, f 101, f 102, f 103, f 104, f 105, f 106, f 107, f 108, f 109, f 110, f 111, f 112, f 113, f 114, f 115, f 116, f 117, f 118, f 119], []⟩ _
  simp only at h0 h1 h6 h7 h10 h11 h12
  simp only [h0, h1, h6, h7, h10, h11, h12]
  clear h0 h1 h6 h7 h10 h11 h12
  conv => arg 2; whnf
  go_wp2
  exact hK.out _ (by exact ⟨rfl, rfl, rfl, rfl, rfl, rfl, rfl, rfl, rfl, trivial⟩)
set_option maxRecDepth 100000 in
set_option maxHeartbeats 2000000 in
theorem stl_yes {Q : Exit → Act → World → Prop} (bx by_ p q i gb ob ln cp x : Nat) (SM : Value) (r : Rs) (X : Option Nat) (a : Act) (w0 : World) (hR : Hid (Rg w0 bx r)) (hP : Hid (Rc w0 p r)) (hx : Hid (Is x X)) (hn : Hid (r.n < 65536)) (hi : Hid (i < ln)) (hc : w0.cell? ⟨gb, ob + i, none⟩ = some (.float .f64 x)) (hne : Hid (gb ≠ p ∧ gb ≠ bx ∧ p ≠ bx))
    (hK : Hid (∀ a w1 w2, w0.grownBy w1 (some bx) → w1.grownBy w2 (some p) → Rg w2 bx (r.nx X) → Rc w2 p (r.nx X) → At 120 [(0, .slice (some ⟨gb, ob, none⟩) ln cp), (1, SM), (6, .pointer (some ⟨bx, 0, none⟩)), (7, .pointer (some ⟨by_, 0, none⟩)), (10, .pointer (some ⟨p, 0, none⟩)), (11, .pointer (some ⟨q, 0, none⟩)), (12, .int .i64 (i : Int))] a → Q .normal a w2)) (ha : At 120 [(0, .slice (some ⟨gb, ob, none⟩) ln cp), (1, SM), (6, .pointer (some ⟨bx, 0, none⟩)), (7, .pointer (some ⟨by_, 0, none⟩)), (10, .pointer (some ⟨p, 0, none⟩)), (11, .pointer (some ⟨q, 0, none⟩)), (12, .int .i64 (i : Int))] a) : Code.wp Try.prog (hd in8) Q a w0 := by
  have hreg : Hid (∀ a w1, w0.grownBy w1 (some bx) → Rg w1 bx (r.nx X) → At 120 [(0, .slice (some ⟨gb, ob, none⟩) ln cp), (1, SM), (6, .pointer (some ⟨bx, 0, none⟩)), (7, .pointer (some ⟨by_, 0, none⟩)), (10, .pointer (some ⟨p, 0, none⟩)), (11, .pointer (some ⟨q, 0, none⟩)), (12, .int .i64 (i : Int))] a → Code.wp Try.prog (sq 1 br8l) Q a w1) := fun a w1 g1 R1 ha =>
    r17_any bx by_ p q i gb ob ln cp x SM r X a w1 (hP.out.kept g1 hne.out.2.2) hx hn hi (cell_kept hc g1 hne.out.2.1) hne.out.1 (fun a w2 g2 R2 ha => hK.out a w1 w2 g1 g2 (R1.kept g2 (Ne.symm hne.out.2.2)) R2 ha) ha
  have k1 : Hid (Calls Try.prog 43 #[.pointer (some ⟨bx, 0, none⟩), .float .f64 x] w0 fun e w' => e = .returned (.int .i64 0) ∧ w0.grownBy w' (some bx) ∧ Rg w' bx (r.nx X)) := radd_any bx x r X w0 hR.out hx.out hn.out
  have hd1 : decide ((i : Int) < (ln : Int)) = true := decide_eq_true (by have := hi.out; omega)
  have hd2 : (i : Int) < (ln : Int) := by have := hi.out; omega
  clear hR hP hx hn hi hne hK
  obtain ⟨f, rfl, h0, h1, h6, h7, h10, h11, h12, -⟩ := ha.lit
  change Code.wp _ _ _ ⟨#[f 0, f 1, f 2, f 3, f 4, f 5, f 6, f 7, f 8, f 9, f 10, f 11, f 12, f 13, f 14, f 15, f 16, f 17, f 18, f 19, f 20, f 21, f 22, f 23, f 24, f 25, f 26, f 27, f 28, f 29, f 30, f 31, f 32, f 33, f 34, f 35, f 36, f 37, f 38, f 39, f 40, f 41, f 42, f 43, f 44, f 45, f 46, f 47, f 48, f 49, f 50, f 51, f 52, f 53, f 54, f 55, f 56, f 57, f 58, f 59, f 60, f 61, f 62, f 63, f 64, f 65, f 66, f 67, f 68, f 69, f 70, f 71, f 72, f 73, f 74, f 75, f 76, f 77, f 78, f 79, f 80, f 81, f 82, f 83, f 84, f 85, f 86, f 87, f 88, f 89, f 90, f 91, f 92, f 93, f 94, f 95, f 96, f 97, f 98, f 99, f 100, f 101, f 102, f 103, f 104, f 105, f 106, f 107, f 108, f 109, f 110, f 111, f 112, f 113, f 114, f 115, f 116, f 117, f 118, f 119], []⟩ _
  simp only at h0 h1 h6 h7 h10 h11 h12
  simp only [h0, h1, h6, h7, h10, h11, h12]
  clear h0 h1 h6 h7 h10 h11 h12
  change Code.wp _ (Code.seq (hd (hd in8)) (Code.cond (Operand.tmp 71) (Code.seq (hd br8l) (sq 1 br8l)) Code.skip)) _ _ _
  generalize sq 1 br8l = REST at hreg ⊢
  conv => arg 2; arg 1; whnf
  conv => arg 2; arg 2; arg 2; arg 1; whnf
  go_wp2_with (go_at_call 43; refine k1.out.mono ?_)
  first | rintro e w1 rfl g1 R1 | rintro e w1 ⟨rfl, g1, R1⟩
  replace g1 : Hid (w0.grownBy w1 (some bx)) := g1
  replace R1 : Hid (Rg w1 bx (r.nx X)) := R1
  clear k1 hc
  go_wp2
  exact hreg.out _ w1 g1.out R1.out ⟨rfl, rfl, rfl, rfl, rfl, rfl, rfl, rfl, rfl, trivial⟩
set_option maxRecDepth 100000 in
set_option maxHeartbeats 2000000 in
theorem stm_no {Q : Exit → Act → World → Prop} (bx by_ p q i ln cp : Nat) (P0 : Option Addr) (SL : Value) (a : Act) (w0 : World) (hi : decide ((i : Int) < (ln : Int)) = false)
    (hK : Hid (∀ a, At 120 [(0, SL), (1, .slice P0 ln cp), (6, .pointer (some ⟨bx, 0, none⟩)), (7, .pointer (some ⟨by_, 0, none⟩)), (10, .pointer (some ⟨p, 0, none⟩)), (11, .pointer (some ⟨q, 0, none⟩)), (12, .int .i64 (i : Int))] a → Q .normal a w0)) (ha : At 120 [(0, SL), (1, .slice P0 ln cp), (6, .pointer (some ⟨bx, 0, none⟩)), (7, .pointer (some ⟨by_, 0, none⟩)), (10, .pointer (some ⟨p, 0, none⟩)), (11, .pointer (some ⟨q, 0, none⟩)), (12, .int .i64 (i : Int))] a) : Code.wp Try.prog (hd (sq 1 in8)) Q a w0 := by
  have I1 : ¬ ((i : Int) < (ln : Int)) := of_decide_eq_false hi
  obtain ⟨f, rfl, h0, h1, h6, h7, h10, h11, h12, -⟩ := ha.lit
  change Code.wp _ _ _ ⟨#[f 0, f 1, f 2, f 3, f 4, f 5, f 6, f 7, f 8, f 9, f 10, f 11, f 12, f 13, f 14, f 15, f 16, f 17, f 18, f 19, f 20, f 21, f 22, f 23, f 24, f 25, f 26, f 27, f 28, f 29, f 30, f 31, f 32, f 33, f 34, f 35, f 36, f 37, f 38, f 39, f 40, f 41, f 42, f 43, f 44, f 45, f 46, f 47, f 48, f 49, f 50, f 51, f 52, f 53, f 54, f 55, f 56, f 57, f 58, f 59, f 60, f 61, f 62, f 63, f 64, f 65, f 66, f 67, f 68, f 69, f 70, f 71, f 72, f 73, f 74, f 75, f 76, f 77, f 78, f 79, f 80, f 81, f 82, f 83, f 84, f 85, f 86, f 87, f 88, f 89, f 90, f 91, f 92, f 93, f 94, f 95, f 96, f 97, f 98, f 99, f 100, f 101, f 102, f 103, f 104, f 105, f 106, f 107, f 108, f 109, f 110, f 111, f 112, f 113, f 114, f 115, f 116, f 117, f 118, f 119], []⟩ _
  simp only at h0 h1 h6 h7 h10 h11 h12
  simp only [h0, h1, h6, h7, h10, h11, h12]
  clear h0 h1 h6 h7 h10 h11 h12
  conv => arg 2; whnf
  go_wp2
  exact hK.out _ (by exact ⟨rfl, rfl, rfl, rfl, rfl, rfl, rfl, rfl, rfl, trivial⟩)
set_option maxRecDepth 100000 in
set_option maxHeartbeats 2000000 in
theorem stm_yes {Q : Exit → Act → World → Prop} (bx by_ p q i gb ob ln cp x : Nat) (SL : Value) (r : Rs) (X : Option Nat) (a : Act) (w0 : World) (hR : Hid (Rg w0 by_ r)) (hP : Hid (Rc w0 q r)) (hx : Hid (Is x X)) (hn : Hid (r.n < 65536)) (hi : Hid (i < ln)) (hc : w0.cell? ⟨gb, ob + i, none⟩ = some (.float .f64 x)) (hne : Hid (gb ≠ q ∧ gb ≠ by_ ∧ q ≠ by_))
    (hK : Hid (∀ a w1 w2, w0.grownBy w1 (some by_) → w1.grownBy w2 (some q) → Rg w2 by_ (r.nx X) → Rc w2 q (r.nx X) → At 120 [(0, SL), (1, .slice (some ⟨gb, ob, none⟩) ln cp), (6, .pointer (some ⟨bx, 0, none⟩)), (7, .pointer (some ⟨by_, 0, none⟩)), (10, .pointer (some ⟨p, 0, none⟩)), (11, .pointer (some ⟨q, 0, none⟩)), (12, .int .i64 (i : Int))] a → Q .normal a w2)) (ha : At 120 [(0, SL), (1, .slice (some ⟨gb, ob, none⟩) ln cp), (6, .pointer (some ⟨bx, 0, none⟩)), (7, .pointer (some ⟨by_, 0, none⟩)), (10, .pointer (some ⟨p, 0, none⟩)), (11, .pointer (some ⟨q, 0, none⟩)), (12, .int .i64 (i : Int))] a) : Code.wp Try.prog (hd (sq 1 in8)) Q a w0 := by
  have hreg : Hid (∀ a w1, w0.grownBy w1 (some by_) → Rg w1 by_ (r.nx X) → At 120 [(0, SL), (1, .slice (some ⟨gb, ob, none⟩) ln cp), (6, .pointer (some ⟨bx, 0, none⟩)), (7, .pointer (some ⟨by_, 0, none⟩)), (10, .pointer (some ⟨p, 0, none⟩)), (11, .pointer (some ⟨q, 0, none⟩)), (12, .int .i64 (i : Int))] a → Code.wp Try.prog (sq 1 br8m) Q a w1) := fun a w1 g1 R1 ha =>
    r21_any bx by_ p q i gb ob ln cp x SL r X a w1 (hP.out.kept g1 hne.out.2.2) hx hn hi (cell_kept hc g1 hne.out.2.1) hne.out.1 (fun a w2 g2 R2 ha => hK.out a w1 w2 g1 g2 (R1.kept g2 (Ne.symm hne.out.2.2)) R2 ha) ha
  have k1 : Hid (Calls Try.prog 43 #[.pointer (some ⟨by_, 0, none⟩), .float .f64 x] w0 fun e w' => e = .returned (.int .i64 0) ∧ w0.grownBy w' (some by_) ∧ Rg w' by_ (r.nx X)) := radd_any by_ x r X w0 hR.out hx.out hn.out
  have hd1 : decide ((i : Int) < (ln : Int)) = true := decide_eq_true (by have := hi.out; omega)
  have hd2 : (i : Int) < (ln : Int) := by have := hi.out; omega
  clear hR hP hx hn hi hne hK
  obtain ⟨f, rfl, h0, h1, h6, h7, h10, h11, h12, -⟩ := ha.lit
  change Code.wp _ _ _ ⟨#[f 0, f 1, f 2, f 3, f 4, f 5, f 6, f 7, f 8, f 9, f 10, f 11, f 12, f 13, f 14, f 15, f 16, f 17, f 18, f 19, f 20, f 21, f 22, f 23, f 24, f 25, f 26, f 27, f 28, f 29, f 30, f 31, f 32, f 33, f 34, f 35, f 36, f 37, f 38, f 39, f 40, f 41, f 42, f 43, f 44, f 45, f 46, f 47, f 48, f 49, f 50, f 51, f 52, f 53, f 54, f 55, f 56, f 57, f 58, f 59, f 60, f 61, f 62, f 63, f 64, f 65, f 66, f 67, f 68, f 69, f 70, f 71, f 72, f 73, f 74, f 75, f 76, f 77, f 78, f 79, f 80, f 81, f 82, f 83, f 84, f 85, f 86, f 87, f 88, f 89, f 90, f 91, f 92, f 93, f 94, f 95, f 96, f 97, f 98, f 99, f 100, f 101, f 102, f 103, f 104, f 105, f 106, f 107, f 108, f 109, f 110, f 111, f 112, f 113, f 114, f 115, f 116, f 117, f 118, f 119], []⟩ _
  simp only at h0 h1 h6 h7 h10 h11 h12
  simp only [h0, h1, h6, h7, h10, h11, h12]
  clear h0 h1 h6 h7 h10 h11 h12
  change Code.wp _ (Code.seq (hd (hd (sq 1 in8))) (Code.cond (Operand.tmp 88) (Code.seq (hd br8m) (sq 1 br8m)) Code.skip)) _ _ _
  generalize sq 1 br8m = REST at hreg ⊢
  conv => arg 2; arg 1; whnf
  conv => arg 2; arg 2; arg 2; arg 1; whnf
  go_wp2_with (go_at_call 43; refine k1.out.mono ?_)
  first | rintro e w1 rfl g1 R1 | rintro e w1 ⟨rfl, g1, R1⟩
  replace g1 : Hid (w0.grownBy w1 (some by_)) := g1
  replace R1 : Hid (Rg w1 by_ (r.nx X)) := R1
  clear k1 hc
  go_wp2
  exact hreg.out _ w1 g1.out R1.out ⟨rfl, rfl, rfl, rfl, rfl, rfl, rfl, rfl, rfl, trivial⟩
def V822 (bx by_ : Nat) (rl rm : Rs) : (Nat → Bool) → Nat → Value → World → Prop := fun _ j v _ => match j with
  | 0 => v = .pointer (some ⟨bx, 0, none⟩)
  | 1 => Rv v rl
  | 2 => v = .bool true
  | 3 => v = .bool false
  | 4 => v = .bool false
  | 5 => v = .pointer (some ⟨by_, 0, none⟩)
  | 6 => Rv v rm
  | 7 => v = .bool true
  | 8 => v = .bool false
  | 9 => v = .bool false
  | _ => True
theorem v822_calm (bx by_ : Nat) (rl rm : Rs) (w0 : World) (k : Nat) : Calm (grown w0) (V822 bx by_ rl rm) k := ⟨fun s w w' hs h hb => grown_steady w0 k s w w' hs h hb, fun _ _ _ _ _ _ _ h _ => h⟩
def V824 (bx by_ : Nat) (rl rm : Rs) : (Nat → Bool) → Nat → Value → World → Prop := fun _ j v _ => match j with
  | 0 => v = .pointer (some ⟨bx, 0, none⟩)
  | 1 => Rv v rl
  | 2 => v = .bool true
  | 3 => v = .bool true
  | 4 => v = .pointer (some ⟨by_, 0, none⟩)
  | 5 => Rv v rm
  | 6 => v = .bool true
  | 7 => v = .bool true
  | 8 => v = .bool true
  | _ => True
theorem v824_calm (bx by_ : Nat) (rl rm : Rs) (w0 : World) (k : Nat) : Calm (grown w0) (V824 bx by_ rl rm) k := ⟨fun s w w' hs h hb => grown_steady w0 k s w w' hs h hb, fun _ _ _ _ _ _ _ h _ => h⟩
theorem rc_load {w : World} {p : Nat} {r : Rs} (h : Rc w p r) : ∃ cs, Rv (.agg cs) r ∧ (loadVar 63 ⟨p, 0, none⟩).run Try.prog w = .ok (.agg cs) w := by
  obtain ⟨m, s, l, g, h1, h2⟩ := h
  exact ⟨_, ⟨m, s, l, g, rfl, h2⟩, run_loadVar_row _ _ _ _ _ _ _ h1 Try.underlying63 rfl (by kernel_rfl)⟩
set_option maxRecDepth 100000 in
set_option maxHeartbeats 2000000 in
theorem r22_any {Q : Exit → Act → World → Prop} (bx by_ p q i : Nat) (SL SM : Value) (rl rm : Rs) (a : Act) (w0 : World) (hX : Hid (Rg w0 bx rl)) (hY : Hid (Rg w0 by_ rm)) (hP : Hid (Rc w0 p rl)) (hQ : Hid (Rc w0 q rm)) (hzl : Hid (rl.n = 0 → rl.L = some 0 ∧ rl.G = some 0)) (hzm : Hid (rm.n = 0 → rm.L = some 0 ∧ rm.G = some 0))
    (hK : Hid (∀ a w2, Below w0.heap.size w0 w2 → At 120 [(0, SL), (1, SM), (6, .pointer (some ⟨bx, 0, none⟩)), (7, .pointer (some ⟨by_, 0, none⟩)), (10, .pointer (some ⟨p, 0, none⟩)), (11, .pointer (some ⟨q, 0, none⟩)), (12, .int .i64 (i : Int))] a → Q .normal a w2)) (ha : At 120 [(0, SL), (1, SM), (6, .pointer (some ⟨bx, 0, none⟩)), (7, .pointer (some ⟨by_, 0, none⟩)), (10, .pointer (some ⟨p, 0, none⟩)), (11, .pointer (some ⟨q, 0, none⟩)), (12, .int .i64 (i : Int))] a) : Code.wp Try.prog (sq 2 in8) Q a w0 := by
  obtain ⟨f, rfl, h0, h1, h6, h7, h10, h11, h12, -⟩ := ha.lit
  change Code.wp _ _ _ ⟨#[f 0, f 1, f 2, f 3, f 4, f 5, f 6, f 7, f 8, f 9, f 10, f 11, f 12, f 13, f 14, f 15, f 16, f 17, f 18, f 19, f 20, f 21, f 22, f 23, f 24, f 25, f 26, f 27, f 28, f 29, f 30, f 31, f 32, f 33, f 34, f 35, f 36, f 37, f 38, f 39, f 40, f 41, f 42, f 43, f 44, f 45, f 46, f 47, f 48, f 49, f 50, f 51, f 52, f 53, f 54, f 55, f 56, f 57, f 58, f 59, f 60, f 61, f 62, f 63, f 64, f 65, f 66, f 67, f 68, f 69, f 70, f 71, f 72, f 73, f 74, f 75, f 76, f 77, f 78, f 79, f 80, f 81, f 82, f 83, f 84, f 85, f 86, f 87, f 88, f 89, f 90, f 91, f 92, f 93, f 94, f 95, f 96, f 97, f 98, f 99, f 100, f 101, f 102, f 103, f 104, f 105, f 106, f 107, f 108, f 109, f 110, f 111, f 112, f 113, f 114, f 115, f 116, f 117, f 118, f 119], []⟩ _
  simp only at h0 h1 h6 h7 h10 h11 h12
  simp only [h0, h1, h6, h7, h10, h11, h12]
  clear h0 h1 h6 h7 h10 h11 h12
  conv => arg 2; whnf
  refine wp_seq ?_
  refine wp_region_turn (grown w0) (V822 bx by_ rl rm) 120 rfl (by kernel_rfl) (by kernel_rfl) (grown_start w0) ⟨?o0, ?o1, ?o2, ?o3, ?o4, ?o5, ?o6, ?o7, ?o8, ?o9, trivial⟩ ?hdone
  case o0 => exact FlowOp4.plain (v822_calm _ _ _ _ _ 0) fun a4 w4 s4 cx => (by
    refine ⟨wanted_none rfl, fun K hK => ?_⟩
    have e0 := cx.keep 6 (.pointer (some ⟨bx, 0, none⟩)) (by kernel_rfl) rfl
    exact wp_gen [(6, .pointer (some ⟨bx, 0, none⟩))] ⟨e0, trivial⟩ (by kernel_rfl) (by kernel_rfl) (hK.out _ w4 (show V822 bx by_ rl rm _ 0 _ _ from rfl) (Below.refl _ _)))
  case o1 => exact FlowOp4.plain (v822_calm _ _ _ _ _ 1) fun a4 w4 s4 cx => (by
    refine ⟨wanted_none rfl, fun K hK => ?_⟩
    have e0 := cx.keep 10 (.pointer (some ⟨p, 0, none⟩)) (by kernel_rfl) rfl
    obtain ⟨cs, hv, hl⟩ := rc_load (hP.out.below cx.ground)
    exact wp_gen [(10, .pointer (some ⟨p, 0, none⟩))] ⟨e0, trivial⟩ (by kernel_rfl) (run_read rfl rfl hl) (hK.out _ w4 hv (Below.refl _ _)))
  case o2 => exact FlowOp4.plain (v822_calm _ _ _ _ _ 2) fun a4 w4 s4 cx => (by
    refine ⟨wanted_none rfl, fun K hK => ?_⟩
    obtain ⟨v0, e0, q0⟩ := cx.slot 0 102 (by kernel_rfl)
    obtain rfl : v0 = .pointer (some ⟨bx, 0, none⟩) := q0
    obtain ⟨v1, e1, q1⟩ := cx.slot 1 103 (by kernel_rfl)
    replace q1 : Rv v1 rl := q1
    exact wp_gen_call [(102, .pointer (some ⟨bx, 0, none⟩)), (103, v1)] ⟨e0, e1, trivial⟩ (by kernel_rfl) (fun _ => by kernel_rfl) ((runs_any bx v1 rl w4 (hX.out.below cx.ground) q1 hzl.out).mono fun e w' h => ⟨_, h.1, hK.out _ w' (show V822 bx by_ rl rm _ 2 _ _ from rfl) h.2⟩))
  case o3 => exact FlowOp4.plain (v822_calm _ _ _ _ _ 3) fun a4 w4 s4 cx => (by
    refine ⟨wanted_none rfl, fun K hK => ?_⟩
    obtain ⟨v0, e0, q0⟩ := cx.slot 2 104 (by kernel_rfl)
    obtain rfl : v0 = .bool true := q0
    exact wp_gen [(104, .bool true)] ⟨e0, trivial⟩ (by kernel_rfl) (by kernel_rfl) (hK.out _ w4 (show V822 bx by_ rl rm _ 3 _ _ from rfl) (Below.refl _ _)))
  case o4 => exact FlowOp4.plain (v822_calm _ _ _ _ _ 4) fun a4 w4 s4 cx => (by
    refine ⟨wanted_none rfl, fun K hK => ?_⟩
    obtain ⟨v0, e0, q0⟩ := cx.slot 3 105 (by kernel_rfl)
    obtain rfl : v0 = .bool false := q0
    exact wp_gen [(105, .bool false)] ⟨e0, trivial⟩ (by kernel_rfl) (by kernel_rfl) (hK.out _ w4 (show V822 bx by_ rl rm _ 4 _ _ from rfl) (Below.refl _ _)))
  case o5 => exact FlowOp4.plain (v822_calm _ _ _ _ _ 5) fun a4 w4 s4 cx => (by
    obtain ⟨vg, eg, rg⟩ := cx.slot 4 106 (by kernel_rfl)
    obtain rfl : vg = .bool false := rg
    refine ⟨wanted_yes rfl rfl eg, fun K hK => ?_⟩
    have e0 := cx.keep 7 (.pointer (some ⟨by_, 0, none⟩)) (by kernel_rfl) rfl
    exact wp_gen [(7, .pointer (some ⟨by_, 0, none⟩))] ⟨e0, trivial⟩ (by kernel_rfl) (by kernel_rfl) (hK.out _ w4 (show V822 bx by_ rl rm _ 5 _ _ from rfl) (Below.refl _ _)))
  case o6 => exact FlowOp4.plain (v822_calm _ _ _ _ _ 6) fun a4 w4 s4 cx => (by
    obtain ⟨vg, eg, rg⟩ := cx.slot 4 106 (by kernel_rfl)
    obtain rfl : vg = .bool false := rg
    refine ⟨wanted_yes rfl rfl eg, fun K hK => ?_⟩
    have e0 := cx.keep 11 (.pointer (some ⟨q, 0, none⟩)) (by kernel_rfl) rfl
    obtain ⟨cs, hv, hl⟩ := rc_load (hQ.out.below cx.ground)
    exact wp_gen [(11, .pointer (some ⟨q, 0, none⟩))] ⟨e0, trivial⟩ (by kernel_rfl) (run_read rfl rfl hl) (hK.out _ w4 hv (Below.refl _ _)))
  case o7 => exact FlowOp4.plain (v822_calm _ _ _ _ _ 7) fun a4 w4 s4 cx => (by
    obtain ⟨vg, eg, rg⟩ := cx.slot 4 106 (by kernel_rfl)
    obtain rfl : vg = .bool false := rg
    refine ⟨wanted_yes rfl rfl eg, fun K hK => ?_⟩
    obtain ⟨v0, e0, q0⟩ := cx.slot 5 107 (by kernel_rfl)
    obtain rfl : v0 = .pointer (some ⟨by_, 0, none⟩) := q0
    obtain ⟨v1, e1, q1⟩ := cx.slot 6 108 (by kernel_rfl)
    replace q1 : Rv v1 rm := q1
    exact wp_gen_call [(107, .pointer (some ⟨by_, 0, none⟩)), (108, v1)] ⟨e0, e1, trivial⟩ (by kernel_rfl) (fun _ => by kernel_rfl) ((runs_any by_ v1 rm w4 (hY.out.below cx.ground) q1 hzm.out).mono fun e w' h => ⟨_, h.1, hK.out _ w' (show V822 bx by_ rl rm _ 7 _ _ from rfl) h.2⟩))
  case o8 => exact FlowOp4.plain (v822_calm _ _ _ _ _ 8) fun a4 w4 s4 cx => (by
    obtain ⟨vg, eg, rg⟩ := cx.slot 4 106 (by kernel_rfl)
    obtain rfl : vg = .bool false := rg
    refine ⟨wanted_yes rfl rfl eg, fun K hK => ?_⟩
    obtain ⟨v0, e0, q0⟩ := cx.slot 7 109 (by kernel_rfl)
    obtain rfl : v0 = .bool true := q0
    exact wp_gen [(109, .bool true)] ⟨e0, trivial⟩ (by kernel_rfl) (by kernel_rfl) (hK.out _ w4 (show V822 bx by_ rl rm _ 8 _ _ from rfl) (Below.refl _ _)))
  case o9 => exact FlowOp4.plain (v822_calm _ _ _ _ _ 9) fun a4 w4 s4 cx => (by
    refine ⟨wanted_none rfl, fun K hK => ?_⟩
    obtain ⟨v0, e0, q0⟩ := cx.slot 4 106 (by kernel_rfl)
    obtain rfl : v0 = .bool false := q0
    obtain ⟨v1, e1, q1⟩ := cx.slot 8 110 (by kernel_rfl)
    obtain rfl : v1 = .bool false := q1
    exact wp_gen [(106, .bool false), (110, .bool false)] ⟨e0, e1, trivial⟩ (by kernel_rfl) (by kernel_rfl) (hK.out _ w4 (show V822 bx by_ rl rm _ 9 _ _ from rfl) (Below.refl _ _)))
  case hdone =>
    intro a w s4 hs hg hz hdf hk hgot
    obtain ⟨vt, et, rt⟩ := got_slot4 hgot 9 111 (by kernel_rfl)
    obtain rfl : vt = .bool false := rt
    have ha : At 120 [(0, SL), (1, SM), (6, .pointer (some ⟨bx, 0, none⟩)), (7, .pointer (some ⟨by_, 0, none⟩)), (10, .pointer (some ⟨p, 0, none⟩)), (11, .pointer (some ⟨q, 0, none⟩)), (12, .int .i64 (i : Int)), (111, .bool false)] a := ⟨hz, hdf, (hk 0 (by kernel_rfl)).trans rfl, (hk 1 (by kernel_rfl)).trans rfl, (hk 6 (by kernel_rfl)).trans rfl, (hk 7 (by kernel_rfl)).trans rfl, (hk 10 (by kernel_rfl)).trans rfl, (hk 11 (by kernel_rfl)).trans rfl, (hk 12 (by kernel_rfl)).trans rfl, et, trivial⟩
    have hF := hK.out
    replace hF : Hid (∀ a, At 120 [(0, SL), (1, SM), (6, .pointer (some ⟨bx, 0, none⟩)), (7, .pointer (some ⟨by_, 0, none⟩)), (10, .pointer (some ⟨p, 0, none⟩)), (11, .pointer (some ⟨q, 0, none⟩)), (12, .int .i64 (i : Int))] a → Q .normal a w) := fun a ha => hK.out a w hg ha
    clear hK hgot hk hs hg et
    obtain ⟨f, rfl, h0, h1, h6, h7, h10, h11, h12, h111, -⟩ := ha.lit
    change Code.wp _ _ _ ⟨#[f 0, f 1, f 2, f 3, f 4, f 5, f 6, f 7, f 8, f 9, f 10, f 11, f 12, f 13, f 14, f 15, f 16, f 17, f 18, f 19, f 20, f 21, f 22, f 23, f 24, f 25, f 26, f 27, f 28, f 29, f 30, f 31, f 32, f 33, f 34, f 35, f 36, f 37, f 38, f 39, f 40, f 41, f 42, f 43, f 44, f 45, f 46, f 47, f 48, f 49, f 50, f 51, f 52, f 53, f 54, f 55, f 56, f 57, f 58, f 59, f 60, f 61, f 62, f 63, f 64, f 65, f 66, f 67, f 68, f 69, f 70, f 71, f 72, f 73, f 74, f 75, f 76, f 77, f 78, f 79, f 80, f 81, f 82, f 83, f 84, f 85, f 86, f 87, f 88, f 89, f 90, f 91, f 92, f 93, f 94, f 95, f 96, f 97, f 98, f 99, f 100, f 101, f 102, f 103, f 104, f 105, f 106, f 107, f 108, f 109, f 110, f 111, f 112, f 113, f 114, f 115, f 116, f 117, f 118, f 119], []⟩ _
    simp only at h0 h1 h6 h7 h10 h11 h12 h111
    simp only [h0, h1, h6, h7, h10, h11, h12, h111]
    clear h0 h1 h6 h7 h10 h11 h12 h111
    go_wp2
    exact hF.out _ (by exact ⟨rfl, rfl, rfl, rfl, rfl, rfl, rfl, rfl, rfl, trivial⟩)
set_option maxRecDepth 100000 in
set_option maxHeartbeats 2000000 in
theorem r24_any {Q : Ending → World → Prop} (bx by_ p q i : Nat) (SL SM : Value) (rl rm : Rs) (a : Act) (w0 : World) (hX : Hid (Rg w0 bx rl)) (hY : Hid (Rg w0 by_ rm)) (hP : Hid (Rc w0 p rl)) (hQ : Hid (Rc w0 q rm)) (hzl : Hid (rl.n = 0 → rl.L = some 0 ∧ rl.G = some 0)) (hzm : Hid (rm.n = 0 → rm.L = some 0 ∧ rm.G = some 0))
    (hK : Hid (∀ w2, Below w0.heap.size w0 w2 → Q (.returned (.bool true)) w2)) (ha : At 120 [(0, SL), (1, SM), (6, .pointer (some ⟨bx, 0, none⟩)), (7, .pointer (some ⟨by_, 0, none⟩)), (10, .pointer (some ⟨p, 0, none⟩)), (11, .pointer (some ⟨q, 0, none⟩)), (12, .int .i64 (i : Int))] a) : Code.wp Try.prog (sq 8 body8) (bodyPost Try.prog Try.f8 Q) a w0 := by
  obtain ⟨f, rfl, h0, h1, h6, h7, h10, h11, h12, -⟩ := ha.lit
  change Code.wp _ _ _ ⟨#[f 0, f 1, f 2, f 3, f 4, f 5, f 6, f 7, f 8, f 9, f 10, f 11, f 12, f 13, f 14, f 15, f 16, f 17, f 18, f 19, f 20, f 21, f 22, f 23, f 24, f 25, f 26, f 27, f 28, f 29, f 30, f 31, f 32, f 33, f 34, f 35, f 36, f 37, f 38, f 39, f 40, f 41, f 42, f 43, f 44, f 45, f 46, f 47, f 48, f 49, f 50, f 51, f 52, f 53, f 54, f 55, f 56, f 57, f 58, f 59, f 60, f 61, f 62, f 63, f 64, f 65, f 66, f 67, f 68, f 69, f 70, f 71, f 72, f 73, f 74, f 75, f 76, f 77, f 78, f 79, f 80, f 81, f 82, f 83, f 84, f 85, f 86, f 87, f 88, f 89, f 90, f 91, f 92, f 93, f 94, f 95, f 96, f 97, f 98, f 99, f 100, f 101, f 102, f 103, f 104, f 105, f 106, f 107, f 108, f 109, f 110, f 111, f 112, f 113, f 114, f 115, f 116, f 117, f 118, f 119], []⟩ _
  simp only at h0 h1 h6 h7 h10 h11 h12
  simp only [h0, h1, h6, h7, h10, h11, h12]
  clear h0 h1 h6 h7 h10 h11 h12
  conv => arg 2; whnf
  refine wp_seq ?_
  refine wp_region_turn (grown w0) (V824 bx by_ rl rm) 120 rfl (by kernel_rfl) (by kernel_rfl) (grown_start w0) ⟨?o0, ?o1, ?o2, ?o3, ?o4, ?o5, ?o6, ?o7, ?o8, trivial⟩ ?hdone
  case o0 => exact FlowOp4.plain (v824_calm _ _ _ _ _ 0) fun a4 w4 s4 cx => (by
    refine ⟨wanted_none rfl, fun K hK => ?_⟩
    have e0 := cx.keep 6 (.pointer (some ⟨bx, 0, none⟩)) (by kernel_rfl) rfl
    exact wp_gen [(6, .pointer (some ⟨bx, 0, none⟩))] ⟨e0, trivial⟩ (by kernel_rfl) (by kernel_rfl) (hK.out _ w4 (show V824 bx by_ rl rm _ 0 _ _ from rfl) (Below.refl _ _)))
  case o1 => exact FlowOp4.plain (v824_calm _ _ _ _ _ 1) fun a4 w4 s4 cx => (by
    refine ⟨wanted_none rfl, fun K hK => ?_⟩
    have e0 := cx.keep 10 (.pointer (some ⟨p, 0, none⟩)) (by kernel_rfl) rfl
    obtain ⟨cs, hv, hl⟩ := rc_load (hP.out.below cx.ground)
    exact wp_gen [(10, .pointer (some ⟨p, 0, none⟩))] ⟨e0, trivial⟩ (by kernel_rfl) (run_read rfl rfl hl) (hK.out _ w4 hv (Below.refl _ _)))
  case o2 => exact FlowOp4.plain (v824_calm _ _ _ _ _ 2) fun a4 w4 s4 cx => (by
    refine ⟨wanted_none rfl, fun K hK => ?_⟩
    obtain ⟨v0, e0, q0⟩ := cx.slot 0 112 (by kernel_rfl)
    obtain rfl : v0 = .pointer (some ⟨bx, 0, none⟩) := q0
    obtain ⟨v1, e1, q1⟩ := cx.slot 1 113 (by kernel_rfl)
    replace q1 : Rv v1 rl := q1
    exact wp_gen_call [(112, .pointer (some ⟨bx, 0, none⟩)), (113, v1)] ⟨e0, e1, trivial⟩ (by kernel_rfl) (fun _ => by kernel_rfl) ((runs_any bx v1 rl w4 (hX.out.below cx.ground) q1 hzl.out).mono fun e w' h => ⟨_, h.1, hK.out _ w' (show V824 bx by_ rl rm _ 2 _ _ from rfl) h.2⟩))
  case o3 => exact FlowOp4.plain (v824_calm _ _ _ _ _ 3) fun a4 w4 s4 cx => (by
    refine ⟨wanted_none rfl, fun K hK => ?_⟩
    obtain ⟨v0, e0, q0⟩ := cx.slot 2 114 (by kernel_rfl)
    obtain rfl : v0 = .bool true := q0
    exact wp_gen [(114, .bool true)] ⟨e0, trivial⟩ (by kernel_rfl) (by kernel_rfl) (hK.out _ w4 (show V824 bx by_ rl rm _ 3 _ _ from rfl) (Below.refl _ _)))
  case o4 => exact FlowOp4.plain (v824_calm _ _ _ _ _ 4) fun a4 w4 s4 cx => (by
    obtain ⟨vg, eg, rg⟩ := cx.slot 3 115 (by kernel_rfl)
    obtain rfl : vg = .bool true := rg
    refine ⟨wanted_yes rfl rfl eg, fun K hK => ?_⟩
    have e0 := cx.keep 7 (.pointer (some ⟨by_, 0, none⟩)) (by kernel_rfl) rfl
    exact wp_gen [(7, .pointer (some ⟨by_, 0, none⟩))] ⟨e0, trivial⟩ (by kernel_rfl) (by kernel_rfl) (hK.out _ w4 (show V824 bx by_ rl rm _ 4 _ _ from rfl) (Below.refl _ _)))
  case o5 => exact FlowOp4.plain (v824_calm _ _ _ _ _ 5) fun a4 w4 s4 cx => (by
    obtain ⟨vg, eg, rg⟩ := cx.slot 3 115 (by kernel_rfl)
    obtain rfl : vg = .bool true := rg
    refine ⟨wanted_yes rfl rfl eg, fun K hK => ?_⟩
    have e0 := cx.keep 11 (.pointer (some ⟨q, 0, none⟩)) (by kernel_rfl) rfl
    obtain ⟨cs, hv, hl⟩ := rc_load (hQ.out.below cx.ground)
    exact wp_gen [(11, .pointer (some ⟨q, 0, none⟩))] ⟨e0, trivial⟩ (by kernel_rfl) (run_read rfl rfl hl) (hK.out _ w4 hv (Below.refl _ _)))
  case o6 => exact FlowOp4.plain (v824_calm _ _ _ _ _ 6) fun a4 w4 s4 cx => (by
    obtain ⟨vg, eg, rg⟩ := cx.slot 3 115 (by kernel_rfl)
    obtain rfl : vg = .bool true := rg
    refine ⟨wanted_yes rfl rfl eg, fun K hK => ?_⟩
    obtain ⟨v0, e0, q0⟩ := cx.slot 4 116 (by kernel_rfl)
    obtain rfl : v0 = .pointer (some ⟨by_, 0, none⟩) := q0
    obtain ⟨v1, e1, q1⟩ := cx.slot 5 117 (by kernel_rfl)
    replace q1 : Rv v1 rm := q1
    exact wp_gen_call [(116, .pointer (some ⟨by_, 0, none⟩)), (117, v1)] ⟨e0, e1, trivial⟩ (by kernel_rfl) (fun _ => by kernel_rfl) ((runs_any by_ v1 rm w4 (hY.out.below cx.ground) q1 hzm.out).mono fun e w' h => ⟨_, h.1, hK.out _ w' (show V824 bx by_ rl rm _ 6 _ _ from rfl) h.2⟩))
  case o7 => exact FlowOp4.plain (v824_calm _ _ _ _ _ 7) fun a4 w4 s4 cx => (by
    refine ⟨wanted_none rfl, fun K hK => ?_⟩
    obtain ⟨v0, e0, q0⟩ := cx.slot 3 115 (by kernel_rfl)
    obtain rfl : v0 = .bool true := q0
    obtain ⟨v1, e1, q1⟩ := cx.slot 6 118 (by kernel_rfl)
    obtain rfl : v1 = .bool true := q1
    exact wp_gen [(115, .bool true), (118, .bool true)] ⟨e0, e1, trivial⟩ (by kernel_rfl) (by kernel_rfl) (hK.out _ w4 (show V824 bx by_ rl rm _ 7 _ _ from rfl) (Below.refl _ _)))
  case o8 => exact FlowOp4.plain (v824_calm _ _ _ _ _ 8) fun a4 w4 s4 cx => (by
    refine ⟨wanted_none rfl, fun K hK => ?_⟩
    obtain ⟨v0, e0, q0⟩ := cx.slot 7 119 (by kernel_rfl)
    obtain rfl : v0 = .bool true := q0
    exact wp_gen [(119, .bool true)] ⟨e0, trivial⟩ (by kernel_rfl) (by kernel_rfl) (hK.out _ w4 (show V824 bx by_ rl rm _ 8 _ _ from rfl) (Below.refl _ _)))
  case hdone =>
    intro a w s4 hs hg hz hdf hk hgot
    obtain ⟨vt, et, rt⟩ := got_slot4 hgot 8 4 (by kernel_rfl)
    obtain rfl : vt = .bool true := rt
    have ha : At 120 [(4, .bool true)] a := ⟨hz, hdf, et, trivial⟩
    have hF := hK.out w hg
    replace hF : Hid (Q (.returned (.bool true)) w) := hF
    clear hK hgot hk hs hg et
    obtain ⟨f, rfl, h4, -⟩ := ha.lit
    change Code.wp _ _ _ ⟨#[f 0, f 1, f 2, f 3, f 4, f 5, f 6, f 7, f 8, f 9, f 10, f 11, f 12, f 13, f 14, f 15, f 16, f 17, f 18, f 19, f 20, f 21, f 22, f 23, f 24, f 25, f 26, f 27, f 28, f 29, f 30, f 31, f 32, f 33, f 34, f 35, f 36, f 37, f 38, f 39, f 40, f 41, f 42, f 43, f 44, f 45, f 46, f 47, f 48, f 49, f 50, f 51, f 52, f 53, f 54, f 55, f 56, f 57, f 58, f 59, f 60, f 61, f 62, f 63, f 64, f 65, f 66, f 67, f 68, f 69, f 70, f 71, f 72, f 73, f 74, f 75, f 76, f 77, f 78, f 79, f 80, f 81, f 82, f 83, f 84, f 85, f 86, f 87, f 88, f 89, f 90, f 91, f 92, f 93, f 94, f 95, f 96, f 97, f 98, f 99, f 100, f 101, f 102, f 103, f 104, f 105, f 106, f 107, f 108, f 109, f 110, f 111, f 112, f 113, f 114, f 115, f 116, f 117, f 118, f 119], []⟩ _
    simp only at h4
    simp only [h4]
    clear h4
    go_wp2
    exact hF.out
/-- What the first k of a list add up to. -/
def rsL (ls : List Nat) (k : Nat) : Rs := (ls.take k).foldl (fun r b => r.nx (inj b)) Rs.nil
theorem rsL_succ {ls : List Nat} {k : Nat} (h : k < ls.length) : rsL ls (k + 1) = (rsL ls k).nx (inj (ls.getD k 0)) := by
  unfold rsL
  rw [take_snoc ls k h, List.foldl_append]; rfl
theorem rsL_more {ls : List Nat} {k : Nat} (h : ¬ k < ls.length) : rsL ls (k + 1) = rsL ls k := by
  unfold rsL
  rw [List.take_of_length_le (by omega), List.take_of_length_le (by omega)]
theorem fold_n : ∀ (l : List Nat) (r : Rs), (l.foldl (fun r b => r.nx (inj b)) r).n = r.n + l.length
  | [], _ => rfl
  | b :: l, r => by
    show (l.foldl (fun r b => r.nx (inj b)) (r.nx (inj b))).n = _
    rw [fold_n l]
    show r.n + 1 + l.length = r.n + (l.length + 1)
    omega
theorem rsL_n (ls : List Nat) (k : Nat) : (rsL ls k).n ≤ ls.length := by
  unfold rsL
  rw [fold_n, List.length_take]
  show 0 + _ ≤ _
  omega
theorem rsL_zero (ls : List Nat) (k : Nat) : (rsL ls k).n = 0 → (rsL ls k).L = some 0 ∧ (rsL ls k).G = some 0 := by
  unfold rsL
  intro h
  rw [fold_n] at h
  replace h : 0 + (ls.take k).length = 0 := h
  have : ls.take k = [] := List.eq_nil_of_length_eq_zero (by omega)
  rw [this]
  exact ⟨rfl, rfl⟩
/-- How it stands. -/
structure St8 (W0 : World) (bx by_ p q : Nat) (rl rm : Rs) (w : World) : Prop where
  x : Rg w bx rl
  y : Rg w by_ rm
  p : Rc w p rl
  q : Rc w q rm
  b : Below W0.heap.size W0 w
theorem St8.below {W0 : World} {bx by_ p q : Nat} {rl rm : Rs} {w w' : World} (h : St8 W0 bx by_ p q rl rm w) (hb : Below w.heap.size w w') : St8 W0 bx by_ p q rl rm w' :=
  ⟨h.x.below hb, h.y.below hb, h.p.below hb, h.q.below hb, h.b.trans (hb.mono h.b.size)⟩
structure Fl8 (W0 : World) (pl : Option Addr) (ls : List Nat) : Prop where
  lt : ∀ b ∈ ls, b < 18446744073709551616
  len : ls.length ≤ 1000
  cells : 0 < ls.length → ∃ g off, pl = some ⟨g, off, none⟩ ∧ ∀ j, j < ls.length → W0.cell? ⟨g, off + j, none⟩ = some ((flt ls).getD j undef)
theorem Fl8.at_ {W0 W : World} {pl : Option Addr} {ls : List Nat} (h : Fl8 W0 pl ls) (hb : Below W0.heap.size W0 W) {k : Nat} (hk : k < ls.length) : ∃ g off, pl = some ⟨g, off, none⟩ ∧ g < W0.heap.size ∧ W.cell? ⟨g, off + k, none⟩ = some (.float .f64 (ls.getD k 0)) := by
  obtain ⟨g, off, rfl, e⟩ := h.cells (by omega)
  have c := e k hk
  rw [flt_get ls k hk] at c
  have hl := World.block_lt_of_cell? W0 _ c
  exact ⟨g, off, rfl, by simpa using hl, (hb.cell (p := ⟨g, off + k, none⟩) (by simpa using hl)).trans c⟩
set_option maxRecDepth 100000 in
set_option maxHeartbeats 2000000 in
theorem in8_any {Q : Exit → Act → World → Prop} (W0 : World) (bx by_ p q k : Nat) (pl pm : Option Addr) (ls ms : List Nat) (cl cm : Nat) (a : Act) (w0 : World) (hap : W0.heap.size ≤ bx ∧ bx < by_ ∧ by_ < p ∧ p < q) (hfl : Fl8 W0 pl ls) (hfm : Fl8 W0 pm ms) (hS : St8 W0 bx by_ p q (rsL ls k) (rsL ms k) w0)
    (hK : ∀ a w2, St8 W0 bx by_ p q (rsL ls (k + 1)) (rsL ms (k + 1)) w2 → At 120 [(0, .slice pl ls.length cl), (1, .slice pm ms.length cm), (6, .pointer (some ⟨bx, 0, none⟩)), (7, .pointer (some ⟨by_, 0, none⟩)), (10, .pointer (some ⟨p, 0, none⟩)), (11, .pointer (some ⟨q, 0, none⟩)), (12, .int .i64 (k : Int))] a → Q .normal a w2) (ha : At 120 [(0, .slice pl ls.length cl), (1, .slice pm ms.length cm), (6, .pointer (some ⟨bx, 0, none⟩)), (7, .pointer (some ⟨by_, 0, none⟩)), (10, .pointer (some ⟨p, 0, none⟩)), (11, .pointer (some ⟨q, 0, none⟩)), (12, .int .i64 (k : Int))] a) : Code.wp Try.prog in8 Q a w0 := by
  change Code.wp _ (Code.seq (hd in8) (Code.seq (hd (sq 1 in8)) (sq 2 in8))) _ _ _
  obtain ⟨p1, p2, p3, p4⟩ := hap
  refine wp_cut (fun a w => At 120 [(0, .slice pl ls.length cl), (1, .slice pm ms.length cm), (6, .pointer (some ⟨bx, 0, none⟩)), (7, .pointer (some ⟨by_, 0, none⟩)), (10, .pointer (some ⟨p, 0, none⟩)), (11, .pointer (some ⟨q, 0, none⟩)), (12, .int .i64 (k : Int))] a ∧ St8 W0 bx by_ p q (rsL ls (k + 1)) (rsL ms k) w) ?_ ?_
  · rintro a w ⟨ha, hS⟩
    refine wp_cut (fun a w => At 120 [(0, .slice pl ls.length cl), (1, .slice pm ms.length cm), (6, .pointer (some ⟨bx, 0, none⟩)), (7, .pointer (some ⟨by_, 0, none⟩)), (10, .pointer (some ⟨p, 0, none⟩)), (11, .pointer (some ⟨q, 0, none⟩)), (12, .int .i64 (k : Int))] a ∧ St8 W0 bx by_ p q (rsL ls (k + 1)) (rsL ms (k + 1)) w) ?_ ?_
    · rintro a w ⟨ha, hS⟩
      exact r22_any bx by_ p q k _ _ _ _ a w hS.x hS.y hS.p hS.q (rsL_zero _ _) (rsL_zero _ _) (fun a w2 hb ha => hK a w2 (hS.below hb) ha) ha
    · by_cases c : k < ms.length
      · obtain ⟨g, off, rfl, hg, hc⟩ := hfm.at_ hS.b c
        exact stm_yes bx by_ p q k g off _ _ _ _ _ (inj (ms.getD k 0)) a w hS.y hS.q (is_inj (getD_lt hfm.lt k c)) (by have := rsL_n ms k; have := hfm.len; show _ < _; omega) c hc ⟨by omega, by omega, by omega⟩ (fun a w1 w2 g1 g2 R P ha => ⟨ha, ⟨(hS.x.kept g1 (by omega)).kept g2 (by omega), by rw [rsL_succ c]; exact R, (hS.p.kept g1 (by omega)).kept g2 (by omega), by rw [rsL_succ c]; exact P, below_of_grown (below_of_grown hS.b (by omega) g1) (by omega) g2⟩⟩) ha
      · exact stm_no bx by_ p q k _ _ _ _ a w (decide_eq_false (by omega)) (fun a ha => ⟨ha, by rw [rsL_more c]; exact hS⟩) ha
  · by_cases c : k < ls.length
    · obtain ⟨g, off, rfl, hg, hc⟩ := hfl.at_ hS.b c
      exact stl_yes bx by_ p q k g off _ _ _ _ _ (inj (ls.getD k 0)) a w0 hS.x hS.p (is_inj (getD_lt hfl.lt k c)) (by have := rsL_n ls k; have := hfl.len; show _ < _; omega) c hc ⟨by omega, by omega, by omega⟩ (fun a w1 w2 g1 g2 R P ha => ⟨ha, ⟨by rw [rsL_succ c]; exact R, (hS.y.kept g1 (by omega)).kept g2 (by omega), by rw [rsL_succ c]; exact P, (hS.q.kept g1 (by omega)).kept g2 (by omega), below_of_grown (below_of_grown hS.b (by omega) g1) (by omega) g2⟩⟩) ha
    · exact stl_no bx by_ p q k _ _ _ _ a w0 (decide_eq_false (by omega)) (fun a ha => ⟨ha, by rw [rsL_more c]; exact hS⟩) ha
set_option maxRecDepth 100000 in
set_option maxHeartbeats 2000000 in
theorem go8_yes {Q : Exit → Act → World → Prop} (bx by_ p q k ll lm cl cm : Nat) (pl pm : Option Addr) (a : Act) (w0 : World) (hk : k < ll ∨ k < lm)
    (hK : Hid (∀ a, At 120 [(0, .slice pl ll cl), (1, .slice pm lm cm), (6, .pointer (some ⟨bx, 0, none⟩)), (7, .pointer (some ⟨by_, 0, none⟩)), (10, .pointer (some ⟨p, 0, none⟩)), (11, .pointer (some ⟨q, 0, none⟩)), (12, .int .i64 (k : Int))] a → Q .normal a w0)) (ha : At 120 [(0, .slice pl ll cl), (1, .slice pm lm cm), (6, .pointer (some ⟨bx, 0, none⟩)), (7, .pointer (some ⟨by_, 0, none⟩)), (10, .pointer (some ⟨p, 0, none⟩)), (11, .pointer (some ⟨q, 0, none⟩)), (12, .int .i64 (k : Int))] a) : Code.wp Try.prog (hd lp8) Q a w0 := by
  by_cases c : k < ll
  · have d1 : decide ((k : Int) < (ll : Int)) = true := decide_eq_true (by omega)
    have e1 : (k : Int) < (ll : Int) := by omega
    clear hk c
    obtain ⟨f, rfl, h0, h1, h6, h7, h10, h11, h12, -⟩ := ha.lit
    change Code.wp _ _ _ ⟨#[f 0, f 1, f 2, f 3, f 4, f 5, f 6, f 7, f 8, f 9, f 10, f 11, f 12, f 13, f 14, f 15, f 16, f 17, f 18, f 19, f 20, f 21, f 22, f 23, f 24, f 25, f 26, f 27, f 28, f 29, f 30, f 31, f 32, f 33, f 34, f 35, f 36, f 37, f 38, f 39, f 40, f 41, f 42, f 43, f 44, f 45, f 46, f 47, f 48, f 49, f 50, f 51, f 52, f 53, f 54, f 55, f 56, f 57, f 58, f 59, f 60, f 61, f 62, f 63, f 64, f 65, f 66, f 67, f 68, f 69, f 70, f 71, f 72, f 73, f 74, f 75, f 76, f 77, f 78, f 79, f 80, f 81, f 82, f 83, f 84, f 85, f 86, f 87, f 88, f 89, f 90, f 91, f 92, f 93, f 94, f 95, f 96, f 97, f 98, f 99, f 100, f 101, f 102, f 103, f 104, f 105, f 106, f 107, f 108, f 109, f 110, f 111, f 112, f 113, f 114, f 115, f 116, f 117, f 118, f 119], []⟩ _
    simp only at h0 h1 h6 h7 h10 h11 h12
    simp only [h0, h1, h6, h7, h10, h11, h12]
    clear h0 h1 h6 h7 h10 h11 h12
    conv => arg 2; whnf
    go_wp2
    exact hK.out _ (by exact ⟨rfl, rfl, rfl, rfl, rfl, rfl, rfl, rfl, rfl, trivial⟩)
  · have d1 : decide ((k : Int) < (ll : Int)) = false := decide_eq_false (by omega)
    have e1 : ¬ (k : Int) < (ll : Int) := by omega
    have d2 : decide ((k : Int) < (lm : Int)) = true := decide_eq_true (by omega)
    have e2 : (k : Int) < (lm : Int) := by omega
    clear hk c
    obtain ⟨f, rfl, h0, h1, h6, h7, h10, h11, h12, -⟩ := ha.lit
    change Code.wp _ _ _ ⟨#[f 0, f 1, f 2, f 3, f 4, f 5, f 6, f 7, f 8, f 9, f 10, f 11, f 12, f 13, f 14, f 15, f 16, f 17, f 18, f 19, f 20, f 21, f 22, f 23, f 24, f 25, f 26, f 27, f 28, f 29, f 30, f 31, f 32, f 33, f 34, f 35, f 36, f 37, f 38, f 39, f 40, f 41, f 42, f 43, f 44, f 45, f 46, f 47, f 48, f 49, f 50, f 51, f 52, f 53, f 54, f 55, f 56, f 57, f 58, f 59, f 60, f 61, f 62, f 63, f 64, f 65, f 66, f 67, f 68, f 69, f 70, f 71, f 72, f 73, f 74, f 75, f 76, f 77, f 78, f 79, f 80, f 81, f 82, f 83, f 84, f 85, f 86, f 87, f 88, f 89, f 90, f 91, f 92, f 93, f 94, f 95, f 96, f 97, f 98, f 99, f 100, f 101, f 102, f 103, f 104, f 105, f 106, f 107, f 108, f 109, f 110, f 111, f 112, f 113, f 114, f 115, f 116, f 117, f 118, f 119], []⟩ _
    simp only at h0 h1 h6 h7 h10 h11 h12
    simp only [h0, h1, h6, h7, h10, h11, h12]
    clear h0 h1 h6 h7 h10 h11 h12
    conv => arg 2; whnf
    go_wp2
    exact hK.out _ (by exact ⟨rfl, rfl, rfl, rfl, rfl, rfl, rfl, rfl, rfl, trivial⟩)
set_option maxRecDepth 100000 in
set_option maxHeartbeats 2000000 in
theorem go8_no {Q : Exit → Act → World → Prop} (bx by_ p q k ll lm cl cm : Nat) (pl pm : Option Addr) (a : Act) (w0 : World) (h1 : ¬ k < ll) (h2 : ¬ k < lm)
    (hK : Hid (∀ a, At 120 [(0, .slice pl ll cl), (1, .slice pm lm cm), (6, .pointer (some ⟨bx, 0, none⟩)), (7, .pointer (some ⟨by_, 0, none⟩)), (10, .pointer (some ⟨p, 0, none⟩)), (11, .pointer (some ⟨q, 0, none⟩)), (12, .int .i64 (k : Int))] a → Q (.exit 0) a w0)) (ha : At 120 [(0, .slice pl ll cl), (1, .slice pm lm cm), (6, .pointer (some ⟨bx, 0, none⟩)), (7, .pointer (some ⟨by_, 0, none⟩)), (10, .pointer (some ⟨p, 0, none⟩)), (11, .pointer (some ⟨q, 0, none⟩)), (12, .int .i64 (k : Int))] a) : Code.wp Try.prog (hd lp8) Q a w0 := by
  have d1 : decide ((k : Int) < (ll : Int)) = false := decide_eq_false (by omega)
  have e1 : ¬ (k : Int) < (ll : Int) := by omega
  have d2 : decide ((k : Int) < (lm : Int)) = false := decide_eq_false (by omega)
  have e2 : ¬ (k : Int) < (lm : Int) := by omega
  clear h1 h2
  obtain ⟨f, rfl, h0, h1, h6, h7, h10, h11, h12, -⟩ := ha.lit
  change Code.wp _ _ _ ⟨#[f 0, f 1, f 2, f 3, f 4, f 5, f 6, f 7, f 8, f 9, f 10, f 11, f 12, f 13, f 14, f 15, f 16, f 17, f 18, f 19, f 20, f 21, f 22, f 23, f 24, f 25, f 26, f 27, f 28, f 29, f 30, f 31, f 32, f 33, f 34, f 35, f 36, f 37, f 38, f 39, f 40, f 41, f 42, f 43, f 44, f 45, f 46, f 47, f 48, f 49, f 50, f 51, f 52, f 53, f 54, f 55, f 56, f 57, f 58, f 59, f 60, f 61, f 62, f 63, f 64, f 65, f 66, f 67, f 68, f 69, f 70, f 71, f 72, f 73, f 74, f 75, f 76, f 77, f 78, f 79, f 80, f 81, f 82, f 83, f 84, f 85, f 86, f 87, f 88, f 89, f 90, f 91, f 92, f 93, f 94, f 95, f 96, f 97, f 98, f 99, f 100, f 101, f 102, f 103, f 104, f 105, f 106, f 107, f 108, f 109, f 110, f 111, f 112, f 113, f 114, f 115, f 116, f 117, f 118, f 119], []⟩ _
  simp only at h0 h1 h6 h7 h10 h11 h12
  simp only [h0, h1, h6, h7, h10, h11, h12]
  clear h0 h1 h6 h7 h10 h11 h12
  conv => arg 2; whnf
  go_wp2
  exact hK.out _ (by exact ⟨rfl, rfl, rfl, rfl, rfl, rfl, rfl, rfl, rfl, trivial⟩)
set_option maxRecDepth 100000 in
set_option maxHeartbeats 2000000 in
theorem inc8 {Q : Exit → Act → World → Prop} (bx by_ p q k : Nat) (SL SM : Value) (a : Act) (w0 : World) (hk : (k : Int) < 1000)
    (hK : Hid (∀ a, At 120 [(0, SL), (1, SM), (6, .pointer (some ⟨bx, 0, none⟩)), (7, .pointer (some ⟨by_, 0, none⟩)), (10, .pointer (some ⟨p, 0, none⟩)), (11, .pointer (some ⟨q, 0, none⟩)), (12, .int .i64 ((k + 1 : Nat) : Int))] a → Q .normal a w0)) (ha : At 120 [(0, SL), (1, SM), (6, .pointer (some ⟨bx, 0, none⟩)), (7, .pointer (some ⟨by_, 0, none⟩)), (10, .pointer (some ⟨p, 0, none⟩)), (11, .pointer (some ⟨q, 0, none⟩)), (12, .int .i64 (k : Int))] a) : Code.wp Try.prog (sq 2 lp8) Q a w0 := by
  have hk0 : (0 : Int) ≤ (k : Int) := by omega
  rw [show ((k + 1 : Nat) : Int) = (k : Int) + 1 by omega] at hK
  generalize (k : Int) = K at *
  obtain ⟨f, rfl, h0, h1, h6, h7, h10, h11, h12, -⟩ := ha.lit
  change Code.wp _ _ _ ⟨#[f 0, f 1, f 2, f 3, f 4, f 5, f 6, f 7, f 8, f 9, f 10, f 11, f 12, f 13, f 14, f 15, f 16, f 17, f 18, f 19, f 20, f 21, f 22, f 23, f 24, f 25, f 26, f 27, f 28, f 29, f 30, f 31, f 32, f 33, f 34, f 35, f 36, f 37, f 38, f 39, f 40, f 41, f 42, f 43, f 44, f 45, f 46, f 47, f 48, f 49, f 50, f 51, f 52, f 53, f 54, f 55, f 56, f 57, f 58, f 59, f 60, f 61, f 62, f 63, f 64, f 65, f 66, f 67, f 68, f 69, f 70, f 71, f 72, f 73, f 74, f 75, f 76, f 77, f 78, f 79, f 80, f 81, f 82, f 83, f 84, f 85, f 86, f 87, f 88, f 89, f 90, f 91, f 92, f 93, f 94, f 95, f 96, f 97, f 98, f 99, f 100, f 101, f 102, f 103, f 104, f 105, f 106, f 107, f 108, f 109, f 110, f 111, f 112, f 113, f 114, f 115, f 116, f 117, f 118, f 119], []⟩ _
  simp only at h0 h1 h6 h7 h10 h11 h12
  simp only [h0, h1, h6, h7, h10, h11, h12]
  clear h0 h1 h6 h7 h10 h11 h12
  conv => arg 2; whnf
  go_wp2
  exact hK.out _ (by exact ⟨rfl, rfl, rfl, rfl, rfl, rfl, rfl, rfl, rfl, trivial⟩)
set_option maxRecDepth 100000 in
set_option maxHeartbeats 2000000 in
theorem ini8 {Q : Exit → Act → World → Prop} (bx by_ p q : Nat) (SL SM : Value) (a : Act) (w0 : World)
    (hK : Hid (∀ a, At 120 [(0, SL), (1, SM), (6, .pointer (some ⟨bx, 0, none⟩)), (7, .pointer (some ⟨by_, 0, none⟩)), (10, .pointer (some ⟨p, 0, none⟩)), (11, .pointer (some ⟨q, 0, none⟩)), (12, .int .i64 ((0 : Nat) : Int))] a → Q .normal a w0)) (ha : At 120 [(0, SL), (1, SM), (6, .pointer (some ⟨bx, 0, none⟩)), (7, .pointer (some ⟨by_, 0, none⟩)), (10, .pointer (some ⟨p, 0, none⟩)), (11, .pointer (some ⟨q, 0, none⟩))] a) : Code.wp Try.prog (hd (hd (sq 7 body8))) Q a w0 := by
  obtain ⟨f, rfl, h0, h1, h6, h7, h10, h11, -⟩ := ha.lit
  change Code.wp _ _ _ ⟨#[f 0, f 1, f 2, f 3, f 4, f 5, f 6, f 7, f 8, f 9, f 10, f 11, f 12, f 13, f 14, f 15, f 16, f 17, f 18, f 19, f 20, f 21, f 22, f 23, f 24, f 25, f 26, f 27, f 28, f 29, f 30, f 31, f 32, f 33, f 34, f 35, f 36, f 37, f 38, f 39, f 40, f 41, f 42, f 43, f 44, f 45, f 46, f 47, f 48, f 49, f 50, f 51, f 52, f 53, f 54, f 55, f 56, f 57, f 58, f 59, f 60, f 61, f 62, f 63, f 64, f 65, f 66, f 67, f 68, f 69, f 70, f 71, f 72, f 73, f 74, f 75, f 76, f 77, f 78, f 79, f 80, f 81, f 82, f 83, f 84, f 85, f 86, f 87, f 88, f 89, f 90, f 91, f 92, f 93, f 94, f 95, f 96, f 97, f 98, f 99, f 100, f 101, f 102, f 103, f 104, f 105, f 106, f 107, f 108, f 109, f 110, f 111, f 112, f 113, f 114, f 115, f 116, f 117, f 118, f 119], []⟩ _
  simp only at h0 h1 h6 h7 h10 h11
  simp only [h0, h1, h6, h7, h10, h11]
  clear h0 h1 h6 h7 h10 h11
  conv => arg 2; whnf
  go_wp2
  exact hK.out _ (by exact ⟨rfl, rfl, rfl, rfl, rfl, rfl, rfl, rfl, rfl, trivial⟩)
set_option maxRecDepth 100000 in
set_option maxHeartbeats 2000000 in
theorem loop8 {Q : Exit → Act → World → Prop} (W0 : World) (bx by_ p q : Nat) (pl pm : Option Addr) (ls ms : List Nat) (cl cm : Nat) (a : Act) (w0 : World) (hap : W0.heap.size ≤ bx ∧ bx < by_ ∧ by_ < p ∧ p < q) (hfl : Fl8 W0 pl ls) (hfm : Fl8 W0 pm ms) (hS : St8 W0 bx by_ p q (rsL ls 0) (rsL ms 0) w0)
    (hK : ∀ a w2 k, St8 W0 bx by_ p q (rsL ls k) (rsL ms k) w2 → At 120 [(0, .slice pl ls.length cl), (1, .slice pm ms.length cm), (6, .pointer (some ⟨bx, 0, none⟩)), (7, .pointer (some ⟨by_, 0, none⟩)), (10, .pointer (some ⟨p, 0, none⟩)), (11, .pointer (some ⟨q, 0, none⟩)), (12, .int .i64 (k : Int))] a → Q .normal a w2) (ha : At 120 [(0, .slice pl ls.length cl), (1, .slice pm ms.length cm), (6, .pointer (some ⟨bx, 0, none⟩)), (7, .pointer (some ⟨by_, 0, none⟩)), (10, .pointer (some ⟨p, 0, none⟩)), (11, .pointer (some ⟨q, 0, none⟩))] a) : Code.wp Try.prog (hd (sq 7 body8)) Q a w0 := by
  change Code.wp _ (Code.seq (hd (hd (sq 7 body8))) (Code.block 0 (Code.loop lp8))) _ _ _
  refine wp_cut (fun a w => At 120 [(0, .slice pl ls.length cl), (1, .slice pm ms.length cm), (6, .pointer (some ⟨bx, 0, none⟩)), (7, .pointer (some ⟨by_, 0, none⟩)), (10, .pointer (some ⟨p, 0, none⟩)), (11, .pointer (some ⟨q, 0, none⟩)), (12, .int .i64 ((0 : Nat) : Int))] a ∧ St8 W0 bx by_ p q (rsL ls 0) (rsL ms 0) w) ?_ (ini8 bx by_ p q _ _ a w0 (fun a ha => ⟨ha, hS⟩) ha)
  clear ha hS
  rintro a w ⟨ha, hS⟩
  refine wp_block ?_
  refine wp_loop_ghost_k (fun m a w' => ∃ k, k ≤ ls.length + ms.length ∧ m = ls.length + ms.length - k ∧ At 120 [(0, .slice pl ls.length cl), (1, .slice pm ms.length cm), (6, .pointer (some ⟨bx, 0, none⟩)), (7, .pointer (some ⟨by_, 0, none⟩)), (10, .pointer (some ⟨p, 0, none⟩)), (11, .pointer (some ⟨q, 0, none⟩)), (12, .int .i64 (k : Int))] a ∧ St8 W0 bx by_ p q (rsL ls k) (rsL ms k) w') (ls.length + ms.length) ⟨0, by omega, by omega, ha, hS⟩ ?_
  clear ha hS
  rintro m a wr ⟨k, hk, rfl, ha, hS⟩ J0 K1 hJ hK1
  by_cases c : k < ls.length ∨ k < ms.length
  · change Code.wp _ (Code.seq (hd lp8) (Code.seq (Code.block 1 in8) (sq 2 lp8))) _ _ _
    refine wp_cut (fun a w => At 120 [(0, .slice pl ls.length cl), (1, .slice pm ms.length cm), (6, .pointer (some ⟨bx, 0, none⟩)), (7, .pointer (some ⟨by_, 0, none⟩)), (10, .pointer (some ⟨p, 0, none⟩)), (11, .pointer (some ⟨q, 0, none⟩)), (12, .int .i64 (k : Int))] a ∧ St8 W0 bx by_ p q (rsL ls k) (rsL ms k) w) ?_ (go8_yes bx by_ p q k _ _ _ _ _ _ a wr c (fun a ha => ⟨ha, hS⟩) ha)
    rintro a w ⟨ha, hS⟩
    refine wp_cut (fun a w => At 120 [(0, .slice pl ls.length cl), (1, .slice pm ms.length cm), (6, .pointer (some ⟨bx, 0, none⟩)), (7, .pointer (some ⟨by_, 0, none⟩)), (10, .pointer (some ⟨p, 0, none⟩)), (11, .pointer (some ⟨q, 0, none⟩)), (12, .int .i64 (k : Int))] a ∧ St8 W0 bx by_ p q (rsL ls (k + 1)) (rsL ms (k + 1)) w) ?_ ?_
    · rintro a w ⟨ha, hS⟩
      have := hfl.len
      have := hfm.len
      exact inc8 bx by_ p q k _ _ a w (by omega) (fun a ha => hK1 _ _ (Handed.intro (ls.length + ms.length - (k + 1)) (by omega) (hJ _ _ _ ⟨k + 1, by omega, rfl, ha, hS⟩))) ha
    · refine wp_block ?_
      exact in8_any W0 bx by_ p q k pl pm ls ms cl cm a w hap hfl hfm hS (fun a w2 hS ha => ⟨ha, hS⟩) ha
  · change Code.wp _ (Code.seq (hd lp8) (sq 1 lp8)) _ _ _
    refine wp_seq ?_
    exact go8_no bx by_ p q k _ _ _ _ _ _ a wr (by omega) (by omega) (fun a ha => hK a wr k hS ha) ha
set_option maxRecDepth 100000 in
set_option maxHeartbeats 8000000 in
theorem law_runs (ls ms : List Nat) (v u : Value) (w : World) (hbl : ∀ b ∈ ls, b < 18446744073709551616) (hbm : ∀ b ∈ ms, b < 18446744073709551616) (hll : ls.length ≤ 17592186044416) (hlm : ms.length ≤ 17592186044416) (hl : Rd w v (flt ls)) (hm : Rd w u (flt ms)) : Calls Try.prog 8 #[v, u] w fun e w' => e = .returned (.bool true) ∧ Below w.heap.size w w' := by
  obtain ⟨pl, cl, rfl, hdl⟩ := hl
  obtain ⟨pm, cm, rfl, hdm⟩ := hm
  simp only [flt_len] at hdl hdm ⊢
  have hX : Hid (∀ (bx by_ p q : Nat) (a : Act) (w0 : World), ls.length ≤ 1000 → ms.length ≤ 1000 → w.heap.size ≤ bx ∧ bx < by_ ∧ by_ < p ∧ p < q → RnB w0 bx 0 0 0 0 0 → RnB w0 by_ 0 0 0 0 0 → RqB w0 p 0 0 0 0 0 → RqB w0 q 0 0 0 0 0 → Below w.heap.size w w0 → At 120 [(0, .slice pl ls.length cl), (1, .slice pm ms.length cm), (6, .pointer (some ⟨bx, 0, none⟩)), (7, .pointer (some ⟨by_, 0, none⟩)), (10, .pointer (some ⟨p, 0, none⟩)), (11, .pointer (some ⟨q, 0, none⟩))] a → Code.wp Try.prog (sq 7 body8) (bodyPost Try.prog Try.f8 fun e w' => e = .returned (.bool true) ∧ Below w.heap.size w w') a w0) := by
    intro bx by_ p q a w0 n1 n2 hap hx hy hp hq hb ha
    have fl : Fl8 w pl ls := ⟨hbl, n1, hdl⟩
    have fm : Fl8 w pm ms := ⟨hbm, n2, hdm⟩
    change Code.wp _ (Code.seq (hd (sq 7 body8)) (sq 8 body8)) _ _ _
    refine wp_cut (fun a w2 => ∃ k, St8 w bx by_ p q (rsL ls k) (rsL ms k) w2 ∧ At 120 [(0, .slice pl ls.length cl), (1, .slice pm ms.length cm), (6, .pointer (some ⟨bx, 0, none⟩)), (7, .pointer (some ⟨by_, 0, none⟩)), (10, .pointer (some ⟨p, 0, none⟩)), (11, .pointer (some ⟨q, 0, none⟩)), (12, .int .i64 (k : Int))] a) ?_ ?_
    · rintro a w2 ⟨k, hS, ha⟩
      exact r24_any bx by_ p q k _ _ _ _ a w2 hS.x hS.y hS.p hS.q (rsL_zero _ _) (rsL_zero _ _) (fun w3 h3 => ⟨rfl, hS.b.trans (h3.mono hS.b.size)⟩) ha
    · exact loop8 w bx by_ p q pl pm ls ms cl cm a w0 hap fl fm ⟨rg_nil hx, rg_nil hy, ⟨0, 0, 0, 0, hp, is_nul, is_nul, is_nul, is_nul⟩, ⟨0, 0, 0, 0, hq, is_nul, is_nul, is_nul, is_nul⟩, hb⟩ (fun a w2 k hS ha => ⟨k, hS, ha⟩) ha
  clear hbl hbm hdl hdm
  have hll2 : Hid (ls.length ≤ 17592186044416) := hll
  have hlm2 : Hid (ms.length ≤ 17592186044416) := hlm
  clear hll hlm
  go_enter Try.func8, Try.ntmps8
  change Code.wp _ (Code.seq (hd (sq 0 body8)) (Code.seq (hd (sq 1 body8)) (Code.seq (hd (sq 2 body8)) (Code.seq (hd (sq 3 body8)) (Code.seq (hd (sq 4 body8)) (Code.seq (hd (sq 5 body8)) (Code.seq (hd (sq 6 body8)) (sq 7 body8)))))))) _ _ _
  generalize sq 7 body8 = REST at hX ⊢
  conv => arg 2; arg 1; whnf
  conv => arg 2; arg 2; arg 1; whnf
  conv => arg 2; arg 2; arg 2; arg 1; whnf
  conv => arg 2; arg 2; arg 2; arg 2; arg 1; whnf
  conv => arg 2; arg 2; arg 2; arg 2; arg 2; arg 1; whnf
  conv => arg 2; arg 2; arg 2; arg 2; arg 2; arg 2; arg 1; whnf
  conv => arg 2; arg 2; arg 2; arg 2; arg 2; arg 2; arg 2; arg 1; whnf
  go_wp2_with (go_at_call 42; refine (rnew_any _).mono ?_)
  first | rintro e w1 rfl s1 b1 | rintro e w1 ⟨rfl, s1, b1⟩
  replace s1 : Hid (RnB w1 w.heap.size 0 0 0 0 0) := s1
  replace b1 : Hid (Below w.heap.size w w1) := b1
  have z1 : Hid (w.heap.size < w1.heap.size) := s1.out.lt
  go_wp2_with (go_at_call 42; refine (rnew_any _).mono ?_)
  first | rintro e w2 rfl s2 b2 | rintro e w2 ⟨rfl, s2, b2⟩
  replace s1 : Hid (RnB w2 w.heap.size 0 0 0 0 0) := s1.out.below b2
  replace s2 : Hid (RnB w2 w1.heap.size 0 0 0 0 0) := s2
  replace b1 : Hid (Below w.heap.size w w2) := b1.out.trans (b2.mono b1.out.size)
  have z2 : Hid (w1.heap.size < w2.heap.size) := s2.out.lt
  clear b2
  go_wp2_with (go_at_call 9; refine (awake_any _).mono ?_)
  first | rintro e w3 rfl b3 | rintro e w3 ⟨rfl, b3⟩
  replace s1 : Hid (RnB w3 w.heap.size 0 0 0 0 0) := s1.out.below b3
  replace s2 : Hid (RnB w3 w1.heap.size 0 0 0 0 0) := s2.out.below b3
  replace b1 : Hid (Below w.heap.size w w3) := b1.out.trans (b3.mono b1.out.size)
  replace z2 : Hid (w1.heap.size < w3.heap.size) := s2.out.lt
  clear b3
  go_wp2_with (go_at_call 43; refine (add_rn _ _).mono ?_)
  first | rintro e w4 rfl b4 | rintro e w4 ⟨rfl, b4⟩
  replace s1 : Hid (RnB w4 w.heap.size 0 0 0 0 0) := s1.out.below b4
  replace s2 : Hid (RnB w4 w1.heap.size 0 0 0 0 0) := s2.out.below b4
  replace b1 : Hid (Below w.heap.size w w4) := b1.out.trans (b4.mono b1.out.size)
  replace z2 : Hid (w1.heap.size < w4.heap.size) := s2.out.lt
  clear b4
  go_wp2_with (go_at_call 44; refine (mean_rn _).mono ?_)
  first | rintro e w5 rfl b5 | rintro e w5 ⟨rfl, b5⟩
  replace s1 : Hid (RnB w5 w.heap.size 0 0 0 0 0) := s1.out.below b5
  replace s2 : Hid (RnB w5 w1.heap.size 0 0 0 0 0) := s2.out.below b5
  replace b1 : Hid (Below w.heap.size w w5) := b1.out.trans (b5.mono b1.out.size)
  replace z2 : Hid (w1.heap.size < w5.heap.size) := s2.out.lt
  clear b5
  go_wp2_with (go_at_call 45; refine (var_rn _).mono ?_)
  first | rintro e w6 rfl b6 | rintro e w6 ⟨rfl, b6⟩
  replace s1 : Hid (RnB w6 w.heap.size 0 0 0 0 0) := s1.out.below b6
  replace s2 : Hid (RnB w6 w1.heap.size 0 0 0 0 0) := s2.out.below b6
  replace b1 : Hid (Below w.heap.size w w6) := b1.out.trans (b6.mono b1.out.size)
  replace z2 : Hid (w1.heap.size < w6.heap.size) := s2.out.lt
  clear b6
  go_wp2_with (go_at_call 46; refine (least_rn _).mono ?_)
  first | rintro e w7 rfl b7 | rintro e w7 ⟨rfl, b7⟩
  replace s1 : Hid (RnB w7 w.heap.size 0 0 0 0 0) := s1.out.below b7
  replace s2 : Hid (RnB w7 w1.heap.size 0 0 0 0 0) := s2.out.below b7
  replace b1 : Hid (Below w.heap.size w w7) := b1.out.trans (b7.mono b1.out.size)
  replace z2 : Hid (w1.heap.size < w7.heap.size) := s2.out.lt
  clear b7
  by_cases c1 : 1000 < ls.length
  · have d1 : decide ((1000 : Int) < (ls.length : Int)) = true := decide_eq_true (by omega)
    clear hX
    go_wp2
    go_ret
    exact ⟨rfl, b1.out⟩
  by_cases c2 : 1000 < ms.length
  · have d1 : decide ((1000 : Int) < (ls.length : Int)) = false := decide_eq_false (by omega)
    have d2 : decide ((1000 : Int) < (ms.length : Int)) = true := decide_eq_true (by omega)
    clear c1 hX
    go_wp2
    go_ret
    exact ⟨rfl, b1.out⟩
  have d1 : decide ((1000 : Int) < (ls.length : Int)) = false := decide_eq_false (by omega)
  have d2 : decide ((1000 : Int) < (ms.length : Int)) = false := decide_eq_false (by omega)
  have n1 : Hid (ls.length ≤ 1000) := by rw [Hid]; omega
  have n2 : Hid (ms.length ≤ 1000) := by rw [Hid]; omega
  clear c1 c2
  have A1 : Hid (Below w7.heap.size w7 (w7.alloc (.cells (rc 0 0 0 0 0) 63))) := (Below.refl _ _).alloc (Nat.le_refl _) _
  have A2 : Hid (Below w7.heap.size w7 ((w7.alloc (.cells (rc 0 0 0 0 0) 63)).alloc (.cells (rc 0 0 0 0 0) 63))) := A1.out.alloc (by simp) _
  have f1 : Hid (RqB ((w7.alloc (.cells (rc 0 0 0 0 0) 63)).alloc (.cells (rc 0 0 0 0 0) 63)) w7.heap.size 0 0 0 0 0) := RqB.below (w := w7.alloc (.cells (rc 0 0 0 0 0) 63)) (heap_alloc_last _ _) ((Below.refl _ _).alloc (Nat.le_refl _) _)
  have f2 : Hid (RqB ((w7.alloc (.cells (rc 0 0 0 0 0) 63)).alloc (.cells (rc 0 0 0 0 0) 63)) (w7.heap.size + 1) 0 0 0 0 0) := by
    have h := heap_alloc_last (w7.alloc (.cells (rc 0 0 0 0 0) 63)) (.cells (rc 0 0 0 0 0) 63)
    rw [show (w7.alloc (.cells (rc 0 0 0 0 0) 63)).heap.size = w7.heap.size + 1 by simp] at h
    exact h
  have t1 : Hid (RnB ((w7.alloc (.cells (rc 0 0 0 0 0) 63)).alloc (.cells (rc 0 0 0 0 0) 63)) w.heap.size 0 0 0 0 0) := s1.out.below A2.out
  have t2 : Hid (RnB ((w7.alloc (.cells (rc 0 0 0 0 0) 63)).alloc (.cells (rc 0 0 0 0 0) 63)) w1.heap.size 0 0 0 0 0) := s2.out.below A2.out
  have bb : Hid (Below w.heap.size w ((w7.alloc (.cells (rc 0 0 0 0 0) 63)).alloc (.cells (rc 0 0 0 0 0) 63))) := b1.out.trans (A2.out.mono b1.out.size)
  clear s1 s2 b1 A1 A2
  go_wp2_with (refine wpList_store_row rfl 63 _ _ rfl _ (rc 0 0 0 0 0) rfl rfl 63 (rc 0 0 0 0 0) (by first | exact f1.out | exact f2.out) (by kernel_rfl) rfl (by kernel_rfl) ?_; rw [setRow_self _ _ _ _ _ (by first | exact f1.out | exact f2.out)])
  exact hX.out w.heap.size w1.heap.size w7.heap.size (w7.heap.size + 1) _ _ n1.out n2.out ⟨Nat.le_refl _, z1.out, z2.out, Nat.lt_succ_self _⟩ t1.out t2.out f1.out f2.out bb.out (by exact ⟨rfl, rfl, rfl, rfl, rfl, rfl, rfl, rfl, trivial⟩)

end Go.Proofs.Ytdhfkdopcphjlab
