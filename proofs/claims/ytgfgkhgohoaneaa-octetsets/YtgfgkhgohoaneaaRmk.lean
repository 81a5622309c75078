/-
  The contract of the document's Make: the row of the bytes from one to another and of those of a slice. Conditions: the two are bytes; the slice reads as a text.
-/
import Derived.Test.YtgfgkhgohoaneaaRnm
import Derived.Test.YtgfgkhgohoaneaaTn
import Derived.Test.YtgfgkhgohoaneaaSets
namespace Go.Proofs.Ytgfgkhgohoaneaa
open Go.RowKit
theorem conv_byte (x : Nat) (t : Nat) (o : Oper) (ho : o.op = .convert 5 3 (.tmp t)) (w : World) (hx : x < 256) : (execOp (rho [(t, .int .u8 x)]) o).run Try.prog w = .ok (.value (.int .i64 x)) w := by
  have e1 : rho [(t, .int .u8 x)] (.tmp t) = .int .u8 x := by simp [rho]
  have hr : (convert 5 3 (.int .u8 x)).run Try.prog w = .ok (.int .i64 x) w := by
    have hw : IntKind.i64.wrap (x : Int) = x := IntWalk.i64_in _ (by omega)
    simp [go_sem, convert, hw]
  unfold execOp
  simp only [ho, e1, Sem.run_bind, hr, Result.andThen_ok, Sem.run_pure]
theorem conv_str (v : Value) (s : ByteArray) (t : Nat) (o : Oper) (ho : o.op = .convert 27 9 (.tmp t)) (w : World) (h : (convert 27 9 v).run Try.prog w = .ok (.string s) w) : (execOp (rho [(t, v)]) o).run Try.prog w = .ok (.value (.string s)) w := by
  have e1 : rho [(t, v)] (.tmp t) = v := by simp [rho]
  unfold execOp
  simp only [ho, e1, Sem.run_bind, h, Result.andThen_ok, Sem.run_pure]
/-- A store of a whole row. -/
theorem wp_stored {P : Program} {Q : Exit → Act → World → Prop} {o : Oper} {a : Act} {w : World} {K : Act → World → Prop} (ty : TypeId) (t : Tmp) (y : Operand) (ho : o.op = .store ty (.tmp t) y) (hd : o.dst = none) (g : Nat) (cs0 cs : Array Value) (tt : TypeId)
    (ht : a.tmps[t]? = some (.pointer (some ⟨g, 0, none⟩))) (hy : a.eval y = .agg cs) (hg : w.heap[g]? = some (.cells cs0 tt (0, 0))) (hsz : cs0.size = cs.size) (hi : (P.info? ty).map (·.size) = some cs.size) (h1 : cs.all (·.oneCell') = true) (h : K (a.put none undef) (w.setRow g cs)) : Oper.wp P o a w K Q := by
  have he : a.eval (.tmp t) = .pointer (some ⟨g, 0, none⟩) := by simp [Act.eval, ht]
  have hrun : (storeVar ty ⟨g, 0, none⟩ (.agg cs)).run P w = .ok () (w.setRow g cs) := run_storeVar_row w g tt ty cs0 cs hg hi hsz h1
  unfold Oper.wp execOp
  simp only [ho, he, hy, Instr.storeAt, Instr.sureAddr, Sem.run_bind, Sem.run_pure, Result.andThen_ok, hrun, Oper.upon]
  rw [hd]
  exact h
def l18 (a b : Nat) (v : Value) (s : ByteArray) : List (Value → World → Prop) := [isV (.agg (rowOf .u8 256 fun _ => 0)), isV (.int .u8 a), isV (.int .i64 a), isV (.int .u8 b), isV (.int .i64 b), isV (.agg (rowOf .u8 256 (b01 (fromP (fun _ => false) a (b + 1))))), isV v, isV (.string s), isV (.agg (rowOf .u8 256 (b01 (withTo (fromP (fun _ => false) a (b + 1)) s s.size))))]
def Fast (p : Value → World → Prop) : Prop := ∀ v w w', p v w → p v w'
theorem Fast.isV {t : Value} : Fast (isV t) := fun _ _ _ h => h
theorem nthP_fast {l : List (Value → World → Prop)} (h : AllP Fast l) (i : Nat) (v : Value) (w w' : World) (hp : nthP l i v w) : nthP l i v w' := AllP.at (q := Fast) (fun _ _ _ h => h) l h i v w w' hp
theorem l18_const {a b : Nat} {v : Value} {s : ByteArray} {j : Nat} {u : Value} {w w' : World} (h : nthP (l18 a b v s) j u w) : nthP (l18 a b v s) j u w' :=
  nthP_fast (l := l18 a b v s) ⟨Fast.isV, Fast.isV, Fast.isV, Fast.isV, Fast.isV, Fast.isV, Fast.isV, Fast.isV, Fast.isV, trivial⟩ j u w w' h
theorem l18_stays {a b : Nat} {v : Value} {s : ByteArray} : AllP Stays (l18 a b v s) := ⟨Stays.isV, Stays.isV, Stays.isV, Stays.isV, Stays.isV, Stays.isV, Stays.isV, Stays.isV, Stays.isV, trivial⟩
/-- What is said of memory: the answer's row, ahead of and behind the store; what was there. -/
def g18 (M : Nat → Bool) (w : World) : (Nat → Bool) → World → Prop :=
  fun s v => (∃ cs, v.heap[w.heap.size]? = some (.cells cs 35 (0, 0)) ∧ cs.size = 256 ∧ (s 9 = true → cs = rowOf .u8 256 (b01 M))) ∧ Below w.heap.size w v
theorem g18_calm {M : Nat → Bool} {w : World} {l : List (Value → World → Prop)} (hl : AllP Stays l) (i : Nat) (hi : i ≠ 9) : Calm (g18 M w) (fun _ => nthP l) i := by
  refine ⟨fun s v v' _ h hb => ?_, fun s j u v v' _ _ hu hb => nthP_stays hl j u v v' hu hb⟩
  obtain ⟨⟨cs, h1, h2, h3⟩, h4⟩ := h
  have e : mark s i 9 = s 9 := if_neg (Ne.symm hi)
  exact ⟨⟨cs, below_at h1 hb, h2, by rw [e]; exact h3⟩, h4.trans (hb.mono h4.size)⟩
attribute [local go_sem] rowOf_size isRow_at isRow_past rowIn_at rowIn_past setRow_at
attribute [local go_sem] st_at
set_option maxRecDepth 100000 in
set_option maxHeartbeats 2000000 in
theorem rmake_any (a b : Nat) (v : Value) (s : ByteArray) (w : World) (ha : a < 256) (hb : b < 256) (hs : s.size ≤ maxLen) (hv : ∀ w', Below w.heap.size w w' → (convert 27 9 v).run Try.prog w' = .ok (.string s) w') :
    Calls Try.prog 18 #[.int .u8 a, .int .u8 b, v] w fun e w' => e = .returned (.agg (rowOf .u8 256 (b01 (withTo (fromP (fun _ => false) a (b + 1)) s s.size)))) ∧ Below w.heap.size w w' := by
  obtain ⟨hz, hi⟩ := zero_of_info info35
  clear hi
  go_enter Try.func18, Try.ntmps18
  go_wp2_with fail
  rename_i Q' K' hcont
  have hg0 : (w.alloc (.cells (rowOf .u8 256 fun _ => 0) 35)).heap[w.heap.size]? = some (.cells (rowOf .u8 256 fun _ => 0) 35 (0, 0)) := heap_alloc_last _ _
  have hb0 : Below w.heap.size w (w.alloc (.cells (rowOf .u8 256 fun _ => 0) 35)) := (Below.refl _ _).alloc (Nat.le_refl _) _
  obtain ⟨w0, hw0⟩ : ∃ w0, w.alloc (.cells (rowOf .u8 256 fun _ => 0) 35) = w0 := ⟨_, rfl⟩
  rw [hw0] at hg0 hb0 ⊢
  clear hw0
  refine wp_abs 16 rfl fun a0 hz0 hd hsl => ?_
  have s0 : a0.tmps[0]? = some (.int .u8 a) := hsl 0
  have s1 : a0.tmps[1]? = some (.int .u8 b) := hsl 1
  have s2 : a0.tmps[2]? = some v := hsl 2
  have s6 : a0.tmps[6]? = some (.pointer (some ⟨w.heap.size, 0, none⟩)) := hsl 6
  replace hd : a0.defers = [] := hd
  clear hsl
  have HC : Shut _ := hcont
  clear hcont
  have hcalm := fun (i : Nat) (h : i ≠ 9) => g18_calm (M := withTo (fromP (fun _ => false) a (b + 1)) s s.size) (w := w) (l18_stays (a := a) (b := b) (v := v) (s := s)) i h
  refine wp_region_turn (g18 (withTo (fromP (fun _ => false) a (b + 1)) s s.size) w) (fun _ => nthP (l18 a b v s)) 16 hz0 (by kernel_rfl) (by kernel_rfl) (fun w1 hb1 hs1 q hq => ⟨⟨_, below_at hg0 hb1, rowOf_size _ _ _, fun e => by rw [hq 9] at e; cases e⟩, hb0.trans (hb1.mono hb0.size)⟩) ⟨?o0, ?o1, ?o2, ?o3, ?o4, ?o5, ?o6, ?o7, ?o8, ?o9, trivial⟩ ?done
  case o0 =>
    refine FlowOp4.plain (hcalm 0 (by decide)) fun a1 w4 s4 cx => ?_
    refine ⟨wanted_none rfl, fun K hK => ?_⟩
    exact wp_gen [] trivial (by kernel_rfl) (v := .agg (rowOf .u8 256 fun _ => 0)) (w' := w4) (by kernel_rfl) (hK.out _ _ rfl (Below.refl _ _))
  case o1 =>
    refine FlowOp4.plain (hcalm 1 (by decide)) fun a1 w4 s4 cx => ?_
    have s0 := cx.keep 0 _ (by kernel_rfl) s0
    refine ⟨wanted_none rfl, fun K hK => ?_⟩
    exact wp_moved _ rfl _ (ev_tmp s0) (hK.out _ _ rfl (Below.refl _ _))
  case o2 =>
    refine FlowOp4.plain (hcalm 2 (by decide)) fun a1 w4 s4 cx => ?_
    obtain ⟨v8, s8, p8⟩ := cx.slot 1 8 (by kernel_rfl)
    replace p8 : v8 = .int .u8 a := p8
    subst p8
    refine ⟨wanted_none rfl, fun K hK => ?_⟩
    exact wp_gen [(8, .int .u8 a)] ⟨s8, trivial⟩ (by kernel_rfl) (v := .int .i64 a) (w' := w4) (conv_byte a 8 _ rfl w4 ha) (hK.out _ _ rfl (Below.refl _ _))
  case o3 =>
    refine FlowOp4.plain (hcalm 3 (by decide)) fun a1 w4 s4 cx => ?_
    have s1 := cx.keep 1 _ (by kernel_rfl) s1
    refine ⟨wanted_none rfl, fun K hK => ?_⟩
    exact wp_moved _ rfl _ (ev_tmp s1) (hK.out _ _ rfl (Below.refl _ _))
  case o4 =>
    refine FlowOp4.plain (hcalm 4 (by decide)) fun a1 w4 s4 cx => ?_
    obtain ⟨v10, s10, p10⟩ := cx.slot 3 10 (by kernel_rfl)
    replace p10 : v10 = .int .u8 b := p10
    subst p10
    refine ⟨wanted_none rfl, fun K hK => ?_⟩
    exact wp_gen [(10, .int .u8 b)] ⟨s10, trivial⟩ (by kernel_rfl) (v := .int .i64 b) (w' := w4) (conv_byte b 10 _ rfl w4 hb) (hK.out _ _ rfl (Below.refl _ _))
  case o5 =>
    refine FlowOp4.plain (hcalm 5 (by decide)) fun a1 w4 s4 cx => ?_
    obtain ⟨v7, s7, p7⟩ := cx.slot 0 7 (by kernel_rfl)
    replace p7 : v7 = .agg (rowOf .u8 256 fun _ => 0) := p7
    subst p7
    obtain ⟨v9, s9, p9⟩ := cx.slot 2 9 (by kernel_rfl)
    replace p9 : v9 = .int .i64 a := p9
    subst p9
    obtain ⟨v11, s11, p11⟩ := cx.slot 4 11 (by kernel_rfl)
    replace p11 : v11 = .int .i64 b := p11
    subst p11
    refine ⟨wanted_none rfl, fun K hK => ?_⟩
    refine wp_gen_call [(7, .agg (rowOf .u8 256 fun _ => 0)), (9, .int .i64 a), (11, .int .i64 b)] ⟨s7, s9, s11, trivial⟩ (vs := #[.agg (rowOf .u8 256 fun _ => 0), .int .i64 a, .int .i64 b]) (f := 36) (by kernel_rfl) (fun w => by kernel_rfl) ?_
    refine (from_zero a b w4 ha hb).mono ?_
    rintro e w5 ⟨rfl, hb5⟩
    exact ⟨_, rfl, hK.out _ _ rfl hb5⟩
  case o6 =>
    refine FlowOp4.plain (hcalm 6 (by decide)) fun a1 w4 s4 cx => ?_
    have s2 := cx.keep 2 _ (by kernel_rfl) s2
    refine ⟨wanted_none rfl, fun K hK => ?_⟩
    exact wp_moved _ rfl _ (ev_tmp s2) (hK.out _ _ rfl (Below.refl _ _))
  case o7 =>
    refine FlowOp4.plain (hcalm 7 (by decide)) fun a1 w4 s4 cx => ?_
    obtain ⟨v13, s13, p13⟩ := cx.slot 6 13 (by kernel_rfl)
    replace p13 : v13 = v := p13
    rw [p13] at s13
    refine ⟨wanted_none rfl, fun K hK => ?_⟩
    have hcv := hv w4 cx.ground.2
    exact wp_gen [(13, v)] ⟨s13, trivial⟩ (by kernel_rfl) (v := .string s) (w' := w4) (conv_str v s 13 _ rfl w4 hcv) (hK.out _ _ rfl (Below.refl _ _))
  case o8 =>
    refine FlowOp4.plain (hcalm 8 (by decide)) fun a1 w4 s4 cx => ?_
    obtain ⟨v12, s12, p12⟩ := cx.slot 5 12 (by kernel_rfl)
    replace p12 : v12 = .agg (rowOf .u8 256 (b01 (fromP (fun _ => false) a (b + 1)))) := p12
    subst p12
    obtain ⟨v14, s14, p14⟩ := cx.slot 7 14 (by kernel_rfl)
    replace p14 : v14 = .string s := p14
    subst p14
    refine ⟨wanted_none rfl, fun K hK => ?_⟩
    refine wp_gen_call [(12, .agg (rowOf .u8 256 (b01 (fromP (fun _ => false) a (b + 1))))), (14, .string s)] ⟨s12, s14, trivial⟩ (vs := #[.agg (rowOf .u8 256 (b01 (fromP (fun _ => false) a (b + 1)))), .string s]) (f := 35) (by kernel_rfl) (fun w => by kernel_rfl) ?_
    refine (with_any (fromP (fun _ => false) a (b + 1)) s w4 hs).mono ?_
    rintro e w5 ⟨rfl, hb5⟩
    exact ⟨_, rfl, hK.out _ _ rfl hb5⟩
  case o9 =>
    refine FlowOp4.turn fun a1 w4 s4 cx => ?_
    have s6 := cx.keep 6 _ (by kernel_rfl) s6
    obtain ⟨v15, s15, p15⟩ := cx.slot 8 15 (by kernel_rfl)
    replace p15 : v15 = .agg (rowOf .u8 256 (b01 (withTo (fromP (fun _ => false) a (b + 1)) s s.size))) := p15
    subst p15
    refine ⟨wanted_none rfl, fun K hK => ?_⟩
    obtain ⟨⟨cs, hg, hz, _⟩, hbl⟩ := cx.ground
    refine wp_stored 35 6 _ rfl rfl w.heap.size cs (rowOf .u8 256 (b01 (withTo (fromP (fun _ => false) a (b + 1)) s s.size))) 35 s6 (ev_tmp s15) hg (by rw [rowOf_size]; exact hz) (by rw [rowOf_size]; kernel_rfl) (rowOf_one _ _ _) (hK.out undef _ ⟨⟨_, setRow_heap _ _ _ _ _ _ hg, rowOf_size _ _ _, fun _ => rfl⟩, below_set hbl (Nat.le_refl _)⟩ trivial fun j u _ hu => ?_)
    exact l18_const hu
  case done =>
    intro a1 w1 q hall hgr hsz hdf hkp hgot
    obtain ⟨⟨cs, hg, hcs, hrow⟩, hbl⟩ := hgr
    obtain rfl := hrow (hall 9 (by decide))
    replace s6 := (hkp 6 (by kernel_rfl)).trans s6
    replace HC := HC.out a1 w1
    refine HC ?_
    clear HC
    refine wp_ret ?_
    refine bodyPost_ret (v := .agg (rowOf .u8 256 (b01 (withTo (fromP (fun _ => false) a (b + 1)) s s.size)))) (results_ld Try.results18 _ _ w.heap.size 256 (by simp [s6]) Try.underlying35 rfl (by kernel_rfl) _ ⟨_, _, hg, rowOf_size _ _ _⟩ (by unfold rowIn; rw [hg])) (hdf.trans hd) ⟨rfl, hbl⟩
end Go.Proofs.Ytgfgkhgohoaneaa
