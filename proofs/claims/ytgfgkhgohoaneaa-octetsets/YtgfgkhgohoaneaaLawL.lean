/-
  The walk of the law OctetLaws: it returns true and turns nothing that was there. No condition.
-/
import Derived.Test.YtgfgkhgohoaneaaSets
namespace Go.Proofs.Ytgfgkhgohoaneaa
open Go.RowKit
theorem awake_w (w : World) : Calls Try.prog 9 #[] w fun e w' => e = .returned (.bool true) ∧ Below w.heap.size w w' := by
  refine (awake_any w).mono ?_
  rintro e w' ⟨rfl, rfl⟩
  exact ⟨rfl, Below.refl _ _⟩
theorem mem_bytes (p : Nat → Bool) (j : Nat) (h : j < (memS p).size) : p (byteAt (memS p) j) = true := by
  have hz : (memS p).size = (mems (wd p) 256).length := strOfNums_size _
  have hj : j < (mems (wd p) 256).length := by omega
  have e : byteAt (memS p) j = (mems (wd p) 256)[j].toNat % 256 := by
    unfold byteAt memS
    rw [strOfNums_data]
    simp [List.getD, List.getElem?_eq_getElem hj]
  have hm : (mems (wd p) 256)[j] ∈ mems (wd p) 256 := List.getElem_mem hj
  unfold mems at hm
  simp only [List.mem_map, List.mem_filter, List.mem_range] at hm
  obtain ⟨k, ⟨hk, hh⟩, hke⟩ := hm
  rw [e]
  have : (mems (wd p) 256)[j] = (k : Int) := hke.symm
  rw [this, Int.toNat_natCast, Nat.mod_eq_of_lt hk]
  rw [has_wd] at hh
  exact hh
theorem all_w (p : Nat → Bool) (w : World) : Calls Try.prog 25 #[.string (memS p), .agg (aggW p)] w fun e w' => e = .returned (.bool true) ∧ Below w.heap.size w w' := by
  have hs : (memS p).size ≤ 256 := by
    have : (memS p).size = (mems (wd p) 256).length := strOfNums_size _
    rw [this]; exact mems_le _ _
  have key := all_is (memS p) (wd p) w (by unfold maxLen; omega)
  have e : ((List.range (memS p).size).all fun j => hasB (wd p) (byteAt (memS p) j)) = true := by
    rw [List.all_eq_true]
    intro j hj
    rw [has_wd]
    exact mem_bytes p j (by simpa using hj)
  rw [e] at key
  exact key
theorem one_w (p : Nat → Bool) : (aggW p).all (·.oneCell') = true := by simp [aggW, Value.oneCell']
theorem agg0 : aggW (fun _ => false) = #[.int .u64 0, .int .u64 0, .int .u64 0, .int .u64 0] := by unfold aggW; rw [wd_none, wd_none, wd_none, wd_none]
theorem eqo_w (p q : Nat → Bool) (o : Oper) (h : aggW p = aggW q) (t u : Nat) (ho : o.op = .binOp .eql 32 (.tmp t) (.tmp u) 32) (hne : (u == t) = false) (w : World) : (execOp (rho [(t, .agg (aggW p)), (u, .agg (aggW q))]) o).run Try.prog w = .ok (.value (.bool true)) w := by
  rw [← h]
  have h1 : (eqGuard .eql 32 (.tmp t) (.tmp u) (.agg (aggW p)) (.agg (aggW p))).run Try.prog w = .ok () w := by kernel_rfl
  have h2 : (binOp .eql 32 (.agg (aggW p)) (.agg (aggW p))).run Try.prog w = .ok (.bool true) w := by
    have := eql_w p w
    unfold binOp
    simp only [Op.equal, Op.maxDepth, Sem.run_bind, this, Result.andThen_ok, Sem.run_pure]
  have e1 : rho [(t, .agg (aggW p)), (u, .agg (aggW p))] (.tmp t) = .agg (aggW p) := by simp [rho]
  have e2 : rho [(t, .agg (aggW p)), (u, .agg (aggW p))] (.tmp u) = .agg (aggW p) := by simp [rho, List.lookup, hne]
  unfold execOp
  simp only [ho, e1, e2, Sem.run_bind, h1, h2, Result.andThen_ok, Sem.run_pure]

set_option maxRecDepth 100000 in
set_option maxHeartbeats 4000000 in
theorem law5 (a b c : Nat → Bool) (x : Nat) (w : World) (hx : x < 256) : Calls Try.prog 5 #[.agg #[.int .u64 (wd a 0), .int .u64 (wd a 1), .int .u64 (wd a 2), .int .u64 (wd a 3), .int .u64 (wd b 0), .int .u64 (wd b 1), .int .u64 (wd b 2), .int .u64 (wd b 3), .int .u64 (wd c 0), .int .u64 (wd c 1), .int .u64 (wd c 2), .int .u64 (wd c 3)], .int .u8 x] w fun e w' => e = .returned (.bool true) ∧ Below w.heap.size w w' := by
  go_enter Try.func5, Try.ntmps5
  go_wp2_with fail
  rename_i Q' K' hcont
  obtain ⟨w0, hw0⟩ : ∃ w0, w.alloc (.cells #[.int .u64 (wd a 0), .int .u64 (wd a 1), .int .u64 (wd a 2), .int .u64 (wd a 3), .int .u64 (wd b 0), .int .u64 (wd b 1), .int .u64 (wd b 2), .int .u64 (wd b 3), .int .u64 (wd c 0), .int .u64 (wd c 1), .int .u64 (wd c 2), .int .u64 (wd c 3)] 44) = w0 := ⟨_, rfl⟩
  have hB : w0.heap[w.heap.size]? = some (.cells #[.int .u64 (wd a 0), .int .u64 (wd a 1), .int .u64 (wd a 2), .int .u64 (wd a 3), .int .u64 (wd b 0), .int .u64 (wd b 1), .int .u64 (wd b 2), .int .u64 (wd b 3), .int .u64 (wd c 0), .int .u64 (wd c 1), .int .u64 (wd c 2), .int .u64 (wd c 3)] 44 (0, 0)) := by rw [← hw0]; exact heap_alloc_last _ _
  have hbw : Below w.heap.size w w0 := by rw [← hw0]; exact (Below.refl _ _).alloc (Nat.le_refl _) _
  rw [hw0]
  clear hw0
  refine wp_abs 81 rfl fun a0 hz hd hs => ?_
  have s1 : a0.tmps[1]? = some (.int .u8 x) := hs 1
  have s2 : a0.tmps[2]? = some (.pointer (some ⟨w.heap.size, 0, none⟩)) := hs 2
  replace hd : a0.defers = [] := hd
  clear hs
  have HC : Shut _ := hcont
  clear hcont
  obtain ⟨B, hBB⟩ : ∃ B, w.heap.size = B := ⟨_, rfl⟩
  rw [hBB] at hB s2
  refine wp_region_flow (nthP [isV (.pointer (some ⟨B, 0, none⟩)), isV (.agg (aggW a)), isV (.pointer (some ⟨B, 4, none⟩)), isV (.agg (aggW b)), isV (.pointer (some ⟨B, 8, none⟩)), isV (.agg (aggW c)), isVar 4 32, isVar 4 32, isVar 4 32, isPtr (aggW a) 32, isPtr (aggW b) 32, isPtr (aggW c) 32]) 81 (by assumption) (by kernel_rfl) (by kernel_rfl) (by kernel_rfl) (nthP_stays ⟨Stays.isV, Stays.isV, Stays.isV, Stays.isV, Stays.isV, Stays.isV, Stays.isVar, Stays.isVar, Stays.isVar, Stays.isPtr, Stays.isPtr, Stays.isPtr, trivial⟩) (fun _ i v w w' L h1 h2 _ h4 => nthP_but (l := [isV (.pointer (some ⟨B, 0, none⟩)), isV (.agg (aggW a)), isV (.pointer (some ⟨B, 4, none⟩)), isV (.agg (aggW b)), isV (.pointer (some ⟨B, 8, none⟩)), isV (.agg (aggW c)), isVar 4 32, isVar 4 32, isVar 4 32, isPtr (aggW a) 32, isPtr (aggW b) 32, isPtr (aggW c) 32]) ⟨StaysBut.isV, StaysBut.isV, StaysBut.isV, StaysBut.isV, StaysBut.isV, StaysBut.isV, StaysBut.isVar, StaysBut.isVar, StaysBut.isVar, StaysBut.isPtr, StaysBut.isPtr, StaysBut.isPtr, trivial⟩ i v w w' L h1 h2 h4) ⟨?o0, ?o1, ?o2, ?o3, ?o4, ?o5, ?o6, ?o7, ?o8, ?o9, ?o10, ?o11, trivial⟩ ?hdone
  case o0 =>
    refine FlowOp2.plain rfl fun a1 w1 cx => ?_
    have s2 := cx.keep 2 _ (by kernel_rfl) s2
    refine ⟨(wanted_none rfl), fun K hK => ?_⟩
    refine wp_gen [(2, _)] ⟨s2, trivial⟩ (by kernel_rfl) (v := .pointer (some ⟨B, 0, none⟩)) (w' := w1) (by kernel_rfl) ?_
    exact hK.out _ _ rfl (Below.refl _ _) (fun b hb => by simp [blockOf] at hb; subst hb; have := cx.below.size; exact ⟨by have := blk_lt hB; omega, .inr ⟨blk_lt hB, rfl⟩⟩)
  case o1 =>
    refine FlowOp2.plain rfl fun a1 w1 cx => ?_
    obtain ⟨v11, s11, p11⟩ := cx.slot 0 11 (by kernel_rfl)
    replace p11 : v11 = .pointer (some ⟨B, 0, none⟩) := p11
    subst p11
    refine ⟨(wanted_none rfl), fun K hK => ?_⟩
    refine wp_load_mid 32 _ rfl _ _ (ev_tmp s11) (aggW a).toList _ (fun j v hv => ?_) Try.underlying32 rfl (by kernel_rfl) (hK.out _ _ rfl (Below.refl _ _) (no_block rfl))
    rw [cell_blk (below_at hB cx.below)]
    have hj : j < 4 := by have := (List.getElem?_eq_some_iff.1 hv).1; simpa [aggW] using this
    match j, hj with
    | 0, _ => exact hv
    | 1, _ => exact hv
    | 2, _ => exact hv
    | 3, _ => exact hv
  case o2 =>
    refine FlowOp2.plain rfl fun a1 w1 cx => ?_
    have s2 := cx.keep 2 _ (by kernel_rfl) s2
    refine ⟨(wanted_none rfl), fun K hK => ?_⟩
    refine wp_gen [(2, _)] ⟨s2, trivial⟩ (by kernel_rfl) (v := .pointer (some ⟨B, 4, none⟩)) (w' := w1) (by kernel_rfl) ?_
    exact hK.out _ _ rfl (Below.refl _ _) (fun b hb => by simp [blockOf] at hb; subst hb; have := cx.below.size; exact ⟨by have := blk_lt hB; omega, .inr ⟨blk_lt hB, rfl⟩⟩)
  case o3 =>
    refine FlowOp2.plain rfl fun a1 w1 cx => ?_
    obtain ⟨v13, s13, p13⟩ := cx.slot 2 13 (by kernel_rfl)
    replace p13 : v13 = .pointer (some ⟨B, 4, none⟩) := p13
    subst p13
    refine ⟨(wanted_none rfl), fun K hK => ?_⟩
    refine wp_load_mid 32 _ rfl _ _ (ev_tmp s13) (aggW b).toList _ (fun j v hv => ?_) Try.underlying32 rfl (by kernel_rfl) (hK.out _ _ rfl (Below.refl _ _) (no_block rfl))
    rw [cell_blk (below_at hB cx.below)]
    have hj : j < 4 := by have := (List.getElem?_eq_some_iff.1 hv).1; simpa [aggW] using this
    match j, hj with
    | 0, _ => exact hv
    | 1, _ => exact hv
    | 2, _ => exact hv
    | 3, _ => exact hv
  case o4 =>
    refine FlowOp2.plain rfl fun a1 w1 cx => ?_
    have s2 := cx.keep 2 _ (by kernel_rfl) s2
    refine ⟨(wanted_none rfl), fun K hK => ?_⟩
    refine wp_gen [(2, _)] ⟨s2, trivial⟩ (by kernel_rfl) (v := .pointer (some ⟨B, 8, none⟩)) (w' := w1) (by kernel_rfl) ?_
    exact hK.out _ _ rfl (Below.refl _ _) (fun b hb => by simp [blockOf] at hb; subst hb; have := cx.below.size; exact ⟨by have := blk_lt hB; omega, .inr ⟨blk_lt hB, rfl⟩⟩)
  case o5 =>
    refine FlowOp2.plain rfl fun a1 w1 cx => ?_
    obtain ⟨v15, s15, p15⟩ := cx.slot 4 15 (by kernel_rfl)
    replace p15 : v15 = .pointer (some ⟨B, 8, none⟩) := p15
    subst p15
    refine ⟨(wanted_none rfl), fun K hK => ?_⟩
    refine wp_load_mid 32 _ rfl _ _ (ev_tmp s15) (aggW c).toList _ (fun j v hv => ?_) Try.underlying32 rfl (by kernel_rfl) (hK.out _ _ rfl (Below.refl _ _) (no_block rfl))
    rw [cell_blk (below_at hB cx.below)]
    have hj : j < 4 := by have := (List.getElem?_eq_some_iff.1 hv).1; simpa [aggW] using this
    match j, hj with
    | 0, _ => exact hv
    | 1, _ => exact hv
    | 2, _ => exact hv
    | 3, _ => exact hv
  case o6 =>
    refine FlowOp2.plain rfl fun a1 w1 cx => ?_
    refine ⟨(wanted_none rfl), fun K hK => ?_⟩
    refine wp_gen [] trivial (by kernel_rfl) (v := .pointer (some ⟨w1.heap.size, 0, none⟩)) (w' := w1.alloc (.cells (#[.int .u64 0, .int .u64 0, .int .u64 0, .int .u64 0]) 32)) (by kernel_rfl) ?_
    exact hK.out _ _ ⟨w1.heap.size, _, rfl, heap_alloc_last _ _, by kernel_rfl⟩ ((Below.refl _ _).alloc (Nat.le_refl _) _) (fun b hb => by simp [blockOf] at hb; subst hb; exact ⟨by simp, .inl (Nat.le_refl _)⟩)
  case o7 =>
    refine FlowOp2.plain rfl fun a1 w1 cx => ?_
    refine ⟨(wanted_none rfl), fun K hK => ?_⟩
    refine wp_gen [] trivial (by kernel_rfl) (v := .pointer (some ⟨w1.heap.size, 0, none⟩)) (w' := w1.alloc (.cells (#[.int .u64 0, .int .u64 0, .int .u64 0, .int .u64 0]) 32)) (by kernel_rfl) ?_
    exact hK.out _ _ ⟨w1.heap.size, _, rfl, heap_alloc_last _ _, by kernel_rfl⟩ ((Below.refl _ _).alloc (Nat.le_refl _) _) (fun b hb => by simp [blockOf] at hb; subst hb; exact ⟨by simp, .inl (Nat.le_refl _)⟩)
  case o8 =>
    refine FlowOp2.plain rfl fun a1 w1 cx => ?_
    refine ⟨(wanted_none rfl), fun K hK => ?_⟩
    refine wp_gen [] trivial (by kernel_rfl) (v := .pointer (some ⟨w1.heap.size, 0, none⟩)) (w' := w1.alloc (.cells (#[.int .u64 0, .int .u64 0, .int .u64 0, .int .u64 0]) 32)) (by kernel_rfl) ?_
    exact hK.out _ _ ⟨w1.heap.size, _, rfl, heap_alloc_last _ _, by kernel_rfl⟩ ((Below.refl _ _).alloc (Nat.le_refl _) _) (fun b hb => by simp [blockOf] at hb; subst hb; exact ⟨by simp, .inl (Nat.le_refl _)⟩)
  case o9 =>
    refine FlowOp2.store rfl rfl _ 5 _ rfl 6 (by kernel_rfl) fun a1 w1 cx => ?_
    obtain ⟨v5, s5, p5⟩ := cx.slot 6 5 (by kernel_rfl)
    obtain ⟨g5, cs5, rfl, k5, z5⟩ : isVar 4 32 v5 w1 := p5
    obtain ⟨v12, s12, p12⟩ := cx.slot 1 12 (by kernel_rfl)
    replace p12 : v12 = .agg (aggW a) := p12
    subst p12
    exact ⟨g5, cs5, aggW a, 32, s5, k5, z5, ev_tmp s12, by kernel_rfl, one_w _, fun w' h => ⟨⟨_, rfl, h⟩, ⟨_, _, rfl, h, rfl⟩⟩⟩
  case o10 =>
    refine FlowOp2.store rfl rfl _ 6 _ rfl 7 (by kernel_rfl) fun a1 w1 cx => ?_
    obtain ⟨v6, s6, p6⟩ := cx.slot 7 6 (by kernel_rfl)
    obtain ⟨g6, cs6, rfl, k6, z6⟩ : isVar 4 32 v6 w1 := p6
    obtain ⟨v14, s14, p14⟩ := cx.slot 3 14 (by kernel_rfl)
    replace p14 : v14 = .agg (aggW b) := p14
    subst p14
    exact ⟨g6, cs6, aggW b, 32, s6, k6, z6, ev_tmp s14, by kernel_rfl, one_w _, fun w' h => ⟨⟨_, rfl, h⟩, ⟨_, _, rfl, h, rfl⟩⟩⟩
  case o11 =>
    refine FlowOp2.store rfl rfl _ 7 _ rfl 8 (by kernel_rfl) fun a1 w1 cx => ?_
    obtain ⟨v7, s7, p7⟩ := cx.slot 8 7 (by kernel_rfl)
    obtain ⟨g7, cs7, rfl, k7, z7⟩ : isVar 4 32 v7 w1 := p7
    obtain ⟨v16, s16, p16⟩ := cx.slot 5 16 (by kernel_rfl)
    replace p16 : v16 = .agg (aggW c) := p16
    subst p16
    exact ⟨g7, cs7, aggW c, 32, s7, k7, z7, ev_tmp s16, by kernel_rfl, one_w _, fun w' h => ⟨⟨_, rfl, h⟩, ⟨_, _, rfl, h, rfl⟩⟩⟩
  case hdone =>
    intro a1 w1 hb1 hz1 hd1 hk1 hg1
    obtain ⟨v5, s5, p5⟩ := got_slot hg1 9 5 (by kernel_rfl)
    obtain ⟨g5, rfl, k5⟩ : isPtr (aggW a) 32 v5 w1 := p5
    obtain ⟨v6, s6, p6⟩ := got_slot hg1 10 6 (by kernel_rfl)
    obtain ⟨g6, rfl, k6⟩ : isPtr (aggW b) 32 v6 w1 := p6
    obtain ⟨v7, s7, p7⟩ := got_slot hg1 11 7 (by kernel_rfl)
    obtain ⟨g7, rfl, k7⟩ : isPtr (aggW c) 32 v7 w1 := p7
    replace s1 := (hk1 1 (by kernel_rfl)).trans s1
    replace hbw := hbw.trans (hb1.mono hbw.size)
    replace hd := hd1.trans hd
    replace hz := hz1
    clear hg1 hk1 hb1 hz1 hd1
    replace HC := HC.out a1 w1
    refine HC ?_
    clear HC
    refine wp_seq_k fun K2 hc2 => ?_
    have HC : Shut _ := hc2
    clear hc2
    refine wp_region_flow (nthP [isV (.agg (aggW a)), isV (.agg (aggW b)), isV (.agg (aggW (andP a b))), isV (.agg (aggW a)), isV (.agg (aggW b)), isV (.agg (aggW (minusP a b))), isVar 4 32, isVar 4 32, isPtr (aggW (andP a b)) 32, isPtr (aggW (minusP a b)) 32]) 81 (by assumption) (by kernel_rfl) (by kernel_rfl) (by kernel_rfl) (nthP_stays ⟨Stays.isV, Stays.isV, Stays.isV, Stays.isV, Stays.isV, Stays.isV, Stays.isVar, Stays.isVar, Stays.isPtr, Stays.isPtr, trivial⟩) (fun _ i v w w' L h1 h2 _ h4 => nthP_but (l := [isV (.agg (aggW a)), isV (.agg (aggW b)), isV (.agg (aggW (andP a b))), isV (.agg (aggW a)), isV (.agg (aggW b)), isV (.agg (aggW (minusP a b))), isVar 4 32, isVar 4 32, isPtr (aggW (andP a b)) 32, isPtr (aggW (minusP a b)) 32]) ⟨StaysBut.isV, StaysBut.isV, StaysBut.isV, StaysBut.isV, StaysBut.isV, StaysBut.isV, StaysBut.isVar, StaysBut.isVar, StaysBut.isPtr, StaysBut.isPtr, trivial⟩ i v w w' L h1 h2 h4) ⟨?o0, ?o1, ?o2, ?o3, ?o4, ?o5, ?o6, ?o7, ?o8, ?o9, trivial⟩ ?hdone
    case o0 =>
      refine FlowOp2.plain rfl fun a1 w1 cx => ?_
      have s5 := cx.keep 5 _ (by kernel_rfl) s5
      have k5 := below_at k5 cx.below
      refine ⟨(wanted_none rfl), fun K hK => ?_⟩
      exact wp_loaded _ _ rfl g5 (ev_tmp s5) _ _ _ _ k5 Try.underlying32 rfl (by kernel_rfl) (hK.out _ _ rfl (Below.refl _ _) (no_block rfl))
    case o1 =>
      refine FlowOp2.plain rfl fun a1 w1 cx => ?_
      have s6 := cx.keep 6 _ (by kernel_rfl) s6
      have k6 := below_at k6 cx.below
      refine ⟨(wanted_none rfl), fun K hK => ?_⟩
      exact wp_loaded _ _ rfl g6 (ev_tmp s6) _ _ _ _ k6 Try.underlying32 rfl (by kernel_rfl) (hK.out _ _ rfl (Below.refl _ _) (no_block rfl))
    case o2 =>
      refine FlowOp2.plain rfl fun a1 w1 cx => ?_
      obtain ⟨v17, s17, p17⟩ := cx.slot 0 17 (by kernel_rfl)
      replace p17 : v17 = .agg (aggW a) := p17
      subst p17
      obtain ⟨v18, s18, p18⟩ := cx.slot 1 18 (by kernel_rfl)
      replace p18 : v18 = .agg (aggW b) := p18
      subst p18
      refine ⟨(wanted_none rfl), fun K hK => ?_⟩
      refine wp_gen_call [(17, .agg (aggW a)), (18, .agg (aggW b))] ⟨s17, s18, trivial⟩ (vs := #[.agg (aggW a), .agg (aggW b)]) (f := 22) (by kernel_rfl) (fun w => by kernel_rfl) ?_
      refine (cross_w a b _).mono ?_
      rintro e w2 ⟨rfl, hb⟩
      exact ⟨_, rfl, hK.out _ _ rfl hb (no_block rfl)⟩
    case o3 =>
      refine FlowOp2.plain rfl fun a1 w1 cx => ?_
      have s5 := cx.keep 5 _ (by kernel_rfl) s5
      have k5 := below_at k5 cx.below
      refine ⟨(wanted_none rfl), fun K hK => ?_⟩
      exact wp_loaded _ _ rfl g5 (ev_tmp s5) _ _ _ _ k5 Try.underlying32 rfl (by kernel_rfl) (hK.out _ _ rfl (Below.refl _ _) (no_block rfl))
    case o4 =>
      refine FlowOp2.plain rfl fun a1 w1 cx => ?_
      have s6 := cx.keep 6 _ (by kernel_rfl) s6
      have k6 := below_at k6 cx.below
      refine ⟨(wanted_none rfl), fun K hK => ?_⟩
      exact wp_loaded _ _ rfl g6 (ev_tmp s6) _ _ _ _ k6 Try.underlying32 rfl (by kernel_rfl) (hK.out _ _ rfl (Below.refl _ _) (no_block rfl))
    case o5 =>
      refine FlowOp2.plain rfl fun a1 w1 cx => ?_
      obtain ⟨v20, s20, p20⟩ := cx.slot 3 20 (by kernel_rfl)
      replace p20 : v20 = .agg (aggW a) := p20
      subst p20
      obtain ⟨v21, s21, p21⟩ := cx.slot 4 21 (by kernel_rfl)
      replace p21 : v21 = .agg (aggW b) := p21
      subst p21
      refine ⟨(wanted_none rfl), fun K hK => ?_⟩
      refine wp_gen_call [(20, .agg (aggW a)), (21, .agg (aggW b))] ⟨s20, s21, trivial⟩ (vs := #[.agg (aggW a), .agg (aggW b)]) (f := 23) (by kernel_rfl) (fun w => by kernel_rfl) ?_
      refine (minus_w a b _).mono ?_
      rintro e w2 ⟨rfl, hb⟩
      exact ⟨_, rfl, hK.out _ _ rfl hb (no_block rfl)⟩
    case o6 =>
      refine FlowOp2.plain rfl fun a1 w1 cx => ?_
      refine ⟨(wanted_none rfl), fun K hK => ?_⟩
      refine wp_gen [] trivial (by kernel_rfl) (v := .pointer (some ⟨w1.heap.size, 0, none⟩)) (w' := w1.alloc (.cells (#[.int .u64 0, .int .u64 0, .int .u64 0, .int .u64 0]) 32)) (by kernel_rfl) ?_
      exact hK.out _ _ ⟨w1.heap.size, _, rfl, heap_alloc_last _ _, by kernel_rfl⟩ ((Below.refl _ _).alloc (Nat.le_refl _) _) (fun b hb => by simp [blockOf] at hb; subst hb; exact ⟨by simp, .inl (Nat.le_refl _)⟩)
    case o7 =>
      refine FlowOp2.plain rfl fun a1 w1 cx => ?_
      refine ⟨(wanted_none rfl), fun K hK => ?_⟩
      refine wp_gen [] trivial (by kernel_rfl) (v := .pointer (some ⟨w1.heap.size, 0, none⟩)) (w' := w1.alloc (.cells (#[.int .u64 0, .int .u64 0, .int .u64 0, .int .u64 0]) 32)) (by kernel_rfl) ?_
      exact hK.out _ _ ⟨w1.heap.size, _, rfl, heap_alloc_last _ _, by kernel_rfl⟩ ((Below.refl _ _).alloc (Nat.le_refl _) _) (fun b hb => by simp [blockOf] at hb; subst hb; exact ⟨by simp, .inl (Nat.le_refl _)⟩)
    case o8 =>
      refine FlowOp2.store rfl rfl _ 8 _ rfl 6 (by kernel_rfl) fun a1 w1 cx => ?_
      obtain ⟨v8, s8, p8⟩ := cx.slot 6 8 (by kernel_rfl)
      obtain ⟨g8, cs8, rfl, k8, z8⟩ : isVar 4 32 v8 w1 := p8
      obtain ⟨v19, s19, p19⟩ := cx.slot 2 19 (by kernel_rfl)
      replace p19 : v19 = .agg (aggW (andP a b)) := p19
      subst p19
      exact ⟨g8, cs8, aggW (andP a b), 32, s8, k8, z8, ev_tmp s19, by kernel_rfl, one_w _, fun w' h => ⟨⟨_, rfl, h⟩, ⟨_, _, rfl, h, rfl⟩⟩⟩
    case o9 =>
      refine FlowOp2.store rfl rfl _ 9 _ rfl 7 (by kernel_rfl) fun a1 w1 cx => ?_
      obtain ⟨v9, s9, p9⟩ := cx.slot 7 9 (by kernel_rfl)
      obtain ⟨g9, cs9, rfl, k9, z9⟩ : isVar 4 32 v9 w1 := p9
      obtain ⟨v22, s22, p22⟩ := cx.slot 5 22 (by kernel_rfl)
      replace p22 : v22 = .agg (aggW (minusP a b)) := p22
      subst p22
      exact ⟨g9, cs9, aggW (minusP a b), 32, s9, k9, z9, ev_tmp s22, by kernel_rfl, one_w _, fun w' h => ⟨⟨_, rfl, h⟩, ⟨_, _, rfl, h, rfl⟩⟩⟩
    case hdone =>
      intro a1 w1 hb1 hz1 hd1 hk1 hg1
      obtain ⟨v8, s8, p8⟩ := got_slot hg1 8 8 (by kernel_rfl)
      obtain ⟨g8, rfl, k8⟩ : isPtr (aggW (andP a b)) 32 v8 w1 := p8
      obtain ⟨v9, s9, p9⟩ := got_slot hg1 9 9 (by kernel_rfl)
      obtain ⟨g9, rfl, k9⟩ : isPtr (aggW (minusP a b)) 32 v9 w1 := p9
      replace s1 := (hk1 1 (by kernel_rfl)).trans s1
      replace s5 := (hk1 5 (by kernel_rfl)).trans s5
      replace k5 := below_at k5 hb1
      replace s6 := (hk1 6 (by kernel_rfl)).trans s6
      replace k6 := below_at k6 hb1
      replace s7 := (hk1 7 (by kernel_rfl)).trans s7
      replace k7 := below_at k7 hb1
      replace hbw := hbw.trans (hb1.mono hbw.size)
      replace hd := hd1.trans hd
      replace hz := hz1
      clear hg1 hk1 hb1 hz1 hd1
      replace HC := HC.out a1 w1
      refine HC ?_
      clear HC
      refine wp_seq_k fun K2 hc2 => ?_
      have HC : Shut _ := hc2
      clear hc2
      refine wp_region_flow (nthP [isV (.agg (aggW a)), isV (.agg (aggW b)), isV (.agg (aggW c)), isSl (agg3 a b c) 32 3, isV (.agg (aggW (orP (orP a b) c))), isVar 4 32, isPtr (aggW (orP (orP a b) c)) 32]) 81 (by assumption) (by kernel_rfl) (by kernel_rfl) (by kernel_rfl) (nthP_stays ⟨Stays.isV, Stays.isV, Stays.isV, Stays.isSl, Stays.isV, Stays.isVar, Stays.isPtr, trivial⟩) (fun _ i v w w' L h1 h2 _ h4 => nthP_but (l := [isV (.agg (aggW a)), isV (.agg (aggW b)), isV (.agg (aggW c)), isSl (agg3 a b c) 32 3, isV (.agg (aggW (orP (orP a b) c))), isVar 4 32, isPtr (aggW (orP (orP a b) c)) 32]) ⟨StaysBut.isV, StaysBut.isV, StaysBut.isV, StaysBut.isSl, StaysBut.isV, StaysBut.isVar, StaysBut.isPtr, trivial⟩ i v w w' L h1 h2 h4) ⟨?o0, ?o1, ?o2, ?o3, ?o4, ?o5, ?o6, trivial⟩ ?hdone
      case o0 =>
        refine FlowOp2.plain rfl fun a1 w1 cx => ?_
        have s5 := cx.keep 5 _ (by kernel_rfl) s5
        have k5 := below_at k5 cx.below
        refine ⟨(wanted_none rfl), fun K hK => ?_⟩
        exact wp_loaded _ _ rfl g5 (ev_tmp s5) _ _ _ _ k5 Try.underlying32 rfl (by kernel_rfl) (hK.out _ _ rfl (Below.refl _ _) (no_block rfl))
      case o1 =>
        refine FlowOp2.plain rfl fun a1 w1 cx => ?_
        have s6 := cx.keep 6 _ (by kernel_rfl) s6
        have k6 := below_at k6 cx.below
        refine ⟨(wanted_none rfl), fun K hK => ?_⟩
        exact wp_loaded _ _ rfl g6 (ev_tmp s6) _ _ _ _ k6 Try.underlying32 rfl (by kernel_rfl) (hK.out _ _ rfl (Below.refl _ _) (no_block rfl))
      case o2 =>
        refine FlowOp2.plain rfl fun a1 w1 cx => ?_
        have s7 := cx.keep 7 _ (by kernel_rfl) s7
        have k7 := below_at k7 cx.below
        refine ⟨(wanted_none rfl), fun K hK => ?_⟩
        exact wp_loaded _ _ rfl g7 (ev_tmp s7) _ _ _ _ k7 Try.underlying32 rfl (by kernel_rfl) (hK.out _ _ rfl (Below.refl _ _) (no_block rfl))
      case o3 =>
        refine FlowOp2.plain rfl fun a1 w1 cx => ?_
        obtain ⟨v23, s23, p23⟩ := cx.slot 0 23 (by kernel_rfl)
        replace p23 : v23 = .agg (aggW a) := p23
        subst p23
        obtain ⟨v24, s24, p24⟩ := cx.slot 1 24 (by kernel_rfl)
        replace p24 : v24 = .agg (aggW b) := p24
        subst p24
        obtain ⟨v25, s25, p25⟩ := cx.slot 2 25 (by kernel_rfl)
        replace p25 : v25 = .agg (aggW c) := p25
        subst p25
        refine ⟨(wanted_none rfl), fun K hK => ?_⟩
        refine wp_gen [(23, .agg (aggW a)), (24, .agg (aggW b)), (25, .agg (aggW c))] ⟨s23, s24, s25, trivial⟩ (by kernel_rfl) (v := .slice (some ⟨w1.heap.size, 0, none⟩) 3 3) (w' := w1.alloc (.cells (agg3 a b c) 32)) (by kernel_rfl) ?_
        exact hK.out _ _ ⟨_, _, rfl, heap_alloc_last _ _⟩ ((Below.refl _ _).alloc (Nat.le_refl _) _) (fun b hb => by simp [blockOf] at hb; subst hb; exact ⟨by simp, .inl (Nat.le_refl _)⟩)
      case o4 =>
        refine FlowOp2.plain rfl fun a1 w1 cx => ?_
        obtain ⟨v26, s26, p26⟩ := cx.slot 3 26 (by kernel_rfl)
        obtain ⟨g26, c26, rfl, k26⟩ : isSl (agg3 a b c) 32 3 v26 w1 := p26
        refine ⟨(wanted_none rfl), fun K hK => ?_⟩
        refine wp_gen_call [(26, .slice (some ⟨g26, 0, none⟩) 3 c26)] ⟨s26, trivial⟩ (vs := #[.slice (some ⟨g26, 0, none⟩) 3 c26]) (f := 21) (by kernel_rfl) (fun w => by kernel_rfl) ?_
        refine (union3_w a b c _ _ _ _ k26).mono ?_
        rintro e w2 ⟨rfl, hb⟩
        exact ⟨_, rfl, hK.out _ _ rfl hb (no_block rfl)⟩
      case o5 =>
        refine FlowOp2.plain rfl fun a1 w1 cx => ?_
        refine ⟨(wanted_none rfl), fun K hK => ?_⟩
        refine wp_gen [] trivial (by kernel_rfl) (v := .pointer (some ⟨w1.heap.size, 0, none⟩)) (w' := w1.alloc (.cells (#[.int .u64 0, .int .u64 0, .int .u64 0, .int .u64 0]) 32)) (by kernel_rfl) ?_
        exact hK.out _ _ ⟨w1.heap.size, _, rfl, heap_alloc_last _ _, by kernel_rfl⟩ ((Below.refl _ _).alloc (Nat.le_refl _) _) (fun b hb => by simp [blockOf] at hb; subst hb; exact ⟨by simp, .inl (Nat.le_refl _)⟩)
      case o6 =>
        refine FlowOp2.store rfl rfl _ 10 _ rfl 5 (by kernel_rfl) fun a1 w1 cx => ?_
        obtain ⟨v10, s10, p10⟩ := cx.slot 5 10 (by kernel_rfl)
        obtain ⟨g10, cs10, rfl, k10, z10⟩ : isVar 4 32 v10 w1 := p10
        obtain ⟨v27, s27, p27⟩ := cx.slot 4 27 (by kernel_rfl)
        replace p27 : v27 = .agg (aggW (orP (orP a b) c)) := p27
        subst p27
        exact ⟨g10, cs10, aggW (orP (orP a b) c), 32, s10, k10, z10, ev_tmp s27, by kernel_rfl, one_w _, fun w' h => ⟨⟨_, rfl, h⟩, ⟨_, _, rfl, h, rfl⟩⟩⟩
      case hdone =>
        intro a1 w1 hb1 hz1 hd1 hk1 hg1
        obtain ⟨v10, s10, p10⟩ := got_slot hg1 6 10 (by kernel_rfl)
        obtain ⟨g10, rfl, k10⟩ : isPtr (aggW (orP (orP a b) c)) 32 v10 w1 := p10
        replace s1 := (hk1 1 (by kernel_rfl)).trans s1
        replace s5 := (hk1 5 (by kernel_rfl)).trans s5
        replace k5 := below_at k5 hb1
        replace s6 := (hk1 6 (by kernel_rfl)).trans s6
        replace k6 := below_at k6 hb1
        replace s7 := (hk1 7 (by kernel_rfl)).trans s7
        replace k7 := below_at k7 hb1
        replace s8 := (hk1 8 (by kernel_rfl)).trans s8
        replace k8 := below_at k8 hb1
        replace s9 := (hk1 9 (by kernel_rfl)).trans s9
        replace k9 := below_at k9 hb1
        replace hbw := hbw.trans (hb1.mono hbw.size)
        replace hd := hd1.trans hd
        replace hz := hz1
        clear hg1 hk1 hb1 hz1 hd1
        replace HC := HC.out a1 w1
        refine HC ?_
        clear HC
        refine wp_seq_k fun K2 hc2 => ?_
        have HC : Shut _ := hc2
        clear hc2
        cases ha : a x
        · cases hb : b x
          · refine wp_region_flow (nthP [isV (.bool true), isV (.bool true), isV (.agg (aggW (andP a b))), isV (.agg (aggW (minusP a b))), isV (.agg (aggW (andP (andP a b) (minusP a b)))), isV (.agg (aggW (fun _ => false))), isV (.bool true), isV (.bool true), isV (.bool true), isV (.agg (aggW (andP a b))), isV (.agg (aggW (minusP a b))), isSl (agg2 (andP a b) (minusP a b)) 32 2, isV (.agg (aggW (orP (andP a b) (minusP a b)))), isV (.agg (aggW a)), isV (.bool true), isV (.bool true), isV (.bool true), isV (.agg (aggW (minusP a b))), isV (.agg (aggW (andP a b))), isV (.agg (aggW b)), isSl (agg3 (minusP a b) (andP a b) b) 32 3, isV (.agg (aggW (orP (orP (minusP a b) (andP a b)) b))), isV (.agg (aggW a)), isV (.agg (aggW b)), isSl (agg2 a b) 32 2, isV (.agg (aggW (orP a b))), isV (.bool true), isV (.bool true), isV (.bool true), isV (.agg (aggW (orP (orP a b) c))), isV (.int .u8 x), isV (.bool (c x)), isV (.agg (aggW a)), isV (.int .u8 x), isV (.bool false), isV (.bool false), isV (.agg (aggW b)), isV (.int .u8 x), isV (.bool false), isV (.bool false), isV (.bool false), isV (.agg (aggW c)), isV (.int .u8 x), isV (.bool (c x)), isV (.bool (c x)), isV (.bool true), isV (.bool true), isV (.bool true), isV (.agg (aggW a)), isV (.string (memS a)), isV (.agg (aggW a)), isV (.bool true), isV (.bool true), isV (.bool true)]) 81 (by assumption) (by kernel_rfl) (by kernel_rfl) (by kernel_rfl) (nthP_stays ⟨Stays.isV, Stays.isV, Stays.isV, Stays.isV, Stays.isV, Stays.isV, Stays.isV, Stays.isV, Stays.isV, Stays.isV, Stays.isV, Stays.isSl, Stays.isV, Stays.isV, Stays.isV, Stays.isV, Stays.isV, Stays.isV, Stays.isV, Stays.isV, Stays.isSl, Stays.isV, Stays.isV, Stays.isV, Stays.isSl, Stays.isV, Stays.isV, Stays.isV, Stays.isV, Stays.isV, Stays.isV, Stays.isV, Stays.isV, Stays.isV, Stays.isV, Stays.isV, Stays.isV, Stays.isV, Stays.isV, Stays.isV, Stays.isV, Stays.isV, Stays.isV, Stays.isV, Stays.isV, Stays.isV, Stays.isV, Stays.isV, Stays.isV, Stays.isV, Stays.isV, Stays.isV, Stays.isV, Stays.isV, trivial⟩) (noStore (by kernel_rfl)) ⟨?o0, ?o1, ?o2, ?o3, ?o4, ?o5, ?o6, ?o7, ?o8, ?o9, ?o10, ?o11, ?o12, ?o13, ?o14, ?o15, ?o16, ?o17, ?o18, ?o19, ?o20, ?o21, ?o22, ?o23, ?o24, ?o25, ?o26, ?o27, ?o28, ?o29, ?o30, ?o31, ?o32, ?o33, ?o34, ?o35, ?o36, ?o37, ?o38, ?o39, ?o40, ?o41, ?o42, ?o43, ?o44, ?o45, ?o46, ?o47, ?o48, ?o49, ?o50, ?o51, ?o52, ?o53, trivial⟩ ?hdone
            case o0 =>
              refine FlowOp2.plain rfl fun a1 w1 cx => ?_
              refine ⟨(wanted_none rfl), fun K hK => ?_⟩
              refine wp_gen_call [] trivial (vs := #[]) (f := 9) (by kernel_rfl) (fun w => by kernel_rfl) ?_
              refine (awake_w _).mono ?_
              rintro e w2 ⟨rfl, hb⟩
              exact ⟨_, rfl, hK.out _ _ rfl hb (no_block rfl)⟩
            case o1 =>
              refine FlowOp2.plain rfl fun a1 w1 cx => ?_
              obtain ⟨v28, s28, p28⟩ := cx.slot 0 28 (by kernel_rfl)
              replace p28 : v28 = .bool true := p28
              subst p28
              refine ⟨(wanted_none rfl), fun K hK => ?_⟩
              exact wp_moved _ rfl _ (ev_tmp s28) (hK.out _ _ rfl (Below.refl _ _) (no_block rfl))
            case o2 =>
              refine FlowOp2.plain rfl fun a1 w1 cx => ?_
              obtain ⟨v29, s29, p29⟩ := cx.slot 1 29 (by kernel_rfl)
              replace p29 : v29 = .bool true := p29
              subst p29
              have s8 := cx.keep 8 _ (by kernel_rfl) s8
              have k8 := below_at k8 cx.below
              refine ⟨(wanted_yes rfl rfl s29), fun K hK => ?_⟩
              exact wp_loaded _ _ rfl g8 (ev_tmp s8) _ _ _ _ k8 Try.underlying32 rfl (by kernel_rfl) (hK.out _ _ rfl (Below.refl _ _) (no_block rfl))
            case o3 =>
              refine FlowOp2.plain rfl fun a1 w1 cx => ?_
              obtain ⟨v29, s29, p29⟩ := cx.slot 1 29 (by kernel_rfl)
              replace p29 : v29 = .bool true := p29
              subst p29
              have s9 := cx.keep 9 _ (by kernel_rfl) s9
              have k9 := below_at k9 cx.below
              refine ⟨(wanted_yes rfl rfl s29), fun K hK => ?_⟩
              exact wp_loaded _ _ rfl g9 (ev_tmp s9) _ _ _ _ k9 Try.underlying32 rfl (by kernel_rfl) (hK.out _ _ rfl (Below.refl _ _) (no_block rfl))
            case o4 =>
              refine FlowOp2.plain rfl fun a1 w1 cx => ?_
              obtain ⟨v29, s29, p29⟩ := cx.slot 1 29 (by kernel_rfl)
              replace p29 : v29 = .bool true := p29
              subst p29
              obtain ⟨v30, s30, p30⟩ := cx.slot 2 30 (by kernel_rfl)
              replace p30 : v30 = .agg (aggW (andP a b)) := p30
              subst p30
              obtain ⟨v31, s31, p31⟩ := cx.slot 3 31 (by kernel_rfl)
              replace p31 : v31 = .agg (aggW (minusP a b)) := p31
              subst p31
              refine ⟨(wanted_yes rfl rfl s29), fun K hK => ?_⟩
              refine wp_gen_call [(30, .agg (aggW (andP a b))), (31, .agg (aggW (minusP a b)))] ⟨s30, s31, trivial⟩ (vs := #[.agg (aggW (andP a b)), .agg (aggW (minusP a b))]) (f := 22) (by kernel_rfl) (fun w => by kernel_rfl) ?_
              refine (cross_w (andP a b) (minusP a b) _).mono ?_
              rintro e w2 ⟨rfl, hb⟩
              exact ⟨_, rfl, hK.out _ _ rfl hb (no_block rfl)⟩
            case o5 =>
              refine FlowOp2.plain rfl fun a1 w1 cx => ?_
              obtain ⟨v29, s29, p29⟩ := cx.slot 1 29 (by kernel_rfl)
              replace p29 : v29 = .bool true := p29
              subst p29
              refine ⟨(wanted_yes rfl rfl s29), fun K hK => ?_⟩
              refine wp_gen [] trivial (by kernel_rfl) (v := .agg (aggW (fun _ => false))) (w' := w1) (by rw [agg0]; kernel_rfl) ?_
              exact hK.out _ _ rfl (Below.refl _ _) (no_block rfl)
            case o6 =>
              refine FlowOp2.plain rfl fun a1 w1 cx => ?_
              obtain ⟨v29, s29, p29⟩ := cx.slot 1 29 (by kernel_rfl)
              replace p29 : v29 = .bool true := p29
              subst p29
              obtain ⟨v32, s32, p32⟩ := cx.slot 4 32 (by kernel_rfl)
              replace p32 : v32 = .agg (aggW (andP (andP a b) (minusP a b))) := p32
              subst p32
              obtain ⟨v33, s33, p33⟩ := cx.slot 5 33 (by kernel_rfl)
              replace p33 : v33 = .agg (aggW (fun _ => false)) := p33
              subst p33
              refine ⟨(wanted_yes rfl rfl s29), fun K hK => ?_⟩
              refine wp_gen [(32, .agg (aggW (andP (andP a b) (minusP a b)))), (33, .agg (aggW (fun _ => false)))] ⟨s32, s33, trivial⟩ (by kernel_rfl) (v := .bool true) (w' := w1) ?_ (hK.out _ _ rfl (Below.refl _ _) (no_block rfl))
              exact eqo_w _ _ _ (aggW_congr fun j _ => by simp only [andP, minusP]; cases a j <;> cases b j <;> rfl) _ _ rfl rfl _
            case o7 =>
              refine FlowOp2.plain rfl fun a1 w1 cx => ?_
              obtain ⟨v29, s29, p29⟩ := cx.slot 1 29 (by kernel_rfl)
              replace p29 : v29 = .bool true := p29
              subst p29
              obtain ⟨v34, s34, p34⟩ := cx.slot 6 34 (by kernel_rfl)
              replace p34 : v34 = .bool true := p34
              subst p34
              refine ⟨(wanted_none rfl), fun K hK => ?_⟩
              exact wp_picked _ _ _ rfl true (ev_tmp s29) (.bool true) (ev_tmp s34) (hK.out _ _ rfl (Below.refl _ _) (no_block rfl))
            case o8 =>
              refine FlowOp2.plain rfl fun a1 w1 cx => ?_
              obtain ⟨v35, s35, p35⟩ := cx.slot 7 35 (by kernel_rfl)
              replace p35 : v35 = .bool true := p35
              subst p35
              refine ⟨(wanted_none rfl), fun K hK => ?_⟩
              exact wp_moved _ rfl _ (ev_tmp s35) (hK.out _ _ rfl (Below.refl _ _) (no_block rfl))
            case o9 =>
              refine FlowOp2.plain rfl fun a1 w1 cx => ?_
              obtain ⟨v36, s36, p36⟩ := cx.slot 8 36 (by kernel_rfl)
              replace p36 : v36 = .bool true := p36
              subst p36
              have s8 := cx.keep 8 _ (by kernel_rfl) s8
              have k8 := below_at k8 cx.below
              refine ⟨(wanted_yes rfl rfl s36), fun K hK => ?_⟩
              exact wp_loaded _ _ rfl g8 (ev_tmp s8) _ _ _ _ k8 Try.underlying32 rfl (by kernel_rfl) (hK.out _ _ rfl (Below.refl _ _) (no_block rfl))
            case o10 =>
              refine FlowOp2.plain rfl fun a1 w1 cx => ?_
              obtain ⟨v36, s36, p36⟩ := cx.slot 8 36 (by kernel_rfl)
              replace p36 : v36 = .bool true := p36
              subst p36
              have s9 := cx.keep 9 _ (by kernel_rfl) s9
              have k9 := below_at k9 cx.below
              refine ⟨(wanted_yes rfl rfl s36), fun K hK => ?_⟩
              exact wp_loaded _ _ rfl g9 (ev_tmp s9) _ _ _ _ k9 Try.underlying32 rfl (by kernel_rfl) (hK.out _ _ rfl (Below.refl _ _) (no_block rfl))
            case o11 =>
              refine FlowOp2.plain rfl fun a1 w1 cx => ?_
              obtain ⟨v36, s36, p36⟩ := cx.slot 8 36 (by kernel_rfl)
              replace p36 : v36 = .bool true := p36
              subst p36
              obtain ⟨v37, s37, p37⟩ := cx.slot 9 37 (by kernel_rfl)
              replace p37 : v37 = .agg (aggW (andP a b)) := p37
              subst p37
              obtain ⟨v38, s38, p38⟩ := cx.slot 10 38 (by kernel_rfl)
              replace p38 : v38 = .agg (aggW (minusP a b)) := p38
              subst p38
              refine ⟨(wanted_yes rfl rfl s36), fun K hK => ?_⟩
              refine wp_gen [(37, .agg (aggW (andP a b))), (38, .agg (aggW (minusP a b)))] ⟨s37, s38, trivial⟩ (by kernel_rfl) (v := .slice (some ⟨w1.heap.size, 0, none⟩) 2 2) (w' := w1.alloc (.cells (agg2 (andP a b) (minusP a b)) 32)) (by kernel_rfl) ?_
              exact hK.out _ _ ⟨_, _, rfl, heap_alloc_last _ _⟩ ((Below.refl _ _).alloc (Nat.le_refl _) _) (fun b hb => by simp [blockOf] at hb; subst hb; exact ⟨by simp, .inl (Nat.le_refl _)⟩)
            case o12 =>
              refine FlowOp2.plain rfl fun a1 w1 cx => ?_
              obtain ⟨v36, s36, p36⟩ := cx.slot 8 36 (by kernel_rfl)
              replace p36 : v36 = .bool true := p36
              subst p36
              obtain ⟨v39, s39, p39⟩ := cx.slot 11 39 (by kernel_rfl)
              obtain ⟨g39, c39, rfl, k39⟩ : isSl (agg2 (andP a b) (minusP a b)) 32 2 v39 w1 := p39
              refine ⟨(wanted_yes rfl rfl s36), fun K hK => ?_⟩
              refine wp_gen_call [(39, .slice (some ⟨g39, 0, none⟩) 2 c39)] ⟨s39, trivial⟩ (vs := #[.slice (some ⟨g39, 0, none⟩) 2 c39]) (f := 21) (by kernel_rfl) (fun w => by kernel_rfl) ?_
              refine (union2_w (andP a b) (minusP a b) _ _ _ _ k39).mono ?_
              rintro e w2 ⟨rfl, hb⟩
              exact ⟨_, rfl, hK.out _ _ rfl hb (no_block rfl)⟩
            case o13 =>
              refine FlowOp2.plain rfl fun a1 w1 cx => ?_
              obtain ⟨v36, s36, p36⟩ := cx.slot 8 36 (by kernel_rfl)
              replace p36 : v36 = .bool true := p36
              subst p36
              have s5 := cx.keep 5 _ (by kernel_rfl) s5
              have k5 := below_at k5 cx.below
              refine ⟨(wanted_yes rfl rfl s36), fun K hK => ?_⟩
              exact wp_loaded _ _ rfl g5 (ev_tmp s5) _ _ _ _ k5 Try.underlying32 rfl (by kernel_rfl) (hK.out _ _ rfl (Below.refl _ _) (no_block rfl))
            case o14 =>
              refine FlowOp2.plain rfl fun a1 w1 cx => ?_
              obtain ⟨v36, s36, p36⟩ := cx.slot 8 36 (by kernel_rfl)
              replace p36 : v36 = .bool true := p36
              subst p36
              obtain ⟨v40, s40, p40⟩ := cx.slot 12 40 (by kernel_rfl)
              replace p40 : v40 = .agg (aggW (orP (andP a b) (minusP a b))) := p40
              subst p40
              obtain ⟨v41, s41, p41⟩ := cx.slot 13 41 (by kernel_rfl)
              replace p41 : v41 = .agg (aggW a) := p41
              subst p41
              refine ⟨(wanted_yes rfl rfl s36), fun K hK => ?_⟩
              refine wp_gen [(40, .agg (aggW (orP (andP a b) (minusP a b)))), (41, .agg (aggW a))] ⟨s40, s41, trivial⟩ (by kernel_rfl) (v := .bool true) (w' := w1) ?_ (hK.out _ _ rfl (Below.refl _ _) (no_block rfl))
              exact eqo_w _ _ _ (aggW_congr fun j _ => by simp only [andP, minusP, orP]; cases a j <;> cases b j <;> rfl) _ _ rfl rfl _
            case o15 =>
              refine FlowOp2.plain rfl fun a1 w1 cx => ?_
              obtain ⟨v36, s36, p36⟩ := cx.slot 8 36 (by kernel_rfl)
              replace p36 : v36 = .bool true := p36
              subst p36
              obtain ⟨v42, s42, p42⟩ := cx.slot 14 42 (by kernel_rfl)
              replace p42 : v42 = .bool true := p42
              subst p42
              refine ⟨(wanted_none rfl), fun K hK => ?_⟩
              exact wp_picked _ _ _ rfl true (ev_tmp s36) (.bool true) (ev_tmp s42) (hK.out _ _ rfl (Below.refl _ _) (no_block rfl))
            case o16 =>
              refine FlowOp2.plain rfl fun a1 w1 cx => ?_
              obtain ⟨v43, s43, p43⟩ := cx.slot 15 43 (by kernel_rfl)
              replace p43 : v43 = .bool true := p43
              subst p43
              refine ⟨(wanted_none rfl), fun K hK => ?_⟩
              exact wp_moved _ rfl _ (ev_tmp s43) (hK.out _ _ rfl (Below.refl _ _) (no_block rfl))
            case o17 =>
              refine FlowOp2.plain rfl fun a1 w1 cx => ?_
              obtain ⟨v44, s44, p44⟩ := cx.slot 16 44 (by kernel_rfl)
              replace p44 : v44 = .bool true := p44
              subst p44
              have s9 := cx.keep 9 _ (by kernel_rfl) s9
              have k9 := below_at k9 cx.below
              refine ⟨(wanted_yes rfl rfl s44), fun K hK => ?_⟩
              exact wp_loaded _ _ rfl g9 (ev_tmp s9) _ _ _ _ k9 Try.underlying32 rfl (by kernel_rfl) (hK.out _ _ rfl (Below.refl _ _) (no_block rfl))
            case o18 =>
              refine FlowOp2.plain rfl fun a1 w1 cx => ?_
              obtain ⟨v44, s44, p44⟩ := cx.slot 16 44 (by kernel_rfl)
              replace p44 : v44 = .bool true := p44
              subst p44
              have s8 := cx.keep 8 _ (by kernel_rfl) s8
              have k8 := below_at k8 cx.below
              refine ⟨(wanted_yes rfl rfl s44), fun K hK => ?_⟩
              exact wp_loaded _ _ rfl g8 (ev_tmp s8) _ _ _ _ k8 Try.underlying32 rfl (by kernel_rfl) (hK.out _ _ rfl (Below.refl _ _) (no_block rfl))
            case o19 =>
              refine FlowOp2.plain rfl fun a1 w1 cx => ?_
              obtain ⟨v44, s44, p44⟩ := cx.slot 16 44 (by kernel_rfl)
              replace p44 : v44 = .bool true := p44
              subst p44
              have s6 := cx.keep 6 _ (by kernel_rfl) s6
              have k6 := below_at k6 cx.below
              refine ⟨(wanted_yes rfl rfl s44), fun K hK => ?_⟩
              exact wp_loaded _ _ rfl g6 (ev_tmp s6) _ _ _ _ k6 Try.underlying32 rfl (by kernel_rfl) (hK.out _ _ rfl (Below.refl _ _) (no_block rfl))
            case o20 =>
              refine FlowOp2.plain rfl fun a1 w1 cx => ?_
              obtain ⟨v44, s44, p44⟩ := cx.slot 16 44 (by kernel_rfl)
              replace p44 : v44 = .bool true := p44
              subst p44
              obtain ⟨v45, s45, p45⟩ := cx.slot 17 45 (by kernel_rfl)
              replace p45 : v45 = .agg (aggW (minusP a b)) := p45
              subst p45
              obtain ⟨v46, s46, p46⟩ := cx.slot 18 46 (by kernel_rfl)
              replace p46 : v46 = .agg (aggW (andP a b)) := p46
              subst p46
              obtain ⟨v47, s47, p47⟩ := cx.slot 19 47 (by kernel_rfl)
              replace p47 : v47 = .agg (aggW b) := p47
              subst p47
              refine ⟨(wanted_yes rfl rfl s44), fun K hK => ?_⟩
              refine wp_gen [(45, .agg (aggW (minusP a b))), (46, .agg (aggW (andP a b))), (47, .agg (aggW b))] ⟨s45, s46, s47, trivial⟩ (by kernel_rfl) (v := .slice (some ⟨w1.heap.size, 0, none⟩) 3 3) (w' := w1.alloc (.cells (agg3 (minusP a b) (andP a b) b) 32)) (by kernel_rfl) ?_
              exact hK.out _ _ ⟨_, _, rfl, heap_alloc_last _ _⟩ ((Below.refl _ _).alloc (Nat.le_refl _) _) (fun b hb => by simp [blockOf] at hb; subst hb; exact ⟨by simp, .inl (Nat.le_refl _)⟩)
            case o21 =>
              refine FlowOp2.plain rfl fun a1 w1 cx => ?_
              obtain ⟨v44, s44, p44⟩ := cx.slot 16 44 (by kernel_rfl)
              replace p44 : v44 = .bool true := p44
              subst p44
              obtain ⟨v48, s48, p48⟩ := cx.slot 20 48 (by kernel_rfl)
              obtain ⟨g48, c48, rfl, k48⟩ : isSl (agg3 (minusP a b) (andP a b) b) 32 3 v48 w1 := p48
              refine ⟨(wanted_yes rfl rfl s44), fun K hK => ?_⟩
              refine wp_gen_call [(48, .slice (some ⟨g48, 0, none⟩) 3 c48)] ⟨s48, trivial⟩ (vs := #[.slice (some ⟨g48, 0, none⟩) 3 c48]) (f := 21) (by kernel_rfl) (fun w => by kernel_rfl) ?_
              refine (union3_w (minusP a b) (andP a b) b _ _ _ _ k48).mono ?_
              rintro e w2 ⟨rfl, hb⟩
              exact ⟨_, rfl, hK.out _ _ rfl hb (no_block rfl)⟩
            case o22 =>
              refine FlowOp2.plain rfl fun a1 w1 cx => ?_
              obtain ⟨v44, s44, p44⟩ := cx.slot 16 44 (by kernel_rfl)
              replace p44 : v44 = .bool true := p44
              subst p44
              have s5 := cx.keep 5 _ (by kernel_rfl) s5
              have k5 := below_at k5 cx.below
              refine ⟨(wanted_yes rfl rfl s44), fun K hK => ?_⟩
              exact wp_loaded _ _ rfl g5 (ev_tmp s5) _ _ _ _ k5 Try.underlying32 rfl (by kernel_rfl) (hK.out _ _ rfl (Below.refl _ _) (no_block rfl))
            case o23 =>
              refine FlowOp2.plain rfl fun a1 w1 cx => ?_
              obtain ⟨v44, s44, p44⟩ := cx.slot 16 44 (by kernel_rfl)
              replace p44 : v44 = .bool true := p44
              subst p44
              have s6 := cx.keep 6 _ (by kernel_rfl) s6
              have k6 := below_at k6 cx.below
              refine ⟨(wanted_yes rfl rfl s44), fun K hK => ?_⟩
              exact wp_loaded _ _ rfl g6 (ev_tmp s6) _ _ _ _ k6 Try.underlying32 rfl (by kernel_rfl) (hK.out _ _ rfl (Below.refl _ _) (no_block rfl))
            case o24 =>
              refine FlowOp2.plain rfl fun a1 w1 cx => ?_
              obtain ⟨v44, s44, p44⟩ := cx.slot 16 44 (by kernel_rfl)
              replace p44 : v44 = .bool true := p44
              subst p44
              obtain ⟨v50, s50, p50⟩ := cx.slot 22 50 (by kernel_rfl)
              replace p50 : v50 = .agg (aggW a) := p50
              subst p50
              obtain ⟨v51, s51, p51⟩ := cx.slot 23 51 (by kernel_rfl)
              replace p51 : v51 = .agg (aggW b) := p51
              subst p51
              refine ⟨(wanted_yes rfl rfl s44), fun K hK => ?_⟩
              refine wp_gen [(50, .agg (aggW a)), (51, .agg (aggW b))] ⟨s50, s51, trivial⟩ (by kernel_rfl) (v := .slice (some ⟨w1.heap.size, 0, none⟩) 2 2) (w' := w1.alloc (.cells (agg2 a b) 32)) (by kernel_rfl) ?_
              exact hK.out _ _ ⟨_, _, rfl, heap_alloc_last _ _⟩ ((Below.refl _ _).alloc (Nat.le_refl _) _) (fun b hb => by simp [blockOf] at hb; subst hb; exact ⟨by simp, .inl (Nat.le_refl _)⟩)
            case o25 =>
              refine FlowOp2.plain rfl fun a1 w1 cx => ?_
              obtain ⟨v44, s44, p44⟩ := cx.slot 16 44 (by kernel_rfl)
              replace p44 : v44 = .bool true := p44
              subst p44
              obtain ⟨v52, s52, p52⟩ := cx.slot 24 52 (by kernel_rfl)
              obtain ⟨g52, c52, rfl, k52⟩ : isSl (agg2 a b) 32 2 v52 w1 := p52
              refine ⟨(wanted_yes rfl rfl s44), fun K hK => ?_⟩
              refine wp_gen_call [(52, .slice (some ⟨g52, 0, none⟩) 2 c52)] ⟨s52, trivial⟩ (vs := #[.slice (some ⟨g52, 0, none⟩) 2 c52]) (f := 21) (by kernel_rfl) (fun w => by kernel_rfl) ?_
              refine (union2_w a b _ _ _ _ k52).mono ?_
              rintro e w2 ⟨rfl, hb⟩
              exact ⟨_, rfl, hK.out _ _ rfl hb (no_block rfl)⟩
            case o26 =>
              refine FlowOp2.plain rfl fun a1 w1 cx => ?_
              obtain ⟨v44, s44, p44⟩ := cx.slot 16 44 (by kernel_rfl)
              replace p44 : v44 = .bool true := p44
              subst p44
              obtain ⟨v49, s49, p49⟩ := cx.slot 21 49 (by kernel_rfl)
              replace p49 : v49 = .agg (aggW (orP (orP (minusP a b) (andP a b)) b)) := p49
              subst p49
              obtain ⟨v53, s53, p53⟩ := cx.slot 25 53 (by kernel_rfl)
              replace p53 : v53 = .agg (aggW (orP a b)) := p53
              subst p53
              refine ⟨(wanted_yes rfl rfl s44), fun K hK => ?_⟩
              refine wp_gen [(49, .agg (aggW (orP (orP (minusP a b) (andP a b)) b))), (53, .agg (aggW (orP a b)))] ⟨s49, s53, trivial⟩ (by kernel_rfl) (v := .bool true) (w' := w1) ?_ (hK.out _ _ rfl (Below.refl _ _) (no_block rfl))
              exact eqo_w _ _ _ (aggW_congr fun j _ => by simp only [andP, minusP, orP]; cases a j <;> cases b j <;> rfl) _ _ rfl rfl _
            case o27 =>
              refine FlowOp2.plain rfl fun a1 w1 cx => ?_
              obtain ⟨v44, s44, p44⟩ := cx.slot 16 44 (by kernel_rfl)
              replace p44 : v44 = .bool true := p44
              subst p44
              obtain ⟨v54, s54, p54⟩ := cx.slot 26 54 (by kernel_rfl)
              replace p54 : v54 = .bool true := p54
              subst p54
              refine ⟨(wanted_none rfl), fun K hK => ?_⟩
              exact wp_picked _ _ _ rfl true (ev_tmp s44) (.bool true) (ev_tmp s54) (hK.out _ _ rfl (Below.refl _ _) (no_block rfl))
            case o28 =>
              refine FlowOp2.plain rfl fun a1 w1 cx => ?_
              obtain ⟨v55, s55, p55⟩ := cx.slot 27 55 (by kernel_rfl)
              replace p55 : v55 = .bool true := p55
              subst p55
              refine ⟨(wanted_none rfl), fun K hK => ?_⟩
              exact wp_moved _ rfl _ (ev_tmp s55) (hK.out _ _ rfl (Below.refl _ _) (no_block rfl))
            case o29 =>
              refine FlowOp2.plain rfl fun a1 w1 cx => ?_
              obtain ⟨v56, s56, p56⟩ := cx.slot 28 56 (by kernel_rfl)
              replace p56 : v56 = .bool true := p56
              subst p56
              have s10 := cx.keep 10 _ (by kernel_rfl) s10
              have k10 := below_at k10 cx.below
              refine ⟨(wanted_yes rfl rfl s56), fun K hK => ?_⟩
              exact wp_loaded _ _ rfl g10 (ev_tmp s10) _ _ _ _ k10 Try.underlying32 rfl (by kernel_rfl) (hK.out _ _ rfl (Below.refl _ _) (no_block rfl))
            case o30 =>
              refine FlowOp2.plain rfl fun a1 w1 cx => ?_
              obtain ⟨v56, s56, p56⟩ := cx.slot 28 56 (by kernel_rfl)
              replace p56 : v56 = .bool true := p56
              subst p56
              have s1 := cx.keep 1 _ (by kernel_rfl) s1
              refine ⟨(wanted_yes rfl rfl s56), fun K hK => ?_⟩
              exact wp_moved _ rfl _ (ev_tmp s1) (hK.out _ _ rfl (Below.refl _ _) (no_block rfl))
            case o31 =>
              refine FlowOp2.plain rfl fun a1 w1 cx => ?_
              obtain ⟨v56, s56, p56⟩ := cx.slot 28 56 (by kernel_rfl)
              replace p56 : v56 = .bool true := p56
              subst p56
              obtain ⟨v57, s57, p57⟩ := cx.slot 29 57 (by kernel_rfl)
              replace p57 : v57 = .agg (aggW (orP (orP a b) c)) := p57
              subst p57
              obtain ⟨v58, s58, p58⟩ := cx.slot 30 58 (by kernel_rfl)
              replace p58 : v58 = .int .u8 x := p58
              subst p58
              refine ⟨(wanted_yes rfl rfl s56), fun K hK => ?_⟩
              refine wp_gen_call [(57, .agg (aggW (orP (orP a b) c))), (58, .int .u8 x)] ⟨s57, s58, trivial⟩ (vs := #[.agg (aggW (orP (orP a b) c)), .int .u8 x]) (f := 20) (by kernel_rfl) (fun w => by kernel_rfl) ?_
              refine (has_w (orP (orP a b) c) x _ hx).mono ?_
              rintro e w2 ⟨rfl, hb⟩
              exact ⟨_, rfl, hK.out _ _ (by simp [nthP, isV, orP, *]) hb (no_block rfl)⟩
            case o32 =>
              refine FlowOp2.plain rfl fun a1 w1 cx => ?_
              obtain ⟨v56, s56, p56⟩ := cx.slot 28 56 (by kernel_rfl)
              replace p56 : v56 = .bool true := p56
              subst p56
              have s5 := cx.keep 5 _ (by kernel_rfl) s5
              have k5 := below_at k5 cx.below
              refine ⟨(wanted_yes rfl rfl s56), fun K hK => ?_⟩
              exact wp_loaded _ _ rfl g5 (ev_tmp s5) _ _ _ _ k5 Try.underlying32 rfl (by kernel_rfl) (hK.out _ _ rfl (Below.refl _ _) (no_block rfl))
            case o33 =>
              refine FlowOp2.plain rfl fun a1 w1 cx => ?_
              obtain ⟨v56, s56, p56⟩ := cx.slot 28 56 (by kernel_rfl)
              replace p56 : v56 = .bool true := p56
              subst p56
              have s1 := cx.keep 1 _ (by kernel_rfl) s1
              refine ⟨(wanted_yes rfl rfl s56), fun K hK => ?_⟩
              exact wp_moved _ rfl _ (ev_tmp s1) (hK.out _ _ rfl (Below.refl _ _) (no_block rfl))
            case o34 =>
              refine FlowOp2.plain rfl fun a1 w1 cx => ?_
              obtain ⟨v56, s56, p56⟩ := cx.slot 28 56 (by kernel_rfl)
              replace p56 : v56 = .bool true := p56
              subst p56
              obtain ⟨v60, s60, p60⟩ := cx.slot 32 60 (by kernel_rfl)
              replace p60 : v60 = .agg (aggW a) := p60
              subst p60
              obtain ⟨v61, s61, p61⟩ := cx.slot 33 61 (by kernel_rfl)
              replace p61 : v61 = .int .u8 x := p61
              subst p61
              refine ⟨(wanted_yes rfl rfl s56), fun K hK => ?_⟩
              refine wp_gen_call [(60, .agg (aggW a)), (61, .int .u8 x)] ⟨s60, s61, trivial⟩ (vs := #[.agg (aggW a), .int .u8 x]) (f := 20) (by kernel_rfl) (fun w => by kernel_rfl) ?_
              refine (has_w a x _ hx).mono ?_
              rintro e w2 ⟨rfl, hb⟩
              exact ⟨_, rfl, hK.out _ _ (by simp [nthP, isV, *]) hb (no_block rfl)⟩
            case o35 =>
              refine FlowOp2.plain rfl fun a1 w1 cx => ?_
              obtain ⟨v56, s56, p56⟩ := cx.slot 28 56 (by kernel_rfl)
              replace p56 : v56 = .bool true := p56
              subst p56
              obtain ⟨v62, s62, p62⟩ := cx.slot 34 62 (by kernel_rfl)
              replace p62 : v62 = .bool false := p62
              subst p62
              refine ⟨(wanted_yes rfl rfl s56), fun K hK => ?_⟩
              exact wp_moved _ rfl _ (ev_tmp s62) (hK.out _ _ rfl (Below.refl _ _) (no_block rfl))
            case o36 =>
              refine FlowOp2.plain rfl fun a1 w1 cx => ?_
              obtain ⟨v63, s63, p63⟩ := cx.slot 35 63 (by kernel_rfl)
              replace p63 : v63 = .bool false := p63
              subst p63
              have s6 := cx.keep 6 _ (by kernel_rfl) s6
              have k6 := below_at k6 cx.below
              refine ⟨(wanted_yes rfl rfl s63), fun K hK => ?_⟩
              exact wp_loaded _ _ rfl g6 (ev_tmp s6) _ _ _ _ k6 Try.underlying32 rfl (by kernel_rfl) (hK.out _ _ rfl (Below.refl _ _) (no_block rfl))
            case o37 =>
              refine FlowOp2.plain rfl fun a1 w1 cx => ?_
              obtain ⟨v63, s63, p63⟩ := cx.slot 35 63 (by kernel_rfl)
              replace p63 : v63 = .bool false := p63
              subst p63
              have s1 := cx.keep 1 _ (by kernel_rfl) s1
              refine ⟨(wanted_yes rfl rfl s63), fun K hK => ?_⟩
              exact wp_moved _ rfl _ (ev_tmp s1) (hK.out _ _ rfl (Below.refl _ _) (no_block rfl))
            case o38 =>
              refine FlowOp2.plain rfl fun a1 w1 cx => ?_
              obtain ⟨v63, s63, p63⟩ := cx.slot 35 63 (by kernel_rfl)
              replace p63 : v63 = .bool false := p63
              subst p63
              obtain ⟨v64, s64, p64⟩ := cx.slot 36 64 (by kernel_rfl)
              replace p64 : v64 = .agg (aggW b) := p64
              subst p64
              obtain ⟨v65, s65, p65⟩ := cx.slot 37 65 (by kernel_rfl)
              replace p65 : v65 = .int .u8 x := p65
              subst p65
              refine ⟨(wanted_yes rfl rfl s63), fun K hK => ?_⟩
              refine wp_gen_call [(64, .agg (aggW b)), (65, .int .u8 x)] ⟨s64, s65, trivial⟩ (vs := #[.agg (aggW b), .int .u8 x]) (f := 20) (by kernel_rfl) (fun w => by kernel_rfl) ?_
              refine (has_w b x _ hx).mono ?_
              rintro e w2 ⟨rfl, hb⟩
              exact ⟨_, rfl, hK.out _ _ (by simp [nthP, isV, *]) hb (no_block rfl)⟩
            case o39 =>
              refine FlowOp2.plain rfl fun a1 w1 cx => ?_
              obtain ⟨v56, s56, p56⟩ := cx.slot 28 56 (by kernel_rfl)
              replace p56 : v56 = .bool true := p56
              subst p56
              obtain ⟨v63, s63, p63⟩ := cx.slot 35 63 (by kernel_rfl)
              replace p63 : v63 = .bool false := p63
              subst p63
              obtain ⟨v66, s66, p66⟩ := cx.slot 38 66 (by kernel_rfl)
              replace p66 : v66 = .bool false := p66
              subst p66
              refine ⟨(wanted_yes rfl rfl s56), fun K hK => ?_⟩
              exact wp_picked _ _ _ rfl false (ev_tmp s63) (.bool false) (ev_tmp s66) (hK.out _ _ rfl (Below.refl _ _) (no_block rfl))
            case o40 =>
              refine FlowOp2.plain rfl fun a1 w1 cx => ?_
              obtain ⟨v56, s56, p56⟩ := cx.slot 28 56 (by kernel_rfl)
              replace p56 : v56 = .bool true := p56
              subst p56
              obtain ⟨v67, s67, p67⟩ := cx.slot 39 67 (by kernel_rfl)
              replace p67 : v67 = .bool false := p67
              subst p67
              refine ⟨(wanted_yes rfl rfl s56), fun K hK => ?_⟩
              exact wp_moved _ rfl _ (ev_tmp s67) (hK.out _ _ rfl (Below.refl _ _) (no_block rfl))
            case o41 =>
              refine FlowOp2.plain rfl fun a1 w1 cx => ?_
              obtain ⟨v68, s68, p68⟩ := cx.slot 40 68 (by kernel_rfl)
              replace p68 : v68 = .bool false := p68
              subst p68
              have s7 := cx.keep 7 _ (by kernel_rfl) s7
              have k7 := below_at k7 cx.below
              refine ⟨(wanted_yes rfl rfl s68), fun K hK => ?_⟩
              exact wp_loaded _ _ rfl g7 (ev_tmp s7) _ _ _ _ k7 Try.underlying32 rfl (by kernel_rfl) (hK.out _ _ rfl (Below.refl _ _) (no_block rfl))
            case o42 =>
              refine FlowOp2.plain rfl fun a1 w1 cx => ?_
              obtain ⟨v68, s68, p68⟩ := cx.slot 40 68 (by kernel_rfl)
              replace p68 : v68 = .bool false := p68
              subst p68
              have s1 := cx.keep 1 _ (by kernel_rfl) s1
              refine ⟨(wanted_yes rfl rfl s68), fun K hK => ?_⟩
              exact wp_moved _ rfl _ (ev_tmp s1) (hK.out _ _ rfl (Below.refl _ _) (no_block rfl))
            case o43 =>
              refine FlowOp2.plain rfl fun a1 w1 cx => ?_
              obtain ⟨v68, s68, p68⟩ := cx.slot 40 68 (by kernel_rfl)
              replace p68 : v68 = .bool false := p68
              subst p68
              obtain ⟨v69, s69, p69⟩ := cx.slot 41 69 (by kernel_rfl)
              replace p69 : v69 = .agg (aggW c) := p69
              subst p69
              obtain ⟨v70, s70, p70⟩ := cx.slot 42 70 (by kernel_rfl)
              replace p70 : v70 = .int .u8 x := p70
              subst p70
              refine ⟨(wanted_yes rfl rfl s68), fun K hK => ?_⟩
              refine wp_gen_call [(69, .agg (aggW c)), (70, .int .u8 x)] ⟨s69, s70, trivial⟩ (vs := #[.agg (aggW c), .int .u8 x]) (f := 20) (by kernel_rfl) (fun w => by kernel_rfl) ?_
              refine (has_w c x _ hx).mono ?_
              rintro e w2 ⟨rfl, hb⟩
              exact ⟨_, rfl, hK.out _ _ (by simp [nthP, isV, *]) hb (no_block rfl)⟩
            case o44 =>
              refine FlowOp2.plain rfl fun a1 w1 cx => ?_
              obtain ⟨v56, s56, p56⟩ := cx.slot 28 56 (by kernel_rfl)
              replace p56 : v56 = .bool true := p56
              subst p56
              obtain ⟨v68, s68, p68⟩ := cx.slot 40 68 (by kernel_rfl)
              replace p68 : v68 = .bool false := p68
              subst p68
              obtain ⟨v71, s71, p71⟩ := cx.slot 43 71 (by kernel_rfl)
              replace p71 : v71 = .bool (c x) := p71
              subst p71
              refine ⟨(wanted_yes rfl rfl s56), fun K hK => ?_⟩
              exact wp_picked _ _ _ rfl false (ev_tmp s68) (.bool (c x)) (ev_tmp s71) (hK.out _ _ rfl (Below.refl _ _) (no_block rfl))
            case o45 =>
              refine FlowOp2.plain rfl fun a1 w1 cx => ?_
              obtain ⟨v56, s56, p56⟩ := cx.slot 28 56 (by kernel_rfl)
              replace p56 : v56 = .bool true := p56
              subst p56
              obtain ⟨v59, s59, p59⟩ := cx.slot 31 59 (by kernel_rfl)
              replace p59 : v59 = .bool (c x) := p59
              subst p59
              obtain ⟨v72, s72, p72⟩ := cx.slot 44 72 (by kernel_rfl)
              replace p72 : v72 = .bool (c x) := p72
              subst p72
              refine ⟨(wanted_yes rfl rfl s56), fun K hK => ?_⟩
              refine wp_gen [(59, .bool (c x)), (72, .bool (c x))] ⟨s59, s72, trivial⟩ (by kernel_rfl) (v := .bool true) (w' := w1) ?_ (hK.out _ _ rfl (Below.refl _ _) (no_block rfl))
              cases c x <;> kernel_rfl
            case o46 =>
              refine FlowOp2.plain rfl fun a1 w1 cx => ?_
              obtain ⟨v56, s56, p56⟩ := cx.slot 28 56 (by kernel_rfl)
              replace p56 : v56 = .bool true := p56
              subst p56
              obtain ⟨v73, s73, p73⟩ := cx.slot 45 73 (by kernel_rfl)
              replace p73 : v73 = .bool true := p73
              subst p73
              refine ⟨(wanted_none rfl), fun K hK => ?_⟩
              exact wp_picked _ _ _ rfl true (ev_tmp s56) (.bool true) (ev_tmp s73) (hK.out _ _ rfl (Below.refl _ _) (no_block rfl))
            case o47 =>
              refine FlowOp2.plain rfl fun a1 w1 cx => ?_
              obtain ⟨v74, s74, p74⟩ := cx.slot 46 74 (by kernel_rfl)
              replace p74 : v74 = .bool true := p74
              subst p74
              refine ⟨(wanted_none rfl), fun K hK => ?_⟩
              exact wp_moved _ rfl _ (ev_tmp s74) (hK.out _ _ rfl (Below.refl _ _) (no_block rfl))
            case o48 =>
              refine FlowOp2.plain rfl fun a1 w1 cx => ?_
              obtain ⟨v75, s75, p75⟩ := cx.slot 47 75 (by kernel_rfl)
              replace p75 : v75 = .bool true := p75
              subst p75
              have s5 := cx.keep 5 _ (by kernel_rfl) s5
              have k5 := below_at k5 cx.below
              refine ⟨(wanted_yes rfl rfl s75), fun K hK => ?_⟩
              exact wp_loaded _ _ rfl g5 (ev_tmp s5) _ _ _ _ k5 Try.underlying32 rfl (by kernel_rfl) (hK.out _ _ rfl (Below.refl _ _) (no_block rfl))
            case o49 =>
              refine FlowOp2.plain rfl fun a1 w1 cx => ?_
              obtain ⟨v75, s75, p75⟩ := cx.slot 47 75 (by kernel_rfl)
              replace p75 : v75 = .bool true := p75
              subst p75
              obtain ⟨v76, s76, p76⟩ := cx.slot 48 76 (by kernel_rfl)
              replace p76 : v76 = .agg (aggW a) := p76
              subst p76
              refine ⟨(wanted_yes rfl rfl s75), fun K hK => ?_⟩
              refine wp_gen_call [(76, .agg (aggW a))] ⟨s76, trivial⟩ (vs := #[.agg (aggW a)]) (f := 24) (by kernel_rfl) (fun w => by kernel_rfl) ?_
              refine (mem_w a _).mono ?_
              rintro e w2 ⟨rfl, hb⟩
              exact ⟨_, rfl, hK.out _ _ rfl hb (no_block rfl)⟩
            case o50 =>
              refine FlowOp2.plain rfl fun a1 w1 cx => ?_
              obtain ⟨v75, s75, p75⟩ := cx.slot 47 75 (by kernel_rfl)
              replace p75 : v75 = .bool true := p75
              subst p75
              have s5 := cx.keep 5 _ (by kernel_rfl) s5
              have k5 := below_at k5 cx.below
              refine ⟨(wanted_yes rfl rfl s75), fun K hK => ?_⟩
              exact wp_loaded _ _ rfl g5 (ev_tmp s5) _ _ _ _ k5 Try.underlying32 rfl (by kernel_rfl) (hK.out _ _ rfl (Below.refl _ _) (no_block rfl))
            case o51 =>
              refine FlowOp2.plain rfl fun a1 w1 cx => ?_
              obtain ⟨v75, s75, p75⟩ := cx.slot 47 75 (by kernel_rfl)
              replace p75 : v75 = .bool true := p75
              subst p75
              obtain ⟨v77, s77, p77⟩ := cx.slot 49 77 (by kernel_rfl)
              replace p77 : v77 = .string (memS a) := p77
              subst p77
              obtain ⟨v78, s78, p78⟩ := cx.slot 50 78 (by kernel_rfl)
              replace p78 : v78 = .agg (aggW a) := p78
              subst p78
              refine ⟨(wanted_yes rfl rfl s75), fun K hK => ?_⟩
              refine wp_gen_call [(77, .string (memS a)), (78, .agg (aggW a))] ⟨s77, s78, trivial⟩ (vs := #[.string (memS a), .agg (aggW a)]) (f := 25) (by kernel_rfl) (fun w => by kernel_rfl) ?_
              refine (all_w a _).mono ?_
              rintro e w2 ⟨rfl, hb⟩
              exact ⟨_, rfl, hK.out _ _ rfl hb (no_block rfl)⟩
            case o52 =>
              refine FlowOp2.plain rfl fun a1 w1 cx => ?_
              obtain ⟨v75, s75, p75⟩ := cx.slot 47 75 (by kernel_rfl)
              replace p75 : v75 = .bool true := p75
              subst p75
              obtain ⟨v79, s79, p79⟩ := cx.slot 51 79 (by kernel_rfl)
              replace p79 : v79 = .bool true := p79
              subst p79
              refine ⟨(wanted_none rfl), fun K hK => ?_⟩
              exact wp_picked _ _ _ rfl true (ev_tmp s75) (.bool true) (ev_tmp s79) (hK.out _ _ rfl (Below.refl _ _) (no_block rfl))
            case o53 =>
              refine FlowOp2.plain rfl fun a1 w1 cx => ?_
              obtain ⟨v80, s80, p80⟩ := cx.slot 52 80 (by kernel_rfl)
              replace p80 : v80 = .bool true := p80
              subst p80
              refine ⟨(wanted_none rfl), fun K hK => ?_⟩
              exact wp_assigned _ rfl _ (ev_tmp s80) (hK.out _ _ rfl (Below.refl _ _) (no_block rfl))
            case hdone =>
              intro a1 w1 hb1 hz1 hd1 hk1 hg1
              obtain ⟨v4, s4, p4⟩ := got_slot hg1 53 4 (by kernel_rfl)
              replace p4 : v4 = .bool true := p4
              subst p4
              replace hbw := hbw.trans (hb1.mono hbw.size)
              replace hd := hd1.trans hd
              replace hz := hz1
              clear hg1 hk1 hb1 hz1 hd1
              replace HC := HC.out a1 w1
              refine HC ?_
              clear HC
              refine wp_ret ?_
              refine bodyPost_ret (v := .bool true) (by simp [results, Try.results5, s4]) hd ⟨rfl, hbw⟩
          · refine wp_region_flow (nthP [isV (.bool true), isV (.bool true), isV (.agg (aggW (andP a b))), isV (.agg (aggW (minusP a b))), isV (.agg (aggW (andP (andP a b) (minusP a b)))), isV (.agg (aggW (fun _ => false))), isV (.bool true), isV (.bool true), isV (.bool true), isV (.agg (aggW (andP a b))), isV (.agg (aggW (minusP a b))), isSl (agg2 (andP a b) (minusP a b)) 32 2, isV (.agg (aggW (orP (andP a b) (minusP a b)))), isV (.agg (aggW a)), isV (.bool true), isV (.bool true), isV (.bool true), isV (.agg (aggW (minusP a b))), isV (.agg (aggW (andP a b))), isV (.agg (aggW b)), isSl (agg3 (minusP a b) (andP a b) b) 32 3, isV (.agg (aggW (orP (orP (minusP a b) (andP a b)) b))), isV (.agg (aggW a)), isV (.agg (aggW b)), isSl (agg2 a b) 32 2, isV (.agg (aggW (orP a b))), isV (.bool true), isV (.bool true), isV (.bool true), isV (.agg (aggW (orP (orP a b) c))), isV (.int .u8 x), isV (.bool true), isV (.agg (aggW a)), isV (.int .u8 x), isV (.bool false), isV (.bool false), isV (.agg (aggW b)), isV (.int .u8 x), isV (.bool true), isV (.bool true), isV (.bool true), isV (undef), isV (undef), isV (undef), isV (.bool true), isV (.bool true), isV (.bool true), isV (.bool true), isV (.agg (aggW a)), isV (.string (memS a)), isV (.agg (aggW a)), isV (.bool true), isV (.bool true), isV (.bool true)]) 81 (by assumption) (by kernel_rfl) (by kernel_rfl) (by kernel_rfl) (nthP_stays ⟨Stays.isV, Stays.isV, Stays.isV, Stays.isV, Stays.isV, Stays.isV, Stays.isV, Stays.isV, Stays.isV, Stays.isV, Stays.isV, Stays.isSl, Stays.isV, Stays.isV, Stays.isV, Stays.isV, Stays.isV, Stays.isV, Stays.isV, Stays.isV, Stays.isSl, Stays.isV, Stays.isV, Stays.isV, Stays.isSl, Stays.isV, Stays.isV, Stays.isV, Stays.isV, Stays.isV, Stays.isV, Stays.isV, Stays.isV, Stays.isV, Stays.isV, Stays.isV, Stays.isV, Stays.isV, Stays.isV, Stays.isV, Stays.isV, Stays.isV, Stays.isV, Stays.isV, Stays.isV, Stays.isV, Stays.isV, Stays.isV, Stays.isV, Stays.isV, Stays.isV, Stays.isV, Stays.isV, Stays.isV, trivial⟩) (noStore (by kernel_rfl)) ⟨?o0, ?o1, ?o2, ?o3, ?o4, ?o5, ?o6, ?o7, ?o8, ?o9, ?o10, ?o11, ?o12, ?o13, ?o14, ?o15, ?o16, ?o17, ?o18, ?o19, ?o20, ?o21, ?o22, ?o23, ?o24, ?o25, ?o26, ?o27, ?o28, ?o29, ?o30, ?o31, ?o32, ?o33, ?o34, ?o35, ?o36, ?o37, ?o38, ?o39, ?o40, ?o41, ?o42, ?o43, ?o44, ?o45, ?o46, ?o47, ?o48, ?o49, ?o50, ?o51, ?o52, ?o53, trivial⟩ ?hdone
            case o0 =>
              refine FlowOp2.plain rfl fun a1 w1 cx => ?_
              refine ⟨(wanted_none rfl), fun K hK => ?_⟩
              refine wp_gen_call [] trivial (vs := #[]) (f := 9) (by kernel_rfl) (fun w => by kernel_rfl) ?_
              refine (awake_w _).mono ?_
              rintro e w2 ⟨rfl, hb⟩
              exact ⟨_, rfl, hK.out _ _ rfl hb (no_block rfl)⟩
            case o1 =>
              refine FlowOp2.plain rfl fun a1 w1 cx => ?_
              obtain ⟨v28, s28, p28⟩ := cx.slot 0 28 (by kernel_rfl)
              replace p28 : v28 = .bool true := p28
              subst p28
              refine ⟨(wanted_none rfl), fun K hK => ?_⟩
              exact wp_moved _ rfl _ (ev_tmp s28) (hK.out _ _ rfl (Below.refl _ _) (no_block rfl))
            case o2 =>
              refine FlowOp2.plain rfl fun a1 w1 cx => ?_
              obtain ⟨v29, s29, p29⟩ := cx.slot 1 29 (by kernel_rfl)
              replace p29 : v29 = .bool true := p29
              subst p29
              have s8 := cx.keep 8 _ (by kernel_rfl) s8
              have k8 := below_at k8 cx.below
              refine ⟨(wanted_yes rfl rfl s29), fun K hK => ?_⟩
              exact wp_loaded _ _ rfl g8 (ev_tmp s8) _ _ _ _ k8 Try.underlying32 rfl (by kernel_rfl) (hK.out _ _ rfl (Below.refl _ _) (no_block rfl))
            case o3 =>
              refine FlowOp2.plain rfl fun a1 w1 cx => ?_
              obtain ⟨v29, s29, p29⟩ := cx.slot 1 29 (by kernel_rfl)
              replace p29 : v29 = .bool true := p29
              subst p29
              have s9 := cx.keep 9 _ (by kernel_rfl) s9
              have k9 := below_at k9 cx.below
              refine ⟨(wanted_yes rfl rfl s29), fun K hK => ?_⟩
              exact wp_loaded _ _ rfl g9 (ev_tmp s9) _ _ _ _ k9 Try.underlying32 rfl (by kernel_rfl) (hK.out _ _ rfl (Below.refl _ _) (no_block rfl))
            case o4 =>
              refine FlowOp2.plain rfl fun a1 w1 cx => ?_
              obtain ⟨v29, s29, p29⟩ := cx.slot 1 29 (by kernel_rfl)
              replace p29 : v29 = .bool true := p29
              subst p29
              obtain ⟨v30, s30, p30⟩ := cx.slot 2 30 (by kernel_rfl)
              replace p30 : v30 = .agg (aggW (andP a b)) := p30
              subst p30
              obtain ⟨v31, s31, p31⟩ := cx.slot 3 31 (by kernel_rfl)
              replace p31 : v31 = .agg (aggW (minusP a b)) := p31
              subst p31
              refine ⟨(wanted_yes rfl rfl s29), fun K hK => ?_⟩
              refine wp_gen_call [(30, .agg (aggW (andP a b))), (31, .agg (aggW (minusP a b)))] ⟨s30, s31, trivial⟩ (vs := #[.agg (aggW (andP a b)), .agg (aggW (minusP a b))]) (f := 22) (by kernel_rfl) (fun w => by kernel_rfl) ?_
              refine (cross_w (andP a b) (minusP a b) _).mono ?_
              rintro e w2 ⟨rfl, hb⟩
              exact ⟨_, rfl, hK.out _ _ rfl hb (no_block rfl)⟩
            case o5 =>
              refine FlowOp2.plain rfl fun a1 w1 cx => ?_
              obtain ⟨v29, s29, p29⟩ := cx.slot 1 29 (by kernel_rfl)
              replace p29 : v29 = .bool true := p29
              subst p29
              refine ⟨(wanted_yes rfl rfl s29), fun K hK => ?_⟩
              refine wp_gen [] trivial (by kernel_rfl) (v := .agg (aggW (fun _ => false))) (w' := w1) (by rw [agg0]; kernel_rfl) ?_
              exact hK.out _ _ rfl (Below.refl _ _) (no_block rfl)
            case o6 =>
              refine FlowOp2.plain rfl fun a1 w1 cx => ?_
              obtain ⟨v29, s29, p29⟩ := cx.slot 1 29 (by kernel_rfl)
              replace p29 : v29 = .bool true := p29
              subst p29
              obtain ⟨v32, s32, p32⟩ := cx.slot 4 32 (by kernel_rfl)
              replace p32 : v32 = .agg (aggW (andP (andP a b) (minusP a b))) := p32
              subst p32
              obtain ⟨v33, s33, p33⟩ := cx.slot 5 33 (by kernel_rfl)
              replace p33 : v33 = .agg (aggW (fun _ => false)) := p33
              subst p33
              refine ⟨(wanted_yes rfl rfl s29), fun K hK => ?_⟩
              refine wp_gen [(32, .agg (aggW (andP (andP a b) (minusP a b)))), (33, .agg (aggW (fun _ => false)))] ⟨s32, s33, trivial⟩ (by kernel_rfl) (v := .bool true) (w' := w1) ?_ (hK.out _ _ rfl (Below.refl _ _) (no_block rfl))
              exact eqo_w _ _ _ (aggW_congr fun j _ => by simp only [andP, minusP]; cases a j <;> cases b j <;> rfl) _ _ rfl rfl _
            case o7 =>
              refine FlowOp2.plain rfl fun a1 w1 cx => ?_
              obtain ⟨v29, s29, p29⟩ := cx.slot 1 29 (by kernel_rfl)
              replace p29 : v29 = .bool true := p29
              subst p29
              obtain ⟨v34, s34, p34⟩ := cx.slot 6 34 (by kernel_rfl)
              replace p34 : v34 = .bool true := p34
              subst p34
              refine ⟨(wanted_none rfl), fun K hK => ?_⟩
              exact wp_picked _ _ _ rfl true (ev_tmp s29) (.bool true) (ev_tmp s34) (hK.out _ _ rfl (Below.refl _ _) (no_block rfl))
            case o8 =>
              refine FlowOp2.plain rfl fun a1 w1 cx => ?_
              obtain ⟨v35, s35, p35⟩ := cx.slot 7 35 (by kernel_rfl)
              replace p35 : v35 = .bool true := p35
              subst p35
              refine ⟨(wanted_none rfl), fun K hK => ?_⟩
              exact wp_moved _ rfl _ (ev_tmp s35) (hK.out _ _ rfl (Below.refl _ _) (no_block rfl))
            case o9 =>
              refine FlowOp2.plain rfl fun a1 w1 cx => ?_
              obtain ⟨v36, s36, p36⟩ := cx.slot 8 36 (by kernel_rfl)
              replace p36 : v36 = .bool true := p36
              subst p36
              have s8 := cx.keep 8 _ (by kernel_rfl) s8
              have k8 := below_at k8 cx.below
              refine ⟨(wanted_yes rfl rfl s36), fun K hK => ?_⟩
              exact wp_loaded _ _ rfl g8 (ev_tmp s8) _ _ _ _ k8 Try.underlying32 rfl (by kernel_rfl) (hK.out _ _ rfl (Below.refl _ _) (no_block rfl))
            case o10 =>
              refine FlowOp2.plain rfl fun a1 w1 cx => ?_
              obtain ⟨v36, s36, p36⟩ := cx.slot 8 36 (by kernel_rfl)
              replace p36 : v36 = .bool true := p36
              subst p36
              have s9 := cx.keep 9 _ (by kernel_rfl) s9
              have k9 := below_at k9 cx.below
              refine ⟨(wanted_yes rfl rfl s36), fun K hK => ?_⟩
              exact wp_loaded _ _ rfl g9 (ev_tmp s9) _ _ _ _ k9 Try.underlying32 rfl (by kernel_rfl) (hK.out _ _ rfl (Below.refl _ _) (no_block rfl))
            case o11 =>
              refine FlowOp2.plain rfl fun a1 w1 cx => ?_
              obtain ⟨v36, s36, p36⟩ := cx.slot 8 36 (by kernel_rfl)
              replace p36 : v36 = .bool true := p36
              subst p36
              obtain ⟨v37, s37, p37⟩ := cx.slot 9 37 (by kernel_rfl)
              replace p37 : v37 = .agg (aggW (andP a b)) := p37
              subst p37
              obtain ⟨v38, s38, p38⟩ := cx.slot 10 38 (by kernel_rfl)
              replace p38 : v38 = .agg (aggW (minusP a b)) := p38
              subst p38
              refine ⟨(wanted_yes rfl rfl s36), fun K hK => ?_⟩
              refine wp_gen [(37, .agg (aggW (andP a b))), (38, .agg (aggW (minusP a b)))] ⟨s37, s38, trivial⟩ (by kernel_rfl) (v := .slice (some ⟨w1.heap.size, 0, none⟩) 2 2) (w' := w1.alloc (.cells (agg2 (andP a b) (minusP a b)) 32)) (by kernel_rfl) ?_
              exact hK.out _ _ ⟨_, _, rfl, heap_alloc_last _ _⟩ ((Below.refl _ _).alloc (Nat.le_refl _) _) (fun b hb => by simp [blockOf] at hb; subst hb; exact ⟨by simp, .inl (Nat.le_refl _)⟩)
            case o12 =>
              refine FlowOp2.plain rfl fun a1 w1 cx => ?_
              obtain ⟨v36, s36, p36⟩ := cx.slot 8 36 (by kernel_rfl)
              replace p36 : v36 = .bool true := p36
              subst p36
              obtain ⟨v39, s39, p39⟩ := cx.slot 11 39 (by kernel_rfl)
              obtain ⟨g39, c39, rfl, k39⟩ : isSl (agg2 (andP a b) (minusP a b)) 32 2 v39 w1 := p39
              refine ⟨(wanted_yes rfl rfl s36), fun K hK => ?_⟩
              refine wp_gen_call [(39, .slice (some ⟨g39, 0, none⟩) 2 c39)] ⟨s39, trivial⟩ (vs := #[.slice (some ⟨g39, 0, none⟩) 2 c39]) (f := 21) (by kernel_rfl) (fun w => by kernel_rfl) ?_
              refine (union2_w (andP a b) (minusP a b) _ _ _ _ k39).mono ?_
              rintro e w2 ⟨rfl, hb⟩
              exact ⟨_, rfl, hK.out _ _ rfl hb (no_block rfl)⟩
            case o13 =>
              refine FlowOp2.plain rfl fun a1 w1 cx => ?_
              obtain ⟨v36, s36, p36⟩ := cx.slot 8 36 (by kernel_rfl)
              replace p36 : v36 = .bool true := p36
              subst p36
              have s5 := cx.keep 5 _ (by kernel_rfl) s5
              have k5 := below_at k5 cx.below
              refine ⟨(wanted_yes rfl rfl s36), fun K hK => ?_⟩
              exact wp_loaded _ _ rfl g5 (ev_tmp s5) _ _ _ _ k5 Try.underlying32 rfl (by kernel_rfl) (hK.out _ _ rfl (Below.refl _ _) (no_block rfl))
            case o14 =>
              refine FlowOp2.plain rfl fun a1 w1 cx => ?_
              obtain ⟨v36, s36, p36⟩ := cx.slot 8 36 (by kernel_rfl)
              replace p36 : v36 = .bool true := p36
              subst p36
              obtain ⟨v40, s40, p40⟩ := cx.slot 12 40 (by kernel_rfl)
              replace p40 : v40 = .agg (aggW (orP (andP a b) (minusP a b))) := p40
              subst p40
              obtain ⟨v41, s41, p41⟩ := cx.slot 13 41 (by kernel_rfl)
              replace p41 : v41 = .agg (aggW a) := p41
              subst p41
              refine ⟨(wanted_yes rfl rfl s36), fun K hK => ?_⟩
              refine wp_gen [(40, .agg (aggW (orP (andP a b) (minusP a b)))), (41, .agg (aggW a))] ⟨s40, s41, trivial⟩ (by kernel_rfl) (v := .bool true) (w' := w1) ?_ (hK.out _ _ rfl (Below.refl _ _) (no_block rfl))
              exact eqo_w _ _ _ (aggW_congr fun j _ => by simp only [andP, minusP, orP]; cases a j <;> cases b j <;> rfl) _ _ rfl rfl _
            case o15 =>
              refine FlowOp2.plain rfl fun a1 w1 cx => ?_
              obtain ⟨v36, s36, p36⟩ := cx.slot 8 36 (by kernel_rfl)
              replace p36 : v36 = .bool true := p36
              subst p36
              obtain ⟨v42, s42, p42⟩ := cx.slot 14 42 (by kernel_rfl)
              replace p42 : v42 = .bool true := p42
              subst p42
              refine ⟨(wanted_none rfl), fun K hK => ?_⟩
              exact wp_picked _ _ _ rfl true (ev_tmp s36) (.bool true) (ev_tmp s42) (hK.out _ _ rfl (Below.refl _ _) (no_block rfl))
            case o16 =>
              refine FlowOp2.plain rfl fun a1 w1 cx => ?_
              obtain ⟨v43, s43, p43⟩ := cx.slot 15 43 (by kernel_rfl)
              replace p43 : v43 = .bool true := p43
              subst p43
              refine ⟨(wanted_none rfl), fun K hK => ?_⟩
              exact wp_moved _ rfl _ (ev_tmp s43) (hK.out _ _ rfl (Below.refl _ _) (no_block rfl))
            case o17 =>
              refine FlowOp2.plain rfl fun a1 w1 cx => ?_
              obtain ⟨v44, s44, p44⟩ := cx.slot 16 44 (by kernel_rfl)
              replace p44 : v44 = .bool true := p44
              subst p44
              have s9 := cx.keep 9 _ (by kernel_rfl) s9
              have k9 := below_at k9 cx.below
              refine ⟨(wanted_yes rfl rfl s44), fun K hK => ?_⟩
              exact wp_loaded _ _ rfl g9 (ev_tmp s9) _ _ _ _ k9 Try.underlying32 rfl (by kernel_rfl) (hK.out _ _ rfl (Below.refl _ _) (no_block rfl))
            case o18 =>
              refine FlowOp2.plain rfl fun a1 w1 cx => ?_
              obtain ⟨v44, s44, p44⟩ := cx.slot 16 44 (by kernel_rfl)
              replace p44 : v44 = .bool true := p44
              subst p44
              have s8 := cx.keep 8 _ (by kernel_rfl) s8
              have k8 := below_at k8 cx.below
              refine ⟨(wanted_yes rfl rfl s44), fun K hK => ?_⟩
              exact wp_loaded _ _ rfl g8 (ev_tmp s8) _ _ _ _ k8 Try.underlying32 rfl (by kernel_rfl) (hK.out _ _ rfl (Below.refl _ _) (no_block rfl))
            case o19 =>
              refine FlowOp2.plain rfl fun a1 w1 cx => ?_
              obtain ⟨v44, s44, p44⟩ := cx.slot 16 44 (by kernel_rfl)
              replace p44 : v44 = .bool true := p44
              subst p44
              have s6 := cx.keep 6 _ (by kernel_rfl) s6
              have k6 := below_at k6 cx.below
              refine ⟨(wanted_yes rfl rfl s44), fun K hK => ?_⟩
              exact wp_loaded _ _ rfl g6 (ev_tmp s6) _ _ _ _ k6 Try.underlying32 rfl (by kernel_rfl) (hK.out _ _ rfl (Below.refl _ _) (no_block rfl))
            case o20 =>
              refine FlowOp2.plain rfl fun a1 w1 cx => ?_
              obtain ⟨v44, s44, p44⟩ := cx.slot 16 44 (by kernel_rfl)
              replace p44 : v44 = .bool true := p44
              subst p44
              obtain ⟨v45, s45, p45⟩ := cx.slot 17 45 (by kernel_rfl)
              replace p45 : v45 = .agg (aggW (minusP a b)) := p45
              subst p45
              obtain ⟨v46, s46, p46⟩ := cx.slot 18 46 (by kernel_rfl)
              replace p46 : v46 = .agg (aggW (andP a b)) := p46
              subst p46
              obtain ⟨v47, s47, p47⟩ := cx.slot 19 47 (by kernel_rfl)
              replace p47 : v47 = .agg (aggW b) := p47
              subst p47
              refine ⟨(wanted_yes rfl rfl s44), fun K hK => ?_⟩
              refine wp_gen [(45, .agg (aggW (minusP a b))), (46, .agg (aggW (andP a b))), (47, .agg (aggW b))] ⟨s45, s46, s47, trivial⟩ (by kernel_rfl) (v := .slice (some ⟨w1.heap.size, 0, none⟩) 3 3) (w' := w1.alloc (.cells (agg3 (minusP a b) (andP a b) b) 32)) (by kernel_rfl) ?_
              exact hK.out _ _ ⟨_, _, rfl, heap_alloc_last _ _⟩ ((Below.refl _ _).alloc (Nat.le_refl _) _) (fun b hb => by simp [blockOf] at hb; subst hb; exact ⟨by simp, .inl (Nat.le_refl _)⟩)
            case o21 =>
              refine FlowOp2.plain rfl fun a1 w1 cx => ?_
              obtain ⟨v44, s44, p44⟩ := cx.slot 16 44 (by kernel_rfl)
              replace p44 : v44 = .bool true := p44
              subst p44
              obtain ⟨v48, s48, p48⟩ := cx.slot 20 48 (by kernel_rfl)
              obtain ⟨g48, c48, rfl, k48⟩ : isSl (agg3 (minusP a b) (andP a b) b) 32 3 v48 w1 := p48
              refine ⟨(wanted_yes rfl rfl s44), fun K hK => ?_⟩
              refine wp_gen_call [(48, .slice (some ⟨g48, 0, none⟩) 3 c48)] ⟨s48, trivial⟩ (vs := #[.slice (some ⟨g48, 0, none⟩) 3 c48]) (f := 21) (by kernel_rfl) (fun w => by kernel_rfl) ?_
              refine (union3_w (minusP a b) (andP a b) b _ _ _ _ k48).mono ?_
              rintro e w2 ⟨rfl, hb⟩
              exact ⟨_, rfl, hK.out _ _ rfl hb (no_block rfl)⟩
            case o22 =>
              refine FlowOp2.plain rfl fun a1 w1 cx => ?_
              obtain ⟨v44, s44, p44⟩ := cx.slot 16 44 (by kernel_rfl)
              replace p44 : v44 = .bool true := p44
              subst p44
              have s5 := cx.keep 5 _ (by kernel_rfl) s5
              have k5 := below_at k5 cx.below
              refine ⟨(wanted_yes rfl rfl s44), fun K hK => ?_⟩
              exact wp_loaded _ _ rfl g5 (ev_tmp s5) _ _ _ _ k5 Try.underlying32 rfl (by kernel_rfl) (hK.out _ _ rfl (Below.refl _ _) (no_block rfl))
            case o23 =>
              refine FlowOp2.plain rfl fun a1 w1 cx => ?_
              obtain ⟨v44, s44, p44⟩ := cx.slot 16 44 (by kernel_rfl)
              replace p44 : v44 = .bool true := p44
              subst p44
              have s6 := cx.keep 6 _ (by kernel_rfl) s6
              have k6 := below_at k6 cx.below
              refine ⟨(wanted_yes rfl rfl s44), fun K hK => ?_⟩
              exact wp_loaded _ _ rfl g6 (ev_tmp s6) _ _ _ _ k6 Try.underlying32 rfl (by kernel_rfl) (hK.out _ _ rfl (Below.refl _ _) (no_block rfl))
            case o24 =>
              refine FlowOp2.plain rfl fun a1 w1 cx => ?_
              obtain ⟨v44, s44, p44⟩ := cx.slot 16 44 (by kernel_rfl)
              replace p44 : v44 = .bool true := p44
              subst p44
              obtain ⟨v50, s50, p50⟩ := cx.slot 22 50 (by kernel_rfl)
              replace p50 : v50 = .agg (aggW a) := p50
              subst p50
              obtain ⟨v51, s51, p51⟩ := cx.slot 23 51 (by kernel_rfl)
              replace p51 : v51 = .agg (aggW b) := p51
              subst p51
              refine ⟨(wanted_yes rfl rfl s44), fun K hK => ?_⟩
              refine wp_gen [(50, .agg (aggW a)), (51, .agg (aggW b))] ⟨s50, s51, trivial⟩ (by kernel_rfl) (v := .slice (some ⟨w1.heap.size, 0, none⟩) 2 2) (w' := w1.alloc (.cells (agg2 a b) 32)) (by kernel_rfl) ?_
              exact hK.out _ _ ⟨_, _, rfl, heap_alloc_last _ _⟩ ((Below.refl _ _).alloc (Nat.le_refl _) _) (fun b hb => by simp [blockOf] at hb; subst hb; exact ⟨by simp, .inl (Nat.le_refl _)⟩)
            case o25 =>
              refine FlowOp2.plain rfl fun a1 w1 cx => ?_
              obtain ⟨v44, s44, p44⟩ := cx.slot 16 44 (by kernel_rfl)
              replace p44 : v44 = .bool true := p44
              subst p44
              obtain ⟨v52, s52, p52⟩ := cx.slot 24 52 (by kernel_rfl)
              obtain ⟨g52, c52, rfl, k52⟩ : isSl (agg2 a b) 32 2 v52 w1 := p52
              refine ⟨(wanted_yes rfl rfl s44), fun K hK => ?_⟩
              refine wp_gen_call [(52, .slice (some ⟨g52, 0, none⟩) 2 c52)] ⟨s52, trivial⟩ (vs := #[.slice (some ⟨g52, 0, none⟩) 2 c52]) (f := 21) (by kernel_rfl) (fun w => by kernel_rfl) ?_
              refine (union2_w a b _ _ _ _ k52).mono ?_
              rintro e w2 ⟨rfl, hb⟩
              exact ⟨_, rfl, hK.out _ _ rfl hb (no_block rfl)⟩
            case o26 =>
              refine FlowOp2.plain rfl fun a1 w1 cx => ?_
              obtain ⟨v44, s44, p44⟩ := cx.slot 16 44 (by kernel_rfl)
              replace p44 : v44 = .bool true := p44
              subst p44
              obtain ⟨v49, s49, p49⟩ := cx.slot 21 49 (by kernel_rfl)
              replace p49 : v49 = .agg (aggW (orP (orP (minusP a b) (andP a b)) b)) := p49
              subst p49
              obtain ⟨v53, s53, p53⟩ := cx.slot 25 53 (by kernel_rfl)
              replace p53 : v53 = .agg (aggW (orP a b)) := p53
              subst p53
              refine ⟨(wanted_yes rfl rfl s44), fun K hK => ?_⟩
              refine wp_gen [(49, .agg (aggW (orP (orP (minusP a b) (andP a b)) b))), (53, .agg (aggW (orP a b)))] ⟨s49, s53, trivial⟩ (by kernel_rfl) (v := .bool true) (w' := w1) ?_ (hK.out _ _ rfl (Below.refl _ _) (no_block rfl))
              exact eqo_w _ _ _ (aggW_congr fun j _ => by simp only [andP, minusP, orP]; cases a j <;> cases b j <;> rfl) _ _ rfl rfl _
            case o27 =>
              refine FlowOp2.plain rfl fun a1 w1 cx => ?_
              obtain ⟨v44, s44, p44⟩ := cx.slot 16 44 (by kernel_rfl)
              replace p44 : v44 = .bool true := p44
              subst p44
              obtain ⟨v54, s54, p54⟩ := cx.slot 26 54 (by kernel_rfl)
              replace p54 : v54 = .bool true := p54
              subst p54
              refine ⟨(wanted_none rfl), fun K hK => ?_⟩
              exact wp_picked _ _ _ rfl true (ev_tmp s44) (.bool true) (ev_tmp s54) (hK.out _ _ rfl (Below.refl _ _) (no_block rfl))
            case o28 =>
              refine FlowOp2.plain rfl fun a1 w1 cx => ?_
              obtain ⟨v55, s55, p55⟩ := cx.slot 27 55 (by kernel_rfl)
              replace p55 : v55 = .bool true := p55
              subst p55
              refine ⟨(wanted_none rfl), fun K hK => ?_⟩
              exact wp_moved _ rfl _ (ev_tmp s55) (hK.out _ _ rfl (Below.refl _ _) (no_block rfl))
            case o29 =>
              refine FlowOp2.plain rfl fun a1 w1 cx => ?_
              obtain ⟨v56, s56, p56⟩ := cx.slot 28 56 (by kernel_rfl)
              replace p56 : v56 = .bool true := p56
              subst p56
              have s10 := cx.keep 10 _ (by kernel_rfl) s10
              have k10 := below_at k10 cx.below
              refine ⟨(wanted_yes rfl rfl s56), fun K hK => ?_⟩
              exact wp_loaded _ _ rfl g10 (ev_tmp s10) _ _ _ _ k10 Try.underlying32 rfl (by kernel_rfl) (hK.out _ _ rfl (Below.refl _ _) (no_block rfl))
            case o30 =>
              refine FlowOp2.plain rfl fun a1 w1 cx => ?_
              obtain ⟨v56, s56, p56⟩ := cx.slot 28 56 (by kernel_rfl)
              replace p56 : v56 = .bool true := p56
              subst p56
              have s1 := cx.keep 1 _ (by kernel_rfl) s1
              refine ⟨(wanted_yes rfl rfl s56), fun K hK => ?_⟩
              exact wp_moved _ rfl _ (ev_tmp s1) (hK.out _ _ rfl (Below.refl _ _) (no_block rfl))
            case o31 =>
              refine FlowOp2.plain rfl fun a1 w1 cx => ?_
              obtain ⟨v56, s56, p56⟩ := cx.slot 28 56 (by kernel_rfl)
              replace p56 : v56 = .bool true := p56
              subst p56
              obtain ⟨v57, s57, p57⟩ := cx.slot 29 57 (by kernel_rfl)
              replace p57 : v57 = .agg (aggW (orP (orP a b) c)) := p57
              subst p57
              obtain ⟨v58, s58, p58⟩ := cx.slot 30 58 (by kernel_rfl)
              replace p58 : v58 = .int .u8 x := p58
              subst p58
              refine ⟨(wanted_yes rfl rfl s56), fun K hK => ?_⟩
              refine wp_gen_call [(57, .agg (aggW (orP (orP a b) c))), (58, .int .u8 x)] ⟨s57, s58, trivial⟩ (vs := #[.agg (aggW (orP (orP a b) c)), .int .u8 x]) (f := 20) (by kernel_rfl) (fun w => by kernel_rfl) ?_
              refine (has_w (orP (orP a b) c) x _ hx).mono ?_
              rintro e w2 ⟨rfl, hb⟩
              exact ⟨_, rfl, hK.out _ _ (by simp [nthP, isV, orP, *]) hb (no_block rfl)⟩
            case o32 =>
              refine FlowOp2.plain rfl fun a1 w1 cx => ?_
              obtain ⟨v56, s56, p56⟩ := cx.slot 28 56 (by kernel_rfl)
              replace p56 : v56 = .bool true := p56
              subst p56
              have s5 := cx.keep 5 _ (by kernel_rfl) s5
              have k5 := below_at k5 cx.below
              refine ⟨(wanted_yes rfl rfl s56), fun K hK => ?_⟩
              exact wp_loaded _ _ rfl g5 (ev_tmp s5) _ _ _ _ k5 Try.underlying32 rfl (by kernel_rfl) (hK.out _ _ rfl (Below.refl _ _) (no_block rfl))
            case o33 =>
              refine FlowOp2.plain rfl fun a1 w1 cx => ?_
              obtain ⟨v56, s56, p56⟩ := cx.slot 28 56 (by kernel_rfl)
              replace p56 : v56 = .bool true := p56
              subst p56
              have s1 := cx.keep 1 _ (by kernel_rfl) s1
              refine ⟨(wanted_yes rfl rfl s56), fun K hK => ?_⟩
              exact wp_moved _ rfl _ (ev_tmp s1) (hK.out _ _ rfl (Below.refl _ _) (no_block rfl))
            case o34 =>
              refine FlowOp2.plain rfl fun a1 w1 cx => ?_
              obtain ⟨v56, s56, p56⟩ := cx.slot 28 56 (by kernel_rfl)
              replace p56 : v56 = .bool true := p56
              subst p56
              obtain ⟨v60, s60, p60⟩ := cx.slot 32 60 (by kernel_rfl)
              replace p60 : v60 = .agg (aggW a) := p60
              subst p60
              obtain ⟨v61, s61, p61⟩ := cx.slot 33 61 (by kernel_rfl)
              replace p61 : v61 = .int .u8 x := p61
              subst p61
              refine ⟨(wanted_yes rfl rfl s56), fun K hK => ?_⟩
              refine wp_gen_call [(60, .agg (aggW a)), (61, .int .u8 x)] ⟨s60, s61, trivial⟩ (vs := #[.agg (aggW a), .int .u8 x]) (f := 20) (by kernel_rfl) (fun w => by kernel_rfl) ?_
              refine (has_w a x _ hx).mono ?_
              rintro e w2 ⟨rfl, hb⟩
              exact ⟨_, rfl, hK.out _ _ (by simp [nthP, isV, *]) hb (no_block rfl)⟩
            case o35 =>
              refine FlowOp2.plain rfl fun a1 w1 cx => ?_
              obtain ⟨v56, s56, p56⟩ := cx.slot 28 56 (by kernel_rfl)
              replace p56 : v56 = .bool true := p56
              subst p56
              obtain ⟨v62, s62, p62⟩ := cx.slot 34 62 (by kernel_rfl)
              replace p62 : v62 = .bool false := p62
              subst p62
              refine ⟨(wanted_yes rfl rfl s56), fun K hK => ?_⟩
              exact wp_moved _ rfl _ (ev_tmp s62) (hK.out _ _ rfl (Below.refl _ _) (no_block rfl))
            case o36 =>
              refine FlowOp2.plain rfl fun a1 w1 cx => ?_
              obtain ⟨v63, s63, p63⟩ := cx.slot 35 63 (by kernel_rfl)
              replace p63 : v63 = .bool false := p63
              subst p63
              have s6 := cx.keep 6 _ (by kernel_rfl) s6
              have k6 := below_at k6 cx.below
              refine ⟨(wanted_yes rfl rfl s63), fun K hK => ?_⟩
              exact wp_loaded _ _ rfl g6 (ev_tmp s6) _ _ _ _ k6 Try.underlying32 rfl (by kernel_rfl) (hK.out _ _ rfl (Below.refl _ _) (no_block rfl))
            case o37 =>
              refine FlowOp2.plain rfl fun a1 w1 cx => ?_
              obtain ⟨v63, s63, p63⟩ := cx.slot 35 63 (by kernel_rfl)
              replace p63 : v63 = .bool false := p63
              subst p63
              have s1 := cx.keep 1 _ (by kernel_rfl) s1
              refine ⟨(wanted_yes rfl rfl s63), fun K hK => ?_⟩
              exact wp_moved _ rfl _ (ev_tmp s1) (hK.out _ _ rfl (Below.refl _ _) (no_block rfl))
            case o38 =>
              refine FlowOp2.plain rfl fun a1 w1 cx => ?_
              obtain ⟨v63, s63, p63⟩ := cx.slot 35 63 (by kernel_rfl)
              replace p63 : v63 = .bool false := p63
              subst p63
              obtain ⟨v64, s64, p64⟩ := cx.slot 36 64 (by kernel_rfl)
              replace p64 : v64 = .agg (aggW b) := p64
              subst p64
              obtain ⟨v65, s65, p65⟩ := cx.slot 37 65 (by kernel_rfl)
              replace p65 : v65 = .int .u8 x := p65
              subst p65
              refine ⟨(wanted_yes rfl rfl s63), fun K hK => ?_⟩
              refine wp_gen_call [(64, .agg (aggW b)), (65, .int .u8 x)] ⟨s64, s65, trivial⟩ (vs := #[.agg (aggW b), .int .u8 x]) (f := 20) (by kernel_rfl) (fun w => by kernel_rfl) ?_
              refine (has_w b x _ hx).mono ?_
              rintro e w2 ⟨rfl, hb⟩
              exact ⟨_, rfl, hK.out _ _ (by simp [nthP, isV, *]) hb (no_block rfl)⟩
            case o39 =>
              refine FlowOp2.plain rfl fun a1 w1 cx => ?_
              obtain ⟨v56, s56, p56⟩ := cx.slot 28 56 (by kernel_rfl)
              replace p56 : v56 = .bool true := p56
              subst p56
              obtain ⟨v63, s63, p63⟩ := cx.slot 35 63 (by kernel_rfl)
              replace p63 : v63 = .bool false := p63
              subst p63
              obtain ⟨v66, s66, p66⟩ := cx.slot 38 66 (by kernel_rfl)
              replace p66 : v66 = .bool true := p66
              subst p66
              refine ⟨(wanted_yes rfl rfl s56), fun K hK => ?_⟩
              exact wp_picked _ _ _ rfl false (ev_tmp s63) (.bool true) (ev_tmp s66) (hK.out _ _ rfl (Below.refl _ _) (no_block rfl))
            case o40 =>
              refine FlowOp2.plain rfl fun a1 w1 cx => ?_
              obtain ⟨v56, s56, p56⟩ := cx.slot 28 56 (by kernel_rfl)
              replace p56 : v56 = .bool true := p56
              subst p56
              obtain ⟨v67, s67, p67⟩ := cx.slot 39 67 (by kernel_rfl)
              replace p67 : v67 = .bool true := p67
              subst p67
              refine ⟨(wanted_yes rfl rfl s56), fun K hK => ?_⟩
              exact wp_moved _ rfl _ (ev_tmp s67) (hK.out _ _ rfl (Below.refl _ _) (no_block rfl))
            case o41 =>
              refine FlowOp2.unwanted rfl fun a1 w1 cx => ?_
              obtain ⟨v68, s68, p68⟩ := cx.slot 40 68 (by kernel_rfl)
              replace p68 : v68 = .bool true := p68
              subst p68
              exact ⟨(wanted_no rfl rfl s68 (by decide)), rfl⟩
            case o42 =>
              refine FlowOp2.unwanted rfl fun a1 w1 cx => ?_
              obtain ⟨v68, s68, p68⟩ := cx.slot 40 68 (by kernel_rfl)
              replace p68 : v68 = .bool true := p68
              subst p68
              exact ⟨(wanted_no rfl rfl s68 (by decide)), rfl⟩
            case o43 =>
              refine FlowOp2.unwanted rfl fun a1 w1 cx => ?_
              obtain ⟨v68, s68, p68⟩ := cx.slot 40 68 (by kernel_rfl)
              replace p68 : v68 = .bool true := p68
              subst p68
              exact ⟨(wanted_no rfl rfl s68 (by decide)), rfl⟩
            case o44 =>
              refine FlowOp2.plain rfl fun a1 w1 cx => ?_
              obtain ⟨v56, s56, p56⟩ := cx.slot 28 56 (by kernel_rfl)
              replace p56 : v56 = .bool true := p56
              subst p56
              obtain ⟨v68, s68, p68⟩ := cx.slot 40 68 (by kernel_rfl)
              replace p68 : v68 = .bool true := p68
              subst p68
              obtain ⟨v71, s71, p71⟩ := cx.slot 43 71 (by kernel_rfl)
              replace p71 : v71 = undef := p71
              subst p71
              refine ⟨(wanted_yes rfl rfl s56), fun K hK => ?_⟩
              exact wp_picked _ _ _ rfl true (ev_tmp s68) (.bool true) rfl (hK.out _ _ rfl (Below.refl _ _) (no_block rfl))
            case o45 =>
              refine FlowOp2.plain rfl fun a1 w1 cx => ?_
              obtain ⟨v56, s56, p56⟩ := cx.slot 28 56 (by kernel_rfl)
              replace p56 : v56 = .bool true := p56
              subst p56
              obtain ⟨v59, s59, p59⟩ := cx.slot 31 59 (by kernel_rfl)
              replace p59 : v59 = .bool true := p59
              subst p59
              obtain ⟨v72, s72, p72⟩ := cx.slot 44 72 (by kernel_rfl)
              replace p72 : v72 = .bool true := p72
              subst p72
              refine ⟨(wanted_yes rfl rfl s56), fun K hK => ?_⟩
              refine wp_gen [(59, .bool true), (72, .bool true)] ⟨s59, s72, trivial⟩ (by kernel_rfl) (v := .bool true) (w' := w1) ?_ (hK.out _ _ rfl (Below.refl _ _) (no_block rfl))
              kernel_rfl
            case o46 =>
              refine FlowOp2.plain rfl fun a1 w1 cx => ?_
              obtain ⟨v56, s56, p56⟩ := cx.slot 28 56 (by kernel_rfl)
              replace p56 : v56 = .bool true := p56
              subst p56
              obtain ⟨v73, s73, p73⟩ := cx.slot 45 73 (by kernel_rfl)
              replace p73 : v73 = .bool true := p73
              subst p73
              refine ⟨(wanted_none rfl), fun K hK => ?_⟩
              exact wp_picked _ _ _ rfl true (ev_tmp s56) (.bool true) (ev_tmp s73) (hK.out _ _ rfl (Below.refl _ _) (no_block rfl))
            case o47 =>
              refine FlowOp2.plain rfl fun a1 w1 cx => ?_
              obtain ⟨v74, s74, p74⟩ := cx.slot 46 74 (by kernel_rfl)
              replace p74 : v74 = .bool true := p74
              subst p74
              refine ⟨(wanted_none rfl), fun K hK => ?_⟩
              exact wp_moved _ rfl _ (ev_tmp s74) (hK.out _ _ rfl (Below.refl _ _) (no_block rfl))
            case o48 =>
              refine FlowOp2.plain rfl fun a1 w1 cx => ?_
              obtain ⟨v75, s75, p75⟩ := cx.slot 47 75 (by kernel_rfl)
              replace p75 : v75 = .bool true := p75
              subst p75
              have s5 := cx.keep 5 _ (by kernel_rfl) s5
              have k5 := below_at k5 cx.below
              refine ⟨(wanted_yes rfl rfl s75), fun K hK => ?_⟩
              exact wp_loaded _ _ rfl g5 (ev_tmp s5) _ _ _ _ k5 Try.underlying32 rfl (by kernel_rfl) (hK.out _ _ rfl (Below.refl _ _) (no_block rfl))
            case o49 =>
              refine FlowOp2.plain rfl fun a1 w1 cx => ?_
              obtain ⟨v75, s75, p75⟩ := cx.slot 47 75 (by kernel_rfl)
              replace p75 : v75 = .bool true := p75
              subst p75
              obtain ⟨v76, s76, p76⟩ := cx.slot 48 76 (by kernel_rfl)
              replace p76 : v76 = .agg (aggW a) := p76
              subst p76
              refine ⟨(wanted_yes rfl rfl s75), fun K hK => ?_⟩
              refine wp_gen_call [(76, .agg (aggW a))] ⟨s76, trivial⟩ (vs := #[.agg (aggW a)]) (f := 24) (by kernel_rfl) (fun w => by kernel_rfl) ?_
              refine (mem_w a _).mono ?_
              rintro e w2 ⟨rfl, hb⟩
              exact ⟨_, rfl, hK.out _ _ rfl hb (no_block rfl)⟩
            case o50 =>
              refine FlowOp2.plain rfl fun a1 w1 cx => ?_
              obtain ⟨v75, s75, p75⟩ := cx.slot 47 75 (by kernel_rfl)
              replace p75 : v75 = .bool true := p75
              subst p75
              have s5 := cx.keep 5 _ (by kernel_rfl) s5
              have k5 := below_at k5 cx.below
              refine ⟨(wanted_yes rfl rfl s75), fun K hK => ?_⟩
              exact wp_loaded _ _ rfl g5 (ev_tmp s5) _ _ _ _ k5 Try.underlying32 rfl (by kernel_rfl) (hK.out _ _ rfl (Below.refl _ _) (no_block rfl))
            case o51 =>
              refine FlowOp2.plain rfl fun a1 w1 cx => ?_
              obtain ⟨v75, s75, p75⟩ := cx.slot 47 75 (by kernel_rfl)
              replace p75 : v75 = .bool true := p75
              subst p75
              obtain ⟨v77, s77, p77⟩ := cx.slot 49 77 (by kernel_rfl)
              replace p77 : v77 = .string (memS a) := p77
              subst p77
              obtain ⟨v78, s78, p78⟩ := cx.slot 50 78 (by kernel_rfl)
              replace p78 : v78 = .agg (aggW a) := p78
              subst p78
              refine ⟨(wanted_yes rfl rfl s75), fun K hK => ?_⟩
              refine wp_gen_call [(77, .string (memS a)), (78, .agg (aggW a))] ⟨s77, s78, trivial⟩ (vs := #[.string (memS a), .agg (aggW a)]) (f := 25) (by kernel_rfl) (fun w => by kernel_rfl) ?_
              refine (all_w a _).mono ?_
              rintro e w2 ⟨rfl, hb⟩
              exact ⟨_, rfl, hK.out _ _ rfl hb (no_block rfl)⟩
            case o52 =>
              refine FlowOp2.plain rfl fun a1 w1 cx => ?_
              obtain ⟨v75, s75, p75⟩ := cx.slot 47 75 (by kernel_rfl)
              replace p75 : v75 = .bool true := p75
              subst p75
              obtain ⟨v79, s79, p79⟩ := cx.slot 51 79 (by kernel_rfl)
              replace p79 : v79 = .bool true := p79
              subst p79
              refine ⟨(wanted_none rfl), fun K hK => ?_⟩
              exact wp_picked _ _ _ rfl true (ev_tmp s75) (.bool true) (ev_tmp s79) (hK.out _ _ rfl (Below.refl _ _) (no_block rfl))
            case o53 =>
              refine FlowOp2.plain rfl fun a1 w1 cx => ?_
              obtain ⟨v80, s80, p80⟩ := cx.slot 52 80 (by kernel_rfl)
              replace p80 : v80 = .bool true := p80
              subst p80
              refine ⟨(wanted_none rfl), fun K hK => ?_⟩
              exact wp_assigned _ rfl _ (ev_tmp s80) (hK.out _ _ rfl (Below.refl _ _) (no_block rfl))
            case hdone =>
              intro a1 w1 hb1 hz1 hd1 hk1 hg1
              obtain ⟨v4, s4, p4⟩ := got_slot hg1 53 4 (by kernel_rfl)
              replace p4 : v4 = .bool true := p4
              subst p4
              replace hbw := hbw.trans (hb1.mono hbw.size)
              replace hd := hd1.trans hd
              replace hz := hz1
              clear hg1 hk1 hb1 hz1 hd1
              replace HC := HC.out a1 w1
              refine HC ?_
              clear HC
              refine wp_ret ?_
              refine bodyPost_ret (v := .bool true) (by simp [results, Try.results5, s4]) hd ⟨rfl, hbw⟩
        · refine wp_region_flow (nthP [isV (.bool true), isV (.bool true), isV (.agg (aggW (andP a b))), isV (.agg (aggW (minusP a b))), isV (.agg (aggW (andP (andP a b) (minusP a b)))), isV (.agg (aggW (fun _ => false))), isV (.bool true), isV (.bool true), isV (.bool true), isV (.agg (aggW (andP a b))), isV (.agg (aggW (minusP a b))), isSl (agg2 (andP a b) (minusP a b)) 32 2, isV (.agg (aggW (orP (andP a b) (minusP a b)))), isV (.agg (aggW a)), isV (.bool true), isV (.bool true), isV (.bool true), isV (.agg (aggW (minusP a b))), isV (.agg (aggW (andP a b))), isV (.agg (aggW b)), isSl (agg3 (minusP a b) (andP a b) b) 32 3, isV (.agg (aggW (orP (orP (minusP a b) (andP a b)) b))), isV (.agg (aggW a)), isV (.agg (aggW b)), isSl (agg2 a b) 32 2, isV (.agg (aggW (orP a b))), isV (.bool true), isV (.bool true), isV (.bool true), isV (.agg (aggW (orP (orP a b) c))), isV (.int .u8 x), isV (.bool true), isV (.agg (aggW a)), isV (.int .u8 x), isV (.bool true), isV (.bool true), isV (undef), isV (undef), isV (undef), isV (.bool true), isV (.bool true), isV (undef), isV (undef), isV (undef), isV (.bool true), isV (.bool true), isV (.bool true), isV (.bool true), isV (.agg (aggW a)), isV (.string (memS a)), isV (.agg (aggW a)), isV (.bool true), isV (.bool true), isV (.bool true)]) 81 (by assumption) (by kernel_rfl) (by kernel_rfl) (by kernel_rfl) (nthP_stays ⟨Stays.isV, Stays.isV, Stays.isV, Stays.isV, Stays.isV, Stays.isV, Stays.isV, Stays.isV, Stays.isV, Stays.isV, Stays.isV, Stays.isSl, Stays.isV, Stays.isV, Stays.isV, Stays.isV, Stays.isV, Stays.isV, Stays.isV, Stays.isV, Stays.isSl, Stays.isV, Stays.isV, Stays.isV, Stays.isSl, Stays.isV, Stays.isV, Stays.isV, Stays.isV, Stays.isV, Stays.isV, Stays.isV, Stays.isV, Stays.isV, Stays.isV, Stays.isV, Stays.isV, Stays.isV, Stays.isV, Stays.isV, Stays.isV, Stays.isV, Stays.isV, Stays.isV, Stays.isV, Stays.isV, Stays.isV, Stays.isV, Stays.isV, Stays.isV, Stays.isV, Stays.isV, Stays.isV, Stays.isV, trivial⟩) (noStore (by kernel_rfl)) ⟨?o0, ?o1, ?o2, ?o3, ?o4, ?o5, ?o6, ?o7, ?o8, ?o9, ?o10, ?o11, ?o12, ?o13, ?o14, ?o15, ?o16, ?o17, ?o18, ?o19, ?o20, ?o21, ?o22, ?o23, ?o24, ?o25, ?o26, ?o27, ?o28, ?o29, ?o30, ?o31, ?o32, ?o33, ?o34, ?o35, ?o36, ?o37, ?o38, ?o39, ?o40, ?o41, ?o42, ?o43, ?o44, ?o45, ?o46, ?o47, ?o48, ?o49, ?o50, ?o51, ?o52, ?o53, trivial⟩ ?hdone
          case o0 =>
            refine FlowOp2.plain rfl fun a1 w1 cx => ?_
            refine ⟨(wanted_none rfl), fun K hK => ?_⟩
            refine wp_gen_call [] trivial (vs := #[]) (f := 9) (by kernel_rfl) (fun w => by kernel_rfl) ?_
            refine (awake_w _).mono ?_
            rintro e w2 ⟨rfl, hb⟩
            exact ⟨_, rfl, hK.out _ _ rfl hb (no_block rfl)⟩
          case o1 =>
            refine FlowOp2.plain rfl fun a1 w1 cx => ?_
            obtain ⟨v28, s28, p28⟩ := cx.slot 0 28 (by kernel_rfl)
            replace p28 : v28 = .bool true := p28
            subst p28
            refine ⟨(wanted_none rfl), fun K hK => ?_⟩
            exact wp_moved _ rfl _ (ev_tmp s28) (hK.out _ _ rfl (Below.refl _ _) (no_block rfl))
          case o2 =>
            refine FlowOp2.plain rfl fun a1 w1 cx => ?_
            obtain ⟨v29, s29, p29⟩ := cx.slot 1 29 (by kernel_rfl)
            replace p29 : v29 = .bool true := p29
            subst p29
            have s8 := cx.keep 8 _ (by kernel_rfl) s8
            have k8 := below_at k8 cx.below
            refine ⟨(wanted_yes rfl rfl s29), fun K hK => ?_⟩
            exact wp_loaded _ _ rfl g8 (ev_tmp s8) _ _ _ _ k8 Try.underlying32 rfl (by kernel_rfl) (hK.out _ _ rfl (Below.refl _ _) (no_block rfl))
          case o3 =>
            refine FlowOp2.plain rfl fun a1 w1 cx => ?_
            obtain ⟨v29, s29, p29⟩ := cx.slot 1 29 (by kernel_rfl)
            replace p29 : v29 = .bool true := p29
            subst p29
            have s9 := cx.keep 9 _ (by kernel_rfl) s9
            have k9 := below_at k9 cx.below
            refine ⟨(wanted_yes rfl rfl s29), fun K hK => ?_⟩
            exact wp_loaded _ _ rfl g9 (ev_tmp s9) _ _ _ _ k9 Try.underlying32 rfl (by kernel_rfl) (hK.out _ _ rfl (Below.refl _ _) (no_block rfl))
          case o4 =>
            refine FlowOp2.plain rfl fun a1 w1 cx => ?_
            obtain ⟨v29, s29, p29⟩ := cx.slot 1 29 (by kernel_rfl)
            replace p29 : v29 = .bool true := p29
            subst p29
            obtain ⟨v30, s30, p30⟩ := cx.slot 2 30 (by kernel_rfl)
            replace p30 : v30 = .agg (aggW (andP a b)) := p30
            subst p30
            obtain ⟨v31, s31, p31⟩ := cx.slot 3 31 (by kernel_rfl)
            replace p31 : v31 = .agg (aggW (minusP a b)) := p31
            subst p31
            refine ⟨(wanted_yes rfl rfl s29), fun K hK => ?_⟩
            refine wp_gen_call [(30, .agg (aggW (andP a b))), (31, .agg (aggW (minusP a b)))] ⟨s30, s31, trivial⟩ (vs := #[.agg (aggW (andP a b)), .agg (aggW (minusP a b))]) (f := 22) (by kernel_rfl) (fun w => by kernel_rfl) ?_
            refine (cross_w (andP a b) (minusP a b) _).mono ?_
            rintro e w2 ⟨rfl, hb⟩
            exact ⟨_, rfl, hK.out _ _ rfl hb (no_block rfl)⟩
          case o5 =>
            refine FlowOp2.plain rfl fun a1 w1 cx => ?_
            obtain ⟨v29, s29, p29⟩ := cx.slot 1 29 (by kernel_rfl)
            replace p29 : v29 = .bool true := p29
            subst p29
            refine ⟨(wanted_yes rfl rfl s29), fun K hK => ?_⟩
            refine wp_gen [] trivial (by kernel_rfl) (v := .agg (aggW (fun _ => false))) (w' := w1) (by rw [agg0]; kernel_rfl) ?_
            exact hK.out _ _ rfl (Below.refl _ _) (no_block rfl)
          case o6 =>
            refine FlowOp2.plain rfl fun a1 w1 cx => ?_
            obtain ⟨v29, s29, p29⟩ := cx.slot 1 29 (by kernel_rfl)
            replace p29 : v29 = .bool true := p29
            subst p29
            obtain ⟨v32, s32, p32⟩ := cx.slot 4 32 (by kernel_rfl)
            replace p32 : v32 = .agg (aggW (andP (andP a b) (minusP a b))) := p32
            subst p32
            obtain ⟨v33, s33, p33⟩ := cx.slot 5 33 (by kernel_rfl)
            replace p33 : v33 = .agg (aggW (fun _ => false)) := p33
            subst p33
            refine ⟨(wanted_yes rfl rfl s29), fun K hK => ?_⟩
            refine wp_gen [(32, .agg (aggW (andP (andP a b) (minusP a b)))), (33, .agg (aggW (fun _ => false)))] ⟨s32, s33, trivial⟩ (by kernel_rfl) (v := .bool true) (w' := w1) ?_ (hK.out _ _ rfl (Below.refl _ _) (no_block rfl))
            exact eqo_w _ _ _ (aggW_congr fun j _ => by simp only [andP, minusP]; cases a j <;> cases b j <;> rfl) _ _ rfl rfl _
          case o7 =>
            refine FlowOp2.plain rfl fun a1 w1 cx => ?_
            obtain ⟨v29, s29, p29⟩ := cx.slot 1 29 (by kernel_rfl)
            replace p29 : v29 = .bool true := p29
            subst p29
            obtain ⟨v34, s34, p34⟩ := cx.slot 6 34 (by kernel_rfl)
            replace p34 : v34 = .bool true := p34
            subst p34
            refine ⟨(wanted_none rfl), fun K hK => ?_⟩
            exact wp_picked _ _ _ rfl true (ev_tmp s29) (.bool true) (ev_tmp s34) (hK.out _ _ rfl (Below.refl _ _) (no_block rfl))
          case o8 =>
            refine FlowOp2.plain rfl fun a1 w1 cx => ?_
            obtain ⟨v35, s35, p35⟩ := cx.slot 7 35 (by kernel_rfl)
            replace p35 : v35 = .bool true := p35
            subst p35
            refine ⟨(wanted_none rfl), fun K hK => ?_⟩
            exact wp_moved _ rfl _ (ev_tmp s35) (hK.out _ _ rfl (Below.refl _ _) (no_block rfl))
          case o9 =>
            refine FlowOp2.plain rfl fun a1 w1 cx => ?_
            obtain ⟨v36, s36, p36⟩ := cx.slot 8 36 (by kernel_rfl)
            replace p36 : v36 = .bool true := p36
            subst p36
            have s8 := cx.keep 8 _ (by kernel_rfl) s8
            have k8 := below_at k8 cx.below
            refine ⟨(wanted_yes rfl rfl s36), fun K hK => ?_⟩
            exact wp_loaded _ _ rfl g8 (ev_tmp s8) _ _ _ _ k8 Try.underlying32 rfl (by kernel_rfl) (hK.out _ _ rfl (Below.refl _ _) (no_block rfl))
          case o10 =>
            refine FlowOp2.plain rfl fun a1 w1 cx => ?_
            obtain ⟨v36, s36, p36⟩ := cx.slot 8 36 (by kernel_rfl)
            replace p36 : v36 = .bool true := p36
            subst p36
            have s9 := cx.keep 9 _ (by kernel_rfl) s9
            have k9 := below_at k9 cx.below
            refine ⟨(wanted_yes rfl rfl s36), fun K hK => ?_⟩
            exact wp_loaded _ _ rfl g9 (ev_tmp s9) _ _ _ _ k9 Try.underlying32 rfl (by kernel_rfl) (hK.out _ _ rfl (Below.refl _ _) (no_block rfl))
          case o11 =>
            refine FlowOp2.plain rfl fun a1 w1 cx => ?_
            obtain ⟨v36, s36, p36⟩ := cx.slot 8 36 (by kernel_rfl)
            replace p36 : v36 = .bool true := p36
            subst p36
            obtain ⟨v37, s37, p37⟩ := cx.slot 9 37 (by kernel_rfl)
            replace p37 : v37 = .agg (aggW (andP a b)) := p37
            subst p37
            obtain ⟨v38, s38, p38⟩ := cx.slot 10 38 (by kernel_rfl)
            replace p38 : v38 = .agg (aggW (minusP a b)) := p38
            subst p38
            refine ⟨(wanted_yes rfl rfl s36), fun K hK => ?_⟩
            refine wp_gen [(37, .agg (aggW (andP a b))), (38, .agg (aggW (minusP a b)))] ⟨s37, s38, trivial⟩ (by kernel_rfl) (v := .slice (some ⟨w1.heap.size, 0, none⟩) 2 2) (w' := w1.alloc (.cells (agg2 (andP a b) (minusP a b)) 32)) (by kernel_rfl) ?_
            exact hK.out _ _ ⟨_, _, rfl, heap_alloc_last _ _⟩ ((Below.refl _ _).alloc (Nat.le_refl _) _) (fun b hb => by simp [blockOf] at hb; subst hb; exact ⟨by simp, .inl (Nat.le_refl _)⟩)
          case o12 =>
            refine FlowOp2.plain rfl fun a1 w1 cx => ?_
            obtain ⟨v36, s36, p36⟩ := cx.slot 8 36 (by kernel_rfl)
            replace p36 : v36 = .bool true := p36
            subst p36
            obtain ⟨v39, s39, p39⟩ := cx.slot 11 39 (by kernel_rfl)
            obtain ⟨g39, c39, rfl, k39⟩ : isSl (agg2 (andP a b) (minusP a b)) 32 2 v39 w1 := p39
            refine ⟨(wanted_yes rfl rfl s36), fun K hK => ?_⟩
            refine wp_gen_call [(39, .slice (some ⟨g39, 0, none⟩) 2 c39)] ⟨s39, trivial⟩ (vs := #[.slice (some ⟨g39, 0, none⟩) 2 c39]) (f := 21) (by kernel_rfl) (fun w => by kernel_rfl) ?_
            refine (union2_w (andP a b) (minusP a b) _ _ _ _ k39).mono ?_
            rintro e w2 ⟨rfl, hb⟩
            exact ⟨_, rfl, hK.out _ _ rfl hb (no_block rfl)⟩
          case o13 =>
            refine FlowOp2.plain rfl fun a1 w1 cx => ?_
            obtain ⟨v36, s36, p36⟩ := cx.slot 8 36 (by kernel_rfl)
            replace p36 : v36 = .bool true := p36
            subst p36
            have s5 := cx.keep 5 _ (by kernel_rfl) s5
            have k5 := below_at k5 cx.below
            refine ⟨(wanted_yes rfl rfl s36), fun K hK => ?_⟩
            exact wp_loaded _ _ rfl g5 (ev_tmp s5) _ _ _ _ k5 Try.underlying32 rfl (by kernel_rfl) (hK.out _ _ rfl (Below.refl _ _) (no_block rfl))
          case o14 =>
            refine FlowOp2.plain rfl fun a1 w1 cx => ?_
            obtain ⟨v36, s36, p36⟩ := cx.slot 8 36 (by kernel_rfl)
            replace p36 : v36 = .bool true := p36
            subst p36
            obtain ⟨v40, s40, p40⟩ := cx.slot 12 40 (by kernel_rfl)
            replace p40 : v40 = .agg (aggW (orP (andP a b) (minusP a b))) := p40
            subst p40
            obtain ⟨v41, s41, p41⟩ := cx.slot 13 41 (by kernel_rfl)
            replace p41 : v41 = .agg (aggW a) := p41
            subst p41
            refine ⟨(wanted_yes rfl rfl s36), fun K hK => ?_⟩
            refine wp_gen [(40, .agg (aggW (orP (andP a b) (minusP a b)))), (41, .agg (aggW a))] ⟨s40, s41, trivial⟩ (by kernel_rfl) (v := .bool true) (w' := w1) ?_ (hK.out _ _ rfl (Below.refl _ _) (no_block rfl))
            exact eqo_w _ _ _ (aggW_congr fun j _ => by simp only [andP, minusP, orP]; cases a j <;> cases b j <;> rfl) _ _ rfl rfl _
          case o15 =>
            refine FlowOp2.plain rfl fun a1 w1 cx => ?_
            obtain ⟨v36, s36, p36⟩ := cx.slot 8 36 (by kernel_rfl)
            replace p36 : v36 = .bool true := p36
            subst p36
            obtain ⟨v42, s42, p42⟩ := cx.slot 14 42 (by kernel_rfl)
            replace p42 : v42 = .bool true := p42
            subst p42
            refine ⟨(wanted_none rfl), fun K hK => ?_⟩
            exact wp_picked _ _ _ rfl true (ev_tmp s36) (.bool true) (ev_tmp s42) (hK.out _ _ rfl (Below.refl _ _) (no_block rfl))
          case o16 =>
            refine FlowOp2.plain rfl fun a1 w1 cx => ?_
            obtain ⟨v43, s43, p43⟩ := cx.slot 15 43 (by kernel_rfl)
            replace p43 : v43 = .bool true := p43
            subst p43
            refine ⟨(wanted_none rfl), fun K hK => ?_⟩
            exact wp_moved _ rfl _ (ev_tmp s43) (hK.out _ _ rfl (Below.refl _ _) (no_block rfl))
          case o17 =>
            refine FlowOp2.plain rfl fun a1 w1 cx => ?_
            obtain ⟨v44, s44, p44⟩ := cx.slot 16 44 (by kernel_rfl)
            replace p44 : v44 = .bool true := p44
            subst p44
            have s9 := cx.keep 9 _ (by kernel_rfl) s9
            have k9 := below_at k9 cx.below
            refine ⟨(wanted_yes rfl rfl s44), fun K hK => ?_⟩
            exact wp_loaded _ _ rfl g9 (ev_tmp s9) _ _ _ _ k9 Try.underlying32 rfl (by kernel_rfl) (hK.out _ _ rfl (Below.refl _ _) (no_block rfl))
          case o18 =>
            refine FlowOp2.plain rfl fun a1 w1 cx => ?_
            obtain ⟨v44, s44, p44⟩ := cx.slot 16 44 (by kernel_rfl)
            replace p44 : v44 = .bool true := p44
            subst p44
            have s8 := cx.keep 8 _ (by kernel_rfl) s8
            have k8 := below_at k8 cx.below
            refine ⟨(wanted_yes rfl rfl s44), fun K hK => ?_⟩
            exact wp_loaded _ _ rfl g8 (ev_tmp s8) _ _ _ _ k8 Try.underlying32 rfl (by kernel_rfl) (hK.out _ _ rfl (Below.refl _ _) (no_block rfl))
          case o19 =>
            refine FlowOp2.plain rfl fun a1 w1 cx => ?_
            obtain ⟨v44, s44, p44⟩ := cx.slot 16 44 (by kernel_rfl)
            replace p44 : v44 = .bool true := p44
            subst p44
            have s6 := cx.keep 6 _ (by kernel_rfl) s6
            have k6 := below_at k6 cx.below
            refine ⟨(wanted_yes rfl rfl s44), fun K hK => ?_⟩
            exact wp_loaded _ _ rfl g6 (ev_tmp s6) _ _ _ _ k6 Try.underlying32 rfl (by kernel_rfl) (hK.out _ _ rfl (Below.refl _ _) (no_block rfl))
          case o20 =>
            refine FlowOp2.plain rfl fun a1 w1 cx => ?_
            obtain ⟨v44, s44, p44⟩ := cx.slot 16 44 (by kernel_rfl)
            replace p44 : v44 = .bool true := p44
            subst p44
            obtain ⟨v45, s45, p45⟩ := cx.slot 17 45 (by kernel_rfl)
            replace p45 : v45 = .agg (aggW (minusP a b)) := p45
            subst p45
            obtain ⟨v46, s46, p46⟩ := cx.slot 18 46 (by kernel_rfl)
            replace p46 : v46 = .agg (aggW (andP a b)) := p46
            subst p46
            obtain ⟨v47, s47, p47⟩ := cx.slot 19 47 (by kernel_rfl)
            replace p47 : v47 = .agg (aggW b) := p47
            subst p47
            refine ⟨(wanted_yes rfl rfl s44), fun K hK => ?_⟩
            refine wp_gen [(45, .agg (aggW (minusP a b))), (46, .agg (aggW (andP a b))), (47, .agg (aggW b))] ⟨s45, s46, s47, trivial⟩ (by kernel_rfl) (v := .slice (some ⟨w1.heap.size, 0, none⟩) 3 3) (w' := w1.alloc (.cells (agg3 (minusP a b) (andP a b) b) 32)) (by kernel_rfl) ?_
            exact hK.out _ _ ⟨_, _, rfl, heap_alloc_last _ _⟩ ((Below.refl _ _).alloc (Nat.le_refl _) _) (fun b hb => by simp [blockOf] at hb; subst hb; exact ⟨by simp, .inl (Nat.le_refl _)⟩)
          case o21 =>
            refine FlowOp2.plain rfl fun a1 w1 cx => ?_
            obtain ⟨v44, s44, p44⟩ := cx.slot 16 44 (by kernel_rfl)
            replace p44 : v44 = .bool true := p44
            subst p44
            obtain ⟨v48, s48, p48⟩ := cx.slot 20 48 (by kernel_rfl)
            obtain ⟨g48, c48, rfl, k48⟩ : isSl (agg3 (minusP a b) (andP a b) b) 32 3 v48 w1 := p48
            refine ⟨(wanted_yes rfl rfl s44), fun K hK => ?_⟩
            refine wp_gen_call [(48, .slice (some ⟨g48, 0, none⟩) 3 c48)] ⟨s48, trivial⟩ (vs := #[.slice (some ⟨g48, 0, none⟩) 3 c48]) (f := 21) (by kernel_rfl) (fun w => by kernel_rfl) ?_
            refine (union3_w (minusP a b) (andP a b) b _ _ _ _ k48).mono ?_
            rintro e w2 ⟨rfl, hb⟩
            exact ⟨_, rfl, hK.out _ _ rfl hb (no_block rfl)⟩
          case o22 =>
            refine FlowOp2.plain rfl fun a1 w1 cx => ?_
            obtain ⟨v44, s44, p44⟩ := cx.slot 16 44 (by kernel_rfl)
            replace p44 : v44 = .bool true := p44
            subst p44
            have s5 := cx.keep 5 _ (by kernel_rfl) s5
            have k5 := below_at k5 cx.below
            refine ⟨(wanted_yes rfl rfl s44), fun K hK => ?_⟩
            exact wp_loaded _ _ rfl g5 (ev_tmp s5) _ _ _ _ k5 Try.underlying32 rfl (by kernel_rfl) (hK.out _ _ rfl (Below.refl _ _) (no_block rfl))
          case o23 =>
            refine FlowOp2.plain rfl fun a1 w1 cx => ?_
            obtain ⟨v44, s44, p44⟩ := cx.slot 16 44 (by kernel_rfl)
            replace p44 : v44 = .bool true := p44
            subst p44
            have s6 := cx.keep 6 _ (by kernel_rfl) s6
            have k6 := below_at k6 cx.below
            refine ⟨(wanted_yes rfl rfl s44), fun K hK => ?_⟩
            exact wp_loaded _ _ rfl g6 (ev_tmp s6) _ _ _ _ k6 Try.underlying32 rfl (by kernel_rfl) (hK.out _ _ rfl (Below.refl _ _) (no_block rfl))
          case o24 =>
            refine FlowOp2.plain rfl fun a1 w1 cx => ?_
            obtain ⟨v44, s44, p44⟩ := cx.slot 16 44 (by kernel_rfl)
            replace p44 : v44 = .bool true := p44
            subst p44
            obtain ⟨v50, s50, p50⟩ := cx.slot 22 50 (by kernel_rfl)
            replace p50 : v50 = .agg (aggW a) := p50
            subst p50
            obtain ⟨v51, s51, p51⟩ := cx.slot 23 51 (by kernel_rfl)
            replace p51 : v51 = .agg (aggW b) := p51
            subst p51
            refine ⟨(wanted_yes rfl rfl s44), fun K hK => ?_⟩
            refine wp_gen [(50, .agg (aggW a)), (51, .agg (aggW b))] ⟨s50, s51, trivial⟩ (by kernel_rfl) (v := .slice (some ⟨w1.heap.size, 0, none⟩) 2 2) (w' := w1.alloc (.cells (agg2 a b) 32)) (by kernel_rfl) ?_
            exact hK.out _ _ ⟨_, _, rfl, heap_alloc_last _ _⟩ ((Below.refl _ _).alloc (Nat.le_refl _) _) (fun b hb => by simp [blockOf] at hb; subst hb; exact ⟨by simp, .inl (Nat.le_refl _)⟩)
          case o25 =>
            refine FlowOp2.plain rfl fun a1 w1 cx => ?_
            obtain ⟨v44, s44, p44⟩ := cx.slot 16 44 (by kernel_rfl)
            replace p44 : v44 = .bool true := p44
            subst p44
            obtain ⟨v52, s52, p52⟩ := cx.slot 24 52 (by kernel_rfl)
            obtain ⟨g52, c52, rfl, k52⟩ : isSl (agg2 a b) 32 2 v52 w1 := p52
            refine ⟨(wanted_yes rfl rfl s44), fun K hK => ?_⟩
            refine wp_gen_call [(52, .slice (some ⟨g52, 0, none⟩) 2 c52)] ⟨s52, trivial⟩ (vs := #[.slice (some ⟨g52, 0, none⟩) 2 c52]) (f := 21) (by kernel_rfl) (fun w => by kernel_rfl) ?_
            refine (union2_w a b _ _ _ _ k52).mono ?_
            rintro e w2 ⟨rfl, hb⟩
            exact ⟨_, rfl, hK.out _ _ rfl hb (no_block rfl)⟩
          case o26 =>
            refine FlowOp2.plain rfl fun a1 w1 cx => ?_
            obtain ⟨v44, s44, p44⟩ := cx.slot 16 44 (by kernel_rfl)
            replace p44 : v44 = .bool true := p44
            subst p44
            obtain ⟨v49, s49, p49⟩ := cx.slot 21 49 (by kernel_rfl)
            replace p49 : v49 = .agg (aggW (orP (orP (minusP a b) (andP a b)) b)) := p49
            subst p49
            obtain ⟨v53, s53, p53⟩ := cx.slot 25 53 (by kernel_rfl)
            replace p53 : v53 = .agg (aggW (orP a b)) := p53
            subst p53
            refine ⟨(wanted_yes rfl rfl s44), fun K hK => ?_⟩
            refine wp_gen [(49, .agg (aggW (orP (orP (minusP a b) (andP a b)) b))), (53, .agg (aggW (orP a b)))] ⟨s49, s53, trivial⟩ (by kernel_rfl) (v := .bool true) (w' := w1) ?_ (hK.out _ _ rfl (Below.refl _ _) (no_block rfl))
            exact eqo_w _ _ _ (aggW_congr fun j _ => by simp only [andP, minusP, orP]; cases a j <;> cases b j <;> rfl) _ _ rfl rfl _
          case o27 =>
            refine FlowOp2.plain rfl fun a1 w1 cx => ?_
            obtain ⟨v44, s44, p44⟩ := cx.slot 16 44 (by kernel_rfl)
            replace p44 : v44 = .bool true := p44
            subst p44
            obtain ⟨v54, s54, p54⟩ := cx.slot 26 54 (by kernel_rfl)
            replace p54 : v54 = .bool true := p54
            subst p54
            refine ⟨(wanted_none rfl), fun K hK => ?_⟩
            exact wp_picked _ _ _ rfl true (ev_tmp s44) (.bool true) (ev_tmp s54) (hK.out _ _ rfl (Below.refl _ _) (no_block rfl))
          case o28 =>
            refine FlowOp2.plain rfl fun a1 w1 cx => ?_
            obtain ⟨v55, s55, p55⟩ := cx.slot 27 55 (by kernel_rfl)
            replace p55 : v55 = .bool true := p55
            subst p55
            refine ⟨(wanted_none rfl), fun K hK => ?_⟩
            exact wp_moved _ rfl _ (ev_tmp s55) (hK.out _ _ rfl (Below.refl _ _) (no_block rfl))
          case o29 =>
            refine FlowOp2.plain rfl fun a1 w1 cx => ?_
            obtain ⟨v56, s56, p56⟩ := cx.slot 28 56 (by kernel_rfl)
            replace p56 : v56 = .bool true := p56
            subst p56
            have s10 := cx.keep 10 _ (by kernel_rfl) s10
            have k10 := below_at k10 cx.below
            refine ⟨(wanted_yes rfl rfl s56), fun K hK => ?_⟩
            exact wp_loaded _ _ rfl g10 (ev_tmp s10) _ _ _ _ k10 Try.underlying32 rfl (by kernel_rfl) (hK.out _ _ rfl (Below.refl _ _) (no_block rfl))
          case o30 =>
            refine FlowOp2.plain rfl fun a1 w1 cx => ?_
            obtain ⟨v56, s56, p56⟩ := cx.slot 28 56 (by kernel_rfl)
            replace p56 : v56 = .bool true := p56
            subst p56
            have s1 := cx.keep 1 _ (by kernel_rfl) s1
            refine ⟨(wanted_yes rfl rfl s56), fun K hK => ?_⟩
            exact wp_moved _ rfl _ (ev_tmp s1) (hK.out _ _ rfl (Below.refl _ _) (no_block rfl))
          case o31 =>
            refine FlowOp2.plain rfl fun a1 w1 cx => ?_
            obtain ⟨v56, s56, p56⟩ := cx.slot 28 56 (by kernel_rfl)
            replace p56 : v56 = .bool true := p56
            subst p56
            obtain ⟨v57, s57, p57⟩ := cx.slot 29 57 (by kernel_rfl)
            replace p57 : v57 = .agg (aggW (orP (orP a b) c)) := p57
            subst p57
            obtain ⟨v58, s58, p58⟩ := cx.slot 30 58 (by kernel_rfl)
            replace p58 : v58 = .int .u8 x := p58
            subst p58
            refine ⟨(wanted_yes rfl rfl s56), fun K hK => ?_⟩
            refine wp_gen_call [(57, .agg (aggW (orP (orP a b) c))), (58, .int .u8 x)] ⟨s57, s58, trivial⟩ (vs := #[.agg (aggW (orP (orP a b) c)), .int .u8 x]) (f := 20) (by kernel_rfl) (fun w => by kernel_rfl) ?_
            refine (has_w (orP (orP a b) c) x _ hx).mono ?_
            rintro e w2 ⟨rfl, hb⟩
            exact ⟨_, rfl, hK.out _ _ (by simp [nthP, isV, orP, *]) hb (no_block rfl)⟩
          case o32 =>
            refine FlowOp2.plain rfl fun a1 w1 cx => ?_
            obtain ⟨v56, s56, p56⟩ := cx.slot 28 56 (by kernel_rfl)
            replace p56 : v56 = .bool true := p56
            subst p56
            have s5 := cx.keep 5 _ (by kernel_rfl) s5
            have k5 := below_at k5 cx.below
            refine ⟨(wanted_yes rfl rfl s56), fun K hK => ?_⟩
            exact wp_loaded _ _ rfl g5 (ev_tmp s5) _ _ _ _ k5 Try.underlying32 rfl (by kernel_rfl) (hK.out _ _ rfl (Below.refl _ _) (no_block rfl))
          case o33 =>
            refine FlowOp2.plain rfl fun a1 w1 cx => ?_
            obtain ⟨v56, s56, p56⟩ := cx.slot 28 56 (by kernel_rfl)
            replace p56 : v56 = .bool true := p56
            subst p56
            have s1 := cx.keep 1 _ (by kernel_rfl) s1
            refine ⟨(wanted_yes rfl rfl s56), fun K hK => ?_⟩
            exact wp_moved _ rfl _ (ev_tmp s1) (hK.out _ _ rfl (Below.refl _ _) (no_block rfl))
          case o34 =>
            refine FlowOp2.plain rfl fun a1 w1 cx => ?_
            obtain ⟨v56, s56, p56⟩ := cx.slot 28 56 (by kernel_rfl)
            replace p56 : v56 = .bool true := p56
            subst p56
            obtain ⟨v60, s60, p60⟩ := cx.slot 32 60 (by kernel_rfl)
            replace p60 : v60 = .agg (aggW a) := p60
            subst p60
            obtain ⟨v61, s61, p61⟩ := cx.slot 33 61 (by kernel_rfl)
            replace p61 : v61 = .int .u8 x := p61
            subst p61
            refine ⟨(wanted_yes rfl rfl s56), fun K hK => ?_⟩
            refine wp_gen_call [(60, .agg (aggW a)), (61, .int .u8 x)] ⟨s60, s61, trivial⟩ (vs := #[.agg (aggW a), .int .u8 x]) (f := 20) (by kernel_rfl) (fun w => by kernel_rfl) ?_
            refine (has_w a x _ hx).mono ?_
            rintro e w2 ⟨rfl, hb⟩
            exact ⟨_, rfl, hK.out _ _ (by simp [nthP, isV, *]) hb (no_block rfl)⟩
          case o35 =>
            refine FlowOp2.plain rfl fun a1 w1 cx => ?_
            obtain ⟨v56, s56, p56⟩ := cx.slot 28 56 (by kernel_rfl)
            replace p56 : v56 = .bool true := p56
            subst p56
            obtain ⟨v62, s62, p62⟩ := cx.slot 34 62 (by kernel_rfl)
            replace p62 : v62 = .bool true := p62
            subst p62
            refine ⟨(wanted_yes rfl rfl s56), fun K hK => ?_⟩
            exact wp_moved _ rfl _ (ev_tmp s62) (hK.out _ _ rfl (Below.refl _ _) (no_block rfl))
          case o36 =>
            refine FlowOp2.unwanted rfl fun a1 w1 cx => ?_
            obtain ⟨v63, s63, p63⟩ := cx.slot 35 63 (by kernel_rfl)
            replace p63 : v63 = .bool true := p63
            subst p63
            exact ⟨(wanted_no rfl rfl s63 (by decide)), rfl⟩
          case o37 =>
            refine FlowOp2.unwanted rfl fun a1 w1 cx => ?_
            obtain ⟨v63, s63, p63⟩ := cx.slot 35 63 (by kernel_rfl)
            replace p63 : v63 = .bool true := p63
            subst p63
            exact ⟨(wanted_no rfl rfl s63 (by decide)), rfl⟩
          case o38 =>
            refine FlowOp2.unwanted rfl fun a1 w1 cx => ?_
            obtain ⟨v63, s63, p63⟩ := cx.slot 35 63 (by kernel_rfl)
            replace p63 : v63 = .bool true := p63
            subst p63
            exact ⟨(wanted_no rfl rfl s63 (by decide)), rfl⟩
          case o39 =>
            refine FlowOp2.plain rfl fun a1 w1 cx => ?_
            obtain ⟨v56, s56, p56⟩ := cx.slot 28 56 (by kernel_rfl)
            replace p56 : v56 = .bool true := p56
            subst p56
            obtain ⟨v63, s63, p63⟩ := cx.slot 35 63 (by kernel_rfl)
            replace p63 : v63 = .bool true := p63
            subst p63
            obtain ⟨v66, s66, p66⟩ := cx.slot 38 66 (by kernel_rfl)
            replace p66 : v66 = undef := p66
            subst p66
            refine ⟨(wanted_yes rfl rfl s56), fun K hK => ?_⟩
            exact wp_picked _ _ _ rfl true (ev_tmp s63) (.bool true) rfl (hK.out _ _ rfl (Below.refl _ _) (no_block rfl))
          case o40 =>
            refine FlowOp2.plain rfl fun a1 w1 cx => ?_
            obtain ⟨v56, s56, p56⟩ := cx.slot 28 56 (by kernel_rfl)
            replace p56 : v56 = .bool true := p56
            subst p56
            obtain ⟨v67, s67, p67⟩ := cx.slot 39 67 (by kernel_rfl)
            replace p67 : v67 = .bool true := p67
            subst p67
            refine ⟨(wanted_yes rfl rfl s56), fun K hK => ?_⟩
            exact wp_moved _ rfl _ (ev_tmp s67) (hK.out _ _ rfl (Below.refl _ _) (no_block rfl))
          case o41 =>
            refine FlowOp2.unwanted rfl fun a1 w1 cx => ?_
            obtain ⟨v68, s68, p68⟩ := cx.slot 40 68 (by kernel_rfl)
            replace p68 : v68 = .bool true := p68
            subst p68
            exact ⟨(wanted_no rfl rfl s68 (by decide)), rfl⟩
          case o42 =>
            refine FlowOp2.unwanted rfl fun a1 w1 cx => ?_
            obtain ⟨v68, s68, p68⟩ := cx.slot 40 68 (by kernel_rfl)
            replace p68 : v68 = .bool true := p68
            subst p68
            exact ⟨(wanted_no rfl rfl s68 (by decide)), rfl⟩
          case o43 =>
            refine FlowOp2.unwanted rfl fun a1 w1 cx => ?_
            obtain ⟨v68, s68, p68⟩ := cx.slot 40 68 (by kernel_rfl)
            replace p68 : v68 = .bool true := p68
            subst p68
            exact ⟨(wanted_no rfl rfl s68 (by decide)), rfl⟩
          case o44 =>
            refine FlowOp2.plain rfl fun a1 w1 cx => ?_
            obtain ⟨v56, s56, p56⟩ := cx.slot 28 56 (by kernel_rfl)
            replace p56 : v56 = .bool true := p56
            subst p56
            obtain ⟨v68, s68, p68⟩ := cx.slot 40 68 (by kernel_rfl)
            replace p68 : v68 = .bool true := p68
            subst p68
            obtain ⟨v71, s71, p71⟩ := cx.slot 43 71 (by kernel_rfl)
            replace p71 : v71 = undef := p71
            subst p71
            refine ⟨(wanted_yes rfl rfl s56), fun K hK => ?_⟩
            exact wp_picked _ _ _ rfl true (ev_tmp s68) (.bool true) rfl (hK.out _ _ rfl (Below.refl _ _) (no_block rfl))
          case o45 =>
            refine FlowOp2.plain rfl fun a1 w1 cx => ?_
            obtain ⟨v56, s56, p56⟩ := cx.slot 28 56 (by kernel_rfl)
            replace p56 : v56 = .bool true := p56
            subst p56
            obtain ⟨v59, s59, p59⟩ := cx.slot 31 59 (by kernel_rfl)
            replace p59 : v59 = .bool true := p59
            subst p59
            obtain ⟨v72, s72, p72⟩ := cx.slot 44 72 (by kernel_rfl)
            replace p72 : v72 = .bool true := p72
            subst p72
            refine ⟨(wanted_yes rfl rfl s56), fun K hK => ?_⟩
            refine wp_gen [(59, .bool true), (72, .bool true)] ⟨s59, s72, trivial⟩ (by kernel_rfl) (v := .bool true) (w' := w1) ?_ (hK.out _ _ rfl (Below.refl _ _) (no_block rfl))
            kernel_rfl
          case o46 =>
            refine FlowOp2.plain rfl fun a1 w1 cx => ?_
            obtain ⟨v56, s56, p56⟩ := cx.slot 28 56 (by kernel_rfl)
            replace p56 : v56 = .bool true := p56
            subst p56
            obtain ⟨v73, s73, p73⟩ := cx.slot 45 73 (by kernel_rfl)
            replace p73 : v73 = .bool true := p73
            subst p73
            refine ⟨(wanted_none rfl), fun K hK => ?_⟩
            exact wp_picked _ _ _ rfl true (ev_tmp s56) (.bool true) (ev_tmp s73) (hK.out _ _ rfl (Below.refl _ _) (no_block rfl))
          case o47 =>
            refine FlowOp2.plain rfl fun a1 w1 cx => ?_
            obtain ⟨v74, s74, p74⟩ := cx.slot 46 74 (by kernel_rfl)
            replace p74 : v74 = .bool true := p74
            subst p74
            refine ⟨(wanted_none rfl), fun K hK => ?_⟩
            exact wp_moved _ rfl _ (ev_tmp s74) (hK.out _ _ rfl (Below.refl _ _) (no_block rfl))
          case o48 =>
            refine FlowOp2.plain rfl fun a1 w1 cx => ?_
            obtain ⟨v75, s75, p75⟩ := cx.slot 47 75 (by kernel_rfl)
            replace p75 : v75 = .bool true := p75
            subst p75
            have s5 := cx.keep 5 _ (by kernel_rfl) s5
            have k5 := below_at k5 cx.below
            refine ⟨(wanted_yes rfl rfl s75), fun K hK => ?_⟩
            exact wp_loaded _ _ rfl g5 (ev_tmp s5) _ _ _ _ k5 Try.underlying32 rfl (by kernel_rfl) (hK.out _ _ rfl (Below.refl _ _) (no_block rfl))
          case o49 =>
            refine FlowOp2.plain rfl fun a1 w1 cx => ?_
            obtain ⟨v75, s75, p75⟩ := cx.slot 47 75 (by kernel_rfl)
            replace p75 : v75 = .bool true := p75
            subst p75
            obtain ⟨v76, s76, p76⟩ := cx.slot 48 76 (by kernel_rfl)
            replace p76 : v76 = .agg (aggW a) := p76
            subst p76
            refine ⟨(wanted_yes rfl rfl s75), fun K hK => ?_⟩
            refine wp_gen_call [(76, .agg (aggW a))] ⟨s76, trivial⟩ (vs := #[.agg (aggW a)]) (f := 24) (by kernel_rfl) (fun w => by kernel_rfl) ?_
            refine (mem_w a _).mono ?_
            rintro e w2 ⟨rfl, hb⟩
            exact ⟨_, rfl, hK.out _ _ rfl hb (no_block rfl)⟩
          case o50 =>
            refine FlowOp2.plain rfl fun a1 w1 cx => ?_
            obtain ⟨v75, s75, p75⟩ := cx.slot 47 75 (by kernel_rfl)
            replace p75 : v75 = .bool true := p75
            subst p75
            have s5 := cx.keep 5 _ (by kernel_rfl) s5
            have k5 := below_at k5 cx.below
            refine ⟨(wanted_yes rfl rfl s75), fun K hK => ?_⟩
            exact wp_loaded _ _ rfl g5 (ev_tmp s5) _ _ _ _ k5 Try.underlying32 rfl (by kernel_rfl) (hK.out _ _ rfl (Below.refl _ _) (no_block rfl))
          case o51 =>
            refine FlowOp2.plain rfl fun a1 w1 cx => ?_
            obtain ⟨v75, s75, p75⟩ := cx.slot 47 75 (by kernel_rfl)
            replace p75 : v75 = .bool true := p75
            subst p75
            obtain ⟨v77, s77, p77⟩ := cx.slot 49 77 (by kernel_rfl)
            replace p77 : v77 = .string (memS a) := p77
            subst p77
            obtain ⟨v78, s78, p78⟩ := cx.slot 50 78 (by kernel_rfl)
            replace p78 : v78 = .agg (aggW a) := p78
            subst p78
            refine ⟨(wanted_yes rfl rfl s75), fun K hK => ?_⟩
            refine wp_gen_call [(77, .string (memS a)), (78, .agg (aggW a))] ⟨s77, s78, trivial⟩ (vs := #[.string (memS a), .agg (aggW a)]) (f := 25) (by kernel_rfl) (fun w => by kernel_rfl) ?_
            refine (all_w a _).mono ?_
            rintro e w2 ⟨rfl, hb⟩
            exact ⟨_, rfl, hK.out _ _ rfl hb (no_block rfl)⟩
          case o52 =>
            refine FlowOp2.plain rfl fun a1 w1 cx => ?_
            obtain ⟨v75, s75, p75⟩ := cx.slot 47 75 (by kernel_rfl)
            replace p75 : v75 = .bool true := p75
            subst p75
            obtain ⟨v79, s79, p79⟩ := cx.slot 51 79 (by kernel_rfl)
            replace p79 : v79 = .bool true := p79
            subst p79
            refine ⟨(wanted_none rfl), fun K hK => ?_⟩
            exact wp_picked _ _ _ rfl true (ev_tmp s75) (.bool true) (ev_tmp s79) (hK.out _ _ rfl (Below.refl _ _) (no_block rfl))
          case o53 =>
            refine FlowOp2.plain rfl fun a1 w1 cx => ?_
            obtain ⟨v80, s80, p80⟩ := cx.slot 52 80 (by kernel_rfl)
            replace p80 : v80 = .bool true := p80
            subst p80
            refine ⟨(wanted_none rfl), fun K hK => ?_⟩
            exact wp_assigned _ rfl _ (ev_tmp s80) (hK.out _ _ rfl (Below.refl _ _) (no_block rfl))
          case hdone =>
            intro a1 w1 hb1 hz1 hd1 hk1 hg1
            obtain ⟨v4, s4, p4⟩ := got_slot hg1 53 4 (by kernel_rfl)
            replace p4 : v4 = .bool true := p4
            subst p4
            replace hbw := hbw.trans (hb1.mono hbw.size)
            replace hd := hd1.trans hd
            replace hz := hz1
            clear hg1 hk1 hb1 hz1 hd1
            replace HC := HC.out a1 w1
            refine HC ?_
            clear HC
            refine wp_ret ?_
            refine bodyPost_ret (v := .bool true) (by simp [results, Try.results5, s4]) hd ⟨rfl, hbw⟩
end Go.Proofs.Ytgfgkhgohoaneaa
