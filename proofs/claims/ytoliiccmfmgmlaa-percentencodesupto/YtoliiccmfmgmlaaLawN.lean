/-
  The walk of the law PercentEncodes: it returns true and turns nothing that was there. Conditions: the text has at most about a million bytes, and each word fits 64 bits.
-/
import Derived.Test.YtoliiccmfmgmlaaRno
import Derived.Test.YtoliiccmfmgmlaaUnw
import Derived.Test.YtoliiccmfmgmlaaFlow
import Derived.Deep.WholeRow
import Derived.WalkSmall
import Derived.KernelRfl
namespace Go.Proofs.Ytoliiccmfmgmlaa
open Go.RowKit
theorem row4 (X : Nat → Int) : rowOf .u64 4 X = #[.int .u64 (X 0), .int .u64 (X 1), .int .u64 (X 2), .int .u64 (X 3)] := by
  rfl
theorem unw_is (X : Nat → Int) (w : World) : Calls Try.prog 14 #[.agg #[.int .u64 (X 0), .int .u64 (X 1), .int .u64 (X 2), .int .u64 (X 3)]] w fun e w' => e = .returned (.agg (rowOf .u8 256 (bitv X))) ∧ Below w.heap.size w w' := by
  have := unw_any X w
  rw [row4] at this
  exact this
theorem bitv_has {X : Nat → Int} (hX : Words X) (b : Nat) : (bitv X b == 1) = hasB X b := by
  unfold bitv hasB
  obtain ⟨h0, h1⟩ := hX (b / 64)
  generalize X (b / 64) = x at *
  have hp : (0 : Int) < 2 ^ (b % 64) := Int.pow_pos (by omega)
  have a0 : 0 ≤ x / 2 ^ (b % 64) := Int.ediv_nonneg h0 (by omega)
  have a1 : x / 2 ^ (b % 64) ≤ x := Int.ediv_le_self _ h0
  rw [and_one_u64 _ a0 (by omega)]
  have e : x / 2 ^ (b % 64) % 2 % 256 = x / 2 ^ (b % 64) % 2 := by omega
  rw [e]
/-- What the law's own memory holds: the set's words in block b, its bytes in block m; below it nothing has turned. -/
theorem holds_below {w v v' : World} {X : Nat → Int} {b m : Nat} {cs : List Value}
    (h : v.cell? ⟨b, 0, none⟩ = some (.int .u64 (X 0)) ∧ v.cell? ⟨b, 1, none⟩ = some (.int .u64 (X 1)) ∧ v.cell? ⟨b, 2, none⟩ = some (.int .u64 (X 2)) ∧ v.cell? ⟨b, 3, none⟩ = some (.int .u64 (X 3)) ∧ v.rangeAt m 0 cs ∧ m < v.heap.size ∧ Below w.heap.size w v)
    (hb : Below v.heap.size v v') :
    v'.cell? ⟨b, 0, none⟩ = some (.int .u64 (X 0)) ∧ v'.cell? ⟨b, 1, none⟩ = some (.int .u64 (X 1)) ∧ v'.cell? ⟨b, 2, none⟩ = some (.int .u64 (X 2)) ∧ v'.cell? ⟨b, 3, none⟩ = some (.int .u64 (X 3)) ∧ v'.rangeAt m 0 cs ∧ m < v'.heap.size ∧ Below w.heap.size w v' := by
  obtain ⟨h0, h1, h2, h3, hr, hm, hi⟩ := h
  have lb : b < v.heap.size := block_lt_of_cell h0
  refine ⟨?_, ?_, ?_, ?_, ?_, ?_, ?_⟩
  · rw [hb.cell lb]; exact h0
  · rw [hb.cell lb]; exact h1
  · rw [hb.cell lb]; exact h2
  · rw [hb.cell lb]; exact h3
  · intro j u hu
    rw [hb.cell hm]; exact hr j u hu
  · have := hb.size; omega
  · exact hi.trans (hb.mono hi.size)
theorem holds_drew {w v : World} {X : Nat → Int} {b m : Nat} {cs : List Value}
    (h : v.cell? ⟨b, 0, none⟩ = some (.int .u64 (X 0)) ∧ v.cell? ⟨b, 1, none⟩ = some (.int .u64 (X 1)) ∧ v.cell? ⟨b, 2, none⟩ = some (.int .u64 (X 2)) ∧ v.cell? ⟨b, 3, none⟩ = some (.int .u64 (X 3)) ∧ v.rangeAt m 0 cs ∧ m < v.heap.size ∧ Below w.heap.size w v) :
    v.drew.cell? ⟨b, 0, none⟩ = some (.int .u64 (X 0)) ∧ v.drew.cell? ⟨b, 1, none⟩ = some (.int .u64 (X 1)) ∧ v.drew.cell? ⟨b, 2, none⟩ = some (.int .u64 (X 2)) ∧ v.drew.cell? ⟨b, 3, none⟩ = some (.int .u64 (X 3)) ∧ v.drew.rangeAt m 0 cs ∧ m < v.drew.heap.size ∧ Below w.heap.size w v.drew :=
  ⟨h.1, h.2.1, h.2.2.1, h.2.2.2.1, h.2.2.2.2.1, h.2.2.2.2.2.1, h.2.2.2.2.2.2.drew⟩
theorem holds_end {w v : World} {X : Nat → Int} {b m : Nat} {cs : List Value}
    (h : v.cell? ⟨b, 0, none⟩ = some (.int .u64 (X 0)) ∧ v.cell? ⟨b, 1, none⟩ = some (.int .u64 (X 1)) ∧ v.cell? ⟨b, 2, none⟩ = some (.int .u64 (X 2)) ∧ v.cell? ⟨b, 3, none⟩ = some (.int .u64 (X 3)) ∧ v.rangeAt m 0 cs ∧ m < v.heap.size ∧ Below w.heap.size w v) : Below w.heap.size w v := h.2.2.2.2.2.2
theorem str_eq (A : ByteArray) (t u : Nat) (o : Oper) (ho : o.op = .binOp .eql 9 (.tmp t) (.tmp u) 9) (hne : (u == t) = false) (w : World) : (execOp (rho [(t, .string A), (u, .string A)]) o).run Try.prog w = .ok (.value (.bool true)) w := by
  have e1 : rho [(t, .string A), (u, .string A)] (.tmp t) = .string A := by simp [rho]
  have e2 : rho [(t, .string A), (u, .string A)] (.tmp u) = .string A := by simp [rho, List.lookup, hne]
  have h1 : (eqGuard .eql 9 (.tmp t) (.tmp u) (.string A) (.string A)).run Try.prog w = .ok () w := by kernel_rfl
  have h2 : (binOp .eql 9 (.string A) (.string A)).run Try.prog w = .ok (.bool true) w := by
    simp [go_sem]
  unfold execOp
  simp only [ho, e1, e2, Sem.run_bind, h1, h2, Result.andThen_ok, Sem.run_pure]
attribute [local go_sem] rowOf_size rowOf_set isRow_at isRow_past rowIn_at rowIn_past setRow_at setRow_past
attribute [local go_sem] st_at
set_option maxRecDepth 100000 in
set_option maxHeartbeats 2000000 in
theorem lawN (s : ByteArray) (X : Nat → Int) (w : World) (hs : s.size ≤ 1048576) (hX : Words X) : Calls Try.prog 4 #[.string s, .agg #[.int .u64 (X 0), .int .u64 (X 1), .int .u64 (X 2), .int .u64 (X 3)]] w fun e w' => e = .returned (.bool true) ∧ Below w.heap.size w w' := by
  obtain ⟨hz, hi⟩ := zero_of_info info38
  clear hi
  have k15 := fun w => enc_any (hasB X) s w (by omega)
  have k17 := fun w => normal_any (hasB X) s w (by omega)
  rw [← wd_of hX 0, ← wd_of hX 1, ← wd_of hX 2, ← wd_of hX 3] at k15 k17
  have k16 := fun w => renc_any (hasB X) (bitv X) (fun b _ => bitv_has hX b) s w (by omega)
  have k18 := fun w => rnormal_any (hasB X) (bitv X) (fun b _ => bitv_has hX b) s w (by omega)
  obtain ⟨A, hA⟩ : ∃ A, encB (hasB X) s = A := ⟨_, rfl⟩
  obtain ⟨B, hB⟩ : ∃ B, encB (withP (hasB X)) (decB s) = B := ⟨_, rfl⟩
  rw [hA] at k15 k16; rw [hB] at k17 k18
  clear hA hB hX
  go_enter Try.func4, Try.ntmps4
  go_wp2_with (go_at_call 14; refine (unw_is X _).mono ?_)
  rintro e w1 ⟨rfl, hb1⟩
  have hz1 : w.heap.size < w1.heap.size := by have := hb1.size; simp at this; omega
  have hc0 : w1.cell? ⟨w.heap.size, 0, none⟩ = some (.int .u64 (X 0)) := (hb1.cell (p := ⟨w.heap.size, 0, none⟩) (by simp)).trans (by simp)
  have hc1 : w1.cell? ⟨w.heap.size, 1, none⟩ = some (.int .u64 (X 1)) := (hb1.cell (p := ⟨w.heap.size, 1, none⟩) (by simp)).trans (by simp)
  have hc2 : w1.cell? ⟨w.heap.size, 2, none⟩ = some (.int .u64 (X 2)) := (hb1.cell (p := ⟨w.heap.size, 2, none⟩) (by simp)).trans (by simp)
  have hc3 : w1.cell? ⟨w.heap.size, 3, none⟩ = some (.int .u64 (X 3)) := (hb1.cell (p := ⟨w.heap.size, 3, none⟩) (by simp)).trans (by simp)
  go_wp2_with fail
  rename_i Q' K' hcont
  obtain ⟨V, hV⟩ : ∃ V, w1.alloc (.cells (rowOf .u8 256 (bitv X)) 38) = V := ⟨_, rfl⟩
  have k3 : V.heap[w.heap.size]? = some (.cells #[.int .u64 (X 0), .int .u64 (X 1), .int .u64 (X 2), .int .u64 (X 3)] 36 (0, 0)) := by
    rw [← hV, Below.heap_alloc _ _ _ hz1, hb1.block _ (by simp)]
    exact World.alloc_heap_new _ _
  have k5 : V.heap[w1.heap.size]? = some (.cells (rowOf .u8 256 (bitv X)) 38 (0, 0)) := by rw [← hV]; exact World.alloc_heap_new _ _
  have hbw : Below w.heap.size w V := by rw [← hV]; exact (((Below.refl _ _).alloc (by simp) _).trans (hb1.mono (by simp))).alloc (by omega) _
  rw [hV]
  clear hV hc0 hc1 hc2 hc3 hz hb1
  refine wp_abs 27 rfl fun a0 hz hd hs => ?_
  have s0 : a0.tmps[0]? = some (.string s) := hs 0
  have s3 : a0.tmps[3]? = some (.pointer (some ⟨w.heap.size, 0, none⟩)) := hs 3
  have s5 : a0.tmps[5]? = some (.pointer (some ⟨w1.heap.size, 0, none⟩)) := hs 5
  replace hd : a0.defers = [] := hd
  clear hs
  have HC : Shut _ := hcont
  clear hcont
  obtain ⟨g3, e3⟩ : ∃ B, w.heap.size = B := ⟨_, rfl⟩
  obtain ⟨g5, e5⟩ : ∃ B, w1.heap.size = B := ⟨_, rfl⟩
  rw [e3] at k3 s3; rw [e5] at k5 s5
  refine wp_region_flow (nthP [isV (.bool true), isV (.bool true), isV (.string s), isV (.agg (#[.int .u64 (X 0), .int .u64 (X 1), .int .u64 (X 2), .int .u64 (X 3)])), isV (.string A), isV (.string s), isV (.agg (rowOf .u8 256 (bitv X))), isV (.string A), isV (.bool true), isV (.bool true), isV (.bool true), isV (.string s), isV (.agg (#[.int .u64 (X 0), .int .u64 (X 1), .int .u64 (X 2), .int .u64 (X 3)])), isV (.string B), isV (.string s), isV (.agg (rowOf .u8 256 (bitv X))), isV (.string B), isV (.bool true), isV (.bool true), isV (.bool true)]) 27 (by assumption) (by kernel_rfl) (by kernel_rfl) (by kernel_rfl) (nthP_stays ⟨Stays.isV, Stays.isV, Stays.isV, Stays.isV, Stays.isV, Stays.isV, Stays.isV, Stays.isV, Stays.isV, Stays.isV, Stays.isV, Stays.isV, Stays.isV, Stays.isV, Stays.isV, Stays.isV, Stays.isV, Stays.isV, Stays.isV, Stays.isV, trivial⟩) (noStore (by kernel_rfl)) ⟨?o0, ?o1, ?o2, ?o3, ?o4, ?o5, ?o6, ?o7, ?o8, ?o9, ?o10, ?o11, ?o12, ?o13, ?o14, ?o15, ?o16, ?o17, ?o18, ?o19, trivial⟩ ?hdone
  case o0 =>
    refine FlowOp2.plain rfl fun a1 w1 cx => ?_
    refine ⟨(wanted_none rfl), fun K hK => ?_⟩
    refine wp_gen_call [] trivial (vs := #[]) (f := 9) (by kernel_rfl) (fun w => by kernel_rfl) ?_
    refine (awake_any _).mono ?_
    rintro e w2 ⟨rfl, hb⟩
    exact ⟨_, rfl, hK.out _ _ rfl hb (no_block rfl)⟩
  case o1 =>
    refine FlowOp2.plain rfl fun a1 w1 cx => ?_
    obtain ⟨v8, s8, p8⟩ := cx.slot 0 8 (by kernel_rfl)
    replace p8 : v8 = .bool true := p8
    subst p8
    refine ⟨(wanted_none rfl), fun K hK => ?_⟩
    exact wp_moved _ rfl _ (ev_tmp s8) (hK.out _ _ rfl (Below.refl _ _) (no_block rfl))
  case o2 =>
    refine FlowOp2.plain rfl fun a1 w1 cx => ?_
    obtain ⟨v9, s9, p9⟩ := cx.slot 1 9 (by kernel_rfl)
    replace p9 : v9 = .bool true := p9
    subst p9
    have s0 := cx.keep 0 _ (by kernel_rfl) s0
    refine ⟨(wanted_yes rfl rfl s9), fun K hK => ?_⟩
    exact wp_moved _ rfl _ (ev_tmp s0) (hK.out _ _ rfl (Below.refl _ _) (no_block rfl))
  case o3 =>
    refine FlowOp2.plain rfl fun a1 w1 cx => ?_
    obtain ⟨v9, s9, p9⟩ := cx.slot 1 9 (by kernel_rfl)
    replace p9 : v9 = .bool true := p9
    subst p9
    have s3 := cx.keep 3 _ (by kernel_rfl) s3
    have k3 := below_at k3 cx.below
    refine ⟨(wanted_yes rfl rfl s9), fun K hK => ?_⟩
    exact wp_loaded _ _ rfl g3 (ev_tmp s3) _ _ _ _ k3 Try.underlying36 rfl (by kernel_rfl) (hK.out _ _ rfl (Below.refl _ _) (no_block rfl))
  case o4 =>
    refine FlowOp2.plain rfl fun a1 w1 cx => ?_
    obtain ⟨v9, s9, p9⟩ := cx.slot 1 9 (by kernel_rfl)
    replace p9 : v9 = .bool true := p9
    subst p9
    obtain ⟨v10, s10, p10⟩ := cx.slot 2 10 (by kernel_rfl)
    replace p10 : v10 = .string s := p10
    subst p10
    obtain ⟨v11, s11, p11⟩ := cx.slot 3 11 (by kernel_rfl)
    replace p11 : v11 = .agg (#[.int .u64 (X 0), .int .u64 (X 1), .int .u64 (X 2), .int .u64 (X 3)]) := p11
    subst p11
    refine ⟨(wanted_yes rfl rfl s9), fun K hK => ?_⟩
    refine wp_gen_call [(10, .string s), (11, .agg (#[.int .u64 (X 0), .int .u64 (X 1), .int .u64 (X 2), .int .u64 (X 3)]))] ⟨s10, s11, trivial⟩ (vs := #[.string s, .agg (#[.int .u64 (X 0), .int .u64 (X 1), .int .u64 (X 2), .int .u64 (X 3)])]) (f := 15) (by kernel_rfl) (fun w => by kernel_rfl) ?_
    refine (k15 _).mono ?_
    rintro e w2 ⟨rfl, hb⟩
    exact ⟨_, rfl, hK.out _ _ rfl hb (no_block rfl)⟩
  case o5 =>
    refine FlowOp2.plain rfl fun a1 w1 cx => ?_
    obtain ⟨v9, s9, p9⟩ := cx.slot 1 9 (by kernel_rfl)
    replace p9 : v9 = .bool true := p9
    subst p9
    have s0 := cx.keep 0 _ (by kernel_rfl) s0
    refine ⟨(wanted_yes rfl rfl s9), fun K hK => ?_⟩
    exact wp_moved _ rfl _ (ev_tmp s0) (hK.out _ _ rfl (Below.refl _ _) (no_block rfl))
  case o6 =>
    refine FlowOp2.plain rfl fun a1 w1 cx => ?_
    obtain ⟨v9, s9, p9⟩ := cx.slot 1 9 (by kernel_rfl)
    replace p9 : v9 = .bool true := p9
    subst p9
    have s5 := cx.keep 5 _ (by kernel_rfl) s5
    have k5 := below_at k5 cx.below
    refine ⟨(wanted_yes rfl rfl s9), fun K hK => ?_⟩
    exact wp_loaded _ _ rfl g5 (ev_tmp s5) _ _ _ _ k5 Try.underlying38 rfl (by kernel_rfl) (hK.out _ _ rfl (Below.refl _ _) (no_block rfl))
  case o7 =>
    refine FlowOp2.plain rfl fun a1 w1 cx => ?_
    obtain ⟨v9, s9, p9⟩ := cx.slot 1 9 (by kernel_rfl)
    replace p9 : v9 = .bool true := p9
    subst p9
    obtain ⟨v13, s13, p13⟩ := cx.slot 5 13 (by kernel_rfl)
    replace p13 : v13 = .string s := p13
    subst p13
    obtain ⟨v14, s14, p14⟩ := cx.slot 6 14 (by kernel_rfl)
    replace p14 : v14 = .agg (rowOf .u8 256 (bitv X)) := p14
    subst p14
    refine ⟨(wanted_yes rfl rfl s9), fun K hK => ?_⟩
    refine wp_gen_call [(13, .string s), (14, .agg (rowOf .u8 256 (bitv X)))] ⟨s13, s14, trivial⟩ (vs := #[.string s, .agg (rowOf .u8 256 (bitv X))]) (f := 16) (by kernel_rfl) (fun w => by kernel_rfl) ?_
    refine (k16 _).mono ?_
    rintro e w2 ⟨rfl, hb⟩
    exact ⟨_, rfl, hK.out _ _ rfl hb (no_block rfl)⟩
  case o8 =>
    refine FlowOp2.plain rfl fun a1 w1 cx => ?_
    obtain ⟨v9, s9, p9⟩ := cx.slot 1 9 (by kernel_rfl)
    replace p9 : v9 = .bool true := p9
    subst p9
    obtain ⟨v12, s12, p12⟩ := cx.slot 4 12 (by kernel_rfl)
    replace p12 : v12 = .string A := p12
    subst p12
    obtain ⟨v15, s15, p15⟩ := cx.slot 7 15 (by kernel_rfl)
    replace p15 : v15 = .string A := p15
    subst p15
    refine ⟨(wanted_yes rfl rfl s9), fun K hK => ?_⟩
    refine wp_gen [(12, .string A), (15, .string A)] ⟨s12, s15, trivial⟩ (by kernel_rfl) (v := .bool true) (w' := w1) ?_ (hK.out _ _ rfl (Below.refl _ _) (no_block rfl))
    exact str_eq A 12 15 _ rfl rfl w1
  case o9 =>
    refine FlowOp2.plain rfl fun a1 w1 cx => ?_
    obtain ⟨v9, s9, p9⟩ := cx.slot 1 9 (by kernel_rfl)
    replace p9 : v9 = .bool true := p9
    subst p9
    obtain ⟨v16, s16, p16⟩ := cx.slot 8 16 (by kernel_rfl)
    replace p16 : v16 = .bool true := p16
    subst p16
    refine ⟨(wanted_none rfl), fun K hK => ?_⟩
    exact wp_picked _ _ _ rfl true (ev_tmp s9) (.bool true) (ev_tmp s16) (hK.out _ _ rfl (Below.refl _ _) (no_block rfl))
  case o10 =>
    refine FlowOp2.plain rfl fun a1 w1 cx => ?_
    obtain ⟨v17, s17, p17⟩ := cx.slot 9 17 (by kernel_rfl)
    replace p17 : v17 = .bool true := p17
    subst p17
    refine ⟨(wanted_none rfl), fun K hK => ?_⟩
    exact wp_moved _ rfl _ (ev_tmp s17) (hK.out _ _ rfl (Below.refl _ _) (no_block rfl))
  case o11 =>
    refine FlowOp2.plain rfl fun a1 w1 cx => ?_
    obtain ⟨v18, s18, p18⟩ := cx.slot 10 18 (by kernel_rfl)
    replace p18 : v18 = .bool true := p18
    subst p18
    have s0 := cx.keep 0 _ (by kernel_rfl) s0
    refine ⟨(wanted_yes rfl rfl s18), fun K hK => ?_⟩
    exact wp_moved _ rfl _ (ev_tmp s0) (hK.out _ _ rfl (Below.refl _ _) (no_block rfl))
  case o12 =>
    refine FlowOp2.plain rfl fun a1 w1 cx => ?_
    obtain ⟨v18, s18, p18⟩ := cx.slot 10 18 (by kernel_rfl)
    replace p18 : v18 = .bool true := p18
    subst p18
    have s3 := cx.keep 3 _ (by kernel_rfl) s3
    have k3 := below_at k3 cx.below
    refine ⟨(wanted_yes rfl rfl s18), fun K hK => ?_⟩
    exact wp_loaded _ _ rfl g3 (ev_tmp s3) _ _ _ _ k3 Try.underlying36 rfl (by kernel_rfl) (hK.out _ _ rfl (Below.refl _ _) (no_block rfl))
  case o13 =>
    refine FlowOp2.plain rfl fun a1 w1 cx => ?_
    obtain ⟨v18, s18, p18⟩ := cx.slot 10 18 (by kernel_rfl)
    replace p18 : v18 = .bool true := p18
    subst p18
    obtain ⟨v19, s19, p19⟩ := cx.slot 11 19 (by kernel_rfl)
    replace p19 : v19 = .string s := p19
    subst p19
    obtain ⟨v20, s20, p20⟩ := cx.slot 12 20 (by kernel_rfl)
    replace p20 : v20 = .agg (#[.int .u64 (X 0), .int .u64 (X 1), .int .u64 (X 2), .int .u64 (X 3)]) := p20
    subst p20
    refine ⟨(wanted_yes rfl rfl s18), fun K hK => ?_⟩
    refine wp_gen_call [(19, .string s), (20, .agg (#[.int .u64 (X 0), .int .u64 (X 1), .int .u64 (X 2), .int .u64 (X 3)]))] ⟨s19, s20, trivial⟩ (vs := #[.string s, .agg (#[.int .u64 (X 0), .int .u64 (X 1), .int .u64 (X 2), .int .u64 (X 3)])]) (f := 17) (by kernel_rfl) (fun w => by kernel_rfl) ?_
    refine (k17 _).mono ?_
    rintro e w2 ⟨rfl, hb⟩
    exact ⟨_, rfl, hK.out _ _ rfl hb (no_block rfl)⟩
  case o14 =>
    refine FlowOp2.plain rfl fun a1 w1 cx => ?_
    obtain ⟨v18, s18, p18⟩ := cx.slot 10 18 (by kernel_rfl)
    replace p18 : v18 = .bool true := p18
    subst p18
    have s0 := cx.keep 0 _ (by kernel_rfl) s0
    refine ⟨(wanted_yes rfl rfl s18), fun K hK => ?_⟩
    exact wp_moved _ rfl _ (ev_tmp s0) (hK.out _ _ rfl (Below.refl _ _) (no_block rfl))
  case o15 =>
    refine FlowOp2.plain rfl fun a1 w1 cx => ?_
    obtain ⟨v18, s18, p18⟩ := cx.slot 10 18 (by kernel_rfl)
    replace p18 : v18 = .bool true := p18
    subst p18
    have s5 := cx.keep 5 _ (by kernel_rfl) s5
    have k5 := below_at k5 cx.below
    refine ⟨(wanted_yes rfl rfl s18), fun K hK => ?_⟩
    exact wp_loaded _ _ rfl g5 (ev_tmp s5) _ _ _ _ k5 Try.underlying38 rfl (by kernel_rfl) (hK.out _ _ rfl (Below.refl _ _) (no_block rfl))
  case o16 =>
    refine FlowOp2.plain rfl fun a1 w1 cx => ?_
    obtain ⟨v18, s18, p18⟩ := cx.slot 10 18 (by kernel_rfl)
    replace p18 : v18 = .bool true := p18
    subst p18
    obtain ⟨v22, s22, p22⟩ := cx.slot 14 22 (by kernel_rfl)
    replace p22 : v22 = .string s := p22
    subst p22
    obtain ⟨v23, s23, p23⟩ := cx.slot 15 23 (by kernel_rfl)
    replace p23 : v23 = .agg (rowOf .u8 256 (bitv X)) := p23
    subst p23
    refine ⟨(wanted_yes rfl rfl s18), fun K hK => ?_⟩
    refine wp_gen_call [(22, .string s), (23, .agg (rowOf .u8 256 (bitv X)))] ⟨s22, s23, trivial⟩ (vs := #[.string s, .agg (rowOf .u8 256 (bitv X))]) (f := 18) (by kernel_rfl) (fun w => by kernel_rfl) ?_
    refine (k18 _).mono ?_
    rintro e w2 ⟨rfl, hb⟩
    exact ⟨_, rfl, hK.out _ _ rfl hb (no_block rfl)⟩
  case o17 =>
    refine FlowOp2.plain rfl fun a1 w1 cx => ?_
    obtain ⟨v18, s18, p18⟩ := cx.slot 10 18 (by kernel_rfl)
    replace p18 : v18 = .bool true := p18
    subst p18
    obtain ⟨v21, s21, p21⟩ := cx.slot 13 21 (by kernel_rfl)
    replace p21 : v21 = .string B := p21
    subst p21
    obtain ⟨v24, s24, p24⟩ := cx.slot 16 24 (by kernel_rfl)
    replace p24 : v24 = .string B := p24
    subst p24
    refine ⟨(wanted_yes rfl rfl s18), fun K hK => ?_⟩
    refine wp_gen [(21, .string B), (24, .string B)] ⟨s21, s24, trivial⟩ (by kernel_rfl) (v := .bool true) (w' := w1) ?_ (hK.out _ _ rfl (Below.refl _ _) (no_block rfl))
    exact str_eq B 21 24 _ rfl rfl w1
  case o18 =>
    refine FlowOp2.plain rfl fun a1 w1 cx => ?_
    obtain ⟨v18, s18, p18⟩ := cx.slot 10 18 (by kernel_rfl)
    replace p18 : v18 = .bool true := p18
    subst p18
    obtain ⟨v25, s25, p25⟩ := cx.slot 17 25 (by kernel_rfl)
    replace p25 : v25 = .bool true := p25
    subst p25
    refine ⟨(wanted_none rfl), fun K hK => ?_⟩
    exact wp_picked _ _ _ rfl true (ev_tmp s18) (.bool true) (ev_tmp s25) (hK.out _ _ rfl (Below.refl _ _) (no_block rfl))
  case o19 =>
    refine FlowOp2.plain rfl fun a1 w1 cx => ?_
    obtain ⟨v26, s26, p26⟩ := cx.slot 18 26 (by kernel_rfl)
    replace p26 : v26 = .bool true := p26
    subst p26
    refine ⟨(wanted_none rfl), fun K hK => ?_⟩
    exact wp_assigned _ rfl _ (ev_tmp s26) (hK.out _ _ rfl (Below.refl _ _) (no_block rfl))
  case hdone =>
    intro a1 w2 hb1 hz1 hd1 hk1 hg1
    obtain ⟨v4, s4, p4⟩ := got_slot hg1 19 4 (by kernel_rfl)
    replace p4 : v4 = .bool true := p4
    subst p4
    replace hbw := hbw.trans (hb1.mono hbw.size)
    replace hd := hd1.trans hd
    clear hg1 hk1 hb1 hd1
    replace HC := HC.out a1 w2
    refine HC ?_
    clear HC
    refine wp_ret ?_
    refine bodyPost_ret (v := .bool true) (by simp [results, Try.results4, s4]) hd ⟨rfl, hbw⟩
end Go.Proofs.Ytoliiccmfmgmlaa
