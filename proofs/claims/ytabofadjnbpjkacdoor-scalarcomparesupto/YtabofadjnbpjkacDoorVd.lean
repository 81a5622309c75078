/-
  The contract of escapeUnit, and what is escaped. No conditions but that the unit is one.
-/
import Derived.Test.YtabofadjnbpjkacDoorVc
import Derived.Test.YtabofadjnbpjkacDoorRe
namespace Go.Proofs.YtabofadjnbpjkacDoor
open Go.RowKit Go.Lib
/-- A digit of base sixteen. -/
def dg (i : Int) : Int := if i < 10 then 48 + i else 87 + i
/-- What is written for a unit. -/
def hx4 (u : Int) : List Int := [92, 117, dg (u / 4096), dg (u / 256 % 16), dg (u / 16 % 16), dg (u % 16)]
/-- What is written for a scalar value. -/
def esc1 (r : Int) : List Int := if 32 ≤ r ∧ r ≤ 126 ∧ r ≠ 92 then [r] else (un1 r).flatMap hx4
theorem dg_range (i : Int) (h0 : 0 ≤ i) (h1 : i < 16) : 0 ≤ dg i ∧ dg i < 256 := by unfold dg; split <;> omega
theorem hx4_range (u : Int) (h0 : 0 ≤ u) (h1 : u < 65536) : ∀ z ∈ hx4 u, 0 ≤ z ∧ z < 256 := by
  intro z hz
  simp only [hx4, List.mem_cons, List.mem_nil_iff, or_false] at hz
  rcases hz with rfl | rfl | rfl | rfl | rfl | rfl
  · omega
  · omega
  · exact dg_range _ (by omega) (by omega)
  · exact dg_range _ (by omega) (by omega)
  · exact dg_range _ (by omega) (by omega)
  · exact dg_range _ (by omega) (by omega)
theorem and15 (x : Int) (h0 : 0 ≤ x) (hx : x < 65536) : bits .and .u16 x 15 = x % 16 := by
  obtain ⟨n, rfl⟩ := Int.eq_ofNat_of_zero_le h0
  have h1 : (BitVec.ofInt 16 (n : Int)).toNat = n := by
    rw [BitVec.ofInt_natCast, BitVec.toNat_ofNat]; exact Nat.mod_eq_of_lt (by omega)
  have h2 : (BitVec.ofInt 16 (15 : Int)).toNat = 15 := by decide
  have h3 : n &&& 15 = n % 16 := Nat.and_two_pow_sub_one_eq_mod n 4
  show IntKind.u16.wrap ((BitVec.ofInt 16 (n : Int) &&& BitVec.ofInt 16 (15 : Int)).toNat : Int) = _
  rw [BitVec.toNat_and, h1, h2, h3]
  rw [IntKind.wrap_u16]; omega
theorem run_shr12 (w : World) (t : Nat) (u : Int) (_h0 : 0 ≤ u) (_h1 : u < 65536) (o : Oper) (ho : o.op = .binOp .shr 30 (.tmp t) (.const (.int .u64 12)) 76) : (execOp (rho [(t, .int .u16 u)]) o).run Tryd.prog w = .ok (.value (.int .u16 (u / 4096))) w := by
  unfold execOp
  simp [ho, rho, go_sem]
theorem run_shr8 (w : World) (t : Nat) (u : Int) (_h0 : 0 ≤ u) (_h1 : u < 65536) (o : Oper) (ho : o.op = .binOp .shr 30 (.tmp t) (.const (.int .u64 8)) 76) : (execOp (rho [(t, .int .u16 u)]) o).run Tryd.prog w = .ok (.value (.int .u16 (u / 256))) w := by
  unfold execOp
  simp [ho, rho, go_sem]
theorem run_shr4 (w : World) (t : Nat) (u : Int) (_h0 : 0 ≤ u) (_h1 : u < 65536) (o : Oper) (ho : o.op = .binOp .shr 30 (.tmp t) (.const (.int .u64 4)) 76) : (execOp (rho [(t, .int .u16 u)]) o).run Tryd.prog w = .ok (.value (.int .u16 (u / 16))) w := by
  unfold execOp
  simp [ho, rho, go_sem]
theorem run_and15 (w : World) (t : Nat) (u : Int) (h0 : 0 ≤ u) (h1 : u < 65536) (o : Oper) (ho : o.op = .binOp .and 30 (.tmp t) (.const (.int .u16 15)) 30) : (execOp (rho [(t, .int .u16 u)]) o).run Tryd.prog w = .ok (.value (.int .u16 (u % 16))) w := by
  unfold execOp
  simp [ho, rho, go_sem, and15 u h0 h1]
theorem run_quo (w : World) (t : Nat) (u d : Int) (h0 : 0 ≤ u) (h1 : u < 65536) (hd : 0 < d) (o : Oper) (ho : o.op = .binOp .quo 30 (.tmp t) (.const (.int .u16 d)) 30) : (execOp (rho [(t, .int .u16 u)]) o).run Tryd.prog w = .ok (.value (.int .u16 (u / d))) w := by
  have e0 : (d == 0) = false := beq_false_of_ne (by omega)
  have e1 : ¬ d = 0 := by omega
  have q0 : 0 ≤ u / d := Int.ediv_nonneg h0 (by omega)
  have q1 : u / d ≤ u := Int.ediv_le_self _ h0
  unfold execOp
  simp [ho, rho, go_sem, e1]
  rw [Int.tdiv_eq_ediv_of_nonneg h0, IntKind.wrap_u16]
  omega
theorem run_rem (w : World) (t : Nat) (u : Int) (h0 : 0 ≤ u) (_h1 : u < 65536) (o : Oper) (ho : o.op = .binOp .rem 30 (.tmp t) (.const (.int .u16 16)) 30) : (execOp (rho [(t, .int .u16 u)]) o).run Tryd.prog w = .ok (.value (.int .u16 (u % 16))) w := by
  unfold execOp
  simp [ho, rho, go_sem]
  rw [Int.tmod_eq_emod_of_nonneg h0]
theorem dig_at : ∀ n : Fin 16, ((#[48, 49, 50, 51, 52, 53, 54, 55, 56, 57, 97, 98, 99, 100, 101, 102] : Array UInt8)[n.val]'(by simp)).toNat = (if n.val < 10 then 48 + n.val else 87 + n.val) := by decide
theorem run_dig (w : World) (t : Nat) (u : Int) (h0 : 0 ≤ u) (h1 : u < 16) (o : Oper) (ho : o.op = .index 9 (.const (.string ⟨#[48, 49, 50, 51, 52, 53, 54, 55, 56, 57, 97, 98, 99, 100, 101, 102]⟩)) (.tmp t)) : (execOp (rho [(t, .int .u16 u)]) o).run Tryd.prog w = .ok (.value (.int .u8 (dg u))) w := by
  obtain ⟨n, rfl⟩ := Int.eq_ofNat_of_zero_le h0
  have hn : n < 16 := by omega
  unfold execOp
  simp [ho, rho, go_sem]
  have e := dig_at ⟨n, hn⟩
  rw [dif_pos h1]
  show Result.ok (Next.value (Value.int .u8 (((#[48, 49, 50, 51, 52, 53, 54, 55, 56, 57, 97, 98, 99, 100, 101, 102] : Array UInt8)[n]'(by simpa using hn)).toNat : Int))) w = _
  rw [e]
  unfold dg
  simp only
  by_cases c : n < 10
  · rw [if_pos c, if_pos (by omega)]; simp
  · rw [if_neg c, if_neg (by omega)]; simp
theorem run_str (w : World) (t : Nat) (v : Value) (b0 : Nat) (zs : List Int) (_hz : ∀ z ∈ zs, 0 ≤ z ∧ z < 256) (h : w.ownsRow b0 5 1 v zs.length (zs.map fun z => Value.int .u8 z)) (o : Oper) (ho : o.op = .convert 45 9 (.tmp t)) : (execOp (rho [(t, v)]) o).run Tryd.prog w = .ok (.value (.string (strOfNums zs))) w := by
  have hr := string_own 45 5 9 h Tryd.underlying45 Tryd.underlying5 Tryd.underlying9
  unfold execOp
  simp only [ho, Sem.run_bind, Sem.run_pure]
  have e : rho [(t, v)] (.tmp t) = v := by simp [rho]
  rw [e, hr]
  rfl
/-- What is said of the slots of escapeUnit's region. -/
def lE (u : Int) (b0 : Nat) : List (Value → World → Prop) :=
  [isV (.int .u16 u), isV (.int .u16 (u / 4096)), isV (.int .u8 (dg (u / 4096))), isV (.int .u16 u), isV (.int .u16 (u / 256)), isV (.int .u16 (u / 256 % 16)), isV (.int .u8 (dg (u / 256 % 16))), isV (.int .u16 u), isV (.int .u16 (u / 16)), isV (.int .u16 (u / 16 % 16)), isV (.int .u8 (dg (u / 16 % 16))), isV (.int .u16 u), isV (.int .u16 (u % 16)), isV (.int .u8 (dg (u % 16))), fun v w => w.ownsRow b0 5 1 v 6 ((hx4 u).map fun z => Value.int .u8 z), isV (.string (strOfNums (hx4 u))), isV (.string (strOfNums (hx4 u)))]
theorem lE_stays {u : Int} {b0 : Nat} : AllP Stays (lE u b0) := by
  refine ⟨Stays.isV, Stays.isV, Stays.isV, Stays.isV, Stays.isV, Stays.isV, Stays.isV, Stays.isV, Stays.isV, Stays.isV, Stays.isV, Stays.isV, Stays.isV, Stays.isV, ?_, Stays.isV, Stays.isV, trivial⟩
  exact fun _ _ _ h hb => owns_below h hb
theorem own_six (w : World) (b0 : Nat) (hb : b0 ≤ w.heap.size) (a b c d e f : Int) : (w.alloc (.cells #[.int .u8 a, .int .u8 b, .int .u8 c, .int .u8 d, .int .u8 e, .int .u8 f] 5)).ownsRow b0 5 1 (.slice (some ⟨w.heap.size, 0, none⟩) 6 6) 6 (([a, b, c, d, e, f] : List Int).map fun z => Value.int .u8 z) := ⟨rfl, .inr ⟨_, _, _, rfl, hb, World.alloc_heap_new _ _, Nat.le_refl _, by decide, rfl, rfl⟩⟩
set_option maxRecDepth 100000 in
set_option maxHeartbeats 2000000 in
theorem escU_any (u : Int) (w : World) (h0 : 0 ≤ u) (h1 : u < 65536) : Calls Tryd.prog 23 #[.int .u16 u] w fun e w' => e = .returned (.string (strOfNums (hx4 u))) ∧ Below w.heap.size w w' := by
  go_enter Tryd.func23, Tryd.ntmps23
  go_wp2
  refine wp_keep fun a0 ha0 => ?_
  have hz : a0.tmps.size = 19 := by rw [ha0]; rfl
  have s0 : a0.tmps[0]? = some (.int .u16 u) := by rw [ha0]; rfl
  have hcalm := fun i => below_calm (W0 := w) (lE_stays (u := u) (b0 := w.heap.size)) i
  have HA : Hid (a0 = _) := ha0
  clear ha0
  refine wp_region_turn (fun _ W => Below w.heap.size w W) (fun _ => nthP (lE u w.heap.size)) 19 hz (by kernel_rfl) (by kernel_rfl) ?start ⟨?o0, ?o1, ?o2, ?o3, ?o4, ?o5, ?o6, ?o7, ?o8, ?o9, ?o10, ?o11, ?o12, ?o13, ?o14, ?o15, ?o16, trivial⟩ ?done
  case start =>
    intro w4 hb4 hs4 s hs
    exact hb4
  case o0 =>
    refine FlowOp4.plain (hcalm 0) fun a1 w4 s cx => ?_
    have s0 := cx.keep 0 _ (by kernel_rfl) s0
    refine ⟨wanted_none rfl, fun K hK => ?_⟩
    exact wp_moved _ rfl _ (ev_tmp s0) (hK.out _ _ rfl (Below.refl _ _))
  case o1 =>
    refine FlowOp4.plain (hcalm 1) fun a1 w4 s cx => ?_
    obtain ⟨v3, s3, p3⟩ := cx.slot 0 3 (by kernel_rfl)
    replace p3 : v3 = .int .u16 u := p3
    subst p3
    refine ⟨wanted_none rfl, fun K hK => ?_⟩
    exact wp_gen [(3, .int .u16 u)] ⟨s3, trivial⟩ (by kernel_rfl) (run_shr12 w4 3 (u) (by omega) (by omega) _ rfl) (hK.out _ _ rfl (Below.refl _ _))
  case o2 =>
    refine FlowOp4.plain (hcalm 2) fun a1 w4 s cx => ?_
    obtain ⟨v4, s4, p4⟩ := cx.slot 1 4 (by kernel_rfl)
    replace p4 : v4 = .int .u16 (u / 4096) := p4
    subst p4
    refine ⟨wanted_none rfl, fun K hK => ?_⟩
    exact wp_gen [(4, .int .u16 (u / 4096))] ⟨s4, trivial⟩ (by kernel_rfl) (run_dig w4 4 (u / 4096) (by omega) (by omega) _ rfl) (hK.out _ _ rfl (Below.refl _ _))
  case o3 =>
    refine FlowOp4.plain (hcalm 3) fun a1 w4 s cx => ?_
    have s0 := cx.keep 0 _ (by kernel_rfl) s0
    refine ⟨wanted_none rfl, fun K hK => ?_⟩
    exact wp_moved _ rfl _ (ev_tmp s0) (hK.out _ _ rfl (Below.refl _ _))
  case o4 =>
    refine FlowOp4.plain (hcalm 4) fun a1 w4 s cx => ?_
    obtain ⟨v6, s6, p6⟩ := cx.slot 3 6 (by kernel_rfl)
    replace p6 : v6 = .int .u16 u := p6
    subst p6
    refine ⟨wanted_none rfl, fun K hK => ?_⟩
    exact wp_gen [(6, .int .u16 u)] ⟨s6, trivial⟩ (by kernel_rfl) (run_shr8 w4 6 (u) (by omega) (by omega) _ rfl) (hK.out _ _ rfl (Below.refl _ _))
  case o5 =>
    refine FlowOp4.plain (hcalm 5) fun a1 w4 s cx => ?_
    obtain ⟨v7, s7, p7⟩ := cx.slot 4 7 (by kernel_rfl)
    replace p7 : v7 = .int .u16 (u / 256) := p7
    subst p7
    refine ⟨wanted_none rfl, fun K hK => ?_⟩
    exact wp_gen [(7, .int .u16 (u / 256))] ⟨s7, trivial⟩ (by kernel_rfl) (run_and15 w4 7 (u / 256) (by omega) (by omega) _ rfl) (hK.out _ _ rfl (Below.refl _ _))
  case o6 =>
    refine FlowOp4.plain (hcalm 6) fun a1 w4 s cx => ?_
    obtain ⟨v8, s8, p8⟩ := cx.slot 5 8 (by kernel_rfl)
    replace p8 : v8 = .int .u16 (u / 256 % 16) := p8
    subst p8
    refine ⟨wanted_none rfl, fun K hK => ?_⟩
    exact wp_gen [(8, .int .u16 (u / 256 % 16))] ⟨s8, trivial⟩ (by kernel_rfl) (run_dig w4 8 (u / 256 % 16) (by omega) (by omega) _ rfl) (hK.out _ _ rfl (Below.refl _ _))
  case o7 =>
    refine FlowOp4.plain (hcalm 7) fun a1 w4 s cx => ?_
    have s0 := cx.keep 0 _ (by kernel_rfl) s0
    refine ⟨wanted_none rfl, fun K hK => ?_⟩
    exact wp_moved _ rfl _ (ev_tmp s0) (hK.out _ _ rfl (Below.refl _ _))
  case o8 =>
    refine FlowOp4.plain (hcalm 8) fun a1 w4 s cx => ?_
    obtain ⟨v10, s10, p10⟩ := cx.slot 7 10 (by kernel_rfl)
    replace p10 : v10 = .int .u16 u := p10
    subst p10
    refine ⟨wanted_none rfl, fun K hK => ?_⟩
    exact wp_gen [(10, .int .u16 u)] ⟨s10, trivial⟩ (by kernel_rfl) (run_shr4 w4 10 (u) (by omega) (by omega) _ rfl) (hK.out _ _ rfl (Below.refl _ _))
  case o9 =>
    refine FlowOp4.plain (hcalm 9) fun a1 w4 s cx => ?_
    obtain ⟨v11, s11, p11⟩ := cx.slot 8 11 (by kernel_rfl)
    replace p11 : v11 = .int .u16 (u / 16) := p11
    subst p11
    refine ⟨wanted_none rfl, fun K hK => ?_⟩
    exact wp_gen [(11, .int .u16 (u / 16))] ⟨s11, trivial⟩ (by kernel_rfl) (run_and15 w4 11 (u / 16) (by omega) (by omega) _ rfl) (hK.out _ _ rfl (Below.refl _ _))
  case o10 =>
    refine FlowOp4.plain (hcalm 10) fun a1 w4 s cx => ?_
    obtain ⟨v12, s12, p12⟩ := cx.slot 9 12 (by kernel_rfl)
    replace p12 : v12 = .int .u16 (u / 16 % 16) := p12
    subst p12
    refine ⟨wanted_none rfl, fun K hK => ?_⟩
    exact wp_gen [(12, .int .u16 (u / 16 % 16))] ⟨s12, trivial⟩ (by kernel_rfl) (run_dig w4 12 (u / 16 % 16) (by omega) (by omega) _ rfl) (hK.out _ _ rfl (Below.refl _ _))
  case o11 =>
    refine FlowOp4.plain (hcalm 11) fun a1 w4 s cx => ?_
    have s0 := cx.keep 0 _ (by kernel_rfl) s0
    refine ⟨wanted_none rfl, fun K hK => ?_⟩
    exact wp_moved _ rfl _ (ev_tmp s0) (hK.out _ _ rfl (Below.refl _ _))
  case o12 =>
    refine FlowOp4.plain (hcalm 12) fun a1 w4 s cx => ?_
    obtain ⟨v14, s14, p14⟩ := cx.slot 11 14 (by kernel_rfl)
    replace p14 : v14 = .int .u16 u := p14
    subst p14
    refine ⟨wanted_none rfl, fun K hK => ?_⟩
    exact wp_gen [(14, .int .u16 u)] ⟨s14, trivial⟩ (by kernel_rfl) (run_and15 w4 14 (u) (by omega) (by omega) _ rfl) (hK.out _ _ rfl (Below.refl _ _))
  case o13 =>
    refine FlowOp4.plain (hcalm 13) fun a1 w4 s cx => ?_
    obtain ⟨v15, s15, p15⟩ := cx.slot 12 15 (by kernel_rfl)
    replace p15 : v15 = .int .u16 (u % 16) := p15
    subst p15
    refine ⟨wanted_none rfl, fun K hK => ?_⟩
    exact wp_gen [(15, .int .u16 (u % 16))] ⟨s15, trivial⟩ (by kernel_rfl) (run_dig w4 15 (u % 16) (by omega) (by omega) _ rfl) (hK.out _ _ rfl (Below.refl _ _))
  case o14 =>
    refine FlowOp4.plain (hcalm 14) fun a1 w4 s cx => ?_
    obtain ⟨v5, s5, p5⟩ := cx.slot 2 5 (by kernel_rfl)
    replace p5 : v5 = .int .u8 (dg (u / 4096)) := p5
    subst p5
    obtain ⟨v9, s9, p9⟩ := cx.slot 6 9 (by kernel_rfl)
    replace p9 : v9 = .int .u8 (dg (u / 256 % 16)) := p9
    subst p9
    obtain ⟨v13, s13, p13⟩ := cx.slot 10 13 (by kernel_rfl)
    replace p13 : v13 = .int .u8 (dg (u / 16 % 16)) := p13
    subst p13
    obtain ⟨v16, s16, p16⟩ := cx.slot 13 16 (by kernel_rfl)
    replace p16 : v16 = .int .u8 (dg (u % 16)) := p16
    subst p16
    refine ⟨wanted_none rfl, fun K hK => ?_⟩
    exact wp_gen [(5, .int .u8 (dg (u / 4096))), (9, .int .u8 (dg (u / 256 % 16))), (13, .int .u8 (dg (u / 16 % 16))), (16, .int .u8 (dg (u % 16)))] ⟨s5, s9, s13, s16, trivial⟩ (by kernel_rfl) (v := .slice (some ⟨w4.heap.size, 0, none⟩) 6 6) (w' := w4.alloc (.cells #[.int .u8 92, .int .u8 117, .int .u8 (dg (u / 4096)), .int .u8 (dg (u / 256 % 16)), .int .u8 (dg (u / 16 % 16)), .int .u8 (dg (u % 16))] 5)) (by kernel_rfl) (hK.out _ _ (own_six w4 w.heap.size cx.ground.size _ _ _ _ _ _) ((Below.refl _ _).alloc (Nat.le_refl _) _))
  case o15 =>
    refine FlowOp4.plain (hcalm 15) fun a1 w4 s cx => ?_
    obtain ⟨v17, s17, p17⟩ := cx.slot 14 17 (by kernel_rfl)
    replace p17 : w4.ownsRow w.heap.size 5 1 v17 (hx4 u).length ((hx4 u).map fun z => Value.int .u8 z) := p17
    refine ⟨wanted_none rfl, fun K hK => ?_⟩
    exact wp_gen [(17, v17)] ⟨s17, trivial⟩ (by kernel_rfl) (run_str w4 17 v17 _ (hx4 u) (hx4_range u h0 h1) p17 _ rfl) (hK.out _ _ rfl (Below.refl _ _))
  case o16 =>
    refine FlowOp4.plain (hcalm 16) fun a1 w4 s cx => ?_
    obtain ⟨v18, s18, p18⟩ := cx.slot 15 18 (by kernel_rfl)
    replace p18 : v18 = .string (strOfNums (hx4 u)) := p18
    subst p18
    refine ⟨wanted_none rfl, fun K hK => ?_⟩
    exact wp_assigned _ rfl _ (ev_tmp s18) (hK.out _ _ rfl (Below.refl _ _))
  case done =>
    intro a w4 ss hall hgr hsz hdf hkp hgot
    obtain ⟨v3, s3, p3⟩ := got_slot4 (s := ss) (V := fun _ => nthP (lE u w.heap.size)) hgot 0 3 (by kernel_rfl)
    replace p3 : v3 = .int .u16 u := p3
    subst p3
    obtain ⟨v4, s4, p4⟩ := got_slot4 (s := ss) (V := fun _ => nthP (lE u w.heap.size)) hgot 1 4 (by kernel_rfl)
    replace p4 : v4 = .int .u16 (u / 4096) := p4
    subst p4
    obtain ⟨v5, s5, p5⟩ := got_slot4 (s := ss) (V := fun _ => nthP (lE u w.heap.size)) hgot 2 5 (by kernel_rfl)
    replace p5 : v5 = .int .u8 (dg (u / 4096)) := p5
    subst p5
    obtain ⟨v6, s6, p6⟩ := got_slot4 (s := ss) (V := fun _ => nthP (lE u w.heap.size)) hgot 3 6 (by kernel_rfl)
    replace p6 : v6 = .int .u16 u := p6
    subst p6
    obtain ⟨v7, s7, p7⟩ := got_slot4 (s := ss) (V := fun _ => nthP (lE u w.heap.size)) hgot 4 7 (by kernel_rfl)
    replace p7 : v7 = .int .u16 (u / 256) := p7
    subst p7
    obtain ⟨v8, s8, p8⟩ := got_slot4 (s := ss) (V := fun _ => nthP (lE u w.heap.size)) hgot 5 8 (by kernel_rfl)
    replace p8 : v8 = .int .u16 (u / 256 % 16) := p8
    subst p8
    obtain ⟨v9, s9, p9⟩ := got_slot4 (s := ss) (V := fun _ => nthP (lE u w.heap.size)) hgot 6 9 (by kernel_rfl)
    replace p9 : v9 = .int .u8 (dg (u / 256 % 16)) := p9
    subst p9
    obtain ⟨v10, s10, p10⟩ := got_slot4 (s := ss) (V := fun _ => nthP (lE u w.heap.size)) hgot 7 10 (by kernel_rfl)
    replace p10 : v10 = .int .u16 u := p10
    subst p10
    obtain ⟨v11, s11, p11⟩ := got_slot4 (s := ss) (V := fun _ => nthP (lE u w.heap.size)) hgot 8 11 (by kernel_rfl)
    replace p11 : v11 = .int .u16 (u / 16) := p11
    subst p11
    obtain ⟨v12, s12, p12⟩ := got_slot4 (s := ss) (V := fun _ => nthP (lE u w.heap.size)) hgot 9 12 (by kernel_rfl)
    replace p12 : v12 = .int .u16 (u / 16 % 16) := p12
    subst p12
    obtain ⟨v13, s13, p13⟩ := got_slot4 (s := ss) (V := fun _ => nthP (lE u w.heap.size)) hgot 10 13 (by kernel_rfl)
    replace p13 : v13 = .int .u8 (dg (u / 16 % 16)) := p13
    subst p13
    obtain ⟨v14, s14, p14⟩ := got_slot4 (s := ss) (V := fun _ => nthP (lE u w.heap.size)) hgot 11 14 (by kernel_rfl)
    replace p14 : v14 = .int .u16 u := p14
    subst p14
    obtain ⟨v15, s15, p15⟩ := got_slot4 (s := ss) (V := fun _ => nthP (lE u w.heap.size)) hgot 12 15 (by kernel_rfl)
    replace p15 : v15 = .int .u16 (u % 16) := p15
    subst p15
    obtain ⟨v16, s16, p16⟩ := got_slot4 (s := ss) (V := fun _ => nthP (lE u w.heap.size)) hgot 13 16 (by kernel_rfl)
    replace p16 : v16 = .int .u8 (dg (u % 16)) := p16
    subst p16
    obtain ⟨v17, s17, p17⟩ := got_slot4 (s := ss) (V := fun _ => nthP (lE u w.heap.size)) hgot 14 17 (by kernel_rfl)
    obtain ⟨v18, s18, p18⟩ := got_slot4 (s := ss) (V := fun _ => nthP (lE u w.heap.size)) hgot 15 18 (by kernel_rfl)
    replace p18 : v18 = .string (strOfNums (hx4 u)) := p18
    subst p18
    obtain ⟨v2, s2, p2⟩ := got_slot4 (s := ss) (V := fun _ => nthP (lE u w.heap.size)) hgot 16 2 (by kernel_rfl)
    replace p2 : v2 = .string (strOfNums (hx4 u)) := p2
    subst p2
    have ha := act_is a a0 [(3, .int .u16 u), (4, .int .u16 (u / 4096)), (5, .int .u8 (dg (u / 4096))), (6, .int .u16 u), (7, .int .u16 (u / 256)), (8, .int .u16 (u / 256 % 16)), (9, .int .u8 (dg (u / 256 % 16))), (10, .int .u16 u), (11, .int .u16 (u / 16)), (12, .int .u16 (u / 16 % 16)), (13, .int .u8 (dg (u / 16 % 16))), (14, .int .u16 u), (15, .int .u16 (u % 16)), (16, .int .u8 (dg (u % 16))), (17, v17), (18, .string (strOfNums (hx4 u))), (2, .string (strOfNums (hx4 u)))] (by rw [hsz, hz]) hdf (fun t ht => hkp t (keptAll_of (l := ([(3, .int .u16 u), (4, .int .u16 (u / 4096)), (5, .int .u8 (dg (u / 4096))), (6, .int .u16 u), (7, .int .u16 (u / 256)), (8, .int .u16 (u / 256 % 16)), (9, .int .u8 (dg (u / 256 % 16))), (10, .int .u16 u), (11, .int .u16 (u / 16)), (12, .int .u16 (u / 16 % 16)), (13, .int .u8 (dg (u / 16 % 16))), (14, .int .u16 u), (15, .int .u16 (u % 16)), (16, .int .u8 (dg (u % 16))), (17, v17), (18, .string (strOfNums (hx4 u))), (2, .string (strOfNums (hx4 u)))] : List (Nat × Value)).map (·.1)) (by kernel_rfl) t ht)) ⟨s3, s4, s5, s6, s7, s8, s9, s10, s11, s12, s13, s14, s15, s16, s17, s18, s2, trivial⟩
    rw [HA.out] at ha
    have HF : Hid (Below w.heap.size w w4) := hgr
    rw [ha]
    clear ha hkp hgot p17 HA hcalm hgr
    simp only [List.foldl_cons, List.foldl_nil, List.setIfInBounds_toArray, List.set_cons_succ, List.set_cons_zero]
    obtain ⟨S, hS⟩ : ∃ S, strOfNums (hx4 u) = S := ⟨_, rfl⟩
    rw [hS]
    have HS : Hid (strOfNums (hx4 u) = S) := hS
    clear hS
    go_wp2
    go_ret
    exact ⟨by rw [HS.out]; rfl, HF.out⟩
end Go.Proofs.YtabofadjnbpjkacDoor
