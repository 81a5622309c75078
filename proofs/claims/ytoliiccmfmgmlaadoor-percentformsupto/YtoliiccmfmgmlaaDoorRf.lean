/-
  The contracts of the document's Form and FormDecode, and that Form answers the same. Conditions: the text is no longer than a third of what one that comes in can be (Form), or no longer than 2^44 bytes (FormDecode).
-/
import Derived.Test.YtoliiccmfmgmlaaDoorLawB
import Derived.Test.YtoliiccmfmgmlaaDoorRnm
import Derived.Test.YtoliiccmfmgmlaaDoorRec
import Derived.Test.YtoliiccmfmgmlaaDoorRdd
namespace Go.Proofs.YtoliiccmfmgmlaaDoor
open Go.RowKit
/-- An act from what its slots hold. -/
theorem act_is (a a0 : Act) (l : List (Nat × Value)) (hsz : a.tmps.size = a0.tmps.size) (hd : a.defers = a0.defers) (hk : ∀ t, (l.map (·.1)).contains t = false → a.tmps[t]? = a0.tmps[t]?) (hg : AllIn a l) : a = { tmps := l.foldl (fun ts p => ts.setIfInBounds p.1 p.2) a0.tmps, defers := a0.defers } := by
  have key : ∀ (l : List (Nat × Value)) (ts : Array Value), AllIn a l → ts.size = a.tmps.size → (∀ t, (l.map (·.1)).contains t = false → a.tmps[t]? = ts[t]?) → a.tmps = l.foldl (fun ts p => ts.setIfInBounds p.1 p.2) ts := by
    intro l
    induction l with
    | nil =>
      intro ts _ hs hk
      exact Array.ext_getElem? fun t => hk t rfl
    | cons p l ih =>
      intro ts hg hs hk
      refine ih (ts.setIfInBounds p.1 p.2) hg.2 (by simpa using hs) fun t ht => ?_
      by_cases e : p.1 = t
      · subst e
        have hl : p.1 < a.tmps.size := (Array.getElem?_eq_some_iff.1 hg.1).1
        rw [hg.1]
        simp [hs, hl]
      · rw [Array.getElem?_setIfInBounds_ne e]
        refine hk t ?_
        rw [List.map_cons, List.contains_cons, ht]
        simp [Ne.symm e]
  cases a with
  | mk ts df =>
    simp only at hd
    rw [hd]
    have := key l a0.tmps hg hsz.symm hk
    simp only at this
    rw [this]
theorem keptAll_of {ops : Array Oper} {l : List Nat} (h : (ops.all fun o => match o.dst with | some t => l.contains t | none => true) = true) (t : Nat) (ht : l.contains t = false) : keptAll ops t = true := by
  simp only [keptAll, Array.all_eq_true_iff_forall_mem] at h ⊢
  intro o ho
  have := h o ho
  cases hd : o.dst with
  | none => rfl
  | some d =>
    rw [hd] at this
    simp only at this
    have hne : d ≠ t := fun e => by rw [e, ht] at this; cases this
    simpa using hne
theorem wp_keep {P : Program} {c : Code} {Q : Exit → Act → World → Prop} {a : Act} {w : World} (h : ∀ a0 : Act, a0 = a → c.wp P Q a0 w) : c.wp P Q a w := h a rfl
theorem add_op (k : Nat) (t : Nat) (o : Oper) (ho : o.op = .binOp .add 3 (.tmp t) (.const (.int .i64 1)) 3) (w : World) (hk : (k : Int) + 1 < 9223372036854775807) : (execOp (rho [(t, .int .i64 (k : Nat))]) o).run Tryd.prog w = .ok (.value (.int .i64 ((k : Int) + 1))) w := by
  have e1 : rho [(t, .int .i64 (k : Nat))] (.tmp t) = .int .i64 (k : Nat) := by simp [rho]
  have e2 : rho [(t, .int .i64 (k : Nat))] (.const (.int .i64 1)) = .int .i64 1 := rfl
  have h1 : (eqGuard .add 3 (.tmp t) (.const (.int .i64 1)) (.int .i64 (k : Nat)) (.int .i64 1)).run Tryd.prog w = .ok () w := by kernel_rfl
  have hw : IntKind.i64.wrap ((k : Int) + 1) = (k : Int) + 1 := IntWalk.i64_in _ (by omega)
  have h2 : (binOp .add 3 (.int .i64 (k : Nat)) (.int .i64 1)).run Tryd.prog w = .ok (.int .i64 ((k : Int) + 1)) w := by
    simp [go_sem, hw]
  unfold execOp
  simp only [ho, e1, e2, Sem.run_bind, h1, h2, Result.andThen_ok, Sem.run_pure]
theorem cat_op (A B : ByteArray) (t u : Nat) (o : Oper) (ho : o.op = .binOp .add 9 (.tmp t) (.tmp u) 9) (hne : (u == t) = false) (w : World) (hs : A.size + B.size ≤ 9223372036854775807) : (execOp (rho [(t, .string A), (u, .string B)]) o).run Tryd.prog w = .ok (.value (.string (A ++ B))) w := by
  have e1 : rho [(t, .string A), (u, .string B)] (.tmp t) = .string A := by simp [rho]
  have e2 : rho [(t, .string A), (u, .string B)] (.tmp u) = .string B := by simp [rho, List.lookup, hne]
  have h1 : (eqGuard .add 9 (.tmp t) (.tmp u) (.string A) (.string B)).run Tryd.prog w = .ok () w := by kernel_rfl
  have hq : ¬ 9223372036854775807 < A.size + B.size := by omega
  have h2 : (binOp .add 9 (.string A) (.string B)).run Tryd.prog w = .ok (.string (A ++ B)) w := by
    simp [go_sem, hq]
  unfold execOp
  simp only [ho, e1, e2, Sem.run_bind, h1, h2, Result.andThen_ok, Sem.run_pure]
theorem cut_op (s : ByteArray) (k : Nat) (t u v : Nat) (o : Oper) (ho : o.op = .slice 9 (.tmp t) (some (.tmp u)) (some (.tmp v)) none) (h1 : (u == t) = false) (h2 : (v == t) = false) (h3 : (v == u) = false) (w : World) (hk : k < s.size) : (execOp (rho [(t, .string s), (u, .int .i64 (k : Nat)), (v, .int .i64 ((k : Int) + 1))]) o).run Tryd.prog w = .ok (.value (.string (s.extract k (k + 1)))) w := by
  have e1 : rho [(t, .string s), (u, .int .i64 (k : Nat)), (v, .int .i64 ((k : Int) + 1))] (.tmp t) = .string s := by simp [rho]
  have e2 : rho [(t, .string s), (u, .int .i64 (k : Nat)), (v, .int .i64 ((k : Int) + 1))] (.tmp u) = .int .i64 (k : Nat) := by simp [rho, List.lookup, h1]
  have e3 : rho [(t, .string s), (u, .int .i64 (k : Nat)), (v, .int .i64 ((k : Int) + 1))] (.tmp v) = .int .i64 ((k : Int) + 1) := by simp [rho, List.lookup, h2, h3]
  have g1 : (0 : Int) ≤ (k : Int) := by omega
  have g2 : (k : Int) ≤ (k : Int) + 1 := by omega
  have g3 : (k : Int) + 1 ≤ (s.size : Int) := by omega
  have g4 : ((k : Int) + 1).toNat = k + 1 := by omega
  unfold execOp
  simp only [ho, e1, e2, e3, Option.map_some, Option.map_none]
  simp [go_sem, g1, g2, g3, g4]
/-- What the document's Form makes of the first k bytes. -/
def frT (q : Nat → Bool) (s : ByteArray) : Nat → ByteArray
  | 0 => ⟨#[]⟩
  | k + 1 => frT q s k ++ (if byt s k = 32 then ⟨#[43]⟩ else e1 q (byt s k))
theorem frT_size (q : Nat → Bool) (s : ByteArray) : ∀ k, (frT q s k).size ≤ 3 * k
  | 0 => by show (0 : Nat) ≤ _; omega
  | k + 1 => by
    have h1 := frT_size q s k
    have h2 : (if byt s k = 32 then (⟨#[43]⟩ : ByteArray) else e1 q (byt s k)).size ≤ 3 := by
      split
      · show (1 : Nat) ≤ 3; omega
      · exact e1_size q _
    show (frT q s k ++ (if byt s k = 32 then (⟨#[43]⟩ : ByteArray) else e1 q (byt s k))).size ≤ _
    simp only [ByteArray.size_append]
    omega
theorem one_enc (q : Nat → Bool) (s : ByteArray) (k : Nat) (h : k < s.size) : encB q (s.extract k (k + 1)) = e1 q (byt s k) := by
  have hz : (s.extract k (k + 1)).size = 1 := by simp; omega
  unfold encB
  rw [hz]
  show (⟨#[]⟩ : ByteArray) ++ e1 q (byt (s.extract k (k + 1)) 0) = _
  rw [byt_extract s k (k + 1) 0 (by omega) (by omega), Nat.add_zero]
  exact ByteArray.empty_append
/-- The document's set of forms. -/
def qS : Nat → Bool := fun j => setP 8 j || j == 37
theorem row_sign (p : Nat → Bool) : (rowOf .u8 256 (b01 p)).setIfInBounds 37 (.int .u8 1) = rowOf .u8 256 (b01 (fun j => p j || j == 37)) := by
  rw [rowOf_set]
  refine rowOf_congr _ _ _ _ fun j _ => ?_
  unfold b01
  by_cases e : j = 37
  · subst e; simp
  · have : (j == 37) = false := beq_eq_false_iff_ne.2 e
    simp [e]
attribute [local go_sem] rowOf_size isRow_at isRow_past rowIn_at rowIn_past setRow_at setRow_past
attribute [local go_sem] st_at
set_option maxRecDepth 100000 in
set_option maxHeartbeats 4000000 in
theorem rform_any (s : ByteArray) (w : World) (hs : s.size ≤ 46912496100000) : Calls Tryd.prog 7 #[.string s] w fun e w' => e = .returned (.string (frT qS s s.size)) ∧ Below w.heap.size w w' := by
  have k15 := fun w => rnamed_any 8 w
  simp only [show nameK 8 = 8 from by decide, show nameE 8 = 0 from by decide] at k15
  have hsg := row_sign (setP 8)
  have hget := rowOf_get .u8 256 (b01 (setP 8)) 37 (by omega)
  obtain ⟨hz35, hi35⟩ := zero_of_info info35
  clear hi35
  obtain ⟨q, hq⟩ : ∃ q, qS = q := ⟨_, rfl⟩
  rw [show (fun j => setP 8 j || j == 37) = q from hq] at hsg
  rw [hq]
  go_enter Tryd.func7, Tryd.ntmps7
  go_wp2_with (go_at_call 15; refine (k15 _).mono ?_)
  rintro e w1 ⟨rfl, b1⟩
  go_wp2_with fail
  have hz1 := b1.size
  have HI0 : Hid ((w1.alloc (.cells (rowOf .u8 256 (b01 q)) 32)).heap[w1.heap.size]? = some (.cells (rowOf .u8 256 (b01 q)) 32 (0, 0)) ∧ Below w.heap.size w (w1.alloc (.cells (rowOf .u8 256 (b01 q)) 32))) := ⟨heap_alloc_last _ _, b1.alloc hz1 _⟩
  obtain ⟨m3, hm3⟩ : ∃ m, w1.heap.size = m := ⟨_, rfl⟩
  rw [hm3] at HI0 ⊢
  clear hm3 b1 hsg hget hz35 k15 hq hz1
  go_loopw [5, 6] (fun v i wr => ∃ k : Nat, k ≤ s.size ∧ i = .int .i64 k ∧ v = .string (frT q s k) ∧ Hid (wr.heap[m3]? = some (.cells (rowOf .u8 256 (b01 q)) 32 (0, 0)) ∧ Below w.heap.size w wr)) (fun _ i _ => s.size - (RowKit.intOf i).toNat)
  case atStart => exact ⟨0, by omega, rfl, rfl, HI0⟩
  case round =>
    obtain ⟨k, hk, rfl, rfl, HI⟩ := hrel
    clear HI0
    have hfz := frT_size q s k
    obtain ⟨F, hF⟩ : ∃ F, frT q s k = F := ⟨_, rfl⟩
    by_cases hlt : k < s.size
    · have hb := byt_eq s k hlt
      have hb256 := byt_lt s k
      by_cases e : byt s k = 32
      · have HS : Hid (frT q s (k + 1) = F ++ ⟨#[43]⟩) := by
          show frT q s k ++ (if byt s k = 32 then ⟨#[43]⟩ else e1 q (byt s k)) = _
          rw [if_pos e, hF]
        rw [hF] at hfz ⊢
        rw [e] at hb
        obtain ⟨P, hP⟩ : ∃ P : ByteArray, P = ⟨#[43]⟩ := ⟨_, rfl⟩
        have zP : P.size = 1 := by rw [hP]; rfl
        have hov : ¬ 9223372036854775807 < F.size + 1 := by omega
        rw [← hP] at HS
        go_wp2
        exact ⟨⟨k + 1, by omega, by go_num, by rw [HS.out, hP], HI⟩, by simp [RowKit.intOf]; omega⟩
      · have HS : Hid (frT q s (k + 1) = F ++ e1 q (byt s k)) := by
          show frT q s k ++ (if byt s k = 32 then ⟨#[43]⟩ else e1 q (byt s k)) = _
          rw [if_neg e, hF]
        have kE := fun w => renc_any q (b01 q) (fun b _ => by unfold b01; cases q b <;> rfl) (s.extract k (k + 1)) w (by simp; omega)
        rw [one_enc q s k hlt] at kE
        have zE := e1_size q (byt s k)
        obtain ⟨E, hE⟩ : ∃ E, e1 q (byt s k) = E := ⟨_, rfl⟩
        rw [hE] at HS kE zE
        rw [hF] at hfz ⊢
        have hne : ((byt s k : Int) == 32) = false := beq_eq_false_iff_ne.2 (by omega)
        go_wp2_with fail
        rename_i Q' K' hcont
        refine wp_keep fun a0 ha0 => ?_
        have hz : a0.tmps.size = 34 := by rw [ha0]; rfl
        have s0 : a0.tmps[0]? = some (.string s) := by rw [ha0]; rfl
        have s3 : a0.tmps[3]? = some (.pointer (some ⟨m3, 0, none⟩)) := by rw [ha0]; rfl
        have s5 : a0.tmps[5]? = some (.string F) := by rw [ha0]; rfl
        have s6 : a0.tmps[6]? = some (.int .i64 (k : Nat)) := by rw [ha0]; rfl
        have HA : Hid (a0 = _) := ha0
        clear ha0
        have k3 := HI.out.1
        refine wp_region_flow (nthP [isV (.string F), isV (.string s), isV (.int .i64 (k : Nat)), isV (.int .i64 (k : Nat)), isV (.int .i64 ((k : Int) + 1)), isV (.string (s.extract k (k + 1))), isV (.agg (rowOf .u8 256 (b01 q))), isV (.string E), isV (.string (F ++ E)), isV (.string (F ++ E))]) 34 (by assumption) (by kernel_rfl) (by kernel_rfl) (by kernel_rfl) (nthP_stays ⟨Stays.isV, Stays.isV, Stays.isV, Stays.isV, Stays.isV, Stays.isV, Stays.isV, Stays.isV, Stays.isV, Stays.isV, trivial⟩) (noStore (by kernel_rfl)) ⟨?o0, ?o1, ?o2, ?o3, ?o4, ?o5, ?o6, ?o7, ?o8, ?o9, trivial⟩ ?hdone
        case o0 =>
          refine FlowOp2.plain rfl fun a1 w1 cx => ?_
          have s5 := cx.keep 5 _ (by kernel_rfl) s5
          refine ⟨(wanted_none rfl), fun K hK => ?_⟩
          exact wp_moved _ rfl _ (ev_tmp s5) (hK.out _ _ rfl (Below.refl _ _) (no_block rfl))
        case o1 =>
          refine FlowOp2.plain rfl fun a1 w1 cx => ?_
          have s0 := cx.keep 0 _ (by kernel_rfl) s0
          refine ⟨(wanted_none rfl), fun K hK => ?_⟩
          exact wp_moved _ rfl _ (ev_tmp s0) (hK.out _ _ rfl (Below.refl _ _) (no_block rfl))
        case o2 =>
          refine FlowOp2.plain rfl fun a1 w1 cx => ?_
          have s6 := cx.keep 6 _ (by kernel_rfl) s6
          refine ⟨(wanted_none rfl), fun K hK => ?_⟩
          exact wp_moved _ rfl _ (ev_tmp s6) (hK.out _ _ rfl (Below.refl _ _) (no_block rfl))
        case o3 =>
          refine FlowOp2.plain rfl fun a1 w1 cx => ?_
          have s6 := cx.keep 6 _ (by kernel_rfl) s6
          refine ⟨(wanted_none rfl), fun K hK => ?_⟩
          exact wp_moved _ rfl _ (ev_tmp s6) (hK.out _ _ rfl (Below.refl _ _) (no_block rfl))
        case o4 =>
          refine FlowOp2.plain rfl fun a1 w1 cx => ?_
          obtain ⟨v27, s27, p27⟩ := cx.slot 3 27 (by kernel_rfl)
          replace p27 : v27 = .int .i64 (k : Nat) := p27
          subst p27
          refine ⟨(wanted_none rfl), fun K hK => ?_⟩
          refine wp_gen [(27, .int .i64 (k : Nat))] ⟨s27, trivial⟩ (by kernel_rfl) (v := .int .i64 ((k : Int) + 1)) (w' := w1) ?_ (hK.out _ _ rfl (Below.refl _ _) (no_block rfl))
          exact add_op k 27 _ rfl w1 (by omega)
        case o5 =>
          refine FlowOp2.plain rfl fun a1 w1 cx => ?_
          obtain ⟨v25, s25, p25⟩ := cx.slot 1 25 (by kernel_rfl)
          replace p25 : v25 = .string s := p25
          subst p25
          obtain ⟨v26, s26, p26⟩ := cx.slot 2 26 (by kernel_rfl)
          replace p26 : v26 = .int .i64 (k : Nat) := p26
          subst p26
          obtain ⟨v28, s28, p28⟩ := cx.slot 4 28 (by kernel_rfl)
          replace p28 : v28 = .int .i64 ((k : Int) + 1) := p28
          subst p28
          refine ⟨(wanted_none rfl), fun K hK => ?_⟩
          refine wp_gen [(25, .string s), (26, .int .i64 (k : Nat)), (28, .int .i64 ((k : Int) + 1))] ⟨s25, s26, s28, trivial⟩ (by kernel_rfl) (v := .string (s.extract k (k + 1))) (w' := w1) ?_ (hK.out _ _ rfl (Below.refl _ _) (no_block rfl))
          exact cut_op s k 25 26 28 _ rfl rfl rfl rfl w1 hlt
        case o6 =>
          refine FlowOp2.plain rfl fun a1 w1 cx => ?_
          have s3 := cx.keep 3 _ (by kernel_rfl) s3
          have k3 := below_at k3 cx.below
          refine ⟨(wanted_none rfl), fun K hK => ?_⟩
          exact wp_loaded _ _ rfl m3 (ev_tmp s3) _ _ _ _ k3 Tryd.underlying32 rfl (by rw [rowOf_size]; kernel_rfl) (hK.out _ _ rfl (Below.refl _ _) (no_block rfl))
        case o7 =>
          refine FlowOp2.plain rfl fun a1 w1 cx => ?_
          obtain ⟨v29, s29, p29⟩ := cx.slot 5 29 (by kernel_rfl)
          replace p29 : v29 = .string (s.extract k (k + 1)) := p29
          subst p29
          obtain ⟨v30, s30, p30⟩ := cx.slot 6 30 (by kernel_rfl)
          replace p30 : v30 = .agg (rowOf .u8 256 (b01 q)) := p30
          subst p30
          refine ⟨(wanted_none rfl), fun K hK => ?_⟩
          refine wp_gen_call [(29, .string (s.extract k (k + 1))), (30, .agg (rowOf .u8 256 (b01 q)))] ⟨s29, s30, trivial⟩ (vs := #[.string (s.extract k (k + 1)), .agg (rowOf .u8 256 (b01 q))]) (f := 16) (by kernel_rfl) (fun w => by kernel_rfl) ?_
          refine (kE _).mono ?_
          rintro e w2 ⟨rfl, hb⟩
          exact ⟨_, rfl, hK.out _ _ rfl hb (no_block rfl)⟩
        case o8 =>
          refine FlowOp2.plain rfl fun a1 w1 cx => ?_
          obtain ⟨v24, s24, p24⟩ := cx.slot 0 24 (by kernel_rfl)
          replace p24 : v24 = .string F := p24
          subst p24
          obtain ⟨v31, s31, p31⟩ := cx.slot 7 31 (by kernel_rfl)
          replace p31 : v31 = .string E := p31
          subst p31
          refine ⟨(wanted_none rfl), fun K hK => ?_⟩
          refine wp_gen [(24, .string F), (31, .string E)] ⟨s24, s31, trivial⟩ (by kernel_rfl) (v := .string (F ++ E)) (w' := w1) ?_ (hK.out _ _ rfl (Below.refl _ _) (no_block rfl))
          exact cat_op F E 24 31 _ rfl rfl w1 (by omega)
        case o9 =>
          refine FlowOp2.plain rfl fun a1 w1 cx => ?_
          obtain ⟨v32, s32, p32⟩ := cx.slot 8 32 (by kernel_rfl)
          replace p32 : v32 = .string (F ++ E) := p32
          subst p32
          refine ⟨(wanted_none rfl), fun K hK => ?_⟩
          exact wp_assigned _ rfl _ (ev_tmp s32) (hK.out _ _ rfl (Below.refl _ _) (no_block rfl))
        case hdone =>
          intro a1 w1 hb1 hz1 hd1 hk1 hg1
          obtain ⟨v24, s24', p24⟩ := got_slot hg1 0 24 (by kernel_rfl)
          replace p24 : v24 = .string F := p24
          rw [p24] at s24'
          obtain ⟨v25, s25', p25⟩ := got_slot hg1 1 25 (by kernel_rfl)
          replace p25 : v25 = .string s := p25
          rw [p25] at s25'
          obtain ⟨v26, s26', p26⟩ := got_slot hg1 2 26 (by kernel_rfl)
          replace p26 : v26 = .int .i64 (k : Nat) := p26
          rw [p26] at s26'
          obtain ⟨v27, s27', p27⟩ := got_slot hg1 3 27 (by kernel_rfl)
          replace p27 : v27 = .int .i64 (k : Nat) := p27
          rw [p27] at s27'
          obtain ⟨v28, s28', p28⟩ := got_slot hg1 4 28 (by kernel_rfl)
          replace p28 : v28 = .int .i64 ((k : Int) + 1) := p28
          rw [p28] at s28'
          obtain ⟨v29, s29', p29⟩ := got_slot hg1 5 29 (by kernel_rfl)
          replace p29 : v29 = .string (s.extract k (k + 1)) := p29
          rw [p29] at s29'
          obtain ⟨v30, s30', p30⟩ := got_slot hg1 6 30 (by kernel_rfl)
          replace p30 : v30 = .agg (rowOf .u8 256 (b01 q)) := p30
          rw [p30] at s30'
          obtain ⟨v31, s31', p31⟩ := got_slot hg1 7 31 (by kernel_rfl)
          replace p31 : v31 = .string E := p31
          rw [p31] at s31'
          obtain ⟨v32, s32', p32⟩ := got_slot hg1 8 32 (by kernel_rfl)
          replace p32 : v32 = .string (F ++ E) := p32
          rw [p32] at s32'
          obtain ⟨v5, s5', p5⟩ := got_slot hg1 9 5 (by kernel_rfl)
          replace p5 : v5 = .string (F ++ E) := p5
          rw [p5] at s5'
          have ha := act_is a1 a0 [(24, .string F), (25, .string s), (26, .int .i64 (k : Nat)), (27, .int .i64 (k : Nat)), (28, .int .i64 ((k : Int) + 1)), (29, .string (s.extract k (k + 1))), (30, .agg (rowOf .u8 256 (b01 q))), (31, .string E), (32, .string (F ++ E)), (5, .string (F ++ E))] (hz1.trans hz.symm) hd1 (fun t ht => hk1 t (keptAll_of (l := ([(24, .string F), (25, .string s), (26, .int .i64 (k : Nat)), (27, .int .i64 (k : Nat)), (28, .int .i64 ((k : Int) + 1)), (29, .string (s.extract k (k + 1))), (30, .agg (rowOf .u8 256 (b01 q))), (31, .string E), (32, .string (F ++ E)), (5, .string (F ++ E))] : List (Nat × Value)).map (·.1)) (by kernel_rfl) t ht)) ⟨s24', s25', s26', s27', s28', s29', s30', s31', s32', s5', trivial⟩
          rw [HA.out] at ha
          have HF : Hid (w1.heap[m3]? = some (.cells (rowOf .u8 256 (b01 q)) 32 (0, 0)) ∧ Below w.heap.size w w1) := ⟨below_at k3 hb1, HI.out.2.trans (hb1.mono HI.out.2.size)⟩
          rw [ha]
          clear ha hk1 hg1 HA hb1
          simp only [List.foldl_cons, List.foldl_nil, List.setIfInBounds_toArray, List.set_cons_succ, List.set_cons_zero]
          go_wp2
          exact ⟨⟨k + 1, by omega, by go_num, by rw [HS.out], HF⟩, by simp [RowKit.intOf]; omega⟩
    · have : k = s.size := by omega
      subst this
      go_wp2
      go_ret
      exact ⟨by rw [hF]; rfl, HI.out.2⟩
end Go.Proofs.YtoliiccmfmgmlaaDoor
