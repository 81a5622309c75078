/-
  For every list of spans and all two lists of rows, nil ones too, the law StageWheres returns true and leaves its arguments as they were: Where refuses what is no set or has too many spans, else the table says its number of the set's code points and 0 elsewhere, and Over of two tables says what the later one does where that says anything. Condition: what comes in is of bulk at most 1048576.
-/
import Derived.Test.YtookbgmolggohabRows
import Derived.Test.YtookbgmolggohabLawW
import Derived.Test.YtookbgmolggohabOp
import Derived.WalkKit
import Derived.ProofKit
import Derived.OpenShut
import Derived.ShutString
import Derived.SliceStrings
import Derived.JoinedCond
import Derived.Below
import Derived.ChangeOld
import Derived.SizedLaws
import Derived.Deep.SlicePairs
import Derived.Laws.IdiomArrays
namespace Go.Proofs.Ytookbgmolggohab
open Go.ChangeShapes Go.WideShapes Go.ChangeAt Go.RowKit
open Go.ChangeMaps (open_string shut_string)
theorem own : ownKnob Try.prog.godebug = none := by kernel_rfl
theorem laidOut : laidOutB Try.prog = true := by kernel_rfl
theorem cells41 : Try.prog.cellsOf 41 = 2 := by kernel_rfl
def intOf : Value → Int
  | .int _ z => z
  | _ => 0
theorem trod_i32 {H : Type} {enc : TypeId × Value → H} {P : Program} {w : World} {base : Nat} {spare : Nat → Bool} {held : Bool} {e : TypeId} {n : Nat} {v : Value} {x : DataW H × List MemPlace} (he : P.underlying e = some (.int .i32)) (h : DataW.trod enc P w base spare held n e [v] = some x) : ∃ b, v = .int .i32 b ∧ -2147483648 ≤ b ∧ b ≤ 2147483647 := by
  cases n with
  | zero => simp [DataW.trod] at h
  | succ n =>
    simp only [DataW.trod, he] at h
    cases v <;> simp at h
    obtain ⟨⟨rfl, h2⟩, -⟩ := h
    refine ⟨_, rfl, ?_⟩
    simp [Lit.wf, IntKind.min, IntKind.max, IntKind.signed, IntKind.bits] at h2
    exact h2
set_option maxRecDepth 100000 in
/-- A list of spans that came in: it reads as numbers that fit. -/
theorem open_spans {H : Type} {enc : TypeId × Value → H} {W : World} {base : Nat} {v : Value} {d : DataW H} {p : List MemPlace} (hval : Value.okWide Try.prog W .any base 35 v) (h : DataW.Trod enc Try.prog W 0 (fun _ => true) true 35 v d p) :
    ∃ L : List Rw, (∀ s ∈ L, -2147483648 ≤ s.1 ∧ s.1 ≤ 2147483647 ∧ -2147483648 ≤ s.2.1 ∧ s.2.1 ≤ 2147483647) ∧ Rd2 W v L ∧ ((d = .nil ∧ L = []) ∨ ∃ xs ys, xs.length = L.length ∧ d = .slice xs ys) := by
  obtain ⟨a0, len, cap, rfl⟩ := okWide_slice Try.underlying35 hval
  obtain ⟨fuel, hf⟩ := h
  rcases Go.Deep.open_slice_pairs Try.underlying35 Try.underlying41 cells41 rfl rfl cells21 cells21 hf with ⟨hcs, hx⟩ | ⟨a, len', cap', m, n, V0, V1, D0, D1, P0, P1, hcs, _, hl, hm, hz, hx, hcell⟩
  · simp [Value.cells] at hcs
    obtain ⟨rfl, rfl, rfl⟩ := hcs
    simp only [Prod.mk.injEq] at hx
    exact ⟨[], (fun s hs => by cases hs), ⟨none, 0, rfl, Nat.le_refl _, fun h => by simp at h⟩, .inl ⟨hx.1, rfl⟩⟩
  · simp [Value.cells] at hcs
    obtain ⟨rfl, rfl, rfl⟩ := hcs
    simp only [Prod.mk.injEq] at hx
    simp only [if_true] at hz
    let B0 : Nat → Int := fun i => intOf (V0 i)
    let B1 : Nat → Int := fun i => intOf (V1 i)
    have hB0 : ∀ i, i < len → V0 i = .int .i32 (B0 i) ∧ -2147483648 ≤ B0 i ∧ B0 i ≤ 2147483647 := fun i hi => by
      obtain ⟨b, e1, e2⟩ := trod_i32 Try.underlying21 (hcell i (by omega)).2.2.1
      have : B0 i = b := by show intOf (V0 i) = b; rw [e1]; rfl
      rw [this]
      exact ⟨e1, e2⟩
    have hB1 : ∀ i, i < len → V1 i = .int .i32 (B1 i) ∧ -2147483648 ≤ B1 i ∧ B1 i ≤ 2147483647 := fun i hi => by
      obtain ⟨b, e1, e2⟩ := trod_i32 Try.underlying21 (hcell i (by omega)).2.2.2
      have : B1 i = b := by show intOf (V1 i) = b; rw [e1]; rfl
      rw [this]
      exact ⟨e1, e2⟩
    refine ⟨(List.range len).map fun i => (B0 i, B1 i, 0), fun s hs => ?_, ⟨some a, cap, by simp, by simpa using hl, fun hp => ?_⟩, .inr ⟨_, _, by simp, hx.1⟩⟩
    · obtain ⟨i, hi, rfl⟩ := List.mem_map.1 hs
      have h1 := (hB0 i (List.mem_range.1 hi)).2
      have h2 := (hB1 i (List.mem_range.1 hi)).2
      exact ⟨h1.1, h1.2, h2.1, h2.2⟩
    · rw [List.length_map, List.length_range] at hp
      obtain ⟨g, off, spot⟩ := a
      have hspot : spot = none := by simpa [Addr.add] using World.cell?_spot (hcell 0 (by omega)).1
      subst hspot
      refine ⟨g, off, rfl, fun j hj => ?_⟩
      rw [List.length_map, List.length_range] at hj
      have h1 := (hcell j (by omega)).1
      have h2 := (hcell j (by omega)).2.1
      rw [Go.WideShapes.add_plain] at h1 h2
      have e : ((List.range len).map fun i => ((B0 i, B1 i, 0) : Rw)).getD j (0, 0, 0) = (B0 j, B1 j, 0) := by simp [List.getD, hj]
      rw [e]
      exact ⟨by rw [h1, (hB0 j hj).1], by rw [Nat.add_assoc, h2, (hB1 j hj).1]⟩
theorem bulk_pos {H : Type} (d : DataW H) : 1 ≤ Rows.uptoBulk d := by
  unfold Rows.uptoBulk
  split <;> omega
theorem bulk_all {H : Type} : ∀ l : List (DataW H), l.length ≤ Rows.uptoBulkAll l
  | [] => by simp
  | d :: l => by
    have h1 := bulk_pos d
    have h2 := bulk_all l
    simp only [Rows.uptoBulkAll, List.length_cons]
    omega
theorem bulk_list {H : Type} {d : DataW H} {L : List Rw} (h : (d = .nil ∧ L = []) ∨ ∃ xs ys, xs.length = L.length ∧ d = .slice xs ys) : L.length ≤ Rows.uptoBulk d := by
  rcases h with ⟨rfl, rfl⟩ | ⟨xs, ys, e, rfl⟩
  · simp
  · have := bulk_all xs
    simp only [Rows.uptoBulk]
    omega

set_option maxRecDepth 100000 in
/-- What the walk gives, for every argument and every world. -/
theorem contractW (H : Type) (enc : TypeId × Value → H) (W : World) (base : Nat) (args : Array Value) (ds gs : List (DataW H)) (before : List MemPlace)
    (hval : ∀ (j : Nat) t v, Try.f5.params[j]? = some t → args[j]? = some v → Value.okWide Try.prog W .any base t v)
    (hW : DataW.Whole enc Try.prog Try.f5.params.toList Rows.stageWheresSpec.vars false W args.toList ds gs before) (hcond : Rows.uptoSmall H (ds ++ gs) = true) :
    Calls Try.prog 5 args W fun e W' => ∃ v, e = .returned v ∧ Rows.stageWheresSpec.post enc Try.prog Try.f5 false true false false W args v W' := by
  have hW' := hW
  obtain ⟨p, q, hA0, hV, rfl, hfz, hnd⟩ := hW
  have hA : DataW.TrodAll enc Try.prog W 0 (fun _ => true) true Try.f5.params.toList args.toList ds p := hA0
  rw [Try.params5] at hA hval
  obtain ⟨v0, vs0, d0, ds0, p0, q0, hargs, rfl, rfl, h0, r0⟩ := trodAll_cons hA
  obtain ⟨v1, vs1, d1, ds1, p1, q1, rfl, rfl, rfl, h1, r1⟩ := trodAll_cons r0
  obtain ⟨v2, vs2, d2, ds2, p2, q2, rfl, rfl, rfl, h2, r2⟩ := trodAll_cons r1
  obtain ⟨rfl, rfl, rfl⟩ := trodAll_nil r2
  obtain rfl : args = #[v0, v1, v2] := by cases args; simp_all
  obtain ⟨rfl, rfl⟩ := trodVars_none hV
  have k0 := h0
  have lt0 : ∀ x ∈ p0, x.block < W.heap.size := by obtain ⟨m, hm⟩ := k0; exact DataW.trod_lt m _ _ _ hm
  have k1 := h1
  have lt1 : ∀ x ∈ p1, x.block < W.heap.size := by obtain ⟨m, hm⟩ := k1; exact DataW.trod_lt m _ _ _ hm
  have k2 := h2
  have lt2 : ∀ x ∈ p2, x.block < W.heap.size := by obtain ⟨m, hm⟩ := k2; exact DataW.trod_lt m _ _ _ hm
  obtain ⟨L0, hF0, hR0, hd0⟩ := open_spans (hval 0 35 v0 rfl rfl) h0
  have hb0 := bulk_list hd0
  obtain ⟨L1, hF1, hR1, hd1⟩ := open_rows (hval 1 22 v1 rfl rfl) h1
  have hb1 := bulk_list hd1
  obtain ⟨L2, hF2, hR2, hd2⟩ := open_rows (hval 2 22 v2 rfl rfl) h2
  have hb2 := bulk_list hd2
  have hbd : Rows.uptoBulkAll [d0, d1, d2] ≤ 1048576 := of_decide_eq_true hcond
  simp only [Rows.uptoBulkAll] at hbd
  clear hA0
  refine (law_wheres L0 L1 L2 v0 v1 v2 W hR0 hF0 (by omega) hR1 hF1 (by omega) hR2 hF2 (by omega)).mono fun e W' ⟨he, bel⟩ => ?_
  subst he
  exact ⟨_, rfl, _, _, _, [], _, [], hW', trodAll_mk1 (shut_bool Try.underlying4 _), (trodAll_cons_mk (Below.trod laidOut (by kernel_rfl) (of_decide_eq_true (by kernel_rfl)) k0 bel lt0) (trodAll_cons_mk (Below.trod laidOut (by kernel_rfl) (of_decide_eq_true (by kernel_rfl)) k1 bel lt1) (trodAll_cons_mk (Below.trod laidOut (by kernel_rfl) (of_decide_eq_true (by kernel_rfl)) k2 bel lt2) trodAll_mk0))), rfl, bel.frame _, fun h => by cases h⟩
set_option maxRecDepth 100000 in
theorem liftedW (os : Os) (started : os.Started) (H : Type) (enc : TypeId × Value → H) (F : Stop.Interp) :
    ReturnsInHanded {} Try.checked os 5 .any ((Rows.OpenSpec.upto Rows.stageWheresSpec).pre6 enc Try.prog Try.f5 Rows.stageWheresUptoRow.domain false) (((Rows.OpenSpec.upto Rows.stageWheresSpec).at F).post enc Try.prog Try.f5 false true false false) := by
  refine returnsInHanded_of_cond (C := Try.checked) (s := Rows.OpenSpec.upto Rows.stageWheresSpec) (k := Rows.uptoSmall) rfl own started (by kernel_rfl) Try.func5
    (OpenSpec.witness (enc := enc) (C := Try.checked) (s := Rows.OpenSpec.upto Rows.stageWheresSpec) (k := Rows.uptoSmall) rfl false ⟨#[], #[.slice none 0 0, .slice none 0 0, .slice none 0 0], []⟩ 8 (by kernel_rfl) (by kernel_rfl) (by kernel_rfl)
      (x := ([.nil, .nil, .nil], [], [])) (by kernel_rfl) rfl (by kernel_rfl)) ?_
  intro W base args ds gs before hval hW _ hk _
  exact contractW H enc W base args ds gs before hval hW hk
theorem stageWheresUpto_holds : Rows.StageWheresUptoSaid :=
  OpenClaim.holds_of_cond 5 Try.f5 rfl rfl rfl rfl rfl rfl rfl ⟨rfl, rfl, rfl, rfl, rfl⟩ rfl rfl rfl rfl rfl (by kernel_rfl) Try.func5 (by kernel_rfl)
    (of_decide_eq_true (by kernel_rfl)) (by unfold Func.isWrapper; first | (rw [if_pos (by decide +kernel)]; kernel_rfl) | (rw [if_neg (by decide +kernel)]; exact ⟨rfl, rfl⟩))
    (fun os started H enc _ F => liftedW os started H enc F)
#print axioms stageWheresUpto_holds
end Go.Proofs.Ytookbgmolggohab
