/-
  For all two lists of floats, nil too, the law TotalRuns returns true and leaves its arguments as they were: a Running tells of the numbers that were added to it the mean, the spread, the least and the greatest, as the document's Run does, bit by bit; two know nothing of one another; a nil one takes none. No condition.
-/
import Derived.Test.YtdhfkdopcphjlabRows
import Derived.Test.YtdhfkdopcphjlabRa
import Derived.Test.YtdhfkdopcphjlabOpf
import Derived.WalkKit
import Derived.ProofKit
import Derived.OpenShut
import Derived.ShutString
import Derived.ChangeOld
import Derived.Below
import Derived.SizedLaws
import Derived.Laws.IdiomArrays
namespace Go.Proofs.Ytdhfkdopcphjlab
open Go.ChangeShapes Go.WideShapes Go.ChangeAt Go.RowKit
open Go.ChangeMaps (open_string shut_string)

theorem own : ownKnob Try.prog.godebug = none := by kernel_rfl
theorem laidOut : laidOutB Try.prog = true := by kernel_rfl

set_option maxRecDepth 100000 in
theorem liftedR (os : Os) (started : os.Started) (H : Type) (enc : TypeId × Value → H) :
    ReturnsInHanded {} Try.checked os 8 .any (Rows.totalRunsSpec.pre6 enc Try.prog Try.f8 Rows.totalRunsRow.domain false) (Rows.totalRunsSpec.post enc Try.prog Try.f8 false true false false) := by
  refine returnsInHanded_of_change_sized (C := Try.checked) own started (by kernel_rfl) Try.func8
    (ChangeSpec.witness6 (enc := enc) (C := Try.checked) false ⟨#[], #[.slice none 0 0, .slice none 0 0], []⟩ 8 (by kernel_rfl) (by kernel_rfl) (by kernel_rfl) (by kernel_rfl)) ?_
  intro W base args ds gs before hval0 hW hcnd hsz0 _
  have hval : ∀ (j : Nat) t v, Try.f8.params[j]? = some t → args[j]? = some v → Value.okWide Try.prog W .any base t v := hval0
  have hsz : (DataW.weightsEach Try.prog (Try.f8.params.toList ++ Rows.totalRunsSpec.plain.varTypes Try.prog) (ds ++ gs)).all (· ≤ reachBytes) = true := hsz0
  have hW' := hW
  obtain ⟨p, q, hA0, hV, rfl, hfz, hnd⟩ := hW
  have hA : DataW.TrodAll enc Try.prog W 0 (fun _ => true) true Try.f8.params.toList args.toList ds p := hA0
  rw [Try.params8] at hA hval hsz
  obtain ⟨v0, vs0, d0, ds0, p0, q0, hargs, rfl, rfl, h0, r0⟩ := trodAll_cons hA
  obtain ⟨v1, vs1, d1, ds1, p1, q1, rfl, rfl, rfl, h1, r1⟩ := trodAll_cons r0
  obtain ⟨rfl, rfl, rfl⟩ := trodAll_nil r1
  obtain rfl : args = #[v0, v1] := by cases args; simp_all
  obtain ⟨rfl, rfl⟩ := trodVars_none hV
  have k0 := h0
  have lt0 : ∀ x ∈ p0, x.block < W.heap.size := by obtain ⟨m, hm⟩ := k0; exact DataW.trod_lt m _ _ _ hm
  have k1 := h1
  have lt1 : ∀ x ∈ p1, x.block < W.heap.size := by obtain ⟨m, hm⟩ := k1; exact DataW.trod_lt m _ _ _ hm
  obtain ⟨bs0, hbs0, hR0, hd0⟩ := open_f64s (hval 0 24 v0 rfl rfl) h0
  have hr0 : 8 * bs0.length ≤ 140737488355328 := by
    rcases hd0 with ⟨_, rfl⟩ | ⟨xs, ys, hzl, hd0⟩
    · simp
    · have := sized_slice hsz (j := 0) (t := 24) (e := 22) rfl (by rw [hd0]; rfl) Try.underlying24
      rw [bytes25] at this
      simp [reachBytes] at this
      omega
  obtain ⟨bs1, hbs1, hR1, hd1⟩ := open_f64s (hval 1 24 v1 rfl rfl) h1
  have hr1 : 8 * bs1.length ≤ 140737488355328 := by
    rcases hd1 with ⟨_, rfl⟩ | ⟨xs, ys, hzl, hd1⟩
    · simp
    · have := sized_slice hsz (j := 1) (t := 24) (e := 22) rfl (by rw [hd1]; rfl) Try.underlying24
      rw [bytes25] at this
      simp [reachBytes] at this
      omega
  clear hA0 hval0
  refine (law_runs bs0 bs1 v0 v1 W hbs0 hbs1 (by omega) (by omega) hR0 hR1).mono fun e W' ⟨he, bel⟩ => ?_
  subst he
  exact ⟨_, rfl, _, _, _, [], _, [], hW', trodAll_mk1 (shut_bool Try.underlying4 _), (trodAll_cons_mk (Below.trod laidOut (by kernel_rfl) (of_decide_eq_true (by kernel_rfl)) k0 bel lt0) (trodAll_cons_mk (Below.trod laidOut (by kernel_rfl) (of_decide_eq_true (by kernel_rfl)) k1 bel lt1) trodAll_mk0)), rfl, bel.frame _, fun h => by cases h⟩

theorem totalRuns_holds : Rows.TotalRunsSaid :=
  OpenClaim.holds_of_wide 8 Try.f8 rfl rfl rfl rfl rfl rfl rfl ⟨rfl, rfl, rfl, rfl, rfl⟩ rfl rfl rfl rfl rfl (by kernel_rfl) Try.func8 (by kernel_rfl)
    (of_decide_eq_true (by kernel_rfl)) (by unfold Func.isWrapper; first | (rw [if_pos (by decide +kernel)]; kernel_rfl) | (rw [if_neg (by decide +kernel)]; exact ⟨rfl, rfl⟩))
    (fun os started H enc _ => liftedR os started H enc)
#print axioms totalRuns_holds
end Go.Proofs.Ytdhfkdopcphjlab
