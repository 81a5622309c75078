/-
  For all parts whatever the law RealOf returns true and leaves its argument as it was: real.Of and real.Of32 give the float whose parts are just these, or nothing and the error where there is none, as the document has it. No condition.
-/
import Derived.Test.YtjcjecbffnadaaaRows
import Derived.Test.YtjcjecbffnadaaaLawF
import Derived.WalkKit
import Derived.ProofKit
import Derived.OpenShut
import Derived.ShutString
import Derived.ChangeOld
import Derived.Below
import Derived.SizedLaws
import Derived.Laws.IdiomArrays
namespace Go.Proofs.Ytjcjecbffnadaaa
open Go.ChangeShapes Go.WideShapes Go.ChangeAt Go.RowKit
open Go.ChangeMaps (open_string shut_string)

theorem own : ownKnob Try.prog.godebug = none := by kernel_rfl
theorem laidOut : laidOutB Try.prog = true := by kernel_rfl
theorem cells30 : Try.prog.cellsOf 30 = 6 := by kernel_rfl
theorem types30 : Try.prog.cellTypes Try.prog.depth 30 = some [3, 4, 22, 3, 4, 22] := by kernel_rfl
theorem cell_u64 {W : World} {r : Reach} {base : Nat} {v : Value} (h : Cell.okWide Try.prog W r base 22 v) : ∃ n : Nat, v = .int .u64 (n : Int) ∧ n < 18446744073709551616 := by
  unfold Cell.okWide at h
  rw [Try.underlying22] at h
  unfold Cell.ok at h
  rw [Try.underlying22] at h
  cases v <;> simp at h
  rename_i k n
  obtain ⟨rfl, h⟩ := h
  have h1 : (0 : Int) ≤ n ∧ n ≤ 2 ^ 64 - 1 := h
  refine ⟨n.toNat, ?_, by omega⟩
  rw [Int.toNat_of_nonneg h1.1]
theorem cell_i64 {W : World} {r : Reach} {base : Nat} {v : Value} (h : Cell.okWide Try.prog W r base 3 v) : ∃ n : Int, v = .int .i64 n := by
  unfold Cell.okWide at h
  rw [Try.underlying3] at h
  unfold Cell.ok at h
  rw [Try.underlying3] at h
  cases v <;> simp at h
  rename_i k n
  obtain ⟨rfl, h⟩ := h
  exact ⟨n, rfl⟩
theorem cell_bool {W : World} {r : Reach} {base : Nat} {v : Value} (h : Cell.okWide Try.prog W r base 4 v) : ∃ b : Bool, v = .bool b := by
  unfold Cell.okWide at h
  rw [Try.underlying4] at h
  unfold Cell.ok at h
  rw [Try.underlying4] at h
  cases v <;> simp at h
  exact ⟨_, rfl⟩
/-- Parts that come in are parts. -/
theorem open_float {W : World} {r : Reach} {base : Nat} {v : Value} (hv : Value.okWide Try.prog W r base 30 v) : ∃ x : Pt, v = x.val ∧ x.mant < 18446744073709551616 ∧ x.load < 18446744073709551616 := by
  obtain ⟨cs, rfl, hsz, ts, hts, _, hc⟩ : ∃ cs, v = .agg cs ∧ cs.size = Try.prog.cellsOf 30 ∧ Row.okWide Try.prog W r base 30 cs := by
    simpa [Value.okWide, Try.underlying30] using hv
  rw [cells30] at hsz
  rw [types30] at hts
  cases hts
  have at_ : ∀ i (h : i < 6), ∃ u, [3, 4, 22, 3, 4, 22][i % 6]? = some u ∧ Cell.okWide Try.prog W r base u (cs[i]'(by omega)) := by
    intro i hi
    have hi' : cs[i]? = some (cs[i]'(by omega)) := by simp [hsz, hi]
    exact hc i _ hi'
  obtain ⟨u0, e0, h0⟩ := at_ 0 (by omega)
  obtain ⟨u1, e1, h1⟩ := at_ 1 (by omega)
  obtain ⟨u2, e2, h2⟩ := at_ 2 (by omega)
  obtain ⟨u3, e3, h3⟩ := at_ 3 (by omega)
  obtain ⟨u4, e4, h4⟩ := at_ 4 (by omega)
  obtain ⟨u5, e5, h5⟩ := at_ 5 (by omega)
  simp at e0 e1 e2 e3 e4 e5
  subst e0 e1 e2 e3 e4 e5
  obtain ⟨a, ha⟩ := cell_i64 h0
  obtain ⟨b, hb⟩ := cell_bool h1
  obtain ⟨c, hc', hc2⟩ := cell_u64 h2
  obtain ⟨d, hd⟩ := cell_i64 h3
  obtain ⟨e, he⟩ := cell_bool h4
  obtain ⟨f, hf, hf2⟩ := cell_u64 h5
  refine ⟨⟨a, b, c, d, e, f⟩, ?_, hc2, hf2⟩
  unfold Pt.val
  congr 1
  apply Array.ext
  · simp [hsz]
  · intro i hi1 hi2
    have : i < 6 := by simpa [hsz] using hi1
    match i, this with
    | 0, _ => exact ha
    | 1, _ => exact hb
    | 2, _ => exact hc'
    | 3, _ => exact hd
    | 4, _ => exact he
    | 5, _ => exact hf

set_option maxRecDepth 100000 in
theorem liftedF (os : Os) (started : os.Started) (H : Type) (enc : TypeId × Value → H) :
    ReturnsInHanded {} Try.checked os 4 .any (Rows.realOfSpec.pre6 enc Try.prog Try.f4 Rows.realOfRow.domain false) (Rows.realOfSpec.post enc Try.prog Try.f4 false true false false) := by
  refine returnsInHanded_of_change (C := Try.checked) own started (by kernel_rfl) Try.func4
    (ChangeSpec.witness6 (enc := enc) (C := Try.checked) false ⟨#[], #[.agg #[.int .i64 0, .bool false, .int .u64 0, .int .i64 0, .bool false, .int .u64 0]], []⟩ 8 (by kernel_rfl) (by kernel_rfl) (by kernel_rfl) (by kernel_rfl)) ?_
  intro W base args ds gs before hval0 hW hcnd _
  have hval : ∀ (j : Nat) t v, Try.f4.params[j]? = some t → args[j]? = some v → Value.okWide Try.prog W .any base t v := hval0
  have hW' := hW
  obtain ⟨p, q, hA0, hV, rfl, hfz, hnd⟩ := hW
  have hA : DataW.TrodAll enc Try.prog W 0 (fun _ => true) true Try.f4.params.toList args.toList ds p := hA0
  rw [Try.params4] at hA hval
  obtain ⟨v0, vs0, d0, ds0, p0, q0, hargs, rfl, rfl, h0, r0⟩ := trodAll_cons hA
  obtain ⟨rfl, rfl, rfl⟩ := trodAll_nil r0
  obtain rfl : args = #[v0] := by cases args; simp_all
  obtain ⟨rfl, rfl⟩ := trodVars_none hV
  have k0 := h0
  have lt0 : ∀ x ∈ p0, x.block < W.heap.size := by obtain ⟨m, hm⟩ := k0; exact DataW.trod_lt m _ _ _ hm
  obtain ⟨x, rfl, hm, hl⟩ := open_float (hval 0 30 v0 rfl rfl)
  clear hA0 hval0
  refine (law_of x W hm hl).mono fun e W' ⟨he, bel⟩ => ?_
  subst he
  exact ⟨_, rfl, _, _, _, [], _, [], hW', trodAll_mk1 (shut_bool Try.underlying4 _), (trodAll_cons_mk (Below.trod laidOut (by kernel_rfl) (of_decide_eq_true (by kernel_rfl)) k0 bel lt0) trodAll_mk0), rfl, bel.frame _, fun h => by cases h⟩

theorem realOf_holds : Rows.RealOfSaid :=
  OpenClaim.holds_of_wide 4 Try.f4 rfl rfl rfl rfl rfl rfl rfl ⟨rfl, rfl, rfl, rfl, rfl⟩ rfl rfl rfl rfl rfl (by kernel_rfl) Try.func4 (by kernel_rfl)
    (of_decide_eq_true (by kernel_rfl)) (by unfold Func.isWrapper; first | (rw [if_pos (by decide +kernel)]; kernel_rfl) | (rw [if_neg (by decide +kernel)]; exact ⟨rfl, rfl⟩))
    (fun os started H enc _ => liftedF os started H enc)
#print axioms realOf_holds
end Go.Proofs.Ytjcjecbffnadaaa
