/-
  For every three sets and every byte the law OctetLaws returns true and leaves its arguments as they were: what is in both and what is in the one alone share nothing and make up the one; with the other one they make up either; a byte is in the union of three just if it is in one of them; all members of a set are in it. No condition.
-/
import Derived.Test.YtgfgkhgohoaneaaRows
import Derived.Test.YtgfgkhgohoaneaaLawL
import Derived.WalkKit
import Derived.ProofKit
import Derived.OpenShut
import Derived.ShutString
import Derived.ChangeOld
import Derived.Below
import Derived.SizedLaws
import Derived.Laws.IdiomArrays
namespace Go.Proofs.Ytgfgkhgohoaneaa
open Go.ChangeShapes Go.WideShapes Go.ChangeAt Go.RowKit
open Go.ChangeMaps (open_string shut_string)

theorem own : ownKnob Try.prog.godebug = none := by kernel_rfl
theorem laidOut : laidOutB Try.prog = true := by kernel_rfl

theorem cells44 : Try.prog.cellsOf 44 = 12 := by kernel_rfl
theorem types44 : Try.prog.cellTypes Try.prog.depth 44 = some (List.replicate 12 30) := by kernel_rfl
/-- A cell of a kind of integers holds one of it. -/
theorem cell_u64 {W : World} {r : Reach} {base : Nat} {v : Value} (h : Cell.okWide Try.prog W r base 30 v) : ∃ n, v = .int .u64 n ∧ 0 ≤ n ∧ n ≤ 18446744073709551615 := by
  unfold Cell.okWide at h
  rw [Try.underlying30] at h
  unfold Cell.ok at h
  rw [Try.underlying30] at h
  cases v <;> simp at h
  rename_i k n
  obtain ⟨rfl, h⟩ := h
  refine ⟨n, rfl, ?_⟩
  have h1 : (0 : Int) ≤ n ∧ n ≤ 2 ^ 64 - 1 := h
  omega
/-- Three sets that come in are words. -/
theorem open_sets {W : World} {r : Reach} {base : Nat} {v : Value} (hv : Value.okWide Try.prog W r base 44 v) : ∃ a b c : Nat → Bool, v = .agg #[.int .u64 (wd a 0), .int .u64 (wd a 1), .int .u64 (wd a 2), .int .u64 (wd a 3), .int .u64 (wd b 0), .int .u64 (wd b 1), .int .u64 (wd b 2), .int .u64 (wd b 3), .int .u64 (wd c 0), .int .u64 (wd c 1), .int .u64 (wd c 2), .int .u64 (wd c 3)] := by
  obtain ⟨cs, rfl, hsz, ts, hts, _, hc⟩ : ∃ cs, v = .agg cs ∧ cs.size = Try.prog.cellsOf 44 ∧ Row.okWide Try.prog W r base 44 cs := by
    simpa [Value.okWide, Try.underlying44] using hv
  rw [cells44] at hsz
  rw [types44] at hts
  cases hts
  have hn : ∀ i, i < 12 → ∃ n, cs[i]? = some (.int .u64 n) ∧ 0 ≤ n ∧ n ≤ 18446744073709551615 := by
    intro i hi
    have hi' : cs[i]? = some (cs[i]'(by omega)) := by simp [hsz, hi]
    obtain ⟨u, hu, hok⟩ := hc i _ hi'
    have : u = 30 := by
      have hm : i % (List.replicate 12 (30 : TypeId)).length = i := by simp; omega
      rw [hm] at hu
      have := List.mem_of_getElem? hu
      exact (List.mem_replicate.1 this).2
    subst this
    obtain ⟨n, hn, hb⟩ := cell_u64 hok
    exact ⟨n, by rw [hi', hn], hb⟩
  let X : Nat → Nat → Int := fun k i => if h : 4 * k + i < 12 ∧ i < 4 then (hn (4 * k + i) h.1).choose else 0
  have hX : ∀ k, Words (X k) := by
    intro k i
    show 0 ≤ (if h : 4 * k + i < 12 ∧ i < 4 then (hn (4 * k + i) h.1).choose else 0) ∧ (if h : 4 * k + i < 12 ∧ i < 4 then (hn (4 * k + i) h.1).choose else 0) ≤ 18446744073709551615
    split
    · rename_i h; exact (hn (4 * k + i) h.1).choose_spec.2
    · omega
  have hcell : ∀ k i, k < 3 → i < 4 → cs[4 * k + i]? = some (.int .u64 (X k i)) := by
    intro k i hk hi
    have h : 4 * k + i < 12 ∧ i < 4 := by omega
    show _ = some (Value.int .u64 (if h : 4 * k + i < 12 ∧ i < 4 then (hn (4 * k + i) h.1).choose else 0))
    rw [dif_pos h]
    exact (hn (4 * k + i) h.1).choose_spec.1
  have hw : ∀ k i, k < 3 → i < 4 → cs[4 * k + i]? = some (.int .u64 (wd (hasB (X k)) i)) := fun k i hk hi => by
    rw [hcell k i hk hi, wd_of (hX k) i]
  refine ⟨hasB (X 0), hasB (X 1), hasB (X 2), ?_⟩
  congr 1
  apply Array.ext_getElem?
  intro j
  by_cases hj : j < 12
  · match j, hj with
    | 0, _ => exact hw 0 0 (by omega) (by omega)
    | 1, _ => exact hw 0 1 (by omega) (by omega)
    | 2, _ => exact hw 0 2 (by omega) (by omega)
    | 3, _ => exact hw 0 3 (by omega) (by omega)
    | 4, _ => exact hw 1 0 (by omega) (by omega)
    | 5, _ => exact hw 1 1 (by omega) (by omega)
    | 6, _ => exact hw 1 2 (by omega) (by omega)
    | 7, _ => exact hw 1 3 (by omega) (by omega)
    | 8, _ => exact hw 2 0 (by omega) (by omega)
    | 9, _ => exact hw 2 1 (by omega) (by omega)
    | 10, _ => exact hw 2 2 (by omega) (by omega)
    | 11, _ => exact hw 2 3 (by omega) (by omega)
  · rw [Array.getElem?_eq_none (by omega), Array.getElem?_eq_none (by simp; omega)]

set_option maxRecDepth 100000 in
theorem liftedL (os : Os) (started : os.Started) (H : Type) (enc : TypeId × Value → H) :
    ReturnsInHanded {} Try.checked os 5 .any (Rows.octetLawsSpec.pre6 enc Try.prog Try.f5 Rows.octetLawsRow.domain false) (Rows.octetLawsSpec.post enc Try.prog Try.f5 false true false false) := by
  refine returnsInHanded_of_change (C := Try.checked) own started (by kernel_rfl) Try.func5
    (ChangeSpec.witness6 (enc := enc) (C := Try.checked) false ⟨#[], #[.agg #[.int .u64 0, .int .u64 0, .int .u64 0, .int .u64 0, .int .u64 0, .int .u64 0, .int .u64 0, .int .u64 0, .int .u64 0, .int .u64 0, .int .u64 0, .int .u64 0], .int .u8 0], []⟩ 8 (by kernel_rfl) (by kernel_rfl) (by kernel_rfl) (by kernel_rfl)) ?_
  intro W base args ds gs before hval0 hW hcnd _
  have hval : ∀ (j : Nat) t v, Try.f5.params[j]? = some t → args[j]? = some v → Value.okWide Try.prog W .any base t v := hval0
  have hW' := hW
  obtain ⟨p, q, hA0, hV, rfl, hfz, hnd⟩ := hW
  have hA : DataW.TrodAll enc Try.prog W 0 (fun _ => true) true Try.f5.params.toList args.toList ds p := hA0
  rw [Try.params5] at hA hval
  obtain ⟨v0, vs0, d0, ds0, p0, q0, hargs, rfl, rfl, h0, r0⟩ := trodAll_cons hA
  obtain ⟨v1, vs1, d1, ds1, p1, q1, rfl, rfl, rfl, h1, r1⟩ := trodAll_cons r0
  obtain ⟨rfl, rfl, rfl⟩ := trodAll_nil r1
  obtain rfl : args = #[v0, v1] := by cases args; simp_all
  obtain ⟨rfl, rfl⟩ := trodVars_none hV
  have k0 := h0
  have lt0 : ∀ x ∈ p0, x.block < W.heap.size := by obtain ⟨m, hm⟩ := k0; exact DataW.trod_lt m _ _ _ hm
  have k1 := h1
  have lt1 : ∀ x ∈ p1, x.block < W.heap.size := by obtain ⟨m, hm⟩ := k1; exact DataW.trod_lt m _ _ _ hm
  obtain ⟨a, b, c, rfl⟩ := open_sets (hval 0 44 v0 rfl rfl)
  obtain ⟨x, rfl, _, _, wx⟩ := open_int Try.underlying5 (hval 1 5 v1 rfl rfl) h1
  have bx := bounds_u8 wx
  obtain ⟨k, rfl⟩ : ∃ k : Nat, x = (k : Int) := ⟨x.toNat, by omega⟩
  clear hA0 hval0
  refine (law5 a b c k W (by omega)).mono fun e W' ⟨he, bel⟩ => ?_
  subst he
  exact ⟨_, rfl, _, _, _, [], _, [], hW', trodAll_mk1 (shut_bool Try.underlying4 _), (trodAll_cons_mk (Below.trod laidOut (by kernel_rfl) (of_decide_eq_true (by kernel_rfl)) k0 bel lt0) (trodAll_cons_mk (Below.trod laidOut (by kernel_rfl) (of_decide_eq_true (by kernel_rfl)) k1 bel lt1) trodAll_mk0)), rfl, bel.frame _, fun h => by cases h⟩

theorem octetLaws_holds : Rows.OctetLawsSaid :=
  OpenClaim.holds_of_wide 5 Try.f5 rfl rfl rfl rfl rfl rfl rfl ⟨rfl, rfl, rfl, rfl, rfl⟩ rfl rfl rfl rfl rfl (by kernel_rfl) Try.func5 (by kernel_rfl)
    (of_decide_eq_true (by kernel_rfl)) (by unfold Func.isWrapper; first | (rw [if_pos (by decide +kernel)]; kernel_rfl) | (rw [if_neg (by decide +kernel)]; exact ⟨rfl, rfl⟩))
    (fun os started H enc _ => liftedL os started H enc)
#print axioms octetLaws_holds
end Go.Proofs.Ytgfgkhgohoaneaa
