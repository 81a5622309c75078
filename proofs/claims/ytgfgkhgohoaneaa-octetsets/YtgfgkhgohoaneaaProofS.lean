/-
  For every two lists with a beginning and an end and every byte the law OctetSets returns true and leaves its arguments as they were: sets that are made, put together and told answer what the document's do. No condition.
-/
import Derived.Test.YtgfgkhgohoaneaaRows
import Derived.Test.YtgfgkhgohoaneaaLawS
import Derived.Lib.SmallJoins
import Derived.WalkKit
import Derived.ProofKit
import Derived.OpenShut
import Derived.ShutString
import Derived.ChangeOld
import Derived.Below
import Derived.SizedLaws
import Derived.Laws.IdiomArrays
namespace Go.Proofs.Ytgfgkhgohoaneaa
open Go.ChangeShapes Go.WideShapes Go.ChangeAt Go.RowKit
open Go.ChangeMaps (open_string shut_string)

theorem own : ownKnob Try.prog.godebug = none := by kernel_rfl
theorem laidOut : laidOutB Try.prog = true := by kernel_rfl
theorem cells5 : Try.prog.cellsOf 5 = 1 := by kernel_rfl
theorem bytes5 : Try.prog.bytesOf 5 = 1 := by kernel_rfl
/-- A list with a beginning and an end that came in. -/
theorem open_three {H : Type} {enc : TypeId × Value → H} {W : World} {base : Nat} {v : Value} {d : DataW H} {p : List MemPlace} (hval : Value.okWide Try.prog W .any base 29 v) (h : DataW.Trod enc Try.prog W 0 (fun _ => true) true 29 v d p) :
    ∃ (f t : Nat) (u : Value) (zs : List Int), v = .agg #[.int .u8 f, .int .u8 t, u] ∧ f < 256 ∧ t < 256 ∧ RdsA W u zs ∧ AreB zs ∧ (zs = [] ∨ ∃ x y more, d = .agg [x, y, .slice (lits .u8 zs) (lits .u8 more)]) := by
  obtain ⟨v0, v1, v2, y0, y1, y2, n, rfl, rfl, rfl, h0, h1, h2⟩ := Go.Joins.open_agg3 Try.underlying29 (by kernel_rfl) (by kernel_rfl) hval h
  obtain ⟨f, e0, x0, w0⟩ := DataW.trod_int Try.underlying5 h0
  obtain ⟨t, e1, x1, w1⟩ := DataW.trod_int Try.underlying5 h1
  have b0 := bounds_u8 w0
  have b1 := bounds_u8 w1
  simp only [List.cons.injEq, and_true] at e0 e1
  subst e0 e1
  obtain ⟨f, rfl⟩ : ∃ k : Nat, f = (k : Int) := ⟨f.toNat, by omega⟩
  obtain ⟨t, rfl⟩ : ∃ k : Nat, t = (k : Int) := ⟨t.toNat, by omega⟩
  rcases open_ints Try.underlying27 Try.underlying5 cells5 h2 with ⟨hcs, hx⟩ | ⟨a, len, cap, zs, hcs, _, hl, hm, hz, hx, hcell, hwz⟩
  · simp only [List.cons.injEq, and_true] at hcs
    subst hcs
    exact ⟨f, t, _, [], rfl, by omega, by omega, .inl ⟨rfl, rfl⟩, (fun z hz => by cases hz), .inl rfl⟩
  · simp only [List.cons.injEq, and_true] at hcs
    subst hcs
    simp only [if_true] at hz
    have hlen : (zs.take len).length = len := by rw [List.length_take]; omega
    refine ⟨f, t, _, zs.take len, rfl, by omega, by omega, .inr ⟨a, cap, by rw [hlen], fun j hj => ?_⟩, (fun z hz => ?_), .inr ⟨y0.1, y1.1, zs.drop len, ?_⟩⟩
    · rw [hlen] at hj
      rw [hcell j (by omega)]
      simp [List.getD, List.getElem?_take_of_lt hj]
    · have := bounds_u8 (hwz z (List.mem_of_mem_take hz))
      omega
    · rw [hx]
theorem sized_three {H : Type} {ts : List TypeId} {ds : List (DataW H)} (h : (DataW.weightsEach Try.prog ts ds).all (· ≤ reachBytes) = true) {j : Nat} {x y : DataW H} {zs more : List Int} (ht : ts[j]? = some 29) (hd : ds[j]? = some (.agg [x, y, .slice (lits .u8 zs) (lits .u8 more)])) : zs.length ≤ 140737488355328 := by
  have := List.all_eq_true.1 h _ (DataW.weights_mem_each ht hd (((lits (H := H) .u8 zs).length + (lits (H := H) .u8 more).length) * Try.prog.bytesOf 5) (by simp [DataW.weights, DataW.weightsEach, Try.underlying29, Try.underlying27]))
  rw [bytes5] at this
  simp [lits, reachBytes] at this
  omega

set_option maxRecDepth 100000 in
theorem liftedS (os : Os) (started : os.Started) (H : Type) (enc : TypeId × Value → H) :
    ReturnsInHanded {} Try.checked os 4 .any (Rows.octetSetsSpec.pre6 enc Try.prog Try.f4 Rows.octetSetsRow.domain false) (Rows.octetSetsSpec.post enc Try.prog Try.f4 false true false false) := by
  refine returnsInHanded_of_change_sized (C := Try.checked) own started (by kernel_rfl) Try.func4
    (ChangeSpec.witness6 (enc := enc) (C := Try.checked) false ⟨#[], #[.agg #[.int .u8 0, .int .u8 0, .slice none 0 0], .agg #[.int .u8 0, .int .u8 0, .slice none 0 0], .int .u8 0], []⟩ 8 (by kernel_rfl) (by kernel_rfl) (by kernel_rfl) (by kernel_rfl)) ?_
  intro W base args ds gs before hval0 hW hcnd hsz0 _
  have hval : ∀ (j : Nat) t v, Try.f4.params[j]? = some t → args[j]? = some v → Value.okWide Try.prog W .any base t v := hval0
  have hsz : (DataW.weightsEach Try.prog (Try.f4.params.toList ++ Rows.octetSetsSpec.plain.varTypes Try.prog) (ds ++ gs)).all (· ≤ reachBytes) = true := hsz0
  have hW' := hW
  obtain ⟨p, q, hA0, hV, rfl, hfz, hnd⟩ := hW
  have hA : DataW.TrodAll enc Try.prog W 0 (fun _ => true) true Try.f4.params.toList args.toList ds p := hA0
  rw [Try.params4] at hA hval hsz
  obtain ⟨v0, vs0, d0, ds0, p0, q0, hargs, rfl, rfl, h0, r0⟩ := trodAll_cons hA
  obtain ⟨v1, vs1, d1, ds1, p1, q1, rfl, rfl, rfl, h1, r1⟩ := trodAll_cons r0
  obtain ⟨v2, vs2, d2, ds2, p2, q2, rfl, rfl, rfl, h2, r2⟩ := trodAll_cons r1
  obtain ⟨rfl, rfl, rfl⟩ := trodAll_nil r2
  obtain rfl : args = #[v0, v1, v2] := by cases args; simp_all
  obtain ⟨rfl, rfl⟩ := trodVars_none hV
  have k0 := h0
  have lt0 : ∀ x ∈ p0, x.block < W.heap.size := by obtain ⟨m, hm⟩ := k0; exact DataW.trod_lt m _ _ _ hm
  have k1 := h1
  have lt1 : ∀ x ∈ p1, x.block < W.heap.size := by obtain ⟨m, hm⟩ := k1; exact DataW.trod_lt m _ _ _ hm
  have k2 := h2
  have lt2 : ∀ x ∈ p2, x.block < W.heap.size := by obtain ⟨m, hm⟩ := k2; exact DataW.trod_lt m _ _ _ hm
  obtain ⟨f0, t0, u0, zs0, rfl, hf0, ht0, hR0, hB0, hd0⟩ := open_three (hval 0 29 v0 rfl rfl) h0
  have hl0 : zs0.length ≤ 140737488355328 := by
    rcases hd0 with rfl | ⟨x, y, more, hd0⟩
    · simp
    · exact sized_three hsz (j := 0) rfl (by rw [hd0]; rfl)
  obtain ⟨f1, t1, u1, zs1, rfl, hf1, ht1, hR1, hB1, hd1⟩ := open_three (hval 1 29 v1 rfl rfl) h1
  have hl1 : zs1.length ≤ 140737488355328 := by
    rcases hd1 with rfl | ⟨x, y, more, hd1⟩
    · simp
    · exact sized_three hsz (j := 1) rfl (by rw [hd1]; rfl)
  obtain ⟨x, rfl, _, _, wx⟩ := open_int Try.underlying5 (hval 2 5 v2 rfl rfl) h2
  have bx := bounds_u8 wx
  obtain ⟨x, rfl⟩ : ∃ k : Nat, x = (k : Int) := ⟨x.toNat, by omega⟩
  clear hA0 hval0
  refine (Sf.lawS f0 t0 f1 t1 x u0 u1 zs0 zs1 W hf0 ht0 hf1 ht1 (by omega) hR0 hR1 hl0 hl1 hB0 hB1).mono fun e W' ⟨he, bel⟩ => ?_
  subst he
  exact ⟨_, rfl, _, _, _, [], _, [], hW', trodAll_mk1 (shut_bool Try.underlying4 _), (trodAll_cons_mk (Below.trod laidOut (by kernel_rfl) (of_decide_eq_true (by kernel_rfl)) k0 bel lt0) (trodAll_cons_mk (Below.trod laidOut (by kernel_rfl) (of_decide_eq_true (by kernel_rfl)) k1 bel lt1) (trodAll_cons_mk (Below.trod laidOut (by kernel_rfl) (of_decide_eq_true (by kernel_rfl)) k2 bel lt2) trodAll_mk0))), rfl, bel.frame _, fun h => by cases h⟩

theorem octetSets_holds : Rows.OctetSetsSaid :=
  OpenClaim.holds_of_wide 4 Try.f4 rfl rfl rfl rfl rfl rfl rfl ⟨rfl, rfl, rfl, rfl, rfl⟩ rfl rfl rfl rfl rfl (by kernel_rfl) Try.func4 (by kernel_rfl)
    (of_decide_eq_true (by kernel_rfl)) (by unfold Func.isWrapper; first | (rw [if_pos (by decide +kernel)]; kernel_rfl) | (rw [if_neg (by decide +kernel)]; exact ⟨rfl, rfl⟩))
    (fun os started H enc _ => liftedS os started H enc)
#print axioms octetSets_holds
end Go.Proofs.Ytgfgkhgohoaneaa
