/-
  For all bits of a float and every list of bits, nil too, the law RealExtremes returns true and leaves its arguments as they were: real.Minimum, real.Maximum and real.Least give what the document's order gives. No condition.
-/
import Derived.Test.YtjcjecbffnadaaaRows
import Derived.Test.YtjcjecbffnadaaaLawX
import Derived.WalkKit
import Derived.ProofKit
import Derived.OpenShut
import Derived.ShutString
import Derived.ChangeOld
import Derived.Below
import Derived.SizedLaws
import Derived.Laws.IdiomArrays
namespace Go.Proofs.Ytjcjecbffnadaaa
open Go.ChangeShapes Go.WideShapes Go.ChangeAt Go.RowKit
open Go.ChangeMaps (open_string shut_string)

theorem own : ownKnob Try.prog.godebug = none := by kernel_rfl
theorem laidOut : laidOutB Try.prog = true := by kernel_rfl
theorem wf64 {a : Int} (h : (Lit.int .u64 a).wf = true) : ∃ n : Nat, a = n ∧ n < 18446744073709551616 := by
  simp [Lit.wf, IntKind.min, IntKind.max, IntKind.bits, IntKind.signed] at h
  exact ⟨a.toNat, by omega, by omega⟩
theorem cells22 : Try.prog.cellsOf 22 = 1 := by kernel_rfl
theorem bytes22 : Try.prog.bytesOf 22 = 8 := by kernel_rfl
theorem nats_of {zs : List Int} (h : ∀ z ∈ zs, (Lit.int .u64 z).wf = true) : ∃ bs : List Nat, bs.length = zs.length ∧ (∀ b ∈ bs, b < 18446744073709551616) ∧ ∀ j, j < zs.length → zs.getD j 0 = ((bs.getD j 0 : Nat) : Int) := by
  refine ⟨zs.map Int.toNat, by simp, ?_, ?_⟩
  · intro b hb
    obtain ⟨z, hz, rfl⟩ := List.mem_map.1 hb
    obtain ⟨n, rfl, hn⟩ := wf64 (h z hz)
    simpa using hn
  · intro j hj
    obtain ⟨n, hn, _⟩ := wf64 (h zs[j] (List.getElem_mem hj))
    simp [List.getD, List.getElem?_eq_getElem hj, hn]
/-- A list of numbers of 64 bits that came in. -/
theorem open_u64s {H : Type} {enc : TypeId × Value → H} {W : World} {base : Nat} {v : Value} {d : DataW H} {p : List MemPlace} (hval : Value.okWide Try.prog W .any base 60 v) (h : DataW.Trod enc Try.prog W 0 (fun _ => true) true 60 v d p) :
    ∃ bs : List Nat, (∀ b ∈ bs, b < 18446744073709551616) ∧ Rd W v (bs.map fun b : Nat => Value.int .u64 (b : Int)) ∧ ((d = .nil ∧ bs = []) ∨ ∃ zs more, zs.length = bs.length ∧ d = .slice (lits .u64 zs) (lits .u64 more)) := by
  obtain ⟨a0, len, cap, rfl⟩ := okWide_slice Try.underlying60 hval
  obtain ⟨fuel, hf⟩ := h
  rcases open_ints Try.underlying60 Try.underlying22 cells22 hf with ⟨hcs, hx⟩ | ⟨a, len', cap', zs, hcs, _, hl, hm, hz, hx, hcell, hwz⟩
  · simp [Value.cells] at hcs
    obtain ⟨rfl, rfl, rfl⟩ := hcs
    simp only [Prod.mk.injEq] at hx
    exact ⟨[], by simp, ⟨none, 0, rfl, fun h => by simp at h⟩, .inl ⟨hx.1, rfl⟩⟩
  · simp [Value.cells] at hcs
    obtain ⟨rfl, rfl, rfl⟩ := hcs
    simp only [Prod.mk.injEq] at hx
    simp only [if_true] at hz
    have hlen : (zs.take len).length = len := by rw [List.length_take]; omega
    obtain ⟨bs, hb1, hb2, hb3⟩ := nats_of (zs := zs.take len) fun z hz => hwz z (List.mem_of_mem_take hz)
    rw [hlen] at hb1 hb3
    refine ⟨bs, hb2, ⟨some a, cap, by rw [List.length_map, hb1], fun hp => ?_⟩, .inr ⟨zs.take len, zs.drop len, by rw [hlen, hb1], hx.1⟩⟩
    rw [List.length_map, hb1] at hp
    obtain ⟨g, off, rfl, hc⟩ := ints_at hcell (by omega)
    refine ⟨g, off, rfl, fun j hj => ?_⟩
    rw [List.length_map, hb1] at hj
    have h3 := hb3 j hj
    rw [hc j (by omega)]
    have h4 : (zs.take len).getD j 0 = zs.getD j 0 := by simp [List.getD, List.getElem?_take_of_lt hj]
    rw [← h4, h3]
    simp [List.getD, List.getElem?_eq_getElem (show j < bs.length by omega)]
theorem law_x' (a : Int) (bs : List Nat) (v : Value) (W : World) (h1 : (Lit.int .u64 a).wf = true) (hbs : ∀ b ∈ bs, b < 18446744073709551616) (hl : 8 * bs.length ≤ 140737488355328) (hrd : Rd W v (bs.map fun b : Nat => Value.int .u64 (b : Int))) : Calls Try.prog 7 #[.int .u64 a, v] W fun e w' => e = .returned (.bool true) ∧ Below W.heap.size W w' := by
  obtain ⟨x, rfl, hx⟩ := wf64 h1
  exact law_x x bs v W hx hbs hl hrd

set_option maxRecDepth 100000 in
theorem liftedX (os : Os) (started : os.Started) (H : Type) (enc : TypeId × Value → H) :
    ReturnsInHanded {} Try.checked os 7 .any (Rows.realExtremesSpec.pre6 enc Try.prog Try.f7 Rows.realExtremesRow.domain false) (Rows.realExtremesSpec.post enc Try.prog Try.f7 false true false false) := by
  refine returnsInHanded_of_change_sized (C := Try.checked) own started (by kernel_rfl) Try.func7
    (ChangeSpec.witness6 (enc := enc) (C := Try.checked) false ⟨#[], #[.int .u64 0, .slice none 0 0], []⟩ 8 (by kernel_rfl) (by kernel_rfl) (by kernel_rfl) (by kernel_rfl)) ?_
  intro W base args ds gs before hval0 hW hcnd hsz0 _
  have hval : ∀ (j : Nat) t v, Try.f7.params[j]? = some t → args[j]? = some v → Value.okWide Try.prog W .any base t v := hval0
  have hsz : (DataW.weightsEach Try.prog (Try.f7.params.toList ++ Rows.realExtremesSpec.plain.varTypes Try.prog) (ds ++ gs)).all (· ≤ reachBytes) = true := hsz0
  have hW' := hW
  obtain ⟨p, q, hA0, hV, rfl, hfz, hnd⟩ := hW
  have hA : DataW.TrodAll enc Try.prog W 0 (fun _ => true) true Try.f7.params.toList args.toList ds p := hA0
  rw [Try.params7] at hA hval hsz
  obtain ⟨v0, vs0, d0, ds0, p0, q0, hargs, rfl, rfl, h0, r0⟩ := trodAll_cons hA
  obtain ⟨v1, vs1, d1, ds1, p1, q1, rfl, rfl, rfl, h1, r1⟩ := trodAll_cons r0
  obtain ⟨rfl, rfl, rfl⟩ := trodAll_nil r1
  obtain rfl : args = #[v0, v1] := by cases args; simp_all
  obtain ⟨rfl, rfl⟩ := trodVars_none hV
  have k0 := h0
  have lt0 : ∀ x ∈ p0, x.block < W.heap.size := by obtain ⟨m, hm⟩ := k0; exact DataW.trod_lt m _ _ _ hm
  have k1 := h1
  have lt1 : ∀ x ∈ p1, x.block < W.heap.size := by obtain ⟨m, hm⟩ := k1; exact DataW.trod_lt m _ _ _ hm
  obtain ⟨a0, rfl, _, _, wf0⟩ := open_int Try.underlying22 (hval 0 22 v0 rfl rfl) h0
  obtain ⟨bs, hbs, hR, hd1⟩ := open_u64s (hval 1 60 v1 rfl rfl) h1
  have hr1 : 8 * bs.length ≤ 140737488355328 := by
    rcases hd1 with ⟨_, rfl⟩ | ⟨zs, more, hzl, hd1⟩
    · simp
    · have := sized_slice hsz (j := 1) (t := 60) (e := 22) rfl (by rw [hd1]; rfl) Try.underlying60
      rw [bytes22] at this
      simp [lits, reachBytes] at this
      omega
  clear hA0 hval0
  refine (law_x' a0 bs v1 W wf0 hbs hr1 hR).mono fun e W' ⟨he, bel⟩ => ?_
  subst he
  exact ⟨_, rfl, _, _, _, [], _, [], hW', trodAll_mk1 (shut_bool Try.underlying4 _), (trodAll_cons_mk (Below.trod laidOut (by kernel_rfl) (of_decide_eq_true (by kernel_rfl)) k0 bel lt0) (trodAll_cons_mk (Below.trod laidOut (by kernel_rfl) (of_decide_eq_true (by kernel_rfl)) k1 bel lt1) trodAll_mk0)), rfl, bel.frame _, fun h => by cases h⟩

theorem realExtremes_holds : Rows.RealExtremesSaid :=
  OpenClaim.holds_of_wide 7 Try.f7 rfl rfl rfl rfl rfl rfl rfl ⟨rfl, rfl, rfl, rfl, rfl⟩ rfl rfl rfl rfl rfl (by kernel_rfl) Try.func7 (by kernel_rfl)
    (of_decide_eq_true (by kernel_rfl)) (by unfold Func.isWrapper; first | (rw [if_pos (by decide +kernel)]; kernel_rfl) | (rw [if_neg (by decide +kernel)]; exact ⟨rfl, rfl⟩))
    (fun os started H enc _ => liftedX os started H enc)
#print axioms realExtremes_holds
end Go.Proofs.Ytjcjecbffnadaaa
