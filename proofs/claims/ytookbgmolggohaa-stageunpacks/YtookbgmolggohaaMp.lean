/-
  The map from blocks to their numbers. Conditions: the numbers of the blocks are from 0 to 65535.
-/
import Derived.Test.YtookbgmolggohaaFu
import Derived.Maps.OwnSet
import Derived.DeepKeys5
namespace Go.Proofs.Ytookbgmolggohaa
open Go.RowKit Go.Maps
theorem laidOut8 : laidOutB Try.prog = true := by kernel_rfl
theorem key_law : Keyed Try.prog 72 := Keyed.of_law (deep_law_gate laidOut8 (of_decide_eq_true (by kernel_rfl)) (of_decide_eq_true (by kernel_rfl)) (by kernel_rfl) (by kernel_rfl))
/-- The numbers of a block. -/
structure isBlk (f : Nat → Int) : Prop where
  range : ∀ j, 0 ≤ f j ∧ f j ≤ 65535
  rest : ∀ j, 128 ≤ j → f j = 0
theorem isBlk_blk {F : Int → Int} (hF : ∀ p, 0 ≤ F p ∧ F p ≤ 65535) (i : Nat) : isBlk (blk F i) := ⟨blk_range hF i, fun j hj => by unfold blk; rw [if_neg (by omega)]⟩
def bv (f : Nat → Int) : Value := .agg (rowOf .u16 128 f)
theorem bv_inj {f g : Nat → Int} (hf : isBlk f) (hg : isBlk g) (h : bv f = bv g) : f = g := by
  unfold bv at h
  simp only [Value.agg.injEq] at h
  funext j
  by_cases hj : j < 128
  · have h1 := rowOf_get .u16 128 f j hj
    rw [h, rowOf_get .u16 128 g j hj] at h1
    simpa using h1.symm
  · rw [hf.rest j (by omega), hg.rest j (by omega)]
theorem mapM_some' {α β : Type} (g : α → Option β) : ∀ (l : List α), (∀ a ∈ l, ∃ b, g a = some b) → ∃ r, l.mapM g = some r
  | [], _ => ⟨[], rfl⟩
  | a :: l, h => by
    obtain ⟨b, hb⟩ := h a (by simp)
    obtain ⟨r, hr⟩ := mapM_some' g l fun x hx => h x (by simp [hx])
    exact ⟨b :: r, by simp [List.mapM_cons, hb, hr]⟩
theorem cells72 : Try.prog.cellsOf 72 = 128 := by kernel_rfl
theorem cells70 : Try.prog.cellsOf 70 = 1 := by kernel_rfl
theorem keyType72 : Try.prog.keyType 72 = true := by kernel_rfl
theorem tsize : Try.prog.types.size = 129 := by kernel_rfl
theorem keyLits_arr {P : Program} (d : Nat) {t e n : Nat} {cs : List Value} (h : P.underlying t = some (.array n e)) : P.keyLits (d + 1) t cs = if cs.length = P.cellsOf t then ((List.range n).mapM fun i => P.keyLits d e ((cs.drop (i * P.cellsOf e)).take (P.cellsOf e))).map List.flatten else none := by
  simp only [Program.keyLits, h]
theorem key_row (f : Nat → Int) (hf : isBlk f) : ∃ l, keyOf Try.prog 72 (bv f) = some l := by
  unfold keyOf bv
  rw [Try.underlying72]
  have h1 : (Value.agg (rowOf .u16 128 f)).formed Try.prog 72 = true := by
    simp only [Value.formed, Try.underlying72, rowOf_size, cells72]
    rfl
  simp only [keyType72, h1, Bool.and_self, if_true, agg_cells, tsize]
  have hl : (rowOf .u16 128 f).toList.length = 128 := by simp [rowOf_size]
  obtain ⟨r, hr⟩ := mapM_some' (fun i => Try.prog.keyLits 129 70 (((rowOf .u16 128 f).toList.drop (i * Try.prog.cellsOf 70)).take (Try.prog.cellsOf 70))) (List.range 128) (fun i hi => by
    have hi' : i < 128 := by simpa using hi
    have hg := rowOf_get .u16 128 f i hi'
    have e : ((rowOf .u16 128 f).toList.drop (i * Try.prog.cellsOf 70)).take (Try.prog.cellsOf 70) = [.int .u16 (f i)] := by
      rw [cells70, Nat.mul_one]
      rw [← Array.getElem?_toList] at hg
      have hlt : i < (rowOf .u16 128 f).toList.length := by rw [hl]; exact hi'
      rw [List.drop_eq_getElem_cons hlt]
      rw [List.getElem?_eq_getElem hlt] at hg
      simp only [Option.some.injEq] at hg
      simp [hg]
    rw [e]
    have hw : (Lit.int .u16 (f i)).wf = true := by
      have := hf.range i
      simp [Lit.wf, IntKind.min, IntKind.max, IntKind.signed, IntKind.bits]
      omega
    refine ⟨[.int .u16 (f i)], ?_⟩
    simp only [Program.keyLits, Try.underlying70]
    simp [hw])
  refine ⟨.string (keyBytes r.flatten), ?_⟩
  rw [keyLits_arr 129 Try.underlying72, hr, if_pos (by rw [hl, cells72])]
  rfl
noncomputable def kl (f : Nat → Int) : Lit := (keyOf Try.prog 72 (bv f)).getD (.bool true)
theorem key_is (f : Nat → Int) (hf : isBlk f) : keyOf Try.prog 72 (bv f) = some (kl f) := by
  obtain ⟨l, hl⟩ := key_row f hf
  unfold kl
  rw [hl]; rfl
attribute [irreducible] kl
theorem kl_inj {f g : Nat → Int} (hf : isBlk f) (hg : isBlk g) (h : kl f = kl g) : f = g := by
  have h1 := key_is f hf
  have h2 := key_is g hg
  rw [h] at h1
  exact bv_inj hf hg (key_law.inj h1 h2)
theorem kl_key {f : Nat → Int} (hf : isBlk f) : WideAt.IsKeyLit (kl f) := key_law.key (v := bv f) (l := kl f) (key_is f hf)
noncomputable abbrev RE : Value → Option (DataW Unit × List MemPlace) := plainElem Try.prog 70
open Classical in
/-- Block K is a map from these blocks to their places. -/
def MapU (w : World) (K : Nat) (U : List (Nat → Int)) : Prop :=
  (∀ f ∈ U, isBlk f) ∧ ∃ D : DataW Unit, w.ownsMap Try.prog 72 RE K U.length D ∧ ∀ f, isBlk f → Maps.has D (kl f) = decide (f ∈ U) ∧ (f ∈ U → D.atKey (kl f) (.lit (.int .u16 0)) = .lit (.int .u16 (idx U f : Nat)))
theorem MapU.new (w : World) : MapU (w.alloc (.map #[] 0)) w.heap.size [] :=
  ⟨fun f hf => (by simp at hf), .map [], World.ownsMap_made w _ _ _, fun f _ => ⟨by simp [Maps.has], fun h => by simp at h⟩⟩
theorem MapU.block {w : World} {K : Nat} {U : List (Nat → Int)} (h : MapU w K U) : ∃ es clock, w.heap[K]? = some (.map es clock) := by
  obtain ⟨_, D, ⟨es, clock, h1, _⟩, _⟩ := h
  exact ⟨es, clock, h1⟩
theorem MapU.same {w w' : World} {K : Nat} {U : List (Nat → Int)} (h : MapU w K U) (hs : w'.heap[K]? = w.heap[K]?) : MapU w' K U := by
  obtain ⟨h0, D, ⟨es, clock, h1, h2⟩, h3⟩ := h
  exact ⟨h0, D, ⟨es, clock, hs.trans h1, h2⟩, h3⟩
open Classical in
theorem MapU.look {w : World} {K : Nat} {U : List (Nat → Int)} (h : MapU w K U) {f : Nat → Int} (hf : isBlk f) : ∃ c : Int, (Instr.lookup 98 (.map (some K)) (bv f) true).run Try.prog w = .ok (.tuple #[.int .u16 c, .bool (decide (f ∈ U))]) w ∧ (f ∈ U → c = (idx U f : Nat)) := by
  obtain ⟨h0, D, h1, h2⟩ := h
  obtain ⟨h3, h4⟩ := h2 f hf
  obtain ⟨v, ps, hr, hv⟩ := h1.look_ok key_law Try.underlying98 (z := .int .u16 0) (by kernel_rfl) (plainElem_int Try.underlying70 (by decide)) (key_is f hf)
  obtain ⟨c, rfl, hc, -⟩ := plainElem_int_inv Try.underlying70 hv
  refine ⟨c, by rw [hr, h3], fun hm => ?_⟩
  have := h4 hm
  simp only [Prod.mk.injEq] at hc
  rw [this] at hc
  simpa using hc.1.symm
open Classical in
theorem MapU.put {w : World} {K : Nat} {U : List (Nat → Int)} (h : MapU w K U) {f : Nat → Int} (hf : isBlk f) (hn : f ∉ U) (hl : U.length < 65536) : ∃ w', (Instr.mapUpdate 98 (.map (some K)) (bv f) (.int .u16 (U.length : Nat))).run Try.prog w = .ok () w' ∧ MapU w' K (U ++ [f]) ∧ w.grownBy w' (some K) := by
  obtain ⟨h0, D, h1, h2⟩ := h
  have hw : (Lit.int .u16 (U.length : Nat)).wf = true := by
    simp [Lit.wf, IntKind.min, IntKind.max, IntKind.signed, IntKind.bits]
    omega
  obtain ⟨w', hr, h3, h4⟩ := h1.update key_law Try.underlying98 (by unfold maxLen; omega) (key_is f hf) (plainElem_int Try.underlying70 hw)
  refine ⟨w', hr, ⟨fun g hg => ?_, _, by simpa using h3, fun g hg => ?_⟩, h4⟩
  · rcases List.mem_append.1 hg with hg | hg
    · exact h0 g hg
    · obtain rfl : g = f := by simpa using hg
      exact hf
  · by_cases e : g = f
    · subst e
      refine ⟨?_, fun _ => ?_⟩
      · rw [Maps.has_put_same h1.isMap (kl_key hf)]; simp
      · rw [Maps.atKey_put_same h1.isMap (kl_key hf), idx_new hn]
    · have hk : kl g ≠ kl f := fun h => e (kl_inj hg hf h)
      obtain ⟨h5, h6⟩ := h2 g hg
      refine ⟨?_, fun hm => ?_⟩
      · rw [Maps.has_put_other hk, h5]
        simp [e]
      · have hm' : g ∈ U := by simpa [e] using hm
        rw [Maps.atKey_put_other hk, h6 hm', idx_app hm']
open Classical in
theorem MapU.looks {w : World} {K : Nat} {U : List (Nat → Int)} (h : MapU w K U) {f : Nat → Int} (hf : isBlk f) : ∃ c : Int, (∀ w' : World, w'.heap[K]? = w.heap[K]? → (Instr.lookup 98 (.map (some K)) (bv f) true).run Try.prog w' = .ok (.tuple #[.int .u16 c, .bool (decide (f ∈ U))]) w') ∧ (f ∈ U → c = (idx U f : Nat)) := by
  obtain ⟨h0, D, h1, h2⟩ := h
  obtain ⟨h3, h4⟩ := h2 f hf
  have key : ∀ w' : World, w'.heap[K]? = w.heap[K]? → ∃ c : Int, (Instr.lookup 98 (.map (some K)) (bv f) true).run Try.prog w' = .ok (.tuple #[.int .u16 c, .bool (decide (f ∈ U))]) w' ∧ D.atKey (kl f) (.lit (.int .u16 0)) = .lit (.int .u16 c) := by
    intro w' hw
    have h1' : w'.ownsMap Try.prog 72 RE K U.length D := by
      obtain ⟨es, clock, e1, e2⟩ := h1
      exact ⟨es, clock, hw.trans e1, e2⟩
    obtain ⟨v, ps, hr, hv⟩ := h1'.look_ok key_law Try.underlying98 (z := .int .u16 0) (by kernel_rfl) (plainElem_int Try.underlying70 (by decide)) (key_is f hf)
    obtain ⟨c, rfl, hc, -⟩ := plainElem_int_inv Try.underlying70 hv
    simp only [Prod.mk.injEq] at hc
    exact ⟨c, by rw [hr, h3], hc.1⟩
  obtain ⟨c, -, hc⟩ := key w rfl
  refine ⟨c, fun w' hw => ?_, fun hm => ?_⟩
  · obtain ⟨c', hr, hc'⟩ := key w' hw
    rw [hc] at hc'
    have : c = c' := by simpa using hc'
    rw [this]; exact hr
  · rw [h4 hm] at hc
    simpa using hc.symm
end Go.Proofs.Ytookbgmolggohaa
