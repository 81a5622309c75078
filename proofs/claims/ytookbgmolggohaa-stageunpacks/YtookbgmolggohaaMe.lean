/-
  Rows and tables in memory; the contracts of isPoint, isNumber, saysNothing, Look and Blocks. Conditions: a table's numbers are from 0 to 65535.
-/
import Derived.Test.YtookbgmolggohaaSp
import Derived.Test.YtookbgmolggohaaCt
import Derived.Test.YtookbgmolggohaaRow
import Derived.Test.YtookbgmolggohaaChecked
import Derived.OwnWalk
import Derived.Maps.AppendAt
import Derived.Deep.DeepMust
import Derived.Deep.LoopGhost
import Derived.BigQuiet
import Derived.Deep.QuietTactic
import Derived.BigRegion
namespace Go.Proofs.Ytookbgmolggohaa
open Go.RowKit
/-- A slice of three numbers each (the first two of kind k) that reads as these rows. -/
def Rd3 (k : IntKind) (w : World) (v : Value) (L : List Rw) : Prop :=
  ∃ a c, v = .slice a L.length c ∧ L.length ≤ c ∧ (0 < L.length → ∃ g off, a = some ⟨g, off, none⟩ ∧ ∀ j, j < L.length →
    w.cell? ⟨g, off + j * 3, none⟩ = some (.int k (L.getD j (0, 0, 0)).1) ∧ w.cell? ⟨g, off + j * 3 + 1, none⟩ = some (.int k (L.getD j (0, 0, 0)).2.1) ∧ w.cell? ⟨g, off + j * 3 + 2, none⟩ = some (.int .i64 (L.getD j (0, 0, 0)).2.2))
theorem Rd3.below {k : IntKind} {w w' : World} {v : Value} {L : List Rw} (h : Rd3 k w v L) (hb : Below w.heap.size w w') : Rd3 k w' v L := by
  obtain ⟨a, c, rfl, hl, hc⟩ := h
  refine ⟨a, c, rfl, hl, fun hp => ?_⟩
  obtain ⟨g, off, rfl, hd⟩ := hc hp
  refine ⟨g, off, rfl, fun j hj => ?_⟩
  obtain ⟨h1, h2, h3⟩ := hd j hj
  have g1 := World.block_lt_of_cell? w _ h1
  exact ⟨(hb.cell (p := ⟨g, off + j * 3, none⟩) (by simpa using g1)).trans h1, (hb.cell (p := ⟨g, off + j * 3 + 1, none⟩) (by simpa using g1)).trans h2, (hb.cell (p := ⟨g, off + j * 3 + 2, none⟩) (by simpa using g1)).trans h3⟩
def fit3 (L : List Rw) : Prop := ∀ s ∈ L, -2147483648 ≤ s.1 ∧ s.1 ≤ 2147483647 ∧ -2147483648 ≤ s.2.1 ∧ s.2.1 ≤ 2147483647 ∧ -9223372036854775808 ≤ s.2.2 ∧ s.2.2 ≤ 9223372036854775807
/-- A table in memory that says F. -/
def TabAt (w : World) (T : Nat) (F : Int → Int) : Prop :=
  ∃ pg pc ug uc, w.heap[T]? = some (.cells #[.slice (some ⟨pg, 0, none⟩) 8704 pc, .slice (some ⟨ug, 0, none⟩) (unl F 8704).length uc] 76 (0, 0)) ∧ 8704 ≤ pc ∧ (unl F 8704).length ≤ uc ∧
    (∀ i, i < 8704 → w.cell? ⟨pg, i, none⟩ = some (.int .u16 (plc F i : Nat))) ∧
    (∀ i f, (unl F 8704)[i]? = some f → ∀ j, j < 128 → w.cell? ⟨ug, i * 128 + j, none⟩ = some (.int .u16 (f j)))
def Tab (w : World) (v : Value) (F : Int → Int) : Prop := (v = .pointer none ∧ F = nought) ∨ ∃ T, v = .pointer (some ⟨T, 0, none⟩) ∧ TabAt w T F
theorem TabAt.below {w w' : World} {T : Nat} {F : Int → Int} (h : TabAt w T F) (hb : Below w.heap.size w w') : TabAt w' T F := by
  obtain ⟨pg, pc, ug, uc, h1, h2, h3, h4, h5⟩ := h
  refine ⟨pg, pc, ug, uc, (hb.block T (Array.getElem?_eq_some_iff.1 h1).1).trans h1, h2, h3, fun i hi => ?_, fun i f hf j hj => ?_⟩
  · exact (hb.cell (p := ⟨pg, i, none⟩) (World.block_lt_of_cell? w _ (h4 i hi))).trans (h4 i hi)
  · exact (hb.cell (p := ⟨ug, i * 128 + j, none⟩) (World.block_lt_of_cell? w _ (h5 i f hf j hj))).trans (h5 i f hf j hj)
theorem Tab.below {w w' : World} {v : Value} {F : Int → Int} (h : Tab w v F) (hb : Below w.heap.size w w') : Tab w' v F := by
  rcases h with h | ⟨T, h1, h2⟩
  · exact .inl h
  · exact .inr ⟨T, h1, h2.below hb⟩
theorem Tab.congr {w : World} {v : Value} {F G : Int → Int} (h : Tab w v F) (hn : v ≠ .pointer none) (e : ∀ i, i < 8704 → blk F i = blk G i) : Tab w v G := by
  rcases h with ⟨h, _⟩ | ⟨T, h1, pg, pc, ug, uc, h2, h3, h4, h5, h6⟩
  · exact absurd h hn
  · have eu := unl_congr e
    refine .inr ⟨T, h1, pg, pc, ug, uc, ?_, h3, ?_, ?_, ?_⟩
    · rw [← eu]; exact h2
    · rw [← eu]; exact h4
    · intro i hi
      rw [← plc_is G hi, ← eu, ← e i hi, plc_is F hi]
      exact h5 i hi
    · rw [← eu]; exact h6
theorem point_any (p : Int) (w : World) : Calls Try.prog 35 #[.int .i32 p] w fun e w' => e = .returned (.bool (decide (0 ≤ p) && decide (p ≤ 1114111))) ∧ Below w.heap.size w w' := by
  by_cases c1 : 0 ≤ p
  · by_cases c2 : p ≤ 1114111
    · rw [decide_eq_true c1, decide_eq_true c2]
      go_enter Try.func35, Try.ntmps35
      go_wp2
      go_ret
      exact ⟨rfl, Below.refl _ _⟩
    · rw [decide_eq_true c1, decide_eq_false c2]
      go_enter Try.func35, Try.ntmps35
      go_wp2
      go_ret
      exact ⟨rfl, Below.refl _ _⟩
  · rw [decide_eq_false c1, Bool.false_and]
    go_enter Try.func35, Try.ntmps35
    go_wp2
    go_ret
    exact ⟨rfl, Below.refl _ _⟩
theorem number_any (p : Int) (w : World) : Calls Try.prog 54 #[.int .i64 p] w fun e w' => e = .returned (.bool (decide (0 ≤ p) && decide (p ≤ 65535))) ∧ Below w.heap.size w w' := by
  by_cases c1 : 0 ≤ p
  · by_cases c2 : p ≤ 65535
    · rw [decide_eq_true c1, decide_eq_true c2]
      go_enter Try.func54, Try.ntmps54
      go_wp2
      go_ret
      exact ⟨rfl, Below.refl _ _⟩
    · rw [decide_eq_true c1, decide_eq_false c2]
      go_enter Try.func54, Try.ntmps54
      go_wp2
      go_ret
      exact ⟨rfl, Below.refl _ _⟩
  · rw [decide_eq_false c1, Bool.false_and]
    go_enter Try.func54, Try.ntmps54
    go_wp2
    go_ret
    exact ⟨rfl, Below.refl _ _⟩
theorem says_nil (w : World) : Calls Try.prog 34 #[.pointer none] w fun e w' => e = .returned (.bool true) ∧ Below w.heap.size w w' := by
  go_enter Try.func34, Try.ntmps34
  go_wp2
  go_ret
  exact ⟨rfl, Below.refl _ _⟩
theorem tab_cells {w : World} {T : Nat} {x y : Value} {t : TypeId} (h : w.heap[T]? = some (.cells #[x, y] t (0, 0))) : w.cell? ⟨T, 0, none⟩ = some x ∧ w.cell? ⟨T, 1, none⟩ = some y := by
  constructor <;> simp [World.cell?, h]
theorem unl_pos (F : Int → Int) (n : Nat) : 0 < (unl F (n + 1)).length := List.length_pos_of_mem (unl_last F n)
theorem says_tab (w : World) (T : Nat) (F : Int → Int) (h : TabAt w T F) : Calls Try.prog 34 #[.pointer (some ⟨T, 0, none⟩)] w fun e w' => e = .returned (.bool false) ∧ Below w.heap.size w w' := by
  obtain ⟨pg, pc, ug, uc, h1, h2, h3, h4, h5⟩ := h
  obtain ⟨-, c2⟩ := tab_cells h1
  have hp : 0 < (unl F 8704).length := unl_pos F 8703
  generalize (unl F 8704).length = n at c2 hp
  clear h1 h2 h3 h4 h5
  have hp' : (((n : Nat) : Int) == 0) = false := by simp; omega
  go_enter Try.func34, Try.ntmps34
  go_wp2
  go_ret
  exact ⟨rfl, Below.refl _ _⟩
theorem look_nil (p : Int) (w : World) : Calls Try.prog 13 #[.pointer none, .int .i32 p] w fun e w' => e = .returned (.int .i64 0) ∧ Below w.heap.size w w' := by
  go_enter Try.func13, Try.ntmps13
  go_wp2_with (go_at_call 34; refine (says_nil _).mono ?_)
  intro e w1 hq
  first | (obtain ⟨rfl, b1⟩ : _ ∧ _ := hq) | (subst hq; intro b1)
  go_wp2
  go_ret
  exact ⟨rfl, b1⟩
theorem look_out (p : Int) (w : World) (T : Nat) (F : Int → Int) (h : TabAt w T F) (hp : (decide (0 ≤ p) && decide (p ≤ 1114111)) = false) : Calls Try.prog 13 #[.pointer (some ⟨T, 0, none⟩), .int .i32 p] w fun e w' => e = .returned (.int .i64 0) ∧ Below w.heap.size w w' := by
  go_enter Try.func13, Try.ntmps13
  go_wp2_with (go_at_call 34; refine (says_tab _ T F h).mono ?_)
  intro e w1 hq
  first | (obtain ⟨rfl, b1⟩ : _ ∧ _ := hq) | (subst hq; intro b1)
  have k := point_any p w1
  rw [hp] at k
  go_wp2_with (go_at_call 35; refine k.mono ?_)
  intro e w2 hq
  first | (obtain ⟨rfl, b2⟩ : _ ∧ _ := hq) | (subst hq; intro b2)
  go_wp2
  go_ret
  exact ⟨rfl, b1.trans (b2.mono b1.size)⟩
theorem below_drew {B : Nat} {w w' : World} (n : Nat) (h : Below B w w') : Below B w (w'.drewN n) := ⟨h.os, h.tape, h.output, h.size, h.block⟩
set_option maxRecDepth 100000 in
set_option maxHeartbeats 1000000 in
theorem look_in (p : Int) (w : World) (T : Nat) (F : Int → Int) (h : TabAt w T F) (h0 : 0 ≤ p) (h1 : p ≤ 1114111) (hF : 0 ≤ F p ∧ F p ≤ 65535) : Calls Try.prog 13 #[.pointer (some ⟨T, 0, none⟩), .int .i32 p] w fun e w' => e = .returned (.int .i64 (F p)) ∧ Below w.heap.size w w' := by
  obtain ⟨i, j, hj, hp⟩ : ∃ i j : Nat, j < 128 ∧ p = 128 * i + j := ⟨(p / 128).toNat, (p % 128).toNat, by omega, by omega⟩
  have hi : i < 8704 := by omega
  have hd : (decide (0 ≤ p) && decide (p ≤ 1114111)) = true := by rw [decide_eq_true h0, decide_eq_true h1]; rfl
  have hb : blk F i j = F p := by unfold blk; rw [if_pos hj, hp]
  have hq1 : p.tdiv 128 = i := by rw [Int.tdiv_eq_ediv_of_nonneg h0]; omega
  have hq2 : p.tmod 128 = j := by rw [Int.tmod_eq_emod_of_nonneg h0]; omega
  clear hp
  go_enter Try.func13, Try.ntmps13
  go_wp2_with (go_at_call 34; refine (says_tab _ T F h).mono ?_)
  intro e w1 hq
  first | (obtain ⟨rfl, b1⟩ : _ ∧ _ := hq) | (subst hq; intro b1)
  have k := point_any p w1
  rw [hd] at k
  go_wp2_with (go_at_call 35; refine k.mono ?_)
  intro e w2 hq
  first | (obtain ⟨rfl, b2⟩ : _ ∧ _ := hq) | (subst hq; intro b2)
  have B2 : Hid (Below w.heap.size w w2) := b1.trans (b2.mono b1.size)
  obtain ⟨pg, pc, ug, uc, c1, -, -, c4, c5⟩ := h.below B2.out
  obtain ⟨d1, d2⟩ := tab_cells c1
  have d3 := c4 i hi
  have d4 := c5 (plc F i) (blk F i) (plc_get F hi) j hj
  have d5 := plc_lt F hi
  have d6 : plc F i < 65536 := by have := unl_len F 8704; omega
  rw [hb] at d4
  clear c1 c4 c5 hb h b1 b2 k
  generalize (unl F 8704).length = n at d2 d5
  generalize plc F i = m at d3 d4 d5 d6
  generalize hx : F p = x at d4 hF
  replace hx : Hid (F p = x) := hx
  have m1 : ¬ n ≤ m := by omega
  have m2 : ¬ 8704 ≤ i := by omega
  have m3 : ¬ 128 ≤ j := by omega
  go_wp2_with fail
  go_quiet (fail)
  go_wp2
  go_ret
  exact ⟨by rw [hx.out]; rfl, below_drew _ B2.out⟩
theorem look_any (p : Int) (w : World) (v : Value) (F : Int → Int) (h : Tab w v F) (hF : ∀ p, 0 ≤ F p ∧ F p ≤ 65535) : Calls Try.prog 13 #[v, .int .i32 p] w fun e w' => e = .returned (.int .i64 (if 0 ≤ p ∧ p ≤ 1114111 then F p else 0)) ∧ Below w.heap.size w w' := by
  rcases h with ⟨rfl, rfl⟩ | ⟨T, rfl, h⟩
  · have := look_nil p w
    rw [show (if 0 ≤ p ∧ p ≤ 1114111 then nought p else 0) = 0 by unfold nought; split <;> rfl]
    exact this
  · by_cases hp : 0 ≤ p ∧ p ≤ 1114111
    · rw [if_pos hp]
      exact look_in p w T F h hp.1 hp.2 (hF p)
    · rw [if_neg hp]
      exact look_out p w T F h (by rw [Bool.eq_false_iff]; simpa using hp)
end Go.Proofs.Ytookbgmolggohaa
