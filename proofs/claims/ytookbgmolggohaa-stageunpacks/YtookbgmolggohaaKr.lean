/-
  What a loop over stretches keeps; stretches one behind the other. No conditions.
-/
import Derived.Test.YtookbgmolggohaaRn
import Derived.RangeFuncNested
import Derived.RangeFuncBound
import Derived.RangeFuncCalls
import Derived.RangeFuncBox
import Derived.RangeFuncLeaves
import Derived.Shelf.Abstract
import Derived.OwnWalkIn
import Derived.TacticsInMore
import Derived.LoopNIn
import Derived.LoopIn
import Derived.Maps.OwnIn
import Derived.WalkSpells
namespace Go.Proofs.Ytookbgmolggohaa
open Go.RowKit Go.Shelf
/-- The block of the row that a variable in block B holds. -/
def rowAt (W : World) (B : Nat) : Option Nat := match W.heap[B]? with | some (.cells cs _ _) => (cs[0]?).bind (·.ownBlock) | _ => none
/-- That row lies in memory. -/
def RowAbove (B : Nat) (W : World) : Prop := ∀ g, rowAt W B = some g → g < W.heap.size
/-- What a round keeps: what lay below n₀, and whatever was laid from L on, but for the row that the variable in block B holds. -/
def KpR (n₀ B L : Nat) (W W' : World) : Prop := RowAbove B W → Below n₀ W W' ∧ RowAbove B W' ∧ (rowAt W' B = rowAt W B ∨ ∃ g, rowAt W' B = some g ∧ W.heap.size ≤ g) ∧
  ∀ b cs t f, L ≤ b → W.heap[b]? = some (.cells cs t f) → rowAt W B ≠ some b → W'.heap[b]? = W.heap[b]?
theorem KpR.trans {n₀ B L : Nat} {X Y Z : World} (h : KpR n₀ B L X Y) (k : KpR n₀ B L Y Z) : KpR n₀ B L X Z := fun hr => by
  obtain ⟨h1, h3, h4, h5⟩ := h hr
  obtain ⟨k1, k3, k4, k5⟩ := k h3
  refine ⟨h1.trans k1, k3, ?_, fun b cs t f hb hc hn => ?_⟩
  · rcases k4 with k4 | ⟨g, kg, hg⟩
    · rw [k4]; exact h4
    · exact .inr ⟨g, kg, Nat.le_trans h1.size hg⟩
  · have e := h5 b cs t f hb hc hn
    refine (k5 b cs t f hb (e.trans hc) fun q => ?_).trans e
    rcases h4 with h4 | ⟨g, kg, hg⟩
    · rw [h4] at q; exact hn q
    · rw [kg] at q
      cases q
      have := (Array.getElem?_eq_some_iff.1 hc).1
      omega
theorem rowAt_same {W W' : World} {B : Nat} (h : W'.heap[B]? = W.heap[B]?) : rowAt W' B = rowAt W B := by unfold rowAt; rw [h]
theorem KpR.put {n₀ B L : Nat} {w : World} (hn : n₀ ≤ w.heap.size) (h2 : B < w.heap.size) (W : World) (l : Nat) (o o' : Obj) (hl : w.heap.size ≤ l) (hW : W.heap[l]? = some o) (hc : o.isCells = false) : KpR n₀ B L W (W.putObj l o') := fun hr => by
  have other : ∀ k, k ≠ l → (W.putObj l o').heap[k]? = W.heap[k]? := fun k hk => World.putObj_heap_other hk
  have hsz : (W.putObj l o').heap.size = W.heap.size := by simp
  have hrow : rowAt (W.putObj l o') B = rowAt W B := rowAt_same (other B (by omega))
  refine ⟨⟨rfl, rfl, rfl, by omega, fun k hk => other k (by omega)⟩, fun g hg => by rw [hrow] at hg; rw [hsz]; exact hr g hg, .inl hrow, fun b cs t f hb hcs _ => other b fun e => ?_⟩
  subst e
  rw [hW] at hcs
  cases hcs
  cases hc
theorem grown_of {w w' : World} (h : Below w.heap.size w w') : w.grownBy w' none := ⟨h.os, h.tape, h.output, h.size, fun k hk _ => h.block k hk⟩
theorem rowAt_boxed {W : World} {B : Nat} {t : TypeId} {v : Value} (h : Boxed W B t v) : rowAt W B = v.ownBlock := by
  unfold rowAt; rw [show W.heap[B]? = _ from h]; rfl
/-- A round that appends to the row of its own variable keeps its word. -/
theorem kr_append {W w1 : World} {n₀ B L : Nat} {t e : TypeId} {size k m : Nat} {v v' : Value} {xs ys : List Value} {tmp : Obj}
    (hv : Boxed W B t v) (hte : t ≠ e) (hBL : B < L) (hrow : W.ownsRow n₀ e size v k xs) (hn₀ : n₀ ≤ W.heap.size) (hB : n₀ ≤ B)
    (hown' : w1.ownsRow n₀ e size v' m ys) (hgrow : (W.alloc tmp).grownBy w1 v.ownBlock) (hat : v'.ownBlock = v.ownBlock ∨ v'.ownBlock = some (W.heap.size + 1)) :
    KpR n₀ B L W (w1.setCell ⟨B, 0, none⟩ v') := fun hr => by
  obtain ⟨hv1, hv2, hr2, _, hb2⟩ := hv.appended hte hrow hn₀ hB hown' hgrow
  have hset : ∀ b, b ≠ B → (w1.setCell ⟨B, 0, none⟩ v').heap[b]? = w1.heap[b]? := fun b hb => Below.heap_setCell w1 ⟨B, 0, none⟩ v' b hb
  have hold : ∀ b, b < W.heap.size → some b ≠ v.ownBlock → b ≠ B → (w1.setCell ⟨B, 0, none⟩ v').heap[b]? = W.heap[b]? := fun b hb hn h => by
    rw [hset b h, hgrow.block b (by simp; omega) hn, Below.heap_alloc _ _ _ hb]
  refine ⟨hb2, fun g hg => ?_, ?_, fun b cs t f hb hc hn => ?_⟩
  · rw [rowAt_boxed hv2] at hg
    exact (hr2.lt g hg).2
  · rw [rowAt_boxed hv2, rowAt_boxed hv]
    rcases hat with h | h
    · exact .inl h
    · exact .inr ⟨_, h, by omega⟩
  · rw [rowAt_boxed hv] at hn
    exact hold b (Array.getElem?_eq_some_iff.1 hc).1 (fun e => hn e.symm) (by omega)
theorem kr_alloc {W : World} {n₀ B L : Nat} (hn : n₀ ≤ W.heap.size) (hB : B < W.heap.size) (o : Obj) : KpR n₀ B L W (W.alloc o) := fun hr => by
  have hrow : rowAt (W.alloc o) B = rowAt W B := rowAt_same (Below.heap_alloc _ _ _ hB)
  exact ⟨(Below.refl _ _).alloc hn _, fun g hg => by rw [hrow] at hg; have := hr g hg; simp; omega, .inl hrow, fun b cs t f _ hc _ => Below.heap_alloc _ _ _ (Array.getElem?_eq_some_iff.1 hc).1⟩
theorem boxC_own {β : Type} (B : Nat) (cs : Array Value) (t : TypeId) : Own (fun (_ : β) W => W.heap[B]? = some (.cells cs t (0, 0))) := fun s X Y row hs hg hrow =>
  (hg.block B (Array.getElem?_eq_some_iff.1 hs).1 (fun e => by obtain ⟨o, ho, hc⟩ := hrow B e.symm; rw [hs] at ho; cases ho; cases hc)).trans hs
/-- Stretches so far, and one that is under way. -/
structure Way (F : Int → Int) (A fr p now : Int) (pre : List Rw) : Prop where
  done : Rn F A pre fr
  lt : fr < p
  same : ∀ q, fr ≤ q → q < p → F q = now
  last : pre = [] ∨ ∃ Y s, pre = Y ++ [s] ∧ s.2.2 ≠ now
theorem Rn.snoc {F : Int → Int} {X : List Rw} {m e : Int} {x : Rw} (h : Rn F m X e) (h1 : x.1 = e) (h2 : x.1 ≤ x.2.1) (h3 : ∀ p, x.1 ≤ p → p ≤ x.2.1 → F p = x.2.2) (h4 : X = [] ∨ ∃ Y s, X = Y ++ [s] ∧ s.2.2 ≠ x.2.2) : Rn F m (X ++ [x]) (x.2.1 + 1) := by
  have := h.add h1 h2 h3
  rcases h4 with rfl | ⟨Y, s, rfl, hs⟩
  · exact this
  · rw [addR_snoc, if_neg hs] at this
    simpa using this
theorem Way.put {F : Int → Int} {A fr p now : Int} {pre : List Rw} (h : Way F A fr p now pre) : Rn F A (pre ++ [(fr, p - 1, now)]) p := by
  have := h.done.snoc (x := (fr, p - 1, now)) rfl (by have := h.lt; simp only; omega) (fun q q1 q2 => h.same q q1 (by simp only at q2; omega)) h.last
  simp only at this
  rwa [show p - 1 + 1 = p by omega] at this
theorem Way.turn {F : Int → Int} {A fr p now : Int} {pre : List Rw} (h : Way F A fr p now pre) (hn : F p ≠ now) : Way F A p (p + 1) (F p) (pre ++ [(fr, p - 1, now)]) :=
  ⟨h.put, by omega, fun q q1 q2 => by rw [show q = p by omega], .inr ⟨pre, _, rfl, fun e => hn e.symm⟩⟩
theorem Way.stay {F : Int → Int} {A fr p now : Int} {pre : List Rw} (h : Way F A fr p now pre) (hn : F p = now) : Way F A fr (p + 1) now pre :=
  ⟨h.done, by have := h.lt; omega, fun q q1 q2 => by
    by_cases c : q < p
    · exact h.same q q1 c
    · rw [show q = p by omega]; exact hn, h.last⟩
theorem Rn.len {F : Int → Int} : ∀ {X : List Rw} {m e : Int}, Rn F m X e → (X.length : Int) ≤ e - m
  | [], m, e, h => by have : m = e := h; simp; omega
  | [y], m, e, h => by obtain ⟨a1, a2, a3, a4⟩ := h; simp; omega
  | y :: z :: X, m, e, h => by
    obtain ⟨a1, a2, a3, a4, a5⟩ := h
    have := Rn.len a5
    simp at this ⊢
    omega
end Go.Proofs.Ytookbgmolggohaa
