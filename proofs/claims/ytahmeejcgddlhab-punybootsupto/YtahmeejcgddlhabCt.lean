/-
  A great body cut into pieces: what a piece needs of the frame is a list of slots and their values.
-/
import Derived.Test.YtahmeejcgddlhabCm
namespace Go.Proofs.Ytahmeejcgddlhab
open Go.RowKit
/-- The code behind so many pieces. -/
def sq : Nat → Code → Code
  | 0, c => c
  | n + 1, .seq _ b => sq n b
  | _ + 1, c => c
/-- The first piece. -/
def hd : Code → Code
  | .seq a _ => a
  | c => c
/-- A frame of n slots in which these are known. -/
structure At (n : Nat) (l : List (Nat × Value)) (a : Act) : Prop where
  size : a.tmps.size = n
  defers : a.defers = []
  slots : AllIn a l
theorem act_lit (a : Act) (n : Nat) (hz : a.tmps.size = n) (hd : a.defers = []) : a = ⟨((List.range n).map fun i => a.tmps.getD i undef).toArray, []⟩ := by
  refine act_ext ?_ hd
  apply Array.ext_getElem?
  intro t
  by_cases h : t < n
  · have h' : t < a.tmps.size := by omega
    simp [h, h']
  · rw [Array.getElem?_eq_none (by omega)]
    rw [Array.getElem?_eq_none (by simp; omega)]
def AllF (f : Nat → Value) : List (Nat × Value) → Prop
  | [] => True
  | p :: l => f p.1 = p.2 ∧ AllF f l
theorem AllIn.allF {a : Act} : ∀ {l : List (Nat × Value)}, AllIn a l → AllF (fun i => a.tmps.getD i undef) l
  | [], _ => trivial
  | p :: l, h => ⟨by show a.tmps.getD p.1 undef = p.2; rw [Array.getD_eq_getD_getElem?, h.1]; rfl, AllIn.allF h.2⟩
/-- A frame, laid open. -/
theorem At.lit {n : Nat} {l : List (Nat × Value)} {a : Act} (h : At n l a) : ∃ f : Nat → Value, a = ⟨((List.range n).map f).toArray, []⟩ ∧ AllF f l :=
  ⟨fun i => a.tmps.getD i undef, act_lit a n h.size h.defers, h.slots.allF⟩
/-- A cut. -/
theorem wp_cut {P : Program} {Q : Exit → Act → World → Prop} {a : Act} {w : World} {x y : Code} (K : Act → World → Prop) (hK : ∀ a w, K a w → y.wp P Q a w) (h : x.wp P (Exit.then K Q) a w) : (x.seq y).wp P Q a w :=
  wp_seq (wp_mono h fun e a w q => by cases e <;> first | exact hK _ _ q | exact q)
end Go.Proofs.Ytahmeejcgddlhab
