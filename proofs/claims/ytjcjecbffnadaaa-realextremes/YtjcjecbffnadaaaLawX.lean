/-
  What the statement of Minimum, Maximum and Least asks: it is true. Conditions: the floats' bits fit; the list takes no more bytes than there are.
-/
import Derived.Test.YtjcjecbffnadaaaXb
namespace Go.Proofs.Ytjcjecbffnadaaa
open Go.RowKit
theorem Rd.at_ {w : World} {v : Value} {cs : List Value} {n : Nat} {F : Nat → Value} (h : Rd w v cs) (hn : cs.length = n) (hF : ∀ j, j < n → cs.getD j undef = F j) : ∃ a c, v = .slice a n c ∧ (0 < n → ∃ g off, a = some ⟨g, off, none⟩ ∧ ∀ j, j < n → w.cell? ⟨g, off + j, none⟩ = some (F j)) := by
  subst hn
  obtain ⟨a, c, e, hc⟩ := h
  refine ⟨a, c, e, fun hp => ?_⟩
  obtain ⟨g, off, e2, hd⟩ := hc hp
  exact ⟨g, off, e2, fun j hj => (hd j hj).trans (congrArg some (hF j hj))⟩
set_option maxHeartbeats 1000000 in
theorem law_x (x : Nat) (bs : List Nat) (v : Value) (w : World) (hx : x < 18446744073709551616) (hbs : ∀ b ∈ bs, b < 18446744073709551616) (hl : 8 * bs.length ≤ 140737488355328) (hrd : Rd w v (bs.map fun b : Nat => Value.int .u64 (b : Int))) :
    Calls Try.prog 7 #[.int .u64 (x : Int), v] w fun e w' => e = .returned (.bool true) ∧ Below w.heap.size w w' := by
  obtain ⟨a0, c0, rfl, h0⟩ := hrd.at_ (n := bs.length) (F := fun j => .int .u64 ((bs.getD j 0 : Nat) : Int)) (List.length_map _) (fun j hj => by simp [List.getD, List.getElem?_eq_getElem hj])
  refine x7_start x bs a0 c0 w fun a w1 B1 ha => ?_
  refine x7_loop x bs a0 c0 a w1 hx hbs (by omega) (hrd.below B1) (fun a w2 vl B2 O2 ha => ?_) ha
  have B2 : Below w.heap.size w w2 := B1.trans (B2.mono B1.size)
  have hte : ((bs.take bs.length).map fun b => Value.float .f64 b) = (bs.map fun b => Value.float .f64 b) := by rw [List.take_length]
  rw [hte] at O2
  have hrl : Rd w2 vl (bs.map fun b => Value.float .f64 b) := Rd.of_owns (b := w1.heap.size) (e := 25) (by rw [List.length_map]; exact O2)
  obtain ⟨hp1, hp2⟩ := lsK_lt hx hbs bs.length
  refine x7_least x _ _ _ vl a w2 (least_any x bs vl w2 hx hbs (by omega) hrl) (fun a w3 B3 ha => ?_) ha
  have hrl3 := hrl.below B3
  have B3 : Below w.heap.size w w3 := B2.trans (B3.mono B2.size)
  obtain ⟨a1, c1, rfl, h1⟩ := hrl3.at_ (n := bs.length) (F := fun j => .float .f64 (bs.getD j 0)) (List.length_map _) (fun j hj => by simp [List.getD, List.getElem?_eq_getElem hj])
  obtain ⟨a0', c0', e0, h0'⟩ := (hrd.below B3).at_ (n := bs.length) (F := fun j => .int .u64 ((bs.getD j 0 : Nat) : Int)) (List.length_map _) (fun j hj => by simp [List.getD, List.getElem?_eq_getElem hj])
  cases e0
  refine x7_loop2 _ _ bs.length c0 c1 a0 a1 bs a w3 rfl (by omega) h0' h1 (fun a w4 B4 ha => ?_) ha
  exact x7_end _ _ a w w4 (B3.trans (B4.mono B3.size)) (fun w => is_same _ hp1 w) ha
end Go.Proofs.Ytjcjecbffnadaaa
