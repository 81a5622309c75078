/-
  The contract of the law's same, at two lists of a call's own that hold the same. No condition.
-/
import Derived.Test.YtabofadjnbpjkabDoorRd
namespace Go.Proofs.YtabofadjnbpjkabDoor
open Go.RowKit Go.Lib
theorem owns_slice {W : World} {b e size n : Nat} {v : Value} {xs : List Value} (h : W.ownsRow b e size v n xs) : ∃ a c, v = .slice a n c ∧ (0 < n → ∃ g, a = some ⟨g, 0, none⟩) := by
  obtain ⟨_, ⟨rfl, h0⟩ | ⟨g, cap, cur, rfl, _⟩⟩ := h
  · exact ⟨none, 0, by rw [h0], fun h => by omega⟩
  · exact ⟨_, _, rfl, fun _ => ⟨g, rfl⟩⟩
set_option maxRecDepth 100000 in
set_option maxHeartbeats 1000000 in
theorem same_any (s : ByteArray) (l : List Nat) (b b' : Nat) (v v' : Value) (w : World) (h1 : w.ownsRow b 21 1 v l.length (runesC s l)) (h2 : w.ownsRow b' 21 1 v' l.length (runesC s l)) (hl : l.length ≤ 140737488355328) :
    Calls Tryd.prog 13 #[v, v'] w fun e w' => e = .returned (.bool true) ∧ Below w.heap.size w w' := by
  obtain ⟨a1, c1, rfl, hn1⟩ := owns_slice h1
  obtain ⟨a2, c2, rfl, hn2⟩ := owns_slice h2
  have H1 : Hid (w.ownsRow b 21 1 (.slice a1 l.length c1) l.length (runesC s l)) := h1
  have H2 : Hid (w.ownsRow b' 21 1 (.slice a2 l.length c2) l.length (runesC s l)) := h2
  clear h1 h2
  go_enter Tryd.func13, Tryd.ntmps13
  go_wp2
  go_loopw [13] (fun i wr => ∃ (k m : Nat), i = .int .i64 k ∧ k ≤ l.length ∧ wr = w.drewN m) (fun i _ => l.length - (RowKit.intOf i).toNat)
  case atStart => exact ⟨0, 0, rfl, by omega, rfl⟩
  case round =>
    obtain ⟨k, m, rfl, hk, rfl⟩ := hrel
    by_cases hlt : k < l.length
    · have hlti : (k : Int) < (l.length : Int) := by omega
      obtain ⟨g1, rfl⟩ := hn1 (by omega)
      obtain ⟨g2, rfl⟩ := hn2 (by omega)
      have hq : (runesC s l)[k]? = some (.int .i32 (pRu s l[k])) := by simp [runesC, List.getElem?_eq_getElem hlt]
      have d1 : w.cell? ⟨g1, k, none⟩ = some (.int .i32 (pRu s l[k])) := owns_cell H1.out rfl _ _ hq
      have d2 : w.cell? ⟨g2, k, none⟩ = some (.int .i32 (pRu s l[k])) := owns_cell H2.out rfl _ _ hq
      obtain ⟨z, hz⟩ : ∃ z : Int, (pRu s l[k] : Int) = z := ⟨_, rfl⟩
      rw [hz] at d1 d2
      clear hq hz
      go_wp2
      go_quiet (fail)
      go_wp2
      exact ⟨⟨k + 1, _, by go_num, by omega, rfl⟩, by simp [RowKit.intOf]; omega⟩
    · have hlti : ¬ (k : Int) < (l.length : Int) := by omega
      go_wp2
      go_ret
      exact ⟨rfl, below_drewN (Below.refl _ _) _⟩
end Go.Proofs.YtabofadjnbpjkabDoor
