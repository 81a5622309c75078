/-
  Rows with room; lists into which is put, and what is wrong.
-/
import Derived.Test.YtahmeejcgddlhabPo
import Derived.Test.YtahmeejcgddlhabCt
import Derived.Deep.DeepMust
namespace Go.Proofs.Ytahmeejcgddlhab
open Go.RowKit
/-- A row with room: so many of its cells are these. -/
def CelC (kd : IntKind) (e : TypeId) (w : World) (b cap n : Nat) (f : Nat → Int) : Prop := ∃ cur : Array Value, w.heap[b]? = some (.cells cur e (0, 0)) ∧ cur.size = cap ∧ n ≤ cap ∧ cap ≤ maxLen ∧ ∀ j, j < n → cur[j]? = some (.int kd (f j))
theorem CelC.at {kd : IntKind} {e : TypeId} {w : World} {b cap n : Nat} {f : Nat → Int} (h : CelC kd e w b cap n f) (j : Nat) (hj : j < n) : w.cell? ⟨b, j, none⟩ = some (.int kd (f j)) ∧ w.frozen? ⟨b, j, none⟩ = false := by
  obtain ⟨cur, h1, _, _, _, h3⟩ := h
  exact ⟨by simp [World.cell?, h1, h3 j hj], by simp [World.frozen?, h1]⟩
theorem CelC.lt {kd : IntKind} {e : TypeId} {w : World} {b cap n : Nat} {f : Nat → Int} (h : CelC kd e w b cap n f) : b < w.heap.size := by
  obtain ⟨cur, h1, _⟩ := h
  exact (Array.getElem?_eq_some_iff.1 h1).1
theorem CelC.set {kd : IntKind} {e : TypeId} {w : World} {b cap n : Nat} {f : Nat → Int} (h : CelC kd e w b cap n f) (k : Nat) (v : Int) : CelC kd e (w.setCell ⟨b, k, none⟩ (.int kd v)) b cap n (fun j => if j = k then v else f j) := by
  obtain ⟨cur, h1, h2, h4, h5, h3⟩ := h
  refine ⟨cur.setIfInBounds k (.int kd v), by simp [World.setCell, Array.getElem?_modify, h1], by simpa using h2, h4, h5, fun j hj => ?_⟩
  rw [Array.getElem?_setIfInBounds]
  by_cases c : k = j
  · subst c; rw [if_pos rfl, if_pos (by omega)]; simp
  · rw [if_neg c, h3 j hj]; simp [Ne.symm c]
theorem CelC.congr {kd : IntKind} {e : TypeId} {w : World} {b cap n : Nat} {f g : Nat → Int} (h : CelC kd e w b cap n f) (hfg : ∀ j, j < n → f j = g j) : CelC kd e w b cap n g := by
  obtain ⟨cur, h1, h2, h4, h5, h3⟩ := h
  exact ⟨cur, h1, h2, h4, h5, fun j hj => by rw [h3 j hj, hfg j hj]⟩
theorem CelC.owns {kd : IntKind} {e : TypeId} {w : World} {b cap : Nat} {L : List Int} (h : CelC kd e w b cap L.length (fun j => L.getD j 0)) (b0 : Nat) (hb : b0 ≤ b) : Rw kd e b0 w (.slice (some ⟨b, 0, none⟩) L.length cap) L := by
  obtain ⟨cur, h1, h2, h4, h5, h3⟩ := h
  refine ⟨by simp, .inr ⟨b, cap, cur, rfl, hb, h1, h4, h5, by omega, ?_⟩⟩
  apply List.ext_getElem?
  intro j
  by_cases c : j < L.length
  · rw [List.getElem?_take_of_lt (by omega), Array.getElem?_toList, h3 j c]
    simp [List.getD, List.getElem?_eq_getElem c]
  · rw [List.getElem?_eq_none (by simp; omega), List.getElem?_eq_none (by simp; omega)]
theorem Rw.celc {kd : IntKind} {e b0 : Nat} {w : World} {v : Value} {L : List Int} (h : Rw kd e b0 w v L) (hL : 0 < L.length) : ∃ b cap, v = .slice (some ⟨b, 0, none⟩) L.length cap ∧ b0 ≤ b ∧ CelC kd e w b cap L.length (fun j => L.getD j 0) := by
  obtain ⟨h1, ⟨_, h2⟩ | ⟨g, cap, cur, rfl, h3, h4, h5, h6, h7, h8⟩⟩ := h
  · omega
  · refine ⟨g, cap, rfl, h3, cur, h4, by omega, h5, h6, fun j hj => ?_⟩
    have e : (L.map fun z => Value.int kd z)[j]? = some (.int kd (L.getD j 0)) := by simp [List.getD, List.getElem?_eq_getElem hj]
    rw [← h8, List.getElem?_take_of_lt (by omega), Array.getElem?_toList] at e
    exact e
/-- What was put in a list, or what is wrong. -/
def finJ (L : List Int) : (Nat × Int) ⊕ List (Int × Nat) → (Nat × Int) ⊕ List Int
  | .inl e => .inl e
  | .inr ps => .inr (insAll L ps)
theorem decS_fin (p : Bt) (s : ByteArray) (h : fbF p s (hdN p s) 0 = none) : decS p s = finJ (ahd s (hdN p s)) (rdL p s (s.size - frN p s) (frN p s) p.first 0 p.bias (hdN p s)) := by
  unfold decS
  rw [h]
  cases rdL p s (s.size - frN p s) (frN p s) p.first 0 p.bias (hdN p s) <;> rfl
theorem ahd_len (s : ByteArray) (h : Nat) : (ahd s h).length = h := by simp [ahd]
theorem ahd_snoc (s : ByteArray) (h : Nat) : ahd s (h + 1) = ahd s h ++ [(byt s h : Int)] := by simp [ahd, List.range_succ]
end Go.Proofs.Ytahmeejcgddlhab
