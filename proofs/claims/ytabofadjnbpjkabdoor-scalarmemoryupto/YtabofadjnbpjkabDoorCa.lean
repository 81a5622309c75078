/-
  Lists of texts, one behind the other. No program is run here.
-/
import Derived.Test.YtabofadjnbpjkabDoorAp
namespace Go.Proofs.YtabofadjnbpjkabDoor
open Go.RowKit Go.Lib
/-- A slice that reads as these texts. -/
def StrsA (w : World) (v : Value) (ss : List ByteArray) : Prop :=
  ∃ a c, v = .slice a ss.length c ∧ (0 < ss.length → ∃ g off, a = some ⟨g, off, none⟩ ∧ g < w.heap.size ∧ ∀ j, j < ss.length → w.cell? ⟨g, off + j, none⟩ = some (.string (ss.getD j ⟨#[]⟩)))
theorem StrsA.below {w w' : World} {v : Value} {ss : List ByteArray} (h : StrsA w v ss) (hb : Below w.heap.size w w') : StrsA w' v ss := by
  obtain ⟨a, c, e, h⟩ := h
  refine ⟨a, c, e, fun h0 => ?_⟩
  obtain ⟨g, off, e2, hg, hc⟩ := h h0
  exact ⟨g, off, e2, Nat.lt_of_lt_of_le hg hb.size, fun j hj => (hb.cell (p := ⟨g, off + j, none⟩) hg).trans (hc j hj)⟩
/-- Texts, one behind the other; how long they are together. -/
def cat (ss : List ByteArray) : ByteArray := ss.foldl (· ++ ·) ⟨#[]⟩
def tot (ss : List ByteArray) : Nat := (ss.map ByteArray.size).sum
theorem cat_snoc (ss : List ByteArray) (p : ByteArray) : cat (ss ++ [p]) = cat ss ++ p := by simp [cat]
theorem fold_size : ∀ (ss : List ByteArray) (a : ByteArray), (ss.foldl (· ++ ·) a).size = a.size + tot ss
  | [], a => by simp [tot]
  | p :: ss, a => by
    rw [List.foldl_cons, fold_size ss (a ++ p)]
    simp [tot]; omega
theorem cat_size (ss : List ByteArray) : (cat ss).size = tot ss := by
  rw [cat, fold_size]
  show 0 + _ = _
  omega
theorem tot_take (ss : List ByteArray) (k : Nat) : tot (ss.take k) ≤ tot ss := by
  have : tot (ss.take k) + tot (ss.drop k) = tot ss := by
    unfold tot
    rw [← List.sum_append, ← List.map_append, List.take_append_drop]
  omega
theorem tot_at (ss : List ByteArray) (k : Nat) (h : k < ss.length) : (ss.getD k ⟨#[]⟩).size + tot (ss.take k) ≤ tot ss := by
  have e : ss.take (k + 1) = ss.take k ++ [ss.getD k ⟨#[]⟩] := by
    rw [List.take_succ_eq_append_getElem h]; simp [List.getD, List.getElem?_eq_getElem h]
  have := tot_take ss (k + 1)
  rw [e] at this
  simp [tot] at this ⊢
  omega
theorem cat_next (ss : List ByteArray) (k : Nat) (h : k < ss.length) : cat (ss.take (k + 1)) = cat (ss.take k) ++ ss.getD k ⟨#[]⟩ := by
  rw [List.take_succ_eq_append_getElem h, cat_snoc]; simp [List.getD, List.getElem?_eq_getElem h]
theorem cat_same (ss : List ByteArray) (k : Nat) (h : ¬ k < ss.length) : ss.take (k + 1) = ss.take k := by
  rw [List.take_of_length_le (by omega), List.take_of_length_le (by omega)]
theorem cat_some (ss : List ByteArray) (k : Nat) (h : k < ss.length) (ht : tot ss ≤ 1048576) : (cat (ss.take k)).size ≤ 1048576 ∧ (ss.getD k ⟨#[]⟩).size ≤ 1048576 ∧ (hd (cat (ss.take k)) ++ ss.getD k ⟨#[]⟩).size ≤ 1048579 ∧ (sn (cat (ss.take k))).length ≤ 1048576 ∧ (sn (hd (cat (ss.take k)) ++ ss.getD k ⟨#[]⟩)).length ≤ 1048579 ∧ (cat (ss.take k) ++ ss.getD k ⟨#[]⟩).size ≤ 1048576 := by
  have h1 := tot_at ss k h
  have h2 := cat_size (ss.take k)
  have h3 := hd_le (cat (ss.take k))
  have h4 : (hd (cat (ss.take k)) ++ ss.getD k ⟨#[]⟩).size = (hd (cat (ss.take k))).size + (ss.getD k ⟨#[]⟩).size := by simp
  have h5 : (cat (ss.take k) ++ ss.getD k ⟨#[]⟩).size = (cat (ss.take k)).size + (ss.getD k ⟨#[]⟩).size := by simp
  have h6 := sn_len (cat (ss.take k))
  have h7 := sn_len (hd (cat (ss.take k)) ++ ss.getD k ⟨#[]⟩)
  exact ⟨by omega, by omega, by omega, by omega, by omega, by omega⟩
/-- What a text more does, in letters. -/
theorem one_more (ss : List ByteArray) (k : Nat) (w : World) (a : Option Addr) (c : Nat) (hR : StrsA w (.slice a ss.length c) ss) (l : k < ss.length) (ht : tot ss ≤ 1048576) :
    ∃ (g o : Nat) (P C H T : ByteArray), a = some ⟨g, o, none⟩ ∧ cat (ss.take k) = C ∧ hd C = H ∧ C ++ P = T ∧ cat (ss.take (k + 1)) = T ∧ sn T = sn C ++ sn (H ++ P) ∧ hd T = hd (H ++ P) ∧ C.size ≤ 1048576 ∧ P.size ≤ 1048576 ∧ (H ++ P).size ≤ 1048579 ∧ (sn C).length ≤ 1048576 ∧ (sn (H ++ P)).length ≤ 1048579 ∧ T.size ≤ 1048576 ∧
      (∀ wa, Below w.heap.size w wa → wa.cell? ⟨g, o + k, none⟩ = some (.string P)) := by
  obtain ⟨s1, s2, s3, s4, s5, s6⟩ := cat_some ss k l ht
  obtain ⟨a', c', e, h⟩ := hR
  cases e
  obtain ⟨g, off, e2, hg, hc⟩ := h (by omega)
  exact ⟨g, off, ss.getD k ⟨#[]⟩, _, _, _, e2, rfl, rfl, rfl, cat_next ss k l, next_sn _ _, next_hd _ _, s1, s2, s3, s4, s5, s6, fun wa hb => (hb.cell (p := ⟨g, off + k, none⟩) hg).trans (hc k l)⟩
end Go.Proofs.YtabofadjnbpjkabDoor
