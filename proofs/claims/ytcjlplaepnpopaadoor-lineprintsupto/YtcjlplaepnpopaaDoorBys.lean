/-
  Bytes in a block of the call's own: what '[]byte(s)' lays, a store into it, 'string(b)' of it and of a slice that the call has grown. No condition.
-/
import Derived.WalkKit
import Derived.Below
import Derived.Laws.IdiomStrings
import Derived.Laws.BytesArg
namespace Go.Proofs.YtcjlplaepnpopaaDoor
open Go.RowKit
variable {P : Program}
/-- The byte of a text at place j, as a number. -/
def byteAt (s : ByteArray) (j : Nat) : Nat := (s.data.toList.getD j 0).toNat
theorem byteAt_lt (s : ByteArray) (j : Nat) : byteAt s j < 256 := UInt8.toNat_lt _
theorem byteAt_eq (s : ByteArray) (k : Nat) (h : k < s.size) : byteAt s k = s[k].toNat := by
  have h' : k < s.data.toList.length := by simpa using h
  unfold byteAt
  rw [List.getD_eq_getElem?_getD, List.getElem?_eq_getElem h']
  rfl
/-- Block b holds the bytes f 0 .. f (n - 1), and they may be written. -/
def Bys (wr : World) (b n : Nat) (f : Nat → Int) : Prop := ∀ j, j < n → wr.cell? ⟨b, j, none⟩ = some (.int .u8 (f j)) ∧ wr.frozen? ⟨b, j, none⟩ = false
theorem Bys.set {wr : World} {b n : Nat} {f : Nat → Int} (h : Bys wr b n f) (k : Nat) (v : Int) : Bys (wr.setCell ⟨b, k, none⟩ (.int .u8 v)) b n (fun j => if j = k then v else f j) := by
  intro j hj
  obtain ⟨hc, hf⟩ := h j hj
  refine ⟨?_, by rw [World.frozen?_setCell]; exact hf⟩
  by_cases e : j = k
  · subst e
    rw [World.cell?_setCell_same wr _ _ hc]
    simp
  · rw [World.cell?_setCell_other wr _ _ _ (fun q => e (congrArg Addr.off q).symm), hc]
    simp [e]
theorem Bys.congr {wr : World} {b n : Nat} {f g : Nat → Int} (h : Bys wr b n f) (hfg : ∀ j, j < n → f j = g j) : Bys wr b n g := by
  intro j hj
  rw [← hfg j hj]
  exact h j hj
/-- What '[]byte(s)' makes, in whatever world. -/
theorem bytes_of (w : World) (src dst e : TypeId) (s : ByteArray) (hs : P.underlying src = some .string) (hd : P.underlying dst = some (.slice e)) (he : P.underlying e = some (.int .u8)) :
    ∃ c W, (convert src dst (.string s)).run P w = .ok (.slice (some ⟨w.heap.size, 0, none⟩) s.size c) W ∧ Bys W w.heap.size s.size (fun j => byteAt s j) ∧ Below w.heap.size w W ∧ W.heap.size = w.heap.size + 1 := by
  refine ⟨_, _, run_bytes_of_string w src dst e s hs hd he, ?_, ?_, ?_⟩
  · intro j hj
    have h' : j < s.data.toList.length := by simpa using hj
    have hr : (bytesRow s (grownCap w s.size 0 e))[j]? = some (.int .u8 (byteAt s j)) := by
      unfold bytesRow byteAt
      rw [Array.getElem?_append_left (by simpa using h'), List.getD_eq_getElem?_getD, List.getElem?_eq_getElem h']
      have h2 : j < s.data.size := by simpa using h'
      simp [Array.getElem?_eq_getElem h2]
    refine ⟨?_, ?_⟩
    · exact (World.cell?_alloc_mark w.drew _ e _ j).trans hr
    · refine (World.frozen?_alloc_mark w.drew _ e _ _ j).trans ?_
      have hz : s.size ≤ (bytesRow s (grownCap w s.size 0 e)).size := by unfold bytesRow; rw [Array.size_append, Array.size_map]; exact Nat.le_add_right _ _
      have : ¬ (bytesRow s (grownCap w s.size 0 e)).size ≤ j := by omega
      simp [this]
  · exact ((Below.refl _ _).drew).alloc (Nat.le_refl _) _
  · show (w.heap.push _).size = _
    simp
/-- 'string(b)' of such bytes. -/
theorem string_of {wr : World} {b n : Nat} {f : Nat → Int} (h : Bys wr b n f) (src e dst : TypeId) (c : Nat) (hs : P.underlying src = some (.slice e)) (he : P.underlying e = some (.int .u8)) (hd : P.underlying dst = some .string) :
    (convert src dst (.slice (some ⟨b, 0, none⟩) n c)).run P wr = .ok (.string (strOfNums ((List.range n).map f))) wr := by
  refine run_convert_bytes_arg wr src e hs he b 0 n c _ (by simp) (fun i hi => ?_) dst hd
  rw [Nat.zero_add, (h i hi).1]
  simp [hi]
/-- 'string(b)' of a slice that the call has grown. -/
theorem string_own {wr : World} {base n : Nat} {v : Value} {f : Nat → Int} (src e dst : TypeId) (h : wr.ownsRow base e 1 v n ((List.range n).map fun j => Value.int .u8 (f j))) (hs : P.underlying src = some (.slice e)) (he : P.underlying e = some (.int .u8)) (hd : P.underlying dst = some .string) :
    (convert src dst v).run P wr = .ok (.string (strOfNums ((List.range n).map f))) wr := by
  obtain ⟨hl, h | ⟨g, cap, cur, rfl, hb, hg, hn, hc, hz, ht⟩⟩ := h
  · obtain ⟨rfl, rfl⟩ := h
    exact run_convert_bytes_nil wr src e hs he 0 0 dst hd
  · refine run_convert_bytes_arg wr src e hs he g 0 n cap _ (by simp) (fun i hi => ?_) dst hd
    have e1 : cur.toList[i]? = ((List.range n).map fun j => Value.int .u8 (f j))[i]? := by
      rw [← ht, List.getElem?_take_of_lt (by omega)]
    have e2 : wr.cell? ⟨g, i, none⟩ = cur[i]? := by simp [World.cell?, hg]
    rw [Nat.zero_add, e2, ← Array.getElem?_toList, e1]
    simp [hi]
end Go.Proofs.YtcjlplaepnpopaaDoor
