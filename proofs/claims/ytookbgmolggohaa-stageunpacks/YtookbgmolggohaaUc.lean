/-
  What stands in a packed text: the number of unlike blocks, the places, the blocks. No program is run here.
-/
import Derived.Test.YtookbgmolggohaaUb
namespace Go.Proofs.Ytookbgmolggohaa
open Go.RowKit
theorem byt_str {l : List Int} {j : Nat} {x : Int} (h : l[j]? = some x) (h0 : 0 ≤ x) (h1 : x ≤ 255) : ((byt (strOfNums l) j : Nat) : Int) = x := by
  obtain ⟨hj, hx⟩ := List.getElem?_eq_some_iff.1 h
  have hs : j < (strOfNums l).size := by rw [strOfNums_size]; exact hj
  rw [← byt_eq _ _ hs]
  have e : (strOfNums l)[j]'hs = UInt8.ofNat x.toNat := by
    show (l.map fun n => UInt8.ofNat n.toNat).toArray[j]'(by simpa using hj) = _
    simp [hx]
  rw [e, UInt8.toNat_ofNat']
  omega
theorem num_str {l : List Int} {j : Nat} {z : Int} (h : l[j]? = some (z / 256)) (h' : l[j + 1]? = some (z % 256)) (h0 : 0 ≤ z) (h1 : z ≤ 65535) : ((numB (strOfNums l) j : Nat) : Int) = z := by
  have a := byt_str h (by omega) (by omega)
  have b := byt_str h' (by omega) (by omega)
  have e : numB (strOfNums l) j = 256 * byt (strOfNums l) j + byt (strOfNums l) (j + 1) := rfl
  omega
theorem flat2_at (g : Nat → Int) : ∀ (k i : Nat), i < k → ((List.range k).flatMap fun i => num2 (g i))[2 * i]? = some (g i / 256) ∧ ((List.range k).flatMap fun i => num2 (g i))[2 * i + 1]? = some (g i % 256)
  | 0, i, h => by omega
  | k + 1, i, h => by
    have e : ((List.range (k + 1)).flatMap fun i => num2 (g i)) = ((List.range k).flatMap fun i => num2 (g i)) ++ num2 (g k) := by simp [List.range_succ]
    have hl := flat2_len g k
    rw [e]
    by_cases c : i < k
    · rw [List.getElem?_append_left (by omega), List.getElem?_append_left (by omega)]
      exact flat2_at g k i c
    · have hi : i = k := by omega
      subst hi
      rw [List.getElem?_append_right (by omega), List.getElem?_append_right (by omega), hl]
      simp [num2]
theorem usB_at : ∀ (U : List (Nat → Int)) (u m : Nat) (f : Nat → Int), U[u]? = some f → m < 256 → (usB U)[256 * u + m]? = (blB f 128)[m]?
  | [], u, m, f, h, _ => by simp at h
  | g :: U, u, m, f, h, hm => by
    have e : usB (g :: U) = blB g 128 ++ usB U := by simp [usB]
    have hl := blB_len g 128
    rw [e]
    cases u with
    | zero =>
      simp at h
      subst h
      rw [List.getElem?_append_left (by omega)]
      simp
    | succ u =>
      have h' : U[u]? = some f := by simpa using h
      rw [List.getElem?_append_right (by omega), hl, show 256 * (u + 1) + m - 2 * 128 = 256 * u + m by omega]
      exact usB_at U u m f h' hm
theorem pk_size (F : Int → Int) : (pkT F).size = 17410 + 256 * (unl F 8704).length := by
  unfold pkT
  rw [strOfNums_size]
  unfold pkL
  rw [List.length_append, List.length_append, num2_len, psB_len, usB_len]
theorem pk_many (F : Int → Int) : numB (pkT F) 0 = (unl F 8704).length := by
  have hul := unl_len F 8704
  have h : ∀ j, j < 2 → (pkL F)[j]? = (num2 ((unl F 8704).length : Nat))[j]? := fun j hj => by
    unfold pkL
    rw [List.append_assoc, List.getElem?_append_left (by rw [num2_len]; exact hj)]
  have := num_str (l := pkL F) (j := 0) (z := ((unl F 8704).length : Nat)) (by rw [h 0 (by omega)]; rfl) (by rw [h 1 (by omega)]; rfl) (by omega) (by omega)
  unfold pkT
  omega
theorem pk_place (F : Int → Int) {i : Nat} (hi : i < 8704) : numB (pkT F) (2 * (1 + i)) = plc F i := by
  have hul := unl_len F 8704
  have hp := plc_lt F hi
  have h : ∀ j, j < 17408 → (pkL F)[2 + j]? = (psB F 8704)[j]? := fun j hj => by
    unfold pkL
    rw [List.append_assoc, List.getElem?_append_right (by rw [num2_len]; omega), num2_len, show 2 + j - 2 = j by omega, List.getElem?_append_left (by rw [psB_len]; exact hj)]
  obtain ⟨a, b⟩ := flat2_at (fun i => ((plc F i : Nat) : Int)) 8704 i hi
  have := num_str (l := pkL F) (j := 2 * (1 + i)) (z := ((plc F i : Nat) : Int)) (by rw [show 2 * (1 + i) = 2 + 2 * i by omega, h _ (by omega)]; exact a) (by rw [show 2 * (1 + i) + 1 = 2 + (2 * i + 1) by omega, h _ (by omega)]; exact b) (by omega) (by omega)
  unfold pkT
  omega
theorem pk_block {F : Int → Int} (hF : ∀ p, 0 ≤ F p ∧ F p ≤ 65535) {u : Nat} {f : Nat → Int} (hu : (unl F 8704)[u]? = some f) : rowOf .u16 128 (blkS (pkT F) (8705 + 128 * u)) = rowOf .u16 128 f := by
  refine rowOf_congr _ _ _ _ fun j hj => ?_
  unfold blkS
  rw [if_pos hj]
  have h : ∀ m, m < 256 → (pkL F)[17410 + (256 * u + m)]? = (blB f 128)[m]? := fun m hm => by
    unfold pkL
    rw [List.getElem?_append_right (by rw [List.length_append, num2_len, psB_len]; omega), List.length_append, num2_len, psB_len, show 17410 + (256 * u + m) - (2 + 2 * 8704) = 256 * u + m by omega]
    exact usB_at _ u m f hu hm
  obtain ⟨i, _, rfl⟩ := unl_all F 8704 f (List.mem_of_getElem? hu)
  have hr := blk_range hF i j
  obtain ⟨a, b⟩ := flat2_at (blk F i) 128 j hj
  exact num_str (l := pkL F) (j := 2 * (8705 + 128 * u + j)) (z := blk F i j) (by rw [show 2 * (8705 + 128 * u + j) = 17410 + (256 * u + 2 * j) by omega, h _ (by omega)]; exact a) (by rw [show 2 * (8705 + 128 * u + j) + 1 = 17410 + (256 * u + (2 * j + 1)) by omega, h _ (by omega)]; exact b) hr.1 hr.2
end Go.Proofs.Ytookbgmolggohaa
