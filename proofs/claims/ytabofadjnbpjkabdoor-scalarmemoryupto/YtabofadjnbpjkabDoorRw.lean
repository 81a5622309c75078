/-
  A text none of whose pieces is wrong is what its values are written as; what Clean answers stays as it is. About texts alone: no program in it.
-/
import Derived.Test.YtabofadjnbpjkabDoorCu
import Derived.Test.YtabofadjnbpjkabDoorRv
namespace Go.Proofs.YtabofadjnbpjkabDoor
open Go.RowKit Go.Lib
theorem Lies.append {s : ByteArray} {k : Nat} {a b : List Int} (ha : Lies s k a) (hb : Lies s (k + a.length) b) : Lies s k (a ++ b) := fun j hj => by
  by_cases h : j < a.length
  · rw [ha j h]
    simp [List.getD, List.getElem?_append_left h]
  · rw [List.length_append] at hj
    have := hb (j - a.length) (by omega)
    rw [show k + a.length + (j - a.length) = k + j by omega] at this
    rw [this]
    simp [List.getD, List.getElem?_append_right (show a.length ≤ j by omega)]
theorem right_from (s : ByteArray) : ∀ (m k : Nat), s.size - k ≤ m → k ≤ s.size → (∀ j ∈ posAt s k, pWr s j = false) → Lies s k (encs ((posAt s k).map fun j => (pRu s j : Int))) ∧ (encs ((posAt s k).map fun j => (pRu s j : Int))).length = s.size - k
  | 0, k, h, hk, _ => by
    rw [posAt_nil s k (by omega)]
    refine ⟨fun j hj => by simp [encs] at hj, by simp [encs]; omega⟩
  | m + 1, k, h, hk, hr => by
    by_cases hlt : k < s.size
    · have hp := pSt_le s k hlt
      rw [posAt_cons s k hlt] at hr ⊢
      obtain ⟨q1, q2⟩ := enc1_ru s k (hr k (by simp))
      obtain ⟨i1, i2⟩ := right_from s m (k + pSt s k) (by omega) (by omega) (fun j hj => hr j (by simp [hj]))
      rw [List.map_cons]
      have e : ∀ (a : Int) (l : List Int), encs (a :: l) = enc1 a ++ encs l := fun _ _ => rfl
      rw [e]
      refine ⟨q1.append (by rw [q2]; exact i1), ?_⟩
      rw [List.length_append, q2, i2]
      omega
    · rw [posAt_nil s k hlt]
      refine ⟨fun j hj => by simp [encs] at hj, by simp [encs]; omega⟩
theorem text_ext (s t : ByteArray) (hz : s.size = t.size) (h : ∀ j, j < s.size → byt s j = byt t j) : s = t := by
  apply ByteArray.ext
  apply Array.ext
  · exact hz
  · intro i h1 h2
    have q := h i h1
    have a := byt_eq s i h1
    have b := byt_eq t i h2
    have : (s[i]'h1).toNat = (t[i]'h2).toNat := by omega
    exact UInt8.toNat_inj.1 this
theorem wrongOf_all (s : ByteArray) : ∀ l : List Nat, wrongOf s l = -1 → ∀ j ∈ l, pWr s j = false
  | [], _ => by simp
  | k :: l, h => by
    cases hk : pWr s k
    · simp only [wrongOf, hk] at h
      intro j hj
      rcases List.mem_cons.1 hj with rfl | hj
      · exact hk
      · exact wrongOf_all s l h j hj
    · simp only [wrongOf, hk] at h
      simp at h
theorem right_text (s : ByteArray) (h : wrongOf s (poss s) = -1) : runesBytes (nums s) = s := by
  have hv := nums_valid s
  rw [runes_is _ hv]
  obtain ⟨h1, h2⟩ := right_from s s.size 0 (by omega) (by omega) (wrongOf_all s _ h)
  have h1' : Lies s 0 (encs (nums s)) := h1
  have h2' : (encs (nums s)).length = s.size - 0 := h2
  have hl := strOf_lies (encs (nums s)) (encs_range _ hv)
  have hz : (strOfNums (encs (nums s))).size = (encs (nums s)).length := strOfNums_size _
  refine text_ext _ _ (by omega) fun j hj => ?_
  have a := hl j (by omega)
  have b := h1' j (by omega)
  rw [Nat.zero_add] at a b
  omega
/-- What Clean answers is clean. -/
theorem clean_twice (s : ByteArray) : nums (runesBytes (nums s)) = nums s ∧ wrongOf (runesBytes (nums s)) (poss (runesBytes (nums s))) = -1 := by
  obtain ⟨h1, h2⟩ := rt_runes (nums s) (nums_valid s)
  refine ⟨?_, h2⟩
  rw [runes_nums] at h1
  have := congrArg (List.map RowKit.intOf) h1
  simpa [List.map_map, Function.comp_def, RowKit.intOf] using this
theorem clean_size (s : ByteArray) : (runesBytes (nums s)).size ≤ 4 * s.size := by
  rw [runes_is _ (nums_valid s), strOfNums_size]
  have h1 := encs_len (nums s)
  have h2 : (nums s).length = (poss s).length := by simp [nums]
  have h3 : (poss s).length ≤ s.size := posAt_len s s.size 0 (by omega)
  omega
/-- Pieces rise. -/
theorem rising (s : ByteArray) : ∀ (pre : List Nat) (k0 q : Nat) (rest : List Nat), posAt s k0 = pre ++ q :: rest → ∀ k ∈ pre, k + pSt s k ≤ q
  | [], _, _, _, _ => by simp
  | a :: pre, k0, q, rest, h => by
    have hlt : k0 < s.size := by
      by_cases hlt : k0 < s.size
      · exact hlt
      · rw [posAt_nil s k0 hlt] at h; simp at h
    rw [posAt_cons s k0 hlt, List.cons_append] at h
    obtain ⟨rfl, h'⟩ := List.cons.inj h
    intro k hk
    rcases List.mem_cons.1 hk with rfl | hk
    · have hm : q ∈ posAt s (k + pSt s k) := by rw [h']; simp
      exact (posAt_ge s _ _ (Nat.le_refl _) q hm).1
    · exact rising s pre _ q rest h' k hk
theorem tw_ok {α : Type} (q : α → Bool) : ∀ (l : List α) (x : α), x ∈ l.takeWhile q → q x = true
  | [], x, h => by simp at h
  | a :: l, x, h => by
    rw [List.takeWhile_cons] at h
    split at h
    · rcases List.mem_cons.1 h with rfl | h
      · assumption
      · exact tw_ok q l x h
    · simp at h
theorem take_step (s : ByteArray) (most : Int) (i q : Nat) (h : (poss s)[i]? = some q) :
    endFrom s 0 (((poss s).take (i + 1)).takeWhile (okP s most)) = if okP s most q = true then q + pSt s q else endFrom s 0 (((poss s).take i).takeWhile (okP s most)) := by
  have hi := (List.getElem?_eq_some_iff.1 h).1
  have e1 : (poss s).take (i + 1) = (poss s).take i ++ [q] := by rw [List.take_add_one, h]; rfl
  have e2 : poss s = (poss s).take i ++ q :: (poss s).drop (i + 1) := by
    have hq := (List.getElem?_eq_some_iff.1 h).2
    rw [← hq, ← List.drop_eq_getElem_cons hi, List.take_append_drop]
  have hrise := rising s ((poss s).take i) 0 q ((poss s).drop (i + 1)) e2
  rw [e1]
  cases hq : okP s most q
  · rw [if_neg (by simp)]
    congr 1
    by_cases hall : ∀ x ∈ (poss s).take i, okP s most x = true
    · rw [take_all (okP s most) _ [q] hall (fun x l hx => by obtain ⟨rfl, _⟩ := List.cons.inj hx; exact hq)]
      have := take_all (okP s most) ((poss s).take i) [] hall (fun x l hx => by cases hx)
      rw [List.append_nil] at this
      exact this.symm
    · rw [List.takeWhile_append, if_neg]
      intro hlen
      apply hall
      have hpre : ((poss s).take i).takeWhile (okP s most) = (poss s).take i := (List.takeWhile_prefix _).eq_of_length hlen
      intro x hx
      rw [← hpre] at hx
      exact tw_ok _ _ x hx
  · rw [if_pos rfl]
    have hall : ∀ x ∈ (poss s).take i ++ [q], okP s most x = true := by
      intro x hx
      rcases List.mem_append.1 hx with hx | hx
      · have hr := hrise x hx
        unfold okP at hq ⊢
        rw [decide_eq_true_iff] at hq ⊢
        omega
      · rw [List.mem_singleton.1 hx]; exact hq
    have := take_all (okP s most) ((poss s).take i ++ [q]) [] hall (fun x l hx => by cases hx)
    rw [List.append_nil] at this
    rw [this]
    simp [endFrom]
end Go.Proofs.YtabofadjnbpjkabDoor
