/-
  Plain arithmetic of a text that comes in pieces: what is sure, what is held, and how both move on with a piece. No program is run here.
-/
import Derived.Test.YtoliiccmfmgmlaaDoorSp
namespace Go.Proofs.YtoliiccmfmgmlaaDoor
open Go
/-- What is sure, what is held. -/
def su (t : ByteArray) : ByteArray := t.extract 0 (t.size - uns t)
def hd (t : ByteArray) : ByteArray := t.extract (t.size - uns t) t.size
theorem su_hd (t : ByteArray) : su t ++ hd t = t := by
  unfold su hd
  rw [ByteArray.extract_append_extract]
  have := uns_le t
  rw [show min 0 (t.size - uns t) = 0 by omega, show max (t.size - uns t) t.size = t.size by omega]
  exact ByteArray.extract_zero_size
theorem hd_size (t : ByteArray) : (hd t).size = uns t := by
  have := uns_le t
  unfold hd; simp; omega
theorem su_size (t : ByteArray) : (su t).size = t.size - uns t := by unfold su; simp
theorem ext_byt (a b : ByteArray) (hs : a.size = b.size) (h : ∀ j, j < a.size → byt a j = byt b j) : a = b := by
  apply ByteArray.ext
  apply Array.ext hs
  intro i h1 h2
  have := h i h1
  rw [← byt_eq a i h1, ← byt_eq b i h2] at this
  exact UInt8.toNat_inj.1 this
def unsN (n l p : Nat) : Nat := if 1 ≤ n ∧ l = 37 then 1 else if 2 ≤ n ∧ p = 37 ∧ hx l < 16 then 2 else 0
theorem uns_is (s : ByteArray) : uns s = unsN s.size (byt s (s.size - 1)) (byt s (s.size - 2)) := rfl
theorem unsN_two (n l p : Nat) : unsN n l p ≤ 2 := by
  unfold unsN
  repeat' split
  all_goals omega
theorem unsN_one (l p q : Nat) (n : Nat) (hn : 1 ≤ n) (hp : ¬ p = 37 ∨ l = 37) : unsN n l p = unsN 1 l q := by
  unfold unsN
  by_cases c : l = 37
  · rw [if_pos ⟨hn, c⟩, if_pos ⟨by omega, c⟩]
  · rw [if_neg (by omega), if_neg (by omega), if_neg (by omega), if_neg (by omega)]
theorem unsN_more (l p n m : Nat) (hn : 2 ≤ n) (hm : 2 ≤ m) : unsN n l p = unsN m l p := by
  unfold unsN
  simp only [show (1 ≤ n ∧ l = 37) = (1 ≤ m ∧ l = 37) from propext (by omega), show (2 ≤ n ∧ p = 37 ∧ hx l < 16) = (2 ≤ m ∧ p = 37 ∧ hx l < 16) from propext (by omega)]
theorem last_not (a : ByteArray) (h : uns a = 0) (ha : 1 ≤ a.size) : ¬ byt a (a.size - 1) = 37 := fun q => by
  rw [uns_is] at h
  unfold unsN at h
  rw [if_pos ⟨ha, q⟩] at h
  omega
theorem app_empty (a b : ByteArray) (hb : b.size = 0) : a ++ b = a := by
  refine ext_byt _ _ (by simp [hb]) fun j hj => ?_
  have : (a ++ b).size = a.size + b.size := by simp
  rw [byt_app, if_pos (by omega)]
theorem uns_app (a b : ByteArray) (h : Sure a b) : uns (a ++ b) = uns b := by
  have hs : (a ++ b).size = a.size + b.size := by simp
  unfold Sure at h
  by_cases b0 : b.size = 0
  · have hz : byt b 0 = 0 := byt_over b 0 (by omega)
    have h1 := h.resolve_right (by omega)
    have h2 := uns_le b
    rw [app_empty a b b0, h1]; omega
  · by_cases b1 : b.size = 1
    · rw [uns_is, uns_is, hs, show a.size + b.size - 1 = a.size + 0 by omega, byt_back, show b.size - 1 = 0 by omega, b1]
      by_cases a0 : a.size = 0
      · rw [a0]
        refine (unsN_one _ _ _ _ (by omega) ?_).trans rfl
        by_cases c : byt b 0 = 37
        · exact .inr c
        · left
          rw [show 0 + 1 - 2 = 0 by omega, byt_app, if_neg (by omega), a0]; exact c
      · refine unsN_one _ _ _ _ (by omega) ?_
        rcases h with h | h
        · left
          rw [show a.size + 1 - 2 = a.size - 1 by omega, byt_app, if_pos (by omega)]
          exact last_not a h (by omega)
        · exact .inr h
    · rw [uns_is, uns_is, hs, show a.size + b.size - 1 = a.size + (b.size - 1) by omega, show a.size + b.size - 2 = a.size + (b.size - 2) by omega, byt_back, byt_back]
      exact unsN_more _ _ _ _ (by omega) (by omega)
theorem sure_next (t p : ByteArray) : Sure (su t) (hd t ++ p) := by
  unfold Sure
  by_cases h : uns t = 0
  · left
    have e : su t = t := by
      unfold su; rw [h, Nat.sub_zero]; exact ByteArray.extract_zero_size
    rw [e]; exact h
  · right
    have hl := uns_le t
    have hz := hd_size t
    rw [byt_app, if_pos (by omega)]
    have e : byt (hd t) 0 = byt t (t.size - uns t) := by
      unfold hd; rw [byt_tail, Nat.add_zero]
    rw [e]
    unfold uns at h ⊢
    by_cases c : 1 ≤ t.size ∧ byt t (t.size - 1) = 37
    · rw [if_pos c]; exact c.2
    · rw [if_neg c] at h ⊢
      by_cases c2 : 2 ≤ t.size ∧ byt t (t.size - 2) = 37 ∧ hx (byt t (t.size - 1)) < 16
      · rw [if_pos c2]; exact c2.2.1
      · rw [if_neg c2] at h; omega
theorem cut_app (t p : ByteArray) : su t ++ (hd t ++ p) = t ++ p := by rw [← ByteArray.append_assoc, su_hd]
theorem next_uns (t p : ByteArray) : uns (t ++ p) = uns (hd t ++ p) := by rw [← cut_app, uns_app _ _ (sure_next t p)]
theorem byt_hd (t : ByteArray) (j : Nat) : byt (hd t) j = byt t (t.size - uns t + j) := byt_tail t _ j
theorem next_hd (t p : ByteArray) : hd (t ++ p) = hd (hd t ++ p) := by
  have hu := next_uns t p
  have hl := uns_le (hd t ++ p)
  have hz := hd_size t
  have hq := su_size t
  have hs : (t ++ p).size = t.size + p.size := by simp
  have hs2 : (hd t ++ p).size = uns t + p.size := by simp [hd_size]
  have hl3 := uns_le t
  have hl4 := uns_le (t ++ p)
  refine ext_byt _ _ (by rw [hd_size, hd_size, hu]) fun j hj => ?_
  rw [hd_size] at hj
  have key : ∀ x, (su t).size ≤ x → byt (t ++ p) x = byt (hd t ++ p) (x - (su t).size) := fun x hx => by rw [← cut_app t p, byt_app, if_neg (by omega)]
  rw [byt_hd (t ++ p) j, byt_hd (hd t ++ p) j, key _ (by omega), show (t ++ p).size - uns (t ++ p) + j - (su t).size = (hd t ++ p).size - uns (hd t ++ p) + j by omega]
theorem next_su (t p : ByteArray) : su (t ++ p) = su t ++ su (hd t ++ p) := by
  have hu := next_uns t p
  have hl := uns_le (hd t ++ p)
  have hz := hd_size t
  have hq := su_size t
  have hs : (t ++ p).size = t.size + p.size := by simp
  have hs2 : (hd t ++ p).size = uns t + p.size := by simp [hd_size]
  have hl3 := uns_le t
  have hl4 := uns_le (t ++ p)
  have hq2 := su_size (t ++ p)
  have hq3 := su_size (hd t ++ p)
  have hq4 : (su t ++ su (hd t ++ p)).size = (su t).size + (su (hd t ++ p)).size := by simp
  refine ext_byt _ _ (by omega) fun j hj => ?_
  have e1 : byt (su (t ++ p)) j = byt (t ++ p) j := byt_front (t ++ p) _ j (by omega) (by omega)
  have key : byt (t ++ p) j = if j < (su t).size then byt (su t) j else byt (hd t ++ p) (j - (su t).size) := by rw [← cut_app t p, byt_app]
  rw [e1, byt_app (su t) (su (hd t ++ p)), key]
  by_cases c : j < (su t).size
  · rw [if_pos c, if_pos c]
  · rw [if_neg c, if_neg c]
    exact (byt_front (hd t ++ p) _ _ (by omega) (by omega)).symm
theorem decB_empty (b : ByteArray) (h : b.size = 0) : decB b = b := by
  refine ext_byt _ _ (by have := decB_le b; omega) fun j hj => ?_
  have := decB_le b
  omega
/-- What comes out when a piece comes. -/
theorem out_next (t p : ByteArray) : decB (su (t ++ p)) = decB (su t) ++ decB (su (hd t ++ p)) := by
  rw [next_su]
  by_cases h0 : (su (hd t ++ p)).size = 0
  · rw [app_empty _ _ h0, decB_empty _ h0, app_empty _ _ h0]
  · refine decB_app _ _ ?_
    rcases sure_next t p with h | h
    · exact .inl h
    · right
      have hq3 := su_size (hd t ++ p)
      rw [← h]
      exact byt_front (hd t ++ p) _ 0 (by omega) (by omega)
theorem says_short (a : ByteArray) (h : a.size < 3) : ∀ (m k : Nat), a.size - k ≤ m → says a (posAt a k) = a.data.toList.drop k
  | 0, k, hm => by
    rw [posAt_nil a k (by omega), List.drop_eq_nil_of_le (by have : a.data.toList.length = a.size := by simp
                                                             omega)]
    rfl
  | m + 1, k, hm => by
    have hl : a.data.toList.length = a.size := by simp
    by_cases hk : k < a.size
    · have hc : cd a k = false := by
        have : ¬ cd a k = true := by rw [cd_iff]; omega
        simpa using this
      have hz : pz a k = 1 := if_neg (by rw [hc]; decide)
      have hsy : sy a k = byt a k := if_neg (by rw [hc]; decide)
      have ih := says_short a h m (k + 1) (by omega)
      rw [posAt_cons a k hk, hz, List.drop_eq_getElem_cons (by omega)]
      unfold says at ih ⊢
      rw [List.map_cons, ih, hsy, ← byt_eq a k hk]
      congr 1
      simp
      rfl
    · rw [posAt_nil a k hk, List.drop_eq_nil_of_le (by omega)]
      rfl
theorem decB_short (a : ByteArray) (h : a.size < 3) : decB a = a := by
  apply ByteArray.ext
  show (says a (posAt a 0)).toArray = _
  rw [says_short a h a.size 0 (by omega)]
  simp
/-- All in all. -/
theorem out_all (t : ByteArray) : decB (su t) ++ hd t = decB t := by
  have h2 : (hd t).size < 3 := by rw [hd_size, uns_is]; have := unsN_two t.size (byt t (t.size - 1)) (byt t (t.size - 2)); omega
  have e := su_hd t
  have hS : Sure (su t) (hd t) := by
    have := sure_next t ⟨#[]⟩
    rwa [app_empty (hd t) ⟨#[]⟩ rfl] at this
  have := decB_app (su t) (hd t) hS
  rw [e, decB_short (hd t) h2] at this
  exact this.symm
end Go.Proofs.YtoliiccmfmgmlaaDoor
