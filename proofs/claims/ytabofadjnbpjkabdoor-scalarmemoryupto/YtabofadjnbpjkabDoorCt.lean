/-
  A text that is cut where a piece ends: its pieces are those ahead of the cut and those behind it. About texts alone: no program in it.
-/
import Derived.Test.YtabofadjnbpjkabDoorRv
namespace Go.Proofs.YtabofadjnbpjkabDoor
open Go.RowKit Go.Lib
theorem st_cut (n m b0 b1 b2 b3 c1 c2 c3 : Nat) (hm : m ≤ n) (_ : 1 ≤ m) (h : stN n b0 b1 b2 b3 ≤ m) (e1 : 2 ≤ m → c1 = b1) (e2 : 3 ≤ m → c2 = b2) (e3 : 4 ≤ m → c3 = b3) : stN m b0 c1 c2 c3 = stN n b0 b1 b2 b3 := by
  unfold stN at h ⊢
  repeat' split at h
  all_goals (repeat' split)
  all_goals omega
theorem ru_cut (n m b0 b1 b2 b3 c1 c2 c3 : Nat) (hm : m ≤ n) (h1 : 1 ≤ m) (h : stN n b0 b1 b2 b3 ≤ m) (e1 : 2 ≤ m → c1 = b1) (e2 : 3 ≤ m → c2 = b2) (e3 : 4 ≤ m → c3 = b3) : ruN m b0 c1 c2 c3 = ruN n b0 b1 b2 b3 := by
  have hst := st_cut n m b0 b1 b2 b3 c1 c2 c3 hm h1 h e1 e2 e3
  cases hw : wrN n b0 b1 b2 b3
  · have hw' : wrN m b0 c1 c2 c3 = false := by rw [wr_not] at hw ⊢; omega
    have hz := (wr_not _ _ _ _ _).1 hw
    rw [ru_right _ _ _ _ _ hw, ru_right _ _ _ _ _ hw']
    rcases sz_cases b0 with ⟨_, e⟩ | ⟨_, _, e⟩ | ⟨_, _, e⟩ | ⟨_, _, e⟩ | ⟨_, e⟩
    · simp only [e, if_true]
    · rw [e1 (by omega)]
      simp [e]
    · rw [e1 (by omega), e2 (by omega)]
      simp [e]
    · rw [e1 (by omega), e2 (by omega), e3 (by omega)]
    · have : 1 ≤ stN n b0 b1 b2 b3 := (st_le n b0 b1 b2 b3 (by omega)).1
      omega
  · have hw' : wrN m b0 c1 c2 c3 = true := by rw [wr_iff] at hw ⊢; omega
    unfold ruN
    rw [hw, hw']
    simp
theorem byt_front (s : ByteArray) (e j : Nat) (he : e ≤ s.size) (hj : j < e) : byt (s.extract 0 e) j = byt s j := by
  have := byt_extract s 0 e j he (by omega)
  rwa [Nat.zero_add] at this
theorem piece_cut (s : ByteArray) (e k : Nat) (he : e ≤ s.size) (hk : k < e) (h : k + pSt s k ≤ e) : pSt (s.extract 0 e) k = pSt s k ∧ pRu (s.extract 0 e) k = pRu s k := by
  have hz : (s.extract 0 e).size = e := by simp; omega
  have q0 := byt_front s e k he hk
  unfold pSt pRu at *
  rw [hz, q0]
  have a1 : 2 ≤ e - k → byt (s.extract 0 e) (k + 1) = byt s (k + 1) := fun _ => byt_front s e _ he (by omega)
  have a2 : 3 ≤ e - k → byt (s.extract 0 e) (k + 2) = byt s (k + 2) := fun _ => byt_front s e _ he (by omega)
  have a3 : 4 ≤ e - k → byt (s.extract 0 e) (k + 3) = byt s (k + 3) := fun _ => byt_front s e _ he (by omega)
  exact ⟨st_cut _ _ _ _ _ _ _ _ _ (by omega) (by omega) (by omega) a1 a2 a3, ru_cut _ _ _ _ _ _ _ _ _ (by omega) (by omega) (by omega) a1 a2 a3⟩
theorem posAt_ge (s : ByteArray) : ∀ (m k : Nat), s.size - k ≤ m → ∀ j ∈ posAt s k, k ≤ j ∧ j < s.size
  | 0, k, h => by rw [posAt_nil s k (by omega)]; simp
  | m + 1, k, h => by
    by_cases hk : k < s.size
    · have hp := pSt_le s k hk
      rw [posAt_cons s k hk]
      intro j hj
      rcases List.mem_cons.1 hj with rfl | hj
      · omega
      · have := posAt_ge s m (k + pSt s k) (by omega) j hj
        omega
    · rw [posAt_nil s k hk]; simp
/-- The pieces ahead of the cut. -/
theorem front_is (s : ByteArray) (e : Nat) (he : e ≤ s.size) : ∀ (p : List Nat) (k : Nat), k ≤ e → posAt s k = p ++ posAt s e → posAt (s.extract 0 e) k = p ∧ ∀ j ∈ p, pRu (s.extract 0 e) j = pRu s j
  | [], k, hk, h => by
    have hz : (s.extract 0 e).size = e := by simp; omega
    have : k = e := by
      by_cases hlt : k < s.size
      · rw [posAt_cons s k hlt] at h
        have hm : k ∈ posAt s e := by rw [List.nil_append] at h; rw [← h]; simp
        have := posAt_ge s _ e (Nat.le_refl _) k hm
        omega
      · omega
    subst this
    rw [posAt_nil _ _ (by omega)]
    simp
  | a :: p, k, hk, h => by
    have hz : (s.extract 0 e).size = e := by simp; omega
    have hlt : k < s.size := by
      by_cases hlt : k < s.size
      · exact hlt
      · rw [posAt_nil s k hlt] at h; simp at h
    rw [posAt_cons s k hlt, List.cons_append] at h
    obtain ⟨rfl, h'⟩ := List.cons.inj h
    have hp := pSt_le s k hlt
    have hle : k + pSt s k ≤ e := by
      by_cases hes : e < s.size
      · have hm : e ∈ posAt s (k + pSt s k) := by rw [h', posAt_cons s e hes]; simp
        exact (posAt_ge s _ _ (Nat.le_refl _) e hm).1
      · omega
    have hke : k < e := by omega
    obtain ⟨q1, q2⟩ := piece_cut s e k he hke hle
    obtain ⟨i1, i2⟩ := front_is s e he p (k + pSt s k) hle h'
    rw [posAt_cons _ k (by omega), q1, i1]
    refine ⟨rfl, fun j hj => ?_⟩
    rcases List.mem_cons.1 hj with rfl | hj
    · exact q2
    · exact i2 j hj
theorem piece_behind (s : ByteArray) (e j : Nat) (_ : e + j ≤ s.size) : pSt (s.extract e s.size) j = pSt s (e + j) ∧ pRu (s.extract e s.size) j = pRu s (e + j) := by
  have hz : (s.extract e s.size).size - j = s.size - (e + j) := by simp; omega
  unfold pSt pRu
  rw [hz, byt_tail, byt_tail, byt_tail, byt_tail]
  simp only [Nat.add_assoc, and_self]
/-- The pieces behind the cut. -/
theorem behind_is (s : ByteArray) (e : Nat) (he : e ≤ s.size) : ∀ (m j : Nat), s.size - (e + j) ≤ m → (posAt (s.extract e s.size) j).map (fun i => pRu (s.extract e s.size) i) = (posAt s (e + j)).map (fun i => pRu s i)
  | 0, j, h => by
    have hz : (s.extract e s.size).size = s.size - e := by simp
    have a1 : posAt s (e + j) = [] := posAt_nil s _ (by omega)
    have a2 : posAt (s.extract e s.size) j = [] := posAt_nil _ j (by omega)
    rw [a1, a2, List.map_nil, List.map_nil]
  | m + 1, j, h => by
    have hz : (s.extract e s.size).size = s.size - e := by simp
    by_cases hk : e + j < s.size
    · obtain ⟨q1, q2⟩ := piece_behind s e j (by omega)
      have hp := pSt_le s (e + j) hk
      have ih := behind_is s e he m (j + pSt s (e + j)) (by omega)
      rw [← Nat.add_assoc] at ih
      have a1 := posAt_cons s (e + j) hk
      have a2 := posAt_cons (s.extract e s.size) j (by omega)
      rw [q1] at a2
      rw [a1, a2, List.map_cons, List.map_cons, q2, ih]
    · have a1 : posAt s (e + j) = [] := posAt_nil s _ hk
      have a2 : posAt (s.extract e s.size) j = [] := posAt_nil _ j (by omega)
      rw [a1, a2, List.map_nil, List.map_nil]
/-- What a text says is what it says ahead of the cut and what it says behind it. -/
theorem runes_cut (s : ByteArray) (e : Nat) (he : e ≤ s.size) (p : List Nat) (h : poss s = p ++ posAt s e) :
    runesC s (poss s) = runesC (s.extract 0 e) (poss (s.extract 0 e)) ++ runesC (s.extract e s.size) (poss (s.extract e s.size)) := by
  obtain ⟨h1, h2⟩ := front_is s e he p 0 (Nat.zero_le _) h
  have h3 := behind_is s e he (s.size - e) 0 (by omega)
  rw [Nat.add_zero] at h3
  have e1 : poss (s.extract 0 e) = p := h1
  obtain ⟨t1, ht1⟩ : ∃ t1, s.extract 0 e = t1 := ⟨_, rfl⟩
  obtain ⟨t2, ht2⟩ : ∃ t2, s.extract e s.size = t2 := ⟨_, rfl⟩
  rw [ht1] at e1 h2 ⊢
  rw [ht2] at h3 ⊢
  clear h1 ht1 ht2
  have f1 : runesC t1 (poss t1) = runesC s p := by
    rw [e1]
    exact List.map_congr_left fun j hj => by rw [h2 j hj]
  have f2 : runesC t2 (poss t2) = runesC s (posAt s e) := by
    have := congrArg (List.map fun n : Nat => Value.int .i32 (n : Int)) h3
    simp only [List.map_map] at this
    exact this
  have f3 : runesC s (p ++ posAt s e) = runesC s p ++ runesC s (posAt s e) := List.map_append
  rw [f1, f2, h, f3]
end Go.Proofs.YtabofadjnbpjkabDoor
