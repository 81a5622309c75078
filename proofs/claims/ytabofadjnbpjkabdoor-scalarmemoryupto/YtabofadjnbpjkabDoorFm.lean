/-
  Plain arithmetic of a text that comes in pieces: what is sure to stay, what is held back, and how both move on with a piece. No program is run here.
-/
import Derived.Test.YtabofadjnbpjkabDoorRw
namespace Go.Proofs.YtabofadjnbpjkabDoor
open Go.RowKit Go.Lib
theorem byt_app (a b : ByteArray) (k : Nat) : byt (a ++ b) k = if k < a.size then byt a k else byt b (k - a.size) := by
  by_cases h : k < a.size
  · rw [if_pos h, ← byt_eq a k h, ← byt_eq (a ++ b) k (by simp; omega)]
    congr 1
    exact ByteArray.getElem_append_left h
  · rw [if_neg h]
    by_cases h2 : k - a.size < b.size
    · rw [← byt_eq b _ h2, ← byt_eq (a ++ b) k (by simp; omega)]
      congr 1
      exact ByteArray.getElem_append_right (by omega)
    · rw [byt_over, byt_over]
      · omega
      · simp; omega
/-- Whether what stands at a byte is a sequence's beginning, and no more, to the end of the text. -/
def un (s : ByteArray) (k : Nat) : Bool := unfN (s.size - k) (byt s k) (byt s (k + 1)) (byt s (k + 2))
theorem unf_is (n b0 b1 b2 b3 : Nat) (hn : 1 ≤ n) : unfN n b0 b1 b2 = true ↔ stN n b0 b1 b2 b3 = n ∧ n < szN b0 := by
  have h4 : szN b0 ≤ 4 := by rcases sz_cases b0 with ⟨_, e⟩ | ⟨_, _, e⟩ | ⟨_, _, e⟩ | ⟨_, _, e⟩ | ⟨_, e⟩ <;> omega
  rcases tab_cases b0 with ⟨h, e⟩ | ⟨e, h⟩ | ⟨h, e, el, eh⟩
  · have h1 : szN b0 = 1 := by simp [szN, h]
    have : unfN n b0 b1 b2 = false := by
      unfold unfN
      rw [if_neg (by omega), if_pos (by omega)]
    rw [this, h1]
    simp; omega
  · have : unfN n b0 b1 b2 = false := by
      unfold unfN
      rw [if_neg (by omega), if_pos (by omega)]
    rw [this, h]
    simp
  · have hu : unfN n b0 b1 b2 = true ↔ (¬ szN b0 ≤ n ∧ ¬ (1 < n ∧ (b1 < loN b0 ∨ hiN b0 < b1)) ∧ ¬ (2 < n ∧ (b2 < 128 ∨ 191 < b2))) := by
      unfold unfN
      rw [e, el, eh, if_neg (by omega)]
      repeat' split
      all_goals simp <;> omega
    rw [hu]
    unfold stN
    generalize szN b0 = sz at *
    generalize loN b0 = lo at *
    generalize hiN b0 = hi at *
    repeat' split
    all_goals omega
theorem un_is (s : ByteArray) (k : Nat) (h : k < s.size) : un s k = true ↔ k + pSt s k = s.size ∧ pSt s k < szN (byt s k) := by
  have := unf_is (s.size - k) (byt s k) (byt s (k + 1)) (byt s (k + 2)) (byt s (k + 3)) (by omega)
  have hp := pSt_le s k h
  unfold un
  rw [this]
  have e : stN (s.size - k) (byt s k) (byt s (k + 1)) (byt s (k + 2)) (byt s (k + 3)) = pSt s k := rfl
  rw [e]
  omega
theorem st_more (n m b0 b1 b2 b3 c1 c2 c3 : Nat) (hn : 1 ≤ n) (hm : n ≤ m) (e1 : 2 ≤ n → c1 = b1) (e2 : 3 ≤ n → c2 = b2) (e3 : 4 ≤ n → c3 = b3) (h : ¬ (stN n b0 b1 b2 b3 = n ∧ n < szN b0)) : stN m b0 c1 c2 c3 = stN n b0 b1 b2 b3 := by
  have h4 : szN b0 ≤ 4 := by rcases sz_cases b0 with ⟨_, e⟩ | ⟨_, _, e⟩ | ⟨_, _, e⟩ | ⟨_, _, e⟩ | ⟨_, e⟩ <;> omega
  unfold stN at h ⊢
  generalize szN b0 = sz at *
  generalize loN b0 = lo at *
  generalize hiN b0 = hi at *
  repeat' split at h
  all_goals (repeat' split)
  all_goals omega
theorem piece_more (t p : ByteArray) (k : Nat) (hk : k < t.size) (h : un t k = false) : pSt (t ++ p) k = pSt t k ∧ pRu (t ++ p) k = pRu t k := by
  have hs : (t ++ p).size = t.size + p.size := by simp
  have hb : ∀ j, j < t.size → byt (t ++ p) j = byt t j := fun j hj => by rw [byt_app, if_pos hj]
  have hn := mt (unf_is (t.size - k) (byt t k) (byt t (k + 1)) (byt t (k + 2)) (byt t (k + 3)) (by omega)).2 (by unfold un at h; rw [h]; simp)
  have a1 : 2 ≤ t.size - k → byt (t ++ p) (k + 1) = byt t (k + 1) := fun _ => hb _ (by omega)
  have a2 : 3 ≤ t.size - k → byt (t ++ p) (k + 2) = byt t (k + 2) := fun _ => hb _ (by omega)
  have a3 : 4 ≤ t.size - k → byt (t ++ p) (k + 3) = byt t (k + 3) := fun _ => hb _ (by omega)
  have h1 := st_more (t.size - k) ((t ++ p).size - k) (byt t k) _ _ _ _ _ _ (by omega) (by omega) a1 a2 a3 hn
  have hle := st_le (t.size - k) (byt t k) (byt t (k + 1)) (byt t (k + 2)) (byt t (k + 3)) (by omega)
  have h2 := ru_cut ((t ++ p).size - k) (t.size - k) (byt t k) _ _ _ _ _ _ (by omega) (by omega) (by rw [h1]; omega) (fun q => (a1 q).symm) (fun q => (a2 q).symm) (fun q => (a3 q).symm)
  unfold pSt pRu
  rw [hb k hk]
  exact ⟨h1, h2.symm⟩
/-- The pieces that are sure are pieces of what is longer. -/
theorem more_is (t p : ByteArray) (e : Nat) (he : e ≤ t.size) : ∀ (pre : List Nat) (k : Nat), k ≤ e → posAt t k = pre ++ posAt t e → (∀ j ∈ pre, un t j = false) → posAt (t ++ p) k = pre ++ posAt (t ++ p) e ∧ ∀ j ∈ pre, j < t.size ∧ pSt (t ++ p) j = pSt t j ∧ pRu (t ++ p) j = pRu t j
  | [], k, hk, h, _ => by
    have : k = e := by
      by_cases hlt : k < t.size
      · rw [posAt_cons t k hlt] at h
        have hm : k ∈ posAt t e := by rw [List.nil_append] at h; rw [← h]; simp
        have := posAt_ge t _ e (Nat.le_refl _) k hm
        omega
      · omega
    subst this
    simp
  | a :: pre, k, hk, h, hun => by
    have hs : (t ++ p).size = t.size + p.size := by simp
    have hlt : k < t.size := by
      by_cases hlt : k < t.size
      · exact hlt
      · rw [posAt_nil t k hlt] at h; simp at h
    rw [posAt_cons t k hlt, List.cons_append] at h
    obtain ⟨rfl, h'⟩ := List.cons.inj h
    have hle : k + pSt t k ≤ e := by
      by_cases hes : e < t.size
      · have hm : e ∈ posAt t (k + pSt t k) := by rw [h', posAt_cons t e hes]; simp
        exact (posAt_ge t _ _ (Nat.le_refl _) e hm).1
      · have := pSt_le t k hlt
        omega
    obtain ⟨q1, q2⟩ := piece_more t p k hlt (hun k (by simp))
    obtain ⟨i1, i2⟩ := more_is t p e he pre (k + pSt t k) hle h' (fun j hj => hun j (by simp [hj]))
    rw [posAt_cons (t ++ p) k (by omega), q1, i1]
    refine ⟨rfl, fun j hj => ?_⟩
    rcases List.mem_cons.1 hj with rfl | hj
    · exact ⟨hlt, q1, q2⟩
    · exact i2 j hj
/-- Where the text that is held back begins; the pieces ahead of it; what they say. -/
def ct (t : ByteArray) : Nat := ((poss t).find? (un t)).getD t.size
def pr (t : ByteArray) : List Nat := (poss t).takeWhile fun k => !un t k
def sn (t : ByteArray) : List Int := (pr t).map fun k => (pRu t k : Int)
def su (t : ByteArray) : ByteArray := t.extract 0 (ct t)
def hd (t : ByteArray) : ByteArray := t.extract (ct t) t.size
theorem pr_un (t : ByteArray) : ∀ j ∈ pr t, un t j = false := fun j hj => by
  have := tw_ok (fun k => !un t k) (poss t) j hj
  simpa using this
/-- The two ways that a text can end. -/
theorem ct_cases (t : ByteArray) : (ct t = t.size ∧ pr t = poss t ∧ (∀ k ∈ poss t, un t k = false)) ∨ (ct t < t.size ∧ un t (ct t) = true ∧ poss t = pr t ++ [ct t] ∧ posAt t (ct t) = [ct t]) := by
  cases hf : (poss t).find? (un t) with
  | none =>
    left
    have h := List.find?_eq_none.1 hf
    refine ⟨by unfold ct; rw [hf]; rfl, ?_, fun k hk => by simpa using h k hk⟩
    have := take_all (fun k => !un t k) (poss t) [] (fun x hx => by simpa using h x hx) (fun x l e => by cases e)
    rwa [List.append_nil] at this
  | some k =>
    right
    obtain ⟨hk, qa, qb, e, hall⟩ := List.find?_eq_some_iff_append.1 hf
    have hct : ct t = k := by unfold ct; rw [hf]; rfl
    have hks : k < t.size := (posAt_ge t _ 0 (Nat.le_refl _) k (by show k ∈ poss t; rw [e]; simp)).2
    have hpr : pr t = qa := by
      unfold pr
      rw [e]
      exact take_all (fun k => !un t k) qa (k :: qb) (fun x hx => hall x hx) (fun x l q => by
        obtain ⟨rfl, _⟩ := List.cons.inj q
        simp [hk])
    obtain ⟨e1, e2⟩ := end_next t qa 0 (k :: qb) (Nat.zero_le _) e
    have hlt : endFrom t 0 qa < t.size := by
      by_cases q : endFrom t 0 qa < t.size
      · exact q
      · rw [posAt_nil t _ q] at e1; cases e1
    have e3 := e1
    rw [posAt_cons t _ hlt] at e3
    obtain ⟨e4, e5⟩ := List.cons.inj e3
    rw [← e4] at e1 e5
    have hu := (un_is t k hks).1 hk
    rw [posAt_nil t _ (by omega)] at e5
    rw [hct, hpr]
    exact ⟨hks, hk, by rw [e, e5], by rw [← e1, e5]⟩
theorem ct_le (t : ByteArray) : ct t ≤ t.size := by
  rcases ct_cases t with h | h <;> omega
theorem pr_app (t : ByteArray) : poss t = pr t ++ posAt t (ct t) := by
  rcases ct_cases t with ⟨h1, h2, _⟩ | ⟨_, _, h3, h4⟩
  · rw [h1, posAt_nil t _ (by omega), h2, List.append_nil]
  · rw [h4]; exact h3
theorem su_size (t : ByteArray) : (su t).size = ct t := by have := ct_le t; unfold su; simp; omega
theorem hd_size (t : ByteArray) : (hd t).size = t.size - ct t := by unfold hd; simp
theorem su_hd (t : ByteArray) : su t ++ hd t = t := by
  unfold su hd
  rw [ByteArray.extract_append_extract]
  have := ct_le t
  rw [show min 0 (ct t) = 0 by omega, show max (ct t) t.size = t.size by omega]
  exact ByteArray.extract_zero_size
/-- What is sure is what its text says. -/
theorem nums_su (t : ByteArray) : nums (su t) = sn t := by
  obtain ⟨h1, h2⟩ := front_is t (ct t) (ct_le t) (pr t) 0 (Nat.zero_le _) (pr_app t)
  unfold nums sn
  have e : poss (su t) = pr t := h1
  rw [e]
  exact List.map_congr_left fun j hj => by rw [show pRu (su t) j = pRu t j from h2 j hj]
theorem wrong_un (t : ByteArray) (k : Nat) (hk : k < t.size) (h : un t k = true) : pWr t k = true := by
  have := (un_is t k hk).1 h
  unfold pWr
  rw [wr_iff]
  show pSt t k ≠ szN (byt t k)
  omega
/-- What the held back text says at the end. -/
def rest (t : ByteArray) : List Int := if ct t < t.size then [65533] else []
/-- All in all. -/
theorem out_all (t : ByteArray) : nums t = sn t ++ rest t := by
  unfold nums sn rest
  rcases ct_cases t with ⟨h1, h2, _⟩ | ⟨h1, h2, h3, _⟩
  · rw [h2, if_neg (by omega), List.append_nil]
  · have e := pRu_wrong t _ (wrong_un t _ h1 h2)
    rw [if_pos h1, h3, List.map_append, List.map_cons, List.map_nil, e]
    rfl
theorem cut_front (t p : ByteArray) : (t ++ p).extract 0 (ct t) = su t := by
  have hs : (t ++ p).size = t.size + p.size := by simp
  have hc := ct_le t
  have hz := su_size t
  refine text_ext _ _ (by simp; omega) fun j hj => ?_
  have hj' : j < ct t := by simp at hj; omega
  rw [byt_front _ _ _ (by omega) hj', byt_app, if_pos (by omega)]
  exact (byt_front t _ _ hc hj').symm
theorem cut_behind (t p : ByteArray) : (t ++ p).extract (ct t) (t ++ p).size = hd t ++ p := by
  have hs : (t ++ p).size = t.size + p.size := by simp
  have hc := ct_le t
  have hz := hd_size t
  have hs2 : (hd t ++ p).size = (hd t).size + p.size := by simp
  refine text_ext _ _ (by simp; omega) fun j _ => ?_
  rw [byt_tail, byt_app, byt_app]
  by_cases c : ct t + j < t.size
  · rw [if_pos c, if_pos (by omega)]
    exact (byt_tail t _ _).symm
  · rw [if_neg c, if_neg (by omega)]
    congr 1
    omega
/-- The pieces behind a cut, where they lie. -/
theorem behind_at (s : ByteArray) (e : Nat) (he : e ≤ s.size) : ∀ (m j : Nat), s.size - (e + j) ≤ m → posAt s (e + j) = (posAt (s.extract e s.size) j).map fun i => e + i
  | 0, j, h => by
    have hz : (s.extract e s.size).size = s.size - e := by simp
    rw [posAt_nil s _ (by omega), posAt_nil _ j (by omega)]
    rfl
  | m + 1, j, h => by
    have hz : (s.extract e s.size).size = s.size - e := by simp
    by_cases hk : e + j < s.size
    · obtain ⟨q1, _⟩ := piece_behind s e j (by omega)
      have hp := pSt_le s (e + j) hk
      have ih := behind_at s e he m (j + pSt s (e + j)) (by omega)
      rw [← Nat.add_assoc] at ih
      rw [posAt_cons s (e + j) hk, posAt_cons _ j (by omega), q1, ih, List.map_cons]
    · rw [posAt_nil s _ hk, posAt_nil _ j (by omega)]
      rfl
theorem un_behind (s : ByteArray) (e j : Nat) : un (s.extract e s.size) j = un s (e + j) := by
  have hz : (s.extract e s.size).size - j = s.size - (e + j) := by simp; omega
  unfold un
  rw [hz, byt_tail, byt_tail, byt_tail]
  simp only [Nat.add_assoc]
theorem tw_map {α β : Type} (f : α → β) (q : β → Bool) : ∀ l : List α, (l.map f).takeWhile q = (l.takeWhile fun x => q (f x)).map f
  | [] => rfl
  | a :: l => by
    rw [List.map_cons, List.takeWhile_cons, List.takeWhile_cons, tw_map f q l]
    split <;> rfl
theorem tw_app {α : Type} (q : α → Bool) : ∀ (p r : List α), (∀ x ∈ p, q x = true) → (p ++ r).takeWhile q = p ++ r.takeWhile q
  | [], r, _ => rfl
  | a :: p, r, h => by rw [List.cons_append, List.takeWhile_cons, h a (by simp), if_pos rfl, tw_app q p r (fun x hx => h x (by simp [hx])), List.cons_append]
/-- How the pieces move on with a text more. -/
theorem next_poss (t p : ByteArray) : poss (t ++ p) = pr t ++ (poss (hd t ++ p)).map (fun i => ct t + i) ∧ (∀ j ∈ pr t, un (t ++ p) j = false ∧ pRu (t ++ p) j = pRu t j) ∧ (∀ i, un (t ++ p) (ct t + i) = un (hd t ++ p) i) ∧ (∀ i, i ≤ (hd t ++ p).size → pRu (t ++ p) (ct t + i) = pRu (hd t ++ p) i) := by
  have hs : (t ++ p).size = t.size + p.size := by simp
  have hc := ct_le t
  have hz := hd_size t
  have hs2 : (hd t ++ p).size = (hd t).size + p.size := by simp
  obtain ⟨h1, h2⟩ := more_is t p (ct t) hc (pr t) 0 (Nat.zero_le _) (pr_app t) (pr_un t)
  have hb := behind_at (t ++ p) (ct t) (by omega) _ 0 (Nat.le_refl _)
  rw [Nat.add_zero, cut_behind] at hb
  have hu : ∀ i, un (t ++ p) (ct t + i) = un (hd t ++ p) i := fun i => by rw [← cut_behind, un_behind]
  refine ⟨by rw [hb] at h1; exact h1, fun j hj => ⟨?_, (h2 j hj).2.2⟩, hu, fun i hi => ?_⟩
  · obtain ⟨q1, q2, _⟩ := h2 j hj
    have hn := pr_un t j hj
    cases hq : un (t ++ p) j
    · rfl
    · have h3 := (un_is (t ++ p) j (by omega)).1 hq
      have hp := pSt_le t j q1
      have hby : byt (t ++ p) j = byt t j := by rw [byt_app, if_pos q1]
      rw [q2, hby] at h3
      have := (un_is t j q1).2 ⟨by omega, h3.2⟩
      rw [hn] at this
      cases this
  · have := (piece_behind (t ++ p) (ct t) i (by omega)).2
    rw [cut_behind] at this
    exact this.symm
theorem next_pr (t p : ByteArray) : pr (t ++ p) = pr t ++ (pr (hd t ++ p)).map (fun i => ct t + i) := by
  obtain ⟨h1, h2, h3, _⟩ := next_poss t p
  have e : pr (t ++ p) = (pr t ++ (poss (hd t ++ p)).map (fun i => ct t + i)).takeWhile (fun k => !un (t ++ p) k) := by rw [← h1]; rfl
  have e2 : pr (hd t ++ p) = (poss (hd t ++ p)).takeWhile (fun i => !un (t ++ p) (ct t + i)) := by simp only [h3]; rfl
  rw [e, e2, tw_app (fun k => !un (t ++ p) k) (pr t) _ (fun x hx => by rw [(h2 x hx).1]; rfl), tw_map]
/-- What comes out when a text more comes. -/
theorem next_sn (t p : ByteArray) : sn (t ++ p) = sn t ++ sn (hd t ++ p) := by
  obtain ⟨_, h2, _, h4⟩ := next_poss t p
  have hp := next_pr t p
  have hm : ∀ j ∈ pr (hd t ++ p), j ≤ (hd t ++ p).size := fun j hj => by
    have hm : j ∈ poss (hd t ++ p) := List.takeWhile_subset (fun k => !un (hd t ++ p) k) hj
    exact Nat.le_of_lt (posAt_ge (hd t ++ p) (hd t ++ p).size 0 (by omega) j hm).2
  generalize hd t ++ p = h at *
  generalize t ++ p = T at *
  generalize ct t = c at *
  have a1 : (pr t).map (fun k => (pRu T k : Int)) = sn t := List.map_congr_left fun j hj => by rw [(h2 j hj).2]
  have a2 : ((pr h).map (fun i => c + i)).map (fun k => (pRu T k : Int)) = sn h := by
    rw [List.map_map]
    refine List.map_congr_left fun j hj => ?_
    show ((pRu T (c + j) : Nat) : Int) = _
    rw [h4 j (hm j hj)]
  unfold sn at a1 a2 ⊢
  rw [hp, List.map_append, a1, a2]
theorem next_ct (t p : ByteArray) : ct (t ++ p) = ct t + ct (hd t ++ p) := by
  obtain ⟨h1, h2, h3, _⟩ := next_poss t p
  have hs : (t ++ p).size = t.size + p.size := by simp
  have hc := ct_le t
  have hz := hd_size t
  have hs2 : (hd t ++ p).size = (hd t).size + p.size := by simp
  unfold ct
  rw [h1, List.find?_append, List.find?_eq_none.2 (fun x hx => by simp [(h2 x hx).1]), Option.none_or, List.find?_map]
  have e : (un (t ++ p) ∘ fun i => ct t + i) = un (hd t ++ p) := funext h3
  rw [e]
  cases (poss (hd t ++ p)).find? (un (hd t ++ p)) with
  | none =>
    show (t ++ p).size = ct t + (hd t ++ p).size
    omega
  | some k => rfl
/-- What is held when a text more comes. -/
theorem next_hd (t p : ByteArray) : hd (t ++ p) = hd (hd t ++ p) := by
  have hs : (t ++ p).size = t.size + p.size := by simp
  have hc := ct_le t
  have hz := hd_size t
  have hs2 : (hd t ++ p).size = (hd t).size + p.size := by simp
  have hn := next_ct t p
  have hz1 := hd_size (t ++ p)
  have hz2 := hd_size (hd t ++ p)
  have hc2 := ct_le (hd t ++ p)
  refine text_ext _ _ (by omega) fun j _ => ?_
  have e1 : byt (hd (t ++ p)) j = byt (t ++ p) (ct (t ++ p) + j) := byt_tail _ _ _
  have e2 : byt (hd (hd t ++ p)) j = byt (hd t ++ p) (ct (hd t ++ p) + j) := byt_tail _ _ _
  rw [e1, e2, hn, ← cut_behind t p, byt_tail, Nat.add_assoc]
theorem hd_le (t : ByteArray) : (hd t).size ≤ 3 := by
  rw [hd_size]
  rcases ct_cases t with h | ⟨h1, h2, _, _⟩
  · omega
  · have := (un_is t _ h1).1 h2
    have h4 : szN (byt t (ct t)) ≤ 4 := by rcases sz_cases (byt t (ct t)) with ⟨_, e⟩ | ⟨_, _, e⟩ | ⟨_, _, e⟩ | ⟨_, _, e⟩ | ⟨_, e⟩ <;> omega
    omega
theorem pr_len (t : ByteArray) : (pr t).length ≤ t.size := by
  have h1 := posAt_len t t.size 0 (by omega)
  have h2 : (pr t).length ≤ (poss t).length := List.Sublist.length_le (List.takeWhile_sublist _)
  exact Nat.le_trans h2 h1
theorem sn_len (t : ByteArray) : (sn t).length ≤ t.size := by unfold sn; rw [List.length_map]; exact pr_len t
end Go.Proofs.YtabofadjnbpjkabDoor
