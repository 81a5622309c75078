/-
  Of texts: what was written says the list; what can't be written says nothing.
-/
import Derived.Test.YtahmeejcgddlhabRc
import Derived.Laws.BytesArg
namespace Go.Proofs.Ytahmeejcgddlhab
open Go.RowKit
theorem lix_eq (s : ByteArray) (c : Int) (k : Nat) : ∀ n, k < n → (byt s k : Int) = c → (∀ j, k < j → j < n → (byt s j : Int) ≠ c) → lix s c n = (k : Int)
  | 0, h, _, _ => by omega
  | n + 1, h, h1, h2 => by
    rw [lix]
    by_cases d : n = k
    · subst d; rw [if_pos h1]
    · rw [if_neg (h2 n (by omega) (by omega)), lix_eq s c k n (by omega) h1 fun j a b => h2 j a (by omega)]
theorem lix_none (s : ByteArray) (c : Int) : ∀ n, (∀ j, j < n → (byt s j : Int) ≠ c) → lix s c n = -1
  | 0, _ => rfl
  | n + 1, h => by rw [lix, if_neg (h n (by omega)), lix_none s c n fun j hj => h j (by omega)]
/-- Where digits begin behind so many basic ones. -/
def offN (B : List Int) : Nat := if B = [] then 0 else B.length + 1
/-- A text that has these basic ones and digits that say the same as these. -/
structure Txt (p : Bt) (s : ByteArray) (B D : List Int) : Prop where
  size : s.size = offN B + D.length
  ahead : ∀ j, j < B.length → (byt s j : Int) = B.getD j 0
  btw : B ≠ [] → (byt s B.length : Int) = p.btw
  digs : ∀ j, j < D.length → (byt s (offN B + j) : Int) ≠ p.btw
  says : ∀ j, j < D.length → dgTo p.base (byt s (offN B + j)) = dgTo p.base (D.getD j 0)
theorem Txt.hdN {p : Bt} {s : ByteArray} {B D : List Int} (h : Txt p s B D) : hdN p s = B.length ∧ frN p s = offN B := by
  have hz := h.size
  have hd := h.digs
  have e : Go.Proofs.Ytahmeejcgddlhab.hdN p s = B.length := by
    unfold Go.Proofs.Ytahmeejcgddlhab.hdN
    unfold offN at hz hd
    by_cases c : B = []
    · rw [if_pos c] at hz hd
      rw [lix_none s p.btw s.size fun j hj => by have := hd j (by omega); rwa [Nat.zero_add] at this]
      subst c; rfl
    · rw [if_neg c] at hz hd
      rw [lix_eq s p.btw B.length s.size (by omega) (h.btw c) fun j a b => by have := hd (j - (B.length + 1)) (by omega); rwa [show B.length + 1 + (j - (B.length + 1)) = j by omega] at this]
      simp
  refine ⟨e, ?_⟩
  unfold frN offN
  rw [e]
  by_cases c : B = []
  · subst c; simp
  · have : 0 < B.length := List.length_pos_iff.2 c
    rw [if_pos this, if_neg c]
theorem Txt.ahd {p : Bt} {s : ByteArray} {B D : List Int} (h : Txt p s B D) : ahd s B.length = B := by
  unfold Go.Proofs.Ytahmeejcgddlhab.ahd
  apply List.ext_getElem (by simp)
  intro j h1 h2
  have := h.ahead j h2
  simp [this, List.getD_eq_getElem?_getD, h2]
theorem fbF_none (p : Bt) (s : ByteArray) : ∀ (f k : Nat), (∀ j, k ≤ j → j < k + f → (byt s j : Int) < p.first ∧ (byt s j : Int) < 128) → fbF p s f k = none
  | 0, _, _ => rfl
  | f + 1, k, h => by rw [fbF, if_pos (h k (by omega) (by omega)), fbF_none p s f (k + 1) fun j a b => h j (by omega) (by omega)]
theorem Txt.fbF {p : Bt} {s : ByteArray} {B D : List Int} (h : Txt p s B D) (hb : ∀ x ∈ B, isB p x = true) : fbF p s B.length 0 = none := by
  apply fbF_none
  intro j _ hj
  rw [Nat.zero_add] at hj
  rw [h.ahead j hj]
  have := hb (B.getD j 0) (by simp [List.getD_eq_getElem?_getD, hj])
  unfold isB at this
  simpa using this
theorem Txt.decS {p : Bt} {s : ByteArray} {B D : List Int} (h : Txt p s B D) (hb : ∀ x ∈ B, isB p x = true) : decS p s = finJ B (rdL p s D.length (offN B) p.first 0 p.bias B.length) := by
  obtain ⟨e1, e2⟩ := h.hdN
  rw [decS_fin p s (by rw [e1]; exact h.fbF hb), e1, e2, h.ahd, show s.size - offN B = D.length by have := h.size; omega]
theorem bsL_basic (p : Bt) (zs : List Int) (k : Nat) : ∀ x ∈ bsL p zs k, isB p x = true := fun x hx => by
  unfold bsL at hx
  exact (List.mem_filter.1 hx).2
/-- A text of what was written says the list. -/
theorem dec_back (p : Bt) (hp : Okb p) (s : ByteArray) (zs os D : List Int) (hc : ∀ j, j < zs.length → okC (zs.getD j 0)) (hs : SrtL (KZ zs) (osL p zs zs.length) os) (hv : ∀ j, j < zs.length → isB p (zs.getD j 0) = false → p.first ≤ zs.getD j 0) (h : Txt p s (bsL p zs zs.length) D) (he : encL p zs os p.first 0 p.bias (bsL p zs zs.length).length (mkB p zs zs.length) true = some D) : decS p s = .inr zs := by
  rw [h.decS (bsL_basic p zs _)]
  have e := rdL_encL p hp s zs hc os p.first 0 p.bias _ _ true (offN (bsL p zs zs.length)) D.length D he (EO.start p zs os hs hv) ⟨by rw [h.size]; exact Nat.le_refl _, h.says⟩ h.size.symm rfl (Nat.le_refl _)
  rw [e, finJ, back_list p zs os hs hv]
/-- A text of what can't be written says nothing. -/
theorem dec_bad (p : Bt) (hp : Okb p) (hl : 1 ≤ p.least) (s : ByteArray) (zs os D : List Int) (hc : ∀ j, j < zs.length → okC (zs.getD j 0)) (hs : SrtL (KZ zs) (osL p zs zs.length) os) (hv : ∀ j, j < zs.length → isB p (zs.getD j 0) = false → p.first ≤ zs.getD j 0) (h : Txt p s (bsL p zs zs.length) D) (he : encL p zs os p.first 0 p.bias (bsL p zs zs.length).length (mkB p zs zs.length) true = none) (hu : encU p zs os p.first 0 p.bias (bsL p zs zs.length).length (mkB p zs zs.length) true = some D) : ∃ a c, decS p s = .inl (a, c) := by
  rw [h.decS (bsL_basic p zs _)]
  obtain ⟨a, c, e⟩ := rdL_bad p hp hl s zs hc os p.first 0 p.bias _ _ true (offN (bsL p zs zs.length)) D.length D he hu (EO.start p zs os hs hv) ⟨by rw [h.size]; exact Nat.le_refl _, h.says⟩ h.size.symm rfl (Nat.le_refl _)
  rw [e]; exact ⟨a, c, rfl⟩
/-- Digits. -/
def isDg (p : Bt) (x : Int) : Prop := ∃ d, 0 ≤ d ∧ d < p.base ∧ x = ltr d
theorem numU_dg (p : Bt) (hp : Okb p) (hl : 1 ≤ p.least) (bias : Int) : ∀ (f : Nat) (q k : Int), 0 ≤ q → ∀ x ∈ numU p bias f q k, isDg p x
  | 0, _, _, _, x, hx => by simp [numU] at hx
  | f + 1, q, k, h0, x, hx => by
    have tb := thr_bound p hp k bias
    rw [numU] at hx
    obtain ⟨T, hT⟩ : ∃ T, thr p k bias = T := ⟨_, rfl⟩
    rw [hT] at hx tb
    by_cases c : q < T
    · rw [if_pos c] at hx
      simp at hx
      exact ⟨q, h0, by omega, hx⟩
    · rw [if_neg c] at hx
      obtain ⟨n1, n2, n3, n4, n5⟩ := num_step (b := p.base) (t := T) (q := q) tb.1 (by omega) (by omega)
      rcases List.mem_cons.1 hx with e | e
      · exact ⟨_, by omega, n2, e⟩
      · exact numU_dg p hp hl bias f _ _ n3 x e
theorem encU_dg (p : Bt) (hp : Okb p) (hl : 1 ≤ p.least) (zs : List Int) : ∀ (os : List Int) (n i bias : Int) (m : Nat) (mk : Nat → Bool) (first : Bool) (D : List Int), encU p zs os n i bias m mk first = some D → EO zs os n i m mk → ∀ x ∈ D, isDg p x
  | [], n, i, bias, m, mk, first, D, h, _, x, hx => by
    rw [encU] at h
    have e : D = [] := by simpa using h.symm
    subst e; simp at hx
  | y :: os, n, i, bias, m, mk, first, D, h, he, x, hx => by
    rw [encU] at h
    split at h
    · simp at h
    · cases hr : encU p zs os (KZ zs y) ((cnt mk y.toNat : Int) + 1) (adF p ((KZ zs y - n) * ((m + 1 : Nat) : Int) + (cnt mk y.toNat : Int) - i) ((m + 1 : Nat) : Int) first) (m + 1) (setB mk y.toNat true) false with
      | none => rw [hr] at h; simp at h
      | some D2 =>
        rw [hr] at h
        simp only [Option.map_some, Option.some.injEq] at h
        rw [← h] at hx
        rcases List.mem_append.1 hx with e | e
        · exact numU_dg p hp hl bias 32 _ _ (by have := he.next; omega) x e
        · exact encU_dg p hp hl zs os _ _ _ _ _ _ D2 hr he.step x e
theorem dg_range {p : Bt} {x : Int} (hp : Okb p) (h : isDg p x) : 48 ≤ x ∧ x < 128 := by
  obtain ⟨d, h0, h1, rfl⟩ := h
  have := hp.b2
  unfold ltr
  split <;> omega
/-- The text that is written. -/
def txL (p : Bt) (B D : List Int) : List Int := (if B = [] then [] else B ++ [p.btw]) ++ D
theorem str_byt (l : List Int) (j : Nat) (h : j < l.length) (hr : 0 ≤ l.getD j 0 ∧ l.getD j 0 < 256) : (byt (strOfNums l) j : Int) = l.getD j 0 := by
  unfold byt
  have e : (strOfNums l).get! j = UInt8.ofNat (l.getD j 0).toNat := by
    show (List.map (fun n : Int => UInt8.ofNat n.toNat) l).toArray[j]! = _
    rw [getElem!_pos _ j (by simpa using h)]
    simp [List.getD_eq_getElem?_getD, h]
  rw [e]
  generalize l.getD j 0 = X at *
  rw [UInt8.toNat_ofNat']
  omega
theorem isB_range {p : Bt} {x : Int} (h : isB p x = true) : x < 128 := by
  unfold isB at h
  simp at h; omega
theorem txt_any (p : Bt) (hp : Okb p) (hq : p.btw < 48) (B D : List Int) (hb : ∀ x ∈ B, isB p x = true ∧ 0 ≤ x) (hd : ∀ x ∈ D, isDg p x) : Txt p (strOfNums (txL p B D)) B D := by
  have hz : (txL p B D).length = offN B + D.length := by
    unfold txL offN
    by_cases c : B = []
    · rw [if_pos c, if_pos c]; simp
    · rw [if_neg c, if_neg c]; simp; omega
  have hB : ∀ j, j < B.length → (txL p B D).getD j 0 = B.getD j 0 := fun j hj => by
    have c : B ≠ [] := by intro e; subst e; simp at hj
    unfold txL
    rw [if_neg c]
    simp only [List.getD_eq_getElem?_getD]
    rw [List.getElem?_append_left (by simp; omega), List.getElem?_append_left hj]
  have hm : B ≠ [] → (txL p B D).getD B.length 0 = p.btw := fun c => by
    unfold txL
    rw [if_neg c]
    simp [List.getD_eq_getElem?_getD]
  have hD : ∀ j, j < D.length → (txL p B D).getD (offN B + j) 0 = D.getD j 0 := fun j hj => by
    unfold txL offN
    by_cases c : B = []
    · rw [if_pos c, if_pos c]; simp
    · rw [if_neg c, if_neg c]
      simp only [List.getD_eq_getElem?_getD]
      rw [List.getElem?_append_right (by simp)]
      congr 2
      simp
  have gB : ∀ j, j < B.length → B.getD j 0 ∈ B := fun j hj => by rw [List.getD_eq_getElem?_getD, List.getElem?_eq_getElem hj]; exact List.getElem_mem hj
  have gD : ∀ j, j < D.length → D.getD j 0 ∈ D := fun j hj => by simp [List.getD_eq_getElem?_getD, hj]
  have e2 : ∀ j, j < D.length → (byt (strOfNums (txL p B D)) (offN B + j) : Int) = D.getD j 0 := fun j hj => by
    have r := dg_range hp (hd _ (gD j hj))
    rw [str_byt _ _ (by omega) (by rw [hD j hj]; omega), hD j hj]
  have ho : B ≠ [] → offN B = B.length + 1 := fun c => by unfold offN; rw [if_neg c]
  refine ⟨by rw [strOfNums_size, hz], fun j hj => ?_, fun c => ?_, fun j hj => ?_, fun j hj => by rw [e2 j hj]⟩
  · have c : B ≠ [] := by intro e; subst e; simp at hj
    have r := hb _ (gB j hj)
    have r2 := isB_range r.1
    have := ho c
    rw [str_byt _ _ (by omega) (by rw [hB j hj]; omega), hB j hj]
  · have := ho c
    have := hp.t1
    rw [str_byt _ _ (by omega) (by rw [hm c]; omega), hm c]
  · have r := dg_range hp (hd _ (gD j hj))
    rw [e2 j hj]; omega
end Go.Proofs.Ytahmeejcgddlhab
