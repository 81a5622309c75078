/-
  What was read is written with the same digits; what is decoded is encoded to the same text.
-/
import Derived.Test.YtahmeejcgddlhaaRj
import Derived.Deep.DeepMust
namespace Go.Proofs.Ytahmeejcgddlhaa
open Go.RowKit
/-- A letter made small. -/
def low (c : Int) : Int := if 65 ≤ c ∧ c ≤ 90 then c + 32 else c
theorem ltr_dg (c : Int) (h : 0 ≤ dg c) : ltr (dg c) = low c := by
  unfold dg at h ⊢
  unfold ltr low
  by_cases c1 : 97 ≤ c ∧ c ≤ 122
  · rw [if_pos c1, if_pos (by omega), if_neg (by omega)]; omega
  · rw [if_neg c1] at h ⊢
    by_cases c2 : 65 ≤ c ∧ c ≤ 90
    · rw [if_pos c2, if_pos (by omega), if_pos c2]; omega
    · rw [if_neg c2] at h ⊢
      by_cases c3 : 48 ≤ c ∧ c ≤ 57
      · rw [if_pos c3, if_neg (by omega), if_neg c2]; omega
      · rw [if_neg c3] at h; omega
theorem dgTo_pos {b c : Int} (h : 0 ≤ dgTo b c) : dgTo b c = dg c := by
  unfold dgTo at h ⊢
  split
  · rfl
  · rename_i q; rw [if_neg q] at h; omega
/-- A number that was read is written with the same digits, in small letters. -/
theorem numF_rdN (p : Bt) (hp : Okb p) (s : ByteArray) (bias : Int) : ∀ (f g at_ : Nat) (i w k X : Int) (last : Nat), rdN p s bias f at_ i w k = .inr (X, last) → 1 ≤ w → w ≤ 2147483647 → 2147483647 < w * 2 ^ g → ∃ q ds, X = i + q * w ∧ 0 ≤ q ∧ numF p bias g q w k = some ds ∧ at_ + ds.length = last + 1 ∧ ∀ j, j < ds.length → ds.getD j 0 = low (byt s (at_ + j))
  | 0, _, _, _, _, _, _, _, h, _, _, _ => by simp [rdN] at h
  | f + 1, 0, at_, i, w, k, X, last, h, h1, h2, h3 => by simp at h3; omega
  | f + 1, g + 1, at_, i, w, k, X, last, h, h1, h2, h3 => by
    have tb := thr_bound p hp k bias
    have hdb := (dgTo_bound p.base (byt s at_) (by have := hp.b1; omega)).2.2
    rw [rdN] at h
    obtain ⟨T, hT⟩ : ∃ T, thr p k bias = T := ⟨_, rfl⟩
    rw [hT] at h tb
    obtain ⟨d, hd⟩ : ∃ d, dgTo p.base (byt s at_ : Int) = d := ⟨_, rfl⟩
    rw [hd] at h hdb
    by_cases c1 : d < 0
    · rw [if_pos c1] at h; simp at h
    rw [if_neg c1] at h
    have hdg : dg (byt s at_ : Int) = d := by rw [← hd]; exact (dgTo_pos (by omega)).symm
    have hlt : ltr d = low (byt s at_) := by rw [← hdg]; exact ltr_dg _ (by omega)
    by_cases c2 : 2147483647 < i + d * w
    · rw [if_pos c2] at h; simp at h
    rw [if_neg c2] at h
    by_cases c3 : d < T
    · rw [if_pos c3] at h
      simp at h
      obtain ⟨rfl, rfl⟩ := h
      refine ⟨d, [ltr d], rfl, by omega, by rw [numF, hT, if_pos c3], rfl, fun j hj => ?_⟩
      have : j = 0 := by simpa using hj
      subst this
      simpa using hlt
    rw [if_neg c3] at h
    by_cases c4 : 2147483647 < w * (p.base - T)
    · rw [if_pos c4] at h; simp at h
    rw [if_neg c4] at h
    have w2 : 1 * 1 ≤ w * (p.base - T) := Int.mul_le_mul h1 (by omega) (by omega) (by omega)
    have w3 : 2147483647 < w * (p.base - T) * 2 ^ g := by
      rw [Int.pow_succ] at h3
      have e1 : w * (p.base - T) * 2 ^ g = w * ((p.base - T) * 2 ^ g) := Int.mul_assoc _ _ _
      have e2 : w * (2 ^ g * 2) ≤ w * ((p.base - T) * 2 ^ g) := Int.mul_le_mul_of_nonneg_left (by rw [Int.mul_comm]; exact Int.mul_le_mul_of_nonneg_right (by omega) (Int.pow_nonneg (by decide))) (by omega)
      omega
    obtain ⟨q, ds, r1, r2, r3, r4, r5⟩ := numF_rdN p hp s bias f g (at_ + 1) (i + d * w) (w * (p.base - T)) (k + p.base) X last h (by omega) (by omega) w3
    have hR : 0 < p.base - T := by omega
    have hq0 : 0 ≤ q * (p.base - T) := Int.mul_nonneg r2 (by omega)
    have e1 : (d + q * (p.base - T) - T) / (p.base - T) = q := by
      rw [show d + q * (p.base - T) - T = (d - T) + q * (p.base - T) by omega, Int.add_mul_ediv_right _ _ (by omega), Int.ediv_eq_zero_of_lt (by omega) (by omega)]; omega
    have e2 : (d + q * (p.base - T) - T) % (p.base - T) = d - T := by
      rw [show d + q * (p.base - T) - T = (d - T) + q * (p.base - T) by omega, Int.add_mul_emod_self_right, Int.emod_eq_of_lt (by omega) (by omega)]
    refine ⟨d + q * (p.base - T), ltr d :: ds, ?_, by omega, ?_, by simp; omega, fun j hj => ?_⟩
    · have := mul_shift d q w (p.base - T)
      omega
    · rw [numF, hT, if_neg (by omega), if_neg c4, e1, e2, show T + (d - T) = d by omega, r3]; rfl
    · cases j with
      | zero => simpa using hlt
      | succ j =>
        have := r5 j (by simpa using hj)
        rw [show at_ + (j + 1) = at_ + 1 + j by omega]
        simpa using this
/-- Where what is put in stands in the end. -/
def Chn (L : List Int) : (Nat → Bool) → List Int → List (Int × Nat) → Prop
  | mk, [], [] => mk = fun j => decide (j < L.length)
  | mk, x :: xs, (c, q) :: ps => 0 ≤ x ∧ x < (L.length : Int) ∧ mk x.toNat = false ∧ cnt mk x.toNat = q ∧ KZ L x = c ∧ Chn L (setB mk x.toNat true) xs ps
  | _, _, _ => False
theorem sel_at (zs : List Int) (mk : Nat → Bool) (r : Nat) (h : mk r = true) : ∀ n, r < n → (sel zs mk n).getD (cnt mk r) 0 = zs.getD r 0
  | 0, hr => by omega
  | n + 1, hr => by
    rw [sel_succ]
    by_cases c : r = n
    · subst c
      rw [if_pos h, List.getD_eq_getElem?_getD, List.getElem?_append_right (by rw [sel_len]; exact Nat.le_refl _), sel_len, Nat.sub_self]; rfl
    · have hlt : cnt mk r < (sel zs mk n).length := by
        rw [sel_len]
        have := cnt_mono mk (show r + 1 ≤ n by omega)
        rw [cnt, if_pos h] at this
        omega
      rw [List.getD_eq_getElem?_getD, List.getElem?_append_left hlt, ← List.getD_eq_getElem?_getD]
      exact sel_at zs mk r h n (by omega)
theorem posits : ∀ (ps : List (Int × Nat)) (A : List Int), OkP A.length ps → ∃ mk xs, Chn (insAll A ps) mk xs ps ∧ sel (insAll A ps) mk (insAll A ps).length = A ∧ (∀ j, (insAll A ps).length ≤ j → mk j = false)
  | [], A, _ => ⟨fun j => decide (j < A.length), [], rfl, sel_all A _ fun j hj => decide_eq_true hj, fun j hj => decide_eq_false (by have : A.length ≤ j := hj; omega)⟩
  | (c, q) :: ps, A, hok => by
    have hq : q ≤ A.length := hok.1
    have hl : (A.insertIdx q c).length = A.length + 1 := len_ins A q c hq
    obtain ⟨mk, xs, h1, h2, h3⟩ := posits ps (A.insertIdx q c) (by rw [hl]; exact hok.2)
    have e : insAll A ((c, q) :: ps) = insAll (A.insertIdx q c) ps := rfl
    rw [e]
    generalize insAll (A.insertIdx q c) ps = L at *
    have hcn : cnt mk L.length = A.length + 1 := by rw [← sel_len L mk, h2, hl]
    obtain ⟨r, r1, r2, r3, -⟩ := mark_at mk L.length q (by omega)
    have hset : setB (setB mk r false) r true = mk := by
      funext j
      unfold setB
      by_cases c : j = r
      · subst c; rw [if_pos rfl, r2]
      · rw [if_neg c, if_neg c]
    have hoff : setB mk r false r = false := by unfold setB; rw [if_pos rfl]
    have hclow : cnt (setB mk r false) r = q := by rw [cnt_set_low mk r false r (Nat.le_refl _), r3]
    have hLr : L.getD r 0 = c := by
      have := sel_at L mk r r2 L.length r1
      rw [h2, r3, getD_ins A q q c hq, if_neg (by omega), if_pos rfl] at this
      exact this.symm
    refine ⟨setB mk r false, (r : Int) :: xs, ⟨by omega, by omega, by rw [Int.toNat_natCast]; exact hoff, by rw [Int.toNat_natCast]; exact hclow, by unfold KZ; rw [Int.toNat_natCast]; exact hLr, by rw [Int.toNat_natCast, hset]; exact h1⟩, ?_, fun j hj => by unfold setB; rw [if_neg (by omega)]; exact h3 j hj⟩
    have hi := sel_ins L (setB mk r false) r hoff L.length r1
    rw [hclow, hLr, hset, h2] at hi
    have := congrArg (fun l => l.eraseIdx q) hi
    simpa using this
/-- What is read, as what is written. -/
theorem encL_rdL (p : Bt) (hp : Okb p) (s : ByteArray) (L : List Int) : ∀ (xs : List Int) (ps : List (Int × Nat)) (f at_ : Nat) (n i bias : Int) (m : Nat) (mk : Nat → Bool) (first : Bool), rdL p s f at_ n i bias m = .inr ps → Chn L mk xs ps → cnt mk L.length = m → first = (i == 0) → at_ ≤ s.size → s.size ≤ at_ + f → 0 ≤ i → p.first ≤ n →
    (∃ D, encL p L xs n i bias m mk first = some D ∧ at_ + D.length = s.size ∧ ∀ j, j < D.length → D.getD j 0 = low (byt s (at_ + j))) ∧ xs.Pairwise (LT (KZ L)) ∧ ∀ x ∈ xs, n ≤ KZ L x ∧ (KZ L x = n → i ≤ (cnt mk x.toNat : Int)) ∧ KZ L x ≤ 1114111 ∧ ¬ (55296 ≤ KZ L x ∧ KZ L x ≤ 57343) ∧ 0 ≤ x ∧ x < (L.length : Int)
  | [], [], f, at_, n, i, bias, m, mk, first, h, _, _, _, ha, hf, _, _ => by
    have hz : at_ = s.size := by
      cases f with
      | zero => omega
      | succ f =>
        rw [rdL] at h
        by_cases c : s.size ≤ at_
        · omega
        · rw [if_neg c] at h
          split at h
          · simp at h
          · split at h
            · simp at h
            · split at h
              · simp at h
              · split at h <;> simp at h
    exact ⟨⟨[], rfl, by simpa using hz, fun j hj => by simp at hj⟩, .nil, fun x hx => by simp at hx⟩
  | [], (c, q) :: ps, _, _, _, _, _, _, _, _, _, hc, _, _, _, _, _, _ => by simp [Chn] at hc
  | x :: xs, [], _, _, _, _, _, _, _, _, _, hc, _, _, _, _, _, _ => by simp [Chn] at hc
  | x :: xs, (c, q) :: ps, 0, at_, n, i, bias, m, mk, first, h, _, _, _, _, _, _, _ => by simp [rdL] at h
  | x :: xs, (c, q) :: ps, f + 1, at_, n, i, bias, m, mk, first, h, hc, hm, hfi, ha, hf, hi, hn => by
    obtain ⟨x0, x1, x2, x3, x4, x5⟩ := hc
    rw [rdL] at h
    by_cases cz : s.size ≤ at_
    · rw [if_pos cz] at h; simp at h
    rw [if_neg cz] at h
    cases hr : rdN p s bias (s.size - at_) at_ i 1 p.base with
    | inl e => rw [hr] at h; simp at h
    | inr r =>
      obtain ⟨X, last⟩ := r
      have hk := rdN_ok p s bias _ _ _ _ _ _ _ hr (by omega) (by omega)
      obtain ⟨Q, ds, q1, q2, q3, q4, q5⟩ := numF_rdN p hp s bias _ 31 _ _ _ _ _ _ hr (by omega) (by omega) (by decide)
      have hQ : X - i = Q := by omega
      rw [hr] at h
      simp only at h
      have hx0 : 0 ≤ X := by omega
      have hdm := Int.mul_ediv_add_emod X ((m + 1 : Nat) : Int)
      have hcm : ((m + 1 : Nat) : Int) * (X / ((m + 1 : Nat) : Int)) = (X / ((m + 1 : Nat) : Int)) * ((m + 1 : Nat) : Int) := Int.mul_comm _ _
      have hq0 := Int.ediv_nonneg hx0 (show 0 ≤ ((m + 1 : Nat) : Int) by omega)
      have hm0 := Int.emod_nonneg X (show ((m + 1 : Nat) : Int) ≠ 0 by omega)
      have hm1 := Int.emod_lt_of_pos X (show 0 < ((m + 1 : Nat) : Int) by omega)
      have hze : X / ((m + 1 : Nat) : Int) = 0 → X % ((m + 1 : Nat) : Int) = X := fun e => by rw [e] at hdm; omega
      obtain ⟨U, hU⟩ : ∃ U, X / ((m + 1 : Nat) : Int) = U := ⟨_, rfl⟩
      obtain ⟨V, hV⟩ : ∃ V, X % ((m + 1 : Nat) : Int) = V := ⟨_, rfl⟩
      simp only [hU, hV] at h hdm hcm hq0 hm0 hm1 hze
      by_cases c1 : 1114111 < n + U
      · rw [if_pos c1] at h; simp at h
      rw [if_neg c1] at h
      by_cases c2 : 55296 ≤ n + U ∧ n + U ≤ 57343
      · rw [if_pos c2] at h; simp at h
      rw [if_neg c2] at h
      cases hl : rdL p s f (last + 1) (n + U) (V + 1) (adF p (X - i) ((m + 1 : Nat) : Int) (i == 0)) (m + 1) with
      | inl e => rw [hl] at h; simp at h
      | inr l =>
        rw [hl] at h
        simp at h
        obtain ⟨⟨rfl, rfl⟩, rfl⟩ := h
        have hcn : cnt (setB mk x.toNat true) L.length = m + 1 := by rw [cnt_set_on mk _ x2 _ (by omega), hm]
        obtain ⟨⟨D, d1, d2, d3⟩, hpw, hal⟩ := encL_rdL p hp s L xs l f (last + 1) (n + U) (V + 1) (adF p (X - i) ((m + 1 : Nat) : Int) (i == 0)) (m + 1) _ false hl x5 hcn (by symm; simp; omega) (by omega) (by omega) (by omega) (by omega)
        have hcx : (cnt mk x.toNat : Int) = V := by rw [x3]; omega
        refine ⟨⟨ds ++ D, ?_, by rw [List.length_append]; omega, fun j hj => ?_⟩, List.pairwise_cons.2 ⟨fun y hy => ?_, hpw⟩, fun y hy => ?_⟩
        · have eN : (n + U - n) * ((m + 1 : Nat) : Int) + V = X := by rw [show n + U - n = U by omega]; omega
          rw [encL, x4, hcx, eN, if_neg (by omega), hQ, q3]
          simp only
          rw [← hQ, hfi, d1]; rfl
        · by_cases c3 : j < ds.length
          · rw [← q5 j c3]
            simp [List.getD_eq_getElem?_getD, List.getElem?_append_left c3]
          · have := d3 (j - ds.length) (by rw [List.length_append] at hj; omega)
            rw [show at_ + j = last + 1 + (j - ds.length) by omega, ← this]
            simp only [List.getD_eq_getElem?_getD]
            rw [List.getElem?_append_right (by omega)]
        · obtain ⟨y1, y2, -, -, y3, y4⟩ := hal y hy
          unfold LT
          rw [x4]
          by_cases e : KZ L y = n + U
          · right
            refine ⟨e.symm, ?_⟩
            have h1 := y2 e
            by_cases hlt : x < y
            · exact hlt
            · exfalso
              rw [cnt_set_low mk x.toNat true y.toNat (by omega)] at h1
              have := cnt_mono mk (show y.toNat ≤ x.toNat by omega)
              omega
          · left; omega
        · rcases List.mem_cons.1 hy with e | e
          · subst e
            rw [x4]
            refine ⟨by omega, fun e2 => ?_, by omega, c2, x0, x1⟩
            rw [hcx]
            have := hze (by omega)
            omega
          · obtain ⟨y1, y2, y3, y4, y5, y6⟩ := hal y e
            refine ⟨by omega, fun e2 => ?_, y3, y4, y5, y6⟩
            have h1 := y2 (by omega)
            have h2 := hze (by omega)
            have h3 : cnt (setB mk x.toNat true) y.toNat ≤ cnt mk y.toNat + 1 := by
              by_cases hle : y.toNat ≤ x.toNat
              · rw [cnt_set_low mk _ true _ hle]; omega
              · rw [cnt_set_on mk _ x2 _ (by omega)]; exact Nat.le_refl _
            omega
/-- A text with small letters from a place on. -/
def smF (s : ByteArray) (a : Nat) (j : Nat) : Int := if a ≤ j then low (byt s j) else (byt s j : Int)
theorem lix_at (s : ByteArray) (c : Int) : ∀ n, 0 ≤ lix s c n → (byt s (lix s c n).toNat : Int) = c
  | 0, h => by simp [lix] at h
  | n + 1, h => by
    rw [lix] at h ⊢
    by_cases q : (byt s n : Int) = c
    · rw [if_pos q]; simpa using q
    · rw [if_neg q] at h ⊢; exact lix_at s c n h
theorem fbF_all (p : Bt) (s : ByteArray) : ∀ (f k : Nat), fbF p s f k = none → ∀ j, k ≤ j → j < k + f → (byt s j : Int) < p.first ∧ (byt s j : Int) < 128
  | 0, k, _, j, h1, h2 => by omega
  | f + 1, k, h, j, h1, h2 => by
    rw [fbF] at h
    by_cases c : (byt s k : Int) < p.first ∧ (byt s k : Int) < 128
    · rw [if_pos c] at h
      by_cases e : j = k
      · subst e; exact c
      · exact fbF_all p s f (k + 1) h j (by omega) (by omega)
    · rw [if_neg c] at h; simp at h
theorem isB_usual (c : Int) : isB usual c = decide (c < 128) := by
  unfold isB
  rw [show usual.first = 128 from rfl]
  cases decide (c < 128) <;> rfl
/-- What is decoded is encoded to the same text, in small letters. -/
theorem text_back (s : ByteArray) (L : List Int) (h : decS usual s = .inr L) : ∃ os, SrtL (KZ L) (osL usual L L.length) os ∧ encT L os = (strOfNums ((List.range s.size).map (smF s (frN usual s))), 0, 0) ∧ ∀ j, j < L.length → okC (L.getD j 0) := by
  have hh := hdN_lt usual s
  have hfr := frN_le usual s
  unfold decS at h
  cases hb : fbF usual s (hdN usual s) 0 with
  | some k => rw [hb] at h; simp at h
  | none =>
    rw [hb] at h
    simp only at h
    cases hr : rdL usual s (s.size - frN usual s) (frN usual s) usual.first 0 usual.bias (hdN usual s) with
    | inl e => rw [hr] at h; simp at h
    | inr ps =>
      rw [hr] at h
      simp only [Sum.inr.injEq] at h
      have hba := fbF_all usual s _ _ hb
      obtain ⟨o1, -, -⟩ := rdL_ok usual s _ _ _ _ _ _ _ hr (Int.le_refl _) (by decide) hfr.1
      have hal := ahd_len s (hdN usual s)
      have hbt : 0 < hdN usual s → (byt s (hdN usual s) : Int) = 45 := fun q => by
        have := lix_at s usual.btw s.size (by unfold hdN at q; omega)
        exact this
      have hfe : frN usual s = if 0 < hdN usual s then hdN usual s + 1 else 0 := rfl
      obtain ⟨H, hH⟩ : ∃ H, hdN usual s = H := ⟨_, rfl⟩
      obtain ⟨R, hR⟩ : ∃ R, frN usual s = R := ⟨_, rfl⟩
      simp only [hH, hR] at *
      obtain ⟨mk, xs, hc, hsel, hout⟩ := posits ps (ahd s H) (by rw [hal]; exact o1)
      rw [h] at hc hsel hout
      have hcm : cnt mk L.length = H := by rw [← sel_len L mk, hsel, hal]
      obtain ⟨⟨D, d1, d2, d3⟩, hpw, hax⟩ := encL_rdL usual usual_ok s L xs ps (s.size - R) R usual.first 0 usual.bias H mk true hr hc hcm rfl hfr.1 (by omega) (Int.le_refl _) (Int.le_refl _)
      have hA : ∀ j, j < H → (ahd s H).getD j 0 = (byt s j : Int) := fun j hj => by simp [ahd, List.getD_eq_getElem?_getD, hj]
      have hmem : ∀ (xs : List Int) (ps : List (Int × Nat)) (mk : Nat → Bool), Chn L mk xs ps → ∀ j, j < L.length → mk j = false → (j : Int) ∈ xs := by
        intro xs
        induction xs with
        | nil =>
          intro ps mk hc j hj hm
          cases ps with
          | nil => rw [show mk = fun j => decide (j < L.length) from hc] at hm; simp at hm; omega
          | cons a b => simp [Chn] at hc
        | cons x xs ih =>
          intro ps mk hc j hj hm
          cases ps with
          | nil => simp [Chn] at hc
          | cons a b =>
            obtain ⟨c, q⟩ := a
            obtain ⟨x0, x1, x2, x3, x4, x5⟩ := hc
            by_cases e : j = x.toNat
            · rw [e, Int.toNat_of_nonneg x0]; simp
            · exact List.mem_cons_of_mem _ (ih b _ x5 j hj (by unfold setB; rw [if_neg e]; exact hm))
      have hlen : ∀ (xs : List Int) (ps : List (Int × Nat)) (mk : Nat → Bool), Chn L mk xs ps → xs.length = ps.length := by
        intro xs
        induction xs with
        | nil => intro ps mk hc; cases ps with
          | nil => rfl
          | cons a b => simp [Chn] at hc
        | cons x xs ih => intro ps mk hc; cases ps with
          | nil => simp [Chn] at hc
          | cons a b => rw [List.length_cons, List.length_cons, ih b _ hc.2.2.2.2.2]
      have hon : ∀ j, j < L.length → mk j = true → 0 ≤ L.getD j 0 ∧ L.getD j 0 < 128 := fun j hj hm => by
        have e := sel_at L mk j hm L.length hj
        have h1 := cnt_mono mk (show j + 1 ≤ L.length by omega)
        rw [cnt, if_pos hm, hcm] at h1
        rw [hsel, hA _ (by omega)] at e
        rw [← e]
        exact ⟨by omega, (hba _ (by omega) (by omega)).2⟩
      have hoff : ∀ j, j < L.length → mk j = false → 128 ≤ L.getD j 0 ∧ L.getD j 0 ≤ 1114111 ∧ ¬ (55296 ≤ L.getD j 0 ∧ L.getD j 0 ≤ 57343) := fun j hj hm => by
        obtain ⟨y1, -, y3, y4, -, -⟩ := hax _ (hmem xs ps mk hc j hj hm)
        have e : KZ L (j : Int) = L.getD j 0 := by unfold KZ; rw [Int.toNat_natCast]
        rw [e] at y1 y3 y4
        exact ⟨y1, y3, y4⟩
      have hmk : mk = mkB usual L L.length := by
        funext j
        unfold mkB
        by_cases c : j < L.length
        · rw [decide_eq_true c, isB_usual, Bool.true_and]
          cases hm : mk j with
          | true => exact (decide_eq_true (hon j c hm).2).symm
          | false => exact (decide_eq_false (by have := (hoff j c hm).1; omega)).symm
        · rw [decide_eq_false c, hout j (by omega)]; rfl
      have hbs : bsL usual L L.length = ahd s H := by rw [bsL_sel usual L L.length (Nat.le_refl _), ← hmk, hsel]
      have hok : ∀ j, j < L.length → okC (L.getD j 0) := fun j hj => by
        unfold okC
        cases hm : mk j with
        | true => have := hon j hj hm; omega
        | false => have := hoff j hj hm; omega
      have hS : SrtL (KZ L) (osL usual L L.length) xs := by
        refine ⟨?_, fun x => ?_, hpw⟩
        · have h1 := bo_len usual L L.length (Nat.le_refl _)
          have h2 := len_insAll ps (ahd s H) (by rw [hal]; exact o1)
          rw [h, hal] at h2
          rw [hbs, hal] at h1
          rw [hlen xs ps mk hc]; omega
        · rw [osL_mem]
          constructor
          · intro hx
            obtain ⟨y1, -, -, -, y5, y6⟩ := hax x hx
            refine ⟨x.toNat, by omega, by omega, ?_⟩
            rw [isB_usual]
            have e : KZ L x = L.getD x.toNat 0 := rfl
            rw [e] at y1
            exact decide_eq_false (by have : usual.first = 128 := rfl; omega)
          · rintro ⟨j, rfl, hj, hb2⟩
            refine hmem xs ps mk hc j hj ?_
            rw [hmk]; unfold mkB; rw [hb2, decide_eq_true hj]; rfl
      refine ⟨xs, hS, ?_, hok⟩
      have hix : ¬ 0 ≤ ixF (fun n => !isSc n) L L.length 0 := by
        have : ∀ f k, k + f = L.length → ixF (fun n => !isSc n) L f k = -1 := by
          intro f
          induction f with
          | zero => intro k _; rfl
          | succ f ih =>
            intro k hk
            have h1 := hok k (by omega)
            have h2 : isSc (L.getD k 0) = true := by
              unfold isSc; unfold okC at h1
              simp only [Bool.or_eq_true, Bool.and_eq_true, decide_eq_true_eq]
              omega
            rw [ixF, if_neg (by rw [h2]; simp), ih (k + 1) (by omega)]
        rw [this L.length 0 (by omega)]; decide
      unfold encT
      rw [if_neg hix, ← hmk, hbs, hal, show (encL usual L xs 128 0 72 H mk true) = some D from d1]
      have htx : txL usual (ahd s H) D = (List.range s.size).map (smF s R) := by
        apply List.ext_getElem?
        intro j
        have hz : (txL usual (ahd s H) D).length = s.size := by
          unfold txL
          by_cases c : 0 < H
          · have : ahd s H ≠ [] := by intro e; rw [e] at hal; simp at hal; omega
            rw [if_neg this]
            rw [if_pos c] at hfe
            simp only [List.length_append, hal, List.length_cons, List.length_nil]; omega
          · have : ahd s H = [] := List.eq_nil_of_length_eq_zero (by omega)
            rw [if_pos this]
            rw [if_neg c] at hfe
            simp only [List.length_append, List.length_nil]; omega
        by_cases hj : j < s.size
        · have e1 : ((List.range s.size).map (smF s R))[j]? = some (smF s R j) := by simp [hj]
          rw [e1, List.getElem?_eq_getElem (by omega)]
          congr 1
          have e2 : (txL usual (ahd s H) D)[j]'(by omega) = (txL usual (ahd s H) D).getD j 0 := by simp [List.getD_eq_getElem?_getD, List.getElem?_eq_getElem (show j < (txL usual (ahd s H) D).length by omega)]
          rw [e2]
          unfold txL smF
          by_cases c : 0 < H
          · have hne : ahd s H ≠ [] := by intro e; rw [e] at hal; simp at hal; omega
            rw [if_neg hne]
            rw [if_pos c] at hfe
            by_cases c1 : j < H
            · rw [if_neg (by omega), ← hA j c1]
              simp only [List.getD_eq_getElem?_getD]
              rw [List.getElem?_append_left (by simp; omega), List.getElem?_append_left (by omega)]
            · by_cases c2 : j = H
              · subst c2
                rw [if_neg (by omega), hbt c]
                simp only [List.getD_eq_getElem?_getD]
                rw [List.getElem?_append_left (by simp; omega), List.getElem?_append_right (by omega), hal, Nat.sub_self]; rfl
              · have := d3 (j - R) (by omega)
                rw [if_pos (by omega), show byt s j = byt s (R + (j - R)) by congr 1; omega, ← this]
                simp only [List.getD_eq_getElem?_getD]
                rw [List.getElem?_append_right (by simp; omega)]
                congr 2
                simp; omega
          · have he : ahd s H = [] := List.eq_nil_of_length_eq_zero (by omega)
            rw [if_pos he]
            rw [if_neg c] at hfe
            have := d3 j (by omega)
            rw [if_pos (by omega), show byt s j = byt s (R + j) by congr 1; omega, ← this]; rfl
        · rw [List.getElem?_eq_none (by omega), List.getElem?_eq_none (by simp; omega)]
      show (strOfNums (txL usual (ahd s H) D), (0 : Int), (0 : Int)) = _
      rw [htx]
theorem smF_same (s : ByteArray) (j : Nat) : smF s (frN usual s) j = smF s (lix s 45 s.size + 1).toNat j := by
  have hb := lix_bound s 45 s.size
  have hf : frN usual s = if 0 < (lix s 45 s.size).toNat then (lix s 45 s.size).toNat + 1 else 0 := rfl
  unfold smF
  by_cases c : 0 < (lix s 45 s.size).toNat
  · rw [if_pos c] at hf
    rw [show frN usual s = (lix s 45 s.size + 1).toNat by omega]
  · rw [if_neg c] at hf
    rw [hf, if_pos (by omega)]
    by_cases d : lix s 45 s.size = 0
    · have h0 := lix_at s 45 s.size (by omega)
      rw [d] at h0 ⊢
      by_cases e : j = 0
      · subst e
        rw [if_neg (by decide)]
        rw [show (0 : Int).toNat = 0 from rfl] at h0
        rw [h0]; rfl
      · rw [if_pos (by show 1 ≤ j; omega)]
    · rw [if_pos (by omega)]
end Go.Proofs.Ytahmeejcgddlhaa
