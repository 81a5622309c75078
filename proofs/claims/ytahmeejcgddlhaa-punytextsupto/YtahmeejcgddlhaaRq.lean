/-
  What is decoded is encoded to the same text.
-/
import Derived.Test.YtahmeejcgddlhaaRp
import Derived.Deep.DeepMust
namespace Go.Proofs.Ytahmeejcgddlhaa
open Go.RowKit
/-- A text with small letters from a place on. -/
def smF (s : ByteArray) (a : Nat) (j : Nat) : Int := if a ≤ j then low (byt s j) else (byt s j : Int)
theorem lix_at (s : ByteArray) (c : Int) : ∀ n, 0 ≤ lix s c n → (byt s (lix s c n).toNat : Int) = c
  | 0, h => by simp [lix] at h
  | n + 1, h => by
    rw [lix] at h ⊢
    by_cases q : (byt s n : Int) = c
    · rw [if_pos q]; simpa using q
    · rw [if_neg q] at h ⊢; exact lix_at s c n h
theorem fbF_all (p : Bt) (s : ByteArray) : ∀ (f k : Nat), fbF p s f k = none → ∀ j, k ≤ j → j < k + f → (byt s j : Int) < p.first ∧ (byt s j : Int) < 128
  | 0, k, _, j, h1, h2 => by omega
  | f + 1, k, h, j, h1, h2 => by
    rw [fbF] at h
    by_cases c : (byt s k : Int) < p.first ∧ (byt s k : Int) < 128
    · rw [if_pos c] at h
      by_cases e : j = k
      · subst e; exact c
      · exact fbF_all p s f (k + 1) h j (by omega) (by omega)
    · rw [if_neg c] at h; simp at h
theorem isB_usual (c : Int) : isB usual c = decide (c < 128) := by
  unfold isB
  rw [show usual.first = 128 from rfl]
  cases decide (c < 128) <;> rfl
/-- What is decoded is encoded to the same text, in small letters. -/
theorem text_back (s : ByteArray) (L : List Int) (h : decS usual s = .inr L) : ∃ os, SrtL (KZ L) (osL usual L L.length) os ∧ encT L os = (strOfNums ((List.range s.size).map (smF s (frN usual s))), 0, 0) ∧ ∀ j, j < L.length → okC (L.getD j 0) := by
  have hh := hdN_lt usual s
  have hfr := frN_le usual s
  unfold decS at h
  cases hb : fbF usual s (hdN usual s) 0 with
  | some k => rw [hb] at h; simp at h
  | none =>
    rw [hb] at h
    simp only at h
    cases hr : rdL usual s (s.size - frN usual s) (frN usual s) usual.first 0 usual.bias (hdN usual s) with
    | inl e => rw [hr] at h; simp at h
    | inr ps =>
      rw [hr] at h
      simp only [Sum.inr.injEq] at h
      have hba := fbF_all usual s _ _ hb
      obtain ⟨o1, -, -⟩ := rdL_ok usual s _ _ _ _ _ _ _ hr (Int.le_refl _) (by decide) hfr.1
      have hal := ahd_len s (hdN usual s)
      have hbt : 0 < hdN usual s → (byt s (hdN usual s) : Int) = 45 := fun q => by
        have := lix_at s usual.btw s.size (by unfold hdN at q; omega)
        exact this
      have hfe : frN usual s = if 0 < hdN usual s then hdN usual s + 1 else 0 := rfl
      obtain ⟨H, hH⟩ : ∃ H, hdN usual s = H := ⟨_, rfl⟩
      obtain ⟨R, hR⟩ : ∃ R, frN usual s = R := ⟨_, rfl⟩
      simp only [hH, hR] at *
      obtain ⟨mk, xs, hc, hsel, hout⟩ := posits ps (ahd s H) (by rw [hal]; exact o1)
      rw [h] at hc hsel hout
      have hcm : cnt mk L.length = H := by rw [← sel_len L mk, hsel, hal]
      obtain ⟨⟨D, d1, d2, d3⟩, hpw, hax⟩ := encL_rdL usual usual_ok s L xs ps (s.size - R) R usual.first 0 usual.bias H mk true hr hc hcm rfl hfr.1 (by omega) (Int.le_refl _) (Int.le_refl _)
      have hA : ∀ j, j < H → (ahd s H).getD j 0 = (byt s j : Int) := fun j hj => by simp [ahd, List.getD_eq_getElem?_getD, hj]
      have hmem : ∀ (xs : List Int) (ps : List (Int × Nat)) (mk : Nat → Bool), Chn L mk xs ps → ∀ j, j < L.length → mk j = false → (j : Int) ∈ xs := by
        intro xs
        induction xs with
        | nil =>
          intro ps mk hc j hj hm
          cases ps with
          | nil => rw [show mk = fun j => decide (j < L.length) from hc] at hm; simp at hm; omega
          | cons a b => simp [Chn] at hc
        | cons x xs ih =>
          intro ps mk hc j hj hm
          cases ps with
          | nil => simp [Chn] at hc
          | cons a b =>
            obtain ⟨c, q⟩ := a
            obtain ⟨x0, x1, x2, x3, x4, x5⟩ := hc
            by_cases e : j = x.toNat
            · rw [e, Int.toNat_of_nonneg x0]; simp
            · exact List.mem_cons_of_mem _ (ih b _ x5 j hj (by unfold setB; rw [if_neg e]; exact hm))
      have hlen : ∀ (xs : List Int) (ps : List (Int × Nat)) (mk : Nat → Bool), Chn L mk xs ps → xs.length = ps.length := by
        intro xs
        induction xs with
        | nil => intro ps mk hc; cases ps with
          | nil => rfl
          | cons a b => simp [Chn] at hc
        | cons x xs ih => intro ps mk hc; cases ps with
          | nil => simp [Chn] at hc
          | cons a b => rw [List.length_cons, List.length_cons, ih b _ hc.2.2.2.2.2]
      have hon : ∀ j, j < L.length → mk j = true → 0 ≤ L.getD j 0 ∧ L.getD j 0 < 128 := fun j hj hm => by
        have e := sel_at L mk j hm L.length hj
        have h1 := cnt_mono mk (show j + 1 ≤ L.length by omega)
        rw [cnt, if_pos hm, hcm] at h1
        rw [hsel, hA _ (by omega)] at e
        rw [← e]
        exact ⟨by omega, (hba _ (by omega) (by omega)).2⟩
      have hoff : ∀ j, j < L.length → mk j = false → 128 ≤ L.getD j 0 ∧ L.getD j 0 ≤ 1114111 ∧ ¬ (55296 ≤ L.getD j 0 ∧ L.getD j 0 ≤ 57343) := fun j hj hm => by
        obtain ⟨y1, -, y3, y4, -, -⟩ := hax _ (hmem xs ps mk hc j hj hm)
        have e : KZ L (j : Int) = L.getD j 0 := by unfold KZ; rw [Int.toNat_natCast]
        rw [e] at y1 y3 y4
        exact ⟨y1, y3, y4⟩
      have hmk : mk = mkB usual L L.length := by
        funext j
        unfold mkB
        by_cases c : j < L.length
        · rw [decide_eq_true c, isB_usual, Bool.true_and]
          cases hm : mk j with
          | true => exact (decide_eq_true (hon j c hm).2).symm
          | false => exact (decide_eq_false (by have := (hoff j c hm).1; omega)).symm
        · rw [decide_eq_false c, hout j (by omega)]; rfl
      have hbs : bsL usual L L.length = ahd s H := by rw [bsL_sel usual L L.length (Nat.le_refl _), ← hmk, hsel]
      have hok : ∀ j, j < L.length → okC (L.getD j 0) := fun j hj => by
        unfold okC
        cases hm : mk j with
        | true => have := hon j hj hm; omega
        | false => have := hoff j hj hm; omega
      have hS : SrtL (KZ L) (osL usual L L.length) xs := by
        refine ⟨?_, fun x => ?_, hpw⟩
        · have h1 := bo_len usual L L.length (Nat.le_refl _)
          have h2 := len_insAll ps (ahd s H) (by rw [hal]; exact o1)
          rw [h, hal] at h2
          rw [hbs, hal] at h1
          rw [hlen xs ps mk hc]; omega
        · rw [osL_mem]
          constructor
          · intro hx
            obtain ⟨y1, -, -, -, y5, y6⟩ := hax x hx
            refine ⟨x.toNat, by omega, by omega, ?_⟩
            rw [isB_usual]
            have e : KZ L x = L.getD x.toNat 0 := rfl
            rw [e] at y1
            exact decide_eq_false (by have : usual.first = 128 := rfl; omega)
          · rintro ⟨j, rfl, hj, hb2⟩
            refine hmem xs ps mk hc j hj ?_
            rw [hmk]; unfold mkB; rw [hb2, decide_eq_true hj]; rfl
      refine ⟨xs, hS, ?_, hok⟩
      have hix : ¬ 0 ≤ ixF (fun n => !isSc n) L L.length 0 := by
        have : ∀ f k, k + f = L.length → ixF (fun n => !isSc n) L f k = -1 := by
          intro f
          induction f with
          | zero => intro k _; rfl
          | succ f ih =>
            intro k hk
            have h1 := hok k (by omega)
            have h2 : isSc (L.getD k 0) = true := by
              unfold isSc; unfold okC at h1
              simp only [Bool.or_eq_true, Bool.and_eq_true, decide_eq_true_eq]
              omega
            rw [ixF, if_neg (by rw [h2]; simp), ih (k + 1) (by omega)]
        rw [this L.length 0 (by omega)]; decide
      unfold encT
      rw [if_neg hix, ← hmk, hbs, hal, show (encL usual L xs 128 0 72 H mk true) = some D from d1]
      have htx : txL usual (ahd s H) D = (List.range s.size).map (smF s R) := by
        apply List.ext_getElem?
        intro j
        have hz : (txL usual (ahd s H) D).length = s.size := by
          unfold txL
          by_cases c : 0 < H
          · have : ahd s H ≠ [] := by intro e; rw [e] at hal; simp at hal; omega
            rw [if_neg this]
            rw [if_pos c] at hfe
            simp only [List.length_append, hal, List.length_cons, List.length_nil]; omega
          · have : ahd s H = [] := List.eq_nil_of_length_eq_zero (by omega)
            rw [if_pos this]
            rw [if_neg c] at hfe
            simp only [List.length_append, List.length_nil]; omega
        by_cases hj : j < s.size
        · have e1 : ((List.range s.size).map (smF s R))[j]? = some (smF s R j) := by simp [hj]
          rw [e1, List.getElem?_eq_getElem (by omega)]
          congr 1
          have e2 : (txL usual (ahd s H) D)[j]'(by omega) = (txL usual (ahd s H) D).getD j 0 := by simp [List.getD_eq_getElem?_getD, List.getElem?_eq_getElem (show j < (txL usual (ahd s H) D).length by omega)]
          rw [e2]
          unfold txL smF
          by_cases c : 0 < H
          · have hne : ahd s H ≠ [] := by intro e; rw [e] at hal; simp at hal; omega
            rw [if_neg hne]
            rw [if_pos c] at hfe
            by_cases c1 : j < H
            · rw [if_neg (by omega), ← hA j c1]
              simp only [List.getD_eq_getElem?_getD]
              rw [List.getElem?_append_left (by simp; omega), List.getElem?_append_left (by omega)]
            · by_cases c2 : j = H
              · subst c2
                rw [if_neg (by omega), hbt c]
                simp only [List.getD_eq_getElem?_getD]
                rw [List.getElem?_append_left (by simp; omega), List.getElem?_append_right (by omega), hal, Nat.sub_self]; rfl
              · have := d3 (j - R) (by omega)
                rw [if_pos (by omega), show byt s j = byt s (R + (j - R)) by congr 1; omega, ← this]
                simp only [List.getD_eq_getElem?_getD]
                rw [List.getElem?_append_right (by simp; omega)]
                congr 2
                simp; omega
          · have he : ahd s H = [] := List.eq_nil_of_length_eq_zero (by omega)
            rw [if_pos he]
            rw [if_neg c] at hfe
            have := d3 j (by omega)
            rw [if_pos (by omega), show byt s j = byt s (R + j) by congr 1; omega, ← this]; rfl
        · rw [List.getElem?_eq_none (by omega), List.getElem?_eq_none (by simp; omega)]
      show (strOfNums (txL usual (ahd s H) D), (0 : Int), (0 : Int)) = _
      rw [htx]
theorem smF_same (s : ByteArray) (j : Nat) : smF s (frN usual s) j = smF s (lix s 45 s.size + 1).toNat j := by
  have hb := lix_bound s 45 s.size
  have hf : frN usual s = if 0 < (lix s 45 s.size).toNat then (lix s 45 s.size).toNat + 1 else 0 := rfl
  unfold smF
  by_cases c : 0 < (lix s 45 s.size).toNat
  · rw [if_pos c] at hf
    rw [show frN usual s = (lix s 45 s.size + 1).toNat by omega]
  · rw [if_neg c] at hf
    rw [hf, if_pos (by omega)]
    by_cases d : lix s 45 s.size = 0
    · have h0 := lix_at s 45 s.size (by omega)
      rw [d] at h0 ⊢
      by_cases e : j = 0
      · subst e
        rw [if_neg (by decide)]
        rw [show (0 : Int).toNat = 0 from rfl] at h0
        rw [h0]; rfl
      · rw [if_pos (by show 1 ≤ j; omega)]
    · rw [if_pos (by omega)]
end Go.Proofs.Ytahmeejcgddlhaa
