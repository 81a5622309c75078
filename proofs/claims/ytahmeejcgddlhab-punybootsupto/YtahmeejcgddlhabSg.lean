/-
  Any parameters: what stands while the document writes.
-/
import Derived.Test.YtahmeejcgddlhabSf
import Derived.Deep.DeepMust
namespace Go.Proofs.Ytahmeejcgddlhab
open Go.RowKit
theorem numU_len (p : Bt) (bias : Int) : ∀ (f : Nat) (q k : Int), (numU p bias f q k).length ≤ f
  | 0, _, _ => by simp [numU]
  | f + 1, q, k => by
    rw [numU]
    split
    · simp
    · have := numU_len p bias f ((q - thr p k bias) / (p.base - thr p k bias)) (k + p.base)
      simp; omega
/-- What stands while the document writes: so many points, so many others written, a delta, a bias, a number, a place. -/
structure WkI (p : Bt) (zs os : List Int) (F : Option (List Int)) (b O : Nat) (wr : World) (v : Value) (h k : Nat) (dl bias m : Int) (j : Nat) (np i : Int) (acc : List Int) (mk : Nat → Bool) : Prop where
  eo : EO zs (os.drop k) np i h mk
  enc : (encW p zs (os.drop k) np i bias h mk (k == 0)).map (acc ++ ·) = F
  out : Rw .u8 5 O wr v acc
  hk : h = b + k
  bo : b + os.length = zs.length
  kl : k ≤ os.length
  mks : ∀ jj, jj < zs.length → (mk jj = true ↔ (zs.getD jj 0 < m ∨ (zs.getD jj 0 = m ∧ jj < j)))
  cov : ∀ jj, jj < zs.length → mk jj = false → (jj : Int) ∈ os.drop k
  dlt : dl = (m - np) * ((h + 1 : Nat) : Int) + (cnt mk j : Int) - i
  nm : np ≤ m
  dl0 : 0 ≤ dl
  dl1 : dl ≤ 2147483648
  bb : 0 ≤ bias ∧ bias ≤ 10000
  len : acc.length ≤ b + 1 + 20000 * k
  m0 : 0 ≤ m ∧ m ≤ 1114112
theorem WkI.world {p : Bt} {zs os : List Int} {F : Option (List Int)} {b O : Nat} {wr wr' : World} {v v' : Value} {h k : Nat} {dl bias m : Int} {j : Nat} {np i : Int} {acc : List Int} {mk : Nat → Bool} (I : WkI p zs os F b O wr v h k dl bias m j np i acc mk) (ho : Rw .u8 5 O wr' v' acc) : WkI p zs os F b O wr' v' h k dl bias m j np i acc mk :=
  ⟨I.eo, I.enc, ho, I.hk, I.bo, I.kl, I.mks, I.cov, I.dlt, I.nm, I.dl0, I.dl1, I.bb, I.len, I.m0⟩
theorem drop_head (os : List Int) (k : Nat) (h : k < os.length) : ∃ x, os.drop k = x :: os.drop (k + 1) := ⟨_, List.drop_eq_getElem_cons h⟩
/-- The head's delta is no less. -/
theorem WkI.head {p : Bt} {zs os : List Int} {F : Option (List Int)} {b O : Nat} {wr : World} {v : Value} {h k : Nat} {dl bias m : Int} {j : Nat} {np i : Int} {acc : List Int} {mk : Nat → Bool} (I : WkI p zs os F b O wr v h k dl bias m j np i acc mk) (hj : j ≤ zs.length) (x : Int) (hx : x ∈ os.drop k) : dl ≤ (KZ zs x - np) * ((h + 1 : Nat) : Int) + (cnt mk x.toNat : Int) - i := by
  obtain ⟨x0, x1, x2⟩ := I.eo.rng x hx
  have hm := I.mks x.toNat (by omega)
  have hK : KZ zs x = zs.getD x.toNat 0 := rfl
  have hn : ¬ (zs.getD x.toNat 0 < m ∨ (zs.getD x.toNat 0 = m ∧ x.toNat < j)) := fun q => by rw [hm.2 q] at x2; simp at x2
  have hd := I.dlt
  have hc := cnt_mono mk hj
  rw [I.eo.tot] at hc
  rw [hK]
  generalize zs.getD x.toNat 0 = C at *
  by_cases e : C = m
  · subst e
    have := cnt_mono mk (show j ≤ x.toNat by omega)
    omega
  · have h1 : (m - np + 1) * ((h + 1 : Nat) : Int) ≤ (C - np) * ((h + 1 : Nat) : Int) := Int.mul_le_mul_of_nonneg_right (by omega) (by omega)
    rw [Int.add_mul, Int.one_mul] at h1
    omega
/-- A delta that is too great. -/
theorem WkI.fail {p : Bt} {zs os : List Int} {F : Option (List Int)} {b O : Nat} {wr : World} {v : Value} {h k : Nat} {dl bias m : Int} {j : Nat} {np i : Int} {acc : List Int} {mk : Nat → Bool} (I : WkI p zs os F b O wr v h k dl bias m j np i acc mk) (hj : j ≤ zs.length) (hk : k < os.length) (hd : 2147483647 < dl) : F = none := by
  obtain ⟨x, hx⟩ := drop_head os k hk
  have hh := I.head hj x (by rw [hx]; simp)
  have e := I.enc
  rw [hx, encW, if_pos (by omega)] at e
  exact e.symm
/-- On to the least number that is left. -/
theorem WkI.jump {p : Bt} {zs os : List Int} {F : Option (List Int)} {b O : Nat} {wr : World} {v : Value} {h k : Nat} {dl bias n : Int} {np i : Int} {acc : List Int} {mk : Nat → Bool} (I : WkI p zs os F b O wr v h k dl bias n 0 np i acc mk) (m d : Int) (hm : n ≤ m) (hm1 : m ≤ 1114111) (hg : ∀ jj, jj < zs.length → n ≤ zs.getD jj 0 → m ≤ zs.getD jj 0) (hd : d = dl + (m - n) * ((h + 1 : Nat) : Int)) (hd1 : d ≤ 2147483648) : WkI p zs os F b O wr v h k d bias m 0 np i acc mk := by
  have hh := I.dlt
  have e : (m - np) * ((h + 1 : Nat) : Int) = (n - np) * ((h + 1 : Nat) : Int) + (m - n) * ((h + 1 : Nat) : Int) := by rw [← Int.add_mul]; congr 1; omega
  have e0 : 0 ≤ (m - n) * ((h + 1 : Nat) : Int) := Int.mul_nonneg (by omega) (by omega)
  refine ⟨I.eo, I.enc, I.out, I.hk, I.bo, I.kl, fun jj hjj => ?_, I.cov, by omega, by have := I.nm; omega, by have := I.dl0; omega, hd1, I.bb, I.len, by have := I.m0; omega⟩
  have h1 := I.mks jj hjj
  have h2 := hg jj hjj
  rw [h1]
  omega
/-- The jump, where the delta is too great. -/
theorem WkI.jump_fail {p : Bt} {zs os : List Int} {F : Option (List Int)} {b O : Nat} {wr : World} {v : Value} {h k : Nat} {dl bias n : Int} {np i : Int} {acc : List Int} {mk : Nat → Bool} (I : WkI p zs os F b O wr v h k dl bias n 0 np i acc mk) (hk : k < os.length) (m d : Int) (hg : ∀ jj, jj < zs.length → n ≤ zs.getD jj 0 → m ≤ zs.getD jj 0) (hd : d = dl + (m - n) * ((h + 1 : Nat) : Int)) (hd1 : 2147483647 < d) : F = none := by
  obtain ⟨x, hx⟩ := drop_head os k hk
  obtain ⟨x0, x1, x2⟩ := I.eo.rng x (by rw [hx]; simp)
  have hmx := I.mks x.toNat (by omega)
  have hK : KZ zs x = zs.getD x.toNat 0 := rfl
  have hn : n ≤ zs.getD x.toNat 0 := by
    by_cases q : zs.getD x.toNat 0 < n
    · rw [hmx.2 (.inl q)] at x2; simp at x2
    · omega
  have h1 := hg x.toNat (by omega) hn
  have hh := I.dlt
  have e : (m - np) * ((h + 1 : Nat) : Int) = (n - np) * ((h + 1 : Nat) : Int) + (m - n) * ((h + 1 : Nat) : Int) := by rw [← Int.add_mul]; congr 1; omega
  have h2 : (m - np) * ((h + 1 : Nat) : Int) ≤ (zs.getD x.toNat 0 - np) * ((h + 1 : Nat) : Int) := Int.mul_le_mul_of_nonneg_right (by omega) (by omega)
  have en := I.enc
  rw [cnt] at hh
  rw [hx, encW, hK, if_pos (by omega)] at en
  exact en.symm
theorem cnt_succ (mk : Nat → Bool) (j : Nat) : cnt mk (j + 1) = cnt mk j + if mk j = true then 1 else 0 := by
  rw [cnt]
/-- Over one that is written. -/
theorem WkI.pass {p : Bt} {zs os : List Int} {F : Option (List Int)} {b O : Nat} {wr : World} {v : Value} {h k : Nat} {dl bias m : Int} {j : Nat} {np i : Int} {acc : List Int} {mk : Nat → Bool} (I : WkI p zs os F b O wr v h k dl bias m j np i acc mk) (hj : j < zs.length) (hc : zs.getD j 0 < m) (hd : dl ≤ 2147483647) : WkI p zs os F b O wr v h k (dl + 1) bias m (j + 1) np i acc mk := by
  have e := (I.mks j hj).2 (.inl hc)
  have hh := I.dlt
  have hs := cnt_succ mk j
  rw [if_pos e] at hs
  refine ⟨I.eo, I.enc, I.out, I.hk, I.bo, I.kl, fun jj hjj => ?_, I.cov, by rw [hs]; omega, I.nm, by have := I.dl0; omega, by omega, I.bb, I.len, I.m0⟩
  rw [I.mks jj hjj]
  by_cases q : jj = j
  · subst q; omega
  · omega
/-- Over one that comes later. -/
theorem WkI.skip {p : Bt} {zs os : List Int} {F : Option (List Int)} {b O : Nat} {wr : World} {v : Value} {h k : Nat} {dl bias m : Int} {j : Nat} {np i : Int} {acc : List Int} {mk : Nat → Bool} (I : WkI p zs os F b O wr v h k dl bias m j np i acc mk) (hj : j < zs.length) (hc : m < zs.getD j 0) : WkI p zs os F b O wr v h k dl bias m (j + 1) np i acc mk := by
  have e : ¬ mk j = true := fun q => by have := (I.mks j hj).1 q; omega
  have hh := I.dlt
  have hs := cnt_succ mk j
  rw [if_neg e] at hs
  refine ⟨I.eo, I.enc, I.out, I.hk, I.bo, I.kl, fun jj hjj => ?_, I.cov, by rw [hs]; omega, I.nm, I.dl0, I.dl1, I.bb, I.len, I.m0⟩
  rw [I.mks jj hjj]
  by_cases q : jj = j
  · subst q; omega
  · omega
/-- One that is written now. -/
theorem WkI.hit {p : Bt} (hp : Okb p) {zs os : List Int} {F : Option (List Int)} {b O : Nat} {wr : World} {v : Value} {h k : Nat} {dl bias m : Int} {j : Nat} {np i : Int} {acc : List Int} {mk : Nat → Bool} (I : WkI p zs os F b O wr v h k dl bias m j np i acc mk) (hj : j < zs.length) (hc : zs.getD j 0 = m) (hd : dl ≤ 2147483647) : k < os.length ∧ ∀ wr' v', Rw .u8 5 O wr' v' (acc ++ numU p bias (fU + 1) dl p.base) → WkI p zs os F b O wr' v' (h + 1) (k + 1) 0 (adF p dl ((h + 1 : Nat) : Int) (k == 0)) m (j + 1) m ((cnt mk j : Int) + 1) (acc ++ numU p bias (fU + 1) dl p.base) (setB mk j true) := by
  have e : mk j = false := by
    cases q : mk j with
    | false => rfl
    | true => have := (I.mks j hj).1 q; omega
  have hin := I.cov j hj e
  have hkl : k < os.length := by
    by_cases q : k < os.length
    · exact q
    · rw [List.drop_eq_nil_of_le (by omega)] at hin; simp at hin
  obtain ⟨x, hx⟩ := drop_head os k hkl
  obtain ⟨x0, x1, x2⟩ := I.eo.rng x (by rw [hx]; simp)
  have hxj : x = (j : Int) := by
    rw [hx] at hin
    rcases List.mem_cons.1 hin with q | q
    · exact q.symm
    · exfalso
      have hs := I.eo.srt
      rw [hx] at hs
      have hl := (List.pairwise_cons.1 hs).1 _ q
      unfold LT at hl
      have hKj : KZ zs (j : Int) = m := by unfold KZ; rw [Int.toNat_natCast]; exact hc
      have hKx : KZ zs x = zs.getD x.toNat 0 := rfl
      have hmx := (I.mks x.toNat (by omega)).2
      rw [hKj, hKx] at hl
      have : mk x.toNat = true := hmx (by omega)
      rw [this] at x2; simp at x2
  subst hxj
  refine ⟨hkl, fun wr' v' ho => ?_⟩
  have heo := I.eo
  have hen := I.enc
  have hKj : KZ zs (j : Int) = m := by unfold KZ; rw [Int.toNat_natCast]; exact hc
  have hcov := I.cov
  rw [hx] at heo hen hcov
  have hst := heo.step
  rw [encW, hKj, Int.toNat_natCast] at hen
  rw [hKj, Int.toNat_natCast] at hst
  have hh := I.dlt
  rw [← hh, if_neg (by omega)] at hen
  have ab := adF_bound p hp dl ((h + 1 : Nat) : Int) (k == 0) I.dl0 (by omega) (by omega)
  have hon := cnt_set_on mk j e (j + 1) (by omega)
  have hs2 := cnt_succ mk j
  rw [if_neg (by rw [e]; simp)] at hs2
  refine ⟨hst, ?_, ho, by have := I.hk; omega, I.bo, by omega, fun jj hjj => ?_, fun jj hjj hm => ?_, ?_, Int.le_refl _, Int.le_refl _, by omega, ab, ?_, I.m0⟩
  · rw [← hen, show (k + 1 == 0) = false from rfl]
    show _ = Option.map _ (Option.map (numU p bias (fU + 1) dl p.base ++ ·) _)
    cases encW p zs (os.drop (k + 1)) m ((cnt mk j : Int) + 1) (adF p dl ((h + 1 : Nat) : Int) (k == 0)) (h + 1) (setB mk j true) false <;> simp
  · unfold setB
    by_cases q : jj = j
    · subst q; rw [if_pos rfl]; exact ⟨fun _ => .inr ⟨hc, by omega⟩, fun _ => rfl⟩
    · rw [if_neg q, I.mks jj hjj]; omega
  · unfold setB at hm
    by_cases q : jj = j
    · subst q; rw [if_pos rfl] at hm; simp at hm
    · rw [if_neg q] at hm
      rcases List.mem_cons.1 (hcov jj hjj hm) with r | r
      · omega
      · exact r
  · rw [hon, hs2]; omega
  · have h1 := numU_len p bias (fU + 1) dl p.base
    have h2 := I.len
    have h3 : fU = 10033 := rfl
    rw [List.length_append]; omega
/-- The end of a round. -/
theorem WkI.turn {p : Bt} {zs os : List Int} {F : Option (List Int)} {b O : Nat} {wr : World} {v : Value} {h k : Nat} {dl bias m : Int} {np i : Int} {acc : List Int} {mk : Nat → Bool} (I : WkI p zs os F b O wr v h k dl bias m zs.length np i acc mk) (hd : dl ≤ 2147483647) (hm : m ≤ 1114111) : WkI p zs os F b O wr v h k (dl + 1) bias (m + 1) 0 np i acc mk := by
  have hh := I.dlt
  rw [I.eo.tot] at hh
  have e : (m + 1 - np) * ((h + 1 : Nat) : Int) = (m - np) * ((h + 1 : Nat) : Int) + ((h + 1 : Nat) : Int) := by rw [show m + 1 - np = (m - np) + 1 by omega, Int.add_mul, Int.one_mul]
  refine ⟨I.eo, I.enc, I.out, I.hk, I.bo, I.kl, fun jj hjj => ?_, I.cov, by rw [cnt]; omega, by have := I.nm; omega, by have := I.dl0; omega, by omega, I.bb, I.len, by have := I.m0; omega⟩
  rw [I.mks jj hjj]
  omega
end Go.Proofs.Ytahmeejcgddlhab
