/-
  What a float adds to the program's sum and flags, by its bits. Conditions: the floats are of 64 bits.
-/
import Derived.Test.YtdhfkdopcphjlabBp
namespace Go.Proofs.Ytdhfkdopcphjlab
theorem one_is : one64 = ⟨2, false, 4503599627370496, -52, false, 0⟩ := by decide
theorem el_neg {b : Nat} (h : b < 18446744073709551616) : (pt 52 11 1023 b).neg = sgB b := by
  rw [neg_pt]
  unfold sg sgB
  rw [decide_eq_decide, show (2 : Nat) ^ (52 + 11) = 9223372036854775808 from rfl]
  omega
theorem el_kind {b : Nat} (h : b < 18446744073709551616) : ((pt 52 11 1023 b).kind == 4) = nan64 b ∧ ((pt 52 11 1023 b).kind == 3) = infB b ∧ ((pt 52 11 1023 b).kind == 0) = nulB b := by
  rw [nan64_is h]
  unfold infB nulB pt
  rw [show (2 : Nat) ^ 52 = 4503599627370496 from rfl, show (2 : Nat) ^ 11 = 2048 from rfl]
  split
  · split
    · refine ⟨?_, ?_, ?_⟩ <;> simp <;> omega
    · refine ⟨?_, ?_, ?_⟩ <;> simp <;> omega
  · split
    · split
      · refine ⟨?_, ?_, ?_⟩ <;> simp <;> omega
      · refine ⟨?_, ?_, ?_⟩ <;> simp <;> omega
    · refine ⟨?_, ?_, ?_⟩ <;> simp <;> omega
theorem el_mant {b : Nat} (h : nan64 b = false) (h2 : infB b = false) (hb : b < 18446744073709551616) : nulB b = false → (pt 52 11 1023 b).mant = pmB b ∧ (pt 52 11 1023 b).exp = peB b := by
  rw [nan64_is hb] at h
  unfold infB at h2
  unfold nulB pt pmB peB
  have h' := of_decide_eq_false h
  have h2' := of_decide_eq_false h2
  intro h3
  have h3' := of_decide_eq_false h3
  rw [show (2 : Nat) ^ 52 = 4503599627370496 from rfl, show (2 : Nat) ^ 11 = 2048 from rfl]
  split
  · exfalso; omega
  · split
    · rw [if_neg (by omega)]
      exact ⟨rfl, rfl⟩
    · refine ⟨rfl, ?_⟩
      show _ - 1023 - ((52 : Nat) : Int) = _
      omega
theorem pm_zero {b : Nat} (h : nulB b = true) : pmB b = 0 := by
  unfold nulB at h
  have h' := of_decide_eq_true h
  unfold pmB
  split <;> omega
theorem pe_rng (b : Nat) : -1074 ≤ peB b ∧ peB b ≤ 972 := by unfold peB; split <;> omega
theorem pm_lt (b : Nat) : pmB b < 18446744073709551616 := by unfold pmB; split <;> omega
theorem sgd_zero (ng : Bool) : sgd ng 0 = 0 := by cases ng <;> rfl
theorem el_prod {b : Nat} (hb : b < 18446744073709551616) (h : nan64 b = false) (h2 : infB b = false) : prod (pt 52 11 1023 b) one64 * ((2 ^ 52 : Nat) : Int) = sgd (sgB b) ((pmB b * 2 ^ (peB b + 2200).toNat : Nat) : Int) := by
  obtain ⟨k4, k3, k0⟩ := el_kind hb
  have hn := el_neg hb
  have hr := pe_rng b
  unfold prod pNn pIn pNt pSn
  rw [one_is]
  dsimp only
  rw [k4, k3, k0, hn, h, h2]
  cases h3 : nulB b
  · obtain ⟨m1, m2⟩ := el_mant h h2 hb h3
    rw [m1, m2]
    have e : pmB b * 4503599627370496 * 2 ^ (peB b + -52 + 2148).toNat * 2 ^ 52 = pmB b * 2 ^ (peB b + 2200).toNat := by
      rw [show (peB b + 2200).toNat = 52 + (peB b + -52 + 2148).toNat + 52 by omega, Nat.pow_add, Nat.pow_add, show (2 : Nat) ^ 52 = 4503599627370496 from rfl]
      simp only [Nat.mul_assoc]
    rw [← e]
    cases sgB b
    · simp [sgd, Int.natCast_mul]
    · simp [sgd, Int.natCast_mul, Int.neg_mul]
  · rw [pm_zero h3, Nat.zero_mul]
    simp [sgd_zero]
/-- What one float more says. -/
theorem add_one (F : Fl) {b : Nat} (hb : b < 18446744073709551616) : F.add (pt 52 11 1023 b) one64 = ⟨F.n || nan64 b, F.a || (infB b && !sgB b), F.l || (infB b && sgB b), F.m || (nulB b && sgB b), F.o || !(nulB b && sgB b)⟩ := by
  obtain ⟨k4, k3, k0⟩ := el_kind hb
  have hn := el_neg hb
  have x1 : nan64 b = true → infB b = false := fun h => by
    rw [nan64_is hb] at h
    have := of_decide_eq_true h
    exact decide_eq_false (by omega)
  have x2 : infB b = true → nulB b = false := fun h => by
    have := of_decide_eq_true h
    exact decide_eq_false (by omega)
  unfold Fl.add pNn pIn pNt pSn
  rw [one_is]
  dsimp only
  rw [k4, k3, k0, hn]
  cases a1 : nan64 b <;> cases a2 : infB b <;> cases a3 : nulB b <;> cases a4 : sgB b <;> simp_all
theorem exF_n {bs : List Nat} (hb : ∀ b ∈ bs, b < 18446744073709551616) : (∃ k, k < bs.length ∧ nan64 (bs.getD k 0) = true) → (exF bs).n = true := by
  rintro ⟨k, hk, h⟩
  have key : ∀ j, k < j → j ≤ bs.length → (exF (bs.take j)).n = true := by
    intro j hj
    induction j with
    | zero => omega
    | succ j ih =>
      intro hl
      rw [take_snoc bs j (by omega), exF_snoc, add_one _ (getD_lt hb j (by omega))]
      by_cases e : j = k
      · subst e; rw [h]; simp
      · rw [ih (by omega) (by omega)]; simp
  have := key bs.length hk (Nat.le_refl _)
  rwa [List.take_length] at this
theorem exF_o {bs : List Nat} (hb : ∀ b ∈ bs, b < 18446744073709551616) (h0 : 0 < bs.length) (h : (exF bs).o = false) : (exF bs).m = true := by
  have e : bs = bs.take (bs.length - 1) ++ [bs.getD (bs.length - 1) 0] := by
    rw [← take_snoc bs (bs.length - 1) (by omega), show bs.length - 1 + 1 = bs.length by omega, List.take_length]
  rw [e, exF_snoc, add_one _ (getD_lt hb _ (by omega))] at h ⊢
  simp at h ⊢
  exact .inr h.2
/-- What the document's Exact tells. -/
def rxB (bs : List Nat) : Nat := if ((exF bs).n || ((exF bs).a && (exF bs).l)) = true then 9218868437227405313 else exB bs
end Go.Proofs.Ytdhfkdopcphjlab
