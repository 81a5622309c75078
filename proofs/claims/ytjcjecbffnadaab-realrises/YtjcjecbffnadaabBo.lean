/-
  The contract of the bits that are made of parts: if there is a float with just these parts, its bits; and whether there is one. Conditions: the layout is one that is reckoned with; the numbers in the parts fit their types.
-/
import Derived.Test.YtjcjecbffnadaabEv
import Derived.Test.YtjcjecbffnadaabBa
namespace Go.Proofs.Ytjcjecbffnadaab
open Go.RowKit
theorem u64_wrap (n : Int) : IntKind.u64.wrap n = n % 18446744073709551616 := by simp [IntKind.wrap, IntKind.bits, IntKind.signed]
theorem pt_two {p k : Nat} {bi : Int} {b : Nat} {x : Pt} (e : pt p k bi b = x) (h : x.kind = 2) : 0 ≤ x.exp + bi + p - 1 := by
  subst e
  revert h
  unfold pt
  split
  · split <;> (intro h; simp at h)
  · split
    · split <;> (intro h; simp at h)
    · intro _; dsimp only; omega
theorem pt_four {p k : Nat} {bi : Int} {b : Nat} {x : Pt} (e : pt p k bi b = x) (h : x.kind = 4) : x.load < 2 ^ (p - 1) := by
  subst e
  revert h
  unfold pt
  split
  · split
    · intro h; simp at h
    · intro _; exact Nat.mod_lt _ (Nat.two_pow_pos _)
  · split
    · split <;> (intro h; simp at h)
    · intro h; simp at h
theorem pt_kind {p k : Nat} {bi : Int} {b : Nat} {x : Pt} (e : pt p k bi b = x) : x.kind = 0 ∨ x.kind = 1 ∨ x.kind = 2 ∨ x.kind = 3 ∨ x.kind = 4 := by
  subst e
  unfold pt
  repeat' split
  all_goals simp
/-- What the bits of the kind of a no number are, put together. -/
theorem or_inf {p k : Nat} {bi : Int} (L : Lay p k bi) {l : Nat} (h : l < 2 ^ (p - 1)) : (2 ^ k - 1) * 2 ^ p ||| l = (2 ^ k - 1) * 2 ^ p + l := by
  have := pow_half L.p1
  exact nat_join p _ _ (Nat.mul_mod_left _ _) (by omega)
theorem or_quiet {p k : Nat} {bi : Int} (L : Lay p k bi) {l : Nat} (h : l < 2 ^ (p - 1)) : ((2 ^ k - 1) * 2 ^ p ||| l) ||| 2 ^ (p - 1) = (2 ^ k - 1) * 2 ^ p + (2 ^ (p - 1) + l) := by
  have := pow_half L.p1
  rw [Nat.or_assoc, or_high h, nat_join p _ _ (Nat.mul_mod_left _ _) (by omega)]
  omega
section
variable {p k : Nat} {bi : Int} (L : Lay p k bi) (ng : Bool)
include L
theorem sum_lt (V : Nat) : (if ng then 2 ^ (p + k) else 0) + V % 2 ^ (p + k) < 2 ^ (p + k + 1) := by
  have _ := L
  have h := Nat.mod_lt V (Nat.two_pow_pos (p + k))
  rw [Nat.pow_succ]
  cases ng <;> simp <;> omega
theorem top2 : 2 ^ (p + k + 1) ≤ 18446744073709551616 := by
  have := L.top
  rw [Nat.pow_succ]; omega
theorem sub_one : IntKind.u64.wrap (((2 ^ (p + k) : Nat) : Int) - 1) = ((2 ^ (p + k) : Nat) : Int) - 1 := by
  have := L.top
  have h := Nat.two_pow_pos (p + k)
  rw [u64_wrap]; omega
theorem low_bits (V : Nat) (hV : V < 18446744073709551616) : bits .and .u64 (V : Int) (((2 ^ (p + k) : Nat) : Int) - 1) = ((V % 2 ^ (p + k) : Nat) : Int) := by
  have := L.top
  have h := Nat.two_pow_pos (p + k)
  have h1 : ((2 ^ (p + k) : Nat) : Int) - 1 = ((2 ^ (p + k) - 1 : Nat) : Int) := by omega
  rw [h1, u64_and_nat _ _ hV (by omega), and_low]
theorem one_of {x : Pt} (V : Nat) (h : ∀ b, b < 2 ^ (p + k + 1) → pt p k bi b = x → V % 2 ^ (p + k) = rung p k bi x) (b : Nat) (hb : b < 2 ^ (p + k + 1)) (e : pt p k bi b = x) : (if x.neg then 2 ^ (p + k) else 0) + V % 2 ^ (p + k) = b := by
  rw [h b hb e]
  have := back_pt L hb
  rw [e] at this
  exact this
theorem rung_lt {x : Pt} {b : Nat} (e : pt p k bi b = x) : rung p k bi x < 2 ^ (p + k) := by
  rw [← e, ← rung_pt L b]
  exact Nat.mod_lt _ (Nat.two_pow_pos _)
end
set_option maxHeartbeats 1000000 in
theorem bitsOf_any {p k : Nat} {bi : Int} (L : Lay p k bi) (x : Pt) (hm : x.mant < 18446744073709551616) (hl : x.load < 18446744073709551616) :
    ∃ B, B < 2 ^ (p + k + 1) ∧ (∀ b, b < 2 ^ (p + k + 1) → pt p k bi b = x → B = b) ∧ ∀ w, Calls Try.prog 71 #[lay p k bi, x.val] w fun e w' => e = .returned (.tuple #[.int .u64 (B : Int), .bool (decide (pt p k bi B = x))]) ∧ Below w.heap.size w w' := by
  have ht2 := top2 L
  have ht := L.top
  have hinf := L.inf
  have hpp := L.pp
  have hhalf := pow_half L.p1
  have hi0 : (2 ^ k - 1) * 2 ^ p < 18446744073709551616 := by
    have : (2 ^ k - 1) * 2 ^ p ≤ 2 ^ (p + k) := by rw [← hinf]; exact Nat.le_add_right _ _
    omega
  obtain ⟨kd, ng, M, X, qu, LD⟩ := x
  have main : ∀ V : Nat, V < 18446744073709551616 → (∀ b, b < 2 ^ (p + k + 1) → pt p k bi b = ⟨kd, ng, M, X, qu, LD⟩ → V % 2 ^ (p + k) = rung p k bi ⟨kd, ng, M, X, qu, LD⟩) →
      ((hVM : bits .and .u64 (V : Int) (((2 ^ (p + k) : Nat) : Int) - 1) = ((V % 2 ^ (p + k) : Nat) : Int)) → (B : Nat) → (B = (if ng then 2 ^ (p + k) else 0) + V % 2 ^ (p + k)) → (k60 : ∀ w, Calls Try.prog 74 #[lay p k bi, .int .u64 ((V % 2 ^ (p + k) : Nat) : Int), .bool ng] w fun e w' => e = .returned (.int .u64 (B : Int)) ∧ Below w.heap.size w w') →
        (k42 : ∀ w, Calls Try.prog 69 #[lay p k bi, .int .u64 (B : Int)] w fun e w' => e = .returned (pt p k bi B).val ∧ Below w.heap.size w w') → ∀ w, Calls Try.prog 71 #[lay p k bi, Pt.val ⟨kd, ng, M, X, qu, LD⟩] w fun e w' => e = .returned (.tuple #[.int .u64 (B : Int), .bool (decide (pt p k bi B = ⟨kd, ng, M, X, qu, LD⟩))]) ∧ Below w.heap.size w w') →
      ∃ B, B < 2 ^ (p + k + 1) ∧ (∀ b, b < 2 ^ (p + k + 1) → pt p k bi b = ⟨kd, ng, M, X, qu, LD⟩ → B = b) ∧ ∀ w, Calls Try.prog 71 #[lay p k bi, Pt.val ⟨kd, ng, M, X, qu, LD⟩] w fun e w' => e = .returned (.tuple #[.int .u64 (B : Int), .bool (decide (pt p k bi B = ⟨kd, ng, M, X, qu, LD⟩))]) ∧ Below w.heap.size w w' := by
    intro V hV hr hc
    have hB := sum_lt L ng V
    refine ⟨_, hB, one_of L V hr, hc (low_bits L V hV) _ rfl (fun w => signed_any L _ ng w (Nat.mod_lt _ (Nat.two_pow_pos _))) fun w => parts_any L _ w (by omega)⟩
  have k56 := fun w => sign_any L w
  have k57 := fun w => quiet_any L w
  have k58 := fun w => lowest_any L w
  have k59 := fun w => infinite_any L w
  have hs1 := sub_one L
  dsimp only at hm hl
  by_cases k1 : kd = 1
  · subst k1
    refine main M hm (fun b hb e => ?_) fun hVM B _ k60 k42 w => ?_
    · have := rung_lt L e
      have e2 : rung p k bi ⟨1, ng, M, X, qu, LD⟩ = M := rfl
      rw [e2] at this ⊢
      exact Nat.mod_eq_of_lt this
    · exact bits_sub w L.p1 L.p52 _ _ M _ B M LD X ng qu _ _ hs1 hVM k56 k60 k42 rfl (eg_val 57 58 _ ⟨1, ng, M, X, qu, LD⟩) (eq_val _ ⟨1, ng, M, X, qu, LD⟩)
  by_cases k2 : kd = 2
  · subst k2
    have d0 := Int.emod_nonneg (X - (1 - bi - p)) (by decide : (18446744073709551616 : Int) ≠ 0)
    obtain ⟨D, hD⟩ : ∃ D : Nat, (D : Int) = (X - (1 - bi - p)) % 18446744073709551616 := ⟨_, Int.toNat_of_nonneg d0⟩
    have g0 := Int.emod_nonneg ((D : Int) * 2 ^ p) (by decide : (18446744073709551616 : Int) ≠ 0)
    obtain ⟨Gg, hG⟩ : ∃ G : Nat, (G : Int) = ((D : Int) * 2 ^ p) % 18446744073709551616 := ⟨_, Int.toNat_of_nonneg g0⟩
    have v0 := Int.emod_nonneg ((Gg : Int) + M) (by decide : (18446744073709551616 : Int) ≠ 0)
    obtain ⟨V, hV⟩ : ∃ V : Nat, (V : Int) = ((Gg : Int) + M) % 18446744073709551616 := ⟨_, Int.toNat_of_nonneg v0⟩
    refine main V (by omega) (fun b hb e => ?_) fun hVM B _ k60 k42 w => ?_
    · have h1 := rung_lt L e
      have h2 := pt_two e rfl
      have e2 : rung p k bi ⟨2, ng, M, X, qu, LD⟩ = (X + bi + p - 1).toNat * 2 ^ p + M := rfl
      rw [e2] at h1 ⊢
      dsimp only at h2
      obtain ⟨n, hn⟩ : ∃ n : Nat, X + bi + p - 1 = n := ⟨_, (Int.toNat_of_nonneg h2).symm⟩
      rw [hn, Int.toNat_natCast] at h1 ⊢
      have hn1 : n ≤ n * 2 ^ p := Nat.le_mul_of_pos_right _ (by omega)
      have hDn : D = n := by omega
      subst hDn
      have hGn : Gg = D * 2 ^ p := by
        rw [pow_int, ← Int.natCast_mul] at hG
        generalize D * 2 ^ p = y at *
        omega
      subst hGn
      have hVn : V = D * 2 ^ p + M := by
        generalize D * 2 ^ p = y at *
        omega
      rw [hVn]
      exact Nat.mod_eq_of_lt h1
    · exact bits_normal w L.p1 L.p52 _ _ V _ B M LD X ng qu _ _ hs1 hVM k56 k60 k42 (1 - bi - p) D Gg (by rw [u64_wrap, u64_wrap, u64_wrap, hD]; omega) (by rw [u64_wrap, hG]) (by rw [u64_wrap, hV]) k58 (eg_val 57 58 _ ⟨2, ng, M, X, qu, LD⟩) (eq_val _ ⟨2, ng, M, X, qu, LD⟩)
  by_cases k3 : kd = 3
  · subst k3
    refine main ((2 ^ k - 1) * 2 ^ p) hi0 (fun b hb e => ?_) fun hVM B _ k60 k42 w => ?_
    · have := rung_lt L e
      have e2 : rung p k bi ⟨3, ng, M, X, qu, LD⟩ = (2 ^ k - 1) * 2 ^ p := rfl
      rw [e2] at this ⊢
      exact Nat.mod_eq_of_lt this
    · exact bits_inf w L.p1 L.p52 _ _ _ _ B M LD X ng qu _ _ hs1 hVM k56 k60 k42 _ rfl k59 (eg_val 57 58 _ ⟨3, ng, M, X, qu, LD⟩) (eq_val _ ⟨3, ng, M, X, qu, LD⟩)
  by_cases k4 : kd = 4
  · subst k4
    cases qu
    · refine main ((2 ^ k - 1) * 2 ^ p ||| LD) (Nat.or_lt_two_pow (n := 64) hi0 hl) (fun b hb e => ?_) fun hVM B _ k60 k42 w => ?_
      · have := rung_lt L e
        have h4 := pt_four e rfl
        have e2 : rung p k bi ⟨4, ng, M, X, false, LD⟩ = (2 ^ k - 1) * 2 ^ p + (0 + LD) := rfl
        rw [or_inf L h4]
        rw [e2, Nat.zero_add] at this ⊢
        exact Nat.mod_eq_of_lt this
      · exact bits_loud w L.p1 L.p52 _ _ _ _ B M LD X ng false _ _ hs1 hVM k56 k60 k42 _ _ (u64_or_nat _ _ hi0 hl) rfl rfl k59 (eg_val 57 58 _ ⟨4, ng, M, X, false, LD⟩) (eq_val _ ⟨4, ng, M, X, false, LD⟩)
    · have ho : (2 ^ k - 1) * 2 ^ p ||| LD < 18446744073709551616 := Nat.or_lt_two_pow (n := 64) hi0 hl
      have hq : 2 ^ (p - 1) < 18446744073709551616 := by omega
      refine main (((2 ^ k - 1) * 2 ^ p ||| LD) ||| 2 ^ (p - 1)) (Nat.or_lt_two_pow (n := 64) ho hq) (fun b hb e => ?_) fun hVM B _ k60 k42 w => ?_
      · have := rung_lt L e
        have h4 := pt_four e rfl
        have e2 : rung p k bi ⟨4, ng, M, X, true, LD⟩ = (2 ^ k - 1) * 2 ^ p + (2 ^ (p - 1) + LD) := rfl
        rw [or_quiet L h4]
        rw [e2] at this ⊢
        exact Nat.mod_eq_of_lt this
      · exact bits_quiet w L.p1 L.p52 _ _ _ _ B M LD X ng true _ _ hs1 hVM k56 k60 k42 _ _ _ (u64_or_nat _ _ hi0 hl) (u64_or_nat _ _ ho hq) rfl k57 k59 (eg_val 57 58 _ ⟨4, ng, M, X, true, LD⟩) (eq_val _ ⟨4, ng, M, X, true, LD⟩)
  · refine main 0 (by omega) (fun b hb e => ?_) fun hVM B _ k60 k42 w => ?_
    · have h5 := pt_kind e
      dsimp only at h5
      have e0 : kd = 0 := by omega
      subst e0
      exact Nat.zero_mod _
    · exact bits_other w L.p1 L.p52 _ _ 0 _ B M LD X ng qu _ _ hs1 hVM k56 k60 k42 kd hVM k1 k2 k3 k4 (eg_val 57 58 _ ⟨kd, ng, M, X, qu, LD⟩) (eq_val _ ⟨kd, ng, M, X, qu, LD⟩)
end Go.Proofs.Ytjcjecbffnadaab
