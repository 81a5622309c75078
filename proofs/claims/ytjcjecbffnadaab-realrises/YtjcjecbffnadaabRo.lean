/-
  The contract of the document's Of: the bits of the float whose parts these are, or the error. Conditions: the size is one that is reckoned with; the numbers in the parts fit their types.
-/
import Derived.Test.YtjcjecbffnadaabPl
import Derived.Test.YtjcjecbffnadaabBo
import Derived.Test.YtjcjecbffnadaabRp
import Derived.Test.YtjcjecbffnadaabVa
namespace Go.Proofs.Ytjcjecbffnadaab
open Go.RowKit
/-- What the document's Of answers. -/
def rofV (r : Option Nat) : Value := match r with | some b => .tuple #[.int .u64 (b : Int), .int .i64 0] | none => .tuple #[.int .u64 0, .int .i64 40]
theorem pt_bounds {p k : Nat} {bi : Int} {b : Nat} {x : Pt} (e : pt p k bi b = x) : x.mant < 2 ^ (p + 1) ∧ x.load < 2 ^ p := by
  subst e
  have h0 := Nat.two_pow_pos p
  have hF : b % 2 ^ p < 2 ^ p := Nat.mod_lt _ h0
  have hM : b % 2 ^ p % 2 ^ (p - 1) ≤ b % 2 ^ p := Nat.mod_le _ _
  rw [Nat.pow_succ]
  unfold pt
  repeat' split
  all_goals (dsimp only; constructor <;> omega)
theorem pt_norm {p k : Nat} {bi : Int} {b : Nat} {x : Pt} (e : pt p k bi b = x) (h : x.kind = 2) : x.exp < ((2 ^ k - 1 : Nat) : Int) - bi - p ∧ x.mant / 2 ^ p = 1 := by
  subst e
  have h0 := Nat.two_pow_pos p
  have hk := Nat.two_pow_pos k
  have hF : b % 2 ^ p < 2 ^ p := Nat.mod_lt _ h0
  have hE : b / 2 ^ p % 2 ^ k < 2 ^ k := Nat.mod_lt _ hk
  revert h
  unfold pt
  split
  · split <;> (intro h; simp at h)
  · rename_i hEK
    split
    · split <;> (intro h; simp at h)
    · intro _
      dsimp only
      refine ⟨by omega, ?_⟩
      rw [Nat.add_div_left _ h0, Nat.div_eq_of_lt hF]
theorem rof_end {p k : Nat} {bi : Int} (L : Lay p k bi) {x : Pt} (BB : Nat) (hB : BB < 2 ^ (p + k + 1)) (hu : ∀ b, b < 2 ^ (p + k + 1) → pt p k bi b = x → BB = b) :
    (if (!decide (pt p k bi BB = x)) = true then Value.tuple #[.int .u64 0, .int .i64 40] else .tuple #[.int .u64 (BB : Int), .int .i64 0]) = rofV (ofB p k bi x) := by
  by_cases e : pt p k bi BB = x
  · rw [ofB_some L hB e]; simp [e, rofV]
  · rw [ofB_none fun b hb h => e (by rw [hu b hb h]; exact h)]; simp [e, rofV]
theorem rof_bad {p k : Nat} {bi : Int} {x : Pt} (h : ∀ b, pt p k bi b ≠ x) : Value.tuple #[.int .u64 0, .int .i64 40] = rofV (ofB p k bi x) := by
  rw [ofB_none fun b _ => h b]; rfl
theorem siz_lt {p k : Nat} {bi : Int} (L : Lay p k bi) : 2 ^ (p + 1) < 2 ^ (p + k) := Nat.pow_lt_pow_right (by omega) (by have := L.k2; omega)
section
variable {p k : Nat} {bi : Int} (L : Lay p k bi) (x : Pt) (V : Nat) (hV : V < 2 ^ (p + k)) (hr : ∀ b, b < 2 ^ (p + k + 1) → pt p k bi b = x → V = rung p k bi x)
include L hV hr
theorem end_pos (hn : x.neg = false) : V < 2 ^ (p + k + 1) ∧ ∀ b, b < 2 ^ (p + k + 1) → pt p k bi b = x → V = b := by
  refine ⟨by rw [Nat.pow_succ]; omega, fun b hb e => ?_⟩
  have h1 := hr b hb e
  have h2 := back_pt L hb
  rw [e] at h2
  unfold back at h2
  rw [hn] at h2
  simp at h2
  omega
theorem end_neg (hn : x.neg = true) : bits .or .u64 (V : Int) ((2 ^ (p + k) : Nat) : Int) = ((V + 2 ^ (p + k) : Nat) : Int) ∧ V + 2 ^ (p + k) < 2 ^ (p + k + 1) ∧ ∀ b, b < 2 ^ (p + k + 1) → pt p k bi b = x → V + 2 ^ (p + k) = b := by
  have ht := L.top
  refine ⟨by rw [u64_or_nat _ _ (by omega) (by omega), or_high hV], by rw [Nat.pow_succ]; omega, fun b hb e => ?_⟩
  have h1 := hr b hb e
  have h2 := back_pt L hb
  rw [e] at h2
  unfold back at h2
  rw [hn] at h2
  simp at h2
  omega
end
set_option maxHeartbeats 2000000 in
theorem rof_any {p k : Nat} {bi : Int} (L : Lay p k bi) (x : Pt) (hm : x.mant < 18446744073709551616) (hl : x.load < 18446744073709551616) (w : World) : Calls Try.prog 66 #[x.val, siz p k bi] w fun e w' => e = .returned (rofV (ofB p k bi x)) ∧ Below w.heap.size w w' := by
  have ht := L.top
  have ht2 := top2 L
  have hk := L.kk
  have hp := L.pp
  have hbi := L.bi0
  have hp1 := L.p1
  have hp52 := L.p52
  have hsl := siz_lt L
  have hinf := L.inf
  have hhalf := pow_half L.p1
  have e1 := u64_pow p (by omega)
  have e2 := u64_pow (p + 1) (by omega)
  have k44 := fun w => rsign_any L w
  have hi1 : (2 ^ k - 1) * 2 ^ p < 2 ^ (p + k) := by
    rw [← hinf]; exact Nat.lt_add_of_pos_right (by omega)
  have hi2 : IntKind.u64.wrap (((2 ^ k - 1 : Nat) : Int) * 2 ^ p) = (((2 ^ k - 1) * 2 ^ p : Nat) : Int) := by
    rw [pow_int, ← Int.natCast_mul, u64_small _ (by omega)]
  obtain ⟨kd, ng, M, X, qu, LD⟩ := x
  dsimp only at hm hl
  by_cases c1 : (((2 ^ p : Nat) : Int)) < LD
  · have hb : ∀ b, pt p k bi b ≠ ⟨kd, ng, M, X, qu, LD⟩ := fun b e => by
      have := (pt_bounds e).2
      dsimp only at this
      omega
    rw [← rof_bad hb]
    by_cases k1 : kd = 1
    · subst k1; exact rof_s_load w hp1 hp52 hbi.1 hbi.2 _ _ _ M LD X ng qu (by omega) (by omega) e1 e2 (by omega) (by omega) c1
    by_cases k2 : kd = 2
    · subst k2
      by_cases r1 : X < 1 - bi - p
      · exact rof_n_low w hp1 hp52 hbi.1 hbi.2 _ _ _ M LD X ng qu (by omega) (by omega) e1 e2 (by omega) (by omega) r1
      by_cases r2 : ((2 ^ k - 1 : Nat) : Int) - bi - p ≤ X
      · exact rof_n_high w hp1 hp52 hbi.1 hbi.2 _ _ _ M LD X ng qu (by omega) (by omega) e1 e2 (by omega) (by omega) r1 r2
      by_cases r3 : (M : Int) / 2 ^ p = 1
      · exact rof_n_load w hp1 hp52 hbi.1 hbi.2 _ _ _ M LD X ng qu (by omega) (by omega) e1 e2 (by omega) (by omega) ((IntKind.u64.wrap ((X + bi + p) * 2 ^ p)).toNat) (M % 2 ^ p) ((IntKind.u64.wrap ((X + bi + p) * 2 ^ p)).toNat ||| M % 2 ^ p) r1 r2 r3 (Int.toNat_of_nonneg (by rw [u64_wrap]; omega)).symm (fF L M hm) (u64_or_nat _ _ (by rw [u64_wrap]; omega) (Nat.lt_of_le_of_lt (Nat.mod_le _ _) hm)) c1
      · exact rof_n_bits w hp1 hp52 hbi.1 hbi.2 _ _ _ M LD X ng qu (by omega) (by omega) e1 e2 (by omega) (by omega) r1 r2 (bne_iff_ne.2 r3)
    by_cases k3 : kd = 3
    · subst k3; exact rof_i_load w hp1 hp52 hbi.1 hbi.2 _ _ _ M LD X ng qu (by omega) (by omega) e1 e2 (by omega) (by omega) _ hi2 c1
    by_cases k4 : kd = 4
    · subst k4
      cases qu
      · exact rof_l_load w hp1 hp52 hbi.1 hbi.2 _ _ _ M LD X ng (by omega) (by omega) e1 e2 (by omega) (by omega) _ _ hi2 (u64_or_nat _ _ (by omega) hl) c1
      · exact rof_q_load w hp1 hp52 hbi.1 hbi.2 _ _ _ M LD X ng (by omega) (by omega) e1 e2 (by omega) (by omega) _ _ _ _ hi2 (u64_or_nat _ _ (by omega) hl) (u64_pow (p - 1) (by omega)) (u64_or_nat _ _ (Nat.or_lt_two_pow (n := 64) (by omega) hl) (by omega)) c1
    · exact rof_o_load w hp1 hp52 hbi.1 hbi.2 _ _ _ M LD X ng qu (by omega) (by omega) e1 e2 (by omega) (by omega) kd k1 k2 k3 k4 c1
  by_cases c2 : (((2 ^ (p + 1) : Nat) : Int)) < M
  · have hb : ∀ b, pt p k bi b ≠ ⟨kd, ng, M, X, qu, LD⟩ := fun b e => by
      have := (pt_bounds e).1
      dsimp only at this
      omega
    rw [← rof_bad hb]
    by_cases k1 : kd = 1
    · subst k1; exact rof_s_mant w hp1 hp52 hbi.1 hbi.2 _ _ _ M LD X ng qu (by omega) (by omega) e1 e2 (by omega) (by omega) c1 c2
    by_cases k2 : kd = 2
    · subst k2
      by_cases r1 : X < 1 - bi - p
      · exact rof_n_low w hp1 hp52 hbi.1 hbi.2 _ _ _ M LD X ng qu (by omega) (by omega) e1 e2 (by omega) (by omega) r1
      by_cases r2 : ((2 ^ k - 1 : Nat) : Int) - bi - p ≤ X
      · exact rof_n_high w hp1 hp52 hbi.1 hbi.2 _ _ _ M LD X ng qu (by omega) (by omega) e1 e2 (by omega) (by omega) r1 r2
      by_cases r3 : (M : Int) / 2 ^ p = 1
      · exact rof_n_mant w hp1 hp52 hbi.1 hbi.2 _ _ _ M LD X ng qu (by omega) (by omega) e1 e2 (by omega) (by omega) ((IntKind.u64.wrap ((X + bi + p) * 2 ^ p)).toNat) (M % 2 ^ p) ((IntKind.u64.wrap ((X + bi + p) * 2 ^ p)).toNat ||| M % 2 ^ p) r1 r2 r3 (Int.toNat_of_nonneg (by rw [u64_wrap]; omega)).symm (fF L M hm) (u64_or_nat _ _ (by rw [u64_wrap]; omega) (Nat.lt_of_le_of_lt (Nat.mod_le _ _) hm)) c1 c2
      · exact rof_n_bits w hp1 hp52 hbi.1 hbi.2 _ _ _ M LD X ng qu (by omega) (by omega) e1 e2 (by omega) (by omega) r1 r2 (bne_iff_ne.2 r3)
    by_cases k3 : kd = 3
    · subst k3; exact rof_i_mant w hp1 hp52 hbi.1 hbi.2 _ _ _ M LD X ng qu (by omega) (by omega) e1 e2 (by omega) (by omega) _ hi2 c1 c2
    by_cases k4 : kd = 4
    · subst k4
      cases qu
      · exact rof_l_mant w hp1 hp52 hbi.1 hbi.2 _ _ _ M LD X ng (by omega) (by omega) e1 e2 (by omega) (by omega) _ _ hi2 (u64_or_nat _ _ (by omega) hl) c1 c2
      · exact rof_q_mant w hp1 hp52 hbi.1 hbi.2 _ _ _ M LD X ng (by omega) (by omega) e1 e2 (by omega) (by omega) _ _ _ _ hi2 (u64_or_nat _ _ (by omega) hl) (u64_pow (p - 1) (by omega)) (u64_or_nat _ _ (Nat.or_lt_two_pow (n := 64) (by omega) hl) (by omega)) c1 c2
    · exact rof_o_mant w hp1 hp52 hbi.1 hbi.2 _ _ _ M LD X ng qu (by omega) (by omega) e1 e2 (by omega) (by omega) kd k1 k2 k3 k4 c1 c2
  have main : ∀ V : Nat, V < 2 ^ (p + k) → (∀ b, b < 2 ^ (p + k + 1) → pt p k bi b = ⟨kd, ng, M, X, qu, LD⟩ → V = rung p k bi ⟨kd, ng, M, X, qu, LD⟩) →
      (ng = false → (∀ w, Calls Try.prog 11 #[.int .u64 (V : Int), siz p k bi] w fun e w' => e = .returned (pt p k bi V).val ∧ Below w.heap.size w w') → Calls Try.prog 66 #[Pt.val ⟨kd, ng, M, X, qu, LD⟩, siz p k bi] w fun e w' => e = .returned (if (!decide (pt p k bi V = ⟨kd, ng, M, X, qu, LD⟩)) = true then Value.tuple #[.int .u64 0, .int .i64 40] else .tuple #[.int .u64 (V : Int), .int .i64 0]) ∧ Below w.heap.size w w') →
      (ng = true → ∀ VS : Nat, bits .or .u64 (V : Int) ((2 ^ (p + k) : Nat) : Int) = (VS : Int) → (∀ w, Calls Try.prog 11 #[.int .u64 (VS : Int), siz p k bi] w fun e w' => e = .returned (pt p k bi VS).val ∧ Below w.heap.size w w') → Calls Try.prog 66 #[Pt.val ⟨kd, ng, M, X, qu, LD⟩, siz p k bi] w fun e w' => e = .returned (if (!decide (pt p k bi VS = ⟨kd, ng, M, X, qu, LD⟩)) = true then Value.tuple #[.int .u64 0, .int .i64 40] else .tuple #[.int .u64 (VS : Int), .int .i64 0]) ∧ Below w.heap.size w w') →
      Calls Try.prog 66 #[Pt.val ⟨kd, ng, M, X, qu, LD⟩, siz p k bi] w fun e w' => e = .returned (rofV (ofB p k bi ⟨kd, ng, M, X, qu, LD⟩)) ∧ Below w.heap.size w w' := by
    intro V hV hr hf htr
    cases hng : ng
    · subst hng
      obtain ⟨a1, a2⟩ := end_pos L _ V hV hr rfl
      have key := hf rfl fun w => rparts_any L V w (by omega)
      rw [rof_end L V a1 a2] at key
      exact key
    · subst hng
      obtain ⟨a0, a1, a2⟩ := end_neg L _ V hV hr rfl
      have key := htr rfl _ a0 fun w => rparts_any L _ w (by omega)
      rw [rof_end L _ a1 a2] at key
      exact key
  by_cases k1 : kd = 1
  · subst k1
    refine main M (by omega) (fun _ _ _ => rfl) (fun hn k15 => ?_) fun hn VS hVS k15 => ?_
    · subst hn; exact rof_s_false w hp1 hp52 hbi.1 hbi.2 _ _ _ M LD X qu (by omega) (by omega) e1 e2 (by omega) (by omega) c1 c2 _ _ k15 (ng_val 123 124 _ ⟨1, false, M, X, qu, LD⟩) (ne_val _ ⟨1, false, M, X, qu, LD⟩)
    · subst hn; exact rof_s_true w hp1 hp52 hbi.1 hbi.2 _ _ _ M LD X qu (by omega) (by omega) e1 e2 (by omega) (by omega) _ VS hVS k44 c1 c2 _ _ k15 (ng_val 123 124 _ ⟨1, true, M, X, qu, LD⟩) (ne_val _ ⟨1, true, M, X, qu, LD⟩)
  by_cases k2 : kd = 2
  · subst k2
    have nb : ∀ h : ∀ b, pt p k bi b ≠ ⟨2, ng, M, X, qu, LD⟩, Value.tuple #[.int .u64 0, .int .i64 40] = rofV (ofB p k bi ⟨2, ng, M, X, qu, LD⟩) := fun h => rof_bad h
    by_cases r1 : X < 1 - bi - p
    · rw [← nb fun b e => by have := pt_two e rfl; dsimp only at this; omega]
      exact rof_n_low w hp1 hp52 hbi.1 hbi.2 _ _ _ M LD X ng qu (by omega) (by omega) e1 e2 (by omega) (by omega) r1
    by_cases r2 : ((2 ^ k - 1 : Nat) : Int) - bi - p ≤ X
    · rw [← nb fun b e => by have := (pt_norm e rfl).1; dsimp only at this; omega]
      exact rof_n_high w hp1 hp52 hbi.1 hbi.2 _ _ _ M LD X ng qu (by omega) (by omega) e1 e2 (by omega) (by omega) r1 r2
    by_cases r3 : (M : Int) / 2 ^ p = 1
    · obtain ⟨E, hE⟩ : ∃ E : Nat, X + bi + p = E := ⟨_, (Int.toNat_of_nonneg (by omega)).symm⟩
      have hE1 : 1 ≤ E := by omega
      have hE2 : E + 1 ≤ 2 ^ k - 1 := by omega
      have hEs : E * 2 ^ p + 2 ^ p ≤ (2 ^ k - 1) * 2 ^ p := by
        rw [← Nat.succ_mul]; exact Nat.mul_le_mul_right _ hE2
      have hF : M % 2 ^ p < 2 ^ p := Nat.mod_lt _ (by omega)
      have hG : IntKind.u64.wrap ((X + bi + p) * 2 ^ p) = ((E * 2 ^ p : Nat) : Int) := by
        rw [hE, pow_int, ← Int.natCast_mul, u64_small _ (by omega)]
      have hVV : bits .or .u64 ((E * 2 ^ p : Nat) : Int) ((M % 2 ^ p : Nat) : Int) = ((E * 2 ^ p + M % 2 ^ p : Nat) : Int) := by
        rw [u64_or_nat _ _ (by omega) (by omega), nat_join p _ _ (Nat.mul_mod_left _ _) hF]
      have hM1 : M / 2 ^ p = 1 := by
        rw [pow_int, ← Int.natCast_ediv] at r3
        omega
      have hMs : M = 2 ^ p + M % 2 ^ p := by
        have := Nat.div_add_mod M (2 ^ p)
        rw [hM1] at this
        omega
      have hru : rung p k bi ⟨2, ng, M, X, qu, LD⟩ = E * 2 ^ p + M % 2 ^ p := by
        show (X + bi + p - 1).toNat * 2 ^ p + M = _
        have h9 : (X + bi + p - 1).toNat = E - 1 := by omega
        rw [h9]
        obtain ⟨n, rfl⟩ : ∃ n, E = n + 1 := ⟨E - 1, by omega⟩
        rw [Nat.add_sub_cancel, Nat.succ_mul]
        omega
      refine main (E * 2 ^ p + M % 2 ^ p) (by omega) (fun _ _ _ => hru.symm) (fun hn k15 => ?_) fun hn VS hVS k15 => ?_
      · subst hn; exact rof_n_false w hp1 hp52 hbi.1 hbi.2 _ _ _ M LD X qu (by omega) (by omega) e1 e2 (by omega) (by omega) _ _ _ r1 r2 r3 hG (fF L M hm) hVV c1 c2 _ _ k15 (ng_val 123 124 _ ⟨2, false, M, X, qu, LD⟩) (ne_val _ ⟨2, false, M, X, qu, LD⟩)
      · subst hn; exact rof_n_true w hp1 hp52 hbi.1 hbi.2 _ _ _ M LD X qu (by omega) (by omega) e1 e2 (by omega) (by omega) _ _ _ r1 r2 r3 hG (fF L M hm) hVV _ VS hVS k44 c1 c2 _ _ k15 (ng_val 123 124 _ ⟨2, true, M, X, qu, LD⟩) (ne_val _ ⟨2, true, M, X, qu, LD⟩)
    · rw [← nb fun b e => by
        have h8 := (pt_norm e rfl).2
        dsimp only at h8
        rw [pow_int, ← Int.natCast_ediv, h8] at r3
        exact r3 rfl]
      exact rof_n_bits w hp1 hp52 hbi.1 hbi.2 _ _ _ M LD X ng qu (by omega) (by omega) e1 e2 (by omega) (by omega) r1 r2 (bne_iff_ne.2 r3)
  by_cases k3 : kd = 3
  · subst k3
    refine main ((2 ^ k - 1) * 2 ^ p) hi1 (fun _ _ _ => rfl) (fun hn k15 => ?_) fun hn VS hVS k15 => ?_
    · subst hn; exact rof_i_false w hp1 hp52 hbi.1 hbi.2 _ _ _ M LD X qu (by omega) (by omega) e1 e2 (by omega) (by omega) _ hi2 c1 c2 _ _ k15 (ng_val 123 124 _ ⟨3, false, M, X, qu, LD⟩) (ne_val _ ⟨3, false, M, X, qu, LD⟩)
    · subst hn; exact rof_i_true w hp1 hp52 hbi.1 hbi.2 _ _ _ M LD X qu (by omega) (by omega) e1 e2 (by omega) (by omega) _ hi2 _ VS hVS k44 c1 c2 _ _ k15 (ng_val 123 124 _ ⟨3, true, M, X, qu, LD⟩) (ne_val _ ⟨3, true, M, X, qu, LD⟩)
  by_cases k4 : kd = 4
  · subst k4
    have hLD : LD < 2 ^ (p + k) := by omega
    have ho := Nat.or_lt_two_pow hi1 hLD
    cases qu
    · refine main ((2 ^ k - 1) * 2 ^ p ||| LD) ho (fun b hb e => ?_) (fun hn k15 => ?_) fun hn VS hVS k15 => ?_
      · have h4 := pt_four e rfl
        rw [or_inf L h4]
        show _ = (2 ^ k - 1) * 2 ^ p + (0 + LD)
        rw [Nat.zero_add]
      · subst hn; exact rof_l_false w hp1 hp52 hbi.1 hbi.2 _ _ _ M LD X (by omega) (by omega) e1 e2 (by omega) (by omega) _ _ hi2 (u64_or_nat _ _ (by omega) hl) c1 c2 _ _ k15 (ng_val 123 124 _ ⟨4, false, M, X, false, LD⟩) (ne_val _ ⟨4, false, M, X, false, LD⟩)
      · subst hn; exact rof_l_true w hp1 hp52 hbi.1 hbi.2 _ _ _ M LD X (by omega) (by omega) e1 e2 (by omega) (by omega) _ _ hi2 (u64_or_nat _ _ (by omega) hl) _ VS hVS k44 c1 c2 _ _ k15 (ng_val 123 124 _ ⟨4, true, M, X, false, LD⟩) (ne_val _ ⟨4, true, M, X, false, LD⟩)
    · have hq : 2 ^ (p - 1) < 2 ^ (p + k) := by omega
      refine main (((2 ^ k - 1) * 2 ^ p ||| LD) ||| 2 ^ (p - 1)) (Nat.or_lt_two_pow ho hq) (fun b hb e => ?_) (fun hn k15 => ?_) fun hn VS hVS k15 => ?_
      · have h4 := pt_four e rfl
        exact or_quiet L h4
      · subst hn; exact rof_q_false w hp1 hp52 hbi.1 hbi.2 _ _ _ M LD X (by omega) (by omega) e1 e2 (by omega) (by omega) _ _ _ _ hi2 (u64_or_nat _ _ (by omega) hl) (u64_pow (p - 1) (by omega)) (u64_or_nat _ _ (by omega) (by omega)) c1 c2 _ _ k15 (ng_val 123 124 _ ⟨4, false, M, X, true, LD⟩) (ne_val _ ⟨4, false, M, X, true, LD⟩)
      · subst hn; exact rof_q_true w hp1 hp52 hbi.1 hbi.2 _ _ _ M LD X (by omega) (by omega) e1 e2 (by omega) (by omega) _ _ _ _ hi2 (u64_or_nat _ _ (by omega) hl) (u64_pow (p - 1) (by omega)) (u64_or_nat _ _ (by omega) (by omega)) _ VS hVS k44 c1 c2 _ _ k15 (ng_val 123 124 _ ⟨4, true, M, X, true, LD⟩) (ne_val _ ⟨4, true, M, X, true, LD⟩)
  · refine main 0 (by omega) (fun b hb e => ?_) (fun hn k15 => ?_) fun hn VS hVS k15 => ?_
    · show 0 = rung p k bi ⟨kd, ng, M, X, qu, LD⟩
      simp [rung, k1, k2, k3, k4]
    · subst hn; exact rof_o_false w hp1 hp52 hbi.1 hbi.2 _ _ _ M LD X qu (by omega) (by omega) e1 e2 (by omega) (by omega) kd k1 k2 k3 k4 c1 c2 _ _ k15 (ng_val 123 124 _ ⟨kd, false, M, X, qu, LD⟩) (ne_val _ ⟨kd, false, M, X, qu, LD⟩)
    · subst hn; exact rof_o_true w hp1 hp52 hbi.1 hbi.2 _ _ _ M LD X qu (by omega) (by omega) e1 e2 (by omega) (by omega) kd k1 k2 k3 k4 _ VS hVS k44 c1 c2 _ _ k15 (ng_val 123 124 _ ⟨kd, true, M, X, qu, LD⟩) (ne_val _ ⟨kd, true, M, X, qu, LD⟩)
end Go.Proofs.Ytjcjecbffnadaab
