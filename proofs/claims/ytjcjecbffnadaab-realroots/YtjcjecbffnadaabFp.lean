/-
  Other sizes, by numbers: what Into, From and Bits tell. Conditions: the sizes are ones that are reckoned with.
-/
import Derived.Test.YtjcjecbffnadaabFo
namespace Go.Proofs.Ytjcjecbffnadaab
open Go.RowKit
theorem fields (p k : Nat) (ng : Bool) (E F : Nat) (hE : E < 2 ^ k) (hF : F < 2 ^ p) :
    ((if ng = true then 2 ^ (p + k) else 0) + (E * 2 ^ p + F)) / 2 ^ p % 2 ^ k = E ∧ ((if ng = true then 2 ^ (p + k) else 0) + (E * 2 ^ p + F)) % 2 ^ p = F ∧ sg (p + k) ((if ng = true then 2 ^ (p + k) else 0) + (E * 2 ^ p + F)) = ng := by
  have hp := Nat.two_pow_pos p
  have hk := Nat.two_pow_pos k
  obtain ⟨s, hs, hs2, hs3⟩ : ∃ s : Nat, (if ng = true then 2 ^ (p + k) else 0) = s * 2 ^ k * 2 ^ p ∧ s < 2 ∧ decide (s = 1) = ng := by
    cases ng
    · exact ⟨0, by simp, by omega, by simp⟩
    · exact ⟨1, by rw [if_pos rfl, Nat.one_mul, Nat.pow_add, Nat.mul_comm], by omega, by simp⟩
  have e : (if ng = true then 2 ^ (p + k) else 0) + (E * 2 ^ p + F) = F + 2 ^ p * (s * 2 ^ k + E) := by
    rw [hs, Nat.mul_add, Nat.mul_comm (2 ^ p) (s * 2 ^ k), Nat.mul_comm (2 ^ p) E]; omega
  rw [e]
  have d : (F + 2 ^ p * (s * 2 ^ k + E)) / 2 ^ p = s * 2 ^ k + E := by
    rw [Nat.add_mul_div_left _ _ hp, Nat.div_eq_of_lt hF, Nat.zero_add]
  refine ⟨?_, ?_, ?_⟩
  · rw [d, Nat.mul_comm, Nat.mul_add_mod, Nat.mod_eq_of_lt hE]
  · rw [Nat.add_mul_mod_self_left, Nat.mod_eq_of_lt hF]
  · unfold sg
    rw [Nat.pow_add, ← Nat.div_div_eq_div_mul, d, Nat.add_comm, Nat.add_mul_div_right _ _ hk, Nat.div_eq_of_lt hE, Nat.zero_add, ← hs3]
    have : s % 2 = s := Nat.mod_eq_of_lt hs2
    simp [this]
theorem pt_of_inf {p k : Nat} {bi : Int} (L : Lay p k bi) (ng : Bool) : pt p k bi ((if ng = true then 2 ^ (p + k) else 0) + (2 ^ k - 1) * 2 ^ p) = ⟨3, ng, 0, 0, false, 0⟩ := by
  have hk := L.kk
  have hp := L.pp
  obtain ⟨f1, f2, f3⟩ := fields p k ng (2 ^ k - 1) 0 (by omega) (by omega)
  rw [Nat.add_zero] at f1 f2 f3
  unfold pt
  rw [f1, f2, f3, if_pos rfl, if_pos rfl]
theorem pt_of_none {p k : Nat} {bi : Int} (L : Lay p k bi) : pt p k bi ((2 ^ k - 1) * 2 ^ p + 2 ^ (p - 1)) = ⟨4, false, 0, 0, true, 0⟩ := by
  have hk := L.kk
  have hp := L.pp
  have hh := pow_half L.p1
  have hq := Nat.two_pow_pos (p - 1)
  obtain ⟨f1, f2, f3⟩ := fields p k false (2 ^ k - 1) (2 ^ (p - 1)) (by omega) (by omega)
  simp only [Bool.false_eq_true, if_false, Nat.zero_add] at f1 f2 f3
  unfold pt
  rw [f1, f2, f3, if_pos rfl, if_neg (by omega), Nat.mod_self, Nat.div_self hq]
  simp
theorem top_lt {p k : Nat} {bi : Int} (L : Lay p k bi) (ng : Bool) : (if ng = true then 2 ^ (p + k) else 0) + (2 ^ k - 1) * 2 ^ p < 2 ^ (p + k + 1) ∧ (2 ^ k - 1) * 2 ^ p + 2 ^ (p - 1) < 2 ^ (p + k + 1) := by
  have hinf := L.inf
  have hh := pow_half L.p1
  have hp := L.pp
  have e : 2 ^ (p + k + 1) = 2 * 2 ^ (p + k) := by rw [Nat.pow_succ]; omega
  constructor
  · split <;> omega
  · omega
theorem into_any {p k : Nat} {bi : Int} (L : Lay p k bi) (b : Nat) (w : World) (hb : b < 18446744073709551616) : Calls Try.prog 36 #[.int .u64 (b : Int), siz p k bi] w fun e w' => e = .returned (.int .u64 (rndB p k bi (pt 52 11 1023 b) : Nat)) ∧ Below w.heap.size w w' := by
  have k11 := fun w => rparts_any lay64 b w hb
  have sm := pt_small lay64 b
  have pe := pt_exp lay64 b
  have kof := fun w => rof_any L (pt 52 11 1023 b) sm.1 sm.2 w
  have kon := fun w => rof_any L ⟨4, false, 0, 0, true, 0⟩ (by decide) (by decide) w
  have krr := fun hz w => rrounded_all L (pt 52 11 1023 b).neg _ _ w hz sm.1 pe.1 pe.2
  have hinf := pt_inf (p := 52) (k := 11) (bi := 1023) (b := b)
  have hlow : (pt 52 11 1023 b).mant = 0 → ¬ (pt 52 11 1023 b).kind = 3 → ¬ (pt 52 11 1023 b).kind = 4 → (pt 52 11 1023 b).exp = 0 := by
    have e1 : (2 : Nat) ^ 52 = 4503599627370496 := by decide
    unfold pt
    repeat' split
    all_goals (dsimp only; intro h h3 h4; omega)
  have hbi := L.bi0
  have hp1 := L.p1
  unfold rndB
  generalize pt 52 11 1023 b = y at *
  obtain ⟨kd, ng, M, X, qu, LD⟩ := y
  unfold Pt.val at k11 kof kon
  dsimp only at *
  by_cases h4 : kd = 4
  · rw [if_pos h4]
    rw [ofB_some L (top_lt L false).2 (pt_of_none L)] at kon
    exact into_none b _ _ _ _ kd X ng qu M LD 0 w h4 k11 kon
  rw [if_neg h4]
  by_cases h3 : kd = 3
  · rw [if_pos h3]
    have e := hinf h3
    rw [ofB_some L (top_lt L ng).1 ((pt_of_inf L ng).trans e.symm)] at kof
    exact into_inf b _ _ _ _ kd X ng qu M LD 0 w h3 k11 kof
  · rw [if_neg h3]
    have k15 := krr (fun h => by rw [hlow h h3 h4]; omega)
    exact into_num b _ _ _ _ kd X ng qu M LD w (beq_eq_false_iff_ne.2 h3) (beq_eq_false_iff_ne.2 h4) k11 k15
theorem from_any {p k : Nat} {bi : Int} (L : Lay p k bi) (b : Nat) (w : World) (hb : b < 18446744073709551616) : Calls Try.prog 42 #[.int .u64 (b : Int), siz p k bi] w fun e w' => e = .returned (.int .u64 (rndB 52 11 1023 (pt p k bi b) : Nat)) ∧ Below w.heap.size w w' := by
  have k11 := fun w => rparts_any L b w hb
  have sm := pt_small L b
  have pe := pt_exp L b
  have kof := fun w => rof_any lay64 (pt p k bi b) sm.1 sm.2 w
  have krr := fun hz w => rrounded_all lay64 (pt p k bi b).neg _ _ w hz sm.1 pe.1 pe.2
  have hinf := pt_inf (p := p) (k := k) (bi := bi) (b := b)
  have hz := fun h3 h4 => pt_zero L (b := b) h3 h4
  have hbi := L.bi0
  have hp1 := L.p1
  have hp52 := L.p52
  unfold rndB
  generalize pt p k bi b = y at *
  obtain ⟨kd, ng, M, X, qu, LD⟩ := y
  unfold Pt.val at k11 kof
  dsimp only at *
  by_cases h4 : kd = 4
  · rw [if_pos h4]
    exact from_none b _ _ _ kd X ng qu M LD 0 w h4 k11
  rw [if_neg h4]
  by_cases h3 : kd = 3
  · rw [if_pos h3]
    have e := hinf h3
    rw [ofB_some lay64 (top_lt lay64 ng).1 ((pt_of_inf lay64 ng).trans e.symm)] at kof
    exact from_inf b _ _ _ _ kd X ng qu M LD 0 w h3 k11 kof
  · rw [if_neg h3]
    have k15 := krr (fun h => by have := hz h3 h4 h; omega)
    exact from_num b _ _ _ _ kd X ng qu M LD 0 w (beq_eq_false_iff_ne.2 h3) (beq_eq_false_iff_ne.2 h4) k11 k15
/-- The same fields with more bits of the fraction. -/
theorem pt_shift {p : Nat} (L : Lay p 11 1023) (v : Nat) (h4 : ¬ (pt p 11 1023 v).kind = 4) :
    (pt 52 11 1023 (v * 2 ^ (52 - p))).kind = (pt p 11 1023 v).kind ∧ (pt 52 11 1023 (v * 2 ^ (52 - p))).neg = (pt p 11 1023 v).neg ∧
    (pt 52 11 1023 (v * 2 ^ (52 - p))).mant = (pt p 11 1023 v).mant * 2 ^ (52 - p) ∧ (¬ (pt p 11 1023 v).mant = 0 → (pt 52 11 1023 (v * 2 ^ (52 - p))).exp = (pt p 11 1023 v).exp - ((52 - p : Nat) : Int)) := by
  have hp := L.p52
  have ht := Nat.two_pow_pos (52 - p)
  have e52 : 2 ^ 52 = 2 ^ p * 2 ^ (52 - p) := by rw [← Nat.pow_add]; congr 1; omega
  have d1 : v * 2 ^ (52 - p) / 2 ^ 52 = v / 2 ^ p := by rw [e52, Nat.mul_div_mul_right _ _ ht]
  have d2 : v * 2 ^ (52 - p) % 2 ^ 52 = v % 2 ^ p * 2 ^ (52 - p) := by rw [e52, Nat.mul_mod_mul_right]
  have d3 : sg (52 + 11) (v * 2 ^ (52 - p)) = sg (p + 11) v := by
    unfold sg
    have : 2 ^ (52 + 11) = 2 ^ (p + 11) * 2 ^ (52 - p) := by rw [← Nat.pow_add]; congr 1; omega
    rw [this, Nat.mul_div_mul_right _ _ ht]
  have z : v % 2 ^ p * 2 ^ (52 - p) = 0 ↔ v % 2 ^ p = 0 := by
    constructor
    · intro h; rcases Nat.mul_eq_zero.1 h with h | h
      · exact h
      · omega
    · intro h; rw [h, Nat.zero_mul]
  have hm : (2 ^ p + v % 2 ^ p) * 2 ^ (52 - p) = 2 ^ 52 + v % 2 ^ p * 2 ^ (52 - p) := by rw [Nat.add_mul, ← e52]
  have hu : pt 52 11 1023 (v * 2 ^ (52 - p)) = if v / 2 ^ p % 2 ^ 11 = 2 ^ 11 - 1 then
    if v % 2 ^ p * 2 ^ (52 - p) = 0 then ⟨3, sg (p + 11) v, 0, 0, false, 0⟩
    else ⟨4, sg (p + 11) v, 0, 0, decide (v % 2 ^ p * 2 ^ (52 - p) / 2 ^ (52 - 1) = 1), v % 2 ^ p * 2 ^ (52 - p) % 2 ^ (52 - 1)⟩
  else if v / 2 ^ p % 2 ^ 11 = 0 then
    if v % 2 ^ p * 2 ^ (52 - p) = 0 then ⟨0, sg (p + 11) v, 0, 0, false, 0⟩
    else ⟨1, sg (p + 11) v, v % 2 ^ p * 2 ^ (52 - p), 1 - 1023 - (52 : Nat), false, 0⟩
  else ⟨2, sg (p + 11) v, 2 ^ 52 + v % 2 ^ p * 2 ^ (52 - p), (v / 2 ^ p % 2 ^ 11 : Nat) - 1023 - (52 : Nat), false, 0⟩ := by
    unfold pt
    rw [d1, d2, d3]
  rw [hu]
  revert h4
  unfold pt
  by_cases c1 : v / 2 ^ p % 2 ^ 11 = 2 ^ 11 - 1
  · rw [if_pos c1, if_pos c1]
    by_cases c2 : v % 2 ^ p = 0
    · rw [if_pos c2, if_pos (z.2 c2)]
      intro _
      refine ⟨rfl, rfl, by simp, fun h => absurd rfl h⟩
    · rw [if_neg c2]
      intro h
      exact absurd rfl h
  · rw [if_neg c1, if_neg c1]
    by_cases c3 : v / 2 ^ p % 2 ^ 11 = 0
    · rw [if_pos c3, if_pos c3]
      by_cases c2 : v % 2 ^ p = 0
      · rw [if_pos c2, if_pos (z.2 c2)]
        intro _
        refine ⟨rfl, rfl, by simp, fun h => absurd rfl h⟩
      · rw [if_neg c2, if_neg (fun h => c2 (z.1 h))]
        intro _
        refine ⟨rfl, rfl, rfl, fun _ => ?_⟩
        dsimp only
        omega
    · rw [if_neg c3, if_neg c3]
      intro _
      refine ⟨rfl, rfl, hm.symm, fun _ => ?_⟩
      dsimp only
      omega
/-- A short number is the same with more bits. -/
theorem wider {p : Nat} (L : Lay p 11 1023) (v : Nat) (hv : v < 2 ^ (p + 11 + 1)) (h4 : ¬ (pt p 11 1023 v).kind = 4) : rndB 52 11 1023 (pt p 11 1023 v) = v * 2 ^ (52 - p) ∧ v * 2 ^ (52 - p) < 18446744073709551616 := by
  have hp := L.p52
  have hlt : v * 2 ^ (52 - p) < 18446744073709551616 := by
    have h := Nat.mul_lt_mul_of_pos_right hv (Nat.two_pow_pos (52 - p))
    rw [← Nat.pow_add, show p + 11 + 1 + (52 - p) = 64 by omega] at h
    omega
  refine ⟨?_, hlt⟩
  obtain ⟨a1, a2, a3, a4⟩ := pt_shift L v h4
  by_cases h3 : (pt p 11 1023 v).kind = 3
  · have hi := inf_back _ hlt (a1.trans h3)
    rw [a2] at hi
    rw [← hi]
    unfold rndB
    rw [if_neg h4, if_pos h3]
  · have hbk := bits_back _ hlt (by rw [a1]; exact h3) (by rw [a1]; exact h4)
    rw [← hbk]
    unfold rndB
    rw [if_neg h4, if_neg h3, a1, if_neg h4, if_neg h3, a2, a3]
    by_cases z : (pt p 11 1023 v).mant = 0
    · rw [z, Nat.zero_mul, nearB_nought, nearB_nought]
    · have hb : (pt p 11 1023 v).mant * 2 ^ (52 - p) < 2 ^ 64 := by
        rw [← a3]; exact (pt_small lay64 _).1
      rw [a4 z, nearB_scale 52 11 1023 _ _ _ z hb]
theorem layS {n : Nat} (h1 : 1 ≤ n) (h2 : n ≤ 52) : Lay n 11 1023 := ⟨h1, h2, by decide, by decide, by decide⟩
theorem kind_near {p k : Nat} {bi : Int} (L : Lay p k bi) (x : Pt) (hm : x.mant < 18446744073709551616) (h4 : ¬ x.kind = 4) : ¬ (pt p k bi (rndB p k bi x)).kind = 4 := by
  have hinf := L.inf
  have hp := L.pp
  have hk := L.kk
  have hle : (if x.kind = 3 then (2 ^ k - 1) * 2 ^ p else nearB p k bi x.mant x.exp) ≤ (2 ^ k - 1) * 2 ^ p := by
    split
    · omega
    · exact nearB_le L x.exp hm
  have hr : rndB p k bi x = (if x.neg then 2 ^ (p + k) else 0) + (if x.kind = 3 then (2 ^ k - 1) * 2 ^ p else nearB p k bi x.mant x.exp) := by
    unfold rndB; rw [if_neg h4]
  rw [hr]
  generalize (if x.kind = 3 then (2 ^ k - 1) * 2 ^ p else nearB p k bi x.mant x.exp) = N at *
  have hNE : N / 2 ^ p ≤ 2 ^ k - 1 := Nat.div_le_of_le_mul (by rw [Nat.mul_comm]; exact hle)
  have hNF := Nat.mod_lt N (show 2 ^ p > 0 by omega)
  obtain ⟨f1, f2, f3⟩ := fields p k x.neg (N / 2 ^ p) (N % 2 ^ p) (by omega) hNF
  have e : N / 2 ^ p * 2 ^ p + N % 2 ^ p = N := by rw [Nat.mul_comm]; exact Nat.div_add_mod N (2 ^ p)
  rw [e] at f1 f2 f3
  unfold pt
  rw [f1, f2, f3]
  by_cases c : N / 2 ^ p = 2 ^ k - 1
  · have hz : N % 2 ^ p = 0 := by
      have := Nat.div_add_mod N (2 ^ p)
      rw [c, Nat.mul_comm] at this
      omega
    rw [if_pos c, if_pos hz]
    show ¬ (3 : Int) = 4
    decide
  · rw [if_neg c]
    repeat' split
    all_goals (dsimp only; decide)
/-- Bits, the document's and the code's. -/
def bitV (n b : Nat) : Nat := rndB (n - 1) 11 1023 (pt 52 11 1023 b) * 2 ^ (53 - n)
theorem bitV_lt {n : Nat} (h1 : 2 ≤ n) (h2 : n ≤ 53) (b : Nat) : bitV n b < 18446744073709551616 := by
  have hv := rndB_lt (layS (n := n - 1) (by omega) (by omega)) (pt 52 11 1023 b) (pt_small lay64 b).1
  have h := Nat.mul_lt_mul_of_pos_right hv (Nat.two_pow_pos (53 - n))
  rw [← Nat.pow_add, show n - 1 + 11 + 1 + (53 - n) = 64 by omega] at h
  unfold bitV
  omega
theorem bits_any (n b : Nat) (w : World) (hb : b < 18446744073709551616) (h1 : 2 ≤ n) (h2 : n ≤ 53) : Calls Try.prog 44 #[.float .f64 b, .int .i64 (n : Int)] w fun e w' => e = .returned (.tuple #[.float .f64 (bitV n b), .int .i64 0]) ∧ Below w.heap.size w w' := by
  have L := layS (n := n - 1) (by omega) (by omega)
  have hlt := bitV_lt h1 h2 b
  have k46 := fun w => Parts_any b w hb
  have k56 := fun w => rounded_any L (pt 52 11 1023 b) w (pt_small lay64 b).1 (pt_exp lay64 b).1 (pt_exp lay64 b).2
  have k70 := fun w => short_any ((n - 1 : Nat) : Int) w
  have hs : IntKind.i64.wrap (53 - (n : Int)) = ((53 - n : Nat) : Int) := by
    rw [i64_in _ (by omega) (by omega)]; omega
  unfold bitV at hlt ⊢
  generalize hV1 : rndB (n - 1) 11 1023 (pt 52 11 1023 b) = V1 at *
  generalize pt 52 11 1023 b = y at *
  obtain ⟨kd, ng, M, X, qu, LD⟩ := y
  unfold Pt.val at k46 k56
  dsimp only at *
  refine bits_by b V1 _ n ((n - 1 : Nat) : Int) _ kd X ng qu M LD w (by omega) (by omega) (by rw [i64_in _ (by omega) (by omega)]; omega) hs (by omega) ?_ k46 k70 k56
  rw [Int.toNat_natCast, Nat.min_eq_left (by omega), pow_int, ← Int.natCast_mul, u64_small _ (by omega)]
theorem rbits_any (n b : Nat) (w : World) (hb : b < 18446744073709551616) (h1 : 2 ≤ n) (h2 : n ≤ 53) : Calls Try.prog 45 #[.int .u64 (b : Int), .int .i64 (n : Int)] w fun e w' => e = .returned (.int .u64 ((if (pt 52 11 1023 b).kind = 4 then b else bitV n b : Nat) : Int)) ∧ Below w.heap.size w w' := by
  have L := layS (n := n - 1) (by omega) (by omega)
  have hv := rndB_lt L (pt 52 11 1023 b) (pt_small lay64 b).1
  have k11 := fun w => rparts_any lay64 b w hb
  have k36 := fun w => into_any L b w hb
  have hV64 : rndB (n - 1) 11 1023 (pt 52 11 1023 b) < 18446744073709551616 := by
    have : 2 ^ (n - 1 + 11 + 1) ≤ 2 ^ 64 := Nat.pow_le_pow_right (by omega) (by omega)
    omega
  have k42 := fun w => from_any L (rndB (n - 1) 11 1023 (pt 52 11 1023 b)) w hV64
  by_cases h4 : (pt 52 11 1023 b).kind = 4
  · rw [if_pos h4]
    generalize pt 52 11 1023 b = y at *
    obtain ⟨kd, ng, M, X, qu, LD⟩ := y
    exact rbits_none b n kd X ng qu M LD w h4 k11
  · rw [if_neg h4]
    have hw := (wider L _ hv (kind_near L _ (pt_small lay64 b).1 h4)).1
    rw [hw, show 52 - (n - 1) = 53 - n by omega] at k42
    unfold bitV
    generalize rndB (n - 1) 11 1023 (pt 52 11 1023 b) = V1 at *
    generalize pt 52 11 1023 b = y at *
    obtain ⟨kd, ng, M, X, qu, LD⟩ := y
    exact rbits_num b V1 _ n ((n - 1 : Nat) : Int) kd X ng qu M LD w (by rw [i64_in _ (by omega) (by omega)]; omega) (beq_eq_false_iff_ne.2 h4) k11 k36 k42
end Go.Proofs.Ytjcjecbffnadaab
