/-
  The contract of the document's Rounded: it is the nearest float's bits. Conditions: the size is one that is reckoned with; the number is not 0, and its exponent is not too great.
-/
import Derived.Test.YtjcjecbffnadaabTc
import Derived.Test.YtjcjecbffnadaabWa
namespace Go.Proofs.Ytjcjecbffnadaab
open Go.RowKit
theorem mod_top {P x : Nat} (h1 : P ≤ x) (h2 : x < 2 * P) : x % P = x - P := by
  rw [Nat.mod_eq_sub_mod h1, Nat.mod_eq_of_lt (by omega)]
section
variable {p k : Nat} {bi : Int} (L : Lay p k bi) {n : Nat} {e U : Int} (h0 : ¬ n = 0) (hn : n < 18446744073709551616) (hU : U = max (e + (Lib.bitLen n : Nat) - 1 - (p : Int)) (1 - bi - p))
include L h0 hn hU
theorem near_low {M : Nat} (h : U ≤ 1 - bi - p) (hin : inU n (U - e) = M) (hM : M ≤ 2 ^ p) : nearB p k bi n e = M := by
  have hb := two_bi L
  have hk := L.kk
  have _ := hM
  have _ := hn
  unfold nearB
  rw [if_neg h0, if_neg (by omega), ← hU, hin]
  have e1 : (U - (1 - bi - p)).toNat = 0 := by omega
  rw [e1]; omega
theorem near_mid {M E : Nat} (hE : U + bi + p = E) (hin : inU n (U - e) = M) (hM : 2 ^ p ≤ M) (h : U < ((2 ^ k - 1 : Nat) : Int) - bi - p) : nearB p k bi n e = E * 2 ^ p + (M - 2 ^ p) := by
  have hb := two_bi L
  have hk := L.kk
  have _ := hn
  unfold nearB
  rw [if_neg h0, if_neg (by omega), ← hU, hin]
  have e1 : (U - (1 - bi - p)).toNat = E - 1 := by omega
  rw [e1]
  obtain ⟨m, rfl⟩ : ∃ m, E = m + 1 := ⟨E - 1, by omega⟩
  rw [Nat.add_sub_cancel, Nat.succ_mul]
  omega
theorem near_carry {M E : Nat} (hE : U + bi + p = E) (hin : inU n (U - e) = M) (hM : M = 2 * 2 ^ p) (h : U + 1 < ((2 ^ k - 1 : Nat) : Int) - bi - p) : nearB p k bi n e = (E + 1) * 2 ^ p := by
  rw [near_mid L h0 hn hU hE hin (by omega) (by omega), Nat.succ_mul]
  omega
theorem near_far (h : ((2 ^ k - 1 : Nat) : Int) - bi - p ≤ U) : nearB p k bi n e = (2 ^ k - 1) * 2 ^ p := by
  have hb := two_bi L
  have hk := L.kk
  have _ := hn
  unfold nearB
  rw [if_neg h0, if_pos (by omega)]
theorem near_edge {M : Nat} (hin : inU n (U - e) = M) (hM : M = 2 * 2 ^ p) (h : ((2 ^ k - 1 : Nat) : Int) - bi - p ≤ U + 1) : nearB p k bi n e = (2 ^ k - 1) * 2 ^ p := by
  by_cases c : ((2 ^ k - 1 : Nat) : Int) - bi - p ≤ U
  · exact near_far L h0 hn hU c
  · have hb := two_bi L
    have hk := L.kk
    obtain ⟨E, hE⟩ : ∃ E : Nat, U + bi + p = E := ⟨_, (Int.toNat_of_nonneg (by omega)).symm⟩
    rw [near_mid L h0 hn hU hE hin (by omega) (by omega)]
    have e1 : 2 ^ k - 1 = E + 1 := by omega
    rw [e1, Nat.succ_mul]
    omega
end
set_option maxRecDepth 100000 in
set_option maxHeartbeats 2000000 in
theorem rG {Q : Ending → World → Prop} {p : Nat} {bi : Int} {K : Nat} (ng st : Bool) (n : Nat) (e : Int) (h1 : 1 ≤ p) (h2 : p ≤ 52) (hb0 : 0 ≤ bi) (hb1 : bi ≤ 1023) (w : World)
    (hK : Hid (∀ a w', Below w.heap.size w w' → w'.heap[w.heap.size]? = some (.cells #[.int .i64 p, .int .i64 K, .int .i64 bi] 30 (0, 0)) → At 157 [(0, .bool ng), (1, .int .u64 (n : Int)), (2, .int .i64 e), (3, .bool st), (9, .pointer (some ⟨w.heap.size, 0, none⟩)), (11, .int .i64 (1 - bi - p)), (12, .bool false)] a → Code.wp Try.prog (sq 3 body37) (bodyPost Try.prog Try.f15 Q) a w')) :
    Calls Try.prog 15 #[.bool ng, .int .u64 (n : Int), .int .i64 e, .bool st, .agg #[.int .i64 p, .int .i64 K, .int .i64 bi]] w Q := by
  go_enter Try.func15, Try.ntmps15
  change Code.wp _ (Code.seq (hd (sq 0 body37)) (Code.seq (hd (sq 1 body37)) (Code.seq (hd (sq 2 body37)) (sq 3 body37)))) _ _ _
  generalize sq 3 body37 = REST at hK ⊢
  conv => arg 2; arg 1; whnf
  conv => arg 2; arg 2; arg 1; whnf
  conv => arg 2; arg 2; arg 2; arg 1; whnf
  go_wp2
  exact hK.out _ _ ((Below.refl _ _).alloc (Nat.le_refl _) _) (heap_alloc_last _ _) ⟨rfl, rfl, rfl, rfl, rfl, rfl, rfl, rfl, rfl, trivial⟩
def endV (p k : Nat) (bi : Int) (n : Nat) (x : Int) : Nat :=
  if n = 0 then 0 else if n < 2 ^ p then n else if ((2 ^ k - 1 : Nat) : Int) - bi - p ≤ x then (2 ^ k - 1) * 2 ^ p else (x + bi + p).toNat * 2 ^ p + n % 2 ^ p
def carV (p k : Nat) (bi : Int) (n : Nat) (x : Int) : Nat := if n = 2 ^ (p + 1) then endV p k bi (2 ^ p) (x + 1) else endV p k bi n x
set_option maxHeartbeats 1000000 in
theorem rB_any {p k : Nat} {bi : Int} (L : Lay p k bi) (ng : Bool) (g : Nat) (a : Act) (w0 w : World) (B : Hid (Below w0.heap.size w0 w)) (r : Hid (w.heap[g]? = some (.cells #[.int .i64 p, .int .i64 ((2 ^ k - 1 : Nat) : Int), .int .i64 bi] 30 (0, 0)))) (x : Int) (hx1 : -70000 ≤ x) (hx2 : x ≤ 70001) (n : Nat) (hn : n < 2 ^ (p + 1)) (hx : 2 ^ p ≤ n → 1 - bi - p ≤ x) (ha : At 157 [(0, .bool ng), (1, .int .u64 (n : Int)), (2, .int .i64 x), (9, .pointer (some ⟨g, 0, none⟩))] a) :
    Code.wp Try.prog (sq 7 body37) (bodyPost Try.prog Try.f15 fun r w' => r = .returned (.int .u64 (((if ng = true then 2 ^ (p + k) else 0) + endV p k bi n x : Nat) : Int)) ∧ Below w0.heap.size w0 w') a w := by
  have hbi := L.bi0
  have hp1 := L.p1
  have hp52 := L.p52
  have hk := L.kk
  have hpp := L.pp
  have htop := L.top
  have hinf := L.inf
  have hps : 2 ^ (p + 1) = 2 * 2 ^ p := by rw [Nat.pow_succ]; omega
  have hSP : 4 * 2 ^ p ≤ 2 ^ (p + k) := by
    rw [Nat.pow_add, Nat.mul_comm]; exact Nat.mul_le_mul_left _ hk.1
  have hi1 : (2 ^ k - 1) * 2 ^ p < 2 ^ (p + k) := by
    rw [← hinf]; exact Nat.lt_add_of_pos_right (by omega)
  have orS : ∀ v : Nat, v < 2 ^ (p + k) → bits .or .u64 (v : Int) ((2 ^ (p + k) : Nat) : Int) = ((2 ^ (p + k) + v : Nat) : Int) := fun v hv => by
    rw [u64_or_nat _ _ (by omega) (by omega), or_high hv, Nat.add_comm]
  have fin : ∀ v : Nat, v < 2 ^ (p + k) → Hid (∀ a, At 157 [(0, .bool ng), (9, .pointer (some ⟨g, 0, none⟩)), (13, .int .u64 (v : Int))] a → Code.wp Try.prog (sq 9 body37) (bodyPost Try.prog Try.f15 fun r w' => r = .returned (.int .u64 (((if ng = true then 2 ^ (p + k) else 0) + v : Nat) : Int)) ∧ Below w0.heap.size w0 w') a w) := fun v hv a ha => by
    have h := rA_any ng v g _ _ (orS v hv) (fun w => rsign_any L w) a w0 w B r ha
    cases ng
    · simpa using h
    · exact h
  have e1 := u64_pow p (by omega)
  have qone : 2 ^ p ≤ n → (((n : Int) / 2 ^ p == 0) = false) := fun h1 => by
    rw [pow_int]
    have : 1 ≤ (n : Int) / ((2 ^ p : Nat) : Int) := Int.le_ediv_of_mul_le (by omega) (by omega)
    exact beq_eq_false_iff_ne.2 (by omega)
  unfold endV
  by_cases z : n = 0
  · rw [if_pos z]
    exact rB_zero ng n g _ 0 0 0 x hp1 hp52 hbi.1 hbi.2 (by omega) (by omega) (by omega) (by omega) e1 (by omega) (by omega) (by omega) a w r (fin 0 (by omega)) ha
  rw [if_neg z]
  have z4 : ((n : Int) == 0) = false := beq_eq_false_iff_ne.2 (by omega)
  by_cases z1 : n < 2 ^ p
  · rw [if_pos z1]
    exact rB_sub ng n g _ 0 0 0 x hp1 hp52 hbi.1 hbi.2 (by omega) (by omega) (by omega) (by omega) e1 (by omega) (by omega) z4 (by rw [pow_int]; exact Int.ediv_eq_zero_of_lt (by omega) (by omega)) a w r (fin n (by omega)) ha
  rw [if_neg z1]
  have q1 := qone (by omega)
  have hx := hx (by omega)
  by_cases z2 : ((2 ^ k - 1 : Nat) : Int) - bi - p ≤ x
  · rw [if_pos z2]
    exact rB_inf ng n g _ 0 0 _ x hp1 hp52 hbi.1 hbi.2 (by omega) (by omega) (by omega) (by omega) e1 (by omega) (by omega) z4 q1 z2 (by rw [pow_int, ← Int.natCast_mul, u64_small _ (by omega)]) a w r (fin _ hi1) ha
  · rw [if_neg z2]
    obtain ⟨E, hE⟩ : ∃ E : Nat, x + bi + p = E := ⟨_, (Int.toNat_of_nonneg (by omega)).symm⟩
    have hEP : E * 2 ^ p + 2 ^ p ≤ (2 ^ k - 1) * 2 ^ p := by
      rw [← Nat.succ_mul]; exact Nat.mul_le_mul_right _ (by omega)
    have hr := Nat.mod_lt n (show 2 ^ p > 0 by omega)
    rw [hE, Int.toNat_natCast]
    refine rB_norm ng n g _ (E * 2 ^ p) (n % 2 ^ p) (E * 2 ^ p + n % 2 ^ p) x hp1 hp52 hbi.1 hbi.2 (by omega) (by omega) (by omega) (by omega) e1 (by omega) (by omega) z4 q1 z2 ?_ (by omega) (by omega) (fF L _ (by omega)) ?_ a w r (fin _ (by omega)) ha
    · rw [hE, pow_int, ← Int.natCast_mul, u64_small _ (by omega)]
    · rw [u64_or_nat _ _ (by omega) (by omega), nat_join p _ _ (Nat.mul_mod_left _ _) hr]
set_option maxHeartbeats 1000000 in
theorem rC_any {p k : Nat} {bi : Int} (L : Lay p k bi) (ng : Bool) (g : Nat) (a : Act) (w0 w : World) (B : Hid (Below w0.heap.size w0 w)) (r : Hid (w.heap[g]? = some (.cells #[.int .i64 p, .int .i64 ((2 ^ k - 1 : Nat) : Int), .int .i64 bi] 30 (0, 0)))) (x : Int) (hx1 : -70000 ≤ x) (hx2 : x ≤ 70000) (n : Nat) (hn : n ≤ 2 ^ (p + 1)) (hx : 2 ^ p ≤ n → 1 - bi - p ≤ x) (ha : At 157 [(0, .bool ng), (1, .int .u64 (n : Int)), (2, .int .i64 x), (9, .pointer (some ⟨g, 0, none⟩))] a) :
    Code.wp Try.prog (sq 6 body37) (bodyPost Try.prog Try.f15 fun r w' => r = .returned (.int .u64 (((if ng = true then 2 ^ (p + k) else 0) + carV p k bi n x : Nat) : Int)) ∧ Below w0.heap.size w0 w') a w := by
  have hp1 := L.p1
  have hp52 := L.p52
  have hpp := L.pp
  have hps : 2 ^ (p + 1) = 2 * 2 ^ p := by rw [Nat.pow_succ]; omega
  have e1 := u64_pow p (by omega)
  have e2 := u64_pow (p + 1) (by omega)
  unfold carV
  by_cases z : n = 2 ^ (p + 1)
  · rw [if_pos z]
    subst z
    have hx' := hx (by omega)
    have hx3 : x + 1 ≤ 70001 := by omega
    exact rC_yes ng g _ _ x hp1 hp52 (by omega) (by omega) e1 e2 (by omega) (by omega) a w r (2 ^ p) (by rw [Int.tdiv_eq_ediv_of_nonneg (by omega)]; omega) (u64_small _ (by omega)) (fun a ha => rB_any L ng g a w0 w B r (x + 1) (by omega) hx3 (2 ^ p) (by omega) (fun _ => by omega) ha) ha
  · rw [if_neg z]
    exact rC_no ng g _ _ x hp1 hp52 (by omega) (by omega) e1 e2 (by omega) (by omega) a w r n (beq_eq_false_iff_ne.2 (by omega)) (fun a ha => rB_any L ng g a w0 w B r x (by omega) (by omega) n (by omega) hx ha) ha
/-- Rounding up, by half and what stands behind it. -/
def upV (h s : Bool) (n : Nat) : Nat := n + (if (h && (s || n % 2 == 1)) = true then 1 else 0)
set_option maxHeartbeats 1000000 in
theorem rD_any {p k : Nat} {bi : Int} (L : Lay p k bi) (ng : Bool) (g : Nat) (a : Act) (w0 w : World) (B : Hid (Below w0.heap.size w0 w)) (r : Hid (w.heap[g]? = some (.cells #[.int .i64 p, .int .i64 ((2 ^ k - 1 : Nat) : Int), .int .i64 bi] 30 (0, 0)))) (x : Int) (hx1 : -70000 ≤ x) (hx2 : x ≤ 70000) (n : Nat) (h s : Bool) (hn : n < 2 ^ (p + 1)) (hx : 1 - bi - p ≤ x) (ha : At 157 [(0, .bool ng), (1, .int .u64 (n : Int)), (2, .int .i64 x), (3, .bool s), (12, .bool h), (9, .pointer (some ⟨g, 0, none⟩))] a) :
    Code.wp Try.prog (sq 5 body37) (bodyPost Try.prog Try.f15 fun r w' => r = .returned (.int .u64 (((if ng = true then 2 ^ (p + k) else 0) + carV p k bi (upV h s n) x : Nat) : Int)) ∧ Below w0.heap.size w0 w') a w := by
  have hp1 := L.p1
  have hp52 := L.p52
  have hpp := L.pp
  have hps : 2 ^ (p + 1) = 2 * 2 ^ p := by rw [Nat.pow_succ]; omega
  have e1 := u64_pow p (by omega)
  have e2 := u64_pow (p + 1) (by omega)
  have hup : IntKind.u64.wrap ((n : Int) + 1) = (n : Int) + 1 := by rw [u64_wrap']; omega
  have hbit := bitE n (by omega)
  have k0 : upV h s n = n → ∀ a, At 157 [(0, .bool ng), (1, .int .u64 (n : Int)), (2, .int .i64 x), (9, .pointer (some ⟨g, 0, none⟩))] a → Code.wp Try.prog (sq 6 body37) (bodyPost Try.prog Try.f15 fun r w' => r = .returned (.int .u64 (((if ng = true then 2 ^ (p + k) else 0) + carV p k bi (upV h s n) x : Nat) : Int)) ∧ Below w0.heap.size w0 w') a w := fun e a ha => by
    rw [e]; exact rC_any L ng g a w0 w B r x hx1 hx2 n (by omega) (fun _ => hx) ha
  have k1 : upV h s n = n + 1 → ∀ a, At 157 [(0, .bool ng), (1, .int .u64 ((n : Int) + 1)), (2, .int .i64 x), (9, .pointer (some ⟨g, 0, none⟩))] a → Code.wp Try.prog (sq 6 body37) (bodyPost Try.prog Try.f15 fun r w' => r = .returned (.int .u64 (((if ng = true then 2 ^ (p + k) else 0) + carV p k bi (upV h s n) x : Nat) : Int)) ∧ Below w0.heap.size w0 w') a w := fun e a ha => by
    rw [e]; exact rC_any L ng g a w0 w B r x hx1 hx2 (n + 1) (by omega) (fun _ => hx) ha
  cases h
  · exact rD_F0 ng g _ _ x hp1 hp52 (by omega) (by omega) e1 e2 (by omega) (by omega) a w r n s (k0 (by simp [upV])) ha
  · cases s
    · rcases two_cases (Nat.mod_lt n (by omega : 2 > 0)) with par | par
      · exact rD_Te ng g _ _ x hp1 hp52 (by omega) (by omega) e1 e2 (by omega) (by omega) a w r n (by rw [hbit, par]; rfl) (k0 (by simp [upV, par])) ha
      · exact rD_To ng g _ _ x hp1 hp52 (by omega) (by omega) e1 e2 (by omega) (by omega) a w r n hup (by rw [hbit, par]; rfl) (k1 (by simp [upV, par])) ha
    · exact rD_T1 ng g _ _ x hp1 hp52 (by omega) (by omega) e1 e2 (by omega) (by omega) a w r n hup (k1 (by simp [upV])) ha
theorem near_is {p k : Nat} {bi : Int} (L : Lay p k bi) {n M : Nat} {e U : Int} (h0 : ¬ n = 0) (hn : n < 18446744073709551616) (hU : U = max (e + (Lib.bitLen n : Nat) - 1 - (p : Int)) (1 - bi - p)) (hin : inU n (U - e) = M) (hM : M ≤ 2 ^ (p + 1)) (hsub : M < 2 ^ p → U ≤ 1 - bi - p) : nearB p k bi n e = carV p k bi M U := by
  have hpp := L.pp
  have hps : 2 ^ (p + 1) = 2 * 2 ^ p := by rw [Nat.pow_succ]; omega
  obtain ⟨E, hE⟩ : ∃ E : Nat, U + bi + p = E := ⟨_, (Int.toNat_of_nonneg (by omega)).symm⟩
  unfold carV
  by_cases c : M = 2 ^ (p + 1)
  · rw [if_pos c]
    unfold endV
    rw [if_neg (by omega), if_neg (by omega)]
    by_cases q : ((2 ^ k - 1 : Nat) : Int) - bi - p ≤ U + 1
    · rw [if_pos q]
      exact near_edge L h0 hn hU hin (by omega) q
    · rw [if_neg q, near_carry L h0 hn hU hE hin (by omega) (by omega), Nat.mod_self, Nat.add_zero]
      congr 1
      omega
  · rw [if_neg c]
    unfold endV
    by_cases z : M = 0
    · rw [if_pos z, near_low L h0 hn hU (hsub (by omega)) hin (by omega), z]
    rw [if_neg z]
    by_cases z1 : M < 2 ^ p
    · rw [if_pos z1, near_low L h0 hn hU (hsub z1) hin (by omega)]
    rw [if_neg z1]
    by_cases q : ((2 ^ k - 1 : Nat) : Int) - bi - p ≤ U
    · rw [if_pos q]
      exact near_far L h0 hn hU q
    · rw [if_neg q, near_mid L h0 hn hU hE hin (by omega) (by omega), mod_top (by omega) (by omega), hE, Int.toNat_natCast]
set_option maxHeartbeats 1000000 in
theorem rrounded_any {p k : Nat} {bi : Int} (L : Lay p k bi) (ng : Bool) (n : Nat) (e : Int) (w : World) (h0 : ¬ n = 0) (hn : n < 18446744073709551616) (he1 : -10000 ≤ e) (he2 : e ≤ 10000) :
    Calls Try.prog 15 #[.bool ng, .int .u64 (n : Int), .int .i64 e, .bool false, siz p k bi] w fun r w' => r = .returned (.int .u64 (((if ng = true then 2 ^ (p + k) else 0) + nearB p k bi n e : Nat) : Int)) ∧ Below w.heap.size w w' := by
  have hbi := L.bi0
  have hp1 := L.p1
  have hp52 := L.p52
  have hpp := L.pp
  have hps : 2 ^ (p + 1) = 2 * 2 ^ p := by rw [Nat.pow_succ]; omega
  have e1 := u64_pow p (by omega)
  have e2 := u64_pow (p + 1) (by omega)
  obtain ⟨J, t, hJ, ht, hgo, hlt, hnl, hgo2, hU, hsub, hlt2, hin⟩ := shape L n e h0 hn he1 he2
  have hv : nearB p k bi n e = carV p k bi (upV (hfN n J) (false || skN n J) (n / 2 ^ J * 2 ^ t)) (e + J - t) := by
    rw [Bool.false_or]
    refine near_is L h0 hn hU (by rw [hin]; rfl) ?_ ?_
    · unfold upV; split <;> omega
    · intro h
      refine hsub ?_
      unfold upV at h
      omega
  rw [hv]
  refine rG ng false n e hp1 hp52 hbi.1 hbi.2 w fun a w1 B1 r1 ha => ?_
  have hUl : 1 - bi - (p : Int) ≤ e + J - t := by omega
  refine rF ng w.heap.size _ _ _ hp1 hp52 (by omega) (by omega) e1 e2 (by omega) (by omega) a w1 r1 n J e false hn he1 he2 hJ hgo ⟨hlt, hnl⟩ (fun a w2 B2 r2 ha => ?_) ha
  refine rE ng w.heap.size _ _ _ hp1 hp52 (by omega) (by omega) e1 e2 (by omega) (by omega) a w2 r2 (n / 2 ^ J) t (e + J) _ _ (by omega) (by omega) ht (by omega) (fun i hi => by rw [Bool.false_or]; exact hgo2 i hi) ⟨by omega, ?_⟩ (fun a ha => ?_) ha
  · by_cases c : n / 2 ^ J * 2 ^ t < 2 ^ p
    · exact .inr (.inr (.inl (hsub c)))
    · exact .inr (.inl (by omega))
  · exact rD_any L ng w.heap.size a w w2 (B1.trans (B2.mono B1.size)) r2 (e + J - t) (by omega) (by omega) _ _ _ hlt2 hUl ha
theorem nearB_nought {p k : Nat} {bi : Int} (e : Int) : nearB p k bi 0 e = 0 := by unfold nearB; rw [if_pos rfl]
set_option maxHeartbeats 1000000 in
theorem rrounded_zero {p k : Nat} {bi : Int} (L : Lay p k bi) (ng : Bool) (e : Int) (w : World) (he1 : 1 - bi - p ≤ e) (he2 : e ≤ 10000) :
    Calls Try.prog 15 #[.bool ng, .int .u64 ((0 : Nat) : Int), .int .i64 e, .bool false, siz p k bi] w fun r w' => r = .returned (.int .u64 (((if ng = true then 2 ^ (p + k) else 0) + nearB p k bi 0 e : Nat) : Int)) ∧ Below w.heap.size w w' := by
  have hbi := L.bi0
  have hp1 := L.p1
  have hp52 := L.p52
  have hpp := L.pp
  have hps : 2 ^ (p + 1) = 2 * 2 ^ p := by rw [Nat.pow_succ]; omega
  have e1 := u64_pow p (by omega)
  have e2 := u64_pow (p + 1) (by omega)
  have hv : nearB p k bi 0 e = carV p k bi (upV (hfN 0 0) (false || skN 0 0) (0 / 2 ^ 0 * 2 ^ 0)) (e + (0 : Nat) - (0 : Nat)) := by
    rw [nearB_nought]
    have h1 : upV (hfN 0 0) (false || skN 0 0) (0 / 2 ^ 0 * 2 ^ 0) = 0 := rfl
    rw [h1]
    unfold carV endV
    rw [if_neg (by omega), if_pos rfl]
  rw [hv]
  refine rG ng false 0 e hp1 hp52 hbi.1 hbi.2 w fun a w1 B1 r1 ha => ?_
  refine rF ng w.heap.size _ _ _ hp1 hp52 (by omega) (by omega) e1 e2 (by omega) (by omega) a w1 r1 0 0 e false (by omega) (by omega) he2 (by omega) (fun j hj => by omega) ⟨by simp; omega, by omega⟩ (fun a w2 B2 r2 ha => ?_) ha
  refine rE ng w.heap.size _ _ _ hp1 hp52 (by omega) (by omega) e1 e2 (by omega) (by omega) a w2 r2 (0 / 2 ^ 0) 0 (e + (0 : Nat)) _ _ (by omega) (by omega) (by omega) (by simp) (fun i hi => by omega) ⟨by simp, .inl (by simp)⟩ (fun a ha => ?_) ha
  exact rD_any L ng w.heap.size a w w2 (B1.trans (B2.mono B1.size)) r2 (e + (0 : Nat) - (0 : Nat)) (by omega) (by omega) _ _ _ (by simp; omega) (by omega) ha
/-- Any number. -/
theorem rrounded_all {p k : Nat} {bi : Int} (L : Lay p k bi) (ng : Bool) (n : Nat) (e : Int) (w : World) (h0 : n = 0 → 1 - bi - p ≤ e) (hn : n < 18446744073709551616) (he1 : -10000 ≤ e) (he2 : e ≤ 10000) :
    Calls Try.prog 15 #[.bool ng, .int .u64 (n : Int), .int .i64 e, .bool false, siz p k bi] w fun r w' => r = .returned (.int .u64 (((if ng = true then 2 ^ (p + k) else 0) + nearB p k bi n e : Nat) : Int)) ∧ Below w.heap.size w w' := by
  by_cases h : n = 0
  · subst h; exact rrounded_zero L ng e w (h0 rfl) he2
  · exact rrounded_any L ng n e w h hn he1 he2
end Go.Proofs.Ytjcjecbffnadaab
