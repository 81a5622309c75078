/-
  The law StageSwaps, walked. Conditions: the numbers fit; the list takes no more bytes than there are.
-/
import Derived.Test.YtookbgmolggohabNf
import Derived.Deep.RegionWith
namespace Go.Proofs.Ytookbgmolggohab
open Go.RowKit
set_option maxRecDepth 100000 in
set_option maxHeartbeats 8000000 in
theorem swaps_gxr (L : List Rw) (v : Value) (N M A E : Int) (w : World) (hr : Rd3 .i32 w v L) (hf : fit3 L) (hl : L.length ≤ 8796093022208) (h : (chk L).2 = 0) (hn : ¬ ((0 ≤ N ∧ N ≤ 65535) ∧ (0 ≤ M ∧ M ≤ 65535))) (hA : 0 ≤ A) (hAE : A ≤ E) (hE : E ≤ 1114111) : Calls Try.prog 6 #[v, .agg #[.int .i64 N, .int .i64 M, .int .i32 A, .int .i32 E]] w fun e w' => e = .returned (.bool true) ∧ Below w.heap.size w w' := by
  have B0 : Below w.heap.size w (w.alloc (.cells #[.int .i64 N, .int .i64 M, .int .i32 A, .int .i32 E] 64)) := (Below.refl _ _).alloc (Nat.le_refl _) _
  have HQ : Hid (∀ w1, Below (w.alloc (.cells #[.int .i64 N, .int .i64 M, .int .i32 A, .int .i32 E] 64)).heap.size (w.alloc (.cells #[.int .i64 N, .int .i64 M, .int .i32 A, .int .i32 E] 64)) w1 → w1.cell? ⟨w.heap.size, 0, none⟩ = some (.int .i64 N) ∧ w1.cell? ⟨w.heap.size, 1, none⟩ = some (.int .i64 M) ∧ w1.cell? ⟨w.heap.size, 2, none⟩ = some (.int .i32 A) ∧ w1.cell? ⟨w.heap.size, 3, none⟩ = some (.int .i32 E)) := fun w1 hb => by
    have q := box4 w (.int .i64 N) (.int .i64 M) (.int .i32 A) (.int .i32 E) 64
    have hs : w.heap.size < (w.alloc (.cells #[.int .i64 N, .int .i64 M, .int .i32 A, .int .i32 E] 64)).heap.size := by simp
    exact ⟨(hb.cell (p := ⟨w.heap.size, 0, none⟩) hs).trans (q 0 _ rfl), (hb.cell (p := ⟨w.heap.size, 1, none⟩) hs).trans (q 1 _ rfl), (hb.cell (p := ⟨w.heap.size, 2, none⟩) hs).trans (q 2 _ rfl), (hb.cell (p := ⟨w.heap.size, 3, none⟩) hs).trans (q 3 _ rfl)⟩
  have K1 : Hid (Calls Try.prog 30 #[v] (w.alloc (.cells #[.int .i64 N, .int .i64 M, .int .i32 A, .int .i32 E] 64)) fun e w' => ∃ T vr, e = .returned (.tuple #[.pointer (some ⟨T, 0, none⟩), vr, .bool true, .bool true]) ∧ Rd3 .i64 w' vr L ∧ TabAt w' T (lk L) ∧ Below (w.alloc (.cells #[.int .i64 N, .int .i64 M, .int .i32 A, .int .i32 E] 64)).heap.size (w.alloc (.cells #[.int .i64 N, .int .i64 M, .int .i32 A, .int .i32 E] 64)) w') := built_good L v _ (hr.below B0) hf hl h
  obtain ⟨hl2, hok, -⟩ := chk_ok h
  have hrg := lk_range hok
  have HOK : Hid (okF 0 L) := hok
  have HL2 : Hid ((L).length ≤ 65536) := hl2
  replace B0 : Hid (Below w.heap.size w (w.alloc (.cells #[.int .i64 N, .int .i64 M, .int .i32 A, .int .i32 E] 64))) := B0
  have KS : Hid (∀ w1 vt, Calls Try.prog 31 #[vt, .int .i64 N, .int .i64 M] w1 fun e w' => e = .returned (.tuple #[.pointer none, .int .i64 81]) ∧ Below w1.heap.size w1 w') := fun w1 vt => sswap_bad vt N M w1 hn
  have hn4 : decide (N < 0) = true ∨ (decide (N < 0) = false ∧ decide (65535 < N) = true) ∨ (decide (N < 0) = false ∧ decide (65535 < N) = false ∧ decide (M < 0) = true) ∨ (decide (N < 0) = false ∧ decide (65535 < N) = false ∧ decide (M < 0) = false ∧ decide (65535 < M) = true) := by
    simp only [decide_eq_true_eq, decide_eq_false_iff_not]
    omega
  have a1 : decide (A < 0) = false := decide_eq_false (by omega)
  have a2 : decide (1114111 < A) = false := decide_eq_false (by omega)
  have a3 : decide (E < A) = false := decide_eq_false (by omega)
  have a4 : decide (1114111 < E) = false := decide_eq_false (by omega)
  have wA : IntKind.i64.wrap A = A := IntWalk.i64_in _ (by omega)
  have wE : IntKind.i64.wrap E = E := IntWalk.i64_in _ (by omega)
  have hcl := (Rn.clip hAE (runs_rn hok) (by omega)).1
  have hclp : Rn (lk L) A (clp A E (runsL L)) (E + 1) := by
    by_cases c : (0 : Int) < A
    · have := hcl (by omega); rwa [if_pos c] at this
    · have := hcl (by omega); rw [if_neg c] at this; rwa [show A = 0 by omega] at this ⊢
  have KR : Hid (∀ w1 vt, Tab w1 vt (lk L) → Calls Try.prog 33 #[vt, .int .i32 A, .int .i32 E] w1 fun e w' => ∃ v, e = .returned v ∧ Rd3 .i32 w' v (clp A E (runsL L)) ∧ Below w1.heap.size w1 w') := fun w1 vt hT => (sruns_good vt (lk L) A E w1 hT hrg hA hAE hE).mono fun e w' ⟨v, ys, h1, h2, h3, h4⟩ => by
    rw [Rn.uniq h2 hclp] at h3
    exact ⟨v, h1, Rd3.of_owns h3, h4⟩
  have KB : Hid (∀ w1 v1, Rd3 .i64 w1 v1 L → Calls Try.prog 34 #[v1, .int .i64 A, .int .i64 E] w1 fun e w' => ∃ v', e = .returned v' ∧ Rd3 .i64 w' v' (clp A E (runsL L)) ∧ Below w1.heap.size w1 w') := fun w1 v1 h1 => between_any L A E v1 w1 h1 hok hl2 hA hE
  have hfc : fit3 (clp A E (runsL L)) := fun r hr => by
    obtain ⟨m1, m2, m3, m4⟩ := (Rn.mem hclp).2 r hr
    have := hrg r.1
    rw [m4 r.1 (by omega) (by omega)] at this
    omega
  have KW2 : Hid (∀ w1 v1 v2, Rd3 .i32 w1 v1 (clp A E (runsL L)) → Rd3 .i64 w1 v2 (clp A E (runsL L)) → Calls Try.prog 14 #[v1, v2] w1 fun e w' => e = .returned (.bool true) ∧ Below w1.heap.size w1 w') := fun w1 v1 v2 h1 h2 => rows_same _ v1 v2 w1 h1 h2 hfc (by
    have h3 := clp_len A E (runsL L)
    have h4 := runsL_len L
    omega)
  have KT2 : Hid (∀ w1 vt v1, Tab w1 vt (lk L) → (∃ p, vt = .pointer p) → Rd3 .i64 w1 v1 L → Calls Try.prog 28 #[vt, v1, .slice none 0 0, .int .i64 0] w1 fun e w' => e = .returned (.bool true) ∧ Below w1.heap.size w1 w') := fun w1 vt v1 h1 hv h2 => stands_any _ [] _ v1 _ 0 w1 h1 hv h2 ⟨none, 0, rfl, Nat.le_refl _, fun h => by simp at h⟩ (fun x hx => by cases hx) (by simp) hok (by omega)
  clear hcl hclp hfc
  clear hr h hf hok hl2 hrg hn hA hAE hE
  go_enter Try.func6, Try.ntmps6
  go_wp2_with (go_at_call 30; refine K1.out.mono ?_)
  first | rintro e w1 T vr rfl r1 t1 b1 | rintro e w1 ⟨T, vr, rfl, r1, t1, b1⟩
  clear K1
  generalize w.alloc (.cells #[.int .i64 N, .int .i64 M, .int .i32 A, .int .i32 E] 64) = W0 at *
  replace b1 : Hid (Below W0.heap.size W0 w1) := b1
  have R1 : Hid (Rd3 .i64 w1 (vr) L) := r1
  have T1 : Hid (Tab w1 (.pointer (some ⟨T, 0, none⟩)) (lk L)) := .inr ⟨T, rfl, t1⟩
  clear r1 t1
  go_wp2_with (go_at_call 8; refine (awake_any _).mono ?_)
  intro e w2 hq
  first | (obtain ⟨rfl, b2⟩ : _ ∧ _ := hq) | (subst hq; intro b2)
  have B2 : Hid (Below W0.heap.size W0 w2) := b1.out.trans (b2.mono b1.out.size)
  have R2 : Hid (Rd3 .i64 w2 (vr) L) := R1.out.below b2
  have T2 : Hid (Tab w2 (.pointer (some ⟨T, 0, none⟩)) (lk L)) := T1.out.below b2
  clear b1 b2 R1 T1
  obtain ⟨x0, x1, x2, x3⟩ := HQ.out w2 B2.out
  go_wp2_with (go_at_call 31; refine (KS.out _ _).mono ?_)
  intro e w3 hq
  first | (obtain ⟨rfl, b3⟩ : _ ∧ _ := hq) | (subst hq; intro b3)
  have B3 : Hid (Below W0.heap.size W0 w3) := B2.out.trans (b3.mono B2.out.size)
  have R3 : Hid (Rd3 .i64 w3 (vr) L) := R2.out.below b3
  have T3' : Hid (Tab w3 (.pointer (some ⟨T, 0, none⟩)) (lk L)) := T2.out.below b3
  clear b3 B2 R2 T2 KS x0 x1 x2 x3
  obtain ⟨x0, x1, x2, x3⟩ := HQ.out w3 B3.out
  rcases hn4 with n1 | ⟨n1, n2⟩ | ⟨n1, n2, n3⟩ | ⟨n1, n2, n3, n4⟩
  all_goals (
    go_wp2_with (go_at_call 33; refine (KR.out _ _ T3'.out).mono ?_)
    first | rintro e w4 v4 rfl r4 b4 | rintro e w4 ⟨v4, rfl, r4, b4⟩
    replace r4 : Hid (Rd3 .i32 w4 v4 (clp A E (runsL L))) := r4
    have B4 : Hid (Below W0.heap.size W0 w4) := B3.out.trans (b4.mono B3.out.size)
    have R4 : Hid (Rd3 .i64 w4 (vr) L) := R3.out.below b4
    have T4 : Hid (Tab w4 (.pointer (some ⟨T, 0, none⟩)) (lk L)) := T3'.out.below b4
    clear b4 B3 R3 T3' KR x0 x1 x2 x3
    obtain ⟨x0, x1, x2, x3⟩ := HQ.out w4 B4.out
    go_wp2_with (go_at_call 34; refine (KB.out _ _ R4.out).mono ?_)
    first | rintro e w5 v5 rfl r5 b5 | rintro e w5 ⟨v5, rfl, r5, b5⟩
    replace r5 : Hid (Rd3 .i64 w5 v5 (clp A E (runsL L))) := r5
    have B5 : Hid (Below W0.heap.size W0 w5) := B4.out.trans (b5.mono B4.out.size)
    have q4 : Hid (Rd3 .i32 w5 v4 (clp A E (runsL L))) := r4.out.below b5
    have R5 : Hid (Rd3 .i64 w5 (vr) L) := R4.out.below b5
    have T5 : Hid (Tab w5 (.pointer (some ⟨T, 0, none⟩)) (lk L)) := T4.out.below b5
    clear b5 B4 R4 T4 KB r4 x0 x1 x2 x3
    go_wp2_with (go_at_call 14; refine (KW2.out _ _ _ q4.out r5.out).mono ?_)
    intro e w6 hq
    first | (obtain ⟨rfl, b6⟩ : _ ∧ _ := hq) | (subst hq; intro b6)
    have B6 : Hid (Below W0.heap.size W0 w6) := B5.out.trans (b6.mono B5.out.size)
    have R6 : Hid (Rd3 .i64 w6 (vr) L) := R5.out.below b6
    have T6 : Hid (Tab w6 (.pointer (some ⟨T, 0, none⟩)) (lk L)) := T5.out.below b6
    clear b6 B5 R5 T5 q4 r5 KW2
    go_wp2_with (go_at_call 28; refine (KT2.out _ _ _ T6.out ⟨_, rfl⟩ R6.out).mono ?_)
    intro e w7 hq
    first | (obtain ⟨rfl, b7⟩ : _ ∧ _ := hq) | (subst hq; intro b7)
    have B7 : Hid (Below w.heap.size w w7) := B0.out.trans ((B6.out.trans (b7.mono B6.out.size)).mono B0.out.size)
    clear b7 B6 R6 T6 KT2 B0
    go_wp2
    go_ret
    exact ⟨rfl, B7.out⟩)
set_option maxRecDepth 100000 in
set_option maxHeartbeats 8000000 in
theorem swaps_gxx (L : List Rw) (v : Value) (N M A E : Int) (w : World) (hr : Rd3 .i32 w v L) (hf : fit3 L) (hl : L.length ≤ 8796093022208) (h : (chk L).2 = 0) (hn : ¬ ((0 ≤ N ∧ N ≤ 65535) ∧ (0 ≤ M ∧ M ≤ 65535))) (hq : ¬ (0 ≤ A ∧ A ≤ E ∧ E ≤ 1114111)) : Calls Try.prog 6 #[v, .agg #[.int .i64 N, .int .i64 M, .int .i32 A, .int .i32 E]] w fun e w' => e = .returned (.bool true) ∧ Below w.heap.size w w' := by
  have B0 : Below w.heap.size w (w.alloc (.cells #[.int .i64 N, .int .i64 M, .int .i32 A, .int .i32 E] 64)) := (Below.refl _ _).alloc (Nat.le_refl _) _
  have HQ : Hid (∀ w1, Below (w.alloc (.cells #[.int .i64 N, .int .i64 M, .int .i32 A, .int .i32 E] 64)).heap.size (w.alloc (.cells #[.int .i64 N, .int .i64 M, .int .i32 A, .int .i32 E] 64)) w1 → w1.cell? ⟨w.heap.size, 0, none⟩ = some (.int .i64 N) ∧ w1.cell? ⟨w.heap.size, 1, none⟩ = some (.int .i64 M) ∧ w1.cell? ⟨w.heap.size, 2, none⟩ = some (.int .i32 A) ∧ w1.cell? ⟨w.heap.size, 3, none⟩ = some (.int .i32 E)) := fun w1 hb => by
    have q := box4 w (.int .i64 N) (.int .i64 M) (.int .i32 A) (.int .i32 E) 64
    have hs : w.heap.size < (w.alloc (.cells #[.int .i64 N, .int .i64 M, .int .i32 A, .int .i32 E] 64)).heap.size := by simp
    exact ⟨(hb.cell (p := ⟨w.heap.size, 0, none⟩) hs).trans (q 0 _ rfl), (hb.cell (p := ⟨w.heap.size, 1, none⟩) hs).trans (q 1 _ rfl), (hb.cell (p := ⟨w.heap.size, 2, none⟩) hs).trans (q 2 _ rfl), (hb.cell (p := ⟨w.heap.size, 3, none⟩) hs).trans (q 3 _ rfl)⟩
  have K1 : Hid (Calls Try.prog 30 #[v] (w.alloc (.cells #[.int .i64 N, .int .i64 M, .int .i32 A, .int .i32 E] 64)) fun e w' => ∃ T vr, e = .returned (.tuple #[.pointer (some ⟨T, 0, none⟩), vr, .bool true, .bool true]) ∧ Rd3 .i64 w' vr L ∧ TabAt w' T (lk L) ∧ Below (w.alloc (.cells #[.int .i64 N, .int .i64 M, .int .i32 A, .int .i32 E] 64)).heap.size (w.alloc (.cells #[.int .i64 N, .int .i64 M, .int .i32 A, .int .i32 E] 64)) w') := built_good L v _ (hr.below B0) hf hl h
  obtain ⟨hl2, hok, -⟩ := chk_ok h
  have hrg := lk_range hok
  have HOK : Hid (okF 0 L) := hok
  have HL2 : Hid ((L).length ≤ 65536) := hl2
  replace B0 : Hid (Below w.heap.size w (w.alloc (.cells #[.int .i64 N, .int .i64 M, .int .i32 A, .int .i32 E] 64))) := B0
  have KS : Hid (∀ w1 vt, Calls Try.prog 31 #[vt, .int .i64 N, .int .i64 M] w1 fun e w' => e = .returned (.tuple #[.pointer none, .int .i64 81]) ∧ Below w1.heap.size w1 w') := fun w1 vt => sswap_bad vt N M w1 hn
  have hn4 : decide (N < 0) = true ∨ (decide (N < 0) = false ∧ decide (65535 < N) = true) ∨ (decide (N < 0) = false ∧ decide (65535 < N) = false ∧ decide (M < 0) = true) ∨ (decide (N < 0) = false ∧ decide (65535 < N) = false ∧ decide (M < 0) = false ∧ decide (65535 < M) = true) := by
    simp only [decide_eq_true_eq, decide_eq_false_iff_not]
    omega
  have KR : Hid (∀ w1 vt, Calls Try.prog 33 #[vt, .int .i32 A, .int .i32 E] w1 fun e w' => e = .returned (.slice none 0 0) ∧ Below w1.heap.size w1 w') := fun w1 vt => sruns_bad vt A E w1 hq
  have hq4 : decide (A < 0) = true ∨ (decide (A < 0) = false ∧ decide (1114111 < A) = true) ∨ (decide (A < 0) = false ∧ decide (1114111 < A) = false ∧ decide (E < A) = true) ∨ (decide (A < 0) = false ∧ decide (1114111 < A) = false ∧ decide (E < A) = false ∧ decide (1114111 < E) = true) := by
    simp only [decide_eq_true_eq, decide_eq_false_iff_not]
    omega
  clear hr h hf hok hl2 hrg hn hq
  go_enter Try.func6, Try.ntmps6
  go_wp2_with (go_at_call 30; refine K1.out.mono ?_)
  first | rintro e w1 T vr rfl r1 t1 b1 | rintro e w1 ⟨T, vr, rfl, r1, t1, b1⟩
  clear K1
  generalize w.alloc (.cells #[.int .i64 N, .int .i64 M, .int .i32 A, .int .i32 E] 64) = W0 at *
  replace b1 : Hid (Below W0.heap.size W0 w1) := b1
  have R1 : Hid (Rd3 .i64 w1 (vr) L) := r1
  have T1 : Hid (Tab w1 (.pointer (some ⟨T, 0, none⟩)) (lk L)) := .inr ⟨T, rfl, t1⟩
  clear r1 t1
  go_wp2_with (go_at_call 8; refine (awake_any _).mono ?_)
  intro e w2 hq
  first | (obtain ⟨rfl, b2⟩ : _ ∧ _ := hq) | (subst hq; intro b2)
  have B2 : Hid (Below W0.heap.size W0 w2) := b1.out.trans (b2.mono b1.out.size)
  have R2 : Hid (Rd3 .i64 w2 (vr) L) := R1.out.below b2
  have T2 : Hid (Tab w2 (.pointer (some ⟨T, 0, none⟩)) (lk L)) := T1.out.below b2
  clear b1 b2 R1 T1
  obtain ⟨x0, x1, x2, x3⟩ := HQ.out w2 B2.out
  go_wp2_with (go_at_call 31; refine (KS.out _ _).mono ?_)
  intro e w3 hq
  first | (obtain ⟨rfl, b3⟩ : _ ∧ _ := hq) | (subst hq; intro b3)
  have B3 : Hid (Below W0.heap.size W0 w3) := B2.out.trans (b3.mono B2.out.size)
  have R3 : Hid (Rd3 .i64 w3 (vr) L) := R2.out.below b3
  have T3' : Hid (Tab w3 (.pointer (some ⟨T, 0, none⟩)) (lk L)) := T2.out.below b3
  clear b3 B2 R2 T2 KS x0 x1 x2 x3
  obtain ⟨x0, x1, x2, x3⟩ := HQ.out w3 B3.out
  rcases hn4 with n1 | ⟨n1, n2⟩ | ⟨n1, n2, n3⟩ | ⟨n1, n2, n3, n4⟩
  all_goals (
    go_wp2_with (go_at_call 33; refine (KR.out _ _).mono ?_)
    intro e w4 hq
    first | (obtain ⟨rfl, b4⟩ : _ ∧ _ := hq) | (subst hq; intro b4)
    have B4 : Hid (Below W0.heap.size W0 w4) := B3.out.trans (b4.mono B3.out.size)
    clear b4 B3 R3 T3' KR x0 x1 x2 x3
    obtain ⟨x0, x1, x2, x3⟩ := HQ.out w4 B4.out
    have B5 : Hid (Below w.heap.size w w4) := B0.out.trans (B4.out.mono B0.out.size)
    rcases hq4 with a1 | ⟨a1, a2⟩ | ⟨a1, a2, a3⟩ | ⟨a1, a2, a3, a4⟩)
  all_goals (
    go_wp2
    go_ret
    exact ⟨rfl, B5.out⟩)
set_option maxRecDepth 100000 in
set_option maxHeartbeats 8000000 in
theorem swaps_bxr (L : List Rw) (v : Value) (N M A E : Int) (w : World) (hr : Rd3 .i32 w v L) (hf : fit3 L) (hl : L.length ≤ 8796093022208) (h : (chk L).2 ≠ 0) (hn : ¬ ((0 ≤ N ∧ N ≤ 65535) ∧ (0 ≤ M ∧ M ≤ 65535))) (hA : 0 ≤ A) (hAE : A ≤ E) (hE : E ≤ 1114111) : Calls Try.prog 6 #[v, .agg #[.int .i64 N, .int .i64 M, .int .i32 A, .int .i32 E]] w fun e w' => e = .returned (.bool true) ∧ Below w.heap.size w w' := by
  have B0 : Below w.heap.size w (w.alloc (.cells #[.int .i64 N, .int .i64 M, .int .i32 A, .int .i32 E] 64)) := (Below.refl _ _).alloc (Nat.le_refl _) _
  have HQ : Hid (∀ w1, Below (w.alloc (.cells #[.int .i64 N, .int .i64 M, .int .i32 A, .int .i32 E] 64)).heap.size (w.alloc (.cells #[.int .i64 N, .int .i64 M, .int .i32 A, .int .i32 E] 64)) w1 → w1.cell? ⟨w.heap.size, 0, none⟩ = some (.int .i64 N) ∧ w1.cell? ⟨w.heap.size, 1, none⟩ = some (.int .i64 M) ∧ w1.cell? ⟨w.heap.size, 2, none⟩ = some (.int .i32 A) ∧ w1.cell? ⟨w.heap.size, 3, none⟩ = some (.int .i32 E)) := fun w1 hb => by
    have q := box4 w (.int .i64 N) (.int .i64 M) (.int .i32 A) (.int .i32 E) 64
    have hs : w.heap.size < (w.alloc (.cells #[.int .i64 N, .int .i64 M, .int .i32 A, .int .i32 E] 64)).heap.size := by simp
    exact ⟨(hb.cell (p := ⟨w.heap.size, 0, none⟩) hs).trans (q 0 _ rfl), (hb.cell (p := ⟨w.heap.size, 1, none⟩) hs).trans (q 1 _ rfl), (hb.cell (p := ⟨w.heap.size, 2, none⟩) hs).trans (q 2 _ rfl), (hb.cell (p := ⟨w.heap.size, 3, none⟩) hs).trans (q 3 _ rfl)⟩
  have K1 : Hid (Calls Try.prog 30 #[v] (w.alloc (.cells #[.int .i64 N, .int .i64 M, .int .i32 A, .int .i32 E] 64)) fun e w' => ∃ vr, e = .returned (.tuple #[.pointer none, vr, .bool false, .bool true]) ∧ Rd3 .i64 w' vr L ∧ Below (w.alloc (.cells #[.int .i64 N, .int .i64 M, .int .i32 A, .int .i32 E] 64)).heap.size (w.alloc (.cells #[.int .i64 N, .int .i64 M, .int .i32 A, .int .i32 E] 64)) w') := built_bad L v _ (hr.below B0) hf hl h
  have hok : okF 0 ([] : List Rw) := trivial
  have hl2 : ([] : List Rw).length ≤ 65536 := by decide
  have hrg := lk_range hok
  have HOK : Hid (okF 0 ([] : List Rw)) := hok
  have HL2 : Hid ((([] : List Rw)).length ≤ 65536) := hl2
  replace B0 : Hid (Below w.heap.size w (w.alloc (.cells #[.int .i64 N, .int .i64 M, .int .i32 A, .int .i32 E] 64))) := B0
  have KS : Hid (∀ w1 vt, Calls Try.prog 31 #[vt, .int .i64 N, .int .i64 M] w1 fun e w' => e = .returned (.tuple #[.pointer none, .int .i64 81]) ∧ Below w1.heap.size w1 w') := fun w1 vt => sswap_bad vt N M w1 hn
  have hn4 : decide (N < 0) = true ∨ (decide (N < 0) = false ∧ decide (65535 < N) = true) ∨ (decide (N < 0) = false ∧ decide (65535 < N) = false ∧ decide (M < 0) = true) ∨ (decide (N < 0) = false ∧ decide (65535 < N) = false ∧ decide (M < 0) = false ∧ decide (65535 < M) = true) := by
    simp only [decide_eq_true_eq, decide_eq_false_iff_not]
    omega
  have a1 : decide (A < 0) = false := decide_eq_false (by omega)
  have a2 : decide (1114111 < A) = false := decide_eq_false (by omega)
  have a3 : decide (E < A) = false := decide_eq_false (by omega)
  have a4 : decide (1114111 < E) = false := decide_eq_false (by omega)
  have wA : IntKind.i64.wrap A = A := IntWalk.i64_in _ (by omega)
  have wE : IntKind.i64.wrap E = E := IntWalk.i64_in _ (by omega)
  have hcl := (Rn.clip hAE (runs_rn hok) (by omega)).1
  have hclp : Rn (lk ([] : List Rw)) A (clp A E (runsL ([] : List Rw))) (E + 1) := by
    by_cases c : (0 : Int) < A
    · have := hcl (by omega); rwa [if_pos c] at this
    · have := hcl (by omega); rw [if_neg c] at this; rwa [show A = 0 by omega] at this ⊢
  have KR : Hid (∀ w1 vt, Tab w1 vt (lk ([] : List Rw)) → Calls Try.prog 33 #[vt, .int .i32 A, .int .i32 E] w1 fun e w' => ∃ v, e = .returned v ∧ Rd3 .i32 w' v (clp A E (runsL ([] : List Rw))) ∧ Below w1.heap.size w1 w') := fun w1 vt hT => (sruns_good vt (lk ([] : List Rw)) A E w1 hT hrg hA hAE hE).mono fun e w' ⟨v, ys, h1, h2, h3, h4⟩ => by
    rw [Rn.uniq h2 hclp] at h3
    exact ⟨v, h1, Rd3.of_owns h3, h4⟩
  have KB : Hid (∀ w1 v1, Rd3 .i64 w1 v1 ([] : List Rw) → Calls Try.prog 34 #[v1, .int .i64 A, .int .i64 E] w1 fun e w' => ∃ v', e = .returned v' ∧ Rd3 .i64 w' v' (clp A E (runsL ([] : List Rw))) ∧ Below w1.heap.size w1 w') := fun w1 v1 h1 => between_any ([] : List Rw) A E v1 w1 h1 hok hl2 hA hE
  have hfc : fit3 (clp A E (runsL ([] : List Rw))) := fun r hr => by
    obtain ⟨m1, m2, m3, m4⟩ := (Rn.mem hclp).2 r hr
    have := hrg r.1
    rw [m4 r.1 (by omega) (by omega)] at this
    omega
  have KW2 : Hid (∀ w1 v1 v2, Rd3 .i32 w1 v1 (clp A E (runsL ([] : List Rw))) → Rd3 .i64 w1 v2 (clp A E (runsL ([] : List Rw))) → Calls Try.prog 14 #[v1, v2] w1 fun e w' => e = .returned (.bool true) ∧ Below w1.heap.size w1 w') := fun w1 v1 v2 h1 h2 => rows_same _ v1 v2 w1 h1 h2 hfc (by
    have h3 := clp_len A E (runsL ([] : List Rw))
    have h4 := runsL_len ([] : List Rw)
    omega)
  have KT2 : Hid (∀ w1 vt v1, Tab w1 vt (lk ([] : List Rw)) → (∃ p, vt = .pointer p) → Rd3 .i64 w1 v1 ([] : List Rw) → Calls Try.prog 28 #[vt, v1, .slice none 0 0, .int .i64 0] w1 fun e w' => e = .returned (.bool true) ∧ Below w1.heap.size w1 w') := fun w1 vt v1 h1 hv h2 => stands_any _ [] _ v1 _ 0 w1 h1 hv h2 ⟨none, 0, rfl, Nat.le_refl _, fun h => by simp at h⟩ (fun x hx => by cases hx) (by simp) hok (by omega)
  clear hcl hclp hfc
  clear hr h hf hok hl2 hrg hn hA hAE hE
  go_enter Try.func6, Try.ntmps6
  go_wp2_with (go_at_call 30; refine K1.out.mono ?_)
  first | rintro e w1 vr rfl r1 b1 | rintro e w1 ⟨vr, rfl, r1, b1⟩
  clear K1
  generalize w.alloc (.cells #[.int .i64 N, .int .i64 M, .int .i32 A, .int .i32 E] 64) = W0 at *
  replace b1 : Hid (Below W0.heap.size W0 w1) := b1
  have R1 : Hid (Rd3 .i64 w1 (.slice none 0 0) ([] : List Rw)) := ⟨none, 0, rfl, Nat.le_refl _, fun h => by simp at h⟩
  have T1 : Hid (Tab w1 (.pointer none) (lk ([] : List Rw))) := .inl ⟨rfl, rfl⟩
  clear r1
  go_wp2_with (go_at_call 8; refine (awake_any _).mono ?_)
  intro e w2 hq
  first | (obtain ⟨rfl, b2⟩ : _ ∧ _ := hq) | (subst hq; intro b2)
  have B2 : Hid (Below W0.heap.size W0 w2) := b1.out.trans (b2.mono b1.out.size)
  have R2 : Hid (Rd3 .i64 w2 (.slice none 0 0) ([] : List Rw)) := R1.out.below b2
  have T2 : Hid (Tab w2 (.pointer none) (lk ([] : List Rw))) := T1.out.below b2
  clear b1 b2 R1 T1
  obtain ⟨x0, x1, x2, x3⟩ := HQ.out w2 B2.out
  go_wp2_with (go_at_call 31; refine (KS.out _ _).mono ?_)
  intro e w3 hq
  first | (obtain ⟨rfl, b3⟩ : _ ∧ _ := hq) | (subst hq; intro b3)
  have B3 : Hid (Below W0.heap.size W0 w3) := B2.out.trans (b3.mono B2.out.size)
  have R3 : Hid (Rd3 .i64 w3 (.slice none 0 0) ([] : List Rw)) := R2.out.below b3
  have T3' : Hid (Tab w3 (.pointer none) (lk ([] : List Rw))) := T2.out.below b3
  clear b3 B2 R2 T2 KS x0 x1 x2 x3
  obtain ⟨x0, x1, x2, x3⟩ := HQ.out w3 B3.out
  rcases hn4 with n1 | ⟨n1, n2⟩ | ⟨n1, n2, n3⟩ | ⟨n1, n2, n3, n4⟩
  all_goals (
    go_wp2_with (go_at_call 33; refine (KR.out _ _ T3'.out).mono ?_)
    first | rintro e w4 v4 rfl r4 b4 | rintro e w4 ⟨v4, rfl, r4, b4⟩
    replace r4 : Hid (Rd3 .i32 w4 v4 (clp A E (runsL ([] : List Rw)))) := r4
    have B4 : Hid (Below W0.heap.size W0 w4) := B3.out.trans (b4.mono B3.out.size)
    have R4 : Hid (Rd3 .i64 w4 (.slice none 0 0) ([] : List Rw)) := R3.out.below b4
    have T4 : Hid (Tab w4 (.pointer none) (lk ([] : List Rw))) := T3'.out.below b4
    clear b4 B3 R3 T3' KR x0 x1 x2 x3
    obtain ⟨x0, x1, x2, x3⟩ := HQ.out w4 B4.out
    go_wp2_with (go_at_call 34; refine (KB.out _ _ R4.out).mono ?_)
    first | rintro e w5 v5 rfl r5 b5 | rintro e w5 ⟨v5, rfl, r5, b5⟩
    replace r5 : Hid (Rd3 .i64 w5 v5 (clp A E (runsL ([] : List Rw)))) := r5
    have B5 : Hid (Below W0.heap.size W0 w5) := B4.out.trans (b5.mono B4.out.size)
    have q4 : Hid (Rd3 .i32 w5 v4 (clp A E (runsL ([] : List Rw)))) := r4.out.below b5
    have R5 : Hid (Rd3 .i64 w5 (.slice none 0 0) ([] : List Rw)) := R4.out.below b5
    have T5 : Hid (Tab w5 (.pointer none) (lk ([] : List Rw))) := T4.out.below b5
    clear b5 B4 R4 T4 KB r4 x0 x1 x2 x3
    go_wp2_with (go_at_call 14; refine (KW2.out _ _ _ q4.out r5.out).mono ?_)
    intro e w6 hq
    first | (obtain ⟨rfl, b6⟩ : _ ∧ _ := hq) | (subst hq; intro b6)
    have B6 : Hid (Below W0.heap.size W0 w6) := B5.out.trans (b6.mono B5.out.size)
    have R6 : Hid (Rd3 .i64 w6 (.slice none 0 0) ([] : List Rw)) := R5.out.below b6
    have T6 : Hid (Tab w6 (.pointer none) (lk ([] : List Rw))) := T5.out.below b6
    clear b6 B5 R5 T5 q4 r5 KW2
    go_wp2_with (go_at_call 28; refine (KT2.out _ _ _ T6.out ⟨_, rfl⟩ R6.out).mono ?_)
    intro e w7 hq
    first | (obtain ⟨rfl, b7⟩ : _ ∧ _ := hq) | (subst hq; intro b7)
    have B7 : Hid (Below w.heap.size w w7) := B0.out.trans ((B6.out.trans (b7.mono B6.out.size)).mono B0.out.size)
    clear b7 B6 R6 T6 KT2 B0
    go_wp2
    go_ret
    exact ⟨rfl, B7.out⟩)
set_option maxRecDepth 100000 in
set_option maxHeartbeats 8000000 in
theorem swaps_bxx (L : List Rw) (v : Value) (N M A E : Int) (w : World) (hr : Rd3 .i32 w v L) (hf : fit3 L) (hl : L.length ≤ 8796093022208) (h : (chk L).2 ≠ 0) (hn : ¬ ((0 ≤ N ∧ N ≤ 65535) ∧ (0 ≤ M ∧ M ≤ 65535))) (hq : ¬ (0 ≤ A ∧ A ≤ E ∧ E ≤ 1114111)) : Calls Try.prog 6 #[v, .agg #[.int .i64 N, .int .i64 M, .int .i32 A, .int .i32 E]] w fun e w' => e = .returned (.bool true) ∧ Below w.heap.size w w' := by
  have B0 : Below w.heap.size w (w.alloc (.cells #[.int .i64 N, .int .i64 M, .int .i32 A, .int .i32 E] 64)) := (Below.refl _ _).alloc (Nat.le_refl _) _
  have HQ : Hid (∀ w1, Below (w.alloc (.cells #[.int .i64 N, .int .i64 M, .int .i32 A, .int .i32 E] 64)).heap.size (w.alloc (.cells #[.int .i64 N, .int .i64 M, .int .i32 A, .int .i32 E] 64)) w1 → w1.cell? ⟨w.heap.size, 0, none⟩ = some (.int .i64 N) ∧ w1.cell? ⟨w.heap.size, 1, none⟩ = some (.int .i64 M) ∧ w1.cell? ⟨w.heap.size, 2, none⟩ = some (.int .i32 A) ∧ w1.cell? ⟨w.heap.size, 3, none⟩ = some (.int .i32 E)) := fun w1 hb => by
    have q := box4 w (.int .i64 N) (.int .i64 M) (.int .i32 A) (.int .i32 E) 64
    have hs : w.heap.size < (w.alloc (.cells #[.int .i64 N, .int .i64 M, .int .i32 A, .int .i32 E] 64)).heap.size := by simp
    exact ⟨(hb.cell (p := ⟨w.heap.size, 0, none⟩) hs).trans (q 0 _ rfl), (hb.cell (p := ⟨w.heap.size, 1, none⟩) hs).trans (q 1 _ rfl), (hb.cell (p := ⟨w.heap.size, 2, none⟩) hs).trans (q 2 _ rfl), (hb.cell (p := ⟨w.heap.size, 3, none⟩) hs).trans (q 3 _ rfl)⟩
  have K1 : Hid (Calls Try.prog 30 #[v] (w.alloc (.cells #[.int .i64 N, .int .i64 M, .int .i32 A, .int .i32 E] 64)) fun e w' => ∃ vr, e = .returned (.tuple #[.pointer none, vr, .bool false, .bool true]) ∧ Rd3 .i64 w' vr L ∧ Below (w.alloc (.cells #[.int .i64 N, .int .i64 M, .int .i32 A, .int .i32 E] 64)).heap.size (w.alloc (.cells #[.int .i64 N, .int .i64 M, .int .i32 A, .int .i32 E] 64)) w') := built_bad L v _ (hr.below B0) hf hl h
  have hok : okF 0 ([] : List Rw) := trivial
  have hl2 : ([] : List Rw).length ≤ 65536 := by decide
  have hrg := lk_range hok
  have HOK : Hid (okF 0 ([] : List Rw)) := hok
  have HL2 : Hid ((([] : List Rw)).length ≤ 65536) := hl2
  replace B0 : Hid (Below w.heap.size w (w.alloc (.cells #[.int .i64 N, .int .i64 M, .int .i32 A, .int .i32 E] 64))) := B0
  have KS : Hid (∀ w1 vt, Calls Try.prog 31 #[vt, .int .i64 N, .int .i64 M] w1 fun e w' => e = .returned (.tuple #[.pointer none, .int .i64 81]) ∧ Below w1.heap.size w1 w') := fun w1 vt => sswap_bad vt N M w1 hn
  have hn4 : decide (N < 0) = true ∨ (decide (N < 0) = false ∧ decide (65535 < N) = true) ∨ (decide (N < 0) = false ∧ decide (65535 < N) = false ∧ decide (M < 0) = true) ∨ (decide (N < 0) = false ∧ decide (65535 < N) = false ∧ decide (M < 0) = false ∧ decide (65535 < M) = true) := by
    simp only [decide_eq_true_eq, decide_eq_false_iff_not]
    omega
  have KR : Hid (∀ w1 vt, Calls Try.prog 33 #[vt, .int .i32 A, .int .i32 E] w1 fun e w' => e = .returned (.slice none 0 0) ∧ Below w1.heap.size w1 w') := fun w1 vt => sruns_bad vt A E w1 hq
  have hq4 : decide (A < 0) = true ∨ (decide (A < 0) = false ∧ decide (1114111 < A) = true) ∨ (decide (A < 0) = false ∧ decide (1114111 < A) = false ∧ decide (E < A) = true) ∨ (decide (A < 0) = false ∧ decide (1114111 < A) = false ∧ decide (E < A) = false ∧ decide (1114111 < E) = true) := by
    simp only [decide_eq_true_eq, decide_eq_false_iff_not]
    omega
  clear hr h hf hok hl2 hrg hn hq
  go_enter Try.func6, Try.ntmps6
  go_wp2_with (go_at_call 30; refine K1.out.mono ?_)
  first | rintro e w1 vr rfl r1 b1 | rintro e w1 ⟨vr, rfl, r1, b1⟩
  clear K1
  generalize w.alloc (.cells #[.int .i64 N, .int .i64 M, .int .i32 A, .int .i32 E] 64) = W0 at *
  replace b1 : Hid (Below W0.heap.size W0 w1) := b1
  have R1 : Hid (Rd3 .i64 w1 (.slice none 0 0) ([] : List Rw)) := ⟨none, 0, rfl, Nat.le_refl _, fun h => by simp at h⟩
  have T1 : Hid (Tab w1 (.pointer none) (lk ([] : List Rw))) := .inl ⟨rfl, rfl⟩
  clear r1
  go_wp2_with (go_at_call 8; refine (awake_any _).mono ?_)
  intro e w2 hq
  first | (obtain ⟨rfl, b2⟩ : _ ∧ _ := hq) | (subst hq; intro b2)
  have B2 : Hid (Below W0.heap.size W0 w2) := b1.out.trans (b2.mono b1.out.size)
  have R2 : Hid (Rd3 .i64 w2 (.slice none 0 0) ([] : List Rw)) := R1.out.below b2
  have T2 : Hid (Tab w2 (.pointer none) (lk ([] : List Rw))) := T1.out.below b2
  clear b1 b2 R1 T1
  obtain ⟨x0, x1, x2, x3⟩ := HQ.out w2 B2.out
  go_wp2_with (go_at_call 31; refine (KS.out _ _).mono ?_)
  intro e w3 hq
  first | (obtain ⟨rfl, b3⟩ : _ ∧ _ := hq) | (subst hq; intro b3)
  have B3 : Hid (Below W0.heap.size W0 w3) := B2.out.trans (b3.mono B2.out.size)
  have R3 : Hid (Rd3 .i64 w3 (.slice none 0 0) ([] : List Rw)) := R2.out.below b3
  have T3' : Hid (Tab w3 (.pointer none) (lk ([] : List Rw))) := T2.out.below b3
  clear b3 B2 R2 T2 KS x0 x1 x2 x3
  obtain ⟨x0, x1, x2, x3⟩ := HQ.out w3 B3.out
  rcases hn4 with n1 | ⟨n1, n2⟩ | ⟨n1, n2, n3⟩ | ⟨n1, n2, n3, n4⟩
  all_goals (
    go_wp2_with (go_at_call 33; refine (KR.out _ _).mono ?_)
    intro e w4 hq
    first | (obtain ⟨rfl, b4⟩ : _ ∧ _ := hq) | (subst hq; intro b4)
    have B4 : Hid (Below W0.heap.size W0 w4) := B3.out.trans (b4.mono B3.out.size)
    clear b4 B3 R3 T3' KR x0 x1 x2 x3
    obtain ⟨x0, x1, x2, x3⟩ := HQ.out w4 B4.out
    have B5 : Hid (Below w.heap.size w w4) := B0.out.trans (B4.out.mono B0.out.size)
    rcases hq4 with a1 | ⟨a1, a2⟩ | ⟨a1, a2, a3⟩ | ⟨a1, a2, a3, a4⟩)
  all_goals (
    go_wp2
    go_ret
    exact ⟨rfl, B5.out⟩)
end Go.Proofs.Ytookbgmolggohab
