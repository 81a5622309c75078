/-
  The law StageSwaps, walked, where the two numbers are numbers. Conditions: the numbers fit; the list takes no more bytes than there are.
-/
import Derived.Test.YtookbgmolggohabNf
import Derived.Test.YtookbgmolggohabOn
import Derived.Deep.RegionWith
namespace Go.Proofs.Ytookbgmolggohab
open Go.RowKit
set_option maxRecDepth 100000 in
set_option maxHeartbeats 8000000 in
theorem swaps_gnr (L : List Rw) (v : Value) (N M A E : Int) (w : World) (hr : Rd3 .i32 w v L) (hf : fit3 L) (hl : L.length ≤ 8796093022208) (h : (chk L).2 = 0) (hnN : 0 ≤ N ∧ N ≤ 65535) (hnM : 0 ≤ M ∧ M ≤ 65535) (hA : 0 ≤ A) (hAE : A ≤ E) (hE : E ≤ 1114111) : Calls Try.prog 6 #[v, .agg #[.int .i64 N, .int .i64 M, .int .i32 A, .int .i32 E]] w fun e w' => e = .returned (.bool true) ∧ Below w.heap.size w w' := by
  have B0 : Below w.heap.size w (w.alloc (.cells #[.int .i64 N, .int .i64 M, .int .i32 A, .int .i32 E] 64)) := (Below.refl _ _).alloc (Nat.le_refl _) _
  have HQ : Hid (∀ w1, Below (w.alloc (.cells #[.int .i64 N, .int .i64 M, .int .i32 A, .int .i32 E] 64)).heap.size (w.alloc (.cells #[.int .i64 N, .int .i64 M, .int .i32 A, .int .i32 E] 64)) w1 → w1.cell? ⟨w.heap.size, 0, none⟩ = some (.int .i64 N) ∧ w1.cell? ⟨w.heap.size, 1, none⟩ = some (.int .i64 M) ∧ w1.cell? ⟨w.heap.size, 2, none⟩ = some (.int .i32 A) ∧ w1.cell? ⟨w.heap.size, 3, none⟩ = some (.int .i32 E)) := fun w1 hb => by
    have q := box4 w (.int .i64 N) (.int .i64 M) (.int .i32 A) (.int .i32 E) 64
    have hs : w.heap.size < (w.alloc (.cells #[.int .i64 N, .int .i64 M, .int .i32 A, .int .i32 E] 64)).heap.size := by simp
    exact ⟨(hb.cell (p := ⟨w.heap.size, 0, none⟩) hs).trans (q 0 _ rfl), (hb.cell (p := ⟨w.heap.size, 1, none⟩) hs).trans (q 1 _ rfl), (hb.cell (p := ⟨w.heap.size, 2, none⟩) hs).trans (q 2 _ rfl), (hb.cell (p := ⟨w.heap.size, 3, none⟩) hs).trans (q 3 _ rfl)⟩
  have K1 : Hid (Calls Try.prog 30 #[v] (w.alloc (.cells #[.int .i64 N, .int .i64 M, .int .i32 A, .int .i32 E] 64)) fun e w' => ∃ T vr, e = .returned (.tuple #[.pointer (some ⟨T, 0, none⟩), vr, .bool true, .bool true]) ∧ Rd3 .i64 w' vr L ∧ TabAt w' T (lk L) ∧ Below (w.alloc (.cells #[.int .i64 N, .int .i64 M, .int .i32 A, .int .i32 E] 64)).heap.size (w.alloc (.cells #[.int .i64 N, .int .i64 M, .int .i32 A, .int .i32 E] 64)) w') := built_good L v _ (hr.below B0) hf hl h
  obtain ⟨hl2, hok, -⟩ := chk_ok h
  have hrg := lk_range hok
  have HOK : Hid (okF 0 L) := hok
  have HL2 : Hid ((L).length ≤ 65536) := hl2
  replace B0 : Hid (Below w.heap.size w (w.alloc (.cells #[.int .i64 N, .int .i64 M, .int .i32 A, .int .i32 E] 64))) := B0
  have n1 : decide (N < 0) = false := decide_eq_false (by omega)
  have n2 : decide (65535 < N) = false := decide_eq_false (by omega)
  have n3 : decide (M < 0) = false := decide_eq_false (by omega)
  have n4 : decide (65535 < M) = false := decide_eq_false (by omega)
  have HN : Hid ((0 ≤ N ∧ N ≤ 65535) ∧ 0 ≤ M ∧ M ≤ 65535) := ⟨hnN, hnM⟩
  have KS : Hid (∀ w1 vt, Tab w1 vt (lk L) → Calls Try.prog 31 #[vt, .int .i64 N, .int .i64 M] w1 fun e w' => ∃ T, e = .returned (.tuple #[.pointer (some ⟨T, 0, none⟩), .int .i64 0]) ∧ TabAt w' T (swF N M (lk L)) ∧ Below w1.heap.size w1 w') := fun w1 vt hT => sswap_good vt (lk L) N M w1 hT hrg hnN hnM
  have hsay := swap_says (L := L) N M hnM hok
  have KW : Hid (∀ w1 v1, Rd3 .i64 w1 v1 L → Calls Try.prog 32 #[v1, .int .i64 N, .int .i64 M] w1 fun e w' => ∃ v', e = .returned v' ∧ Rd3 .i64 w' v' (lst (runsL (swp N M (runsL L)))) ∧ Below w1.heap.size w1 w') := fun w1 v1 h1 => rswap_any L N M v1 w1 h1 hok hl2 hnM
  have KT : Hid (∀ w1 T v1, TabAt w1 T (swF N M (lk L)) → Rd3 .i64 w1 v1 (lst (runsL (swp N M (runsL L)))) → Calls Try.prog 28 #[.pointer (some ⟨T, 0, none⟩), v1, .slice none 0 0, .int .i64 M] w1 fun e w' => e = .returned (.bool true) ∧ Below w1.heap.size w1 w') := fun w1 T v1 h1 h2 => stands_any _ [] _ v1 _ M w1 (.inr ⟨T, rfl, by rw [hsay.2]; exact h1⟩) ⟨_, rfl⟩ h2 ⟨none, 0, rfl, Nat.le_refl _, fun h => by simp at h⟩ (fun x hx => by cases hx) (by simp) hsay.1 (by
    have h3 := lst_len (runsL (swp N M (runsL L)))
    have h4 := runsL_len (swp N M (runsL L))
    have h5 := runsL_len L
    rw [swp_len] at h4
    omega)
  have a1 : decide (A < 0) = false := decide_eq_false (by omega)
  have a2 : decide (1114111 < A) = false := decide_eq_false (by omega)
  have a3 : decide (E < A) = false := decide_eq_false (by omega)
  have a4 : decide (1114111 < E) = false := decide_eq_false (by omega)
  have wA : IntKind.i64.wrap A = A := IntWalk.i64_in _ (by omega)
  have wE : IntKind.i64.wrap E = E := IntWalk.i64_in _ (by omega)
  have hcl := (Rn.clip hAE (runs_rn hok) (by omega)).1
  have hclp : Rn (lk L) A (clp A E (runsL L)) (E + 1) := by
    by_cases c : (0 : Int) < A
    · have := hcl (by omega); rwa [if_pos c] at this
    · have := hcl (by omega); rw [if_neg c] at this; rwa [show A = 0 by omega] at this ⊢
  have KR : Hid (∀ w1 vt, Tab w1 vt (lk L) → Calls Try.prog 33 #[vt, .int .i32 A, .int .i32 E] w1 fun e w' => ∃ v, e = .returned v ∧ Rd3 .i32 w' v (clp A E (runsL L)) ∧ Below w1.heap.size w1 w') := fun w1 vt hT => (sruns_good vt (lk L) A E w1 hT hrg hA hAE hE).mono fun e w' ⟨v, ys, h1, h2, h3, h4⟩ => by
    rw [Rn.uniq h2 hclp] at h3
    exact ⟨v, h1, Rd3.of_owns h3, h4⟩
  have KB : Hid (∀ w1 v1, Rd3 .i64 w1 v1 L → Calls Try.prog 34 #[v1, .int .i64 A, .int .i64 E] w1 fun e w' => ∃ v', e = .returned v' ∧ Rd3 .i64 w' v' (clp A E (runsL L)) ∧ Below w1.heap.size w1 w') := fun w1 v1 h1 => between_any L A E v1 w1 h1 hok hl2 hA hE
  have hfc : fit3 (clp A E (runsL L)) := fun r hr => by
    obtain ⟨m1, m2, m3, m4⟩ := (Rn.mem hclp).2 r hr
    have := hrg r.1
    rw [m4 r.1 (by omega) (by omega)] at this
    omega
  have KW2 : Hid (∀ w1 v1 v2, Rd3 .i32 w1 v1 (clp A E (runsL L)) → Rd3 .i64 w1 v2 (clp A E (runsL L)) → Calls Try.prog 14 #[v1, v2] w1 fun e w' => e = .returned (.bool true) ∧ Below w1.heap.size w1 w') := fun w1 v1 v2 h1 h2 => rows_same _ v1 v2 w1 h1 h2 hfc (by
    have h3 := clp_len A E (runsL L)
    have h4 := runsL_len L
    omega)
  have KT2 : Hid (∀ w1 vt v1, Tab w1 vt (lk L) → (∃ p, vt = .pointer p) → Rd3 .i64 w1 v1 L → Calls Try.prog 28 #[vt, v1, .slice none 0 0, .int .i64 0] w1 fun e w' => e = .returned (.bool true) ∧ Below w1.heap.size w1 w') := fun w1 vt v1 h1 hv h2 => stands_any _ [] _ v1 _ 0 w1 h1 hv h2 ⟨none, 0, rfl, Nat.le_refl _, fun h => by simp at h⟩ (fun x hx => by cases hx) (by simp) hok (by omega)
  clear hcl hclp hfc
  clear hr h hf hok hl2 hrg hnN hnM hsay hA hAE hE
  go_enter Try.func6, Try.ntmps6
  go_wp2_with (go_at_call 30; refine K1.out.mono ?_)
  first | rintro e w1 T vr rfl r1 t1 b1 | rintro e w1 ⟨T, vr, rfl, r1, t1, b1⟩
  clear K1
  generalize w.alloc (.cells #[.int .i64 N, .int .i64 M, .int .i32 A, .int .i32 E] 64) = W0 at *
  replace b1 : Hid (Below W0.heap.size W0 w1) := b1
  have R1 : Hid (Rd3 .i64 w1 (vr) L) := r1
  have T1 : Hid (Tab w1 (.pointer (some ⟨T, 0, none⟩)) (lk L)) := .inr ⟨T, rfl, t1⟩
  clear r1 t1
  go_wp2_with (go_at_call 8; refine (awake_any _).mono ?_)
  intro e w2 hq
  first | (obtain ⟨rfl, b2⟩ : _ ∧ _ := hq) | (subst hq; intro b2)
  have B2 : Hid (Below W0.heap.size W0 w2) := b1.out.trans (b2.mono b1.out.size)
  have R2 : Hid (Rd3 .i64 w2 (vr) L) := R1.out.below b2
  have T2 : Hid (Tab w2 (.pointer (some ⟨T, 0, none⟩)) (lk L)) := T1.out.below b2
  clear b1 b2 R1 T1
  obtain ⟨x0, x1, x2, x3⟩ := HQ.out w2 B2.out
  go_wp2_with (go_at_call 31; refine (KS.out _ _ T2.out).mono ?_)
  first | rintro e w3 T3 rfl t3 b3 | rintro e w3 ⟨T3, rfl, t3, b3⟩
  replace t3 : Hid (TabAt w3 T3 (swF N M (lk L))) := t3
  have B3 : Hid (Below W0.heap.size W0 w3) := B2.out.trans (b3.mono B2.out.size)
  have R3 : Hid (Rd3 .i64 w3 (vr) L) := R2.out.below b3
  have T3' : Hid (Tab w3 (.pointer (some ⟨T, 0, none⟩)) (lk L)) := T2.out.below b3
  clear b3 B2 R2 T2 KS x0 x1 x2 x3
  obtain ⟨x0, x1, x2, x3⟩ := HQ.out w3 B3.out
  go_wp2_with fail
  clear HN n1 n2 n3 n4 x0 x1 x2 x3
  refine wp_region_one (a1 := ?a1r10n1) 13 (fun w1 u => Rd3 .i64 w1 u (lst (runsL (swp N M (runsL L))))) (fun _ _ _ hb h => Rd3.below h hb) [.int .i64 0, .bool false, .bool false, .pointer (some ⟨T3, 0, none⟩), .bool false, .bool false, .bool false, .pointer (some ⟨T3, 0, none⟩), vr, .pointer (some ⟨w.heap.size, 0, none⟩), .int .i64 N, .pointer (some ⟨w.heap.size, 1, none⟩), .int .i64 M, undef, .pointer (some ⟨w.heap.size, 1, none⟩), .int .i64 M, .bool true, .bool false, .bool false] (n := 123) rfl (by kernel_rfl) (by kernel_rfl) ⟨?o0r10n1, ?o1r10n1, ?o2r10n1, ?o3r10n1, ?o4r10n1, ?o5r10n1, ?o6r10n1, ?o7r10n1, ?o8r10n1, ?o9r10n1, ?o10r10n1, ?o11r10n1, ?o12r10n1, ?o13r10n1, ?o14r10n1, ?o15r10n1, ?o16r10n1, ?o17r10n1, ?o18r10n1, trivial⟩ rfl (by simp) ?har10n1 ?hdoner10n1
  case har10n1 => intro u; simp [putAll, Act.put]; exact rfl
  case o0r10n1 => exact OneOp.pure (by decide) rfl [(10, .int .i64 0)] rfl (fun _ _ h2 => ⟨(h2 10 (by kernel_rfl)).trans rfl, trivial⟩) (by kernel_rfl) (fun _ _ => by kernel_rfl)
  case o1r10n1 => exact OneOp.pure (by decide) rfl [(60, .int .i64 0)] rfl (fun _ h1 _ => ⟨h1 0 60 (by decide) (by kernel_rfl), trivial⟩) (by kernel_rfl) (fun _ _ => run_bin (a := .int .i64 0) (b := .int .i64 0) rfl rfl rfl (by kernel_rfl) (by simp [go_sem]))
  case o2r10n1 => exact OneOp.pure (by decide) rfl [(61, .bool false)] rfl (fun _ h1 _ => ⟨h1 1 61 (by decide) (by kernel_rfl), trivial⟩) (by kernel_rfl) (fun _ _ => by kernel_rfl)
  case o3r10n1 => exact OneOp.pure (by decide) rfl [(9, .pointer (some ⟨T3, 0, none⟩))] (.inl ⟨62, _, rfl, rfl, by kernel_rfl, rfl⟩) (fun _ _ h2 => ⟨(h2 9 (by kernel_rfl)).trans rfl, trivial⟩) (by kernel_rfl) (fun _ _ => by kernel_rfl)
  case o4r10n1 => exact OneOp.pure (by decide) rfl [(63, .pointer (some ⟨T3, 0, none⟩))] (.inl ⟨62, _, rfl, rfl, by kernel_rfl, rfl⟩) (fun _ h1 _ => ⟨h1 3 63 (by decide) (by kernel_rfl), trivial⟩) (by kernel_rfl) (fun _ _ => by kernel_rfl)
  case o5r10n1 => exact OneOp.pure (by decide) rfl [(62, .bool false), (64, .bool false)] rfl (fun _ h1 _ => ⟨h1 2 62 (by decide) (by kernel_rfl), h1 4 64 (by decide) (by kernel_rfl), trivial⟩) (by kernel_rfl) (fun _ _ => by kernel_rfl)
  case o6r10n1 => exact OneOp.pure (by decide) rfl [(65, .bool false)] rfl (fun _ h1 _ => ⟨h1 5 65 (by decide) (by kernel_rfl), trivial⟩) (by kernel_rfl) (fun _ _ => by kernel_rfl)
  case o7r10n1 => exact OneOp.pure (by decide) rfl [(9, .pointer (some ⟨T3, 0, none⟩))] (.inl ⟨66, _, rfl, rfl, by kernel_rfl, rfl⟩) (fun _ _ h2 => ⟨(h2 9 (by kernel_rfl)).trans rfl, trivial⟩) (by kernel_rfl) (fun _ _ => by kernel_rfl)
  case o8r10n1 => exact OneOp.pure (by decide) rfl [(6, vr)] (.inl ⟨66, _, rfl, rfl, by kernel_rfl, rfl⟩) (fun _ _ h2 => ⟨(h2 6 (by kernel_rfl)).trans rfl, trivial⟩) (by kernel_rfl) (fun _ _ => by kernel_rfl)
  case o9r10n1 => exact OneOp.pure (by decide) rfl [(3, .pointer (some ⟨w.heap.size, 0, none⟩))] (.inl ⟨66, _, rfl, rfl, by kernel_rfl, rfl⟩) (fun _ _ h2 => ⟨(h2 3 (by kernel_rfl)).trans rfl, trivial⟩) (by kernel_rfl) (fun _ _ => by kernel_rfl)
  case o10r10n1 => exact OneOp.pure (by decide) rfl [(69, .pointer (some ⟨w.heap.size, 0, none⟩))] (.inl ⟨66, _, rfl, rfl, by kernel_rfl, rfl⟩) (fun _ h1 _ => ⟨h1 9 69 (by decide) (by kernel_rfl), trivial⟩) (by kernel_rfl) (fun w hb => run_read rfl rfl (run_cell1 ((HQ.out w (B3.out.trans (hb.mono B3.out.size))).1) (Try.isAgg3 _)))
  case o11r10n1 => exact OneOp.pure (by decide) rfl [(3, .pointer (some ⟨w.heap.size, 0, none⟩))] (.inl ⟨66, _, rfl, rfl, by kernel_rfl, rfl⟩) (fun _ _ h2 => ⟨(h2 3 (by kernel_rfl)).trans rfl, trivial⟩) (by kernel_rfl) (fun _ _ => by kernel_rfl)
  case o12r10n1 => exact OneOp.pure (by decide) rfl [(71, .pointer (some ⟨w.heap.size, 1, none⟩))] (.inl ⟨66, _, rfl, rfl, by kernel_rfl, rfl⟩) (fun _ h1 _ => ⟨h1 11 71 (by decide) (by kernel_rfl), trivial⟩) (by kernel_rfl) (fun w hb => run_read rfl rfl (run_cell1 ((HQ.out w (B3.out.trans (hb.mono B3.out.size))).2.1) (Try.isAgg3 _)))
  case o13r10n1 => exact OneOp.callJ rfl rfl [(68, vr), (70, .int .i64 N), (72, .int .i64 M)] (.inl ⟨66, _, rfl, rfl, by kernel_rfl, rfl⟩) (fun _ h1 _ => ⟨h1 8 68 (by decide) (by kernel_rfl), h1 10 70 (by decide) (by kernel_rfl), h1 12 72 (by decide) (by kernel_rfl), trivial⟩) (by kernel_rfl) 32 #[vr, .int .i64 N, .int .i64 M] (fun _ => by kernel_rfl) (fun w hb => KW.out w _ (R3.out.below hb))
  case o14r10n1 => exact OneOp.pure (by decide) rfl [(3, .pointer (some ⟨w.heap.size, 0, none⟩))] (.inl ⟨66, _, rfl, rfl, by kernel_rfl, rfl⟩) (fun _ _ h2 => ⟨(h2 3 (by kernel_rfl)).trans rfl, trivial⟩) (by kernel_rfl) (fun _ _ => by kernel_rfl)
  case o15r10n1 => exact OneOp.pure (by decide) rfl [(74, .pointer (some ⟨w.heap.size, 1, none⟩))] (.inl ⟨66, _, rfl, rfl, by kernel_rfl, rfl⟩) (fun _ h1 _ => ⟨h1 14 74 (by decide) (by kernel_rfl), trivial⟩) (by kernel_rfl) (fun w hb => run_read rfl rfl (run_cell1 ((HQ.out w (B3.out.trans (hb.mono B3.out.size))).2.1) (Try.isAgg3 _)))
  case o16r10n1 => exact OneOp.callU (by decide) rfl 73 (by kernel_rfl) (fun u => [(67, .pointer (some ⟨T3, 0, none⟩)), (73, u), (75, .int .i64 M)]) (.inl ⟨66, _, rfl, rfl, by kernel_rfl, rfl⟩) (fun _ _ hu h1 _ => ⟨h1 7 67 (by decide) (by kernel_rfl), hu, h1 15 75 (by decide) (by kernel_rfl), trivial⟩) (fun _ => by kernel_rfl) 28 (fun u => #[.pointer (some ⟨T3, 0, none⟩), u, .slice none 0 0, .int .i64 M]) (fun _ _ => by kernel_rfl) (fun u w hb hR => KT.out w _ u (t3.out.below hb) hR)
  case o17r10n1 => exact OneOp.pure (by decide) rfl [(76, .bool true)] (.inl ⟨66, _, rfl, rfl, by kernel_rfl, rfl⟩) (fun _ h1 _ => ⟨h1 16 76 (by decide) (by kernel_rfl), trivial⟩) (by kernel_rfl) (fun _ _ => by kernel_rfl)
  case o18r10n1 => exact OneOp.pure (by decide) rfl [(66, .bool false), (77, .bool false)] rfl (fun _ h1 _ => ⟨h1 6 66 (by decide) (by kernel_rfl), h1 17 77 (by decide) (by kernel_rfl), trivial⟩) (by kernel_rfl) (fun _ _ => by kernel_rfl)
  case hdoner10n1 =>
    intro v4 w4 b4 r4
    have B4 : Hid (Below W0.heap.size W0 w4) := B3.out.trans (b4.mono B3.out.size)
    have R4 : Hid (Rd3 .i64 w4 (vr) L) := R3.out.below b4
    have T4 : Hid (Tab w4 (.pointer (some ⟨T, 0, none⟩)) (lk L)) := T3'.out.below b4
    clear b4 B3 R3 T3' r4 t3 KW KT
    obtain ⟨x0, x1, x2, x3⟩ := HQ.out w4 B4.out
    go_wp2_with (go_at_call 33; refine (KR.out _ _ T4.out).mono ?_)
    first | rintro e w5 v5 rfl r5 b5 | rintro e w5 ⟨v5, rfl, r5, b5⟩
    replace r5 : Hid (Rd3 .i32 w5 v5 (clp A E (runsL L))) := r5
    have B5 : Hid (Below W0.heap.size W0 w5) := B4.out.trans (b5.mono B4.out.size)
    have R5 : Hid (Rd3 .i64 w5 (vr) L) := R4.out.below b5
    have T5 : Hid (Tab w5 (.pointer (some ⟨T, 0, none⟩)) (lk L)) := T4.out.below b5
    clear b5 B4 R4 T4 KR x0 x1 x2 x3
    obtain ⟨x0, x1, x2, x3⟩ := HQ.out w5 B5.out
    go_wp2_with (go_at_call 34; refine (KB.out _ _ R5.out).mono ?_)
    first | rintro e w6 v6 rfl r6 b6 | rintro e w6 ⟨v6, rfl, r6, b6⟩
    replace r6 : Hid (Rd3 .i64 w6 v6 (clp A E (runsL L))) := r6
    have B6 : Hid (Below W0.heap.size W0 w6) := B5.out.trans (b6.mono B5.out.size)
    have q5 : Hid (Rd3 .i32 w6 v5 (clp A E (runsL L))) := r5.out.below b6
    have R6 : Hid (Rd3 .i64 w6 (vr) L) := R5.out.below b6
    have T6 : Hid (Tab w6 (.pointer (some ⟨T, 0, none⟩)) (lk L)) := T5.out.below b6
    clear b6 B5 R5 T5 KB r5 x0 x1 x2 x3
    go_wp2_with (go_at_call 14; refine (KW2.out _ _ _ q5.out r6.out).mono ?_)
    intro e w7 hq
    first | (obtain ⟨rfl, b7⟩ : _ ∧ _ := hq) | (subst hq; intro b7)
    have B7 : Hid (Below W0.heap.size W0 w7) := B6.out.trans (b7.mono B6.out.size)
    have R7 : Hid (Rd3 .i64 w7 (vr) L) := R6.out.below b7
    have T7 : Hid (Tab w7 (.pointer (some ⟨T, 0, none⟩)) (lk L)) := T6.out.below b7
    clear b7 B6 R6 T6 q5 r6 KW2
    go_wp2_with (go_at_call 28; refine (KT2.out _ _ _ T7.out ⟨_, rfl⟩ R7.out).mono ?_)
    intro e w8 hq
    first | (obtain ⟨rfl, b8⟩ : _ ∧ _ := hq) | (subst hq; intro b8)
    have B8 : Hid (Below w.heap.size w w8) := B0.out.trans ((B7.out.trans (b8.mono B7.out.size)).mono B0.out.size)
    clear b8 B7 R7 T7 KT2 B0
    go_wp2
    go_ret
    exact ⟨rfl, B8.out⟩
set_option maxRecDepth 100000 in
set_option maxHeartbeats 8000000 in
theorem swaps_gnx (L : List Rw) (v : Value) (N M A E : Int) (w : World) (hr : Rd3 .i32 w v L) (hf : fit3 L) (hl : L.length ≤ 8796093022208) (h : (chk L).2 = 0) (hnN : 0 ≤ N ∧ N ≤ 65535) (hnM : 0 ≤ M ∧ M ≤ 65535) (hq : ¬ (0 ≤ A ∧ A ≤ E ∧ E ≤ 1114111)) : Calls Try.prog 6 #[v, .agg #[.int .i64 N, .int .i64 M, .int .i32 A, .int .i32 E]] w fun e w' => e = .returned (.bool true) ∧ Below w.heap.size w w' := by
  have B0 : Below w.heap.size w (w.alloc (.cells #[.int .i64 N, .int .i64 M, .int .i32 A, .int .i32 E] 64)) := (Below.refl _ _).alloc (Nat.le_refl _) _
  have HQ : Hid (∀ w1, Below (w.alloc (.cells #[.int .i64 N, .int .i64 M, .int .i32 A, .int .i32 E] 64)).heap.size (w.alloc (.cells #[.int .i64 N, .int .i64 M, .int .i32 A, .int .i32 E] 64)) w1 → w1.cell? ⟨w.heap.size, 0, none⟩ = some (.int .i64 N) ∧ w1.cell? ⟨w.heap.size, 1, none⟩ = some (.int .i64 M) ∧ w1.cell? ⟨w.heap.size, 2, none⟩ = some (.int .i32 A) ∧ w1.cell? ⟨w.heap.size, 3, none⟩ = some (.int .i32 E)) := fun w1 hb => by
    have q := box4 w (.int .i64 N) (.int .i64 M) (.int .i32 A) (.int .i32 E) 64
    have hs : w.heap.size < (w.alloc (.cells #[.int .i64 N, .int .i64 M, .int .i32 A, .int .i32 E] 64)).heap.size := by simp
    exact ⟨(hb.cell (p := ⟨w.heap.size, 0, none⟩) hs).trans (q 0 _ rfl), (hb.cell (p := ⟨w.heap.size, 1, none⟩) hs).trans (q 1 _ rfl), (hb.cell (p := ⟨w.heap.size, 2, none⟩) hs).trans (q 2 _ rfl), (hb.cell (p := ⟨w.heap.size, 3, none⟩) hs).trans (q 3 _ rfl)⟩
  have K1 : Hid (Calls Try.prog 30 #[v] (w.alloc (.cells #[.int .i64 N, .int .i64 M, .int .i32 A, .int .i32 E] 64)) fun e w' => ∃ T vr, e = .returned (.tuple #[.pointer (some ⟨T, 0, none⟩), vr, .bool true, .bool true]) ∧ Rd3 .i64 w' vr L ∧ TabAt w' T (lk L) ∧ Below (w.alloc (.cells #[.int .i64 N, .int .i64 M, .int .i32 A, .int .i32 E] 64)).heap.size (w.alloc (.cells #[.int .i64 N, .int .i64 M, .int .i32 A, .int .i32 E] 64)) w') := built_good L v _ (hr.below B0) hf hl h
  obtain ⟨hl2, hok, -⟩ := chk_ok h
  have hrg := lk_range hok
  have HOK : Hid (okF 0 L) := hok
  have HL2 : Hid ((L).length ≤ 65536) := hl2
  replace B0 : Hid (Below w.heap.size w (w.alloc (.cells #[.int .i64 N, .int .i64 M, .int .i32 A, .int .i32 E] 64))) := B0
  have n1 : decide (N < 0) = false := decide_eq_false (by omega)
  have n2 : decide (65535 < N) = false := decide_eq_false (by omega)
  have n3 : decide (M < 0) = false := decide_eq_false (by omega)
  have n4 : decide (65535 < M) = false := decide_eq_false (by omega)
  have HN : Hid ((0 ≤ N ∧ N ≤ 65535) ∧ 0 ≤ M ∧ M ≤ 65535) := ⟨hnN, hnM⟩
  have KS : Hid (∀ w1 vt, Tab w1 vt (lk L) → Calls Try.prog 31 #[vt, .int .i64 N, .int .i64 M] w1 fun e w' => ∃ T, e = .returned (.tuple #[.pointer (some ⟨T, 0, none⟩), .int .i64 0]) ∧ TabAt w' T (swF N M (lk L)) ∧ Below w1.heap.size w1 w') := fun w1 vt hT => sswap_good vt (lk L) N M w1 hT hrg hnN hnM
  have hsay := swap_says (L := L) N M hnM hok
  have KW : Hid (∀ w1 v1, Rd3 .i64 w1 v1 L → Calls Try.prog 32 #[v1, .int .i64 N, .int .i64 M] w1 fun e w' => ∃ v', e = .returned v' ∧ Rd3 .i64 w' v' (lst (runsL (swp N M (runsL L)))) ∧ Below w1.heap.size w1 w') := fun w1 v1 h1 => rswap_any L N M v1 w1 h1 hok hl2 hnM
  have KT : Hid (∀ w1 T v1, TabAt w1 T (swF N M (lk L)) → Rd3 .i64 w1 v1 (lst (runsL (swp N M (runsL L)))) → Calls Try.prog 28 #[.pointer (some ⟨T, 0, none⟩), v1, .slice none 0 0, .int .i64 M] w1 fun e w' => e = .returned (.bool true) ∧ Below w1.heap.size w1 w') := fun w1 T v1 h1 h2 => stands_any _ [] _ v1 _ M w1 (.inr ⟨T, rfl, by rw [hsay.2]; exact h1⟩) ⟨_, rfl⟩ h2 ⟨none, 0, rfl, Nat.le_refl _, fun h => by simp at h⟩ (fun x hx => by cases hx) (by simp) hsay.1 (by
    have h3 := lst_len (runsL (swp N M (runsL L)))
    have h4 := runsL_len (swp N M (runsL L))
    have h5 := runsL_len L
    rw [swp_len] at h4
    omega)
  have KR : Hid (∀ w1 vt, Calls Try.prog 33 #[vt, .int .i32 A, .int .i32 E] w1 fun e w' => e = .returned (.slice none 0 0) ∧ Below w1.heap.size w1 w') := fun w1 vt => sruns_bad vt A E w1 hq
  have hq4 : decide (A < 0) = true ∨ (decide (A < 0) = false ∧ decide (1114111 < A) = true) ∨ (decide (A < 0) = false ∧ decide (1114111 < A) = false ∧ decide (E < A) = true) ∨ (decide (A < 0) = false ∧ decide (1114111 < A) = false ∧ decide (E < A) = false ∧ decide (1114111 < E) = true) := by
    simp only [decide_eq_true_eq, decide_eq_false_iff_not]
    omega
  clear hr h hf hok hl2 hrg hnN hnM hsay hq
  go_enter Try.func6, Try.ntmps6
  go_wp2_with (go_at_call 30; refine K1.out.mono ?_)
  first | rintro e w1 T vr rfl r1 t1 b1 | rintro e w1 ⟨T, vr, rfl, r1, t1, b1⟩
  clear K1
  generalize w.alloc (.cells #[.int .i64 N, .int .i64 M, .int .i32 A, .int .i32 E] 64) = W0 at *
  replace b1 : Hid (Below W0.heap.size W0 w1) := b1
  have R1 : Hid (Rd3 .i64 w1 (vr) L) := r1
  have T1 : Hid (Tab w1 (.pointer (some ⟨T, 0, none⟩)) (lk L)) := .inr ⟨T, rfl, t1⟩
  clear r1 t1
  go_wp2_with (go_at_call 8; refine (awake_any _).mono ?_)
  intro e w2 hq
  first | (obtain ⟨rfl, b2⟩ : _ ∧ _ := hq) | (subst hq; intro b2)
  have B2 : Hid (Below W0.heap.size W0 w2) := b1.out.trans (b2.mono b1.out.size)
  have R2 : Hid (Rd3 .i64 w2 (vr) L) := R1.out.below b2
  have T2 : Hid (Tab w2 (.pointer (some ⟨T, 0, none⟩)) (lk L)) := T1.out.below b2
  clear b1 b2 R1 T1
  obtain ⟨x0, x1, x2, x3⟩ := HQ.out w2 B2.out
  go_wp2_with (go_at_call 31; refine (KS.out _ _ T2.out).mono ?_)
  first | rintro e w3 T3 rfl t3 b3 | rintro e w3 ⟨T3, rfl, t3, b3⟩
  replace t3 : Hid (TabAt w3 T3 (swF N M (lk L))) := t3
  have B3 : Hid (Below W0.heap.size W0 w3) := B2.out.trans (b3.mono B2.out.size)
  have R3 : Hid (Rd3 .i64 w3 (vr) L) := R2.out.below b3
  have T3' : Hid (Tab w3 (.pointer (some ⟨T, 0, none⟩)) (lk L)) := T2.out.below b3
  clear b3 B2 R2 T2 KS x0 x1 x2 x3
  obtain ⟨x0, x1, x2, x3⟩ := HQ.out w3 B3.out
  go_wp2_with fail
  clear HN n1 n2 n3 n4 x0 x1 x2 x3
  refine wp_region_one (a1 := ?a1r10n2) 13 (fun w1 u => Rd3 .i64 w1 u (lst (runsL (swp N M (runsL L))))) (fun _ _ _ hb h => Rd3.below h hb) [.int .i64 0, .bool false, .bool false, .pointer (some ⟨T3, 0, none⟩), .bool false, .bool false, .bool false, .pointer (some ⟨T3, 0, none⟩), vr, .pointer (some ⟨w.heap.size, 0, none⟩), .int .i64 N, .pointer (some ⟨w.heap.size, 1, none⟩), .int .i64 M, undef, .pointer (some ⟨w.heap.size, 1, none⟩), .int .i64 M, .bool true, .bool false, .bool false] (n := 123) rfl (by kernel_rfl) (by kernel_rfl) ⟨?o0r10n2, ?o1r10n2, ?o2r10n2, ?o3r10n2, ?o4r10n2, ?o5r10n2, ?o6r10n2, ?o7r10n2, ?o8r10n2, ?o9r10n2, ?o10r10n2, ?o11r10n2, ?o12r10n2, ?o13r10n2, ?o14r10n2, ?o15r10n2, ?o16r10n2, ?o17r10n2, ?o18r10n2, trivial⟩ rfl (by simp) ?har10n2 ?hdoner10n2
  case har10n2 => intro u; simp [putAll, Act.put]; exact rfl
  case o0r10n2 => exact OneOp.pure (by decide) rfl [(10, .int .i64 0)] rfl (fun _ _ h2 => ⟨(h2 10 (by kernel_rfl)).trans rfl, trivial⟩) (by kernel_rfl) (fun _ _ => by kernel_rfl)
  case o1r10n2 => exact OneOp.pure (by decide) rfl [(60, .int .i64 0)] rfl (fun _ h1 _ => ⟨h1 0 60 (by decide) (by kernel_rfl), trivial⟩) (by kernel_rfl) (fun _ _ => run_bin (a := .int .i64 0) (b := .int .i64 0) rfl rfl rfl (by kernel_rfl) (by simp [go_sem]))
  case o2r10n2 => exact OneOp.pure (by decide) rfl [(61, .bool false)] rfl (fun _ h1 _ => ⟨h1 1 61 (by decide) (by kernel_rfl), trivial⟩) (by kernel_rfl) (fun _ _ => by kernel_rfl)
  case o3r10n2 => exact OneOp.pure (by decide) rfl [(9, .pointer (some ⟨T3, 0, none⟩))] (.inl ⟨62, _, rfl, rfl, by kernel_rfl, rfl⟩) (fun _ _ h2 => ⟨(h2 9 (by kernel_rfl)).trans rfl, trivial⟩) (by kernel_rfl) (fun _ _ => by kernel_rfl)
  case o4r10n2 => exact OneOp.pure (by decide) rfl [(63, .pointer (some ⟨T3, 0, none⟩))] (.inl ⟨62, _, rfl, rfl, by kernel_rfl, rfl⟩) (fun _ h1 _ => ⟨h1 3 63 (by decide) (by kernel_rfl), trivial⟩) (by kernel_rfl) (fun _ _ => by kernel_rfl)
  case o5r10n2 => exact OneOp.pure (by decide) rfl [(62, .bool false), (64, .bool false)] rfl (fun _ h1 _ => ⟨h1 2 62 (by decide) (by kernel_rfl), h1 4 64 (by decide) (by kernel_rfl), trivial⟩) (by kernel_rfl) (fun _ _ => by kernel_rfl)
  case o6r10n2 => exact OneOp.pure (by decide) rfl [(65, .bool false)] rfl (fun _ h1 _ => ⟨h1 5 65 (by decide) (by kernel_rfl), trivial⟩) (by kernel_rfl) (fun _ _ => by kernel_rfl)
  case o7r10n2 => exact OneOp.pure (by decide) rfl [(9, .pointer (some ⟨T3, 0, none⟩))] (.inl ⟨66, _, rfl, rfl, by kernel_rfl, rfl⟩) (fun _ _ h2 => ⟨(h2 9 (by kernel_rfl)).trans rfl, trivial⟩) (by kernel_rfl) (fun _ _ => by kernel_rfl)
  case o8r10n2 => exact OneOp.pure (by decide) rfl [(6, vr)] (.inl ⟨66, _, rfl, rfl, by kernel_rfl, rfl⟩) (fun _ _ h2 => ⟨(h2 6 (by kernel_rfl)).trans rfl, trivial⟩) (by kernel_rfl) (fun _ _ => by kernel_rfl)
  case o9r10n2 => exact OneOp.pure (by decide) rfl [(3, .pointer (some ⟨w.heap.size, 0, none⟩))] (.inl ⟨66, _, rfl, rfl, by kernel_rfl, rfl⟩) (fun _ _ h2 => ⟨(h2 3 (by kernel_rfl)).trans rfl, trivial⟩) (by kernel_rfl) (fun _ _ => by kernel_rfl)
  case o10r10n2 => exact OneOp.pure (by decide) rfl [(69, .pointer (some ⟨w.heap.size, 0, none⟩))] (.inl ⟨66, _, rfl, rfl, by kernel_rfl, rfl⟩) (fun _ h1 _ => ⟨h1 9 69 (by decide) (by kernel_rfl), trivial⟩) (by kernel_rfl) (fun w hb => run_read rfl rfl (run_cell1 ((HQ.out w (B3.out.trans (hb.mono B3.out.size))).1) (Try.isAgg3 _)))
  case o11r10n2 => exact OneOp.pure (by decide) rfl [(3, .pointer (some ⟨w.heap.size, 0, none⟩))] (.inl ⟨66, _, rfl, rfl, by kernel_rfl, rfl⟩) (fun _ _ h2 => ⟨(h2 3 (by kernel_rfl)).trans rfl, trivial⟩) (by kernel_rfl) (fun _ _ => by kernel_rfl)
  case o12r10n2 => exact OneOp.pure (by decide) rfl [(71, .pointer (some ⟨w.heap.size, 1, none⟩))] (.inl ⟨66, _, rfl, rfl, by kernel_rfl, rfl⟩) (fun _ h1 _ => ⟨h1 11 71 (by decide) (by kernel_rfl), trivial⟩) (by kernel_rfl) (fun w hb => run_read rfl rfl (run_cell1 ((HQ.out w (B3.out.trans (hb.mono B3.out.size))).2.1) (Try.isAgg3 _)))
  case o13r10n2 => exact OneOp.callJ rfl rfl [(68, vr), (70, .int .i64 N), (72, .int .i64 M)] (.inl ⟨66, _, rfl, rfl, by kernel_rfl, rfl⟩) (fun _ h1 _ => ⟨h1 8 68 (by decide) (by kernel_rfl), h1 10 70 (by decide) (by kernel_rfl), h1 12 72 (by decide) (by kernel_rfl), trivial⟩) (by kernel_rfl) 32 #[vr, .int .i64 N, .int .i64 M] (fun _ => by kernel_rfl) (fun w hb => KW.out w _ (R3.out.below hb))
  case o14r10n2 => exact OneOp.pure (by decide) rfl [(3, .pointer (some ⟨w.heap.size, 0, none⟩))] (.inl ⟨66, _, rfl, rfl, by kernel_rfl, rfl⟩) (fun _ _ h2 => ⟨(h2 3 (by kernel_rfl)).trans rfl, trivial⟩) (by kernel_rfl) (fun _ _ => by kernel_rfl)
  case o15r10n2 => exact OneOp.pure (by decide) rfl [(74, .pointer (some ⟨w.heap.size, 1, none⟩))] (.inl ⟨66, _, rfl, rfl, by kernel_rfl, rfl⟩) (fun _ h1 _ => ⟨h1 14 74 (by decide) (by kernel_rfl), trivial⟩) (by kernel_rfl) (fun w hb => run_read rfl rfl (run_cell1 ((HQ.out w (B3.out.trans (hb.mono B3.out.size))).2.1) (Try.isAgg3 _)))
  case o16r10n2 => exact OneOp.callU (by decide) rfl 73 (by kernel_rfl) (fun u => [(67, .pointer (some ⟨T3, 0, none⟩)), (73, u), (75, .int .i64 M)]) (.inl ⟨66, _, rfl, rfl, by kernel_rfl, rfl⟩) (fun _ _ hu h1 _ => ⟨h1 7 67 (by decide) (by kernel_rfl), hu, h1 15 75 (by decide) (by kernel_rfl), trivial⟩) (fun _ => by kernel_rfl) 28 (fun u => #[.pointer (some ⟨T3, 0, none⟩), u, .slice none 0 0, .int .i64 M]) (fun _ _ => by kernel_rfl) (fun u w hb hR => KT.out w _ u (t3.out.below hb) hR)
  case o17r10n2 => exact OneOp.pure (by decide) rfl [(76, .bool true)] (.inl ⟨66, _, rfl, rfl, by kernel_rfl, rfl⟩) (fun _ h1 _ => ⟨h1 16 76 (by decide) (by kernel_rfl), trivial⟩) (by kernel_rfl) (fun _ _ => by kernel_rfl)
  case o18r10n2 => exact OneOp.pure (by decide) rfl [(66, .bool false), (77, .bool false)] rfl (fun _ h1 _ => ⟨h1 6 66 (by decide) (by kernel_rfl), h1 17 77 (by decide) (by kernel_rfl), trivial⟩) (by kernel_rfl) (fun _ _ => by kernel_rfl)
  case hdoner10n2 =>
    intro v4 w4 b4 r4
    have B4 : Hid (Below W0.heap.size W0 w4) := B3.out.trans (b4.mono B3.out.size)
    have R4 : Hid (Rd3 .i64 w4 (vr) L) := R3.out.below b4
    have T4 : Hid (Tab w4 (.pointer (some ⟨T, 0, none⟩)) (lk L)) := T3'.out.below b4
    clear b4 B3 R3 T3' r4 t3 KW KT
    obtain ⟨x0, x1, x2, x3⟩ := HQ.out w4 B4.out
    go_wp2_with (go_at_call 33; refine (KR.out _ _).mono ?_)
    intro e w5 hq
    first | (obtain ⟨rfl, b5⟩ : _ ∧ _ := hq) | (subst hq; intro b5)
    have B5 : Hid (Below W0.heap.size W0 w5) := B4.out.trans (b5.mono B4.out.size)
    clear b5 B4 R4 T4 KR x0 x1 x2 x3
    obtain ⟨x0, x1, x2, x3⟩ := HQ.out w5 B5.out
    have B6 : Hid (Below w.heap.size w w5) := B0.out.trans (B5.out.mono B0.out.size)
    rcases hq4 with a1 | ⟨a1, a2⟩ | ⟨a1, a2, a3⟩ | ⟨a1, a2, a3, a4⟩
    all_goals (
      go_wp2
      go_ret
      exact ⟨rfl, B6.out⟩)
set_option maxRecDepth 100000 in
set_option maxHeartbeats 8000000 in
theorem swaps_bnr (L : List Rw) (v : Value) (N M A E : Int) (w : World) (hr : Rd3 .i32 w v L) (hf : fit3 L) (hl : L.length ≤ 8796093022208) (h : (chk L).2 ≠ 0) (hnN : 0 ≤ N ∧ N ≤ 65535) (hnM : 0 ≤ M ∧ M ≤ 65535) (hA : 0 ≤ A) (hAE : A ≤ E) (hE : E ≤ 1114111) : Calls Try.prog 6 #[v, .agg #[.int .i64 N, .int .i64 M, .int .i32 A, .int .i32 E]] w fun e w' => e = .returned (.bool true) ∧ Below w.heap.size w w' := by
  have B0 : Below w.heap.size w (w.alloc (.cells #[.int .i64 N, .int .i64 M, .int .i32 A, .int .i32 E] 64)) := (Below.refl _ _).alloc (Nat.le_refl _) _
  have HQ : Hid (∀ w1, Below (w.alloc (.cells #[.int .i64 N, .int .i64 M, .int .i32 A, .int .i32 E] 64)).heap.size (w.alloc (.cells #[.int .i64 N, .int .i64 M, .int .i32 A, .int .i32 E] 64)) w1 → w1.cell? ⟨w.heap.size, 0, none⟩ = some (.int .i64 N) ∧ w1.cell? ⟨w.heap.size, 1, none⟩ = some (.int .i64 M) ∧ w1.cell? ⟨w.heap.size, 2, none⟩ = some (.int .i32 A) ∧ w1.cell? ⟨w.heap.size, 3, none⟩ = some (.int .i32 E)) := fun w1 hb => by
    have q := box4 w (.int .i64 N) (.int .i64 M) (.int .i32 A) (.int .i32 E) 64
    have hs : w.heap.size < (w.alloc (.cells #[.int .i64 N, .int .i64 M, .int .i32 A, .int .i32 E] 64)).heap.size := by simp
    exact ⟨(hb.cell (p := ⟨w.heap.size, 0, none⟩) hs).trans (q 0 _ rfl), (hb.cell (p := ⟨w.heap.size, 1, none⟩) hs).trans (q 1 _ rfl), (hb.cell (p := ⟨w.heap.size, 2, none⟩) hs).trans (q 2 _ rfl), (hb.cell (p := ⟨w.heap.size, 3, none⟩) hs).trans (q 3 _ rfl)⟩
  have K1 : Hid (Calls Try.prog 30 #[v] (w.alloc (.cells #[.int .i64 N, .int .i64 M, .int .i32 A, .int .i32 E] 64)) fun e w' => ∃ vr, e = .returned (.tuple #[.pointer none, vr, .bool false, .bool true]) ∧ Rd3 .i64 w' vr L ∧ Below (w.alloc (.cells #[.int .i64 N, .int .i64 M, .int .i32 A, .int .i32 E] 64)).heap.size (w.alloc (.cells #[.int .i64 N, .int .i64 M, .int .i32 A, .int .i32 E] 64)) w') := built_bad L v _ (hr.below B0) hf hl h
  have hok : okF 0 ([] : List Rw) := trivial
  have hl2 : ([] : List Rw).length ≤ 65536 := by decide
  have hrg := lk_range hok
  have HOK : Hid (okF 0 ([] : List Rw)) := hok
  have HL2 : Hid ((([] : List Rw)).length ≤ 65536) := hl2
  replace B0 : Hid (Below w.heap.size w (w.alloc (.cells #[.int .i64 N, .int .i64 M, .int .i32 A, .int .i32 E] 64))) := B0
  have n1 : decide (N < 0) = false := decide_eq_false (by omega)
  have n2 : decide (65535 < N) = false := decide_eq_false (by omega)
  have n3 : decide (M < 0) = false := decide_eq_false (by omega)
  have n4 : decide (65535 < M) = false := decide_eq_false (by omega)
  have HN : Hid ((0 ≤ N ∧ N ≤ 65535) ∧ 0 ≤ M ∧ M ≤ 65535) := ⟨hnN, hnM⟩
  have KS : Hid (∀ w1 vt, Tab w1 vt (lk ([] : List Rw)) → Calls Try.prog 31 #[vt, .int .i64 N, .int .i64 M] w1 fun e w' => ∃ T, e = .returned (.tuple #[.pointer (some ⟨T, 0, none⟩), .int .i64 0]) ∧ TabAt w' T (swF N M (lk ([] : List Rw))) ∧ Below w1.heap.size w1 w') := fun w1 vt hT => sswap_good vt (lk ([] : List Rw)) N M w1 hT hrg hnN hnM
  have hsay := swap_says (L := ([] : List Rw)) N M hnM hok
  have KW : Hid (∀ w1 v1, Rd3 .i64 w1 v1 ([] : List Rw) → Calls Try.prog 32 #[v1, .int .i64 N, .int .i64 M] w1 fun e w' => ∃ v', e = .returned v' ∧ Rd3 .i64 w' v' (lst (runsL (swp N M (runsL ([] : List Rw))))) ∧ Below w1.heap.size w1 w') := fun w1 v1 h1 => rswap_any ([] : List Rw) N M v1 w1 h1 hok hl2 hnM
  have KT : Hid (∀ w1 T v1, TabAt w1 T (swF N M (lk ([] : List Rw))) → Rd3 .i64 w1 v1 (lst (runsL (swp N M (runsL ([] : List Rw))))) → Calls Try.prog 28 #[.pointer (some ⟨T, 0, none⟩), v1, .slice none 0 0, .int .i64 M] w1 fun e w' => e = .returned (.bool true) ∧ Below w1.heap.size w1 w') := fun w1 T v1 h1 h2 => stands_any _ [] _ v1 _ M w1 (.inr ⟨T, rfl, by rw [hsay.2]; exact h1⟩) ⟨_, rfl⟩ h2 ⟨none, 0, rfl, Nat.le_refl _, fun h => by simp at h⟩ (fun x hx => by cases hx) (by simp) hsay.1 (by
    have h3 := lst_len (runsL (swp N M (runsL ([] : List Rw))))
    have h4 := runsL_len (swp N M (runsL ([] : List Rw)))
    have h5 := runsL_len ([] : List Rw)
    rw [swp_len] at h4
    omega)
  have a1 : decide (A < 0) = false := decide_eq_false (by omega)
  have a2 : decide (1114111 < A) = false := decide_eq_false (by omega)
  have a3 : decide (E < A) = false := decide_eq_false (by omega)
  have a4 : decide (1114111 < E) = false := decide_eq_false (by omega)
  have wA : IntKind.i64.wrap A = A := IntWalk.i64_in _ (by omega)
  have wE : IntKind.i64.wrap E = E := IntWalk.i64_in _ (by omega)
  have hcl := (Rn.clip hAE (runs_rn hok) (by omega)).1
  have hclp : Rn (lk ([] : List Rw)) A (clp A E (runsL ([] : List Rw))) (E + 1) := by
    by_cases c : (0 : Int) < A
    · have := hcl (by omega); rwa [if_pos c] at this
    · have := hcl (by omega); rw [if_neg c] at this; rwa [show A = 0 by omega] at this ⊢
  have KR : Hid (∀ w1 vt, Tab w1 vt (lk ([] : List Rw)) → Calls Try.prog 33 #[vt, .int .i32 A, .int .i32 E] w1 fun e w' => ∃ v, e = .returned v ∧ Rd3 .i32 w' v (clp A E (runsL ([] : List Rw))) ∧ Below w1.heap.size w1 w') := fun w1 vt hT => (sruns_good vt (lk ([] : List Rw)) A E w1 hT hrg hA hAE hE).mono fun e w' ⟨v, ys, h1, h2, h3, h4⟩ => by
    rw [Rn.uniq h2 hclp] at h3
    exact ⟨v, h1, Rd3.of_owns h3, h4⟩
  have KB : Hid (∀ w1 v1, Rd3 .i64 w1 v1 ([] : List Rw) → Calls Try.prog 34 #[v1, .int .i64 A, .int .i64 E] w1 fun e w' => ∃ v', e = .returned v' ∧ Rd3 .i64 w' v' (clp A E (runsL ([] : List Rw))) ∧ Below w1.heap.size w1 w') := fun w1 v1 h1 => between_any ([] : List Rw) A E v1 w1 h1 hok hl2 hA hE
  have hfc : fit3 (clp A E (runsL ([] : List Rw))) := fun r hr => by
    obtain ⟨m1, m2, m3, m4⟩ := (Rn.mem hclp).2 r hr
    have := hrg r.1
    rw [m4 r.1 (by omega) (by omega)] at this
    omega
  have KW2 : Hid (∀ w1 v1 v2, Rd3 .i32 w1 v1 (clp A E (runsL ([] : List Rw))) → Rd3 .i64 w1 v2 (clp A E (runsL ([] : List Rw))) → Calls Try.prog 14 #[v1, v2] w1 fun e w' => e = .returned (.bool true) ∧ Below w1.heap.size w1 w') := fun w1 v1 v2 h1 h2 => rows_same _ v1 v2 w1 h1 h2 hfc (by
    have h3 := clp_len A E (runsL ([] : List Rw))
    have h4 := runsL_len ([] : List Rw)
    omega)
  have KT2 : Hid (∀ w1 vt v1, Tab w1 vt (lk ([] : List Rw)) → (∃ p, vt = .pointer p) → Rd3 .i64 w1 v1 ([] : List Rw) → Calls Try.prog 28 #[vt, v1, .slice none 0 0, .int .i64 0] w1 fun e w' => e = .returned (.bool true) ∧ Below w1.heap.size w1 w') := fun w1 vt v1 h1 hv h2 => stands_any _ [] _ v1 _ 0 w1 h1 hv h2 ⟨none, 0, rfl, Nat.le_refl _, fun h => by simp at h⟩ (fun x hx => by cases hx) (by simp) hok (by omega)
  clear hcl hclp hfc
  clear hr h hf hok hl2 hrg hnN hnM hsay hA hAE hE
  go_enter Try.func6, Try.ntmps6
  go_wp2_with (go_at_call 30; refine K1.out.mono ?_)
  first | rintro e w1 vr rfl r1 b1 | rintro e w1 ⟨vr, rfl, r1, b1⟩
  clear K1
  generalize w.alloc (.cells #[.int .i64 N, .int .i64 M, .int .i32 A, .int .i32 E] 64) = W0 at *
  replace b1 : Hid (Below W0.heap.size W0 w1) := b1
  have R1 : Hid (Rd3 .i64 w1 (.slice none 0 0) ([] : List Rw)) := ⟨none, 0, rfl, Nat.le_refl _, fun h => by simp at h⟩
  have T1 : Hid (Tab w1 (.pointer none) (lk ([] : List Rw))) := .inl ⟨rfl, rfl⟩
  clear r1
  go_wp2_with (go_at_call 8; refine (awake_any _).mono ?_)
  intro e w2 hq
  first | (obtain ⟨rfl, b2⟩ : _ ∧ _ := hq) | (subst hq; intro b2)
  have B2 : Hid (Below W0.heap.size W0 w2) := b1.out.trans (b2.mono b1.out.size)
  have R2 : Hid (Rd3 .i64 w2 (.slice none 0 0) ([] : List Rw)) := R1.out.below b2
  have T2 : Hid (Tab w2 (.pointer none) (lk ([] : List Rw))) := T1.out.below b2
  clear b1 b2 R1 T1
  obtain ⟨x0, x1, x2, x3⟩ := HQ.out w2 B2.out
  go_wp2_with (go_at_call 31; refine (KS.out _ _ T2.out).mono ?_)
  first | rintro e w3 T3 rfl t3 b3 | rintro e w3 ⟨T3, rfl, t3, b3⟩
  replace t3 : Hid (TabAt w3 T3 (swF N M (lk ([] : List Rw)))) := t3
  have B3 : Hid (Below W0.heap.size W0 w3) := B2.out.trans (b3.mono B2.out.size)
  have R3 : Hid (Rd3 .i64 w3 (.slice none 0 0) ([] : List Rw)) := R2.out.below b3
  have T3' : Hid (Tab w3 (.pointer none) (lk ([] : List Rw))) := T2.out.below b3
  clear b3 B2 R2 T2 KS x0 x1 x2 x3
  obtain ⟨x0, x1, x2, x3⟩ := HQ.out w3 B3.out
  go_wp2_with fail
  clear HN n1 n2 n3 n4 x0 x1 x2 x3
  refine wp_region_one (a1 := ?a1r10n3) 13 (fun w1 u => Rd3 .i64 w1 u (lst (runsL (swp N M (runsL ([] : List Rw)))))) (fun _ _ _ hb h => Rd3.below h hb) [.int .i64 0, .bool false, .bool false, .pointer (some ⟨T3, 0, none⟩), .bool false, .bool false, .bool false, .pointer (some ⟨T3, 0, none⟩), .slice none 0 0, .pointer (some ⟨w.heap.size, 0, none⟩), .int .i64 N, .pointer (some ⟨w.heap.size, 1, none⟩), .int .i64 M, undef, .pointer (some ⟨w.heap.size, 1, none⟩), .int .i64 M, .bool true, .bool false, .bool false] (n := 123) rfl (by kernel_rfl) (by kernel_rfl) ⟨?o0r10n3, ?o1r10n3, ?o2r10n3, ?o3r10n3, ?o4r10n3, ?o5r10n3, ?o6r10n3, ?o7r10n3, ?o8r10n3, ?o9r10n3, ?o10r10n3, ?o11r10n3, ?o12r10n3, ?o13r10n3, ?o14r10n3, ?o15r10n3, ?o16r10n3, ?o17r10n3, ?o18r10n3, trivial⟩ rfl (by simp) ?har10n3 ?hdoner10n3
  case har10n3 => intro u; simp [putAll, Act.put]; exact rfl
  case o0r10n3 => exact OneOp.pure (by decide) rfl [(10, .int .i64 0)] rfl (fun _ _ h2 => ⟨(h2 10 (by kernel_rfl)).trans rfl, trivial⟩) (by kernel_rfl) (fun _ _ => by kernel_rfl)
  case o1r10n3 => exact OneOp.pure (by decide) rfl [(60, .int .i64 0)] rfl (fun _ h1 _ => ⟨h1 0 60 (by decide) (by kernel_rfl), trivial⟩) (by kernel_rfl) (fun _ _ => run_bin (a := .int .i64 0) (b := .int .i64 0) rfl rfl rfl (by kernel_rfl) (by simp [go_sem]))
  case o2r10n3 => exact OneOp.pure (by decide) rfl [(61, .bool false)] rfl (fun _ h1 _ => ⟨h1 1 61 (by decide) (by kernel_rfl), trivial⟩) (by kernel_rfl) (fun _ _ => by kernel_rfl)
  case o3r10n3 => exact OneOp.pure (by decide) rfl [(9, .pointer (some ⟨T3, 0, none⟩))] (.inl ⟨62, _, rfl, rfl, by kernel_rfl, rfl⟩) (fun _ _ h2 => ⟨(h2 9 (by kernel_rfl)).trans rfl, trivial⟩) (by kernel_rfl) (fun _ _ => by kernel_rfl)
  case o4r10n3 => exact OneOp.pure (by decide) rfl [(63, .pointer (some ⟨T3, 0, none⟩))] (.inl ⟨62, _, rfl, rfl, by kernel_rfl, rfl⟩) (fun _ h1 _ => ⟨h1 3 63 (by decide) (by kernel_rfl), trivial⟩) (by kernel_rfl) (fun _ _ => by kernel_rfl)
  case o5r10n3 => exact OneOp.pure (by decide) rfl [(62, .bool false), (64, .bool false)] rfl (fun _ h1 _ => ⟨h1 2 62 (by decide) (by kernel_rfl), h1 4 64 (by decide) (by kernel_rfl), trivial⟩) (by kernel_rfl) (fun _ _ => by kernel_rfl)
  case o6r10n3 => exact OneOp.pure (by decide) rfl [(65, .bool false)] rfl (fun _ h1 _ => ⟨h1 5 65 (by decide) (by kernel_rfl), trivial⟩) (by kernel_rfl) (fun _ _ => by kernel_rfl)
  case o7r10n3 => exact OneOp.pure (by decide) rfl [(9, .pointer (some ⟨T3, 0, none⟩))] (.inl ⟨66, _, rfl, rfl, by kernel_rfl, rfl⟩) (fun _ _ h2 => ⟨(h2 9 (by kernel_rfl)).trans rfl, trivial⟩) (by kernel_rfl) (fun _ _ => by kernel_rfl)
  case o8r10n3 => exact OneOp.pure (by decide) rfl [(6, .slice none 0 0)] (.inl ⟨66, _, rfl, rfl, by kernel_rfl, rfl⟩) (fun _ _ h2 => ⟨(h2 6 (by kernel_rfl)).trans rfl, trivial⟩) (by kernel_rfl) (fun _ _ => by kernel_rfl)
  case o9r10n3 => exact OneOp.pure (by decide) rfl [(3, .pointer (some ⟨w.heap.size, 0, none⟩))] (.inl ⟨66, _, rfl, rfl, by kernel_rfl, rfl⟩) (fun _ _ h2 => ⟨(h2 3 (by kernel_rfl)).trans rfl, trivial⟩) (by kernel_rfl) (fun _ _ => by kernel_rfl)
  case o10r10n3 => exact OneOp.pure (by decide) rfl [(69, .pointer (some ⟨w.heap.size, 0, none⟩))] (.inl ⟨66, _, rfl, rfl, by kernel_rfl, rfl⟩) (fun _ h1 _ => ⟨h1 9 69 (by decide) (by kernel_rfl), trivial⟩) (by kernel_rfl) (fun w hb => run_read rfl rfl (run_cell1 ((HQ.out w (B3.out.trans (hb.mono B3.out.size))).1) (Try.isAgg3 _)))
  case o11r10n3 => exact OneOp.pure (by decide) rfl [(3, .pointer (some ⟨w.heap.size, 0, none⟩))] (.inl ⟨66, _, rfl, rfl, by kernel_rfl, rfl⟩) (fun _ _ h2 => ⟨(h2 3 (by kernel_rfl)).trans rfl, trivial⟩) (by kernel_rfl) (fun _ _ => by kernel_rfl)
  case o12r10n3 => exact OneOp.pure (by decide) rfl [(71, .pointer (some ⟨w.heap.size, 1, none⟩))] (.inl ⟨66, _, rfl, rfl, by kernel_rfl, rfl⟩) (fun _ h1 _ => ⟨h1 11 71 (by decide) (by kernel_rfl), trivial⟩) (by kernel_rfl) (fun w hb => run_read rfl rfl (run_cell1 ((HQ.out w (B3.out.trans (hb.mono B3.out.size))).2.1) (Try.isAgg3 _)))
  case o13r10n3 => exact OneOp.callJ rfl rfl [(68, .slice none 0 0), (70, .int .i64 N), (72, .int .i64 M)] (.inl ⟨66, _, rfl, rfl, by kernel_rfl, rfl⟩) (fun _ h1 _ => ⟨h1 8 68 (by decide) (by kernel_rfl), h1 10 70 (by decide) (by kernel_rfl), h1 12 72 (by decide) (by kernel_rfl), trivial⟩) (by kernel_rfl) 32 #[.slice none 0 0, .int .i64 N, .int .i64 M] (fun _ => by kernel_rfl) (fun w hb => KW.out w _ (R3.out.below hb))
  case o14r10n3 => exact OneOp.pure (by decide) rfl [(3, .pointer (some ⟨w.heap.size, 0, none⟩))] (.inl ⟨66, _, rfl, rfl, by kernel_rfl, rfl⟩) (fun _ _ h2 => ⟨(h2 3 (by kernel_rfl)).trans rfl, trivial⟩) (by kernel_rfl) (fun _ _ => by kernel_rfl)
  case o15r10n3 => exact OneOp.pure (by decide) rfl [(74, .pointer (some ⟨w.heap.size, 1, none⟩))] (.inl ⟨66, _, rfl, rfl, by kernel_rfl, rfl⟩) (fun _ h1 _ => ⟨h1 14 74 (by decide) (by kernel_rfl), trivial⟩) (by kernel_rfl) (fun w hb => run_read rfl rfl (run_cell1 ((HQ.out w (B3.out.trans (hb.mono B3.out.size))).2.1) (Try.isAgg3 _)))
  case o16r10n3 => exact OneOp.callU (by decide) rfl 73 (by kernel_rfl) (fun u => [(67, .pointer (some ⟨T3, 0, none⟩)), (73, u), (75, .int .i64 M)]) (.inl ⟨66, _, rfl, rfl, by kernel_rfl, rfl⟩) (fun _ _ hu h1 _ => ⟨h1 7 67 (by decide) (by kernel_rfl), hu, h1 15 75 (by decide) (by kernel_rfl), trivial⟩) (fun _ => by kernel_rfl) 28 (fun u => #[.pointer (some ⟨T3, 0, none⟩), u, .slice none 0 0, .int .i64 M]) (fun _ _ => by kernel_rfl) (fun u w hb hR => KT.out w _ u (t3.out.below hb) hR)
  case o17r10n3 => exact OneOp.pure (by decide) rfl [(76, .bool true)] (.inl ⟨66, _, rfl, rfl, by kernel_rfl, rfl⟩) (fun _ h1 _ => ⟨h1 16 76 (by decide) (by kernel_rfl), trivial⟩) (by kernel_rfl) (fun _ _ => by kernel_rfl)
  case o18r10n3 => exact OneOp.pure (by decide) rfl [(66, .bool false), (77, .bool false)] rfl (fun _ h1 _ => ⟨h1 6 66 (by decide) (by kernel_rfl), h1 17 77 (by decide) (by kernel_rfl), trivial⟩) (by kernel_rfl) (fun _ _ => by kernel_rfl)
  case hdoner10n3 =>
    intro v4 w4 b4 r4
    have B4 : Hid (Below W0.heap.size W0 w4) := B3.out.trans (b4.mono B3.out.size)
    have R4 : Hid (Rd3 .i64 w4 (.slice none 0 0) ([] : List Rw)) := R3.out.below b4
    have T4 : Hid (Tab w4 (.pointer none) (lk ([] : List Rw))) := T3'.out.below b4
    clear b4 B3 R3 T3' r4 t3 KW KT
    obtain ⟨x0, x1, x2, x3⟩ := HQ.out w4 B4.out
    go_wp2_with (go_at_call 33; refine (KR.out _ _ T4.out).mono ?_)
    first | rintro e w5 v5 rfl r5 b5 | rintro e w5 ⟨v5, rfl, r5, b5⟩
    replace r5 : Hid (Rd3 .i32 w5 v5 (clp A E (runsL ([] : List Rw)))) := r5
    have B5 : Hid (Below W0.heap.size W0 w5) := B4.out.trans (b5.mono B4.out.size)
    have R5 : Hid (Rd3 .i64 w5 (.slice none 0 0) ([] : List Rw)) := R4.out.below b5
    have T5 : Hid (Tab w5 (.pointer none) (lk ([] : List Rw))) := T4.out.below b5
    clear b5 B4 R4 T4 KR x0 x1 x2 x3
    obtain ⟨x0, x1, x2, x3⟩ := HQ.out w5 B5.out
    go_wp2_with (go_at_call 34; refine (KB.out _ _ R5.out).mono ?_)
    first | rintro e w6 v6 rfl r6 b6 | rintro e w6 ⟨v6, rfl, r6, b6⟩
    replace r6 : Hid (Rd3 .i64 w6 v6 (clp A E (runsL ([] : List Rw)))) := r6
    have B6 : Hid (Below W0.heap.size W0 w6) := B5.out.trans (b6.mono B5.out.size)
    have q5 : Hid (Rd3 .i32 w6 v5 (clp A E (runsL ([] : List Rw)))) := r5.out.below b6
    have R6 : Hid (Rd3 .i64 w6 (.slice none 0 0) ([] : List Rw)) := R5.out.below b6
    have T6 : Hid (Tab w6 (.pointer none) (lk ([] : List Rw))) := T5.out.below b6
    clear b6 B5 R5 T5 KB r5 x0 x1 x2 x3
    go_wp2_with (go_at_call 14; refine (KW2.out _ _ _ q5.out r6.out).mono ?_)
    intro e w7 hq
    first | (obtain ⟨rfl, b7⟩ : _ ∧ _ := hq) | (subst hq; intro b7)
    have B7 : Hid (Below W0.heap.size W0 w7) := B6.out.trans (b7.mono B6.out.size)
    have R7 : Hid (Rd3 .i64 w7 (.slice none 0 0) ([] : List Rw)) := R6.out.below b7
    have T7 : Hid (Tab w7 (.pointer none) (lk ([] : List Rw))) := T6.out.below b7
    clear b7 B6 R6 T6 q5 r6 KW2
    go_wp2_with (go_at_call 28; refine (KT2.out _ _ _ T7.out ⟨_, rfl⟩ R7.out).mono ?_)
    intro e w8 hq
    first | (obtain ⟨rfl, b8⟩ : _ ∧ _ := hq) | (subst hq; intro b8)
    have B8 : Hid (Below w.heap.size w w8) := B0.out.trans ((B7.out.trans (b8.mono B7.out.size)).mono B0.out.size)
    clear b8 B7 R7 T7 KT2 B0
    go_wp2
    go_ret
    exact ⟨rfl, B8.out⟩
set_option maxRecDepth 100000 in
set_option maxHeartbeats 8000000 in
theorem swaps_bnx (L : List Rw) (v : Value) (N M A E : Int) (w : World) (hr : Rd3 .i32 w v L) (hf : fit3 L) (hl : L.length ≤ 8796093022208) (h : (chk L).2 ≠ 0) (hnN : 0 ≤ N ∧ N ≤ 65535) (hnM : 0 ≤ M ∧ M ≤ 65535) (hq : ¬ (0 ≤ A ∧ A ≤ E ∧ E ≤ 1114111)) : Calls Try.prog 6 #[v, .agg #[.int .i64 N, .int .i64 M, .int .i32 A, .int .i32 E]] w fun e w' => e = .returned (.bool true) ∧ Below w.heap.size w w' := by
  have B0 : Below w.heap.size w (w.alloc (.cells #[.int .i64 N, .int .i64 M, .int .i32 A, .int .i32 E] 64)) := (Below.refl _ _).alloc (Nat.le_refl _) _
  have HQ : Hid (∀ w1, Below (w.alloc (.cells #[.int .i64 N, .int .i64 M, .int .i32 A, .int .i32 E] 64)).heap.size (w.alloc (.cells #[.int .i64 N, .int .i64 M, .int .i32 A, .int .i32 E] 64)) w1 → w1.cell? ⟨w.heap.size, 0, none⟩ = some (.int .i64 N) ∧ w1.cell? ⟨w.heap.size, 1, none⟩ = some (.int .i64 M) ∧ w1.cell? ⟨w.heap.size, 2, none⟩ = some (.int .i32 A) ∧ w1.cell? ⟨w.heap.size, 3, none⟩ = some (.int .i32 E)) := fun w1 hb => by
    have q := box4 w (.int .i64 N) (.int .i64 M) (.int .i32 A) (.int .i32 E) 64
    have hs : w.heap.size < (w.alloc (.cells #[.int .i64 N, .int .i64 M, .int .i32 A, .int .i32 E] 64)).heap.size := by simp
    exact ⟨(hb.cell (p := ⟨w.heap.size, 0, none⟩) hs).trans (q 0 _ rfl), (hb.cell (p := ⟨w.heap.size, 1, none⟩) hs).trans (q 1 _ rfl), (hb.cell (p := ⟨w.heap.size, 2, none⟩) hs).trans (q 2 _ rfl), (hb.cell (p := ⟨w.heap.size, 3, none⟩) hs).trans (q 3 _ rfl)⟩
  have K1 : Hid (Calls Try.prog 30 #[v] (w.alloc (.cells #[.int .i64 N, .int .i64 M, .int .i32 A, .int .i32 E] 64)) fun e w' => ∃ vr, e = .returned (.tuple #[.pointer none, vr, .bool false, .bool true]) ∧ Rd3 .i64 w' vr L ∧ Below (w.alloc (.cells #[.int .i64 N, .int .i64 M, .int .i32 A, .int .i32 E] 64)).heap.size (w.alloc (.cells #[.int .i64 N, .int .i64 M, .int .i32 A, .int .i32 E] 64)) w') := built_bad L v _ (hr.below B0) hf hl h
  have hok : okF 0 ([] : List Rw) := trivial
  have hl2 : ([] : List Rw).length ≤ 65536 := by decide
  have hrg := lk_range hok
  have HOK : Hid (okF 0 ([] : List Rw)) := hok
  have HL2 : Hid ((([] : List Rw)).length ≤ 65536) := hl2
  replace B0 : Hid (Below w.heap.size w (w.alloc (.cells #[.int .i64 N, .int .i64 M, .int .i32 A, .int .i32 E] 64))) := B0
  have n1 : decide (N < 0) = false := decide_eq_false (by omega)
  have n2 : decide (65535 < N) = false := decide_eq_false (by omega)
  have n3 : decide (M < 0) = false := decide_eq_false (by omega)
  have n4 : decide (65535 < M) = false := decide_eq_false (by omega)
  have HN : Hid ((0 ≤ N ∧ N ≤ 65535) ∧ 0 ≤ M ∧ M ≤ 65535) := ⟨hnN, hnM⟩
  have KS : Hid (∀ w1 vt, Tab w1 vt (lk ([] : List Rw)) → Calls Try.prog 31 #[vt, .int .i64 N, .int .i64 M] w1 fun e w' => ∃ T, e = .returned (.tuple #[.pointer (some ⟨T, 0, none⟩), .int .i64 0]) ∧ TabAt w' T (swF N M (lk ([] : List Rw))) ∧ Below w1.heap.size w1 w') := fun w1 vt hT => sswap_good vt (lk ([] : List Rw)) N M w1 hT hrg hnN hnM
  have hsay := swap_says (L := ([] : List Rw)) N M hnM hok
  have KW : Hid (∀ w1 v1, Rd3 .i64 w1 v1 ([] : List Rw) → Calls Try.prog 32 #[v1, .int .i64 N, .int .i64 M] w1 fun e w' => ∃ v', e = .returned v' ∧ Rd3 .i64 w' v' (lst (runsL (swp N M (runsL ([] : List Rw))))) ∧ Below w1.heap.size w1 w') := fun w1 v1 h1 => rswap_any ([] : List Rw) N M v1 w1 h1 hok hl2 hnM
  have KT : Hid (∀ w1 T v1, TabAt w1 T (swF N M (lk ([] : List Rw))) → Rd3 .i64 w1 v1 (lst (runsL (swp N M (runsL ([] : List Rw))))) → Calls Try.prog 28 #[.pointer (some ⟨T, 0, none⟩), v1, .slice none 0 0, .int .i64 M] w1 fun e w' => e = .returned (.bool true) ∧ Below w1.heap.size w1 w') := fun w1 T v1 h1 h2 => stands_any _ [] _ v1 _ M w1 (.inr ⟨T, rfl, by rw [hsay.2]; exact h1⟩) ⟨_, rfl⟩ h2 ⟨none, 0, rfl, Nat.le_refl _, fun h => by simp at h⟩ (fun x hx => by cases hx) (by simp) hsay.1 (by
    have h3 := lst_len (runsL (swp N M (runsL ([] : List Rw))))
    have h4 := runsL_len (swp N M (runsL ([] : List Rw)))
    have h5 := runsL_len ([] : List Rw)
    rw [swp_len] at h4
    omega)
  have KR : Hid (∀ w1 vt, Calls Try.prog 33 #[vt, .int .i32 A, .int .i32 E] w1 fun e w' => e = .returned (.slice none 0 0) ∧ Below w1.heap.size w1 w') := fun w1 vt => sruns_bad vt A E w1 hq
  have hq4 : decide (A < 0) = true ∨ (decide (A < 0) = false ∧ decide (1114111 < A) = true) ∨ (decide (A < 0) = false ∧ decide (1114111 < A) = false ∧ decide (E < A) = true) ∨ (decide (A < 0) = false ∧ decide (1114111 < A) = false ∧ decide (E < A) = false ∧ decide (1114111 < E) = true) := by
    simp only [decide_eq_true_eq, decide_eq_false_iff_not]
    omega
  clear hr h hf hok hl2 hrg hnN hnM hsay hq
  go_enter Try.func6, Try.ntmps6
  go_wp2_with (go_at_call 30; refine K1.out.mono ?_)
  first | rintro e w1 vr rfl r1 b1 | rintro e w1 ⟨vr, rfl, r1, b1⟩
  clear K1
  generalize w.alloc (.cells #[.int .i64 N, .int .i64 M, .int .i32 A, .int .i32 E] 64) = W0 at *
  replace b1 : Hid (Below W0.heap.size W0 w1) := b1
  have R1 : Hid (Rd3 .i64 w1 (.slice none 0 0) ([] : List Rw)) := ⟨none, 0, rfl, Nat.le_refl _, fun h => by simp at h⟩
  have T1 : Hid (Tab w1 (.pointer none) (lk ([] : List Rw))) := .inl ⟨rfl, rfl⟩
  clear r1
  go_wp2_with (go_at_call 8; refine (awake_any _).mono ?_)
  intro e w2 hq
  first | (obtain ⟨rfl, b2⟩ : _ ∧ _ := hq) | (subst hq; intro b2)
  have B2 : Hid (Below W0.heap.size W0 w2) := b1.out.trans (b2.mono b1.out.size)
  have R2 : Hid (Rd3 .i64 w2 (.slice none 0 0) ([] : List Rw)) := R1.out.below b2
  have T2 : Hid (Tab w2 (.pointer none) (lk ([] : List Rw))) := T1.out.below b2
  clear b1 b2 R1 T1
  obtain ⟨x0, x1, x2, x3⟩ := HQ.out w2 B2.out
  go_wp2_with (go_at_call 31; refine (KS.out _ _ T2.out).mono ?_)
  first | rintro e w3 T3 rfl t3 b3 | rintro e w3 ⟨T3, rfl, t3, b3⟩
  replace t3 : Hid (TabAt w3 T3 (swF N M (lk ([] : List Rw)))) := t3
  have B3 : Hid (Below W0.heap.size W0 w3) := B2.out.trans (b3.mono B2.out.size)
  have R3 : Hid (Rd3 .i64 w3 (.slice none 0 0) ([] : List Rw)) := R2.out.below b3
  have T3' : Hid (Tab w3 (.pointer none) (lk ([] : List Rw))) := T2.out.below b3
  clear b3 B2 R2 T2 KS x0 x1 x2 x3
  obtain ⟨x0, x1, x2, x3⟩ := HQ.out w3 B3.out
  go_wp2_with fail
  clear HN n1 n2 n3 n4 x0 x1 x2 x3
  refine wp_region_one (a1 := ?a1r10n4) 13 (fun w1 u => Rd3 .i64 w1 u (lst (runsL (swp N M (runsL ([] : List Rw)))))) (fun _ _ _ hb h => Rd3.below h hb) [.int .i64 0, .bool false, .bool false, .pointer (some ⟨T3, 0, none⟩), .bool false, .bool false, .bool false, .pointer (some ⟨T3, 0, none⟩), .slice none 0 0, .pointer (some ⟨w.heap.size, 0, none⟩), .int .i64 N, .pointer (some ⟨w.heap.size, 1, none⟩), .int .i64 M, undef, .pointer (some ⟨w.heap.size, 1, none⟩), .int .i64 M, .bool true, .bool false, .bool false] (n := 123) rfl (by kernel_rfl) (by kernel_rfl) ⟨?o0r10n4, ?o1r10n4, ?o2r10n4, ?o3r10n4, ?o4r10n4, ?o5r10n4, ?o6r10n4, ?o7r10n4, ?o8r10n4, ?o9r10n4, ?o10r10n4, ?o11r10n4, ?o12r10n4, ?o13r10n4, ?o14r10n4, ?o15r10n4, ?o16r10n4, ?o17r10n4, ?o18r10n4, trivial⟩ rfl (by simp) ?har10n4 ?hdoner10n4
  case har10n4 => intro u; simp [putAll, Act.put]; exact rfl
  case o0r10n4 => exact OneOp.pure (by decide) rfl [(10, .int .i64 0)] rfl (fun _ _ h2 => ⟨(h2 10 (by kernel_rfl)).trans rfl, trivial⟩) (by kernel_rfl) (fun _ _ => by kernel_rfl)
  case o1r10n4 => exact OneOp.pure (by decide) rfl [(60, .int .i64 0)] rfl (fun _ h1 _ => ⟨h1 0 60 (by decide) (by kernel_rfl), trivial⟩) (by kernel_rfl) (fun _ _ => run_bin (a := .int .i64 0) (b := .int .i64 0) rfl rfl rfl (by kernel_rfl) (by simp [go_sem]))
  case o2r10n4 => exact OneOp.pure (by decide) rfl [(61, .bool false)] rfl (fun _ h1 _ => ⟨h1 1 61 (by decide) (by kernel_rfl), trivial⟩) (by kernel_rfl) (fun _ _ => by kernel_rfl)
  case o3r10n4 => exact OneOp.pure (by decide) rfl [(9, .pointer (some ⟨T3, 0, none⟩))] (.inl ⟨62, _, rfl, rfl, by kernel_rfl, rfl⟩) (fun _ _ h2 => ⟨(h2 9 (by kernel_rfl)).trans rfl, trivial⟩) (by kernel_rfl) (fun _ _ => by kernel_rfl)
  case o4r10n4 => exact OneOp.pure (by decide) rfl [(63, .pointer (some ⟨T3, 0, none⟩))] (.inl ⟨62, _, rfl, rfl, by kernel_rfl, rfl⟩) (fun _ h1 _ => ⟨h1 3 63 (by decide) (by kernel_rfl), trivial⟩) (by kernel_rfl) (fun _ _ => by kernel_rfl)
  case o5r10n4 => exact OneOp.pure (by decide) rfl [(62, .bool false), (64, .bool false)] rfl (fun _ h1 _ => ⟨h1 2 62 (by decide) (by kernel_rfl), h1 4 64 (by decide) (by kernel_rfl), trivial⟩) (by kernel_rfl) (fun _ _ => by kernel_rfl)
  case o6r10n4 => exact OneOp.pure (by decide) rfl [(65, .bool false)] rfl (fun _ h1 _ => ⟨h1 5 65 (by decide) (by kernel_rfl), trivial⟩) (by kernel_rfl) (fun _ _ => by kernel_rfl)
  case o7r10n4 => exact OneOp.pure (by decide) rfl [(9, .pointer (some ⟨T3, 0, none⟩))] (.inl ⟨66, _, rfl, rfl, by kernel_rfl, rfl⟩) (fun _ _ h2 => ⟨(h2 9 (by kernel_rfl)).trans rfl, trivial⟩) (by kernel_rfl) (fun _ _ => by kernel_rfl)
  case o8r10n4 => exact OneOp.pure (by decide) rfl [(6, .slice none 0 0)] (.inl ⟨66, _, rfl, rfl, by kernel_rfl, rfl⟩) (fun _ _ h2 => ⟨(h2 6 (by kernel_rfl)).trans rfl, trivial⟩) (by kernel_rfl) (fun _ _ => by kernel_rfl)
  case o9r10n4 => exact OneOp.pure (by decide) rfl [(3, .pointer (some ⟨w.heap.size, 0, none⟩))] (.inl ⟨66, _, rfl, rfl, by kernel_rfl, rfl⟩) (fun _ _ h2 => ⟨(h2 3 (by kernel_rfl)).trans rfl, trivial⟩) (by kernel_rfl) (fun _ _ => by kernel_rfl)
  case o10r10n4 => exact OneOp.pure (by decide) rfl [(69, .pointer (some ⟨w.heap.size, 0, none⟩))] (.inl ⟨66, _, rfl, rfl, by kernel_rfl, rfl⟩) (fun _ h1 _ => ⟨h1 9 69 (by decide) (by kernel_rfl), trivial⟩) (by kernel_rfl) (fun w hb => run_read rfl rfl (run_cell1 ((HQ.out w (B3.out.trans (hb.mono B3.out.size))).1) (Try.isAgg3 _)))
  case o11r10n4 => exact OneOp.pure (by decide) rfl [(3, .pointer (some ⟨w.heap.size, 0, none⟩))] (.inl ⟨66, _, rfl, rfl, by kernel_rfl, rfl⟩) (fun _ _ h2 => ⟨(h2 3 (by kernel_rfl)).trans rfl, trivial⟩) (by kernel_rfl) (fun _ _ => by kernel_rfl)
  case o12r10n4 => exact OneOp.pure (by decide) rfl [(71, .pointer (some ⟨w.heap.size, 1, none⟩))] (.inl ⟨66, _, rfl, rfl, by kernel_rfl, rfl⟩) (fun _ h1 _ => ⟨h1 11 71 (by decide) (by kernel_rfl), trivial⟩) (by kernel_rfl) (fun w hb => run_read rfl rfl (run_cell1 ((HQ.out w (B3.out.trans (hb.mono B3.out.size))).2.1) (Try.isAgg3 _)))
  case o13r10n4 => exact OneOp.callJ rfl rfl [(68, .slice none 0 0), (70, .int .i64 N), (72, .int .i64 M)] (.inl ⟨66, _, rfl, rfl, by kernel_rfl, rfl⟩) (fun _ h1 _ => ⟨h1 8 68 (by decide) (by kernel_rfl), h1 10 70 (by decide) (by kernel_rfl), h1 12 72 (by decide) (by kernel_rfl), trivial⟩) (by kernel_rfl) 32 #[.slice none 0 0, .int .i64 N, .int .i64 M] (fun _ => by kernel_rfl) (fun w hb => KW.out w _ (R3.out.below hb))
  case o14r10n4 => exact OneOp.pure (by decide) rfl [(3, .pointer (some ⟨w.heap.size, 0, none⟩))] (.inl ⟨66, _, rfl, rfl, by kernel_rfl, rfl⟩) (fun _ _ h2 => ⟨(h2 3 (by kernel_rfl)).trans rfl, trivial⟩) (by kernel_rfl) (fun _ _ => by kernel_rfl)
  case o15r10n4 => exact OneOp.pure (by decide) rfl [(74, .pointer (some ⟨w.heap.size, 1, none⟩))] (.inl ⟨66, _, rfl, rfl, by kernel_rfl, rfl⟩) (fun _ h1 _ => ⟨h1 14 74 (by decide) (by kernel_rfl), trivial⟩) (by kernel_rfl) (fun w hb => run_read rfl rfl (run_cell1 ((HQ.out w (B3.out.trans (hb.mono B3.out.size))).2.1) (Try.isAgg3 _)))
  case o16r10n4 => exact OneOp.callU (by decide) rfl 73 (by kernel_rfl) (fun u => [(67, .pointer (some ⟨T3, 0, none⟩)), (73, u), (75, .int .i64 M)]) (.inl ⟨66, _, rfl, rfl, by kernel_rfl, rfl⟩) (fun _ _ hu h1 _ => ⟨h1 7 67 (by decide) (by kernel_rfl), hu, h1 15 75 (by decide) (by kernel_rfl), trivial⟩) (fun _ => by kernel_rfl) 28 (fun u => #[.pointer (some ⟨T3, 0, none⟩), u, .slice none 0 0, .int .i64 M]) (fun _ _ => by kernel_rfl) (fun u w hb hR => KT.out w _ u (t3.out.below hb) hR)
  case o17r10n4 => exact OneOp.pure (by decide) rfl [(76, .bool true)] (.inl ⟨66, _, rfl, rfl, by kernel_rfl, rfl⟩) (fun _ h1 _ => ⟨h1 16 76 (by decide) (by kernel_rfl), trivial⟩) (by kernel_rfl) (fun _ _ => by kernel_rfl)
  case o18r10n4 => exact OneOp.pure (by decide) rfl [(66, .bool false), (77, .bool false)] rfl (fun _ h1 _ => ⟨h1 6 66 (by decide) (by kernel_rfl), h1 17 77 (by decide) (by kernel_rfl), trivial⟩) (by kernel_rfl) (fun _ _ => by kernel_rfl)
  case hdoner10n4 =>
    intro v4 w4 b4 r4
    have B4 : Hid (Below W0.heap.size W0 w4) := B3.out.trans (b4.mono B3.out.size)
    have R4 : Hid (Rd3 .i64 w4 (.slice none 0 0) ([] : List Rw)) := R3.out.below b4
    have T4 : Hid (Tab w4 (.pointer none) (lk ([] : List Rw))) := T3'.out.below b4
    clear b4 B3 R3 T3' r4 t3 KW KT
    obtain ⟨x0, x1, x2, x3⟩ := HQ.out w4 B4.out
    go_wp2_with (go_at_call 33; refine (KR.out _ _).mono ?_)
    intro e w5 hq
    first | (obtain ⟨rfl, b5⟩ : _ ∧ _ := hq) | (subst hq; intro b5)
    have B5 : Hid (Below W0.heap.size W0 w5) := B4.out.trans (b5.mono B4.out.size)
    clear b5 B4 R4 T4 KR x0 x1 x2 x3
    obtain ⟨x0, x1, x2, x3⟩ := HQ.out w5 B5.out
    have B6 : Hid (Below w.heap.size w w5) := B0.out.trans (B5.out.mono B0.out.size)
    rcases hq4 with a1 | ⟨a1, a2⟩ | ⟨a1, a2, a3⟩ | ⟨a1, a2, a3, a4⟩
    all_goals (
      go_wp2
      go_ret
      exact ⟨rfl, B6.out⟩)
end Go.Proofs.Ytookbgmolggohab
