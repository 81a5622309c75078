/-
  The law StageNil, walked. Conditions: the numbers fit; the lists take no more bytes than there are.
-/
import Derived.Test.YtookbgmolggohaaPp
namespace Go.Proofs.Ytookbgmolggohaa
open Go.RowKit
theorem bytes_inj {a b : ByteArray} (h : a.toList = b.toList) : a = b := by
  rw [ByteArray.toList_eq, ByteArray.toList_eq] at h
  cases a; cases b; simpa using h
set_option maxRecDepth 100000 in
set_option maxHeartbeats 8000000 in
theorem nil_g (L : List Rw) (A : List Int) (v va : Value) (n : Int) (w : World) (hr : Rd3 .i32 w v L) (hf : fit3 L) (hl : L.length ≤ 8796093022208) (ha : Rd1 w va A) (hfa : fit1 A) (hlA : A.length ≤ 35184372088832) (h : (chk L).2 = 0) : Calls Try.prog 8 #[v, va, .int .i64 n] w fun e w' => e = .returned (.bool true) ∧ Below w.heap.size w w' := by
  have KS : Hid (∀ W, Below w.heap.size w W → Calls Try.prog 11 #[.pointer none, .slice none 0 0, va, .int .i64 n] W fun e w' => e = .returned (.bool true) ∧ Below W.heap.size W w') := fun W hW => stands_any [] A _ _ va n W (.inl ⟨rfl, rfl⟩) ⟨_, rfl⟩ ⟨none, 0, rfl, Nat.le_refl _, fun h => by simp at h⟩ (ha.below hW) hfa hlA trivial (by simp)
  have KN : Hid (∀ W, Calls Try.prog 19 #[.pointer none, .pointer none] W fun e w' => e = .returned (.bool true) ∧ Below W.heap.size W w') := fun W => same_tab _ _ nought nought W (.inl ⟨rfl, rfl⟩) (.inl ⟨rfl, rfl⟩) nought_rng nought_rng true ⟨fun _ _ _ => rfl, fun _ => rfl⟩
  have K1 : Hid (∀ W, Below w.heap.size w W → Calls Try.prog 9 #[v] W fun e w' => ∃ T vr, e = .returned (.tuple #[.pointer (some ⟨T, 0, none⟩), vr, .bool true, .bool true]) ∧ Rd3 .i64 w' vr L ∧ TabAt w' T (lk L) ∧ Below W.heap.size W w') := fun W hW => built_good L v W (hr.below hW) hf hl h
  obtain ⟨hlL, hok, -⟩ := chk_ok h
  have hrg := lk_range hok
  obtain ⟨hck, hlk⟩ := least_chk hok hlL
  have KR : Hid (∀ W T, TabAt W T (lk L) → Calls Try.prog 20 #[.pointer (some ⟨T, 0, none⟩)] W fun e w' => ∃ v, e = .returned v ∧ Rd3 .i32 w' v (lst (runsL L)) ∧ Below W.heap.size W w') := fun W T h1 => (rows_any _ _ W (.inr ⟨T, rfl, h1⟩) hrg).mono fun e w' ⟨v, ys, q1, q2, q3, q4⟩ => by
    rw [Rn.uniq q2 (runs_rn hok)] at q3
    exact ⟨v, q1, Rd3.of_owns q3, q4⟩
  have KB : Hid (∀ W v1, Rd3 .i32 W v1 (lst (runsL L)) → Calls Try.prog 27 #[v1] W fun e w' => ∃ T, e = .returned (.tuple #[.pointer (some ⟨T, 0, none⟩), .int .i64 0, .int .i64 0]) ∧ TabAt w' T (lk L) ∧ Below W.heap.size W w') := fun W v1 h1 => by
    have := build_good _ v1 W h1 (rn_fit hrg (runs_rn hok)).1 hck
    rw [hlk] at this
    exact this
  have KL : Hid (∀ W v1, Rd3 .i64 W v1 L → Calls Try.prog 21 #[v1] W fun e w' => ∃ v', e = .returned v' ∧ w'.ownsRow W.heap.size 33 3 v' (lst (runsL L)).length (cel3 .i64 (lst (runsL L))) ∧ Below W.heap.size W w') := fun W v1 h1 => least_any L v1 W h1 hok (by omega) (by have := runsL_len L; omega)
  obtain ⟨E, hE⟩ : ∃ E : Bool, E = true ↔ lst (runsL L) = [] := ⟨(lst (runsL L)).isEmpty, List.isEmpty_iff⟩
  have hEb : E = true ↔ ∀ i, i < 8704 → blk (lk L) i = blk nought i := hE.trans (rows_iff (runs_rn hok) nought_runs)
  have KM1 : Hid (∀ W T T2, TabAt W T (lk L) → TabAt W T2 (lk L) → Calls Try.prog 19 #[.pointer (some ⟨T, 0, none⟩), .pointer (some ⟨T2, 0, none⟩)] W fun e w' => e = .returned (.bool true) ∧ Below W.heap.size W w') := fun W T T2 h1 h2 => same_tab _ _ _ _ W (.inr ⟨T, rfl, h1⟩) (.inr ⟨T2, rfl, h2⟩) hrg hrg true ⟨fun _ _ _ => rfl, fun _ => rfl⟩
  have KM2 : Hid (∀ W T, TabAt W T (lk L) → Calls Try.prog 19 #[.pointer (some ⟨T, 0, none⟩), .pointer none] W fun e w' => e = .returned (.bool E) ∧ Below W.heap.size W w') := fun W T h1 => same_tab _ _ _ nought W (.inr ⟨T, rfl, h1⟩) (.inl ⟨rfl, rfl⟩) hrg nought_rng E hEb
  have KP : Hid (∀ W T, TabAt W T (lk L) → Calls Try.prog 23 #[.pointer (some ⟨T, 0, none⟩)] W fun e w' => e = .returned (.string (pkT (lk L))) ∧ Below W.heap.size W w') := fun W T h1 => pack_any _ _ W (.inr ⟨T, rfl, h1⟩) hrg
  have KP0 : Hid (∀ W, Calls Try.prog 23 #[.pointer none] W fun e w' => e = .returned (.string (pkT nought)) ∧ Below W.heap.size W w') := fun W => pack_any _ _ W (.inl ⟨rfl, rfl⟩) nought_rng
  have hEl : (((lst (runsL L)).length : Int) == 0) = E := by
    cases E
    · have h0 : ¬ lst (runsL L) = [] := fun q => by cases hE.2 q
      simp [h0]
    · simp [hE.1 rfl]
  have hEp : ((pkT (lk L)).toList == (pkT nought).toList) = E := by
    have hiff := pkT_iff hrg nought_rng
    cases E
    · have h0 : ¬ pkT (lk L) = pkT nought := fun q => by cases hEb.2 (hiff.1 q)
      have h1 : ¬ (pkT (lk L)).toList = (pkT nought).toList := fun q => h0 (bytes_inj q)
      simpa using h1
    · rw [hiff.2 (hEb.1 rfl)]
      simp
  clear hr hf hl ha hfa hlA h hlL hok hrg hck hlk hE hEb
  generalize pkT (lk L) = S1 at *
  generalize pkT nought = S0 at *
  have B : Hid (Below w.heap.size w w) := Below.refl _ _
  go_enter Try.func8, Try.ntmps8
  go_wp2_with (go_at_call 10; refine (awake_any _).mono ?_)
  first | rintro e w1 rfl bb | rintro e w1 ⟨rfl, bb⟩
  replace B : Hid (Below w.heap.size w w1) := B.out.trans (bb.mono B.out.size)
  clear bb
  go_wp2_with (go_at_call 11; refine (KS.out _ B.out).mono ?_)
  first | rintro e w2 rfl bb | rintro e w2 ⟨rfl, bb⟩
  replace B : Hid (Below w.heap.size w w2) := B.out.trans (bb.mono B.out.size)
  clear bb KS
  go_wp2_with (go_at_call 19; refine (KN.out _).mono ?_)
  first | rintro e w3 rfl bb | rintro e w3 ⟨rfl, bb⟩
  replace B : Hid (Below w.heap.size w w3) := B.out.trans (bb.mono B.out.size)
  clear bb KN
  go_wp2_with (go_at_call 9; refine (K1.out _ B.out).mono ?_)
  first | rintro e w4 T vr rfl rr tt bb | rintro e w4 ⟨T, vr, rfl, rr, tt, bb⟩
  replace B : Hid (Below w.heap.size w w4) := B.out.trans (bb.mono B.out.size)
  have RR : Hid (Rd3 .i64 w4 vr L) := rr
  have TT : Hid (TabAt w4 T (lk L)) := tt
  clear bb rr tt K1
  go_wp2_with (go_at_call 20; refine (KR.out _ _ TT.out).mono ?_)
  first | rintro e w5 vy rfl ry bb | rintro e w5 ⟨vy, rfl, ry, bb⟩
  replace RR : Hid (Rd3 .i64 w5 vr L) := RR.out.below bb
  replace TT : Hid (TabAt w5 T (lk L)) := TT.out.below bb
  replace B : Hid (Below w.heap.size w w5) := B.out.trans (bb.mono B.out.size)
  have RY : Hid (Rd3 .i32 w5 vy (lst (runsL L))) := ry
  clear bb ry KR
  go_wp2_with (go_at_call 27; refine (KB.out _ _ RY.out).mono ?_)
  first | rintro e w6 T2 rfl t2 bb | rintro e w6 ⟨T2, rfl, t2, bb⟩
  replace RR : Hid (Rd3 .i64 w6 vr L) := RR.out.below bb
  replace TT : Hid (TabAt w6 T (lk L)) := TT.out.below bb
  replace RY : Hid (Rd3 .i32 w6 vy (lst (runsL L))) := RY.out.below bb
  replace B : Hid (Below w.heap.size w w6) := B.out.trans (bb.mono B.out.size)
  have T2T : Hid (TabAt w6 T2 (lk L)) := t2
  clear bb t2 KB RY
  go_wp2_with (go_at_call 21; refine (KL.out _ _ RR.out).mono ?_)
  first | rintro e w7 vz rfl oz bb | rintro e w7 ⟨vz, rfl, oz, bb⟩
  obtain ⟨az, cz, rfl, -, -⟩ := owns_slice oz
  replace RR : Hid (Rd3 .i64 w7 vr L) := RR.out.below bb
  replace TT : Hid (TabAt w7 T (lk L)) := TT.out.below bb
  replace T2T : Hid (TabAt w7 T2 (lk L)) := T2T.out.below bb
  replace B : Hid (Below w.heap.size w w7) := B.out.trans (bb.mono B.out.size)
  clear bb oz KL RR
  generalize (lst (runsL L)).length = ln at *
  go_wp2_with (go_at_call 19; refine (KM1.out _ _ _ TT.out T2T.out).mono ?_)
  first | rintro e w8 rfl bb | rintro e w8 ⟨rfl, bb⟩
  replace TT : Hid (TabAt w8 T (lk L)) := TT.out.below bb
  replace T2T : Hid (TabAt w8 T2 (lk L)) := T2T.out.below bb
  replace B : Hid (Below w.heap.size w w8) := B.out.trans (bb.mono B.out.size)
  clear bb KM1
  go_wp2_with (go_at_call 23; refine (KP.out _ _ TT.out).mono ?_)
  first | rintro e w9 rfl bb | rintro e w9 ⟨rfl, bb⟩
  replace TT : Hid (TabAt w9 T (lk L)) := TT.out.below bb
  replace T2T : Hid (TabAt w9 T2 (lk L)) := T2T.out.below bb
  replace B : Hid (Below w.heap.size w w9) := B.out.trans (bb.mono B.out.size)
  clear bb
  go_wp2_with (go_at_call 23; refine (KP.out _ _ T2T.out).mono ?_)
  first | rintro e w10 rfl bb | rintro e w10 ⟨rfl, bb⟩
  replace TT : Hid (TabAt w10 T (lk L)) := TT.out.below bb
  replace T2T : Hid (TabAt w10 T2 (lk L)) := T2T.out.below bb
  replace B : Hid (Below w.heap.size w w10) := B.out.trans (bb.mono B.out.size)
  clear bb T2T
  go_wp2_with (go_at_call 19; refine (KM2.out _ _ TT.out).mono ?_)
  first | rintro e w11 rfl bb | rintro e w11 ⟨rfl, bb⟩
  replace TT : Hid (TabAt w11 T (lk L)) := TT.out.below bb
  replace B : Hid (Below w.heap.size w w11) := B.out.trans (bb.mono B.out.size)
  clear bb KM2
  go_wp2_with (go_at_call 23; refine (KP.out _ _ TT.out).mono ?_)
  first | rintro e w12 rfl bb | rintro e w12 ⟨rfl, bb⟩
  replace TT : Hid (TabAt w12 T (lk L)) := TT.out.below bb
  replace B : Hid (Below w.heap.size w w12) := B.out.trans (bb.mono B.out.size)
  clear bb KP TT
  go_wp2_with (go_at_call 23; refine (KP0.out _).mono ?_)
  first | rintro e w13 rfl bb | rintro e w13 ⟨rfl, bb⟩
  replace B : Hid (Below w.heap.size w w13) := B.out.trans (bb.mono B.out.size)
  clear bb KP0
  cases E
  · go_wp2
    go_ret
    exact ⟨rfl, B.out⟩
  · go_wp2
    go_ret
    exact ⟨rfl, B.out⟩
set_option maxRecDepth 100000 in
set_option maxHeartbeats 8000000 in
theorem nil_b (L : List Rw) (A : List Int) (v va : Value) (n : Int) (w : World) (hr : Rd3 .i32 w v L) (hf : fit3 L) (hl : L.length ≤ 8796093022208) (ha : Rd1 w va A) (hfa : fit1 A) (hlA : A.length ≤ 35184372088832) (h : (chk L).2 ≠ 0) : Calls Try.prog 8 #[v, va, .int .i64 n] w fun e w' => e = .returned (.bool true) ∧ Below w.heap.size w w' := by
  have KS : Hid (∀ W, Below w.heap.size w W → Calls Try.prog 11 #[.pointer none, .slice none 0 0, va, .int .i64 n] W fun e w' => e = .returned (.bool true) ∧ Below W.heap.size W w') := fun W hW => stands_any [] A _ _ va n W (.inl ⟨rfl, rfl⟩) ⟨_, rfl⟩ ⟨none, 0, rfl, Nat.le_refl _, fun h => by simp at h⟩ (ha.below hW) hfa hlA trivial (by simp)
  have KN : Hid (∀ W, Calls Try.prog 19 #[.pointer none, .pointer none] W fun e w' => e = .returned (.bool true) ∧ Below W.heap.size W w') := fun W => same_tab _ _ nought nought W (.inl ⟨rfl, rfl⟩) (.inl ⟨rfl, rfl⟩) nought_rng nought_rng true ⟨fun _ _ _ => rfl, fun _ => rfl⟩
  have K1 : Hid (∀ W, Below w.heap.size w W → Calls Try.prog 9 #[v] W fun e w' => ∃ vr, e = .returned (.tuple #[.pointer none, vr, .bool false, .bool true]) ∧ Rd3 .i64 w' vr L ∧ Below W.heap.size W w') := fun W hW => built_bad L v W (hr.below hW) hf hl h
  clear hr hf hl ha hfa hlA h
  have B : Hid (Below w.heap.size w w) := Below.refl _ _
  go_enter Try.func8, Try.ntmps8
  go_wp2_with (go_at_call 10; refine (awake_any _).mono ?_)
  first | rintro e w1 rfl bb | rintro e w1 ⟨rfl, bb⟩
  replace B : Hid (Below w.heap.size w w1) := B.out.trans (bb.mono B.out.size)
  clear bb
  go_wp2_with (go_at_call 11; refine (KS.out _ B.out).mono ?_)
  first | rintro e w2 rfl bb | rintro e w2 ⟨rfl, bb⟩
  replace B : Hid (Below w.heap.size w w2) := B.out.trans (bb.mono B.out.size)
  clear bb KS
  go_wp2_with (go_at_call 19; refine (KN.out _).mono ?_)
  first | rintro e w3 rfl bb | rintro e w3 ⟨rfl, bb⟩
  replace B : Hid (Below w.heap.size w w3) := B.out.trans (bb.mono B.out.size)
  clear bb KN
  go_wp2_with (go_at_call 9; refine (K1.out _ B.out).mono ?_)
  first | rintro e w4 vr rfl rr bb | rintro e w4 ⟨vr, rfl, rr, bb⟩
  replace B : Hid (Below w.heap.size w w4) := B.out.trans (bb.mono B.out.size)
  clear bb rr K1
  go_wp2
  go_ret
  exact ⟨rfl, B.out⟩
theorem law_nil (L : List Rw) (A : List Int) (v va : Value) (n : Int) (w : World) (hr : Rd3 .i32 w v L) (hf : fit3 L) (hl : L.length ≤ 8796093022208) (ha : Rd1 w va A) (hfa : fit1 A) (hlA : A.length ≤ 35184372088832) : Calls Try.prog 8 #[v, va, .int .i64 n] w fun e w' => e = .returned (.bool true) ∧ Below w.heap.size w w' := by
  by_cases h : (chk L).2 = 0
  · exact nil_g L A v va n w hr hf hl ha hfa hlA h
  · exact nil_b L A v va n w hr hf hl ha hfa hlA h
end Go.Proofs.Ytookbgmolggohaa
