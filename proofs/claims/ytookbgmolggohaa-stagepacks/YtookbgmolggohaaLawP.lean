/-
  The law StagePacks, walked. Conditions: the numbers fit; the lists take no more bytes than there are.
-/
import Derived.Test.YtookbgmolggohaaUh
namespace Go.Proofs.Ytookbgmolggohaa
open Go.RowKit
set_option maxRecDepth 100000 in
set_option maxHeartbeats 8000000 in
theorem packs_g (L : List Rw) (A : List Int) (v va : Value) (w : World) (hr : Rd3 .i32 w v L) (hf : fit3 L) (hl : L.length ≤ 8796093022208) (ha : Rd1 w va A) (hfa : fit1 A) (hlA : A.length ≤ 35184372088832) (h : (chk L).2 = 0) : Calls Try.prog 6 #[v, va] w fun e w' => e = .returned (.bool true) ∧ Below w.heap.size w w' := by
  have K1 : Hid (∀ W, Below w.heap.size w W → Calls Try.prog 9 #[v] W fun e w' => ∃ T vr, e = .returned (.tuple #[.pointer (some ⟨T, 0, none⟩), vr, .bool true, .bool true]) ∧ Rd3 .i64 w' vr L ∧ TabAt w' T (lk L) ∧ Below W.heap.size W w') := fun W hW => built_good L v W (hr.below hW) hf hl h
  obtain ⟨hlL, hok, -⟩ := chk_ok h
  have hrg := lk_range hok
  have KS : Hid (∀ W T vr, TabAt W T (lk L) → Rd3 .i64 W vr L → Below w.heap.size w W → Calls Try.prog 11 #[.pointer (some ⟨T, 0, none⟩), vr, va, .int .i64 0] W fun e w' => e = .returned (.bool true) ∧ Below W.heap.size W w') := fun W T vr h1 h2 hW => stands_any L A _ vr va 0 W (.inr ⟨T, rfl, h1⟩) ⟨_, rfl⟩ h2 (ha.below hW) hfa hlA hok (by omega)
  have KR : Hid (∀ W vr, Rd3 .i64 W vr L → Calls Try.prog 22 #[vr] W fun e w' => e = .returned (.tuple #[.string (pkT (lk L)), .int .i64 ((unl (lk L) 8704).length : Nat)]) ∧ Below W.heap.size W w') := fun W vr h1 => rpack_any (lk L) (runsL L) vr W (runs_rn hok) hrg ((runs_any L vr W h1 hok (by omega)).mono fun e w' ⟨v', q1, q2, q3⟩ => ⟨v', q1, Rd3.of_owns q2, q3⟩)
  have KU : Hid (∀ W, Calls Try.prog 25 #[.string (pkT (lk L))] W fun e w' => ∃ T, e = .returned (.tuple #[.pointer (some ⟨T, 0, none⟩), .int .i64 0]) ∧ TabAt w' T (lk L) ∧ Below W.heap.size W w') := fun W => unpack_good (lk L) W hrg
  have KP : Hid (∀ W vt, Tab W vt (lk L) → Calls Try.prog 23 #[vt] W fun e w' => e = .returned (.string (pkT (lk L))) ∧ Below W.heap.size W w') := fun W vt h1 => pack_any vt _ W h1 hrg
  have KB : Hid (∀ W vt, Tab W vt (lk L) → Calls Try.prog 24 #[vt] W fun e w' => e = .returned (.int .i64 ((unl (lk L) 8704).length : Nat)) ∧ Below W.heap.size W w') := fun W vt h1 => blocks_any W vt _ h1
  have KM : Hid (∀ W vt T, Tab W vt (lk L) → TabAt W T (lk L) → Calls Try.prog 19 #[vt, .pointer (some ⟨T, 0, none⟩)] W fun e w' => e = .returned (.bool true) ∧ Below W.heap.size W w') := fun W vt T h1 h2 => same_tab vt _ _ _ W h1 (.inr ⟨T, rfl, h2⟩) hrg hrg true ⟨fun _ _ _ => rfl, fun _ => rfl⟩
  clear hr hf hl ha hfa hlA h hlL hok hrg
  generalize pkT (lk L) = S at *
  generalize (unl (lk L) 8704).length = un at *
  have B : Hid (Below w.heap.size w w) := Below.refl _ _
  go_enter Try.func6, Try.ntmps6
  go_wp2_with (go_at_call 9; refine (K1.out _ B.out).mono ?_)
  first | rintro e w1 T vr rfl rr tt bb | rintro e w1 ⟨T, vr, rfl, rr, tt, bb⟩
  replace B : Hid (Below w.heap.size w w1) := B.out.trans (bb.mono B.out.size)
  have RR : Hid (Rd3 .i64 w1 vr L) := rr
  have TT : Hid (TabAt w1 T (lk L)) := tt
  clear bb rr tt K1
  go_wp2_with (go_at_call 10; refine (awake_any _).mono ?_)
  first | rintro e w2 rfl bb | rintro e w2 ⟨rfl, bb⟩
  replace RR : Hid (Rd3 .i64 w2 vr L) := RR.out.below bb
  replace TT : Hid (TabAt w2 T (lk L)) := TT.out.below bb
  replace B : Hid (Below w.heap.size w w2) := B.out.trans (bb.mono B.out.size)
  clear bb
  go_wp2_with (go_at_call 22; refine (KR.out _ _ RR.out).mono ?_)
  first | rintro e w3 rfl bb | rintro e w3 ⟨rfl, bb⟩
  replace RR : Hid (Rd3 .i64 w3 vr L) := RR.out.below bb
  replace TT : Hid (TabAt w3 T (lk L)) := TT.out.below bb
  replace B : Hid (Below w.heap.size w w3) := B.out.trans (bb.mono B.out.size)
  clear bb KR
  go_wp2_with (go_at_call 23; refine (KP.out _ _ (.inr ⟨T, rfl, TT.out⟩)).mono ?_)
  first | rintro e w4 rfl bb | rintro e w4 ⟨rfl, bb⟩
  replace RR : Hid (Rd3 .i64 w4 vr L) := RR.out.below bb
  replace TT : Hid (TabAt w4 T (lk L)) := TT.out.below bb
  replace B : Hid (Below w.heap.size w w4) := B.out.trans (bb.mono B.out.size)
  clear bb
  go_wp2_with (go_at_call 24; refine (KB.out _ _ (.inr ⟨T, rfl, TT.out⟩)).mono ?_)
  first | rintro e w5 rfl bb | rintro e w5 ⟨rfl, bb⟩
  replace RR : Hid (Rd3 .i64 w5 vr L) := RR.out.below bb
  replace TT : Hid (TabAt w5 T (lk L)) := TT.out.below bb
  replace B : Hid (Below w.heap.size w w5) := B.out.trans (bb.mono B.out.size)
  clear bb KB
  go_wp2_with (go_at_call 25; refine (KU.out _).mono ?_)
  first | rintro e w6 T2 rfl t2 bb | rintro e w6 ⟨T2, rfl, t2, bb⟩
  replace RR : Hid (Rd3 .i64 w6 vr L) := RR.out.below bb
  replace TT : Hid (TabAt w6 T (lk L)) := TT.out.below bb
  replace B : Hid (Below w.heap.size w w6) := B.out.trans (bb.mono B.out.size)
  have T2T : Hid (TabAt w6 T2 (lk L)) := t2
  clear bb t2 KU
  go_wp2_with (go_at_call 11; refine (KS.out _ _ _ T2T.out RR.out B.out).mono ?_)
  first | rintro e w7 rfl bb | rintro e w7 ⟨rfl, bb⟩
  replace RR : Hid (Rd3 .i64 w7 vr L) := RR.out.below bb
  replace TT : Hid (TabAt w7 T (lk L)) := TT.out.below bb
  replace T2T : Hid (TabAt w7 T2 (lk L)) := T2T.out.below bb
  replace B : Hid (Below w.heap.size w w7) := B.out.trans (bb.mono B.out.size)
  clear bb KS
  go_wp2_with (go_at_call 19; refine (KM.out _ _ _ (.inr ⟨T, rfl, TT.out⟩) T2T.out).mono ?_)
  first | rintro e w8 rfl bb | rintro e w8 ⟨rfl, bb⟩
  replace RR : Hid (Rd3 .i64 w8 vr L) := RR.out.below bb
  replace TT : Hid (TabAt w8 T (lk L)) := TT.out.below bb
  replace T2T : Hid (TabAt w8 T2 (lk L)) := T2T.out.below bb
  replace B : Hid (Below w.heap.size w w8) := B.out.trans (bb.mono B.out.size)
  clear bb KM
  go_wp2_with (go_at_call 23; refine (KP.out _ _ (.inr ⟨T2, rfl, T2T.out⟩)).mono ?_)
  first | rintro e w9 rfl bb | rintro e w9 ⟨rfl, bb⟩
  replace RR : Hid (Rd3 .i64 w9 vr L) := RR.out.below bb
  replace TT : Hid (TabAt w9 T (lk L)) := TT.out.below bb
  replace T2T : Hid (TabAt w9 T2 (lk L)) := T2T.out.below bb
  replace B : Hid (Below w.heap.size w w9) := B.out.trans (bb.mono B.out.size)
  clear bb KP
  go_wp2
  go_ret
  exact ⟨rfl, B.out⟩
set_option maxRecDepth 100000 in
set_option maxHeartbeats 8000000 in
theorem packs_b (L : List Rw) (A : List Int) (v va : Value) (w : World) (hr : Rd3 .i32 w v L) (hf : fit3 L) (hl : L.length ≤ 8796093022208) (ha : Rd1 w va A) (hfa : fit1 A) (hlA : A.length ≤ 35184372088832) (h : (chk L).2 ≠ 0) : Calls Try.prog 6 #[v, va] w fun e w' => e = .returned (.bool true) ∧ Below w.heap.size w w' := by
  have K1 : Hid (∀ W, Below w.heap.size w W → Calls Try.prog 9 #[v] W fun e w' => ∃ vr, e = .returned (.tuple #[.pointer none, vr, .bool false, .bool true]) ∧ Rd3 .i64 w' vr L ∧ Below W.heap.size W w') := fun W hW => built_bad L v W (hr.below hW) hf hl h
  have hok : okF 0 ([] : List Rw) := trivial
  have hlL : ([] : List Rw).length ≤ 65536 := by simp
  have hrg := lk_range hok
  have KS : Hid (∀ W T vr, TabAt W T (lk ([] : List Rw)) → Rd3 .i64 W vr ([] : List Rw) → Below w.heap.size w W → Calls Try.prog 11 #[.pointer (some ⟨T, 0, none⟩), vr, va, .int .i64 0] W fun e w' => e = .returned (.bool true) ∧ Below W.heap.size W w') := fun W T vr h1 h2 hW => stands_any ([] : List Rw) A _ vr va 0 W (.inr ⟨T, rfl, h1⟩) ⟨_, rfl⟩ h2 (ha.below hW) hfa hlA hok (by omega)
  have KR : Hid (∀ W vr, Rd3 .i64 W vr ([] : List Rw) → Calls Try.prog 22 #[vr] W fun e w' => e = .returned (.tuple #[.string (pkT (lk ([] : List Rw))), .int .i64 ((unl (lk ([] : List Rw)) 8704).length : Nat)]) ∧ Below W.heap.size W w') := fun W vr h1 => rpack_any (lk ([] : List Rw)) (runsL ([] : List Rw)) vr W (runs_rn hok) hrg ((runs_any ([] : List Rw) vr W h1 hok (by omega)).mono fun e w' ⟨v', q1, q2, q3⟩ => ⟨v', q1, Rd3.of_owns q2, q3⟩)
  have KU : Hid (∀ W, Calls Try.prog 25 #[.string (pkT (lk ([] : List Rw)))] W fun e w' => ∃ T, e = .returned (.tuple #[.pointer (some ⟨T, 0, none⟩), .int .i64 0]) ∧ TabAt w' T (lk ([] : List Rw)) ∧ Below W.heap.size W w') := fun W => unpack_good (lk ([] : List Rw)) W hrg
  have KP : Hid (∀ W vt, Tab W vt (lk ([] : List Rw)) → Calls Try.prog 23 #[vt] W fun e w' => e = .returned (.string (pkT (lk ([] : List Rw)))) ∧ Below W.heap.size W w') := fun W vt h1 => pack_any vt _ W h1 hrg
  have KB : Hid (∀ W vt, Tab W vt (lk ([] : List Rw)) → Calls Try.prog 24 #[vt] W fun e w' => e = .returned (.int .i64 ((unl (lk ([] : List Rw)) 8704).length : Nat)) ∧ Below W.heap.size W w') := fun W vt h1 => blocks_any W vt _ h1
  have KM : Hid (∀ W vt T, Tab W vt (lk ([] : List Rw)) → TabAt W T (lk ([] : List Rw)) → Calls Try.prog 19 #[vt, .pointer (some ⟨T, 0, none⟩)] W fun e w' => e = .returned (.bool true) ∧ Below W.heap.size W w') := fun W vt T h1 h2 => same_tab vt _ _ _ W h1 (.inr ⟨T, rfl, h2⟩) hrg hrg true ⟨fun _ _ _ => rfl, fun _ => rfl⟩
  clear hr hf hl ha hfa hlA h hlL hok hrg
  generalize pkT (lk ([] : List Rw)) = S at *
  generalize (unl (lk ([] : List Rw)) 8704).length = un at *
  have B : Hid (Below w.heap.size w w) := Below.refl _ _
  go_enter Try.func6, Try.ntmps6
  go_wp2_with (go_at_call 9; refine (K1.out _ B.out).mono ?_)
  first | rintro e w1 vr rfl rr bb | rintro e w1 ⟨vr, rfl, rr, bb⟩
  replace B : Hid (Below w.heap.size w w1) := B.out.trans (bb.mono B.out.size)
  clear bb rr K1
  go_wp2_with (go_at_call 10; refine (awake_any _).mono ?_)
  first | rintro e w2 rfl bb | rintro e w2 ⟨rfl, bb⟩
  replace B : Hid (Below w.heap.size w w2) := B.out.trans (bb.mono B.out.size)
  clear bb
  go_wp2_with (go_at_call 22; refine (KR.out _ _ ⟨none, 0, rfl, Nat.le_refl _, fun h => by simp at h⟩).mono ?_)
  first | rintro e w3 rfl bb | rintro e w3 ⟨rfl, bb⟩
  replace B : Hid (Below w.heap.size w w3) := B.out.trans (bb.mono B.out.size)
  clear bb KR
  go_wp2_with (go_at_call 23; refine (KP.out _ _ (.inl ⟨rfl, rfl⟩)).mono ?_)
  first | rintro e w4 rfl bb | rintro e w4 ⟨rfl, bb⟩
  replace B : Hid (Below w.heap.size w w4) := B.out.trans (bb.mono B.out.size)
  clear bb
  go_wp2_with (go_at_call 24; refine (KB.out _ _ (.inl ⟨rfl, rfl⟩)).mono ?_)
  first | rintro e w5 rfl bb | rintro e w5 ⟨rfl, bb⟩
  replace B : Hid (Below w.heap.size w w5) := B.out.trans (bb.mono B.out.size)
  clear bb KB
  go_wp2_with (go_at_call 25; refine (KU.out _).mono ?_)
  first | rintro e w6 T2 rfl t2 bb | rintro e w6 ⟨T2, rfl, t2, bb⟩
  replace B : Hid (Below w.heap.size w w6) := B.out.trans (bb.mono B.out.size)
  have T2T : Hid (TabAt w6 T2 (lk ([] : List Rw))) := t2
  clear bb t2 KU
  go_wp2_with (go_at_call 11; refine (KS.out _ _ _ T2T.out ⟨none, 0, rfl, Nat.le_refl _, fun h => by simp at h⟩ B.out).mono ?_)
  first | rintro e w7 rfl bb | rintro e w7 ⟨rfl, bb⟩
  replace T2T : Hid (TabAt w7 T2 (lk ([] : List Rw))) := T2T.out.below bb
  replace B : Hid (Below w.heap.size w w7) := B.out.trans (bb.mono B.out.size)
  clear bb KS
  go_wp2_with (go_at_call 19; refine (KM.out _ _ _ (.inl ⟨rfl, rfl⟩) T2T.out).mono ?_)
  first | rintro e w8 rfl bb | rintro e w8 ⟨rfl, bb⟩
  replace T2T : Hid (TabAt w8 T2 (lk ([] : List Rw))) := T2T.out.below bb
  replace B : Hid (Below w.heap.size w w8) := B.out.trans (bb.mono B.out.size)
  clear bb KM
  go_wp2_with (go_at_call 23; refine (KP.out _ _ (.inr ⟨T2, rfl, T2T.out⟩)).mono ?_)
  first | rintro e w9 rfl bb | rintro e w9 ⟨rfl, bb⟩
  replace T2T : Hid (TabAt w9 T2 (lk ([] : List Rw))) := T2T.out.below bb
  replace B : Hid (Below w.heap.size w w9) := B.out.trans (bb.mono B.out.size)
  clear bb KP
  go_wp2
  go_ret
  exact ⟨rfl, B.out⟩
theorem law_packs (L : List Rw) (A : List Int) (v va : Value) (w : World) (hr : Rd3 .i32 w v L) (hf : fit3 L) (hl : L.length ≤ 8796093022208) (ha : Rd1 w va A) (hfa : fit1 A) (hlA : A.length ≤ 35184372088832) : Calls Try.prog 6 #[v, va] w fun e w' => e = .returned (.bool true) ∧ Below w.heap.size w w' := by
  by_cases h : (chk L).2 = 0
  · exact packs_g L A v va w hr hf hl ha hfa hlA h
  · exact packs_b L A v va w hr hf hl ha hfa hlA h
end Go.Proofs.Ytookbgmolggohaa
