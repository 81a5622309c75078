/-
  The contract of either: what is in one of two sets at least. Conditions: the lists are sets.
-/
import Derived.Test.YtddoanmhikldiabCo
import Derived.Deep.RegionWith
namespace Go.Proofs.Ytddoanmhikldiab
open Go.RowKit
/-- What stands in the midst of putting two sets together. -/
structure EiP (A B A' B' O : List Sn) : Prop where
  sa : ∃ m, isS m A' = true
  sb : ∃ m, isS m B' = true
  so : isS 0 O = true
  lo : ∀ t ∈ O, ∀ s, s ∈ A' ∨ s ∈ B' → t.1 ≤ s.1
  has : ∀ p, (hasB O p || hasB A' p || hasB B' p) = (hasB A p || hasB B p)
  len : A'.length + B'.length + O.length ≤ A.length + B.length
theorem EiP.swap {A B A' B' O : List Sn} (h : EiP A B A' B' O) : EiP A B B' A' O :=
  ⟨h.sb, h.sa, h.so, fun t ht s hs => h.lo t ht s hs.symm, fun p => by rw [Bool.or_assoc, Bool.or_comm (hasB B' p), ← Bool.or_assoc, h.has], by have := h.len; omega⟩
theorem EiP.step {A B P R O : List Sn} {s : Sn} (h : EiP A B (s :: P) R O) (hR : ∀ t ∈ R, s.1 ≤ t.1) : EiP A B P R (joinL O s) := by
  obtain ⟨m, hm⟩ := h.sa
  have hm' := isS_cons.1 hm
  have hs := may_iff.1 hm'.1
  obtain ⟨j1, j2, j3⟩ := join_set h.so hm'.1 (fun t ht => h.lo t ht s (.inl (by simp)))
  refine ⟨⟨_, hm'.2.2⟩, h.sb, j1, fun t ht u hu => ?_, fun p => ?_, ?_⟩
  · have h1 := j3 t ht
    rcases hu with hu | hu
    · have := (isS_mem hm'.2.2 u hu).2; omega
    · have := hR u hu; omega
  · rw [j2, ← h.has p, has_cons, Bool.or_assoc (hasB O p)]
  · have := h.len
    have := join_len O s
    simp only [List.length_cons] at *
    omega
theorem EiP.head {A B P R O : List Sn} {s t : Sn} (h : EiP A B (s :: P) (t :: R) O) (hst : s.1 ≤ t.1) : ∀ u ∈ t :: R, s.1 ≤ u.1 := by
  obtain ⟨m, hm⟩ := h.sb
  have hm' := isS_cons.1 hm
  have ht := may_iff.1 hm'.1
  intro u hu
  rcases List.mem_cons.1 hu with rfl | hu
  · exact hst
  · have := (isS_mem hm'.2.2 u hu).2; omega
theorem EiP.bounds {A B A' B' O : List Sn} (h : EiP A B A' B' O) : ∀ t ∈ O, 0 ≤ t.2 ∧ t.2 ≤ 1114111 := fun t ht => by
  have := may_iff.1 (isS_mem h.so t ht).1; omega
set_option maxRecDepth 100000 in
set_option maxHeartbeats 2000000 in
theorem either_any (A B : List Sn) (va vb : Value) (w : World) (ha : RdS w va A) (hb : RdS w vb B) (hsa : isS 0 A = true) (hsb : isS 0 B = true) (hla : A.length ≤ 1000000) (hlb : B.length ≤ 1000000) : Calls Try.prog 28 #[va, vb] w fun e w' => ∃ v' X, e = .returned v' ∧ w'.ownsRow w.heap.size 41 2 v' X.length (celS X) ∧ isS 0 X = true ∧ (∀ p, hasB X p = (hasB A p || hasB B p)) ∧ X.length ≤ A.length + B.length ∧ Below w.heap.size w w' := by
  have HA : Hid (RdS w va A) := ha
  have HB : Hid (RdS w vb B) := hb
  have H0 : Hid (EiP A B A B []) := ⟨⟨0, hsa⟩, ⟨0, hsb⟩, rfl, fun t ht => (by cases ht), fun p => by rw [has_nil, Bool.false_or], by simp⟩
  clear ha hb hsa hsb
  go_enter Try.func28, Try.ntmps28
  go_wp2_with fail
  go_loopw [0, 1, 5] (fun x y z wr => ∃ A' B' O : List Sn, Hid (EiP A B A' B' O) ∧ Hid (RdS w x A') ∧ Hid (RdS w y B') ∧ Hid (wr.ownsRow w.heap.size 41 2 z O.length (celS O)) ∧ Hid (Below w.heap.size w wr)) (fun x y _ _ => lenV x + lenV y)
  case atStart => exact ⟨A, B, [], H0.out, HA.out, HB.out, World.ownsRow_nil _ _ _ _, Below.refl _ _⟩
  case round =>
    obtain ⟨A', B', O, hEI, hA, hB, hO, hBel⟩ := hrel
    have hlen := hEI.out.len
    have hbs := hBel.out.size
    obtain ⟨pa, ca, rfl, hca, hda⟩ := hA.out
    obtain ⟨pb, cb, rfl, hcb, hdb⟩ := hB.out
    cases A' with
    | nil =>
      cases B' with
      | nil =>
        have hS : Hid (isS 0 O = true) := hEI.out.so
        have hH : Hid (∀ p, hasB O p = (hasB A p || hasB B p)) := fun p => by rw [← hEI.out.has p, has_nil, Bool.or_false, Bool.or_false]
        have hL : Hid (O.length ≤ A.length + B.length) := by rw [Hid]; simp at hlen; omega
        simp only [List.length_nil]
        clear hda hdb hlen
        go_wp2
        go_ret
        exact ⟨_, O, rfl, hO.out, hS.out, hH.out, hL.out, hBel.out⟩
      | cons t B' =>
        obtain ⟨gb, ob, rfl, hb⟩ := hdb (by simp)
        obtain ⟨adb, hadb, hrb⟩ := run_tail gb ob (B'.length + 1) cb (by omega) (by simpa using hcb)
        have TB : Hid (RdS w (.slice (some adb) B'.length (cb - 1)) B') := RdS.tail (by simpa using hcb) (by simpa using hb) hadb
        obtain ⟨b1, b2⟩ := hb 0 (by simp)
        simp only [Nat.zero_mul, Nat.add_zero, List.getD_cons_zero] at b1 b2
        have gb1 := World.block_lt_of_cell? w _ b1
        have hQB : Hid (∀ w1 : World, Below w.heap.size w w1 → w1.cell? ⟨gb, ob, none⟩ = some (.int .i32 t.1) ∧ w1.cell? ⟨gb, ob + 1, none⟩ = some (.int .i32 t.2)) := fun w1 hb1 => ⟨(hb1.cell (p := ⟨gb, ob, none⟩) (by simpa using gb1)).trans b1, (hb1.cell (p := ⟨gb, ob + 1, none⟩) (by simpa using gb1)).trans b2⟩
        obtain ⟨t1, t2⟩ := t
        clear b1 b2 hb hadb gb1 hdb
        simp only [List.length_cons, List.length_nil] at hlen ⊢
        clear hda
        have n2 : (0 : Int) < (B'.length : Int) + 1 := by omega
        go_wp2_with fail
        refine wp_region_vals (a1 := ?a1r3n1) (grown _) [.slice pa 0 ca, .int .i64 0, .bool true, .bool true, undef, undef, undef, undef, undef, undef, undef, undef, undef, undef, undef, undef, undef, undef, .bool true] 41 rfl (by kernel_rfl) (by kernel_rfl) (grown_start _) ⟨?o0r3n1, ?o1r3n1, ?o2r3n1, ?o3r3n1, ?o4r3n1, ?o5r3n1, ?o6r3n1, ?o7r3n1, ?o8r3n1, ?o9r3n1, ?o10r3n1, ?o11r3n1, ?o12r3n1, ?o13r3n1, ?o14r3n1, ?o15r3n1, ?o16r3n1, ?o17r3n1, ?o18r3n1, trivial⟩ ?har3n1 ?hdoner3n1
        case har3n1 => simp [putAll, Act.put]; exact rfl
        case o0r3n1 => exact ValOp.pure (grown_steady _ 0) [(0, .slice pa 0 ca)] rfl (fun _ _ h2 => ⟨(h2 0 (by kernel_rfl)).trans rfl, trivial⟩) (by kernel_rfl) (fun _ _ _ _ _ => by kernel_rfl)
        case o1r3n1 => exact ValOp.pure (grown_steady _ 1) [(12, .slice pa 0 ca)] rfl (fun _ h1 _ => ⟨h1 0 12 (by kernel_rfl), trivial⟩) (by kernel_rfl) (fun _ _ _ _ _ => by kernel_rfl)
        case o2r3n1 => exact ValOp.pure (grown_steady _ 2) [(13, .int .i64 0)] rfl (fun _ h1 _ => ⟨h1 1 13 (by kernel_rfl), trivial⟩) (by kernel_rfl) (fun _ _ _ _ _ => run_bin (a := .int .i64 0) (b := .int .i64 0) rfl rfl rfl (by kernel_rfl) (by simp [go_sem]))
        case o3r3n1 => exact ValOp.pure (grown_steady _ 3) [(14, .bool true)] rfl (fun _ h1 _ => ⟨h1 2 14 (by kernel_rfl), trivial⟩) (by kernel_rfl) (fun _ _ _ _ _ => by kernel_rfl)
        case o4r3n1 => exact ValOp.no (grown_steady _ 4) (.inl ⟨15, _, rfl, rfl, by kernel_rfl, rfl⟩) rfl
        case o5r3n1 => exact ValOp.no (grown_steady _ 5) (.inl ⟨15, _, rfl, rfl, by kernel_rfl, rfl⟩) rfl
        case o6r3n1 => exact ValOp.no (grown_steady _ 6) (.inl ⟨15, _, rfl, rfl, by kernel_rfl, rfl⟩) rfl
        case o7r3n1 => exact ValOp.no (grown_steady _ 7) (.inl ⟨15, _, rfl, rfl, by kernel_rfl, rfl⟩) rfl
        case o8r3n1 => exact ValOp.no (grown_steady _ 8) (.inr ⟨rfl, 19, rfl, rfl, by kernel_rfl⟩) rfl
        case o9r3n1 => exact ValOp.no (grown_steady _ 9) (.inr ⟨rfl, 19, rfl, rfl, by kernel_rfl⟩) rfl
        case o10r3n1 => exact ValOp.no (grown_steady _ 10) (.inr ⟨rfl, 19, rfl, rfl, by kernel_rfl⟩) rfl
        case o11r3n1 => exact ValOp.no (grown_steady _ 11) (.inr ⟨rfl, 19, rfl, rfl, by kernel_rfl⟩) rfl
        case o12r3n1 => exact ValOp.no (grown_steady _ 12) (.inr ⟨rfl, 19, rfl, rfl, by kernel_rfl⟩) rfl
        case o13r3n1 => exact ValOp.no (grown_steady _ 13) (.inr ⟨rfl, 19, rfl, rfl, by kernel_rfl⟩) rfl
        case o14r3n1 => exact ValOp.no (grown_steady _ 14) (.inr ⟨rfl, 19, rfl, rfl, by kernel_rfl⟩) rfl
        case o15r3n1 => exact ValOp.no (grown_steady _ 15) (.inr ⟨rfl, 19, rfl, rfl, by kernel_rfl⟩) rfl
        case o16r3n1 => exact ValOp.no (grown_steady _ 16) (.inr ⟨rfl, 19, rfl, rfl, by kernel_rfl⟩) rfl
        case o17r3n1 => exact ValOp.no (grown_steady _ 17) (.inl ⟨15, _, rfl, rfl, by kernel_rfl, rfl⟩) rfl
        case o18r3n1 => exact ValOp.pure (grown_steady _ 18) [(15, .bool true), (29, undef)] rfl (fun _ h1 _ => ⟨h1 3 15 (by kernel_rfl), h1 17 29 (by kernel_rfl), trivial⟩) (by kernel_rfl) (fun _ _ _ _ _ => by kernel_rfl)
        case hdoner3n1 =>
          intro w1 s9 hs9 hg1
          have B1 : Hid (Below w.heap.size w w1) := hBel.out.trans (Below.mono hg1 hbs)
          have O1 : Hid (w1.ownsRow w.heap.size 41 2 u5 O.length (celS O)) := owns_below hO.out hg1
          obtain ⟨z1, z2⟩ := hQB.out w1 B1.out
          have hw1 := B1.out.size
          have hEI2 : Hid (EiP A B B' ([] : List Sn) (joinL O (t1, t2))) := hEI.out.swap.step (fun t ht => by cases ht)
          have hbo : Hid (∀ t ∈ O, 0 ≤ t.2 ∧ t.2 ≤ 1114111) := hEI.out.bounds
          have O1d : Hid (w1.drew.ownsRow w.heap.size 41 2 u5 O.length (celS O)) := owns_below O1.out (Below.refl _ _).drew
          have hw1d : Hid (w.heap.size ≤ w1.drew.heap.size) := hw1
          have hOl : Hid (O.length < 1099511627776) := by rw [Hid]; omega
          clear hg1 hs9
          go_wp2_with fail
          go_region_with (go_at_call 32; refine (joined_any w.heap.size O (t1, t2) u5 w1.drew hw1d.out O1d.out hbo.out hOl.out).mono ?_; rintro e w2 ⟨v2, rfl, O2, B2⟩)
          all_goals (
            have O3 : Hid (w2.ownsRow w.heap.size 41 2 v2 (joinL O (t1, t2)).length (celS (joinL O (t1, t2)))) := O2
            have B3 : Hid (Below w.heap.size w w2) := B1.out.drew.trans B2
            clear O2 B2
            go_simp
            try go_wp2
            exact ⟨⟨B', ([] : List Sn), joinL O (t1, t2), hEI2.out, TB.out, hA.out, O3.out, B3.out⟩, by simp [lenV]; try omega⟩)
    | cons s A' =>
      obtain ⟨ga, oa, rfl, ha⟩ := hda (by simp)
      obtain ⟨ada, hada, hra⟩ := run_tail ga oa (A'.length + 1) ca (by omega) (by simpa using hca)
      have TA : Hid (RdS w (.slice (some ada) A'.length (ca - 1)) A') := RdS.tail (by simpa using hca) (by simpa using ha) hada
      obtain ⟨a1, a2⟩ := ha 0 (by simp)
      simp only [Nat.zero_mul, Nat.add_zero, List.getD_cons_zero] at a1 a2
      have ga1 := World.block_lt_of_cell? w _ a1
      have hQA : Hid (∀ w1 : World, Below w.heap.size w w1 → w1.cell? ⟨ga, oa, none⟩ = some (.int .i32 s.1) ∧ w1.cell? ⟨ga, oa + 1, none⟩ = some (.int .i32 s.2)) := fun w1 hb1 => ⟨(hb1.cell (p := ⟨ga, oa, none⟩) (by simpa using ga1)).trans a1, (hb1.cell (p := ⟨ga, oa + 1, none⟩) (by simpa using ga1)).trans a2⟩
      obtain ⟨s1, s2⟩ := s
      clear a1 a2 ha hada ga1 hda
      have m0 : ¬ ((A'.length : Int) + 1 = 0) := by omega
      have n1 : (0 : Int) < (A'.length : Int) + 1 := by omega
      cases B' with
      | nil =>
        simp only [List.length_cons, List.length_nil] at hlen ⊢
        clear hdb
        go_wp2_with fail
        refine wp_region_vals (a1 := ?a1r3n2) (grown _) [.slice (some ⟨ga, oa, none⟩) (A'.length + 1) (ca), (.int .i64 ((A'.length + 1 : Nat) : Int)), .bool false, .bool false, .slice pb 0 cb, .int .i64 0, .bool false, .bool false, undef, undef, undef, undef, undef, undef, undef, undef, undef, .bool false, .bool false] 41 rfl (by kernel_rfl) (by kernel_rfl) (grown_start _) ⟨?o0r3n2, ?o1r3n2, ?o2r3n2, ?o3r3n2, ?o4r3n2, ?o5r3n2, ?o6r3n2, ?o7r3n2, ?o8r3n2, ?o9r3n2, ?o10r3n2, ?o11r3n2, ?o12r3n2, ?o13r3n2, ?o14r3n2, ?o15r3n2, ?o16r3n2, ?o17r3n2, ?o18r3n2, trivial⟩ ?har3n2 ?hdoner3n2
        case har3n2 => simp [putAll, Act.put]; exact rfl
        case o0r3n2 => exact ValOp.pure (grown_steady _ 0) [(0, .slice (some ⟨ga, oa, none⟩) (A'.length + 1) (ca))] rfl (fun _ _ h2 => ⟨(h2 0 (by kernel_rfl)).trans rfl, trivial⟩) (by kernel_rfl) (fun _ _ _ _ _ => by kernel_rfl)
        case o1r3n2 => exact ValOp.pure (grown_steady _ 1) [(12, .slice (some ⟨ga, oa, none⟩) (A'.length + 1) (ca))] rfl (fun _ h1 _ => ⟨h1 0 12 (by kernel_rfl), trivial⟩) (by kernel_rfl) (fun _ _ _ _ _ => by kernel_rfl)
        case o2r3n2 => exact ValOp.pure (grown_steady _ 2) [(13, (.int .i64 ((A'.length + 1 : Nat) : Int)))] rfl (fun _ h1 _ => ⟨h1 1 13 (by kernel_rfl), trivial⟩) (by kernel_rfl) (fun _ _ _ _ _ => run_bin (a := (.int .i64 ((A'.length + 1 : Nat) : Int))) (b := .int .i64 0) rfl rfl rfl (by kernel_rfl) (by simp [go_sem, m0]))
        case o3r3n2 => exact ValOp.pure (grown_steady _ 3) [(14, .bool false)] rfl (fun _ h1 _ => ⟨h1 2 14 (by kernel_rfl), trivial⟩) (by kernel_rfl) (fun _ _ _ _ _ => by kernel_rfl)
        case o4r3n2 => exact ValOp.pure (grown_steady _ 4) [(1, .slice pb 0 cb)] (.inl ⟨15, _, rfl, rfl, by kernel_rfl, rfl⟩) (fun _ _ h2 => ⟨(h2 1 (by kernel_rfl)).trans rfl, trivial⟩) (by kernel_rfl) (fun _ _ _ _ _ => by kernel_rfl)
        case o5r3n2 => exact ValOp.pure (grown_steady _ 5) [(16, .slice pb 0 cb)] (.inl ⟨15, _, rfl, rfl, by kernel_rfl, rfl⟩) (fun _ h1 _ => ⟨h1 4 16 (by kernel_rfl), trivial⟩) (by kernel_rfl) (fun _ _ _ _ _ => by kernel_rfl)
        case o6r3n2 => exact ValOp.pure (grown_steady _ 6) [(17, .int .i64 0)] (.inl ⟨15, _, rfl, rfl, by kernel_rfl, rfl⟩) (fun _ h1 _ => ⟨h1 5 17 (by kernel_rfl), trivial⟩) (by kernel_rfl) (fun _ _ _ _ _ => run_bin (a := .int .i64 0) (b := .int .i64 0) rfl rfl rfl (by kernel_rfl) (by simp [go_sem]))
        case o7r3n2 => exact ValOp.pure (grown_steady _ 7) [(18, .bool false)] (.inl ⟨15, _, rfl, rfl, by kernel_rfl, rfl⟩) (fun _ h1 _ => ⟨h1 6 18 (by kernel_rfl), trivial⟩) (by kernel_rfl) (fun _ _ _ _ _ => by kernel_rfl)
        case o8r3n2 => exact ValOp.no (grown_steady _ 8) (.inl ⟨19, _, rfl, rfl, by kernel_rfl, rfl⟩) rfl
        case o9r3n2 => exact ValOp.no (grown_steady _ 9) (.inl ⟨19, _, rfl, rfl, by kernel_rfl, rfl⟩) rfl
        case o10r3n2 => exact ValOp.no (grown_steady _ 10) (.inl ⟨19, _, rfl, rfl, by kernel_rfl, rfl⟩) rfl
        case o11r3n2 => exact ValOp.no (grown_steady _ 11) (.inl ⟨19, _, rfl, rfl, by kernel_rfl, rfl⟩) rfl
        case o12r3n2 => exact ValOp.no (grown_steady _ 12) (.inl ⟨19, _, rfl, rfl, by kernel_rfl, rfl⟩) rfl
        case o13r3n2 => exact ValOp.no (grown_steady _ 13) (.inl ⟨19, _, rfl, rfl, by kernel_rfl, rfl⟩) rfl
        case o14r3n2 => exact ValOp.no (grown_steady _ 14) (.inl ⟨19, _, rfl, rfl, by kernel_rfl, rfl⟩) rfl
        case o15r3n2 => exact ValOp.no (grown_steady _ 15) (.inl ⟨19, _, rfl, rfl, by kernel_rfl, rfl⟩) rfl
        case o16r3n2 => exact ValOp.no (grown_steady _ 16) (.inl ⟨19, _, rfl, rfl, by kernel_rfl, rfl⟩) rfl
        case o17r3n2 => exact ValOp.pure (grown_steady _ 17) [(19, .bool false), (28, undef)] (.inl ⟨15, _, rfl, rfl, by kernel_rfl, rfl⟩) (fun _ h1 _ => ⟨h1 7 19 (by kernel_rfl), h1 16 28 (by kernel_rfl), trivial⟩) (by kernel_rfl) (fun _ _ _ _ _ => by kernel_rfl)
        case o18r3n2 => exact ValOp.pure (grown_steady _ 18) [(15, .bool false), (29, .bool false)] rfl (fun _ h1 _ => ⟨h1 3 15 (by kernel_rfl), h1 17 29 (by kernel_rfl), trivial⟩) (by kernel_rfl) (fun _ _ _ _ _ => by kernel_rfl)
        case hdoner3n2 =>
          intro w1 s9 hs9 hg1
          have B1 : Hid (Below w.heap.size w w1) := hBel.out.trans (Below.mono hg1 hbs)
          have O1 : Hid (w1.ownsRow w.heap.size 41 2 u5 O.length (celS O)) := owns_below hO.out hg1
          obtain ⟨z1, z2⟩ := hQA.out w1 B1.out
          have hw1 := B1.out.size
          have hEI2 : Hid (EiP A B A' ([] : List Sn) (joinL O (s1, s2))) := hEI.out.step (fun t ht => by cases ht)
          have hbo : Hid (∀ t ∈ O, 0 ≤ t.2 ∧ t.2 ≤ 1114111) := hEI.out.bounds
          have O1d : Hid (w1.drew.ownsRow w.heap.size 41 2 u5 O.length (celS O)) := owns_below O1.out (Below.refl _ _).drew
          have hw1d : Hid (w.heap.size ≤ w1.drew.heap.size) := hw1
          have hOl : Hid (O.length < 1099511627776) := by rw [Hid]; omega
          clear hg1 hs9
          go_wp2_with fail
          go_region_with (go_at_call 32; refine (joined_any w.heap.size O (s1, s2) u5 w1.drew hw1d.out O1d.out hbo.out hOl.out).mono ?_; rintro e w2 ⟨v2, rfl, O2, B2⟩)
          all_goals (
            have O3 : Hid (w2.ownsRow w.heap.size 41 2 v2 (joinL O (s1, s2)).length (celS (joinL O (s1, s2)))) := O2
            have B3 : Hid (Below w.heap.size w w2) := B1.out.drew.trans B2
            clear O2 B2
            go_simp
            try go_wp2
            exact ⟨⟨A', ([] : List Sn), joinL O (s1, s2), hEI2.out, TA.out, hB.out, O3.out, B3.out⟩, by simp [lenV]; try omega⟩)
      | cons t B' =>
        obtain ⟨gb, ob, rfl, hb⟩ := hdb (by simp)
        obtain ⟨adb, hadb, hrb⟩ := run_tail gb ob (B'.length + 1) cb (by omega) (by simpa using hcb)
        have TB : Hid (RdS w (.slice (some adb) B'.length (cb - 1)) B') := RdS.tail (by simpa using hcb) (by simpa using hb) hadb
        obtain ⟨b1, b2⟩ := hb 0 (by simp)
        simp only [Nat.zero_mul, Nat.add_zero, List.getD_cons_zero] at b1 b2
        have gb1 := World.block_lt_of_cell? w _ b1
        have hQB : Hid (∀ w1 : World, Below w.heap.size w w1 → w1.cell? ⟨gb, ob, none⟩ = some (.int .i32 t.1) ∧ w1.cell? ⟨gb, ob + 1, none⟩ = some (.int .i32 t.2)) := fun w1 hb1 => ⟨(hb1.cell (p := ⟨gb, ob, none⟩) (by simpa using gb1)).trans b1, (hb1.cell (p := ⟨gb, ob + 1, none⟩) (by simpa using gb1)).trans b2⟩
        obtain ⟨t1, t2⟩ := t
        clear b1 b2 hb hadb gb1 hdb
        simp only [List.length_cons] at hlen ⊢
        have m1 : (0 : Int) < (B'.length : Int) + 1 := by omega
        have n2 : (0 : Int) < (A'.length : Int) + 1 + ((B'.length : Int) + 1) := by omega
        by_cases c : t1 < s1
        · have hlt : decide (t1 < s1) = true := decide_eq_true c
          go_wp2_with fail
          refine wp_region_vals (a1 := ?a1r3n3) (grown _) [.slice (some ⟨ga, oa, none⟩) (A'.length + 1) (ca), (.int .i64 ((A'.length + 1 : Nat) : Int)), .bool false, .bool false, .slice (some ⟨gb, ob, none⟩) (B'.length + 1) (cb), (.int .i64 ((B'.length + 1 : Nat) : Int)), .bool true, .bool true, .slice (some ⟨gb, ob, none⟩) (B'.length + 1) (cb), .pointer (some ⟨gb, ob, none⟩), .pointer (some ⟨gb, ob, none⟩), .int .i32 t1, .slice (some ⟨ga, oa, none⟩) (A'.length + 1) (ca), .pointer (some ⟨ga, oa, none⟩), .pointer (some ⟨ga, oa, none⟩), .int .i32 s1, .bool true, .bool true, .bool true] 41 rfl (by kernel_rfl) (by kernel_rfl) (grown_start _) ⟨?o0r3n3, ?o1r3n3, ?o2r3n3, ?o3r3n3, ?o4r3n3, ?o5r3n3, ?o6r3n3, ?o7r3n3, ?o8r3n3, ?o9r3n3, ?o10r3n3, ?o11r3n3, ?o12r3n3, ?o13r3n3, ?o14r3n3, ?o15r3n3, ?o16r3n3, ?o17r3n3, ?o18r3n3, trivial⟩ ?har3n3 ?hdoner3n3
          case har3n3 => simp [putAll, Act.put]; exact rfl
          case o0r3n3 => exact ValOp.pure (grown_steady _ 0) [(0, .slice (some ⟨ga, oa, none⟩) (A'.length + 1) (ca))] rfl (fun _ _ h2 => ⟨(h2 0 (by kernel_rfl)).trans rfl, trivial⟩) (by kernel_rfl) (fun _ _ _ _ _ => by kernel_rfl)
          case o1r3n3 => exact ValOp.pure (grown_steady _ 1) [(12, .slice (some ⟨ga, oa, none⟩) (A'.length + 1) (ca))] rfl (fun _ h1 _ => ⟨h1 0 12 (by kernel_rfl), trivial⟩) (by kernel_rfl) (fun _ _ _ _ _ => by kernel_rfl)
          case o2r3n3 => exact ValOp.pure (grown_steady _ 2) [(13, (.int .i64 ((A'.length + 1 : Nat) : Int)))] rfl (fun _ h1 _ => ⟨h1 1 13 (by kernel_rfl), trivial⟩) (by kernel_rfl) (fun _ _ _ _ _ => run_bin (a := (.int .i64 ((A'.length + 1 : Nat) : Int))) (b := .int .i64 0) rfl rfl rfl (by kernel_rfl) (by simp [go_sem, m0]))
          case o3r3n3 => exact ValOp.pure (grown_steady _ 3) [(14, .bool false)] rfl (fun _ h1 _ => ⟨h1 2 14 (by kernel_rfl), trivial⟩) (by kernel_rfl) (fun _ _ _ _ _ => by kernel_rfl)
          case o4r3n3 => exact ValOp.pure (grown_steady _ 4) [(1, .slice (some ⟨gb, ob, none⟩) (B'.length + 1) (cb))] (.inl ⟨15, _, rfl, rfl, by kernel_rfl, rfl⟩) (fun _ _ h2 => ⟨(h2 1 (by kernel_rfl)).trans rfl, trivial⟩) (by kernel_rfl) (fun _ _ _ _ _ => by kernel_rfl)
          case o5r3n3 => exact ValOp.pure (grown_steady _ 5) [(16, .slice (some ⟨gb, ob, none⟩) (B'.length + 1) (cb))] (.inl ⟨15, _, rfl, rfl, by kernel_rfl, rfl⟩) (fun _ h1 _ => ⟨h1 4 16 (by kernel_rfl), trivial⟩) (by kernel_rfl) (fun _ _ _ _ _ => by kernel_rfl)
          case o6r3n3 => exact ValOp.pure (grown_steady _ 6) [(17, (.int .i64 ((B'.length + 1 : Nat) : Int)))] (.inl ⟨15, _, rfl, rfl, by kernel_rfl, rfl⟩) (fun _ h1 _ => ⟨h1 5 17 (by kernel_rfl), trivial⟩) (by kernel_rfl) (fun _ _ _ _ _ => run_bin (a := (.int .i64 ((B'.length + 1 : Nat) : Int))) (b := .int .i64 0) rfl rfl rfl (by kernel_rfl) (by simp [go_sem, m1]))
          case o7r3n3 => exact ValOp.pure (grown_steady _ 7) [(18, .bool true)] (.inl ⟨15, _, rfl, rfl, by kernel_rfl, rfl⟩) (fun _ h1 _ => ⟨h1 6 18 (by kernel_rfl), trivial⟩) (by kernel_rfl) (fun _ _ _ _ _ => by kernel_rfl)
          case o8r3n3 => exact ValOp.pure (grown_steady _ 8) [(1, .slice (some ⟨gb, ob, none⟩) (B'.length + 1) (cb))] (.inl ⟨19, _, rfl, rfl, by kernel_rfl, rfl⟩) (fun _ _ h2 => ⟨(h2 1 (by kernel_rfl)).trans rfl, trivial⟩) (by kernel_rfl) (fun _ _ _ _ _ => by kernel_rfl)
          case o9r3n3 => exact ValOp.pure (grown_steady _ 9) [(20, .slice (some ⟨gb, ob, none⟩) (B'.length + 1) (cb))] (.inl ⟨19, _, rfl, rfl, by kernel_rfl, rfl⟩) (fun _ h1 _ => ⟨h1 8 20 (by kernel_rfl), trivial⟩) (by kernel_rfl) (fun _ _ _ hg _ => run_ia0_22 rfl rfl rfl (Nat.succ_pos B'.length))
          case o10r3n3 => exact ValOp.pure (grown_steady _ 10) [(21, .pointer (some ⟨gb, ob, none⟩))] (.inl ⟨19, _, rfl, rfl, by kernel_rfl, rfl⟩) (fun _ h1 _ => ⟨h1 9 21 (by kernel_rfl), trivial⟩) (by kernel_rfl) (fun _ _ _ _ _ => by kernel_rfl)
          case o11r3n3 => exact ValOp.pure (grown_steady _ 11) [(22, .pointer (some ⟨gb, ob, none⟩))] (.inl ⟨19, _, rfl, rfl, by kernel_rfl, rfl⟩) (fun _ h1 _ => ⟨h1 10 22 (by kernel_rfl), trivial⟩) (by kernel_rfl) (fun _ _ _ hg _ => run_read rfl rfl (run_l21 (hQB.out _ (hBel.out.trans (Below.mono hg hbs))).1))
          case o12r3n3 => exact ValOp.pure (grown_steady _ 12) [(0, .slice (some ⟨ga, oa, none⟩) (A'.length + 1) (ca))] (.inl ⟨19, _, rfl, rfl, by kernel_rfl, rfl⟩) (fun _ _ h2 => ⟨(h2 0 (by kernel_rfl)).trans rfl, trivial⟩) (by kernel_rfl) (fun _ _ _ _ _ => by kernel_rfl)
          case o13r3n3 => exact ValOp.pure (grown_steady _ 13) [(24, .slice (some ⟨ga, oa, none⟩) (A'.length + 1) (ca))] (.inl ⟨19, _, rfl, rfl, by kernel_rfl, rfl⟩) (fun _ h1 _ => ⟨h1 12 24 (by kernel_rfl), trivial⟩) (by kernel_rfl) (fun _ _ _ hg _ => run_ia0_22 rfl rfl rfl (Nat.succ_pos A'.length))
          case o14r3n3 => exact ValOp.pure (grown_steady _ 14) [(25, .pointer (some ⟨ga, oa, none⟩))] (.inl ⟨19, _, rfl, rfl, by kernel_rfl, rfl⟩) (fun _ h1 _ => ⟨h1 13 25 (by kernel_rfl), trivial⟩) (by kernel_rfl) (fun _ _ _ _ _ => by kernel_rfl)
          case o15r3n3 => exact ValOp.pure (grown_steady _ 15) [(26, .pointer (some ⟨ga, oa, none⟩))] (.inl ⟨19, _, rfl, rfl, by kernel_rfl, rfl⟩) (fun _ h1 _ => ⟨h1 14 26 (by kernel_rfl), trivial⟩) (by kernel_rfl) (fun _ _ _ hg _ => run_read rfl rfl (run_l21 (hQA.out _ (hBel.out.trans (Below.mono hg hbs))).1))
          case o16r3n3 => exact ValOp.pure (grown_steady _ 16) [(23, .int .i32 t1), (27, .int .i32 s1)] (.inl ⟨19, _, rfl, rfl, by kernel_rfl, rfl⟩) (fun _ h1 _ => ⟨h1 11 23 (by kernel_rfl), h1 15 27 (by kernel_rfl), trivial⟩) (by kernel_rfl) (fun _ _ _ _ _ => run_bin (a := .int .i32 t1) (b := .int .i32 s1) rfl rfl rfl (by kernel_rfl) (by simp [go_sem, hlt]))
          case o17r3n3 => exact ValOp.pure (grown_steady _ 17) [(19, .bool true), (28, .bool true)] (.inl ⟨15, _, rfl, rfl, by kernel_rfl, rfl⟩) (fun _ h1 _ => ⟨h1 7 19 (by kernel_rfl), h1 16 28 (by kernel_rfl), trivial⟩) (by kernel_rfl) (fun _ _ _ _ _ => by kernel_rfl)
          case o18r3n3 => exact ValOp.pure (grown_steady _ 18) [(15, .bool false), (29, .bool true)] rfl (fun _ h1 _ => ⟨h1 3 15 (by kernel_rfl), h1 17 29 (by kernel_rfl), trivial⟩) (by kernel_rfl) (fun _ _ _ _ _ => by kernel_rfl)
          case hdoner3n3 =>
            intro w1 s9 hs9 hg1
            have B1 : Hid (Below w.heap.size w w1) := hBel.out.trans (Below.mono hg1 hbs)
            have O1 : Hid (w1.ownsRow w.heap.size 41 2 u5 O.length (celS O)) := owns_below hO.out hg1
            obtain ⟨z1, z2⟩ := hQB.out w1 B1.out
            have hw1 := B1.out.size
            have hEI2 : Hid (EiP A B B' ((s1, s2) :: A') (joinL O (t1, t2))) := hEI.out.swap.step (hEI.out.swap.head (by simp only; omega))
            have hbo : Hid (∀ t ∈ O, 0 ≤ t.2 ∧ t.2 ≤ 1114111) := hEI.out.bounds
            have O1d : Hid (w1.drew.ownsRow w.heap.size 41 2 u5 O.length (celS O)) := owns_below O1.out (Below.refl _ _).drew
            have hw1d : Hid (w.heap.size ≤ w1.drew.heap.size) := hw1
            have hOl : Hid (O.length < 1099511627776) := by rw [Hid]; omega
            clear hg1 hs9
            go_wp2_with fail
            go_region_with (go_at_call 32; refine (joined_any w.heap.size O (t1, t2) u5 w1.drew hw1d.out O1d.out hbo.out hOl.out).mono ?_; rintro e w2 ⟨v2, rfl, O2, B2⟩)
            all_goals (
              have O3 : Hid (w2.ownsRow w.heap.size 41 2 v2 (joinL O (t1, t2)).length (celS (joinL O (t1, t2)))) := O2
              have B3 : Hid (Below w.heap.size w w2) := B1.out.drew.trans B2
              clear O2 B2
              go_simp
              try go_wp2
              exact ⟨⟨B', ((s1, s2) :: A'), joinL O (t1, t2), hEI2.out, TB.out, hA.out, O3.out, B3.out⟩, by simp [lenV]; try omega⟩)
        · have hlt : decide (t1 < s1) = false := decide_eq_false c
          go_wp2_with fail
          refine wp_region_vals (a1 := ?a1r3n4) (grown _) [.slice (some ⟨ga, oa, none⟩) (A'.length + 1) (ca), (.int .i64 ((A'.length + 1 : Nat) : Int)), .bool false, .bool false, .slice (some ⟨gb, ob, none⟩) (B'.length + 1) (cb), (.int .i64 ((B'.length + 1 : Nat) : Int)), .bool true, .bool true, .slice (some ⟨gb, ob, none⟩) (B'.length + 1) (cb), .pointer (some ⟨gb, ob, none⟩), .pointer (some ⟨gb, ob, none⟩), .int .i32 t1, .slice (some ⟨ga, oa, none⟩) (A'.length + 1) (ca), .pointer (some ⟨ga, oa, none⟩), .pointer (some ⟨ga, oa, none⟩), .int .i32 s1, .bool false, .bool false, .bool false] 41 rfl (by kernel_rfl) (by kernel_rfl) (grown_start _) ⟨?o0r3n4, ?o1r3n4, ?o2r3n4, ?o3r3n4, ?o4r3n4, ?o5r3n4, ?o6r3n4, ?o7r3n4, ?o8r3n4, ?o9r3n4, ?o10r3n4, ?o11r3n4, ?o12r3n4, ?o13r3n4, ?o14r3n4, ?o15r3n4, ?o16r3n4, ?o17r3n4, ?o18r3n4, trivial⟩ ?har3n4 ?hdoner3n4
          case har3n4 => simp [putAll, Act.put]; exact rfl
          case o0r3n4 => exact ValOp.pure (grown_steady _ 0) [(0, .slice (some ⟨ga, oa, none⟩) (A'.length + 1) (ca))] rfl (fun _ _ h2 => ⟨(h2 0 (by kernel_rfl)).trans rfl, trivial⟩) (by kernel_rfl) (fun _ _ _ _ _ => by kernel_rfl)
          case o1r3n4 => exact ValOp.pure (grown_steady _ 1) [(12, .slice (some ⟨ga, oa, none⟩) (A'.length + 1) (ca))] rfl (fun _ h1 _ => ⟨h1 0 12 (by kernel_rfl), trivial⟩) (by kernel_rfl) (fun _ _ _ _ _ => by kernel_rfl)
          case o2r3n4 => exact ValOp.pure (grown_steady _ 2) [(13, (.int .i64 ((A'.length + 1 : Nat) : Int)))] rfl (fun _ h1 _ => ⟨h1 1 13 (by kernel_rfl), trivial⟩) (by kernel_rfl) (fun _ _ _ _ _ => run_bin (a := (.int .i64 ((A'.length + 1 : Nat) : Int))) (b := .int .i64 0) rfl rfl rfl (by kernel_rfl) (by simp [go_sem, m0]))
          case o3r3n4 => exact ValOp.pure (grown_steady _ 3) [(14, .bool false)] rfl (fun _ h1 _ => ⟨h1 2 14 (by kernel_rfl), trivial⟩) (by kernel_rfl) (fun _ _ _ _ _ => by kernel_rfl)
          case o4r3n4 => exact ValOp.pure (grown_steady _ 4) [(1, .slice (some ⟨gb, ob, none⟩) (B'.length + 1) (cb))] (.inl ⟨15, _, rfl, rfl, by kernel_rfl, rfl⟩) (fun _ _ h2 => ⟨(h2 1 (by kernel_rfl)).trans rfl, trivial⟩) (by kernel_rfl) (fun _ _ _ _ _ => by kernel_rfl)
          case o5r3n4 => exact ValOp.pure (grown_steady _ 5) [(16, .slice (some ⟨gb, ob, none⟩) (B'.length + 1) (cb))] (.inl ⟨15, _, rfl, rfl, by kernel_rfl, rfl⟩) (fun _ h1 _ => ⟨h1 4 16 (by kernel_rfl), trivial⟩) (by kernel_rfl) (fun _ _ _ _ _ => by kernel_rfl)
          case o6r3n4 => exact ValOp.pure (grown_steady _ 6) [(17, (.int .i64 ((B'.length + 1 : Nat) : Int)))] (.inl ⟨15, _, rfl, rfl, by kernel_rfl, rfl⟩) (fun _ h1 _ => ⟨h1 5 17 (by kernel_rfl), trivial⟩) (by kernel_rfl) (fun _ _ _ _ _ => run_bin (a := (.int .i64 ((B'.length + 1 : Nat) : Int))) (b := .int .i64 0) rfl rfl rfl (by kernel_rfl) (by simp [go_sem, m1]))
          case o7r3n4 => exact ValOp.pure (grown_steady _ 7) [(18, .bool true)] (.inl ⟨15, _, rfl, rfl, by kernel_rfl, rfl⟩) (fun _ h1 _ => ⟨h1 6 18 (by kernel_rfl), trivial⟩) (by kernel_rfl) (fun _ _ _ _ _ => by kernel_rfl)
          case o8r3n4 => exact ValOp.pure (grown_steady _ 8) [(1, .slice (some ⟨gb, ob, none⟩) (B'.length + 1) (cb))] (.inl ⟨19, _, rfl, rfl, by kernel_rfl, rfl⟩) (fun _ _ h2 => ⟨(h2 1 (by kernel_rfl)).trans rfl, trivial⟩) (by kernel_rfl) (fun _ _ _ _ _ => by kernel_rfl)
          case o9r3n4 => exact ValOp.pure (grown_steady _ 9) [(20, .slice (some ⟨gb, ob, none⟩) (B'.length + 1) (cb))] (.inl ⟨19, _, rfl, rfl, by kernel_rfl, rfl⟩) (fun _ h1 _ => ⟨h1 8 20 (by kernel_rfl), trivial⟩) (by kernel_rfl) (fun _ _ _ hg _ => run_ia0_22 rfl rfl rfl (Nat.succ_pos B'.length))
          case o10r3n4 => exact ValOp.pure (grown_steady _ 10) [(21, .pointer (some ⟨gb, ob, none⟩))] (.inl ⟨19, _, rfl, rfl, by kernel_rfl, rfl⟩) (fun _ h1 _ => ⟨h1 9 21 (by kernel_rfl), trivial⟩) (by kernel_rfl) (fun _ _ _ _ _ => by kernel_rfl)
          case o11r3n4 => exact ValOp.pure (grown_steady _ 11) [(22, .pointer (some ⟨gb, ob, none⟩))] (.inl ⟨19, _, rfl, rfl, by kernel_rfl, rfl⟩) (fun _ h1 _ => ⟨h1 10 22 (by kernel_rfl), trivial⟩) (by kernel_rfl) (fun _ _ _ hg _ => run_read rfl rfl (run_l21 (hQB.out _ (hBel.out.trans (Below.mono hg hbs))).1))
          case o12r3n4 => exact ValOp.pure (grown_steady _ 12) [(0, .slice (some ⟨ga, oa, none⟩) (A'.length + 1) (ca))] (.inl ⟨19, _, rfl, rfl, by kernel_rfl, rfl⟩) (fun _ _ h2 => ⟨(h2 0 (by kernel_rfl)).trans rfl, trivial⟩) (by kernel_rfl) (fun _ _ _ _ _ => by kernel_rfl)
          case o13r3n4 => exact ValOp.pure (grown_steady _ 13) [(24, .slice (some ⟨ga, oa, none⟩) (A'.length + 1) (ca))] (.inl ⟨19, _, rfl, rfl, by kernel_rfl, rfl⟩) (fun _ h1 _ => ⟨h1 12 24 (by kernel_rfl), trivial⟩) (by kernel_rfl) (fun _ _ _ hg _ => run_ia0_22 rfl rfl rfl (Nat.succ_pos A'.length))
          case o14r3n4 => exact ValOp.pure (grown_steady _ 14) [(25, .pointer (some ⟨ga, oa, none⟩))] (.inl ⟨19, _, rfl, rfl, by kernel_rfl, rfl⟩) (fun _ h1 _ => ⟨h1 13 25 (by kernel_rfl), trivial⟩) (by kernel_rfl) (fun _ _ _ _ _ => by kernel_rfl)
          case o15r3n4 => exact ValOp.pure (grown_steady _ 15) [(26, .pointer (some ⟨ga, oa, none⟩))] (.inl ⟨19, _, rfl, rfl, by kernel_rfl, rfl⟩) (fun _ h1 _ => ⟨h1 14 26 (by kernel_rfl), trivial⟩) (by kernel_rfl) (fun _ _ _ hg _ => run_read rfl rfl (run_l21 (hQA.out _ (hBel.out.trans (Below.mono hg hbs))).1))
          case o16r3n4 => exact ValOp.pure (grown_steady _ 16) [(23, .int .i32 t1), (27, .int .i32 s1)] (.inl ⟨19, _, rfl, rfl, by kernel_rfl, rfl⟩) (fun _ h1 _ => ⟨h1 11 23 (by kernel_rfl), h1 15 27 (by kernel_rfl), trivial⟩) (by kernel_rfl) (fun _ _ _ _ _ => run_bin (a := .int .i32 t1) (b := .int .i32 s1) rfl rfl rfl (by kernel_rfl) (by simp [go_sem, hlt]))
          case o17r3n4 => exact ValOp.pure (grown_steady _ 17) [(19, .bool true), (28, .bool false)] (.inl ⟨15, _, rfl, rfl, by kernel_rfl, rfl⟩) (fun _ h1 _ => ⟨h1 7 19 (by kernel_rfl), h1 16 28 (by kernel_rfl), trivial⟩) (by kernel_rfl) (fun _ _ _ _ _ => by kernel_rfl)
          case o18r3n4 => exact ValOp.pure (grown_steady _ 18) [(15, .bool false), (29, .bool false)] rfl (fun _ h1 _ => ⟨h1 3 15 (by kernel_rfl), h1 17 29 (by kernel_rfl), trivial⟩) (by kernel_rfl) (fun _ _ _ _ _ => by kernel_rfl)
          case hdoner3n4 =>
            intro w1 s9 hs9 hg1
            have B1 : Hid (Below w.heap.size w w1) := hBel.out.trans (Below.mono hg1 hbs)
            have O1 : Hid (w1.ownsRow w.heap.size 41 2 u5 O.length (celS O)) := owns_below hO.out hg1
            obtain ⟨z1, z2⟩ := hQA.out w1 B1.out
            have hw1 := B1.out.size
            have hEI2 : Hid (EiP A B A' ((t1, t2) :: B') (joinL O (s1, s2))) := hEI.out.step (hEI.out.head (by simp only; omega))
            have hbo : Hid (∀ t ∈ O, 0 ≤ t.2 ∧ t.2 ≤ 1114111) := hEI.out.bounds
            have O1d : Hid (w1.drew.ownsRow w.heap.size 41 2 u5 O.length (celS O)) := owns_below O1.out (Below.refl _ _).drew
            have hw1d : Hid (w.heap.size ≤ w1.drew.heap.size) := hw1
            have hOl : Hid (O.length < 1099511627776) := by rw [Hid]; omega
            clear hg1 hs9
            go_wp2_with fail
            go_region_with (go_at_call 32; refine (joined_any w.heap.size O (s1, s2) u5 w1.drew hw1d.out O1d.out hbo.out hOl.out).mono ?_; rintro e w2 ⟨v2, rfl, O2, B2⟩)
            all_goals (
              have O3 : Hid (w2.ownsRow w.heap.size 41 2 v2 (joinL O (s1, s2)).length (celS (joinL O (s1, s2)))) := O2
              have B3 : Hid (Below w.heap.size w w2) := B1.out.drew.trans B2
              clear O2 B2
              go_simp
              try go_wp2
              exact ⟨⟨A', ((t1, t2) :: B'), joinL O (s1, s2), hEI2.out, TA.out, hB.out, O3.out, B3.out⟩, by simp [lenV]; try omega⟩)
end Go.Proofs.Ytddoanmhikldiab
