/-
  The law StageOver, walked. Conditions: the numbers fit; the lists take no more bytes than there are.
-/
import Derived.Test.YtookbgmolggohaaOy
import Derived.Test.YtookbgmolggohaaBu
import Derived.Test.YtookbgmolggohaaWk
namespace Go.Proofs.Ytookbgmolggohaa
open Go.RowKit
set_option maxRecDepth 100000 in
set_option maxHeartbeats 8000000 in
theorem over_gg (L M : List Rw) (A : List Int) (v u va : Value) (w : World) (hr : Rd3 .i32 w v L) (hf : fit3 L) (hl : L.length ≤ 8796093022208) (hr2 : Rd3 .i32 w u M) (hf2 : fit3 M) (hl2 : M.length ≤ 8796093022208) (ha : Rd1 w va A) (hfa : fit1 A) (hlA : A.length ≤ 35184372088832) (h : (chk L).2 = 0) (hm : (chk M).2 = 0) : Calls Try.prog 5 #[v, u, va] w fun e w' => e = .returned (.bool true) ∧ Below w.heap.size w w' := by
  have K1 : Hid (Calls Try.prog 9 #[v] w fun e w' => ∃ T vr, e = .returned (.tuple #[.pointer (some ⟨T, 0, none⟩), vr, .bool true, .bool true]) ∧ Rd3 .i64 w' vr L ∧ TabAt w' T (lk L) ∧ Below w.heap.size w w') := built_good L v _ hr hf hl h
  obtain ⟨hlL, hok, -⟩ := chk_ok h
  have hrg := lk_range hok
  have KC : Hid (∀ W, Below w.heap.size w W → ∃ v' w', (Builtin.append_ #[22, 22] 22 #[.slice (some ⟨W.heap.size, 0, none⟩) 0 0, u]).run Try.prog (W.alloc (.cells #[] 62)) = .ok v' w' ∧ w'.ownsRow W.heap.size 62 3 v' M.length (cel3 .i32 M) ∧ Below W.heap.size W w') := fun W hW => run_copy W M u 22 (hr2.below hW) hl2
  have KP : Hid (∀ W, Below w.heap.size w W → Calls Try.prog 15 #[u] W fun e w' => ∃ v', e = .returned v' ∧ w'.ownsRow W.heap.size 33 3 v' M.length (cel3 .i64 M) ∧ Below W.heap.size W w') := fun W hW => plain_any M u W (hr2.below hW) hf2 hl2
  have KR : Hid (∀ W v1 v2, Rd3 .i32 W v1 M → Rd3 .i64 W v2 M → Calls Try.prog 17 #[v1, v2] W fun e w' => e = .returned (.bool true) ∧ Below W.heap.size W w') := fun W v1 v2 h1 h2 => rows_same M v1 v2 W h1 h2 hf2 hl2
  have KS : Hid (∀ W vt v1 n, Tab W vt (lk L) → (∃ p, vt = .pointer p) → Rd3 .i64 W v1 L → Below w.heap.size w W → Calls Try.prog 11 #[vt, v1, va, .int .i64 n] W fun e w' => e = .returned (.bool true) ∧ Below W.heap.size W w') := fun W vt v1 n h1 h2 h3 hW => stands_any L A vt v1 va n W h1 h2 h3 (ha.below hW) hfa hlA hok (by omega)
  obtain ⟨hlM, hoq, hcz⟩ := chk_ok hm
  have KCk : Hid (∀ W v1, Rd3 .i64 W v1 M → Calls Try.prog 16 #[v1] W fun e w' => e = .returned (.tuple #[.int .i64 0, .int .i64 0]) ∧ Below W.heap.size W w') := fun W v1 h1 => by have := check_any M v1 W h1 hf2; rw [hcz] at this; exact this
  have KO : Hid (∀ W vt v1, Tab W vt (lk L) → Rd3 .i32 W v1 M → Calls Try.prog 14 #[vt, v1] W fun e w' => ∃ T, e = .returned (.tuple #[.pointer (some ⟨T, 0, none⟩), .int .i64 0, .int .i64 0]) ∧ TabAt w' T (over (lk L) M) ∧ Below W.heap.size W w') := fun W vt v1 h1 h2 => over_good M (lk L) v1 vt W h2 hf2 hm h1 hrg
  have KN : Hid (∀ W vt, Tab W vt (lk L) → Calls Try.prog 14 #[vt, .slice none 0 0] W fun e w' => ∃ T, e = .returned (.tuple #[.pointer (some ⟨T, 0, none⟩), .int .i64 0, .int .i64 0]) ∧ TabAt w' T (lk L) ∧ Below W.heap.size W w') := fun W vt h1 => over_good [] (lk L) (.slice none 0 0) vt W ⟨none, 0, rfl, Nat.le_refl _, fun h => by simp at h⟩ (fun s hs => by cases hs) (by decide) h1 hrg
  obtain ⟨s1, s2, s3⟩ := over_says hok hoq
  have hrg2 := over_range hrg hoq
  have KV : Hid (∀ W v1 v2, Rd3 .i64 W v1 L → Rd3 .i64 W v2 M → Calls Try.prog 18 #[v1, v2] W fun e w' => ∃ v', e = .returned v' ∧ Rd3 .i64 w' v' (lst (runsL (ovr M (runsL L) (runsL M)))) ∧ Below W.heap.size W w') := fun W v1 v2 h1 h2 => rover_any L M v1 v2 W h1 h2 hok hoq (by omega) (by omega)
  have KS2 : Hid (∀ W T v1 n, TabAt W T (over (lk L) M) → Rd3 .i64 W v1 (lst (runsL (ovr M (runsL L) (runsL M)))) → Below w.heap.size w W → Calls Try.prog 11 #[.pointer (some ⟨T, 0, none⟩), v1, va, .int .i64 n] W fun e w' => e = .returned (.bool true) ∧ Below W.heap.size W w') := fun W T v1 n h1 h3 hW => stands_any _ A _ v1 va n W (.inr ⟨T, rfl, by rw [s2]; exact h1⟩) ⟨_, rfl⟩ h3 (ha.below hW) hfa hlA s1 (by omega)
  have KM1 : Hid (∀ W T vt, TabAt W T (lk L) → Tab W vt (lk L) → Calls Try.prog 19 #[.pointer (some ⟨T, 0, none⟩), vt] W fun e w' => e = .returned (.bool true) ∧ Below W.heap.size W w') := fun W T vt h1 h2 => same_tab _ vt _ _ W (.inr ⟨T, rfl, h1⟩) h2 hrg hrg true ⟨fun _ _ _ => rfl, fun _ => rfl⟩
  obtain ⟨R, hR⟩ : ∃ R : Bool, R = true ↔ ∀ i, i < 8704 → blk (over (lk L) M) i = blk (lk L) i := by
    by_cases c : ∀ i, i < 8704 → blk (over (lk L) M) i = blk (lk L) i
    · exact ⟨true, ⟨fun _ => c, fun _ => rfl⟩⟩
    · exact ⟨false, ⟨fun h => (by cases h), fun h => absurd h c⟩⟩
  have KM2 : Hid (∀ W T vt, TabAt W T (over (lk L) M) → Tab W vt (lk L) → Calls Try.prog 19 #[.pointer (some ⟨T, 0, none⟩), vt] W fun e w' => e = .returned (.bool R) ∧ Below W.heap.size W w') := fun W T vt h1 h2 => same_tab _ vt _ _ W (.inr ⟨T, rfl, h1⟩) h2 hrg2 hrg R hR
  have KW : Hid (∀ W T, TabAt W T (over (lk L) M) → Calls Try.prog 20 #[.pointer (some ⟨T, 0, none⟩)] W fun e w' => ∃ v ys, e = .returned v ∧ Rn (over (lk L) M) 0 ys 1114112 ∧ w'.ownsRow W.heap.size 62 3 v (lst ys).length (cel3 .i32 (lst ys)) ∧ Below W.heap.size W w') := fun W T h1 => rows_any _ _ W (.inr ⟨T, rfl, h1⟩) hrg2
  have KL : Hid (∀ W v1, Rd3 .i64 W v1 L → Calls Try.prog 21 #[v1] W fun e w' => ∃ v', e = .returned v' ∧ w'.ownsRow W.heap.size 33 3 v' (lst (runsL L)).length (cel3 .i64 (lst (runsL L))) ∧ Below W.heap.size W w') := fun W v1 h1 => least_any L v1 W h1 hok (by omega) (by have := runsL_len L; omega)
  have KD : Hid (∀ W v1 v2 ys, Rn (over (lk L) M) 0 ys 1114112 → Rd3 .i32 W v1 (lst ys) → Rd3 .i64 W v2 (lst (runsL L)) → Calls Try.prog 17 #[v1, v2] W fun e w' => e = .returned (.bool R) ∧ Below W.heap.size W w') := fun W v1 v2 ys h1 h2 h3 => rows_dec _ _ v1 v2 W R (hR.trans (rows_iff h1 (runs_rn hok)).symm) h2 h3 (rn_fit hrg2 h1).1 (by have := (rn_fit hrg2 h1).2; omega)
  clear s1 s2 s3 hrg2 hR hcz hoq hlM
  clear hr hf hl hr2 hf2 hl2 ha hfa hlA h hm hok hlL hrg
  go_enter Try.func5, Try.ntmps5
  go_wp2_with (go_at_call 9; refine K1.out.mono ?_)
  first | rintro e w1 T vr rfl r1 t1 b1 | rintro e w1 ⟨T, vr, rfl, r1, t1, b1⟩
  have B : Hid (Below w.heap.size w w1) := b1
  have RR : Hid (Rd3 .i64 w1 (vr) L) := r1
  have TT : Hid (Tab w1 (.pointer (some ⟨T, 0, none⟩)) (lk L)) := .inr ⟨T, rfl, t1⟩
  clear K1 b1 r1 t1
  go_wp2_with (go_at_call 10; refine (awake_any _).mono ?_)
  first | rintro e w2 rfl bb | rintro e w2 ⟨rfl, bb⟩
  replace RR : Hid (Rd3 .i64 w2 (vr) L) := RR.out.below bb
  replace TT : Hid (Tab w2 (.pointer (some ⟨T, 0, none⟩)) (lk L)) := TT.out.below bb
  replace B : Hid (Below w.heap.size w w2) := B.out.trans (bb.mono B.out.size)
  clear bb
  obtain ⟨vc, wc, hap, hoc, hbc⟩ := KC.out w2 B.out
  have CC : Hid (Rd3 .i32 wc vc M) := Rd3.of_owns hoc
  replace hap : Hid ((Builtin.append_ #[22, 22] 22 #[.slice (some ⟨w2.heap.size, 0, none⟩) 0 0, u]).run Try.prog (w2.alloc (.cells #[] 62)) = .ok vc wc) := hap
  have RRc : Hid (Rd3 .i64 wc (vr) L) := RR.out.below hbc
  have TTc : Hid (Tab wc (.pointer (some ⟨T, 0, none⟩)) (lk L)) := TT.out.below hbc
  have Bc : Hid (Below w.heap.size w wc) := B.out.trans (hbc.mono B.out.size)
  clear hoc hbc KC RR TT B
  have RR : Hid (Rd3 .i64 wc (vr) L) := RRc.out
  have TT : Hid (Tab wc (.pointer (some ⟨T, 0, none⟩)) (lk L)) := TTc.out
  have B : Hid (Below w.heap.size w wc) := Bc.out
  clear RRc TTc Bc
  go_wp2_with (first | (at_builtin; refine wpList_append_run _ rfl _ _ 22 rfl _ _ _ _ rfl rfl hap.out ?_) | (go_at_call 14; refine (KO.out _ _ _ TT.out CC.out).mono ?_))
  first | rintro e w3 TU rfl tu bb | rintro e w3 ⟨TU, rfl, tu, bb⟩
  replace RR : Hid (Rd3 .i64 w3 (vr) L) := RR.out.below bb
  replace TT : Hid (Tab w3 (.pointer (some ⟨T, 0, none⟩)) (lk L)) := TT.out.below bb
  replace CC : Hid (Rd3 .i32 w3 vc M) := CC.out.below bb
  replace B : Hid (Below w.heap.size w w3) := B.out.trans (bb.mono B.out.size)
  have UU : Hid (TabAt w3 TU (over (lk L) M)) := tu
  clear tu
  clear bb hap KO
  go_wp2_with (go_at_call 15; refine (KP.out _ B.out).mono ?_)
  first | rintro e w4 vq rfl oq bb | rintro e w4 ⟨vq, rfl, oq, bb⟩
  replace RR : Hid (Rd3 .i64 w4 (vr) L) := RR.out.below bb
  replace TT : Hid (Tab w4 (.pointer (some ⟨T, 0, none⟩)) (lk L)) := TT.out.below bb
  replace CC : Hid (Rd3 .i32 w4 vc M) := CC.out.below bb
  replace UU : Hid (TabAt w4 TU (over (lk L) M)) := UU.out.below bb
  replace B : Hid (Below w.heap.size w w4) := B.out.trans (bb.mono B.out.size)
  have QQ : Hid (Rd3 .i64 w4 vq M) := Rd3.of_owns oq
  clear bb oq KP
  go_wp2_with (go_at_call 16; refine (KCk.out _ _ QQ.out).mono ?_)
  first | rintro e w5 rfl bb | rintro e w5 ⟨rfl, bb⟩
  replace RR : Hid (Rd3 .i64 w5 (vr) L) := RR.out.below bb
  replace TT : Hid (Tab w5 (.pointer (some ⟨T, 0, none⟩)) (lk L)) := TT.out.below bb
  replace CC : Hid (Rd3 .i32 w5 vc M) := CC.out.below bb
  replace UU : Hid (TabAt w5 TU (over (lk L) M)) := UU.out.below bb
  replace QQ : Hid (Rd3 .i64 w5 vq M) := QQ.out.below bb
  replace B : Hid (Below w.heap.size w w5) := B.out.trans (bb.mono B.out.size)
  clear bb KCk
  go_wp2_with (go_at_call 17; refine (KR.out _ _ _ CC.out QQ.out).mono ?_)
  first | rintro e w6 rfl bb | rintro e w6 ⟨rfl, bb⟩
  replace RR : Hid (Rd3 .i64 w6 (vr) L) := RR.out.below bb
  replace TT : Hid (Tab w6 (.pointer (some ⟨T, 0, none⟩)) (lk L)) := TT.out.below bb
  replace CC : Hid (Rd3 .i32 w6 vc M) := CC.out.below bb
  replace UU : Hid (TabAt w6 TU (over (lk L) M)) := UU.out.below bb
  replace QQ : Hid (Rd3 .i64 w6 vq M) := QQ.out.below bb
  replace B : Hid (Below w.heap.size w w6) := B.out.trans (bb.mono B.out.size)
  clear bb KR CC
  go_wp2_with (go_at_call 18; refine (KV.out _ _ _ RR.out QQ.out).mono ?_)
  first | rintro e w7 vo rfl oo bb | rintro e w7 ⟨vo, rfl, oo, bb⟩
  replace RR : Hid (Rd3 .i64 w7 (vr) L) := RR.out.below bb
  replace TT : Hid (Tab w7 (.pointer (some ⟨T, 0, none⟩)) (lk L)) := TT.out.below bb
  replace UU : Hid (TabAt w7 TU (over (lk L) M)) := UU.out.below bb
  replace QQ : Hid (Rd3 .i64 w7 vq M) := QQ.out.below bb
  replace B : Hid (Below w.heap.size w w7) := B.out.trans (bb.mono B.out.size)
  have OO : Hid (Rd3 .i64 w7 vo (lst (runsL (ovr M (runsL L) (runsL M))))) := oo
  clear bb oo KV QQ
  go_wp2_with (go_at_call 14; refine (KN.out _ _ TT.out).mono ?_)
  first | rintro e w8 TN rfl tn bb | rintro e w8 ⟨TN, rfl, tn, bb⟩
  replace RR : Hid (Rd3 .i64 w8 (vr) L) := RR.out.below bb
  replace TT : Hid (Tab w8 (.pointer (some ⟨T, 0, none⟩)) (lk L)) := TT.out.below bb
  replace UU : Hid (TabAt w8 TU (over (lk L) M)) := UU.out.below bb
  replace OO : Hid (Rd3 .i64 w8 vo (lst (runsL (ovr M (runsL L) (runsL M))))) := OO.out.below bb
  replace B : Hid (Below w.heap.size w w8) := B.out.trans (bb.mono B.out.size)
  have NN : Hid (TabAt w8 TN (lk L)) := tn
  clear bb tn KN
  go_wp2_with (go_at_call 11; refine (KS2.out _ _ _ _ UU.out OO.out B.out).mono ?_)
  first | rintro e w9 rfl bb | rintro e w9 ⟨rfl, bb⟩
  replace RR : Hid (Rd3 .i64 w9 (vr) L) := RR.out.below bb
  replace TT : Hid (Tab w9 (.pointer (some ⟨T, 0, none⟩)) (lk L)) := TT.out.below bb
  replace UU : Hid (TabAt w9 TU (over (lk L) M)) := UU.out.below bb
  replace OO : Hid (Rd3 .i64 w9 vo (lst (runsL (ovr M (runsL L) (runsL M))))) := OO.out.below bb
  replace NN : Hid (TabAt w9 TN (lk L)) := NN.out.below bb
  replace B : Hid (Below w.heap.size w w9) := B.out.trans (bb.mono B.out.size)
  clear bb KS2 OO
  go_wp2_with (go_at_call 11; refine (KS.out _ _ _ _ TT.out ⟨_, rfl⟩ RR.out B.out).mono ?_)
  first | rintro e w10 rfl bb | rintro e w10 ⟨rfl, bb⟩
  replace RR : Hid (Rd3 .i64 w10 (vr) L) := RR.out.below bb
  replace TT : Hid (Tab w10 (.pointer (some ⟨T, 0, none⟩)) (lk L)) := TT.out.below bb
  replace UU : Hid (TabAt w10 TU (over (lk L) M)) := UU.out.below bb
  replace NN : Hid (TabAt w10 TN (lk L)) := NN.out.below bb
  replace B : Hid (Below w.heap.size w w10) := B.out.trans (bb.mono B.out.size)
  clear bb KS
  go_wp2_with (go_at_call 19; refine (KM1.out _ _ _ NN.out TT.out).mono ?_)
  first | rintro e w11 rfl bb | rintro e w11 ⟨rfl, bb⟩
  replace RR : Hid (Rd3 .i64 w11 (vr) L) := RR.out.below bb
  replace TT : Hid (Tab w11 (.pointer (some ⟨T, 0, none⟩)) (lk L)) := TT.out.below bb
  replace UU : Hid (TabAt w11 TU (over (lk L) M)) := UU.out.below bb
  replace NN : Hid (TabAt w11 TN (lk L)) := NN.out.below bb
  replace B : Hid (Below w.heap.size w w11) := B.out.trans (bb.mono B.out.size)
  clear bb KM1 NN
  go_wp2_with (go_at_call 19; refine (KM2.out _ _ _ UU.out TT.out).mono ?_)
  first | rintro e w12 rfl bb | rintro e w12 ⟨rfl, bb⟩
  replace RR : Hid (Rd3 .i64 w12 (vr) L) := RR.out.below bb
  replace TT : Hid (Tab w12 (.pointer (some ⟨T, 0, none⟩)) (lk L)) := TT.out.below bb
  replace UU : Hid (TabAt w12 TU (over (lk L) M)) := UU.out.below bb
  replace B : Hid (Below w.heap.size w w12) := B.out.trans (bb.mono B.out.size)
  clear bb KM2
  go_wp2_with (go_at_call 20; refine (KW.out _ _ UU.out).mono ?_)
  first | rintro e w13 vy ys rfl ny oy bb | rintro e w13 ⟨vy, ys, rfl, ny, oy, bb⟩
  replace RR : Hid (Rd3 .i64 w13 (vr) L) := RR.out.below bb
  replace TT : Hid (Tab w13 (.pointer (some ⟨T, 0, none⟩)) (lk L)) := TT.out.below bb
  replace UU : Hid (TabAt w13 TU (over (lk L) M)) := UU.out.below bb
  replace B : Hid (Below w.heap.size w w13) := B.out.trans (bb.mono B.out.size)
  have NY : Hid (Rn (over (lk L) M) 0 ys 1114112) := ny
  have YY : Hid (Rd3 .i32 w13 vy (lst ys)) := Rd3.of_owns oy
  clear bb ny oy KW UU TT
  go_wp2_with (go_at_call 21; refine (KL.out _ _ RR.out).mono ?_)
  first | rintro e w14 vz rfl oz bb | rintro e w14 ⟨vz, rfl, oz, bb⟩
  replace RR : Hid (Rd3 .i64 w14 (vr) L) := RR.out.below bb
  replace YY : Hid (Rd3 .i32 w14 vy (lst ys)) := YY.out.below bb
  replace B : Hid (Below w.heap.size w w14) := B.out.trans (bb.mono B.out.size)
  have ZZ : Hid (Rd3 .i64 w14 vz (lst (runsL L))) := Rd3.of_owns oz
  clear bb oz KL RR
  go_wp2_with (go_at_call 17; refine (KD.out _ _ _ ys NY.out YY.out ZZ.out).mono ?_)
  first | rintro e w15 rfl bb | rintro e w15 ⟨rfl, bb⟩
  replace YY : Hid (Rd3 .i32 w15 vy (lst ys)) := YY.out.below bb
  replace ZZ : Hid (Rd3 .i64 w15 vz (lst (runsL L))) := ZZ.out.below bb
  replace B : Hid (Below w.heap.size w w15) := B.out.trans (bb.mono B.out.size)
  clear bb KD YY ZZ NY
  cases R
  · go_wp2
    go_ret
    exact ⟨rfl, B.out⟩
  · go_wp2
    go_ret
    exact ⟨rfl, B.out⟩
set_option maxRecDepth 100000 in
set_option maxHeartbeats 8000000 in
theorem over_gb80 (L M : List Rw) (A : List Int) (v u va : Value) (w : World) (hr : Rd3 .i32 w v L) (hf : fit3 L) (hl : L.length ≤ 8796093022208) (hr2 : Rd3 .i32 w u M) (hf2 : fit3 M) (hl2 : M.length ≤ 8796093022208) (ha : Rd1 w va A) (hfa : fit1 A) (hlA : A.length ≤ 35184372088832) (h : (chk L).2 = 0) (hm : (chk M).2 = 80) : Calls Try.prog 5 #[v, u, va] w fun e w' => e = .returned (.bool true) ∧ Below w.heap.size w w' := by
  have K1 : Hid (Calls Try.prog 9 #[v] w fun e w' => ∃ T vr, e = .returned (.tuple #[.pointer (some ⟨T, 0, none⟩), vr, .bool true, .bool true]) ∧ Rd3 .i64 w' vr L ∧ TabAt w' T (lk L) ∧ Below w.heap.size w w') := built_good L v _ hr hf hl h
  obtain ⟨hlL, hok, -⟩ := chk_ok h
  have hrg := lk_range hok
  have KC : Hid (∀ W, Below w.heap.size w W → ∃ v' w', (Builtin.append_ #[22, 22] 22 #[.slice (some ⟨W.heap.size, 0, none⟩) 0 0, u]).run Try.prog (W.alloc (.cells #[] 62)) = .ok v' w' ∧ w'.ownsRow W.heap.size 62 3 v' M.length (cel3 .i32 M) ∧ Below W.heap.size W w') := fun W hW => run_copy W M u 22 (hr2.below hW) hl2
  have KP : Hid (∀ W, Below w.heap.size w W → Calls Try.prog 15 #[u] W fun e w' => ∃ v', e = .returned v' ∧ w'.ownsRow W.heap.size 33 3 v' M.length (cel3 .i64 M) ∧ Below W.heap.size W w') := fun W hW => plain_any M u W (hr2.below hW) hf2 hl2
  have KR : Hid (∀ W v1 v2, Rd3 .i32 W v1 M → Rd3 .i64 W v2 M → Calls Try.prog 17 #[v1, v2] W fun e w' => e = .returned (.bool true) ∧ Below W.heap.size W w') := fun W v1 v2 h1 h2 => rows_same M v1 v2 W h1 h2 hf2 hl2
  have KS : Hid (∀ W vt v1 n, Tab W vt (lk L) → (∃ p, vt = .pointer p) → Rd3 .i64 W v1 L → Below w.heap.size w W → Calls Try.prog 11 #[vt, v1, va, .int .i64 n] W fun e w' => e = .returned (.bool true) ∧ Below W.heap.size W w') := fun W vt v1 n h1 h2 h3 hW => stands_any L A vt v1 va n W h1 h2 h3 (ha.below hW) hfa hlA hok (by omega)
  have hm0 : (chk M).2 ≠ 0 := by rw [hm]; decide
  have KO : Hid (∀ W vt v1, Rd3 .i32 W v1 M → Calls Try.prog 14 #[vt, v1] W fun e w' => e = .returned (.tuple #[.pointer none, .int .i64 ((chk M).1 : Nat), .int .i64 80]) ∧ Below W.heap.size W w') := fun W vt v1 h2 => by have := over_bad M v1 vt W h2 hf2 hm0; rw [hm] at this; exact this
  have KCk : Hid (∀ W v1, Rd3 .i64 W v1 M → Calls Try.prog 16 #[v1] W fun e w' => e = .returned (.tuple #[.int .i64 ((chk M).1 : Nat), .int .i64 80]) ∧ Below W.heap.size W w') := fun W v1 h1 => by have := check_any M v1 W h1 hf2; rw [hm] at this; exact this
  clear hm0
  generalize (chk M).1 = P1 at *
  clear hr hf hl hr2 hf2 hl2 ha hfa hlA h hm hok hlL hrg
  go_enter Try.func5, Try.ntmps5
  go_wp2_with (go_at_call 9; refine K1.out.mono ?_)
  first | rintro e w1 T vr rfl r1 t1 b1 | rintro e w1 ⟨T, vr, rfl, r1, t1, b1⟩
  have B : Hid (Below w.heap.size w w1) := b1
  have RR : Hid (Rd3 .i64 w1 (vr) L) := r1
  have TT : Hid (Tab w1 (.pointer (some ⟨T, 0, none⟩)) (lk L)) := .inr ⟨T, rfl, t1⟩
  clear K1 b1 r1 t1
  go_wp2_with (go_at_call 10; refine (awake_any _).mono ?_)
  first | rintro e w2 rfl bb | rintro e w2 ⟨rfl, bb⟩
  replace RR : Hid (Rd3 .i64 w2 (vr) L) := RR.out.below bb
  replace TT : Hid (Tab w2 (.pointer (some ⟨T, 0, none⟩)) (lk L)) := TT.out.below bb
  replace B : Hid (Below w.heap.size w w2) := B.out.trans (bb.mono B.out.size)
  clear bb
  obtain ⟨vc, wc, hap, hoc, hbc⟩ := KC.out w2 B.out
  have CC : Hid (Rd3 .i32 wc vc M) := Rd3.of_owns hoc
  replace hap : Hid ((Builtin.append_ #[22, 22] 22 #[.slice (some ⟨w2.heap.size, 0, none⟩) 0 0, u]).run Try.prog (w2.alloc (.cells #[] 62)) = .ok vc wc) := hap
  have RRc : Hid (Rd3 .i64 wc (vr) L) := RR.out.below hbc
  have TTc : Hid (Tab wc (.pointer (some ⟨T, 0, none⟩)) (lk L)) := TT.out.below hbc
  have Bc : Hid (Below w.heap.size w wc) := B.out.trans (hbc.mono B.out.size)
  clear hoc hbc KC RR TT B
  have RR : Hid (Rd3 .i64 wc (vr) L) := RRc.out
  have TT : Hid (Tab wc (.pointer (some ⟨T, 0, none⟩)) (lk L)) := TTc.out
  have B : Hid (Below w.heap.size w wc) := Bc.out
  clear RRc TTc Bc
  go_wp2_with (first | (at_builtin; refine wpList_append_run _ rfl _ _ 22 rfl _ _ _ _ rfl rfl hap.out ?_) | (go_at_call 14; refine (KO.out _ _ _ CC.out).mono ?_))
  first | rintro e w3 rfl bb | rintro e w3 ⟨rfl, bb⟩
  replace RR : Hid (Rd3 .i64 w3 (vr) L) := RR.out.below bb
  replace TT : Hid (Tab w3 (.pointer (some ⟨T, 0, none⟩)) (lk L)) := TT.out.below bb
  replace CC : Hid (Rd3 .i32 w3 vc M) := CC.out.below bb
  replace B : Hid (Below w.heap.size w w3) := B.out.trans (bb.mono B.out.size)
  clear bb hap KO
  go_wp2_with (go_at_call 15; refine (KP.out _ B.out).mono ?_)
  first | rintro e w4 vq rfl oq bb | rintro e w4 ⟨vq, rfl, oq, bb⟩
  replace RR : Hid (Rd3 .i64 w4 (vr) L) := RR.out.below bb
  replace TT : Hid (Tab w4 (.pointer (some ⟨T, 0, none⟩)) (lk L)) := TT.out.below bb
  replace CC : Hid (Rd3 .i32 w4 vc M) := CC.out.below bb
  replace B : Hid (Below w.heap.size w w4) := B.out.trans (bb.mono B.out.size)
  have QQ : Hid (Rd3 .i64 w4 vq M) := Rd3.of_owns oq
  clear bb oq KP
  go_wp2_with (go_at_call 16; refine (KCk.out _ _ QQ.out).mono ?_)
  first | rintro e w5 rfl bb | rintro e w5 ⟨rfl, bb⟩
  replace RR : Hid (Rd3 .i64 w5 (vr) L) := RR.out.below bb
  replace TT : Hid (Tab w5 (.pointer (some ⟨T, 0, none⟩)) (lk L)) := TT.out.below bb
  replace CC : Hid (Rd3 .i32 w5 vc M) := CC.out.below bb
  replace QQ : Hid (Rd3 .i64 w5 vq M) := QQ.out.below bb
  replace B : Hid (Below w.heap.size w w5) := B.out.trans (bb.mono B.out.size)
  clear bb KCk
  go_wp2_with (go_at_call 17; refine (KR.out _ _ _ CC.out QQ.out).mono ?_)
  first | rintro e w6 rfl bb | rintro e w6 ⟨rfl, bb⟩
  replace RR : Hid (Rd3 .i64 w6 (vr) L) := RR.out.below bb
  replace TT : Hid (Tab w6 (.pointer (some ⟨T, 0, none⟩)) (lk L)) := TT.out.below bb
  replace CC : Hid (Rd3 .i32 w6 vc M) := CC.out.below bb
  replace QQ : Hid (Rd3 .i64 w6 vq M) := QQ.out.below bb
  replace B : Hid (Below w.heap.size w w6) := B.out.trans (bb.mono B.out.size)
  clear bb KR CC
  go_wp2_with (go_at_call 11; refine (KS.out _ _ _ _ TT.out ⟨_, rfl⟩ RR.out B.out).mono ?_)
  first | rintro e w7 rfl bb | rintro e w7 ⟨rfl, bb⟩
  replace RR : Hid (Rd3 .i64 w7 (vr) L) := RR.out.below bb
  replace TT : Hid (Tab w7 (.pointer (some ⟨T, 0, none⟩)) (lk L)) := TT.out.below bb
  replace QQ : Hid (Rd3 .i64 w7 vq M) := QQ.out.below bb
  replace B : Hid (Below w.heap.size w w7) := B.out.trans (bb.mono B.out.size)
  clear bb KS
  go_wp2
  go_ret
  exact ⟨rfl, B.out⟩
set_option maxRecDepth 100000 in
set_option maxHeartbeats 8000000 in
theorem over_gb81 (L M : List Rw) (A : List Int) (v u va : Value) (w : World) (hr : Rd3 .i32 w v L) (hf : fit3 L) (hl : L.length ≤ 8796093022208) (hr2 : Rd3 .i32 w u M) (hf2 : fit3 M) (hl2 : M.length ≤ 8796093022208) (ha : Rd1 w va A) (hfa : fit1 A) (hlA : A.length ≤ 35184372088832) (h : (chk L).2 = 0) (hm : (chk M).2 = 81) : Calls Try.prog 5 #[v, u, va] w fun e w' => e = .returned (.bool true) ∧ Below w.heap.size w w' := by
  have K1 : Hid (Calls Try.prog 9 #[v] w fun e w' => ∃ T vr, e = .returned (.tuple #[.pointer (some ⟨T, 0, none⟩), vr, .bool true, .bool true]) ∧ Rd3 .i64 w' vr L ∧ TabAt w' T (lk L) ∧ Below w.heap.size w w') := built_good L v _ hr hf hl h
  obtain ⟨hlL, hok, -⟩ := chk_ok h
  have hrg := lk_range hok
  have KC : Hid (∀ W, Below w.heap.size w W → ∃ v' w', (Builtin.append_ #[22, 22] 22 #[.slice (some ⟨W.heap.size, 0, none⟩) 0 0, u]).run Try.prog (W.alloc (.cells #[] 62)) = .ok v' w' ∧ w'.ownsRow W.heap.size 62 3 v' M.length (cel3 .i32 M) ∧ Below W.heap.size W w') := fun W hW => run_copy W M u 22 (hr2.below hW) hl2
  have KP : Hid (∀ W, Below w.heap.size w W → Calls Try.prog 15 #[u] W fun e w' => ∃ v', e = .returned v' ∧ w'.ownsRow W.heap.size 33 3 v' M.length (cel3 .i64 M) ∧ Below W.heap.size W w') := fun W hW => plain_any M u W (hr2.below hW) hf2 hl2
  have KR : Hid (∀ W v1 v2, Rd3 .i32 W v1 M → Rd3 .i64 W v2 M → Calls Try.prog 17 #[v1, v2] W fun e w' => e = .returned (.bool true) ∧ Below W.heap.size W w') := fun W v1 v2 h1 h2 => rows_same M v1 v2 W h1 h2 hf2 hl2
  have KS : Hid (∀ W vt v1 n, Tab W vt (lk L) → (∃ p, vt = .pointer p) → Rd3 .i64 W v1 L → Below w.heap.size w W → Calls Try.prog 11 #[vt, v1, va, .int .i64 n] W fun e w' => e = .returned (.bool true) ∧ Below W.heap.size W w') := fun W vt v1 n h1 h2 h3 hW => stands_any L A vt v1 va n W h1 h2 h3 (ha.below hW) hfa hlA hok (by omega)
  have hm0 : (chk M).2 ≠ 0 := by rw [hm]; decide
  have KO : Hid (∀ W vt v1, Rd3 .i32 W v1 M → Calls Try.prog 14 #[vt, v1] W fun e w' => e = .returned (.tuple #[.pointer none, .int .i64 ((chk M).1 : Nat), .int .i64 81]) ∧ Below W.heap.size W w') := fun W vt v1 h2 => by have := over_bad M v1 vt W h2 hf2 hm0; rw [hm] at this; exact this
  have KCk : Hid (∀ W v1, Rd3 .i64 W v1 M → Calls Try.prog 16 #[v1] W fun e w' => e = .returned (.tuple #[.int .i64 ((chk M).1 : Nat), .int .i64 81]) ∧ Below W.heap.size W w') := fun W v1 h1 => by have := check_any M v1 W h1 hf2; rw [hm] at this; exact this
  clear hm0
  generalize (chk M).1 = P1 at *
  clear hr hf hl hr2 hf2 hl2 ha hfa hlA h hm hok hlL hrg
  go_enter Try.func5, Try.ntmps5
  go_wp2_with (go_at_call 9; refine K1.out.mono ?_)
  first | rintro e w1 T vr rfl r1 t1 b1 | rintro e w1 ⟨T, vr, rfl, r1, t1, b1⟩
  have B : Hid (Below w.heap.size w w1) := b1
  have RR : Hid (Rd3 .i64 w1 (vr) L) := r1
  have TT : Hid (Tab w1 (.pointer (some ⟨T, 0, none⟩)) (lk L)) := .inr ⟨T, rfl, t1⟩
  clear K1 b1 r1 t1
  go_wp2_with (go_at_call 10; refine (awake_any _).mono ?_)
  first | rintro e w2 rfl bb | rintro e w2 ⟨rfl, bb⟩
  replace RR : Hid (Rd3 .i64 w2 (vr) L) := RR.out.below bb
  replace TT : Hid (Tab w2 (.pointer (some ⟨T, 0, none⟩)) (lk L)) := TT.out.below bb
  replace B : Hid (Below w.heap.size w w2) := B.out.trans (bb.mono B.out.size)
  clear bb
  obtain ⟨vc, wc, hap, hoc, hbc⟩ := KC.out w2 B.out
  have CC : Hid (Rd3 .i32 wc vc M) := Rd3.of_owns hoc
  replace hap : Hid ((Builtin.append_ #[22, 22] 22 #[.slice (some ⟨w2.heap.size, 0, none⟩) 0 0, u]).run Try.prog (w2.alloc (.cells #[] 62)) = .ok vc wc) := hap
  have RRc : Hid (Rd3 .i64 wc (vr) L) := RR.out.below hbc
  have TTc : Hid (Tab wc (.pointer (some ⟨T, 0, none⟩)) (lk L)) := TT.out.below hbc
  have Bc : Hid (Below w.heap.size w wc) := B.out.trans (hbc.mono B.out.size)
  clear hoc hbc KC RR TT B
  have RR : Hid (Rd3 .i64 wc (vr) L) := RRc.out
  have TT : Hid (Tab wc (.pointer (some ⟨T, 0, none⟩)) (lk L)) := TTc.out
  have B : Hid (Below w.heap.size w wc) := Bc.out
  clear RRc TTc Bc
  go_wp2_with (first | (at_builtin; refine wpList_append_run _ rfl _ _ 22 rfl _ _ _ _ rfl rfl hap.out ?_) | (go_at_call 14; refine (KO.out _ _ _ CC.out).mono ?_))
  first | rintro e w3 rfl bb | rintro e w3 ⟨rfl, bb⟩
  replace RR : Hid (Rd3 .i64 w3 (vr) L) := RR.out.below bb
  replace TT : Hid (Tab w3 (.pointer (some ⟨T, 0, none⟩)) (lk L)) := TT.out.below bb
  replace CC : Hid (Rd3 .i32 w3 vc M) := CC.out.below bb
  replace B : Hid (Below w.heap.size w w3) := B.out.trans (bb.mono B.out.size)
  clear bb hap KO
  go_wp2_with (go_at_call 15; refine (KP.out _ B.out).mono ?_)
  first | rintro e w4 vq rfl oq bb | rintro e w4 ⟨vq, rfl, oq, bb⟩
  replace RR : Hid (Rd3 .i64 w4 (vr) L) := RR.out.below bb
  replace TT : Hid (Tab w4 (.pointer (some ⟨T, 0, none⟩)) (lk L)) := TT.out.below bb
  replace CC : Hid (Rd3 .i32 w4 vc M) := CC.out.below bb
  replace B : Hid (Below w.heap.size w w4) := B.out.trans (bb.mono B.out.size)
  have QQ : Hid (Rd3 .i64 w4 vq M) := Rd3.of_owns oq
  clear bb oq KP
  go_wp2_with (go_at_call 16; refine (KCk.out _ _ QQ.out).mono ?_)
  first | rintro e w5 rfl bb | rintro e w5 ⟨rfl, bb⟩
  replace RR : Hid (Rd3 .i64 w5 (vr) L) := RR.out.below bb
  replace TT : Hid (Tab w5 (.pointer (some ⟨T, 0, none⟩)) (lk L)) := TT.out.below bb
  replace CC : Hid (Rd3 .i32 w5 vc M) := CC.out.below bb
  replace QQ : Hid (Rd3 .i64 w5 vq M) := QQ.out.below bb
  replace B : Hid (Below w.heap.size w w5) := B.out.trans (bb.mono B.out.size)
  clear bb KCk
  go_wp2_with (go_at_call 17; refine (KR.out _ _ _ CC.out QQ.out).mono ?_)
  first | rintro e w6 rfl bb | rintro e w6 ⟨rfl, bb⟩
  replace RR : Hid (Rd3 .i64 w6 (vr) L) := RR.out.below bb
  replace TT : Hid (Tab w6 (.pointer (some ⟨T, 0, none⟩)) (lk L)) := TT.out.below bb
  replace CC : Hid (Rd3 .i32 w6 vc M) := CC.out.below bb
  replace QQ : Hid (Rd3 .i64 w6 vq M) := QQ.out.below bb
  replace B : Hid (Below w.heap.size w w6) := B.out.trans (bb.mono B.out.size)
  clear bb KR CC
  go_wp2_with (go_at_call 11; refine (KS.out _ _ _ _ TT.out ⟨_, rfl⟩ RR.out B.out).mono ?_)
  first | rintro e w7 rfl bb | rintro e w7 ⟨rfl, bb⟩
  replace RR : Hid (Rd3 .i64 w7 (vr) L) := RR.out.below bb
  replace TT : Hid (Tab w7 (.pointer (some ⟨T, 0, none⟩)) (lk L)) := TT.out.below bb
  replace QQ : Hid (Rd3 .i64 w7 vq M) := QQ.out.below bb
  replace B : Hid (Below w.heap.size w w7) := B.out.trans (bb.mono B.out.size)
  clear bb KS
  go_wp2
  go_ret
  exact ⟨rfl, B.out⟩
set_option maxRecDepth 100000 in
set_option maxHeartbeats 8000000 in
theorem over_bg (L M : List Rw) (A : List Int) (v u va : Value) (w : World) (hr : Rd3 .i32 w v L) (hf : fit3 L) (hl : L.length ≤ 8796093022208) (hr2 : Rd3 .i32 w u M) (hf2 : fit3 M) (hl2 : M.length ≤ 8796093022208) (ha : Rd1 w va A) (hfa : fit1 A) (hlA : A.length ≤ 35184372088832) (h : (chk L).2 ≠ 0) (hm : (chk M).2 = 0) : Calls Try.prog 5 #[v, u, va] w fun e w' => e = .returned (.bool true) ∧ Below w.heap.size w w' := by
  have K1 : Hid (Calls Try.prog 9 #[v] w fun e w' => ∃ vr, e = .returned (.tuple #[.pointer none, vr, .bool false, .bool true]) ∧ Rd3 .i64 w' vr L ∧ Below w.heap.size w w') := built_bad L v _ hr hf hl h
  have hok : okF 0 ([] : List Rw) := trivial
  have hlL : ([] : List Rw).length ≤ 65536 := by decide
  have hrg := lk_range hok
  have KC : Hid (∀ W, Below w.heap.size w W → ∃ v' w', (Builtin.append_ #[22, 22] 22 #[.slice (some ⟨W.heap.size, 0, none⟩) 0 0, u]).run Try.prog (W.alloc (.cells #[] 62)) = .ok v' w' ∧ w'.ownsRow W.heap.size 62 3 v' M.length (cel3 .i32 M) ∧ Below W.heap.size W w') := fun W hW => run_copy W M u 22 (hr2.below hW) hl2
  have KP : Hid (∀ W, Below w.heap.size w W → Calls Try.prog 15 #[u] W fun e w' => ∃ v', e = .returned v' ∧ w'.ownsRow W.heap.size 33 3 v' M.length (cel3 .i64 M) ∧ Below W.heap.size W w') := fun W hW => plain_any M u W (hr2.below hW) hf2 hl2
  have KR : Hid (∀ W v1 v2, Rd3 .i32 W v1 M → Rd3 .i64 W v2 M → Calls Try.prog 17 #[v1, v2] W fun e w' => e = .returned (.bool true) ∧ Below W.heap.size W w') := fun W v1 v2 h1 h2 => rows_same M v1 v2 W h1 h2 hf2 hl2
  have KS : Hid (∀ W vt v1 n, Tab W vt (lk ([] : List Rw)) → (∃ p, vt = .pointer p) → Rd3 .i64 W v1 ([] : List Rw) → Below w.heap.size w W → Calls Try.prog 11 #[vt, v1, va, .int .i64 n] W fun e w' => e = .returned (.bool true) ∧ Below W.heap.size W w') := fun W vt v1 n h1 h2 h3 hW => stands_any ([] : List Rw) A vt v1 va n W h1 h2 h3 (ha.below hW) hfa hlA hok (by omega)
  obtain ⟨hlM, hoq, hcz⟩ := chk_ok hm
  have KCk : Hid (∀ W v1, Rd3 .i64 W v1 M → Calls Try.prog 16 #[v1] W fun e w' => e = .returned (.tuple #[.int .i64 0, .int .i64 0]) ∧ Below W.heap.size W w') := fun W v1 h1 => by have := check_any M v1 W h1 hf2; rw [hcz] at this; exact this
  have KO : Hid (∀ W vt v1, Tab W vt (lk ([] : List Rw)) → Rd3 .i32 W v1 M → Calls Try.prog 14 #[vt, v1] W fun e w' => ∃ T, e = .returned (.tuple #[.pointer (some ⟨T, 0, none⟩), .int .i64 0, .int .i64 0]) ∧ TabAt w' T (over (lk ([] : List Rw)) M) ∧ Below W.heap.size W w') := fun W vt v1 h1 h2 => over_good M (lk ([] : List Rw)) v1 vt W h2 hf2 hm h1 hrg
  have KN : Hid (∀ W vt, Tab W vt (lk ([] : List Rw)) → Calls Try.prog 14 #[vt, .slice none 0 0] W fun e w' => ∃ T, e = .returned (.tuple #[.pointer (some ⟨T, 0, none⟩), .int .i64 0, .int .i64 0]) ∧ TabAt w' T (lk ([] : List Rw)) ∧ Below W.heap.size W w') := fun W vt h1 => over_good [] (lk ([] : List Rw)) (.slice none 0 0) vt W ⟨none, 0, rfl, Nat.le_refl _, fun h => by simp at h⟩ (fun s hs => by cases hs) (by decide) h1 hrg
  obtain ⟨s1, s2, s3⟩ := over_says hok hoq
  have hrg2 := over_range hrg hoq
  have KV : Hid (∀ W v1 v2, Rd3 .i64 W v1 ([] : List Rw) → Rd3 .i64 W v2 M → Calls Try.prog 18 #[v1, v2] W fun e w' => ∃ v', e = .returned v' ∧ Rd3 .i64 w' v' (lst (runsL (ovr M (runsL ([] : List Rw)) (runsL M)))) ∧ Below W.heap.size W w') := fun W v1 v2 h1 h2 => rover_any ([] : List Rw) M v1 v2 W h1 h2 hok hoq (by omega) (by omega)
  have KS2 : Hid (∀ W T v1 n, TabAt W T (over (lk ([] : List Rw)) M) → Rd3 .i64 W v1 (lst (runsL (ovr M (runsL ([] : List Rw)) (runsL M)))) → Below w.heap.size w W → Calls Try.prog 11 #[.pointer (some ⟨T, 0, none⟩), v1, va, .int .i64 n] W fun e w' => e = .returned (.bool true) ∧ Below W.heap.size W w') := fun W T v1 n h1 h3 hW => stands_any _ A _ v1 va n W (.inr ⟨T, rfl, by rw [s2]; exact h1⟩) ⟨_, rfl⟩ h3 (ha.below hW) hfa hlA s1 (by omega)
  have KM1 : Hid (∀ W T vt, TabAt W T (lk ([] : List Rw)) → Tab W vt (lk ([] : List Rw)) → Calls Try.prog 19 #[.pointer (some ⟨T, 0, none⟩), vt] W fun e w' => e = .returned (.bool true) ∧ Below W.heap.size W w') := fun W T vt h1 h2 => same_tab _ vt _ _ W (.inr ⟨T, rfl, h1⟩) h2 hrg hrg true ⟨fun _ _ _ => rfl, fun _ => rfl⟩
  obtain ⟨R, hR⟩ : ∃ R : Bool, R = true ↔ ∀ i, i < 8704 → blk (over (lk ([] : List Rw)) M) i = blk (lk ([] : List Rw)) i := by
    by_cases c : ∀ i, i < 8704 → blk (over (lk ([] : List Rw)) M) i = blk (lk ([] : List Rw)) i
    · exact ⟨true, ⟨fun _ => c, fun _ => rfl⟩⟩
    · exact ⟨false, ⟨fun h => (by cases h), fun h => absurd h c⟩⟩
  have KM2 : Hid (∀ W T vt, TabAt W T (over (lk ([] : List Rw)) M) → Tab W vt (lk ([] : List Rw)) → Calls Try.prog 19 #[.pointer (some ⟨T, 0, none⟩), vt] W fun e w' => e = .returned (.bool R) ∧ Below W.heap.size W w') := fun W T vt h1 h2 => same_tab _ vt _ _ W (.inr ⟨T, rfl, h1⟩) h2 hrg2 hrg R hR
  have KW : Hid (∀ W T, TabAt W T (over (lk ([] : List Rw)) M) → Calls Try.prog 20 #[.pointer (some ⟨T, 0, none⟩)] W fun e w' => ∃ v ys, e = .returned v ∧ Rn (over (lk ([] : List Rw)) M) 0 ys 1114112 ∧ w'.ownsRow W.heap.size 62 3 v (lst ys).length (cel3 .i32 (lst ys)) ∧ Below W.heap.size W w') := fun W T h1 => rows_any _ _ W (.inr ⟨T, rfl, h1⟩) hrg2
  have KL : Hid (∀ W v1, Rd3 .i64 W v1 ([] : List Rw) → Calls Try.prog 21 #[v1] W fun e w' => ∃ v', e = .returned v' ∧ w'.ownsRow W.heap.size 33 3 v' (lst (runsL ([] : List Rw))).length (cel3 .i64 (lst (runsL ([] : List Rw)))) ∧ Below W.heap.size W w') := fun W v1 h1 => least_any ([] : List Rw) v1 W h1 hok (by omega) (by have := runsL_len ([] : List Rw); omega)
  have KD : Hid (∀ W v1 v2 ys, Rn (over (lk ([] : List Rw)) M) 0 ys 1114112 → Rd3 .i32 W v1 (lst ys) → Rd3 .i64 W v2 (lst (runsL ([] : List Rw))) → Calls Try.prog 17 #[v1, v2] W fun e w' => e = .returned (.bool R) ∧ Below W.heap.size W w') := fun W v1 v2 ys h1 h2 h3 => rows_dec _ _ v1 v2 W R (hR.trans (rows_iff h1 (runs_rn hok)).symm) h2 h3 (rn_fit hrg2 h1).1 (by have := (rn_fit hrg2 h1).2; omega)
  clear s1 s2 s3 hrg2 hR hcz hoq hlM
  clear hr hf hl hr2 hf2 hl2 ha hfa hlA h hm hok hlL hrg
  go_enter Try.func5, Try.ntmps5
  go_wp2_with (go_at_call 9; refine K1.out.mono ?_)
  first | rintro e w1 vr rfl r1 b1 | rintro e w1 ⟨vr, rfl, r1, b1⟩
  have B : Hid (Below w.heap.size w w1) := b1
  have RR : Hid (Rd3 .i64 w1 (.slice none 0 0) ([] : List Rw)) := ⟨none, 0, rfl, Nat.le_refl _, fun h => by simp at h⟩
  have TT : Hid (Tab w1 (.pointer none) (lk ([] : List Rw))) := .inl ⟨rfl, rfl⟩
  clear K1 b1 r1
  go_wp2_with (go_at_call 10; refine (awake_any _).mono ?_)
  first | rintro e w2 rfl bb | rintro e w2 ⟨rfl, bb⟩
  replace RR : Hid (Rd3 .i64 w2 (.slice none 0 0) ([] : List Rw)) := RR.out.below bb
  replace TT : Hid (Tab w2 (.pointer none) (lk ([] : List Rw))) := TT.out.below bb
  replace B : Hid (Below w.heap.size w w2) := B.out.trans (bb.mono B.out.size)
  clear bb
  obtain ⟨vc, wc, hap, hoc, hbc⟩ := KC.out w2 B.out
  have CC : Hid (Rd3 .i32 wc vc M) := Rd3.of_owns hoc
  replace hap : Hid ((Builtin.append_ #[22, 22] 22 #[.slice (some ⟨w2.heap.size, 0, none⟩) 0 0, u]).run Try.prog (w2.alloc (.cells #[] 62)) = .ok vc wc) := hap
  have RRc : Hid (Rd3 .i64 wc (.slice none 0 0) ([] : List Rw)) := RR.out.below hbc
  have TTc : Hid (Tab wc (.pointer none) (lk ([] : List Rw))) := TT.out.below hbc
  have Bc : Hid (Below w.heap.size w wc) := B.out.trans (hbc.mono B.out.size)
  clear hoc hbc KC RR TT B
  have RR : Hid (Rd3 .i64 wc (.slice none 0 0) ([] : List Rw)) := RRc.out
  have TT : Hid (Tab wc (.pointer none) (lk ([] : List Rw))) := TTc.out
  have B : Hid (Below w.heap.size w wc) := Bc.out
  clear RRc TTc Bc
  go_wp2_with (first | (at_builtin; refine wpList_append_run _ rfl _ _ 22 rfl _ _ _ _ rfl rfl hap.out ?_) | (go_at_call 14; refine (KO.out _ _ _ TT.out CC.out).mono ?_))
  first | rintro e w3 TU rfl tu bb | rintro e w3 ⟨TU, rfl, tu, bb⟩
  replace RR : Hid (Rd3 .i64 w3 (.slice none 0 0) ([] : List Rw)) := RR.out.below bb
  replace TT : Hid (Tab w3 (.pointer none) (lk ([] : List Rw))) := TT.out.below bb
  replace CC : Hid (Rd3 .i32 w3 vc M) := CC.out.below bb
  replace B : Hid (Below w.heap.size w w3) := B.out.trans (bb.mono B.out.size)
  have UU : Hid (TabAt w3 TU (over (lk ([] : List Rw)) M)) := tu
  clear tu
  clear bb hap KO
  go_wp2_with (go_at_call 15; refine (KP.out _ B.out).mono ?_)
  first | rintro e w4 vq rfl oq bb | rintro e w4 ⟨vq, rfl, oq, bb⟩
  replace RR : Hid (Rd3 .i64 w4 (.slice none 0 0) ([] : List Rw)) := RR.out.below bb
  replace TT : Hid (Tab w4 (.pointer none) (lk ([] : List Rw))) := TT.out.below bb
  replace CC : Hid (Rd3 .i32 w4 vc M) := CC.out.below bb
  replace UU : Hid (TabAt w4 TU (over (lk ([] : List Rw)) M)) := UU.out.below bb
  replace B : Hid (Below w.heap.size w w4) := B.out.trans (bb.mono B.out.size)
  have QQ : Hid (Rd3 .i64 w4 vq M) := Rd3.of_owns oq
  clear bb oq KP
  go_wp2_with (go_at_call 16; refine (KCk.out _ _ QQ.out).mono ?_)
  first | rintro e w5 rfl bb | rintro e w5 ⟨rfl, bb⟩
  replace RR : Hid (Rd3 .i64 w5 (.slice none 0 0) ([] : List Rw)) := RR.out.below bb
  replace TT : Hid (Tab w5 (.pointer none) (lk ([] : List Rw))) := TT.out.below bb
  replace CC : Hid (Rd3 .i32 w5 vc M) := CC.out.below bb
  replace UU : Hid (TabAt w5 TU (over (lk ([] : List Rw)) M)) := UU.out.below bb
  replace QQ : Hid (Rd3 .i64 w5 vq M) := QQ.out.below bb
  replace B : Hid (Below w.heap.size w w5) := B.out.trans (bb.mono B.out.size)
  clear bb KCk
  go_wp2_with (go_at_call 17; refine (KR.out _ _ _ CC.out QQ.out).mono ?_)
  first | rintro e w6 rfl bb | rintro e w6 ⟨rfl, bb⟩
  replace RR : Hid (Rd3 .i64 w6 (.slice none 0 0) ([] : List Rw)) := RR.out.below bb
  replace TT : Hid (Tab w6 (.pointer none) (lk ([] : List Rw))) := TT.out.below bb
  replace CC : Hid (Rd3 .i32 w6 vc M) := CC.out.below bb
  replace UU : Hid (TabAt w6 TU (over (lk ([] : List Rw)) M)) := UU.out.below bb
  replace QQ : Hid (Rd3 .i64 w6 vq M) := QQ.out.below bb
  replace B : Hid (Below w.heap.size w w6) := B.out.trans (bb.mono B.out.size)
  clear bb KR CC
  go_wp2_with (go_at_call 18; refine (KV.out _ _ _ RR.out QQ.out).mono ?_)
  first | rintro e w7 vo rfl oo bb | rintro e w7 ⟨vo, rfl, oo, bb⟩
  replace RR : Hid (Rd3 .i64 w7 (.slice none 0 0) ([] : List Rw)) := RR.out.below bb
  replace TT : Hid (Tab w7 (.pointer none) (lk ([] : List Rw))) := TT.out.below bb
  replace UU : Hid (TabAt w7 TU (over (lk ([] : List Rw)) M)) := UU.out.below bb
  replace QQ : Hid (Rd3 .i64 w7 vq M) := QQ.out.below bb
  replace B : Hid (Below w.heap.size w w7) := B.out.trans (bb.mono B.out.size)
  have OO : Hid (Rd3 .i64 w7 vo (lst (runsL (ovr M (runsL ([] : List Rw)) (runsL M))))) := oo
  clear bb oo KV QQ
  go_wp2_with (go_at_call 14; refine (KN.out _ _ TT.out).mono ?_)
  first | rintro e w8 TN rfl tn bb | rintro e w8 ⟨TN, rfl, tn, bb⟩
  replace RR : Hid (Rd3 .i64 w8 (.slice none 0 0) ([] : List Rw)) := RR.out.below bb
  replace TT : Hid (Tab w8 (.pointer none) (lk ([] : List Rw))) := TT.out.below bb
  replace UU : Hid (TabAt w8 TU (over (lk ([] : List Rw)) M)) := UU.out.below bb
  replace OO : Hid (Rd3 .i64 w8 vo (lst (runsL (ovr M (runsL ([] : List Rw)) (runsL M))))) := OO.out.below bb
  replace B : Hid (Below w.heap.size w w8) := B.out.trans (bb.mono B.out.size)
  have NN : Hid (TabAt w8 TN (lk ([] : List Rw))) := tn
  clear bb tn KN
  go_wp2_with (go_at_call 11; refine (KS2.out _ _ _ _ UU.out OO.out B.out).mono ?_)
  first | rintro e w9 rfl bb | rintro e w9 ⟨rfl, bb⟩
  replace RR : Hid (Rd3 .i64 w9 (.slice none 0 0) ([] : List Rw)) := RR.out.below bb
  replace TT : Hid (Tab w9 (.pointer none) (lk ([] : List Rw))) := TT.out.below bb
  replace UU : Hid (TabAt w9 TU (over (lk ([] : List Rw)) M)) := UU.out.below bb
  replace OO : Hid (Rd3 .i64 w9 vo (lst (runsL (ovr M (runsL ([] : List Rw)) (runsL M))))) := OO.out.below bb
  replace NN : Hid (TabAt w9 TN (lk ([] : List Rw))) := NN.out.below bb
  replace B : Hid (Below w.heap.size w w9) := B.out.trans (bb.mono B.out.size)
  clear bb KS2 OO
  go_wp2_with (go_at_call 11; refine (KS.out _ _ _ _ TT.out ⟨_, rfl⟩ RR.out B.out).mono ?_)
  first | rintro e w10 rfl bb | rintro e w10 ⟨rfl, bb⟩
  replace RR : Hid (Rd3 .i64 w10 (.slice none 0 0) ([] : List Rw)) := RR.out.below bb
  replace TT : Hid (Tab w10 (.pointer none) (lk ([] : List Rw))) := TT.out.below bb
  replace UU : Hid (TabAt w10 TU (over (lk ([] : List Rw)) M)) := UU.out.below bb
  replace NN : Hid (TabAt w10 TN (lk ([] : List Rw))) := NN.out.below bb
  replace B : Hid (Below w.heap.size w w10) := B.out.trans (bb.mono B.out.size)
  clear bb KS
  go_wp2_with (go_at_call 19; refine (KM1.out _ _ _ NN.out TT.out).mono ?_)
  first | rintro e w11 rfl bb | rintro e w11 ⟨rfl, bb⟩
  replace RR : Hid (Rd3 .i64 w11 (.slice none 0 0) ([] : List Rw)) := RR.out.below bb
  replace TT : Hid (Tab w11 (.pointer none) (lk ([] : List Rw))) := TT.out.below bb
  replace UU : Hid (TabAt w11 TU (over (lk ([] : List Rw)) M)) := UU.out.below bb
  replace NN : Hid (TabAt w11 TN (lk ([] : List Rw))) := NN.out.below bb
  replace B : Hid (Below w.heap.size w w11) := B.out.trans (bb.mono B.out.size)
  clear bb KM1 NN
  go_wp2_with (go_at_call 19; refine (KM2.out _ _ _ UU.out TT.out).mono ?_)
  first | rintro e w12 rfl bb | rintro e w12 ⟨rfl, bb⟩
  replace RR : Hid (Rd3 .i64 w12 (.slice none 0 0) ([] : List Rw)) := RR.out.below bb
  replace TT : Hid (Tab w12 (.pointer none) (lk ([] : List Rw))) := TT.out.below bb
  replace UU : Hid (TabAt w12 TU (over (lk ([] : List Rw)) M)) := UU.out.below bb
  replace B : Hid (Below w.heap.size w w12) := B.out.trans (bb.mono B.out.size)
  clear bb KM2
  go_wp2_with (go_at_call 20; refine (KW.out _ _ UU.out).mono ?_)
  first | rintro e w13 vy ys rfl ny oy bb | rintro e w13 ⟨vy, ys, rfl, ny, oy, bb⟩
  replace RR : Hid (Rd3 .i64 w13 (.slice none 0 0) ([] : List Rw)) := RR.out.below bb
  replace TT : Hid (Tab w13 (.pointer none) (lk ([] : List Rw))) := TT.out.below bb
  replace UU : Hid (TabAt w13 TU (over (lk ([] : List Rw)) M)) := UU.out.below bb
  replace B : Hid (Below w.heap.size w w13) := B.out.trans (bb.mono B.out.size)
  have NY : Hid (Rn (over (lk ([] : List Rw)) M) 0 ys 1114112) := ny
  have YY : Hid (Rd3 .i32 w13 vy (lst ys)) := Rd3.of_owns oy
  clear bb ny oy KW UU TT
  go_wp2_with (go_at_call 21; refine (KL.out _ _ RR.out).mono ?_)
  first | rintro e w14 vz rfl oz bb | rintro e w14 ⟨vz, rfl, oz, bb⟩
  replace RR : Hid (Rd3 .i64 w14 (.slice none 0 0) ([] : List Rw)) := RR.out.below bb
  replace YY : Hid (Rd3 .i32 w14 vy (lst ys)) := YY.out.below bb
  replace B : Hid (Below w.heap.size w w14) := B.out.trans (bb.mono B.out.size)
  have ZZ : Hid (Rd3 .i64 w14 vz (lst (runsL ([] : List Rw)))) := Rd3.of_owns oz
  clear bb oz KL RR
  go_wp2_with (go_at_call 17; refine (KD.out _ _ _ ys NY.out YY.out ZZ.out).mono ?_)
  first | rintro e w15 rfl bb | rintro e w15 ⟨rfl, bb⟩
  replace YY : Hid (Rd3 .i32 w15 vy (lst ys)) := YY.out.below bb
  replace ZZ : Hid (Rd3 .i64 w15 vz (lst (runsL ([] : List Rw)))) := ZZ.out.below bb
  replace B : Hid (Below w.heap.size w w15) := B.out.trans (bb.mono B.out.size)
  clear bb KD YY ZZ NY
  cases R
  · go_wp2
    go_ret
    exact ⟨rfl, B.out⟩
  · go_wp2
    go_ret
    exact ⟨rfl, B.out⟩
set_option maxRecDepth 100000 in
set_option maxHeartbeats 8000000 in
theorem over_bb80 (L M : List Rw) (A : List Int) (v u va : Value) (w : World) (hr : Rd3 .i32 w v L) (hf : fit3 L) (hl : L.length ≤ 8796093022208) (hr2 : Rd3 .i32 w u M) (hf2 : fit3 M) (hl2 : M.length ≤ 8796093022208) (ha : Rd1 w va A) (hfa : fit1 A) (hlA : A.length ≤ 35184372088832) (h : (chk L).2 ≠ 0) (hm : (chk M).2 = 80) : Calls Try.prog 5 #[v, u, va] w fun e w' => e = .returned (.bool true) ∧ Below w.heap.size w w' := by
  have K1 : Hid (Calls Try.prog 9 #[v] w fun e w' => ∃ vr, e = .returned (.tuple #[.pointer none, vr, .bool false, .bool true]) ∧ Rd3 .i64 w' vr L ∧ Below w.heap.size w w') := built_bad L v _ hr hf hl h
  have hok : okF 0 ([] : List Rw) := trivial
  have hlL : ([] : List Rw).length ≤ 65536 := by decide
  have hrg := lk_range hok
  have KC : Hid (∀ W, Below w.heap.size w W → ∃ v' w', (Builtin.append_ #[22, 22] 22 #[.slice (some ⟨W.heap.size, 0, none⟩) 0 0, u]).run Try.prog (W.alloc (.cells #[] 62)) = .ok v' w' ∧ w'.ownsRow W.heap.size 62 3 v' M.length (cel3 .i32 M) ∧ Below W.heap.size W w') := fun W hW => run_copy W M u 22 (hr2.below hW) hl2
  have KP : Hid (∀ W, Below w.heap.size w W → Calls Try.prog 15 #[u] W fun e w' => ∃ v', e = .returned v' ∧ w'.ownsRow W.heap.size 33 3 v' M.length (cel3 .i64 M) ∧ Below W.heap.size W w') := fun W hW => plain_any M u W (hr2.below hW) hf2 hl2
  have KR : Hid (∀ W v1 v2, Rd3 .i32 W v1 M → Rd3 .i64 W v2 M → Calls Try.prog 17 #[v1, v2] W fun e w' => e = .returned (.bool true) ∧ Below W.heap.size W w') := fun W v1 v2 h1 h2 => rows_same M v1 v2 W h1 h2 hf2 hl2
  have KS : Hid (∀ W vt v1 n, Tab W vt (lk ([] : List Rw)) → (∃ p, vt = .pointer p) → Rd3 .i64 W v1 ([] : List Rw) → Below w.heap.size w W → Calls Try.prog 11 #[vt, v1, va, .int .i64 n] W fun e w' => e = .returned (.bool true) ∧ Below W.heap.size W w') := fun W vt v1 n h1 h2 h3 hW => stands_any ([] : List Rw) A vt v1 va n W h1 h2 h3 (ha.below hW) hfa hlA hok (by omega)
  have hm0 : (chk M).2 ≠ 0 := by rw [hm]; decide
  have KO : Hid (∀ W vt v1, Rd3 .i32 W v1 M → Calls Try.prog 14 #[vt, v1] W fun e w' => e = .returned (.tuple #[.pointer none, .int .i64 ((chk M).1 : Nat), .int .i64 80]) ∧ Below W.heap.size W w') := fun W vt v1 h2 => by have := over_bad M v1 vt W h2 hf2 hm0; rw [hm] at this; exact this
  have KCk : Hid (∀ W v1, Rd3 .i64 W v1 M → Calls Try.prog 16 #[v1] W fun e w' => e = .returned (.tuple #[.int .i64 ((chk M).1 : Nat), .int .i64 80]) ∧ Below W.heap.size W w') := fun W v1 h1 => by have := check_any M v1 W h1 hf2; rw [hm] at this; exact this
  clear hm0
  generalize (chk M).1 = P1 at *
  clear hr hf hl hr2 hf2 hl2 ha hfa hlA h hm hok hlL hrg
  go_enter Try.func5, Try.ntmps5
  go_wp2_with (go_at_call 9; refine K1.out.mono ?_)
  first | rintro e w1 vr rfl r1 b1 | rintro e w1 ⟨vr, rfl, r1, b1⟩
  have B : Hid (Below w.heap.size w w1) := b1
  have RR : Hid (Rd3 .i64 w1 (.slice none 0 0) ([] : List Rw)) := ⟨none, 0, rfl, Nat.le_refl _, fun h => by simp at h⟩
  have TT : Hid (Tab w1 (.pointer none) (lk ([] : List Rw))) := .inl ⟨rfl, rfl⟩
  clear K1 b1 r1
  go_wp2_with (go_at_call 10; refine (awake_any _).mono ?_)
  first | rintro e w2 rfl bb | rintro e w2 ⟨rfl, bb⟩
  replace RR : Hid (Rd3 .i64 w2 (.slice none 0 0) ([] : List Rw)) := RR.out.below bb
  replace TT : Hid (Tab w2 (.pointer none) (lk ([] : List Rw))) := TT.out.below bb
  replace B : Hid (Below w.heap.size w w2) := B.out.trans (bb.mono B.out.size)
  clear bb
  obtain ⟨vc, wc, hap, hoc, hbc⟩ := KC.out w2 B.out
  have CC : Hid (Rd3 .i32 wc vc M) := Rd3.of_owns hoc
  replace hap : Hid ((Builtin.append_ #[22, 22] 22 #[.slice (some ⟨w2.heap.size, 0, none⟩) 0 0, u]).run Try.prog (w2.alloc (.cells #[] 62)) = .ok vc wc) := hap
  have RRc : Hid (Rd3 .i64 wc (.slice none 0 0) ([] : List Rw)) := RR.out.below hbc
  have TTc : Hid (Tab wc (.pointer none) (lk ([] : List Rw))) := TT.out.below hbc
  have Bc : Hid (Below w.heap.size w wc) := B.out.trans (hbc.mono B.out.size)
  clear hoc hbc KC RR TT B
  have RR : Hid (Rd3 .i64 wc (.slice none 0 0) ([] : List Rw)) := RRc.out
  have TT : Hid (Tab wc (.pointer none) (lk ([] : List Rw))) := TTc.out
  have B : Hid (Below w.heap.size w wc) := Bc.out
  clear RRc TTc Bc
  go_wp2_with (first | (at_builtin; refine wpList_append_run _ rfl _ _ 22 rfl _ _ _ _ rfl rfl hap.out ?_) | (go_at_call 14; refine (KO.out _ _ _ CC.out).mono ?_))
  first | rintro e w3 rfl bb | rintro e w3 ⟨rfl, bb⟩
  replace RR : Hid (Rd3 .i64 w3 (.slice none 0 0) ([] : List Rw)) := RR.out.below bb
  replace TT : Hid (Tab w3 (.pointer none) (lk ([] : List Rw))) := TT.out.below bb
  replace CC : Hid (Rd3 .i32 w3 vc M) := CC.out.below bb
  replace B : Hid (Below w.heap.size w w3) := B.out.trans (bb.mono B.out.size)
  clear bb hap KO
  go_wp2_with (go_at_call 15; refine (KP.out _ B.out).mono ?_)
  first | rintro e w4 vq rfl oq bb | rintro e w4 ⟨vq, rfl, oq, bb⟩
  replace RR : Hid (Rd3 .i64 w4 (.slice none 0 0) ([] : List Rw)) := RR.out.below bb
  replace TT : Hid (Tab w4 (.pointer none) (lk ([] : List Rw))) := TT.out.below bb
  replace CC : Hid (Rd3 .i32 w4 vc M) := CC.out.below bb
  replace B : Hid (Below w.heap.size w w4) := B.out.trans (bb.mono B.out.size)
  have QQ : Hid (Rd3 .i64 w4 vq M) := Rd3.of_owns oq
  clear bb oq KP
  go_wp2_with (go_at_call 16; refine (KCk.out _ _ QQ.out).mono ?_)
  first | rintro e w5 rfl bb | rintro e w5 ⟨rfl, bb⟩
  replace RR : Hid (Rd3 .i64 w5 (.slice none 0 0) ([] : List Rw)) := RR.out.below bb
  replace TT : Hid (Tab w5 (.pointer none) (lk ([] : List Rw))) := TT.out.below bb
  replace CC : Hid (Rd3 .i32 w5 vc M) := CC.out.below bb
  replace QQ : Hid (Rd3 .i64 w5 vq M) := QQ.out.below bb
  replace B : Hid (Below w.heap.size w w5) := B.out.trans (bb.mono B.out.size)
  clear bb KCk
  go_wp2_with (go_at_call 17; refine (KR.out _ _ _ CC.out QQ.out).mono ?_)
  first | rintro e w6 rfl bb | rintro e w6 ⟨rfl, bb⟩
  replace RR : Hid (Rd3 .i64 w6 (.slice none 0 0) ([] : List Rw)) := RR.out.below bb
  replace TT : Hid (Tab w6 (.pointer none) (lk ([] : List Rw))) := TT.out.below bb
  replace CC : Hid (Rd3 .i32 w6 vc M) := CC.out.below bb
  replace QQ : Hid (Rd3 .i64 w6 vq M) := QQ.out.below bb
  replace B : Hid (Below w.heap.size w w6) := B.out.trans (bb.mono B.out.size)
  clear bb KR CC
  go_wp2_with (go_at_call 11; refine (KS.out _ _ _ _ TT.out ⟨_, rfl⟩ RR.out B.out).mono ?_)
  first | rintro e w7 rfl bb | rintro e w7 ⟨rfl, bb⟩
  replace RR : Hid (Rd3 .i64 w7 (.slice none 0 0) ([] : List Rw)) := RR.out.below bb
  replace TT : Hid (Tab w7 (.pointer none) (lk ([] : List Rw))) := TT.out.below bb
  replace QQ : Hid (Rd3 .i64 w7 vq M) := QQ.out.below bb
  replace B : Hid (Below w.heap.size w w7) := B.out.trans (bb.mono B.out.size)
  clear bb KS
  go_wp2
  go_ret
  exact ⟨rfl, B.out⟩
set_option maxRecDepth 100000 in
set_option maxHeartbeats 8000000 in
theorem over_bb81 (L M : List Rw) (A : List Int) (v u va : Value) (w : World) (hr : Rd3 .i32 w v L) (hf : fit3 L) (hl : L.length ≤ 8796093022208) (hr2 : Rd3 .i32 w u M) (hf2 : fit3 M) (hl2 : M.length ≤ 8796093022208) (ha : Rd1 w va A) (hfa : fit1 A) (hlA : A.length ≤ 35184372088832) (h : (chk L).2 ≠ 0) (hm : (chk M).2 = 81) : Calls Try.prog 5 #[v, u, va] w fun e w' => e = .returned (.bool true) ∧ Below w.heap.size w w' := by
  have K1 : Hid (Calls Try.prog 9 #[v] w fun e w' => ∃ vr, e = .returned (.tuple #[.pointer none, vr, .bool false, .bool true]) ∧ Rd3 .i64 w' vr L ∧ Below w.heap.size w w') := built_bad L v _ hr hf hl h
  have hok : okF 0 ([] : List Rw) := trivial
  have hlL : ([] : List Rw).length ≤ 65536 := by decide
  have hrg := lk_range hok
  have KC : Hid (∀ W, Below w.heap.size w W → ∃ v' w', (Builtin.append_ #[22, 22] 22 #[.slice (some ⟨W.heap.size, 0, none⟩) 0 0, u]).run Try.prog (W.alloc (.cells #[] 62)) = .ok v' w' ∧ w'.ownsRow W.heap.size 62 3 v' M.length (cel3 .i32 M) ∧ Below W.heap.size W w') := fun W hW => run_copy W M u 22 (hr2.below hW) hl2
  have KP : Hid (∀ W, Below w.heap.size w W → Calls Try.prog 15 #[u] W fun e w' => ∃ v', e = .returned v' ∧ w'.ownsRow W.heap.size 33 3 v' M.length (cel3 .i64 M) ∧ Below W.heap.size W w') := fun W hW => plain_any M u W (hr2.below hW) hf2 hl2
  have KR : Hid (∀ W v1 v2, Rd3 .i32 W v1 M → Rd3 .i64 W v2 M → Calls Try.prog 17 #[v1, v2] W fun e w' => e = .returned (.bool true) ∧ Below W.heap.size W w') := fun W v1 v2 h1 h2 => rows_same M v1 v2 W h1 h2 hf2 hl2
  have KS : Hid (∀ W vt v1 n, Tab W vt (lk ([] : List Rw)) → (∃ p, vt = .pointer p) → Rd3 .i64 W v1 ([] : List Rw) → Below w.heap.size w W → Calls Try.prog 11 #[vt, v1, va, .int .i64 n] W fun e w' => e = .returned (.bool true) ∧ Below W.heap.size W w') := fun W vt v1 n h1 h2 h3 hW => stands_any ([] : List Rw) A vt v1 va n W h1 h2 h3 (ha.below hW) hfa hlA hok (by omega)
  have hm0 : (chk M).2 ≠ 0 := by rw [hm]; decide
  have KO : Hid (∀ W vt v1, Rd3 .i32 W v1 M → Calls Try.prog 14 #[vt, v1] W fun e w' => e = .returned (.tuple #[.pointer none, .int .i64 ((chk M).1 : Nat), .int .i64 81]) ∧ Below W.heap.size W w') := fun W vt v1 h2 => by have := over_bad M v1 vt W h2 hf2 hm0; rw [hm] at this; exact this
  have KCk : Hid (∀ W v1, Rd3 .i64 W v1 M → Calls Try.prog 16 #[v1] W fun e w' => e = .returned (.tuple #[.int .i64 ((chk M).1 : Nat), .int .i64 81]) ∧ Below W.heap.size W w') := fun W v1 h1 => by have := check_any M v1 W h1 hf2; rw [hm] at this; exact this
  clear hm0
  generalize (chk M).1 = P1 at *
  clear hr hf hl hr2 hf2 hl2 ha hfa hlA h hm hok hlL hrg
  go_enter Try.func5, Try.ntmps5
  go_wp2_with (go_at_call 9; refine K1.out.mono ?_)
  first | rintro e w1 vr rfl r1 b1 | rintro e w1 ⟨vr, rfl, r1, b1⟩
  have B : Hid (Below w.heap.size w w1) := b1
  have RR : Hid (Rd3 .i64 w1 (.slice none 0 0) ([] : List Rw)) := ⟨none, 0, rfl, Nat.le_refl _, fun h => by simp at h⟩
  have TT : Hid (Tab w1 (.pointer none) (lk ([] : List Rw))) := .inl ⟨rfl, rfl⟩
  clear K1 b1 r1
  go_wp2_with (go_at_call 10; refine (awake_any _).mono ?_)
  first | rintro e w2 rfl bb | rintro e w2 ⟨rfl, bb⟩
  replace RR : Hid (Rd3 .i64 w2 (.slice none 0 0) ([] : List Rw)) := RR.out.below bb
  replace TT : Hid (Tab w2 (.pointer none) (lk ([] : List Rw))) := TT.out.below bb
  replace B : Hid (Below w.heap.size w w2) := B.out.trans (bb.mono B.out.size)
  clear bb
  obtain ⟨vc, wc, hap, hoc, hbc⟩ := KC.out w2 B.out
  have CC : Hid (Rd3 .i32 wc vc M) := Rd3.of_owns hoc
  replace hap : Hid ((Builtin.append_ #[22, 22] 22 #[.slice (some ⟨w2.heap.size, 0, none⟩) 0 0, u]).run Try.prog (w2.alloc (.cells #[] 62)) = .ok vc wc) := hap
  have RRc : Hid (Rd3 .i64 wc (.slice none 0 0) ([] : List Rw)) := RR.out.below hbc
  have TTc : Hid (Tab wc (.pointer none) (lk ([] : List Rw))) := TT.out.below hbc
  have Bc : Hid (Below w.heap.size w wc) := B.out.trans (hbc.mono B.out.size)
  clear hoc hbc KC RR TT B
  have RR : Hid (Rd3 .i64 wc (.slice none 0 0) ([] : List Rw)) := RRc.out
  have TT : Hid (Tab wc (.pointer none) (lk ([] : List Rw))) := TTc.out
  have B : Hid (Below w.heap.size w wc) := Bc.out
  clear RRc TTc Bc
  go_wp2_with (first | (at_builtin; refine wpList_append_run _ rfl _ _ 22 rfl _ _ _ _ rfl rfl hap.out ?_) | (go_at_call 14; refine (KO.out _ _ _ CC.out).mono ?_))
  first | rintro e w3 rfl bb | rintro e w3 ⟨rfl, bb⟩
  replace RR : Hid (Rd3 .i64 w3 (.slice none 0 0) ([] : List Rw)) := RR.out.below bb
  replace TT : Hid (Tab w3 (.pointer none) (lk ([] : List Rw))) := TT.out.below bb
  replace CC : Hid (Rd3 .i32 w3 vc M) := CC.out.below bb
  replace B : Hid (Below w.heap.size w w3) := B.out.trans (bb.mono B.out.size)
  clear bb hap KO
  go_wp2_with (go_at_call 15; refine (KP.out _ B.out).mono ?_)
  first | rintro e w4 vq rfl oq bb | rintro e w4 ⟨vq, rfl, oq, bb⟩
  replace RR : Hid (Rd3 .i64 w4 (.slice none 0 0) ([] : List Rw)) := RR.out.below bb
  replace TT : Hid (Tab w4 (.pointer none) (lk ([] : List Rw))) := TT.out.below bb
  replace CC : Hid (Rd3 .i32 w4 vc M) := CC.out.below bb
  replace B : Hid (Below w.heap.size w w4) := B.out.trans (bb.mono B.out.size)
  have QQ : Hid (Rd3 .i64 w4 vq M) := Rd3.of_owns oq
  clear bb oq KP
  go_wp2_with (go_at_call 16; refine (KCk.out _ _ QQ.out).mono ?_)
  first | rintro e w5 rfl bb | rintro e w5 ⟨rfl, bb⟩
  replace RR : Hid (Rd3 .i64 w5 (.slice none 0 0) ([] : List Rw)) := RR.out.below bb
  replace TT : Hid (Tab w5 (.pointer none) (lk ([] : List Rw))) := TT.out.below bb
  replace CC : Hid (Rd3 .i32 w5 vc M) := CC.out.below bb
  replace QQ : Hid (Rd3 .i64 w5 vq M) := QQ.out.below bb
  replace B : Hid (Below w.heap.size w w5) := B.out.trans (bb.mono B.out.size)
  clear bb KCk
  go_wp2_with (go_at_call 17; refine (KR.out _ _ _ CC.out QQ.out).mono ?_)
  first | rintro e w6 rfl bb | rintro e w6 ⟨rfl, bb⟩
  replace RR : Hid (Rd3 .i64 w6 (.slice none 0 0) ([] : List Rw)) := RR.out.below bb
  replace TT : Hid (Tab w6 (.pointer none) (lk ([] : List Rw))) := TT.out.below bb
  replace CC : Hid (Rd3 .i32 w6 vc M) := CC.out.below bb
  replace QQ : Hid (Rd3 .i64 w6 vq M) := QQ.out.below bb
  replace B : Hid (Below w.heap.size w w6) := B.out.trans (bb.mono B.out.size)
  clear bb KR CC
  go_wp2_with (go_at_call 11; refine (KS.out _ _ _ _ TT.out ⟨_, rfl⟩ RR.out B.out).mono ?_)
  first | rintro e w7 rfl bb | rintro e w7 ⟨rfl, bb⟩
  replace RR : Hid (Rd3 .i64 w7 (.slice none 0 0) ([] : List Rw)) := RR.out.below bb
  replace TT : Hid (Tab w7 (.pointer none) (lk ([] : List Rw))) := TT.out.below bb
  replace QQ : Hid (Rd3 .i64 w7 vq M) := QQ.out.below bb
  replace B : Hid (Below w.heap.size w w7) := B.out.trans (bb.mono B.out.size)
  clear bb KS
  go_wp2
  go_ret
  exact ⟨rfl, B.out⟩
theorem law_over (L M : List Rw) (A : List Int) (v u va : Value) (w : World) (hr : Rd3 .i32 w v L) (hf : fit3 L) (hl : L.length ≤ 8796093022208) (hr2 : Rd3 .i32 w u M) (hf2 : fit3 M) (hl2 : M.length ≤ 8796093022208) (ha : Rd1 w va A) (hfa : fit1 A) (hlA : A.length ≤ 35184372088832) : Calls Try.prog 5 #[v, u, va] w fun e w' => e = .returned (.bool true) ∧ Below w.heap.size w w' := by
  have hce : (chk M).2 = 0 ∨ (chk M).2 = 80 ∨ (chk M).2 = 81 := by
    unfold chk
    split
    · exact .inr (.inl rfl)
    · exact chkF_err M 0 0
  by_cases h : (chk L).2 = 0
  · rcases hce with hm | hm | hm
    · exact over_gg L M A v u va w hr hf hl hr2 hf2 hl2 ha hfa hlA h hm
    · exact over_gb80 L M A v u va w hr hf hl hr2 hf2 hl2 ha hfa hlA h hm
    · exact over_gb81 L M A v u va w hr hf hl hr2 hf2 hl2 ha hfa hlA h hm
  · rcases hce with hm | hm | hm
    · exact over_bg L M A v u va w hr hf hl hr2 hf2 hl2 ha hfa hlA h hm
    · exact over_bb80 L M A v u va w hr hf hl hr2 hf2 hl2 ha hfa hlA h hm
    · exact over_bb81 L M A v u va w hr hf hl hr2 hf2 hl2 ha hfa hlA h hm
end Go.Proofs.Ytookbgmolggohaa
