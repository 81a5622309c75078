/-
  The law StageAll: a table says what its rows do, of each code point of a plane. Conditions: the rows' numbers fit; the list takes no more bytes than there are.
-/
import Derived.Test.YtookbgmolggohaaWk
namespace Go.Proofs.Ytookbgmolggohaa
open Go.RowKit
theorem run_l3b {w : World} {g o : Nat} {x : Int} (h : w.cell? ⟨g, o, none⟩ = some (.int .i64 x)) : (loadVar 3 ⟨g, o, none⟩).run Try.prog w = .ok (.int .i64 x) w := run_l3 h
theorem runA_len : ∀ (L X : List Rw) (nx : Int), (runA X nx L).1.length ≤ X.length + 2 * L.length
  | [], X, nx => by simp [runA]
  | x :: L, X, nx => by
    unfold runA
    have h1 := runA_len L (addR (if nx < x.1 then addR X (nx, x.1 - 1, 0) else X) x) (x.2.1 + 1)
    have h2 := addR_len (if nx < x.1 then addR X (nx, x.1 - 1, 0) else X) x
    have h3 : (if nx < x.1 then addR X (nx, x.1 - 1, 0) else X).length ≤ X.length + 1 := by
      split
      · exact addR_len _ _
      · omega
    simp only [List.length_cons]
    omega
theorem runsL_len (L : List Rw) : (runsL L).length ≤ 2 * L.length + 1 := by
  have h1 := runA_len L [] 0
  unfold runsL
  split
  · have := addR_len (runA [] 0 L).1 ((runA [] 0 L).2, 1114111, 0)
    simp at h1
    omega
  · simp at h1
    omega
set_option maxRecDepth 100000 in
set_option maxHeartbeats 1000000 in
theorem all_bad (L : List Rw) (v : Value) (pl : Int) (w : World) (hr : Rd3 .i32 w v L) (hf : fit3 L) (hl : L.length ≤ 8796093022208) (h : (chk L).2 ≠ 0) : Calls Try.prog 4 #[v, .int .i64 pl] w fun e w' => e = .returned (.bool true) ∧ Below w.heap.size w w' := by
  have K1 : Hid (Calls Try.prog 9 #[v] w fun e w' => ∃ vr, e = .returned (.tuple #[.pointer none, vr, .bool false, .bool true]) ∧ Rd3 .i64 w' vr L ∧ Below w.heap.size w w') := built_bad L v w hr hf hl h
  clear hr h
  go_enter Try.func4, Try.ntmps4
  go_wp2_with (go_at_call 9; refine K1.out.mono ?_)
  first | rintro e w1 vr rfl r1 b1 | rintro e w1 ⟨vr, rfl, r1, b1⟩
  clear r1 K1
  go_wp2_with (go_at_call 10; refine (awake_any _).mono ?_)
  intro e w2 hq
  first | (obtain ⟨rfl, b2⟩ : _ ∧ _ := hq) | (subst hq; intro b2)
  go_wp2
  go_ret
  exact ⟨rfl, b1.trans (b2.mono b1.size)⟩
set_option maxRecDepth 100000 in
set_option maxHeartbeats 4000000 in
theorem all_good (L : List Rw) (v : Value) (pl : Int) (w : World) (hr : Rd3 .i32 w v L) (hf : fit3 L) (hl : L.length ≤ 8796093022208) (h : (chk L).2 = 0) : Calls Try.prog 4 #[v, .int .i64 pl] w fun e w' => e = .returned (.bool true) ∧ Below w.heap.size w w' := by
  have K1 : Hid (Calls Try.prog 9 #[v] w fun e w' => ∃ T vr, e = .returned (.tuple #[.pointer (some ⟨T, 0, none⟩), vr, .bool true, .bool true]) ∧ Rd3 .i64 w' vr L ∧ TabAt w' T (lk L) ∧ Below w.heap.size w w') := built_good L v w hr hf hl h
  obtain ⟨hl2, hok, -⟩ := chk_ok h
  have HOK : Hid (okF 0 L) := hok
  have HRN : Hid (Rn (lk L) 0 (runsL L) 1114112) := runs_rn hok
  have hrg := lk_range hok
  obtain ⟨r1, hr1, h1a, h1b⟩ : ∃ r1 : Int, pl.tmod 17 = r1 ∧ -16 ≤ r1 ∧ r1 ≤ 16 := ⟨_, rfl, by have := Int.lt_tmod_of_pos pl (b := 17) (by decide); omega, by have := Int.tmod_lt_of_pos pl (b := 17) (by decide); omega⟩
  obtain ⟨r2, hr2, h2a, h2b⟩ : ∃ r2 : Int, (r1 + 17).tmod 17 = r2 ∧ 0 ≤ r2 ∧ r2 ≤ 16 := ⟨_, rfl, by rw [Int.tmod_eq_emod_of_nonneg (by omega)]; omega, by rw [Int.tmod_eq_emod_of_nonneg (by omega)]; omega⟩
  have w1 : IntKind.i64.wrap (r1 + 17) = r1 + 17 := IntWalk.i64_in _ (by omega)
  have w2 : IntKind.i64.wrap (65536 * r2) = 65536 * r2 := IntWalk.i64_in _ (by omega)
  clear hr h hok
  go_enter Try.func4, Try.ntmps4
  go_wp2_with (go_at_call 9; refine K1.out.mono ?_)
  first | rintro e wa T vr rfl ra ta ba | rintro e wa ⟨T, vr, rfl, ra, ta, ba⟩
  replace ra : Hid (Rd3 .i64 wa vr L) := ra
  replace ta : Hid (TabAt wa T (lk L)) := ta
  replace ba : Hid (Below w.heap.size w wa) := ba
  clear K1
  go_wp2_with (go_at_call 10; refine (awake_any _).mono ?_)
  intro e wb hq
  first | (obtain ⟨rfl, bb⟩ : _ ∧ _ := hq) | (subst hq; intro bb)
  have rb : Hid (Rd3 .i64 wb vr L) := ra.out.below bb
  have tb : Hid (TabAt wb T (lk L)) := ta.out.below bb
  have Bb : Hid (Below w.heap.size w wb) := ba.out.trans (bb.mono ba.out.size)
  clear bb ra ta ba
  have KR : Hid (Calls Try.prog 12 #[vr] wb fun e w' => ∃ v', e = .returned v' ∧ w'.ownsRow wb.heap.size 33 3 v' (runsL L).length (cel3 .i64 (runsL L)) ∧ Below wb.heap.size wb w') := runs_any L vr wb rb.out HOK.out (by omega)
  go_wp2_with (go_at_call 12; refine KR.out.mono ?_)
  first | rintro e wc vs rfl oc bc | rintro e wc ⟨vs, rfl, oc, bc⟩
  have Rc := Rd3.of_owns oc
  have tc : Hid (TabAt wc T (lk L)) := tb.out.below bc
  have Bc : Hid (Below w.heap.size w wc) := Bb.out.trans (bc.mono Bb.out.size)
  have KL : Hid (∀ (w1 : World) (p : Int), Below w.heap.size w w1 → 0 ≤ p → p ≤ 1114111 → True) := fun _ _ _ _ _ => trivial
  clear oc bc tb Bb rb KR KL w1 hr1
  obtain ⟨av, cv, rfl, hlc, hc⟩ := Rc
  have hlen : (runsL L).length ≤ 1114112 := by have := runsL_len L; omega
  have HC : Hid _ := hc
  have HF : Hid _ := fun k (hk : k < (runsL L).length) => (Rn.mem HRN.out).2 ((runsL L).getD k (0, 0, 0)) (by rw [show (runsL L).getD k (0, 0, 0) = (runsL L)[k] by simp [List.getD, hk]]; exact List.getElem_mem hk)
  clear hc hlc
  generalize runsL L = R at *
  generalize hF0 : 65536 * r2 = f0 at *
  have f01 : 0 ≤ f0 := by omega
  have f02 : f0 ≤ 1048576 := by omega
  clear hF0 w2 hr2 h2a h2b h1a h1b
  have wf : IntKind.i64.wrap (f0 + 65535) = f0 + 65535 := IntWalk.i64_in _ (by omega)
  have KL : Hid (∀ (w1 : World) (p : Int), Below wc.heap.size wc w1 → 0 ≤ p → p ≤ 1114111 → Calls Try.prog 13 #[.pointer (some ⟨T, 0, none⟩), .int .i32 p] w1 fun e w' => e = .returned (.int .i64 (lk L p)) ∧ Below w1.heap.size w1 w') := fun w1 p b1 p1 p2 => look_in p w1 T (lk L) (tc.out.below b1) p1 p2 (hrg p)
  have KM : Hid (∀ (w1 : World) (p : Int), Below wc.heap.size wc w1 → (decide (0 ≤ p) && decide (p ≤ 1114111)) = false → Calls Try.prog 13 #[.pointer (some ⟨T, 0, none⟩), .int .i32 p] w1 fun e w' => e = .returned (.int .i64 0) ∧ Below w1.heap.size w1 w') := fun w1 p b1 p1 => look_out p w1 T (lk L) (tc.out.below b1) p1
  clear hrg tc HRN HOK hf hl hl2
  go_wp2_with fail
  go_loopw [36] (fun y wr => ∃ k : Nat, k ≤ R.length ∧ y = .int .i64 (k : Nat) ∧ Hid (Below wc.heap.size wc wr)) (fun y _ => (R.length - (intOf y).toNat : Nat))
  case atStart => exact ⟨0, Nat.zero_le _, rfl, Below.refl _ _⟩
  case round =>
    obtain ⟨k, hk, rfl, hB⟩ := hrel
    obtain ⟨wo, hwo⟩ : ∃ wo, wo = wr := ⟨wr, rfl⟩
    subst hwo
    have hbsz := hB.out.size
    by_cases hkl : k < R.length
    · obtain ⟨g, off, rfl, hd⟩ := HC.out (by omega)
      obtain ⟨d1, d2, d3⟩ := hd k hkl
      obtain ⟨s1, s2, s3, s4⟩ := HF.out k hkl
      have kl : (k : Int) < (R.length : Int) := by omega
      have g1 := World.block_lt_of_cell? wc _ d1
      have e1 := (hB.out.cell (p := ⟨g, off + k * 3, none⟩) (by simpa using g1)).trans d1
      have e2 := (hB.out.cell (p := ⟨g, off + k * 3 + 1, none⟩) (by simpa using g1)).trans d2
      have e3 := (hB.out.cell (p := ⟨g, off + k * 3 + 2, none⟩) (by simpa using g1)).trans d3
      clear d1 d2 d3 hd g1 HC HF
      generalize R.getD k (0, 0, 0) = s at *
      obtain ⟨x, y, n⟩ := s
      simp only at e1 e2 e3 s1 s2 s3 s4
      replace s4 : Hid (∀ p, x ≤ p → p ≤ y → lk L p = n) := s4
      obtain ⟨q1, q2, q3⟩ := box3 wo (.int .i64 x) (.int .i64 y) (.int .i64 n) 33
      have B1 : Hid (Below wc.heap.size wc (wo.alloc (.cells #[.int .i64 x, .int .i64 y, .int .i64 n] 33))) := hB.out.alloc hbsz _
      by_cases hxf : x < f0
      · by_cases hyf : f0 + 65535 < y
        · have q3w0 := q3
          go_wp2_with fail
          go_loopw [12] (fun z wi => ∃ p : Int, z = .int .i64 p ∧ f0 ≤ p ∧ (p = f0 ∨ p ≤ (f0 + 65535) + 1) ∧ Hid (wi.cell? ⟨wo.heap.size, 1, none⟩ = some (.int .i64 y)) ∧ Hid (wi.cell? ⟨wo.heap.size, 2, none⟩ = some (.int .i64 n)) ∧ Hid (Below wc.heap.size wc wi)) (fun z _ => ((f0 + 65535) + 1 - intOf z).toNat)
          case atStart => exact ⟨f0, rfl, Int.le_refl _, .inl rfl, q2, q3, B1⟩
          case round =>
            obtain ⟨wi, hwi⟩ : ∃ wi, wi = wr := ⟨wr, rfl⟩
            subst hwi
            obtain ⟨p, rfl, p1, p2, q2w, q3w, hB2⟩ := hrel
            have q2x := q2w.out
            by_cases hp : p ≤ (f0 + 65535)
            · have hpd : decide (p ≤ (f0 + 65535)) = true := decide_eq_true hp
              have hp1 : 0 ≤ p := by omega
              have hp2 : p ≤ 1114111 := by omega
              have hp32 : IntKind.i32.wrap p = p := IntWalk.i32_in _ (by omega)
              have wp1 : IntKind.i64.wrap (p + 1) = p + 1 := IntWalk.i64_in _ (by omega)
              have hlkp : Hid (lk L p = n) := s4.out p (by omega) (by omega)
              have KLp : Hid (∀ (w1 : World), Below wc.heap.size wc w1 → Calls Try.prog 13 #[.pointer (some ⟨T, 0, none⟩), .int .i32 p] w1 fun e w' => e = .returned (.int .i64 n) ∧ Below w1.heap.size w1 w') := fun w1 b1 => by have := KL.out w1 p b1 hp1 hp2; rwa [hlkp.out] at this
              have hql : Hid (wo.heap.size < wi.heap.size) := World.block_lt_of_cell? wi _ q3w.out
              go_wp2_with fail
              refine wp_region_vals (a1 := ?a1rl1) (grown wi) [.pointer (some ⟨T, 0, none⟩), .int .i64 p, .int .i32 p, .int .i64 n, .pointer (some ⟨wo.heap.size, 2, none⟩), .int .i64 n, .bool false] 69 rfl (by kernel_rfl) (by kernel_rfl) (grown_start _) ⟨?o0rl1, ?o1rl1, ?o2rl1, ?o3rl1, ?o4rl1, ?o5rl1, ?o6rl1, trivial⟩ ?harl1 ?hdonerl1
              case harl1 => simp [putAll, Act.put]; exact rfl
              case o0rl1 => exact ValOp.pure (grown_steady _ 0) [(5, .pointer (some ⟨T, 0, none⟩))] rfl (fun _ _ h2 => ⟨(h2 5 (by kernel_rfl)).trans rfl, trivial⟩) (by kernel_rfl) (fun _ _ _ _ _ => by kernel_rfl)
              case o1rl1 => exact ValOp.pure (grown_steady _ 1) [(12, .int .i64 p)] rfl (fun _ _ h2 => ⟨(h2 12 (by kernel_rfl)).trans rfl, trivial⟩) (by kernel_rfl) (fun _ _ _ _ _ => by kernel_rfl)
              case o2rl1 => exact ValOp.pure (grown_steady _ 2) [(54, .int .i64 p)] rfl (fun _ h1 _ => ⟨h1 1 54 (by kernel_rfl), trivial⟩) (by kernel_rfl) (fun _ _ _ _ _ => run_cv21 rfl rfl hp32)
              case o3rl1 => exact ValOp.call (grown_steady _ 3) [(53, .pointer (some ⟨T, 0, none⟩)), (55, .int .i32 p)] rfl (fun _ h1 _ => ⟨h1 0 53 (by kernel_rfl), h1 2 55 (by kernel_rfl), trivial⟩) (by kernel_rfl) 13 #[.pointer (some ⟨T, 0, none⟩), .int .i32 p] (fun _ => by kernel_rfl) (fun _ w1 hg => KLp.out w1 (hB2.out.trans (hg.mono hB2.out.size)))
              case o4rl1 => exact ValOp.pure (grown_steady _ 4) [(11, .pointer (some ⟨wo.heap.size, 0, none⟩))] rfl (fun _ _ h2 => ⟨(h2 11 (by kernel_rfl)).trans rfl, trivial⟩) (by kernel_rfl) (fun _ _ _ _ _ => by kernel_rfl)
              case o5rl1 => exact ValOp.pure (grown_steady _ 5) [(57, .pointer (some ⟨wo.heap.size, 2, none⟩))] rfl (fun _ h1 _ => ⟨h1 4 57 (by kernel_rfl), trivial⟩) (by kernel_rfl) (fun _ _ _ hg _ => run_read rfl rfl (run_l3 ((hg.cell (p := ⟨wo.heap.size, 2, none⟩) hql.out).trans q3w.out)))
              case o6rl1 => exact ValOp.pure (grown_steady _ 6) [(56, .int .i64 n), (58, .int .i64 n)] rfl (fun _ h1 _ => ⟨h1 3 56 (by kernel_rfl), h1 5 58 (by kernel_rfl), trivial⟩) (by kernel_rfl) (fun _ _ _ _ _ => run_bin (a := .int .i64 n) (b := .int .i64 n) rfl rfl rfl (by kernel_rfl) (by simp [go_sem]))
              case hdonerl1 =>
                intro w5 s5 _ hg5
                have q2y : Hid (w5.cell? ⟨wo.heap.size, 1, none⟩ = some (.int .i64 y)) := (hg5.cell (p := ⟨wo.heap.size, 1, none⟩) hql.out).trans q2w.out
                have q3y : Hid (w5.cell? ⟨wo.heap.size, 2, none⟩ = some (.int .i64 n)) := (hg5.cell (p := ⟨wo.heap.size, 2, none⟩) hql.out).trans q3w.out
                have B5 : Hid (Below wc.heap.size wc w5) := hB2.out.trans (hg5.mono hB2.out.size)
                clear hg5 q2x q3w q2w hB2 KLp
                go_wp2
                refine ⟨⟨p + 1, by go_num, by omega, .inr (by omega), q2y, q3y, B5⟩, by simp [intOf]; omega⟩
            · have hpd : decide (p ≤ (f0 + 65535)) = false := decide_eq_false hp
              go_wp2
              refine ⟨⟨k + 1, by omega, by go_num, hB2⟩, by simp [intOf]; omega⟩
        · have q3w0 := q3
          go_wp2_with fail
          go_loopw [12] (fun z wi => ∃ p : Int, z = .int .i64 p ∧ f0 ≤ p ∧ (p = f0 ∨ p ≤ y + 1) ∧ Hid (wi.cell? ⟨wo.heap.size, 1, none⟩ = some (.int .i64 y)) ∧ Hid (wi.cell? ⟨wo.heap.size, 2, none⟩ = some (.int .i64 n)) ∧ Hid (Below wc.heap.size wc wi)) (fun z _ => (y + 1 - intOf z).toNat)
          case atStart => exact ⟨f0, rfl, Int.le_refl _, .inl rfl, q2, q3, B1⟩
          case round =>
            obtain ⟨wi, hwi⟩ : ∃ wi, wi = wr := ⟨wr, rfl⟩
            subst hwi
            obtain ⟨p, rfl, p1, p2, q2w, q3w, hB2⟩ := hrel
            have q2x := q2w.out
            by_cases hp : p ≤ y
            · have hpd : decide (p ≤ y) = true := decide_eq_true hp
              have hp1 : 0 ≤ p := by omega
              have hp2 : p ≤ 1114111 := by omega
              have hp32 : IntKind.i32.wrap p = p := IntWalk.i32_in _ (by omega)
              have wp1 : IntKind.i64.wrap (p + 1) = p + 1 := IntWalk.i64_in _ (by omega)
              have hlkp : Hid (lk L p = n) := s4.out p (by omega) (by omega)
              have KLp : Hid (∀ (w1 : World), Below wc.heap.size wc w1 → Calls Try.prog 13 #[.pointer (some ⟨T, 0, none⟩), .int .i32 p] w1 fun e w' => e = .returned (.int .i64 n) ∧ Below w1.heap.size w1 w') := fun w1 b1 => by have := KL.out w1 p b1 hp1 hp2; rwa [hlkp.out] at this
              have hql : Hid (wo.heap.size < wi.heap.size) := World.block_lt_of_cell? wi _ q3w.out
              go_wp2_with fail
              refine wp_region_vals (a1 := ?a1rl2) (grown wi) [.pointer (some ⟨T, 0, none⟩), .int .i64 p, .int .i32 p, .int .i64 n, .pointer (some ⟨wo.heap.size, 2, none⟩), .int .i64 n, .bool false] 69 rfl (by kernel_rfl) (by kernel_rfl) (grown_start _) ⟨?o0rl2, ?o1rl2, ?o2rl2, ?o3rl2, ?o4rl2, ?o5rl2, ?o6rl2, trivial⟩ ?harl2 ?hdonerl2
              case harl2 => simp [putAll, Act.put]; exact rfl
              case o0rl2 => exact ValOp.pure (grown_steady _ 0) [(5, .pointer (some ⟨T, 0, none⟩))] rfl (fun _ _ h2 => ⟨(h2 5 (by kernel_rfl)).trans rfl, trivial⟩) (by kernel_rfl) (fun _ _ _ _ _ => by kernel_rfl)
              case o1rl2 => exact ValOp.pure (grown_steady _ 1) [(12, .int .i64 p)] rfl (fun _ _ h2 => ⟨(h2 12 (by kernel_rfl)).trans rfl, trivial⟩) (by kernel_rfl) (fun _ _ _ _ _ => by kernel_rfl)
              case o2rl2 => exact ValOp.pure (grown_steady _ 2) [(54, .int .i64 p)] rfl (fun _ h1 _ => ⟨h1 1 54 (by kernel_rfl), trivial⟩) (by kernel_rfl) (fun _ _ _ _ _ => run_cv21 rfl rfl hp32)
              case o3rl2 => exact ValOp.call (grown_steady _ 3) [(53, .pointer (some ⟨T, 0, none⟩)), (55, .int .i32 p)] rfl (fun _ h1 _ => ⟨h1 0 53 (by kernel_rfl), h1 2 55 (by kernel_rfl), trivial⟩) (by kernel_rfl) 13 #[.pointer (some ⟨T, 0, none⟩), .int .i32 p] (fun _ => by kernel_rfl) (fun _ w1 hg => KLp.out w1 (hB2.out.trans (hg.mono hB2.out.size)))
              case o4rl2 => exact ValOp.pure (grown_steady _ 4) [(11, .pointer (some ⟨wo.heap.size, 0, none⟩))] rfl (fun _ _ h2 => ⟨(h2 11 (by kernel_rfl)).trans rfl, trivial⟩) (by kernel_rfl) (fun _ _ _ _ _ => by kernel_rfl)
              case o5rl2 => exact ValOp.pure (grown_steady _ 5) [(57, .pointer (some ⟨wo.heap.size, 2, none⟩))] rfl (fun _ h1 _ => ⟨h1 4 57 (by kernel_rfl), trivial⟩) (by kernel_rfl) (fun _ _ _ hg _ => run_read rfl rfl (run_l3 ((hg.cell (p := ⟨wo.heap.size, 2, none⟩) hql.out).trans q3w.out)))
              case o6rl2 => exact ValOp.pure (grown_steady _ 6) [(56, .int .i64 n), (58, .int .i64 n)] rfl (fun _ h1 _ => ⟨h1 3 56 (by kernel_rfl), h1 5 58 (by kernel_rfl), trivial⟩) (by kernel_rfl) (fun _ _ _ _ _ => run_bin (a := .int .i64 n) (b := .int .i64 n) rfl rfl rfl (by kernel_rfl) (by simp [go_sem]))
              case hdonerl2 =>
                intro w5 s5 _ hg5
                have q2y : Hid (w5.cell? ⟨wo.heap.size, 1, none⟩ = some (.int .i64 y)) := (hg5.cell (p := ⟨wo.heap.size, 1, none⟩) hql.out).trans q2w.out
                have q3y : Hid (w5.cell? ⟨wo.heap.size, 2, none⟩ = some (.int .i64 n)) := (hg5.cell (p := ⟨wo.heap.size, 2, none⟩) hql.out).trans q3w.out
                have B5 : Hid (Below wc.heap.size wc w5) := hB2.out.trans (hg5.mono hB2.out.size)
                clear hg5 q2x q3w q2w hB2 KLp
                go_wp2
                refine ⟨⟨p + 1, by go_num, by omega, .inr (by omega), q2y, q3y, B5⟩, by simp [intOf]; omega⟩
            · have hpd : decide (p ≤ y) = false := decide_eq_false hp
              go_wp2
              refine ⟨⟨k + 1, by omega, by go_num, hB2⟩, by simp [intOf]; omega⟩
      · by_cases hyf : f0 + 65535 < y
        · have q3w0 := q3
          go_wp2_with fail
          go_loopw [12] (fun z wi => ∃ p : Int, z = .int .i64 p ∧ x ≤ p ∧ (p = x ∨ p ≤ (f0 + 65535) + 1) ∧ Hid (wi.cell? ⟨wo.heap.size, 1, none⟩ = some (.int .i64 y)) ∧ Hid (wi.cell? ⟨wo.heap.size, 2, none⟩ = some (.int .i64 n)) ∧ Hid (Below wc.heap.size wc wi)) (fun z _ => ((f0 + 65535) + 1 - intOf z).toNat)
          case atStart => exact ⟨x, rfl, Int.le_refl _, .inl rfl, q2, q3, B1⟩
          case round =>
            obtain ⟨wi, hwi⟩ : ∃ wi, wi = wr := ⟨wr, rfl⟩
            subst hwi
            obtain ⟨p, rfl, p1, p2, q2w, q3w, hB2⟩ := hrel
            have q2x := q2w.out
            by_cases hp : p ≤ (f0 + 65535)
            · have hpd : decide (p ≤ (f0 + 65535)) = true := decide_eq_true hp
              have hp1 : 0 ≤ p := by omega
              have hp2 : p ≤ 1114111 := by omega
              have hp32 : IntKind.i32.wrap p = p := IntWalk.i32_in _ (by omega)
              have wp1 : IntKind.i64.wrap (p + 1) = p + 1 := IntWalk.i64_in _ (by omega)
              have hlkp : Hid (lk L p = n) := s4.out p (by omega) (by omega)
              have KLp : Hid (∀ (w1 : World), Below wc.heap.size wc w1 → Calls Try.prog 13 #[.pointer (some ⟨T, 0, none⟩), .int .i32 p] w1 fun e w' => e = .returned (.int .i64 n) ∧ Below w1.heap.size w1 w') := fun w1 b1 => by have := KL.out w1 p b1 hp1 hp2; rwa [hlkp.out] at this
              have hql : Hid (wo.heap.size < wi.heap.size) := World.block_lt_of_cell? wi _ q3w.out
              go_wp2_with fail
              refine wp_region_vals (a1 := ?a1rl3) (grown wi) [.pointer (some ⟨T, 0, none⟩), .int .i64 p, .int .i32 p, .int .i64 n, .pointer (some ⟨wo.heap.size, 2, none⟩), .int .i64 n, .bool false] 69 rfl (by kernel_rfl) (by kernel_rfl) (grown_start _) ⟨?o0rl3, ?o1rl3, ?o2rl3, ?o3rl3, ?o4rl3, ?o5rl3, ?o6rl3, trivial⟩ ?harl3 ?hdonerl3
              case harl3 => simp [putAll, Act.put]; exact rfl
              case o0rl3 => exact ValOp.pure (grown_steady _ 0) [(5, .pointer (some ⟨T, 0, none⟩))] rfl (fun _ _ h2 => ⟨(h2 5 (by kernel_rfl)).trans rfl, trivial⟩) (by kernel_rfl) (fun _ _ _ _ _ => by kernel_rfl)
              case o1rl3 => exact ValOp.pure (grown_steady _ 1) [(12, .int .i64 p)] rfl (fun _ _ h2 => ⟨(h2 12 (by kernel_rfl)).trans rfl, trivial⟩) (by kernel_rfl) (fun _ _ _ _ _ => by kernel_rfl)
              case o2rl3 => exact ValOp.pure (grown_steady _ 2) [(54, .int .i64 p)] rfl (fun _ h1 _ => ⟨h1 1 54 (by kernel_rfl), trivial⟩) (by kernel_rfl) (fun _ _ _ _ _ => run_cv21 rfl rfl hp32)
              case o3rl3 => exact ValOp.call (grown_steady _ 3) [(53, .pointer (some ⟨T, 0, none⟩)), (55, .int .i32 p)] rfl (fun _ h1 _ => ⟨h1 0 53 (by kernel_rfl), h1 2 55 (by kernel_rfl), trivial⟩) (by kernel_rfl) 13 #[.pointer (some ⟨T, 0, none⟩), .int .i32 p] (fun _ => by kernel_rfl) (fun _ w1 hg => KLp.out w1 (hB2.out.trans (hg.mono hB2.out.size)))
              case o4rl3 => exact ValOp.pure (grown_steady _ 4) [(11, .pointer (some ⟨wo.heap.size, 0, none⟩))] rfl (fun _ _ h2 => ⟨(h2 11 (by kernel_rfl)).trans rfl, trivial⟩) (by kernel_rfl) (fun _ _ _ _ _ => by kernel_rfl)
              case o5rl3 => exact ValOp.pure (grown_steady _ 5) [(57, .pointer (some ⟨wo.heap.size, 2, none⟩))] rfl (fun _ h1 _ => ⟨h1 4 57 (by kernel_rfl), trivial⟩) (by kernel_rfl) (fun _ _ _ hg _ => run_read rfl rfl (run_l3 ((hg.cell (p := ⟨wo.heap.size, 2, none⟩) hql.out).trans q3w.out)))
              case o6rl3 => exact ValOp.pure (grown_steady _ 6) [(56, .int .i64 n), (58, .int .i64 n)] rfl (fun _ h1 _ => ⟨h1 3 56 (by kernel_rfl), h1 5 58 (by kernel_rfl), trivial⟩) (by kernel_rfl) (fun _ _ _ _ _ => run_bin (a := .int .i64 n) (b := .int .i64 n) rfl rfl rfl (by kernel_rfl) (by simp [go_sem]))
              case hdonerl3 =>
                intro w5 s5 _ hg5
                have q2y : Hid (w5.cell? ⟨wo.heap.size, 1, none⟩ = some (.int .i64 y)) := (hg5.cell (p := ⟨wo.heap.size, 1, none⟩) hql.out).trans q2w.out
                have q3y : Hid (w5.cell? ⟨wo.heap.size, 2, none⟩ = some (.int .i64 n)) := (hg5.cell (p := ⟨wo.heap.size, 2, none⟩) hql.out).trans q3w.out
                have B5 : Hid (Below wc.heap.size wc w5) := hB2.out.trans (hg5.mono hB2.out.size)
                clear hg5 q2x q3w q2w hB2 KLp
                go_wp2
                refine ⟨⟨p + 1, by go_num, by omega, .inr (by omega), q2y, q3y, B5⟩, by simp [intOf]; omega⟩
            · have hpd : decide (p ≤ (f0 + 65535)) = false := decide_eq_false hp
              go_wp2
              refine ⟨⟨k + 1, by omega, by go_num, hB2⟩, by simp [intOf]; omega⟩
        · have q3w0 := q3
          go_wp2_with fail
          go_loopw [12] (fun z wi => ∃ p : Int, z = .int .i64 p ∧ x ≤ p ∧ (p = x ∨ p ≤ y + 1) ∧ Hid (wi.cell? ⟨wo.heap.size, 1, none⟩ = some (.int .i64 y)) ∧ Hid (wi.cell? ⟨wo.heap.size, 2, none⟩ = some (.int .i64 n)) ∧ Hid (Below wc.heap.size wc wi)) (fun z _ => (y + 1 - intOf z).toNat)
          case atStart => exact ⟨x, rfl, Int.le_refl _, .inl rfl, q2, q3, B1⟩
          case round =>
            obtain ⟨wi, hwi⟩ : ∃ wi, wi = wr := ⟨wr, rfl⟩
            subst hwi
            obtain ⟨p, rfl, p1, p2, q2w, q3w, hB2⟩ := hrel
            have q2x := q2w.out
            by_cases hp : p ≤ y
            · have hpd : decide (p ≤ y) = true := decide_eq_true hp
              have hp1 : 0 ≤ p := by omega
              have hp2 : p ≤ 1114111 := by omega
              have hp32 : IntKind.i32.wrap p = p := IntWalk.i32_in _ (by omega)
              have wp1 : IntKind.i64.wrap (p + 1) = p + 1 := IntWalk.i64_in _ (by omega)
              have hlkp : Hid (lk L p = n) := s4.out p (by omega) (by omega)
              have KLp : Hid (∀ (w1 : World), Below wc.heap.size wc w1 → Calls Try.prog 13 #[.pointer (some ⟨T, 0, none⟩), .int .i32 p] w1 fun e w' => e = .returned (.int .i64 n) ∧ Below w1.heap.size w1 w') := fun w1 b1 => by have := KL.out w1 p b1 hp1 hp2; rwa [hlkp.out] at this
              have hql : Hid (wo.heap.size < wi.heap.size) := World.block_lt_of_cell? wi _ q3w.out
              go_wp2_with fail
              refine wp_region_vals (a1 := ?a1rl4) (grown wi) [.pointer (some ⟨T, 0, none⟩), .int .i64 p, .int .i32 p, .int .i64 n, .pointer (some ⟨wo.heap.size, 2, none⟩), .int .i64 n, .bool false] 69 rfl (by kernel_rfl) (by kernel_rfl) (grown_start _) ⟨?o0rl4, ?o1rl4, ?o2rl4, ?o3rl4, ?o4rl4, ?o5rl4, ?o6rl4, trivial⟩ ?harl4 ?hdonerl4
              case harl4 => simp [putAll, Act.put]; exact rfl
              case o0rl4 => exact ValOp.pure (grown_steady _ 0) [(5, .pointer (some ⟨T, 0, none⟩))] rfl (fun _ _ h2 => ⟨(h2 5 (by kernel_rfl)).trans rfl, trivial⟩) (by kernel_rfl) (fun _ _ _ _ _ => by kernel_rfl)
              case o1rl4 => exact ValOp.pure (grown_steady _ 1) [(12, .int .i64 p)] rfl (fun _ _ h2 => ⟨(h2 12 (by kernel_rfl)).trans rfl, trivial⟩) (by kernel_rfl) (fun _ _ _ _ _ => by kernel_rfl)
              case o2rl4 => exact ValOp.pure (grown_steady _ 2) [(54, .int .i64 p)] rfl (fun _ h1 _ => ⟨h1 1 54 (by kernel_rfl), trivial⟩) (by kernel_rfl) (fun _ _ _ _ _ => run_cv21 rfl rfl hp32)
              case o3rl4 => exact ValOp.call (grown_steady _ 3) [(53, .pointer (some ⟨T, 0, none⟩)), (55, .int .i32 p)] rfl (fun _ h1 _ => ⟨h1 0 53 (by kernel_rfl), h1 2 55 (by kernel_rfl), trivial⟩) (by kernel_rfl) 13 #[.pointer (some ⟨T, 0, none⟩), .int .i32 p] (fun _ => by kernel_rfl) (fun _ w1 hg => KLp.out w1 (hB2.out.trans (hg.mono hB2.out.size)))
              case o4rl4 => exact ValOp.pure (grown_steady _ 4) [(11, .pointer (some ⟨wo.heap.size, 0, none⟩))] rfl (fun _ _ h2 => ⟨(h2 11 (by kernel_rfl)).trans rfl, trivial⟩) (by kernel_rfl) (fun _ _ _ _ _ => by kernel_rfl)
              case o5rl4 => exact ValOp.pure (grown_steady _ 5) [(57, .pointer (some ⟨wo.heap.size, 2, none⟩))] rfl (fun _ h1 _ => ⟨h1 4 57 (by kernel_rfl), trivial⟩) (by kernel_rfl) (fun _ _ _ hg _ => run_read rfl rfl (run_l3 ((hg.cell (p := ⟨wo.heap.size, 2, none⟩) hql.out).trans q3w.out)))
              case o6rl4 => exact ValOp.pure (grown_steady _ 6) [(56, .int .i64 n), (58, .int .i64 n)] rfl (fun _ h1 _ => ⟨h1 3 56 (by kernel_rfl), h1 5 58 (by kernel_rfl), trivial⟩) (by kernel_rfl) (fun _ _ _ _ _ => run_bin (a := .int .i64 n) (b := .int .i64 n) rfl rfl rfl (by kernel_rfl) (by simp [go_sem]))
              case hdonerl4 =>
                intro w5 s5 _ hg5
                have q2y : Hid (w5.cell? ⟨wo.heap.size, 1, none⟩ = some (.int .i64 y)) := (hg5.cell (p := ⟨wo.heap.size, 1, none⟩) hql.out).trans q2w.out
                have q3y : Hid (w5.cell? ⟨wo.heap.size, 2, none⟩ = some (.int .i64 n)) := (hg5.cell (p := ⟨wo.heap.size, 2, none⟩) hql.out).trans q3w.out
                have B5 : Hid (Below wc.heap.size wc w5) := hB2.out.trans (hg5.mono hB2.out.size)
                clear hg5 q2x q3w q2w hB2 KLp
                go_wp2
                refine ⟨⟨p + 1, by go_num, by omega, .inr (by omega), q2y, q3y, B5⟩, by simp [intOf]; omega⟩
            · have hpd : decide (p ≤ y) = false := decide_eq_false hp
              go_wp2
              refine ⟨⟨k + 1, by omega, by go_num, hB2⟩, by simp [intOf]; omega⟩
    · have hkk : k = R.length := by omega
      subst hkk
      have hB2 : Hid (Below w.heap.size w wo) := Bc.out.trans (hB.out.mono Bc.out.size)
      go_wp2_with (go_at_call 13; refine (KM.out _ (-1) hB.out (by decide)).mono ?_)
      intro e w1 hq
      first | (obtain ⟨rfl, b1⟩ : _ ∧ _ := hq) | (subst hq; intro b1)
      have B1 : Hid (Below wc.heap.size wc w1) := hB.out.trans (b1.mono hbsz)
      clear b1
      go_wp2_with (go_at_call 13; refine (KM.out _ 1114112 B1.out (by decide)).mono ?_)
      intro e w2 hq
      first | (obtain ⟨rfl, b2⟩ : _ ∧ _ := hq) | (subst hq; intro b2)
      have B2 : Hid (Below w.heap.size w w2) := Bc.out.trans ((B1.out.trans (b2.mono B1.out.size)).mono Bc.out.size)
      clear b2
      go_wp2
      go_ret
      exact ⟨rfl, B2.out⟩
theorem law_all (L : List Rw) (v : Value) (pl : Int) (w : World) (hr : Rd3 .i32 w v L) (hf : fit3 L) (hl : L.length ≤ 8796093022208) : Calls Try.prog 4 #[v, .int .i64 pl] w fun e w' => e = .returned (.bool true) ∧ Below w.heap.size w w' := by
  by_cases h : (chk L).2 = 0
  · exact all_good L v pl w hr hf hl h
  · exact all_bad L v pl w hr hf hl h
end Go.Proofs.Ytookbgmolggohaa
