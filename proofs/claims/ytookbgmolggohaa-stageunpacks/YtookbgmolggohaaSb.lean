/-
  The iterator over stretches, walked: it hands over the longest stretches of which one thing is said, one behind the other. Conditions: the span lies within all code points; what is said can be asked at any time.
-/
import Derived.Test.YtookbgmolggohaaSi
namespace Go.Proofs.Ytookbgmolggohaa
open Go.RowKit Go.Shelf
attribute [local go_sem] Oper.semAt_some
set_option maxRecDepth 100000 in
set_option maxHeartbeats 2000000 in
theorem sb_in (n l Bw Bs n₀ B L : Nat) (A E : Int) (F : Int → Int) (Bt Bq : Nat) (eb : Int → Bool) (J Jx : List Rw → World → Prop) (hA0 : 0 ≤ A) (hAE : A ≤ E) (hE : E ≤ 1114111) (heb : ∀ q q' : Int, F q ≠ F q' → (eb (F q) == eb (F q')) = false)
    (W : World) (hJ : ∀ s W1 W2, J s W1 → W1.grownBy W2 none → J s W2)
    (hY : ∀ pre (r : Rw) W, J pre W → pre.length < (E + 1 - A).toNat → YieldAt Fence.wide (n - 1) Try.prog l #[.agg #[.int .i32 r.1, .int .i32 r.2.1], .bool (eb (r.2.2))] W fun e W' =>
      (e = .returned (.bool true) ∧ J (pre ++ [r]) W' ∧ KpR n₀ B L W W') ∨ (e = .returned (.bool false) ∧ Jx (pre ++ [r]) W'))
    (hS : ∀ (W1 : World) (p : Int), Below n₀ W W1 → A ≤ p → p ≤ E → Calls Try.prog 53 #[.int .i32 (p), .pointer (some ⟨Bt, 0, none⟩), .pointer (some ⟨Bq, 0, none⟩)] W1 fun e w' => e = .returned (.bool (eb (F p))) ∧ Below W1.heap.size W1 w')
    (hBw : W.heap[Bw]? = some (.cells #[.int .i32 A, .int .i32 E] 88 (0, 0))) (hBs : W.heap[Bs]? = some (.cells #[.func (.func 53) #[] #[.pointer (some ⟨Bt, 0, none⟩), .pointer (some ⟨Bq, 0, none⟩)]] 69 (0, 0))) (hLw : L ≤ Bw) (hLs : L ≤ Bs) (hn1 : n₀ ≤ W.heap.size) (hB : B < W.heap.size) (hr0 : rowAt W B = none) (h0 : J [] W) :
    CallsIn Fence.wide n Try.prog 58 #[.func (.yield l) #[] #[], .pointer (some ⟨Bw, 0, none⟩), .pointer (some ⟨Bs, 0, none⟩)] W fun e W' => (∃ v, e = .returned v) ∧
      ((∃ ys, Rn F A ys (E + 1) ∧ J ys W') ∨ (∃ pre, pre.length ≤ (E + 1 - A).toNat ∧ Jx pre W')) := by
  refine callsIn_of_wp Try.func58 rfl trivial ?_ rfl
  simp only [Try.ntmps58, List.size_toArray, List.length_cons, List.length_nil, Nat.reduceAdd, Nat.reduceSub, Array.replicate_succ, Array.replicate_zero, List.push_toArray, List.append_toArray, List.nil_append, List.cons_append]
  gi_wp2_with fail
  refine wpIn_wide.2 (wp_region_vals (a1 := ?a1r0) (grown W) [.pointer (some ⟨Bw, 0, none⟩), .int .i32 A, .func (.func 53) #[] #[.pointer (some ⟨Bt, 0, none⟩), .pointer (some ⟨Bq, 0, none⟩)], .pointer (some ⟨Bw, 0, none⟩), .int .i32 A, .bool (eb (F A)), .int .i32 A, .bool (eb (F A))] 46 rfl (by kernel_rfl) (by kernel_rfl) (grown_start _) ⟨?o0r0, ?o1r0, ?o2r0, ?o3r0, ?o4r0, ?o5r0, ?o6r0, ?o7r0, trivial⟩ ?har0 ?hdoner0)
  case har0 => simp [putAll, Act.put]; exact rfl
  case o0r0 => exact ValOp.pure (grown_steady _ 0) [(1, .pointer (some ⟨Bw, 0, none⟩))] rfl (fun _ _ h2 => ⟨(h2 1 (by kernel_rfl)).trans rfl, trivial⟩) (by kernel_rfl) (fun _ _ _ _ _ => by kernel_rfl)
  case o1r0 => exact ValOp.pure (grown_steady _ 1) [(8, .pointer (some ⟨Bw, 0, none⟩))] rfl (fun _ h1 _ => ⟨h1 0 8 (by kernel_rfl), trivial⟩) (by kernel_rfl) (fun _ _ _ hg _ => run_read rfl rfl (run_cell ((hg.block Bw (Array.getElem?_eq_some_iff.1 hBw).1).trans hBw) rfl (isAgg21 _)))
  case o2r0 => exact ValOp.pure (grown_steady _ 2) [(2, .pointer (some ⟨Bs, 0, none⟩))] rfl (fun _ _ h2 => ⟨(h2 2 (by kernel_rfl)).trans rfl, trivial⟩) (by kernel_rfl) (fun _ _ _ hg _ => run_read rfl rfl (run_cell ((hg.block Bs (Array.getElem?_eq_some_iff.1 hBs).1).trans hBs) rfl (isAgg69 _)))
  case o3r0 => exact ValOp.pure (grown_steady _ 3) [(1, .pointer (some ⟨Bw, 0, none⟩))] rfl (fun _ _ h2 => ⟨(h2 1 (by kernel_rfl)).trans rfl, trivial⟩) (by kernel_rfl) (fun _ _ _ _ _ => by kernel_rfl)
  case o4r0 => exact ValOp.pure (grown_steady _ 4) [(11, .pointer (some ⟨Bw, 0, none⟩))] rfl (fun _ h1 _ => ⟨h1 3 11 (by kernel_rfl), trivial⟩) (by kernel_rfl) (fun _ _ _ hg _ => run_read rfl rfl (run_cell ((hg.block Bw (Array.getElem?_eq_some_iff.1 hBw).1).trans hBw) rfl (isAgg21 _)))
  case o5r0 => exact ValOp.call (grown_steady _ 5) [(10, .func (.func 53) #[] #[.pointer (some ⟨Bt, 0, none⟩), .pointer (some ⟨Bq, 0, none⟩)]), (12, .int .i32 A)] rfl (fun _ h1 _ => ⟨h1 2 10 (by kernel_rfl), h1 4 12 (by kernel_rfl), trivial⟩) (by kernel_rfl) 53 #[.int .i32 (A), .pointer (some ⟨Bt, 0, none⟩), .pointer (some ⟨Bq, 0, none⟩)] (fun _ => by kernel_rfl) (fun _ w1 hg => hS w1 A (hg.mono hn1) (Int.le_refl _) hAE)
  case o6r0 => exact ValOp.pure (grown_steady _ 6) [(9, .int .i32 A)] rfl (fun _ h1 _ => ⟨h1 1 9 (by kernel_rfl), trivial⟩) (by kernel_rfl) (fun _ _ _ _ _ => by kernel_rfl)
  case o7r0 => exact ValOp.pure (grown_steady _ 7) [(13, .bool (eb (F A)))] rfl (fun _ h1 _ => ⟨h1 5 13 (by kernel_rfl), trivial⟩) (by kernel_rfl) (fun _ _ _ _ _ => by kernel_rfl)
  case hdoner0 =>
    intro w1 s1 _ hg1
    have HY : Hid (∀ pre (r : Rw) W, J pre W → pre.length < (E + 1 - A).toNat → YieldAt Fence.wide (n - 1) Try.prog l #[.agg #[.int .i32 r.1, .int .i32 r.2.1], .bool (eb (r.2.2))] W fun e W' =>
      (e = .returned (.bool true) ∧ J (pre ++ [r]) W' ∧ KpR n₀ B L W W') ∨ (e = .returned (.bool false) ∧ Jx (pre ++ [r]) W')) := hY
    have HS : Hid (∀ (W1 : World) (p : Int), Below n₀ W W1 → A ≤ p → p ≤ E → Calls Try.prog 53 #[.int .i32 (p), .pointer (some ⟨Bt, 0, none⟩), .pointer (some ⟨Bq, 0, none⟩)] W1 fun e w' => e = .returned (.bool (eb (F p))) ∧ Below W1.heap.size W1 w') := hS
    have HJ : Hid (∀ s W1 W2, J s W1 → W1.grownBy W2 none → J s W2) := hJ
    have HEB : Hid (∀ q q' : Int, F q ≠ F q' → (eb (F q) == eb (F q')) = false) := heb
    have HJ1 : Hid (J [] w1) := hJ _ _ _ h0 (grown_of hg1)
    have HB1 : Hid (Below n₀ W w1) := hg1.mono hn1
    have HBw : Hid (w1.heap[Bw]? = some (.cells #[.int .i32 A, .int .i32 E] 88 (0, 0))) := below_at hBw hg1
    have HBs : Hid (w1.heap[Bs]? = some (.cells #[.func (.func 53) #[] #[.pointer (some ⟨Bt, 0, none⟩), .pointer (some ⟨Bq, 0, none⟩)]] 69 (0, 0))) := below_at hBs hg1
    have hr1 : rowAt w1 B = none := (rowAt_same (hg1.block B hB)).trans hr0
    have HR1 : Hid (RowAbove B w1) := fun g hg => by rw [hr1] at hg; cases hg
    have HR2 : Hid (∀ g, rowAt w1 B = some g → W.heap.size ≤ g) := fun g hg => by rw [hr1] at hg; cases hg
    have HZ1 : Hid (W.heap.size ≤ w1.heap.size) := hg1.size
    have HLT : Hid (Bw < W.heap.size ∧ Bs < W.heap.size) := ⟨(Array.getElem?_eq_some_iff.1 hBw).1, (Array.getElem?_eq_some_iff.1 hBs).1⟩
    have HN1 : Hid (n₀ ≤ W.heap.size) := hn1
    have HLL : Hid (L ≤ Bw ∧ L ≤ Bs) := ⟨hLw, hLs⟩
    have HBB : Hid (B < W.heap.size) := hB
    have wA : IntKind.i32.wrap (A + 1) = A + 1 := IntWalk.i32_in _ (by omega)
    have cw := (cell_of_row w1 Bw 0 _ 88 (0, 0) HBw.out).trans rfl
    clear hY hS hJ h0 hBw hBs hg1 hr1 hr0 hLw hLs hn1 hB
    gi_wp2_with fail
    clear cw wA
    gi_loopw [4, 5, 6] (fun x y z wr => ∃ (fr p now : Int) (pre : List Rw), x = .int .i32 fr ∧ y = .bool (eb (now)) ∧ z = .int .i32 p ∧ A ≤ fr ∧ fr < p ∧ p ≤ E + 1 ∧ Hid (Way F A fr p now pre) ∧ Hid (J pre wr) ∧ Hid (Below n₀ W wr) ∧ Hid (wr.heap[Bw]? = some (.cells #[.int .i32 A, .int .i32 E] 88 (0, 0))) ∧ Hid (wr.heap[Bs]? = some (.cells #[.func (.func 53) #[] #[.pointer (some ⟨Bt, 0, none⟩), .pointer (some ⟨Bq, 0, none⟩)]] 69 (0, 0))) ∧ Hid (RowAbove B wr) ∧ Hid (∀ g, rowAt wr B = some g → W.heap.size ≤ g) ∧ Hid (W.heap.size ≤ wr.heap.size)) (fun _ _ z _ => (E + 1 - intOf z).toNat)
    case atStart => exact ⟨A, A + 1, F A, [], rfl, rfl, rfl, Int.le_refl _, by omega, by omega, ⟨rfl, by omega, fun q q1 q2 => by rw [show q = A by omega], .inl rfl⟩, HJ1, HB1, HBw, HBs, HR1, HR2, HZ1⟩
    case round =>
      obtain ⟨fr, p, now, pre, rfl, rfl, rfl, f0, f1, f2, hW, hJ, hB, hBw, hBs, hRA, hRH, hZ⟩ := hrel
      have cE := (cell_of_row wr Bw 1 _ 88 (0, 0) hBw.out).trans rfl
      have cS := (cell_of_row wr Bs 0 _ 69 (0, 0) hBs.out).trans rfl

      by_cases hp : p ≤ E
      · have hpd : decide (p ≤ E) = true := decide_eq_true hp
        gi_wp2_with fail
        refine ⟨trivial, fun h => (by cases h), ?_⟩
        refine (callsIn_wide.2 (HS.out wr p hB.out (by omega) hp)).mono ?_
        rintro e w2 ⟨rfl, b2⟩
        have hlt := HLT.out
        have hzr := hZ.out
        have J2 : Hid (J pre w2) := HJ.out _ _ _ hJ.out (grown_of b2)
        have B2 : Hid (Below n₀ W w2) := hB.out.trans (b2.mono (by have := HN1.out; omega))
        have Bw2 : Hid (w2.heap[Bw]? = some (.cells #[.int .i32 A, .int .i32 E] 88 (0, 0))) := below_at hBw.out b2
        have Bs2 : Hid (w2.heap[Bs]? = some (.cells #[.func (.func 53) #[] #[.pointer (some ⟨Bt, 0, none⟩), .pointer (some ⟨Bq, 0, none⟩)]] 69 (0, 0))) := below_at hBs.out b2
        have hrw : rowAt w2 B = rowAt wr B := rowAt_same (b2.block B (by have := HBB.out; omega))
        have RA2 : Hid (RowAbove B w2) := fun g hg => by rw [hrw] at hg; have := hRA.out g hg; have := b2.size; omega
        have RH2 : Hid (∀ g, rowAt w2 B = some g → W.heap.size ≤ g) := fun g hg => by rw [hrw] at hg; exact hRH.out g hg
        have Z2 : Hid (W.heap.size ≤ w2.heap.size) := by rw [Hid]; have := b2.size; omega
        have wp1 : IntKind.i32.wrap (p + 1) = p + 1 := IntWalk.i32_in _ (by omega)
        clear b2 hrw hJ hB hBw hBs hRA hRH hZ hlt hzr
        by_cases hq : F p = now
        · have heq : (eb (F p) == eb now) = true := by rw [hq]; simp
          have HW2 : Hid (Way F A fr (p + 1) now pre) := hW.out.stay hq
          clear hq hW
          gi_wp2
          go_roundw
          case rel => exact ⟨fr, p + 1, now, pre, rfl, rfl, by first | rfl | go_num, by omega, by omega, by omega, HW2, J2, B2, Bw2, Bs2, RA2, RH2, Z2⟩
          case measure => simp [intOf]; omega
        · have heq : (eb (F p) == eb now) = false := by have h1 := hW.out.same fr (by omega) (by omega); rw [← h1] at hq ⊢; exact HEB.out _ _ hq
          have hln : pre.length < (E + 1 - A).toNat := by have := hW.out.done.len; omega
          obtain ⟨fn, tmps, assign, body, hy, hR⟩ := HY.out pre (fr, p - 1, now) w2 J2.out hln
          simp only at hy hR
          have HW2 : Hid (Way F A p (p + 1) (F p) (pre ++ [(fr, p - 1, now)])) := hW.out.turn hq
          have wp2 : IntKind.i32.wrap (p - 1) = p - 1 := IntWalk.i32_in _ (by omega)
          have HLN : Hid (pre.length < (E + 1 - A).toNat) := hln
          clear hq hW hln
          gi_wp2
          refine ⟨fun h => (by cases h), hR.mono ?_⟩
          rintro e W3 (⟨rfl, hJ3, hk3⟩ | ⟨rfl, hJx3⟩)
          · obtain ⟨z1, z3, z4, z5⟩ := hk3 RA2.out
            have J3 : Hid (J (pre ++ [(fr, p - 1, now)]) W3) := hJ3
            have B3 : Hid (Below n₀ W W3) := B2.out.trans z1
            have hlt := HLT.out
            have hnw : rowAt w2 B ≠ some Bw := fun h => by have := RH2.out _ h; omega
            have hns : rowAt w2 B ≠ some Bs := fun h => by have := RH2.out _ h; omega
            have Bw3 : Hid (W3.heap[Bw]? = some (.cells #[.int .i32 A, .int .i32 E] 88 (0, 0))) := (z5 _ _ _ _ HLL.out.1 Bw2.out hnw).trans Bw2.out
            have Bs3 : Hid (W3.heap[Bs]? = some (.cells #[.func (.func 53) #[] #[.pointer (some ⟨Bt, 0, none⟩), .pointer (some ⟨Bq, 0, none⟩)]] 69 (0, 0))) := (z5 _ _ _ _ HLL.out.2 Bs2.out hns).trans Bs2.out
            have RA3 : Hid (RowAbove B W3) := z3
            have RH3 : Hid (∀ g, rowAt W3 B = some g → W.heap.size ≤ g) := fun g hg => by
              rcases z4 with h | ⟨g2, h, h'⟩
              · rw [h] at hg; exact RH2.out g hg
              · rw [h] at hg; cases hg; have := Z2.out; omega
            have Z3 : Hid (W.heap.size ≤ W3.heap.size) := by rw [Hid]; have := z1.size; have := Z2.out; omega
            clear z1 z3 z4 z5 hJ3 hk3 hnw hns hlt J2 B2 Bw2 Bs2 RA2 RH2 Z2
            gi_wp2
            go_roundw
            case rel => exact ⟨p, p + 1, F p, pre ++ [(fr, p - 1, now)], rfl, rfl, by first | rfl | go_num, by omega, by omega, by omega, HW2, J3, B3, Bw3, Bs3, RA3, RH3, Z3⟩
            case measure => simp [intOf]; omega
          · gi_wp2
            refine bodyPost_ret (results_none rfl _ _ _) rfl ?_
            exact ⟨⟨_, rfl⟩, .inr ⟨pre ++ [(fr, p - 1, now)], by have := HLN.out; simp; omega, hJx3⟩⟩
      · obtain rfl : p = E + 1 := by omega
        have hln : pre.length < (E + 1 - A).toNat := by have := hW.out.done.len; omega
        obtain ⟨fn, tmps, assign, body, hy, hR⟩ := HY.out pre (fr, E, now) wr hJ.out hln
        simp only at hy hR
        have HW2 : Hid (Rn F A (pre ++ [(fr, E, now)]) (E + 1)) := by
          have := hW.out.put
          rwa [show E + 1 - 1 = E by omega] at this
        have HLN : Hid (pre.length < (E + 1 - A).toNat) := hln
        have hpd : decide (E + 1 ≤ E) = false := decide_eq_false (by omega)
        clear hW hln
        gi_wp2
        refine ⟨fun h => (by cases h), hR.mono ?_⟩
        rintro e W3 (⟨rfl, hJ3, hk3⟩ | ⟨rfl, hJx3⟩)
        · gi_wp2
          go_end0
          exact ⟨⟨_, rfl⟩, .inl ⟨_, HW2.out, hJ3⟩⟩
        · gi_wp2
          go_end0
          exact ⟨⟨_, rfl⟩, .inr ⟨pre ++ [(fr, E, now)], by have := HLN.out; simp; omega, hJx3⟩⟩
end Go.Proofs.Ytookbgmolggohaa
