/-
  The contracts of Place and Within. Conditions: the numbers fit; the lists take no more bytes than there are.
-/
import Derived.Test.YtddoanmhikldiaaAs
import Derived.Test.YtddoanmhikldiaaRu
namespace Go.Proofs.Ytddoanmhikldiaa
open Go.RowKit
theorem run_upto22 (w : World) (g off n c at0 : Nat) (h : at0 ≤ n) (hc : n ≤ c) : (Instr.sliceAt 22 (.slice (some ⟨g, off, none⟩) n c) none (some (.int .i64 (at0 : Int))) none).run Try.prog w = .ok (.slice (some ⟨g, off, none⟩) at0 c) w := by
  have h1 : (at0 : Int) ≤ (c : Int) := by omega
  simp [Instr.sliceAt, Instr.slice, go_sem, run_underlying Try.underlying22, h1]
theorem run_cv21 {w : World} {l : List (Nat × Value)} {o : Oper} {x : Operand} {d : Int} (ho : o.op = .convert 21 3 x) (hx : rho l x = .int .i32 d) (hd : IntKind.i64.wrap d = d) : (execOp (rho l) o).run Try.prog w = .ok (.value (.int .i64 d)) w := by
  unfold execOp
  simp only [ho, hx]
  simp [go_sem, hd]
set_option maxRecDepth 100000 in
set_option maxHeartbeats 1000000 in
theorem Place_any (L : List Sn) (p : Int) (v : Value) (w : World) (hr : RdS w v L) (hf : fitS L) (hA : isB L = true) (hh : hasB L p = true) : Calls Try.prog 24 #[v, .int .i32 p] w fun e w' => e = .returned (.int .i64 (plL L p)) ∧ Below w.heap.size w w' := by
  have HR : Hid (RdS w v L) := hr
  have HF : Hid (fitS L) := hf
  obtain ⟨la, sa⟩ := isB_iff2.1 hA
  have SA : Hid (isS 0 L = true) := sa
  have hrg := has_range sa hh
  have hH := has_rch sa p
  rw [hh] at hH
  have hH2 := hH.symm
  rw [Bool.and_eq_true, decide_eq_true_eq, decide_eq_true_eq] at hH2
  obtain ⟨a, c, rfl, hlc, hc⟩ := hr
  obtain ⟨g, off, rfl, hd⟩ := hc (by omega)
  have HK : Hid (∀ w1 : World, RdS w1 (.slice (some ⟨g, off, none⟩) L.length c) L → Calls Try.prog 21 #[.slice (some ⟨g, off, none⟩) L.length c, .int .i32 p] w1 fun e w' => e = .returned (.bool true) ∧ Below w1.heap.size w1 w') := fun w1 h => by
    have := Has_any L p _ w1 h HF.out hA
    rwa [hh] at this
  have hle := rch_le L p
  have HP : Hid (plL L p = cntL (L.take (rch L p)) + (p - (L.getD (rch L p) (0, 0)).1)) := rfl
  have hcb := cnt_le (L.take (rch L p)) (fun s hs => (isS_mem sa s (List.mem_of_mem_take hs)).1)
  have hmx := may_iff.1 (isS_mem sa _ (get_mem L (rch L p) hH2.1)).1
  rw [List.length_take] at hcb
  obtain ⟨d1, d2⟩ := hd (rch L p) hH2.1
  have hrd : ∀ j, j < L.length → w.cell? ⟨g, off + j * 2, none⟩ = some (.int .i32 (L.getD j (0, 0)).1) ∧ w.cell? ⟨g, off + j * 2 + 1, none⟩ = some (.int .i32 (L.getD j (0, 0)).2) := hd
  have RT : Hid (RdS w (.slice (some ⟨g, off, none⟩) (rch L p) c) (L.take (rch L p))) := by
    refine ⟨_, c, by rw [List.length_take, Nat.min_eq_left hle], by rw [List.length_take]; omega, fun hp => ⟨g, off, rfl, fun j hj => ?_⟩⟩
    rw [List.length_take] at hj
    have e : (L.take (rch L p)).getD j (0, 0) = L.getD j (0, 0) := by
      simp [List.getD, show j < rch L p by omega]
    rw [e]
    exact hrd j (by omega)
  have KT : Hid (∀ s ∈ L.take (rch L p), mayB s = true) := fun s hs => (isS_mem sa s (List.mem_of_mem_take hs)).1
  have HRC : Hid (∀ w1 : World, RdS w1 (.slice (some ⟨g, off, none⟩) L.length c) L → Calls Try.prog 43 #[.slice (some ⟨g, off, none⟩) L.length c, .int .i32 p] w1 fun e w' => e = .returned (.int .i64 (rch L p : Nat)) ∧ Below w1.heap.size w1 w') := fun w1 h => reaching_any L p _ w1 h SA.out (by omega)
  have KCC : Hid (∀ w1 : World, RdS w1 (.slice (some ⟨g, off, none⟩) (rch L p) c) (L.take (rch L p)) → Calls Try.prog 41 #[.slice (some ⟨g, off, none⟩) (rch L p) c] w1 fun e w' => e = .returned (.int .i64 (cntL (L.take (rch L p)))) ∧ Below w1.heap.size w1 w') := fun w1 h => count_any _ _ w1 h KT.out (by rw [List.length_take]; omega)
  have hrl := hH2.1
  have hxp := hH2.2
  clear hc hd hrd hf sa hH hH2 hh KT
  generalize rch L p = r at *
  generalize L.getD r (0, 0) = s at *
  obtain ⟨x, y⟩ := s
  generalize hck : cntL (L.take r) = ck at *
  obtain ⟨m1, m2, m3⟩ := hmx
  simp only at m1 m2 m3 hxp
  have hsb : IntKind.i32.wrap (p - x) = p - x := IntWalk.i32_in _ (by omega)
  have hcv : IntKind.i64.wrap (p - x) = p - x := IntWalk.i64_in _ (by omega)
  have had : IntKind.i64.wrap (ck + (p - x)) = ck + (p - x) := IntWalk.i64_in _ (by omega)
  have g1 := World.block_lt_of_cell? w _ d1
  have D1 : Hid (w.cell? ⟨g, off + r * 2, none⟩ = some (.int .i32 x)) := d1
  clear d1 d2 hck
  go_enter Try.func24, Try.ntmps24
  go_wp2_with fail
  refine (HK.out w HR.out).mono ?_
  rintro e w1 ⟨rfl, b1⟩
  have B1 : Hid (Below w.heap.size w w1) := b1
  clear b1
  go_wp2_with fail
  refine (HRC.out w1 (HR.out.below B1.out)).mono ?_
  rintro e w2 ⟨rfl, b2⟩
  have B2 : Hid (Below w.heap.size w w2) := B1.out.trans (b2.mono B1.out.size)
  have hE : Hid (∀ w3 : World, Below w2.heap.size w2 w3 → w3.cell? ⟨g, off + r * 2, none⟩ = some (.int .i32 x)) := fun w3 hb => ((B2.out.trans (hb.mono B2.out.size)).cell (p := ⟨g, off + r * 2, none⟩) (by simpa using g1)).trans D1.out
  have KC : Hid (∀ w3 : World, Below w2.heap.size w2 w3 → Calls Try.prog 41 #[.slice (some ⟨g, off, none⟩) r c] w3 fun e w' => e = .returned (.int .i64 ck) ∧ Below w3.heap.size w3 w') := fun w3 hb => KCC.out w3 (RT.out.below (B2.out.trans (hb.mono B2.out.size)))
  clear b2
  go_wp2_with fail
  refine wp_region_vals (a1 := ?a1r4n1) (grown _) [.slice (some ⟨g, off, none⟩) (L.length) (c), .int .i64 (r : Int), .slice (some ⟨g, off, none⟩) r c, .int .i64 ck, .int .i32 p, .slice (some ⟨g, off, none⟩) (L.length) (c), .int .i64 (r : Int), .pointer (some ⟨g, off + r * 2, none⟩), .pointer (some ⟨g, off + r * 2, none⟩), .int .i32 x, .int .i32 (p - x), .int .i64 (p - x), .int .i64 (ck + (p - x)), .int .i64 (ck + (p - x))] 26 rfl (by kernel_rfl) (by kernel_rfl) (grown_start _) ⟨?o0r4n1, ?o1r4n1, ?o2r4n1, ?o3r4n1, ?o4r4n1, ?o5r4n1, ?o6r4n1, ?o7r4n1, ?o8r4n1, ?o9r4n1, ?o10r4n1, ?o11r4n1, ?o12r4n1, ?o13r4n1, trivial⟩ ?har4n1 ?hdoner4n1
  case har4n1 => simp [putAll, Act.put]; exact rfl
  case o0r4n1 => exact ValOp.pure (grown_steady _ 0) [(0, .slice (some ⟨g, off, none⟩) (L.length) (c))] rfl (fun _ _ h2 => ⟨(h2 0 (by kernel_rfl)).trans rfl, trivial⟩) (by kernel_rfl) (fun _ _ _ _ _ => by kernel_rfl)
  case o1r4n1 => exact ValOp.pure (grown_steady _ 1) [(5, .int .i64 (r : Int))] rfl (fun _ _ h2 => ⟨(h2 5 (by kernel_rfl)).trans rfl, trivial⟩) (by kernel_rfl) (fun _ _ _ _ _ => by kernel_rfl)
  case o2r4n1 => exact ValOp.pure (grown_steady _ 2) [(13, .slice (some ⟨g, off, none⟩) (L.length) (c)), (14, .int .i64 (r : Int))] rfl (fun _ h1 _ => ⟨h1 0 13 (by kernel_rfl), h1 1 14 (by kernel_rfl), trivial⟩) (by kernel_rfl) (fun _ _ _ hg _ => run_slc rfl (run_upto22 _ g off L.length c r (Nat.le_of_lt hrl) hlc))
  case o3r4n1 => exact ValOp.call (grown_steady _ 3) [(15, .slice (some ⟨g, off, none⟩) r c)] rfl (fun _ h1 _ => ⟨h1 2 15 (by kernel_rfl), trivial⟩) (by kernel_rfl) 41 #[.slice (some ⟨g, off, none⟩) r c] (fun _ => by kernel_rfl) (fun _ w1 hg => KC.out w1 hg)
  case o4r4n1 => exact ValOp.pure (grown_steady _ 4) [(1, .int .i32 p)] rfl (fun _ _ h2 => ⟨(h2 1 (by kernel_rfl)).trans rfl, trivial⟩) (by kernel_rfl) (fun _ _ _ _ _ => by kernel_rfl)
  case o5r4n1 => exact ValOp.pure (grown_steady _ 5) [(0, .slice (some ⟨g, off, none⟩) (L.length) (c))] rfl (fun _ _ h2 => ⟨(h2 0 (by kernel_rfl)).trans rfl, trivial⟩) (by kernel_rfl) (fun _ _ _ _ _ => by kernel_rfl)
  case o6r4n1 => exact ValOp.pure (grown_steady _ 6) [(5, .int .i64 (r : Int))] rfl (fun _ _ h2 => ⟨(h2 5 (by kernel_rfl)).trans rfl, trivial⟩) (by kernel_rfl) (fun _ _ _ _ _ => by kernel_rfl)
  case o7r4n1 => exact ValOp.pure (grown_steady _ 7) [(18, .slice (some ⟨g, off, none⟩) (L.length) (c)), (19, .int .i64 (r : Int))] rfl (fun _ h1 _ => ⟨h1 5 18 (by kernel_rfl), h1 6 19 (by kernel_rfl), trivial⟩) (by kernel_rfl) (fun _ _ _ hg _ => run_ia_22 rfl rfl rfl hrl)
  case o8r4n1 => exact ValOp.pure (grown_steady _ 8) [(20, .pointer (some ⟨g, off + r * 2, none⟩))] rfl (fun _ h1 _ => ⟨h1 7 20 (by kernel_rfl), trivial⟩) (by kernel_rfl) (fun _ _ _ _ _ => by kernel_rfl)
  case o9r4n1 => exact ValOp.pure (grown_steady _ 9) [(21, .pointer (some ⟨g, off + r * 2, none⟩))] rfl (fun _ h1 _ => ⟨h1 8 21 (by kernel_rfl), trivial⟩) (by kernel_rfl) (fun _ _ _ hg _ => run_read rfl rfl (run_l21 (hE.out _ hg)))
  case o10r4n1 => exact ValOp.pure (grown_steady _ 10) [(17, .int .i32 p), (22, .int .i32 x)] rfl (fun _ h1 _ => ⟨h1 4 17 (by kernel_rfl), h1 9 22 (by kernel_rfl), trivial⟩) (by kernel_rfl) (fun _ _ _ _ _ => run_bin (a := .int .i32 p) (b := .int .i32 x) rfl rfl rfl (by kernel_rfl) (by simp [go_sem, hsb]))
  case o11r4n1 => exact ValOp.pure (grown_steady _ 11) [(23, .int .i32 (p - x))] rfl (fun _ h1 _ => ⟨h1 10 23 (by kernel_rfl), trivial⟩) (by kernel_rfl) (fun _ _ _ hg _ => run_cv21 rfl rfl hcv)
  case o12r4n1 => exact ValOp.pure (grown_steady _ 12) [(16, .int .i64 ck), (24, .int .i64 (p - x))] rfl (fun _ h1 _ => ⟨h1 3 16 (by kernel_rfl), h1 11 24 (by kernel_rfl), trivial⟩) (by kernel_rfl) (fun _ _ _ _ _ => run_bin (a := .int .i64 ck) (b := .int .i64 (p - x)) rfl rfl rfl (by kernel_rfl) (by simp [go_sem, had]))
  case o13r4n1 => exact ValOp.pure (grown_steady _ 13) [(25, .int .i64 (ck + (p - x)))] rfl (fun _ h1 _ => ⟨h1 12 25 (by kernel_rfl), trivial⟩) (by kernel_rfl) (fun _ _ _ _ _ => by kernel_rfl)
  case hdoner4n1 =>
    intro w3 s3 hs3 hg3
    have B3 : Hid (Below w.heap.size w w3) := B2.out.trans (Below.mono hg3 B2.out.size)
    clear hs3 hg3
    go_wp2
    go_ret
    exact ⟨by rw [HP.out]; rfl, B3.out⟩
set_option maxRecDepth 100000 in
set_option maxHeartbeats 1000000 in
theorem Within_any (A B : List Sn) (va vb : Value) (w : World) (ha : RdS w va A) (hb : RdS w vb B) (hfa : fitS A) (hfb : fitS B) (hla : A.length ≤ 17592186044416) (hlb : B.length ≤ 17592186044416) : Calls Try.prog 26 #[va, vb] w fun e w' => ∃ b, e = .returned (.bool b) ∧ ((isB A && isB B) = false → b = false) ∧ ((isB A && isB B) = true → ∀ S, isS 0 S = true → (∀ p, hasB S p = (hasB A p && !hasB B p)) → b = decide (S.length = 0)) ∧ Below w.heap.size w w' := by
  have HA : Hid (RdS w va A) := ha
  have HB : Hid (RdS w vb B) := hb
  have HFB : Hid (fitS B) := hfb
  have HFA : Hid (fitS A) := hfa
  clear ha hfa hb hfb
  go_enter Try.func26, Try.ntmps26
  go_wp2_with fail
  refine (is_any A va w HA.out HFA.out (by omega)).mono ?_
  rintro e w1 ⟨rfl, b1⟩
  have B1 : Hid (Below w.heap.size w w1) := b1
  clear b1
  cases hA : isB A
  · go_wp2
    go_ret
    exact ⟨_, rfl, fun _ => rfl, fun h => by simp [hA] at h, B1.out⟩
  · go_wp2_with fail
    refine (is_any B vb w1 (HB.out.below B1.out) HFB.out (by omega)).mono ?_
    rintro e w2 ⟨rfl, b2⟩
    have B2 : Hid (Below w.heap.size w w2) := B1.out.trans (b2.mono B1.out.size)
    clear b2
    cases hB : isB B
    · go_wp2
      go_ret
      exact ⟨_, rfl, fun _ => rfl, fun h => by simp [hB] at h, B2.out⟩
    · obtain ⟨la, sa⟩ := isB_iff.1 hA
      obtain ⟨lb, sb⟩ := isB_iff.1 hB
      have SA : Hid (isS 0 A = true) := sa
      have SB : Hid (isS 0 B = true) := sb
      clear sa sb
      go_wp2_with fail
      refine (rest_any B vb w2 (HB.out.below B2.out) SB.out (by omega)).mono ?_
      rintro e w25 ⟨v25, rfl, o25, b25⟩
      have O25 : Hid (RdS w25 v25 (restL 0 B)) := RdS.of_owns o25
      have B25 : Hid (Below w.heap.size w w25) := B2.out.trans (b25.mono B2.out.size)
      have RS := rest_set B 0 (by decide) SB.out
      have RL := rest_len B 0
      clear o25 b25
      generalize restL 0 B = R at *
      go_wp2_with fail
      refine (common_any A R va v25 w25 (HA.out.below B25.out) O25.out (by omega) (by omega)).mono ?_
      rintro e w3 ⟨v3, rfl, o3, b3⟩
      have SET := common_set _ A R 0 0 (Nat.le_refl _) SA.out RS.1
      have LEN := common_len _ A R (Nat.le_refl _)
      generalize commonL A R = S at *
      have HS : Hid (isS 0 S = true) := SET.1
      have HH : Hid (∀ p, hasB S p = (hasB A p && !hasB B p)) := fun p => by rw [SET.2 p, RS.2 p, minus_has SA.out]
      have B3 : Hid (Below w.heap.size w w3) := B25.out.trans (b3.mono B25.out.size)
      obtain ⟨a3, c3, rfl, _, _⟩ := owns_slice o3
      have hSl : S.length ≤ 1000000 := by omega
      clear o3 b3 LEN SET RS RL
      by_cases h0 : S.length = 0
      · have HF : Hid (∀ T, isS 0 T = true → (∀ p, hasB T p = (hasB A p && !hasB B p)) → T.length = 0) := fun T t1 t2 => by rw [uniq t1 HS.out (fun p => by rw [t2, HH.out])]; exact h0
        rw [h0]
        go_wp2
        go_ret
        exact ⟨_, rfl, fun h => by simp [hA, hB] at h, fun _ T t1 t2 => by rw [decide_eq_true (HF.out T t1 t2)], B3.out⟩
      · have HF : Hid (∀ T, isS 0 T = true → (∀ p, hasB T p = (hasB A p && !hasB B p)) → ¬ T.length = 0) := fun T t1 t2 => by rw [uniq t1 HS.out (fun p => by rw [t2, HH.out])]; exact h0
        have h1 : ((S.length : Int) == 0) = false := by simp; intro h; exact h0 (by rw [h]; rfl)
        clear h0
        go_wp2
        go_ret
        exact ⟨_, rfl, fun h => by simp [hA, hB] at h, fun _ T t1 t2 => by rw [decide_eq_false (HF.out T t1 t2)], B3.out⟩
end Go.Proofs.Ytddoanmhikldiaa
