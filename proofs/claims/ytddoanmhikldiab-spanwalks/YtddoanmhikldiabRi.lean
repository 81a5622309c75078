/-
  The contract of the document's Is: whether a list of spans is a set. Conditions: the numbers fit; the list takes no more bytes than there are.
-/
import Derived.Test.YtddoanmhikldiabIs
import Derived.Test.YtddoanmhikldiabRu
namespace Go.Proofs.Ytddoanmhikldiab
open Go.RowKit
theorem isS_get {L : List Sn} {k : Nat} (hk : 0 < k) (hkl : k < L.length) : isS 0 (L.take (k + 1)) = true ↔ isS 0 (L.take k) = true ∧ mayB (L.getD k (0, 0)) = true ∧ (L.getD (k - 1) (0, 0)).2 + 2 ≤ (L.getD k (0, 0)).1 := by
  rw [take_snoc L k hkl, isS_snoc]
  obtain ⟨m, rfl⟩ : ∃ m, k = m + 1 := ⟨k - 1, by omega⟩
  rw [take_snoc L m (by omega), nxt_snoc]
  rfl
theorem isB_no {L : List Sn} (k : Nat) (h : ¬ isS 0 (L.take k) = true) : isB L = false := by
  rw [isB, Bool.and_eq_false_iff]; right
  rw [Bool.eq_false_iff]; intro h'
  exact h (isS_take k h')
set_option maxRecDepth 100000 in
set_option maxHeartbeats 1000000 in
theorem ris_any (L : List Sn) (v : Value) (w : World) (hr : RdS w v L) (_hf : fitS L) (hl : L.length ≤ 35184372088832) : Calls Try.prog 7 #[v] w fun e w' => e = .returned (.bool (isB L)) ∧ Below w.heap.size w w' := by
  obtain ⟨a, c, rfl, hlc, hc⟩ := hr
  have HC : Hid _ := hc
  clear hc
  go_enter Try.func7, Try.ntmps7
  go_wp2_with fail
  go_loopw [2, 3] (fun _ y wr => ∃ k : Nat, k ≤ L.length ∧ y = .int .i64 (k : Nat) ∧ Hid (isS 0 (L.take k) = true) ∧ Hid (Below w.heap.size w wr)) (fun _ y _ => (L.length - (intOf y).toNat : Nat))
  case atStart => exact ⟨0, Nat.zero_le _, rfl, rfl, Below.refl _ _⟩
  case round =>
    obtain ⟨k, hk, rfl, hS, hB⟩ := hrel
    by_cases hkl : k < L.length
    · obtain ⟨g, off, rfl, hd⟩ := HC.out (by omega)
      have HD : Hid (∀ (w1 : World), Below w.heap.size w w1 → ∀ j, j < L.length → w1.cell? ⟨g, off + j * 2, none⟩ = some (.int .i32 (L.getD j (0, 0)).1) ∧ w1.cell? ⟨g, off + j * 2 + 1, none⟩ = some (.int .i32 (L.getD j (0, 0)).2)) := by
        intro w1 hb j hj
        obtain ⟨d1, d2⟩ := hd j hj
        have g1 := World.block_lt_of_cell? w _ d1
        exact ⟨(hb.cell (p := ⟨g, off + j * 2, none⟩) (by simpa using g1)).trans d1, (hb.cell (p := ⟨g, off + j * 2 + 1, none⟩) (by simpa using g1)).trans d2⟩
      have kl : (k : Int) < (L.length : Int) := by omega
      have hK : Hid _ := fun w1 hb => HD.out w1 hb k hkl
      have hP : Hid (0 < k → ∀ (w1 : World), Below w.heap.size w w1 → w1.cell? ⟨g, off + (k - 1) * 2 + 1, none⟩ = some (.int .i32 (L.getD (k - 1) (0, 0)).2)) := fun h0 w1 hb => (HD.out w1 hb (k - 1) (by omega)).2
      have hG1 : Hid (0 < k → (isS 0 (L.take (k + 1)) = true ↔ isS 0 (L.take k) = true ∧ mayB (L.getD k (0, 0)) = true ∧ (L.getD (k - 1) (0, 0)).2 + 2 ≤ (L.getD k (0, 0)).1)) := fun h0 => isS_get h0 hkl
      have hG2 : Hid (L.take (k + 1) = L.take k ++ [L.getD k (0, 0)]) := take_snoc L k hkl
      have hF : Hid (-2147483648 ≤ (L.getD (k - 1) (0, 0)).2 ∧ (L.getD (k - 1) (0, 0)).2 ≤ 1114111 ∨ k = 0) := by
        by_cases h0 : 0 < k
        · have h1 := isS_mem hS.out (L.getD (k - 1) (0, 0)) (by
            have := take_snoc L (k - 1) (by omega)
            rw [show k - 1 + 1 = k by omega] at this
            rw [this]; simp)
          have := may_iff.1 h1.1
          left; omega
        · right; omega
      clear hd HC HD
      have hbsz := hB.out.size
      generalize L.getD k (0, 0) = s at *
      generalize L.getD (k - 1) (0, 0) = t at *
      obtain ⟨x, y⟩ := s
      obtain ⟨x0, y0⟩ := t
      obtain ⟨e1, e2⟩ := hK.out wr hB.out
      clear e1 e2
      cases hm : mayB (x, y)
      · have hb : Hid (isB L = false) := isB_no (k + 1) (by rw [hG2.out, isS_snoc, hm]; simp)
        have HM2 : Hid (∀ w1 : World, Calls Try.prog 17 #[.agg #[.int .i32 x, .int .i32 y]] w1 fun e w' => e = .returned (.bool false) ∧ Below w1.heap.size w1 w') := fun w1 => by have := rmay_any x y w1; rwa [hm] at this
        clear hm hG1 hG2 hF
        go_wp2_with fail
        refine wp_region_vals (a1 := ?a1r4n1) (grown _) [.slice (some ⟨g, off, none⟩) (L.length) (c), .int .i64 (k : Int), .pointer (some ⟨g, off + k * 2, none⟩), .agg #[.int .i32 x, .int .i32 y], .bool false, .bool true, .bool true, undef, undef, undef, undef, undef, undef, undef, undef, undef, undef, undef, undef, undef, undef, undef, undef, undef, .bool true] 38 rfl (by kernel_rfl) (by kernel_rfl) (grown_start _) ⟨?o0r4n1, ?o1r4n1, ?o2r4n1, ?o3r4n1, ?o4r4n1, ?o5r4n1, ?o6r4n1, ?o7r4n1, ?o8r4n1, ?o9r4n1, ?o10r4n1, ?o11r4n1, ?o12r4n1, ?o13r4n1, ?o14r4n1, ?o15r4n1, ?o16r4n1, ?o17r4n1, ?o18r4n1, ?o19r4n1, ?o20r4n1, ?o21r4n1, ?o22r4n1, ?o23r4n1, ?o24r4n1, trivial⟩ ?har4n1 ?hdoner4n1
        case har4n1 => simp [putAll, Act.put]; exact rfl
        case o0r4n1 => exact ValOp.pure (grown_steady _ 0) [(0, .slice (some ⟨g, off, none⟩) (L.length) (c))] rfl (fun _ _ h2 => ⟨(h2 0 (by kernel_rfl)).trans rfl, trivial⟩) (by kernel_rfl) (fun _ _ _ _ _ => by kernel_rfl)
        case o1r4n1 => exact ValOp.pure (grown_steady _ 1) [(3, .int .i64 (k : Int))] rfl (fun _ _ h2 => ⟨(h2 3 (by kernel_rfl)).trans rfl, trivial⟩) (by kernel_rfl) (fun _ _ _ _ _ => by kernel_rfl)
        case o2r4n1 => exact ValOp.pure (grown_steady _ 2) [(10, .slice (some ⟨g, off, none⟩) (L.length) (c)), (11, .int .i64 (k : Int))] rfl (fun _ h1 _ => ⟨h1 0 10 (by kernel_rfl), h1 1 11 (by kernel_rfl), trivial⟩) (by kernel_rfl) (fun _ _ _ hg _ => run_ia_23 rfl rfl rfl hkl)
        case o3r4n1 => exact ValOp.pure (grown_steady _ 3) [(12, .pointer (some ⟨g, off + k * 2, none⟩))] rfl (fun _ h1 _ => ⟨h1 2 12 (by kernel_rfl), trivial⟩) (by kernel_rfl) (fun _ _ _ hg _ => run_read rfl rfl (run_l58 (hK.out _ (hB.out.trans (hg.mono hbsz))).1 (hK.out _ (hB.out.trans (hg.mono hbsz))).2))
        case o4r4n1 => exact ValOp.call (grown_steady _ 4) [(13, .agg #[.int .i32 x, .int .i32 y])] rfl (fun _ h1 _ => ⟨h1 3 13 (by kernel_rfl), trivial⟩) (by kernel_rfl) 17 #[.agg #[.int .i32 x, .int .i32 y]] (fun _ => by kernel_rfl) (fun _ w _ => HM2.out w)
        case o5r4n1 => exact ValOp.pure (grown_steady _ 5) [(14, .bool false)] rfl (fun _ h1 _ => ⟨h1 4 14 (by kernel_rfl), trivial⟩) (by kernel_rfl) (fun _ _ _ _ _ => by kernel_rfl)
        case o6r4n1 => exact ValOp.pure (grown_steady _ 6) [(15, .bool true)] rfl (fun _ h1 _ => ⟨h1 5 15 (by kernel_rfl), trivial⟩) (by kernel_rfl) (fun _ _ _ _ _ => by kernel_rfl)
        case o7r4n1 => exact ValOp.no (grown_steady _ 7) (.inl ⟨16, _, rfl, rfl, by kernel_rfl, rfl⟩) rfl
        case o8r4n1 => exact ValOp.no (grown_steady _ 8) (.inl ⟨16, _, rfl, rfl, by kernel_rfl, rfl⟩) rfl
        case o9r4n1 => exact ValOp.no (grown_steady _ 9) (.inl ⟨16, _, rfl, rfl, by kernel_rfl, rfl⟩) rfl
        case o10r4n1 => exact ValOp.no (grown_steady _ 10) (.inr ⟨rfl, 19, rfl, rfl, by kernel_rfl⟩) rfl
        case o11r4n1 => exact ValOp.no (grown_steady _ 11) (.inr ⟨rfl, 19, rfl, rfl, by kernel_rfl⟩) rfl
        case o12r4n1 => exact ValOp.no (grown_steady _ 12) (.inr ⟨rfl, 19, rfl, rfl, by kernel_rfl⟩) rfl
        case o13r4n1 => exact ValOp.no (grown_steady _ 13) (.inr ⟨rfl, 19, rfl, rfl, by kernel_rfl⟩) rfl
        case o14r4n1 => exact ValOp.no (grown_steady _ 14) (.inr ⟨rfl, 19, rfl, rfl, by kernel_rfl⟩) rfl
        case o15r4n1 => exact ValOp.no (grown_steady _ 15) (.inr ⟨rfl, 19, rfl, rfl, by kernel_rfl⟩) rfl
        case o16r4n1 => exact ValOp.no (grown_steady _ 16) (.inr ⟨rfl, 19, rfl, rfl, by kernel_rfl⟩) rfl
        case o17r4n1 => exact ValOp.no (grown_steady _ 17) (.inr ⟨rfl, 19, rfl, rfl, by kernel_rfl⟩) rfl
        case o18r4n1 => exact ValOp.no (grown_steady _ 18) (.inr ⟨rfl, 19, rfl, rfl, by kernel_rfl⟩) rfl
        case o19r4n1 => exact ValOp.no (grown_steady _ 19) (.inr ⟨rfl, 19, rfl, rfl, by kernel_rfl⟩) rfl
        case o20r4n1 => exact ValOp.no (grown_steady _ 20) (.inr ⟨rfl, 19, rfl, rfl, by kernel_rfl⟩) rfl
        case o21r4n1 => exact ValOp.no (grown_steady _ 21) (.inr ⟨rfl, 19, rfl, rfl, by kernel_rfl⟩) rfl
        case o22r4n1 => exact ValOp.no (grown_steady _ 22) (.inr ⟨rfl, 19, rfl, rfl, by kernel_rfl⟩) rfl
        case o23r4n1 => exact ValOp.no (grown_steady _ 23) (.inl ⟨16, _, rfl, rfl, by kernel_rfl, rfl⟩) rfl
        case o24r4n1 => exact ValOp.pure (grown_steady _ 24) [(16, .bool true), (33, undef)] rfl (fun _ h1 _ => ⟨h1 6 16 (by kernel_rfl), h1 23 33 (by kernel_rfl), trivial⟩) (by kernel_rfl) (fun _ _ _ _ _ => by kernel_rfl)
        case hdoner4n1 =>
          intro w1 s1 hs1 hg1
          have B2 : Hid (Below w.heap.size w w1) := hB.out.trans (Below.mono hg1 hbsz)
          clear hg1 hs1
          go_wp2
          go_ret
          exact ⟨by rw [hb.out]; rfl, B2.out⟩
      · have hm' := may_iff.1 hm
        simp only at hm'
        have HM2 : Hid (∀ w1 : World, Calls Try.prog 17 #[.agg #[.int .i32 x, .int .i32 y]] w1 fun e w' => e = .returned (.bool true) ∧ Below w1.heap.size w1 w') := fun w1 => by have := rmay_any x y w1; rwa [hm] at this
        by_cases h0 : 0 < k
        · have HP0 : Hid (0 < k) := h0
          have k1 : (0 : Int) < (k : Int) := by omega
          have hy : -2147483648 ≤ y0 ∧ y0 ≤ 1114111 := by have := hF.out; omega
          have hy1 : IntKind.i32.wrap (y0 + 1) = y0 + 1 := IntWalk.i32_in _ (by omega)
          have hsub : IntKind.i64.wrap ((k : Int) - 1) = ((k - 1 : Nat) : Int) := by rw [IntWalk.i64_in _ (by omega)]; omega
          have hkl1 : k - 1 < L.length := by omega
          by_cases h1 : x ≤ y0 + 1
          · have hb : Hid (isB L = false) := isB_no (k + 1) (by rw [hG1.out h0]; rintro ⟨_, _, h⟩; simp only at h; omega)
            have hle : decide (x ≤ y0 + 1) = true := decide_eq_true h1
            clear hm hG1 hG2 hF hm' h0 h1
            go_wp2_with fail
            refine wp_region_vals (a1 := ?a1r4n2) (grown _) [.slice (some ⟨g, off, none⟩) (L.length) (c), .int .i64 (k : Int), .pointer (some ⟨g, off + k * 2, none⟩), .agg #[.int .i32 x, .int .i32 y], .bool true, .bool false, .bool false, .int .i64 (k : Int), .bool true, .bool true, .slice (some ⟨g, off, none⟩) (L.length) (c), .int .i64 (k : Int), .pointer (some ⟨g, off + k * 2, none⟩), .pointer (some ⟨g, off + k * 2, none⟩), .int .i32 x, .slice (some ⟨g, off, none⟩) (L.length) (c), .int .i64 (k : Int), .int .i64 ((k - 1 : Nat) : Int), .pointer (some ⟨g, off + (k - 1) * 2, none⟩), .pointer (some ⟨g, off + (k - 1) * 2 + 1, none⟩), .int .i32 y0, .int .i32 (y0 + 1), .bool true, .bool true, .bool true] 38 rfl (by kernel_rfl) (by kernel_rfl) (grown_start _) ⟨?o0r4n2, ?o1r4n2, ?o2r4n2, ?o3r4n2, ?o4r4n2, ?o5r4n2, ?o6r4n2, ?o7r4n2, ?o8r4n2, ?o9r4n2, ?o10r4n2, ?o11r4n2, ?o12r4n2, ?o13r4n2, ?o14r4n2, ?o15r4n2, ?o16r4n2, ?o17r4n2, ?o18r4n2, ?o19r4n2, ?o20r4n2, ?o21r4n2, ?o22r4n2, ?o23r4n2, ?o24r4n2, trivial⟩ ?har4n2 ?hdoner4n2
            case har4n2 => simp [putAll, Act.put]; exact rfl
            case o0r4n2 => exact ValOp.pure (grown_steady _ 0) [(0, .slice (some ⟨g, off, none⟩) (L.length) (c))] rfl (fun _ _ h2 => ⟨(h2 0 (by kernel_rfl)).trans rfl, trivial⟩) (by kernel_rfl) (fun _ _ _ _ _ => by kernel_rfl)
            case o1r4n2 => exact ValOp.pure (grown_steady _ 1) [(3, .int .i64 (k : Int))] rfl (fun _ _ h2 => ⟨(h2 3 (by kernel_rfl)).trans rfl, trivial⟩) (by kernel_rfl) (fun _ _ _ _ _ => by kernel_rfl)
            case o2r4n2 => exact ValOp.pure (grown_steady _ 2) [(10, .slice (some ⟨g, off, none⟩) (L.length) (c)), (11, .int .i64 (k : Int))] rfl (fun _ h1 _ => ⟨h1 0 10 (by kernel_rfl), h1 1 11 (by kernel_rfl), trivial⟩) (by kernel_rfl) (fun _ _ _ hg _ => run_ia_23 rfl rfl rfl hkl)
            case o3r4n2 => exact ValOp.pure (grown_steady _ 3) [(12, .pointer (some ⟨g, off + k * 2, none⟩))] rfl (fun _ h1 _ => ⟨h1 2 12 (by kernel_rfl), trivial⟩) (by kernel_rfl) (fun _ _ _ hg _ => run_read rfl rfl (run_l58 (hK.out _ (hB.out.trans (hg.mono hbsz))).1 (hK.out _ (hB.out.trans (hg.mono hbsz))).2))
            case o4r4n2 => exact ValOp.call (grown_steady _ 4) [(13, .agg #[.int .i32 x, .int .i32 y])] rfl (fun _ h1 _ => ⟨h1 3 13 (by kernel_rfl), trivial⟩) (by kernel_rfl) 17 #[.agg #[.int .i32 x, .int .i32 y]] (fun _ => by kernel_rfl) (fun _ w _ => HM2.out w)
            case o5r4n2 => exact ValOp.pure (grown_steady _ 5) [(14, .bool true)] rfl (fun _ h1 _ => ⟨h1 4 14 (by kernel_rfl), trivial⟩) (by kernel_rfl) (fun _ _ _ _ _ => by kernel_rfl)
            case o6r4n2 => exact ValOp.pure (grown_steady _ 6) [(15, .bool false)] rfl (fun _ h1 _ => ⟨h1 5 15 (by kernel_rfl), trivial⟩) (by kernel_rfl) (fun _ _ _ _ _ => by kernel_rfl)
            case o7r4n2 => exact ValOp.pure (grown_steady _ 7) [(3, .int .i64 (k : Int))] (.inl ⟨16, _, rfl, rfl, by kernel_rfl, rfl⟩) (fun _ _ h2 => ⟨(h2 3 (by kernel_rfl)).trans rfl, trivial⟩) (by kernel_rfl) (fun _ _ _ _ _ => by kernel_rfl)
            case o8r4n2 => exact ValOp.pure (grown_steady _ 8) [(17, .int .i64 (k : Int))] (.inl ⟨16, _, rfl, rfl, by kernel_rfl, rfl⟩) (fun _ h1 _ => ⟨h1 7 17 (by kernel_rfl), trivial⟩) (by kernel_rfl) (fun _ _ _ _ _ => run_bin (a := .int .i64 (k : Int)) (b := .int .i64 0) rfl rfl rfl (by kernel_rfl) (by simp [go_sem, HP0.out]))
            case o9r4n2 => exact ValOp.pure (grown_steady _ 9) [(18, .bool true)] (.inl ⟨16, _, rfl, rfl, by kernel_rfl, rfl⟩) (fun _ h1 _ => ⟨h1 8 18 (by kernel_rfl), trivial⟩) (by kernel_rfl) (fun _ _ _ _ _ => by kernel_rfl)
            case o10r4n2 => exact ValOp.pure (grown_steady _ 10) [(0, .slice (some ⟨g, off, none⟩) (L.length) (c))] (.inl ⟨19, _, rfl, rfl, by kernel_rfl, rfl⟩) (fun _ _ h2 => ⟨(h2 0 (by kernel_rfl)).trans rfl, trivial⟩) (by kernel_rfl) (fun _ _ _ _ _ => by kernel_rfl)
            case o11r4n2 => exact ValOp.pure (grown_steady _ 11) [(3, .int .i64 (k : Int))] (.inl ⟨19, _, rfl, rfl, by kernel_rfl, rfl⟩) (fun _ _ h2 => ⟨(h2 3 (by kernel_rfl)).trans rfl, trivial⟩) (by kernel_rfl) (fun _ _ _ _ _ => by kernel_rfl)
            case o12r4n2 => exact ValOp.pure (grown_steady _ 12) [(20, .slice (some ⟨g, off, none⟩) (L.length) (c)), (21, .int .i64 (k : Int))] (.inl ⟨19, _, rfl, rfl, by kernel_rfl, rfl⟩) (fun _ h1 _ => ⟨h1 10 20 (by kernel_rfl), h1 11 21 (by kernel_rfl), trivial⟩) (by kernel_rfl) (fun _ _ _ hg _ => run_ia_23 rfl rfl rfl hkl)
            case o13r4n2 => exact ValOp.pure (grown_steady _ 13) [(22, .pointer (some ⟨g, off + k * 2, none⟩))] (.inl ⟨19, _, rfl, rfl, by kernel_rfl, rfl⟩) (fun _ h1 _ => ⟨h1 12 22 (by kernel_rfl), trivial⟩) (by kernel_rfl) (fun _ _ _ _ _ => by kernel_rfl)
            case o14r4n2 => exact ValOp.pure (grown_steady _ 14) [(23, .pointer (some ⟨g, off + k * 2, none⟩))] (.inl ⟨19, _, rfl, rfl, by kernel_rfl, rfl⟩) (fun _ h1 _ => ⟨h1 13 23 (by kernel_rfl), trivial⟩) (by kernel_rfl) (fun _ _ _ hg _ => run_read rfl rfl (run_l21 (hK.out _ (hB.out.trans (hg.mono hbsz))).1))
            case o15r4n2 => exact ValOp.pure (grown_steady _ 15) [(0, .slice (some ⟨g, off, none⟩) (L.length) (c))] (.inl ⟨19, _, rfl, rfl, by kernel_rfl, rfl⟩) (fun _ _ h2 => ⟨(h2 0 (by kernel_rfl)).trans rfl, trivial⟩) (by kernel_rfl) (fun _ _ _ _ _ => by kernel_rfl)
            case o16r4n2 => exact ValOp.pure (grown_steady _ 16) [(3, .int .i64 (k : Int))] (.inl ⟨19, _, rfl, rfl, by kernel_rfl, rfl⟩) (fun _ _ h2 => ⟨(h2 3 (by kernel_rfl)).trans rfl, trivial⟩) (by kernel_rfl) (fun _ _ _ _ _ => by kernel_rfl)
            case o17r4n2 => exact ValOp.pure (grown_steady _ 17) [(26, .int .i64 (k : Int))] (.inl ⟨19, _, rfl, rfl, by kernel_rfl, rfl⟩) (fun _ h1 _ => ⟨h1 16 26 (by kernel_rfl), trivial⟩) (by kernel_rfl) (fun _ _ _ _ _ => run_bin (a := .int .i64 (k : Int)) (b := .int .i64 1) rfl rfl rfl (by kernel_rfl) (by simp [go_sem, hsub]))
            case o18r4n2 => exact ValOp.pure (grown_steady _ 18) [(25, .slice (some ⟨g, off, none⟩) (L.length) (c)), (27, .int .i64 ((k - 1 : Nat) : Int))] (.inl ⟨19, _, rfl, rfl, by kernel_rfl, rfl⟩) (fun _ h1 _ => ⟨h1 15 25 (by kernel_rfl), h1 17 27 (by kernel_rfl), trivial⟩) (by kernel_rfl) (fun _ _ _ hg _ => run_ia_23 rfl rfl rfl hkl1)
            case o19r4n2 => exact ValOp.pure (grown_steady _ 19) [(28, .pointer (some ⟨g, off + (k - 1) * 2, none⟩))] (.inl ⟨19, _, rfl, rfl, by kernel_rfl, rfl⟩) (fun _ h1 _ => ⟨h1 18 28 (by kernel_rfl), trivial⟩) (by kernel_rfl) (fun _ _ _ _ _ => by kernel_rfl)
            case o20r4n2 => exact ValOp.pure (grown_steady _ 20) [(29, .pointer (some ⟨g, off + (k - 1) * 2 + 1, none⟩))] (.inl ⟨19, _, rfl, rfl, by kernel_rfl, rfl⟩) (fun _ h1 _ => ⟨h1 19 29 (by kernel_rfl), trivial⟩) (by kernel_rfl) (fun _ _ _ hg _ => run_read rfl rfl (run_l21 (hP.out HP0.out _ (hB.out.trans (hg.mono hbsz)))))
            case o21r4n2 => exact ValOp.pure (grown_steady _ 21) [(30, .int .i32 y0)] (.inl ⟨19, _, rfl, rfl, by kernel_rfl, rfl⟩) (fun _ h1 _ => ⟨h1 20 30 (by kernel_rfl), trivial⟩) (by kernel_rfl) (fun _ _ _ _ _ => run_bin (a := .int .i32 y0) (b := .int .i32 1) rfl rfl rfl (by kernel_rfl) (by simp [go_sem, hy1]))
            case o22r4n2 => exact ValOp.pure (grown_steady _ 22) [(24, .int .i32 x), (31, .int .i32 (y0 + 1))] (.inl ⟨19, _, rfl, rfl, by kernel_rfl, rfl⟩) (fun _ h1 _ => ⟨h1 14 24 (by kernel_rfl), h1 21 31 (by kernel_rfl), trivial⟩) (by kernel_rfl) (fun _ _ _ _ _ => run_bin (a := .int .i32 x) (b := .int .i32 (y0 + 1)) rfl rfl rfl (by kernel_rfl) (by simp [go_sem, hle]))
            case o23r4n2 => exact ValOp.pure (grown_steady _ 23) [(19, .bool true), (32, .bool true)] (.inl ⟨16, _, rfl, rfl, by kernel_rfl, rfl⟩) (fun _ h1 _ => ⟨h1 9 19 (by kernel_rfl), h1 22 32 (by kernel_rfl), trivial⟩) (by kernel_rfl) (fun _ _ _ _ _ => by kernel_rfl)
            case o24r4n2 => exact ValOp.pure (grown_steady _ 24) [(16, .bool false), (33, .bool true)] rfl (fun _ h1 _ => ⟨h1 6 16 (by kernel_rfl), h1 23 33 (by kernel_rfl), trivial⟩) (by kernel_rfl) (fun _ _ _ _ _ => by kernel_rfl)
            case hdoner4n2 =>
              intro w1 s1 hs1 hg1
              have B2 : Hid (Below w.heap.size w w1) := hB.out.trans (Below.mono hg1 hbsz)
              clear hg1 hs1
              go_wp2
              go_ret
              exact ⟨by rw [hb.out]; rfl, B2.out⟩
          · have hle : decide (x ≤ y0 + 1) = false := decide_eq_false h1
            have hS2 : Hid (isS 0 (L.take (k + 1)) = true) := (hG1.out h0).2 ⟨hS.out, hm, by simp only; omega⟩
            clear hm hG1 hG2 hF hm' h0 h1
            go_wp2_with fail
            refine wp_region_vals (a1 := ?a1r4n3) (grown _) [.slice (some ⟨g, off, none⟩) (L.length) (c), .int .i64 (k : Int), .pointer (some ⟨g, off + k * 2, none⟩), .agg #[.int .i32 x, .int .i32 y], .bool true, .bool false, .bool false, .int .i64 (k : Int), .bool true, .bool true, .slice (some ⟨g, off, none⟩) (L.length) (c), .int .i64 (k : Int), .pointer (some ⟨g, off + k * 2, none⟩), .pointer (some ⟨g, off + k * 2, none⟩), .int .i32 x, .slice (some ⟨g, off, none⟩) (L.length) (c), .int .i64 (k : Int), .int .i64 ((k - 1 : Nat) : Int), .pointer (some ⟨g, off + (k - 1) * 2, none⟩), .pointer (some ⟨g, off + (k - 1) * 2 + 1, none⟩), .int .i32 y0, .int .i32 (y0 + 1), .bool false, .bool false, .bool false] 38 rfl (by kernel_rfl) (by kernel_rfl) (grown_start _) ⟨?o0r4n3, ?o1r4n3, ?o2r4n3, ?o3r4n3, ?o4r4n3, ?o5r4n3, ?o6r4n3, ?o7r4n3, ?o8r4n3, ?o9r4n3, ?o10r4n3, ?o11r4n3, ?o12r4n3, ?o13r4n3, ?o14r4n3, ?o15r4n3, ?o16r4n3, ?o17r4n3, ?o18r4n3, ?o19r4n3, ?o20r4n3, ?o21r4n3, ?o22r4n3, ?o23r4n3, ?o24r4n3, trivial⟩ ?har4n3 ?hdoner4n3
            case har4n3 => simp [putAll, Act.put]; exact rfl
            case o0r4n3 => exact ValOp.pure (grown_steady _ 0) [(0, .slice (some ⟨g, off, none⟩) (L.length) (c))] rfl (fun _ _ h2 => ⟨(h2 0 (by kernel_rfl)).trans rfl, trivial⟩) (by kernel_rfl) (fun _ _ _ _ _ => by kernel_rfl)
            case o1r4n3 => exact ValOp.pure (grown_steady _ 1) [(3, .int .i64 (k : Int))] rfl (fun _ _ h2 => ⟨(h2 3 (by kernel_rfl)).trans rfl, trivial⟩) (by kernel_rfl) (fun _ _ _ _ _ => by kernel_rfl)
            case o2r4n3 => exact ValOp.pure (grown_steady _ 2) [(10, .slice (some ⟨g, off, none⟩) (L.length) (c)), (11, .int .i64 (k : Int))] rfl (fun _ h1 _ => ⟨h1 0 10 (by kernel_rfl), h1 1 11 (by kernel_rfl), trivial⟩) (by kernel_rfl) (fun _ _ _ hg _ => run_ia_23 rfl rfl rfl hkl)
            case o3r4n3 => exact ValOp.pure (grown_steady _ 3) [(12, .pointer (some ⟨g, off + k * 2, none⟩))] rfl (fun _ h1 _ => ⟨h1 2 12 (by kernel_rfl), trivial⟩) (by kernel_rfl) (fun _ _ _ hg _ => run_read rfl rfl (run_l58 (hK.out _ (hB.out.trans (hg.mono hbsz))).1 (hK.out _ (hB.out.trans (hg.mono hbsz))).2))
            case o4r4n3 => exact ValOp.call (grown_steady _ 4) [(13, .agg #[.int .i32 x, .int .i32 y])] rfl (fun _ h1 _ => ⟨h1 3 13 (by kernel_rfl), trivial⟩) (by kernel_rfl) 17 #[.agg #[.int .i32 x, .int .i32 y]] (fun _ => by kernel_rfl) (fun _ w _ => HM2.out w)
            case o5r4n3 => exact ValOp.pure (grown_steady _ 5) [(14, .bool true)] rfl (fun _ h1 _ => ⟨h1 4 14 (by kernel_rfl), trivial⟩) (by kernel_rfl) (fun _ _ _ _ _ => by kernel_rfl)
            case o6r4n3 => exact ValOp.pure (grown_steady _ 6) [(15, .bool false)] rfl (fun _ h1 _ => ⟨h1 5 15 (by kernel_rfl), trivial⟩) (by kernel_rfl) (fun _ _ _ _ _ => by kernel_rfl)
            case o7r4n3 => exact ValOp.pure (grown_steady _ 7) [(3, .int .i64 (k : Int))] (.inl ⟨16, _, rfl, rfl, by kernel_rfl, rfl⟩) (fun _ _ h2 => ⟨(h2 3 (by kernel_rfl)).trans rfl, trivial⟩) (by kernel_rfl) (fun _ _ _ _ _ => by kernel_rfl)
            case o8r4n3 => exact ValOp.pure (grown_steady _ 8) [(17, .int .i64 (k : Int))] (.inl ⟨16, _, rfl, rfl, by kernel_rfl, rfl⟩) (fun _ h1 _ => ⟨h1 7 17 (by kernel_rfl), trivial⟩) (by kernel_rfl) (fun _ _ _ _ _ => run_bin (a := .int .i64 (k : Int)) (b := .int .i64 0) rfl rfl rfl (by kernel_rfl) (by simp [go_sem, HP0.out]))
            case o9r4n3 => exact ValOp.pure (grown_steady _ 9) [(18, .bool true)] (.inl ⟨16, _, rfl, rfl, by kernel_rfl, rfl⟩) (fun _ h1 _ => ⟨h1 8 18 (by kernel_rfl), trivial⟩) (by kernel_rfl) (fun _ _ _ _ _ => by kernel_rfl)
            case o10r4n3 => exact ValOp.pure (grown_steady _ 10) [(0, .slice (some ⟨g, off, none⟩) (L.length) (c))] (.inl ⟨19, _, rfl, rfl, by kernel_rfl, rfl⟩) (fun _ _ h2 => ⟨(h2 0 (by kernel_rfl)).trans rfl, trivial⟩) (by kernel_rfl) (fun _ _ _ _ _ => by kernel_rfl)
            case o11r4n3 => exact ValOp.pure (grown_steady _ 11) [(3, .int .i64 (k : Int))] (.inl ⟨19, _, rfl, rfl, by kernel_rfl, rfl⟩) (fun _ _ h2 => ⟨(h2 3 (by kernel_rfl)).trans rfl, trivial⟩) (by kernel_rfl) (fun _ _ _ _ _ => by kernel_rfl)
            case o12r4n3 => exact ValOp.pure (grown_steady _ 12) [(20, .slice (some ⟨g, off, none⟩) (L.length) (c)), (21, .int .i64 (k : Int))] (.inl ⟨19, _, rfl, rfl, by kernel_rfl, rfl⟩) (fun _ h1 _ => ⟨h1 10 20 (by kernel_rfl), h1 11 21 (by kernel_rfl), trivial⟩) (by kernel_rfl) (fun _ _ _ hg _ => run_ia_23 rfl rfl rfl hkl)
            case o13r4n3 => exact ValOp.pure (grown_steady _ 13) [(22, .pointer (some ⟨g, off + k * 2, none⟩))] (.inl ⟨19, _, rfl, rfl, by kernel_rfl, rfl⟩) (fun _ h1 _ => ⟨h1 12 22 (by kernel_rfl), trivial⟩) (by kernel_rfl) (fun _ _ _ _ _ => by kernel_rfl)
            case o14r4n3 => exact ValOp.pure (grown_steady _ 14) [(23, .pointer (some ⟨g, off + k * 2, none⟩))] (.inl ⟨19, _, rfl, rfl, by kernel_rfl, rfl⟩) (fun _ h1 _ => ⟨h1 13 23 (by kernel_rfl), trivial⟩) (by kernel_rfl) (fun _ _ _ hg _ => run_read rfl rfl (run_l21 (hK.out _ (hB.out.trans (hg.mono hbsz))).1))
            case o15r4n3 => exact ValOp.pure (grown_steady _ 15) [(0, .slice (some ⟨g, off, none⟩) (L.length) (c))] (.inl ⟨19, _, rfl, rfl, by kernel_rfl, rfl⟩) (fun _ _ h2 => ⟨(h2 0 (by kernel_rfl)).trans rfl, trivial⟩) (by kernel_rfl) (fun _ _ _ _ _ => by kernel_rfl)
            case o16r4n3 => exact ValOp.pure (grown_steady _ 16) [(3, .int .i64 (k : Int))] (.inl ⟨19, _, rfl, rfl, by kernel_rfl, rfl⟩) (fun _ _ h2 => ⟨(h2 3 (by kernel_rfl)).trans rfl, trivial⟩) (by kernel_rfl) (fun _ _ _ _ _ => by kernel_rfl)
            case o17r4n3 => exact ValOp.pure (grown_steady _ 17) [(26, .int .i64 (k : Int))] (.inl ⟨19, _, rfl, rfl, by kernel_rfl, rfl⟩) (fun _ h1 _ => ⟨h1 16 26 (by kernel_rfl), trivial⟩) (by kernel_rfl) (fun _ _ _ _ _ => run_bin (a := .int .i64 (k : Int)) (b := .int .i64 1) rfl rfl rfl (by kernel_rfl) (by simp [go_sem, hsub]))
            case o18r4n3 => exact ValOp.pure (grown_steady _ 18) [(25, .slice (some ⟨g, off, none⟩) (L.length) (c)), (27, .int .i64 ((k - 1 : Nat) : Int))] (.inl ⟨19, _, rfl, rfl, by kernel_rfl, rfl⟩) (fun _ h1 _ => ⟨h1 15 25 (by kernel_rfl), h1 17 27 (by kernel_rfl), trivial⟩) (by kernel_rfl) (fun _ _ _ hg _ => run_ia_23 rfl rfl rfl hkl1)
            case o19r4n3 => exact ValOp.pure (grown_steady _ 19) [(28, .pointer (some ⟨g, off + (k - 1) * 2, none⟩))] (.inl ⟨19, _, rfl, rfl, by kernel_rfl, rfl⟩) (fun _ h1 _ => ⟨h1 18 28 (by kernel_rfl), trivial⟩) (by kernel_rfl) (fun _ _ _ _ _ => by kernel_rfl)
            case o20r4n3 => exact ValOp.pure (grown_steady _ 20) [(29, .pointer (some ⟨g, off + (k - 1) * 2 + 1, none⟩))] (.inl ⟨19, _, rfl, rfl, by kernel_rfl, rfl⟩) (fun _ h1 _ => ⟨h1 19 29 (by kernel_rfl), trivial⟩) (by kernel_rfl) (fun _ _ _ hg _ => run_read rfl rfl (run_l21 (hP.out HP0.out _ (hB.out.trans (hg.mono hbsz)))))
            case o21r4n3 => exact ValOp.pure (grown_steady _ 21) [(30, .int .i32 y0)] (.inl ⟨19, _, rfl, rfl, by kernel_rfl, rfl⟩) (fun _ h1 _ => ⟨h1 20 30 (by kernel_rfl), trivial⟩) (by kernel_rfl) (fun _ _ _ _ _ => run_bin (a := .int .i32 y0) (b := .int .i32 1) rfl rfl rfl (by kernel_rfl) (by simp [go_sem, hy1]))
            case o22r4n3 => exact ValOp.pure (grown_steady _ 22) [(24, .int .i32 x), (31, .int .i32 (y0 + 1))] (.inl ⟨19, _, rfl, rfl, by kernel_rfl, rfl⟩) (fun _ h1 _ => ⟨h1 14 24 (by kernel_rfl), h1 21 31 (by kernel_rfl), trivial⟩) (by kernel_rfl) (fun _ _ _ _ _ => run_bin (a := .int .i32 x) (b := .int .i32 (y0 + 1)) rfl rfl rfl (by kernel_rfl) (by simp [go_sem, hle]))
            case o23r4n3 => exact ValOp.pure (grown_steady _ 23) [(19, .bool true), (32, .bool false)] (.inl ⟨16, _, rfl, rfl, by kernel_rfl, rfl⟩) (fun _ h1 _ => ⟨h1 9 19 (by kernel_rfl), h1 22 32 (by kernel_rfl), trivial⟩) (by kernel_rfl) (fun _ _ _ _ _ => by kernel_rfl)
            case o24r4n3 => exact ValOp.pure (grown_steady _ 24) [(16, .bool false), (33, .bool false)] rfl (fun _ h1 _ => ⟨h1 6 16 (by kernel_rfl), h1 23 33 (by kernel_rfl), trivial⟩) (by kernel_rfl) (fun _ _ _ _ _ => by kernel_rfl)
            case hdoner4n3 =>
              intro w1 s1 hs1 hg1
              have B2 : Hid (Below w.heap.size w w1) := hB.out.trans (Below.mono hg1 hbsz)
              clear hg1 hs1
              go_wp2
              refine ⟨⟨k + 1, by omega, by go_num, hS2.out, B2.out⟩, by simp [intOf]; omega⟩
        · have hk0 : decide ((0 : Int) < (k : Int)) = false := decide_eq_false (by omega)
          have HP0 : Hid (k = 0) := by rw [Hid]; omega
          have hS2 : Hid (isS 0 (L.take (k + 1)) = true) := by
            rw [Hid, hG2.out, isS_snoc]
            refine ⟨hS.out, hm, ?_⟩
            rw [HP0.out]
            simp only [List.take_zero, nxt]; omega
          clear hm hG1 hG2 hF hm' h0
          go_wp2_with fail
          refine wp_region_vals (a1 := ?a1r4n4) (grown _) [.slice (some ⟨g, off, none⟩) (L.length) (c), .int .i64 (k : Int), .pointer (some ⟨g, off + k * 2, none⟩), .agg #[.int .i32 x, .int .i32 y], .bool true, .bool false, .bool false, .int .i64 (k : Int), .bool false, .bool false, undef, undef, undef, undef, undef, undef, undef, undef, undef, undef, undef, undef, undef, .bool false, .bool false] 38 rfl (by kernel_rfl) (by kernel_rfl) (grown_start _) ⟨?o0r4n4, ?o1r4n4, ?o2r4n4, ?o3r4n4, ?o4r4n4, ?o5r4n4, ?o6r4n4, ?o7r4n4, ?o8r4n4, ?o9r4n4, ?o10r4n4, ?o11r4n4, ?o12r4n4, ?o13r4n4, ?o14r4n4, ?o15r4n4, ?o16r4n4, ?o17r4n4, ?o18r4n4, ?o19r4n4, ?o20r4n4, ?o21r4n4, ?o22r4n4, ?o23r4n4, ?o24r4n4, trivial⟩ ?har4n4 ?hdoner4n4
          case har4n4 => simp [putAll, Act.put]; exact rfl
          case o0r4n4 => exact ValOp.pure (grown_steady _ 0) [(0, .slice (some ⟨g, off, none⟩) (L.length) (c))] rfl (fun _ _ h2 => ⟨(h2 0 (by kernel_rfl)).trans rfl, trivial⟩) (by kernel_rfl) (fun _ _ _ _ _ => by kernel_rfl)
          case o1r4n4 => exact ValOp.pure (grown_steady _ 1) [(3, .int .i64 (k : Int))] rfl (fun _ _ h2 => ⟨(h2 3 (by kernel_rfl)).trans rfl, trivial⟩) (by kernel_rfl) (fun _ _ _ _ _ => by kernel_rfl)
          case o2r4n4 => exact ValOp.pure (grown_steady _ 2) [(10, .slice (some ⟨g, off, none⟩) (L.length) (c)), (11, .int .i64 (k : Int))] rfl (fun _ h1 _ => ⟨h1 0 10 (by kernel_rfl), h1 1 11 (by kernel_rfl), trivial⟩) (by kernel_rfl) (fun _ _ _ hg _ => run_ia_23 rfl rfl rfl hkl)
          case o3r4n4 => exact ValOp.pure (grown_steady _ 3) [(12, .pointer (some ⟨g, off + k * 2, none⟩))] rfl (fun _ h1 _ => ⟨h1 2 12 (by kernel_rfl), trivial⟩) (by kernel_rfl) (fun _ _ _ hg _ => run_read rfl rfl (run_l58 (hK.out _ (hB.out.trans (hg.mono hbsz))).1 (hK.out _ (hB.out.trans (hg.mono hbsz))).2))
          case o4r4n4 => exact ValOp.call (grown_steady _ 4) [(13, .agg #[.int .i32 x, .int .i32 y])] rfl (fun _ h1 _ => ⟨h1 3 13 (by kernel_rfl), trivial⟩) (by kernel_rfl) 17 #[.agg #[.int .i32 x, .int .i32 y]] (fun _ => by kernel_rfl) (fun _ w _ => HM2.out w)
          case o5r4n4 => exact ValOp.pure (grown_steady _ 5) [(14, .bool true)] rfl (fun _ h1 _ => ⟨h1 4 14 (by kernel_rfl), trivial⟩) (by kernel_rfl) (fun _ _ _ _ _ => by kernel_rfl)
          case o6r4n4 => exact ValOp.pure (grown_steady _ 6) [(15, .bool false)] rfl (fun _ h1 _ => ⟨h1 5 15 (by kernel_rfl), trivial⟩) (by kernel_rfl) (fun _ _ _ _ _ => by kernel_rfl)
          case o7r4n4 => exact ValOp.pure (grown_steady _ 7) [(3, .int .i64 (k : Int))] (.inl ⟨16, _, rfl, rfl, by kernel_rfl, rfl⟩) (fun _ _ h2 => ⟨(h2 3 (by kernel_rfl)).trans rfl, trivial⟩) (by kernel_rfl) (fun _ _ _ _ _ => by kernel_rfl)
          case o8r4n4 => exact ValOp.pure (grown_steady _ 8) [(17, .int .i64 (k : Int))] (.inl ⟨16, _, rfl, rfl, by kernel_rfl, rfl⟩) (fun _ h1 _ => ⟨h1 7 17 (by kernel_rfl), trivial⟩) (by kernel_rfl) (fun _ _ _ _ _ => run_bin (a := .int .i64 (k : Int)) (b := .int .i64 0) rfl rfl rfl (by kernel_rfl) (by simp [go_sem, HP0.out]))
          case o9r4n4 => exact ValOp.pure (grown_steady _ 9) [(18, .bool false)] (.inl ⟨16, _, rfl, rfl, by kernel_rfl, rfl⟩) (fun _ h1 _ => ⟨h1 8 18 (by kernel_rfl), trivial⟩) (by kernel_rfl) (fun _ _ _ _ _ => by kernel_rfl)
          case o10r4n4 => exact ValOp.no (grown_steady _ 10) (.inl ⟨19, _, rfl, rfl, by kernel_rfl, rfl⟩) rfl
          case o11r4n4 => exact ValOp.no (grown_steady _ 11) (.inl ⟨19, _, rfl, rfl, by kernel_rfl, rfl⟩) rfl
          case o12r4n4 => exact ValOp.no (grown_steady _ 12) (.inl ⟨19, _, rfl, rfl, by kernel_rfl, rfl⟩) rfl
          case o13r4n4 => exact ValOp.no (grown_steady _ 13) (.inl ⟨19, _, rfl, rfl, by kernel_rfl, rfl⟩) rfl
          case o14r4n4 => exact ValOp.no (grown_steady _ 14) (.inl ⟨19, _, rfl, rfl, by kernel_rfl, rfl⟩) rfl
          case o15r4n4 => exact ValOp.no (grown_steady _ 15) (.inl ⟨19, _, rfl, rfl, by kernel_rfl, rfl⟩) rfl
          case o16r4n4 => exact ValOp.no (grown_steady _ 16) (.inl ⟨19, _, rfl, rfl, by kernel_rfl, rfl⟩) rfl
          case o17r4n4 => exact ValOp.no (grown_steady _ 17) (.inl ⟨19, _, rfl, rfl, by kernel_rfl, rfl⟩) rfl
          case o18r4n4 => exact ValOp.no (grown_steady _ 18) (.inl ⟨19, _, rfl, rfl, by kernel_rfl, rfl⟩) rfl
          case o19r4n4 => exact ValOp.no (grown_steady _ 19) (.inl ⟨19, _, rfl, rfl, by kernel_rfl, rfl⟩) rfl
          case o20r4n4 => exact ValOp.no (grown_steady _ 20) (.inl ⟨19, _, rfl, rfl, by kernel_rfl, rfl⟩) rfl
          case o21r4n4 => exact ValOp.no (grown_steady _ 21) (.inl ⟨19, _, rfl, rfl, by kernel_rfl, rfl⟩) rfl
          case o22r4n4 => exact ValOp.no (grown_steady _ 22) (.inl ⟨19, _, rfl, rfl, by kernel_rfl, rfl⟩) rfl
          case o23r4n4 => exact ValOp.pure (grown_steady _ 23) [(19, .bool false), (32, undef)] (.inl ⟨16, _, rfl, rfl, by kernel_rfl, rfl⟩) (fun _ h1 _ => ⟨h1 9 19 (by kernel_rfl), h1 22 32 (by kernel_rfl), trivial⟩) (by kernel_rfl) (fun _ _ _ _ _ => by kernel_rfl)
          case o24r4n4 => exact ValOp.pure (grown_steady _ 24) [(16, .bool false), (33, .bool false)] rfl (fun _ h1 _ => ⟨h1 6 16 (by kernel_rfl), h1 23 33 (by kernel_rfl), trivial⟩) (by kernel_rfl) (fun _ _ _ _ _ => by kernel_rfl)
          case hdoner4n4 =>
            intro w1 s1 hs1 hg1
            have B2 : Hid (Below w.heap.size w w1) := hB.out.trans (Below.mono hg1 hbsz)
            clear hg1 hs1
            go_wp2
            refine ⟨⟨k + 1, by omega, by go_num, hS2.out, B2.out⟩, by simp [intOf]; omega⟩
    · have hkk : k = L.length := by omega
      subst hkk
      have hb : Hid (isB L = decide ((L.length : Int) ≤ 65536)) := by
        have := hS.out
        rw [List.take_length] at this
        rw [Hid, isB, this, Bool.and_true]
        by_cases c : L.length ≤ 65536
        · rw [decide_eq_true c, decide_eq_true (by omega)]
        · rw [decide_eq_false c, decide_eq_false (by omega)]
      go_wp2
      go_ret
      exact ⟨by rw [hb.out]; rfl, hB.out⟩
end Go.Proofs.Ytddoanmhikldiab
