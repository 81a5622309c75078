/-
  The contract of the law's rows: it tells whether two lists of rows are the same. Conditions: the numbers of the first fit; the lists take no more bytes than there are.
-/
import Derived.Test.YtookbgmolggohaaSm
namespace Go.Proofs.Ytookbgmolggohaa
open Go.RowKit
set_option maxRecDepth 100000 in
theorem run_ia_22 {w : World} {l : List (Nat × Value)} {o : Oper} {a b : Operand} {g off n c k : Nat} (ho : o.op = .indexAddr 22 a b) (ha : rho l a = .slice (some ⟨g, off, none⟩) n c) (hb : rho l b = .int .i64 (k : Int)) (h : k < n) : (execOp (rho l) o).run Try.prog w = .ok (.value (.pointer (some ⟨g, off + k * 3, none⟩))) w := by
  have h2 : ¬ n ≤ k := by omega
  unfold execOp
  simp only [ho, ha, hb]
  simp [Instr.indexAt, asIntOf, run_underlying Try.underlying22, h2, Try.sizeOf62, Instr.sureAddr, Go.WideShapes.add_plain]
set_option maxRecDepth 100000 in
theorem run_ia_25 {w : World} {l : List (Nat × Value)} {o : Oper} {a b : Operand} {g off n c k : Nat} (ho : o.op = .indexAddr 25 a b) (ha : rho l a = .slice (some ⟨g, off, none⟩) n c) (hb : rho l b = .int .i64 (k : Int)) (h : k < n) : (execOp (rho l) o).run Try.prog w = .ok (.value (.pointer (some ⟨g, off + k * 3, none⟩))) w := by
  have h2 : ¬ n ≤ k := by omega
  unfold execOp
  simp only [ho, ha, hb]
  simp [Instr.indexAt, asIntOf, run_underlying Try.underlying25, h2, Try.sizeOf33, Instr.sureAddr, Go.WideShapes.add_plain]
theorem run_cellz {w : World} {g i : Nat} {ty : TypeId} {v : Value} (hc : w.cell? ⟨g, i, none⟩ = some v) (ha : (isAgg ty).run Try.prog w = .ok false w) : (loadVar ty ⟨g, i, none⟩).run Try.prog w = .ok v w := by
  simp [loadVar, ha, hc, go_sem]
set_option maxRecDepth 100000 in
theorem run_cvz {w : World} {l : List (Nat × Value)} {o : Oper} {a : Operand} {x : Int} (ho : o.op = .convert 21 3 a) (ha : rho l a = .int .i32 x) (h1 : -2147483648 ≤ x) (h2 : x ≤ 2147483647) : (execOp (rho l) o).run Try.prog w = .ok (.value (.int .i64 x)) w := by
  unfold execOp
  simp only [ho, ha]
  simp [convert, run_underlying Try.underlying21, run_underlying Try.underlying3, go_sem, IntWalk.i64_in x (by omega)]
set_option maxRecDepth 100000 in
set_option maxHeartbeats 2000000 in
theorem rows_dec (L M : List Rw) (v v' : Value) (w : World) (R : Bool) (hRR : R = true ↔ L = M) (hr : Rd3 .i32 w v L) (hr' : Rd3 .i64 w v' M) (hf : fit3 L) (hl : L.length ≤ 8796093022208) : Calls Try.prog 17 #[v, v'] w fun e w' => e = .returned (.bool R) ∧ Below w.heap.size w w' := by
  obtain ⟨a, c, rfl, hlc, hc⟩ := hr
  obtain ⟨a', c', rfl, hlc', hc'⟩ := hr'
  by_cases hlen : L.length = M.length
  · rw [← hlen] at hc' hlc' ⊢
    have HC : Hid (0 < L.length → ∃ g off, a = some ⟨g, off, none⟩ ∧ ∀ j, j < L.length → w.cell? ⟨g, off + j * 3, none⟩ = some (.int .i32 (L.getD j (0, 0, 0)).1) ∧ w.cell? ⟨g, off + j * 3 + 1, none⟩ = some (.int .i32 (L.getD j (0, 0, 0)).2.1) ∧ w.cell? ⟨g, off + j * 3 + 2, none⟩ = some (.int .i64 (L.getD j (0, 0, 0)).2.2)) := hc
    have HC' : Hid (0 < L.length → ∃ g off, a' = some ⟨g, off, none⟩ ∧ ∀ j, j < L.length → w.cell? ⟨g, off + j * 3, none⟩ = some (.int .i64 (M.getD j (0, 0, 0)).1) ∧ w.cell? ⟨g, off + j * 3 + 1, none⟩ = some (.int .i64 (M.getD j (0, 0, 0)).2.1) ∧ w.cell? ⟨g, off + j * 3 + 2, none⟩ = some (.int .i64 (M.getD j (0, 0, 0)).2.2)) := hc'
    have HF : Hid (fit3 L) := hf
    have HRR : Hid (R = true ↔ L = M) := hRR
    have HLM : Hid (L.length = M.length) := hlen
    clear hc hf hc' hRR hlen
    go_enter Try.func17, Try.ntmps17
    go_wp2_with fail
    go_loopw [13] (fun y wr => ∃ k : Nat, k ≤ L.length ∧ y = .int .i64 (k : Nat) ∧ Hid (∀ i, i < k → L.getD i (0, 0, 0) = M.getD i (0, 0, 0)) ∧ Hid (Below w.heap.size w wr)) (fun y _ => (L.length - (intOf y).toNat : Nat))
    case atStart => exact ⟨0, Nat.zero_le _, rfl, fun i hi => absurd hi (Nat.not_lt_zero _), Below.refl _ _⟩
    case round =>
      obtain ⟨k, hk, rfl, hS, hB⟩ := hrel
      by_cases hkl : k < L.length
      · obtain ⟨g, off, rfl, hd⟩ := HC.out (by omega)
        obtain ⟨d1, d2, d3⟩ := hd k hkl
        obtain ⟨g', off', rfl, hd'⟩ := HC'.out (by omega)
        obtain ⟨d1', d2', d3'⟩ := hd' k hkl
        have kl : (k : Int) < (L.length : Int) := by omega
        have g1 := World.block_lt_of_cell? w _ d1
        have g1' := World.block_lt_of_cell? w _ d1'
        have e1 := (hB.out.cell (p := ⟨g, off + k * 3, none⟩) (by simpa using g1)).trans d1
        have e2 := (hB.out.cell (p := ⟨g, off + k * 3 + 1, none⟩) (by simpa using g1)).trans d2
        have e3 := (hB.out.cell (p := ⟨g, off + k * 3 + 2, none⟩) (by simpa using g1)).trans d3
        have e1' := (hB.out.cell (p := ⟨g', off' + k * 3, none⟩) (by simpa using g1')).trans d1'
        have e2' := (hB.out.cell (p := ⟨g', off' + k * 3 + 1, none⟩) (by simpa using g1')).trans d2'
        have e3' := (hB.out.cell (p := ⟨g', off' + k * 3 + 2, none⟩) (by simpa using g1')).trans d3'
        obtain ⟨f1, f2, f3, f4, f5, f6⟩ := fit_get HF.out hkl
        clear d1 d2 d3 hd g1 HC HF d1' d2' d3' hd' g1' HC'
        have HK : Hid (k < L.length) := hkl
        generalize hsL : L.getD k (0, 0, 0) = s at *
        generalize hsM : M.getD k (0, 0, 0) = s' at *
        replace hsL : Hid (L.getD k (0, 0, 0) = s) := hsL
        replace hsM : Hid (M.getD k (0, 0, 0) = s') := hsM
        obtain ⟨x, y, n⟩ := s
        obtain ⟨x', y', n'⟩ := s'
        simp only at e1 e2 e3 e1' e2' e3' f1 f2 f3 f4 f5 f6
        clear hkl
        by_cases q1 : x = x'
        · subst q1
          by_cases q2 : y = y'
          · subst q2
            by_cases q3 : n = n'
            · subst q3
              have hS2 : Hid (∀ i, i < k + 1 → L.getD i (0, 0, 0) = M.getD i (0, 0, 0)) := fun i hi => by
                rcases Nat.lt_succ_iff_lt_or_eq.1 hi with h | h
                · exact hS.out i h
                · rw [h, hsL.out, hsM.out]
              have B2 : ∀ n, Hid (Below w.heap.size w (wr.drewN n)) := fun n => below_drew n hB.out
              clear hS hsL hsM
              go_wp2_with fail
              go_quiet (fail)
              go_wp2
              refine ⟨⟨k + 1, by have := HK.out; omega, by go_num, hS2, B2 _⟩, by have := HK.out; simp [intOf]; omega⟩
            · have b3 : (n == n') = false := by simpa using q3
              have NEQ : ¬ ((x, y, n) = (x, y, n')) := fun h => q3 (by simpa using h)
              clear q3 hS
              have hR : Hid (R = false) := by
                rw [Hid]
                cases R
                · rfl
                · have := HRR.out.1 rfl
                  rw [← hsL.out, ← hsM.out, this] at NEQ
                  exact absurd rfl NEQ
              clear NEQ
              have B2 : ∀ n, Hid (Below w.heap.size w (wr.drewN n)) := fun n => below_drew n hB.out
              go_wp2_with fail
              go_quiet (fail)
              go_wp2
              go_ret
              rw [hR.out]
              exact ⟨rfl, (B2 _).out⟩
          · have b2 : (y == y') = false := by simpa using q2
            have NEQ : ¬ ((x, y, n) = (x, y', n')) := fun h => q2 (by simp at h; exact h.1)
            clear q2 hS
            have hR : Hid (R = false) := by
              rw [Hid]
              cases R
              · rfl
              · have := HRR.out.1 rfl
                rw [← hsL.out, ← hsM.out, this] at NEQ
                exact absurd rfl NEQ
            clear NEQ
            have Z1 : Hid (∀ W, Below wr.heap.size wr W → W.cell? ⟨g, off + k * 3, none⟩ = some (.int .i32 x)) := fun W hW => (hW.cell (p := ⟨g, off + k * 3, none⟩) (World.block_lt_of_cell? wr _ e1)).trans e1
            have Z1' : Hid (∀ W, Below wr.heap.size wr W → W.cell? ⟨g', off' + k * 3, none⟩ = some (.int .i64 x)) := fun W hW => (hW.cell (p := ⟨g', off' + k * 3, none⟩) (World.block_lt_of_cell? wr _ e1')).trans e1'
            have Z2 : Hid (∀ W, Below wr.heap.size wr W → W.cell? ⟨g, off + k * 3 + 1, none⟩ = some (.int .i32 y)) := fun W hW => (hW.cell (p := ⟨g, off + k * 3 + 1, none⟩) (World.block_lt_of_cell? wr _ e2)).trans e2
            have Z2' : Hid (∀ W, Below wr.heap.size wr W → W.cell? ⟨g', off' + k * 3 + 1, none⟩ = some (.int .i64 y')) := fun W hW => (hW.cell (p := ⟨g', off' + k * 3 + 1, none⟩) (World.block_lt_of_cell? wr _ e2')).trans e2'
            go_wp2_with fail
            refine wp_region_vals (a1 := ?a1r6n1) (grown _) [.slice (some ⟨g, off, none⟩) L.length c, .int .i64 (k : Int), .pointer (some ⟨g, off + k * 3, none⟩), .pointer (some ⟨g, off + k * 3, none⟩), .int .i32 x, .int .i64 x, .slice (some ⟨g', off', none⟩) L.length c', .int .i64 (k : Int), .pointer (some ⟨g', off' + k * 3, none⟩), .pointer (some ⟨g', off' + k * 3, none⟩), .int .i64 x, .bool false, .bool false, .slice (some ⟨g, off, none⟩) L.length c, .int .i64 (k : Int), .pointer (some ⟨g, off + k * 3, none⟩), .pointer (some ⟨g, off + k * 3 + 1, none⟩), .int .i32 y, .int .i64 y, .slice (some ⟨g', off', none⟩) L.length c', .int .i64 (k : Int), .pointer (some ⟨g', off' + k * 3, none⟩), .pointer (some ⟨g', off' + k * 3 + 1, none⟩), .int .i64 y', .bool true, .bool true, .bool true, undef, undef, undef, undef, undef, undef, undef, undef, undef, undef, undef, .bool true] 56 rfl (by kernel_rfl) (by kernel_rfl) (grown_start _) ⟨?o0r6n1, ?o1r6n1, ?o2r6n1, ?o3r6n1, ?o4r6n1, ?o5r6n1, ?o6r6n1, ?o7r6n1, ?o8r6n1, ?o9r6n1, ?o10r6n1, ?o11r6n1, ?o12r6n1, ?o13r6n1, ?o14r6n1, ?o15r6n1, ?o16r6n1, ?o17r6n1, ?o18r6n1, ?o19r6n1, ?o20r6n1, ?o21r6n1, ?o22r6n1, ?o23r6n1, ?o24r6n1, ?o25r6n1, ?o26r6n1, ?o27r6n1, ?o28r6n1, ?o29r6n1, ?o30r6n1, ?o31r6n1, ?o32r6n1, ?o33r6n1, ?o34r6n1, ?o35r6n1, ?o36r6n1, ?o37r6n1, ?o38r6n1, trivial⟩ ?har6n1 ?hdoner6n1
            case har6n1 => simp [putAll, Act.put]; exact rfl
            case o0r6n1 => exact ValOp.pure (grown_steady _ 0) [(0, .slice (some ⟨g, off, none⟩) L.length c)] rfl (fun _ _ h2 => ⟨(h2 0 (by kernel_rfl)).trans rfl, trivial⟩) (by kernel_rfl) (fun _ _ _ _ _ => by kernel_rfl)
            case o1r6n1 => exact ValOp.pure (grown_steady _ 1) [(5, .int .i64 (k : Int))] rfl (fun _ _ h2 => ⟨(h2 5 (by kernel_rfl)).trans rfl, trivial⟩) (by kernel_rfl) (fun _ _ _ _ _ => by kernel_rfl)
            case o2r6n1 => exact ValOp.pure (grown_steady _ 2) [(16, .slice (some ⟨g, off, none⟩) L.length c), (17, .int .i64 (k : Int))] rfl (fun _ h1 _ => ⟨h1 0 16 (by kernel_rfl), h1 1 17 (by kernel_rfl), trivial⟩) (by kernel_rfl) (fun _ _ _ _ _ => run_ia_22 rfl rfl rfl HK.out)
            case o3r6n1 => exact ValOp.pure (grown_steady _ 3) [(18, .pointer (some ⟨g, off + k * 3, none⟩))] rfl (fun _ h1 _ => ⟨h1 2 18 (by kernel_rfl), trivial⟩) (by kernel_rfl) (fun _ _ _ _ _ => by kernel_rfl)
            case o4r6n1 => exact ValOp.pure (grown_steady _ 4) [(19, .pointer (some ⟨g, off + k * 3, none⟩))] rfl (fun _ h1 _ => ⟨h1 3 19 (by kernel_rfl), trivial⟩) (by kernel_rfl) (fun _ W _ hg _ => run_read rfl rfl (run_cellz (Z1.out W hg) (Try.isAgg21 _)))
            case o5r6n1 => exact ValOp.pure (grown_steady _ 5) [(20, .int .i32 x)] rfl (fun _ h1 _ => ⟨h1 4 20 (by kernel_rfl), trivial⟩) (by kernel_rfl) (fun _ _ _ _ _ => run_cvz rfl rfl f1 f2)
            case o6r6n1 => exact ValOp.pure (grown_steady _ 6) [(1, .slice (some ⟨g', off', none⟩) L.length c')] rfl (fun _ _ h2 => ⟨(h2 1 (by kernel_rfl)).trans rfl, trivial⟩) (by kernel_rfl) (fun _ _ _ _ _ => by kernel_rfl)
            case o7r6n1 => exact ValOp.pure (grown_steady _ 7) [(5, .int .i64 (k : Int))] rfl (fun _ _ h2 => ⟨(h2 5 (by kernel_rfl)).trans rfl, trivial⟩) (by kernel_rfl) (fun _ _ _ _ _ => by kernel_rfl)
            case o8r6n1 => exact ValOp.pure (grown_steady _ 8) [(22, .slice (some ⟨g', off', none⟩) L.length c'), (23, .int .i64 (k : Int))] rfl (fun _ h1 _ => ⟨h1 6 22 (by kernel_rfl), h1 7 23 (by kernel_rfl), trivial⟩) (by kernel_rfl) (fun _ _ _ _ _ => run_ia_25 rfl rfl rfl HK.out)
            case o9r6n1 => exact ValOp.pure (grown_steady _ 9) [(24, .pointer (some ⟨g', off' + k * 3, none⟩))] rfl (fun _ h1 _ => ⟨h1 8 24 (by kernel_rfl), trivial⟩) (by kernel_rfl) (fun _ _ _ _ _ => by kernel_rfl)
            case o10r6n1 => exact ValOp.pure (grown_steady _ 10) [(25, .pointer (some ⟨g', off' + k * 3, none⟩))] rfl (fun _ h1 _ => ⟨h1 9 25 (by kernel_rfl), trivial⟩) (by kernel_rfl) (fun _ W _ hg _ => run_read rfl rfl (run_cellz (Z1'.out W hg) (Try.isAgg3 _)))
            case o11r6n1 => exact ValOp.pure (grown_steady _ 11) [(21, .int .i64 x), (26, .int .i64 x)] rfl (fun _ h1 _ => ⟨h1 5 21 (by kernel_rfl), h1 10 26 (by kernel_rfl), trivial⟩) (by kernel_rfl) (fun _ _ _ _ _ => run_bin (a := .int .i64 x) (b := .int .i64 x) rfl rfl rfl (by kernel_rfl) (by simp [go_sem]))
            case o12r6n1 => exact ValOp.pure (grown_steady _ 12) [(27, .bool false)] rfl (fun _ h1 _ => ⟨h1 11 27 (by kernel_rfl), trivial⟩) (by kernel_rfl) (fun _ _ _ _ _ => by kernel_rfl)
            case o13r6n1 => exact ValOp.pure (grown_steady _ 13) [(0, .slice (some ⟨g, off, none⟩) L.length c)] (.inl ⟨28, _, rfl, rfl, by kernel_rfl, rfl⟩) (fun _ _ h2 => ⟨(h2 0 (by kernel_rfl)).trans rfl, trivial⟩) (by kernel_rfl) (fun _ _ _ _ _ => by kernel_rfl)
            case o14r6n1 => exact ValOp.pure (grown_steady _ 14) [(5, .int .i64 (k : Int))] (.inl ⟨28, _, rfl, rfl, by kernel_rfl, rfl⟩) (fun _ _ h2 => ⟨(h2 5 (by kernel_rfl)).trans rfl, trivial⟩) (by kernel_rfl) (fun _ _ _ _ _ => by kernel_rfl)
            case o15r6n1 => exact ValOp.pure (grown_steady _ 15) [(29, .slice (some ⟨g, off, none⟩) L.length c), (30, .int .i64 (k : Int))] (.inl ⟨28, _, rfl, rfl, by kernel_rfl, rfl⟩) (fun _ h1 _ => ⟨h1 13 29 (by kernel_rfl), h1 14 30 (by kernel_rfl), trivial⟩) (by kernel_rfl) (fun _ _ _ _ _ => run_ia_22 rfl rfl rfl HK.out)
            case o16r6n1 => exact ValOp.pure (grown_steady _ 16) [(31, .pointer (some ⟨g, off + k * 3, none⟩))] (.inl ⟨28, _, rfl, rfl, by kernel_rfl, rfl⟩) (fun _ h1 _ => ⟨h1 15 31 (by kernel_rfl), trivial⟩) (by kernel_rfl) (fun _ _ _ _ _ => by kernel_rfl)
            case o17r6n1 => exact ValOp.pure (grown_steady _ 17) [(32, .pointer (some ⟨g, off + k * 3 + 1, none⟩))] (.inl ⟨28, _, rfl, rfl, by kernel_rfl, rfl⟩) (fun _ h1 _ => ⟨h1 16 32 (by kernel_rfl), trivial⟩) (by kernel_rfl) (fun _ W _ hg _ => run_read rfl rfl (run_cellz (Z2.out W hg) (Try.isAgg21 _)))
            case o18r6n1 => exact ValOp.pure (grown_steady _ 18) [(33, .int .i32 y)] (.inl ⟨28, _, rfl, rfl, by kernel_rfl, rfl⟩) (fun _ h1 _ => ⟨h1 17 33 (by kernel_rfl), trivial⟩) (by kernel_rfl) (fun _ _ _ _ _ => run_cvz rfl rfl f3 f4)
            case o19r6n1 => exact ValOp.pure (grown_steady _ 19) [(1, .slice (some ⟨g', off', none⟩) L.length c')] (.inl ⟨28, _, rfl, rfl, by kernel_rfl, rfl⟩) (fun _ _ h2 => ⟨(h2 1 (by kernel_rfl)).trans rfl, trivial⟩) (by kernel_rfl) (fun _ _ _ _ _ => by kernel_rfl)
            case o20r6n1 => exact ValOp.pure (grown_steady _ 20) [(5, .int .i64 (k : Int))] (.inl ⟨28, _, rfl, rfl, by kernel_rfl, rfl⟩) (fun _ _ h2 => ⟨(h2 5 (by kernel_rfl)).trans rfl, trivial⟩) (by kernel_rfl) (fun _ _ _ _ _ => by kernel_rfl)
            case o21r6n1 => exact ValOp.pure (grown_steady _ 21) [(35, .slice (some ⟨g', off', none⟩) L.length c'), (36, .int .i64 (k : Int))] (.inl ⟨28, _, rfl, rfl, by kernel_rfl, rfl⟩) (fun _ h1 _ => ⟨h1 19 35 (by kernel_rfl), h1 20 36 (by kernel_rfl), trivial⟩) (by kernel_rfl) (fun _ _ _ _ _ => run_ia_25 rfl rfl rfl HK.out)
            case o22r6n1 => exact ValOp.pure (grown_steady _ 22) [(37, .pointer (some ⟨g', off' + k * 3, none⟩))] (.inl ⟨28, _, rfl, rfl, by kernel_rfl, rfl⟩) (fun _ h1 _ => ⟨h1 21 37 (by kernel_rfl), trivial⟩) (by kernel_rfl) (fun _ _ _ _ _ => by kernel_rfl)
            case o23r6n1 => exact ValOp.pure (grown_steady _ 23) [(38, .pointer (some ⟨g', off' + k * 3 + 1, none⟩))] (.inl ⟨28, _, rfl, rfl, by kernel_rfl, rfl⟩) (fun _ h1 _ => ⟨h1 22 38 (by kernel_rfl), trivial⟩) (by kernel_rfl) (fun _ W _ hg _ => run_read rfl rfl (run_cellz (Z2'.out W hg) (Try.isAgg3 _)))
            case o24r6n1 => exact ValOp.pure (grown_steady _ 24) [(34, .int .i64 y), (39, .int .i64 y')] (.inl ⟨28, _, rfl, rfl, by kernel_rfl, rfl⟩) (fun _ h1 _ => ⟨h1 18 34 (by kernel_rfl), h1 23 39 (by kernel_rfl), trivial⟩) (by kernel_rfl) (fun _ _ _ _ _ => run_bin (a := .int .i64 y) (b := .int .i64 y') rfl rfl rfl (by kernel_rfl) (by simp [go_sem, bne, b2]))
            case o25r6n1 => exact ValOp.pure (grown_steady _ 25) [(28, .bool false), (40, .bool true)] rfl (fun _ h1 _ => ⟨h1 12 28 (by kernel_rfl), h1 24 40 (by kernel_rfl), trivial⟩) (by kernel_rfl) (fun _ _ _ _ _ => by kernel_rfl)
            case o26r6n1 => exact ValOp.pure (grown_steady _ 26) [(41, .bool true)] rfl (fun _ h1 _ => ⟨h1 25 41 (by kernel_rfl), trivial⟩) (by kernel_rfl) (fun _ _ _ _ _ => by kernel_rfl)
            case o27r6n1 => exact ValOp.no (grown_steady _ 27) (.inl ⟨42, _, rfl, rfl, by kernel_rfl, rfl⟩) rfl
            case o28r6n1 => exact ValOp.no (grown_steady _ 28) (.inl ⟨42, _, rfl, rfl, by kernel_rfl, rfl⟩) rfl
            case o29r6n1 => exact ValOp.no (grown_steady _ 29) (.inl ⟨42, _, rfl, rfl, by kernel_rfl, rfl⟩) rfl
            case o30r6n1 => exact ValOp.no (grown_steady _ 30) (.inl ⟨42, _, rfl, rfl, by kernel_rfl, rfl⟩) rfl
            case o31r6n1 => exact ValOp.no (grown_steady _ 31) (.inl ⟨42, _, rfl, rfl, by kernel_rfl, rfl⟩) rfl
            case o32r6n1 => exact ValOp.no (grown_steady _ 32) (.inl ⟨42, _, rfl, rfl, by kernel_rfl, rfl⟩) rfl
            case o33r6n1 => exact ValOp.no (grown_steady _ 33) (.inl ⟨42, _, rfl, rfl, by kernel_rfl, rfl⟩) rfl
            case o34r6n1 => exact ValOp.no (grown_steady _ 34) (.inl ⟨42, _, rfl, rfl, by kernel_rfl, rfl⟩) rfl
            case o35r6n1 => exact ValOp.no (grown_steady _ 35) (.inl ⟨42, _, rfl, rfl, by kernel_rfl, rfl⟩) rfl
            case o36r6n1 => exact ValOp.no (grown_steady _ 36) (.inl ⟨42, _, rfl, rfl, by kernel_rfl, rfl⟩) rfl
            case o37r6n1 => exact ValOp.no (grown_steady _ 37) (.inl ⟨42, _, rfl, rfl, by kernel_rfl, rfl⟩) rfl
            case o38r6n1 => exact ValOp.pure (grown_steady _ 38) [(42, .bool true), (53, undef)] rfl (fun _ h1 _ => ⟨h1 26 42 (by kernel_rfl), h1 37 53 (by kernel_rfl), trivial⟩) (by kernel_rfl) (fun _ _ _ _ _ => by kernel_rfl)
            case hdoner6n1 =>
              intro w9 s hs b9
              have B2 : Hid (Below w.heap.size w w9) := hB.out.trans (Below.mono b9 hB.out.size)
              clear b9 hs
              go_wp2
              go_ret
              rw [hR.out]
              exact ⟨rfl, B2.out⟩
        · have b1 : (x == x') = false := by simpa using q1
          have NEQ : ¬ ((x, y, n) = (x', y', n')) := fun h => q1 (by simp at h; exact h.1)
          clear q1 hS
          have hR : Hid (R = false) := by
            rw [Hid]
            cases R
            · rfl
            · have := HRR.out.1 rfl
              rw [← hsL.out, ← hsM.out, this] at NEQ
              exact absurd rfl NEQ
          clear NEQ
          have Z1 : Hid (∀ W, Below wr.heap.size wr W → W.cell? ⟨g, off + k * 3, none⟩ = some (.int .i32 x)) := fun W hW => (hW.cell (p := ⟨g, off + k * 3, none⟩) (World.block_lt_of_cell? wr _ e1)).trans e1
          have Z1' : Hid (∀ W, Below wr.heap.size wr W → W.cell? ⟨g', off' + k * 3, none⟩ = some (.int .i64 x')) := fun W hW => (hW.cell (p := ⟨g', off' + k * 3, none⟩) (World.block_lt_of_cell? wr _ e1')).trans e1'
          go_wp2_with fail
          refine wp_region_vals (a1 := ?a1r6n2) (grown _) [.slice (some ⟨g, off, none⟩) L.length c, .int .i64 (k : Int), .pointer (some ⟨g, off + k * 3, none⟩), .pointer (some ⟨g, off + k * 3, none⟩), .int .i32 x, .int .i64 x, .slice (some ⟨g', off', none⟩) L.length c', .int .i64 (k : Int), .pointer (some ⟨g', off' + k * 3, none⟩), .pointer (some ⟨g', off' + k * 3, none⟩), .int .i64 x', .bool true, .bool true, undef, undef, undef, undef, undef, undef, undef, undef, undef, undef, undef, undef, .bool true, .bool true, undef, undef, undef, undef, undef, undef, undef, undef, undef, undef, undef, .bool true] 56 rfl (by kernel_rfl) (by kernel_rfl) (grown_start _) ⟨?o0r6n2, ?o1r6n2, ?o2r6n2, ?o3r6n2, ?o4r6n2, ?o5r6n2, ?o6r6n2, ?o7r6n2, ?o8r6n2, ?o9r6n2, ?o10r6n2, ?o11r6n2, ?o12r6n2, ?o13r6n2, ?o14r6n2, ?o15r6n2, ?o16r6n2, ?o17r6n2, ?o18r6n2, ?o19r6n2, ?o20r6n2, ?o21r6n2, ?o22r6n2, ?o23r6n2, ?o24r6n2, ?o25r6n2, ?o26r6n2, ?o27r6n2, ?o28r6n2, ?o29r6n2, ?o30r6n2, ?o31r6n2, ?o32r6n2, ?o33r6n2, ?o34r6n2, ?o35r6n2, ?o36r6n2, ?o37r6n2, ?o38r6n2, trivial⟩ ?har6n2 ?hdoner6n2
          case har6n2 => simp [putAll, Act.put]; exact rfl
          case o0r6n2 => exact ValOp.pure (grown_steady _ 0) [(0, .slice (some ⟨g, off, none⟩) L.length c)] rfl (fun _ _ h2 => ⟨(h2 0 (by kernel_rfl)).trans rfl, trivial⟩) (by kernel_rfl) (fun _ _ _ _ _ => by kernel_rfl)
          case o1r6n2 => exact ValOp.pure (grown_steady _ 1) [(5, .int .i64 (k : Int))] rfl (fun _ _ h2 => ⟨(h2 5 (by kernel_rfl)).trans rfl, trivial⟩) (by kernel_rfl) (fun _ _ _ _ _ => by kernel_rfl)
          case o2r6n2 => exact ValOp.pure (grown_steady _ 2) [(16, .slice (some ⟨g, off, none⟩) L.length c), (17, .int .i64 (k : Int))] rfl (fun _ h1 _ => ⟨h1 0 16 (by kernel_rfl), h1 1 17 (by kernel_rfl), trivial⟩) (by kernel_rfl) (fun _ _ _ _ _ => run_ia_22 rfl rfl rfl HK.out)
          case o3r6n2 => exact ValOp.pure (grown_steady _ 3) [(18, .pointer (some ⟨g, off + k * 3, none⟩))] rfl (fun _ h1 _ => ⟨h1 2 18 (by kernel_rfl), trivial⟩) (by kernel_rfl) (fun _ _ _ _ _ => by kernel_rfl)
          case o4r6n2 => exact ValOp.pure (grown_steady _ 4) [(19, .pointer (some ⟨g, off + k * 3, none⟩))] rfl (fun _ h1 _ => ⟨h1 3 19 (by kernel_rfl), trivial⟩) (by kernel_rfl) (fun _ W _ hg _ => run_read rfl rfl (run_cellz (Z1.out W hg) (Try.isAgg21 _)))
          case o5r6n2 => exact ValOp.pure (grown_steady _ 5) [(20, .int .i32 x)] rfl (fun _ h1 _ => ⟨h1 4 20 (by kernel_rfl), trivial⟩) (by kernel_rfl) (fun _ _ _ _ _ => run_cvz rfl rfl f1 f2)
          case o6r6n2 => exact ValOp.pure (grown_steady _ 6) [(1, .slice (some ⟨g', off', none⟩) L.length c')] rfl (fun _ _ h2 => ⟨(h2 1 (by kernel_rfl)).trans rfl, trivial⟩) (by kernel_rfl) (fun _ _ _ _ _ => by kernel_rfl)
          case o7r6n2 => exact ValOp.pure (grown_steady _ 7) [(5, .int .i64 (k : Int))] rfl (fun _ _ h2 => ⟨(h2 5 (by kernel_rfl)).trans rfl, trivial⟩) (by kernel_rfl) (fun _ _ _ _ _ => by kernel_rfl)
          case o8r6n2 => exact ValOp.pure (grown_steady _ 8) [(22, .slice (some ⟨g', off', none⟩) L.length c'), (23, .int .i64 (k : Int))] rfl (fun _ h1 _ => ⟨h1 6 22 (by kernel_rfl), h1 7 23 (by kernel_rfl), trivial⟩) (by kernel_rfl) (fun _ _ _ _ _ => run_ia_25 rfl rfl rfl HK.out)
          case o9r6n2 => exact ValOp.pure (grown_steady _ 9) [(24, .pointer (some ⟨g', off' + k * 3, none⟩))] rfl (fun _ h1 _ => ⟨h1 8 24 (by kernel_rfl), trivial⟩) (by kernel_rfl) (fun _ _ _ _ _ => by kernel_rfl)
          case o10r6n2 => exact ValOp.pure (grown_steady _ 10) [(25, .pointer (some ⟨g', off' + k * 3, none⟩))] rfl (fun _ h1 _ => ⟨h1 9 25 (by kernel_rfl), trivial⟩) (by kernel_rfl) (fun _ W _ hg _ => run_read rfl rfl (run_cellz (Z1'.out W hg) (Try.isAgg3 _)))
          case o11r6n2 => exact ValOp.pure (grown_steady _ 11) [(21, .int .i64 x), (26, .int .i64 x')] rfl (fun _ h1 _ => ⟨h1 5 21 (by kernel_rfl), h1 10 26 (by kernel_rfl), trivial⟩) (by kernel_rfl) (fun _ _ _ _ _ => run_bin (a := .int .i64 x) (b := .int .i64 x') rfl rfl rfl (by kernel_rfl) (by simp [go_sem, bne, b1]))
          case o12r6n2 => exact ValOp.pure (grown_steady _ 12) [(27, .bool true)] rfl (fun _ h1 _ => ⟨h1 11 27 (by kernel_rfl), trivial⟩) (by kernel_rfl) (fun _ _ _ _ _ => by kernel_rfl)
          case o13r6n2 => exact ValOp.no (grown_steady _ 13) (.inl ⟨28, _, rfl, rfl, by kernel_rfl, rfl⟩) rfl
          case o14r6n2 => exact ValOp.no (grown_steady _ 14) (.inl ⟨28, _, rfl, rfl, by kernel_rfl, rfl⟩) rfl
          case o15r6n2 => exact ValOp.no (grown_steady _ 15) (.inl ⟨28, _, rfl, rfl, by kernel_rfl, rfl⟩) rfl
          case o16r6n2 => exact ValOp.no (grown_steady _ 16) (.inl ⟨28, _, rfl, rfl, by kernel_rfl, rfl⟩) rfl
          case o17r6n2 => exact ValOp.no (grown_steady _ 17) (.inl ⟨28, _, rfl, rfl, by kernel_rfl, rfl⟩) rfl
          case o18r6n2 => exact ValOp.no (grown_steady _ 18) (.inl ⟨28, _, rfl, rfl, by kernel_rfl, rfl⟩) rfl
          case o19r6n2 => exact ValOp.no (grown_steady _ 19) (.inl ⟨28, _, rfl, rfl, by kernel_rfl, rfl⟩) rfl
          case o20r6n2 => exact ValOp.no (grown_steady _ 20) (.inl ⟨28, _, rfl, rfl, by kernel_rfl, rfl⟩) rfl
          case o21r6n2 => exact ValOp.no (grown_steady _ 21) (.inl ⟨28, _, rfl, rfl, by kernel_rfl, rfl⟩) rfl
          case o22r6n2 => exact ValOp.no (grown_steady _ 22) (.inl ⟨28, _, rfl, rfl, by kernel_rfl, rfl⟩) rfl
          case o23r6n2 => exact ValOp.no (grown_steady _ 23) (.inl ⟨28, _, rfl, rfl, by kernel_rfl, rfl⟩) rfl
          case o24r6n2 => exact ValOp.no (grown_steady _ 24) (.inl ⟨28, _, rfl, rfl, by kernel_rfl, rfl⟩) rfl
          case o25r6n2 => exact ValOp.pure (grown_steady _ 25) [(28, .bool true), (40, undef)] rfl (fun _ h1 _ => ⟨h1 12 28 (by kernel_rfl), h1 24 40 (by kernel_rfl), trivial⟩) (by kernel_rfl) (fun _ _ _ _ _ => by kernel_rfl)
          case o26r6n2 => exact ValOp.pure (grown_steady _ 26) [(41, .bool true)] rfl (fun _ h1 _ => ⟨h1 25 41 (by kernel_rfl), trivial⟩) (by kernel_rfl) (fun _ _ _ _ _ => by kernel_rfl)
          case o27r6n2 => exact ValOp.no (grown_steady _ 27) (.inl ⟨42, _, rfl, rfl, by kernel_rfl, rfl⟩) rfl
          case o28r6n2 => exact ValOp.no (grown_steady _ 28) (.inl ⟨42, _, rfl, rfl, by kernel_rfl, rfl⟩) rfl
          case o29r6n2 => exact ValOp.no (grown_steady _ 29) (.inl ⟨42, _, rfl, rfl, by kernel_rfl, rfl⟩) rfl
          case o30r6n2 => exact ValOp.no (grown_steady _ 30) (.inl ⟨42, _, rfl, rfl, by kernel_rfl, rfl⟩) rfl
          case o31r6n2 => exact ValOp.no (grown_steady _ 31) (.inl ⟨42, _, rfl, rfl, by kernel_rfl, rfl⟩) rfl
          case o32r6n2 => exact ValOp.no (grown_steady _ 32) (.inl ⟨42, _, rfl, rfl, by kernel_rfl, rfl⟩) rfl
          case o33r6n2 => exact ValOp.no (grown_steady _ 33) (.inl ⟨42, _, rfl, rfl, by kernel_rfl, rfl⟩) rfl
          case o34r6n2 => exact ValOp.no (grown_steady _ 34) (.inl ⟨42, _, rfl, rfl, by kernel_rfl, rfl⟩) rfl
          case o35r6n2 => exact ValOp.no (grown_steady _ 35) (.inl ⟨42, _, rfl, rfl, by kernel_rfl, rfl⟩) rfl
          case o36r6n2 => exact ValOp.no (grown_steady _ 36) (.inl ⟨42, _, rfl, rfl, by kernel_rfl, rfl⟩) rfl
          case o37r6n2 => exact ValOp.no (grown_steady _ 37) (.inl ⟨42, _, rfl, rfl, by kernel_rfl, rfl⟩) rfl
          case o38r6n2 => exact ValOp.pure (grown_steady _ 38) [(42, .bool true), (53, undef)] rfl (fun _ h1 _ => ⟨h1 26 42 (by kernel_rfl), h1 37 53 (by kernel_rfl), trivial⟩) (by kernel_rfl) (fun _ _ _ _ _ => by kernel_rfl)
          case hdoner6n2 =>
            intro w9 s hs b9
            have B2 : Hid (Below w.heap.size w w9) := hB.out.trans (Below.mono b9 hB.out.size)
            clear b9 hs
            go_wp2
            go_ret
            rw [hR.out]
            exact ⟨rfl, B2.out⟩
      · have kl : decide ((k : Int) < (L.length : Int)) = false := decide_eq_false (by omega)
        have kl2 : ¬ ((k : Int) < (L.length : Int)) := by omega
        have hR : Hid (R = true) := HRR.out.2 (List.ext_getElem? fun i => by
          have := HLM.out
          by_cases hi : i < k
          · have h1 := hS.out i hi
            rw [List.getElem?_eq_getElem (by omega), List.getElem?_eq_getElem (by omega)]
            simp only [List.getD, List.getElem?_eq_getElem (show i < L.length by omega), List.getElem?_eq_getElem (show i < M.length by omega), Option.getD_some] at h1
            rw [h1]
          · rw [List.getElem?_eq_none (by omega), List.getElem?_eq_none (by omega)])
        clear hS hkl
        go_wp2
        go_ret
        rw [hR.out]
        exact ⟨rfl, hB.out⟩
  · have hR : R = false := by
      cases R
      · rfl
      · exact absurd (by rw [hRR.1 rfl]) hlen
    have d1 : (((L.length : Nat) : Int) == ((M.length : Nat) : Int)) = false := by simp; omega
    subst hR
    clear hRR hlen hc hc' hf hl hlc hlc'
    go_enter Try.func17, Try.ntmps17
    go_wp2
    go_ret
    exact ⟨rfl, Below.refl _ _⟩
end Go.Proofs.Ytookbgmolggohaa
