/-
  The contracts of slices.Equal over places and over blocks, and of stage.Same. Conditions: the tables' numbers are from 0 to 65535.
-/
import Derived.Test.YtookbgmolggohaaSt
import Derived.BigQuiet
import Derived.Deep.QuietTactic
namespace Go.Proofs.Ytookbgmolggohaa
open Go.RowKit
set_option maxRecDepth 100000 in
theorem run_eq72 {f g : Nat → Int} (hf : isBlk f) (hg : isBlk g) (w : World) (R : Bool) (hR : R = true ↔ f = g) : (Op.equal 72 (bv f) (bv g)).run Try.prog w = .ok R w := by
  obtain ⟨r, h1, h2⟩ := run_equal_deep (P := Try.prog) w (m := 5) (by decide) (k := 72) (by kernel_rfl) (by rw [Try.underlying72]) (key_is f hf) (key_is g hg)
  rw [h1]
  congr 1
  have h3 : r = true ↔ f = g := h2.trans ⟨fun h => kl_inj hf hg h, fun h => by rw [h]⟩
  cases r <;> cases R <;> simp_all
set_option maxRecDepth 100000 in
theorem run_neq72 {f g : Nat → Int} (hf : isBlk f) (hg : isBlk g) (w : World) (R : Bool) (hR : R = true ↔ f = g) : (binOp .neq 72 (bv f) (bv g)).run Try.prog w = .ok (.bool (!R)) w := by
  have h := run_eq72 hf hg w R hR
  unfold bv at h ⊢
  simp only [binOp, Sem.run_bind, h, Result.andThen_ok, Sem.run_pure]
set_option maxRecDepth 100000 in
theorem run_ia_74i {w : World} {l : List (Nat × Value)} {o : Oper} {a b : Operand} {g n c k : Nat} (ho : o.op = .indexAddr 74 a b) (ha : rho l a = .slice (some ⟨g, 0, none⟩) n c) (hb : rho l b = .int .i64 (k : Int)) (h : k < n) : (execOp (rho l) o).run Try.prog w = .ok (.value (.pointer (some ⟨g, k * 128, none⟩))) w := by
  have h2 : ¬ n ≤ k := by omega
  unfold execOp
  simp only [ho, ha, hb]
  simp [Instr.indexAt, asIntOf, run_underlying Try.underlying74, h2, Try.sizeOf72, Instr.sureAddr, Go.WideShapes.add_plain]
theorem ld72 {w : World} {g o : Nat} {f : Nat → Int} (h : ∀ j, j < 128 → w.cell? ⟨g, o + j, none⟩ = some (.int .u16 (f j))) : (loadVar 72 ⟨g, o, none⟩).run Try.prog w = .ok (bv f) w := run_l72 h
/-- Blocks in memory. -/
def BlksAt (w : World) (g : Nat) (U : List (Nat → Int)) : Prop := (∀ f ∈ U, isBlk f) ∧ ∀ i f, U[i]? = some f → ∀ j, j < 128 → w.cell? ⟨g, i * 128 + j, none⟩ = some (.int .u16 (f j))
set_option maxRecDepth 100000 in
set_option maxHeartbeats 2000000 in
theorem eq40_any (pg qg n c d : Nat) (f g : Nat → Nat) (w : World) (R : Bool) (hRR : R = true ↔ ∀ i, i < n → f i = g i) (hn : n ≤ 100000) (hf : ∀ i, i < n → w.cell? ⟨pg, i, none⟩ = some (.int .u16 (f i : Nat))) (hg : ∀ i, i < n → w.cell? ⟨qg, i, none⟩ = some (.int .u16 (g i : Nat))) : Calls Try.prog 40 #[.slice (some ⟨pg, 0, none⟩) n c, .slice (some ⟨qg, 0, none⟩) n d] w fun e w' => e = .returned (.bool R) ∧ Below w.heap.size w w' := by
  have HF : Hid (∀ i, i < n → w.cell? ⟨pg, i, none⟩ = some (.int .u16 (f i : Nat))) := hf
  have HG : Hid (∀ i, i < n → w.cell? ⟨qg, i, none⟩ = some (.int .u16 (g i : Nat))) := hg
  have hn' : (n : Int) ≤ 100000 := by omega
  have hdec : Hid (R = true ↔ ∀ i, i < n → f i = g i) := hRR
  clear hRR
  clear hf hg hn
  go_enter Try.func40, Try.ntmps40
  go_wp2_with fail
  go_loopw [13] (fun y wr => ∃ k : Nat, k ≤ n ∧ y = .int .i64 (k : Nat) ∧ Hid (∀ i, i < k → f i = g i) ∧ Hid (Below w.heap.size w wr)) (fun y _ => (n - (intOf y).toNat : Nat))
  case atStart => exact ⟨0, Nat.zero_le _, rfl, fun i hi => absurd hi (Nat.not_lt_zero _), Below.refl _ _⟩
  case round =>
    obtain ⟨k, hk, rfl, hS, hB⟩ := hrel
    by_cases hkl : k < n
    · have kl : (k : Int) < (n : Int) := by omega
      have c1 : wr.cell? ⟨pg, k, none⟩ = some (.int .u16 (f k : Nat)) := (hB.out.cell (p := ⟨pg, k, none⟩) (World.block_lt_of_cell? w _ (HF.out k hkl))).trans (HF.out k hkl)
      have c2 : wr.cell? ⟨qg, k, none⟩ = some (.int .u16 (g k : Nat)) := (hB.out.cell (p := ⟨qg, k, none⟩) (World.block_lt_of_cell? w _ (HG.out k hkl))).trans (HG.out k hkl)
      by_cases e : f k = g k
      · have d1 : (((f k : Nat) : Int) == ((g k : Nat) : Int)) = true := by simp [e]
        have hS2 : Hid (∀ i, i < k + 1 → f i = g i) := fun i hi => by
          rcases Nat.lt_succ_iff_lt_or_eq.1 hi with h | h
          · exact hS.out i h
          · rw [h]; exact e
        have HK : Hid (k < n) := hkl
        clear e hS hkl
        go_wp2_with fail
        go_quiet (fail)
        have B2 : Hid (Below w.heap.size w (wr.drewN nq)) := below_drew nq hB.out
        go_wp2
        exact ⟨⟨k + 1, by have := HK.out; omega, by go_num, hS2, B2⟩, by have := HK.out; simp [intOf]; omega⟩
      · have d1 : (((f k : Nat) : Int) == ((g k : Nat) : Int)) = false := by simp; omega
        have hR : Hid (R = false) := by
          rw [Hid]
          cases R
          · rfl
          · exact absurd (hdec.out.1 rfl k hkl) e
        clear e hS hkl
        go_wp2_with fail
        go_quiet (fail)
        have B2 : Hid (Below w.heap.size w (wr.drewN nq)) := below_drew nq hB.out
        go_wp2
        go_ret
        rw [hR.out]
        exact ⟨rfl, B2.out⟩
    · have kl : decide ((k : Int) < (n : Int)) = false := decide_eq_false (by omega)
      have kl2 : ¬ ((k : Int) < (n : Int)) := by omega
      have hR : Hid (R = true) := hdec.out.2 fun i hi => hS.out i (by omega)
      clear hS hkl
      go_wp2
      go_ret
      rw [hR.out]
      exact ⟨rfl, hB.out⟩
set_option maxRecDepth 100000 in
set_option maxHeartbeats 2000000 in
theorem eq41_any (pg qg c d : Nat) (U V : List (Nat → Int)) (w : World) (R : Bool) (hRR : R = true ↔ U = V) (hn : U.length ≤ 100000) (_hm : V.length ≤ 100000) (hf : BlksAt w pg U) (hg : BlksAt w qg V) : Calls Try.prog 41 #[.slice (some ⟨pg, 0, none⟩) U.length c, .slice (some ⟨qg, 0, none⟩) V.length d] w fun e w' => e = .returned (.bool R) ∧ Below w.heap.size w w' := by
  have hn' : (U.length : Int) ≤ 100000 := by omega
  by_cases hl : U.length = V.length
  · have hdec : Hid (R = true ↔ U = V) := hRR
    clear hRR
    replace hf : Hid (BlksAt w pg U) := hf
    replace hg : Hid (BlksAt w qg V) := hg
    have hlen : Hid (U.length = V.length) := hl
    rw [← hl]
    clear hn _hm hl
    go_enter Try.func41, Try.ntmps41
    go_wp2_with fail
    go_loopw [13] (fun y wr => ∃ k : Nat, k ≤ U.length ∧ y = .int .i64 (k : Nat) ∧ Hid (∀ i, i < k → U[i]? = V[i]?) ∧ Hid (Below w.heap.size w wr)) (fun y _ => (U.length - (intOf y).toNat : Nat))
    case atStart => exact ⟨0, Nat.zero_le _, rfl, fun i hi => absurd hi (Nat.not_lt_zero _), Below.refl _ _⟩
    case round =>
      obtain ⟨k, hk, rfl, hS, hB⟩ := hrel
      by_cases hkl : k < U.length
      · have kl : (k : Int) < (U.length : Int) := by omega
        have hkl2 : k < V.length := by have := hlen.out; omega
        have bU : Hid (isBlk U[k]) := hf.out.1 _ (List.getElem_mem hkl)
        have bV : Hid (isBlk V[k]) := hg.out.1 _ (List.getElem_mem hkl2)
        have eU : Hid (U[k]? = some U[k]) := List.getElem?_eq_getElem hkl
        have eV : Hid (V[k]? = some V[k]) := List.getElem?_eq_getElem hkl2
        have CU : Hid (∀ W, Below wr.heap.size wr W → ∀ j, j < 128 → W.cell? ⟨pg, k * 128 + j, none⟩ = some (.int .u16 (U[k] j))) := fun W hW j hj => by
          have h0 := hf.out.2 k _ eU.out j hj
          exact ((hB.out.trans (hW.mono hB.out.size)).cell (p := ⟨pg, k * 128 + j, none⟩) (World.block_lt_of_cell? w _ h0)).trans h0
        have CV : Hid (∀ W, Below wr.heap.size wr W → ∀ j, j < 128 → W.cell? ⟨qg, k * 128 + j, none⟩ = some (.int .u16 (V[k] j))) := fun W hW j hj => by
          have h0 := hg.out.2 k _ eV.out j hj
          exact ((hB.out.trans (hW.mono hB.out.size)).cell (p := ⟨qg, k * 128 + j, none⟩) (World.block_lt_of_cell? w _ h0)).trans h0
        have HK : Hid (k < U.length) := hkl
        generalize U[k] = fU at *
        generalize V[k] = fV at *
        clear hkl2
        go_wp2_with fail
        by_cases e : fU = fV
        · have hS2 : Hid (∀ i, i < k + 1 → U[i]? = V[i]?) := fun i hi => by
            rcases Nat.lt_succ_iff_lt_or_eq.1 hi with h | h
            · exact hS.out i h
            · rw [h, eU.out, eV.out, e]
          have ed : (true = true ↔ fU = fV) := ⟨fun _ => e, fun _ => rfl⟩
          clear hkl
          refine wp_region_vals (a1 := ?a1r6n1) (grown _) [.slice (some ⟨pg, 0, none⟩) U.length c, .int .i64 (k : Int), .pointer (some ⟨pg, k * 128, none⟩), bv fU, .slice (some ⟨qg, 0, none⟩) U.length d, .int .i64 (k : Int), .pointer (some ⟨qg, k * 128, none⟩), bv fV, .bool false] 26 rfl (by kernel_rfl) (by kernel_rfl) (grown_start _) ⟨?o0r6n1, ?o1r6n1, ?o2r6n1, ?o3r6n1, ?o4r6n1, ?o5r6n1, ?o6r6n1, ?o7r6n1, ?o8r6n1, trivial⟩ ?har6n1 ?hdoner6n1
          case har6n1 => simp [putAll, Act.put]; exact rfl
          case o0r6n1 => exact ValOp.pure (grown_steady _ 0) [(0, .slice (some ⟨pg, 0, none⟩) U.length c)] rfl (fun _ _ h2 => ⟨(h2 0 (by kernel_rfl)).trans rfl, trivial⟩) (by kernel_rfl) (fun _ _ _ _ _ => by kernel_rfl)
          case o1r6n1 => exact ValOp.pure (grown_steady _ 1) [(5, .int .i64 (k : Int))] rfl (fun _ _ h2 => ⟨(h2 5 (by kernel_rfl)).trans rfl, trivial⟩) (by kernel_rfl) (fun _ _ _ _ _ => by kernel_rfl)
          case o2r6n1 => exact ValOp.pure (grown_steady _ 2) [(16, .slice (some ⟨pg, 0, none⟩) U.length c), (17, .int .i64 (k : Int))] rfl (fun _ h1 _ => ⟨h1 0 16 (by kernel_rfl), h1 1 17 (by kernel_rfl), trivial⟩) (by kernel_rfl) (fun _ _ _ _ _ => run_ia_74i rfl rfl rfl HK.out)
          case o3r6n1 => exact ValOp.pure (grown_steady _ 3) [(18, .pointer (some ⟨pg, k * 128, none⟩))] rfl (fun _ h1 _ => ⟨h1 2 18 (by kernel_rfl), trivial⟩) (by kernel_rfl) (fun _ W _ hg _ => run_read rfl rfl (ld72 (CU.out W hg)))
          case o4r6n1 => exact ValOp.pure (grown_steady _ 4) [(1, .slice (some ⟨qg, 0, none⟩) U.length d)] rfl (fun _ _ h2 => ⟨(h2 1 (by kernel_rfl)).trans rfl, trivial⟩) (by kernel_rfl) (fun _ _ _ _ _ => by kernel_rfl)
          case o5r6n1 => exact ValOp.pure (grown_steady _ 5) [(5, .int .i64 (k : Int))] rfl (fun _ _ h2 => ⟨(h2 5 (by kernel_rfl)).trans rfl, trivial⟩) (by kernel_rfl) (fun _ _ _ _ _ => by kernel_rfl)
          case o6r6n1 => exact ValOp.pure (grown_steady _ 6) [(20, .slice (some ⟨qg, 0, none⟩) U.length d), (21, .int .i64 (k : Int))] rfl (fun _ h1 _ => ⟨h1 4 20 (by kernel_rfl), h1 5 21 (by kernel_rfl), trivial⟩) (by kernel_rfl) (fun _ _ _ _ _ => run_ia_74i rfl rfl rfl HK.out)
          case o7r6n1 => exact ValOp.pure (grown_steady _ 7) [(22, .pointer (some ⟨qg, k * 128, none⟩))] rfl (fun _ h1 _ => ⟨h1 6 22 (by kernel_rfl), trivial⟩) (by kernel_rfl) (fun _ W _ hg _ => run_read rfl rfl (ld72 (CV.out W hg)))
          case o8r6n1 => exact ValOp.pure (grown_steady _ 8) [(19, bv fU), (23, bv fV)] rfl (fun _ h1 _ => ⟨h1 3 19 (by kernel_rfl), h1 7 23 (by kernel_rfl), trivial⟩) (by kernel_rfl) (fun _ W _ _ _ => run_bin (a := bv fU) (b := bv fV) rfl rfl rfl (by kernel_rfl) (run_neq72 bU.out bV.out W _ ed))
          case hdoner6n1 =>
            intro w9 s hs b9
            have B2 : Hid (Below w.heap.size w w9) := hB.out.trans (Below.mono b9 hB.out.size)
            clear b9 hs
            go_wp2
            exact ⟨⟨k + 1, by have := HK.out; omega, by go_num, hS2, B2⟩, by have := HK.out; simp [intOf]; omega⟩
        · have hR : Hid (R = false) := by
            rw [Hid]
            cases R
            · rfl
            · have := eU.out
              rw [hdec.out.1 rfl, eV.out] at this
              exact absurd (Option.some.inj this).symm e
          have ed : (false = true ↔ fU = fV) := ⟨fun h => (by cases h), fun h => absurd h e⟩
          clear hkl
          refine wp_region_vals (a1 := ?a1r6n2) (grown _) [.slice (some ⟨pg, 0, none⟩) U.length c, .int .i64 (k : Int), .pointer (some ⟨pg, k * 128, none⟩), bv fU, .slice (some ⟨qg, 0, none⟩) U.length d, .int .i64 (k : Int), .pointer (some ⟨qg, k * 128, none⟩), bv fV, .bool true] 26 rfl (by kernel_rfl) (by kernel_rfl) (grown_start _) ⟨?o0r6n2, ?o1r6n2, ?o2r6n2, ?o3r6n2, ?o4r6n2, ?o5r6n2, ?o6r6n2, ?o7r6n2, ?o8r6n2, trivial⟩ ?har6n2 ?hdoner6n2
          case har6n2 => simp [putAll, Act.put]; exact rfl
          case o0r6n2 => exact ValOp.pure (grown_steady _ 0) [(0, .slice (some ⟨pg, 0, none⟩) U.length c)] rfl (fun _ _ h2 => ⟨(h2 0 (by kernel_rfl)).trans rfl, trivial⟩) (by kernel_rfl) (fun _ _ _ _ _ => by kernel_rfl)
          case o1r6n2 => exact ValOp.pure (grown_steady _ 1) [(5, .int .i64 (k : Int))] rfl (fun _ _ h2 => ⟨(h2 5 (by kernel_rfl)).trans rfl, trivial⟩) (by kernel_rfl) (fun _ _ _ _ _ => by kernel_rfl)
          case o2r6n2 => exact ValOp.pure (grown_steady _ 2) [(16, .slice (some ⟨pg, 0, none⟩) U.length c), (17, .int .i64 (k : Int))] rfl (fun _ h1 _ => ⟨h1 0 16 (by kernel_rfl), h1 1 17 (by kernel_rfl), trivial⟩) (by kernel_rfl) (fun _ _ _ _ _ => run_ia_74i rfl rfl rfl HK.out)
          case o3r6n2 => exact ValOp.pure (grown_steady _ 3) [(18, .pointer (some ⟨pg, k * 128, none⟩))] rfl (fun _ h1 _ => ⟨h1 2 18 (by kernel_rfl), trivial⟩) (by kernel_rfl) (fun _ W _ hg _ => run_read rfl rfl (ld72 (CU.out W hg)))
          case o4r6n2 => exact ValOp.pure (grown_steady _ 4) [(1, .slice (some ⟨qg, 0, none⟩) U.length d)] rfl (fun _ _ h2 => ⟨(h2 1 (by kernel_rfl)).trans rfl, trivial⟩) (by kernel_rfl) (fun _ _ _ _ _ => by kernel_rfl)
          case o5r6n2 => exact ValOp.pure (grown_steady _ 5) [(5, .int .i64 (k : Int))] rfl (fun _ _ h2 => ⟨(h2 5 (by kernel_rfl)).trans rfl, trivial⟩) (by kernel_rfl) (fun _ _ _ _ _ => by kernel_rfl)
          case o6r6n2 => exact ValOp.pure (grown_steady _ 6) [(20, .slice (some ⟨qg, 0, none⟩) U.length d), (21, .int .i64 (k : Int))] rfl (fun _ h1 _ => ⟨h1 4 20 (by kernel_rfl), h1 5 21 (by kernel_rfl), trivial⟩) (by kernel_rfl) (fun _ _ _ _ _ => run_ia_74i rfl rfl rfl HK.out)
          case o7r6n2 => exact ValOp.pure (grown_steady _ 7) [(22, .pointer (some ⟨qg, k * 128, none⟩))] rfl (fun _ h1 _ => ⟨h1 6 22 (by kernel_rfl), trivial⟩) (by kernel_rfl) (fun _ W _ hg _ => run_read rfl rfl (ld72 (CV.out W hg)))
          case o8r6n2 => exact ValOp.pure (grown_steady _ 8) [(19, bv fU), (23, bv fV)] rfl (fun _ h1 _ => ⟨h1 3 19 (by kernel_rfl), h1 7 23 (by kernel_rfl), trivial⟩) (by kernel_rfl) (fun _ W _ _ _ => run_bin (a := bv fU) (b := bv fV) rfl rfl rfl (by kernel_rfl) (run_neq72 bU.out bV.out W _ ed))
          case hdoner6n2 =>
            intro w9 s hs b9
            have B2 : Hid (Below w.heap.size w w9) := hB.out.trans (Below.mono b9 hB.out.size)
            clear b9 hs
            go_wp2
            go_ret
            rw [hR.out]
            exact ⟨rfl, B2.out⟩
      · have kl : decide ((k : Int) < (U.length : Int)) = false := decide_eq_false (by omega)
        have kl2 : ¬ ((k : Int) < (U.length : Int)) := by omega
        have hR : Hid (R = true) := hdec.out.2 (List.ext_getElem? fun i => by
          by_cases hi : i < k
          · exact hS.out i hi
          · have := hlen.out
            rw [List.getElem?_eq_none (by omega), List.getElem?_eq_none (by omega)])
        clear hS hkl
        go_wp2
        go_ret
        rw [hR.out]
        exact ⟨rfl, hB.out⟩
  · have hR : R = false := by
      cases R
      · rfl
      · exact absurd (by rw [hRR.1 rfl]) hl
    have d1 : (((U.length : Nat) : Int) == ((V.length : Nat) : Int)) = false := by simp; omega
    subst hR
    clear hRR hl hf hg hn _hm
    go_enter Try.func41, Try.ntmps41
    go_wp2
    go_ret
    exact ⟨rfl, Below.refl _ _⟩
end Go.Proofs.Ytookbgmolggohaa
