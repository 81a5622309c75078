/-
  The contract of the document's settled: the digits brought to 16 bits, the sign, the size. Conditions: no digit has come near 64 bits, and the number fits its 280 digits.
-/
import Derived.Test.YtdhfkdopcphjlabBj
namespace Go.Proofs.Ytdhfkdopcphjlab
open Go.RowKit
theorem rowB_congr {f g : Nat → Int} (h : ∀ j, j < 280 → f j = g j) : rowB f = rowB g := by
  unfold rowB
  exact rowOf_congr _ _ _ _ h
theorem elem_of {R : Array Value} {i : Nat} {v : Value} (h : R[i]? = some v) (h' : i < R.size) : R[i]'h' = v := by
  rw [Array.getElem?_eq_getElem h'] at h
  exact Option.some.inj h
theorem mix_all (D : Nat → Nat) (f : Nat → Int) : rowB (mix D f 280) = rowB fun j => ((D j : Nat) : Int) := rowB_congr fun j hj => by unfold mix; rw [if_pos hj]
theorem mix_none (D : Nat → Nat) (f : Nat → Int) : mix D f 0 = f := by funext j; unfold mix; rw [if_neg (by omega)]
/-- The sign of a whole number. -/
def sgnI (V : Int) : Int := if V < 0 then -1 else if V = 0 then 0 else 1
attribute [local go_sem] rowB_size stB isRow_at isRow_past rowIn_at rowIn_past setRow_at setRow_past
set_option maxRecDepth 100000 in
set_option maxHeartbeats 1000000 in
theorem settled_any (f : Nat → Int) (w : World) (hf : ∀ j, -1152921504606846976 ≤ f j ∧ f j ≤ 1152921504606846976) (hV : (bigV f 280).natAbs < 65536 ^ 280) :
    Calls Try.prog 77 #[.agg (rowB f)] w fun e w' => ∃ U : Nat → Nat, e = .returned (.tuple #[.agg (rowB fun j => ((U j : Nat) : Int)), .int .i64 (sgnI (bigV f 280))]) ∧ ((∀ j, j < 280 → U j < 65536) ∧ bigN U 280 = (bigV f 280).natAbs) ∧ Below w.heap.size w w' := by
  obtain ⟨hz, hi⟩ := zero_of_info info62
  clear hi
  obtain ⟨V, hVe⟩ : ∃ V, bigV f 280 = V := ⟨_, rfl⟩
  rw [hVe] at hV ⊢
  replace hVe : Hid (bigV f 280 = V) := hVe
  have HF : Hid (∀ j, -1152921504606846976 ≤ f j ∧ f j ≤ 1152921504606846976) := hf
  have HV : Hid (V.natAbs < 65536 ^ 280) := hV
  clear hf hV
  go_enter Try.func77, Try.ntmps77
  go_wp2_with fail
  go_loopw [4, 5] (fun y x wr => ∃ (i : Nat) (c : Int) (D : Nat → Nat), i ≤ 280 ∧ x = .int .i64 (i : Int) ∧ y = .int .i64 c ∧ Hid (S1 f D i c) ∧ wr = (w.alloc (.cells (rowB (mix D f i)) 75)).alloc (.cells (rowB fun _ => 0) 75)) (fun _ x _ => 280 - (intOf x).toNat)
  case atStart => exact ⟨0, 0, fun _ => 0, by omega, rfl, rfl, S1.start _ _, by rw [mix_none]⟩
  case round =>
    obtain ⟨i, c, D, hi, rfl, rfl, hS, rfl⟩ := hrel
    by_cases ci : i < 280
    · have hg : (rowB (mix D f i))[i]? = some (.int .i64 (f i)) := by rw [rowB_get _ i ci, mix_at]
      have hsz := rowB_size (mix D f i)
      obtain ⟨f1, f2⟩ := HF.out i
      have hstep : Hid (S1 f (updN D i ((c + f i) % 65536).toNat) (i + 1) ((c + f i) / 65536)) := hS.out.step f1 f2
      have c1 := hS.out.c1
      have c2 := hS.out.c2
      have hand := i64_and16 (c + f i)
      have hset : (rowB (mix D f i)).setIfInBounds i (.int .i64 ((c + f i) % 65536)) = rowB (mix (updN D i ((c + f i) % 65536).toNat) f (i + 1)) := by
        rw [rowB_set, ← mix_upd, Int.toNat_of_nonneg (Int.emod_nonneg _ (by decide))]
      have i2 : (i : Int) < 280 := by omega
      generalize rowB (mix D f i) = R0 at *
      generalize hR1 : rowB (mix (updN D i ((c + f i) % 65536).toNat) f (i + 1)) = R1 at hset
      replace hR1 : Hid (rowB (mix (updN D i ((c + f i) % 65536).toNat) f (i + 1)) = R1) := hR1
      have hg2 := elem_of hg
      go_wp2
      exact ⟨⟨i + 1, (c + f i) / 65536, _, by omega, by go_num, rfl, hstep.out, by rw [hR1.out]⟩, by simp [intOf]; omega⟩
    · have e : i = 280 := by omega
      subst e
      obtain ⟨d1, d2⟩ := hS.out.done (by rw [hVe.out]; exact HV.out)
      rw [hVe.out] at d1 d2
      have hlow : Hid (∀ j, j < 280 → D j < 65536) := hS.out.low
      rw [mix_all]
      clear HF hS
      by_cases cc : c < 0
      · have hneg : decide (c < 0) = true := by simpa using cc
        obtain ⟨hv, hn⟩ := d1 cc
        have hN : Hid (bigN D 280 + V.natAbs = 65536 ^ 280) := hn
        have hvv : Hid (V < 0) := hv
        clear d1 d2 cc hv hn
        go_wp2_with fail
        go_loopw [6, 7, 8] (fun y x z wr => ∃ (i o : Nat) (U : Nat → Nat), i ≤ 280 ∧ x = .int .i64 (i : Int) ∧ y = .int .i64 (o : Int) ∧ Hid (S2 D U i o) ∧ wr = (w.alloc (.cells (rowB (mix U (fun j => ((D j : Nat) : Int)) i)) 75)).alloc (.cells (rowB fun _ => 0) 75)) (fun _ x _ _ => 280 - (intOf x).toNat)
        case atStart => exact ⟨0, 0, fun _ => 0, by omega, rfl, rfl, S2.start _ _, by rw [mix_none]⟩
        case round =>
          obtain ⟨i, o, U, hi, rfl, rfl, hS, rfl⟩ := hrel
          by_cases ci : i < 280
          · have hg : (rowB (mix U (fun j => ((D j : Nat) : Int)) i))[i]? = some (.int .i64 ((D i : Nat) : Int)) := by rw [rowB_get _ i ci, mix_at]
            have hsz := rowB_size (mix U (fun j => ((D j : Nat) : Int)) i)
            have hDi := hlow.out i ci
            have ho := hS.out.o1
            have i2 : (i : Int) < 280 := by omega
            have hstep : Hid (S2 D (updN U i (if 0 < D i + o then 65536 - D i - o else 0)) (i + 1) (if 0 < D i + o then 1 else 0)) := hS.out.step hDi
            by_cases cz : 0 < D i + o
            · rw [if_pos cz, if_pos cz] at hstep
              obtain ⟨v, hv⟩ : ∃ v, 65536 - D i - o = v := ⟨_, rfl⟩
              rw [hv] at hstep
              obtain ⟨X, hX⟩ : ∃ X : Int, -((D i : Nat) : Int) - (o : Int) = X := ⟨_, rfl⟩
              have hX2 : decide (X < 0) = true := by simp only [decide_eq_true_eq]; omega
              have hX3 : X + 65536 = (v : Int) := by omega
              have hset : (rowB (mix U (fun j => ((D j : Nat) : Int)) i)).setIfInBounds i (.int .i64 (v : Int)) = rowB (mix (updN U i v) (fun j => ((D j : Nat) : Int)) (i + 1)) := by rw [rowB_set, mix_upd]
              generalize rowB (mix U (fun j => ((D j : Nat) : Int)) i) = R0 at *
              generalize hR1 : rowB (mix (updN U i v) (fun j => ((D j : Nat) : Int)) (i + 1)) = R1 at hset
              replace hR1 : Hid (rowB (mix (updN U i v) (fun j => ((D j : Nat) : Int)) (i + 1)) = R1) := hR1
              generalize D i = d at *
              have hg2 := elem_of hg
              go_wp2
              exact ⟨⟨i + 1, 1, _, by omega, by go_num, rfl, hstep.out, by rw [hR1.out]⟩, by simp [intOf]; omega⟩
            · rw [if_neg cz, if_neg cz] at hstep
              have hX0 : D i = 0 := by omega
              have ho0 : o = 0 := by omega
              subst ho0
              rw [hX0] at hg
              have hset : (rowB (mix U (fun j => ((D j : Nat) : Int)) i)).setIfInBounds i (.int .i64 0) = rowB (mix (updN U i 0) (fun j => ((D j : Nat) : Int)) (i + 1)) := by rw [← mix_upd]; exact rowB_set _ _ _
              generalize rowB (mix U (fun j => ((D j : Nat) : Int)) i) = R0 at *
              generalize hR1 : rowB (mix (updN U i 0) (fun j => ((D j : Nat) : Int)) (i + 1)) = R1 at hset
              replace hR1 : Hid (rowB (mix (updN U i 0) (fun j => ((D j : Nat) : Int)) (i + 1)) = R1) := hR1
              clear hX0 hDi cz
              have hg2 := elem_of hg
              go_wp2
              exact ⟨⟨i + 1, 0, _, by omega, by go_num, rfl, hstep.out, by rw [hR1.out]⟩, by simp [intOf]; omega⟩
          · have e : i = 280 := by omega
            subst e
            rw [mix_all]
            have hlU : Hid (∀ j, j < 280 → U j < 65536) := hS.out.low
            by_cases c0 : bigN D 280 = 0
            · have h1 := hN.out
              rw [c0, Nat.zero_add] at h1
              exact absurd HV.out (by rw [h1]; exact Nat.lt_irrefl _)
            have hU : Hid (bigN U 280 = V.natAbs) := hS.out.done hN.out c0
            have hsz := rowB_size fun j => ((U j : Nat) : Int)
            clear c0 hN hS
            have hst := stB fun j => ((U j : Nat) : Int)
            generalize hR0 : (rowB fun j => ((U j : Nat) : Int)) = R0 at *
            go_wp2_with (refine wpList_ld rfl 75 _ rfl w.heap.size rfl 280 Try.underlying75 rfl (by kernel_rfl) R0 ?_ ?_ ?_)
            case refine_1 => simp [isRow_at, isRow_past, hsz]
            case refine_2 => simp [rowIn_at, rowIn_past]
            (try simp only [Exit.inBlock, Exit.then])
            refine bodyPost_ret (v := .tuple #[.agg R0, .int .i64 (-1)]) (results_cell_tmp Try.results77 _ _ (w.heap.size + 1) rfl R0 (run_ldc (fun j v hj => ?_) Try.underlying75 rfl (by rw [hsz]; kernel_rfl))) rfl ?_
            · rw [World.cell?_alloc_at _ _ _ _ (by simp)]; exact hj
            refine ⟨U, ?_, ?_, ((Below.refl _ _).alloc (Nat.le_refl _) _).alloc (by simp) _⟩
            · rw [hR0]; unfold sgnI; rw [if_pos hvv.out]
            · exact ⟨hlU.out, hU.out⟩
      · have hneg : decide (c < 0) = false := by simpa using cc
        obtain ⟨hv, hn⟩ := d2 (by omega)
        have hN : Hid (bigN D 280 = V.natAbs) := hn
        have hvv : Hid (0 ≤ V) := hv
        clear d1 d2 cc hv hn
        go_wp2_with fail
        go_loopw [9] (fun x wr => ∃ i : Nat, i ≤ 280 ∧ x = .int .i64 (i : Int) ∧ Hid (∀ j, j < i → D j = 0) ∧ wr = (w.alloc (.cells (rowB fun j => ((D j : Nat) : Int)) 75)).alloc (.cells (rowB fun _ => 0) 75)) (fun x _ => 280 - (intOf x).toNat)
        case atStart => exact ⟨0, by omega, rfl, fun j hj => by omega, rfl⟩
        case round =>
          obtain ⟨i, hi, rfl, hS, rfl⟩ := hrel
          have hsz := rowB_size fun j => ((D j : Nat) : Int)
          by_cases ci : i < 280
          · have hg : (rowB fun j => ((D j : Nat) : Int))[i]? = some (.int .i64 ((D i : Nat) : Int)) := rowB_get _ i ci
            have i2 : (i : Int) < 280 := by omega
            by_cases cz : D i = 0
            · have hstep : Hid (∀ j, j < i + 1 → D j = 0) := fun j hj => by
                by_cases e : j = i
                · rw [e]; exact cz
                · exact hS.out j (by omega)
              rw [cz] at hg
              clear cz
              generalize (rowB fun j => ((D j : Nat) : Int)) = R0 at *
              have hg2 := elem_of hg
              go_wp2
              exact ⟨⟨i + 1, by omega, by go_num, hstep.out, trivial⟩, by simp [intOf]; omega⟩
            · have hp : Hid (¬ V = 0) := fun e => by
                have h1 := hN.out
                rw [e] at h1
                exact cz ((bigN_zero 280).1 h1 i ci)
              have cz2 : (((D i : Nat) : Int) != 0) = true := by simp; omega
              have cz3 : (((D i : Nat) : Int) == 0) = false := by simp; omega
              have hst := stB fun j => ((D j : Nat) : Int)
              generalize hR0 : (rowB fun j => ((D j : Nat) : Int)) = R0 at *
              generalize D i = d at *
              clear cz
              have hg2 := elem_of hg
              go_wp2_with (refine wpList_ld rfl 75 _ rfl w.heap.size rfl 280 Try.underlying75 rfl (by kernel_rfl) R0 ?_ ?_ ?_)
              case refine_1 => simp [isRow_at, isRow_past, hsz]
              case refine_2 => simp [rowIn_at, rowIn_past]
              (try simp only [Exit.inBlock, Exit.then])
              refine bodyPost_ret (v := .tuple #[.agg R0, .int .i64 (1)]) (results_cell_tmp Try.results77 _ _ (w.heap.size + 1) rfl R0 (run_ldc (fun j v hj => ?_) Try.underlying75 rfl (by rw [hsz]; kernel_rfl))) rfl ?_
              · rw [World.cell?_alloc_at _ _ _ _ (by simp)]; exact hj
              refine ⟨D, ?_, ?_, ((Below.refl _ _).alloc (Nat.le_refl _) _).alloc (by simp) _⟩
              · rw [hR0]; unfold sgnI; rw [if_neg (by have := hvv.out; omega), if_neg hp.out]
              · exact ⟨hlow.out, hN.out⟩
          · have e : i = 280 := by omega
            subst e
            have hp : Hid (V = 0) := by
              have h1 := (bigN_zero 280).2 hS.out
              have h2 := hN.out
              show V = 0
              omega
            have hst := stB fun j => ((D j : Nat) : Int)
            generalize hR0 : (rowB fun j => ((D j : Nat) : Int)) = R0 at *
            go_wp2_with (refine wpList_ld rfl 75 _ rfl w.heap.size rfl 280 Try.underlying75 rfl (by kernel_rfl) R0 ?_ ?_ ?_)
            case refine_1 => simp [isRow_at, isRow_past, hsz]
            case refine_2 => simp [rowIn_at, rowIn_past]
            (try simp only [Exit.inBlock, Exit.then])
            refine bodyPost_ret (v := .tuple #[.agg R0, .int .i64 (0)]) (results_cell_tmp Try.results77 _ _ (w.heap.size + 1) rfl R0 (run_ldc (fun j v hj => ?_) Try.underlying75 rfl (by rw [hsz]; kernel_rfl))) rfl ?_
            · rw [World.cell?_alloc_at _ _ _ _ (by simp)]; exact hj
            refine ⟨D, ?_, ?_, ((Below.refl _ _).alloc (Nat.le_refl _) _).alloc (by simp) _⟩
            · rw [hR0]; unfold sgnI; rw [if_neg (by have := hvv.out; omega), if_pos hp.out]
            · exact ⟨hlow.out, hN.out⟩
end Go.Proofs.Ytdhfkdopcphjlab
