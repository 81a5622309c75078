/-
  The contract of sized: the number that the words say, without its sign, and whether it is below 0. Conditions: the words are of 64 bits, and lie in one block.
-/
import Derived.Test.YtdhfkdopcphjlabWo
namespace Go.Proofs.Ytdhfkdopcphjlab
open Go.RowKit
theorem info56 : (Try.prog.info? 67).map (fun i => (i.zero, i.size)) = some (some (.agg (rowOf .u64 66 fun _ => 0)), 66) := by kernel_rfl
theorem rowW_set (W : Nat → Nat) (k v : Nat) : (rowW W).setIfInBounds k (.int .u64 (v : Nat)) = rowW (setW W k v) := by
  unfold rowW
  rw [rowOf_set]
  refine rowOf_congr _ _ _ _ fun i _ => ?_
  unfold setW
  split <;> rfl
/-- Block b holds the words, ahead of what else is in it. -/
def Wd (w : World) (b : Nat) (W : Nat → Nat) : Prop := ∃ cs t, w.heap[b]? = some (.cells cs t (0, 0)) ∧ 66 ≤ cs.size ∧ ∀ j, j < 66 → cs[j]? = some (.int .u64 (W j : Nat))
theorem Wd.cell {w : World} {b : Nat} {W : Nat → Nat} (h : Wd w b W) (j : Nat) (hj : j < 66) : w.cell? ⟨b, j, none⟩ = some (.int .u64 (W j : Nat)) := by
  obtain ⟨cs, t, h1, h2, h3⟩ := h
  rw [cell_of_row w b j cs t (0, 0) h1]
  exact h3 j hj
section
variable {P : Program}
theorem run_ldc {w : World} {g : Nat} {ty : TypeId} {cs : Array Value} {d : TypeDesc} (hc : ∀ j v, cs[j]? = some v → w.cell? ⟨g, j, none⟩ = some v)
    (hu : P.underlying ty = some d) (hd : (match d with | .struct _ | .array _ _ => true | _ => false) = true) (hi : (P.info? ty).map (·.size) = some cs.size) :
    (loadVar ty ⟨g, 0, none⟩).run P w = .ok (.agg cs) w := by
  have hl : (loadCells ⟨g, 0, none⟩ cs.toList.length).run P w = .ok cs.toList.toArray w :=
    run_loadCells_list (P := P) w ⟨g, 0, none⟩ cs.toList (fun j v hv => by
      have hadd : (⟨g, 0, none⟩ : Addr).add j = ⟨g, j, none⟩ := by unfold Addr.add; split <;> simp_all
      rw [hadd]
      exact hc j v (by simpa using hv))
  cases hq : P.info? ty with
  | none => simp [hq] at hi
  | some i =>
    have hs : i.size = cs.size := by simpa [hq] using hi
    have hagg : (isAgg ty).run P w = .ok true w := by
      unfold isAgg
      rw [Sem.run_bind, run_underlying hu w]
      cases d <;> simp_all
    simp only [Array.length_toList, Array.toArray_toList] at hl
    simp [loadVar, Sem.run_bind, hagg, sizeOf, typeInfo, hq, hs, hl]
theorem wpList_ldc {ops : Array Oper} {rest : List Oper} {o : Oper} {a : Act} {w : World} {Q : Exit → Act → World → Prop} (hgd : o.guard = none) (ty : TypeId) (x : Operand) (ho : o.op = .load ty x)
    (g : Nat) (hx : a.eval x = .pointer (some ⟨g, 0, none⟩)) (cs : Array Value) {d : TypeDesc} (hc : ∀ j v, cs[j]? = some v → w.cell? ⟨g, j, none⟩ = some v)
    (hu : P.underlying ty = some d) (hd : (match d with | .struct _ | .array _ _ => true | _ => false) = true) (hi : (P.info? ty).map (·.size) = some cs.size)
    (h : wpList P ops Q rest (a.put o.dst (.agg cs)) w) : wpList P ops Q (o :: rest) a w :=
  wpList_plain hgd fun _ hK => by
    unfold Oper.wp execOp
    simp only [ho, hx, Instr.loadAt, Instr.sureAddr, Sem.run_bind, Sem.run_pure, Result.andThen_ok, run_ldc hc hu hd hi]
    exact hK _ _ h
theorem results_cell_tmp {fn : Func} {p q : Tmp} {ty : TypeId} (h : fn.results = #[.cell p ty, .tmp q]) (tmps : Array Value) (w : World) (m : Nat) (hp : tmps.getD p undef = .pointer (some ⟨m, 0, none⟩)) (cs : Array Value) (hl : (loadVar ty ⟨m, 0, none⟩).run P w = .ok (.agg cs) w) :
    (results fn tmps).run P w = .ok (.tuple #[.agg cs, tmps.getD q undef]) w := by
  have hp' : tmps[p]?.getD undef = .pointer (some ⟨m, 0, none⟩) := by simpa using hp
  simp [results, h, hp', asAddr, hl]
end
theorem cells_W {w : World} {b : Nat} {W : Nat → Nat} (h : ∀ j, j < 66 → w.cell? ⟨b, j, none⟩ = some (.int .u64 (W j : Nat))) : ∀ j v, (rowW W)[j]? = some v → w.cell? ⟨b, j, none⟩ = some v := fun j v hv => by
  have hj : j < 66 := by
    have := (Array.getElem?_eq_some_iff.1 hv).1
    rwa [rowW_size] at this
  rw [rowW_get W j hj] at hv
  rw [h j hj, hv]
attribute [local go_sem] rowOf_size rowW_size isRow_at isRow_past rowIn_at rowIn_past setRow_at setRow_past
attribute [local go_sem] st_at
theorem stW (W : Nat → Nat) (w : World) (m : Nat) (h : isRow w m 66) : (storeCells ⟨m, 0, none⟩ (rowW W).toList 0).run Try.prog w = .ok () (w.setRow m (rowW W)) := st_at w m 66 .u64 _ h
attribute [local go_sem] stW
set_option maxRecDepth 100000 in
set_option maxHeartbeats 400000 in
theorem sized_plain (W : Nat → Nat) (b : Nat) (w : World) (hw : Wd w b W) (hlt : W 65 < 9223372036854775808) : Calls Try.prog 91 #[.pointer (some ⟨b, 0, none⟩)] w fun e w' => e = .returned (.tuple #[.agg (rowW W), .bool false]) ∧ Below w.heap.size w w' := by
  obtain ⟨hz, hi⟩ := zero_of_info info56
  clear hi
  have hcell := hw.cell
  have hb : b < w.heap.size := by obtain ⟨cs, t, h1, -⟩ := hw; exact (Array.getElem?_eq_some_iff.1 h1).1
  have hc1 := cells_W (w := w.alloc (.cells (rowOf .u64 66 fun _ => 0) 67)) (b := b) (W := W) fun j hj => by rw [((Below.refl w.heap.size w).alloc (Nat.le_refl _) _).cell (p := ⟨b, j, none⟩) hb]; exact hcell j hj
  have HC := show Hid _ from hc1
  clear hc1 hcell
  have c65 : ((w.alloc (.cells (rowOf .u64 66 fun _ => 0) 67)).alloc (.cells (rowW W) 67)).cell? ⟨w.heap.size + 1, 65, none⟩ = some (.int .u64 (W 65 : Nat)) := by
    have := cell_new (w.alloc (.cells (rowOf .u64 66 fun _ => 0) 67)) W 65 (by decide)
    rwa [World.size_alloc] at this
  have hq : ((W 65 : Nat) : Int) / 9223372036854775808 = 0 := by omega
  go_enter Try.func91, Try.ntmps91
  go_wp2_with (first | refine wpList_ldc rfl 67 _ rfl b rfl (rowW W) HC.out Try.underlying67 rfl (by rw [rowW_size]; kernel_rfl) ?_ | refine wpList_ld rfl 67 _ rfl (w.heap.size + 1) rfl 66 Try.underlying67 rfl (by kernel_rfl) (rowW W) ?_ ?_ ?_)
  case refine_1 => simp [isRow_at, rowW_size]
  case refine_2 => simp [rowIn_at]
  refine bodyPost_ret (v := .tuple #[.agg (rowW W), .bool false]) (results_cell_tmp Try.results91 _ _ w.heap.size rfl (rowW W) (run_ldc (cells_W fun j hj => ?_) Try.underlying67 rfl (by rw [rowW_size]; kernel_rfl))) rfl ⟨rfl, ((Below.refl _ _).alloc (Nat.le_refl _) _).alloc (by simp) _⟩
  rw [((Below.refl (w.heap.size + 1) _).alloc (by simp) _).cell (p := ⟨w.heap.size, j, none⟩) (by simp)]
  exact cell_new w W j hj
theorem index_W (W : Nat → Nat) (k : Nat) (w : World) (h : k < 66) : (Instr.index 67 (.agg (rowW W)) (.int .i64 (k : Int))).run Try.prog w = .ok (.int .u64 (W k : Nat)) w := by
  have h1 : (0 : Int) ≤ k ∧ (k : Int) < 66 := by omega
  have hg := rowW_get W k h
  simp [Instr.index, asIntOf, run_underlying Try.underlying67, h1, part, Try.sizeOf66, Try.isAgg66, hg, h]
theorem not_word (x : Nat) (h : x < 18446744073709551616) : bits .xor .u64 18446744073709551615 (x : Int) = ((18446744073709551615 - x : Nat) : Int) := by
  have e1 : BitVec.ofInt 64 18446744073709551615 = BitVec.allOnes 64 := by decide
  have e2 : (BitVec.ofInt 64 (x : Int)).toNat = x := by rw [BitVec.toNat_ofInt]; omega
  show IntKind.u64.wrap (((BitVec.ofInt 64 18446744073709551615) ^^^ BitVec.ofInt 64 (x : Int)).toNat : Nat) = _
  rw [e1, BitVec.allOnes_xor, BitVec.toNat_not, e2, IntKind.wrap_u64]
  omega
set_option maxRecDepth 100000 in
set_option maxHeartbeats 1000000 in
theorem sized_turned (W : Nat → Nat) (b : Nat) (w : World) (hw : Wd w b W) (hW : ∀ j, W j < 18446744073709551616) (hge : 9223372036854775808 ≤ W 65) : Calls Try.prog 91 #[.pointer (some ⟨b, 0, none⟩)] w fun e w' => ∃ U, e = .returned (.tuple #[.agg (rowW U), .bool true]) ∧ (∀ j, U j < 18446744073709551616) ∧ val U 66 + val W 66 = 2 ^ 4224 ∧ Below w.heap.size w w' := by
  obtain ⟨hz, hi⟩ := zero_of_info info56
  clear hi
  have hcell := hw.cell
  have hb : b < w.heap.size := by obtain ⟨cs, t, h1, -⟩ := hw; exact (Array.getElem?_eq_some_iff.1 h1).1
  have hc1 := cells_W (w := w.alloc (.cells (rowOf .u64 66 fun _ => 0) 67)) (b := b) (W := W) fun j hj => by rw [((Below.refl w.heap.size w).alloc (Nat.le_refl _) _).cell (p := ⟨b, j, none⟩) hb]; exact hcell j hj
  have HC := show Hid _ from hc1
  clear hc1 hcell
  have c65 : ((w.alloc (.cells (rowOf .u64 66 fun _ => 0) 67)).alloc (.cells (rowW W) 67)).cell? ⟨w.heap.size + 1, 65, none⟩ = some (.int .u64 (W 65 : Nat)) := by
    have := cell_new (w.alloc (.cells (rowOf .u64 66 fun _ => 0) 67)) W 65 (by decide)
    rwa [World.size_alloc] at this
  have h65 := hW 65
  have hq : ((W 65 : Nat) : Int) / 9223372036854775808 = 1 := by omega
  have HW := show Hid _ from hW
  clear hW
  go_enter Try.func91, Try.ntmps91
  go_wp2_with (first | refine wpList_ldc rfl 67 _ rfl b rfl (rowW W) HC.out Try.underlying67 rfl (by rw [rowW_size]; kernel_rfl) ?_ | refine wpList_ld rfl 67 _ rfl (w.heap.size + 1) rfl 66 Try.underlying67 rfl (by kernel_rfl) (rowW W) ?_ ?_ ?_)
  case refine_1 => simp [isRow_at, rowW_size]
  case refine_2 => simp [rowIn_at]
  go_loopw [6, 19] (fun c x wr => ∃ (k n : Nat) (U : Nat → Nat), k ≤ 66 ∧ x = .int .i64 (k : Int) ∧ c = .int .u64 (n : Int) ∧ Hid (Turned W U k n) ∧ wr = (w.alloc (.cells (rowOf .u64 66 fun _ => 0) 67)).alloc (.cells (rowW U) 67)) (fun _ x _ => 66 - (intOf x).toNat)
  case atStart => exact ⟨0, 1, W, by omega, rfl, rfl, Turned.start HW.out, rfl⟩
  case round =>
    obtain ⟨k, n, U, hk, rfl, rfl, hT, rfl⟩ := hrel
    by_cases c : k < 66
    · have hix := fun w => index_W W k w c
      have hget2 := rowW_get U k c
      have hn : bits .xor .u64 (if IntKind.u64.signed = true then -1 else IntKind.u64.max) ((W k : Nat) : Int) = _ := not_word (W k) (HW.out k)
      have hadd : ∀ w, (callFunc 113 #[.int .u64 ((18446744073709551615 - W k : Nat) : Int), .int .u64 0, .int .u64 (n : Int)]).run Try.prog w = _ := add64_run (18446744073709551615 - W k) 0 n hT.out.carry
      have hset := rowW_set U k ((18446744073709551615 - W k + 0 + n) % 18446744073709551616)
      have hstep := show Hid _ from hT.out.step
      rw [Nat.add_zero] at hadd hset
      generalize (18446744073709551615 - W k + n) % 18446744073709551616 = S at *
      generalize (18446744073709551615 - W k + n) / 18446744073709551616 = C at *
      generalize 18446744073709551615 - W k = V at *
      have k2 : (k : Int) < 66 := by omega
      go_wp2
      exact ⟨⟨k + 1, C, setW U k S, by omega, by go_num, rfl, hstep.out, rfl⟩, by simp [intOf]; omega⟩
    · have e : k = 66 := by omega
      subst e
      have hT := hT.out
      have hs : val U 66 + val W 66 = 2 ^ 4224 := by
        have h1 := hT.sum
        have h2 : 0 < val W 66 := by
          refine Nat.pos_of_ne_zero fun q => ?_
          have := (val_zero 66).1 q 65 (by omega)
          omega
        have h3 := hT.carry
        rw [show (64 * 66 : Nat) = 4224 from rfl] at h1
        rcases (show n = 0 ∨ n = 1 by omega) with rfl | rfl
        · omega
        · omega
      have HS := show Hid _ from hs
      have HL := show Hid _ from hT.low
      clear hs hT
      go_wp2_with (refine wpList_ld rfl 67 _ rfl (w.heap.size + 1) rfl 66 Try.underlying67 rfl (by kernel_rfl) (rowW U) ?_ ?_ ?_)
      case refine_1 => simp [isRow_at, rowW_size]
      case refine_2 => simp [rowIn_at]
      refine bodyPost_ret (v := .tuple #[.agg (rowW U), .bool true]) (results_cell_tmp Try.results91 _ _ w.heap.size rfl (rowW U) (run_ldc (cells_W fun j hj => ?_) Try.underlying67 rfl (by rw [rowW_size]; kernel_rfl))) rfl ⟨U, rfl, HL.out, HS.out, ((Below.refl _ _).alloc (Nat.le_refl _) _).alloc (by simp) _⟩
      rw [((Below.refl (w.heap.size + 1) _).alloc (by simp) _).cell (p := ⟨w.heap.size, j, none⟩) (by simp)]
      exact cell_new w U j hj
end Go.Proofs.Ytdhfkdopcphjlab
