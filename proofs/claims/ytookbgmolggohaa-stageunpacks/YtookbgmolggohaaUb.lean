/-
  The contracts of numberAt, the document's two and blockAt: numbers of two bytes in a text. Condition: they stand in the text.
-/
import Derived.Test.YtookbgmolggohaaPp
import Derived.LoopN
import Derived.Lib.Strings
import Derived.Laws.BitsAllLaws
import Derived.BigQuiet
import Derived.Deep.QuietTactic
namespace Go.Proofs.Ytookbgmolggohaa
open Go.RowKit
/-- A byte of a text; 0 behind its end. -/
def byt (s : ByteArray) (j : Nat) : Nat := (s.get! j).toNat
theorem byt_lt (s : ByteArray) (j : Nat) : byt s j < 256 := UInt8.toNat_lt _
theorem byt_eq (s : ByteArray) (j : Nat) (h : j < s.size) : (s[j]'h).toNat = byt s j := by
  unfold byt
  rw [ByteArray.get!, getElem!_pos s.data j (by simpa using h)]
  rfl
/-- The number that begins at a byte of a text. -/
def numB (s : ByteArray) (j : Nat) : Nat := 256 * byt s j + byt s (j + 1)
theorem numB_lt (s : ByteArray) (j : Nat) : numB s j < 65536 := by
  have := byt_lt s j
  have := byt_lt s (j + 1)
  unfold numB
  omega
set_option maxRecDepth 100000 in
theorem two_at (s : ByteArray) (j : Nat) (w : World) (h : j + 1 < s.size) (hs : s.size ≤ 100000000) : Calls Try.prog 50 #[.string s, .int .i64 (j : Int)] w fun e w' => e = .returned (.int .i64 (numB s j : Nat)) ∧ Below w.heap.size w w' := by
  have q0 : (s[j]'(by omega)).toNat = byt s j := byt_eq s j (by omega)
  have q1 : (s[j + 1]'(by omega)).toNat = byt s (j + 1) := byt_eq s (j + 1) (by omega)
  have l0 := byt_lt s j
  have l1 := byt_lt s (j + 1)
  have HR : Hid ((numB s j : Int) = 256 * (byt s j : Int) + (byt s (j + 1) : Int)) := by unfold numB; push_cast; rfl
  generalize byt s j = b0 at *
  generalize byt s (j + 1) = b1 at *
  go_enter Try.func50, Try.ntmps50
  go_wp2
  go_region
  go_wp2
  go_ret
  exact ⟨by rw [HR.out]; rfl, (Below.refl _ _).drew⟩
theorem or8 (a b : Nat) (ha : a < 256) (hb : b < 256) : bits .or .i64 ((a : Int) * 256) (b : Int) = ((256 * a + b : Nat) : Int) := by
  have e : 256 * a ||| b = 256 * a + b := nat_join 8 _ _ (by omega) (by omega)
  have e0 : (a : Int) * 256 = ((256 * a : Nat) : Int) := by omega
  rw [e0]
  show IntKind.i64.wrap ((BitVec.ofInt 64 ((256 * a : Nat) : Int) ||| BitVec.ofInt 64 (b : Int)).toNat : Int) = _
  rw [BitVec.toNat_or, ofInt_u64 _ (by omega), ofInt_u64 b (by omega), e, IntKind.wrap_i64]
  omega
set_option maxRecDepth 100000 in
theorem number_at (s : ByteArray) (k : Nat) (w : World) (h : 2 * k + 1 < s.size) (hs : s.size ≤ 100000000) : Calls Try.prog 46 #[.string s, .int .i64 (k : Int)] w fun e w' => e = .returned (.int .i64 (numB s (2 * k) : Nat)) ∧ Below w.heap.size w w' := by
  have hj' : (2 : Int) * (k : Int) = ((2 * k : Nat) : Int) := by push_cast; rfl
  generalize 2 * k = j at *
  have q0 : (s[j]'(by omega)).toNat = byt s j := byt_eq s j (by omega)
  have q1 : (s[j + 1]'(by omega)).toNat = byt s (j + 1) := byt_eq s (j + 1) (by omega)
  have l0 := byt_lt s j
  have l1 := byt_lt s (j + 1)
  have HR : Hid ((numB s j : Int) = ((256 * byt s j + byt s (j + 1) : Nat) : Int)) := rfl
  generalize byt s j = b0 at *
  generalize byt s (j + 1) = b1 at *
  have ho := or8 b0 b1 l0 l1
  go_enter Try.func46, Try.ntmps46
  go_wp2
  go_region
  go_wp2
  go_ret
  exact ⟨by rw [HR.out]; rfl, (Below.refl _ _).drew⟩
/-- The 128 numbers from the k-th one on. -/
def blkS (s : ByteArray) (k : Nat) (j : Nat) : Int := if j < 128 then (numB s (2 * (k + j)) : Nat) else 0
theorem wpList_st72r {ops : Array Oper} {rest : List Oper} {o : Oper} {a : Act} {w : World} {Q : Exit → Act → World → Prop} (hgd : o.guard = none) (x y : Operand) (ho : o.op = .store 72 x y) (hd : o.dst = none) (b : Nat) (g f : Nat → Int) (X : Array Value) (hX : X = rowOf .u16 128 f) (hz : w.heap[b]? = some (.cells (rowOf .u16 128 g) 72 (0, 0))) (hx : a.eval x = .pointer (some ⟨b, 0, none⟩)) (hy : a.eval y = .agg X)
    (h : wpList Try.prog ops Q rest a (w.setRow b X)) : wpList Try.prog ops Q (o :: rest) a w :=
  wpList_plain hgd fun K hK => by
    subst hX
    have hr := run_st72 (f := f) hz
    have hk := hK _ _ h
    unfold Oper.wp execOp
    simp only [ho, hx, hy, Instr.storeAt, Instr.sureAddr, Sem.run_bind, Sem.run_pure, Result.andThen_ok, hr, Oper.upon]
    rw [hd]
    exact hk
set_option maxRecDepth 100000 in
theorem block_at (s : ByteArray) (k : Nat) (w : World) (h : 2 * k + 255 < s.size) (hs : s.size ≤ 100000000) : Calls Try.prog 47 #[.string s, .int .i64 (k : Int)] w fun e w' => e = .returned (.agg (rowOf .u16 128 (blkS s k))) ∧ Below w.heap.size w w' := by
  have KN : Hid (∀ W (j : Nat), j < 128 → Calls Try.prog 46 #[.string s, .int .i64 ((k : Int) + (j : Int))] W fun e w' => e = .returned (.int .i64 (numB s (2 * (k + j)) : Nat)) ∧ Below W.heap.size W w') := fun W j hj => number_at s (k + j) W (by omega) hs
  go_enter Try.func47, Try.ntmps47
  go_wp2_with (refine wpList_al72 rfl rfl (by kernel_rfl) ?_)
  have B0 : Hid (Below w.heap.size w ((w.alloc (.cells (rowOf .u16 128 zerosF) 72)).alloc (.cells (rowOf .u16 128 zerosF) 72))) := ((Below.refl _ _).alloc (Nat.le_refl _) _).alloc (by simp) _
  have hsz : (w.alloc (.cells (rowOf .u16 128 zerosF) 72)).heap.size = w.heap.size + 1 := by simp
  have H1 : Hid (((w.alloc (.cells (rowOf .u16 128 zerosF) 72)).alloc (.cells (rowOf .u16 128 zerosF) 72)).heap[w.heap.size + 1]? = some (.cells (rowOf .u16 128 zerosF) 72 (0, 0))) := by
    have := heap_alloc_last (w.alloc (.cells (rowOf .u16 128 zerosF) 72)) (.cells (rowOf .u16 128 zerosF) 72)
    rw [hsz] at this
    exact this
  have H0 : Hid (((w.alloc (.cells (rowOf .u16 128 zerosF) 72)).alloc (.cells (rowOf .u16 128 zerosF) 72)).heap[w.heap.size]? = some (.cells (rowOf .u16 128 zerosF) 72 (0, 0))) := by
    show _ = _
    rw [Go.RowKit.Below.heap_alloc _ _ _ (by simp)]
    exact heap_alloc_last w _
  clear hsz
  generalize (w.alloc (.cells (rowOf .u16 128 zerosF) 72)).alloc (.cells (rowOf .u16 128 zerosF) 72) = W0 at *
  have HZ : Hid (rowOf .u16 128 zerosF = rowOf .u16 128 (fun i => if i < 0 then blkS s k i else 0)) := by
    show _ = _
    exact rowOf_congr _ _ _ _ fun i _ => by rw [if_neg (by omega)]; rfl
  go_loopw [7] (fun z wr => ∃ j : Nat, j ≤ 128 ∧ z = .int .i64 (j : Nat) ∧ Hid (Below w.heap.size w wr) ∧ Hid (wr.heap[w.heap.size]? = some (.cells (rowOf .u16 128 zerosF) 72 (0, 0))) ∧ Hid (wr.heap[w.heap.size + 1]? = some (.cells (rowOf .u16 128 (fun i => if i < j then blkS s k i else 0)) 72 (0, 0)))) (fun y _ => (128 - (intOf y).toNat : Nat))
  case atStart => exact ⟨0, by omega, rfl, B0, H0, by rw [← HZ.out]; exact H1⟩
  case round =>
    clear B0 H0 H1 HZ
    obtain ⟨j, hj, rfl, hB, hZ, hC⟩ := hrel
    by_cases hjl : j < 128
    · have jl : (j : Int) < 128 := by omega
      have j3 : ¬ 128 ≤ j := by omega
      have KN2 : Hid (∀ W, Calls Try.prog 46 #[.string s, .int .i64 ((k : Int) + (j : Int))] W fun e w' => e = .returned (.int .i64 (numB s (2 * (k + j)) : Nat)) ∧ Below W.heap.size W w') := fun W => KN.out W j hjl
      have kk : (k : Int) ≤ 100000000 := by omega
      have hq : Hid (blkS s k j = (numB s (2 * (k + j)) : Nat)) := by unfold blkS; rw [Hid, if_pos hjl]
      have lq := numB_lt s (2 * (k + j))
      generalize numB s (2 * (k + j)) = q at *
      have Z1 := (Array.getElem?_eq_some_iff.1 hZ.out).1
      have C1 := (Array.getElem?_eq_some_iff.1 hC.out).1
      have Z2 : Hid (∀ w2, Below wr.heap.size wr w2 → w2.heap[w.heap.size]? = some (.cells (rowOf .u16 128 zerosF) 72 (0, 0))) := fun w2 hb => (hb.block _ Z1).trans hZ.out
      have C2 : Hid (∀ w2, Below wr.heap.size wr w2 → w2.heap[w.heap.size + 1]? = some (.cells (rowOf .u16 128 (fun i => if i < j then blkS s k i else 0)) 72 (0, 0))) := fun w2 hb => (hb.block _ C1).trans hC.out
      clear hZ hC Z1 C1 KN
      have hN : Hid (∀ i, (if i = j then (q : Int) else if i < j then blkS s k i else 0) = if i < j + 1 then blkS s k i else 0) := fun i => by
        by_cases c : i = j
        · subst c; rw [if_pos rfl, if_pos (by omega), hq.out]
        · rw [if_neg c]
          by_cases c2 : i < j
          · rw [if_pos c2, if_pos (by omega)]
          · rw [if_neg c2, if_neg (by omega)]
      clear hq
      go_wp2_with (go_at_call 46; refine (KN2.out _).mono ?_)
      rintro e w2 ⟨rfl, b2⟩
      have B3 : Hid (Below w.heap.size w w2) := hB.out.trans (b2.mono hB.out.size)
      have Z3 : Hid (w2.heap[w.heap.size]? = some (.cells (rowOf .u16 128 zerosF) 72 (0, 0))) := Z2.out w2 b2
      have C3 : Hid (w2.heap[w.heap.size + 1]? = some (.cells (rowOf .u16 128 (fun i => if i < j then blkS s k i else 0)) 72 (0, 0))) := C2.out w2 b2
      obtain ⟨c1, c2⟩ := cell_row C3.out hjl
      clear Z2 C2 b2 hB KN2
      go_wp2
      refine ⟨⟨j + 1, by omega, by go_num, B3.out.setCell (Nat.le_succ _) _, (Below.heap_setCell _ _ _ _ (by simp)).trans Z3.out, ?_⟩, by simp [intOf]; omega⟩
      rw [Hid, set_row C3.out, show (fun i => if i = j then (q : Int) else if i < j then blkS s k i else 0) = (fun i => if i < j + 1 then blkS s k i else 0) from funext hN.out]
    · have hjj : j = 128 := by omega
      subst hjj
      have hX0 : rowOf .u16 128 (fun i => if i < 128 then blkS s k i else 0) = rowOf .u16 128 (blkS s k) := rowOf_congr _ _ _ _ fun i hi => by rw [if_pos hi]
      rw [hX0] at hC
      clear hX0
      obtain ⟨X, hX⟩ : ∃ X, X = rowOf .u16 128 (blkS s k) := ⟨_, rfl⟩
      replace hX : Hid (X = rowOf .u16 128 (blkS s k)) := hX
      rw [← hX.out] at hC
      have hrow : Hid (isRow wr (w.heap.size + 1) 128) := ⟨X, 72, hC.out, by rw [hX.out]; exact rowOf_size _ _ _⟩
      have hrin : Hid (rowIn wr (w.heap.size + 1) = X) := by show rowIn wr _ = X; unfold rowIn; rw [hC.out]
      go_wp2_with (first | (refine wpList_ld rfl 72 _ rfl (w.heap.size + 1) rfl 128 Try.underlying72 rfl (by kernel_rfl) X hrow.out hrin.out ?_) | (refine wpList_st72r rfl _ _ rfl rfl w.heap.size zerosF (blkS s k) X hX.out hZ.out rfl rfl ?_))
      refine bodyPost_ret (v := .agg X) (results_cell_row Try.results47 _ _ w.heap.size 72 X (0, 0) _ rfl (setRow_heap _ _ _ _ _ _ hZ.out) Try.underlying72 rfl (by rw [hX.out, rowOf_size]; kernel_rfl)) rfl ⟨by rw [hX.out], below_setRow hB.out (Nat.le_refl _)⟩
end Go.Proofs.Ytookbgmolggohaa
