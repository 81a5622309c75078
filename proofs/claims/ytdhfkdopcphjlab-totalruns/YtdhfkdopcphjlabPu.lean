/-
  The contract of put: a number of two words, added to the words or taken away, from a place on. Conditions: the words are of 64 bits and lie at the front of one block; the place lies so that three words from it on are there.
-/
import Derived.Test.YtdhfkdopcphjlabSz
import Derived.Test.YtdhfkdopcphjlabCm
import Derived.BigRegion
namespace Go.Proofs.Ytdhfkdopcphjlab
open Go.RowKit
/-- A block's cells, with these words at the front. -/
def mkW (cs : Array Value) (W : Nat → Nat) : Array Value := Array.ofFn (n := cs.size) fun j => if j.val < 66 then .int .u64 ((W j.val : Nat) : Int) else cs[j.val]
theorem mkW_size (cs : Array Value) (W : Nat → Nat) : (mkW cs W).size = cs.size := by simp [mkW]
theorem mkW_low (cs : Array Value) (W : Nat → Nat) (j : Nat) (h : j < 66) (hs : 66 ≤ cs.size) : (mkW cs W)[j]? = some (.int .u64 (W j : Nat)) := by
  simp [mkW, h, show j < cs.size by omega]
theorem mkW_high (cs : Array Value) (W : Nat → Nat) (j : Nat) (h : 66 ≤ j) : (mkW cs W)[j]? = cs[j]? := by
  by_cases c : j < cs.size
  · simp [mkW, c, show ¬ j < 66 by omega]
  · simp [mkW, c]
theorem mkW_set (cs : Array Value) (W : Nat → Nat) (k v : Nat) (h : k < 66) : (mkW cs W).setIfInBounds k (.int .u64 (v : Nat)) = mkW cs (setW W k v) := by
  apply Array.ext_getElem?
  intro j
  rw [Array.getElem?_setIfInBounds, mkW_size]
  by_cases hj : j < cs.size
  · by_cases c : k = j
    · subst c
      simp [mkW, hj, h, setW]
    · have c' : ¬ j = k := fun e => c e.symm
      simp [mkW, hj, c, c', setW]
  · by_cases c : k = j
    · subst c; simp [mkW, hj]
    · simp [mkW, hj, c]
theorem mkW_flag (cs : Array Value) (W : Nat → Nat) (k : Nat) (v : Value) (h : 66 ≤ k) : (mkW cs W).setIfInBounds k v = mkW (cs.setIfInBounds k v) W := by
  apply Array.ext_getElem?
  intro j
  rw [Array.getElem?_setIfInBounds, mkW_size]
  by_cases c : k = j
  · subst c
    rw [if_pos rfl, mkW_high _ _ _ h, Array.getElem?_setIfInBounds, if_pos rfl]
  · rw [if_neg c]
    by_cases c2 : j < 66
    · by_cases c3 : j < cs.size
      · simp [mkW, c2, c3]
      · simp [mkW, c3]
    · rw [mkW_high _ _ _ (by omega), mkW_high _ _ _ (by omega), Array.getElem?_setIfInBounds, if_neg c]
/-- Words changed as far as word k. -/
def Chg (ng : Bool) (W U : Nat → Nat) (k c D : Nat) : Prop := if ng = true then Taken W U k c D else Added W U k c D
theorem Chg.start (ng : Bool) {W : Nat → Nat} (k : Nat) (h : ∀ i, W i < 18446744073709551616) : Chg ng W W k 0 0 := by
  unfold Chg; split
  · exact Taken.start k h
  · exact Added.start k h
theorem Chg.step {ng : Bool} {W U : Nat → Nat} {k c D : Nat} (h : Chg ng W U k c D) (p : Nat) (hp : p < 18446744073709551616) : Chg ng W (setW U k (chW ng (U k) p c)) (k + 1) (chC ng (U k) p c) (D + p * 2 ^ (64 * k)) := by
  cases ng
  · have := Added.step (show Added W U k c D from h) p hp
    unfold Chg chW chC
    simp only [Bool.false_eq_true, if_false]
    exact this
  · have := Taken.step (show Taken W U k c D from h) p hp
    unfold Chg chW chC
    simp only [if_true]
    exact this
theorem Chg.carry {ng : Bool} {W U : Nat → Nat} {k c D : Nat} (h : Chg ng W U k c D) : c ≤ 1 := by
  unfold Chg at h; split at h
  · exact h.carry
  · exact h.carry
theorem Chg.low {ng : Bool} {W U : Nat → Nat} {k c D : Nat} (h : Chg ng W U k c D) : ∀ i, U i < 18446744073709551616 := by
  unfold Chg at h; split at h
  · exact h.low
  · exact h.low
theorem Chg.ends {ng : Bool} {W U : Nat → Nat} {k c D : Nat} (h : Chg ng W U k c D) (hk : k ≤ 66) (hc : c = 0 ∨ k = 66) : ((val U 66 : Nat) : Int) % (2 ^ 4224 : Nat) = (((val W 66 : Nat) : Int) + (if ng = true then -(D : Int) else (D : Int))) % (2 ^ 4224 : Nat) := by
  cases ng
  · have := Added.ends (show Added W U k c D from h) hk hc
    simp only [Bool.false_eq_true, if_false]
    exact this
  · have := Taken.ends (show Taken W U k c D from h) hk hc
    simp only [if_true]
    rw [← Int.sub_eq_add_neg]
    exact this
/-- One block's words are changed by one operation, behind a read of them; the other blocks stay. -/
structure Puts (b : Nat) (t : TypeId) (w0 : World) (cs : Array Value) (U V : Nat → Nat) (st ld : Nat) (s : Nat → Bool) (w : World) : Prop where
  kept : w0.grownBy w (some b)
  at_ : w.heap[b]? = some (.cells (mkW cs (if s st = true then V else U)) t (0, 0))
  order : s st = true → s ld = true
theorem grownBy_below {a w w' : World} {b : Nat} (h : a.grownBy w (some b)) (hb : Below w.heap.size w w') : a.grownBy w' (some b) :=
  ⟨hb.os.trans h.os, hb.tape.trans h.tape, hb.output.trans h.output, Nat.le_trans h.size hb.size, fun k hk hn => (hb.block k (Nat.lt_of_lt_of_le hk h.size)).trans (h.block k hk hn)⟩
theorem grownBy_refl (a : World) (r : Option Nat) : a.grownBy a r := ⟨rfl, rfl, rfl, Nat.le_refl _, fun _ _ _ => rfl⟩
theorem grownBy_trans {a b c : World} {r : Option Nat} (h : a.grownBy b r) (k : b.grownBy c r) : a.grownBy c r :=
  ⟨k.os.trans h.os, k.tape.trans h.tape, k.output.trans h.output, Nat.le_trans h.size k.size, fun i hi hn => (k.block i (Nat.lt_of_lt_of_le hi h.size) hn).trans (h.block i hi hn)⟩
theorem grownBy_of_below {a b : World} (r : Option Nat) (h : Below a.heap.size a b) : a.grownBy b r := ⟨h.os, h.tape, h.output, h.size, fun k hk _ => h.block k hk⟩
theorem grownBy_set {a w : World} {b k : Nat} (h : a.grownBy w (some b)) (v : Value) : a.grownBy (w.setCell ⟨b, k, none⟩ v) (some b) :=
  ⟨h.os, h.tape, h.output, by simp [World.setCell]; exact h.size, fun i hi hn => (Below.heap_setCell w ⟨b, k, none⟩ v i (fun e => hn (by rw [e]))).trans (h.block i hi hn)⟩
theorem Puts.steady {b : Nat} {t : TypeId} {w0 : World} {cs : Array Value} {U V : Nat → Nat} {st ld : Nat} (i : Nat) (hi : (st == i) = false) : Steady (Puts b t w0 cs U V st ld) i := fun s w w' hs hw hb => by
  have hne : ¬ st = i := by simpa using hi
  have e : mark s i st = s st := by simp [mark, hne]
  refine ⟨grownBy_below hw.kept hb, ?_, fun h1 => ?_⟩
  · rw [e]
    exact (hb.block b (Array.getElem?_eq_some_iff.1 hw.at_).1).trans hw.at_
  · rw [e] at h1
    have h3 := hw.order h1
    by_cases c : ld = i <;> simp [mark, c, h3]
theorem Puts.first {b : Nat} {t : TypeId} {w0 : World} {cs : Array Value} {U V : Nat → Nat} {st ld : Nat} {s : Nat → Bool} {w : World} (h : Puts b t w0 cs U V st ld s w) (hl : s ld = false) : w.heap[b]? = some (.cells (mkW cs U) t (0, 0)) := by
  have e : s st = false := by
    cases c : s st with
    | false => rfl
    | true => rw [h.order c] at hl; cases hl
  have := h.at_
  rw [e] at this
  exact this
theorem Puts.store {b : Nat} {t : TypeId} {w0 : World} {cs : Array Value} {U : Nat → Nat} {st ld k v : Nat} {s : Nat → Bool} {w : World} (h : Puts b t w0 cs U (setW U k v) st ld s w) (hk : k < 66) (hs : s st = false) (hl : s ld = true) : Puts b t w0 cs U (setW U k v) st ld (mark s st) (w.setCell ⟨b, k, none⟩ (.int .u64 (v : Nat))) := by
  have h1 := h.at_
  rw [hs] at h1
  refine ⟨grownBy_set h.kept _, ?_, fun _ => ?_⟩
  · rw [set_at _ h1, mkW_set _ _ _ _ hk]
    simp [mark]
  · simp [mark, hl]
theorem run_nil {P : Program} {w : World} {l : List (Nat × Value)} {o : Oper} {x : Operand} (ho : o.op = .nilCheck x) {a : Addr} (hx : rho l x = .pointer (some a)) : (execOp (rho l) o).run P w = .ok (.value (.pointer (some a))) w := by
  unfold execOp
  simp only [ho, hx]
  rfl
theorem run_ix {w : World} {l : List (Nat × Value)} {o : Oper} {x y : Operand} (ho : o.op = .indexAddr 67 x y) {b K : Nat} (hx : rho l x = .pointer (some ⟨b, 0, none⟩)) (hy : rho l y = .int .i64 (K : Int)) (hK : K < 66) : (execOp (rho l) o).run Try.prog w = .ok (.value (.pointer (some ⟨b, K, none⟩))) w := by
  have h1 : (0 : Int) ≤ K ∧ (K : Int) < 66 := by omega
  have hadd : (⟨b, 0, none⟩ : Addr).add K = ⟨b, K, none⟩ := by unfold Addr.add; split <;> simp_all
  unfold execOp
  simp only [ho, hx, hy]
  have h2 : ¬ 66 ≤ K := by omega
  simp [Instr.indexAt, asIntOf, run_underlying Try.underlying67, h2, Try.sizeOf66, Instr.sureAddr, hadd]
theorem index3 (p : Nat → Nat) (k : Nat) (w : World) (h : k < 3) : (Instr.index 124 (.agg #[.int .u64 ((p 0 : Nat) : Int), .int .u64 ((p 1 : Nat) : Int), .int .u64 ((p 2 : Nat) : Int)]) (.int .i64 (k : Int))).run Try.prog w = .ok (.int .u64 (p k : Nat)) w := by
  have h1 : (0 : Int) ≤ k ∧ (k : Int) < 3 := by omega
  rcases (show k = 0 ∨ k = 1 ∨ k = 2 by omega) with rfl | rfl | rfl <;> simp [Instr.index, asIntOf, run_underlying Try.underlying124, part, Try.sizeOf66, Try.isAgg66]
theorem ValOp.storeN {P : Program} {ops : Array Oper} {Q : Exit → Act → World → Prop} {G : (Nat → Bool) → World → Prop} {vs : List Value} {a0 : Act} {i : Nat} {o : Oper} (l : List (Nat × Value)) (hw : wantsV ops vs o true) (hd : o.dst = none)
    (hl : ∀ a : Act, (∀ j t, asks4 ops o j t = true → a.tmps[t]? = some (vs.getD j undef)) → (∀ t, keptAt ops i t = true → a.tmps[t]? = a0.tmps[t]?) → AllIn a l) (hc : covers o l = true) {ty : TypeId} {x y : Operand} (ho : o.op = .store ty x y) {g off : Nat} {v : Value}
    (hx : rho l x = .pointer (some ⟨g, off, none⟩)) (hy : rho l y = v) (hv : vs.getD i undef = undef)
    (hr : ∀ s w, s i = false → G s w → (∀ j, (needs o).contains j = true → s j = true) → (storeVar ty ⟨g, off, none⟩ v).run P w = .ok () (w.setCell ⟨g, off, none⟩ v))
    (hG : ∀ s w, s i = false → G s w → (∀ j, (needs o).contains j = true → s j = true) → G (mark s i) (w.setCell ⟨g, off, none⟩ v)) : ValOp P ops Q G vs a0 i o :=
  ⟨true, hw, fun h => (by cases h), fun _ a w s hs hg hn h1 h2 K hK => by
    have hk := hK.out _ (hG s w hs hg hn)
    rw [hv] at hk
    unfold Oper.wp
    rw [exec_rho l (hl a h1 h2) hc]
    unfold execOp
    simp only [ho, hx, hy, Instr.storeAt, Instr.sureAddr, Sem.run_bind, Sem.run_pure, Result.andThen_ok, hr s w hs hg hn, Oper.upon]
    rw [hd] at hk ⊢
    exact hk⟩
end Go.Proofs.Ytdhfkdopcphjlab
