/-
  The tree of marks, as the program walks it: lastBit, newMarks, change, ahead, allMarks, find. Conditions: lists of at most 4194303 marks, and counts that fit.
-/
import Derived.Test.YtahmeejcgddlhabPb
namespace Go.Proofs.Ytahmeejcgddlhab
open Go.RowKit
/-- Block b holds the integers f 0 .. f (n - 1) of kind kd, and they may be written. -/
def Cel (kd : IntKind) (wr : World) (b n : Nat) (f : Nat → Int) : Prop := ∀ j, j < n → wr.cell? ⟨b, j, none⟩ = some (.int kd (f j)) ∧ wr.frozen? ⟨b, j, none⟩ = false
section
variable {kd : IntKind} {wr : World} {b n : Nat} {f : Nat → Int}
theorem Cel.set (h : Cel kd wr b n f) (k : Nat) (v : Int) : Cel kd (wr.setCell ⟨b, k, none⟩ (.int kd v)) b n (fun j => if j = k then v else f j) := by
  intro j hj
  obtain ⟨hc, hf⟩ := h j hj
  refine ⟨?_, by rw [World.frozen?_setCell]; exact hf⟩
  by_cases e : j = k
  · subst e
    rw [World.cell?_setCell_same wr _ _ hc]
    simp
  · rw [World.cell?_setCell_other wr _ _ _ (fun q => e (congrArg Addr.off q).symm), hc]
    simp [e]
theorem Cel.congr {g : Nat → Int} (h : Cel kd wr b n f) (hfg : ∀ j, j < n → f j = g j) : Cel kd wr b n g := by
  intro j hj
  rw [← hfg j hj]
  exact h j hj
theorem Cel.lt (h : Cel kd wr b n f) (hn : 0 < n) : b < wr.heap.size := by
  have h0 := (h 0 hn).1
  by_cases hlt : b < wr.heap.size
  · exact hlt
  · have hn : wr.heap[b]? = none := by simp; omega
    simp [World.cell?, hn] at h0
theorem Cel.below {w1 : World} (h : Cel kd wr b n f) (hb : Below wr.heap.size wr w1) : Cel kd w1 b n f := by
  intro j hj
  have hB := h.lt (by omega)
  rw [hb.cell hB, hb.frozen hB]
  exact h j hj
/-- A store into another block. -/
theorem Cel.far (h : Cel kd wr b n f) (a : Addr) (ha : a.block ≠ b) (u : Value) : Cel kd (wr.setCell a u) b n f := by
  intro j hj
  obtain ⟨hc, hf⟩ := h j hj
  refine ⟨?_, by rw [World.frozen?_setCell]; exact hf⟩
  rw [World.cell?_setCell_other wr _ _ _ (fun q => ha (congrArg Addr.block q)), hc]
/-- A block that was just made. -/
theorem Cel.new (w : World) (c : Array Value) (t : TypeId) (hc : ∀ j, j < n → c[j]? = some (.int kd (f j))) : Cel kd (w.alloc (.cells c t)) w.heap.size n f := by
  intro j hj
  refine ⟨?_, ?_⟩
  · rw [World.cell?_alloc_at _ _ _ _ rfl]
    exact hc j hj
  · exact World.frozen?_alloc_at _ _ _ _ rfl
end
/-- The last bit of a number. -/
def lb (i : Nat) : Nat := i &&& (18446744073709551616 - i)
theorem and_left {a b : Nat} : a &&& b ≤ a := Nat.and_le_left
theorem lb_le (i : Nat) : lb i ≤ i := Nat.and_le_left
theorem lb_pos_at : ∀ (k i : Nat), 0 < i → i < 2 ^ k → i &&& (2 ^ k - i) ≠ 0
  | 0, i, h, h1 => by simp at h1; omega
  | k + 1, i, h, h1 => by
    intro he
    rw [Nat.pow_succ] at h1 he
    by_cases hp : i % 2 = 1
    · have := congrArg (fun x => Nat.testBit x 0) he
      simp only [Nat.testBit_zero, Nat.zero_mod] at this
      have h2 : (2 ^ k * 2 - i) % 2 = 1 := by omega
      simp [hp, h2] at this
    · have h2 : (i &&& (2 ^ k * 2 - i)) / 2 = (i / 2) &&& ((2 ^ k * 2 - i) / 2) := Nat.and_div_two
      rw [he] at h2
      have h3 : (2 ^ k * 2 - i) / 2 = 2 ^ k - i / 2 := by omega
      rw [h3] at h2
      exact lb_pos_at k (i / 2) (by omega) (by omega) (by simpa using h2.symm)
theorem lb_pos {i : Nat} (h : 0 < i) (h1 : i < 18446744073709551616) : 1 ≤ lb i := by
  have := lb_pos_at 64 i h h1
  unfold lb
  have e : (18446744073709551616 : Nat) = 2 ^ 64 := by decide
  rw [e]
  omega
theorem lb_bits (i : Nat) (h : i < 4611686018427387904) : bits .and .i64 (i : Int) (-(i : Int)) = (lb i : Int) := by
  have h1 : (BitVec.ofInt 64 (i : Int)).toNat = i := by
    rw [BitVec.ofInt_natCast, BitVec.toNat_ofNat]; exact Nat.mod_eq_of_lt (by omega)
  by_cases hz : i = 0
  · subst hz; decide
  have h2 : (BitVec.ofInt 64 (-(i : Int))).toNat = 18446744073709551616 - i := by
    rw [BitVec.toNat_ofInt]
    have : (-(i : Int)) % ((2 ^ 64 : Nat) : Int) = (18446744073709551616 - i : Int) := by omega
    rw [this]; omega
  show IntKind.i64.wrap ((BitVec.ofInt 64 (i : Int) &&& BitVec.ofInt 64 (-(i : Int))).toNat : Int) = _
  rw [BitVec.toNat_and, h1, h2]
  have := lb_le i
  show IntKind.i64.wrap ((lb i : Nat) : Int) = _
  rw [IntKind.wrap_i64]; omega
set_option maxRecDepth 100000 in
theorem lastBit_any (i : Nat) (w : World) (h : i < 4611686018427387904) : Calls Try.prog 52 #[.int .i64 (i : Int)] w fun e w' => e = .returned (.int .i64 (lb i : Int)) ∧ w' = w := by
  have h1 := lb_bits i h
  have h2 : (i : Int) ≤ 4611686018427387904 := by omega
  generalize (lb i : Int) = L at *
  go_enter Try.func52, Try.ntmps52
  go_wp2
  go_ret
  exact ⟨rfl, rfl⟩
/-- What a change makes of the tree. -/
def chF (n : Nat) (by_ : Int) : Nat → Nat → (Nat → Int) → Nat → Int
  | 0, _, f => f
  | t + 1, i, f => if i < n then chF n by_ t (i + lb i) (fun j => if j = i then f i + by_ else f j) else f
end Go.Proofs.Ytahmeejcgddlhab
