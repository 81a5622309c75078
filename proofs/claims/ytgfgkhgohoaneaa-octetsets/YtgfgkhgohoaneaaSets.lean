/-
  The contracts that the law OctetLaws calls, on sets of bytes.
-/
import Derived.Test.YtgfgkhgohoaneaaMem
import Derived.Test.YtgfgkhgohoaneaaUni
import Derived.Test.YtgfgkhgohoaneaaOf
import Derived.Test.YtgfgkhgohoaneaaRef
import Derived.Test.YtgfgkhgohoaneaaEqs
import Derived.KernelRfl
import Derived.Test.YtgfgkhgohoaneaaWd
import Derived.Test.YtgfgkhgohoaneaaNamed
import Derived.Test.YtgfgkhgohoaneaaFlow
import Derived.Deep.WholeRow
namespace Go.Proofs.Ytgfgkhgohoaneaa
open Go.RowKit
/-- The four words of a set. -/
def aggW (p : Nat → Bool) : Array Value := #[.int .u64 (wd p 0), .int .u64 (wd p 1), .int .u64 (wd p 2), .int .u64 (wd p 3)]
def andP (p q : Nat → Bool) : Nat → Bool := fun j => p j && q j
def minusP (p q : Nat → Bool) : Nat → Bool := fun j => p j && !q j
def orP (p q : Nat → Bool) : Nat → Bool := fun j => p j || q j
theorem cross_w (p q : Nat → Bool) (w : World) : Calls Try.prog 22 #[.agg (aggW p), .agg (aggW q)] w fun e w' => e = .returned (.agg (aggW (andP p q))) ∧ Below w.heap.size w w' := by
  have key := cross_any (wd p) (wd q) w
  rw [and_wd, and_wd, and_wd, and_wd] at key
  exact key
theorem minus_w (p q : Nat → Bool) (w : World) : Calls Try.prog 23 #[.agg (aggW p), .agg (aggW q)] w fun e w' => e = .returned (.agg (aggW (minusP p q))) ∧ Below w.heap.size w w' := by
  have key := minus_any (wd p) (wd q) w
  rw [minus_wd, minus_wd, minus_wd, minus_wd] at key
  exact key
theorem has_w (p : Nat → Bool) (b : Nat) (w : World) (hb : b < 256) : Calls Try.prog 20 #[.agg (aggW p), .int .u8 b] w fun e w' => e = .returned (.bool (p b)) ∧ Below w.heap.size w w' := by
  refine (has_any (wd p) b w hb).mono ?_
  rintro e w' ⟨rfl, rfl⟩
  exact ⟨by rw [has_wd], (Below.refl _ _).alloc (Nat.le_refl _) _⟩
/-- The words of two sets, one behind the other. -/
def agg2 (p q : Nat → Bool) : Array Value := #[.int .u64 (wd p 0), .int .u64 (wd p 1), .int .u64 (wd p 2), .int .u64 (wd p 3), .int .u64 (wd q 0), .int .u64 (wd q 1), .int .u64 (wd q 2), .int .u64 (wd q 3)]
def agg3 (p q r : Nat → Bool) : Array Value := #[.int .u64 (wd p 0), .int .u64 (wd p 1), .int .u64 (wd p 2), .int .u64 (wd p 3), .int .u64 (wd q 0), .int .u64 (wd q 1), .int .u64 (wd q 2), .int .u64 (wd q 3), .int .u64 (wd r 0), .int .u64 (wd r 1), .int .u64 (wd r 2), .int .u64 (wd r 3)]
theorem cell_blk {w : World} {g k : Nat} {cs : Array Value} {tt : TypeId} (h : w.heap[g]? = some (.cells cs tt (0, 0))) : w.cell? ⟨g, k, none⟩ = cs[k]? := by simp [World.cell?, h]
theorem blk_lt {w : World} {g : Nat} {o : Obj} (h : w.heap[g]? = some o) : g < w.heap.size := (Array.getElem?_eq_some_iff.1 h).1
theorem union2_w (p q : Nat → Bool) (g c : Nat) (tt : TypeId) (w : World) (h : w.heap[g]? = some (.cells (agg2 p q) tt (0, 0))) : Calls Try.prog 21 #[.slice (some ⟨g, 0, none⟩) 2 c] w fun e w' => e = .returned (.agg (aggW (orP p q))) ∧ Below w.heap.size w w' := by
  have key := union_any (fun i => if i = 0 then wd p else wd q) g 2 c w (by omega) (blk_lt h) fun i hi j hj => by
    rw [cell_blk h]
    match i, hi, j, hj with
    | 0, _, 0, _ => rfl
    | 0, _, 1, _ => rfl
    | 0, _, 2, _ => rfl
    | 0, _, 3, _ => rfl
    | 1, _, 0, _ => rfl
    | 1, _, 1, _ => rfl
    | 1, _, 2, _ => rfl
    | 1, _, 3, _ => rfl
  have he : ∀ i, orTo (fun i => if i = 0 then wd p else wd q) 2 i = wd (orP p q) i := fun i => by
    show orS (orS (fun _ => 0) (wd p)) (wd q) i = wd (fun j => p j || q j) i
    rw [← or_wd]
    congr 1
    funext k
    have h0 : (fun _ : Nat => (0 : Int)) = wd (fun _ => false) := by funext k; exact (wd_none k).symm
    rw [h0, or_wd]
    simp
  rw [he, he, he, he] at key
  exact key
theorem union3_w (p q r : Nat → Bool) (g c : Nat) (tt : TypeId) (w : World) (h : w.heap[g]? = some (.cells (agg3 p q r) tt (0, 0))) : Calls Try.prog 21 #[.slice (some ⟨g, 0, none⟩) 3 c] w fun e w' => e = .returned (.agg (aggW (orP (orP p q) r))) ∧ Below w.heap.size w w' := by
  have key := union_any (fun i => if i = 0 then wd p else if i = 1 then wd q else wd r) g 3 c w (by omega) (blk_lt h) fun i hi j hj => by
    rw [cell_blk h]
    match i, hi, j, hj with
    | 0, _, 0, _ => rfl
    | 0, _, 1, _ => rfl
    | 0, _, 2, _ => rfl
    | 0, _, 3, _ => rfl
    | 1, _, 0, _ => rfl
    | 1, _, 1, _ => rfl
    | 1, _, 2, _ => rfl
    | 1, _, 3, _ => rfl
    | 2, _, 0, _ => rfl
    | 2, _, 1, _ => rfl
    | 2, _, 2, _ => rfl
    | 2, _, 3, _ => rfl
  have he : ∀ i, orTo (fun i => if i = 0 then wd p else if i = 1 then wd q else wd r) 3 i = wd (orP (orP p q) r) i := fun i => by
    show orS (orS (orS (fun _ => 0) (wd p)) (wd q)) (wd r) i = wd (fun j => (p j || q j) || r j) i
    have h0 : (fun _ : Nat => (0 : Int)) = wd (fun _ => false) := by funext k; exact (wd_none k).symm
    have e1 : orS (fun _ => 0) (wd p) = wd p := by
      funext k
      rw [h0, or_wd]
      simp
    have e2 : orS (wd p) (wd q) = wd (fun j => p j || q j) := by funext k; exact or_wd _ _ _
    rw [e1, e2, or_wd]
  rw [he, he, he, he] at key
  exact key
theorem aggW_congr {p q : Nat → Bool} (h : ∀ j, j < 256 → p j = q j) : aggW p = aggW q := by
  unfold aggW
  rw [wd_congr h 0 (by omega), wd_congr h 1 (by omega), wd_congr h 2 (by omega), wd_congr h 3 (by omega)]
theorem eql_w (p : Nat → Bool) (w : World) : (Op.equalIn 10000 32 (.agg (aggW p)) (.agg (aggW p))).run Try.prog w = .ok true w := eq32 _ _ _ _ w
/-- The bytes of a set, as a text. -/
def memS (p : Nat → Bool) : ByteArray := strOfNums (mems (wd p) 256)
theorem mem_w (p : Nat → Bool) (w : World) : Calls Try.prog 24 #[.agg (aggW p)] w fun e w' => e = .returned (.string (memS p)) ∧ Below w.heap.size w w' := mem_any (wd p) w
end Go.Proofs.Ytgfgkhgohoaneaa
