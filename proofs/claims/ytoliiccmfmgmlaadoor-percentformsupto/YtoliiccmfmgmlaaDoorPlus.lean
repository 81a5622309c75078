/-
  The contract of plus: a set with the bytes of a slice besides. Conditions: the slice is nil, or its bytes lie in memory.
-/
import Derived.Test.YtoliiccmfmgmlaaDoorWd
import Derived.Test.YtoliiccmfmgmlaaDoorCel
namespace Go.Proofs.YtoliiccmfmgmlaaDoor
open Go.RowKit
/-- The set p with the first k of the bytes bs besides. -/
def plusTo (p : Nat → Bool) (bs : Nat → Nat) (k : Nat) : Nat → Bool := fun j => p j || (List.range k).any fun i => j == bs i
theorem plusTo_zero (p : Nat → Bool) (bs : Nat → Nat) : plusTo p bs 0 = p := by funext j; simp [plusTo]
theorem plusTo_succ (p : Nat → Bool) (bs : Nat → Nat) (k : Nat) : plusTo p bs (k + 1) = fun j => plusTo p bs k j || j == bs k := by
  funext j; simp [plusTo, List.range_succ, Bool.or_assoc]
theorem wrap_pow (b : Nat) : IntKind.u64.wrap (2 ^ (b % 64)) = ((2 ^ (b % 64) : Nat) : Int) := by
  rw [IntKind.wrap_u64]
  have hlt : 2 ^ (b % 64) < 18446744073709551616 := Nat.pow_lt_pow_right (a := 2) (m := b % 64) (n := 64) (by omega) (by omega)
  have e : (2 : Int) ^ (b % 64) = ((2 ^ (b % 64) : Nat) : Int) := by simp
  rw [e]
  clear e
  generalize 2 ^ (b % 64) = x at hlt ⊢
  omega
set_option maxHeartbeats 800000 in
theorem plus_any (p : Nat → Bool) (bs : Nat → Nat) (g off n c : Nat) (w : World) (hn : n ≤ 140737488355328) (hg : g < w.heap.size) (hlt : ∀ i, bs i < 256) (hx : ∀ i, i < n → w.cell? ⟨g, off + i, none⟩ = some (.int .u8 (bs i))) :
    Calls Tryd.prog 54 #[.agg #[.int .u64 ((wd p) 0), .int .u64 ((wd p) 1), .int .u64 ((wd p) 2), .int .u64 ((wd p) 3)], .slice (some ⟨g, off, none⟩) n c] w fun e w' => e = .returned (.agg #[.int .u64 ((wd (plusTo p bs n)) 0), .int .u64 ((wd (plusTo p bs n)) 1), .int .u64 ((wd (plusTo p bs n)) 2), .int .u64 ((wd (plusTo p bs n)) 3)]) ∧ Below w.heap.size w w' := by
  have HX : Hid (∀ i, i < n → w.cell? ⟨g, off + i, none⟩ = some (.int .u8 (bs i))) := hx
  clear hx
  have HL : Hid (∀ i, bs i < 256) := hlt
  clear hlt
  go_enter Tryd.func54, Tryd.ntmps54
  go_wp2_with fail
  go_loopw [9] (fun i wr => ∃ k : Nat, k ≤ n ∧ i = .int .i64 k ∧ Cel .u64 wr (w.heap.size + 1) 4 (fun _ => 0) ∧ Cel .u64 wr w.heap.size 4 (wd (plusTo p bs k)) ∧ Below w.heap.size w wr ∧ w.heap.size + 2 ≤ wr.heap.size) (fun i _ => n - (intOf i).toNat)
  case atStart =>
    refine ⟨0, by omega, rfl, ?_, ?_, ((Below.refl _ _).alloc (by simp) _).alloc (by simp) _, by simp⟩
    · have := Cel.new (n := 4) (kd := .u64) (f := fun _ => 0) (w.alloc (.cells #[.int .u64 ((wd p) 0), .int .u64 ((wd p) 1), .int .u64 ((wd p) 2), .int .u64 ((wd p) 3)] 27)) #[.int .u64 0, .int .u64 0, .int .u64 0, .int .u64 0] 27 fun j hj => by
        match j, hj with
        | 0, _ => rfl
        | 1, _ => rfl
        | 2, _ => rfl
        | 3, _ => rfl
      simpa using this
    · rw [plusTo_zero]
      refine (Cel.new w _ 27 fun j hj => ?_).alloc (by omega) _
      match j, hj with
      | 0, _ => rfl
      | 1, _ => rfl
      | 2, _ => rfl
      | 3, _ => rfl
  case round =>
    obtain ⟨k, hk, rfl, hR, hU, hbr, hsz⟩ := hrel
    by_cases hlt : k < n
    · have hc := (hbr.cell (p := ⟨g, off + k, none⟩) hg).trans (HX.out k hlt)
      obtain ⟨b, Hb⟩ : ∃ b : Nat, Hid (bs k = b) := ⟨_, rfl⟩
      have hb : b < 256 := by rw [← Hb.out]; exact HL.out k
      rw [Hb.out] at hc
      obtain ⟨hu, hf⟩ := hU (b / 64) (by omega)
      have HBR : Hid (Below w.heap.size w wr) := hbr
      clear hbr
      go_wp2
      refine ⟨⟨k + 1, by omega, by go_num, hR.far _ (by simp) _, ?_, HBR.out.setCell (by simp) _, by simp [World.setCell]; omega⟩, by simp [intOf]; omega⟩
      refine (hU.set (b / 64) _).congr fun j _ => ?_
      rw [plusTo_succ, Hb.out, wrap_pow b]
      by_cases e : j = b / 64
      · subst e
        rw [if_pos rfl]
        exact or_bit _ b _ rfl
      · rw [if_neg e]
        exact (or_bit_other _ b j (fun h => e h.symm)).symm
    · have e : k = n := by omega
      subst e
      obtain ⟨hu0, hf0⟩ := hU 0 (by omega)
      obtain ⟨hu1, hf1⟩ := hU 1 (by omega)
      obtain ⟨hu2, hf2⟩ := hU 2 (by omega)
      obtain ⟨hu3, hf3⟩ := hU 3 (by omega)
      obtain ⟨hr0, hg0⟩ := hR 0 (by omega)
      obtain ⟨hr1, hg1⟩ := hR 1 (by omega)
      obtain ⟨hr2, hg2⟩ := hR 2 (by omega)
      obtain ⟨hr3, hg3⟩ := hR 3 (by omega)
      go_wp2
      refine bodyPost_ret (v := .agg #[.int .u64 ((wd (plusTo p bs k)) 0), .int .u64 ((wd (plusTo p bs k)) 1), .int .u64 ((wd (plusTo p bs k)) 2), .int .u64 ((wd (plusTo p bs k)) 3)]) (by simp [results, Tryd.results54, go_sem, hr0, hr1, hr2, hr3]) rfl ⟨rfl, ?_⟩
      exact (((hbr.setCell (by simp) _).setCell (by simp) _).setCell (by simp) _).setCell (by simp) _
set_option maxHeartbeats 400000 in
theorem plus_none (p : Nat → Bool) (c : Nat) (w : World) : Calls Tryd.prog 54 #[.agg #[.int .u64 ((wd p) 0), .int .u64 ((wd p) 1), .int .u64 ((wd p) 2), .int .u64 ((wd p) 3)], .slice none 0 c] w fun e w' => e = .returned (.agg #[.int .u64 ((wd p) 0), .int .u64 ((wd p) 1), .int .u64 ((wd p) 2), .int .u64 ((wd p) 3)]) ∧ Below w.heap.size w w' := by
  go_enter Tryd.func54, Tryd.ntmps54
  go_wp2_with fail
  refine wp_loop_rounds 1 ?_
  rw [rounds_succ]
  go_wp2
  refine bodyPost_ret (v := .agg #[.int .u64 ((wd p) 0), .int .u64 ((wd p) 1), .int .u64 ((wd p) 2), .int .u64 ((wd p) 3)]) (by simp [results, Tryd.results54, go_sem]) rfl ⟨rfl, ?_⟩
  exact ((Below.refl _ _).alloc (by simp) _).alloc (by simp) _
end Go.Proofs.YtoliiccmfmgmlaaDoor
