/-
  The contract of the document's Words: of a row of noughts and ones it makes the four words. No condition.
-/
import Derived.Test.YtgfgkhgohoaneaaRs
import Derived.Test.YtgfgkhgohoaneaaNamed
namespace Go.Proofs.Ytgfgkhgohoaneaa
open Go.RowKit
/-- The set p below k. -/
def upTo (p : Nat → Bool) (k : Nat) : Nat → Bool := fun j => p j && decide (j < k)
theorem upTo_succ (p : Nat → Bool) (k : Nat) (i : Nat) : wd (upTo p (k + 1)) i = wd (fun j => upTo p k j || (p k && j == k)) i := by
  refine congrArg Int.ofNat (wn_congr fun j _ => ?_)
  unfold upTo
  by_cases e : 64 * i + j = k
  · rw [e]; cases p k <;> simp
  · have h1 : (64 * i + j < k + 1) = (64 * i + j < k) := by apply propext; omega
    have h2 : (64 * i + j == k) = false := beq_eq_false_iff_ne.2 e
    simp [h1, h2]
set_option maxRecDepth 100000 in
set_option maxHeartbeats 800000 in
theorem words_any (p : Nat → Bool) (w : World) : Calls Try.prog 19 #[.agg (rowOf .u8 256 (b01 p))] w fun e w' => e = .returned (.agg #[.int .u64 ((wd p) 0), .int .u64 ((wd p) 1), .int .u64 ((wd p) 2), .int .u64 ((wd p) 3)]) ∧ Below w.heap.size w w' := by
  go_enter Try.func19, Try.ntmps19
  go_wp2_with fail
  go_loopw [4] (fun i wr => ∃ k : Nat, k ≤ 256 ∧ i = .int .i64 k ∧ Cel .u8 wr w.heap.size 256 (b01 p) ∧ Cel .u64 wr (w.heap.size + 1) 4 (fun _ => 0) ∧ Cel .u64 wr (w.heap.size + 2) 4 (wd (upTo p k)) ∧ Below w.heap.size w wr ∧ w.heap.size + 3 ≤ wr.heap.size) (fun i _ => 256 - (intOf i).toNat)
  case atStart =>
    refine ⟨0, by omega, rfl, ?_, ?_, ?_, (((Below.refl _ _).alloc (by simp) _).alloc (by simp) _).alloc (by simp; omega) _, by simp⟩
    · exact ((Cel.new w (rowOf .u8 256 (b01 p)) 35 fun j hj => rowOf_get .u8 256 (b01 p) j hj).alloc (by omega) _).alloc (by omega) _
    · have := (Cel.new (n := 4) (kd := .u64) (f := fun _ => 0) (w.alloc (.cells (rowOf .u8 256 (b01 p)) 35)) #[.int .u64 0, .int .u64 0, .int .u64 0, .int .u64 0] 31 fun j hj => zero4 j hj).alloc (by omega) (.cells #[.int .u64 0, .int .u64 0, .int .u64 0, .int .u64 0] 31)
      simpa using this
    · have h0 : ∀ i, i < 4 → wd (upTo p 0) i = 0 := fun i hi => (wd_congr (q := fun _ => false) (fun j _ => by simp [upTo]) i hi).trans (wd_none i)
      have := Cel.new (n := 4) (kd := .u64) (f := wd (upTo p 0)) ((w.alloc (.cells (rowOf .u8 256 (b01 p)) 35)).alloc (.cells #[.int .u64 0, .int .u64 0, .int .u64 0, .int .u64 0] 31)) #[.int .u64 0, .int .u64 0, .int .u64 0, .int .u64 0] 31 fun j hj => by rw [h0 j hj]; exact zero4 j hj
      simpa using this
  case round =>
    obtain ⟨k, hk, rfl, hP, hR, hU, hbr, hsz⟩ := hrel
    have HBR : Hid (Below w.heap.size w wr) := hbr
    clear hbr
    by_cases hlt : k < 256
    · obtain ⟨hc, _⟩ := hP k hlt
      obtain ⟨hu, hf⟩ := hU (k / 64) (by omega)
      cases hq : p k
      · have hv : b01 p k = 0 := by simp [b01, hq]
        rw [hv] at hc
        clear hv
        go_wp2
        refine ⟨⟨k + 1, by omega, by go_num, hP, hR, ?_, HBR.out, hsz⟩, by simp [intOf]; omega⟩
        refine hU.congr fun j _ => ?_
        rw [upTo_succ, hq]
        simp
      · have hv : b01 p k = 1 := by simp [b01, hq]
        rw [hv] at hc
        clear hv
        go_wp2
        refine ⟨⟨k + 1, by omega, by go_num, hP.far _ (by simp; omega) _, hR.far _ (by simp) _, ?_, HBR.out.setCell (by simp; omega) _, by simp [World.setCell]; omega⟩, by simp [intOf]; omega⟩
        refine (hU.set (k / 64) _).congr fun j _ => ?_
        rw [upTo_succ, hq, wrap_pow k]
        simp only [Bool.true_and]
        by_cases e : j = k / 64
        · subst e
          rw [if_pos rfl]
          exact or_bit _ k _ rfl
        · rw [if_neg e]
          exact (or_bit_other _ k j (fun h => e h.symm)).symm
    · have e : k = 256 := by omega
      subst e
      obtain ⟨hu0, hf0⟩ := hU 0 (by omega)
      obtain ⟨hu1, hf1⟩ := hU 1 (by omega)
      obtain ⟨hu2, hf2⟩ := hU 2 (by omega)
      obtain ⟨hu3, hf3⟩ := hU 3 (by omega)
      obtain ⟨hr0, hg0⟩ := hR 0 (by omega)
      obtain ⟨hr1, hg1⟩ := hR 1 (by omega)
      obtain ⟨hr2, hg2⟩ := hR 2 (by omega)
      obtain ⟨hr3, hg3⟩ := hR 3 (by omega)
      have he : ∀ i, i < 4 → wd (upTo p 256) i = wd p i := wd_congr fun j hj => by simp [upTo, hj]
      rw [he 0 (by omega)] at hu0
      rw [he 1 (by omega)] at hu1
      rw [he 2 (by omega)] at hu2
      rw [he 3 (by omega)] at hu3
      clear he
      go_wp2
      refine bodyPost_ret (v := .agg #[.int .u64 ((wd p) 0), .int .u64 ((wd p) 1), .int .u64 ((wd p) 2), .int .u64 ((wd p) 3)]) (by simp [results, Try.results19, go_sem, hr0, hr1, hr2, hr3]) rfl ⟨rfl, ?_⟩
      exact (((HBR.out.setCell (by simp) _).setCell (by simp) _).setCell (by simp) _).setCell (by simp) _
end Go.Proofs.Ytgfgkhgohoaneaa
