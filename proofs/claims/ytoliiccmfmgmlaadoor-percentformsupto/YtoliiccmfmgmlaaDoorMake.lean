/-
  The contract of Make: the bytes from one to another, and those of a slice. Conditions: the two are bytes; the slice is nil, or its bytes lie in memory.
-/
import Derived.Test.YtoliiccmfmgmlaaDoorPlus
namespace Go.Proofs.YtoliiccmfmgmlaaDoor
open Go.RowKit
/-- What plus does to a slice v, in whatever world that has grown out of w. -/
def PlusSays (w : World) (v : Value) (q : (Nat → Bool) → Nat → Bool) : Prop :=
  ∀ p w', Below w.heap.size w w' → Calls Tryd.prog 54 #[.agg #[.int .u64 ((wd p) 0), .int .u64 ((wd p) 1), .int .u64 ((wd p) 2), .int .u64 ((wd p) 3)], v] w' fun e w'' => e = .returned (.agg #[.int .u64 ((wd (q p)) 0), .int .u64 ((wd (q p)) 1), .int .u64 ((wd (q p)) 2), .int .u64 ((wd (q p)) 3)]) ∧ Below w'.heap.size w' w''
theorem plusSays_none (w : World) (c : Nat) : PlusSays w (.slice none 0 c) (fun p => p) := fun p w' _ => plus_none p c w'
theorem plusSays_some (bs : Nat → Nat) (g off n c : Nat) (w : World) (hn : n ≤ 140737488355328) (hg : g < w.heap.size) (hlt : ∀ i, bs i < 256) (hx : ∀ i, i < n → w.cell? ⟨g, off + i, none⟩ = some (.int .u8 (bs i))) :
    PlusSays w (.slice (some ⟨g, off, none⟩) n c) (fun p => plusTo p bs n) := fun p w' hb =>
  plus_any p bs g off n c w' hn (Nat.lt_of_lt_of_le hg hb.size) hlt fun i hi => (hb.cell (p := ⟨g, off + i, none⟩) hg).trans (hx i hi)
/-- The bytes from a on, below k. -/
def fromTo (a k : Nat) : Nat → Bool := fun j => decide (a ≤ j) && decide (j < k)
theorem fromTo_succ (a k : Nat) (h : a ≤ k) : plusTo (fromTo a k) (fun _ => k) 1 = fromTo a (k + 1) := by
  funext j
  simp only [plusTo, fromTo, List.range_succ, List.range_zero, List.nil_append, List.any_cons, List.any_nil, Bool.or_false]
  rw [Bool.eq_iff_iff]
  simp
  omega
theorem fromTo_none (a k : Nat) (h : k ≤ a) (j : Nat) : fromTo a k j = false := by
  simp [fromTo]; omega
theorem plus_byte (p : Nat → Bool) (k : Nat) (w : World) (hk : k < 256) : Calls Tryd.prog 54 #[.agg #[.int .u64 ((wd p) 0), .int .u64 ((wd p) 1), .int .u64 ((wd p) 2), .int .u64 ((wd p) 3)], .slice (some ⟨w.heap.size, 0, none⟩) 1 1] (w.alloc (.cells #[.int .u8 k] 5)) fun e w' => e = .returned (.agg #[.int .u64 ((wd (plusTo p (fun _ => k) 1)) 0), .int .u64 ((wd (plusTo p (fun _ => k) 1)) 1), .int .u64 ((wd (plusTo p (fun _ => k) 1)) 2), .int .u64 ((wd (plusTo p (fun _ => k) 1)) 3)]) ∧ Below (w.alloc (.cells #[.int .u8 k] 5)).heap.size (w.alloc (.cells #[.int .u8 k] 5)) w' := by
  refine plus_any p (fun _ => k) w.heap.size 0 1 1 _ (by omega) (by simp) (fun _ => hk) fun i hi => ?_
  have : i = 0 := by omega
  subst this
  rw [World.cell?_alloc_at _ _ _ _ rfl]
  rfl
set_option maxHeartbeats 800000 in
theorem make_any (a b : Nat) (v : Value) (q : (Nat → Bool) → Nat → Bool) (w : World) (ha : a < 256) (hb : b < 256) (hp : PlusSays w v q) :
    Calls Tryd.prog 35 #[.int .u8 a, .int .u8 b, v] w fun e w' => e = .returned (.agg #[.int .u64 ((wd (q (fromTo a (b + 1)))) 0), .int .u64 ((wd (q (fromTo a (b + 1)))) 1), .int .u64 ((wd (q (fromTo a (b + 1)))) 2), .int .u64 ((wd (q (fromTo a (b + 1)))) 3)]) ∧ Below w.heap.size w w' := by
  go_enter Tryd.func35, Tryd.ntmps35
  go_wp2_with fail
  go_loopw [8] (fun i wr => ∃ k : Nat, a ≤ k ∧ (k ≤ b + 1 ∨ k = a) ∧ i = .int .i64 k ∧ Cel .u64 wr w.heap.size 4 (fun _ => 0) ∧ Cel .u64 wr (w.heap.size + 1) 4 (wd (fromTo a k)) ∧ Below w.heap.size w wr ∧ w.heap.size + 2 ≤ wr.heap.size) (fun i _ => 256 - (intOf i).toNat)
  case atStart =>
    refine ⟨a, by omega, .inr rfl, rfl, ?_, ?_, ((Below.refl _ _).alloc (by simp) _).alloc (by simp) _, by simp⟩
    · refine (Cel.new w _ 27 fun j hj => ?_).alloc (by omega) _
      match j, hj with
      | 0, _ => rfl
      | 1, _ => rfl
      | 2, _ => rfl
      | 3, _ => rfl
    · have h0 : ∀ i, i < 4 → wd (fromTo a a) i = 0 := fun i hi => (wd_congr (q := fun _ => false) (fun j _ => fromTo_none a a (Nat.le_refl _) j) i hi).trans (by
        match i, hi with
        | 0, _ => rfl
        | 1, _ => rfl
        | 2, _ => rfl
        | 3, _ => rfl)
      have := Cel.new (n := 4) (kd := .u64) (f := wd (fromTo a a)) (w.alloc (.cells #[.int .u64 0, .int .u64 0, .int .u64 0, .int .u64 0] 27)) #[.int .u64 0, .int .u64 0, .int .u64 0, .int .u64 0] 27 fun j hj => by
        rw [h0 j hj]
        match j, hj with
        | 0, _ => rfl
        | 1, _ => rfl
        | 2, _ => rfl
        | 3, _ => rfl
      simpa using this
  case round =>
    obtain ⟨k, hka, hk, rfl, hR, hU, hbr, hsz⟩ := hrel
    obtain ⟨hu0, hf0⟩ := hU 0 (by omega)
    obtain ⟨hu1, hf1⟩ := hU 1 (by omega)
    obtain ⟨hu2, hf2⟩ := hU 2 (by omega)
    obtain ⟨hu3, hf3⟩ := hU 3 (by omega)
    have HBR : Hid (Below w.heap.size w wr) := hbr
    clear hbr
    by_cases hlt : k ≤ b
    · go_wp2_with fail
      refine (plus_byte (fromTo a k) k wr (by omega)).mono ?_
      rintro e w2 ⟨rfl, hb2⟩
      rw [fromTo_succ a k hka]
      have hR2 : Cel .u64 w2 w.heap.size 4 (fun _ => 0) := (hR.alloc (by omega) _).below hb2 (by simp; omega)
      have hU2 : Cel .u64 w2 (w.heap.size + 1) 4 (wd (fromTo a k)) := (hU.alloc (by omega) _).below hb2 (by simp; omega)
      have HB2 : Hid (Below w.heap.size w w2) := (HBR.out.alloc (by omega) _).trans (hb2.mono (by simp; omega))
      have hs2 : w.heap.size + 2 ≤ w2.heap.size := by have := hb2.size; simp at this; omega
      clear hb2 hu0 hf0 hu1 hf1 hu2 hf2 hu3 hf3 hU hR HBR hsz
      obtain ⟨hu0, hf0⟩ := hU2 0 (by omega)
      obtain ⟨hu1, hf1⟩ := hU2 1 (by omega)
      obtain ⟨hu2, hf2⟩ := hU2 2 (by omega)
      obtain ⟨hu3, hf3⟩ := hU2 3 (by omega)
      go_wp2
      refine ⟨⟨k + 1, by omega, .inl (by omega), by go_num, ?_, ?_, ?_, ?_⟩, by simp [intOf]; omega⟩
      · exact (((hR2.far _ (by simp) _).far _ (by simp) _).far _ (by simp) _).far _ (by simp) _
      · refine Cel.congr ((((hU2.set 0 _).set 1 _).set 2 _).set 3 _) fun j hj => ?_
        match j, hj with
        | 0, _ => rfl
        | 1, _ => rfl
        | 2, _ => rfl
        | 3, _ => rfl
      · exact (((HB2.out.setCell (by simp) _).setCell (by simp) _).setCell (by simp) _).setCell (by simp) _
      · simp [World.setCell]; omega
    · go_wp2_with fail
      refine (hp (fromTo a k) _ HBR.out).mono ?_
      rintro e w2 ⟨rfl, hb2⟩
      have hR2 : Cel .u64 w2 w.heap.size 4 (fun _ => 0) := hR.below hb2 (by omega)
      have HB2 : Hid (Below w.heap.size w w2) := HBR.out.trans (hb2.mono (by omega))
      have hs2 : w.heap.size + 2 ≤ w2.heap.size := by have := hb2.size; omega
      clear hb2 hu0 hf0 hu1 hf1 hu2 hf2 hu3 hf3 hU hR HBR hsz
      obtain ⟨hr0, hg0⟩ := hR2 0 (by omega)
      obtain ⟨hr1, hg1⟩ := hR2 1 (by omega)
      obtain ⟨hr2, hg2⟩ := hR2 2 (by omega)
      obtain ⟨hr3, hg3⟩ := hR2 3 (by omega)
      have he : fromTo a k = fromTo a (b + 1) := by
        funext j
        unfold fromTo
        rcases hk with h | h
        · have : k = b + 1 := by omega
          rw [this]
        · rw [Bool.eq_iff_iff]; simp; omega
      rw [he]
      clear he
      go_wp2
      refine bodyPost_ret (v := .agg #[.int .u64 ((wd (q (fromTo a (b + 1)))) 0), .int .u64 ((wd (q (fromTo a (b + 1)))) 1), .int .u64 ((wd (q (fromTo a (b + 1)))) 2), .int .u64 ((wd (q (fromTo a (b + 1)))) 3)]) (by simp [results, Tryd.results35, go_sem, hr0, hr1, hr2, hr3]) rfl ⟨rfl, ?_⟩
      exact (((HB2.out.setCell (by simp) _).setCell (by simp) _).setCell (by simp) _).setCell (by simp) _
end Go.Proofs.YtoliiccmfmgmlaaDoor
