/-
  The contract of Normal: what is decoded, coded by the set and the sign besides. Condition: the text is no longer than a third of what one that comes in can be.
-/
import Derived.Test.YtoliiccmfmgmlaaDoorEc
import Derived.Test.YtoliiccmfmgmlaaDoorUni
import Derived.Deep.RegionHeld3
namespace Go.Proofs.YtoliiccmfmgmlaaDoor
open Go.RowKit
/-- A set, and the sign besides. -/
def withP (p : Nat → Bool) : Nat → Bool := fun j => p j || fromTo 37 (37 + 1) j
theorem from37 (j : Nat) : fromTo 37 (37 + 1) j = (j == 37) := by
  unfold fromTo; rw [Bool.eq_iff_iff]; simp; omega
theorem box_below {w v v' : World} {X : Nat → Int} {b : Nat} (h : v.cell? ⟨b, 0, none⟩ = some (.int .u64 (X 0)) ∧ v.cell? ⟨b, 1, none⟩ = some (.int .u64 (X 1)) ∧ v.cell? ⟨b, 2, none⟩ = some (.int .u64 (X 2)) ∧ v.cell? ⟨b, 3, none⟩ = some (.int .u64 (X 3)) ∧ b < v.heap.size ∧ Below w.heap.size w v) (hb : Below v.heap.size v v') : v'.cell? ⟨b, 0, none⟩ = some (.int .u64 (X 0)) ∧ v'.cell? ⟨b, 1, none⟩ = some (.int .u64 (X 1)) ∧ v'.cell? ⟨b, 2, none⟩ = some (.int .u64 (X 2)) ∧ v'.cell? ⟨b, 3, none⟩ = some (.int .u64 (X 3)) ∧ b < v'.heap.size ∧ Below w.heap.size w v' := by
  obtain ⟨h0, h1, h2, h3, h4, h5⟩ := h
  exact ⟨(hb.cell (p := ⟨b, 0, none⟩) h4).trans h0, (hb.cell (p := ⟨b, 1, none⟩) h4).trans h1, (hb.cell (p := ⟨b, 2, none⟩) h4).trans h2, (hb.cell (p := ⟨b, 3, none⟩) h4).trans h3, Nat.lt_of_lt_of_le h4 hb.size, h5.trans (hb.mono h5.size)⟩
theorem box_alloc {w v : World} {X : Nat → Int} {b : Nat} (o : Obj) (h : v.cell? ⟨b, 0, none⟩ = some (.int .u64 (X 0)) ∧ v.cell? ⟨b, 1, none⟩ = some (.int .u64 (X 1)) ∧ v.cell? ⟨b, 2, none⟩ = some (.int .u64 (X 2)) ∧ v.cell? ⟨b, 3, none⟩ = some (.int .u64 (X 3)) ∧ b < v.heap.size ∧ Below w.heap.size w v) : (v.alloc o).cell? ⟨b, 0, none⟩ = some (.int .u64 (X 0)) ∧ (v.alloc o).cell? ⟨b, 1, none⟩ = some (.int .u64 (X 1)) ∧ (v.alloc o).cell? ⟨b, 2, none⟩ = some (.int .u64 (X 2)) ∧ (v.alloc o).cell? ⟨b, 3, none⟩ = some (.int .u64 (X 3)) ∧ b < (v.alloc o).heap.size ∧ Below w.heap.size w (v.alloc o) :=
  box_below h ((Below.refl _ v).alloc (Nat.le_refl _) o)
theorem box_drew {w v : World} {X : Nat → Int} {b : Nat} (h : v.cell? ⟨b, 0, none⟩ = some (.int .u64 (X 0)) ∧ v.cell? ⟨b, 1, none⟩ = some (.int .u64 (X 1)) ∧ v.cell? ⟨b, 2, none⟩ = some (.int .u64 (X 2)) ∧ v.cell? ⟨b, 3, none⟩ = some (.int .u64 (X 3)) ∧ b < v.heap.size ∧ Below w.heap.size w v) : v.drew.cell? ⟨b, 0, none⟩ = some (.int .u64 (X 0)) ∧ v.drew.cell? ⟨b, 1, none⟩ = some (.int .u64 (X 1)) ∧ v.drew.cell? ⟨b, 2, none⟩ = some (.int .u64 (X 2)) ∧ v.drew.cell? ⟨b, 3, none⟩ = some (.int .u64 (X 3)) ∧ b < v.drew.heap.size ∧ Below w.heap.size w v.drew := box_below h (Below.refl _ v).drew
theorem box_end {w v : World} {X : Nat → Int} {b : Nat} (h : v.cell? ⟨b, 0, none⟩ = some (.int .u64 (X 0)) ∧ v.cell? ⟨b, 1, none⟩ = some (.int .u64 (X 1)) ∧ v.cell? ⟨b, 2, none⟩ = some (.int .u64 (X 2)) ∧ v.cell? ⟨b, 3, none⟩ = some (.int .u64 (X 3)) ∧ b < v.heap.size ∧ Below w.heap.size w v) : Below w.heap.size w v := h.2.2.2.2.2
set_option maxRecDepth 100000 in
set_option maxHeartbeats 4000000 in
theorem normal_wide (p : Nat → Bool) (s : ByteArray) (w : World) (hs : s.size ≤ 140737488351232) (hd : (decB s).size ≤ 46912496100000) :
    Calls Tryd.prog 10 #[.string s, .agg #[.int .u64 (wd p 0), .int .u64 (wd p 1), .int .u64 (wd p 2), .int .u64 (wd p 3)]] w fun e w' => e = .returned (.string (encB (withP p) (decB s))) ∧ Below w.heap.size w w' := by
  have k10 := fun w => decode_any s w (by omega)
  have k34 := fun w => only_any 37 w (by omega)
  have k33 : ∀ w : World, Calls Tryd.prog 19 #[.slice (some ⟨w.heap.size, 0, none⟩) 2 2] (w.alloc (.cells #[.int .u64 (wd p 0), .int .u64 (wd p 1), .int .u64 (wd p 2), .int .u64 (wd p 3), .int .u64 (wd (fromTo 37 (37 + 1)) 0), .int .u64 (wd (fromTo 37 (37 + 1)) 1), .int .u64 (wd (fromTo 37 (37 + 1)) 2), .int .u64 (wd (fromTo 37 (37 + 1)) 3)] 27)) fun e w' => e = .returned (.agg #[.int .u64 (wd (withP p) 0), .int .u64 (wd (withP p) 1), .int .u64 (wd (withP p) 2), .int .u64 (wd (withP p) 3)]) ∧ Below (w.alloc (.cells #[.int .u64 (wd p 0), .int .u64 (wd p 1), .int .u64 (wd p 2), .int .u64 (wd p 3), .int .u64 (wd (fromTo 37 (37 + 1)) 0), .int .u64 (wd (fromTo 37 (37 + 1)) 1), .int .u64 (wd (fromTo 37 (37 + 1)) 2), .int .u64 (wd (fromTo 37 (37 + 1)) 3)] 27)).heap.size (w.alloc (.cells #[.int .u64 (wd p 0), .int .u64 (wd p 1), .int .u64 (wd p 2), .int .u64 (wd p 3), .int .u64 (wd (fromTo 37 (37 + 1)) 0), .int .u64 (wd (fromTo 37 (37 + 1)) 1), .int .u64 (wd (fromTo 37 (37 + 1)) 2), .int .u64 (wd (fromTo 37 (37 + 1)) 3)] 27)) w' := fun w => union_two p (fromTo 37 (37 + 1)) w 27
  have k15 := fun w => enc_any (withP p) (decB s) w (by omega)
  obtain ⟨R, hR⟩ : ∃ R, encB (withP p) (decB s) = R := ⟨_, rfl⟩
  obtain ⟨M, hM⟩ : ∃ M, decB s = M := ⟨_, rfl⟩
  rw [hR] at k15 ⊢; rw [hM] at k15 k10
  clear hR hM hd
  go_enter Tryd.func10, Tryd.ntmps10
  go_wp2
  obtain ⟨V, hV⟩ : ∃ V, w.alloc (.cells #[.int .u64 (wd p 0), .int .u64 (wd p 1), .int .u64 (wd p 2), .int .u64 (wd p 3)] 27) = V := ⟨_, rfl⟩
  have hH : V.cell? ⟨w.heap.size, 0, none⟩ = some (.int .u64 (wd p 0)) ∧ V.cell? ⟨w.heap.size, 1, none⟩ = some (.int .u64 (wd p 1)) ∧ V.cell? ⟨w.heap.size, 2, none⟩ = some (.int .u64 (wd p 2)) ∧ V.cell? ⟨w.heap.size, 3, none⟩ = some (.int .u64 (wd p 3)) ∧ w.heap.size < V.heap.size ∧ Below w.heap.size w V := by
    rw [← hV]
    refine ⟨by simp, by simp, by simp, by simp, by simp, (Below.refl _ w).alloc (Nat.le_refl _) _⟩
  rw [hV]
  clear hV
  go_region_held3 (fun v => v.cell? ⟨w.heap.size, 0, none⟩ = some (.int .u64 (wd p 0)) ∧ v.cell? ⟨w.heap.size, 1, none⟩ = some (.int .u64 (wd p 1)) ∧ v.cell? ⟨w.heap.size, 2, none⟩ = some (.int .u64 (wd p 2)) ∧ v.cell? ⟨w.heap.size, 3, none⟩ = some (.int .u64 (wd p 3)) ∧ w.heap.size < v.heap.size ∧ Below w.heap.size w v)
    (first
      | exact box_drew hH
      | exact box_below (X := wd p) (by assumption) hb
      | exact box_alloc (X := wd p) _ (by assumption))
    (first
      | (go_at_call 11; refine (k10 _).mono ?_; rintro e w' ⟨rfl, hb⟩)
      | (go_at_call 20; refine (k34 _).mono ?_; rintro e w' ⟨rfl, hb⟩)
      | (go_at_call 19; refine (k33 _).mono ?_; rintro e w' ⟨rfl, hb⟩)
      | (go_at_call 12; refine (k15 _).mono ?_; rintro e w' ⟨rfl, hb⟩))
  have hfin := box_end (X := wd p) ‹_›
  go_wp2
  go_ret
  exact ⟨rfl, hfin⟩
end Go.Proofs.YtoliiccmfmgmlaaDoor
