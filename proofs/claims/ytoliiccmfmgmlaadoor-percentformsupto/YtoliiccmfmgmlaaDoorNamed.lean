/-
  The contracts of the functions that make the sets that the standard names: each makes just its set. No condition.
-/
import Derived.Test.YtoliiccmfmgmlaaDoorMake
import Derived.Test.YtoliiccmfmgmlaaDoorUni
namespace Go.Proofs.YtoliiccmfmgmlaaDoor
open Go.RowKit
theorem zero4 (j : Nat) (hj : j < 4) : (#[.int .u64 0, .int .u64 0, .int .u64 0, .int .u64 0] : Array Value)[j]? = some (.int .u64 0) := by
  match j, hj with
  | 0, _ => rfl
  | 1, _ => rfl
  | 2, _ => rfl
  | 3, _ => rfl
/-- The set that the standard gives the number k. -/
def setP : Nat → Nat → Bool
  | 1 => fun j => decide (j ≤ 31) || decide (127 ≤ j)
  | 2 => fun j => setP 1 j || [32, 34, 60, 62, 96].contains j
  | 3 => fun j => setP 1 j || [32, 34, 35, 60, 62].contains j
  | 4 => fun j => setP 3 j || [39].contains j
  | 5 => fun j => setP 3 j || [63, 94, 96, 123, 125].contains j
  | 6 => fun j => setP 5 j || [47, 58, 59, 61, 64, 91, 92, 93, 124].contains j
  | 7 => fun j => setP 6 j || [36, 37, 38, 43, 44].contains j
  | 8 => fun j => setP 7 j || [33, 39, 40, 41, 126].contains j
  | 9 => fun j => [0, 9, 10, 13, 32, 35, 47, 58, 60, 62, 63, 64, 91, 92, 93, 94, 124].contains j
  | 10 => fun j => setP 9 j || decide (j ≤ 31) || [37, 127].contains j
  | _ => fun _ => false
theorem plus_list (p : Nat → Bool) (l : List Int) (w : World) (hl : ∀ b ∈ l, 0 ≤ b ∧ b < 256) (hn : l.length ≤ 1000) :
    Calls Tryd.prog 54 #[.agg #[.int .u64 ((wd p) 0), .int .u64 ((wd p) 1), .int .u64 ((wd p) 2), .int .u64 ((wd p) 3)], .slice (some ⟨w.heap.size, 0, none⟩) l.length l.length] (w.alloc (.cells (l.map (Value.int .u8)).toArray 5)) fun e w' =>
      e = .returned (.agg #[.int .u64 ((wd (fun j => p j || l.contains (j : Int))) 0), .int .u64 ((wd (fun j => p j || l.contains (j : Int))) 1), .int .u64 ((wd (fun j => p j || l.contains (j : Int))) 2), .int .u64 ((wd (fun j => p j || l.contains (j : Int))) 3)]) ∧ Below (w.alloc (.cells (l.map (Value.int .u8)).toArray 5)).heap.size (w.alloc (.cells (l.map (Value.int .u8)).toArray 5)) w' := by
  have h0 : ∀ i, (l.getD i 0).toNat < 256 := fun i => by
    by_cases hi : i < l.length
    · have := hl (l.getD i 0) (by rw [List.getD_eq_getElem?_getD, List.getElem?_eq_getElem hi]; exact List.getElem_mem hi)
      omega
    · rw [List.getD_eq_getElem?_getD, List.getElem?_eq_none (by omega)]; simp
  have key := plus_any p (fun i => (l.getD i 0).toNat) w.heap.size 0 l.length l.length (w.alloc (.cells (l.map (Value.int .u8)).toArray 5)) (by omega) (by simp) h0 fun i hi => by
    rw [World.cell?_alloc_at _ _ _ _ rfl]
    have hb := hl (l.getD i 0) (by rw [List.getD_eq_getElem?_getD, List.getElem?_eq_getElem hi]; exact List.getElem_mem hi)
    have e : ((l.getD i 0).toNat : Int) = l.getD i 0 := by omega
    rw [e, List.getD_eq_getElem?_getD, List.getElem?_eq_getElem hi]
    simp [hi]
  have he : ∀ i, wd (plusTo p (fun i => (l.getD i 0).toNat) l.length) i = wd (fun j => p j || l.contains (j : Int)) i := fun i => by
    refine congrArg Int.ofNat (wn_congr fun j _ => ?_)
    unfold plusTo
    congr 1
    rw [Bool.eq_iff_iff, List.any_eq_true]
    constructor
    · rintro ⟨x, hx, hq⟩
      have hx' := List.mem_range.1 hx
      have hb := hl (l.getD x 0) (by rw [List.getD_eq_getElem?_getD, List.getElem?_eq_getElem hx']; exact List.getElem_mem hx')
      have hj : ((64 * i + j : Nat) : Int) = l.getD x 0 := by have := eq_of_beq hq; dsimp only at this; omega
      rw [hj, List.getD_eq_getElem?_getD, List.getElem?_eq_getElem hx']
      simp
    · intro hc
      have hm : ((64 * i + j : Nat) : Int) ∈ l := by simpa using hc
      obtain ⟨x, hx, hq⟩ := List.getElem_of_mem hm
      refine ⟨x, List.mem_range.2 hx, ?_⟩
      show (64 * i + j == (l.getD x 0).toNat) = true
      rw [List.getD_eq_getElem?_getD, List.getElem?_eq_getElem hx]
      simp only [Option.getD_some, hq]
      simp
      omega
  rw [he 0, he 1, he 2, he 3] at key
  exact key
theorem wd_none (i : Nat) : wd (fun _ => false) i = 0 := by
  have : (0 : Nat) = wn (fun _ => false) i := wn_eq (by omega) fun j _ => by simp
  unfold wd
  rw [← this]
  rfl
theorem plus_zero (l : List Int) (w : World) (m : Nat) (hm : m = w.heap.size) (hl : ∀ b ∈ l, 0 ≤ b ∧ b < 256) (hn : l.length ≤ 1000) :
    Calls Tryd.prog 54 #[.agg #[.int .u64 0, .int .u64 0, .int .u64 0, .int .u64 0], .slice (some ⟨m, 0, none⟩) l.length l.length] (w.alloc (.cells (l.map (Value.int .u8)).toArray 5)) fun e w' =>
      e = .returned (.agg #[.int .u64 ((wd (fun j => false || l.contains (j : Int))) 0), .int .u64 ((wd (fun j => false || l.contains (j : Int))) 1), .int .u64 ((wd (fun j => false || l.contains (j : Int))) 2), .int .u64 ((wd (fun j => false || l.contains (j : Int))) 3)]) ∧ Below (w.alloc (.cells (l.map (Value.int .u8)).toArray 5)).heap.size (w.alloc (.cells (l.map (Value.int .u8)).toArray 5)) w' := by
  subst hm
  have key := plus_list (fun _ => false) l w hl hn
  rw [wd_none 0, wd_none 1, wd_none 2, wd_none 3] at key
  exact key
theorem hide4 {X Y : Nat → Int} (h : ∀ i, i < 4 → X i = Y i) : Hid (∀ i, i < 4 → X i = Y i) := h
set_option maxRecDepth 100000 in
set_option maxHeartbeats 400000 in
theorem set37_any (w : World) : Calls Tryd.prog 39 #[] w fun e w' => e = .returned (.agg #[.int .u64 ((wd (setP 1)) 0), .int .u64 ((wd (setP 1)) 1), .int .u64 ((wd (setP 1)) 2), .int .u64 ((wd (setP 1)) 3)]) ∧ Below w.heap.size w w' := by
  have he : ∀ i, i < 4 → wd (fun j => fromTo 0 (31 + 1) j || fromTo 127 (255 + 1) j) i = wd (setP 1) i := wd_congr (by decide +kernel)
  have HE := hide4 he
  clear he
  go_enter Tryd.func39, Tryd.ntmps39
  go_wp2_with fail
  refine (make_any 0 31 _ _ _ (by omega) (by omega) (plusSays_none _ 0)).mono ?_
  rintro e w1 ⟨rfl, hb1⟩
  have hR1 : Cel .u64 w1 w.heap.size 4 (fun _ => 0) := (Cel.new (n := 4) (kd := .u64) (f := fun _ => 0) w #[.int .u64 0, .int .u64 0, .int .u64 0, .int .u64 0] 27 fun j hj => zero4 j hj).below hb1 (by simp)
  have HB1 : Hid (Below w.heap.size w w1) := ((Below.refl _ _).alloc (by simp) _).trans (hb1.mono (by simp))
  clear hb1
  go_wp2_with fail
  refine (make_any 127 255 _ _ _ (by omega) (by omega) (plusSays_none _ 0)).mono ?_
  rintro e w2 ⟨rfl, hb2⟩
  have hR2 : Cel .u64 w2 w.heap.size 4 (fun _ => 0) := hR1.below hb2 (hR1.lt (by omega))
  have HB2 : Hid (Below w.heap.size w w2) := HB1.out.trans (hb2.mono HB1.out.size)
  have hs2 : w.heap.size < w2.heap.size := hR2.lt (by omega)
  clear hb2 hR1 HB1
  go_wp2_with fail
  refine (union_two (fromTo 0 (31 + 1)) (fromTo 127 (255 + 1)) w2 _).mono ?_
  rintro e w3 ⟨rfl, hb3⟩
  rw [HE.out 0 (by omega), HE.out 1 (by omega), HE.out 2 (by omega), HE.out 3 (by omega)]
  have hR3 : Cel .u64 w3 w.heap.size 4 (fun _ => 0) := (hR2.alloc (by omega) _).below hb3 (by simp; omega)
  have HB3 : Hid (Below w.heap.size w w3) := (HB2.out.alloc (by omega) _).trans (hb3.mono (by simp; omega))
  clear hb3 hR2
  obtain ⟨hr0, hg0⟩ := hR3 0 (by omega)
  obtain ⟨hr1, hg1⟩ := hR3 1 (by omega)
  obtain ⟨hr2, hg2⟩ := hR3 2 (by omega)
  obtain ⟨hr3, hg3⟩ := hR3 3 (by omega)
  go_wp2
  refine bodyPost_ret (v := .agg #[.int .u64 ((wd (setP 1)) 0), .int .u64 ((wd (setP 1)) 1), .int .u64 ((wd (setP 1)) 2), .int .u64 ((wd (setP 1)) 3)]) (by simp [results, Tryd.results39, go_sem, hr0, hr1, hr2, hr3]) rfl ⟨rfl, ?_⟩
  exact (((HB3.out.setCell (by simp) _).setCell (by simp) _).setCell (by simp) _).setCell (by simp) _

set_option maxRecDepth 100000 in
set_option maxHeartbeats 400000 in
theorem set38_any (w : World) : Calls Tryd.prog 40 #[] w fun e w' => e = .returned (.agg #[.int .u64 ((wd (setP 2)) 0), .int .u64 ((wd (setP 2)) 1), .int .u64 ((wd (setP 2)) 2), .int .u64 ((wd (setP 2)) 3)]) ∧ Below w.heap.size w w' := by
  have he : ∀ i, i < 4 → wd (fun j => setP 1 j || [32, 34, 60, 62, 96].contains (j : Int)) i = wd (setP 2) i := wd_congr (by decide +kernel)
  have HE := hide4 he
  clear he
  go_enter Tryd.func40, Tryd.ntmps40
  go_wp2_with fail
  refine (set37_any _).mono ?_
  rintro e w1 ⟨rfl, hb1⟩
  have hR1 : Cel .u64 w1 w.heap.size 4 (fun _ => 0) := (Cel.new (n := 4) (kd := .u64) (f := fun _ => 0) w #[.int .u64 0, .int .u64 0, .int .u64 0, .int .u64 0] 27 fun j hj => zero4 j hj).below hb1 (by simp)
  have HB1 : Hid (Below w.heap.size w w1) := ((Below.refl _ _).alloc (by simp) _).trans (hb1.mono (by simp))
  have hs1 : w.heap.size < w1.heap.size := hR1.lt (by omega)
  clear hb1
  go_wp2_with fail
  refine (plus_list (setP 1) [32, 34, 60, 62, 96] w1 (by decide) (by decide)).mono ?_
  rintro e w2 ⟨rfl, hb2⟩
  rw [HE.out 0 (by omega), HE.out 1 (by omega), HE.out 2 (by omega), HE.out 3 (by omega)]
  have hR2 : Cel .u64 w2 w.heap.size 4 (fun _ => 0) := (hR1.alloc (by omega) _).below hb2 (by simp; omega)
  have HB2 : Hid (Below w.heap.size w w2) := (HB1.out.alloc (by omega) _).trans (hb2.mono (by simp; omega))
  clear hb2 hR1
  obtain ⟨hr0, hg0⟩ := hR2 0 (by omega)
  obtain ⟨hr1, hg1⟩ := hR2 1 (by omega)
  obtain ⟨hr2, hg2⟩ := hR2 2 (by omega)
  obtain ⟨hr3, hg3⟩ := hR2 3 (by omega)
  go_wp2
  refine bodyPost_ret (v := .agg #[.int .u64 ((wd (setP 2)) 0), .int .u64 ((wd (setP 2)) 1), .int .u64 ((wd (setP 2)) 2), .int .u64 ((wd (setP 2)) 3)]) (by simp [results, Tryd.results40, go_sem, hr0, hr1, hr2, hr3]) rfl ⟨rfl, ?_⟩
  exact (((HB2.out.setCell (by simp) _).setCell (by simp) _).setCell (by simp) _).setCell (by simp) _

set_option maxRecDepth 100000 in
set_option maxHeartbeats 400000 in
theorem set39_any (w : World) : Calls Tryd.prog 41 #[] w fun e w' => e = .returned (.agg #[.int .u64 ((wd (setP 3)) 0), .int .u64 ((wd (setP 3)) 1), .int .u64 ((wd (setP 3)) 2), .int .u64 ((wd (setP 3)) 3)]) ∧ Below w.heap.size w w' := by
  have he : ∀ i, i < 4 → wd (fun j => setP 1 j || [32, 34, 35, 60, 62].contains (j : Int)) i = wd (setP 3) i := wd_congr (by decide +kernel)
  have HE := hide4 he
  clear he
  go_enter Tryd.func41, Tryd.ntmps41
  go_wp2_with fail
  refine (set37_any _).mono ?_
  rintro e w1 ⟨rfl, hb1⟩
  have hR1 : Cel .u64 w1 w.heap.size 4 (fun _ => 0) := (Cel.new (n := 4) (kd := .u64) (f := fun _ => 0) w #[.int .u64 0, .int .u64 0, .int .u64 0, .int .u64 0] 27 fun j hj => zero4 j hj).below hb1 (by simp)
  have HB1 : Hid (Below w.heap.size w w1) := ((Below.refl _ _).alloc (by simp) _).trans (hb1.mono (by simp))
  have hs1 : w.heap.size < w1.heap.size := hR1.lt (by omega)
  clear hb1
  go_wp2_with fail
  refine (plus_list (setP 1) [32, 34, 35, 60, 62] w1 (by decide) (by decide)).mono ?_
  rintro e w2 ⟨rfl, hb2⟩
  rw [HE.out 0 (by omega), HE.out 1 (by omega), HE.out 2 (by omega), HE.out 3 (by omega)]
  have hR2 : Cel .u64 w2 w.heap.size 4 (fun _ => 0) := (hR1.alloc (by omega) _).below hb2 (by simp; omega)
  have HB2 : Hid (Below w.heap.size w w2) := (HB1.out.alloc (by omega) _).trans (hb2.mono (by simp; omega))
  clear hb2 hR1
  obtain ⟨hr0, hg0⟩ := hR2 0 (by omega)
  obtain ⟨hr1, hg1⟩ := hR2 1 (by omega)
  obtain ⟨hr2, hg2⟩ := hR2 2 (by omega)
  obtain ⟨hr3, hg3⟩ := hR2 3 (by omega)
  go_wp2
  refine bodyPost_ret (v := .agg #[.int .u64 ((wd (setP 3)) 0), .int .u64 ((wd (setP 3)) 1), .int .u64 ((wd (setP 3)) 2), .int .u64 ((wd (setP 3)) 3)]) (by simp [results, Tryd.results41, go_sem, hr0, hr1, hr2, hr3]) rfl ⟨rfl, ?_⟩
  exact (((HB2.out.setCell (by simp) _).setCell (by simp) _).setCell (by simp) _).setCell (by simp) _

set_option maxRecDepth 100000 in
set_option maxHeartbeats 400000 in
theorem set40_any (w : World) : Calls Tryd.prog 42 #[] w fun e w' => e = .returned (.agg #[.int .u64 ((wd (setP 4)) 0), .int .u64 ((wd (setP 4)) 1), .int .u64 ((wd (setP 4)) 2), .int .u64 ((wd (setP 4)) 3)]) ∧ Below w.heap.size w w' := by
  have he : ∀ i, i < 4 → wd (fun j => setP 3 j || [39].contains (j : Int)) i = wd (setP 4) i := wd_congr (by decide +kernel)
  have HE := hide4 he
  clear he
  go_enter Tryd.func42, Tryd.ntmps42
  go_wp2_with fail
  refine (set39_any _).mono ?_
  rintro e w1 ⟨rfl, hb1⟩
  have hR1 : Cel .u64 w1 w.heap.size 4 (fun _ => 0) := (Cel.new (n := 4) (kd := .u64) (f := fun _ => 0) w #[.int .u64 0, .int .u64 0, .int .u64 0, .int .u64 0] 27 fun j hj => zero4 j hj).below hb1 (by simp)
  have HB1 : Hid (Below w.heap.size w w1) := ((Below.refl _ _).alloc (by simp) _).trans (hb1.mono (by simp))
  have hs1 : w.heap.size < w1.heap.size := hR1.lt (by omega)
  clear hb1
  go_wp2_with fail
  refine (plus_list (setP 3) [39] w1 (by decide) (by decide)).mono ?_
  rintro e w2 ⟨rfl, hb2⟩
  rw [HE.out 0 (by omega), HE.out 1 (by omega), HE.out 2 (by omega), HE.out 3 (by omega)]
  have hR2 : Cel .u64 w2 w.heap.size 4 (fun _ => 0) := (hR1.alloc (by omega) _).below hb2 (by simp; omega)
  have HB2 : Hid (Below w.heap.size w w2) := (HB1.out.alloc (by omega) _).trans (hb2.mono (by simp; omega))
  clear hb2 hR1
  obtain ⟨hr0, hg0⟩ := hR2 0 (by omega)
  obtain ⟨hr1, hg1⟩ := hR2 1 (by omega)
  obtain ⟨hr2, hg2⟩ := hR2 2 (by omega)
  obtain ⟨hr3, hg3⟩ := hR2 3 (by omega)
  go_wp2
  refine bodyPost_ret (v := .agg #[.int .u64 ((wd (setP 4)) 0), .int .u64 ((wd (setP 4)) 1), .int .u64 ((wd (setP 4)) 2), .int .u64 ((wd (setP 4)) 3)]) (by simp [results, Tryd.results42, go_sem, hr0, hr1, hr2, hr3]) rfl ⟨rfl, ?_⟩
  exact (((HB2.out.setCell (by simp) _).setCell (by simp) _).setCell (by simp) _).setCell (by simp) _

set_option maxRecDepth 100000 in
set_option maxHeartbeats 400000 in
theorem set41_any (w : World) : Calls Tryd.prog 43 #[] w fun e w' => e = .returned (.agg #[.int .u64 ((wd (setP 5)) 0), .int .u64 ((wd (setP 5)) 1), .int .u64 ((wd (setP 5)) 2), .int .u64 ((wd (setP 5)) 3)]) ∧ Below w.heap.size w w' := by
  have he : ∀ i, i < 4 → wd (fun j => setP 3 j || [63, 94, 96, 123, 125].contains (j : Int)) i = wd (setP 5) i := wd_congr (by decide +kernel)
  have HE := hide4 he
  clear he
  go_enter Tryd.func43, Tryd.ntmps43
  go_wp2_with fail
  refine (set39_any _).mono ?_
  rintro e w1 ⟨rfl, hb1⟩
  have hR1 : Cel .u64 w1 w.heap.size 4 (fun _ => 0) := (Cel.new (n := 4) (kd := .u64) (f := fun _ => 0) w #[.int .u64 0, .int .u64 0, .int .u64 0, .int .u64 0] 27 fun j hj => zero4 j hj).below hb1 (by simp)
  have HB1 : Hid (Below w.heap.size w w1) := ((Below.refl _ _).alloc (by simp) _).trans (hb1.mono (by simp))
  have hs1 : w.heap.size < w1.heap.size := hR1.lt (by omega)
  clear hb1
  go_wp2_with fail
  refine (plus_list (setP 3) [63, 94, 96, 123, 125] w1 (by decide) (by decide)).mono ?_
  rintro e w2 ⟨rfl, hb2⟩
  rw [HE.out 0 (by omega), HE.out 1 (by omega), HE.out 2 (by omega), HE.out 3 (by omega)]
  have hR2 : Cel .u64 w2 w.heap.size 4 (fun _ => 0) := (hR1.alloc (by omega) _).below hb2 (by simp; omega)
  have HB2 : Hid (Below w.heap.size w w2) := (HB1.out.alloc (by omega) _).trans (hb2.mono (by simp; omega))
  clear hb2 hR1
  obtain ⟨hr0, hg0⟩ := hR2 0 (by omega)
  obtain ⟨hr1, hg1⟩ := hR2 1 (by omega)
  obtain ⟨hr2, hg2⟩ := hR2 2 (by omega)
  obtain ⟨hr3, hg3⟩ := hR2 3 (by omega)
  go_wp2
  refine bodyPost_ret (v := .agg #[.int .u64 ((wd (setP 5)) 0), .int .u64 ((wd (setP 5)) 1), .int .u64 ((wd (setP 5)) 2), .int .u64 ((wd (setP 5)) 3)]) (by simp [results, Tryd.results43, go_sem, hr0, hr1, hr2, hr3]) rfl ⟨rfl, ?_⟩
  exact (((HB2.out.setCell (by simp) _).setCell (by simp) _).setCell (by simp) _).setCell (by simp) _

set_option maxRecDepth 100000 in
set_option maxHeartbeats 400000 in
theorem set42_any (w : World) : Calls Tryd.prog 44 #[] w fun e w' => e = .returned (.agg #[.int .u64 ((wd (setP 6)) 0), .int .u64 ((wd (setP 6)) 1), .int .u64 ((wd (setP 6)) 2), .int .u64 ((wd (setP 6)) 3)]) ∧ Below w.heap.size w w' := by
  have he : ∀ i, i < 4 → wd (fun j => setP 5 j || [47, 58, 59, 61, 64, 91, 92, 93, 124].contains (j : Int)) i = wd (setP 6) i := wd_congr (by decide +kernel)
  have HE := hide4 he
  clear he
  go_enter Tryd.func44, Tryd.ntmps44
  go_wp2_with fail
  refine (set41_any _).mono ?_
  rintro e w1 ⟨rfl, hb1⟩
  have hR1 : Cel .u64 w1 w.heap.size 4 (fun _ => 0) := (Cel.new (n := 4) (kd := .u64) (f := fun _ => 0) w #[.int .u64 0, .int .u64 0, .int .u64 0, .int .u64 0] 27 fun j hj => zero4 j hj).below hb1 (by simp)
  have HB1 : Hid (Below w.heap.size w w1) := ((Below.refl _ _).alloc (by simp) _).trans (hb1.mono (by simp))
  have hs1 : w.heap.size < w1.heap.size := hR1.lt (by omega)
  clear hb1
  go_wp2_with fail
  refine (plus_list (setP 5) [47, 58, 59, 61, 64, 91, 92, 93, 124] w1 (by decide) (by decide)).mono ?_
  rintro e w2 ⟨rfl, hb2⟩
  rw [HE.out 0 (by omega), HE.out 1 (by omega), HE.out 2 (by omega), HE.out 3 (by omega)]
  have hR2 : Cel .u64 w2 w.heap.size 4 (fun _ => 0) := (hR1.alloc (by omega) _).below hb2 (by simp; omega)
  have HB2 : Hid (Below w.heap.size w w2) := (HB1.out.alloc (by omega) _).trans (hb2.mono (by simp; omega))
  clear hb2 hR1
  obtain ⟨hr0, hg0⟩ := hR2 0 (by omega)
  obtain ⟨hr1, hg1⟩ := hR2 1 (by omega)
  obtain ⟨hr2, hg2⟩ := hR2 2 (by omega)
  obtain ⟨hr3, hg3⟩ := hR2 3 (by omega)
  go_wp2
  refine bodyPost_ret (v := .agg #[.int .u64 ((wd (setP 6)) 0), .int .u64 ((wd (setP 6)) 1), .int .u64 ((wd (setP 6)) 2), .int .u64 ((wd (setP 6)) 3)]) (by simp [results, Tryd.results44, go_sem, hr0, hr1, hr2, hr3]) rfl ⟨rfl, ?_⟩
  exact (((HB2.out.setCell (by simp) _).setCell (by simp) _).setCell (by simp) _).setCell (by simp) _

set_option maxRecDepth 100000 in
set_option maxHeartbeats 400000 in
theorem set43_any (w : World) : Calls Tryd.prog 45 #[] w fun e w' => e = .returned (.agg #[.int .u64 ((wd (setP 7)) 0), .int .u64 ((wd (setP 7)) 1), .int .u64 ((wd (setP 7)) 2), .int .u64 ((wd (setP 7)) 3)]) ∧ Below w.heap.size w w' := by
  have he : ∀ i, i < 4 → wd (fun j => setP 6 j || [36, 37, 38, 43, 44].contains (j : Int)) i = wd (setP 7) i := wd_congr (by decide +kernel)
  have HE := hide4 he
  clear he
  go_enter Tryd.func45, Tryd.ntmps45
  go_wp2_with fail
  refine (set42_any _).mono ?_
  rintro e w1 ⟨rfl, hb1⟩
  have hR1 : Cel .u64 w1 w.heap.size 4 (fun _ => 0) := (Cel.new (n := 4) (kd := .u64) (f := fun _ => 0) w #[.int .u64 0, .int .u64 0, .int .u64 0, .int .u64 0] 27 fun j hj => zero4 j hj).below hb1 (by simp)
  have HB1 : Hid (Below w.heap.size w w1) := ((Below.refl _ _).alloc (by simp) _).trans (hb1.mono (by simp))
  have hs1 : w.heap.size < w1.heap.size := hR1.lt (by omega)
  clear hb1
  go_wp2_with fail
  refine (plus_list (setP 6) [36, 37, 38, 43, 44] w1 (by decide) (by decide)).mono ?_
  rintro e w2 ⟨rfl, hb2⟩
  rw [HE.out 0 (by omega), HE.out 1 (by omega), HE.out 2 (by omega), HE.out 3 (by omega)]
  have hR2 : Cel .u64 w2 w.heap.size 4 (fun _ => 0) := (hR1.alloc (by omega) _).below hb2 (by simp; omega)
  have HB2 : Hid (Below w.heap.size w w2) := (HB1.out.alloc (by omega) _).trans (hb2.mono (by simp; omega))
  clear hb2 hR1
  obtain ⟨hr0, hg0⟩ := hR2 0 (by omega)
  obtain ⟨hr1, hg1⟩ := hR2 1 (by omega)
  obtain ⟨hr2, hg2⟩ := hR2 2 (by omega)
  obtain ⟨hr3, hg3⟩ := hR2 3 (by omega)
  go_wp2
  refine bodyPost_ret (v := .agg #[.int .u64 ((wd (setP 7)) 0), .int .u64 ((wd (setP 7)) 1), .int .u64 ((wd (setP 7)) 2), .int .u64 ((wd (setP 7)) 3)]) (by simp [results, Tryd.results45, go_sem, hr0, hr1, hr2, hr3]) rfl ⟨rfl, ?_⟩
  exact (((HB2.out.setCell (by simp) _).setCell (by simp) _).setCell (by simp) _).setCell (by simp) _

set_option maxRecDepth 100000 in
set_option maxHeartbeats 400000 in
theorem set44_any (w : World) : Calls Tryd.prog 46 #[] w fun e w' => e = .returned (.agg #[.int .u64 ((wd (setP 8)) 0), .int .u64 ((wd (setP 8)) 1), .int .u64 ((wd (setP 8)) 2), .int .u64 ((wd (setP 8)) 3)]) ∧ Below w.heap.size w w' := by
  have he : ∀ i, i < 4 → wd (fun j => setP 7 j || [33, 39, 40, 41, 126].contains (j : Int)) i = wd (setP 8) i := wd_congr (by decide +kernel)
  have HE := hide4 he
  clear he
  go_enter Tryd.func46, Tryd.ntmps46
  go_wp2_with fail
  refine (set43_any _).mono ?_
  rintro e w1 ⟨rfl, hb1⟩
  have hR1 : Cel .u64 w1 w.heap.size 4 (fun _ => 0) := (Cel.new (n := 4) (kd := .u64) (f := fun _ => 0) w #[.int .u64 0, .int .u64 0, .int .u64 0, .int .u64 0] 27 fun j hj => zero4 j hj).below hb1 (by simp)
  have HB1 : Hid (Below w.heap.size w w1) := ((Below.refl _ _).alloc (by simp) _).trans (hb1.mono (by simp))
  have hs1 : w.heap.size < w1.heap.size := hR1.lt (by omega)
  clear hb1
  go_wp2_with fail
  refine (plus_list (setP 7) [33, 39, 40, 41, 126] w1 (by decide) (by decide)).mono ?_
  rintro e w2 ⟨rfl, hb2⟩
  rw [HE.out 0 (by omega), HE.out 1 (by omega), HE.out 2 (by omega), HE.out 3 (by omega)]
  have hR2 : Cel .u64 w2 w.heap.size 4 (fun _ => 0) := (hR1.alloc (by omega) _).below hb2 (by simp; omega)
  have HB2 : Hid (Below w.heap.size w w2) := (HB1.out.alloc (by omega) _).trans (hb2.mono (by simp; omega))
  clear hb2 hR1
  obtain ⟨hr0, hg0⟩ := hR2 0 (by omega)
  obtain ⟨hr1, hg1⟩ := hR2 1 (by omega)
  obtain ⟨hr2, hg2⟩ := hR2 2 (by omega)
  obtain ⟨hr3, hg3⟩ := hR2 3 (by omega)
  go_wp2
  refine bodyPost_ret (v := .agg #[.int .u64 ((wd (setP 8)) 0), .int .u64 ((wd (setP 8)) 1), .int .u64 ((wd (setP 8)) 2), .int .u64 ((wd (setP 8)) 3)]) (by simp [results, Tryd.results46, go_sem, hr0, hr1, hr2, hr3]) rfl ⟨rfl, ?_⟩
  exact (((HB2.out.setCell (by simp) _).setCell (by simp) _).setCell (by simp) _).setCell (by simp) _
end Go.Proofs.YtoliiccmfmgmlaaDoor
