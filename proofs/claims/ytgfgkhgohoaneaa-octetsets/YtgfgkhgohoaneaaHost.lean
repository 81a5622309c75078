/-
  The contracts of the two functions that make the sets of bytes that no host and no domain may have. No condition.
-/
import Derived.Test.YtgfgkhgohoaneaaNamed
namespace Go.Proofs.Ytgfgkhgohoaneaa
open Go.RowKit

set_option maxRecDepth 100000 in
set_option maxHeartbeats 400000 in
theorem set45_any (w : World) : Calls Try.prog 45 #[] w fun e w' => e = .returned (.agg #[.int .u64 ((wd (setP 9)) 0), .int .u64 ((wd (setP 9)) 1), .int .u64 ((wd (setP 9)) 2), .int .u64 ((wd (setP 9)) 3)]) ∧ Below w.heap.size w w' := by
  have he : ∀ i, i < 4 → wd (fun j => false || [0, 9, 10, 13, 32, 35, 47, 58, 60, 62, 63, 64, 91, 92, 93, 94, 124].contains (j : Int)) i = wd (setP 9) i := wd_congr (by decide +kernel)
  have HE := hide4 he
  clear he
  have hR1 : Cel .u64 (w.alloc (.cells #[.int .u64 0, .int .u64 0, .int .u64 0, .int .u64 0] 32)) w.heap.size 4 (fun _ => 0) := (Cel.new (n := 4) (kd := .u64) (f := fun _ => 0) w #[.int .u64 0, .int .u64 0, .int .u64 0, .int .u64 0] 32 fun j hj => zero4 j hj)
  go_enter Try.func45, Try.ntmps45
  go_wp2_with fail
  refine (plus_zero [0, 9, 10, 13, 32, 35, 47, 58, 60, 62, 63, 64, 91, 92, 93, 94, 124] (w.alloc (.cells #[.int .u64 0, .int .u64 0, .int .u64 0, .int .u64 0] 32)) _ (by simp) (by decide) (by decide)).mono ?_
  rintro e w2 ⟨rfl, hb2⟩
  rw [HE.out 0 (by omega), HE.out 1 (by omega), HE.out 2 (by omega), HE.out 3 (by omega)]
  have hR2 : Cel .u64 w2 w.heap.size 4 (fun _ => 0) := (hR1.alloc (by omega) _).below hb2 (by simp; omega)
  have HB2 : Hid (Below w.heap.size w w2) := (((Below.refl _ _).alloc (by simp) _).alloc (by simp) _).trans (hb2.mono (by simp; omega))
  clear hb2 hR1
  obtain ⟨hr0, hg0⟩ := hR2 0 (by omega)
  obtain ⟨hr1, hg1⟩ := hR2 1 (by omega)
  obtain ⟨hr2, hg2⟩ := hR2 2 (by omega)
  obtain ⟨hr3, hg3⟩ := hR2 3 (by omega)
  go_wp2
  refine bodyPost_ret (v := .agg #[.int .u64 ((wd (setP 9)) 0), .int .u64 ((wd (setP 9)) 1), .int .u64 ((wd (setP 9)) 2), .int .u64 ((wd (setP 9)) 3)]) (by simp [results, Try.results45, go_sem, hr0, hr1, hr2, hr3]) rfl ⟨rfl, ?_⟩
  exact (((HB2.out.setCell (by simp) _).setCell (by simp) _).setCell (by simp) _).setCell (by simp) _

set_option maxRecDepth 100000 in
set_option maxHeartbeats 400000 in
theorem set46_any (w : World) : Calls Try.prog 46 #[] w fun e w' => e = .returned (.agg #[.int .u64 ((wd (setP 10)) 0), .int .u64 ((wd (setP 10)) 1), .int .u64 ((wd (setP 10)) 2), .int .u64 ((wd (setP 10)) 3)]) ∧ Below w.heap.size w w' := by
  have he : ∀ i, i < 4 → wd (fun j => setP 9 j || plusTo (fromTo 0 (31 + 1)) (fun i => [37, 127].getD i 0) 2 j) i = wd (setP 10) i := wd_congr (by decide +kernel)
  have HE := hide4 he
  clear he
  go_enter Try.func46, Try.ntmps46
  go_wp2_with fail
  refine (set45_any _).mono ?_
  rintro e w1 ⟨rfl, hb1⟩
  have hR1 : Cel .u64 w1 w.heap.size 4 (fun _ => 0) := (Cel.new (n := 4) (kd := .u64) (f := fun _ => 0) w #[.int .u64 0, .int .u64 0, .int .u64 0, .int .u64 0] 32 fun j hj => zero4 j hj).below hb1 (by simp)
  have HB1 : Hid (Below w.heap.size w w1) := ((Below.refl _ _).alloc (by simp) _).trans (hb1.mono (by simp))
  have hs1 : w.heap.size < w1.heap.size := hR1.lt (by omega)
  clear hb1
  have hps : PlusSays (w1.alloc (.cells #[.int .u8 37, .int .u8 127] 5)) (.slice (some ⟨w1.heap.size, 0, none⟩) 2 2) (fun p => plusTo p (fun i => [37, 127].getD i 0) 2) :=
    plusSays_some (fun i => [37, 127].getD i 0) w1.heap.size 0 2 2 _ (by omega) (by simp) (fun i => by
      match i with
      | 0 => decide
      | 1 => decide
      | n + 2 => simp) fun i hi => by
      rw [World.cell?_alloc_at _ _ _ _ rfl]
      match i, hi with
      | 0, _ => rfl
      | 1, _ => rfl
  have HP : Hid (PlusSays (w1.alloc (.cells #[.int .u8 37, .int .u8 127] 5)) (.slice (some ⟨w1.heap.size, 0, none⟩) 2 2) (fun p => plusTo p (fun i => [37, 127].getD i 0) 2)) := hps
  clear hps
  go_wp2_with fail
  refine (make_any 0 31 _ _ _ (by omega) (by omega) HP.out).mono ?_
  rintro e w2 ⟨rfl, hb2⟩
  have hR2 : Cel .u64 w2 w.heap.size 4 (fun _ => 0) := (hR1.alloc (by omega) _).below hb2 (by simp; omega)
  have HB2 : Hid (Below w.heap.size w w2) := (HB1.out.alloc (by omega) _).trans (hb2.mono (by simp; omega))
  have hs2 : w.heap.size < w2.heap.size := hR2.lt (by omega)
  clear hb2 hR1 HB1 HP
  go_wp2_with fail
  refine (union_two (setP 9) (plusTo (fromTo 0 (31 + 1)) (fun i => [37, 127].getD i 0) 2) w2 _).mono ?_
  rintro e w3 ⟨rfl, hb3⟩
  rw [HE.out 0 (by omega), HE.out 1 (by omega), HE.out 2 (by omega), HE.out 3 (by omega)]
  have hR3 : Cel .u64 w3 w.heap.size 4 (fun _ => 0) := (hR2.alloc (by omega) _).below hb3 (by simp; omega)
  have HB3 : Hid (Below w.heap.size w w3) := (HB2.out.alloc (by omega) _).trans (hb3.mono (by simp; omega))
  clear hb3 hR2
  obtain ⟨hr0, hg0⟩ := hR3 0 (by omega)
  obtain ⟨hr1, hg1⟩ := hR3 1 (by omega)
  obtain ⟨hr2, hg2⟩ := hR3 2 (by omega)
  obtain ⟨hr3, hg3⟩ := hR3 3 (by omega)
  go_wp2
  refine bodyPost_ret (v := .agg #[.int .u64 ((wd (setP 10)) 0), .int .u64 ((wd (setP 10)) 1), .int .u64 ((wd (setP 10)) 2), .int .u64 ((wd (setP 10)) 3)]) (by simp [results, Try.results46, go_sem, hr0, hr1, hr2, hr3]) rfl ⟨rfl, ?_⟩
  exact (((HB3.out.setCell (by simp) _).setCell (by simp) _).setCell (by simp) _).setCell (by simp) _
end Go.Proofs.Ytgfgkhgohoaneaa
