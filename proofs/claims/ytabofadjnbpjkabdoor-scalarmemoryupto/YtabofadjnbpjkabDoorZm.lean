/-
  The contract of FromUnits, and the walk of the law ScalarUnits: it returns true and turns nothing that was there. Conditions: the list is no longer than a list of runes can be; the library's two tables hold what their text lays.
-/
import Derived.Test.YtabofadjnbpjkabDoorZe
namespace Go.Proofs.YtabofadjnbpjkabDoor.U
open Go.RowKit Go.Lib Go.Shelf
set_option maxRecDepth 100000 in
set_option maxHeartbeats 1000000 in
theorem from_any (us : List Int) (v : Value) (w : World) (hz : 4 * us.length + 4 ≤ 140737488355328) (h : Rds .u16 w v us) (hU : ∀ u ∈ us, 0 ≤ u ∧ u < 65536) :
    Calls Tryd.prog 23 #[v] w fun e w' => ∃ x, e = .returned x ∧ w'.ownsRow (w.heap.size + 1) 21 1 x (fu us).length ((fu us).map fun z => Value.int .i32 z) ∧ Below w.heap.size w w' := by
  obtain ⟨i0, hi, hz0, hz1, hz2⟩ := info_parts info21
  have hbA : Below w.heap.size w (w.alloc (.cells #[.int .u16 0] 75)) := (Below.refl _ _).alloc (Nat.le_refl _) _
  have key := feed_any us v w.heap.size w.heap.size (w.alloc (.cells #[.int .u16 0] 75)) (by omega) (fun W hW => h.below (hbA.trans hW)) hU (Nat.le_refl _) (by simp) (Boxed.new w 75 _)
  clear hU
  have HR : Hid (Rds .u16 w v us) := h
  clear h
  go_enter Tryd.func23, Tryd.ntmps23
  go_wp2_with (go_at_call 40; refine key.mono ?_)
  rintro e w1 ⟨x, rfl, pre, h, hpl, hh, hfu, hown, hbx, hB⟩
  have hc := hbx.cell
  have hf := hbx.frozen
  have hs1 := hB.size
  rw [World.size_alloc] at hs1 hown
  rw [List.drop_length] at hfu
  have HB : Hid (Below w.heap.size w w1) := hbA.trans hB
  have HX : Hid (Boxed w1 w.heap.size 75 (.int .u16 h)) := hbx
  have HO : Hid (w1.ownsRow (w.heap.size + 1) 21 1 x pre.length (pre.map fun z => Value.int .i32 z)) := hown
  clear hown hbx hB hbA key
  rcases hh with rfl | hh
  · have hr : fu us = pre := by rw [hfu, fuH_zero]; simp [fu]
    have HE : Hid (fu us = pre) := hr
    have HRes : Hid (w1.ownsRow (w.heap.size + 1) 21 1 x pre.length (pre.map fun z => Value.int .i32 z)) := HO.out
    clear hr hfu
    go_wp2_with (first | (go_at_call 41; refine (end_zero _ _ hc).mono ?_; rintro e w' ⟨rfl, rfl⟩) | (at_builtin; refine wpList_append_own_none rfl _ _ 23 rfl (w.heap.size + 1) 21 i0 1 Tryd.underlying23 hi _ _ _ rfl HO.out rfl ?_))
    go_ret
    rw [HE.out]
    exact ⟨_, rfl, HRes.out, HB.out⟩
  · have hr : fu us = pre ++ [65533] := by rw [hfu, fuH_held _ _ hh.1, fu_end _ hh.1 hh.2]
    have HE : Hid (fu us = pre ++ [65533]) := hr
    rw [if_neg (by omega)] at hpl
    have hoz := owns_set (B := w.heap.size) HO.out (by omega) (.int .u16 0)
    have hBz := HB.out.setCell (p := ⟨w.heap.size, 0, none⟩) (Nat.le_refl _) (.int .u16 0)
    obtain ⟨Z, hZ⟩ : ∃ Z, w1.setCell ⟨w.heap.size, 0, none⟩ (.int .u16 0) = Z := ⟨_, rfl⟩
    have hZs : Z.heap.size = w1.heap.size := by rw [← hZ]; simp
    rw [hZ] at hoz hBz
    have HOZ : Hid (Z.ownsRow (w.heap.size + 1) 21 1 x pre.length (pre.map fun z => Value.int .i32 z)) := hoz
    have HBZ : Hid (Below w.heap.size w Z) := hBz
    have hcn := cell_one_new Z (.int .i32 65533) 21
    rw [hZs] at hcn
    clear hr hfu hoz hBz
    go_wp2_with (first | (go_at_call 41; refine (end_held _ h _ hh.1 hc hf).mono ?_; rintro e w' ⟨rfl, hw'⟩; rw [hZ] at hw'; subst hw') | (at_builtin; refine wpList_append_own _ rfl _ _ 23 rfl (w.heap.size + 1) 21 i0 (.int .i32 0) 1 4 Tryd.underlying23 hi hz0 hz1 hz2 rfl (by decide) _ _ _ rfl (HOZ.out.alloc _) ⟨_, 0, none⟩ 1 1 [.int .i32 65533] rfl rfl hcn (by simp [Value.oneCell']) (by unfold maxLen; omega) (by omega) (by simp; omega) ?_))
    intro v1 w2 hown' hgrow _
    have bel1 := (HBZ.out.alloc (by omega) (.cells #[.int .i32 65533] 21)).grown hgrow (by simp; omega) (fun j hj => by have := (HOZ.out.lt j hj).1; omega)
    have own1 : w2.ownsRow (w.heap.size + 1) 21 1 v1 (pre ++ [65533]).length ((pre ++ [65533]).map fun z => Value.int .i32 z) := by simpa using hown'
    have HRes : Hid (w2.ownsRow (w.heap.size + 1) 21 1 v1 (pre ++ [65533]).length ((pre ++ [65533]).map fun z => Value.int .i32 z)) := own1
    have HB2 : Hid (Below w.heap.size w w2) := bel1
    clear hown' hgrow own1 bel1
    go_wp2
    go_ret
    rw [HE.out]
    exact ⟨_, rfl, HRes.out, HB2.out⟩
theorem valid_of (r : Int) (h : (0 ≤ r ∧ r < 55296) ∨ (57343 < r ∧ r ≤ 1114111)) : Lib.validRune r = true := by simpa [Lib.validRune] using h
theorem fu_valid : ∀ us : List Int, (∀ u ∈ us, 0 ≤ u ∧ u < 65536) → ∀ r ∈ fu us, Lib.validRune r = true
  | [], _ => by simp [fu]
  | [u], h => by
    have hu := h u (by simp)
    intro r hr
    rw [fu] at hr
    split at hr
    · simp at hr; subst hr; exact valid_of _ (by omega)
    · simp at hr; subst hr; exact valid_of _ (by omega)
  | u :: v :: l, h => by
    have hu := h u (by simp)
    have hv := h v (by simp)
    intro r hr
    rw [fu] at hr
    split at hr
    · rcases List.mem_cons.1 hr with rfl | hr
      · exact valid_of _ (by omega)
      · exact fu_valid (v :: l) (fun x hx => h x (List.mem_cons_of_mem _ hx)) r hr
    · split at hr
      · rcases List.mem_cons.1 hr with rfl | hr
        · exact valid_of _ (by omega)
        · exact fu_valid l (fun x hx => h x (List.mem_cons_of_mem _ (List.mem_cons_of_mem _ hx))) r hr
      · rcases List.mem_cons.1 hr with rfl | hr
        · exact valid_of _ (by omega)
        · exact fu_valid (v :: l) (fun x hx => h x (List.mem_cons_of_mem _ hx)) r hr
theorem un1_fu (r : Int) (l : List Int) (hv : Lib.validRune r = true) : fu (un1 r ++ l) = r :: fu l := by
  have hr : (0 ≤ r ∧ r < 55296) ∨ (57343 < r ∧ r ≤ 1114111) := by simpa [Lib.validRune] using hv
  unfold un1
  split
  · exact fu_plain _ _ (by omega)
  · show fu ((55296 + (r - 65536) / 1024) :: (56320 + (r - 65536) % 1024) :: l) = _
    rw [fu_pair _ _ _ (by omega) (by omega) (by omega) (by omega)]
    congr 1
    omega
theorem fu_uns : ∀ zs : List Int, (∀ r ∈ zs, Lib.validRune r = true) → fu (uns zs) = zs
  | [], _ => rfl
  | z :: l, h => by
    have e : uns (z :: l) = un1 z ++ uns l := rfl
    rw [e, un1_fu z _ (h z (by simp)), fu_uns l (fun r hr => h r (by simp [hr]))]
theorem un1_range (r : Int) (hv : Lib.validRune r = true) : ∀ u ∈ un1 r, 0 ≤ u ∧ u < 65536 := by
  have hr : (0 ≤ r ∧ r < 55296) ∨ (57343 < r ∧ r ≤ 1114111) := by simpa [Lib.validRune] using hv
  intro u hu
  unfold un1 at hu
  split at hu
  · simp at hu; omega
  · simp at hu; omega
theorem uns_range : ∀ zs : List Int, (∀ r ∈ zs, Lib.validRune r = true) → ∀ u ∈ uns zs, 0 ≤ u ∧ u < 65536
  | [], _ => by simp [uns]
  | z :: l, h => by
    have e : uns (z :: l) = un1 z ++ uns l := rfl
    intro u hu
    rw [e] at hu
    rcases List.mem_append.1 hu with hu | hu
    · exact un1_range z (h z (by simp)) u hu
    · exact uns_range l (fun r hr => h r (by simp [hr])) u hu
end Go.Proofs.YtabofadjnbpjkabDoor.U
