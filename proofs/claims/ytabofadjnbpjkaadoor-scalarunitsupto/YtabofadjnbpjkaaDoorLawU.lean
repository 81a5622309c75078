/-
  The contract of FromUnits, and the walk of the law ScalarUnits: it returns true and turns nothing that was there. Conditions: the list is no longer than a list of runes can be; the library's two tables hold what their text lays.
-/
import Derived.Test.YtabofadjnbpjkaaDoorFe
namespace Go.Proofs.YtabofadjnbpjkaaDoor
open Go.RowKit Go.Lib Go.Shelf
set_option maxRecDepth 100000 in
set_option maxHeartbeats 1000000 in
theorem from_any (us : List Int) (v : Value) (w : World) (hz : 4 * us.length + 4 ≤ 140737488355328) (h : Rds .u16 w v us) (hU : ∀ u ∈ us, 0 ≤ u ∧ u < 65536) :
    Calls Tryd.prog 28 #[v] w fun e w' => ∃ x, e = .returned x ∧ Rds .i32 w' x (fu us) ∧ Below w.heap.size w w' := by
  obtain ⟨i0, hi, hz0, hz1, hz2⟩ := info_parts info21
  have hbA : Below w.heap.size w (w.alloc (.cells #[.int .u16 0] 71)) := (Below.refl _ _).alloc (Nat.le_refl _) _
  have key := feed_any us v w.heap.size w.heap.size (w.alloc (.cells #[.int .u16 0] 71)) (by omega) (fun W hW => h.below (hbA.trans hW)) hU (Nat.le_refl _) (by simp) (Boxed.new w 71 _)
  clear hU
  have HR : Hid (Rds .u16 w v us) := h
  clear h
  go_enter Tryd.func28, Tryd.ntmps28
  go_wp2_with (go_at_call 40; refine key.mono ?_)
  rintro e w1 ⟨x, rfl, pre, h, hpl, hh, hfu, hown, hbx, hB⟩
  have hc := hbx.cell
  have hf := hbx.frozen
  have hs1 := hB.size
  rw [World.size_alloc] at hs1 hown
  rw [List.drop_length] at hfu
  have HB : Hid (Below w.heap.size w w1) := hbA.trans hB
  have HX : Hid (Boxed w1 w.heap.size 71 (.int .u16 h)) := hbx
  have HO : Hid (w1.ownsRow (w.heap.size + 1) 21 1 x pre.length (pre.map fun z => Value.int .i32 z)) := hown
  clear hown hbx hB hbA key
  rcases hh with rfl | hh
  · have hr : fu us = pre := by rw [hfu, fuH_zero]; simp [fu]
    have HE : Hid (fu us = pre) := hr
    have HRes : Hid (Rds .i32 w1 x pre) := Rds.of_owns HO.out
    clear hr hfu
    go_wp2_with (first | (go_at_call 41; refine (end_zero _ _ hc).mono ?_; rintro e w' ⟨rfl, rfl⟩) | (at_builtin; refine wpList_append_own_none rfl _ _ 26 rfl (w.heap.size + 1) 21 i0 1 Tryd.underlying26 hi _ _ _ rfl HO.out rfl ?_))
    go_ret
    rw [HE.out]
    exact ⟨_, rfl, HRes.out, HB.out⟩
  · have hr : fu us = pre ++ [65533] := by rw [hfu, fuH_held _ _ hh.1, fu_end _ hh.1 hh.2]
    have HE : Hid (fu us = pre ++ [65533]) := hr
    rw [if_neg (by omega)] at hpl
    have hoz := owns_set (B := w.heap.size) HO.out (by omega) (.int .u16 0)
    have hBz := HB.out.setCell (p := ⟨w.heap.size, 0, none⟩) (Nat.le_refl _) (.int .u16 0)
    obtain ⟨Z, hZ⟩ : ∃ Z, w1.setCell ⟨w.heap.size, 0, none⟩ (.int .u16 0) = Z := ⟨_, rfl⟩
    have hZs : Z.heap.size = w1.heap.size := by rw [← hZ]; simp
    rw [hZ] at hoz hBz
    have HOZ : Hid (Z.ownsRow (w.heap.size + 1) 21 1 x pre.length (pre.map fun z => Value.int .i32 z)) := hoz
    have HBZ : Hid (Below w.heap.size w Z) := hBz
    have hcn := cell_one_new Z (.int .i32 65533) 21
    rw [hZs] at hcn
    clear hr hfu hoz hBz
    go_wp2_with (first | (go_at_call 41; refine (end_held _ h _ hh.1 hc hf).mono ?_; rintro e w' ⟨rfl, hw'⟩; rw [hZ] at hw'; subst hw') | (at_builtin; refine wpList_append_own _ rfl _ _ 26 rfl (w.heap.size + 1) 21 i0 (.int .i32 0) 1 4 Tryd.underlying26 hi hz0 hz1 hz2 rfl (by decide) _ _ _ rfl (HOZ.out.alloc _) ⟨_, 0, none⟩ 1 1 [.int .i32 65533] rfl rfl hcn (by simp [Value.oneCell']) (by unfold maxLen; omega) (by omega) (by simp; omega) ?_))
    intro v1 w2 hown' hgrow _
    have bel1 := (HBZ.out.alloc (by omega) (.cells #[.int .i32 65533] 21)).grown hgrow (by simp; omega) (fun j hj => by have := (HOZ.out.lt j hj).1; omega)
    have own1 : w2.ownsRow (w.heap.size + 1) 21 1 v1 (pre ++ [65533]).length ((pre ++ [65533]).map fun z => Value.int .i32 z) := by simpa using hown'
    have HRes : Hid (Rds .i32 w2 v1 (pre ++ [65533])) := Rds.of_owns own1
    have HB2 : Hid (Below w.heap.size w w2) := bel1
    clear hown' hgrow own1 bel1
    go_wp2
    go_ret
    rw [HE.out]
    exact ⟨_, rfl, HRes.out, HB2.out⟩
theorem valid_of (r : Int) (h : (0 ≤ r ∧ r < 55296) ∨ (57343 < r ∧ r ≤ 1114111)) : Lib.validRune r = true := by simpa [Lib.validRune] using h
theorem fu_valid : ∀ us : List Int, (∀ u ∈ us, 0 ≤ u ∧ u < 65536) → ∀ r ∈ fu us, Lib.validRune r = true
  | [], _ => by simp [fu]
  | [u], h => by
    have hu := h u (by simp)
    intro r hr
    rw [fu] at hr
    split at hr
    · simp at hr; subst hr; exact valid_of _ (by omega)
    · simp at hr; subst hr; exact valid_of _ (by omega)
  | u :: v :: l, h => by
    have hu := h u (by simp)
    have hv := h v (by simp)
    intro r hr
    rw [fu] at hr
    split at hr
    · rcases List.mem_cons.1 hr with rfl | hr
      · exact valid_of _ (by omega)
      · exact fu_valid (v :: l) (fun x hx => h x (List.mem_cons_of_mem _ hx)) r hr
    · split at hr
      · rcases List.mem_cons.1 hr with rfl | hr
        · exact valid_of _ (by omega)
        · exact fu_valid l (fun x hx => h x (List.mem_cons_of_mem _ (List.mem_cons_of_mem _ hx))) r hr
      · rcases List.mem_cons.1 hr with rfl | hr
        · exact valid_of _ (by omega)
        · exact fu_valid (v :: l) (fun x hx => h x (List.mem_cons_of_mem _ hx)) r hr
theorem un1_fu (r : Int) (l : List Int) (hv : Lib.validRune r = true) : fu (un1 r ++ l) = r :: fu l := by
  have hr : (0 ≤ r ∧ r < 55296) ∨ (57343 < r ∧ r ≤ 1114111) := by simpa [Lib.validRune] using hv
  unfold un1
  split
  · exact fu_plain _ _ (by omega)
  · show fu ((55296 + (r - 65536) / 1024) :: (56320 + (r - 65536) % 1024) :: l) = _
    rw [fu_pair _ _ _ (by omega) (by omega) (by omega) (by omega)]
    congr 1
    omega
theorem fu_uns : ∀ zs : List Int, (∀ r ∈ zs, Lib.validRune r = true) → fu (uns zs) = zs
  | [], _ => rfl
  | z :: l, h => by
    have e : uns (z :: l) = un1 z ++ uns l := rfl
    rw [e, un1_fu z _ (h z (by simp)), fu_uns l (fun r hr => h r (by simp [hr]))]
theorem un1_range (r : Int) (hv : Lib.validRune r = true) : ∀ u ∈ un1 r, 0 ≤ u ∧ u < 65536 := by
  have hr : (0 ≤ r ∧ r < 55296) ∨ (57343 < r ∧ r ≤ 1114111) := by simpa [Lib.validRune] using hv
  intro u hu
  unfold un1 at hu
  split at hu
  · simp at hu; omega
  · simp at hu; omega
theorem uns_range : ∀ zs : List Int, (∀ r ∈ zs, Lib.validRune r = true) → ∀ u ∈ uns zs, 0 ≤ u ∧ u < 65536
  | [], _ => by simp [uns]
  | z :: l, h => by
    have e : uns (z :: l) = un1 z ++ uns l := rfl
    intro u hu
    rw [e] at hu
    rcases List.mem_append.1 hu with hu | hu
    · exact un1_range z (h z (by simp)) u hu
    · exact uns_range l (fun r hr => h r (by simp [hr])) u hu
set_option maxRecDepth 100000 in
set_option maxHeartbeats 2000000 in
theorem lawU (us : List Int) (v : Value) (w : World) (hz : 8 * us.length + 8 ≤ 140737488355328) (h : RdsA .u16 w v us) (hU : ∀ u ∈ us, 0 ≤ u ∧ u < 65536) (hT : Utf8Tabs 0 1 w) (hg : 2 ≤ w.heap.size) : Calls Tryd.prog 7 #[v] w fun e w' => e = .returned (.bool true) ∧ Below w.heap.size w w' := by
  obtain ⟨i0, hi, hz0, hz1, hz2⟩ := info_parts info69
  have k0 := awake_any w hT hg
  have hval := fu_valid us hU
  have hbad : badFrom (fu us) 0 = -1 := (all_valid _ 0).2 hval
  have hlf := fu_len us
  have hlu := uns_len (fu us)
  have huu := uns_range (fu us) hval
  have hback := fu_uns (fu us) hval
  have HU : Hid (∀ u ∈ us, 0 ≤ u ∧ u < 65536) := hU
  have HUU : Hid (∀ u ∈ uns (fu us), 0 ≤ u ∧ u < 65536) := huu
  have HBK : Hid (fu (uns (fu us)) = fu us) := hback
  have hp : unP (fu us) = 0 := by unfold unP; rw [if_pos hbad]
  have he : unE (fu us) = 0 := by unfold unE; rw [if_pos hbad]
  have hl : unL (fu us) = uns (fu us) := by unfold unL; rw [if_pos hbad]
  have HP : Hid (unP (fu us) = 0 ∧ unE (fu us) = 0 ∧ unL (fu us) = uns (fu us)) := ⟨hp, he, hl⟩
  clear hval hbad huu hback hU hp he hl
  go_enter Tryd.func7, Tryd.ntmps7
  go_wp2_with fail
  refine k0.mono ?_
  rintro e w1 ⟨rfl, b1⟩
  have z1 := b1.size
  have HA : Hid (RdsA .u16 (w1.alloc (.cells #[] 69)) v us) := (h.below b1).below ((Below.refl _ _).alloc (Nat.le_refl _) _)
  clear k0 hT
  go_wp2_with (at_builtin; go_must (refine wpList_append_rds rfl _ _ 47 69 .u16 2 rfl w1.heap.size i0 Tryd.underlying47 hi hz0 hz1 hz2 _ v us rfl (own_empty w1 69) rfl HA.out (by omega) (by omega) (by simp) ?_))
  intro v3 w3 ho3 hb3
  have B3 : Below w.heap.size w w3 := (b1.alloc z1 (.cells #[] 69)).trans (hb3.mono z1)
  have z3 := B3.size
  have R3 : Hid (Rds .u16 w3 v3 us) := Rds.of_owns ho3
  have A3 : Hid (Rds .u16 w3 v us) := (h.below B3).rds
  have HB3 : Hid (Below w.heap.size w w3) := B3
  have k3 := from_any us v3 w3 (by omega) R3.out HU.out
  clear ho3 hb3 HA B3 b1 h
  go_wp2_with (go_at_call 28; refine k3.mono ?_)
  rintro e w4 ⟨x4, rfl, q4, b4⟩
  have z4 := b4.size
  have HB4 : Hid (Below w.heap.size w w4) := HB3.out.trans (b4.mono z3)
  have R4 : Hid (Rds .u16 w4 v3 us) := R3.out.below b4
  have A4 : Hid (Rds .u16 w4 v us) := A3.out.below b4
  have X4 : Hid (Rds .i32 w4 x4 (fu us)) := q4
  have k4 := rfrom_any us v w4 (by omega) A4.out HU.out
  clear k3 R3 A3 HB3 b4 q4
  go_wp2_with (go_at_call 29; refine k4.mono ?_)
  rintro e w5 ⟨x5, rfl, q5, b5⟩
  have z5 := b5.size
  have HB5 : Hid (Below w.heap.size w w5) := HB4.out.trans (b5.mono (by omega))
  have R5 : Hid (Rds .u16 w5 v3 us) := R4.out.below b5
  have A5 : Hid (Rds .u16 w5 v us) := A4.out.below b5
  have X5 : Hid (Rds .i32 w5 x4 (fu us)) := X4.out.below b5
  have k5 := same_rds (fu us) x4 x5 w5 X5.out (Rds.of_owns q5) (by omega)
  clear k4 R4 A4 HB4 X4 b5 q5
  go_wp2_with (go_at_call 14; refine k5.mono ?_)
  rintro e w6 ⟨rfl, b6⟩
  have z6 := b6.size
  have HB6 : Hid (Below w.heap.size w w6) := HB5.out.trans (b6.mono (by omega))
  have X6 : Hid (Rds .i32 w6 x4 (fu us)) := X5.out.below b6
  have k6 := units_rds us v3 v w6 (R5.out.below b6) (A5.out.below b6) (by omega)
  clear k5 R5 A5 HB5 X5 b6
  go_wp2_with (go_at_call 27; refine k6.mono ?_)
  rintro e w7 ⟨rfl, b7⟩
  have z7 := b7.size
  have HB7 : Hid (Below w.heap.size w w7) := HB6.out.trans (b7.mono (by omega))
  have X7 : Hid (Rds .i32 w7 x4 (fu us)) := X6.out.below b7
  have k7 := units_any (fu us) x4 w7 (by omega) X7.out
  rw [HP.out.1, HP.out.2.1, HP.out.2.2] at k7
  clear k6 HB6 X6 b7
  go_wp2_with (go_at_call 25; refine k7.mono ?_)
  rintro e w8 ⟨u8, rfl, q8, b8⟩
  have z8 := b8.size
  have HB8 : Hid (Below w.heap.size w w8) := HB7.out.trans (b8.mono (by omega))
  have X8 : Hid (Rds .i32 w8 x4 (fu us)) := X7.out.below b8
  have k8 := from_any (uns (fu us)) u8 w8 (by omega) q8 HUU.out
  rw [HBK.out] at k8
  clear k7 HB7 X7 b8 q8
  go_wp2_with (go_at_call 28; refine k8.mono ?_)
  rintro e w9 ⟨x9, rfl, q9, b9⟩
  have z9 := b9.size
  have HB9 : Hid (Below w.heap.size w w9) := HB8.out.trans (b9.mono (by omega))
  have k9 := same_rds (fu us) x9 x4 w9 q9 (X8.out.below b9) (by omega)
  clear k8 HB8 X8 b9 q9
  go_wp2_with (go_at_call 14; refine k9.mono ?_; rintro e wA ⟨rfl, bA⟩)
  go_ret
  exact ⟨rfl, HB9.out.trans (bA.mono (by omega))⟩
end Go.Proofs.YtabofadjnbpjkaaDoor
