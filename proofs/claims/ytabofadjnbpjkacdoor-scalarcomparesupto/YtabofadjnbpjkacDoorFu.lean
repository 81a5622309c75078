/-
  What UTF-16 units say, and the contract of the document's FromUnits. Condition: the list takes no more bytes than there are.
-/
import Derived.Test.YtabofadjnbpjkacDoorLawE
namespace Go.Proofs.YtabofadjnbpjkacDoor
open Go.RowKit Go.Lib
/-- What units say. -/
def fu : List Int → List Int
  | [] => []
  | [u] => if u < 55296 ∨ 57343 < u then [u] else [65533]
  | u :: v :: l => if u < 55296 ∨ 57343 < u then u :: fu (v :: l) else if u < 56320 ∧ 56320 ≤ v ∧ v ≤ 57343 then (65536 + 1024 * (u - 55296) + v - 56320) :: fu l else 65533 :: fu (v :: l)
theorem fu_plain (u : Int) (l : List Int) (h : u < 55296 ∨ 57343 < u) : fu (u :: l) = u :: fu l := by
  cases l with
  | nil => simp [fu, h]
  | cons v l => rw [fu, if_pos h]
theorem fu_low (u : Int) (l : List Int) (h1 : 56320 ≤ u) (h2 : u ≤ 57343) : fu (u :: l) = 65533 :: fu l := by
  cases l with
  | nil =>
    show (if u < 55296 ∨ 57343 < u then [u] else [65533]) = _
    rw [if_neg (by omega)]
    rfl
  | cons v l => rw [fu, if_neg (by omega), if_neg (by omega)]
theorem fu_pair (u v : Int) (l : List Int) (h1 : 55296 ≤ u) (h2 : u < 56320) (h3 : 56320 ≤ v) (h4 : v ≤ 57343) : fu (u :: v :: l) = (65536 + 1024 * (u - 55296) + v - 56320) :: fu l := by
  rw [fu, if_neg (by omega), if_pos ⟨h2, h3, h4⟩]
theorem fu_lone (u v : Int) (l : List Int) (h1 : 55296 ≤ u) (h2 : u < 56320) (h : v < 56320 ∨ 57343 < v) : fu (u :: v :: l) = 65533 :: fu (v :: l) := by
  rw [fu, if_neg (by omega), if_neg (by omega)]
theorem fu_end (u : Int) (h1 : 55296 ≤ u) (h2 : u < 56320) : fu [u] = [65533] := by
  rw [fu, if_neg (by omega)]
theorem fu_len : ∀ l : List Int, (fu l).length ≤ l.length
  | [] => by simp [fu]
  | [u] => by rw [fu]; split <;> simp
  | u :: v :: l => by
    have h1 := fu_len (v :: l)
    have h2 := fu_len l
    rw [fu]
    simp only [List.length_cons] at h1 ⊢
    split
    · simp only [List.length_cons]; omega
    · split
      · simp only [List.length_cons]; omega
      · simp only [List.length_cons]; omega
theorem drop_at (us : List Int) (k : Nat) (h : k < us.length) : us.drop k = us.getD k 0 :: us.drop (k + 1) := by
  rw [List.drop_eq_getElem_cons h]
  simp [List.getD, List.getElem?_eq_getElem h]
/-- What a round of the document's FromUnits keeps. -/
def FuIn (us : List Int) (w : World) (k : Nat) (x : Value) (wr : World) : Prop :=
  ∃ pre : List Int, pre.length ≤ k ∧ fu us = pre ++ fu (us.drop k) ∧ wr.ownsRow w.heap.size 21 1 x pre.length (pre.map fun z => Value.int .i32 z) ∧ Below w.heap.size w wr
set_option maxRecDepth 100000 in
set_option maxHeartbeats 4000000 in
theorem rfrom_any (us : List Int) (v : Value) (w : World) (hz : 4 * us.length ≤ 140737488355328) (h : Rds .u16 w v us) (hU : ∀ u ∈ us, 0 ≤ u ∧ u < 65536) :
    Calls Tryd.prog 30 #[v] w fun e w' => ∃ x, e = .returned x ∧ w'.ownsRow w.heap.size 21 1 x (fu us).length ((fu us).map fun z => Value.int .i32 z) ∧ Below w.heap.size w w' := by
  obtain ⟨i0, hi, hz0, hz1, hz2⟩ := info_parts info21
  have HN : Hid (Rds .u16 w v us) := h
  have HU : Hid (∀ u ∈ us, 0 ≤ u ∧ u < 65536) := hU
  obtain ⟨a0, c0, rfl, hn⟩ := h
  clear hU
  go_enter Tryd.func30, Tryd.ntmps30
  go_wp2_with fail
  go_loopw [3, 4] (fun x i wr => ∃ (k : Nat), i = .int .i64 k ∧ k ≤ us.length ∧ Hid (FuIn us w k x wr)) (fun _ i _ => us.length - (RowKit.intOf i).toNat)
  case atStart => exact ⟨0, rfl, Nat.zero_le _, [], by simp, by simp, own_empty w 21, (Below.refl _ _).alloc (Nat.le_refl _) _⟩
  case round =>
    obtain ⟨k, rfl, hk, HI⟩ := hrel
    obtain ⟨pre, hpl, hfu, hown, hB⟩ := HI.out
    by_cases hlt : k < us.length
    · have hlti : (k : Int) < (us.length : Int) := by omega
      obtain ⟨g, off, rfl, _⟩ := hn (by omega)
      have hcl : ∀ j, j < us.length → wr.cell? ⟨g, off + j, none⟩ = some (.int .u16 (us.getD j 0)) := by
        obtain ⟨a1, c1, e1, h1⟩ := HN.out.below hB
        cases e1
        obtain ⟨g1, o1, e1, h1⟩ := h1 (by omega)
        cases e1
        exact h1
      have hc0 := hcl k hlt
      have hu := HU.out (us.getD k 0) (by simp [List.getD, List.getElem?_eq_getElem hlt])
      rw [drop_at us k hlt] at hfu
      obtain ⟨u, hu0⟩ : ∃ u, us.getD k 0 = u := ⟨_, rfl⟩
      rw [hu0] at hc0 hu hfu
      have hsz := hB.size
      have HB : Hid (Below w.heap.size w wr) := hB
      have HO : Hid (wr.ownsRow w.heap.size 21 1 u3 pre.length (pre.map fun z => Value.int .i32 z)) := hown
      have HC : Hid (∀ j, j < us.length → wr.cell? ⟨g, off + j, none⟩ = some (.int .u16 (us.getD j 0))) := hcl
      clear hB hown HI hn hcl hu0
      have fin : ∀ (x : Int) (m : Nat) (v' : Value) (w1 : World), m ≤ us.length → pre.length + 1 ≤ m → fu us = (pre ++ [x]) ++ fu (us.drop m) → w1.ownsRow w.heap.size 21 1 v' (pre.length + 1) ((pre.map fun z => Value.int .i32 z) ++ [.int .i32 x]) → (wr.alloc (.cells #[.int .i32 x] 21)).grownBy w1 u3.ownBlock → Hid (FuIn us w m v' w1) := fun x m v' w1 hm hl hf ho hgr =>
        ⟨pre ++ [x], by simp; omega, hf, by simpa using ho, (HB.out.alloc hsz _).grown hgr (by simp; omega) (fun j hj => (HO.out.lt j hj).1)⟩
      by_cases hp : u < 55296
      · have hT : fu us = (pre ++ [u]) ++ fu (us.drop (k + 1)) := by rw [hfu, fu_plain _ _ (.inl hp)]; simp
        have HT : Hid (fu us = (pre ++ [u]) ++ fu (us.drop (k + 1))) := hT
        have d1 : decide (u < 55296) = true := by simp [hp]
        have hcn := cell_one_new wr (.int .i32 u) 21
        clear hT hfu
        go_wp2_with (at_builtin; go_must (refine wpList_append_own _ rfl _ _ 33 rfl w.heap.size 21 i0 (.int .i32 0) 1 4 Tryd.underlying33 hi hz0 hz1 hz2 rfl (by decide) _ _ _ rfl (HO.out.alloc _) ⟨_, 0, none⟩ 1 1 [.int .i32 u] rfl rfl hcn (by simp [Value.oneCell']) (by unfold maxLen; omega) (by omega) (by simp; omega) ?_))
        intro v' w1 hown' hgrow _
        have HF := fin u (k + 1) v' w1 (by omega) (by omega) HT.out hown' hgrow
        clear fin hown' hgrow
        go_wp2
        exact ⟨⟨k + 1, by go_num, by omega, HF⟩, by simp [RowKit.intOf]; omega⟩
      · have d1 : decide (u < 55296) = false := by simp; omega
        by_cases hp2 : 57343 < u
        · have hT : fu us = (pre ++ [u]) ++ fu (us.drop (k + 1)) := by rw [hfu, fu_plain _ _ (.inr hp2)]; simp
          have HT : Hid (fu us = (pre ++ [u]) ++ fu (us.drop (k + 1))) := hT
          have hcn := cell_one_new wr (.int .i32 u) 21
          clear hT hfu
          go_wp2_with (at_builtin; go_must (refine wpList_append_own _ rfl _ _ 33 rfl w.heap.size 21 i0 (.int .i32 0) 1 4 Tryd.underlying33 hi hz0 hz1 hz2 rfl (by decide) _ _ _ rfl (HO.out.alloc _) ⟨_, 0, none⟩ 1 1 [.int .i32 u] rfl rfl hcn (by simp [Value.oneCell']) (by unfold maxLen; omega) (by omega) (by simp; omega) ?_))
          intro v' w1 hown' hgrow _
          have HF := fin u (k + 1) v' w1 (by omega) (by omega) HT.out hown' hgrow
          clear fin hown' hgrow
          go_wp2
          exact ⟨⟨k + 1, by go_num, by omega, HF⟩, by simp [RowKit.intOf]; omega⟩
        · have hp3 : ¬ 57343 < u := hp2
          by_cases hp4 : u < 56320
          · have d2 : decide (u < 56320) = true := by simp [hp4]
            by_cases hk1 : k + 1 < us.length
            · have hk2 : (k : Int) + 1 < (us.length : Int) := by omega
              have d3 : decide ((k : Int) + 1 < (us.length : Int)) = true := by simp [hk2]
              have hc1 := HC.out (k + 1) hk1
              have hv := HU.out (us.getD (k + 1) 0) (by simp [List.getD, List.getElem?_eq_getElem hk1])
              rw [drop_at us (k + 1) hk1] at hfu
              obtain ⟨v, hv0⟩ : ∃ v, us.getD (k + 1) 0 = v := ⟨_, rfl⟩
              rw [hv0] at hc1 hv hfu
              by_cases hv1 : 56320 ≤ v
              · have d4 : decide (56320 ≤ v) = true := by simp [hv1]
                by_cases hv2 : v ≤ 57343
                · have d5 : decide (v ≤ 57343) = true := by simp [hv2]
                  have hT : fu us = (pre ++ [65536 + 1024 * (u - 55296) + v - 56320]) ++ fu (us.drop (k + 1 + 1)) := by rw [hfu, fu_pair _ _ _ (by omega) hp4 hv1 hv2]; simp
                  have HT : Hid (fu us = (pre ++ [65536 + 1024 * (u - 55296) + v - 56320]) ++ fu (us.drop (k + 1 + 1))) := hT
                  have hcn := cell_one_new wr (.int .i32 (65536 + 1024 * (u - 55296) + v - 56320)) 21
                  clear hT hfu HC
                  go_wp2_with (at_builtin; go_must (refine wpList_append_own _ rfl _ _ 33 rfl w.heap.size 21 i0 (.int .i32 0) 1 4 Tryd.underlying33 hi hz0 hz1 hz2 rfl (by decide) _ _ _ rfl (HO.out.alloc _) ⟨_, 0, none⟩ 1 1 [.int .i32 (65536 + 1024 * (u - 55296) + v - 56320)] rfl rfl hcn (by simp [Value.oneCell']) (by unfold maxLen; omega) (by omega) (by simp; omega) ?_))
                  intro v' w1 hown' hgrow _
                  have HF := fin (65536 + 1024 * (u - 55296) + v - 56320) (k + 1 + 1) v' w1 (by omega) (by omega) HT.out hown' hgrow
                  clear fin hown' hgrow
                  go_wp2
                  exact ⟨⟨k + 1 + 1, by go_num, by omega, HF⟩, by simp [RowKit.intOf]; omega⟩
                · have d5 : decide (v ≤ 57343) = false := by simp; omega
                  have hT : fu us = (pre ++ [65533]) ++ fu (us.drop (k + 1)) := by rw [hfu, fu_lone _ _ _ (by omega) hp4 (by omega), drop_at us (k + 1) hk1, hv0]; simp
                  have HT : Hid (fu us = (pre ++ [65533]) ++ fu (us.drop (k + 1))) := hT
                  have hcn := cell_one_new wr (.int .i32 (65533)) 21
                  clear hT hfu HC
                  go_wp2_with (at_builtin; go_must (refine wpList_append_own _ rfl _ _ 33 rfl w.heap.size 21 i0 (.int .i32 0) 1 4 Tryd.underlying33 hi hz0 hz1 hz2 rfl (by decide) _ _ _ rfl (HO.out.alloc _) ⟨_, 0, none⟩ 1 1 [.int .i32 (65533)] rfl rfl hcn (by simp [Value.oneCell']) (by unfold maxLen; omega) (by omega) (by simp; omega) ?_))
                  intro v' w1 hown' hgrow _
                  have HF := fin (65533) (k + 1) v' w1 (by omega) (by omega) HT.out hown' hgrow
                  clear fin hown' hgrow
                  go_wp2
                  exact ⟨⟨k + 1, by go_num, by omega, HF⟩, by simp [RowKit.intOf]; omega⟩
              · have d4 : decide (56320 ≤ v) = false := by simp; omega
                have hT : fu us = (pre ++ [65533]) ++ fu (us.drop (k + 1)) := by rw [hfu, fu_lone _ _ _ (by omega) hp4 (by omega), drop_at us (k + 1) hk1, hv0]; simp
                have HT : Hid (fu us = (pre ++ [65533]) ++ fu (us.drop (k + 1))) := hT
                have hcn := cell_one_new wr (.int .i32 (65533)) 21
                clear hT hfu HC
                go_wp2_with (at_builtin; go_must (refine wpList_append_own _ rfl _ _ 33 rfl w.heap.size 21 i0 (.int .i32 0) 1 4 Tryd.underlying33 hi hz0 hz1 hz2 rfl (by decide) _ _ _ rfl (HO.out.alloc _) ⟨_, 0, none⟩ 1 1 [.int .i32 (65533)] rfl rfl hcn (by simp [Value.oneCell']) (by unfold maxLen; omega) (by omega) (by simp; omega) ?_))
                intro v' w1 hown' hgrow _
                have HF := fin (65533) (k + 1) v' w1 (by omega) (by omega) HT.out hown' hgrow
                clear fin hown' hgrow
                go_wp2
                exact ⟨⟨k + 1, by go_num, by omega, HF⟩, by simp [RowKit.intOf]; omega⟩
            · have hk2 : ¬ (k : Int) + 1 < (us.length : Int) := by omega
              have d3 : decide ((k : Int) + 1 < (us.length : Int)) = false := by simp; omega
              have hdn : us.drop (k + 1) = [] := List.drop_eq_nil_of_le (by omega)
              rw [hdn] at hfu
              have hT : fu us = (pre ++ [65533]) ++ fu (us.drop (k + 1)) := by rw [hfu, fu_end _ (by omega) hp4, hdn]; simp [fu]
              have HT : Hid (fu us = (pre ++ [65533]) ++ fu (us.drop (k + 1))) := hT
              have hcn := cell_one_new wr (.int .i32 (65533)) 21
              clear hT hfu HC
              go_wp2_with (at_builtin; go_must (refine wpList_append_own _ rfl _ _ 33 rfl w.heap.size 21 i0 (.int .i32 0) 1 4 Tryd.underlying33 hi hz0 hz1 hz2 rfl (by decide) _ _ _ rfl (HO.out.alloc _) ⟨_, 0, none⟩ 1 1 [.int .i32 (65533)] rfl rfl hcn (by simp [Value.oneCell']) (by unfold maxLen; omega) (by omega) (by simp; omega) ?_))
              intro v' w1 hown' hgrow _
              have HF := fin (65533) (k + 1) v' w1 (by omega) (by omega) HT.out hown' hgrow
              clear fin hown' hgrow
              go_wp2
              exact ⟨⟨k + 1, by go_num, by omega, HF⟩, by simp [RowKit.intOf]; omega⟩
          · have d2 : decide (u < 56320) = false := by simp; omega
            have hT : fu us = (pre ++ [65533]) ++ fu (us.drop (k + 1)) := by rw [hfu, fu_low _ _ (by omega) (by omega)]; simp
            have HT : Hid (fu us = (pre ++ [65533]) ++ fu (us.drop (k + 1))) := hT
            have hcn := cell_one_new wr (.int .i32 (65533)) 21
            clear hT hfu HC
            go_wp2_with (at_builtin; go_must (refine wpList_append_own _ rfl _ _ 33 rfl w.heap.size 21 i0 (.int .i32 0) 1 4 Tryd.underlying33 hi hz0 hz1 hz2 rfl (by decide) _ _ _ rfl (HO.out.alloc _) ⟨_, 0, none⟩ 1 1 [.int .i32 (65533)] rfl rfl hcn (by simp [Value.oneCell']) (by unfold maxLen; omega) (by omega) (by simp; omega) ?_))
            intro v' w1 hown' hgrow _
            have HF := fin (65533) (k + 1) v' w1 (by omega) (by omega) HT.out hown' hgrow
            clear fin hown' hgrow
            go_wp2
            exact ⟨⟨k + 1, by go_num, by omega, HF⟩, by simp [RowKit.intOf]; omega⟩
    · have hlti : ¬ (k : Int) < (us.length : Int) := by omega
      have e : k = us.length := by omega
      subst e
      rw [List.drop_length] at hfu
      have hr : fu us = pre := by rw [hfu]; simp [fu]
      have HR : Hid (fu us = pre) := hr
      clear hr hfu HI
      go_wp2
      go_ret
      rw [HR.out]
      exact ⟨_, rfl, hown, hB⟩
end Go.Proofs.YtabofadjnbpjkacDoor
