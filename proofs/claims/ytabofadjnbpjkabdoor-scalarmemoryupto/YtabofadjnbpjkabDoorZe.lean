/-
  The contracts of UnitDecoder's Feed and of FromUnits. Conditions: the list takes no more bytes than there are; nothing else holds the decoder.
-/
import Derived.Test.YtabofadjnbpjkabDoorZd
namespace Go.Proofs.YtabofadjnbpjkabDoor.U
open Go.RowKit Go.Lib Go.Shelf
/-- What a unit that is held back and the units behind it say. -/
def fuH (h : Int) (l : List Int) : List Int := if h = 0 then fu l else fu (h :: l)
/-- What a round of Feed keeps. -/
def FeIn (us : List Int) (w : World) (n₀ B k : Nat) (x : Value) (wr : World) : Prop :=
  ∃ (pre : List Int) (h : Int), pre.length + (if h = 0 then 0 else 1) ≤ k ∧ (h = 0 ∨ (55296 ≤ h ∧ h < 56320)) ∧ fu us = pre ++ fuH h (us.drop k) ∧ wr.ownsRow w.heap.size 21 1 x pre.length (pre.map fun z => Value.int .i32 z) ∧ Boxed wr B 75 (.int .u16 h) ∧ Below n₀ w wr
theorem fe_push {us : List Int} {w : World} {n₀ B k : Nat} {pre : List Int} {x h' : Int} {Z w1 : World} {u v' : Value} (hn : n₀ ≤ w.heap.size) (hBw : B < w.heap.size) (hl : pre.length + 1 + (if h' = 0 then 0 else 1) ≤ k) (hh : h' = 0 ∨ (55296 ≤ h' ∧ h' < 56320))
    (hfu : fu us = (pre ++ [x]) ++ fuH h' (us.drop k)) (ho : Z.ownsRow w.heap.size 21 1 u pre.length (pre.map fun z => Value.int .i32 z)) (hbx : Boxed Z B 75 (.int .u16 h')) (hB : Below n₀ w Z)
    (hown' : w1.ownsRow w.heap.size 21 1 v' (pre.length + 1) ((pre.map fun z => Value.int .i32 z) ++ [.int .i32 x])) (hgr : (Z.alloc (.cells #[.int .i32 x] 21)).grownBy w1 u.ownBlock) : FeIn us w n₀ B k v' w1 := by
  have hsz := hB.size
  have hnr : some B ≠ u.ownBlock := fun e => by have := (ho.lt B e.symm).1; omega
  exact ⟨pre ++ [x], h', by simp only [List.length_append, List.length_cons, List.length_nil]; omega, hh, hfu, by simpa using hown', (hbx.alloc _).kept hgr hnr, (hB.alloc (by omega) _).grown hgr (by simp; omega) (fun j hj => by have := (ho.lt j hj).1; omega)⟩
theorem owns_set {W : World} {base B : Nat} {e size n : Nat} {v : Value} {xs : List Value} (h : W.ownsRow base e size v n xs) (hB : B < base) (z : Value) : (W.setCell ⟨B, 0, none⟩ z).ownsRow base e size v n xs :=
  h.kept (grownBy_setCell' W B z) (.inr fun q => by have := (h.lt B q).1; omega)
theorem fe_hold {us : List Int} {w : World} {n₀ B k : Nat} {pre : List Int} {u : Int} {Z : World} {x : Value} (hn : n₀ ≤ B) (hBw : B < w.heap.size) (hl : pre.length + 1 ≤ k) (hh : 55296 ≤ u ∧ u < 56320)
    (hfu : fu us = pre ++ fuH u (us.drop k)) (ho : Z.ownsRow w.heap.size 21 1 x pre.length (pre.map fun z => Value.int .i32 z)) {z : Int} (hbx : Boxed Z B 75 (.int .u16 z)) (hB : Below n₀ w Z) : FeIn us w n₀ B k x (Z.setCell ⟨B, 0, none⟩ (.int .u16 u)) :=
  ⟨pre, u, by rw [if_neg (by omega)]; exact hl, .inr hh, hfu, owns_set ho hBw _, hbx.set _, hB.setCell hn _⟩
theorem fuH_zero (l : List Int) : fuH 0 l = fu l := by simp [fuH]
theorem fuH_held (h : Int) (l : List Int) (hh : 55296 ≤ h) : fuH h l = fu (h :: l) := by unfold fuH; rw [if_neg (by omega)]
set_option maxRecDepth 100000 in
set_option maxHeartbeats 4000000 in
theorem feed_any (us : List Int) (v : Value) (n₀ B : Nat) (w : World) (hz : 4 * us.length ≤ 140737488355328) (hR : ∀ W, Below n₀ w W → Rds .u16 W v us) (hU : ∀ u ∈ us, 0 ≤ u ∧ u < 65536) (hnB : n₀ ≤ B) (hBw : B < w.heap.size) (hb0 : Boxed w B 75 (.int .u16 0)) :
    Calls Tryd.prog 40 #[.pointer (some ⟨B, 0, none⟩), v] w fun e w' => ∃ x, e = .returned x ∧ FeIn us w n₀ B us.length x w' := by
  obtain ⟨i0, hi, hz0, hz1, hz2⟩ := info_parts info21
  have HR : Hid (∀ W, Below n₀ w W → Rds .u16 W v us) := hR
  have HU : Hid (∀ u ∈ us, 0 ≤ u ∧ u < 65536) := hU
  obtain ⟨a0, c0, rfl, hn⟩ := hR w (Below.refl _ _)
  have HB0 : Hid (Boxed w B 75 (.int .u16 0)) := hb0
  clear hU hR hb0
  go_enter Tryd.func40, Tryd.ntmps40
  go_wp2_with fail
  go_loopw [5, 12] (fun x i wr => ∃ (k : Nat), i = .int .i64 k ∧ k ≤ us.length ∧ Hid (FeIn us w n₀ B k x wr)) (fun _ i _ => us.length - (RowKit.intOf i).toNat)
  case atStart => exact ⟨0, rfl, Nat.zero_le _, [], 0, by simp, .inl rfl, by simp [fuH], World.ownsRow_nil _ _ _ _, HB0.out, Below.refl _ _⟩
  case round =>
    obtain ⟨k, rfl, hk, HI⟩ := hrel
    by_cases hlt : k < us.length
    · obtain ⟨pre, h, hpl, hh, hfu, hown, hbx, hB⟩ := HI.out
      have hlti : (k : Int) < (us.length : Int) := by omega
      obtain ⟨g, off, rfl, _⟩ := hn (by omega)
      have hc0 : wr.cell? ⟨g, off + k, none⟩ = some (.int .u16 (us.getD k 0)) := by
        obtain ⟨a1, c1, e1, h1⟩ := HR.out wr hB
        cases e1
        obtain ⟨g1, o1, e1, h1⟩ := h1 (by omega)
        cases e1
        exact h1 k hlt
      have hu := HU.out (us.getD k 0) (by simp [List.getD, List.getElem?_eq_getElem hlt])
      have hdr := drop_at us k hlt
      obtain ⟨u, hu0⟩ : ∃ u, us.getD k 0 = u := ⟨_, rfl⟩
      rw [hu0] at hc0 hu hdr
      have hsz := hB.size
      have hc := hbx.cell
      have hf := hbx.frozen
      have hn0 : n₀ ≤ w.heap.size := by omega
      have HB : Hid (Below n₀ w wr) := hB
      have HX : Hid (Boxed wr B 75 (.int .u16 h)) := hbx
      have HO : Hid (wr.ownsRow w.heap.size 21 1 u5 pre.length (pre.map fun z => Value.int .i32 z)) := hown
      have HDR : Hid (us.drop k = u :: us.drop (k + 1)) := hdr
      clear hB hbx hown HI hn hu0 hdr
      have hlow : ∀ q, decide (56320 ≤ u ∧ u < 57344) = q → ∀ w, Calls Tryd.prog 53 #[.int .u16 u] w fun e w' => e = .returned (.bool q) ∧ w' = w := fun q hq w => isLow_any u q hq w
      have hhigh : ∀ q, decide (55296 ≤ u ∧ u < 56320) = q → ∀ w, Calls Tryd.prog 55 #[.int .u16 u] w fun e w' => e = .returned (.bool q) ∧ w' = w := fun q hq w => isHigh_any u q hq w
      rcases hh with rfl | hh
      · rw [if_pos rfl, Nat.add_zero] at hpl
        rw [fuH_zero, HDR.out] at hfu
        have k41 := fun W hW => end_zero B W hW
        by_cases hi1 : 55296 ≤ u ∧ u < 56320
        · have HF : Hid (FeIn us w n₀ B (k + 1) u5 (wr.setCell ⟨B, 0, none⟩ (.int .u16 u))) := fe_hold hnB hBw (by omega) hi1 (by rw [hfu, fuH_held _ _ hi1.1]) HO.out HX.out HB.out
          have kh := hhigh true (by simp; omega)
          clear hfu hlow hhigh
          go_wp2_with (first | (go_at_call 41; refine (k41 _ hc).mono ?_; rintro e w' ⟨rfl, rfl⟩) | (at_builtin; refine wpList_append_own_none rfl _ _ 23 rfl w.heap.size 21 i0 1 Tryd.underlying23 hi _ _ _ rfl HO.out rfl ?_) | (go_at_call 55; refine (kh _).mono ?_; rintro e w' ⟨rfl, rfl⟩))
          exact ⟨⟨k + 1, by go_num, by omega, HF⟩, by simp [RowKit.intOf]; omega⟩
        · by_cases lo1 : 56320 ≤ u ∧ u < 57344
          · have HT : Hid (fu us = (pre ++ [65533]) ++ fuH 0 (us.drop (k + 1))) := by
              unfold Hid
              rw [fuH_zero, hfu, fu_low _ _ lo1.1 (by omega)]
              simp
            have kh := hhigh false (by simp; omega)
            have kl := hlow true (by simp; omega)
            have hcn := cell_one_new wr (.int .i32 (65533)) 21
            clear hfu hlow hhigh
            go_wp2_with (first | (go_at_call 41; refine (k41 _ hc).mono ?_; rintro e w' ⟨rfl, rfl⟩) | (at_builtin; refine wpList_append_own_none rfl _ _ 23 rfl w.heap.size 21 i0 1 Tryd.underlying23 hi _ _ _ rfl HO.out rfl ?_) | (at_builtin; refine wpList_append_own _ rfl _ _ 23 rfl w.heap.size 21 i0 (.int .i32 0) 1 4 Tryd.underlying23 hi hz0 hz1 hz2 rfl (by decide) _ _ _ rfl (HO.out.alloc _) ⟨_, 0, none⟩ 1 1 [.int .i32 (65533)] rfl rfl hcn (by simp [Value.oneCell']) (by unfold maxLen; omega) (by omega) (by simp; omega) ?_) | (go_at_call 55; refine (kh _).mono ?_; rintro e w' ⟨rfl, rfl⟩) | (go_at_call 53; refine (kl _).mono ?_; rintro e w' ⟨rfl, rfl⟩))
            intro v' w1 hown' hgrow _
            have HF : Hid (FeIn us w n₀ B (k + 1) v' w1) := fe_push hn0 hBw (by rw [if_pos rfl]; omega) (.inl rfl) HT.out HO.out HX.out HB.out hown' hgrow
            clear hown' hgrow
            go_wp2
            exact ⟨⟨k + 1, by go_num, by omega, HF⟩, by simp [RowKit.intOf]; omega⟩
          · have HT : Hid (fu us = (pre ++ [u]) ++ fuH 0 (us.drop (k + 1))) := by
              unfold Hid
              rw [fuH_zero, hfu, fu_plain _ _ (by omega)]
              simp
            have kh := hhigh false (by simp; omega)
            have kl := hlow false (by simp; omega)
            have hcn := cell_one_new wr (.int .i32 (u)) 21
            clear hfu hlow hhigh
            go_wp2_with (first | (go_at_call 41; refine (k41 _ hc).mono ?_; rintro e w' ⟨rfl, rfl⟩) | (at_builtin; refine wpList_append_own_none rfl _ _ 23 rfl w.heap.size 21 i0 1 Tryd.underlying23 hi _ _ _ rfl HO.out rfl ?_) | (at_builtin; refine wpList_append_own _ rfl _ _ 23 rfl w.heap.size 21 i0 (.int .i32 0) 1 4 Tryd.underlying23 hi hz0 hz1 hz2 rfl (by decide) _ _ _ rfl (HO.out.alloc _) ⟨_, 0, none⟩ 1 1 [.int .i32 (u)] rfl rfl hcn (by simp [Value.oneCell']) (by unfold maxLen; omega) (by omega) (by simp; omega) ?_) | (go_at_call 55; refine (kh _).mono ?_; rintro e w' ⟨rfl, rfl⟩) | (go_at_call 53; refine (kl _).mono ?_; rintro e w' ⟨rfl, rfl⟩))
            intro v' w1 hown' hgrow _
            have HF : Hid (FeIn us w n₀ B (k + 1) v' w1) := fe_push hn0 hBw (by rw [if_pos rfl]; omega) (.inl rfl) HT.out HO.out HX.out HB.out hown' hgrow
            clear hown' hgrow
            go_wp2
            exact ⟨⟨k + 1, by go_num, by omega, HF⟩, by simp [RowKit.intOf]; omega⟩
      · rw [if_neg (by omega)] at hpl
        rw [fuH_held _ _ hh.1, HDR.out] at hfu
        have hne : (h == 0) = false := beq_false_of_ne (by omega)
        by_cases lo1 : 56320 ≤ u ∧ u < 57344
        · have HT : Hid (fu us = (pre ++ [65536 + 1024 * (h - 55296) + u - 56320]) ++ fuH 0 (us.drop (k + 1))) := by
            unfold Hid
            rw [fuH_zero, hfu, fu_pair _ _ _ hh.1 hh.2 lo1.1 (by omega)]
            simp
          have kl := hlow true (by simp; omega)
          have kj := fun W => joined_any h u W hh.1 hh.2 lo1.1 (by omega)
          have hcn := cell_one_new wr (.int .i32 (65536 + 1024 * (h - 55296) + u - 56320)) 21
          clear hfu hlow hhigh
          go_wp2_with (first | (go_at_call 54; refine (kj _).mono ?_; rintro e w' ⟨rfl, rfl⟩) | (at_builtin; refine wpList_append_own _ rfl _ _ 23 rfl w.heap.size 21 i0 (.int .i32 0) 1 4 Tryd.underlying23 hi hz0 hz1 hz2 rfl (by decide) _ _ _ rfl (HO.out.alloc _) ⟨_, 0, none⟩ 1 1 [.int .i32 (65536 + 1024 * (h - 55296) + u - 56320)] rfl rfl hcn (by simp [Value.oneCell']) (by unfold maxLen; omega) (by omega) (by simp; omega) ?_) | (go_at_call 53; refine (kl _).mono ?_; rintro e w' ⟨rfl, rfl⟩))
          intro v' w1 hown' hgrow _
          have hnr : some B ≠ u5.ownBlock := fun e => by have := (HO.out.lt B e.symm).1; omega
          have hbx1 := (HX.out.alloc (.cells #[.int .i32 (65536 + 1024 * (h - 55296) + u - 56320)] 21)).kept hgrow hnr
          have hbel := (HB.out.alloc (by omega) (.cells #[.int .i32 (65536 + 1024 * (h - 55296) + u - 56320)] 21)).grown hgrow (by simp; omega) (fun j hj => by have := (HO.out.lt j hj).1; omega)
          have HF : Hid (FeIn us w n₀ B (k + 1) v' (w1.setCell ⟨B, 0, none⟩ (.int .u16 0))) := ⟨pre ++ [65536 + 1024 * (h - 55296) + u - 56320], 0, by simp; omega, .inl rfl, HT.out, owns_set (by simpa using hown') hBw _, hbx1.set _, hbel.setCell hnB _⟩
          have hc1 := hbx1.cell
          have hf1 := hbx1.frozen
          clear hown' hgrow
          go_wp2
          exact ⟨⟨k + 1, by go_num, by omega, HF⟩, by simp [RowKit.intOf]; omega⟩
        · have kl := hlow false (by simp; omega)
          have k41 := fun W hW hf => end_held B h W hh.1 hW hf
          have HT : Hid (fu us = (pre ++ [65533]) ++ fuH 0 (us.drop k)) := by
            unfold Hid
            rw [fuH_zero, HDR.out, hfu, fu_lone _ _ _ hh.1 hh.2 (by omega)]
            simp
          have hbz : Boxed (wr.setCell ⟨B, 0, none⟩ (.int .u16 0)) B 75 (.int .u16 0) := HX.out.set _
          have hoz := owns_set HO.out hBw (.int .u16 0)
          have hBz := HB.out.setCell (p := ⟨B, 0, none⟩) hnB (.int .u16 0)
          obtain ⟨Z, hZ⟩ : ∃ Z, wr.setCell ⟨B, 0, none⟩ (.int .u16 0) = Z := ⟨_, rfl⟩
          have hZs : Z.heap.size = wr.heap.size := by rw [← hZ]; simp
          rw [hZ] at hbz hoz hBz
          have HOZ : Hid (Z.ownsRow w.heap.size 21 1 u5 pre.length (pre.map fun z => Value.int .i32 z)) := hoz
          have HXZ : Hid (Boxed Z B 75 (.int .u16 0)) := hbz
          have HBZ : Hid (Below n₀ w Z) := hBz
          have hcn := cell_one_new Z (.int .i32 65533) 21
          rw [hZs] at hcn
          clear hfu hoz hbz hBz
          go_wp2_with (first | (go_at_call 41; refine (k41 _ hc hf).mono ?_; rintro e w' ⟨rfl, hw'⟩; rw [hZ] at hw'; subst hw') | (at_builtin; refine wpList_append_own _ rfl _ _ 23 rfl w.heap.size 21 i0 (.int .i32 0) 1 4 Tryd.underlying23 hi hz0 hz1 hz2 rfl (by decide) _ _ _ rfl (HOZ.out.alloc _) ⟨_, 0, none⟩ 1 1 [.int .i32 (65533)] rfl rfl hcn (by simp [Value.oneCell']) (by unfold maxLen; omega) (by omega) (by simp; omega) ?_) | (go_at_call 53; refine (kl _).mono ?_; rintro e w' ⟨rfl, rfl⟩))
          intro v1 w1 hown' hgrow _
          have hnr : some B ≠ u5.ownBlock := fun e => by have := (HOZ.out.lt B e.symm).1; omega
          have bx1 := (HXZ.out.alloc (.cells #[.int .i32 65533] 21)).kept hgrow hnr
          have bel1 := (HBZ.out.alloc (by omega) (.cells #[.int .i32 65533] 21)).grown hgrow (by simp; omega) (fun j hj => by have := (HOZ.out.lt j hj).1; omega)
          have own1 : w1.ownsRow w.heap.size 21 1 v1 (pre ++ [65533]).length ((pre ++ [65533]).map fun z => Value.int .i32 z) := by simpa using hown'
          have hc1 := bx1.cell
          have hf1 := bx1.frozen
          have hs1 := bel1.size
          have HO1 : Hid (w1.ownsRow w.heap.size 21 1 v1 (pre ++ [65533]).length ((pre ++ [65533]).map fun z => Value.int .i32 z)) := own1
          have HB1 : Hid (Below n₀ w w1) := bel1
          have HX1 : Hid (Boxed w1 B 75 (.int .u16 0)) := bx1
          have hpl2 : (pre ++ [65533]).length ≤ k := by simp; omega
          obtain ⟨pre1, hpre1⟩ : ∃ p, pre ++ [(65533 : Int)] = p := ⟨_, rfl⟩
          rw [hpre1] at HO1 HT hpl2
          clear hown' hgrow own1 bx1 bel1 hcn HOZ HXZ HBZ HO HX HB hc hf hZ hpre1 k41
          by_cases hi1 : 55296 ≤ u ∧ u < 56320
          · have HF : Hid (FeIn us w n₀ B (k + 1) v1 (w1.setCell ⟨B, 0, none⟩ (.int .u16 u))) := fe_hold hnB hBw (by omega) hi1 (by rw [HT.out, fuH_zero, HDR.out, fuH_held _ _ hi1.1]) HO1.out HX1.out HB1.out
            have kh := hhigh true (by simp; omega)
            clear hlow hhigh
            go_wp2_with (go_at_call 55; refine (kh _).mono ?_; rintro e w' ⟨rfl, rfl⟩)
            exact ⟨⟨k + 1, by go_num, by omega, HF⟩, by simp [RowKit.intOf]; omega⟩
          · have HT2 : Hid (fu us = (pre1 ++ [u]) ++ fuH 0 (us.drop (k + 1))) := by
              unfold Hid
              rw [HT.out, fuH_zero, fuH_zero, HDR.out, fu_plain _ _ (by omega)]
              simp
            have kh := hhigh false (by simp; omega)
            have hcn := cell_one_new w1 (.int .i32 u) 21
            clear hlow hhigh
            go_wp2_with (first | (at_builtin; refine wpList_append_own _ rfl _ _ 23 rfl w.heap.size 21 i0 (.int .i32 0) 1 4 Tryd.underlying23 hi hz0 hz1 hz2 rfl (by decide) _ _ _ rfl (HO1.out.alloc _) ⟨_, 0, none⟩ 1 1 [.int .i32 (u)] rfl rfl hcn (by simp [Value.oneCell']) (by unfold maxLen; omega) (by omega) (by simp; omega) ?_) | (go_at_call 55; refine (kh _).mono ?_; rintro e w' ⟨rfl, rfl⟩) | (go_at_call 53; refine (kl _).mono ?_; rintro e w' ⟨rfl, rfl⟩))
            intro v' w2 hown' hgrow _
            have HF : Hid (FeIn us w n₀ B (k + 1) v' w2) := fe_push hn0 hBw (by rw [if_pos rfl]; omega) (.inl rfl) HT2.out HO1.out HX1.out HB1.out hown' hgrow
            clear hown' hgrow
            go_wp2
            exact ⟨⟨k + 1, by go_num, by omega, HF⟩, by simp [RowKit.intOf]; omega⟩
    · have hlti : ¬ (k : Int) < (us.length : Int) := by omega
      have e : k = us.length := by omega
      subst e
      go_wp2
      go_ret
      exact ⟨_, rfl, HI.out⟩
end Go.Proofs.YtabofadjnbpjkabDoor.U
