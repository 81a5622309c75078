/-
  The walk of the law ScalarBack: it returns true and turns nothing that was there. Conditions: the text has at most about a million bytes; the library's two tables hold what their text lays.
-/
import Derived.Test.YtabofadjnbpjkabDoorRw
import Derived.BigQuiet
import Derived.Deep.QuietTactic
namespace Go.Proofs.YtabofadjnbpjkabDoor
open Go.RowKit Go.Lib
theorem below_drewN {B : Nat} {a w : World} (h : Below B a w) (n : Nat) : Below B a (w.drewN n) := h.trans ⟨rfl, rfl, rfl, Nat.le_refl _, fun _ _ => rfl⟩
theorem nums_at (s : ByteArray) (k q : Nat) (h : (poss s)[k]? = some q) : (nums s).getD k 0 = (pRu s q : Int) := by
  have : (nums s)[k]? = some (pRu s q : Int) := by unfold nums; rw [List.getElem?_map, h]; rfl
  simp [List.getD, this]
set_option maxRecDepth 100000 in
set_option maxHeartbeats 4000000 in
theorem lawB (s : ByteArray) (w : World) (hs : s.size ≤ 1048576) (hT : Utf8Tabs 0 1 w) (hg : 2 ≤ w.heap.size) : Calls Tryd.prog 3 #[.string s] w fun e w' => e = .returned (.bool true) ∧ Below w.heap.size w w' := by
  have hlen : (poss s).length ≤ s.size := posAt_len s s.size 0 (by omega)
  have hnl : (nums s).length = (poss s).length := by simp [nums]
  have k0 := awake_any w hT hg
  have hv := nums_valid s
  have hb : badFrom (nums s) 0 = -1 := (all_valid _ 0).2 hv
  have hencA : encA (nums s) = .tuple #[.string (runesBytes (nums s)), .int .i64 0, .int .i64 0] := by unfold encA; rw [if_pos hb]
  have hC := clean_size s
  have tw1 := (clean_twice s).1
  obtain ⟨C, hCe⟩ : ∃ C, runesBytes (nums s) = C := ⟨_, rfl⟩
  rw [hCe] at hencA hC tw1
  have HV : Hid (∀ r ∈ nums s, Lib.validRune r = true) := hv
  have HTW : Hid (nums C = nums s) := tw1
  have hlen2 : (nums s).length ≤ s.size := by rw [hnl]; exact hlen
  have HNL : Hid ((nums s).length = (poss s).length) := hnl
  clear hCe tw1 hb hv hnl
  go_enter Tryd.func3, Tryd.ntmps3
  go_wp2_with (go_at_call 9; refine k0.mono ?_)
  first | rintro e w1 rfl b1 | rintro e w1 ⟨rfl, b1⟩
  have z1 := b1.size
  have HB1 : Hid (Below w.heap.size w w1) := b1
  have T1 := tabs_below hT (by omega) b1
  have k1 := decode_any s w1 (by omega) T1 (by omega)
  clear k0 T1 b1
  go_wp2_with (go_at_call 10; refine k1.mono ?_)
  first | rintro e w2 v2 rfl o2 b2 | rintro e w2 ⟨v2, rfl, o2, b2⟩
  have z2 := b2.size
  rw [runes_nums, ← HNL.out] at o2
  have R2 := Rds.of_owns o2
  have HB2 : Hid (Below w.heap.size w w2) := HB1.out.trans (b2.mono z1)
  clear k1 b2 o2 HB1
  have HR2 : Hid (Rds .i32 w2 v2 (nums s)) := R2
  obtain ⟨a2, c2, rfl, hn2⟩ := R2
  go_wp2
  go_loopw [18] (fun i wr => wr = w2 ∧ ∃ k : Nat, i = .int .i64 k ∧ k ≤ (nums s).length) (fun i _ => (nums s).length - (RowKit.intOf i).toNat)
  case atStart => exact ⟨rfl, 0, rfl, Nat.zero_le _⟩
  case round =>
    obtain ⟨rfl, k, rfl, hk⟩ := hrel
    by_cases hlt : k < (nums s).length
    · have hlti : (k : Int) < ((nums s).length : Int) := by omega
      obtain ⟨g, off, rfl, hcell⟩ := hn2 (by omega)
      have hc := hcell k hlt
      have hval := HV.out ((nums s).getD k 0) (by simp [List.getD, List.getElem?_eq_getElem hlt])
      obtain ⟨z, hz⟩ : ∃ z, (nums s).getD k 0 = z := ⟨_, rfl⟩
      rw [hz] at hc hval
      have ks := scalar_any z wr
      rw [hval] at ks
      clear hz hcell hn2 hval
      go_wp2_with (go_at_call 11; refine ks.mono ?_; rintro e w' ⟨rfl, rfl⟩)
      exact ⟨⟨trivial, k + 1, by go_num, by omega⟩, by simp [RowKit.intOf]; omega⟩
    · have hlti : ¬ (k : Int) < ((nums s).length : Int) := by omega
      have ke := enc_any (nums s) _ wr (by omega) HR2.out
      rw [hencA] at ke
      clear hencA
      have TT := tabs_below hT (by omega) HB2.out
      have hCl : (poss C).length ≤ C.size := posAt_len C C.size 0 (by omega)
      have hnC : (nums C).length = (poss C).length := by simp [nums]
      have kd := decode_any C wr (by omega) TT (by omega)
      rw [runes_nums, ← hnC, HTW.out] at kd
      clear TT HV hn2 hnC hCl
      go_wp2_with (first | (go_at_call 12; refine ke.mono ?_; rintro e w' ⟨rfl, rfl⟩) | (go_at_call 10; refine kd.mono ?_))
      first | rintro e w4 v4 rfl o4 b4 | rintro e w4 ⟨v4, rfl, o4, b4⟩
      have z4 := b4.size
      have HB4 : Hid (Below w.heap.size w w4) := HB2.out.trans (b4.mono (by omega))
      have HR4 : Hid (Rds .i32 w4 (.slice a2 (nums s).length c2) (nums s)) := HR2.out.below b4
      have km := same_rds (nums s) v4 _ w4 (Rds.of_owns o4) HR4.out (by omega)
      clear kd ke o4 b4 HR2
      go_wp2_with (go_at_call 13; refine km.mono ?_)
      first | rintro e w5 rfl b5 | rintro e w5 ⟨rfl, b5⟩
      have z5 := b5.size
      have HB5 : Hid (Below w.heap.size w w5) := HB4.out.trans (b5.mono (by omega))
      have HR5 : Hid (Rds .i32 w5 (.slice a2 (nums s).length c2) (nums s)) := HR4.out.below b5
      have T5 := tabs_below hT (by omega) HB5.out
      have kp := pieces_any s w5 (by omega) T5 (by omega)
      clear km b5 HR4 T5 HB4 HB2
      go_wp2_with (go_at_call 14; refine kp.mono ?_)
      first | rintro e w6 v6 rfl o6 b6 | rintro e w6 ⟨v6, rfl, o6, b6⟩
      have z6 := b6.size
      obtain ⟨a6, c6, rfl, hn6⟩ := owns_slice o6
      have O6 : Hid (w6.ownsRow w5.heap.size 33 4 (.slice a6 (poss s).length c6) (poss s).length (pcsC s (poss s)) ∧ Rds .i32 w6 (.slice a2 (nums s).length c2) (nums s) ∧ Below w.heap.size w w6) := ⟨o6, HR5.out.below b6, HB5.out.trans (b6.mono (by omega))⟩
      clear kp b6 o6 HR5 HB5
      have hlenb := hlen
      go_wp2_with fail
      go_loopw [9, 44] (fun a i wr => ∃ (pre : List Nat) (q k : Nat), a = .int .i64 q ∧ i = .int .i64 k ∧ Hid (k = pre.length) ∧ k ≤ (poss s).length ∧ q ≤ s.size ∧ Hid (poss s = pre ++ posAt s q) ∧ Hid (Below w6.heap.size w6 wr)) (fun _ i _ => (poss s).length - (RowKit.intOf i).toNat)
      case atStart => exact ⟨[], 0, 0, rfl, rfl, rfl, Nat.zero_le _, Nat.zero_le _, rfl, Below.refl _ _⟩
      case round =>
        obtain ⟨pre, q, k, rfl, rfl, HK, hk, hq, HX, HB⟩ := hrel
        by_cases hlt : k < (poss s).length
        · have hlti : (k : Int) < ((poss s).length : Int) := by omega
          have hqs : q < s.size := by
            by_cases h : q < s.size
            · exact h
            · exfalso
              have e := congrArg List.length HX.out
              rw [posAt_nil s q h, List.append_nil, ← HK.out] at e
              omega
          have hcons := HX.out
          rw [posAt_cons s q hqs] at hcons
          have hat : (poss s)[k]? = some q := by
            rw [hcons, HK.out]; simp
          obtain ⟨g, rfl⟩ := hn6 (by omega)
          have p6 := owns_below O6.out.1 HB.out
          have d0 : wr.cell? ⟨g, k * 4, none⟩ = some (.int .i64 q) := owns_cell p6 rfl _ _ ((pcsC_at s 0 (by omega) _ _ _ hat).trans rfl)
          have d1 : wr.cell? ⟨g, k * 4 + 1, none⟩ = some (.int .i64 (pSt s q)) := owns_cell p6 rfl _ _ ((pcsC_at s 1 (by omega) _ _ _ hat).trans rfl)
          have d2 : wr.cell? ⟨g, k * 4 + 2, none⟩ = some (.int .i32 (pRu s q)) := owns_cell p6 rfl _ _ ((pcsC_at s 2 (by omega) _ _ _ hat).trans rfl)
          have d3 : wr.cell? ⟨g, k * 4 + 3, none⟩ = some (.bool (pWr s q)) := owns_cell p6 rfl _ _ ((pcsC_at s 3 (by omega) _ _ _ hat).trans rfl)
          have hps := pSt_le s q hqs
          have hnat := nums_at s k q hat
          have hkn : k < (nums s).length := by rw [HNL.out]; exact hlt
          obtain ⟨g2, o2, ea2, hcl⟩ : ∃ g off, a2 = some ⟨g, off, none⟩ ∧ wr.cell? ⟨g, off + k, none⟩ = some (.int .i32 (pRu s q)) := by
            obtain ⟨a, c, e, h⟩ := O6.out.2.1.below HB.out
            cases e
            obtain ⟨g, off, e2, hc⟩ := h (by omega)
            exact ⟨g, off, e2, by rw [hc k hkn, hnat]⟩
          subst ea2
          have hg2 : g2 < wr.heap.size := by simpa using World.block_lt_of_cell? wr _ hcl
          have hwr := width_ru s q
          have hw3 := wrong_three s q
          have hkni : (k : Int) < ((nums s).length : Int) := by omega
          have HNX : Hid (poss s = (pre ++ [q]) ++ posAt s (q + pSt s q)) := by unfold Hid; rw [hcons]; simp
          have hwz := HB.out.size
          have HBA : Hid (Below w6.heap.size w6 (wr.alloc (.cells #[.int .i64 q, .int .i64 (pSt s q), .int .i32 (pRu s q), .bool (pWr s q)] 33))) := HB.out.alloc hwz _
          have hcl2 : (wr.alloc (.cells #[.int .i64 q, .int .i64 (pSt s q), .int .i32 (pRu s q), .bool (pWr s q)] 33)).cell? ⟨g2, o2 + k, none⟩ = some (.int .i32 (pRu s q)) := (World.cell?_alloc_past _ _ _ hg2).trans hcl
          obtain ⟨P, eP⟩ : ∃ P, pSt s q = P := ⟨_, rfl⟩
          obtain ⟨R, eR⟩ : ∃ R, pRu s q = R := ⟨_, rfl⟩
          rw [eP] at d1 hps HNX HBA hcl2 hwr hw3; rw [eR] at d2 hcl HBA hcl2 hwr
          have c1 : decide ((P : Int) < 1) = false := decide_eq_false (by omega)
          have c2' : decide ((4 : Int) < (P : Int)) = false := decide_eq_false (by omega)
          have c4 : decide (((nums s).length : Int) ≤ (k : Int)) = false := decide_eq_false (by omega)
          clear p6 hcons hat hnat eP eR HB HX
          cases hb : pWr s q
          · have hw := hwr hb
            rw [hb] at d3 HBA hcl2
            have kw := fun w => width_any (R : Int) w
            rw [hw] at kw
            clear hwr hw3 hw hb
            go_wp2_with fail
            go_quiet (first | (go_at_call 15; refine Calls.quiet_of_same (kw _)))
            go_wp2
            exact ⟨⟨pre ++ [q], q + P, k + 1, by go_num, by go_num, by unfold Hid; rw [HK.out]; simp, by omega, by omega, HNX, below_drewN HBA.out _⟩, by simp [RowKit.intOf]; omega⟩
          · have h3 := hw3 hb
            rw [hb] at d3 HBA hcl2
            have c5 : decide ((3 : Int) < (P : Int)) = false := decide_eq_false (by omega)
            clear hwr hw3 hb h3
            go_wp2_with fail
            go_quiet (fail)
            go_wp2
            exact ⟨⟨pre ++ [q], q + P, k + 1, by go_num, by go_num, by unfold Hid; rw [HK.out]; simp, by omega, by omega, HNX, below_drewN HBA.out _⟩, by simp [RowKit.intOf]; omega⟩
        · have hlti : ¬ (k : Int) < ((poss s).length : Int) := by omega
          have hqe : q = s.size := by
            by_cases h : q < s.size
            · exfalso
              have e := congrArg List.length HX.out
              rw [posAt_cons s q h, List.length_append, ← HK.out] at e
              simp at e
              omega
            · omega
          subst hqe
          have HB7 : Hid (Below w.heap.size w wr) := O6.out.2.2.trans (HB.out.mono (by have := O6.out.2.2.size; omega))
          clear HB HX HK hn6 O6
          go_wp2
          go_ret
          exact ⟨rfl, HB7.out⟩
end Go.Proofs.YtabofadjnbpjkabDoor
