/-
  The contract of the document's Exact. Conditions: at most 65536 floats, each of 64 bits.
-/
import Derived.Test.YtdhfkdopcphjlabBr
namespace Go.Proofs.Ytdhfkdopcphjlab
open Go.RowKit
theorem rx_both {bs : List Nat} {al : Bool} {f : Nat → Int} (h : RxAt bs bs.length true true al f) : rxB bs = 9218868437227405313 := by
  obtain ⟨a1, a2, a3, -, -, -⟩ := h
  rw [List.take_length] at a1 a2 a3
  unfold rxB
  rw [a1, ← a2, ← a3]
  rfl
theorem rx_up {bs : List Nat} {al : Bool} {f : Nat → Int} (h : RxAt bs bs.length true false al f) : rxB bs = 9218868437227405312 := by
  obtain ⟨a1, a2, a3, -, -, -⟩ := h
  rw [List.take_length] at a1 a2 a3
  unfold rxB exB exV
  rw [a1, ← a2, ← a3]
  rfl
theorem rx_down {bs : List Nat} {al : Bool} {f : Nat → Int} (h : RxAt bs bs.length false true al f) : rxB bs = 18442240474082181120 := by
  obtain ⟨a1, a2, a3, -, -, -⟩ := h
  rw [List.take_length] at a1 a2 a3
  unfold rxB exB exV
  rw [a1, ← a2, ← a3]
  rfl
attribute [local go_sem] rowB_size stB isRow_at isRow_past rowIn_at rowIn_past setRow_at setRow_past
set_option maxRecDepth 100000 in
set_option maxHeartbeats 2000000 in
theorem rexact_any (bs : List Nat) (v : Value) (w : World) (hb : ∀ b ∈ bs, b < 18446744073709551616) (hl : bs.length ≤ 65536) (hr : Rd w v (flt bs)) : Calls Try.prog 25 #[v] w fun e w' => e = .returned (.float .f64 (rxB bs)) ∧ Below w.heap.size w w' := by
  obtain ⟨a0, c0, rfl, h0⟩ := hr
  rw [flt_len] at h0 ⊢
  obtain ⟨hz, hi⟩ := zero_of_info info62
  clear hi
  have x10 := ext10
  have k43 := None_any
  have hl2 : (bs.length : Int) ≤ 65536 := by omega
  have hl3 : decide ((bs.length : Int) > 0) = decide (0 < bs.length) := by rw [decide_eq_decide]; omega
  have hl4 : decide ((0 : Int) < (bs.length : Int)) = decide (0 < bs.length) := hl3
  have HL : Hid (bs.length ≤ 65536) := hl
  replace h0 : Hid (0 < bs.length → ∃ g off, a0 = some ⟨g, off, none⟩ ∧ ∀ j, j < bs.length → w.cell? ⟨g, off + j, none⟩ = some ((flt bs).getD j undef)) := h0
  replace hb : Hid (∀ b ∈ bs, b < 18446744073709551616) := hb
  have BK : Hid (Bk (w.alloc (.cells (rowB fun _ => 0) 75)) w.heap.size fun _ => 0) := Bk.new _ _
  have BB : Hid (Below w.heap.size w (w.alloc (.cells (rowB fun _ => 0) 75))) := (Below.refl _ _).alloc (Nat.le_refl _) _
  clear hl
  go_enter Try.func25, Try.ntmps25
  go_wp2_with fail
  go_loopw [3, 4, 5, 7] (fun y3 y4 y5 x wr => ∃ (k : Nat) (up dn al : Bool) (f : Nat → Int), k ≤ bs.length ∧ x = .int .i64 (k : Int) ∧ y3 = .bool up ∧ y4 = .bool dn ∧ y5 = .bool al ∧ Hid (RxAt bs k up dn al f) ∧ Hid (Bk wr w.heap.size f) ∧ Hid (Below w.heap.size w wr)) (fun _ _ _ x _ => bs.length - (intOf x).toNat)
  case atStart => exact ⟨0, false, false, decide (0 < bs.length), fun _ => 0, by omega, rfl, rfl, rfl, rfl, RxAt.start bs, BK.out, BB.out⟩
  case round =>
    clear BK BB hz hl3 hl4
    obtain ⟨k, up, dn, al, f, hk, rfl, rfl, rfl, rfl, hR, bk, bb⟩ := hrel
    by_cases ck : k < bs.length
    · have k2 : (k : Int) < (bs.length : Int) := by omega
      obtain ⟨g, off, rfl, hd⟩ := h0.out (by omega)
      have hc := hd k ck
      rw [flt_get bs k ck] at hc
      have hc2 : wr.cell? ⟨g, off + k, none⟩ = some (.float .f64 (bs.getD k 0)) := (bb.out.cell (p := ⟨g, off + k, none⟩) (by simpa using World.block_lt_of_cell? w _ hc)).trans hc
      clear hc hd
      have hb' := getD_lt hb.out k ck
      have k42 := none_any (bs.getD k 0)
      cases hn : nan64 (bs.getD k 0)
      · rw [hn] at k42
        have k44 := fun w => infinite_doc (bs.getD k 0) w hb' hn
        have ho := ord_nul hb' hn
        have ck2 : Hid (k < bs.length) := ck
        cases hi : infB (bs.getD k 0)
        · rw [hi] at k44
          obtain ⟨q, k47, hR'⟩ := hR.out.fin hb.out ck HL.out hn hi
          have k45 := fun w => negative_any (bs.getD k 0) w hb'
          have k46 := fun w => rparts_any (bs.getD k 0) w hb'
          have HR' : Hid (RxAt bs (k + 1) up dn (al && (nulB (bs.getD k 0) && sgB (bs.getD k 0))) q) := hR'
          have hnul : nulB (bs.getD k 0) = decide (plc64 (bs.getD k 0) = 0) := by
            unfold nulB plc64
            rw [decide_eq_decide]
            split <;> omega
          clear hR' hR hn hi hb' ck
          generalize pmB (bs.getD k 0) = PM at *
          generalize peB (bs.getD k 0) = PE at *
          generalize sgB (bs.getD k 0) = S at *
          generalize nulB (bs.getD k 0) = Z at *
          generalize plc64 (bs.getD k 0) = PL at *
          generalize bs.getD k 0 = b at *
          cases al
          · clear ho hnul
            go_wp2_with fail
            refine (k42 _).mono ?_
            rintro e w1 ⟨rfl, rfl⟩
            go_wp2_with fail
            refine (k44 _).mono ?_
            rintro e w1 ⟨rfl, rfl⟩
            go_wp2_with fail
            refine (k46 _).mono ?_
            rintro e w1 ⟨rfl, rfl⟩
            go_wp2_with (refine wpList_ld rfl 75 _ rfl w.heap.size rfl 280 Try.underlying75 rfl (by kernel_rfl) (rowB f) bk.out.isRow bk.out.rowIn ?_)
            refine (k47 _).mono ?_
            rintro e w2 ⟨rfl, b2⟩
            have bk1 := bk.out.below b2
            have bb1 := bb.out.trans (b2.mono bb.out.size)
            have hR1 := bk1.isRow
            have bk2 : Hid (Bk (w2.setRow w.heap.size (rowB q)) w.heap.size q) := bk1.set _
            have bb2 : Hid (Below w.heap.size w (w2.setRow w.heap.size (rowB q))) := below_setRow bb1 (Nat.le_refl _) _
            clear b2 bk1 bb1 k47
            go_wp2
            exact ⟨⟨k + 1, up, dn, _, q, ck2.out, by go_num, rfl, rfl, rfl, HR'.out, bk2.out, bb2.out⟩, by have := ck2.out; simp [intOf]; omega⟩
          · rcases Int.lt_trichotomy PL 0 with c | c | c
            · rw [cmp_lt c] at ho
              rw [decide_eq_false (by omega)] at hnul
              subst hnul
              clear c
              go_wp2_with fail
              refine (k42 _).mono ?_
              rintro e w1 ⟨rfl, rfl⟩
              go_wp2_with fail
              refine (k44 _).mono ?_
              rintro e w1 ⟨rfl, rfl⟩
              go_wp2_with fail
              refine (k46 _).mono ?_
              rintro e w1 ⟨rfl, rfl⟩
              go_wp2_with (refine wpList_ld rfl 75 _ rfl w.heap.size rfl 280 Try.underlying75 rfl (by kernel_rfl) (rowB f) bk.out.isRow bk.out.rowIn ?_)
              refine (k47 _).mono ?_
              rintro e w2 ⟨rfl, b2⟩
              have bk1 := bk.out.below b2
              have bb1 := bb.out.trans (b2.mono bb.out.size)
              have hR1 := bk1.isRow
              have bk2 : Hid (Bk (w2.setRow w.heap.size (rowB q)) w.heap.size q) := bk1.set _
              have bb2 : Hid (Below w.heap.size w (w2.setRow w.heap.size (rowB q))) := below_setRow bb1 (Nat.le_refl _) _
              clear b2 bk1 bb1 k47
              go_wp2
              exact ⟨⟨k + 1, up, dn, _, q, ck2.out, by go_num, rfl, rfl, rfl, HR'.out, bk2.out, bb2.out⟩, by have := ck2.out; simp [intOf]; omega⟩
            · rw [cmp_eq c] at ho
              rw [decide_eq_true c] at hnul
              subst hnul
              clear c
              go_wp2_with fail
              refine (k42 _).mono ?_
              rintro e w1 ⟨rfl, rfl⟩
              go_wp2_with fail
              refine (k44 _).mono ?_
              rintro e w1 ⟨rfl, rfl⟩
              go_wp2_with fail
              refine (k45 _).mono ?_
              rintro e w1 ⟨rfl, rfl⟩
              go_wp2_with fail
              refine (k46 _).mono ?_
              rintro e w1 ⟨rfl, rfl⟩
              go_wp2_with (refine wpList_ld rfl 75 _ rfl w.heap.size rfl 280 Try.underlying75 rfl (by kernel_rfl) (rowB f) bk.out.isRow bk.out.rowIn ?_)
              refine (k47 _).mono ?_
              rintro e w2 ⟨rfl, b2⟩
              have bk1 := bk.out.below b2
              have bb1 := bb.out.trans (b2.mono bb.out.size)
              have hR1 := bk1.isRow
              have bk2 : Hid (Bk (w2.setRow w.heap.size (rowB q)) w.heap.size q) := bk1.set _
              have bb2 : Hid (Below w.heap.size w (w2.setRow w.heap.size (rowB q))) := below_setRow bb1 (Nat.le_refl _) _
              clear b2 bk1 bb1 k47
              go_wp2
              exact ⟨⟨k + 1, up, dn, _, q, ck2.out, by go_num, rfl, rfl, rfl, HR'.out, bk2.out, bb2.out⟩, by have := ck2.out; simp [intOf]; omega⟩
            · rw [cmp_gt c] at ho
              rw [decide_eq_false (by omega)] at hnul
              subst hnul
              clear c
              go_wp2_with fail
              refine (k42 _).mono ?_
              rintro e w1 ⟨rfl, rfl⟩
              go_wp2_with fail
              refine (k44 _).mono ?_
              rintro e w1 ⟨rfl, rfl⟩
              go_wp2_with fail
              refine (k46 _).mono ?_
              rintro e w1 ⟨rfl, rfl⟩
              go_wp2_with (refine wpList_ld rfl 75 _ rfl w.heap.size rfl 280 Try.underlying75 rfl (by kernel_rfl) (rowB f) bk.out.isRow bk.out.rowIn ?_)
              refine (k47 _).mono ?_
              rintro e w2 ⟨rfl, b2⟩
              have bk1 := bk.out.below b2
              have bb1 := bb.out.trans (b2.mono bb.out.size)
              have hR1 := bk1.isRow
              have bk2 : Hid (Bk (w2.setRow w.heap.size (rowB q)) w.heap.size q) := bk1.set _
              have bb2 : Hid (Below w.heap.size w (w2.setRow w.heap.size (rowB q))) := below_setRow bb1 (Nat.le_refl _) _
              clear b2 bk1 bb1 k47
              go_wp2
              exact ⟨⟨k + 1, up, dn, _, q, ck2.out, by go_num, rfl, rfl, rfl, HR'.out, bk2.out, bb2.out⟩, by have := ck2.out; simp [intOf]; omega⟩
        · rw [hi] at k44
          have hI : Hid (RxAt bs (k + 1) (up || !sgB (bs.getD k 0)) (dn || sgB (bs.getD k 0)) false f) := hR.out.inf hb.out ck hn hi _ rfl
          have hinf := of_decide_eq_true hi
          cases hs : sgB (bs.getD k 0)
          · have hs' := of_decide_eq_false hs
            rw [show plc64 (bs.getD k 0) = _ from if_pos (by omega), cmp_gt (by omega)] at ho
            rw [hs] at hI
            clear hR hn hi hb' ck hs hs' hinf
            generalize bs.getD k 0 = b at *
            cases up <;> cases dn
            all_goals
              go_wp2_with fail
              refine (k42 _).mono ?_
              rintro e w1 ⟨rfl, rfl⟩
              go_wp2_with fail
              refine (k44 _).mono ?_
              rintro e w1 ⟨rfl, rfl⟩
              go_wp2
              exact ⟨⟨k + 1, _, _, false, f, ck2.out, by go_num, rfl, rfl, rfl, hI.out, bk.out, bb.out⟩, by have := ck2.out; simp [intOf]; omega⟩
          · have hs' := of_decide_eq_true hs
            rw [show plc64 (bs.getD k 0) = _ from if_neg (by omega), cmp_lt (by omega)] at ho
            rw [hs] at hI
            clear hR hn hi hb' ck hs hs' hinf
            generalize bs.getD k 0 = b at *
            cases up <;> cases dn
            all_goals
              go_wp2_with fail
              refine (k42 _).mono ?_
              rintro e w1 ⟨rfl, rfl⟩
              go_wp2_with fail
              refine (k44 _).mono ?_
              rintro e w1 ⟨rfl, rfl⟩
              go_wp2
              exact ⟨⟨k + 1, _, _, false, f, ck2.out, by go_num, rfl, rfl, rfl, hI.out, bk.out, bb.out⟩, by have := ck2.out; simp [intOf]; omega⟩
      · rw [hn] at k42
        have HX : Hid (rxB bs = 9218868437227405313) := by
          show rxB bs = _
          unfold rxB
          rw [exF_n hb.out ⟨k, ck, hn⟩]
          rfl
        clear hR hn hb' ck
        generalize bs.getD k 0 = b at *
        go_wp2_with fail
        refine (k42 _).mono ?_
        rintro e w1 ⟨rfl, rfl⟩
        go_wp2_with fail
        refine (k43 _).mono ?_
        rintro e w1 ⟨rfl, rfl⟩
        go_wp2
        (try simp only [Exit.inBlock, Exit.then])
        go_ret
        exact ⟨by rw [HX.out]; rfl, bb.out⟩
    · have k2 : ¬ (k : Int) < (bs.length : Int) := by omega
      have e : k = bs.length := by omega
      subst e
      clear h0 hk ck
      cases up <;> cases dn
      · have k49 : Hid (∀ w', Calls Try.prog 62 #[.agg (rowB f), .bool al] w' fun e w'' => e = .returned (.float .f64 (rxB bs)) ∧ Below w'.heap.size w' w'') := fun w' => hR.out.out hb.out HL.out w'
        clear hR
        go_wp2_with (refine wpList_ld rfl 75 _ rfl w.heap.size rfl 280 Try.underlying75 rfl (by kernel_rfl) (rowB f) bk.out.isRow bk.out.rowIn ?_)
        refine (k49.out _).mono ?_
        rintro e w2 ⟨rfl, b2⟩
        have bb1 : Hid (Below w.heap.size w w2) := bb.out.trans (b2.mono bb.out.size)
        clear b2 k49
        go_wp2
        (try simp only [Exit.inBlock, Exit.then])
        go_ret
        exact ⟨rfl, bb1.out⟩
      · have HX : Hid (rxB bs = 18442240474082181120) := rx_down hR.out
        clear hR
        go_wp2
        (try simp only [Exit.inBlock, Exit.then])
        go_ret
        exact ⟨by rw [HX.out]; rfl, bb.out⟩
      · have HX : Hid (rxB bs = 9218868437227405312) := rx_up hR.out
        clear hR
        go_wp2
        (try simp only [Exit.inBlock, Exit.then])
        go_ret
        exact ⟨by rw [HX.out]; rfl, bb.out⟩
      · have HX : Hid (rxB bs = 9218868437227405313) := rx_both hR.out
        clear hR
        go_wp2_with fail
        refine (k43 _).mono ?_
        rintro e w1 ⟨rfl, rfl⟩
        go_wp2
        (try simp only [Exit.inBlock, Exit.then])
        go_ret
        exact ⟨by rw [HX.out]; rfl, bb.out⟩
end Go.Proofs.Ytdhfkdopcphjlab
