/-
  The walk of the law ScalarCleans: it returns true and turns nothing that was there. Conditions: the text has at most about a million bytes; the library's two tables hold what their text lays.
-/
import Derived.Test.YtabofadjnbpjkaaDoorRw
import Derived.Test.YtabofadjnbpjkaaDoorLawE
import Derived.Test.YtabofadjnbpjkaaDoorKr
import Derived.Test.YtabofadjnbpjkaaDoorCv
namespace Go.Proofs.YtabofadjnbpjkaaDoor
open Go.RowKit Go.Lib
set_option maxRecDepth 100000 in
set_option maxHeartbeats 4000000 in
theorem lawK (s : ByteArray) (most : Int) (w : World) (hs : s.size ≤ 1048576) (hT : Utf8Tabs 0 1 w) (hg : 2 ≤ w.heap.size) : Calls Tryd.prog 8 #[.string s, .int .i64 most] w fun e w' => e = .returned (.bool true) ∧ Below w.heap.size w w' := by
  have hlen : (poss s).length ≤ s.size := posAt_len s s.size 0 (by omega)
  have hnl : (nums s).length = (poss s).length := by simp [nums]
  have k0 := awake_any w hT hg
  have hb : badFrom (nums s) 0 = -1 := (all_valid _ 0).2 (nums_valid s)
  have hencA : encA (nums s) = .tuple #[.string (runesBytes (nums s)), .int .i64 0, .int .i64 0] := by unfold encA; rw [if_pos hb]
  have hC := clean_size s
  obtain ⟨tw1, tw2⟩ := clean_twice s
  have hright := right_text s
  obtain ⟨C, hCe⟩ : ∃ C, runesBytes (nums s) = C := ⟨_, rfl⟩
  rw [hCe] at hencA hC tw1 tw2 hright
  have HC : Hid (runesBytes (nums s) = C ∧ nums C = nums s) := ⟨hCe, tw1⟩
  have HRT : Hid (wrongOf s (poss s) = -1 → C = s) := hright
  clear hCe tw1 hright hb
  go_enter Tryd.func8, Tryd.ntmps8
  go_wp2_with fail
  refine k0.mono ?_
  rintro e w1 ⟨rfl, b1⟩
  have z1 := b1.size
  clear k0
  go_wp2_with (go_at_call 16; refine (rdecode_any s w1 (by omega)).mono ?_)
  rintro e w2 ⟨v2, rfl, o2, b2⟩
  have z2 := b2.size
  rw [runes_nums, ← hnl] at o2
  have k2 := renc_any (nums s) v2 w2 (by omega) (Rds.of_owns o2)
  rw [hencA] at k2
  clear o2 hencA
  go_wp2_with (go_at_call 24; refine k2.mono ?_)
  rintro e w3 ⟨rfl, b3⟩
  have z3 := b3.size
  have B3 : Below w.heap.size w w3 := (b1.trans (b2.mono z1)).trans (b3.mono (by omega))
  have T3 := tabs_below hT (by omega) B3
  have k3 := clean_any s w3 (by omega) T3 (by omega)
  rw [HC.out.1] at k3
  clear b1 b2 b3 k2
  go_wp2_with (go_at_call 30; refine k3.mono ?_)
  rintro e w4 ⟨rfl, b4⟩
  have z4 := b4.size
  have B4 : Below w.heap.size w w4 := B3.trans (b4.mono (by omega))
  have T4 := tabs_below hT (by omega) B4
  have k4 := wrong_any C w4 (by omega) T4 (by omega)
  rw [tw2] at k4
  clear B3 T3 b4 k3 tw2
  go_wp2_with (go_at_call 20; refine k4.mono ?_)
  rintro e w5 ⟨rfl, b5⟩
  have z5 := b5.size
  have B5 : Below w.heap.size w w5 := B4.trans (b5.mono (by omega))
  have T5 := tabs_below hT (by omega) B5
  have k5 := clean_any C w5 (by omega) T5 (by omega)
  rw [HC.out.2, HC.out.1] at k5
  clear B4 T4 b5 k4
  go_wp2_with (go_at_call 30; refine k5.mono ?_)
  rintro e w6 ⟨rfl, b6⟩
  have z6 := b6.size
  have B6 : Below w.heap.size w w6 := B5.trans (b6.mono (by omega))
  have T6 := tabs_below hT (by omega) B6
  have k6 := wrong_any s w6 (by omega) T6 (by omega)
  clear B5 T5 b6 k5
  go_wp2_with (go_at_call 20; refine k6.mono ?_)
  rintro e w7 ⟨rfl, b7⟩
  have z7 := b7.size
  have B7 : Below w.heap.size w w7 := B6.trans (b7.mono (by omega))
  clear B6 T6 b7 k6
  have HB7 : Hid (Below w.heap.size w w7) := B7
  clear B7
  have k7 := rpieces_any s w7 (by omega)
  obtain ⟨x, hx⟩ : ∃ x, wrongOf s (poss s) = x := ⟨_, rfl⟩
  rw [hx] at HRT ⊢
  clear hx
  have hx2 : (x == (-1 : Int)) = false ∨ ((x == (-1 : Int)) = true ∧ C = s) := by
    by_cases h : x = -1
    · exact .inr ⟨by simp [h], HRT.out h⟩
    · exact .inl (beq_false_of_ne h)
  clear HRT HC
  rcases hx2 with hx | ⟨hx, hCs⟩
  · clear hC
    go_wp2_with (go_at_call 18; refine k7.mono ?_)
    rintro e w8 ⟨v8, rfl, o8, b8⟩
    have z8 := b8.size
    obtain ⟨a8, c8, rfl, hn8⟩ := owns_slice o8
    have O8 : Hid (w8.ownsRow w7.heap.size 35 4 (.slice a8 (poss s).length c8) (poss s).length (pcsC s (poss s))) := o8
    have HB8 : Hid (Below w.heap.size w w8) := HB7.out.trans (b8.mono (by omega))
    clear o8 b8 k7 HB7
    go_wp2_with fail
    go_loopw [9, 51] (fun u i wr => ∃ (k : Nat), i = .int .i64 k ∧ k ≤ (poss s).length ∧ u = .int .i64 ((endFrom s 0 (((poss s).take k).takeWhile (okP s most)) : Nat) : Int) ∧ Hid (Below w8.heap.size w8 wr)) (fun _ i _ => (poss s).length - (RowKit.intOf i).toNat)
    case atStart => exact ⟨0, rfl, by omega, rfl, Below.refl _ _⟩
    case round =>
      obtain ⟨k, rfl, hk, rfl, HB⟩ := hrel
      by_cases hlt : k < (poss s).length
      · have hlti : (k : Int) < ((poss s).length : Int) := by omega
        obtain ⟨g, rfl⟩ := hn8 (by omega)
        have p8 := owns_below O8.out HB.out
        have hq : (poss s)[k]? = some (poss s)[k] := List.getElem?_eq_getElem hlt
        obtain ⟨q, hq0⟩ : ∃ q, (poss s)[k] = q := ⟨_, rfl⟩
        rw [hq0] at hq
        have d0 : wr.cell? ⟨g, k * 4, none⟩ = some (.int .i64 q) := owns_cell p8 rfl _ _ ((pcsC_at s 0 (by omega) _ _ _ hq).trans rfl)
        have d1 : wr.cell? ⟨g, k * 4 + 1, none⟩ = some (.int .i64 (pSt s q)) := owns_cell p8 rfl _ _ ((pcsC_at s 1 (by omega) _ _ _ hq).trans rfl)
        have d2 : wr.cell? ⟨g, k * 4 + 2, none⟩ = some (.int .i32 (pRu s q)) := owns_cell p8 rfl _ _ ((pcsC_at s 2 (by omega) _ _ _ hq).trans rfl)
        have d3 : wr.cell? ⟨g, k * 4 + 3, none⟩ = some (.bool (pWr s q)) := owns_cell p8 rfl _ _ ((pcsC_at s 3 (by omega) _ _ _ hq).trans rfl)
        have hqs : q < s.size := (posAt_ge s _ 0 (Nat.le_refl _) q (List.mem_of_getElem? hq)).2
        have hps := pSt_le s q hqs
        have hst := take_step s most k q hq
        have HST : Hid _ := hst
        have hwz := HB.out.size
        have HBA : Hid (Below w8.heap.size w8 (wr.alloc (.cells #[.int .i64 q, .int .i64 (pSt s q), .int .i32 (pRu s q), .bool (pWr s q)] 35))) := HB.out.alloc hwz _
        clear p8 hq hq0 hst HB
        by_cases hm : (q : Int) + (pSt s q : Int) ≤ most
        · have HU : Hid (endFrom s 0 (((poss s).take (k + 1)).takeWhile (okP s most)) = q + pSt s q) := by
            unfold Hid
            rw [HST.out, if_pos (by unfold okP; rw [decide_eq_true_iff]; exact hm)]
          go_wp2
          exact ⟨⟨k + 1, by go_num, by omega, by rw [HU.out]; go_num, HBA⟩, by simp [RowKit.intOf]; omega⟩
        · have HU : Hid (endFrom s 0 (((poss s).take (k + 1)).takeWhile (okP s most)) = endFrom s 0 (((poss s).take k).takeWhile (okP s most))) := by
            unfold Hid
            rw [HST.out, if_neg (by unfold okP; rw [decide_eq_true_iff]; exact hm)]
          go_wp2
          exact ⟨⟨k + 1, by go_num, by omega, by rw [HU.out], HBA⟩, by simp [RowKit.intOf]; omega⟩
      · have hlti : ¬ (k : Int) < ((poss s).length : Int) := by omega
        have e : k = (poss s).length := by omega
        subst e
        rw [List.take_length]
        have bw := HB8.out.trans (HB.out.mono (by have := HB8.out.size; omega))
        have T9 := tabs_below hT (by omega) bw
        have kc := cut_any s most wr (by omega) T9 (by have := bw.size; omega)
        unfold cutE at kc
        obtain ⟨E, hE⟩ : ∃ E, endFrom s 0 ((poss s).takeWhile (okP s most)) = E := ⟨_, rfl⟩
        rw [hE] at kc ⊢
        have hsplit : poss s = (poss s).takeWhile (okP s most) ++ (poss s).dropWhile (okP s most) := List.takeWhile_append_dropWhile.symm
        obtain ⟨hn1, hn2⟩ := end_next s _ 0 _ (Nat.zero_le _) hsplit
        rw [hE] at hn1 hn2
        rw [hn1] at hsplit
        have hrc := runes_cut s E hn2 _ hsplit
        have HBW : Hid (Below w.heap.size w wr) := bw
        have hEi : (E : Int) ≤ (s.size : Int) := by omega
        clear hsplit hn1 hE HB bw
        go_wp2_with (go_at_call 31; refine kc.mono ?_; rintro e w9 ⟨rfl, b9⟩)
        have hB9 : Below w.heap.size w w9 := HBW.out.trans (b9.mono HBW.out.size)
        have hnn : nums s = nums (s.extract 0 E) ++ nums (s.extract E s.size) := by
          rw [runes_nums, runes_nums, runes_nums, ← List.map_append] at hrc
          exact (List.map_inj_right (fun a b h => by injection h)).1 hrc
        have hsz9 := hB9.size
        obtain ⟨X, hX⟩ : ∃ X, s.extract 0 E = X := ⟨_, rfl⟩
        obtain ⟨Y, hY⟩ : ∃ Y, s.extract E s.size = Y := ⟨_, rfl⟩
        have lX : X.size ≤ 1048576 := by rw [← hX]; simp; omega
        have lY : Y.size ≤ 1048576 := by rw [← hY]; simp; omega
        rw [hX] at hnn ⊢
        rw [hY] at hnn
        have nl : (nums s).length = (nums X).length + (nums Y).length := by rw [hnn, List.length_append]
        have HX : Hid (s.extract 0 E = X ∧ s.extract E s.size = Y ∧ nums s = nums X ++ nums Y) := ⟨hX, hY, hnn⟩
        clear hX hY hnn hrc b9 kc
        go_wp2
        obtain ⟨hX, hY, hnn⟩ := HX.out
        refine wp_keep fun a0 ha0 => ?_
        have hz : a0.tmps.size = 90 := by rw [ha0]; rfl
        have s0 : a0.tmps[0]? = some (.string s) := by rw [ha0]; rfl
        have s9 : a0.tmps[9]? = some (.int .i64 (E : Nat)) := by rw [ha0]; rfl
        have s12 : a0.tmps[12]? = some (.string X) := by rw [ha0]; rfl
        have HA : Hid (a0 = _) := ha0
        clear ha0
        refine wp_region_turn (gK s w) (fun m => nthP (lK w.heap.size s X Y E m)) 90 hz (by kernel_rfl) (by kernel_rfl) ?start ⟨?o0, ?o1, ?o2, ?o3, ?o4, ?o5, ?o6, ?o7, ?o8, ?o9, ?o10, ?o11, ?o12, ?o13, ?o14, ?o15, ?o16, ?o17, ?o18, ?o19, trivial⟩ ?done
        case start =>
          intro w4 hb4 hs4 m hm
          exact ⟨hB9.trans (hb4.mono hsz9), fun h => by rw [hm] at h; cases h⟩
        case o0 =>
          refine FlowOp4.plain (k_calm 0 _ (by decide) (by rfl)) fun a1 w4 m cx => ?_
          have s12 := cx.keep 12 _ (by kernel_rfl) s12
          refine ⟨wanted_none rfl, fun K hK => ?_⟩
          exact wp_moved _ rfl _ (ev_tmp s12) (hK.out _ _ rfl (Below.refl _ _))
        case o1 =>
          refine FlowOp4.plain (k_calm 1 _ (by decide) (by rfl)) fun a1 w4 m cx => ?_
          have s0 := cx.keep 0 _ (by kernel_rfl) s0
          refine ⟨wanted_none rfl, fun K hK => ?_⟩
          exact wp_moved _ rfl _ (ev_tmp s0) (hK.out _ _ rfl (Below.refl _ _))
        case o2 =>
          refine FlowOp4.plain (k_calm 2 _ (by decide) (by rfl)) fun a1 w4 m cx => ?_
          have s9 := cx.keep 9 _ (by kernel_rfl) s9
          refine ⟨wanted_none rfl, fun K hK => ?_⟩
          exact wp_moved _ rfl _ (ev_tmp s9) (hK.out _ _ rfl (Below.refl _ _))
        case o3 =>
          refine FlowOp4.plain (k_calm 3 _ (by decide) (by rfl)) fun a1 w4 m cx => ?_
          obtain ⟨v72, s72, p72⟩ := cx.slot 1 72 (by kernel_rfl)
          replace p72 : v72 = .string s := p72
          subst p72
          obtain ⟨v73, s73, p73⟩ := cx.slot 2 73 (by kernel_rfl)
          replace p73 : v73 = .int .i64 (E : Nat) := p73
          subst p73
          refine ⟨wanted_none rfl, fun K hK => ?_⟩
          exact wp_gen [(72, .string s), (73, .int .i64 (E : Nat))] ⟨s72, s73, trivial⟩ (by kernel_rfl) (front_op _ 72 73 rfl rfl w4 s E hn2) (hK.out _ _ (by rw [hX]; rfl) (Below.refl _ _))
        case o4 =>
          refine FlowOp4.plain (k_calm 4 _ (by decide) (by rfl)) fun a1 w4 m cx => ?_
          obtain ⟨v71, s71, p71⟩ := cx.slot 0 71 (by kernel_rfl)
          replace p71 : v71 = .string X := p71
          subst p71
          obtain ⟨v74, s74, p74⟩ := cx.slot 3 74 (by kernel_rfl)
          replace p74 : v74 = .string X := p74
          subst p74
          refine ⟨wanted_none rfl, fun K hK => ?_⟩
          exact wp_gen [(71, .string X), (74, .string X)] ⟨s71, s74, trivial⟩ (by kernel_rfl) (v := .bool true) (w' := w4) (str_eq X 71 74 _ rfl rfl w4) (hK.out _ _ rfl (Below.refl _ _))
        case o5 =>
          refine FlowOp4.plain (k_calm 5 _ (by decide) (by rfl)) fun a1 w4 m cx => ?_
          obtain ⟨v75, s75, p75⟩ := cx.slot 4 75 (by kernel_rfl)
          replace p75 : v75 = .bool true := p75
          subst p75
          refine ⟨wanted_none rfl, fun K hK => ?_⟩
          exact wp_moved _ rfl _ (ev_tmp s75) (hK.out _ _ rfl (Below.refl _ _))
        case o6 =>
          refine FlowOp4.plain (k_calm 6 _ (by decide) (by rfl)) fun a1 w4 m cx => ?_
          obtain ⟨v76, s76, p76⟩ := cx.slot 5 76 (by kernel_rfl)
          replace p76 : v76 = .bool true := p76
          subst p76
          have s0 := cx.keep 0 _ (by kernel_rfl) s0
          refine ⟨wanted_yes rfl rfl s76, fun K hK => ?_⟩
          exact wp_moved _ rfl _ (ev_tmp s0) (hK.out _ _ rfl (Below.refl _ _))
        case o7 =>
          refine FlowOp4.turn fun a1 w4 m cx => ?_
          obtain ⟨v76, s76, p76⟩ := cx.slot 5 76 (by kernel_rfl)
          replace p76 : v76 = .bool true := p76
          subst p76
          obtain ⟨v77, s77, p77⟩ := cx.slot 6 77 (by kernel_rfl)
          replace p77 : v77 = .string s := p77
          subst p77
          have bl := cx.ground.1
          have hz4 := bl.size
          refine ⟨wanted_yes rfl rfl s76, fun K hK => ?_⟩
          refine wp_gen_call [(77, .string s)] ⟨s77, trivial⟩ (vs := #[.string s]) (f := 15) (by kernel_rfl) (fun w => by kernel_rfl) ?_
          refine (decode_any s w4 (by omega) (tabs_below hT (by omega) bl) (by omega)).mono ?_
          rintro e w5 ⟨v, rfl, ho, hb⟩
          replace ho : w5.ownsRow w4.heap.size 21 1 v (nums s).length (intsC (nums s)) := by
            rw [runes_nums] at ho
            rw [show (nums s).length = (poss s).length by unfold nums; rw [List.length_map]]
            exact ho
          refine ⟨_, rfl, hK.out v w5 ⟨bl.trans (hb.mono hz4), fun _ h11 h16 _ x y hx hy g hg => ?_⟩ (ownQ.of ho hz4 hb.size) (fun j _ _ u _ _ _ _ hu => lK_below hu hb)⟩
          have e11 : m 11 = true := h11
          have e16 : m 16 = false := h16
          obtain ⟨y', hy1, hy2⟩ := cx.got 11 _ 82 rfl e11 rfl
          have hy3 : a1.tmps[82]? = some y := by rw [put_at (by simp)] at hy; exact hy
          rw [hy1] at hy3
          cases hy3
          rcases (show m 16 = true ∨ ownR w.heap.size (nums X) y w4 from hy2) with q | q
          · rw [e16] at q; cases q
          · intro e
            have h1 := own_lt q g e
            have hl : 78 < a1.tmps.size := by rw [cx.tsz, hz]; decide
            have hx2 : x = v := by
              have : (a1.put (some 78) v).tmps[78]? = some x := hx
              simp [Act.put, hl] at this
              exact this.symm
            subst hx2
            have := (ho.lt g hg).1
            omega
        case o8 =>
          refine FlowOp4.plain (k_calm 8 _ (by decide) (by rfl)) fun a1 w4 m cx => ?_
          obtain ⟨v76, s76, p76⟩ := cx.slot 5 76 (by kernel_rfl)
          replace p76 : v76 = .bool true := p76
          subst p76
          refine ⟨wanted_yes rfl rfl s76, fun K hK => ?_⟩
          exact wp_gen [] trivial (by kernel_rfl) (v := .slice (some ⟨w4.heap.size, 0, none⟩) 0 0) (w' := w4.alloc (.cells #[] 21)) (by kernel_rfl) (hK.out _ _ (.inr ⟨_, cx.ground.1.size, rfl, World.alloc_heap_new _ _⟩) ((Below.refl _ _).alloc (Nat.le_refl _) _))
        case o9 =>
          refine FlowOp4.plain (k_calm 9 _ (by decide) (by rfl)) fun a1 w4 m cx => ?_
          obtain ⟨v76, s76, p76⟩ := cx.slot 5 76 (by kernel_rfl)
          replace p76 : v76 = .bool true := p76
          subst p76
          have s12 := cx.keep 12 _ (by kernel_rfl) s12
          refine ⟨wanted_yes rfl rfl s76, fun K hK => ?_⟩
          exact wp_moved _ rfl _ (ev_tmp s12) (hK.out _ _ rfl (Below.refl _ _))
        case o10 =>
          refine FlowOp4.plain (k_calm 10 _ (by decide) (by rfl)) fun a1 w4 m cx => ?_
          obtain ⟨v76, s76, p76⟩ := cx.slot 5 76 (by kernel_rfl)
          replace p76 : v76 = .bool true := p76
          subst p76
          obtain ⟨v80, s80, p80⟩ := cx.slot 9 80 (by kernel_rfl)
          replace p80 : v80 = .string X := p80
          subst p80
          have bl := cx.ground.1
          have hz4 := bl.size
          refine ⟨wanted_yes rfl rfl s76, fun K hK => ?_⟩
          refine wp_gen_call [(80, .string X)] ⟨s80, trivial⟩ (vs := #[.string X]) (f := 15) (by kernel_rfl) (fun w => by kernel_rfl) ?_
          refine (decode_any X w4 (by omega) (tabs_below hT (by omega) bl) (by omega)).mono ?_
          rintro e w5 ⟨v, rfl, ho, hb⟩
          replace ho : w5.ownsRow w4.heap.size 21 1 v (nums X).length (intsC (nums X)) := by
            rw [runes_nums] at ho
            rw [show (nums X).length = (poss X).length by unfold nums; rw [List.length_map]]
            exact ho
          exact ⟨_, rfl, hK.out v w5 (.inr (ownQ.of ho hz4 hb.size)) hb⟩
        case o11 =>
          refine FlowOp4.turn fun a1 w4 m cx => ?_
          obtain ⟨v76, s76, p76⟩ := cx.slot 5 76 (by kernel_rfl)
          replace p76 : v76 = .bool true := p76
          subst p76
          obtain ⟨v79, s79, p79⟩ := cx.slot 8 79 (by kernel_rfl)
          obtain ⟨v81, s81, p81⟩ := cx.slot 10 81 (by kernel_rfl)
          replace p79 : hollow w.heap.size v79 w4 := (show m 11 = true ∨ hollow w.heap.size v79 w4 from p79).resolve_left (by rw [cx.new]; simp)
          replace p81 : ownQ w.heap.size (nums X) v81 w4 := (show m 11 = true ∨ ownQ w.heap.size (nums X) v81 w4 from p81).resolve_left (by rw [cx.new]; simp)
          have bl := cx.ground.1
          have hz4 := bl.size
          have hg79 : ∀ j, v79.ownBlock = some j → w.heap.size ≤ j := fun j hj => ((hollow_own p79).lt j hj).1
          refine ⟨wanted_yes rfl rfl s76, fun K hK => ?_⟩
          refine wp_append _ _ rfl w.heap.size v79 v81 [] (nums X) (ev_tmp s79) (hollow_own p79) (ev_tmp s81) p81.rdsA (by simp; omega) hz4 ?_
          intro v' w5 ho gr hat
          refine hK.out v' w5 ⟨bl.grown gr hz4 hg79, fun h7 _ h16 hp x y hx hy => ?_⟩ (.inr ⟨Nat.le_trans hz4 gr.size, ho⟩) (fun j _ _ u _ hj _ _ hu => lK_first hu ⟨(fun q => by rw [q, cx.new] at hj; cases hj), (fun q => ?_)⟩ p79 gr)
          · have e7 : m 7 = true := h7
            obtain ⟨x', hx1, hx2⟩ := cx.got 7 _ 78 rfl e7 rfl
            have hx3 : a1.tmps[78]? = some x := by rw [put_at (by simp)] at hx; exact hx
            rw [hx1] at hx3
            cases hx3
            have hl : 82 < a1.tmps.size := by rw [cx.tsz, hz]; decide
            have hy2 : y = v' := by
              have : (a1.put (some 82) v').tmps[82]? = some y := hy
              simp [Act.put, hl] at this
              exact this.symm
            subst hy2
            rcases (show ownQ w.heap.size (nums s) x w4 from hx2) with ⟨rfl, e⟩ | ⟨ad, c, rfl, ho7⟩
            · rw [e] at hp; cases hp
            · have o7 := ho7 hp
              intro g hg e
              rcases hat with q | q
              · exact own_hollow o7 hp p79 g hg (by rw [← q]; exact e)
              · have := own_lt o7 g hg
                rw [q] at e
                cases e
                omega
          · rw [q] at hj
            have := cx.down 16 _ rfl hj 11 (by kernel_rfl)
            rw [cx.new] at this
            cases this
        case o12 =>
          refine FlowOp4.plain (k_calm 12 _ (by decide) (by rfl)) fun a1 w4 m cx => ?_
          obtain ⟨v76, s76, p76⟩ := cx.slot 5 76 (by kernel_rfl)
          replace p76 : v76 = .bool true := p76
          subst p76
          have s0 := cx.keep 0 _ (by kernel_rfl) s0
          refine ⟨wanted_yes rfl rfl s76, fun K hK => ?_⟩
          exact wp_moved _ rfl _ (ev_tmp s0) (hK.out _ _ rfl (Below.refl _ _))
        case o13 =>
          refine FlowOp4.plain (k_calm 13 _ (by decide) (by rfl)) fun a1 w4 m cx => ?_
          obtain ⟨v76, s76, p76⟩ := cx.slot 5 76 (by kernel_rfl)
          replace p76 : v76 = .bool true := p76
          subst p76
          have s9 := cx.keep 9 _ (by kernel_rfl) s9
          refine ⟨wanted_yes rfl rfl s76, fun K hK => ?_⟩
          exact wp_moved _ rfl _ (ev_tmp s9) (hK.out _ _ rfl (Below.refl _ _))
        case o14 =>
          refine FlowOp4.plain (k_calm 14 _ (by decide) (by rfl)) fun a1 w4 m cx => ?_
          obtain ⟨v76, s76, p76⟩ := cx.slot 5 76 (by kernel_rfl)
          replace p76 : v76 = .bool true := p76
          subst p76
          obtain ⟨v83, s83, p83⟩ := cx.slot 12 83 (by kernel_rfl)
          replace p83 : v83 = .string s := p83
          subst p83
          obtain ⟨v84, s84, p84⟩ := cx.slot 13 84 (by kernel_rfl)
          replace p84 : v84 = .int .i64 (E : Nat) := p84
          subst p84
          refine ⟨wanted_yes rfl rfl s76, fun K hK => ?_⟩
          exact wp_gen [(83, .string s), (84, .int .i64 (E : Nat))] ⟨s83, s84, trivial⟩ (by kernel_rfl) (back_op _ 83 84 rfl rfl w4 s E hn2) (hK.out _ _ (by rw [hY]; rfl) (Below.refl _ _))
        case o15 =>
          refine FlowOp4.plain (k_calm 15 _ (by decide) (by rfl)) fun a1 w4 m cx => ?_
          obtain ⟨v76, s76, p76⟩ := cx.slot 5 76 (by kernel_rfl)
          replace p76 : v76 = .bool true := p76
          subst p76
          obtain ⟨v85, s85, p85⟩ := cx.slot 14 85 (by kernel_rfl)
          replace p85 : v85 = .string Y := p85
          subst p85
          have bl := cx.ground.1
          have hz4 := bl.size
          refine ⟨wanted_yes rfl rfl s76, fun K hK => ?_⟩
          refine wp_gen_call [(85, .string Y)] ⟨s85, trivial⟩ (vs := #[.string Y]) (f := 15) (by kernel_rfl) (fun w => by kernel_rfl) ?_
          refine (decode_any Y w4 (by omega) (tabs_below hT (by omega) bl) (by omega)).mono ?_
          rintro e w5 ⟨v, rfl, ho, hb⟩
          replace ho : w5.ownsRow w4.heap.size 21 1 v (nums Y).length (intsC (nums Y)) := by
            rw [runes_nums] at ho
            rw [show (nums Y).length = (poss Y).length by unfold nums; rw [List.length_map]]
            exact ho
          exact ⟨_, rfl, hK.out v w5 (.inr (ownQ.of ho hz4 hb.size)) hb⟩
        case o16 =>
          refine FlowOp4.turn fun a1 w4 m cx => ?_
          obtain ⟨v76, s76, p76⟩ := cx.slot 5 76 (by kernel_rfl)
          replace p76 : v76 = .bool true := p76
          subst p76
          obtain ⟨v82, s82, p82⟩ := cx.slot 11 82 (by kernel_rfl)
          obtain ⟨v86, s86, p86⟩ := cx.slot 15 86 (by kernel_rfl)
          replace p82 : ownR w.heap.size (nums X) v82 w4 := (show m 16 = true ∨ ownR w.heap.size (nums X) v82 w4 from p82).resolve_left (by rw [cx.new]; simp)
          replace p86 : ownQ w.heap.size (nums Y) v86 w4 := (show m 16 = true ∨ ownQ w.heap.size (nums Y) v86 w4 from p86).resolve_left (by rw [cx.new]; simp)
          have bl := cx.ground.1
          have hz4 := bl.size
          have e11 := cx.has 11 (by kernel_rfl)
          have o82 := p82.2
          refine ⟨wanted_yes rfl rfl s76, fun K hK => ?_⟩
          refine wp_append _ _ rfl w.heap.size v82 v86 (nums X) (nums Y) (ev_tmp s82) o82 (ev_tmp s86) p86.rdsA (by omega) hz4 ?_
          intro v' w5 ho gr hat
          refine hK.out v' w5 ⟨bl.grown gr hz4 (fun j hj => (o82.lt j hj).1), fun _ _ h16 => by cases h16⟩ ⟨Nat.le_trans hz4 gr.size, ho⟩ (fun j oj t u hoj hj ht hu hV => lK_second hV (fun q => by rw [q, cx.new] at hj; cases hj) gr (fun q hp => ?_) e11)
          subst q
          have ht' : t = 78 := by
            have : oj.dst = some 78 := by cases hoj; rfl
            rw [ht] at this
            exact Option.some.inj this
          subst ht'
          exact cx.ground.2 hj e11 cx.new hp u v82 hu s82
        case o17 =>
          refine FlowOp4.plain (k_calm 17 _ (by decide) (by rfl)) fun a1 w4 m cx => ?_
          obtain ⟨v76, s76, p76⟩ := cx.slot 5 76 (by kernel_rfl)
          replace p76 : v76 = .bool true := p76
          subst p76
          obtain ⟨v78, s78, p78⟩ := cx.slot 7 78 (by kernel_rfl)
          replace p78 : ownQ w.heap.size (nums s) v78 w4 := p78
          obtain ⟨v87, s87, p87⟩ := cx.slot 16 87 (by kernel_rfl)
          replace p87 : ownR w.heap.size (nums X ++ nums Y) v87 w4 := p87
          rw [← hnn] at p87
          refine ⟨wanted_yes rfl rfl s76, fun K hK => ?_⟩
          refine wp_gen_call [(78, v78), (87, v87)] ⟨s78, s87, trivial⟩ (vs := #[v78, v87]) (f := 14) (by kernel_rfl) (fun w => by kernel_rfl) ?_
          refine (same_rds (nums s) v78 v87 w4 p78.rdsA.rds p87.rdsA.rds (by omega)).mono ?_
          rintro e w5 ⟨rfl, hb⟩
          exact ⟨_, rfl, hK.out _ _ rfl hb⟩
        case o18 =>
          refine FlowOp4.plain (k_calm 18 _ (by decide) (by rfl)) fun a1 w4 m cx => ?_
          obtain ⟨v76, s76, p76⟩ := cx.slot 5 76 (by kernel_rfl)
          replace p76 : v76 = .bool true := p76
          subst p76
          obtain ⟨v88, s88, p88⟩ := cx.slot 17 88 (by kernel_rfl)
          replace p88 : v88 = .bool true := p88
          subst p88
          refine ⟨wanted_none rfl, fun K hK => ?_⟩
          exact wp_picked _ _ _ rfl true (ev_tmp s76) _ (ev_tmp s88) (hK.out _ _ rfl (Below.refl _ _))
        case o19 =>
          refine FlowOp4.plain (k_calm 19 _ (by decide) (by rfl)) fun a1 w4 m cx => ?_
          obtain ⟨v89, s89, p89⟩ := cx.slot 18 89 (by kernel_rfl)
          replace p89 : v89 = .bool true := p89
          subst p89
          refine ⟨wanted_none rfl, fun K hK => ?_⟩
          exact wp_assigned _ rfl _ (ev_tmp s89) (hK.out _ _ rfl (Below.refl _ _))
        case done =>
          intro a w4 m hall hgr hsz hdf hkp hgot
          obtain ⟨v71, s71, p71⟩ := got_slot4 (s := m) (V := fun m => nthP (lK w.heap.size s X Y E m)) hgot 0 71 (by kernel_rfl)
          replace p71 : v71 = .string X := p71
          subst p71
          obtain ⟨v72, s72, p72⟩ := got_slot4 (s := m) (V := fun m => nthP (lK w.heap.size s X Y E m)) hgot 1 72 (by kernel_rfl)
          replace p72 : v72 = .string s := p72
          subst p72
          obtain ⟨v73, s73, p73⟩ := got_slot4 (s := m) (V := fun m => nthP (lK w.heap.size s X Y E m)) hgot 2 73 (by kernel_rfl)
          replace p73 : v73 = .int .i64 (E : Nat) := p73
          subst p73
          obtain ⟨v74, s74, p74⟩ := got_slot4 (s := m) (V := fun m => nthP (lK w.heap.size s X Y E m)) hgot 3 74 (by kernel_rfl)
          replace p74 : v74 = .string X := p74
          subst p74
          obtain ⟨v75, s75, p75⟩ := got_slot4 (s := m) (V := fun m => nthP (lK w.heap.size s X Y E m)) hgot 4 75 (by kernel_rfl)
          replace p75 : v75 = .bool true := p75
          subst p75
          obtain ⟨v76, s76, p76⟩ := got_slot4 (s := m) (V := fun m => nthP (lK w.heap.size s X Y E m)) hgot 5 76 (by kernel_rfl)
          replace p76 : v76 = .bool true := p76
          subst p76
          obtain ⟨v77, s77, p77⟩ := got_slot4 (s := m) (V := fun m => nthP (lK w.heap.size s X Y E m)) hgot 6 77 (by kernel_rfl)
          replace p77 : v77 = .string s := p77
          subst p77
          obtain ⟨v78, s78, p78⟩ := got_slot4 (s := m) (V := fun m => nthP (lK w.heap.size s X Y E m)) hgot 7 78 (by kernel_rfl)
          obtain ⟨v79, s79, p79⟩ := got_slot4 (s := m) (V := fun m => nthP (lK w.heap.size s X Y E m)) hgot 8 79 (by kernel_rfl)
          obtain ⟨v80, s80, p80⟩ := got_slot4 (s := m) (V := fun m => nthP (lK w.heap.size s X Y E m)) hgot 9 80 (by kernel_rfl)
          replace p80 : v80 = .string X := p80
          subst p80
          obtain ⟨v81, s81, p81⟩ := got_slot4 (s := m) (V := fun m => nthP (lK w.heap.size s X Y E m)) hgot 10 81 (by kernel_rfl)
          obtain ⟨v82, s82, p82⟩ := got_slot4 (s := m) (V := fun m => nthP (lK w.heap.size s X Y E m)) hgot 11 82 (by kernel_rfl)
          obtain ⟨v83, s83, p83⟩ := got_slot4 (s := m) (V := fun m => nthP (lK w.heap.size s X Y E m)) hgot 12 83 (by kernel_rfl)
          replace p83 : v83 = .string s := p83
          subst p83
          obtain ⟨v84, s84, p84⟩ := got_slot4 (s := m) (V := fun m => nthP (lK w.heap.size s X Y E m)) hgot 13 84 (by kernel_rfl)
          replace p84 : v84 = .int .i64 (E : Nat) := p84
          subst p84
          obtain ⟨v85, s85, p85⟩ := got_slot4 (s := m) (V := fun m => nthP (lK w.heap.size s X Y E m)) hgot 14 85 (by kernel_rfl)
          replace p85 : v85 = .string Y := p85
          subst p85
          obtain ⟨v86, s86, p86⟩ := got_slot4 (s := m) (V := fun m => nthP (lK w.heap.size s X Y E m)) hgot 15 86 (by kernel_rfl)
          obtain ⟨v87, s87, p87⟩ := got_slot4 (s := m) (V := fun m => nthP (lK w.heap.size s X Y E m)) hgot 16 87 (by kernel_rfl)
          obtain ⟨v88, s88, p88⟩ := got_slot4 (s := m) (V := fun m => nthP (lK w.heap.size s X Y E m)) hgot 17 88 (by kernel_rfl)
          replace p88 : v88 = .bool true := p88
          subst p88
          obtain ⟨v89, s89, p89⟩ := got_slot4 (s := m) (V := fun m => nthP (lK w.heap.size s X Y E m)) hgot 18 89 (by kernel_rfl)
          replace p89 : v89 = .bool true := p89
          subst p89
          obtain ⟨v4, s4, p4⟩ := got_slot4 (s := m) (V := fun m => nthP (lK w.heap.size s X Y E m)) hgot 19 4 (by kernel_rfl)
          replace p4 : v4 = .bool true := p4
          subst p4
          have ha := act_is a a0 [(71, .string X), (72, .string s), (73, .int .i64 (E : Nat)), (74, .string X), (75, .bool true), (76, .bool true), (77, .string s), (78, v78), (79, v79), (80, .string X), (81, v81), (82, v82), (83, .string s), (84, .int .i64 (E : Nat)), (85, .string Y), (86, v86), (87, v87), (88, .bool true), (89, .bool true), (4, .bool true)] (by rw [hsz, hz]) hdf (fun t ht => hkp t (keptAll_of (l := ([(71, .string X), (72, .string s), (73, .int .i64 (E : Nat)), (74, .string X), (75, .bool true), (76, .bool true), (77, .string s), (78, v78), (79, v79), (80, .string X), (81, v81), (82, v82), (83, .string s), (84, .int .i64 (E : Nat)), (85, .string Y), (86, v86), (87, v87), (88, .bool true), (89, .bool true), (4, .bool true)] : List (Nat × Value)).map (·.1)) (by kernel_rfl) t ht)) ⟨s71, s72, s73, s74, s75, s76, s77, s78, s79, s80, s81, s82, s83, s84, s85, s86, s87, s88, s89, s4, trivial⟩
          rw [HA.out] at ha
          have HF : Hid (Below w.heap.size w w4) := hgr.1
          rw [ha]
          clear ha hkp hgot hgr p78 p79 p81 p82 p86 p87 HA
          simp only [List.foldl_cons, List.foldl_nil, List.setIfInBounds_toArray, List.set_cons_succ, List.set_cons_zero]
          go_wp2
          go_ret
          exact ⟨rfl, HF.out⟩
  · rw [hCs]
    clear hC hCs
    go_wp2_with (go_at_call 18; refine k7.mono ?_)
    rintro e w8 ⟨v8, rfl, o8, b8⟩
    have z8 := b8.size
    obtain ⟨a8, c8, rfl, hn8⟩ := owns_slice o8
    have O8 : Hid (w8.ownsRow w7.heap.size 35 4 (.slice a8 (poss s).length c8) (poss s).length (pcsC s (poss s))) := o8
    have HB8 : Hid (Below w.heap.size w w8) := HB7.out.trans (b8.mono (by omega))
    clear o8 b8 k7 HB7
    go_wp2_with fail
    go_loopw [9, 51] (fun u i wr => ∃ (k : Nat), i = .int .i64 k ∧ k ≤ (poss s).length ∧ u = .int .i64 ((endFrom s 0 (((poss s).take k).takeWhile (okP s most)) : Nat) : Int) ∧ Hid (Below w8.heap.size w8 wr)) (fun _ i _ => (poss s).length - (RowKit.intOf i).toNat)
    case atStart => exact ⟨0, rfl, by omega, rfl, Below.refl _ _⟩
    case round =>
      obtain ⟨k, rfl, hk, rfl, HB⟩ := hrel
      by_cases hlt : k < (poss s).length
      · have hlti : (k : Int) < ((poss s).length : Int) := by omega
        obtain ⟨g, rfl⟩ := hn8 (by omega)
        have p8 := owns_below O8.out HB.out
        have hq : (poss s)[k]? = some (poss s)[k] := List.getElem?_eq_getElem hlt
        obtain ⟨q, hq0⟩ : ∃ q, (poss s)[k] = q := ⟨_, rfl⟩
        rw [hq0] at hq
        have d0 : wr.cell? ⟨g, k * 4, none⟩ = some (.int .i64 q) := owns_cell p8 rfl _ _ ((pcsC_at s 0 (by omega) _ _ _ hq).trans rfl)
        have d1 : wr.cell? ⟨g, k * 4 + 1, none⟩ = some (.int .i64 (pSt s q)) := owns_cell p8 rfl _ _ ((pcsC_at s 1 (by omega) _ _ _ hq).trans rfl)
        have d2 : wr.cell? ⟨g, k * 4 + 2, none⟩ = some (.int .i32 (pRu s q)) := owns_cell p8 rfl _ _ ((pcsC_at s 2 (by omega) _ _ _ hq).trans rfl)
        have d3 : wr.cell? ⟨g, k * 4 + 3, none⟩ = some (.bool (pWr s q)) := owns_cell p8 rfl _ _ ((pcsC_at s 3 (by omega) _ _ _ hq).trans rfl)
        have hqs : q < s.size := (posAt_ge s _ 0 (Nat.le_refl _) q (List.mem_of_getElem? hq)).2
        have hps := pSt_le s q hqs
        have hst := take_step s most k q hq
        have HST : Hid _ := hst
        have hwz := HB.out.size
        have HBA : Hid (Below w8.heap.size w8 (wr.alloc (.cells #[.int .i64 q, .int .i64 (pSt s q), .int .i32 (pRu s q), .bool (pWr s q)] 35))) := HB.out.alloc hwz _
        clear p8 hq hq0 hst HB
        by_cases hm : (q : Int) + (pSt s q : Int) ≤ most
        · have HU : Hid (endFrom s 0 (((poss s).take (k + 1)).takeWhile (okP s most)) = q + pSt s q) := by
            unfold Hid
            rw [HST.out, if_pos (by unfold okP; rw [decide_eq_true_iff]; exact hm)]
          go_wp2
          exact ⟨⟨k + 1, by go_num, by omega, by rw [HU.out]; go_num, HBA⟩, by simp [RowKit.intOf]; omega⟩
        · have HU : Hid (endFrom s 0 (((poss s).take (k + 1)).takeWhile (okP s most)) = endFrom s 0 (((poss s).take k).takeWhile (okP s most))) := by
            unfold Hid
            rw [HST.out, if_neg (by unfold okP; rw [decide_eq_true_iff]; exact hm)]
          go_wp2
          exact ⟨⟨k + 1, by go_num, by omega, by rw [HU.out], HBA⟩, by simp [RowKit.intOf]; omega⟩
      · have hlti : ¬ (k : Int) < ((poss s).length : Int) := by omega
        have e : k = (poss s).length := by omega
        subst e
        rw [List.take_length]
        have bw := HB8.out.trans (HB.out.mono (by have := HB8.out.size; omega))
        have T9 := tabs_below hT (by omega) bw
        have kc := cut_any s most wr (by omega) T9 (by have := bw.size; omega)
        unfold cutE at kc
        obtain ⟨E, hE⟩ : ∃ E, endFrom s 0 ((poss s).takeWhile (okP s most)) = E := ⟨_, rfl⟩
        rw [hE] at kc ⊢
        have hsplit : poss s = (poss s).takeWhile (okP s most) ++ (poss s).dropWhile (okP s most) := List.takeWhile_append_dropWhile.symm
        obtain ⟨hn1, hn2⟩ := end_next s _ 0 _ (Nat.zero_le _) hsplit
        rw [hE] at hn1 hn2
        rw [hn1] at hsplit
        have hrc := runes_cut s E hn2 _ hsplit
        have HBW : Hid (Below w.heap.size w wr) := bw
        have hEi : (E : Int) ≤ (s.size : Int) := by omega
        clear hsplit hn1 hE HB bw
        go_wp2_with (go_at_call 31; refine kc.mono ?_; rintro e w9 ⟨rfl, b9⟩)
        have hB9 : Below w.heap.size w w9 := HBW.out.trans (b9.mono HBW.out.size)
        have hnn : nums s = nums (s.extract 0 E) ++ nums (s.extract E s.size) := by
          rw [runes_nums, runes_nums, runes_nums, ← List.map_append] at hrc
          exact (List.map_inj_right (fun a b h => by injection h)).1 hrc
        have hsz9 := hB9.size
        obtain ⟨X, hX⟩ : ∃ X, s.extract 0 E = X := ⟨_, rfl⟩
        obtain ⟨Y, hY⟩ : ∃ Y, s.extract E s.size = Y := ⟨_, rfl⟩
        have lX : X.size ≤ 1048576 := by rw [← hX]; simp; omega
        have lY : Y.size ≤ 1048576 := by rw [← hY]; simp; omega
        rw [hX] at hnn ⊢
        rw [hY] at hnn
        have nl : (nums s).length = (nums X).length + (nums Y).length := by rw [hnn, List.length_append]
        have HX : Hid (s.extract 0 E = X ∧ s.extract E s.size = Y ∧ nums s = nums X ++ nums Y) := ⟨hX, hY, hnn⟩
        clear hX hY hnn hrc b9 kc
        go_wp2
        obtain ⟨hX, hY, hnn⟩ := HX.out
        refine wp_keep fun a0 ha0 => ?_
        have hz : a0.tmps.size = 90 := by rw [ha0]; rfl
        have s0 : a0.tmps[0]? = some (.string s) := by rw [ha0]; rfl
        have s9 : a0.tmps[9]? = some (.int .i64 (E : Nat)) := by rw [ha0]; rfl
        have s12 : a0.tmps[12]? = some (.string X) := by rw [ha0]; rfl
        have HA : Hid (a0 = _) := ha0
        clear ha0
        refine wp_region_turn (gK s w) (fun m => nthP (lK w.heap.size s X Y E m)) 90 hz (by kernel_rfl) (by kernel_rfl) ?start ⟨?o0, ?o1, ?o2, ?o3, ?o4, ?o5, ?o6, ?o7, ?o8, ?o9, ?o10, ?o11, ?o12, ?o13, ?o14, ?o15, ?o16, ?o17, ?o18, ?o19, trivial⟩ ?done
        case start =>
          intro w4 hb4 hs4 m hm
          exact ⟨hB9.trans (hb4.mono hsz9), fun h => by rw [hm] at h; cases h⟩
        case o0 =>
          refine FlowOp4.plain (k_calm 0 _ (by decide) (by rfl)) fun a1 w4 m cx => ?_
          have s12 := cx.keep 12 _ (by kernel_rfl) s12
          refine ⟨wanted_none rfl, fun K hK => ?_⟩
          exact wp_moved _ rfl _ (ev_tmp s12) (hK.out _ _ rfl (Below.refl _ _))
        case o1 =>
          refine FlowOp4.plain (k_calm 1 _ (by decide) (by rfl)) fun a1 w4 m cx => ?_
          have s0 := cx.keep 0 _ (by kernel_rfl) s0
          refine ⟨wanted_none rfl, fun K hK => ?_⟩
          exact wp_moved _ rfl _ (ev_tmp s0) (hK.out _ _ rfl (Below.refl _ _))
        case o2 =>
          refine FlowOp4.plain (k_calm 2 _ (by decide) (by rfl)) fun a1 w4 m cx => ?_
          have s9 := cx.keep 9 _ (by kernel_rfl) s9
          refine ⟨wanted_none rfl, fun K hK => ?_⟩
          exact wp_moved _ rfl _ (ev_tmp s9) (hK.out _ _ rfl (Below.refl _ _))
        case o3 =>
          refine FlowOp4.plain (k_calm 3 _ (by decide) (by rfl)) fun a1 w4 m cx => ?_
          obtain ⟨v72, s72, p72⟩ := cx.slot 1 72 (by kernel_rfl)
          replace p72 : v72 = .string s := p72
          subst p72
          obtain ⟨v73, s73, p73⟩ := cx.slot 2 73 (by kernel_rfl)
          replace p73 : v73 = .int .i64 (E : Nat) := p73
          subst p73
          refine ⟨wanted_none rfl, fun K hK => ?_⟩
          exact wp_gen [(72, .string s), (73, .int .i64 (E : Nat))] ⟨s72, s73, trivial⟩ (by kernel_rfl) (front_op _ 72 73 rfl rfl w4 s E hn2) (hK.out _ _ (by rw [hX]; rfl) (Below.refl _ _))
        case o4 =>
          refine FlowOp4.plain (k_calm 4 _ (by decide) (by rfl)) fun a1 w4 m cx => ?_
          obtain ⟨v71, s71, p71⟩ := cx.slot 0 71 (by kernel_rfl)
          replace p71 : v71 = .string X := p71
          subst p71
          obtain ⟨v74, s74, p74⟩ := cx.slot 3 74 (by kernel_rfl)
          replace p74 : v74 = .string X := p74
          subst p74
          refine ⟨wanted_none rfl, fun K hK => ?_⟩
          exact wp_gen [(71, .string X), (74, .string X)] ⟨s71, s74, trivial⟩ (by kernel_rfl) (v := .bool true) (w' := w4) (str_eq X 71 74 _ rfl rfl w4) (hK.out _ _ rfl (Below.refl _ _))
        case o5 =>
          refine FlowOp4.plain (k_calm 5 _ (by decide) (by rfl)) fun a1 w4 m cx => ?_
          obtain ⟨v75, s75, p75⟩ := cx.slot 4 75 (by kernel_rfl)
          replace p75 : v75 = .bool true := p75
          subst p75
          refine ⟨wanted_none rfl, fun K hK => ?_⟩
          exact wp_moved _ rfl _ (ev_tmp s75) (hK.out _ _ rfl (Below.refl _ _))
        case o6 =>
          refine FlowOp4.plain (k_calm 6 _ (by decide) (by rfl)) fun a1 w4 m cx => ?_
          obtain ⟨v76, s76, p76⟩ := cx.slot 5 76 (by kernel_rfl)
          replace p76 : v76 = .bool true := p76
          subst p76
          have s0 := cx.keep 0 _ (by kernel_rfl) s0
          refine ⟨wanted_yes rfl rfl s76, fun K hK => ?_⟩
          exact wp_moved _ rfl _ (ev_tmp s0) (hK.out _ _ rfl (Below.refl _ _))
        case o7 =>
          refine FlowOp4.turn fun a1 w4 m cx => ?_
          obtain ⟨v76, s76, p76⟩ := cx.slot 5 76 (by kernel_rfl)
          replace p76 : v76 = .bool true := p76
          subst p76
          obtain ⟨v77, s77, p77⟩ := cx.slot 6 77 (by kernel_rfl)
          replace p77 : v77 = .string s := p77
          subst p77
          have bl := cx.ground.1
          have hz4 := bl.size
          refine ⟨wanted_yes rfl rfl s76, fun K hK => ?_⟩
          refine wp_gen_call [(77, .string s)] ⟨s77, trivial⟩ (vs := #[.string s]) (f := 15) (by kernel_rfl) (fun w => by kernel_rfl) ?_
          refine (decode_any s w4 (by omega) (tabs_below hT (by omega) bl) (by omega)).mono ?_
          rintro e w5 ⟨v, rfl, ho, hb⟩
          replace ho : w5.ownsRow w4.heap.size 21 1 v (nums s).length (intsC (nums s)) := by
            rw [runes_nums] at ho
            rw [show (nums s).length = (poss s).length by unfold nums; rw [List.length_map]]
            exact ho
          refine ⟨_, rfl, hK.out v w5 ⟨bl.trans (hb.mono hz4), fun _ h11 h16 _ x y hx hy g hg => ?_⟩ (ownQ.of ho hz4 hb.size) (fun j _ _ u _ _ _ _ hu => lK_below hu hb)⟩
          have e11 : m 11 = true := h11
          have e16 : m 16 = false := h16
          obtain ⟨y', hy1, hy2⟩ := cx.got 11 _ 82 rfl e11 rfl
          have hy3 : a1.tmps[82]? = some y := by rw [put_at (by simp)] at hy; exact hy
          rw [hy1] at hy3
          cases hy3
          rcases (show m 16 = true ∨ ownR w.heap.size (nums X) y w4 from hy2) with q | q
          · rw [e16] at q; cases q
          · intro e
            have h1 := own_lt q g e
            have hl : 78 < a1.tmps.size := by rw [cx.tsz, hz]; decide
            have hx2 : x = v := by
              have : (a1.put (some 78) v).tmps[78]? = some x := hx
              simp [Act.put, hl] at this
              exact this.symm
            subst hx2
            have := (ho.lt g hg).1
            omega
        case o8 =>
          refine FlowOp4.plain (k_calm 8 _ (by decide) (by rfl)) fun a1 w4 m cx => ?_
          obtain ⟨v76, s76, p76⟩ := cx.slot 5 76 (by kernel_rfl)
          replace p76 : v76 = .bool true := p76
          subst p76
          refine ⟨wanted_yes rfl rfl s76, fun K hK => ?_⟩
          exact wp_gen [] trivial (by kernel_rfl) (v := .slice (some ⟨w4.heap.size, 0, none⟩) 0 0) (w' := w4.alloc (.cells #[] 21)) (by kernel_rfl) (hK.out _ _ (.inr ⟨_, cx.ground.1.size, rfl, World.alloc_heap_new _ _⟩) ((Below.refl _ _).alloc (Nat.le_refl _) _))
        case o9 =>
          refine FlowOp4.plain (k_calm 9 _ (by decide) (by rfl)) fun a1 w4 m cx => ?_
          obtain ⟨v76, s76, p76⟩ := cx.slot 5 76 (by kernel_rfl)
          replace p76 : v76 = .bool true := p76
          subst p76
          have s12 := cx.keep 12 _ (by kernel_rfl) s12
          refine ⟨wanted_yes rfl rfl s76, fun K hK => ?_⟩
          exact wp_moved _ rfl _ (ev_tmp s12) (hK.out _ _ rfl (Below.refl _ _))
        case o10 =>
          refine FlowOp4.plain (k_calm 10 _ (by decide) (by rfl)) fun a1 w4 m cx => ?_
          obtain ⟨v76, s76, p76⟩ := cx.slot 5 76 (by kernel_rfl)
          replace p76 : v76 = .bool true := p76
          subst p76
          obtain ⟨v80, s80, p80⟩ := cx.slot 9 80 (by kernel_rfl)
          replace p80 : v80 = .string X := p80
          subst p80
          have bl := cx.ground.1
          have hz4 := bl.size
          refine ⟨wanted_yes rfl rfl s76, fun K hK => ?_⟩
          refine wp_gen_call [(80, .string X)] ⟨s80, trivial⟩ (vs := #[.string X]) (f := 15) (by kernel_rfl) (fun w => by kernel_rfl) ?_
          refine (decode_any X w4 (by omega) (tabs_below hT (by omega) bl) (by omega)).mono ?_
          rintro e w5 ⟨v, rfl, ho, hb⟩
          replace ho : w5.ownsRow w4.heap.size 21 1 v (nums X).length (intsC (nums X)) := by
            rw [runes_nums] at ho
            rw [show (nums X).length = (poss X).length by unfold nums; rw [List.length_map]]
            exact ho
          exact ⟨_, rfl, hK.out v w5 (.inr (ownQ.of ho hz4 hb.size)) hb⟩
        case o11 =>
          refine FlowOp4.turn fun a1 w4 m cx => ?_
          obtain ⟨v76, s76, p76⟩ := cx.slot 5 76 (by kernel_rfl)
          replace p76 : v76 = .bool true := p76
          subst p76
          obtain ⟨v79, s79, p79⟩ := cx.slot 8 79 (by kernel_rfl)
          obtain ⟨v81, s81, p81⟩ := cx.slot 10 81 (by kernel_rfl)
          replace p79 : hollow w.heap.size v79 w4 := (show m 11 = true ∨ hollow w.heap.size v79 w4 from p79).resolve_left (by rw [cx.new]; simp)
          replace p81 : ownQ w.heap.size (nums X) v81 w4 := (show m 11 = true ∨ ownQ w.heap.size (nums X) v81 w4 from p81).resolve_left (by rw [cx.new]; simp)
          have bl := cx.ground.1
          have hz4 := bl.size
          have hg79 : ∀ j, v79.ownBlock = some j → w.heap.size ≤ j := fun j hj => ((hollow_own p79).lt j hj).1
          refine ⟨wanted_yes rfl rfl s76, fun K hK => ?_⟩
          refine wp_append _ _ rfl w.heap.size v79 v81 [] (nums X) (ev_tmp s79) (hollow_own p79) (ev_tmp s81) p81.rdsA (by simp; omega) hz4 ?_
          intro v' w5 ho gr hat
          refine hK.out v' w5 ⟨bl.grown gr hz4 hg79, fun h7 _ h16 hp x y hx hy => ?_⟩ (.inr ⟨Nat.le_trans hz4 gr.size, ho⟩) (fun j _ _ u _ hj _ _ hu => lK_first hu ⟨(fun q => by rw [q, cx.new] at hj; cases hj), (fun q => ?_)⟩ p79 gr)
          · have e7 : m 7 = true := h7
            obtain ⟨x', hx1, hx2⟩ := cx.got 7 _ 78 rfl e7 rfl
            have hx3 : a1.tmps[78]? = some x := by rw [put_at (by simp)] at hx; exact hx
            rw [hx1] at hx3
            cases hx3
            have hl : 82 < a1.tmps.size := by rw [cx.tsz, hz]; decide
            have hy2 : y = v' := by
              have : (a1.put (some 82) v').tmps[82]? = some y := hy
              simp [Act.put, hl] at this
              exact this.symm
            subst hy2
            rcases (show ownQ w.heap.size (nums s) x w4 from hx2) with ⟨rfl, e⟩ | ⟨ad, c, rfl, ho7⟩
            · rw [e] at hp; cases hp
            · have o7 := ho7 hp
              intro g hg e
              rcases hat with q | q
              · exact own_hollow o7 hp p79 g hg (by rw [← q]; exact e)
              · have := own_lt o7 g hg
                rw [q] at e
                cases e
                omega
          · rw [q] at hj
            have := cx.down 16 _ rfl hj 11 (by kernel_rfl)
            rw [cx.new] at this
            cases this
        case o12 =>
          refine FlowOp4.plain (k_calm 12 _ (by decide) (by rfl)) fun a1 w4 m cx => ?_
          obtain ⟨v76, s76, p76⟩ := cx.slot 5 76 (by kernel_rfl)
          replace p76 : v76 = .bool true := p76
          subst p76
          have s0 := cx.keep 0 _ (by kernel_rfl) s0
          refine ⟨wanted_yes rfl rfl s76, fun K hK => ?_⟩
          exact wp_moved _ rfl _ (ev_tmp s0) (hK.out _ _ rfl (Below.refl _ _))
        case o13 =>
          refine FlowOp4.plain (k_calm 13 _ (by decide) (by rfl)) fun a1 w4 m cx => ?_
          obtain ⟨v76, s76, p76⟩ := cx.slot 5 76 (by kernel_rfl)
          replace p76 : v76 = .bool true := p76
          subst p76
          have s9 := cx.keep 9 _ (by kernel_rfl) s9
          refine ⟨wanted_yes rfl rfl s76, fun K hK => ?_⟩
          exact wp_moved _ rfl _ (ev_tmp s9) (hK.out _ _ rfl (Below.refl _ _))
        case o14 =>
          refine FlowOp4.plain (k_calm 14 _ (by decide) (by rfl)) fun a1 w4 m cx => ?_
          obtain ⟨v76, s76, p76⟩ := cx.slot 5 76 (by kernel_rfl)
          replace p76 : v76 = .bool true := p76
          subst p76
          obtain ⟨v83, s83, p83⟩ := cx.slot 12 83 (by kernel_rfl)
          replace p83 : v83 = .string s := p83
          subst p83
          obtain ⟨v84, s84, p84⟩ := cx.slot 13 84 (by kernel_rfl)
          replace p84 : v84 = .int .i64 (E : Nat) := p84
          subst p84
          refine ⟨wanted_yes rfl rfl s76, fun K hK => ?_⟩
          exact wp_gen [(83, .string s), (84, .int .i64 (E : Nat))] ⟨s83, s84, trivial⟩ (by kernel_rfl) (back_op _ 83 84 rfl rfl w4 s E hn2) (hK.out _ _ (by rw [hY]; rfl) (Below.refl _ _))
        case o15 =>
          refine FlowOp4.plain (k_calm 15 _ (by decide) (by rfl)) fun a1 w4 m cx => ?_
          obtain ⟨v76, s76, p76⟩ := cx.slot 5 76 (by kernel_rfl)
          replace p76 : v76 = .bool true := p76
          subst p76
          obtain ⟨v85, s85, p85⟩ := cx.slot 14 85 (by kernel_rfl)
          replace p85 : v85 = .string Y := p85
          subst p85
          have bl := cx.ground.1
          have hz4 := bl.size
          refine ⟨wanted_yes rfl rfl s76, fun K hK => ?_⟩
          refine wp_gen_call [(85, .string Y)] ⟨s85, trivial⟩ (vs := #[.string Y]) (f := 15) (by kernel_rfl) (fun w => by kernel_rfl) ?_
          refine (decode_any Y w4 (by omega) (tabs_below hT (by omega) bl) (by omega)).mono ?_
          rintro e w5 ⟨v, rfl, ho, hb⟩
          replace ho : w5.ownsRow w4.heap.size 21 1 v (nums Y).length (intsC (nums Y)) := by
            rw [runes_nums] at ho
            rw [show (nums Y).length = (poss Y).length by unfold nums; rw [List.length_map]]
            exact ho
          exact ⟨_, rfl, hK.out v w5 (.inr (ownQ.of ho hz4 hb.size)) hb⟩
        case o16 =>
          refine FlowOp4.turn fun a1 w4 m cx => ?_
          obtain ⟨v76, s76, p76⟩ := cx.slot 5 76 (by kernel_rfl)
          replace p76 : v76 = .bool true := p76
          subst p76
          obtain ⟨v82, s82, p82⟩ := cx.slot 11 82 (by kernel_rfl)
          obtain ⟨v86, s86, p86⟩ := cx.slot 15 86 (by kernel_rfl)
          replace p82 : ownR w.heap.size (nums X) v82 w4 := (show m 16 = true ∨ ownR w.heap.size (nums X) v82 w4 from p82).resolve_left (by rw [cx.new]; simp)
          replace p86 : ownQ w.heap.size (nums Y) v86 w4 := (show m 16 = true ∨ ownQ w.heap.size (nums Y) v86 w4 from p86).resolve_left (by rw [cx.new]; simp)
          have bl := cx.ground.1
          have hz4 := bl.size
          have e11 := cx.has 11 (by kernel_rfl)
          have o82 := p82.2
          refine ⟨wanted_yes rfl rfl s76, fun K hK => ?_⟩
          refine wp_append _ _ rfl w.heap.size v82 v86 (nums X) (nums Y) (ev_tmp s82) o82 (ev_tmp s86) p86.rdsA (by omega) hz4 ?_
          intro v' w5 ho gr hat
          refine hK.out v' w5 ⟨bl.grown gr hz4 (fun j hj => (o82.lt j hj).1), fun _ _ h16 => by cases h16⟩ ⟨Nat.le_trans hz4 gr.size, ho⟩ (fun j oj t u hoj hj ht hu hV => lK_second hV (fun q => by rw [q, cx.new] at hj; cases hj) gr (fun q hp => ?_) e11)
          subst q
          have ht' : t = 78 := by
            have : oj.dst = some 78 := by cases hoj; rfl
            rw [ht] at this
            exact Option.some.inj this
          subst ht'
          exact cx.ground.2 hj e11 cx.new hp u v82 hu s82
        case o17 =>
          refine FlowOp4.plain (k_calm 17 _ (by decide) (by rfl)) fun a1 w4 m cx => ?_
          obtain ⟨v76, s76, p76⟩ := cx.slot 5 76 (by kernel_rfl)
          replace p76 : v76 = .bool true := p76
          subst p76
          obtain ⟨v78, s78, p78⟩ := cx.slot 7 78 (by kernel_rfl)
          replace p78 : ownQ w.heap.size (nums s) v78 w4 := p78
          obtain ⟨v87, s87, p87⟩ := cx.slot 16 87 (by kernel_rfl)
          replace p87 : ownR w.heap.size (nums X ++ nums Y) v87 w4 := p87
          rw [← hnn] at p87
          refine ⟨wanted_yes rfl rfl s76, fun K hK => ?_⟩
          refine wp_gen_call [(78, v78), (87, v87)] ⟨s78, s87, trivial⟩ (vs := #[v78, v87]) (f := 14) (by kernel_rfl) (fun w => by kernel_rfl) ?_
          refine (same_rds (nums s) v78 v87 w4 p78.rdsA.rds p87.rdsA.rds (by omega)).mono ?_
          rintro e w5 ⟨rfl, hb⟩
          exact ⟨_, rfl, hK.out _ _ rfl hb⟩
        case o18 =>
          refine FlowOp4.plain (k_calm 18 _ (by decide) (by rfl)) fun a1 w4 m cx => ?_
          obtain ⟨v76, s76, p76⟩ := cx.slot 5 76 (by kernel_rfl)
          replace p76 : v76 = .bool true := p76
          subst p76
          obtain ⟨v88, s88, p88⟩ := cx.slot 17 88 (by kernel_rfl)
          replace p88 : v88 = .bool true := p88
          subst p88
          refine ⟨wanted_none rfl, fun K hK => ?_⟩
          exact wp_picked _ _ _ rfl true (ev_tmp s76) _ (ev_tmp s88) (hK.out _ _ rfl (Below.refl _ _))
        case o19 =>
          refine FlowOp4.plain (k_calm 19 _ (by decide) (by rfl)) fun a1 w4 m cx => ?_
          obtain ⟨v89, s89, p89⟩ := cx.slot 18 89 (by kernel_rfl)
          replace p89 : v89 = .bool true := p89
          subst p89
          refine ⟨wanted_none rfl, fun K hK => ?_⟩
          exact wp_assigned _ rfl _ (ev_tmp s89) (hK.out _ _ rfl (Below.refl _ _))
        case done =>
          intro a w4 m hall hgr hsz hdf hkp hgot
          obtain ⟨v71, s71, p71⟩ := got_slot4 (s := m) (V := fun m => nthP (lK w.heap.size s X Y E m)) hgot 0 71 (by kernel_rfl)
          replace p71 : v71 = .string X := p71
          subst p71
          obtain ⟨v72, s72, p72⟩ := got_slot4 (s := m) (V := fun m => nthP (lK w.heap.size s X Y E m)) hgot 1 72 (by kernel_rfl)
          replace p72 : v72 = .string s := p72
          subst p72
          obtain ⟨v73, s73, p73⟩ := got_slot4 (s := m) (V := fun m => nthP (lK w.heap.size s X Y E m)) hgot 2 73 (by kernel_rfl)
          replace p73 : v73 = .int .i64 (E : Nat) := p73
          subst p73
          obtain ⟨v74, s74, p74⟩ := got_slot4 (s := m) (V := fun m => nthP (lK w.heap.size s X Y E m)) hgot 3 74 (by kernel_rfl)
          replace p74 : v74 = .string X := p74
          subst p74
          obtain ⟨v75, s75, p75⟩ := got_slot4 (s := m) (V := fun m => nthP (lK w.heap.size s X Y E m)) hgot 4 75 (by kernel_rfl)
          replace p75 : v75 = .bool true := p75
          subst p75
          obtain ⟨v76, s76, p76⟩ := got_slot4 (s := m) (V := fun m => nthP (lK w.heap.size s X Y E m)) hgot 5 76 (by kernel_rfl)
          replace p76 : v76 = .bool true := p76
          subst p76
          obtain ⟨v77, s77, p77⟩ := got_slot4 (s := m) (V := fun m => nthP (lK w.heap.size s X Y E m)) hgot 6 77 (by kernel_rfl)
          replace p77 : v77 = .string s := p77
          subst p77
          obtain ⟨v78, s78, p78⟩ := got_slot4 (s := m) (V := fun m => nthP (lK w.heap.size s X Y E m)) hgot 7 78 (by kernel_rfl)
          obtain ⟨v79, s79, p79⟩ := got_slot4 (s := m) (V := fun m => nthP (lK w.heap.size s X Y E m)) hgot 8 79 (by kernel_rfl)
          obtain ⟨v80, s80, p80⟩ := got_slot4 (s := m) (V := fun m => nthP (lK w.heap.size s X Y E m)) hgot 9 80 (by kernel_rfl)
          replace p80 : v80 = .string X := p80
          subst p80
          obtain ⟨v81, s81, p81⟩ := got_slot4 (s := m) (V := fun m => nthP (lK w.heap.size s X Y E m)) hgot 10 81 (by kernel_rfl)
          obtain ⟨v82, s82, p82⟩ := got_slot4 (s := m) (V := fun m => nthP (lK w.heap.size s X Y E m)) hgot 11 82 (by kernel_rfl)
          obtain ⟨v83, s83, p83⟩ := got_slot4 (s := m) (V := fun m => nthP (lK w.heap.size s X Y E m)) hgot 12 83 (by kernel_rfl)
          replace p83 : v83 = .string s := p83
          subst p83
          obtain ⟨v84, s84, p84⟩ := got_slot4 (s := m) (V := fun m => nthP (lK w.heap.size s X Y E m)) hgot 13 84 (by kernel_rfl)
          replace p84 : v84 = .int .i64 (E : Nat) := p84
          subst p84
          obtain ⟨v85, s85, p85⟩ := got_slot4 (s := m) (V := fun m => nthP (lK w.heap.size s X Y E m)) hgot 14 85 (by kernel_rfl)
          replace p85 : v85 = .string Y := p85
          subst p85
          obtain ⟨v86, s86, p86⟩ := got_slot4 (s := m) (V := fun m => nthP (lK w.heap.size s X Y E m)) hgot 15 86 (by kernel_rfl)
          obtain ⟨v87, s87, p87⟩ := got_slot4 (s := m) (V := fun m => nthP (lK w.heap.size s X Y E m)) hgot 16 87 (by kernel_rfl)
          obtain ⟨v88, s88, p88⟩ := got_slot4 (s := m) (V := fun m => nthP (lK w.heap.size s X Y E m)) hgot 17 88 (by kernel_rfl)
          replace p88 : v88 = .bool true := p88
          subst p88
          obtain ⟨v89, s89, p89⟩ := got_slot4 (s := m) (V := fun m => nthP (lK w.heap.size s X Y E m)) hgot 18 89 (by kernel_rfl)
          replace p89 : v89 = .bool true := p89
          subst p89
          obtain ⟨v4, s4, p4⟩ := got_slot4 (s := m) (V := fun m => nthP (lK w.heap.size s X Y E m)) hgot 19 4 (by kernel_rfl)
          replace p4 : v4 = .bool true := p4
          subst p4
          have ha := act_is a a0 [(71, .string X), (72, .string s), (73, .int .i64 (E : Nat)), (74, .string X), (75, .bool true), (76, .bool true), (77, .string s), (78, v78), (79, v79), (80, .string X), (81, v81), (82, v82), (83, .string s), (84, .int .i64 (E : Nat)), (85, .string Y), (86, v86), (87, v87), (88, .bool true), (89, .bool true), (4, .bool true)] (by rw [hsz, hz]) hdf (fun t ht => hkp t (keptAll_of (l := ([(71, .string X), (72, .string s), (73, .int .i64 (E : Nat)), (74, .string X), (75, .bool true), (76, .bool true), (77, .string s), (78, v78), (79, v79), (80, .string X), (81, v81), (82, v82), (83, .string s), (84, .int .i64 (E : Nat)), (85, .string Y), (86, v86), (87, v87), (88, .bool true), (89, .bool true), (4, .bool true)] : List (Nat × Value)).map (·.1)) (by kernel_rfl) t ht)) ⟨s71, s72, s73, s74, s75, s76, s77, s78, s79, s80, s81, s82, s83, s84, s85, s86, s87, s88, s89, s4, trivial⟩
          rw [HA.out] at ha
          have HF : Hid (Below w.heap.size w w4) := hgr.1
          rw [ha]
          clear ha hkp hgot hgr p78 p79 p81 p82 p86 p87 HA
          simp only [List.foldl_cons, List.foldl_nil, List.setIfInBounds_toArray, List.set_cons_succ, List.set_cons_zero]
          go_wp2
          go_ret
          exact ⟨rfl, HF.out⟩
end Go.Proofs.YtabofadjnbpjkaaDoor
