/-
  The contract of Compare. Conditions: the texts take no more bytes than there are; the library's two tables hold what their text lays.
-/
import Derived.Test.YtabofadjnbpjkacDoorVb
import Derived.Test.YtabofadjnbpjkacDoorCt
import Derived.Test.YtabofadjnbpjkacDoorTn
import Derived.Deep.RegionWith
namespace Go.Proofs.YtabofadjnbpjkacDoor
open Go.RowKit Go.Lib
/-- What a text says in units: those of its first piece, and of what is left. -/
theorem nums_cons (s : ByteArray) (h : 0 < s.size) : nums s = (pRu s 0 : Int) :: nums (s.extract (pSt s 0) s.size) := by
  have hp := pSt_le s 0 h
  have e1 := behind_is s (pSt s 0) (by omega) s.size 0 (by omega)
  have e2 : posAt s 0 = 0 :: posAt s (pSt s 0) := by rw [posAt_cons s 0 h, Nat.zero_add]
  rw [Nat.add_zero] at e1
  have e3 := congrArg (List.map fun (n : Nat) => (n : Int)) e1
  rw [List.map_map, List.map_map] at e3
  have e4 : nums s = (posAt s 0).map fun k => (pRu s k : Int) := rfl
  have e5 : nums (s.extract (pSt s 0) s.size) = (posAt (s.extract (pSt s 0) s.size) 0).map fun k => (pRu (s.extract (pSt s 0) s.size) k : Int) := rfl
  rw [e4, e5, e2, List.map_cons]
  exact congrArg (List.cons _) e3.symm
theorem unT_cons (s : ByteArray) (h : 0 < s.size) : unT s = un1 (pRu s 0) ++ unT (s.extract (pSt s 0) s.size) := by
  unfold unT
  rw [nums_cons s h]
  exact List.flatMap_cons
theorem unT_empty (s : ByteArray) (h : s.size = 0) : unT s = [] := by
  unfold unT nums poss
  rw [posAt_nil s 0 (by omega)]; rfl
theorem un1_ne' (r : Int) : un1 r ≠ [] := by unfold un1; split <;> simp
theorem valid_range (s : ByteArray) (k : Nat) : ((0 : Int) ≤ (pRu s k : Int) ∧ (pRu s k : Int) < 55296) ∨ (57343 < (pRu s k : Int) ∧ (pRu s k : Int) ≤ 1114111) := by
  have h := valid_ru s k
  simp [Lib.validRune] at h
  omega
theorem list_ne (a : ByteArray) (h : ¬ a.size = 0) : ¬ a.toList = [] := by
  rw [ByteArray.toList_eq]
  intro e
  apply h
  have := congrArg List.length e
  rw [Array.length_toList] at this
  exact this
theorem list_no (a : ByteArray) (h : ¬ a.size = 0) : a.toList.isEmpty = false := by
  cases hq : a.toList with
  | nil => exact absurd hq (list_ne a h)
  | cons _ _ => rfl
theorem size_no (a : ByteArray) (h : a.size = 0) : a = ⟨#[]⟩ := by
  cases a with
  | mk d => congr 1; exact Array.eq_empty_of_size_eq_zero h
/-- An act from what its slots hold. -/
theorem act_is (a a0 : Act) (l : List (Nat × Value)) (hsz : a.tmps.size = a0.tmps.size) (hd : a.defers = a0.defers) (hk : ∀ t, (l.map (·.1)).contains t = false → a.tmps[t]? = a0.tmps[t]?) (hg : AllIn a l) : a = { tmps := l.foldl (fun ts p => ts.setIfInBounds p.1 p.2) a0.tmps, defers := a0.defers } := by
  have key : ∀ (l : List (Nat × Value)) (ts : Array Value), AllIn a l → ts.size = a.tmps.size → (∀ t, (l.map (·.1)).contains t = false → a.tmps[t]? = ts[t]?) → a.tmps = l.foldl (fun ts p => ts.setIfInBounds p.1 p.2) ts := by
    intro l
    induction l with
    | nil =>
      intro ts _ hs hk
      exact Array.ext_getElem? fun t => hk t rfl
    | cons p l ih =>
      intro ts hg hs hk
      refine ih (ts.setIfInBounds p.1 p.2) hg.2 (by simpa using hs) fun t ht => ?_
      by_cases e : p.1 = t
      · subst e
        have hl : p.1 < a.tmps.size := (Array.getElem?_eq_some_iff.1 hg.1).1
        rw [hg.1]
        simp [hs, hl]
      · rw [Array.getElem?_setIfInBounds_ne e]
        refine hk t ?_
        rw [List.map_cons, List.contains_cons, ht]
        simp [Ne.symm e]
  cases a with
  | mk ts df =>
    simp only at hd
    rw [hd]
    have := key l a0.tmps hg hsz.symm hk
    simp only at this
    rw [this]
theorem keptAll_of {ops : Array Oper} {l : List Nat} (h : (ops.all fun o => match o.dst with | some t => l.contains t | none => true) = true) (t : Nat) (ht : l.contains t = false) : keptAll ops t = true := by
  simp only [keptAll, Array.all_eq_true_iff_forall_mem] at h ⊢
  intro o ho
  have := h o ho
  cases hd : o.dst with
  | none => rfl
  | some d =>
    rw [hd] at this
    simp only at this
    have hne : d ≠ t := fun e => by rw [e, ht] at this; cases this
    simpa using hne
theorem wp_keep {P : Program} {c : Code} {Q : Exit → Act → World → Prop} {a : Act} {w : World} (h : ∀ a0 : Act, a0 = a → c.wp P Q a0 w) : c.wp P Q a w := h a rfl
/-- What is said of the slots of the region that compares two pieces. -/
def l4 (b5 b6 : Nat) (x y : Int) : List (Value → World → Prop) :=
  [isV (.pointer (some ⟨b5, 2, none⟩)), isV (.int .i32 x), fun v w => Rds .u16 w v (un1 x), isV (.pointer (some ⟨b6, 2, none⟩)), isV (.int .i32 y), fun v w => Rds .u16 w v (un1 y), isV (.int .i64 (cmpL (un1 x) (un1 y))), isV (.int .i64 (cmpL (un1 x) (un1 y)))]
theorem l4_stays {b5 b6 : Nat} {x y : Int} : AllP Stays (l4 b5 b6 x y) := by
  refine ⟨Stays.isV, Stays.isV, ?_, Stays.isV, Stays.isV, ?_, Stays.isV, Stays.isV, trivial⟩
  · exact fun _ _ _ h hb => h.below hb
  · exact fun _ _ _ h hb => h.below hb
theorem below_calm {W0 : World} {l : List (Value → World → Prop)} (hl : AllP Stays l) (i : Nat) : Calm (fun _ w => Below W0.heap.size W0 w) (fun _ => nthP l) i :=
  ⟨fun _ _ _ _ h hb => h.trans (hb.mono h.size), fun _ j u w w' _ _ hu hb => nthP_stays hl j u w w' hu hb⟩
theorem run_ld21 (w : World) (t b off : Nat) (x : Value) (hc : w.cell? ⟨b, off, none⟩ = some x) (o : Oper) (ho : o.op = .load 21 (.tmp t)) : (execOp (rho [(t, .pointer (some ⟨b, off, none⟩))]) o).run Tryd.prog w = .ok (.value x) w := by
  unfold execOp
  simp [ho, rho, go_sem, hc]
theorem info52 : (Tryd.prog.info? 52).map (fun i => (i.size)) = some 4 := by kernel_rfl
set_option maxRecDepth 100000 in
set_option maxHeartbeats 2000000 in
theorem cmp_any (s t : ByteArray) (w : World) (hs : s.size ≤ 5864062010000) (ht : t.size ≤ 5864062010000) (hT : Utf8Tabs 0 1 w) (hg : 2 ≤ w.heap.size) :
    Calls Tryd.prog 8 #[.string s, .string t] w fun e w' => e = .returned (.int .i64 (cmpL (unT s) (unT t))) ∧ Below w.heap.size w w' := by
  have TB : Hid (∀ W, Below w.heap.size w W → Utf8Tabs 0 1 W) := fun W hb => tabs_below hT (by omega) hb
  clear hT
  go_enter Tryd.func8, Tryd.ntmps8
  go_wp2
  go_loopw [0, 1] (fun x y wr => ∃ a b : ByteArray, x = .string a ∧ y = .string b ∧ a.size ≤ s.size ∧ b.size ≤ t.size ∧ Hid (cmpL (unT a) (unT b) = cmpL (unT s) (unT t)) ∧ Hid (Below w.heap.size w wr)) (fun x _ _ => match x with | .string a => a.size | _ => 0)
  case atStart => exact ⟨s, t, rfl, rfl, Nat.le_refl _, Nat.le_refl _, rfl, Below.refl _ _⟩
  case round =>
    obtain ⟨a, b, rfl, rfl, ha, hb, HE, HW⟩ := hrel
    have hwz := HW.out.size
    by_cases ea : a.size = 0
    · have e0 := size_no a ea
      subst e0
      have u0 := unT_empty ⟨#[]⟩ ea
      have HR : Hid (cmpL (unT s) (unT t) = Lib.compareInt 0 (b.size : Nat)) := by
        unfold Hid
        rw [← HE.out, u0]
        by_cases eb : b.size = 0
        · rw [unT_empty b eb, eb]; rfl
        · have hc : (0 : Int) < ((b.size : Nat) : Int) := by omega
          rw [unT_cons b (by omega)]
          cases hu : un1 (pRu b 0 : Int) with
          | nil => exact absurd hu (un1_ne' _)
          | cons z l =>
            show (-1 : Int) = _
            unfold Lib.compareInt
            rw [if_pos hc]
      clear u0 HE
      go_wp2_with (go_at_call 29; refine (Tryd.cmp_Compare_int _ _ _).mono ?_; rintro e w1 ⟨rfl, rfl⟩)
      go_ret
      exact ⟨by rw [HR.out]; rfl, HW.out⟩
    · by_cases eb : b.size = 0
      · have na := list_ne a ea
        have na' := list_no a ea
        have e0 := size_no b eb
        subst e0
        have u0 := unT_empty ⟨#[]⟩ eb
        have HR : Hid (cmpL (unT s) (unT t) = Lib.compareInt (a.size : Nat) 0) := by
          unfold Hid
          rw [← HE.out, u0]
          have hc : (0 : Int) < ((a.size : Nat) : Int) := by omega
          rw [unT_cons a (by omega)]
          cases hu : un1 (pRu a 0 : Int) with
          | nil => exact absurd hu (un1_ne' _)
          | cons z l =>
            show (1 : Int) = _
            unfold Lib.compareInt
            rw [if_neg (by omega), if_pos hc]
        clear u0 HE
        go_wp2_with (go_at_call 29; refine (Tryd.cmp_Compare_int _ _ _).mono ?_; rintro e w1 ⟨rfl, rfl⟩)
        go_ret
        exact ⟨by rw [HR.out]; rfl, HW.out⟩
      · have na := list_ne a ea
        have nb := list_ne b eb
        have na' := list_no a ea
        have nb' := list_no b eb
        have K1 := fun W hW => pieceAt_any a 0 W (by omega) (by omega) (TB.out W hW) (by have := hW.size; omega)
        have K2 := fun W hW => pieceAt_any b 0 W (by omega) (by omega) (TB.out W hW) (by have := hW.size; omega)
        unfold pcs at K1 K2
        obtain ⟨x, hx⟩ : ∃ x : Int, (pRu a 0 : Int) = x := ⟨_, rfl⟩
        obtain ⟨y, hy⟩ : ∃ y : Int, (pRu b 0 : Int) = y := ⟨_, rfl⟩
        obtain ⟨p, hp⟩ : ∃ p : Nat, pSt a 0 = p := ⟨_, rfl⟩
        obtain ⟨q, hq⟩ : ∃ q : Nat, pSt b 0 = q := ⟨_, rfl⟩
        have ua := unT_cons a (by omega)
        have ub := unT_cons b (by omega)
        have va := valid_range a 0
        have vb := valid_range b 0
        have pa := pSt_le a 0 (by omega)
        have pb := pSt_le b 0 (by omega)
        have wa : Lib.validRune x = true := by rw [← hx]; exact valid_ru a 0
        have wb : Lib.validRune y = true := by rw [← hy]; exact valid_ru b 0
        rw [hx] at ua va
        rw [hy] at ub vb
        rw [hp] at ua pa
        rw [hq] at ub pb
        obtain ⟨fa, hfa⟩ : ∃ f, pWr a 0 = f := ⟨_, rfl⟩
        obtain ⟨fb, hfb⟩ : ∃ f, pWr b 0 = f := ⟨_, rfl⟩
        simp only [hx, hp, hfa] at K1
        simp only [hy, hq, hfb] at K2
        have UA : Hid (unT a = un1 x ++ unT (a.extract p a.size)) := ua
        have UB : Hid (unT b = un1 y ++ unT (b.extract q b.size)) := ub
        have VA : Hid ((0 ≤ x ∧ x < 55296) ∨ (57343 < x ∧ x ≤ 1114111)) := va
        have VB : Hid ((0 ≤ y ∧ y < 55296) ∨ (57343 < y ∧ y ≤ 1114111)) := vb
        have WA : Hid (Lib.validRune x = true) := wa
        have WB : Hid (Lib.validRune y = true) := wb
        clear ua ub va vb hx hy hp hq hfa hfb wa wb
        by_cases hr : x = y
        · subst hr
          have hxx : (x == x) = true := by simp
          have hxn : (x != x) = false := by simp
          have HN : Hid (cmpL (unT (a.extract p a.size)) (unT (b.extract q b.size)) = cmpL (unT s) (unT t)) := by
            unfold Hid
            rw [← HE.out, UA.out, UB.out, cmpL_app]
          have pi1 : (p : Int) ≤ (a.size : Int) := by omega
          have pi2 : (q : Int) ≤ (b.size : Int) := by omega
          have sz1 : (a.extract p a.size).size = a.size - p := by simp
          have sz2 : (b.extract q b.size).size = b.size - q := by simp
          go_wp2_with (go_at_call_of 27 (Value.string a); refine (K1 _ HW.out).mono ?_; rintro e w1 ⟨rfl, b1⟩)
          have BW1 : Hid (Below w.heap.size w w1) := HW.out.trans (b1.mono hwz)
          clear b1 K1
          go_wp2_with (go_at_call_of 27 (Value.string b); refine (K2 _ BW1.out).mono ?_; rintro e w2 ⟨rfl, b2⟩)
          have BW2 : Hid (Below w.heap.size w w2) := BW1.out.trans (b2.mono BW1.out.size)
          have BW3 : Hid (Below w.heap.size w ((w2.alloc (.cells #[.int .i64 0, .int .i64 (p : Nat), .int .i32 x, .bool fa] 52)).alloc (.cells #[.int .i64 0, .int .i64 (q : Nat), .int .i32 x, .bool fb] 52))) := (BW2.out.alloc BW2.out.size _).alloc (by simp; have := BW2.out.size; omega) _
          clear b2 K2
          clear na nb na' nb'
          go_wp2
          go_quiet (fail)
          have HF : Hid (Below w.heap.size w (((w2.alloc (.cells #[.int .i64 0, .int .i64 (p : Nat), .int .i32 x, .bool fa] 52)).alloc (.cells #[.int .i64 0, .int .i64 (q : Nat), .int .i32 x, .bool fb] 52)).drewN nq)) := below_drewN BW3.out _
          go_wp2
          exact ⟨⟨_, _, rfl, rfl, by omega, by omega, HN, HF⟩, by simp only []; omega⟩
        · have hr' : (x == y) = false := beq_false_of_ne hr
          have HR : Hid (cmpL (unT s) (unT t) = cmpL (un1 x) (un1 y)) := by
            unfold Hid
            rw [← HE.out, UA.out, UB.out, cmpL_un x y _ _ VA.out VB.out hr]
          go_wp2_with (go_at_call_of 27 (Value.string a); refine (K1 _ HW.out).mono ?_; rintro e w1 ⟨rfl, b1⟩)
          have BW1 : Hid (Below w.heap.size w w1) := HW.out.trans (b1.mono hwz)
          clear b1 K1
          go_wp2_with (go_at_call_of 27 (Value.string b); refine (K2 _ BW1.out).mono ?_; rintro e w2 ⟨rfl, b2⟩)
          have BW2 : Hid (Below w.heap.size w w2) := BW1.out.trans (b2.mono BW1.out.size)
          have BW3 : Hid (Below w.heap.size w ((w2.alloc (.cells #[.int .i64 0, .int .i64 (p : Nat), .int .i32 x, .bool fa] 52)).alloc (.cells #[.int .i64 0, .int .i64 (q : Nat), .int .i32 y, .bool fb] 52))) := (BW2.out.alloc BW2.out.size _).alloc (by simp; have := BW2.out.size; omega) _
          clear b2 K2
          clear na nb na' nb'
          go_wp2
          have hW0 := World.alloc_heap_new (w2.alloc (.cells #[.int .i64 0, .int .i64 (p : Nat), .int .i32 x, .bool fa] 52)) (.cells #[.int .i64 0, .int .i64 (q : Nat), .int .i32 y, .bool fb] 52)
          have hW1 := (Below.heap_alloc (w2.alloc (.cells #[.int .i64 0, .int .i64 (p : Nat), .int .i32 x, .bool fa] 52)) (.cells #[.int .i64 0, .int .i64 (q : Nat), .int .i32 y, .bool fb] 52) w2.heap.size (by simp)).trans (World.alloc_heap_new w2 (.cells #[.int .i64 0, .int .i64 (p : Nat), .int .i32 x, .bool fa] 52))
          have hzz : (w2.alloc (.cells #[.int .i64 0, .int .i64 (p : Nat), .int .i32 x, .bool fa] 52)).heap.size = w2.heap.size + 1 := by simp
          rw [hzz] at hW0
          generalize (w2.alloc (.cells #[.int .i64 0, .int .i64 (p : Nat), .int .i32 x, .bool fa] 52)).alloc (.cells #[.int .i64 0, .int .i64 (q : Nat), .int .i32 y, .bool fb] 52) = W0 at *
          have c5 : W0.cell? ⟨w2.heap.size, 2, none⟩ = some (.int .i32 x) := by simp only [World.cell?, hW1]; rfl
          have c6 : W0.cell? ⟨w2.heap.size + 1, 2, none⟩ = some (.int .i32 y) := by simp only [World.cell?, hW0]; rfl
          have l5 := World.block_lt_of_cell? W0 _ c5
          have l6 := World.block_lt_of_cell? W0 _ c6
          generalize w2.heap.size = b5 at *
          clear hW0 hW1 hzz
          refine wp_keep fun a0 ha0 => ?_
          have hz : a0.tmps.size = 42 := by rw [ha0]; rfl
          have s5 : a0.tmps[5]? = some (.pointer (some ⟨b5, 0, none⟩)) := by rw [ha0]; rfl
          have s6 : a0.tmps[6]? = some (.pointer (some ⟨b5 + 1, 0, none⟩)) := by rw [ha0]; rfl
          have hcalm := fun i => below_calm (W0 := W0) (l4_stays (b5 := b5) (b6 := b5 + 1) (x := x) (y := y)) i
          have HA : Hid (a0 = _) := ha0
          clear ha0
          refine wp_region_turn (fun _ w => Below W0.heap.size W0 w) (fun _ => nthP (l4 b5 (b5 + 1) x y)) 42 hz (by kernel_rfl) (by kernel_rfl) ?start ⟨?o0, ?o1, ?o2, ?o3, ?o4, ?o5, ?o6, ?o7, trivial⟩ ?done
          case start =>
            intro w4 hb4 hs4 s hs
            exact hb4
          case o0 =>
            refine FlowOp4.plain (hcalm 0) fun a1 w4 s cx => ?_
            have s5 := cx.keep 5 _ (by kernel_rfl) s5
            refine ⟨wanted_none rfl, fun K hK => ?_⟩
            exact wp_gen [(5, .pointer (some ⟨b5, 0, none⟩))] ⟨s5, trivial⟩ (by kernel_rfl) (v := .pointer (some ⟨b5, 2, none⟩)) (w' := w4) (by kernel_rfl) (hK.out _ _ rfl (Below.refl _ _))
          case o1 =>
            refine FlowOp4.plain (hcalm 1) fun a1 w4 s cx => ?_
            obtain ⟨v22, s22, p22⟩ := cx.slot 0 22 (by kernel_rfl)
            replace p22 : v22 = .pointer (some ⟨b5, 2, none⟩) := p22
            subst p22
            refine ⟨wanted_none rfl, fun K hK => ?_⟩
            exact wp_gen [(22, .pointer (some ⟨b5, 2, none⟩))] ⟨s22, trivial⟩ (by kernel_rfl) (run_ld21 w4 22 _ 2 _ ((cx.ground.cell (p := ⟨b5, 2, none⟩) l5).trans c5) _ rfl) (hK.out _ _ rfl (Below.refl _ _))
          case o2 =>
            refine FlowOp4.plain (hcalm 2) fun a1 w4 s cx => ?_
            obtain ⟨v23, s23, p23⟩ := cx.slot 1 23 (by kernel_rfl)
            replace p23 : v23 = .int .i32 x := p23
            subst p23
            refine ⟨wanted_none rfl, fun K hK => ?_⟩
            refine wp_gen_call [(23, .int .i32 x)] ⟨s23, trivial⟩ (vs := #[.slice none 0 0, .int .i32 x]) (f := 21) (by kernel_rfl) (fun w => by kernel_rfl) ?_
            refine (au_any [] (.slice none 0 0) x w4.heap.size w4 (World.ownsRow_nil _ _ _ _) (Nat.le_refl _) WA.out (by simp)).mono ?_
            rintro e w5 ⟨v, rfl, ho, hb⟩
            rw [List.nil_append] at ho
            exact ⟨_, rfl, hK.out _ _ (Rds.of_owns ho) hb⟩
          case o3 =>
            refine FlowOp4.plain (hcalm 3) fun a1 w4 s cx => ?_
            have s6 := cx.keep 6 _ (by kernel_rfl) s6
            refine ⟨wanted_none rfl, fun K hK => ?_⟩
            exact wp_gen [(6, .pointer (some ⟨b5 + 1, 0, none⟩))] ⟨s6, trivial⟩ (by kernel_rfl) (v := .pointer (some ⟨b5 + 1, 2, none⟩)) (w' := w4) (by kernel_rfl) (hK.out _ _ rfl (Below.refl _ _))
          case o4 =>
            refine FlowOp4.plain (hcalm 4) fun a1 w4 s cx => ?_
            obtain ⟨v25, s25, p25⟩ := cx.slot 3 25 (by kernel_rfl)
            replace p25 : v25 = .pointer (some ⟨b5 + 1, 2, none⟩) := p25
            subst p25
            refine ⟨wanted_none rfl, fun K hK => ?_⟩
            exact wp_gen [(25, .pointer (some ⟨b5 + 1, 2, none⟩))] ⟨s25, trivial⟩ (by kernel_rfl) (run_ld21 w4 25 _ 2 _ ((cx.ground.cell (p := ⟨b5 + 1, 2, none⟩) l6).trans c6) _ rfl) (hK.out _ _ rfl (Below.refl _ _))
          case o5 =>
            refine FlowOp4.plain (hcalm 5) fun a1 w4 s cx => ?_
            obtain ⟨v26, s26, p26⟩ := cx.slot 4 26 (by kernel_rfl)
            replace p26 : v26 = .int .i32 y := p26
            subst p26
            refine ⟨wanted_none rfl, fun K hK => ?_⟩
            refine wp_gen_call [(26, .int .i32 y)] ⟨s26, trivial⟩ (vs := #[.slice none 0 0, .int .i32 y]) (f := 21) (by kernel_rfl) (fun w => by kernel_rfl) ?_
            refine (au_any [] (.slice none 0 0) y w4.heap.size w4 (World.ownsRow_nil _ _ _ _) (Nat.le_refl _) WB.out (by simp)).mono ?_
            rintro e w5 ⟨v, rfl, ho, hb⟩
            rw [List.nil_append] at ho
            exact ⟨_, rfl, hK.out _ _ (Rds.of_owns ho) hb⟩
          case o6 =>
            refine FlowOp4.plain (hcalm 6) fun a1 w4 s cx => ?_
            obtain ⟨v24, s24, p24⟩ := cx.slot 2 24 (by kernel_rfl)
            replace p24 : Rds .u16 w4 v24 (un1 x) := p24
            obtain ⟨v27, s27, p27⟩ := cx.slot 5 27 (by kernel_rfl)
            replace p27 : Rds .u16 w4 v27 (un1 y) := p27
            refine ⟨wanted_none rfl, fun K hK => ?_⟩
            refine wp_gen_call [(24, v24), (27, v27)] ⟨s24, s27, trivial⟩ (vs := #[v24, v27]) (f := 28) (by kernel_rfl) (fun w => by kernel_rfl) ?_
            refine (scmp_any (un1 x) (un1 y) v24 v27 w4 p24 p27 (by have := un1_len x; omega) (by have := un1_len y; omega)).mono ?_
            rintro e w5 ⟨rfl, rfl⟩
            exact ⟨_, rfl, hK.out _ _ rfl (Below.refl _ _)⟩
          case o7 =>
            refine FlowOp4.plain (hcalm 7) fun a1 w4 s cx => ?_
            obtain ⟨v28, s28, p28⟩ := cx.slot 6 28 (by kernel_rfl)
            replace p28 : v28 = .int .i64 (cmpL (un1 x) (un1 y)) := p28
            subst p28
            refine ⟨wanted_none rfl, fun K hK => ?_⟩
            exact wp_assigned _ rfl _ (ev_tmp s28) (hK.out _ _ rfl (Below.refl _ _))
          case done =>
            intro a w4 ss hall hgr hsz hdf hkp hgot
            obtain ⟨v22, s22, p22⟩ := got_slot4 (s := ss) (V := fun _ => nthP (l4 b5 (b5 + 1) x y)) hgot 0 22 (by kernel_rfl)
            replace p22 : v22 = .pointer (some ⟨b5, 2, none⟩) := p22
            subst p22
            obtain ⟨v23, s23, p23⟩ := got_slot4 (s := ss) (V := fun _ => nthP (l4 b5 (b5 + 1) x y)) hgot 1 23 (by kernel_rfl)
            replace p23 : v23 = .int .i32 x := p23
            subst p23
            obtain ⟨v24, s24, p24⟩ := got_slot4 (s := ss) (V := fun _ => nthP (l4 b5 (b5 + 1) x y)) hgot 2 24 (by kernel_rfl)
            obtain ⟨v25, s25, p25⟩ := got_slot4 (s := ss) (V := fun _ => nthP (l4 b5 (b5 + 1) x y)) hgot 3 25 (by kernel_rfl)
            replace p25 : v25 = .pointer (some ⟨b5 + 1, 2, none⟩) := p25
            subst p25
            obtain ⟨v26, s26, p26⟩ := got_slot4 (s := ss) (V := fun _ => nthP (l4 b5 (b5 + 1) x y)) hgot 4 26 (by kernel_rfl)
            replace p26 : v26 = .int .i32 y := p26
            subst p26
            obtain ⟨v27, s27, p27⟩ := got_slot4 (s := ss) (V := fun _ => nthP (l4 b5 (b5 + 1) x y)) hgot 5 27 (by kernel_rfl)
            obtain ⟨v28, s28, p28⟩ := got_slot4 (s := ss) (V := fun _ => nthP (l4 b5 (b5 + 1) x y)) hgot 6 28 (by kernel_rfl)
            replace p28 : v28 = .int .i64 (cmpL (un1 x) (un1 y)) := p28
            subst p28
            obtain ⟨v4, s4, p4⟩ := got_slot4 (s := ss) (V := fun _ => nthP (l4 b5 (b5 + 1) x y)) hgot 7 4 (by kernel_rfl)
            replace p4 : v4 = .int .i64 (cmpL (un1 x) (un1 y)) := p4
            subst p4
            have ha := act_is a a0 [(22, .pointer (some ⟨b5, 2, none⟩)), (23, .int .i32 x), (24, v24), (25, .pointer (some ⟨b5 + 1, 2, none⟩)), (26, .int .i32 y), (27, v27), (28, .int .i64 (cmpL (un1 x) (un1 y))), (4, .int .i64 (cmpL (un1 x) (un1 y)))] (by rw [hsz, hz]) hdf (fun t ht => hkp t (keptAll_of (l := ([(22, .pointer (some ⟨b5, 2, none⟩)), (23, .int .i32 x), (24, v24), (25, .pointer (some ⟨b5 + 1, 2, none⟩)), (26, .int .i32 y), (27, v27), (28, .int .i64 (cmpL (un1 x) (un1 y))), (4, .int .i64 (cmpL (un1 x) (un1 y)))] : List (Nat × Value)).map (·.1)) (by kernel_rfl) t ht)) ⟨s22, s23, s24, s25, s26, s27, s28, s4, trivial⟩
            rw [HA.out] at ha
            have HF : Hid (Below w.heap.size w w4) := BW3.out.trans (hgr.mono BW3.out.size)
            have HR2 : Hid (cmpL (un1 x) (un1 y) = cmpL (unT s) (unT t)) := HR.out.symm
            rw [ha]
            clear ha hkp hgot p24 p27 HA hcalm hgr
            simp only [List.foldl_cons, List.foldl_nil, List.setIfInBounds_toArray, List.set_cons_succ, List.set_cons_zero]
            go_wp2
            go_ret
            exact ⟨by rw [← HR2.out]; rfl, HF.out⟩
end Go.Proofs.YtabofadjnbpjkacDoor
