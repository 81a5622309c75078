/-
  The contract of stage.Same. Conditions: the tables' numbers are from 0 to 65535.
-/
import Derived.Test.YtookbgmolggohaaEq
namespace Go.Proofs.Ytookbgmolggohaa
open Go.RowKit
theorem isBlk_unl {F : Int → Int} (hF : ∀ p, 0 ≤ F p ∧ F p ≤ 65535) (n : Nat) : ∀ f ∈ unl F n, isBlk f := fun f hf => by
  obtain ⟨i, _, rfl⟩ := unl_all F n f hf
  exact isBlk_blk hF i
theorem unl_iff {F G : Int → Int} (hP : ∀ i, i < 8704 → plc F i = plc G i) : unl F 8704 = unl G 8704 ↔ ∀ i, i < 8704 → blk F i = blk G i := by
  constructor
  · intro h i hi
    have h1 := plc_get F hi
    rw [h, hP i hi, plc_get G hi] at h1
    exact (Option.some.inj h1).symm
  · exact fun h => unl_congr h
theorem plc_same {F G : Int → Int} (h : ∀ i, i < 8704 → blk F i = blk G i) : ∀ i, i < 8704 → plc F i = plc G i := fun i hi => by
  rw [← plc_is F hi, ← plc_is G hi, unl_congr h, h i hi]
set_option maxRecDepth 100000 in
set_option maxHeartbeats 2000000 in
theorem same_tab (vt vu : Value) (F G : Int → Int) (w : World) (hT : Tab w vt F) (hU : Tab w vu G) (hF : ∀ p, 0 ≤ F p ∧ F p ≤ 65535) (hG : ∀ p, 0 ≤ G p ∧ G p ≤ 65535) (R : Bool) (hR : R = true ↔ ∀ i, i < 8704 → blk F i = blk G i) : Calls Try.prog 19 #[vt, vu] w fun e w' => e = .returned (.bool R) ∧ Below w.heap.size w w' := by
  have K1 : Hid (Calls Try.prog 39 #[vt] w fun e w' => ∃ T, e = .returned (.pointer (some ⟨T, 0, none⟩)) ∧ TabAt w' T F ∧ Below w.heap.size w w') := full_any w vt F hT
  have K2 : Hid (∀ W, Below w.heap.size w W → Calls Try.prog 39 #[vu] W fun e w' => ∃ T, e = .returned (.pointer (some ⟨T, 0, none⟩)) ∧ TabAt w' T G ∧ Below W.heap.size W w') := fun W hW => full_any W vu G (hU.below hW)
  have ZF : Hid ((unl F 8704).length ≤ 100000) := by rw [Hid]; have := unl_len F 8704; omega
  have ZG : Hid ((unl G 8704).length ≤ 100000) := by rw [Hid]; have := unl_len G 8704; omega
  have IF : Hid (∀ f ∈ unl F 8704, isBlk f) := isBlk_unl hF 8704
  have IG : Hid (∀ f ∈ unl G 8704, isBlk f) := isBlk_unl hG 8704
  have HRR : Hid (R = true ↔ ∀ i, i < 8704 → blk F i = blk G i) := hR
  clear hT hU hF hG hR
  go_enter Try.func19, Try.ntmps19
  go_wp2_with (go_at_call 39; refine K1.out.mono ?_)
  first | rintro e w1 T1 rfl t1 b1 | rintro e w1 ⟨T1, rfl, t1, b1⟩
  replace t1 : Hid (TabAt w1 T1 F) := t1
  replace b1 : Hid (Below w.heap.size w w1) := b1
  go_wp2_with (go_at_call 39; refine (K2.out _ b1.out).mono ?_)
  first | rintro e w2 T2 rfl t2 b2 | rintro e w2 ⟨T2, rfl, t2, b2⟩
  have B2 : Hid (Below w.heap.size w w2) := b1.out.trans (b2.mono b1.out.size)
  obtain ⟨pg, pc, ug, uc, h1, -, -, h4, h5⟩ := t1.out.below b2
  obtain ⟨pg2, pc2, ug2, uc2, k1, -, -, k4, k5⟩ := t2
  have M1 : Hid (w2.heap[T1]? = some (.cells #[.slice (some ⟨pg, 0, none⟩) 8704 pc, .slice (some ⟨ug, 0, none⟩) (unl F 8704).length uc] 76 (0, 0))) := h1
  have M2 : Hid (w2.heap[T2]? = some (.cells #[.slice (some ⟨pg2, 0, none⟩) 8704 pc2, .slice (some ⟨ug2, 0, none⟩) (unl G 8704).length uc2] 76 (0, 0))) := k1
  have KP : Hid (∀ W, Below w2.heap.size w2 W → ∀ i, i < 8704 → W.cell? ⟨pg, i, none⟩ = some (.int .u16 (plc F i : Nat))) := fun W hW i hi => (hW.cell (p := ⟨pg, i, none⟩) (World.block_lt_of_cell? w2 _ (h4 i hi))).trans (h4 i hi)
  have KQ : Hid (∀ W, Below w2.heap.size w2 W → ∀ i, i < 8704 → W.cell? ⟨pg2, i, none⟩ = some (.int .u16 (plc G i : Nat))) := fun W hW i hi => (hW.cell (p := ⟨pg2, i, none⟩) (World.block_lt_of_cell? w2 _ (k4 i hi))).trans (k4 i hi)
  have KU : Hid (∀ W, Below w2.heap.size w2 W → BlksAt W ug (unl F 8704)) := fun W hW => ⟨IF.out, fun i f hf j hj => (hW.cell (p := ⟨ug, i * 128 + j, none⟩) (World.block_lt_of_cell? w2 _ (h5 i f hf j hj))).trans (h5 i f hf j hj)⟩
  have KV : Hid (∀ W, Below w2.heap.size w2 W → BlksAt W ug2 (unl G 8704)) := fun W hW => ⟨IG.out, fun i f hf j hj => (hW.cell (p := ⟨ug2, i * 128 + j, none⟩) (World.block_lt_of_cell? w2 _ (k5 i f hf j hj))).trans (k5 i f hf j hj)⟩
  clear h1 h4 h5 k1 k4 k5 t1 b1 b2 K1 K2 IF IG
  go_wp2_with fail
  by_cases hp : ∀ i, i < 8704 → plc F i = plc G i
  · have hP : Hid (true = true ↔ ∀ i, i < 8704 → plc F i = plc G i) := ⟨fun _ => hp, fun _ => rfl⟩
    have hU : Hid (R = true ↔ unl F 8704 = unl G 8704) := HRR.out.trans (unl_iff hp).symm
    clear hp
    refine wp_region_vals (a1 := ?a1r2n1) (grown _) [.pointer (some ⟨T1, 0, none⟩), .pointer (some ⟨T1, 0, none⟩), .pointer (some ⟨T1, 0, none⟩), .slice (some ⟨pg, 0, none⟩) 8704 pc, .pointer (some ⟨T2, 0, none⟩), .pointer (some ⟨T2, 0, none⟩), .pointer (some ⟨T2, 0, none⟩), .slice (some ⟨pg2, 0, none⟩) 8704 pc2, .bool true, .bool true, .pointer (some ⟨T1, 0, none⟩), .pointer (some ⟨T1, 0, none⟩), .pointer (some ⟨T1, 1, none⟩), .slice (some ⟨ug, 0, none⟩) (unl F 8704).length uc, .pointer (some ⟨T2, 0, none⟩), .pointer (some ⟨T2, 0, none⟩), .pointer (some ⟨T2, 1, none⟩), .slice (some ⟨ug2, 0, none⟩) (unl G 8704).length uc2, .bool R, .bool R, .bool R] 29 rfl (by kernel_rfl) (by kernel_rfl) (grown_start _) ⟨?o0r2n1, ?o1r2n1, ?o2r2n1, ?o3r2n1, ?o4r2n1, ?o5r2n1, ?o6r2n1, ?o7r2n1, ?o8r2n1, ?o9r2n1, ?o10r2n1, ?o11r2n1, ?o12r2n1, ?o13r2n1, ?o14r2n1, ?o15r2n1, ?o16r2n1, ?o17r2n1, ?o18r2n1, ?o19r2n1, ?o20r2n1, trivial⟩ ?har2n1 ?hdoner2n1
    case har2n1 => simp [putAll, Act.put]; exact rfl
    case o0r2n1 => exact ValOp.pure (grown_steady _ 0) [(0, .pointer (some ⟨T1, 0, none⟩))] rfl (fun _ _ h2 => ⟨(h2 0 (by kernel_rfl)).trans rfl, trivial⟩) (by kernel_rfl) (fun _ _ _ _ _ => by kernel_rfl)
    case o1r2n1 => exact ValOp.pure (grown_steady _ 1) [(9, .pointer (some ⟨T1, 0, none⟩))] rfl (fun _ h1 _ => ⟨h1 0 9 (by kernel_rfl), trivial⟩) (by kernel_rfl) (fun _ _ _ _ _ => by kernel_rfl)
    case o2r2n1 => exact ValOp.pure (grown_steady _ 2) [(10, .pointer (some ⟨T1, 0, none⟩))] rfl (fun _ h1 _ => ⟨h1 1 10 (by kernel_rfl), trivial⟩) (by kernel_rfl) (fun _ _ _ _ _ => by kernel_rfl)
    case o3r2n1 => exact ValOp.pure (grown_steady _ 3) [(11, .pointer (some ⟨T1, 0, none⟩))] rfl (fun _ h1 _ => ⟨h1 2 11 (by kernel_rfl), trivial⟩) (by kernel_rfl) (fun _ _ _ hg _ => run_read rfl rfl (run_cell (below_at M1.out hg) rfl (Try.isAgg73 _)))
    case o4r2n1 => exact ValOp.pure (grown_steady _ 4) [(1, .pointer (some ⟨T2, 0, none⟩))] rfl (fun _ _ h2 => ⟨(h2 1 (by kernel_rfl)).trans rfl, trivial⟩) (by kernel_rfl) (fun _ _ _ _ _ => by kernel_rfl)
    case o5r2n1 => exact ValOp.pure (grown_steady _ 5) [(13, .pointer (some ⟨T2, 0, none⟩))] rfl (fun _ h1 _ => ⟨h1 4 13 (by kernel_rfl), trivial⟩) (by kernel_rfl) (fun _ _ _ _ _ => by kernel_rfl)
    case o6r2n1 => exact ValOp.pure (grown_steady _ 6) [(14, .pointer (some ⟨T2, 0, none⟩))] rfl (fun _ h1 _ => ⟨h1 5 14 (by kernel_rfl), trivial⟩) (by kernel_rfl) (fun _ _ _ _ _ => by kernel_rfl)
    case o7r2n1 => exact ValOp.pure (grown_steady _ 7) [(15, .pointer (some ⟨T2, 0, none⟩))] rfl (fun _ h1 _ => ⟨h1 6 15 (by kernel_rfl), trivial⟩) (by kernel_rfl) (fun _ _ _ hg _ => run_read rfl rfl (run_cell (below_at M2.out hg) rfl (Try.isAgg73 _)))
    case o8r2n1 => exact ValOp.call (grown_steady _ 8) [(12, .slice (some ⟨pg, 0, none⟩) 8704 pc), (16, .slice (some ⟨pg2, 0, none⟩) 8704 pc2)] rfl (fun _ h1 _ => ⟨h1 3 12 (by kernel_rfl), h1 7 16 (by kernel_rfl), trivial⟩) (by kernel_rfl) 40 #[.slice (some ⟨pg, 0, none⟩) 8704 pc, .slice (some ⟨pg2, 0, none⟩) 8704 pc2] (fun _ => by kernel_rfl) (fun _ W hg => eq40_any pg pg2 8704 pc pc2 (plc F) (plc G) W true hP.out (by decide) (KP.out W hg) (KQ.out W hg))
    case o9r2n1 => exact ValOp.pure (grown_steady _ 9) [(17, .bool true)] rfl (fun _ h1 _ => ⟨h1 8 17 (by kernel_rfl), trivial⟩) (by kernel_rfl) (fun _ _ _ _ _ => by kernel_rfl)
    case o10r2n1 => exact ValOp.pure (grown_steady _ 10) [(0, .pointer (some ⟨T1, 0, none⟩))] (.inl ⟨18, _, rfl, rfl, by kernel_rfl, rfl⟩) (fun _ _ h2 => ⟨(h2 0 (by kernel_rfl)).trans rfl, trivial⟩) (by kernel_rfl) (fun _ _ _ _ _ => by kernel_rfl)
    case o11r2n1 => exact ValOp.pure (grown_steady _ 11) [(19, .pointer (some ⟨T1, 0, none⟩))] (.inl ⟨18, _, rfl, rfl, by kernel_rfl, rfl⟩) (fun _ h1 _ => ⟨h1 10 19 (by kernel_rfl), trivial⟩) (by kernel_rfl) (fun _ _ _ _ _ => by kernel_rfl)
    case o12r2n1 => exact ValOp.pure (grown_steady _ 12) [(20, .pointer (some ⟨T1, 0, none⟩))] (.inl ⟨18, _, rfl, rfl, by kernel_rfl, rfl⟩) (fun _ h1 _ => ⟨h1 11 20 (by kernel_rfl), trivial⟩) (by kernel_rfl) (fun _ _ _ _ _ => by kernel_rfl)
    case o13r2n1 => exact ValOp.pure (grown_steady _ 13) [(21, .pointer (some ⟨T1, 1, none⟩))] (.inl ⟨18, _, rfl, rfl, by kernel_rfl, rfl⟩) (fun _ h1 _ => ⟨h1 12 21 (by kernel_rfl), trivial⟩) (by kernel_rfl) (fun _ _ _ hg _ => run_read rfl rfl (run_cell (below_at M1.out hg) rfl (Try.isAgg74 _)))
    case o14r2n1 => exact ValOp.pure (grown_steady _ 14) [(1, .pointer (some ⟨T2, 0, none⟩))] (.inl ⟨18, _, rfl, rfl, by kernel_rfl, rfl⟩) (fun _ _ h2 => ⟨(h2 1 (by kernel_rfl)).trans rfl, trivial⟩) (by kernel_rfl) (fun _ _ _ _ _ => by kernel_rfl)
    case o15r2n1 => exact ValOp.pure (grown_steady _ 15) [(23, .pointer (some ⟨T2, 0, none⟩))] (.inl ⟨18, _, rfl, rfl, by kernel_rfl, rfl⟩) (fun _ h1 _ => ⟨h1 14 23 (by kernel_rfl), trivial⟩) (by kernel_rfl) (fun _ _ _ _ _ => by kernel_rfl)
    case o16r2n1 => exact ValOp.pure (grown_steady _ 16) [(24, .pointer (some ⟨T2, 0, none⟩))] (.inl ⟨18, _, rfl, rfl, by kernel_rfl, rfl⟩) (fun _ h1 _ => ⟨h1 15 24 (by kernel_rfl), trivial⟩) (by kernel_rfl) (fun _ _ _ _ _ => by kernel_rfl)
    case o17r2n1 => exact ValOp.pure (grown_steady _ 17) [(25, .pointer (some ⟨T2, 1, none⟩))] (.inl ⟨18, _, rfl, rfl, by kernel_rfl, rfl⟩) (fun _ h1 _ => ⟨h1 16 25 (by kernel_rfl), trivial⟩) (by kernel_rfl) (fun _ _ _ hg _ => run_read rfl rfl (run_cell (below_at M2.out hg) rfl (Try.isAgg74 _)))
    case o18r2n1 => exact ValOp.call (grown_steady _ 18) [(22, .slice (some ⟨ug, 0, none⟩) (unl F 8704).length uc), (26, .slice (some ⟨ug2, 0, none⟩) (unl G 8704).length uc2)] (.inl ⟨18, _, rfl, rfl, by kernel_rfl, rfl⟩) (fun _ h1 _ => ⟨h1 13 22 (by kernel_rfl), h1 17 26 (by kernel_rfl), trivial⟩) (by kernel_rfl) 41 #[.slice (some ⟨ug, 0, none⟩) (unl F 8704).length uc, .slice (some ⟨ug2, 0, none⟩) (unl G 8704).length uc2] (fun _ => by kernel_rfl) (fun _ W hg => eq41_any ug ug2 uc uc2 (unl F 8704) (unl G 8704) W R hU.out ZF.out ZG.out (KU.out W hg) (KV.out W hg))
    case o19r2n1 => exact ValOp.pure (grown_steady _ 19) [(18, .bool true), (27, .bool R)] rfl (fun _ h1 _ => ⟨h1 9 18 (by kernel_rfl), h1 18 27 (by kernel_rfl), trivial⟩) (by kernel_rfl) (fun _ _ _ _ _ => by kernel_rfl)
    case o20r2n1 => exact ValOp.pure (grown_steady _ 20) [(28, .bool R)] rfl (fun _ h1 _ => ⟨h1 19 28 (by kernel_rfl), trivial⟩) (by kernel_rfl) (fun _ _ _ _ _ => by kernel_rfl)
    case hdoner2n1 =>
      intro w9 s hs b9
      have B9 : Hid (Below w.heap.size w w9) := B2.out.trans (Below.mono b9 B2.out.size)
      clear b9 hs
      go_wp2
      go_ret
      exact ⟨rfl, B9.out⟩
  · have hP : Hid (false = true ↔ ∀ i, i < 8704 → plc F i = plc G i) := ⟨fun h => (by cases h), fun h => absurd h hp⟩
    have HR : Hid (R = false) := by
      rw [Hid]
      cases R
      · rfl
      · exact absurd (plc_same (HRR.out.1 rfl)) hp
    clear hp
    refine wp_region_vals (a1 := ?a1r2n2) (grown _) [.pointer (some ⟨T1, 0, none⟩), .pointer (some ⟨T1, 0, none⟩), .pointer (some ⟨T1, 0, none⟩), .slice (some ⟨pg, 0, none⟩) 8704 pc, .pointer (some ⟨T2, 0, none⟩), .pointer (some ⟨T2, 0, none⟩), .pointer (some ⟨T2, 0, none⟩), .slice (some ⟨pg2, 0, none⟩) 8704 pc2, .bool false, .bool false, undef, undef, undef, undef, undef, undef, undef, undef, undef, .bool false, .bool false] 29 rfl (by kernel_rfl) (by kernel_rfl) (grown_start _) ⟨?o0r2n2, ?o1r2n2, ?o2r2n2, ?o3r2n2, ?o4r2n2, ?o5r2n2, ?o6r2n2, ?o7r2n2, ?o8r2n2, ?o9r2n2, ?o10r2n2, ?o11r2n2, ?o12r2n2, ?o13r2n2, ?o14r2n2, ?o15r2n2, ?o16r2n2, ?o17r2n2, ?o18r2n2, ?o19r2n2, ?o20r2n2, trivial⟩ ?har2n2 ?hdoner2n2
    case har2n2 => simp [putAll, Act.put]; exact rfl
    case o0r2n2 => exact ValOp.pure (grown_steady _ 0) [(0, .pointer (some ⟨T1, 0, none⟩))] rfl (fun _ _ h2 => ⟨(h2 0 (by kernel_rfl)).trans rfl, trivial⟩) (by kernel_rfl) (fun _ _ _ _ _ => by kernel_rfl)
    case o1r2n2 => exact ValOp.pure (grown_steady _ 1) [(9, .pointer (some ⟨T1, 0, none⟩))] rfl (fun _ h1 _ => ⟨h1 0 9 (by kernel_rfl), trivial⟩) (by kernel_rfl) (fun _ _ _ _ _ => by kernel_rfl)
    case o2r2n2 => exact ValOp.pure (grown_steady _ 2) [(10, .pointer (some ⟨T1, 0, none⟩))] rfl (fun _ h1 _ => ⟨h1 1 10 (by kernel_rfl), trivial⟩) (by kernel_rfl) (fun _ _ _ _ _ => by kernel_rfl)
    case o3r2n2 => exact ValOp.pure (grown_steady _ 3) [(11, .pointer (some ⟨T1, 0, none⟩))] rfl (fun _ h1 _ => ⟨h1 2 11 (by kernel_rfl), trivial⟩) (by kernel_rfl) (fun _ _ _ hg _ => run_read rfl rfl (run_cell (below_at M1.out hg) rfl (Try.isAgg73 _)))
    case o4r2n2 => exact ValOp.pure (grown_steady _ 4) [(1, .pointer (some ⟨T2, 0, none⟩))] rfl (fun _ _ h2 => ⟨(h2 1 (by kernel_rfl)).trans rfl, trivial⟩) (by kernel_rfl) (fun _ _ _ _ _ => by kernel_rfl)
    case o5r2n2 => exact ValOp.pure (grown_steady _ 5) [(13, .pointer (some ⟨T2, 0, none⟩))] rfl (fun _ h1 _ => ⟨h1 4 13 (by kernel_rfl), trivial⟩) (by kernel_rfl) (fun _ _ _ _ _ => by kernel_rfl)
    case o6r2n2 => exact ValOp.pure (grown_steady _ 6) [(14, .pointer (some ⟨T2, 0, none⟩))] rfl (fun _ h1 _ => ⟨h1 5 14 (by kernel_rfl), trivial⟩) (by kernel_rfl) (fun _ _ _ _ _ => by kernel_rfl)
    case o7r2n2 => exact ValOp.pure (grown_steady _ 7) [(15, .pointer (some ⟨T2, 0, none⟩))] rfl (fun _ h1 _ => ⟨h1 6 15 (by kernel_rfl), trivial⟩) (by kernel_rfl) (fun _ _ _ hg _ => run_read rfl rfl (run_cell (below_at M2.out hg) rfl (Try.isAgg73 _)))
    case o8r2n2 => exact ValOp.call (grown_steady _ 8) [(12, .slice (some ⟨pg, 0, none⟩) 8704 pc), (16, .slice (some ⟨pg2, 0, none⟩) 8704 pc2)] rfl (fun _ h1 _ => ⟨h1 3 12 (by kernel_rfl), h1 7 16 (by kernel_rfl), trivial⟩) (by kernel_rfl) 40 #[.slice (some ⟨pg, 0, none⟩) 8704 pc, .slice (some ⟨pg2, 0, none⟩) 8704 pc2] (fun _ => by kernel_rfl) (fun _ W hg => eq40_any pg pg2 8704 pc pc2 (plc F) (plc G) W false hP.out (by decide) (KP.out W hg) (KQ.out W hg))
    case o9r2n2 => exact ValOp.pure (grown_steady _ 9) [(17, .bool false)] rfl (fun _ h1 _ => ⟨h1 8 17 (by kernel_rfl), trivial⟩) (by kernel_rfl) (fun _ _ _ _ _ => by kernel_rfl)
    case o10r2n2 => exact ValOp.no (grown_steady _ 10) (.inl ⟨18, _, rfl, rfl, by kernel_rfl, rfl⟩) rfl
    case o11r2n2 => exact ValOp.no (grown_steady _ 11) (.inl ⟨18, _, rfl, rfl, by kernel_rfl, rfl⟩) rfl
    case o12r2n2 => exact ValOp.no (grown_steady _ 12) (.inl ⟨18, _, rfl, rfl, by kernel_rfl, rfl⟩) rfl
    case o13r2n2 => exact ValOp.no (grown_steady _ 13) (.inl ⟨18, _, rfl, rfl, by kernel_rfl, rfl⟩) rfl
    case o14r2n2 => exact ValOp.no (grown_steady _ 14) (.inl ⟨18, _, rfl, rfl, by kernel_rfl, rfl⟩) rfl
    case o15r2n2 => exact ValOp.no (grown_steady _ 15) (.inl ⟨18, _, rfl, rfl, by kernel_rfl, rfl⟩) rfl
    case o16r2n2 => exact ValOp.no (grown_steady _ 16) (.inl ⟨18, _, rfl, rfl, by kernel_rfl, rfl⟩) rfl
    case o17r2n2 => exact ValOp.no (grown_steady _ 17) (.inl ⟨18, _, rfl, rfl, by kernel_rfl, rfl⟩) rfl
    case o18r2n2 => exact ValOp.no (grown_steady _ 18) (.inl ⟨18, _, rfl, rfl, by kernel_rfl, rfl⟩) rfl
    case o19r2n2 => exact ValOp.pure (grown_steady _ 19) [(18, .bool false), (27, undef)] rfl (fun _ h1 _ => ⟨h1 9 18 (by kernel_rfl), h1 18 27 (by kernel_rfl), trivial⟩) (by kernel_rfl) (fun _ _ _ _ _ => by kernel_rfl)
    case o20r2n2 => exact ValOp.pure (grown_steady _ 20) [(28, .bool false)] rfl (fun _ h1 _ => ⟨h1 19 28 (by kernel_rfl), trivial⟩) (by kernel_rfl) (fun _ _ _ _ _ => by kernel_rfl)
    case hdoner2n2 =>
      intro w9 s hs b9
      have B9 : Hid (Below w.heap.size w w9) := B2.out.trans (Below.mono b9 B2.out.size)
      clear b9 hs
      go_wp2
      go_ret
      exact ⟨by rw [HR.out]; rfl, B9.out⟩
end Go.Proofs.Ytookbgmolggohaa
