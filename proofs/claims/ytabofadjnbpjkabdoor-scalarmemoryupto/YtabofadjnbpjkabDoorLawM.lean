/-
  The walk of the law ScalarMemory: it returns true and turns nothing that was there. Conditions: the text has at most about a million bytes; the library's two tables hold what their text lays.
-/
import Derived.Test.YtabofadjnbpjkabDoorKc
import Derived.Test.YtabofadjnbpjkabDoorCa
namespace Go.Proofs.YtabofadjnbpjkabDoor
open Go.RowKit Go.Lib
/-- A row whose first j places were written on. -/
def hfM (i _n j : Nat) (X : List Value) : List Value := mk4 i j ++ X.drop j
theorem hfM_set (i n j : Nat) (X : List Value) (hX : X.length = n) (hj : j < n) : (hfM i n j X).set j (.int .i32 (-1 - (i : Int))) = hfM i n (j + 1) X := by
  unfold hfM mk4
  rw [List.set_append_right _ _ (by simp), List.length_replicate, Nat.sub_self, List.drop_eq_getElem_cons (by omega), List.set_cons_zero, List.replicate_succ', List.append_assoc]
  rfl
theorem hfM_all (i n : Nat) (X : List Value) (hX : X.length = n) : hfM i n n X = mk4 i n := by
  unfold hfM
  rw [List.drop_eq_nil_of_le (by omega), List.append_nil]
theorem mk4_len (i n : Nat) : (mk4 i n).length = n := List.length_replicate
theorem mk4_at (i n j : Nat) (h : j < n) : (mk4 i n)[j]? = some (.int .i32 (-1 - (i : Int))) := by
  unfold mk4
  rw [List.getElem?_replicate, if_pos h]
/-- The first loop's rounds keep this of the row that is written on. -/
structure Mem1 (vf : Nat → Value) (nf : Nat → Nat) (vw : Value) (zs : List Int) (D gl : Nat) (w : World) (k j : Nat) (W : World) : Prop where
  mem : Mem vf nf vw zs D gl w k W
  row : ∃ X, X.length = nf k ∧ W.ownsRow w.heap.size 21 1 (vf k) (nf k) (hfM k (nf k) j X)
theorem wpList_append_run {P : Program} (w : World) {ops : Array Oper} {rest : List Oper} {o : Oper} {a : Act} {Q : Exit → Act → World → Prop} (hgd : o.guard = none) (s x : Operand) (t : TypeId)
    (ho : o.op = .call { callee := .builtin .append, args := #[s, x], argTypes := #[t, t] }) (v u r : Value) (w' : World) (hs : a.eval s = v) (hx : a.eval x = u) (hr : (Builtin.append_ #[t, t] o.type #[v, u]).run P w = .ok r w')
    (h : wpList P ops Q rest (a.put o.dst r) w') : wpList P ops Q (o :: rest) a w := by
  refine wpList_plain hgd fun K hK => ?_
  unfold Oper.wp execOp
  simp only [ho, resolve, invoke, builtin, Sem.run_bind, Sem.run_pure, Result.andThen_ok, List.map_toArray, List.map_cons, List.map_nil, hs, hx, hr]
  exact hK _ _ h
theorem lists_at {W : World} {gl : Nat} {vf : Nat → Value} (h : W.heap[gl]? = some (.cells #[vf 0, vf 1, vf 2, vf 3] 23 (0, 0))) (k : Nat) (hk : k < 4) : W.cell? ⟨gl, k, none⟩ = some (vf k) := by
  simp only [World.cell?, h]
  match k, hk with
  | 0, _ => rfl
  | 1, _ => rfl
  | 2, _ => rfl
  | 3, _ => rfl
set_option maxRecDepth 100000 in
set_option maxHeartbeats 16000000 in
theorem lawM (s : ByteArray) (w : World) (hs : s.size ≤ 1048576) (hT : Utf8Tabs 0 1 w) (hg : 2 ≤ w.heap.size) :
    Calls Tryd.prog 6 #[.string s] w fun e w' => e = .returned (.bool true) ∧ Below w.heap.size w w' := by
  have TB : Hid (∀ W, Below w.heap.size w W → Utf8Tabs 0 1 W) := fun W hb => tabs_below hT (by omega) hb
  have GB : Hid (∀ W, Below w.heap.size w W → 2 ≤ W.heap.size) := fun W hb => Nat.le_trans hg hb.size
  have KA := awake_any w hT hg
  have hpl : (poss s).length ≤ s.size := posAt_len s s.size 0 (by omega)
  have e0 : (poss s).length = (nums s).length := by unfold nums; rw [List.length_map]
  have hvz := nums_valid s
  obtain ⟨zs, hzs⟩ : ∃ zs, nums s = zs := ⟨_, rfl⟩
  have HZ : Hid (nums s = zs) := hzs
  rw [hzs] at e0 hvz
  have hzl : zs.length ≤ 1048576 := by omega
  have hrn : runesC s (poss s) = zs.map fun z => Value.int .i32 z := by rw [runes_nums, hzs]
  clear hT hzs
  go_enter Tryd.func6, Tryd.ntmps6
  go_wp2_with (go_at_call 9; refine KA.mono ?_)
  first | rintro e w1 rfl b1 | rintro e w1 ⟨rfl, b1⟩
  have K2 := rdecode_any s w1 (by omega)
  rw [hrn, e0] at K2
  have B1 : Hid (Below w.heap.size w w1) := b1
  clear b1 KA
  go_wp2_with (go_at_call 21; refine K2.mono ?_)
  first | rintro e w2 vw rfl o2 b2 | rintro e w2 ⟨vw, rfl, o2, b2⟩
  have B2 : Hid (Below w.heap.size w w2) := B1.out.trans (b2.mono B1.out.size)
  have O2 : Hid (w2.ownsRow w1.heap.size 21 1 vw zs.length (zs.map fun z => Value.int .i32 z)) := o2
  have z12 := b2.size
  have z01 := B1.out.size
  clear o2 b2 K2
  go_wp2_with (go_at_call 16; refine (newDecoder_any _).mono ?_; rintro e w' ⟨rfl, rfl⟩)
  obtain ⟨w3, hw3⟩ : ∃ w3, w2.alloc (.cells #[.string ByteArray.empty] 67) = w3 := ⟨_, rfl⟩
  have z3 : w3.heap.size = w2.heap.size + 1 := by rw [← hw3]; simp
  have B3 : Hid (Below w.heap.size w w3) := by unfold Hid; rw [← hw3]; exact B2.out.alloc B2.out.size _
  have D3 : Hid (DecAt w3 w2.heap.size ⟨#[]⟩) := by unfold Hid; rw [← hw3]; exact World.alloc_heap_new _ _
  have O3 : Hid (w3.ownsRow w1.heap.size 21 1 vw zs.length (zs.map fun z => Value.int .i32 z)) := by unfold Hid; rw [← hw3]; exact O2.out.alloc _
  rw [hw3]
  have K4 := decode_any s w3 (by omega) (TB.out _ B3.out) (GB.out _ B3.out)
  rw [hrn, e0] at K4
  have HW2 := (fun (g : Nat) (h : vw.ownBlock = some g) => O2.out.lt g h)
  have LW : Hid (∀ g, vw.ownBlock = some g → w1.heap.size ≤ g ∧ g < w2.heap.size) := HW2
  clear hw3 O2 HW2
  go_wp2_with (go_at_call 10; refine K4.mono ?_)
  first | rintro e w4 va rfl o4 b4 | rintro e w4 ⟨va, rfl, o4, b4⟩
  obtain ⟨aa, ca, hva, _⟩ := owns_slice o4
  subst hva
  have B4 : Hid (Below w.heap.size w w4) := B3.out.trans (b4.mono B3.out.size)
  have D4 := D3.out.below b4
  have OA4 : Hid (w4.ownsRow w3.heap.size 21 1 (Value.slice aa zs.length ca) zs.length (zs.map fun z => Value.int .i32 z)) := o4
  have OW4 : Hid (w4.ownsRow w1.heap.size 21 1 vw zs.length (zs.map fun z => Value.int .i32 z)) := owns_below O3.out b4
  have z34 := b4.size
  have LA : Hid (∀ g, (Value.slice aa zs.length ca).ownBlock = some g → w3.heap.size ≤ g ∧ g < w4.heap.size) := fun g h => o4.lt g h
  have es : (⟨#[]⟩ : ByteArray) ++ s = s := ByteArray.empty_append
  have K5 := feed_any w2.heap.size ⟨#[]⟩ s w4 (by rw [es]; omega) D4 (TB.out _ B4.out) (GB.out _ B4.out) (by omega)
  rw [es] at K5
  have hsn : (sn s).length ≤ 1048576 := Nat.le_trans (sn_len s) hs
  obtain ⟨ys, hys⟩ : ∃ ys, sn s = ys := ⟨_, rfl⟩
  rw [hys] at K5 hsn
  clear o4 b4 K4 D4 O3 hys
  go_wp2_with (go_at_call 18; refine K5.mono ?_)
  first | rintro e w5 vb rfl o5 d5 g5 | rintro e w5 ⟨vb, rfl, o5, d5, g5⟩
  obtain ⟨ab, cb, hvb, _⟩ := owns_slice o5
  subst hvb
  have z45 := g5.size
  have B5 : Hid (Below w.heap.size w w5) := B4.out.grown g5 B4.out.size (fun j hj => by cases hj; omega)
  have OW5 : Hid (w5.ownsRow w1.heap.size 21 1 vw zs.length (zs.map fun z => Value.int .i32 z)) := OW4.out.kept g5 (.inr (fun e => by have := LW.out _ e; omega))
  have OA5 : Hid (w5.ownsRow w3.heap.size 21 1 (Value.slice aa zs.length ca) zs.length (zs.map fun z => Value.int .i32 z)) := OA4.out.kept g5 (.inr (fun e => by have := LA.out _ e; omega))
  have OB5 : Hid (w5.ownsRow w4.heap.size 21 1 (Value.slice ab ys.length cb) ys.length (ys.map fun z => Value.int .i32 z)) := o5
  have LB : Hid (∀ g, (Value.slice ab ys.length cb).ownBlock = some g → w4.heap.size ≤ g ∧ g < w5.heap.size) := fun g h => o5.lt g h
  have K6 := end_own w2.heap.size _ w5 d5
  clear o5 d5 g5 K5 OW4 OA4
  go_wp2_with (go_at_call 19; refine K6.mono ?_)
  first | rintro e w6 vc nc Xc rfl hnc o6 d6 g6 | rintro e w6 ⟨vc, nc, Xc, rfl, hnc, o6, d6, g6⟩
  obtain ⟨ac, cc, hvc, _⟩ := owns_slice o6
  subst hvc
  have z56 := g6.size
  have B6 : Hid (Below w.heap.size w w6) := B5.out.grown g6 B5.out.size (fun j hj => by cases hj; omega)
  have OW6 : Hid (w6.ownsRow w1.heap.size 21 1 vw zs.length (zs.map fun z => Value.int .i32 z)) := OW5.out.kept g6 (.inr (fun e => by have := LW.out _ e; omega))
  have OA6 : Hid (w6.ownsRow w3.heap.size 21 1 (Value.slice aa zs.length ca) zs.length (zs.map fun z => Value.int .i32 z)) := OA5.out.kept g6 (.inr (fun e => by have := LA.out _ e; omega))
  have OB6 : Hid (w6.ownsRow w4.heap.size 21 1 (Value.slice ab ys.length cb) ys.length (ys.map fun z => Value.int .i32 z)) := OB5.out.kept g6 (.inr (fun e => by have := LB.out _ e; omega))
  have OC6 : Hid (w6.ownsRow w5.heap.size 21 1 (Value.slice ac nc cc) nc Xc) := o6
  have LC : Hid (∀ g, (Value.slice ac nc cc).ownBlock = some g → w5.heap.size ≤ g ∧ g < w6.heap.size) := fun g h => o6.lt g h
  have D6 : Hid (DecAt w6 w2.heap.size ⟨#[]⟩) := d6
  have K7 := U.units_any zs vw w6 (by omega) (Rds.of_owns OW6.out)
  have huL : U.unL zs = U.uns zs := by unfold U.unL; rw [if_pos ((all_valid _ 0).2 hvz)]
  rw [huL] at K7
  have hur := U.uns_range zs hvz
  have hul := U.uns_len zs
  have hfu := U.fu_uns zs hvz
  clear o6 d6 g6 K6 OW5 OA5 OB5 huL
  go_wp2_with (go_at_call 22; refine K7.mono ?_)
  first | rintro e w7 vu rfl r7 b7 | rintro e w7 ⟨vu, rfl, r7, b7⟩
  have z67 := b7.size
  have B7 : Hid (Below w.heap.size w w7) := B6.out.trans (b7.mono B6.out.size)
  have K8 := U.from_any (U.uns zs) vu w7 (by omega) r7 hur
  rw [hfu] at K8
  have B67 : Hid (Below w6.heap.size w6 w7) := b7
  clear r7 b7 K7 hur hul hfu
  go_wp2_with (go_at_call 23; refine K8.mono ?_)
  first | rintro e w8 vv rfl o8 b8 | rintro e w8 ⟨vv, rfl, o8, b8⟩
  obtain ⟨av, cv, hvv, _⟩ := owns_slice o8
  subst hvv
  have z78 := b8.size
  have B8 : Hid (Below w.heap.size w w8) := B7.out.trans (b8.mono B7.out.size)
  have B68 : Below w6.heap.size w6 w8 := B67.out.trans (b8.mono B67.out.size)
  have LV : Hid (∀ g, (Value.slice av zs.length cv).ownBlock = some g → w7.heap.size + 1 ≤ g ∧ g < w8.heap.size) := fun g h => o8.lt g h
  obtain ⟨vf, hf0, hf1, hf2, hf3⟩ : ∃ vf : Nat → Value, vf 0 = (Value.slice aa zs.length ca) ∧ vf 1 = (Value.slice ab ys.length cb) ∧ vf 2 = (Value.slice ac nc cc) ∧ vf 3 = (Value.slice av zs.length cv) := ⟨fun i => match i with | 0 => (Value.slice aa zs.length ca) | 1 => (Value.slice ab ys.length cb) | 2 => (Value.slice ac nc cc) | _ => (Value.slice av zs.length cv), rfl, rfl, rfl, rfl⟩
  obtain ⟨nf, hn0, hn1, hn2, hn3⟩ : ∃ nf : Nat → Nat, nf 0 = zs.length ∧ nf 1 = ys.length ∧ nf 2 = nc ∧ nf 3 = zs.length := ⟨fun i => match i with | 0 => zs.length | 1 => ys.length | 2 => nc | _ => zs.length, rfl, rfl, rfl, rfl⟩
  have hM8 : Mem vf nf vw zs w2.heap.size w8.heap.size w 0 (w8.alloc (.cells #[vf 0, vf 1, vf 2, vf 3] 23)) := by
    refine ⟨fun i hi => ?_, owns_low ((owns_below OW6.out B68).alloc _) (by omega), (D6.out.below B68).below ((Below.refl _ _).alloc (Nat.le_refl _) _), World.alloc_heap_new _ _, B8.out.alloc B8.out.size _⟩
    match i, hi with
    | 0, _ => exact ⟨_, by rw [hf0, hn0]; exact owns_low ((owns_below OA6.out B68).alloc _) (by omega), fun h => by omega⟩
    | 1, _ => exact ⟨_, by rw [hf1, hn1]; exact owns_low ((owns_below OB6.out B68).alloc _) (by omega), fun h => by omega⟩
    | 2, _ => exact ⟨_, by rw [hf2, hn2]; exact owns_low ((owns_below OC6.out B68).alloc _) (by omega), fun h => by omega⟩
    | 3, _ => exact ⟨_, by rw [hf3, hn3]; exact owns_low (o8.alloc _) (by omega), fun h => by omega⟩
  have rng : ∀ i, i < 4 → ∀ g, (vf i).ownBlock = some g → (i = 0 → w3.heap.size ≤ g ∧ g < w4.heap.size) ∧ (i = 1 → w4.heap.size ≤ g ∧ g < w5.heap.size) ∧ (i = 2 → w5.heap.size ≤ g ∧ g < w6.heap.size) ∧ (i = 3 → w7.heap.size + 1 ≤ g ∧ g < w8.heap.size) := by
    intro i hi g hgq
    match i, hi with
    | 0, _ => rw [hf0] at hgq; exact ⟨fun _ => LA.out g hgq, fun h => by omega, fun h => by omega, fun h => by omega⟩
    | 1, _ => rw [hf1] at hgq; exact ⟨fun h => by omega, fun _ => LB.out g hgq, fun h => by omega, fun h => by omega⟩
    | 2, _ => rw [hf2] at hgq; exact ⟨fun h => by omega, fun h => by omega, fun _ => LC.out g hgq, fun h => by omega⟩
    | 3, _ => rw [hf3] at hgq; exact ⟨fun h => by omega, fun h => by omega, fun h => by omega, fun _ => LV.out g hgq⟩
  have hAp : Apt vf vw w2.heap.size w8.heap.size w8.heap.size w := by
    refine ⟨fun i j hi hj hne g h1 h2 => ?_, fun i hi g h1 h2 => ?_, fun i hi h1 => ?_, fun i hi h1 => ?_, fun i hi g h1 => ?_⟩
    · have r1 := rng i hi g h1
      have r2 := rng j hj g h2
      omega
    · have r1 := rng i hi g h1
      have r2 := LW.out g h2
      omega
    · have r1 := rng i hi _ h1
      omega
    · have r1 := rng i hi _ h1
      omega
    · have r1 := rng i hi g h1
      omega
  have hwb : Hid (∀ g, vw.ownBlock = some g → g < w8.heap.size) := fun g h => by have := LW.out g h; omega
  have hdg : w2.heap.size < w8.heap.size := by omega
  have hwg0 : w.heap.size ≤ w8.heap.size := by omega
  have AP : Hid (Apt vf vw w2.heap.size w8.heap.size w8.heap.size w) := hAp
  have hnf : ∀ i, i < 4 → nf i ≤ 1048577 := by
    intro i hi
    match i, hi with
    | 0, _ => rw [hn0]; omega
    | 1, _ => rw [hn1]; omega
    | 2, _ => rw [hn2]; omega
    | 3, _ => rw [hn3]; omega
  have HNF : Hid (∀ i, i < 4 → nf i ≤ 1048577) := hnf
  obtain ⟨D, hD⟩ : ∃ D, w2.heap.size = D := ⟨_, rfl⟩
  obtain ⟨gl, hgl⟩ : ∃ gl, w8.heap.size = gl := ⟨_, rfl⟩
  rw [hf0, hf1, hf2, hf3] at hM8
  obtain ⟨W9, hW9⟩ : ∃ W9, w8.alloc (.cells #[.slice aa zs.length ca, .slice ab ys.length cb, .slice ac nc cc, .slice av zs.length cv] 23) = W9 := ⟨_, rfl⟩
  rw [hW9, hD, hgl] at hM8
  rw [hD, hgl] at AP
  rw [hgl] at hwb hwg0
  rw [hD, hgl] at hdg
  have HWB : Hid (∀ g, vw.ownBlock = some g → g < gl) := hwb
  have hDg : D < gl := hdg
  have hwg : w.heap.size ≤ gl := hwg0
  rw [hD]
  have hDw : w.heap.size ≤ D := by omega
  have hD2 : 2 ≤ D := by omega
  have hglz : gl + 1 = W9.heap.size := by rw [← hW9, ← hgl]; simp
  have M0 : Hid (Mem vf nf vw zs D gl w 0 W9) := hM8
  have HW9 : Hid (w8.alloc (.cells #[.slice aa zs.length ca, .slice ab ys.length cb, .slice ac nc cc, .slice av zs.length cv] 23) = W9) := hW9
  have HGL : Hid (w8.heap.size = gl) := hgl
  clear o8 b8 K8 B68 B67 OW6 OA6 OB6 OC6 LA LB LC LV LW rng hAp hnf hM8 D6 hf0 hf1 hf2 hf3 hn0 hn1 hn2 hn3 hW9 B1 B2 B3 B4 B5 B6 B7 B8 hnc hsn
  go_wp2
  rw [HW9.out]
  clear HW9 HGL
  obtain ⟨i0, hi, hz0, hz1, hz2⟩ := info_parts info21
  have row_at : Hid (∀ i, i < 4 → ∃ a c, vf i = .slice a (nf i) c ∧ (0 < nf i → ∃ g, a = some ⟨g, 0, none⟩)) := fun i hi => by
    obtain ⟨X, h1, _⟩ := M0.out.rows i hi
    exact owns_slice h1
  go_loopw [51] (fun i wr => ∃ k : Nat, i = .int .i64 k ∧ k ≤ 4 ∧ Hid (Mem vf nf vw zs D gl w k wr)) (fun i _ => 4 - (RowKit.intOf i).toNat)
  case atStart => exact ⟨0, rfl, by omega, M0⟩
  case round =>
    clear M0
    obtain ⟨k, rfl, hk, MK⟩ := hrel
    by_cases l1 : k < 4
    · have l1i : (k : Int) < 4 := by omega
      have hlc := lists_at MK.out.lists k l1
      obtain ⟨a, c, hv, hpos⟩ := row_at.out k l1
      have hnk := HNF.out k l1
      have M1 : Hid (Mem1 vf nf vw zs D gl w k 0 wr) := by
        obtain ⟨X, h1, _⟩ := MK.out.rows k l1
        refine ⟨MK.out, X, by have := h1.1; omega, ?_⟩
        unfold hfM mk4
        exact h1
      rw [hv] at hlc
      obtain ⟨n, hn⟩ : ∃ n, nf k = n := ⟨_, rfl⟩
      rw [hn] at hlc hpos hnk
      have HV : Hid (vf k = .slice a n c) := by unfold Hid; rw [hv, hn]
      have HN : Hid (nf k = n) := hn
      clear MK hv hn
      go_wp2
      go_loopw [58] (fun i wr => ∃ j : Nat, i = .int .i64 j ∧ j ≤ n ∧ Hid (Mem1 vf nf vw zs D gl w k j wr)) (fun i _ => n - (RowKit.intOf i).toNat)
      case atStart => exact ⟨0, rfl, Nat.zero_le _, M1⟩
      case round =>
        clear M1
        obtain ⟨j, rfl, hj, MJ⟩ := hrel
        by_cases l2 : j < n
        · have l2i : (j : Int) < (n : Int) := by omega
          obtain ⟨g, rfl⟩ := hpos (by omega)
          obtain ⟨X, hX, hrow⟩ := MJ.out.row
          rw [HV.out, HN.out] at hrow
          rw [HN.out] at hX
          have hcl : wr.cell? ⟨g, j, none⟩ = some ((hfM k n j X).getD j undef) := by
            refine owns_cell hrow rfl j _ ?_
            have hl : j < (hfM k n j X).length := by have := hrow.1; omega
            simp [List.getD, List.getElem?_eq_getElem hl]
          have hfz := own_froz hrow j
          have hst := own_store (.int .i32 (-1 - (k : Int))) hrow l2
          rw [hfM_set k n j X hX l2] at hst
          have HM : Hid (Mem1 vf nf vw zs D gl w k (j + 1) (wr.setCell ⟨g, j, none⟩ (.int .i32 (-1 - (k : Int))))) := by
            refine ⟨MJ.out.mem.step AP.out l1 (g := g) (by rw [HV.out]; rfl) (grown_cell wr g j _) (fun q hq => .inl hq) ⟨_, by rw [HV.out, HN.out]; exact hst, fun q => absurd q (Nat.lt_irrefl _)⟩, X, by rw [HN.out]; exact hX, by rw [HV.out, HN.out]; exact hst⟩
          have hw1 : IntKind.i32.wrap (-1 - (k : Int)) = -1 - (k : Int) := by rw [IntKind.wrap_i32]; omega
          clear MJ hrow hst hX
          generalize (hfM k n j X).getD j undef = y at *
          go_wp2
          exact ⟨⟨j + 1, by go_num, by omega, HM⟩, by simp [RowKit.intOf]; omega⟩
        · have l2i : ¬ (j : Int) < (n : Int) := by omega
          have HM : Hid (Mem vf nf vw zs D gl w (k + 1) wr) := by
            obtain ⟨X, hX, hrow⟩ := MJ.out.row
            have ej : j = nf k := by rw [HN.out]; omega
            rw [ej, hfM_all k (nf k) X hX] at hrow
            obtain ⟨m1, m2, m3, m4, m5⟩ := MJ.out.mem
            refine ⟨fun i hi => ?_, m2, m3, m4, m5⟩
            by_cases e : i = k
            · subst e; exact ⟨_, hrow, fun _ => rfl⟩
            · obtain ⟨Y, y1, y2⟩ := m1 i hi
              exact ⟨Y, y1, fun q => y2 (by omega)⟩
          clear MJ
          go_wp2
          exact ⟨⟨k + 1, by go_num, by omega, HM⟩, by simp [RowKit.intOf]; omega⟩
    · have l1i : ¬ (k : Int) < 4 := by omega
      have ek : k = 4 := by omega
      subst ek
      go_wp2
      go_loopw [71] (fun i wr => ∃ k : Nat, i = .int .i64 k ∧ k ≤ 4 ∧ Hid (Mem vf nf vw zs D gl w 4 wr)) (fun i _ => 4 - (RowKit.intOf i).toNat)
      case atStart => exact ⟨0, rfl, by omega, MK⟩
      case round =>
        clear MK
        obtain ⟨k, rfl, hk, MK⟩ := hrel
        by_cases l1 : k < 4
        · have l1i : (k : Int) < 4 := by omega
          have hlc := lists_at MK.out.lists k l1
          obtain ⟨a, c, hv, hpos⟩ := row_at.out k l1
          have hnk := HNF.out k l1
          obtain ⟨X, hx1, hx2⟩ := MK.out.rows k l1
          have hX := hx2 l1
          subst hX
          have A0 : Hid (Mem vf nf vw zs D gl w 4 wr ∧ App vf k (nf k) gl w (vf k) 0 wr) := ⟨MK.out, by rw [List.replicate_zero, List.append_nil]; exact hx1, .inl rfl⟩
          obtain ⟨n, hn⟩ : ∃ n, nf k = n := ⟨_, rfl⟩
          have HN : Hid (nf k = n) := hn
          rw [hn] at hnk A0
          rw [hv, hn] at hlc
          have HV : Hid (vf k = .slice a n c) := by unfold Hid; rw [hv, hn]
          rw [HV.out] at A0
          clear MK hv hn hx1 hx2 hpos
          go_wp2
          go_loopw [17, 76] (fun x i wr => ∃ m : Nat, i = .int .i64 m ∧ m ≤ 9 ∧ Hid (Mem vf nf vw zs D gl w 4 wr ∧ App vf k n gl w x m wr)) (fun _ i _ => 9 - (RowKit.intOf i).toNat)
          case atStart => exact ⟨0, rfl, by omega, A0⟩
          case round =>
            clear A0
            obtain ⟨m, rfl, hm, MA⟩ := hrel
            obtain ⟨ax, cx, hx, hxp⟩ := owns_slice MA.out.2.1
            subst hx
            by_cases l2 : m < 9
            · have l2i : (m : Int) < 9 := by omega
              have hwz := MA.out.1.low.size
              have hcn := cell_one_new wr (.int .i32 77) 21
              obtain ⟨v', w', hrun, hnew, hgr, hat, hold⟩ := run_append_old (P := Tryd.prog) (wr.alloc (.cells #[.int .i32 77] 21)) w.heap.size 23 23 21 i0 (.int .i32 0) 4 Tryd.underlying23 hi hz0 hz1 hz2 rfl (.slice ax (n + m) cx) (n + m) _ (MA.out.2.1.alloc _) ⟨wr.heap.size, 0, none⟩ 1 1 [.int .i32 77] rfl hcn (by simp [Value.oneCell']) (by unfold maxLen; omega) (by omega) (by simp; omega)
              have HM : Hid (Mem vf nf vw zs D gl w 4 w' ∧ App vf k n gl w v' (m + 1) w') := by
                have h0 := MA.out.1.below (W' := wr.alloc (.cells #[.int .i32 77] 21)) ((Below.refl _ _).alloc (Nat.le_refl _) _)
                have h1 : App vf k (nf k) gl w (.slice ax (n + m) cx) m (wr.alloc (.cells #[.int .i32 77] 21)) := by rw [HN.out]; exact ⟨MA.out.2.1.alloc _, MA.out.2.2⟩
                have h2 := app_step h0 AP.out HWB.out hDg l1 hwg h1 (x' := v') (W' := w') (by rw [HN.out]; exact hnew) hgr hat (by rw [HN.out]; exact hold)
                rw [HN.out] at h2
                exact h2
              have HRUN : Hid ((Builtin.append_ #[23, 23] 23 #[.slice ax (n + m) cx, .slice (some ⟨wr.heap.size, 0, none⟩) 1 1]).run Tryd.prog (wr.alloc (.cells #[.int .i32 77] 21)) = .ok v' w') := hrun
              clear hrun hnew hgr hat hold MA
              go_wp2_with (at_builtin; refine wpList_append_run _ rfl _ _ 23 rfl _ _ _ _ rfl rfl HRUN.out ?_)
              exact ⟨⟨m + 1, by go_num, by omega, HM⟩, by simp [RowKit.intOf]; omega⟩
            · have l2i : ¬ (m : Int) < 9 := by omega
              have em : m = 9 := by omega
              subst em
              have hn9 : ((n + 9 : Nat) : Int) - 9 = (n : Int) := by omega
              obtain ⟨n9, hn9'⟩ : ∃ n9, n + 9 = n9 := ⟨_, rfl⟩
              have A9 : Hid (wr.ownsRow w.heap.size 21 1 (.slice ax n9 cx) n9 (mk4 k n ++ List.replicate 9 (.int .i32 77))) := by unfold Hid; rw [← hn9']; exact MA.out.2.1
              have M9 : Hid (Mem vf nf vw zs D gl w 4 wr) := MA.out.1
              have hw1 : IntKind.i32.wrap (-1 - (k : Int)) = -1 - (k : Int) := by rw [IntKind.wrap_i32]; omega
              rw [hn9'] at hn9 hxp ⊢
              have hnn : n ≤ n9 := by omega
              clear MA
              go_wp2
              go_loopw [85] (fun i wr2 => ∃ j : Nat, i = .int .i64 j ∧ j ≤ n ∧ wr2 = wr) (fun i _ => n - (RowKit.intOf i).toNat)
              case atStart => exact ⟨0, rfl, Nat.zero_le _, rfl⟩
              case round =>
                rename_i wr2
                obtain ⟨j, rfl, hj, hwr⟩ := hrel
                subst hwr
                by_cases l3 : j < n
                · have l3i : (j : Int) < (n : Int) := by omega
                  have l3k : (j : Int) < (n9 : Int) := by omega
                  obtain ⟨gx, rfl⟩ := hxp (by omega)
                  have hcl := owns_cell A9.out rfl j (.int .i32 (-1 - (k : Int))) (by rw [List.getElem?_append_left (by rw [mk4_len]; exact l3)]; exact mk4_at k n j l3)
                  go_wp2
                  exact ⟨⟨j + 1, by go_num, by omega, by simp⟩, by simp [RowKit.intOf]; omega⟩
                · have l3i : ¬ (j : Int) < (n : Int) := by omega
                  go_wp2
                  exact ⟨⟨k + 1, by go_num, by omega, M9⟩, by simp [RowKit.intOf]; omega⟩
        · have l1i : ¬ (k : Int) < 4 := by omega
          go_wp2
          go_loopw [100] (fun i wr => ∃ k : Nat, i = .int .i64 k ∧ k ≤ 4 ∧ Hid (Mem vf nf vw zs D gl w 4 wr)) (fun i _ => 4 - (RowKit.intOf i).toNat)
          case atStart => exact ⟨0, rfl, by omega, MK⟩
          case round =>
            clear MK l1 l1i hk
            obtain ⟨k, rfl, hk, MK⟩ := hrel
            by_cases l1 : k < 4
            · have l1i : (k : Int) < 4 := by omega
              have hlc := lists_at MK.out.lists k l1
              obtain ⟨a, c, hv, hpos⟩ := row_at.out k l1
              have hnk := HNF.out k l1
              obtain ⟨X, hx1, hx2⟩ := MK.out.rows k l1
              have hX := hx2 l1
              subst hX
              obtain ⟨n, hn⟩ : ∃ n, nf k = n := ⟨_, rfl⟩
              rw [hv, hn] at hlc hx1
              rw [hn] at hnk hpos
              have HX1 : Hid (wr.ownsRow w.heap.size 21 1 (.slice a n c) n (mk4 k n)) := hx1
              have hw1 : IntKind.i32.wrap (-1 - (k : Int)) = -1 - (k : Int) := by rw [IntKind.wrap_i32]; omega
              clear hv hn hx1 hx2
              go_wp2
              go_loopw [107] (fun i wr2 => ∃ j : Nat, i = .int .i64 j ∧ j ≤ n ∧ wr2 = wr) (fun i _ => n - (RowKit.intOf i).toNat)
              case atStart => exact ⟨0, rfl, Nat.zero_le _, rfl⟩
              case round =>
                rename_i wr2
                obtain ⟨j, rfl, hj, hwr⟩ := hrel
                subst hwr
                by_cases l3 : j < n
                · have l3i : (j : Int) < (n : Int) := by omega
                  obtain ⟨gx, rfl⟩ := hpos (by omega)
                  have hcl := owns_cell HX1.out rfl j (.int .i32 (-1 - (k : Int))) (mk4_at k n j l3)
                  go_wp2
                  exact ⟨⟨j + 1, by go_num, by omega, by simp⟩, by simp [RowKit.intOf]; omega⟩
                · have l3i : ¬ (j : Int) < (n : Int) := by omega
                  go_wp2
                  exact ⟨⟨k + 1, by go_num, by omega, MK⟩, by simp [RowKit.intOf]; omega⟩
            · have l1i : ¬ (k : Int) < 4 := by omega
              have KP := pieces_any s wr (by omega) (TB.out _ MK.out.low) (GB.out _ MK.out.low)
              rw [e0] at KP
              go_wp2_with (go_at_call 14; refine KP.mono ?_)
              first | rintro e wp vp rfl op bp | rintro e wp ⟨vp, rfl, op, bp⟩
              have hgz := (Array.getElem?_eq_some_iff.1 MK.out.lists).1
              have hwrz := MK.out.low.size
              obtain ⟨bb, hbb⟩ : ∃ bb, wr.heap.size = bb := ⟨_, rfl⟩
              rw [hbb] at op hgz hwrz
              obtain ⟨ap, cp, hvp, hpp⟩ := owns_slice op
              subst hvp
              have MP : Hid (Mem vf nf vw zs D gl w 4 wp ∧ ∃ X, wp.ownsRow bb 33 4 (.slice ap zs.length cp) zs.length X) := ⟨MK.out.below bp, _, op⟩
              clear op bp KP MK hbb
              go_wp2
              go_loopw [124] (fun i wr => ∃ j : Nat, i = .int .i64 j ∧ j ≤ zs.length ∧ Hid (Mem vf nf vw zs D gl w 4 wr ∧ ∃ X, wr.ownsRow bb 33 4 (.slice ap zs.length cp) zs.length X)) (fun i _ => zs.length - (RowKit.intOf i).toNat)
              case atStart => exact ⟨0, rfl, Nat.zero_le _, MP⟩
              case round =>
                clear MP
                obtain ⟨j, rfl, hj, MJ⟩ := hrel
                by_cases l3 : j < zs.length
                · have l3i : (j : Int) < (zs.length : Int) := by omega
                  obtain ⟨gp, rfl⟩ := hpp (by omega)
                  obtain ⟨m1, X, hX⟩ := MJ.out
                  obtain ⟨⟨y, hcl⟩, hfz⟩ := own_cell4 (j := j * 4) hX (by omega)
                  have hgp := (hX.lt gp rfl).1
                  have HM : Hid (Mem vf nf vw zs D gl w 4 (wr.setCell ⟨gp, j * 4, none⟩ (.int .i64 (-9))) ∧ ∃ X, (wr.setCell ⟨gp, j * 4, none⟩ (.int .i64 (-9))).ownsRow bb 33 4 (.slice (some ⟨gp, 0, none⟩) zs.length cp) zs.length X) :=
                    ⟨m1.far AP.out HWB.out hDg (q := gp) (by omega) (by omega) (grown_cell wr gp (j * 4) _), _, own_store4 _ hX⟩
                  clear MJ m1 hX
                  go_wp2
                  exact ⟨⟨j + 1, by go_num, by omega, HM⟩, by simp [RowKit.intOf]; omega⟩
                · have l3i : ¬ (j : Int) < (zs.length : Int) := by omega
                  have MF : Hid (Mem vf nf vw zs D gl w 4 wr) := MJ.out.1
                  have B0 : Hid (Below w.heap.size w wr) := MJ.out.1.low
                  clear MJ hpp
                  have KD := decode_any s wr (by omega) (TB.out _ B0.out) (GB.out _ B0.out)
                  rw [hrn, e0] at KD
                  go_wp2_with (go_at_call 10; refine KD.mono ?_)
                  first | rintro e x1 v1 rfl o1 b1 | rintro e x1 ⟨v1, rfl, o1, b1⟩
                  have M1 := MF.out.below b1
                  have KS := same_rds zs v1 vw x1 (Rds.of_owns o1) (Rds.of_owns M1.want) (by omega)
                  have N1 : Hid (Mem vf nf vw zs D gl w 4 x1) := M1
                  clear o1 b1 KD M1
                  go_wp2_with (go_at_call 13; refine KS.mono ?_)
                  first | rintro e x2 rfl b2 | rintro e x2 ⟨rfl, b2⟩
                  have N2 : Hid (Mem vf nf vw zs D gl w 4 x2) := N1.out.below b2
                  have KP := pieces_any s x2 (by omega) (TB.out _ N2.out.low) (GB.out _ N2.out.low)
                  rw [e0] at KP
                  obtain ⟨aw, cw, hvw, _⟩ := owns_slice N2.out.want
                  clear b2 KS
                  go_wp2_with (go_at_call 14; refine KP.mono ?_)
                  first | rintro e x3 v3 rfl o3 b3 | rintro e x3 ⟨v3, rfl, o3, b3⟩
                  have N3 : Hid (Mem vf nf vw zs D gl w 4 x3) := N2.out.below b3
                  obtain ⟨a3, c3, hv3, _⟩ := owns_slice o3
                  subst hv3
                  have ex : (⟨#[]⟩ : ByteArray) ++ (⟨#[120]⟩ : ByteArray) = ⟨#[120]⟩ := by decide
                  have KF := feed_any D ⟨#[]⟩ ⟨#[120]⟩ x3 (by rw [ex]; decide) N3.out.dec (TB.out _ N3.out.low) (GB.out _ N3.out.low) hD2
                  have esn : sn (⟨#[]⟩ ++ (⟨#[120]⟩ : ByteArray)) = [120] := by rw [ex]; decide
                  rw [esn] at KF
                  have B3 : Hid (Below w.heap.size w x3) := N3.out.low
                  clear o3 b3 KP N1 N2
                  go_wp2_with (go_at_call 18; refine KF.mono ?_)
                  first | rintro e x4 v4 rfl o4 d4 g4 | rintro e x4 ⟨v4, rfl, o4, d4, g4⟩
                  have B4 : Hid (Below w.heap.size w x4) := B3.out.grown g4 B3.out.size (fun q e => by cases e; exact hDw)
                  have hnew := World.alloc_heap_new x4 (.cells #[.int .i32 120] 21)
                  have KZ := same_rds [120] v4 (.slice (some ⟨x4.heap.size, 0, none⟩) 1 1) (x4.alloc (.cells #[.int .i32 120] 21)) (Rds.of_owns (o4.alloc _)) ⟨_, _, rfl, fun _ => ⟨_, 0, rfl, fun j hj => by
                    simp only [List.length_cons, List.length_nil] at hj
                    obtain rfl : j = 0 := by omega
                    simp only [World.cell?, hnew]; rfl⟩⟩ (by decide)
                  have B5 : Hid (Below w.heap.size w (x4.alloc (.cells #[.int .i32 120] 21))) := B4.out.alloc B4.out.size _
                  clear o4 d4 g4 KF hnew B3 N3 MF B0
                  go_wp2_with (go_at_call 13; refine KZ.mono ?_)
                  first | rintro e x6 rfl b6 | rintro e x6 ⟨rfl, b6⟩
                  have B6 : Hid (Below w.heap.size w x6) := B5.out.trans (b6.mono B5.out.size)
                  clear b6 KZ
                  go_wp2
                  go_ret
                  exact ⟨rfl, B6.out⟩
end Go.Proofs.YtabofadjnbpjkabDoor
