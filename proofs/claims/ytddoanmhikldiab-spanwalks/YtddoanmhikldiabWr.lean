/-
  The two rounds of the statement of walks.
-/
import Derived.Test.YtddoanmhikldiabWl
namespace Go.Proofs.Ytddoanmhikldiab
open Go.RowKit Go.Shelf
attribute [local go_sem] Oper.semAt_some
def lpb : Code → Code
  | .seq _ (.block _ (.loop c)) => c
  | _ => .skip
noncomputable def LB : Code := lpb (hd (sq 7 body3))
structure AtD (n : Nat) (ds : List Deferred) (l : List (Nat × Value)) (a : Act) : Prop where
  size : a.tmps.size = n
  defers : a.defers = ds
  slots : AllIn a l
theorem AtD.lit {n : Nat} {ds : List Deferred} {l : List (Nat × Value)} {a : Act} (h : AtD n ds l a) : ∃ f : Nat → Value, a = ⟨((List.range n).map f).toArray, ds⟩ ∧ AllF f l := by
  refine ⟨fun i => a.tmps.getD i undef, ?_, h.slots.allF⟩
  have e := act_lit ⟨a.tmps, []⟩ n h.size rfl
  have e2 : a.tmps = ((List.range n).map fun i => a.tmps.getD i undef).toArray := congrArg Act.tmps e
  exact act_ext e2 h.defers
def dm (D : Nat) : Deferred := { target := .collected D, args := #[] }
def DsOk (w : World) (ds : List Nat) (W : World) : Prop := ds.Nodup ∧ ∀ D ∈ ds, w.heap.size ≤ D ∧ W.heap[D]? = some (.deferred (some []))
theorem leaves_all {w : World} {tmps : Array Value} (ht : tmps[4]? = some (.pointer (some ⟨w.heap.size + 1, 0, none⟩))) : ∀ (ds : List Nat) (W : World), DsOk w ds W → Boxed W (w.heap.size + 1) 4 (.bool true) → Below w.heap.size w W → LeavesInM Fence.wide 10 Try.prog Try.f3 tmps (fun e w' => e = .returned (.bool true) ∧ Below w.heap.size w w') (ds.map dm) .returning W
  | [], W, _, h4, hb => by
    refine ⟨.bool true, ?_, rfl, hb⟩
    simp [results, Try.f3, go_sem, h4.cell, ht]
  | D :: ds, W, hd, h4, hb => by
    obtain ⟨hn, hd⟩ := hd
    obtain ⟨h1, h2⟩ := hd D (List.mem_cons_self ..)
    refine ⟨by simp, .inl ⟨_, _, rfl, run_takeDeferred h2, ?_⟩⟩
    refine leaves_all ht ds _ ⟨(List.nodup_cons.1 hn).2, fun E hE => ⟨(hd E (List.mem_cons_of_mem _ hE)).1, ?_⟩⟩ ?_ ?_
    · rw [(grownBy_putObj' W D (.deferred none)).block E (Array.getElem?_eq_some_iff.1 (hd E (List.mem_cons_of_mem _ hE)).2).1 (fun e => (List.nodup_cons.1 hn).1 (by cases e; exact hE))]
      exact (hd E (List.mem_cons_of_mem _ hE)).2
    · exact Boxed.kept h4 (grownBy_putObj' W D (.deferred none)) (fun e => by cases e; rw [show W.heap[w.heap.size + 1]? = _ from h4] at h2; cases h2)
    · exact hb.trans (belowK_b (w := w) (Nat.le_refl _) W D _ _ h1 h2 rfl rfl)
structure Inv (w : World) (S : List Sn) (left : Int) (vN vA : Value) (B5 B6 g N r B9 : Nat) (ds : List Nat) (W : World) : Prop where
  st : St N S left vN vA w.heap.size (w.heap.size + 1) B5 B6 g W
  b9 : Boxed W B9 3 (.int .i64 (r : Nat))
  n9 : N ≤ B9
  b4 : Boxed W (w.heap.size + 1) 4 (.bool false)
  bel : Below w.heap.size w W
  ok : DsOk w ds W
theorem run_l3 {w : World} {g o : Nat} {v : Value} (h : w.cell? ⟨g, o, none⟩ = some v) : (loadVar 3 ⟨g, o, none⟩).run Try.prog w = .ok v w := by
  simp [loadVar, go_sem, run_underlying Try.underlying3, isAgg, h]
theorem run_l23 {w : World} {g o : Nat} {v : Value} (h : w.cell? ⟨g, o, none⟩ = some v) : (loadVar 23 ⟨g, o, none⟩).run Try.prog w = .ok v w := by
  simp [loadVar, go_sem, run_underlying Try.underlying23, isAgg, h]
theorem run_ne3 (w : World) (a b : Int) (h : a = b) : (binOp .neq 3 (.int .i64 a) (.int .i64 b)).run Try.prog w = .ok (.bool false) w := by
  have e : (binOp .neq 3 (.int .i64 a) (.int .i64 b)).run Try.prog w = .ok (.bool (a != b)) w := by kernel_rfl
  rw [e, h]; simp
theorem KC.set_far {own : Nat → Prop} {W X : World} (h : KC own W X) (B : Nat) (v : Value) (hB : W.heap.size ≤ B) : KC own W (X.setCell ⟨B, 0, none⟩ v) :=
  ⟨by rw [World.size_setCell]; exact h.1, fun p hp u hu => by
    have hl := World.block_lt_of_cell? W _ hu
    rw [World.cell?_of_block (a := p) (heap_setCell_other X ⟨B, 0, none⟩ p.block v (by show p.block ≠ B; omega))]
    exact h.2 p hp u hu⟩
theorem DsOk.keeps {w W W' : World} {ds : List Nat} (h : DsOk w ds W) (k : KeepsOthers W W') : DsOk w ds W' := ⟨h.1, fun D hD => ⟨(h.2 D hD).1, k.same D _ (h.2 D hD).2 rfl⟩⟩
theorem ds_own {β : Type} {w : World} {ds : List Nat} {B : Nat} (hB : ∀ D ∈ ds, D < B) : OwnFrom B (fun (_ : β) W => DsOk w ds W) := fun _ X Y row hs hg hr =>
  ⟨hs.1, fun D hD => ⟨(hs.2 D hD).1, (hg.block D (Array.getElem?_eq_some_iff.1 (hs.2 D hD).2).1 (fun e => by have := (hr D e.symm).1; have := hB D hD; omega)).trans (hs.2 D hD).2⟩⟩
theorem kc_own {β : Type} (own : Nat → Prop) (W : World) : Own (fun (_ : β) X => KC own W X) := fun _ _ _ _ hs hg hr =>
  ⟨Nat.le_trans hs.1 hg.size, fun p hp v hv => cell_kept (hs.2 p hp v hv) hg hr⟩
set_option maxRecDepth 100000 in
set_option maxHeartbeats 2000000 in
theorem walk_lb {Q : Exit → Act → World → Prop} (S : List Sn) (vN vA : Value) (B5 B6 g N r B9 : Nat) (ds : List Nat) (left : Int) (a : Act) (w W : World) (sS : isS 0 S = true) (lS : S.length ≤ 65536) (hr : r = 0 ∨ r = 1) (hi : Inv w S left vN vA B5 B6 g N r B9 ds W) (hQ : ∀ (a : Act) (W' : World) (B9 D : Nat), Inv w S left vN vA B5 B6 g N (r + 1) B9 (D :: ds) W' → AtD 88 ((D :: ds).map dm) [(3, .pointer (some ⟨w.heap.size, 0, none⟩)), (4, .pointer (some ⟨w.heap.size + 1, 0, none⟩)), (5, .pointer (some ⟨B5, 0, none⟩)), (6, .pointer (some ⟨B6, 0, none⟩)), (9, .pointer (some ⟨B9, 0, none⟩))] a → Q .normal a W') (ha : AtD 88 (ds.map dm) [(3, .pointer (some ⟨w.heap.size, 0, none⟩)), (4, .pointer (some ⟨w.heap.size + 1, 0, none⟩)), (5, .pointer (some ⟨B5, 0, none⟩)), (6, .pointer (some ⟨B6, 0, none⟩)), (9, .pointer (some ⟨B9, 0, none⟩))] a) : Code.wpIn Fence.wide 10 Try.prog LB Q a W := by
  have HQ : Hid (∀ (a : Act) (W' : World) (B9 D : Nat), Inv w S left vN vA B5 B6 g N (r + 1) B9 (D :: ds) W' → AtD 88 ((D :: ds).map dm) [(3, .pointer (some ⟨w.heap.size, 0, none⟩)), (4, .pointer (some ⟨w.heap.size + 1, 0, none⟩)), (5, .pointer (some ⟨B5, 0, none⟩)), (6, .pointer (some ⟨B6, 0, none⟩)), (9, .pointer (some ⟨B9, 0, none⟩))] a → Q .normal a W') := hQ
  have hcb := cnt_bound sS
  have HCB : Hid (0 ≤ cntL S ∧ cntL S ≤ 1114112) := hcb
  clear hQ hcb
  have HI : Hid (Inv w S left vN vA B5 B6 g N r B9 ds W) := hi
  have HSS : Hid (isS 0 S = true) := sS
  have HLS : Hid (S.length ≤ 65536) := lS
  have c9 := hi.b9.cell
  have c6 := (hi.st.keep (KeepN.of_below (alloc_below W (.cells #[.int .i64 0] 3)))).b6.cell
  clear hi sS lS
  obtain ⟨f, rfl, h3, h4, h5, h6, h9, -⟩ := ha.lit
  change Code.wpIn _ _ _ _ _ ⟨#[f 0, f 1, f 2, f 3, f 4, f 5, f 6, f 7, f 8, f 9, f 10, f 11, f 12, f 13, f 14, f 15, f 16, f 17, f 18, f 19, f 20, f 21, f 22, f 23, f 24, f 25, f 26, f 27, f 28, f 29, f 30, f 31, f 32, f 33, f 34, f 35, f 36, f 37, f 38, f 39, f 40, f 41, f 42, f 43, f 44, f 45, f 46, f 47, f 48, f 49, f 50, f 51, f 52, f 53, f 54, f 55, f 56, f 57, f 58, f 59, f 60, f 61, f 62, f 63, f 64, f 65, f 66, f 67, f 68, f 69, f 70, f 71, f 72, f 73, f 74, f 75, f 76, f 77, f 78, f 79, f 80, f 81, f 82, f 83, f 84, f 85, f 86, f 87], List.map dm ds⟩ _
  simp only at h3 h4 h5 h6 h9
  simp only [h3, h4, h5, h6, h9]
  clear h3 h4 h5 h6 h9
  conv => arg 4; whnf
  have hr2 : ((r : Nat) : Int) < 2 := by omega
  gi_wp2_with fail
  have hb1 := alloc_below W (.cells #[.int .i64 0] 3)
  have S1 : Hid (St N S left vN vA w.heap.size (w.heap.size + 1) B5 B6 g (W.alloc (.cells #[.int .i64 0] 3))) := HI.out.st.keep (KeepN.of_below hb1)
  have X10 : Boxed (W.alloc (.cells #[.int .i64 0] 3)) W.heap.size 3 (.int .i64 0) := Boxed.new _ _ _
  have X9 : Boxed (W.alloc (.cells #[.int .i64 0] 3)) B9 3 (.int .i64 (r : Nat)) := box_later HI.out.b9 hb1
  have X4 : Boxed (W.alloc (.cells #[.int .i64 0] 3)) (w.heap.size + 1) 4 (.bool false) := box_later HI.out.b4 hb1
  have BW : Below w.heap.size w (W.alloc (.cells #[.int .i64 0] 3)) := HI.out.bel.trans (hb1.mono HI.out.bel.size)
  have DW : Hid (DsOk w ds (W.alloc (.cells #[.int .i64 0] 3))) := HI.out.ok.keeps (keeps_below hb1)
  have DL : Hid (∀ D ∈ ds, D < (W.alloc (.cells #[.int .i64 0] 3)).heap.size) := fun D hD => (Array.getElem?_eq_some_iff.1 (DW.out.2 D hD).2).1
  have l9 := HI.out.b9.lt
  have n9 := HI.out.n9
  have l4 := HI.out.b4.lt
  have n4 := HI.out.st.l4
  have hsz : (W.alloc (.cells #[.int .i64 0] 3)).heap.size = W.heap.size + 1 := by simp
  generalize W.alloc (.cells #[.int .i64 0] 3) = W1 at *
  clear hb1 c6 c9
  refine wpIn_rangeFunc_ownH rfl (by omega) (gf := 20) (lb := #[.pointer (some ⟨g, 0, none⟩)]) rfl trivial (enters_of Try.func20 (by kernel_rfl) rfl)
    (it_stops 9 (by omega) (fun k => k = W.heap.size) S g vA W1 (fun k hk => by subst hk; omega) S1.out.cg S1.out.rA (fun k hk e => by have := S1.out.lA k hk; omega) HSS.out HLS.out)
    (fun h k => KC.trans h k) (fun W l o o' _ h1 h2 _ => kc_put W l o o' h1 h2) (Below.refl _ _) (fun _ => rfl)
    (fun pre W3 => (((pre = upto S pre.length ∧ pre.length ≤ (cntL S).toNat) ∧ Boxed W3 W.heap.size 3 (.int .i64 (pre.length : Nat))) ∧ (Boxed W3 B9 3 (.int .i64 (r : Nat)) ∧ (Boxed W3 (w.heap.size + 1) 4 (.bool false) ∧ St N S left vN vA w.heap.size (w.heap.size + 1) B5 B6 g W3))) ∧ (Below w.heap.size w W3 ∧ DsOk w ds W3))
    (fun c pre W3 => ((c = .ret ∧ ¬ pre <+: upto S (cntL S).toNat) ∨ ((c = .exit 4 ∧ r = 0) ∧ ((Boxed W3 W.heap.size 3 (.int .i64 (pre.length : Nat))) ∧ (Boxed W3 B9 3 (.int .i64 (r : Nat)) ∧ (Boxed W3 (w.heap.size + 1) 4 (.bool false) ∧ St N S left vN vA w.heap.size (w.heap.size + 1) B5 B6 g W3))))) ∧ (Below w.heap.size w W3 ∧ DsOk w ds W3))
    ?hI ?hIx ?h0 (fun x a' _ => a' = { tmps := #[f 0, f 1, f 2, .pointer (some ⟨w.heap.size, 0, none⟩), .pointer (some ⟨w.heap.size + 1, 0, none⟩), .pointer (some ⟨B5, 0, none⟩), .pointer (some ⟨B6, 0, none⟩), f 7, f 8, .pointer (some ⟨B9, 0, none⟩), .pointer (some ⟨W.heap.size, 0, none⟩), .int .i32 x, f 12, f 13, f 14, f 15, f 16, f 17, f 18, f 19, f 20, f 21, f 22, f 23, f 24, f 25, f 26, f 27, f 28, f 29, f 30, f 31, f 32, f 33, f 34, f 35, f 36, f 37, f 38, f 39, .int .i64 (r : Nat), .bool true, f 42, f 43, .func (.func 20) #[] #[.pointer (some ⟨g, 0, none⟩)], .int .i32 x, f 46, f 47, f 48, f 49, f 50, f 51, f 52, f 53, f 54, f 55, f 56, f 57, f 58, f 59, f 60, f 61, f 62, f 63, f 64, f 65, f 66, f 67, f 68, f 69, f 70, f 71, f 72, f 73, f 74, f 75, f 76, f 77, f 78, f 79, f 80, f 81, f 82, f 83, f 84, f 85, f 86, f 87], defers := [] }) (fun _ _ _ _ _ _ hs _ _ => hs) ?assign ?body ?done ?stop
  case hI => exact OwnFrom.and (OwnFrom.and (OwnFrom.and (ownFrom_pure _ _) (Own.from (boxed_own _ _ _) _)) (OwnFrom.and (Own.from (boxed_own _ _ _) _) (OwnFrom.and (Own.from (boxed_own _ _ _) _) (Own.from (st_own _ _ _ _ _ _ _ _ _ _) _)))) (OwnFrom.and (ownFrom_below (Nat.le_refl _) BW.size) (ds_own DL.out))
  case hIx => exact fun c => OwnFrom.and (fun s X Y row hs hg hr => hs.imp id (fun h => ⟨h.1, (OwnFrom.and (Own.from (boxed_own W.heap.size 3 (fun pre : List Int => .int .i64 (pre.length : Nat))) _) (OwnFrom.and (Own.from (boxed_own B9 3 (fun _ => .int .i64 (r : Nat))) _) (OwnFrom.and (Own.from (boxed_own (w.heap.size + 1) 4 (fun _ => .bool false)) _) (Own.from (st_own _ _ _ _ _ _ _ _ _ _) _)))) s X Y row h.2 hg hr⟩)) (OwnFrom.and (ownFrom_below (Nat.le_refl _) BW.size) (ds_own DL.out))
  case h0 => exact ⟨⟨⟨⟨rfl, by simp⟩, X10⟩, X9, X4, S1.out⟩, BW, DW.out⟩
  case assign =>
    rintro l pre x W3 K hi hK
    gi_wp2
    exact hK _ _ (KeepsFrom.refl _ _) (KC.refl _ _) hi rfl
  case body =>
    rintro l pre x a' W3 hl ⟨rr, hrr⟩ ⟨⟨⟨⟨hp, hn⟩, Y10⟩, Y9, Y4, YS⟩, YB, YD⟩ rfl hlt
    have c5 := YS.b5.cell
    have c10 := Y10.cell
    have HY : Hid (St N S left vN vA w.heap.size (w.heap.size + 1) B5 B6 g W3) := YS
    have HYB : Hid (Below w.heap.size w W3) := YB
    have HYD : Hid (DsOk w ds W3) := YD
    have HY10 : Hid (Boxed W3 W.heap.size 3 (.int .i64 (pre.length : Nat))) := Y10
    have HY9 : Hid (Boxed W3 B9 3 (.int .i64 (r : Nat))) := Y9
    have HY4 : Hid (Boxed W3 (w.heap.size + 1) 4 (.bool false)) := Y4
    have HPP : Hid (pre = upto S pre.length) := hp
    have HLT : Hid (pre.length < (cntL S).toNat) := hlt
    have HRR : Hid (W3.heap[l]? = some (.loop rr)) := hrr
    clear YS YB YD Y10 Y9 Y4 hp hn hlt hrr
    gi_wp2_with fail
    refine ⟨trivial, (CallsIn.inRound l (callsIn_wide.2 (rat_any S (pre.length : Nat) _ W3 HY.out.rM HSS.out (by have := HLS.out; omega) (by omega) (by have := HLT.out; have := HCB.out; omega)))).mono ?_⟩
    rintro e W4 ⟨rfl, b4⟩
    have Z10 : Boxed W4 W.heap.size 3 (.int .i64 (pre.length : Nat)) := box_later HY10.out b4
    have Z9 : Boxed W4 B9 3 (.int .i64 (r : Nat)) := box_later HY9.out b4
    have Z4 : Boxed W4 (w.heap.size + 1) 4 (.bool false) := box_later HY4.out b4
    have HZS : Hid (St N S left vN vA w.heap.size (w.heap.size + 1) B5 B6 g W4) := HY.out.keep (KeepN.of_below b4)
    have HZB : Hid (Below w.heap.size w W4) := HYB.out.trans (b4.mono HYB.out.size)
    have HKO : Hid (KeepsOthers W3 W4) := keeps_below b4
    have HKC : Hid (KC (fun k => k = W.heap.size) W3 W4) := KC.of_below b4
    have HB4 : Hid (Below W3.heap.size W3 W4) := b4
    have z4 := Z4.cell
    have z4f := Z4.frozen
    have z10 := Z10.cell
    have z10f := Z10.frozen
    clear b4 HY HYB HY10 HY9 HY4 c5 c10
    by_cases hx : x = atL S (pre.length : Nat)
    · have hx2 : (x != atL S (pre.length : Nat)) = false := by simp [hx]
      have hw : IntKind.i64.wrap ((pre.length : Int) + 1) = (pre.length : Int) + 1 := by have := HLT.out; have := HCB.out; unfold IntKind.wrap; simp [IntKind.signed, IntKind.bits]; omega
      have e1 : Boxed (W4.setCell ⟨W.heap.size, 0, none⟩ (.int .i64 ((pre.length : Int) + 1))) W.heap.size 3 (.int .i64 ((pre.length : Int) + 1)) := Boxed.set _ Z10
      have e2 : Boxed (W4.setCell ⟨W.heap.size, 0, none⟩ (.int .i64 ((pre.length : Int) + 1))) B9 3 (.int .i64 (r : Nat)) := Boxed.other Z9 (by omega) _
      have e3 : Boxed (W4.setCell ⟨W.heap.size, 0, none⟩ (.int .i64 ((pre.length : Int) + 1))) (w.heap.size + 1) 4 (.bool false) := Boxed.other Z4 (by omega) _
      have e4 : Hid (St N S left vN vA w.heap.size (w.heap.size + 1) B5 B6 g (W4.setCell ⟨W.heap.size, 0, none⟩ (.int .i64 ((pre.length : Int) + 1)))) := HZS.out.keep (KeepN.of_set (by omega) _)
      have e5 : Hid (Below w.heap.size w (W4.setCell ⟨W.heap.size, 0, none⟩ (.int .i64 ((pre.length : Int) + 1)))) := HZB.out.setCell (p := ⟨W.heap.size, 0, none⟩) (by show w.heap.size ≤ W.heap.size; omega) _
      have e6 : Hid (KeepsOthers W3 (W4.setCell ⟨W.heap.size, 0, none⟩ (.int .i64 ((pre.length : Int) + 1)))) := HKO.out.trans (KeepsOthers.setCell _ _ _)
      have e7 : Hid (KC (fun k => k = W.heap.size) W3 (W4.setCell ⟨W.heap.size, 0, none⟩ (.int .i64 ((pre.length : Int) + 1)))) := HKC.out.trans (KC.set _ _ _ rfl)
      have e8 : Hid (DsOk w ds (W4.setCell ⟨W.heap.size, 0, none⟩ (.int .i64 ((pre.length : Int) + 1)))) := HYD.out.keeps e6.out
      have f1 := e1.cell
      have f2 := e2.cell
      have f3 := e4.out.b3.cell
      have hll : Hid ((pre ++ [x]).length = pre.length + 1) := by rw [Hid]; simp
      have hup : Hid (pre ++ [x] = upto S (pre ++ [x]).length) := by rw [Hid, hll.out, upto_succ, ← HPP.out, hx]
      have hle : Hid ((pre ++ [x]).length ≤ (cntL S).toNat) := by rw [Hid, hll.out]; exact HLT.out
      have g1 : Hid (Boxed (W4.setCell ⟨W.heap.size, 0, none⟩ (.int .i64 ((pre.length : Int) + 1))) W.heap.size 3 (.int .i64 ((pre ++ [x]).length : Nat))) := by rw [Hid, hll.out]; exact e1
      have NORM : Hid (KeepsFrom W1.heap.size W3 (W4.setCell ⟨W.heap.size, 0, none⟩ (.int .i64 ((pre.length : Int) + 1))) ∧ KC (fun k => k = W.heap.size) W3 (W4.setCell ⟨W.heap.size, 0, none⟩ (.int .i64 ((pre.length : Int) + 1))) ∧ (((pre ++ [x] = upto S (pre ++ [x]).length ∧ (pre ++ [x]).length ≤ (cntL S).toNat) ∧ Boxed (W4.setCell ⟨W.heap.size, 0, none⟩ (.int .i64 ((pre.length : Int) + 1))) W.heap.size 3 (.int .i64 ((pre ++ [x]).length : Nat))) ∧ (Boxed (W4.setCell ⟨W.heap.size, 0, none⟩ (.int .i64 ((pre.length : Int) + 1))) B9 3 (.int .i64 (r : Nat)) ∧ (Boxed (W4.setCell ⟨W.heap.size, 0, none⟩ (.int .i64 ((pre.length : Int) + 1))) (w.heap.size + 1) 4 (.bool false) ∧ St N S left vN vA w.heap.size (w.heap.size + 1) B5 B6 g (W4.setCell ⟨W.heap.size, 0, none⟩ (.int .i64 ((pre.length : Int) + 1)))))) ∧ (Below w.heap.size w (W4.setCell ⟨W.heap.size, 0, none⟩ (.int .i64 ((pre.length : Int) + 1))) ∧ DsOk w ds (W4.setCell ⟨W.heap.size, 0, none⟩ (.int .i64 ((pre.length : Int) + 1))))) := ⟨e6.out.from _, e7.out, ⟨⟨⟨hup.out, hle.out⟩, g1.out⟩, e2, e3, e4.out⟩, e5.out, e8.out⟩
      have HX : Hid (x = atL S (pre.length : Nat)) := hx
      have HSZ : Hid (W1.heap.size = W.heap.size + 1) := hsz
      clear hx hsz hr2
      rcases hr with hr | hr
      · have hz0 : (((r : Nat) : Int) == 0) = true := by simp [hr]
        have HR0 : Hid (r = 0) := hr
        clear hr
        by_cases hq : (pre.length : Int) + 1 = left
        · have hq2 : ((pre.length : Int) + 1 == left) = true := by simp [hq]
          clear hq
          gi_wp2
          exact ⟨e6.out.from _, .inr ⟨⟨rfl, HR0.out⟩, g1.out, e2, e3, e4.out⟩, e5.out, e8.out⟩
        · have hq2 : ((pre.length : Int) + 1 == left) = false := by simp [hq]
          clear hq
          by_cases h1 : pre.length = 0
          · have h2 : ((pre.length : Int) + 1 == 1) = true := by simp; omega
            have c6 := (e4.out.keep (KeepN.of_below (alloc_below _ (.cells #[.int .i64 0] 3)))).b6.cell
            clear h1
            gi_wp2_with fail
            have hba := alloc_below (W4.setCell ⟨W.heap.size, 0, none⟩ (.int .i64 ((pre.length : Int) + 1))) (.cells #[.int .i64 0] 3)
            have hz4 : (W4.setCell ⟨W.heap.size, 0, none⟩ (.int .i64 ((pre.length : Int) + 1))).heap.size = W4.heap.size := by simp
            have a0 : Boxed ((W4.setCell ⟨W.heap.size, 0, none⟩ (.int .i64 ((pre.length : Int) + 1))).alloc (.cells #[.int .i64 0] 3)) W4.heap.size 3 (.int .i64 0) := hz4 ▸ Boxed.new _ _ _
            have a1 := box_later g1.out hba
            have a2 := box_later e2 hba
            have a3 := box_later e3 hba
            have a4 : Hid _ := e4.out.keep (KeepN.of_below hba)
            have a5 : Hid _ := e5.out.trans (hba.mono e5.out.size)
            have a6 : Hid _ := e6.out.trans (keeps_below hba)
            have a7 : Hid _ := e7.out.trans (KC.of_below hba)
            have a8 : Hid _ := e8.out.keeps (keeps_below hba)
            have a9 := a6.out.same l _ HRR.out rfl
            have s3 : Hid (W3.heap.size ≤ W4.heap.size) := HB4.out.size
            have s1 : Hid (W.heap.size < W4.heap.size) := Z10.lt
            have s9 : Hid (B9 < W4.heap.size) := Z9.lt
            have s4 : Hid (w.heap.size + 1 < W4.heap.size) := Z4.lt
            have sN : Hid (N ≤ W4.heap.size) := by rw [Hid]; have := Z9.lt; omega
            have hza : Hid (((W4.setCell ⟨W.heap.size, 0, none⟩ (.int .i64 ((pre.length : Int) + 1))).alloc (.cells #[.int .i64 0] 3)).heap.size = W4.heap.size + 1) := by rw [Hid]; simp
            have DLA : Hid (∀ D ∈ ds, D < ((W4.setCell ⟨W.heap.size, 0, none⟩ (.int .i64 ((pre.length : Int) + 1))).alloc (.cells #[.int .i64 0] 3)).heap.size) := fun D hD => (Array.getElem?_eq_some_iff.1 (a8.out.2 D hD).2).1
            generalize (W4.setCell ⟨W.heap.size, 0, none⟩ (.int .i64 ((pre.length : Int) + 1))).alloc (.cells #[.int .i64 0] 3) = WA at *
            clear e1 e2 e3 e4 e5 e6 e7 e8 f1 f2 f3 NORM z4 z4f z10 z10f Z10 Z9 Z4 HZS HZB HKO HKC hba hz4 c6 hz0 hw hq2 h2 hx2
            refine wpIn_rangeFunc_ownN (l₀ := l) (r₀ := rr) rfl a9 (by omega) (gf := 20) (lb := #[.pointer (some ⟨g, 0, none⟩)]) rfl trivial (enters_of Try.func20 (by kernel_rfl) rfl)
              ((it_stops 7 (by omega) (fun k => k = W4.heap.size) S g vA WA (fun k hk => by have := hza.out; omega) a4.out.cg a4.out.rA (fun k hk e => by have := a4.out.lA k hk; have := sN.out; omega) HSS.out HLS.out).inRound l)
              (fun h k => KC.trans h k) (fun W l o o' _ h1 h2 _ => kc_put W l o o' h1 h2) (Below.refl _ _) (fun _ => rfl)
              (fun pre' W6 => (((pre' = upto S pre'.length ∧ pre'.length ≤ (cntL S).toNat) ∧ Boxed W6 W4.heap.size 3 (.int .i64 (pre'.length : Nat))) ∧ (Boxed W6 W.heap.size 3 (.int .i64 ((pre ++ [x]).length : Nat)) ∧ (Boxed W6 B9 3 (.int .i64 (r : Nat)) ∧ (Boxed W6 (w.heap.size + 1) 4 (.bool false) ∧ St N S left vN vA w.heap.size (w.heap.size + 1) B5 B6 g W6)))) ∧ ((Below w.heap.size w W6 ∧ DsOk w ds W6) ∧ (KC (fun k => k = W.heap.size) W3 W6 ∧ KeepsFrom W1.heap.size W3 W6)))
              (fun c pre' _ => c = .ret ∧ ¬ pre' <+: upto S (cntL S).toNat)
              ?hI2 ?hIx2 ?h02 (fun y a'' _ => a'' = { tmps := #[f 0, f 1, f 2, .pointer (some ⟨w.heap.size, 0, none⟩), .pointer (some ⟨w.heap.size + 1, 0, none⟩), .pointer (some ⟨B5, 0, none⟩), .pointer (some ⟨B6, 0, none⟩), f 7, f 8, .pointer (some ⟨B9, 0, none⟩), .pointer (some ⟨W.heap.size, 0, none⟩), .int .i32 x, .pointer (some ⟨W4.heap.size, 0, none⟩), .int .i32 y, f 14, f 15, f 16, f 17, f 18, f 19, f 20, f 21, f 22, f 23, f 24, f 25, f 26, f 27, f 28, f 29, f 30, f 31, f 32, f 33, f 34, f 35, f 36, f 37, f 38, f 39, .int .i64 (r : Nat), .bool true, f 42, f 43, .func (.func 20) #[] #[.pointer (some ⟨g, 0, none⟩)], .int .i32 x, .int .i32 x, vN, .int .i64 (pre.length : Nat), .int .i32 (atL S (pre.length : Nat)), .bool false, .int .i64 (pre.length : Nat), .int .i64 ((pre.length : Int) + 1), .int .i64 (r : Nat), .bool true, .bool true, .int .i64 ((pre.length : Int) + 1), .int .i64 left, .bool false, .bool false, .int .i64 (r : Nat), .bool true, .bool true, .int .i64 ((pre.length : Int) + 1), .bool true, .bool true, .func (.func 20) #[] #[.pointer (some ⟨g, 0, none⟩)], .int .i32 y, f 68, f 69, f 70, f 71, f 72, f 73, f 74, f 75, f 76, f 77, f 78, f 79, f 80, f 81, f 82, f 83, f 84, f 85, f 86, f 87], defers := [] }) (fun _ _ _ _ _ _ hs _ _ => hs) ?assign2 ?body2 ?done2 ?stop2
            case hI2 => exact OwnFrom.and (OwnFrom.and (OwnFrom.and (ownFrom_pure _ _) (Own.from (boxed_own _ _ _) _)) (OwnFrom.and (Own.from (boxed_own _ _ _) _) (OwnFrom.and (Own.from (boxed_own _ _ _) _) (OwnFrom.and (Own.from (boxed_own _ _ _) _) (Own.from (st_own _ _ _ _ _ _ _ _ _ _) _))))) (OwnFrom.and (OwnFrom.and (ownFrom_below (Nat.le_refl _) a5.out.size) (ds_own DLA.out)) (OwnFrom.and (Own.from (kc_own _ _) _) (ownFrom_keepsFrom a6.out.size)))
            case hIx2 => exact fun c => ownFrom_pure _ _
            case h02 => exact ⟨⟨⟨⟨rfl, by simp⟩, a0⟩, a1, a2, a3, a4.out⟩, ⟨a5.out, a8.out⟩, a7.out, a6.out.from _⟩
            case assign2 =>
              rintro l2 pre' y W6 K hi hK
              gi_wp2
              exact hK _ _ (KeepsFrom.refl _ _) (KC.refl _ _) hi rfl
            case body2 =>
              rintro l2 pre' y a'' W6 _ _ ⟨⟨⟨⟨hp', hn'⟩, q0⟩, q1, q2, q3, q4⟩, ⟨q5, q8⟩, q7, q6⟩ rfl hlt'
              have k5 := q4.b5.cell
              have k0 := q0.cell
              have Q0 : Hid (Boxed W6 W4.heap.size 3 (.int .i64 (pre'.length : Nat))) := q0
              have Q1 : Hid (Boxed W6 W.heap.size 3 (.int .i64 ((pre ++ [x]).length : Nat))) := q1
              have Q2 : Hid (Boxed W6 B9 3 (.int .i64 (r : Nat))) := q2
              have Q3 : Hid (Boxed W6 (w.heap.size + 1) 4 (.bool false)) := q3
              have Q4 : Hid (St N S left vN vA w.heap.size (w.heap.size + 1) B5 B6 g W6) := q4
              have Q5 : Hid (Below w.heap.size w W6) := q5
              have Q6 : Hid (KeepsFrom W1.heap.size W3 W6) := q6
              have Q7 : Hid (KC (fun k => k = W.heap.size) W3 W6) := q7
              have Q8 : Hid (DsOk w ds W6) := q8
              have HP2 : Hid (pre' = upto S pre'.length) := hp'
              have HL2 : Hid (pre'.length < (cntL S).toNat) := hlt'
              clear q0 q1 q2 q3 q4 q5 q6 q7 q8 hp' hn' hlt' a0 a1 a2 a3 a4 a5 a6 a7 a8 a9
              gi_wp2_with fail
              refine ⟨trivial, (CallsIn.inRound l2 (callsIn_wide.2 (rat_any S (pre'.length : Nat) _ W6 Q4.out.rM HSS.out (by have := HLS.out; omega) (by omega) (by have := HL2.out; have := HCB.out; omega)))).mono ?_⟩
              rintro e W7 ⟨rfl, b7⟩
              have R0 := box_later Q0.out b7
              have R3 := box_later Q3.out b7
              have r0 := R0.cell
              have r0f := R0.frozen
              have r3 := R3.cell
              have r3f := R3.frozen
              have KO : Hid (KeepsOthers W6 W7) := keeps_below b7
              have HB7 : Hid (Below W6.heap.size W6 W7) := b7
              clear b7 k5 k0
              by_cases hy : y = atL S (pre'.length : Nat)
              · have hy2 : (y != atL S (pre'.length : Nat)) = false := by simp [hy]
                have HY2 : Hid (y = atL S (pre'.length : Nat)) := hy
                have hw' : IntKind.i64.wrap ((pre'.length : Int) + 1) = (pre'.length : Int) + 1 := by have := HL2.out; have := HCB.out; unfold IntKind.wrap; simp [IntKind.signed, IntKind.bits]; omega
                clear hy
                gi_wp2
                have hl2 : (pre' ++ [y]).length = pre'.length + 1 := by simp
                have t1 := s1.out
                have t9 := s9.out
                have t4 := s4.out
                have t3 := s3.out
                have tN := sN.out
                have tb := HB7.out
                refine ⟨(KO.out.trans (KeepsOthers.setCell _ _ _)).from _, (KC.of_below tb).trans (KC.set _ _ _ rfl), ⟨⟨⟨⟨?_, ?_⟩, ?_⟩, Boxed.other (box_later Q1.out tb) (by omega) _, Boxed.other (box_later Q2.out tb) (by omega) _, Boxed.other R3 (by omega) _, (Q4.out.keep (KeepN.of_below tb)).keep (KeepN.of_set (by omega) _)⟩, ⟨(Q5.out.trans (tb.mono Q5.out.size)).setCell (p := ⟨W4.heap.size, 0, none⟩) (by show w.heap.size ≤ W4.heap.size; omega) _, Q8.out.keeps (KO.out.trans (KeepsOthers.setCell _ _ _))⟩, (Q7.out.trans (KC.of_below tb)).set_far _ _ (by omega), Q6.out.trans ((KO.out.trans (KeepsOthers.setCell _ _ _)).from _)⟩⟩
                · rw [hl2, upto_succ, ← HP2.out, HY2.out]
                · rw [hl2]; exact HL2.out
                · rw [hl2]; exact Boxed.set _ R0
              · have hy2 : (y != atL S (pre'.length : Nat)) = true := by simp [hy]
                have HY2 : Hid (¬ y = atL S (pre'.length : Nat)) := hy
                clear hy
                gi_wp2
                exact ⟨(KO.out.trans (KeepsOthers.setCell _ _ _)).from _, rfl, no_prefix HP2.out HY2.out⟩
            case done2 =>
              rintro xs W6 rfl ⟨⟨⟨_, q0⟩, q1, q2, q3, q4⟩, ⟨q5, q8⟩, q7, q6⟩
              rw [upto_len, Int.toNat_of_nonneg HCB.out.1] at q0
              have k0 := q0.cell
              have k5 := q4.b5.cell
              have Q0 : Hid (Boxed W6 W4.heap.size 3 (.int .i64 (cntL S))) := q0
              have Q1 : Hid _ := q1
              have Q2 : Hid _ := q2
              have Q3 : Hid _ := q3
              have Q4 : Hid (St N S left vN vA w.heap.size (w.heap.size + 1) B5 B6 g W6) := q4
              have Q5 : Hid (Below w.heap.size w W6) := q5
              have Q6 : Hid (KeepsFrom W1.heap.size W3 W6) := q6
              have Q7 : Hid (KC (fun k => k = W.heap.size) W3 W6) := q7
              have Q8 : Hid (DsOk w ds W6) := q8
              have hcc : (cntL S != cntL S) = false := by simp
              clear q0 q1 q2 q3 q4 q5 q6 q7 q8 a0 a1 a2 a3 a4 a5 a6 a7 a8 a9
              gi_wp2_with fail
              have hmx : Try.prog.follows .mixedOrders = true := by kernel_rfl
              have hdr : Below W6.heap.size W6 W6.drew := (Below.refl _ W6).drew
              gi_region_with_o ((try refine ⟨trivial, ?_⟩); gi_at_call 9; refine (CallsIn.inRound l (callsIn_wide.2 (rcount_any S _ _ (Q4.out.rM.below hdr) HSS.out (by have := HLS.out; omega)))).mono ?_; rintro e W7 ⟨rfl, b7⟩; have k07 := (box_later Q0.out (hdr.trans b7)).cell)
              all_goals (have HB7 : Hid (Below W6.heap.size W6 W7) := hdr.trans b7)
              all_goals clear b7
              all_goals gi_wp2
              all_goals exact ⟨Q6.out.trans ((keeps_below HB7.out).from _), Q7.out.trans (KC.of_below HB7.out), ⟨⟨⟨hup.out, hle.out⟩, box_later Q1.out HB7.out⟩, box_later Q2.out HB7.out, box_later Q3.out HB7.out, Q4.out.keep (KeepN.of_below HB7.out)⟩, Q5.out.trans (HB7.out.mono Q5.out.size), Q8.out.keeps (keeps_below HB7.out)⟩
            case stop2 =>
              rintro c pre' W6 hpre ⟨_, h⟩
              exact absurd hpre h
          · have h2 : ((pre.length : Int) + 1 == 1) = false := by simp; omega
            clear h1
            gi_wp2
            exact NORM.out
      · have hz0 : (((r : Nat) : Int) == 0) = false := by simp [hr]
        clear hr
        gi_wp2
        exact NORM.out
    · have hx2 : (x != atL S (pre.length : Nat)) = true := by simp [hx]
      have HX : Hid (¬ x = atL S (pre.length : Nat)) := hx
      clear hx hsz hr hr2
      gi_wp2
      exact ⟨(HKO.out.trans (KeepsOthers.setCell _ _ _)).from _, .inl ⟨rfl, no_prefix HPP.out HX.out⟩, HZB.out.setCell (p := ⟨w.heap.size + 1, 0, none⟩) (by show w.heap.size ≤ w.heap.size + 1; omega) _, HYD.out.keeps (HKO.out.trans (KeepsOthers.setCell _ _ _))⟩
  case done =>
    rintro D xs W3 hD rfl ⟨⟨⟨⟨hp, hn⟩, Y10⟩, Y9, Y4, YS⟩, YB, YD⟩ hKD
    rw [upto_len] at Y10
    have y9 := Y9.cell
    have y10 := Y10.cell
    have y5 := YS.b5.cell
    have HY : Hid _ := YS
    have HD : Hid (W3.heap[D]? = some (.deferred (some []))) := hKD
    have HYB : Hid (Below w.heap.size w W3) := YB
    have HYD : Hid (DsOk w ds W3) := YD
    clear YS hKD YB YD hp hn
    rcases hr with rfl | rfl
    · gi_wp2_with fail
      refine wpIn_wide.2 (wp_region_vals (a1 := { tmps := #[f 0, f 1, f 2, .pointer (some ⟨w.heap.size, 0, none⟩), .pointer (some ⟨w.heap.size + 1, 0, none⟩), .pointer (some ⟨B5, 0, none⟩), .pointer (some ⟨B6, 0, none⟩), f 7, f 8, .pointer (some ⟨B9, 0, none⟩), .pointer (some ⟨W.heap.size, 0, none⟩), f 11, f 12, f 13, f 14, f 15, f 16, f 17, f 18, f 19, f 20, f 21, f 22, f 23, f 24, f 25, f 26, f 27, f 28, f 29, f 30, f 31, f 32, f 33, f 34, f 35, f 36, f 37, f 38, f 39, .int .i64 ((0 : Nat) : Int), .bool true, f 42, f 43, .func (.func 20) #[] #[.pointer (some ⟨g, 0, none⟩)], f 45, f 46, f 47, f 48, f 49, f 50, f 51, f 52, f 53, f 54, f 55, f 56, f 57, f 58, f 59, f 60, f 61, f 62, f 63, f 64, f 65, f 66, f 67, f 68, f 69, f 70, f 71, f 72, f 73, f 74, f 75, f 76, f 77, f 78, .int .i64 ((0 : Nat) : Int), .bool false, .bool false, undef, undef, undef, undef, .bool false, f 87], defers := { target := Target.collected D, args := #[] } :: List.map dm ds }) (grown W3) [.int .i64 ((0 : Nat) : Int), .bool false, .bool false, undef, undef, undef, undef, .bool false] 88 rfl (by kernel_rfl) (by kernel_rfl) (grown_start W3) ⟨?o0, ?o1, ?o2, ?o3, ?o4, ?o5, ?o6, ?o7, trivial⟩ (by kernel_rfl) ?hd)
      case o0 => exact ValOp.pure (grown_steady _ 0) [(9, .pointer (some ⟨B9, 0, none⟩))] rfl (fun _ _ h2 => ⟨(h2 9 (by kernel_rfl)).trans rfl, trivial⟩) (by kernel_rfl) (fun _ _ _ hg _ => run_read rfl rfl (run_l3 (box_later Y9 hg).cell))
      case o1 => exact ValOp.pure (grown_steady _ 1) [(79, .int .i64 ((0 : Nat) : Int))] rfl (fun _ h1 _ => ⟨h1 0 79 (by kernel_rfl), trivial⟩) (by kernel_rfl) (fun _ _ _ _ _ => by kernel_rfl)
      case o2 => exact ValOp.pure (grown_steady _ 2) [(80, .bool false)] rfl (fun _ h1 _ => ⟨h1 1 80 (by kernel_rfl), trivial⟩) (by kernel_rfl) (fun _ _ _ _ _ => by kernel_rfl)
      case o3 => exact ValOp.no (grown_steady _ 3) (.inl ⟨81, _, rfl, rfl, by kernel_rfl, rfl⟩) rfl
      case o4 => exact ValOp.no (grown_steady _ 4) (.inl ⟨81, _, rfl, rfl, by kernel_rfl, rfl⟩) rfl
      case o5 => exact ValOp.no (grown_steady _ 5) (.inl ⟨81, _, rfl, rfl, by kernel_rfl, rfl⟩) rfl
      case o6 => exact ValOp.no (grown_steady _ 6) (.inl ⟨81, _, rfl, rfl, by kernel_rfl, rfl⟩) rfl
      case o7 => exact ValOp.pure (grown_steady _ 7) [(81, .bool false), (85, undef)] rfl (fun _ h1 _ => ⟨h1 2 81 (by kernel_rfl), h1 6 85 (by kernel_rfl), trivial⟩) (by kernel_rfl) (fun _ _ _ _ _ => by kernel_rfl)
      case hd =>
        intro w1 s1 _ hg
        have hg : Below W3.heap.size W3 w1 := hg
        have y9 := (box_later Y9 hg).cell
        have HY9 : Hid _ := box_later Y9 hg
        have HY4 : Hid (Boxed w1 (w.heap.size + 1) 4 (.bool false)) := box_later Y4 hg
        have HYS : Hid (St N S left vN vA w.heap.size (w.heap.size + 1) B5 B6 g w1) := HY.out.keep (KeepN.of_below hg)
        have HBB : Hid (Below w.heap.size w w1) := HYB.out.trans (hg.mono HYB.out.size)
        have HDD : Hid (DsOk w (D :: ds) w1) := by
          refine DsOk.keeps ⟨List.nodup_cons.2 ⟨fun h => ?_, HYD.out.1⟩, fun E hE => ?_⟩ (keeps_below hg)
          · have := DL.out D h; omega
          · rcases List.mem_cons.1 hE with rfl | hE
            · exact ⟨by have := BW.size; omega, HD.out⟩
            · exact HYD.out.2 E hE
        have HLT : Hid (N ≤ w1.heap.size) := by rw [Hid]; have := (box_later Y9 hg).lt; omega
        clear hg Y9 Y4
        gi_wp2
        have ha := alloc_below w1 (.cells #[.int .i64 1] 3)
        refine HQ.out _ _ w1.heap.size D ⟨HYS.out.keep (KeepN.of_below ha), Boxed.new _ _ _, HLT.out, box_later HY4.out ha, HBB.out.trans (ha.mono HBB.out.size), HDD.out.keeps (keeps_below ha)⟩ ⟨rfl, rfl, rfl, rfl, rfl, rfl, rfl, trivial⟩
    · gi_wp2_with fail
      refine wpIn_wide.2 (wp_region_vals (a1 := { tmps := #[f 0, f 1, f 2, .pointer (some ⟨w.heap.size, 0, none⟩), .pointer (some ⟨w.heap.size + 1, 0, none⟩), .pointer (some ⟨B5, 0, none⟩), .pointer (some ⟨B6, 0, none⟩), f 7, f 8, .pointer (some ⟨B9, 0, none⟩), .pointer (some ⟨W.heap.size, 0, none⟩), f 11, f 12, f 13, f 14, f 15, f 16, f 17, f 18, f 19, f 20, f 21, f 22, f 23, f 24, f 25, f 26, f 27, f 28, f 29, f 30, f 31, f 32, f 33, f 34, f 35, f 36, f 37, f 38, f 39, .int .i64 ((1 : Nat) : Int), .bool true, f 42, f 43, .func (.func 20) #[] #[.pointer (some ⟨g, 0, none⟩)], f 45, f 46, f 47, f 48, f 49, f 50, f 51, f 52, f 53, f 54, f 55, f 56, f 57, f 58, f 59, f 60, f 61, f 62, f 63, f 64, f 65, f 66, f 67, f 68, f 69, f 70, f 71, f 72, f 73, f 74, f 75, f 76, f 77, f 78, .int .i64 ((1 : Nat) : Int), .bool true, .bool true, .int .i64 (((cntL S).toNat : Nat) : Int), vN, .int .i64 (cntL S), .bool false, .bool false, f 87], defers := { target := Target.collected D, args := #[] } :: List.map dm ds }) (grown W3) [.int .i64 ((1 : Nat) : Int), .bool true, .bool true, .int .i64 (((cntL S).toNat : Nat) : Int), vN, .int .i64 (cntL S), .bool false, .bool false] 88 rfl (by kernel_rfl) (by kernel_rfl) (grown_start W3) ⟨?o0, ?o1, ?o2, ?o3, ?o4, ?o5, ?o6, ?o7, trivial⟩ (by kernel_rfl) ?hd)
      case o0 => exact ValOp.pure (grown_steady _ 0) [(9, .pointer (some ⟨B9, 0, none⟩))] rfl (fun _ _ h2 => ⟨(h2 9 (by kernel_rfl)).trans rfl, trivial⟩) (by kernel_rfl) (fun _ _ _ hg _ => run_read rfl rfl (run_l3 (box_later Y9 hg).cell))
      case o1 => exact ValOp.pure (grown_steady _ 1) [(79, .int .i64 ((1 : Nat) : Int))] rfl (fun _ h1 _ => ⟨h1 0 79 (by kernel_rfl), trivial⟩) (by kernel_rfl) (fun _ _ _ _ _ => by kernel_rfl)
      case o2 => exact ValOp.pure (grown_steady _ 2) [(80, .bool true)] rfl (fun _ h1 _ => ⟨h1 1 80 (by kernel_rfl), trivial⟩) (by kernel_rfl) (fun _ _ _ _ _ => by kernel_rfl)
      case o3 => exact ValOp.pure (grown_steady _ 3) [(10, .pointer (some ⟨W.heap.size, 0, none⟩))] (.inl ⟨81, _, rfl, rfl, by kernel_rfl, rfl⟩) (fun _ _ h2 => ⟨(h2 10 (by kernel_rfl)).trans rfl, trivial⟩) (by kernel_rfl) (fun _ _ _ hg _ => run_read rfl rfl (run_l3 (box_later Y10 hg).cell))
      case o4 => exact ValOp.pure (grown_steady _ 4) [(5, .pointer (some ⟨B5, 0, none⟩))] (.inl ⟨81, _, rfl, rfl, by kernel_rfl, rfl⟩) (fun _ _ h2 => ⟨(h2 5 (by kernel_rfl)).trans rfl, trivial⟩) (by kernel_rfl) (fun _ _ _ hg _ => run_read rfl rfl (run_l23 (box_later HY.out.b5 hg).cell))
      case o5 => exact ValOp.call (grown_steady _ 5) [(83, vN)] (.inl ⟨81, _, rfl, rfl, by kernel_rfl, rfl⟩) (fun _ h1 _ => ⟨h1 4 83 (by kernel_rfl), trivial⟩) (by kernel_rfl) 9 #[vN] (fun _ => by kernel_rfl) (fun _ w1 hg => rcount_any S vN w1 (HY.out.rM.below hg) HSS.out (by have := HLS.out; omega))
      case o6 => exact ValOp.pure (grown_steady _ 6) [(82, .int .i64 (((cntL S).toNat : Nat) : Int)), (84, .int .i64 (cntL S))] (.inl ⟨81, _, rfl, rfl, by kernel_rfl, rfl⟩) (fun _ h1 _ => ⟨h1 3 82 (by kernel_rfl), h1 5 84 (by kernel_rfl), trivial⟩) (by kernel_rfl) (fun _ _ _ _ _ => run_bin rfl rfl rfl (by kernel_rfl) (run_ne3 _ _ _ (Int.toNat_of_nonneg HCB.out.1)))
      case o7 => exact ValOp.pure (grown_steady _ 7) [(81, .bool true), (85, .bool false)] rfl (fun _ h1 _ => ⟨h1 2 81 (by kernel_rfl), h1 6 85 (by kernel_rfl), trivial⟩) (by kernel_rfl) (fun _ _ _ _ _ => by kernel_rfl)
      case hd =>
        intro w1 s1 _ hg
        have hg : Below W3.heap.size W3 w1 := hg
        have y9 := (box_later Y9 hg).cell
        have HY9 : Hid _ := box_later Y9 hg
        have HY4 : Hid (Boxed w1 (w.heap.size + 1) 4 (.bool false)) := box_later Y4 hg
        have HYS : Hid (St N S left vN vA w.heap.size (w.heap.size + 1) B5 B6 g w1) := HY.out.keep (KeepN.of_below hg)
        have HBB : Hid (Below w.heap.size w w1) := HYB.out.trans (hg.mono HYB.out.size)
        have HDD : Hid (DsOk w (D :: ds) w1) := by
          refine DsOk.keeps ⟨List.nodup_cons.2 ⟨fun h => ?_, HYD.out.1⟩, fun E hE => ?_⟩ (keeps_below hg)
          · have := DL.out D h; omega
          · rcases List.mem_cons.1 hE with rfl | hE
            · exact ⟨by have := BW.size; omega, HD.out⟩
            · exact HYD.out.2 E hE
        have HLT : Hid (N ≤ w1.heap.size) := by rw [Hid]; have := (box_later Y9 hg).lt; omega
        clear hg Y9 Y4
        gi_wp2
        have ha := alloc_below w1 (.cells #[.int .i64 2] 3)
        refine HQ.out _ _ w1.heap.size D ⟨HYS.out.keep (KeepN.of_below ha), Boxed.new _ _ _, HLT.out, box_later HY4.out ha, HBB.out.trans (ha.mono HBB.out.size), HDD.out.keeps (keeps_below ha)⟩ ⟨rfl, rfl, rfl, rfl, rfl, rfl, rfl, trivial⟩
  case stop =>
    rintro D c pre W3 hD hpre ⟨h, YB, YD⟩ hKD
    rcases h with ⟨_, h⟩ | ⟨⟨rfl, hr0⟩, Y10, Y9, Y4, YS⟩
    · exact absurd hpre h
    · have y9 := Y9.cell
      have HY : Hid _ := YS
      have HD : Hid (W3.heap[D]? = some (.deferred (some []))) := hKD
      have HYB : Hid (Below w.heap.size w W3) := YB
      have HYD : Hid (DsOk w ds W3) := YD
      clear YS hKD YB YD
      subst hr0
      gi_wp2_with fail
      refine wpIn_wide.2 (wp_region_vals (a1 := { tmps := #[f 0, f 1, f 2, .pointer (some ⟨w.heap.size, 0, none⟩), .pointer (some ⟨w.heap.size + 1, 0, none⟩), .pointer (some ⟨B5, 0, none⟩), .pointer (some ⟨B6, 0, none⟩), f 7, f 8, .pointer (some ⟨B9, 0, none⟩), .pointer (some ⟨W.heap.size, 0, none⟩), f 11, f 12, f 13, f 14, f 15, f 16, f 17, f 18, f 19, f 20, f 21, f 22, f 23, f 24, f 25, f 26, f 27, f 28, f 29, f 30, f 31, f 32, f 33, f 34, f 35, f 36, f 37, f 38, f 39, .int .i64 ((0 : Nat) : Int), .bool true, f 42, f 43, .func (.func 20) #[] #[.pointer (some ⟨g, 0, none⟩)], f 45, f 46, f 47, f 48, f 49, f 50, f 51, f 52, f 53, f 54, f 55, f 56, f 57, f 58, f 59, f 60, f 61, f 62, f 63, f 64, f 65, f 66, f 67, f 68, f 69, f 70, f 71, f 72, f 73, f 74, f 75, f 76, f 77, f 78, .int .i64 ((0 : Nat) : Int), .bool false, .bool false, undef, undef, undef, undef, .bool false, f 87], defers := { target := Target.collected D, args := #[] } :: List.map dm ds }) (grown W3) [.int .i64 ((0 : Nat) : Int), .bool false, .bool false, undef, undef, undef, undef, .bool false] 88 rfl (by kernel_rfl) (by kernel_rfl) (grown_start W3) ⟨?o0, ?o1, ?o2, ?o3, ?o4, ?o5, ?o6, ?o7, trivial⟩ (by kernel_rfl) ?hd)
      case o0 => exact ValOp.pure (grown_steady _ 0) [(9, .pointer (some ⟨B9, 0, none⟩))] rfl (fun _ _ h2 => ⟨(h2 9 (by kernel_rfl)).trans rfl, trivial⟩) (by kernel_rfl) (fun _ _ _ hg _ => run_read rfl rfl (run_l3 (box_later Y9 hg).cell))
      case o1 => exact ValOp.pure (grown_steady _ 1) [(79, .int .i64 ((0 : Nat) : Int))] rfl (fun _ h1 _ => ⟨h1 0 79 (by kernel_rfl), trivial⟩) (by kernel_rfl) (fun _ _ _ _ _ => by kernel_rfl)
      case o2 => exact ValOp.pure (grown_steady _ 2) [(80, .bool false)] rfl (fun _ h1 _ => ⟨h1 1 80 (by kernel_rfl), trivial⟩) (by kernel_rfl) (fun _ _ _ _ _ => by kernel_rfl)
      case o3 => exact ValOp.no (grown_steady _ 3) (.inl ⟨81, _, rfl, rfl, by kernel_rfl, rfl⟩) rfl
      case o4 => exact ValOp.no (grown_steady _ 4) (.inl ⟨81, _, rfl, rfl, by kernel_rfl, rfl⟩) rfl
      case o5 => exact ValOp.no (grown_steady _ 5) (.inl ⟨81, _, rfl, rfl, by kernel_rfl, rfl⟩) rfl
      case o6 => exact ValOp.no (grown_steady _ 6) (.inl ⟨81, _, rfl, rfl, by kernel_rfl, rfl⟩) rfl
      case o7 => exact ValOp.pure (grown_steady _ 7) [(81, .bool false), (85, undef)] rfl (fun _ h1 _ => ⟨h1 2 81 (by kernel_rfl), h1 6 85 (by kernel_rfl), trivial⟩) (by kernel_rfl) (fun _ _ _ _ _ => by kernel_rfl)
      case hd =>
        intro w1 s1 _ hg
        have hg : Below W3.heap.size W3 w1 := hg
        have y9 := (box_later Y9 hg).cell
        have HY9 : Hid _ := box_later Y9 hg
        have HY4 : Hid (Boxed w1 (w.heap.size + 1) 4 (.bool false)) := box_later Y4 hg
        have HYS : Hid (St N S left vN vA w.heap.size (w.heap.size + 1) B5 B6 g w1) := HY.out.keep (KeepN.of_below hg)
        have HBB : Hid (Below w.heap.size w w1) := HYB.out.trans (hg.mono HYB.out.size)
        have HDD : Hid (DsOk w (D :: ds) w1) := by
          refine DsOk.keeps ⟨List.nodup_cons.2 ⟨fun h => ?_, HYD.out.1⟩, fun E hE => ?_⟩ (keeps_below hg)
          · have := DL.out D h; omega
          · rcases List.mem_cons.1 hE with rfl | hE
            · exact ⟨by have := BW.size; omega, HD.out⟩
            · exact HYD.out.2 E hE
        have HLT : Hid (N ≤ w1.heap.size) := by rw [Hid]; have := (box_later Y9 hg).lt; omega
        clear hg Y9 Y4
        gi_wp2
        have ha := alloc_below w1 (.cells #[.int .i64 1] 3)
        refine HQ.out _ _ w1.heap.size D ⟨HYS.out.keep (KeepN.of_below ha), Boxed.new _ _ _, HLT.out, box_later HY4.out ha, HBB.out.trans (ha.mono HBB.out.size), HDD.out.keeps (keeps_below ha)⟩ ⟨rfl, rfl, rfl, rfl, rfl, rfl, rfl, trivial⟩
end Go.Proofs.Ytddoanmhikldiab
