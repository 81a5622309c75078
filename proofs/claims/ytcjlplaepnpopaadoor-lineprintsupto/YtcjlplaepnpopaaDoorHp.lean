/-
  given: a copy of a line.
-/
import Derived.Test.YtcjlplaepnpopaaDoorHn
import Derived.Test.YtcjlplaepnpopaaDoorHj
import Derived.Test.YtcjlplaepnpopaaDoorTn
import Derived.ChangeSlices
import Derived.LoopN
import Derived.IntWalk
import Derived.OwnWalk
import Derived.WalkSmall
import Derived.BigQuiet
import Derived.Deep.QuietTactic
import Derived.KernelRfl
import Derived.Laws.AppendOwn
import Derived.Laws.AppendOwnNone
namespace Go.Proofs.YtcjlplaepnpopaaDoor
open Go.RowKit
/-- A slice that reads as these texts, nil or not. -/
def RdT2 (w : World) (v : Value) (L : List ByteArray) : Prop := (v = .slice none 0 0 ∧ L = []) ∨ ∃ ad c, v = .slice (some ad) L.length c ∧ L.length ≤ c ∧ ∀ j u, (L.map Value.string)[j]? = some u → w.cell? (ad.add j) = some u
theorem RdT2.rd {w : World} {v : Value} {L : List ByteArray} (h : RdT2 w v L) : RdT w v L := by
  rcases h with ⟨rfl, rfl⟩ | ⟨ad, c, rfl, hle, hc⟩
  · exact ⟨none, 0, rfl, Nat.le_refl _, fun h => by simp at h⟩
  · refine ⟨some ad, c, rfl, hle, fun h0 => ?_⟩
    obtain ⟨g, off, spot⟩ := ad
    have h1 := hc 0 (.string (L[0]'h0)) (by simp [List.getElem?_eq_getElem h0])
    have hspot : spot = none := by simpa [Addr.add] using World.cell?_spot h1
    subst hspot
    refine ⟨g, off, rfl, fun j hj => ?_⟩
    have h2 := hc j (.string (L[j]'hj)) (by simp [List.getElem?_eq_getElem hj])
    rw [Go.WideShapes.add_plain] at h2
    rw [h2]
    simp [List.getD, List.getElem?_eq_getElem hj]
theorem load_int {w : World} {o : Oper} {t : Nat} {p : Addr} {z : Int} (ho : o.op = .load 3 (.tmp t)) (hc : w.cell? p = some (.int .i64 z)) : (execOp (rho [(t, .pointer (some p))]) o).run Tryd.prog w = .ok (.value (.int .i64 z)) w := by
  have e1 : rho [(t, .pointer (some p))] (.tmp t) = .pointer (some p) := by simp [rho]
  unfold execOp
  simp only [ho, e1]
  simp [go_sem, hc]
theorem load_str {w : World} {o : Oper} {t : Nat} {p : Addr} {z : ByteArray} (ho : o.op = .load 9 (.tmp t)) (hc : w.cell? p = some (.string z)) : (execOp (rho [(t, .pointer (some p))]) o).run Tryd.prog w = .ok (.value (.string z)) w := by
  have e1 : rho [(t, .pointer (some p))] (.tmp t) = .pointer (some p) := by simp [rho]
  unfold execOp
  simp only [ho, e1]
  simp [go_sem, hc]
theorem load_slc {w : World} {o : Oper} {t : Nat} {p : Addr} {a : Option Addr} {n c : Nat} (ho : o.op = .load 44 (.tmp t)) (hc : w.cell? p = some (.slice a n c)) : (execOp (rho [(t, .pointer (some p))]) o).run Tryd.prog w = .ok (.value (.slice a n c)) w := by
  have e1 : rho [(t, .pointer (some p))] (.tmp t) = .pointer (some p) := by simp [rho]
  unfold execOp
  simp only [ho, e1]
  simp [go_sem, hc]
theorem build53 {w : World} {o : Oper} {num : Int} {note : ByteArray} {a : Option Addr} {n c : Nat} (ho : o.op = .build 53 #[(0, .tmp 4), (1, .tmp 8), (2, .tmp 10)]) : (execOp (rho [(4, .int .i64 num), (8, .slice a n c), (10, .string note)]) o).run Tryd.prog w = .ok (.value (.agg #[.int .i64 num, .slice a n c, .string note])) w := by
  have e1 : rho [(4, .int .i64 num), (8, .slice a n c), (10, .string note)] (.tmp 4) = .int .i64 num := rfl
  have e2 : rho [(4, .int .i64 num), (8, .slice a n c), (10, .string note)] (.tmp 8) = .slice a n c := rfl
  have e3 : rho [(4, .int .i64 num), (8, .slice a n c), (10, .string note)] (.tmp 10) = .string note := rfl
  unfold execOp
  simp only [ho]
  simp [go_sem, e1, e2, e3]
theorem mark_ne (s : Nat → Bool) (i j : Nat) (h : ¬ j = i) : mark s i j = s j := by simp [mark, h]
theorem mark_eq (s : Nat → Bool) (i : Nat) : mark s i i = true := by simp [mark]
theorem own_none (w : World) {B : Nat} (h : B ≤ w.heap.size) : (w.alloc (.cells #[] 9)).ownsRow B 9 1 (.slice (some ⟨w.heap.size, 0, none⟩) 0 0) 0 [] :=
  ⟨rfl, .inr ⟨w.heap.size, 0, #[], rfl, h, heap_new _ _, Nat.le_refl _, by decide, rfl, rfl⟩⟩
/-- A store of a whole row. -/
theorem wp_stored {P : Program} {Q : Exit → Act → World → Prop} {o : Oper} {a : Act} {w : World} {K : Act → World → Prop} (ty : TypeId) (t : Tmp) (y : Operand) (ho : o.op = .store ty (.tmp t) y) (hd : o.dst = none) (g : Nat) (cs0 cs : Array Value) (tt : TypeId)
    (ht : a.tmps[t]? = some (.pointer (some ⟨g, 0, none⟩))) (hy : a.eval y = .agg cs) (hg : w.heap[g]? = some (.cells cs0 tt (0, 0))) (hsz : cs0.size = cs.size) (hi : (P.info? ty).map (·.size) = some cs.size) (h1 : cs.all (·.oneCell') = true) (h : K (a.put none undef) (w.setRow g cs)) : Oper.wp P o a w K Q := by
  have he : a.eval (.tmp t) = .pointer (some ⟨g, 0, none⟩) := by simp [Act.eval, ht]
  have hrun : (storeVar ty ⟨g, 0, none⟩ (.agg cs)).run P w = .ok () (w.setRow g cs) := run_storeVar_row w g tt ty cs0 cs hg hi hsz h1
  unfold Oper.wp execOp
  simp only [ho, he, hy, Instr.storeAt, Instr.sureAddr, Sem.run_bind, Sem.run_pure, Result.andThen_ok, hrun, Oper.upon]
  rw [hd]
  exact h
/-- What given's operations give. -/
def VG (N : Nat) (num : Int) (v : Value) (note : ByteArray) (L : List ByteArray) : (Nat → Bool) → Nat → Value → World → Prop := fun s j u w => match j with
  | 0 => u = .pointer (some ⟨N, 0, none⟩)
  | 1 => u = .int .i64 num
  | 2 => s 5 = true ∨ w.ownsRow (N + 2) 9 1 u 0 []
  | 3 => u = .pointer (some ⟨N, 1, none⟩)
  | 4 => u = v
  | 5 => RwS (N + 2) w u L
  | 6 => u = .pointer (some ⟨N, 2, none⟩)
  | 7 => u = .string note
  | 8 => ∃ r, u = .agg #[.int .i64 num, r, .string note] ∧ RwS (N + 2) w r L
  | _ => True
/-- What is said of memory. -/
def GG (num : Int) (v : Value) (note : ByteArray) (L : List ByteArray) (w : World) : (Nat → Bool) → World → Prop := fun s W =>
  Below w.heap.size w W ∧ w.heap.size + 2 ≤ W.heap.size ∧ W.heap[w.heap.size]? = some (.cells #[.int .i64 num, v, .string note] 46 (0, 0)) ∧
    ∃ cs, W.heap[w.heap.size + 1]? = some (.cells cs 53 (0, 0)) ∧ cs.size = 3 ∧ (s 9 = true → ∃ r, cs = #[.int .i64 num, r, .string note] ∧ RwS (w.heap.size + 2) W r L)
theorem GG.step {num : Int} {v : Value} {note : ByteArray} {L : List ByteArray} {w : World} {s s' : Nat → Bool} {W W' : World} (h : GG num v note L w s W) (h9 : s' 9 = s 9) (hb : Below W.heap.size W W') : GG num v note L w s' W' := by
  obtain ⟨h1, h2, h3, cs, h4, h5, h6⟩ := h
  refine ⟨h1.trans (hb.mono h1.size), Nat.le_trans h2 hb.size, (hb.block _ (by omega)).trans h3, cs, (hb.block _ (by omega)).trans h4, h5, fun q => ?_⟩
  obtain ⟨r, e, hr⟩ := h6 (by rw [← h9]; exact q)
  exact ⟨r, e, hr.below hb⟩
/-- The same where the row of one slice has grown. -/
theorem VG.step {N : Nat} {num : Int} {v : Value} {note : ByteArray} {L : List ByteArray} {s s' : Nat → Bool} {w w' : World} (h5 : s 5 = true → s' 5 = true) (hb : Below w.heap.size w w') (j : Nat) (u : Value) (h : VG N num v note L s j u w) : VG N num v note L s' j u w' := by
  unfold VG at h ⊢
  match j with
  | 0 => exact h
  | 1 => exact h
  | 2 => exact h.elim (fun q => .inl (h5 q)) fun q => .inr (owns_below q hb)
  | 3 => exact h
  | 4 => exact h
  | 5 => exact RwS.below h hb
  | 6 => exact h
  | 7 => exact h
  | 8 => obtain ⟨r, e, hr⟩ := h; exact ⟨r, e, hr.below hb⟩
  | _ + 9 => trivial
theorem vg_calm (num : Int) (v : Value) (note : ByteArray) (L : List ByteArray) (w : World) (i : Nat) (h9 : (9 == i) = false) : Calm (GG num v note L w) (VG w.heap.size num v note L) i :=
  ⟨fun s W W' _ h hb => h.step (mark_ne s i 9 (by simpa using h9)) hb, fun s j u W W' _ _ h hb => h.step (fun q => by
    by_cases e : i = 5
    · subst e; exact mark_eq s 5
    · rw [mark_ne s i 5 (fun q => e q.symm)]; exact q) hb j u⟩
theorem setRow_other {w : World} {g j : Nat} (cs : Array Value) (h : j ≠ g) : (w.setRow g cs).heap[j]? = w.heap[j]? := by
  simp [World.setRow, Array.getElem?_modify, Ne.symm h]
theorem setRow_here {w : World} {g : Nat} {cs0 : Array Value} {t : TypeId} (cs : Array Value) (h : w.heap[g]? = some (.cells cs0 t (0, 0))) : (w.setRow g cs).heap[g]? = some (.cells cs t (0, 0)) := by
  simp [World.setRow, Array.getElem?_modify, h]
theorem rws_setRow {b g : Nat} {w : World} {v : Value} {L : List ByteArray} (cs : Array Value) (h : RwS b w v L) (hg : g < b) : RwS b (w.setRow g cs) v L := by
  obtain ⟨h1, h2 | ⟨k, cap, cur, rfl, h3, h4, h5⟩⟩ := h
  · exact ⟨h1, .inl h2⟩
  · exact ⟨h1, .inr ⟨k, cap, cur, rfl, h3, (setRow_other cs (by omega)).trans h4, h5⟩⟩
theorem info53 : (Tryd.prog.info? 53).map (·.size) = some 3 := by kernel_rfl
theorem RwS.rdT {b : Nat} {w : World} {v : Value} {L : List ByteArray} (h : RwS b w v L) : RdT w v L := by
  obtain ⟨h1, ⟨rfl, h0⟩ | ⟨g, cap, cur, rfl, h3, h4, h5, h6, h7, h8⟩⟩ := h
  · exact ⟨none, 0, by rw [h0], by omega, fun h => by omega⟩
  · refine ⟨_, cap, rfl, h5, fun h0 => ⟨g, 0, rfl, fun j hj => ?_⟩⟩
    have he : (L.map Value.string)[j]? = some (.string (L.getD j ⟨#[]⟩)) := by simp [List.getD, List.getElem?_eq_getElem hj]
    rw [Nat.zero_add]
    exact owns_cell (show w.ownsRow b 9 1 (.slice (some ⟨g, 0, none⟩) L.length cap) L.length (L.map Value.string) from ⟨h1, .inr ⟨g, cap, cur, rfl, h3, h4, h5, h6, h7, h8⟩⟩) rfl j _ he
set_option maxRecDepth 100000 in
set_option maxHeartbeats 2000000 in
theorem given_any (num : Int) (v : Value) (L : List ByteArray) (note : ByteArray) (w : World) (hv : RdT2 w v L) (hL : L.length ≤ 2000000) :
    Calls Tryd.prog 16 #[.agg #[.int .i64 num, v, .string note]] w fun e w' => ∃ r, e = .returned (.agg #[.int .i64 num, r, .string note]) ∧ Hid (RdT w' r L) ∧ Hid (Below w.heap.size w w') := by
  obtain ⟨i0, hi, hz0, hz1, hz2⟩ := info_parts info9
  obtain ⟨ao, nn, cc, hvs⟩ : ∃ a n c, v = .slice a n c := by
    rcases hv with ⟨e, -⟩ | ⟨ad, c, e, -⟩
    · exact ⟨_, _, _, e⟩
    · exact ⟨_, _, _, e⟩
  have HV : Hid (RdT2 w v L) := hv
  have HVS : Hid (v = .slice ao nn cc) := hvs
  clear hv hvs
  go_enter Tryd.func16, Tryd.ntmps16
  go_wp2_with fail
  rename_i Q' K' hcont
  have hB0 : Below w.heap.size w ((w.alloc (.cells #[.int .i64 num, v, .string note] 46)).alloc (.cells #[.int .i64 0, .slice none 0 0, .string ⟨#[]⟩] 53)) := ((Below.refl _ _).alloc (Nat.le_refl _) _).alloc (by simp) _
  have hN0 : ((w.alloc (.cells #[.int .i64 num, v, .string note] 46)).alloc (.cells #[.int .i64 0, .slice none 0 0, .string ⟨#[]⟩] 53)).heap[w.heap.size]? = some (.cells #[.int .i64 num, v, .string note] 46 (0, 0)) := (Below.heap_alloc _ _ _ (by simp)).trans (heap_new _ _)
  have hN1 : ((w.alloc (.cells #[.int .i64 num, v, .string note] 46)).alloc (.cells #[.int .i64 0, .slice none 0 0, .string ⟨#[]⟩] 53)).heap[w.heap.size + 1]? = some (.cells #[.int .i64 0, .slice none 0 0, .string ⟨#[]⟩] 53 (0, 0)) := by
    have := heap_new (w.alloc (.cells #[.int .i64 num, v, .string note] 46)) (.cells #[.int .i64 0, .slice none 0 0, .string ⟨#[]⟩] 53)
    rwa [World.size_alloc] at this
  have hS0 : ((w.alloc (.cells #[.int .i64 num, v, .string note] 46)).alloc (.cells #[.int .i64 0, .slice none 0 0, .string ⟨#[]⟩] 53)).heap.size = w.heap.size + 2 := by simp
  obtain ⟨w0, hw0⟩ : ∃ w0, (w.alloc (.cells #[.int .i64 num, v, .string note] 46)).alloc (.cells #[.int .i64 0, .slice none 0 0, .string ⟨#[]⟩] 53) = w0 := ⟨_, rfl⟩
  rw [hw0] at hB0 hN0 hN1 hS0 ⊢
  clear hw0
  refine wp_abs 12 rfl fun a0 hzz hd hsl => ?_
  have s1 : a0.tmps[1]? = some (.pointer (some ⟨w.heap.size, 0, none⟩)) := hsl 1
  have s2 : a0.tmps[2]? = some (.pointer (some ⟨w.heap.size + 1, 0, none⟩)) := hsl 2
  replace hd : a0.defers = [] := hd
  clear hsl
  have HC : Shut _ := hcont
  clear hcont
  have cell0 : ∀ (s : Nat → Bool) (W : World), GG num v note L w s W → ∀ j u, (#[.int .i64 num, v, .string note] : Array Value)[j]? = some u → W.cell? ⟨w.heap.size, j, none⟩ = some u := fun s W h j u hu => by
    simp [World.cell?, h.2.2.1, hu]
  refine wp_region_turn (GG num v note L w) (VG w.heap.size num v note L) 12 hzz (by kernel_rfl) (by kernel_rfl) (fun w1 hb1 hs1 q hq => ⟨hB0.trans (hb1.mono hB0.size), by omega, (hb1.block _ (by omega)).trans hN0, _, (hb1.block _ (by omega)).trans hN1, rfl, fun e => by rw [hq 9] at e; cases e⟩) ⟨?o0, ?o1, ?o2, ?o3, ?o4, ?o5, ?o6, ?o7, ?o8, ?o9, trivial⟩ ?done
  case o0 =>
    exact FlowOp4.plain (vg_calm _ _ _ _ _ 0 rfl) fun a1 w4 s4 cx => ⟨wanted_none rfl, fun K hK => wp_gen [(1, .pointer (some ⟨w.heap.size, 0, none⟩))] ⟨cx.keep 1 _ (by kernel_rfl) s1, trivial⟩ (by kernel_rfl) (v := .pointer (some ⟨w.heap.size, 0, none⟩)) (w' := w4) (by kernel_rfl) (hK.out _ _ rfl (Below.refl _ _))⟩
  case o3 =>
    exact FlowOp4.plain (vg_calm _ _ _ _ _ 3 rfl) fun a1 w4 s4 cx => ⟨wanted_none rfl, fun K hK => wp_gen [(1, .pointer (some ⟨w.heap.size, 0, none⟩))] ⟨cx.keep 1 _ (by kernel_rfl) s1, trivial⟩ (by kernel_rfl) (v := .pointer (some ⟨w.heap.size, 1, none⟩)) (w' := w4) (by kernel_rfl) (hK.out _ _ rfl (Below.refl _ _))⟩
  case o6 =>
    exact FlowOp4.plain (vg_calm _ _ _ _ _ 6 rfl) fun a1 w4 s4 cx => ⟨wanted_none rfl, fun K hK => wp_gen [(1, .pointer (some ⟨w.heap.size, 0, none⟩))] ⟨cx.keep 1 _ (by kernel_rfl) s1, trivial⟩ (by kernel_rfl) (v := .pointer (some ⟨w.heap.size, 2, none⟩)) (w' := w4) (by kernel_rfl) (hK.out _ _ rfl (Below.refl _ _))⟩
  case o1 =>
    refine FlowOp4.plain (vg_calm _ _ _ _ _ 1 rfl) fun a1 w4 s4 cx => ?_
    obtain ⟨u, e1, p1⟩ := cx.slot 0 3 (by kernel_rfl)
    obtain rfl : u = .pointer (some ⟨w.heap.size, 0, none⟩) := p1
    exact ⟨wanted_none rfl, fun K hK => wp_gen [(3, .pointer (some ⟨w.heap.size, 0, none⟩))] ⟨e1, trivial⟩ (by kernel_rfl) (load_int rfl (cell0 _ _ cx.ground 0 _ rfl)) (hK.out _ _ rfl (Below.refl _ _))⟩
  case o4 =>
    refine FlowOp4.plain (vg_calm _ _ _ _ _ 4 rfl) fun a1 w4 s4 cx => ?_
    obtain ⟨u, e1, p1⟩ := cx.slot 3 6 (by kernel_rfl)
    obtain rfl : u = .pointer (some ⟨w.heap.size, 1, none⟩) := p1
    exact ⟨wanted_none rfl, fun K hK => wp_gen [(6, .pointer (some ⟨w.heap.size, 1, none⟩))] ⟨e1, trivial⟩ (by kernel_rfl) (load_slc rfl (cell0 _ _ cx.ground 1 _ (by rw [HVS.out]; rfl))) (hK.out _ _ HVS.out.symm (Below.refl _ _))⟩
  case o7 =>
    refine FlowOp4.plain (vg_calm _ _ _ _ _ 7 rfl) fun a1 w4 s4 cx => ?_
    obtain ⟨u, e1, p1⟩ := cx.slot 6 9 (by kernel_rfl)
    obtain rfl : u = .pointer (some ⟨w.heap.size, 2, none⟩) := p1
    exact ⟨wanted_none rfl, fun K hK => wp_gen [(9, .pointer (some ⟨w.heap.size, 2, none⟩))] ⟨e1, trivial⟩ (by kernel_rfl) (load_str rfl (cell0 _ _ cx.ground 2 _ rfl)) (hK.out _ _ rfl (Below.refl _ _))⟩
  case o2 =>
    refine FlowOp4.plain (vg_calm _ _ _ _ _ 2 rfl) fun a1 w4 s4 cx => ⟨wanted_none rfl, fun K hK => ?_⟩
    have hz := cx.ground.2.1
    exact wp_gen [] trivial (by kernel_rfl) (v := .slice (some ⟨w4.heap.size, 0, none⟩) 0 0) (w' := w4.alloc (.cells #[] 9)) (by kernel_rfl) (hK.out _ _ (.inr (own_none w4 hz)) ((Below.refl _ _).alloc (Nat.le_refl _) _))
  case o5 =>
    refine FlowOp4.turn fun a1 w4 s4 cx => ⟨wanted_none rfl, fun K hK => ?_⟩
    have hn : s4 5 = false := cx.new
    have h8 : s4 8 = false := by
      cases q : s4 8 with
      | false => rfl
      | true => rw [cx.down 8 _ rfl q 5 (by kernel_rfl)] at hn; cases hn
    have h9 : s4 9 = false := by
      cases q : s4 9 with
      | false => rfl
      | true => rw [cx.down 9 _ rfl q 8 (by kernel_rfl)] at h8; cases h8
    have hG : GG num v note L w s4 w4 := cx.ground
    have hz := hG.2.1
    obtain ⟨v1, e1, r1⟩ := cx.slot 2 5 (by kernel_rfl)
    obtain ⟨v2, e2, r2⟩ := cx.slot 4 7 (by kernel_rfl)
    obtain rfl : v2 = v := r2
    have own : w4.ownsRow (w.heap.size + 2) 9 1 v1 0 [] := Or.resolve_left r1 (by rw [hn]; decide)
    have next : ∀ v' w', w'.ownsRow (w.heap.size + 2) 9 1 v' L.length (L.map Value.string) → w4.grownBy w' v1.ownBlock → K (a1.put (some 8) v') w' := fun v' w' ho hgr => by
      have hlt : ∀ k, v1.ownBlock = some k → w.heap.size + 2 ≤ k := fun k e => (own.lt k e).1
      have same : ∀ k, k < w.heap.size + 2 → w'.heap[k]? = w4.heap[k]? := fun k hk => hgr.block k (by omega) fun e => by have := hlt k e.symm; omega
      refine hK.out v' w' ?_ ho fun j u hj hu => ?_
      · obtain ⟨g1, g2, g3, cs, g4, g5, g6⟩ := hG
        refine ⟨⟨hgr.os.trans g1.os, hgr.tape.trans g1.tape, hgr.output.trans g1.output, Nat.le_trans g1.size hgr.size, fun k hk => (same k (by omega)).trans (g1.block k hk)⟩, Nat.le_trans g2 hgr.size, (same _ (by omega)).trans g3, cs, (same _ (by omega)).trans g4, g5, fun q => ?_⟩
        rw [mark_ne s4 5 9 (by decide), h9] at q
        cases q
      · unfold VG at hu ⊢
        match j, hj with
        | 0, _ => exact hu
        | 1, _ => exact hu
        | 2, _ => exact .inl (mark_eq s4 5)
        | 3, _ => exact hu
        | 4, _ => exact hu
        | 5, hj => rw [hn] at hj; cases hj
        | 6, _ => exact hu
        | 7, _ => exact hu
        | 8, hj => rw [h8] at hj; cases hj
        | _ + 9, _ => trivial
    rcases HV.out with ⟨e, hL0⟩ | ⟨ad, c, e, hle, hcell⟩
    · subst e
      have hrun := run_append_owned_none (P := Tryd.prog) (w := w4) (w.heap.size + 2) 44 44 9 i0 1 Tryd.underlying44 hi v1 0 [] own
      have h1 := next v1 w4 (by rw [hL0]; exact own) ⟨rfl, rfl, rfl, Nat.le_refl _, fun _ _ _ => rfl⟩
      unfold Oper.wp execOp
      simp only [resolve, invoke, builtin, Sem.run_bind, Sem.run_pure, Result.andThen_ok, List.map_toArray, List.map_cons, List.map_nil, ev_tmp e1, ev_tmp e2, hrun]
      exact h1
    · subst e
      have hbw : Below w.heap.size w w4 := hG.1
      refine wp_append_own _ (.tmp 5) (.tmp 7) 44 rfl (w.heap.size + 2) 9 i0 (.string ⟨#[]⟩) 1 16 Tryd.underlying44 hi hz0 hz1 hz2 rfl (by decide) v1 0 [] (ev_tmp e1) own ad L.length c (L.map Value.string) (ev_tmp e2) (by simp) (fun j u hj => ?_) (fun u hu => by obtain ⟨x, _, rfl⟩ := List.mem_map.1 hu; rfl) (by unfold maxLen; omega) (by omega) hz ?_
      · have h2 := hcell j u hj
        have h3 := World.block_lt_of_cell? w _ h2
        exact (hbw.cell h3).trans h2
      · intro v' w' ho hgr _
        rw [Nat.zero_add, List.nil_append] at ho
        exact next v' w' ho hgr
  case o8 =>
    refine FlowOp4.plain (vg_calm _ _ _ _ _ 8 rfl) fun a1 w4 s4 cx => ?_
    obtain ⟨u1, e1, p1⟩ := cx.slot 1 4 (by kernel_rfl)
    obtain rfl : u1 = .int .i64 num := p1
    obtain ⟨u2, e2, p2⟩ := cx.slot 5 8 (by kernel_rfl)
    have p2 : RwS (w.heap.size + 2) w4 u2 L := p2
    obtain ⟨u3, e3, p3⟩ := cx.slot 7 10 (by kernel_rfl)
    obtain rfl : u3 = .string note := p3
    obtain ⟨a, c, rfl, -⟩ := owns_slice p2
    exact ⟨wanted_none rfl, fun K hK => wp_gen [(4, .int .i64 num), (8, .slice a L.length c), (10, .string note)] ⟨e1, e2, e3, trivial⟩ (by kernel_rfl) (build53 rfl) (hK.out _ _ ⟨_, rfl, p2⟩ (Below.refl _ _))⟩
  case o9 =>
    refine FlowOp4.turn fun a1 w4 s4 cx => ⟨wanted_none rfl, fun K hK => ?_⟩
    obtain ⟨u1, e1, r, rfl, hr⟩ := cx.slot 8 11 (by kernel_rfl)
    obtain ⟨g1, g2, g3, cs, g4, g5, g6⟩ : GG num v note L w s4 w4 := cx.ground
    have h2 := cx.keep 2 _ (by kernel_rfl) s2
    obtain ⟨a, c, rfl, -⟩ := owns_slice hr
    have kept : ∀ b v', b = w.heap.size + 2 → RwS b w4 v' L → RwS b (w4.setRow (w.heap.size + 1) #[.int .i64 num, .slice a L.length c, .string note]) v' L := fun b v' e h => rws_setRow _ h (by omega)
    refine wp_stored 53 2 (.tmp 11) rfl rfl (w.heap.size + 1) cs #[.int .i64 num, .slice a L.length c, .string note] 53 h2 (ev_tmp e1) g4 g5 info53 (by simp [Value.oneCell']) (hK.out undef _ ?_ trivial ?_)
    · refine ⟨⟨g1.os, g1.tape, g1.output, by simpa [World.setRow] using g1.size, fun k hk => (setRow_other _ (by omega)).trans (g1.block k hk)⟩, by simpa [World.setRow] using g2, (setRow_other _ (by omega)).trans g3, _, setRow_here _ g4, rfl, fun _ => ⟨_, rfl, kept _ _ rfl hr⟩⟩
    · intro j u _ hu
      unfold VG at hu ⊢
      match j with
      | 0 => exact hu
      | 1 => exact hu
      | 2 => exact hu.elim (fun q => .inl (by rw [mark_ne s4 9 5 (by decide)]; exact q)) fun q => .inl (by rw [mark_ne s4 9 5 (by decide)]; exact cx.down 8 _ rfl (cx.has 8 (by kernel_rfl)) 5 (by kernel_rfl))
      | 3 => exact hu
      | 4 => exact hu
      | 5 => exact kept _ _ rfl hu
      | 6 => exact hu
      | 7 => exact hu
      | 8 => obtain ⟨r2, e, hr2⟩ := hu; exact ⟨r2, e, kept _ _ rfl hr2⟩
      | _ + 9 => trivial
  case done =>
    intro a1 w5 s5 hs5 hg5 hz5 hd5 hk5 hgot
    obtain ⟨g1, g2, g3, cs, g4, g5, g6⟩ := hg5
    obtain ⟨r, rfl, hr⟩ := g6 (hs5 9 (by decide))
    have t2 : a1.tmps[2]? = some (.pointer (some ⟨w.heap.size + 1, 0, none⟩)) := (hk5 2 (by kernel_rfl)).trans s2
    refine HC.out _ _ ?_
    have hR : Hid (RdT w5 r L) := hr.rdT
    have hBB : Hid (Below w.heap.size w w5) := g1
    have hres := results_cell_row (P := Tryd.prog) Tryd.results16 a1.tmps w5 (w.heap.size + 1) 53 #[.int .i64 num, r, .string note] (0, 0) _ (by rw [Array.getD_eq_getD_getElem?, t2]; rfl) g4 Tryd.underlying53 rfl info53
    obtain ⟨tmps, defers⟩ := a1
    replace hd5 : defers = [] := hd5.trans hd
    subst hd5
    go_wp2
    exact bodyPost_ret hres rfl ⟨r, rfl, hR, hBB⟩
end Go.Proofs.YtcjlplaepnpopaaDoor
