/-
  The contract of the maker's add, whole. Conditions: the block's numbers are from 0 to 65535; there are fewer than 8704 blocks so far.
-/
import Derived.Test.YtookbgmolggohaaAd
namespace Go.Proofs.Ytookbgmolggohaa
open Go.RowKit
def G4 (K : Nat) (U : List (Nat → Int)) (w0 : World) : (Nat → Bool) → World → Prop := fun s w => Far (fun k => k = K) w0 w ∧ (s 6 = false → w.heap[K]? = w0.heap[K]?) ∧ (s 6 = true → MapU w K U)
theorem g4_steady (K : Nat) (U : List (Nat → Int)) (w0 : World) (hK : K < w0.heap.size) (i : Nat) (hi : 6 ≠ i) : Steady (G4 K U w0) i := fun s w w' _ ⟨h1, h2, h3⟩ hb => by
  have hlt : K < w.heap.size := Nat.lt_of_lt_of_le hK h1.size
  exact ⟨h1.below hb, fun c => (hb.block K hlt).trans (h2 (mark_same c)), fun c => (h3 (mark_true hi c)).same (hb.block K hlt)⟩
theorem Mk.half {w : World} {B M T K : Nat} {pv uv : Value} {U : List (Nat → Int)} {P : List Nat} (h : Mk w B M T K pv uv U P) : Mk' w B M T K pv uv U P := ⟨h.size, h.m, h.t, h.p, h.u⟩
theorem run_look {w : World} {l : List (Nat × Value)} {o : Oper} {ty : TypeId} {m x : Operand} (ho : o.op = .lookup ty m x true) {mv kv v : Value} (hm : rho l m = mv) (hx : rho l x = kv) (hr : (Instr.lookup ty mv kv true).run Try.prog w = .ok v w) : (execOp (rho l) o).run Try.prog w = .ok (.value v) w := by
  unfold execOp
  simp only [ho, hm, hx, Sem.run_bind, Sem.run_pure, Result.andThen_ok, hr]
set_option maxRecDepth 100000 in
set_option maxHeartbeats 2000000 in
open Classical in
theorem add_old (B M T K : Nat) (pv uv : Value) (U : List (Nat → Int)) (P : List Nat) (f : Nat → Int) (w : World) (h : Mk w B M T K pv uv U P) (hf : isBlk f) (hl : P.length < 8704) (hm : f ∈ U) :
    Calls Try.prog 49 #[.pointer (some ⟨M, 0, none⟩), bv f] w fun e w' => e = .returned (.tuple #[]) ∧ Below B w w' ∧ ∃ pv' , Mk w' B M T K pv' uv U (P ++ [idx U f]) := by
  obtain ⟨c, hlook, hc⟩ := h.k.looks hf
  have hc := hc hm
  rw [decide_eq_true hm] at hlook
  have hcu := celU_snoc U f
  unfold bv at *
  have hX : (rowOf .u16 128 f).size = 128 := rowOf_size _ _ _
  have h1c : ∀ u ∈ (rowOf .u16 128 f).toList, u.oneCell' = true := fun u hu => by
    have := Array.all_eq_true_iff_forall_mem.1 (rowOf_one .u16 128 f) u (by simpa using hu)
    exact this
  generalize rowOf .u16 128 f = X at *
  have hMl := (Array.getElem?_eq_some_iff.1 h.m).1
  obtain ⟨es, ck, hkb⟩ := h.k.block
  have hKl := (Array.getElem?_eq_some_iff.1 hkb).1
  have hMK : M ≠ K := ne_map h.m hkb
  have H : Hid (Mk w B M T K pv uv U P) := h
  have HL : Hid (∀ w' : World, w'.heap[K]? = w.heap[K]? → (Instr.lookup 98 (.map (some K)) (.agg X) true).run Try.prog w' = .ok (.tuple #[.int .u16 c, .bool true]) w') := hlook
  have HU : Hid (celU (U ++ [f]) = celU U ++ X.toList) := hcu
  clear h hlook hkb hcu
  
  go_enter Try.func49, Try.ntmps49
  go_wp2_with fail
  have hM0 : Hid ((w.alloc (.cells X 72)).heap[M]? = some (.cells #[.pointer (some ⟨T, 0, none⟩), .map (some K)] 100 (0, 0))) := (Go.RowKit.Below.heap_alloc w _ M hMl).trans H.out.m
  have hK0 : Hid ((w.alloc (.cells X 72)).heap[K]? = w.heap[K]?) := Go.RowKit.Below.heap_alloc w _ K hKl
  have hb0 : Hid ((w.alloc (.cells X 72)).heap[w.heap.size]? = some (.cells X 72 (0, 0))) := heap_alloc_last w _
  have bw : Hid (Below w.heap.size w (w.alloc (.cells X 72))) := (Below.refl _ _).alloc (Nat.le_refl _) _
  have H0 : Hid (Mk (w.alloc (.cells X 72)) B M T K pv uv U P) := H.out.below bw.out
  have hz0 : Hid ((w.alloc (.cells X 72)).heap.size = w.heap.size + 1) := by rw [Hid]; simp
  generalize hbx : w.heap.size = b at *
  replace hbx : Hid (w.heap.size = b) := hbx
  generalize w.alloc (.cells X 72) = w0 at *
  refine wp_region_vals (a1 := ?a1r1) (grown w0) [.pointer (some ⟨M, 0, none⟩), .pointer (some ⟨M, 0, none⟩), .pointer (some ⟨M, 1, none⟩), .map (some K), .agg X, .tuple #[.int .u16 c, .bool true], .tuple #[.int .u16 c, .bool true], .int .u16 c, .bool true, .int .u16 c, .bool true] 64 rfl (by kernel_rfl) (by kernel_rfl) (grown_start _) ⟨?o0r1, ?o1r1, ?o2r1, ?o3r1, ?o4r1, ?o5r1, ?o6r1, ?o7r1, ?o8r1, ?o9r1, ?o10r1, trivial⟩ ?har1 ?hdoner1
  case har1 => simp [putAll, Act.put]; exact rfl
  case o0r1 => exact ValOp.pure (grown_steady _ 0) [(0, .pointer (some ⟨M, 0, none⟩))] rfl (fun _ _ h2 => ⟨(h2 0 (by kernel_rfl)).trans rfl, trivial⟩) (by kernel_rfl) (fun _ _ _ _ _ => by kernel_rfl)
  case o1r1 => exact ValOp.pure (grown_steady _ 1) [(7, .pointer (some ⟨M, 0, none⟩))] rfl (fun _ h1 _ => ⟨h1 0 7 (by kernel_rfl), trivial⟩) (by kernel_rfl) (fun _ _ _ _ _ => by kernel_rfl)
  case o2r1 => exact ValOp.pure (grown_steady _ 2) [(8, .pointer (some ⟨M, 0, none⟩))] rfl (fun _ h1 _ => ⟨h1 1 8 (by kernel_rfl), trivial⟩) (by kernel_rfl) (fun _ _ _ _ _ => by kernel_rfl)
  case o3r1 => exact ValOp.pure (grown_steady _ 3) [(9, .pointer (some ⟨M, 1, none⟩))] rfl (fun _ h1 _ => ⟨h1 2 9 (by kernel_rfl), trivial⟩) (by kernel_rfl) (fun _ _ _ hg _ => run_read rfl rfl (run_cell ((hg.block M (by have := hz0.out; have := hbx.out; omega)).trans hM0.out) rfl (isAgg98 _)))
  case o4r1 => exact ValOp.pure (grown_steady _ 4) [(3, .pointer (some ⟨b, 0, none⟩))] rfl (fun _ _ h2 => ⟨(h2 3 (by kernel_rfl)).trans rfl, trivial⟩) (by kernel_rfl) (fun _ _ _ hg _ => run_read rfl rfl (run_loadVar_row _ _ _ _ _ _ _ ((hg.block b (by have := hz0.out; omega)).trans hb0.out) Try.underlying72 rfl (by rw [hX]; kernel_rfl)))
  case o5r1 => exact ValOp.pure (grown_steady _ 5) [(10, .map (some K)), (11, .agg X)] rfl (fun _ h1 _ => ⟨h1 3 10 (by kernel_rfl), h1 4 11 (by kernel_rfl), trivial⟩) (by kernel_rfl) (fun _ _ _ hg _ => run_look rfl rfl rfl (HL.out _ (((hg.block K (by have := hz0.out; have := hbx.out; omega)).trans hK0.out))))
  case o6r1 => exact ValOp.pure (grown_steady _ 6) [(12, .tuple #[.int .u16 c, .bool true])] rfl (fun _ h1 _ => ⟨h1 5 12 (by kernel_rfl), trivial⟩) (by kernel_rfl) (fun _ _ _ _ _ => by kernel_rfl)
  case o7r1 => exact ValOp.pure (grown_steady _ 7) [(6, .tuple #[.int .u16 c, .bool true])] rfl (fun _ h1 _ => ⟨h1 6 6 (by kernel_rfl), trivial⟩) (by kernel_rfl) (fun _ _ _ _ _ => by kernel_rfl)
  case o8r1 => exact ValOp.pure (grown_steady _ 8) [(6, .tuple #[.int .u16 c, .bool true])] rfl (fun _ h1 _ => ⟨h1 6 6 (by kernel_rfl), trivial⟩) (by kernel_rfl) (fun _ _ _ _ _ => by kernel_rfl)
  case o9r1 => exact ValOp.pure (grown_steady _ 9) [(13, .int .u16 c)] rfl (fun _ h1 _ => ⟨h1 7 13 (by kernel_rfl), trivial⟩) (by kernel_rfl) (fun _ _ _ _ _ => by kernel_rfl)
  case o10r1 => exact ValOp.pure (grown_steady _ 10) [(14, .bool true)] rfl (fun _ h1 _ => ⟨h1 8 14 (by kernel_rfl), trivial⟩) (by kernel_rfl) (fun _ _ _ _ _ => by kernel_rfl)
  case hdoner1 =>
    intro w1 s1 _ hg1
    have H1 : Hid (Mk w1 B M T K pv uv U P) := H0.out.below hg1
    have hb1 : Hid (w1.heap[b]? = some (.cells X 72 (0, 0))) := (hg1.block b (by have := hz0.out; omega)).trans hb0.out
    have B1 : Hid (Below b w w1) := bw.out.trans (Below.mono hg1 (by have := hz0.out; omega))
    have hub : Hid (uv.ownBlock ≠ some b) := fun hq => by
      obtain ⟨_, cur, hc⟩ := own_in H.out.u hq
      have := (Array.getElem?_eq_some_iff.1 hc).1
      have := hbx.out
      omega
    clear hg1
    go_wp2_with fail
    refine add_R6 B M T K b pv uv U P c _ w1 H1.out.half hl ⟨rfl, rfl, rfl, rfl, rfl, trivial⟩ ?_
    rintro a2 w2 at2 F2 ⟨pv', t2, p2⟩
    have hT1 := H1.out.t
    have hbB : B ≤ b := by have := H.out.size; have := hbx.out; omega
    have HB : Below B w w2 := (B1.out.mono hbB).trans (F2.toBelow H1.out.size (fun k hk => by
      rcases hk with rfl | hk
      · exact H1.out.bT
      · exact (own_in H1.out.p hk).1))
    have HM : Mk w2 B M T K pv' uv U (P ++ [idx U f]) := by
      obtain ⟨es, ck, hk1⟩ := H1.out.k.block
      refine ⟨H1.out.bM, H1.out.bT, H1.out.bK, ?_, t2, ?_, ?_, ?_⟩
      · refine (F2.block M (Array.getElem?_eq_some_iff.1 H1.out.m).1 (fun q => ?_)).trans H1.out.m
        rcases q with q | q
        · exact ne_tag H1.out.m H1.out.t (by decide) q
        · obtain ⟨_, cur, hc⟩ := own_in H1.out.p q
          exact ne_tag H1.out.m hc (by decide) rfl
      · rw [celP_snoc, List.length_append]
        rw [hc] at p2
        exact p2
      · refine owns_same H1.out.u fun k hk => ?_
        obtain ⟨_, cur, hc⟩ := own_in H1.out.u hk
        refine F2.block k (Array.getElem?_eq_some_iff.1 hc).1 fun q => ?_
        rcases q with q | q
        · exact ne_tag hc H1.out.t (by decide) q
        · obtain ⟨_, cur', hc'⟩ := own_in H1.out.p q
          exact ne_tag hc hc' (by decide) rfl
      · refine H1.out.k.same (F2.block K (Array.getElem?_eq_some_iff.1 hk1).1 fun q => ?_)
        rcases q with q | q
        · exact ne_map H1.out.t hk1 q.symm
        · obtain ⟨_, cur', hc'⟩ := own_in H1.out.p q
          exact ne_map hc' hk1 rfl
    exact bodyPost_end (v := .tuple #[]) (results_none rfl _ _ _) at2.defers ⟨rfl, HB, pv', HM⟩
set_option maxRecDepth 100000 in
set_option maxHeartbeats 2000000 in
open Classical in
theorem add_new (B M T K : Nat) (pv uv : Value) (U : List (Nat → Int)) (P : List Nat) (f : Nat → Int) (w : World) (h : Mk w B M T K pv uv U P) (hf : isBlk f) (hl : P.length < 8704) (hU : U.length ≤ P.length) (hm : f ∉ U) :
    Calls Try.prog 49 #[.pointer (some ⟨M, 0, none⟩), bv f] w fun e w' => e = .returned (.tuple #[]) ∧ Below B w w' ∧ ∃ pv' uv', Mk w' B M T K pv' uv' (U ++ [f]) (P ++ [U.length]) := by
  obtain ⟨c, hlook, hc⟩ := h.k.looks hf
  clear hc
  rw [decide_eq_false hm] at hlook
  have hput := fun w' (hw : MapU w' K U) => hw.put hf hm
  have hcu := celU_snoc U f
  unfold bv at *
  have hX : (rowOf .u16 128 f).size = 128 := rowOf_size _ _ _
  have h1c : ∀ u ∈ (rowOf .u16 128 f).toList, u.oneCell' = true := fun u hu => by
    have := Array.all_eq_true_iff_forall_mem.1 (rowOf_one .u16 128 f) u (by simpa using hu)
    exact this
  generalize rowOf .u16 128 f = X at *
  have hMl := (Array.getElem?_eq_some_iff.1 h.m).1
  obtain ⟨es, ck, hkb⟩ := h.k.block
  have hKl := (Array.getElem?_eq_some_iff.1 hkb).1
  have hMK : M ≠ K := ne_map h.m hkb
  have H : Hid (Mk w B M T K pv uv U P) := h
  have HL : Hid (∀ w' : World, w'.heap[K]? = w.heap[K]? → (Instr.lookup 98 (.map (some K)) (.agg X) true).run Try.prog w' = .ok (.tuple #[.int .u16 c, .bool false]) w') := hlook
  have HP : Hid (∀ w', MapU w' K U → U.length < 65536 → ∃ w'', (Instr.mapUpdate 98 (.map (some K)) (.agg X) (.int .u16 (U.length : Nat))).run Try.prog w' = .ok () w'' ∧ MapU w'' K (U ++ [f]) ∧ w'.grownBy w'' (some K)) := hput
  have HU : Hid (celU (U ++ [f]) = celU U ++ X.toList) := hcu
  clear h hlook hkb hput hcu
  
  go_enter Try.func49, Try.ntmps49
  go_wp2_with fail
  have hM0 : Hid ((w.alloc (.cells X 72)).heap[M]? = some (.cells #[.pointer (some ⟨T, 0, none⟩), .map (some K)] 100 (0, 0))) := (Go.RowKit.Below.heap_alloc w _ M hMl).trans H.out.m
  have hK0 : Hid ((w.alloc (.cells X 72)).heap[K]? = w.heap[K]?) := Go.RowKit.Below.heap_alloc w _ K hKl
  have hb0 : Hid ((w.alloc (.cells X 72)).heap[w.heap.size]? = some (.cells X 72 (0, 0))) := heap_alloc_last w _
  have bw : Hid (Below w.heap.size w (w.alloc (.cells X 72))) := (Below.refl _ _).alloc (Nat.le_refl _) _
  have H0 : Hid (Mk (w.alloc (.cells X 72)) B M T K pv uv U P) := H.out.below bw.out
  have hz0 : Hid ((w.alloc (.cells X 72)).heap.size = w.heap.size + 1) := by rw [Hid]; simp
  generalize hbx : w.heap.size = b at *
  replace hbx : Hid (w.heap.size = b) := hbx
  generalize w.alloc (.cells X 72) = w0 at *
  refine wp_region_vals (a1 := ?a1r1) (grown w0) [.pointer (some ⟨M, 0, none⟩), .pointer (some ⟨M, 0, none⟩), .pointer (some ⟨M, 1, none⟩), .map (some K), .agg X, .tuple #[.int .u16 c, .bool false], .tuple #[.int .u16 c, .bool false], .int .u16 c, .bool false, .int .u16 c, .bool false] 64 rfl (by kernel_rfl) (by kernel_rfl) (grown_start _) ⟨?o0r1, ?o1r1, ?o2r1, ?o3r1, ?o4r1, ?o5r1, ?o6r1, ?o7r1, ?o8r1, ?o9r1, ?o10r1, trivial⟩ ?har1 ?hdoner1
  case har1 => simp [putAll, Act.put]; exact rfl
  case o0r1 => exact ValOp.pure (grown_steady _ 0) [(0, .pointer (some ⟨M, 0, none⟩))] rfl (fun _ _ h2 => ⟨(h2 0 (by kernel_rfl)).trans rfl, trivial⟩) (by kernel_rfl) (fun _ _ _ _ _ => by kernel_rfl)
  case o1r1 => exact ValOp.pure (grown_steady _ 1) [(7, .pointer (some ⟨M, 0, none⟩))] rfl (fun _ h1 _ => ⟨h1 0 7 (by kernel_rfl), trivial⟩) (by kernel_rfl) (fun _ _ _ _ _ => by kernel_rfl)
  case o2r1 => exact ValOp.pure (grown_steady _ 2) [(8, .pointer (some ⟨M, 0, none⟩))] rfl (fun _ h1 _ => ⟨h1 1 8 (by kernel_rfl), trivial⟩) (by kernel_rfl) (fun _ _ _ _ _ => by kernel_rfl)
  case o3r1 => exact ValOp.pure (grown_steady _ 3) [(9, .pointer (some ⟨M, 1, none⟩))] rfl (fun _ h1 _ => ⟨h1 2 9 (by kernel_rfl), trivial⟩) (by kernel_rfl) (fun _ _ _ hg _ => run_read rfl rfl (run_cell ((hg.block M (by have := hz0.out; have := hbx.out; omega)).trans hM0.out) rfl (isAgg98 _)))
  case o4r1 => exact ValOp.pure (grown_steady _ 4) [(3, .pointer (some ⟨b, 0, none⟩))] rfl (fun _ _ h2 => ⟨(h2 3 (by kernel_rfl)).trans rfl, trivial⟩) (by kernel_rfl) (fun _ _ _ hg _ => run_read rfl rfl (run_loadVar_row _ _ _ _ _ _ _ ((hg.block b (by have := hz0.out; omega)).trans hb0.out) Try.underlying72 rfl (by rw [hX]; kernel_rfl)))
  case o5r1 => exact ValOp.pure (grown_steady _ 5) [(10, .map (some K)), (11, .agg X)] rfl (fun _ h1 _ => ⟨h1 3 10 (by kernel_rfl), h1 4 11 (by kernel_rfl), trivial⟩) (by kernel_rfl) (fun _ _ _ hg _ => run_look rfl rfl rfl (HL.out _ (((hg.block K (by have := hz0.out; have := hbx.out; omega)).trans hK0.out))))
  case o6r1 => exact ValOp.pure (grown_steady _ 6) [(12, .tuple #[.int .u16 c, .bool false])] rfl (fun _ h1 _ => ⟨h1 5 12 (by kernel_rfl), trivial⟩) (by kernel_rfl) (fun _ _ _ _ _ => by kernel_rfl)
  case o7r1 => exact ValOp.pure (grown_steady _ 7) [(6, .tuple #[.int .u16 c, .bool false])] rfl (fun _ h1 _ => ⟨h1 6 6 (by kernel_rfl), trivial⟩) (by kernel_rfl) (fun _ _ _ _ _ => by kernel_rfl)
  case o8r1 => exact ValOp.pure (grown_steady _ 8) [(6, .tuple #[.int .u16 c, .bool false])] rfl (fun _ h1 _ => ⟨h1 6 6 (by kernel_rfl), trivial⟩) (by kernel_rfl) (fun _ _ _ _ _ => by kernel_rfl)
  case o9r1 => exact ValOp.pure (grown_steady _ 9) [(13, .int .u16 c)] rfl (fun _ h1 _ => ⟨h1 7 13 (by kernel_rfl), trivial⟩) (by kernel_rfl) (fun _ _ _ _ _ => by kernel_rfl)
  case o10r1 => exact ValOp.pure (grown_steady _ 10) [(14, .bool false)] rfl (fun _ h1 _ => ⟨h1 8 14 (by kernel_rfl), trivial⟩) (by kernel_rfl) (fun _ _ _ _ _ => by kernel_rfl)
  case hdoner1 =>
    intro w1 s1 _ hg1
    have H1 : Hid (Mk w1 B M T K pv uv U P) := H0.out.below hg1
    have hb1 : Hid (w1.heap[b]? = some (.cells X 72 (0, 0))) := (hg1.block b (by have := hz0.out; omega)).trans hb0.out
    have B1 : Hid (Below b w w1) := bw.out.trans (Below.mono hg1 (by have := hz0.out; omega))
    have hub : Hid (uv.ownBlock ≠ some b) := fun hq => by
      obtain ⟨_, cur, hc⟩ := own_in H.out.u hq
      have := (Array.getElem?_eq_some_iff.1 hc).1
      have := hbx.out
      omega
    clear hg1
    obtain ⟨d0, -⟩ := tab_cells H1.out.m
    obtain ⟨-, d1⟩ := tab_cells H1.out.t
    obtain ⟨ua, uc, huv, -, -⟩ := owns_slice H1.out.u
    rw [huv] at d1
    replace huv : Hid (uv = .slice ua U.length uc) := huv
    have hUl : (U.length : Nat) < 65536 := by omega
    have hM1 := (Array.getElem?_eq_some_iff.1 H1.out.m).1
    have hbl1 := (Array.getElem?_eq_some_iff.1 hb1.out).1
    obtain ⟨es1, ck1, hk1⟩ := H1.out.k.block
    have hK1 := (Array.getElem?_eq_some_iff.1 hk1).1
    have hbK : b ≠ K := ne_map hb1.out hk1
    clear hk1
    go_wp2_with fail
    refine wp_region_vals (a1 := ?a1r4) (G4 K (U ++ [f]) w1) [.pointer (some ⟨M, 0, none⟩), .pointer (some ⟨M, 0, none⟩), .pointer (some ⟨M, 1, none⟩), .map (some K), .agg X, .int .u16 (U.length : Nat), undef] 64 rfl (by kernel_rfl) (by kernel_rfl) (fun w2 hb2 _ s hs => ⟨(Far.refl _ _).below hb2, fun _ => hb2.block K hK1, fun c => by rw [hs 6] at c; cases c⟩) ⟨?o0r4, ?o1r4, ?o2r4, ?o3r4, ?o4r4, ?o5r4, ?o6r4, trivial⟩ ?har4 ?hdoner4
    case har4 => simp [putAll, Act.put]; exact rfl
    case o0r4 => exact ValOp.pure (g4_steady _ _ _ hK1 0 (by decide)) [(0, .pointer (some ⟨M, 0, none⟩))] rfl (fun _ _ h2 => ⟨(h2 0 (by kernel_rfl)).trans rfl, trivial⟩) (by kernel_rfl) (fun _ _ _ _ _ => by kernel_rfl)
    case o1r4 => exact ValOp.pure (g4_steady _ _ _ hK1 1 (by decide)) [(26, .pointer (some ⟨M, 0, none⟩))] rfl (fun _ h1 _ => ⟨h1 0 26 (by kernel_rfl), trivial⟩) (by kernel_rfl) (fun _ _ _ _ _ => by kernel_rfl)
    case o2r4 => exact ValOp.pure (g4_steady _ _ _ hK1 2 (by decide)) [(27, .pointer (some ⟨M, 0, none⟩))] rfl (fun _ h1 _ => ⟨h1 1 27 (by kernel_rfl), trivial⟩) (by kernel_rfl) (fun _ _ _ _ _ => by kernel_rfl)
    case o3r4 => exact ValOp.pure (g4_steady _ _ _ hK1 3 (by decide)) [(28, .pointer (some ⟨M, 1, none⟩))] rfl (fun _ h1 _ => ⟨h1 2 28 (by kernel_rfl), trivial⟩) (by kernel_rfl) (fun _ _ _ hg _ => run_read rfl rfl (run_cell ((hg.1.block M hM1 hMK).trans H1.out.m) rfl (isAgg98 _)))
    case o4r4 => exact ValOp.pure (g4_steady _ _ _ hK1 4 (by decide)) [(3, .pointer (some ⟨b, 0, none⟩))] rfl (fun _ _ h2 => ⟨(h2 3 (by kernel_rfl)).trans rfl, trivial⟩) (by kernel_rfl) (fun _ _ _ hg _ => run_read rfl rfl (run_loadVar_row _ _ _ _ _ _ _ ((hg.1.block b hbl1 hbK).trans hb1.out) Try.underlying72 rfl (by rw [hX]; kernel_rfl)))
    case o5r4 => exact ValOp.pure (g4_steady _ _ _ hK1 5 (by decide)) [(4, .int .u16 (U.length : Nat))] rfl (fun _ _ h2 => ⟨(h2 4 (by kernel_rfl)).trans rfl, trivial⟩) (by kernel_rfl) (fun _ _ _ _ _ => by kernel_rfl)
    case o6r4 => exact ⟨true, rfl, fun h => (by cases h), fun _ a w s hs hg _ h1 h2 K' hK => by
      obtain ⟨w2, hr2, hM2, hG2⟩ := HP.out w (H1.out.k.same (hg.2.1 hs)) (by omega)
      exact wp_mapUpdate_gen [(29, .map (some K)), (30, .agg X), (31, .int .u16 (U.length : Nat))] ⟨h1 3 29 (by kernel_rfl), h1 4 30 (by kernel_rfl), h1 5 31 (by kernel_rfl), trivial⟩ (by kernel_rfl) rfl rfl rfl rfl rfl hr2 (hK.out w2 ⟨hg.1.grown hG2 (fun k hk => by simpa using hk.symm), fun c => (by simp [mark] at c), fun _ => hM2⟩)⟩
    case hdoner4 =>
      intro w2 s2 hs2 hg2
      obtain ⟨F2, -, m2⟩ := hg2
      have m2 := m2 (hs2 6 (by decide))
      have hKB : ∀ (k : Nat) cs tt, w1.heap[k]? = some (Obj.cells cs tt (0, 0)) → w2.heap[k]? = some (Obj.cells cs tt (0, 0)) := fun k cs tt hk => by
        refine (F2.block k (Array.getElem?_eq_some_iff.1 hk).1 fun q => ?_).trans hk
        obtain ⟨es, ck, hkk⟩ := H1.out.k.block
        exact ne_map hk hkk q
      have hKO : ∀ e sz v n xs, w1.ownsRow B e sz v n xs → w2.ownsRow B e sz v n xs := fun e sz v n xs ho => owns_same ho fun k hk => by
        obtain ⟨_, cur, hc⟩ := own_in ho hk
        exact (hKB k _ _ hc).trans hc.symm
      have M2 : Hid (Mk' w2 B M T K pv uv U P) := ⟨Nat.le_trans H1.out.size F2.size, hKB _ _ _ H1.out.m, hKB _ _ _ H1.out.t, hKO _ _ _ _ _ H1.out.p, hKO _ _ _ _ _ H1.out.u⟩
      have hb2 : Hid (w2.heap[b]? = some (.cells X 72 (0, 0))) := hKB _ _ _ hb1.out
      have B2 : Hid (Below B w w2) := (B1.out.mono (by have := H.out.size; have := hbx.out; omega)).trans (F2.toBelow H1.out.size (fun k hk => by rw [hk]; exact H1.out.bK))
      have m2 : Hid (MapU w2 K (U ++ [f])) := m2
      clear hKB hKO F2 hs2
      go_wp2_with fail
      refine add_R5 B M T K b pv uv U P X hX h1c _ _ w2 M2.out hb2.out hub.out (by omega) ⟨rfl, rfl, rfl, rfl, rfl, trivial⟩ ?_
      rintro a3 w3 at3 F3 ⟨uv', t3, u3⟩
      have hKF : ∀ (k : Nat) cs (tt : TypeId), tt ≠ 72 → k ≠ T → w2.heap[k]? = some (Obj.cells cs tt (0, 0)) → w3.heap[k]? = some (Obj.cells cs tt (0, 0)) := fun k cs tt htt hkT hk => by
        refine (F3.block k (Array.getElem?_eq_some_iff.1 hk).1 fun q => ?_).trans hk
        rcases q with q | q
        · exact hkT q
        · obtain ⟨_, cur, hc⟩ := own_in M2.out.u q
          exact ne_tag hk hc htt rfl
      have hMT : M ≠ T := ne_tag M2.out.m M2.out.t (by decide)
      have hp3 : w3.ownsRow B 70 1 pv P.length (celP P) := owns_same M2.out.p fun k hk => by
        obtain ⟨_, cur, hc⟩ := own_in M2.out.p hk
        exact (hKF k _ _ (by decide) (ne_tag hc M2.out.t (by decide)) hc).trans hc.symm
      have m3 : Hid (MapU w3 K (U ++ [f])) := m2.out.same (by
        obtain ⟨es, ck, hkk⟩ := m2.out.block
        refine F3.block K (Array.getElem?_eq_some_iff.1 hkk).1 fun q => ?_
        rcases q with q | q
        · exact ne_map M2.out.t hkk q.symm
        · obtain ⟨_, cur, hc⟩ := own_in M2.out.u q
          exact ne_map hc hkk rfl)
      have M3 : Hid (Mk' w3 B M T K pv uv' (U ++ [f]) P) := ⟨Nat.le_trans M2.out.size F3.size, hKF _ _ _ (by decide) hMT M2.out.m, t3, hp3, by rw [HU.out, List.length_append]; exact u3⟩
      have B3 : Hid (Below B w w3) := B2.out.trans (F3.toBelow M2.out.size (fun k hk => by
        rcases hk with rfl | hk
        · exact H1.out.bT
        · exact (own_in M2.out.u hk).1))
      have b1 := H1.out.bM
      have b2 := H1.out.bT
      have b3 := H1.out.bK
      clear hKF hMT hp3 F3 t3 u3 M2 H1 H0 H HP HL
      obtain ⟨f3, rfl, s0, s3, s4, -⟩ := at3.lit
      go_wp2_with fail
      refine add_R6 B M T K b pv uv' (U ++ [f]) P _ _ w3 M3.out hl ⟨rfl, rfl, rfl, rfl, rfl, trivial⟩ ?_
      rintro a4 w4 at4 F4 ⟨pv', t4, p4⟩
      have HB : Below B w w4 := B3.out.trans (F4.toBelow M3.out.size (fun k hk => by
        rcases hk with rfl | hk
        · exact b2
        · exact (own_in M3.out.p hk).1))
      obtain ⟨es, ck, hk3⟩ := m3.out.block
      refine bodyPost_end (v := .tuple #[]) (results_none rfl _ _ _) at4.defers ⟨rfl, HB, pv', uv', b1, b2, b3, ?_, t4, ?_, ?_, ?_⟩
      · refine (F4.block M (Array.getElem?_eq_some_iff.1 M3.out.m).1 (fun q => ?_)).trans M3.out.m
        rcases q with q | q
        · exact ne_tag M3.out.m M3.out.t (by decide) q
        · obtain ⟨_, cur, hc⟩ := own_in M3.out.p q
          exact ne_tag M3.out.m hc (by decide) rfl
      · rw [celP_snoc, List.length_append]
        exact p4
      · refine owns_same M3.out.u fun k hk => ?_
        obtain ⟨_, cur, hc⟩ := own_in M3.out.u hk
        refine F4.block k (Array.getElem?_eq_some_iff.1 hc).1 fun q => ?_
        rcases q with q | q
        · exact ne_tag hc M3.out.t (by decide) q
        · obtain ⟨_, cur', hc'⟩ := own_in M3.out.p q
          exact ne_tag hc hc' (by decide) rfl
      · refine m3.out.same (F4.block K (Array.getElem?_eq_some_iff.1 hk3).1 fun q => ?_)
        rcases q with q | q
        · exact ne_map M3.out.t hk3 q.symm
        · obtain ⟨_, cur', hc'⟩ := own_in M3.out.p q
          exact ne_map hc' hk3 rfl
end Go.Proofs.Ytookbgmolggohaa
