/-
  A row of the call's own, overwritten from end to end: what lies in no block of the rows stays as it was.
-/
import Derived.Test.YtddoanmhikldiabMm
import Derived.Deep.LoopGhost
namespace Go.Proofs.Ytddoanmhikldiab
open Go.RowKit
theorem Far.set {S : Nat → Prop} {w w' : World} (h : Far S w w') (g o : Nat) (v : Value) (hs : S g ∨ w.heap.size ≤ g) : Far S w (w'.setCell ⟨g, o, none⟩ v) :=
  ⟨h.os, h.tape, h.output, by rw [World.size_setCell]; exact h.size, fun k hk hn => (heap_setCell_other w' ⟨g, o, none⟩ k v (fun e => by
    have e : k = g := e
    subst e
    rcases hs with hs | hs
    · exact hn hs
    · omega)).trans (h.block k hk hn)⟩
theorem isOwn.set {n : Nat} {ok : Nat → Prop} {u : Value} {w : World} (h : isOwn n ok u w) (g o : Nat) (v : Value) : isOwn n ok u (w.setCell ⟨g, o, none⟩ v) := by
  obtain ⟨g', cap, cur, h1, h2, h3, h4, h5⟩ := h
  by_cases c : g' = g
  · subst c
    exact ⟨g', cap, _, h1, set_at v h2, by simpa using h3, h4, h5⟩
  · exact ⟨g', cap, cur, h1, (heap_setCell_other w ⟨g, o, none⟩ g' v c).trans h2, h3, h4, h5⟩
theorem row_cells {w : World} {g n k : Nat} {cur : Array Value} (h : w.heap[g]? = some (.cells cur 41 (0, 0))) (hn : n * 2 ≤ cur.size) (hk : k < n) : ∃ u1 u2, w.cell? ⟨g, k * 2, none⟩ = some u1 ∧ w.cell? ⟨g, k * 2 + 1, none⟩ = some u2 ∧ w.frozen? ⟨g, k * 2, none⟩ = false ∧ w.frozen? ⟨g, k * 2 + 1, none⟩ = false := by
  refine ⟨cur[k * 2]'(by omega), cur[k * 2 + 1]'(by omega), ?_, ?_, ?_, ?_⟩
  · rw [cell_of_row w g (k * 2) cur 41 (0, 0) h]; exact Array.getElem?_eq_getElem _
  · rw [cell_of_row w g (k * 2 + 1) cur 41 (0, 0) h]; exact Array.getElem?_eq_getElem _
  · simp [World.frozen?, h]
  · simp [World.frozen?, h]
set_option maxRecDepth 100000 in
set_option maxHeartbeats 2000000 in
theorem mem_L7 {Q : Exit → Act → World → Prop} (T : Nat → Prop) (k1 k2 k3 : Nat → Prop) (n1 n2 n3 : Nat) (vx vr vv va vb v5 v6 vy vz vm vn : Value) (gm : Nat) (a : Act) (w0 w : World) (hf : Far T w0 w) (hx : isOwn n1 k1 vx w) (hr : isOwn n2 k2 vr w) (hv : isOwn n3 k3 vv w) (hk : ∀ g, k1 g → T g ∨ w0.heap.size ≤ g)
    (hm : w0.heap[gm]? = some (.cells #[.int .i32 (-9), .int .i32 (-9)] 41 (0, 0))) (hmS : ¬ T gm) (hn : n1 ≤ 1000001)
    (hK : Hid (∀ a w', Far T w0 w' → isOwn n1 k1 vx w' → isOwn n2 k2 vr w' → isOwn n3 k3 vv w' → At 139 [(0, va), (1, vb), (5, v5), (6, v6), (7, vx), (10, vy), (12, vz), (14, vr), (17, vv), (19, vm), (20, vn), (21, .pointer (some ⟨gm, 0, none⟩))] a → Code.wp Try.prog (sq 12 body4) Q a w')) (ha : At 139 [(0, va), (1, vb), (5, v5), (6, v6), (7, vx), (10, vy), (12, vz), (14, vr), (17, vv), (19, vm), (20, vn), (21, .pointer (some ⟨gm, 0, none⟩))] a) : Code.wp Try.prog (sq 11 body4) Q a w := by
  have HF : Hid (Far T w0 w) := hf
  have HX : Hid (isOwn n1 k1 vx w) := hx
  have HR : Hid (isOwn n2 k2 vr w) := hr
  have HV : Hid (isOwn n3 k3 vv w) := hv
  have HM : Hid (∀ w', Far T w0 w' → w'.heap[gm]? = some (.cells #[.int .i32 (-9), .int .i32 (-9)] 41 (0, 0))) := fun w' h => (h.block gm (Array.getElem?_eq_some_iff.1 hm).1 hmS).trans hm
  have HO : Hid (∀ g, k1 g → T g ∨ w0.heap.size ≤ g) := hk
  obtain ⟨g, cap, _, hu, _, _, hcap, hok⟩ := hx
  have HG : Hid (T g ∨ w0.heap.size ≤ g) := hk g hok
  have HU : Hid (vx = .slice (some ⟨g, 0, none⟩) n1 cap) := hu
  clear hf hr hv hm hmS hk
  obtain ⟨f, rfl, h0, h1, h5, h6, h7, h10, h12, h14, h17, h19, h20, h21, -⟩ := ha.lit
  change Code.wp _ _ _ ⟨#[f 0, f 1, f 2, f 3, f 4, f 5, f 6, f 7, f 8, f 9, f 10, f 11, f 12, f 13, f 14, f 15, f 16, f 17, f 18, f 19, f 20, f 21, f 22, f 23, f 24, f 25, f 26, f 27, f 28, f 29, f 30, f 31, f 32, f 33, f 34, f 35, f 36, f 37, f 38, f 39, f 40, f 41, f 42, f 43, f 44, f 45, f 46, f 47, f 48, f 49, f 50, f 51, f 52, f 53, f 54, f 55, f 56, f 57, f 58, f 59, f 60, f 61, f 62, f 63, f 64, f 65, f 66, f 67, f 68, f 69, f 70, f 71, f 72, f 73, f 74, f 75, f 76, f 77, f 78, f 79, f 80, f 81, f 82, f 83, f 84, f 85, f 86, f 87, f 88, f 89, f 90, f 91, f 92, f 93, f 94, f 95, f 96, f 97, f 98, f 99, f 100, f 101, f 102, f 103, f 104, f 105, f 106, f 107, f 108, f 109, f 110, f 111, f 112, f 113, f 114, f 115, f 116, f 117, f 118, f 119, f 120, f 121, f 122, f 123, f 124, f 125, f 126, f 127, f 128, f 129, f 130, f 131, f 132, f 133, f 134, f 135, f 136, f 137, f 138], []⟩ _
  simp only at h0 h1 h5 h6 h7 h10 h12 h14 h17 h19 h20 h21
  simp only [h0, h1, h5, h6, h7, h10, h12, h14, h17, h19, h20, h21]
  clear h0 h1 h5 h6 h7 h10 h12 h14 h17 h19 h20 h21
  change Code.wp _ (Code.seq (hd (sq 11 body4)) (sq 12 body4)) _ _ _
  generalize sq 12 body4 = REST at hK ⊢
  conv => arg 2; arg 1; whnf
  rw [hu]
  go_wp2_with fail
  go_loopw [22] (fun y wr => ∃ k : Nat, k ≤ n1 ∧ y = .int .i64 (k : Nat) ∧ Hid (Far T w0 wr) ∧ Hid (isOwn n1 k1 vx wr) ∧ Hid (isOwn n2 k2 vr wr) ∧ Hid (isOwn n3 k3 vv wr)) (fun y _ => (n1 - (intOf y).toNat : Nat))
  case atStart => exact ⟨0, Nat.zero_le _, rfl, HF, HX, HR, HV⟩
  case round =>
    obtain ⟨k, hkn, rfl, F1, X1, R1, V1⟩ := hrel
    by_cases hkl : k < n1
    · have kl : (k : Int) < (n1 : Int) := by omega
      obtain ⟨g', cap', cur, e1, e2, e3, -⟩ := X1.out
      obtain ⟨rfl, rfl⟩ : g = g' ∧ cap = cap' := by rw [HU.out] at e1; simpa using e1
      obtain ⟨u1, u2, c1, c2, z1, z2⟩ := row_cells e2 e3 hkl
      have hc := HM.out wr F1.out
      have m1 : wr.cell? ⟨gm, 0, none⟩ = some (.int .i32 (-9)) := (cell_of_row wr gm 0 _ 41 (0, 0) hc).trans rfl
      have m2 : wr.cell? ⟨gm, 1, none⟩ = some (.int .i32 (-9)) := (cell_of_row wr gm 1 _ 41 (0, 0) hc).trans rfl
      clear e1 e2 e3 hc
      go_wp2
      refine ⟨⟨k + 1, by omega, by go_num, (F1.out.set g _ _ HG.out).set g _ _ HG.out, (X1.out.set g _ _).set g _ _, (R1.out.set g _ _).set g _ _, (V1.out.set g _ _).set g _ _⟩, by simp [intOf]; omega⟩
    · have hkk : k = n1 := by omega
      subst hkk
      go_wp2
      exact hK.out _ _ F1.out X1.out R1.out V1.out ⟨rfl, rfl, rfl, rfl, rfl, rfl, HU.out ▸ rfl, rfl, rfl, rfl, rfl, rfl, rfl, rfl, trivial⟩
set_option maxRecDepth 100000 in
set_option maxHeartbeats 2000000 in
theorem mem_L14 {Q : Exit → Act → World → Prop} (T : Nat → Prop) (k1 k2 k3 : Nat → Prop) (n1 n2 n3 : Nat) (vx vr vv va vb v5 v6 vy vz vm vn : Value) (gm : Nat) (a : Act) (w0 w : World) (hf : Far T w0 w) (hx : isOwn n1 k1 vx w) (hr : isOwn n2 k2 vr w) (hv : isOwn n3 k3 vv w) (hk : ∀ g, k2 g → T g ∨ w0.heap.size ≤ g)
    (hm : w0.heap[gm]? = some (.cells #[.int .i32 (-9), .int .i32 (-9)] 41 (0, 0))) (hmS : ¬ T gm) (hn : n2 ≤ 1000001)
    (hK : Hid (∀ a w', Far T w0 w' → isOwn n1 k1 vx w' → isOwn n2 k2 vr w' → isOwn n3 k3 vv w' → At 139 [(0, va), (1, vb), (5, v5), (6, v6), (7, vx), (10, vy), (12, vz), (14, vr), (17, vv), (19, vm), (20, vn), (21, .pointer (some ⟨gm, 0, none⟩))] a → Code.wp Try.prog (sq 13 body4) Q a w')) (ha : At 139 [(0, va), (1, vb), (5, v5), (6, v6), (7, vx), (10, vy), (12, vz), (14, vr), (17, vv), (19, vm), (20, vn), (21, .pointer (some ⟨gm, 0, none⟩))] a) : Code.wp Try.prog (sq 12 body4) Q a w := by
  have HF : Hid (Far T w0 w) := hf
  have HX : Hid (isOwn n1 k1 vx w) := hx
  have HR : Hid (isOwn n2 k2 vr w) := hr
  have HV : Hid (isOwn n3 k3 vv w) := hv
  have HM : Hid (∀ w', Far T w0 w' → w'.heap[gm]? = some (.cells #[.int .i32 (-9), .int .i32 (-9)] 41 (0, 0))) := fun w' h => (h.block gm (Array.getElem?_eq_some_iff.1 hm).1 hmS).trans hm
  have HO : Hid (∀ g, k2 g → T g ∨ w0.heap.size ≤ g) := hk
  obtain ⟨g, cap, _, hu, _, _, hcap, hok⟩ := hr
  have HG : Hid (T g ∨ w0.heap.size ≤ g) := hk g hok
  have HU : Hid (vr = .slice (some ⟨g, 0, none⟩) n2 cap) := hu
  clear hf hx hv hm hmS hk
  obtain ⟨f, rfl, h0, h1, h5, h6, h7, h10, h12, h14, h17, h19, h20, h21, -⟩ := ha.lit
  change Code.wp _ _ _ ⟨#[f 0, f 1, f 2, f 3, f 4, f 5, f 6, f 7, f 8, f 9, f 10, f 11, f 12, f 13, f 14, f 15, f 16, f 17, f 18, f 19, f 20, f 21, f 22, f 23, f 24, f 25, f 26, f 27, f 28, f 29, f 30, f 31, f 32, f 33, f 34, f 35, f 36, f 37, f 38, f 39, f 40, f 41, f 42, f 43, f 44, f 45, f 46, f 47, f 48, f 49, f 50, f 51, f 52, f 53, f 54, f 55, f 56, f 57, f 58, f 59, f 60, f 61, f 62, f 63, f 64, f 65, f 66, f 67, f 68, f 69, f 70, f 71, f 72, f 73, f 74, f 75, f 76, f 77, f 78, f 79, f 80, f 81, f 82, f 83, f 84, f 85, f 86, f 87, f 88, f 89, f 90, f 91, f 92, f 93, f 94, f 95, f 96, f 97, f 98, f 99, f 100, f 101, f 102, f 103, f 104, f 105, f 106, f 107, f 108, f 109, f 110, f 111, f 112, f 113, f 114, f 115, f 116, f 117, f 118, f 119, f 120, f 121, f 122, f 123, f 124, f 125, f 126, f 127, f 128, f 129, f 130, f 131, f 132, f 133, f 134, f 135, f 136, f 137, f 138], []⟩ _
  simp only at h0 h1 h5 h6 h7 h10 h12 h14 h17 h19 h20 h21
  simp only [h0, h1, h5, h6, h7, h10, h12, h14, h17, h19, h20, h21]
  clear h0 h1 h5 h6 h7 h10 h12 h14 h17 h19 h20 h21
  change Code.wp _ (Code.seq (hd (sq 12 body4)) (sq 13 body4)) _ _ _
  generalize sq 13 body4 = REST at hK ⊢
  conv => arg 2; arg 1; whnf
  rw [hu]
  go_wp2_with fail
  go_loopw [23] (fun y wr => ∃ k : Nat, k ≤ n2 ∧ y = .int .i64 (k : Nat) ∧ Hid (Far T w0 wr) ∧ Hid (isOwn n1 k1 vx wr) ∧ Hid (isOwn n2 k2 vr wr) ∧ Hid (isOwn n3 k3 vv wr)) (fun y _ => (n2 - (intOf y).toNat : Nat))
  case atStart => exact ⟨0, Nat.zero_le _, rfl, HF, HX, HR, HV⟩
  case round =>
    obtain ⟨k, hkn, rfl, F1, X1, R1, V1⟩ := hrel
    by_cases hkl : k < n2
    · have kl : (k : Int) < (n2 : Int) := by omega
      obtain ⟨g', cap', cur, e1, e2, e3, -⟩ := R1.out
      obtain ⟨rfl, rfl⟩ : g = g' ∧ cap = cap' := by rw [HU.out] at e1; simpa using e1
      obtain ⟨u1, u2, c1, c2, z1, z2⟩ := row_cells e2 e3 hkl
      have hc := HM.out wr F1.out
      have m1 : wr.cell? ⟨gm, 0, none⟩ = some (.int .i32 (-9)) := (cell_of_row wr gm 0 _ 41 (0, 0) hc).trans rfl
      have m2 : wr.cell? ⟨gm, 1, none⟩ = some (.int .i32 (-9)) := (cell_of_row wr gm 1 _ 41 (0, 0) hc).trans rfl
      clear e1 e2 e3 hc
      go_wp2
      refine ⟨⟨k + 1, by omega, by go_num, (F1.out.set g _ _ HG.out).set g _ _ HG.out, (X1.out.set g _ _).set g _ _, (R1.out.set g _ _).set g _ _, (V1.out.set g _ _).set g _ _⟩, by simp [intOf]; omega⟩
    · have hkk : k = n2 := by omega
      subst hkk
      go_wp2
      exact hK.out _ _ F1.out X1.out R1.out V1.out ⟨rfl, rfl, rfl, rfl, rfl, rfl, rfl, rfl, rfl, HU.out ▸ rfl, rfl, rfl, rfl, rfl, trivial⟩
set_option maxRecDepth 100000 in
set_option maxHeartbeats 2000000 in
theorem mem_L17 {Q : Exit → Act → World → Prop} (T : Nat → Prop) (k1 k2 k3 : Nat → Prop) (n1 n2 n3 : Nat) (vx vr vv va vb v5 v6 vy vz vm vn : Value) (gm : Nat) (a : Act) (w0 w : World) (hf : Far T w0 w) (hx : isOwn n1 k1 vx w) (hr : isOwn n2 k2 vr w) (hv : isOwn n3 k3 vv w) (hk : ∀ g, k3 g → T g ∨ w0.heap.size ≤ g)
    (hm : w0.heap[gm]? = some (.cells #[.int .i32 (-9), .int .i32 (-9)] 41 (0, 0))) (hmS : ¬ T gm) (hn : n3 ≤ 1000001)
    (hK : Hid (∀ a w', Far T w0 w' → isOwn n1 k1 vx w' → isOwn n2 k2 vr w' → isOwn n3 k3 vv w' → At 139 [(0, va), (1, vb), (5, v5), (6, v6), (7, vx), (10, vy), (12, vz), (14, vr), (17, vv), (19, vm), (20, vn), (21, .pointer (some ⟨gm, 0, none⟩))] a → Code.wp Try.prog (sq 14 body4) Q a w')) (ha : At 139 [(0, va), (1, vb), (5, v5), (6, v6), (7, vx), (10, vy), (12, vz), (14, vr), (17, vv), (19, vm), (20, vn), (21, .pointer (some ⟨gm, 0, none⟩))] a) : Code.wp Try.prog (sq 13 body4) Q a w := by
  have HF : Hid (Far T w0 w) := hf
  have HX : Hid (isOwn n1 k1 vx w) := hx
  have HR : Hid (isOwn n2 k2 vr w) := hr
  have HV : Hid (isOwn n3 k3 vv w) := hv
  have HM : Hid (∀ w', Far T w0 w' → w'.heap[gm]? = some (.cells #[.int .i32 (-9), .int .i32 (-9)] 41 (0, 0))) := fun w' h => (h.block gm (Array.getElem?_eq_some_iff.1 hm).1 hmS).trans hm
  have HO : Hid (∀ g, k3 g → T g ∨ w0.heap.size ≤ g) := hk
  obtain ⟨g, cap, _, hu, _, _, hcap, hok⟩ := hv
  have HG : Hid (T g ∨ w0.heap.size ≤ g) := hk g hok
  have HU : Hid (vv = .slice (some ⟨g, 0, none⟩) n3 cap) := hu
  clear hf hx hr hm hmS hk
  obtain ⟨f, rfl, h0, h1, h5, h6, h7, h10, h12, h14, h17, h19, h20, h21, -⟩ := ha.lit
  change Code.wp _ _ _ ⟨#[f 0, f 1, f 2, f 3, f 4, f 5, f 6, f 7, f 8, f 9, f 10, f 11, f 12, f 13, f 14, f 15, f 16, f 17, f 18, f 19, f 20, f 21, f 22, f 23, f 24, f 25, f 26, f 27, f 28, f 29, f 30, f 31, f 32, f 33, f 34, f 35, f 36, f 37, f 38, f 39, f 40, f 41, f 42, f 43, f 44, f 45, f 46, f 47, f 48, f 49, f 50, f 51, f 52, f 53, f 54, f 55, f 56, f 57, f 58, f 59, f 60, f 61, f 62, f 63, f 64, f 65, f 66, f 67, f 68, f 69, f 70, f 71, f 72, f 73, f 74, f 75, f 76, f 77, f 78, f 79, f 80, f 81, f 82, f 83, f 84, f 85, f 86, f 87, f 88, f 89, f 90, f 91, f 92, f 93, f 94, f 95, f 96, f 97, f 98, f 99, f 100, f 101, f 102, f 103, f 104, f 105, f 106, f 107, f 108, f 109, f 110, f 111, f 112, f 113, f 114, f 115, f 116, f 117, f 118, f 119, f 120, f 121, f 122, f 123, f 124, f 125, f 126, f 127, f 128, f 129, f 130, f 131, f 132, f 133, f 134, f 135, f 136, f 137, f 138], []⟩ _
  simp only at h0 h1 h5 h6 h7 h10 h12 h14 h17 h19 h20 h21
  simp only [h0, h1, h5, h6, h7, h10, h12, h14, h17, h19, h20, h21]
  clear h0 h1 h5 h6 h7 h10 h12 h14 h17 h19 h20 h21
  change Code.wp _ (Code.seq (hd (sq 13 body4)) (sq 14 body4)) _ _ _
  generalize sq 14 body4 = REST at hK ⊢
  conv => arg 2; arg 1; whnf
  rw [hu]
  go_wp2_with fail
  go_loopw [24] (fun y wr => ∃ k : Nat, k ≤ n3 ∧ y = .int .i64 (k : Nat) ∧ Hid (Far T w0 wr) ∧ Hid (isOwn n1 k1 vx wr) ∧ Hid (isOwn n2 k2 vr wr) ∧ Hid (isOwn n3 k3 vv wr)) (fun y _ => (n3 - (intOf y).toNat : Nat))
  case atStart => exact ⟨0, Nat.zero_le _, rfl, HF, HX, HR, HV⟩
  case round =>
    obtain ⟨k, hkn, rfl, F1, X1, R1, V1⟩ := hrel
    by_cases hkl : k < n3
    · have kl : (k : Int) < (n3 : Int) := by omega
      obtain ⟨g', cap', cur, e1, e2, e3, -⟩ := V1.out
      obtain ⟨rfl, rfl⟩ : g = g' ∧ cap = cap' := by rw [HU.out] at e1; simpa using e1
      obtain ⟨u1, u2, c1, c2, z1, z2⟩ := row_cells e2 e3 hkl
      have hc := HM.out wr F1.out
      have m1 : wr.cell? ⟨gm, 0, none⟩ = some (.int .i32 (-9)) := (cell_of_row wr gm 0 _ 41 (0, 0) hc).trans rfl
      have m2 : wr.cell? ⟨gm, 1, none⟩ = some (.int .i32 (-9)) := (cell_of_row wr gm 1 _ 41 (0, 0) hc).trans rfl
      clear e1 e2 e3 hc
      go_wp2
      refine ⟨⟨k + 1, by omega, by go_num, (F1.out.set g _ _ HG.out).set g _ _ HG.out, (X1.out.set g _ _).set g _ _, (R1.out.set g _ _).set g _ _, (V1.out.set g _ _).set g _ _⟩, by simp [intOf]; omega⟩
    · have hkk : k = n3 := by omega
      subst hkk
      go_wp2
      exact hK.out _ _ F1.out X1.out R1.out V1.out ⟨rfl, rfl, rfl, rfl, rfl, rfl, rfl, rfl, rfl, rfl, HU.out ▸ rfl, rfl, rfl, rfl, trivial⟩
end Go.Proofs.Ytddoanmhikldiab
