/-
  The contracts of a block's swap and of the copy of unlike blocks. Conditions: the numbers fit two bytes.
-/
import Derived.Test.YtookbgmolggohabMa
import Derived.BigQuiet
import Derived.Deep.QuietTactic
namespace Go.Proofs.Ytookbgmolggohab
open Go.RowKit
/-- The first N cells of a block of the program's are these numbers. -/
def CelU (w : World) (g N : Nat) (h : Nat → Int) : Prop := ∃ cur : Array Value, w.heap[g]? = some (.cells cur 102 (0, 0)) ∧ ∀ i, i < N → cur[i]? = some (.int .u16 (h i))
theorem CelU.cell {w : World} {g N : Nat} {h : Nat → Int} (hc : CelU w g N h) {i : Nat} (hi : i < N) : w.cell? ⟨g, i, none⟩ = some (.int .u16 (h i)) ∧ w.frozen? ⟨g, i, none⟩ = false := by
  obtain ⟨cur, h1, h2⟩ := hc
  exact ⟨by rw [cell_of_row w g i cur 102 (0, 0) h1]; exact h2 i hi, by simp [World.frozen?, h1]⟩
theorem CelU.lt {w : World} {g N : Nat} {h : Nat → Int} (hc : CelU w g N h) : g < w.heap.size := by
  obtain ⟨cur, h1, h2⟩ := hc
  exact (Array.getElem?_eq_some_iff.1 h1).1
theorem CelU.same {w w' : World} {g N : Nat} {h : Nat → Int} (hc : CelU w g N h) (hs : w'.heap[g]? = w.heap[g]?) : CelU w' g N h := by
  obtain ⟨cur, h1, h2⟩ := hc
  exact ⟨cur, hs.trans h1, h2⟩
theorem CelU.below {w w' : World} {g N : Nat} {h : Nat → Int} (hc : CelU w g N h) (hb : Below w.heap.size w w') : CelU w' g N h := hc.same (hb.block g hc.lt)
theorem CelU.congr {w : World} {g N : Nat} {h h' : Nat → Int} (hc : CelU w g N h) (he : ∀ i, i < N → h i = h' i) : CelU w g N h' := by
  obtain ⟨cur, h1, h2⟩ := hc
  exact ⟨cur, h1, fun i hi => by rw [h2 i hi, he i hi]⟩
theorem CelU.set {w : World} {g N : Nat} {h : Nat → Int} (hc : CelU w g N h) {i : Nat} (hi : i < N) (v : Int) : CelU (w.setCell ⟨g, i, none⟩ (.int .u16 v)) g N (fun j => if j = i then v else h j) := by
  obtain ⟨cur, h1, h2⟩ := hc
  have hcs : i < cur.size := (Array.getElem?_eq_some_iff.1 (h2 i hi)).1
  refine ⟨_, set_at _ h1, fun j hj => ?_⟩
  by_cases c : j = i
  · subst c; simp [hcs]
  · simp only [if_neg c]
    rw [Array.getElem?_setIfInBounds_ne (fun e => c e.symm)]
    exact h2 j hj
/-- t in the place of f. -/
def sw1 (f t x : Int) : Int := if x = f then t else x
set_option maxRecDepth 100000 in
set_option maxHeartbeats 2000000 in
theorem bswap_any (g off N : Nat) (h : Nat → Int) (f t : Int) (w : World) (hc : CelU w g N h) (hN : off + 128 ≤ N) : Calls Try.prog 61 #[.pointer (some ⟨g, off, none⟩), .int .u16 f, .int .u16 t] w fun e w' => e = .returned (.tuple #[]) ∧ Far (fun k => k = g) w w' ∧ CelU w' g N (fun i => if off ≤ i ∧ i < off + 128 then sw1 f t (h i) else h i) := by
  have HC : Hid (CelU w g N h) := hc
  clear hc
  go_enter Try.func61, Try.ntmps61
  go_wp2_with fail
  go_loopw [9] (fun y wr => ∃ j : Nat, j ≤ 128 ∧ y = .int .i64 (j : Nat) ∧ Hid (Far (fun k => k = g) w wr) ∧ Hid (CelU wr g N (fun i => if off ≤ i ∧ i < off + j then sw1 f t (h i) else h i))) (fun y _ => (128 - (intOf y).toNat : Nat))
  case atStart => exact ⟨0, by omega, rfl, Far.refl _ _, HC.out.congr fun i _ => by rw [if_neg (by omega)]⟩
  case round =>
    obtain ⟨j, hj, rfl, hF, hC⟩ := hrel
    by_cases hjl : j < 128
    · have jl : (j : Int) < 128 := by omega
      have j3 : ¬ 128 ≤ j := by omega
      obtain ⟨c1, z1⟩ := hC.out.cell (i := off + j) (by omega)
      rw [if_neg (by omega)] at c1
      have hS : ∀ m, Hid (CelU ((wr.drewN m).setCell ⟨g, off + j, none⟩ (.int .u16 t)) g N (fun i => if i = off + j then t else if off ≤ i ∧ i < off + j then sw1 f t (h i) else h i)) := fun m => CelU.set (hC.out.same (w' := wr.drewN m) rfl) (by omega) t
      have hC2 : ∀ m, Hid (CelU (wr.drewN m) g N (fun i => if off ≤ i ∧ i < off + j then sw1 f t (h i) else h i)) := fun m => hC.out.same rfl
      have hF2 : ∀ m, Hid (Far (fun k => k = g) w (wr.drewN m)) := fun m => hF.out.below (below_drew m (Below.refl _ _))
      generalize hx : h (off + j) = x at *
      by_cases hxf : x = f
      · have hxd : (x == f) = true := by simpa using hxf
        have hE : Hid (∀ i, i < N → (if i = off + j then t else if off ≤ i ∧ i < off + j then sw1 f t (h i) else h i) = (if off ≤ i ∧ i < off + (j + 1) then sw1 f t (h i) else h i)) := fun i _ => by
          by_cases c : i = off + j
          · subst c; rw [if_pos rfl, if_pos (by omega), sw1, hx, if_pos hxf]
          · rw [if_neg c]
            by_cases c2 : off ≤ i ∧ i < off + j
            · rw [if_pos c2, if_pos (by omega)]
            · rw [if_neg c2, if_neg (by omega)]
        clear hxf hx hF hC
        go_wp2_with fail
        go_quiet (fail)
        go_wp2
        refine ⟨⟨j + 1, by omega, by go_num, (hF2 _).out.set rfl, (hS _).out.congr hE.out⟩, by simp [intOf]; omega⟩
      · have hxd : (x == f) = false := by simpa using hxf
        have hE : Hid (∀ i, i < N → (if off ≤ i ∧ i < off + j then sw1 f t (h i) else h i) = (if off ≤ i ∧ i < off + (j + 1) then sw1 f t (h i) else h i)) := fun i _ => by
          by_cases c : i = off + j
          · subst c; rw [if_neg (by omega), if_pos (by omega), sw1, hx, if_neg hxf]
          · by_cases c2 : off ≤ i ∧ i < off + j
            · rw [if_pos c2, if_pos (by omega)]
            · rw [if_neg c2, if_neg (by omega)]
        clear hxf hx hF hC hS
        go_wp2_with fail
        go_quiet (fail)
        go_wp2
        refine ⟨⟨j + 1, by omega, by go_num, hF2 _, (hC2 _).out.congr hE.out⟩, by simp [intOf]; omega⟩
    · have hjj : j = 128 := by omega
      subst hjj
      go_wp2
      refine bodyPost_end (v := .tuple #[]) (results_none rfl _ _ _) rfl ⟨rfl, hF.out, hC.out⟩
theorem celU_one (U : List (Nat → Int)) : ∀ u ∈ celU U, u.oneCell' = true := fun u hu => by
  simp only [celU, List.mem_flatMap] at hu
  obtain ⟨f, _, hf⟩ := hu
  simp only [rowOf, Array.mem_toList_iff, Array.mem_ofFn] at hf
  obtain ⟨i, rfl⟩ := hf
  rfl
theorem eql98 (p : Addr) (n c : Nat) (w : World) : (binOp .eql 98 (.slice (some p) n c) (.slice none 0 0)).run Try.prog w = .ok (.bool false) w := by kernel_rfl
attribute [local go_sem] eql98
set_option maxRecDepth 100000 in
set_option maxHeartbeats 1000000 in
theorem clone_any (ug uc : Nat) (U : List (Nat → Int)) (w : World) (hl : U.length ≤ 8704) (h : ∀ i f, U[i]? = some f → ∀ j, j < 128 → w.cell? ⟨ug, i * 128 + j, none⟩ = some (.int .u16 (f j))) (hg : ug < w.heap.size) : Calls Try.prog 60 #[.slice (some ⟨ug, 0, none⟩) U.length uc] w fun e w' => ∃ v, e = .returned v ∧ w'.ownsRow w.heap.size 102 128 v U.length (celU U) ∧ Below w.heap.size w w' := by
  obtain ⟨i0, hi, hz0, hz1, hz2⟩ := info_parts info72
  have B0 : Hid (Below w.heap.size w (w.alloc (.cells #[] 102))) := (Below.refl _ _).alloc (Nat.le_refl _) _
  have O0 : Hid ((w.alloc (.cells #[] 102)).ownsRow w.heap.size 102 128 (.slice (some ⟨w.heap.size, 0, none⟩) 0 0) 0 []) := own_none w _ 102 128 (Nat.le_refl _)
  have HN : Hid (∀ (j : Nat) (u : Value), (celU U)[j]? = some u → (w.alloc (.cells #[] 102)).cell? ((⟨ug, 0, none⟩ : Addr).add j) = some u) := fun j u hu => by
    have hj := (List.getElem?_eq_some_iff.1 hu).1
    rw [celU_len] at hj
    have hq : j / 128 < U.length := by omega
    have h1 := celU_get U (j / 128) (j % 128) U[j / 128] (by simp [hq]) (by omega)
    rw [show j / 128 * 128 + j % 128 = j by omega, hu] at h1
    cases h1
    rw [Go.WideShapes.add_plain, Nat.zero_add, (B0.out.cell (p := ⟨ug, j, none⟩) hg)]
    have h2 := h (j / 128) U[j / 128] (by simp [hq]) (j % 128) (by omega)
    rwa [show j / 128 * 128 + j % 128 = j by omega] at h2
  have hlen : (celU U).length = U.length * 128 := celU_len U
  have h1c : Hid (∀ u ∈ celU U, u.oneCell' = true) := celU_one U
  clear h
  generalize hcu : celU U = X at *
  replace hcu : Hid (celU U = X) := hcu
  go_enter Try.func60, Try.ntmps60
  go_wp2_with (at_builtin; refine wpList_append_own_at _ rfl _ _ 98 rfl w.heap.size 102 i0 _ 128 256 Try.underlying98 hi hz0 hz1 hz2 (by kernel_rfl) (by decide) _ _ _ rfl O0.out ⟨ug, 0, none⟩ U.length uc X rfl hlen HN.out h1c.out ?h3 ?h4 ?h5 ?h6)
  case h3 => unfold maxLen; omega
  case h4 => omega
  case h5 => simp
  case h6 =>
    intro v' w' hown hgrow _ _
    have O2 : Hid (w'.ownsRow w.heap.size 102 128 v' U.length X) := hown
    have B2 : Hid (Below w.heap.size w w') := B0.out.grown hgrow (by simp) (fun k hk => by cases hk; exact Nat.le_refl _)
    clear hown hgrow O0 B0 HN h1c
    go_wp2
    go_ret
    exact ⟨_, rfl, O2.out, B2.out⟩
end Go.Proofs.Ytookbgmolggohab
