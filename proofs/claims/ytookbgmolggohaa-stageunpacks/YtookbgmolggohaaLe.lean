/-
  The contracts of the document's Least and Look. Conditions: the rows may be; the list is no longer than 4000000.
-/
import Derived.Test.YtookbgmolggohaaRw
namespace Go.Proofs.Ytookbgmolggohaa
open Go.RowKit
theorem Rd3.kept {k : IntKind} {w w' : World} {v : Value} {L : List Rw} {row : Option Nat} (h : Rd3 k w v L) (hg : w.grownBy w' row) (hn : ∀ g, v.ownBlock = some g → row ≠ some g) : Rd3 k w' v L := by
  obtain ⟨a, c, rfl, hl, hc⟩ := h
  refine ⟨a, c, rfl, hl, fun hp => ?_⟩
  obtain ⟨g, off, rfl, hd⟩ := hc hp
  have hne : some g ≠ row := fun e => hn g rfl e.symm
  exact ⟨g, off, rfl, fun j hj => ⟨hg.cell (hd j hj).1 hne, hg.cell (hd j hj).2.1 hne, hg.cell (hd j hj).2.2 hne⟩⟩
theorem lst_take {R : List Rw} {k : Nat} (hk : k < R.length) : lst (R.take (k + 1)) = lst (R.take k) ++ (if (R.getD k (0, 0, 0)).2.2 != 0 then [R.getD k (0, 0, 0)] else []) := by
  rw [take_snoc3 R k hk, lst_snoc]
set_option maxRecDepth 100000 in
set_option maxHeartbeats 4000000 in
theorem least_any (L : List Rw) (v : Value) (w : World) (hr : Rd3 .i64 w v L) (hok : okF 0 L) (hl : L.length ≤ 4000000) (hlR : (runsL L).length ≤ 9000000) : Calls Try.prog 21 #[v] w fun e w' => ∃ v', e = .returned v' ∧ w'.ownsRow w.heap.size 33 3 v' (lst (runsL L)).length (cel3 .i64 (lst (runsL L))) ∧ Below w.heap.size w w' := by
  obtain ⟨i0, hi, hz0, hz1, hz2⟩ := info_parts info33
  have B0 : Below w.heap.size w (w.alloc (.cells #[] 33)) := (Below.refl _ _).alloc (Nat.le_refl _) _
  have KR : Hid (Calls Try.prog 12 #[v] (w.alloc (.cells #[] 33)) fun e w' => ∃ v', e = .returned v' ∧ w'.ownsRow (w.alloc (.cells #[] 33)).heap.size 33 3 v' (runsL L).length (cel3 .i64 (runsL L)) ∧ Below (w.alloc (.cells #[] 33)).heap.size (w.alloc (.cells #[] 33)) w') := runs_any L v _ (hr.below B0) hok hl
  replace B0 : Hid (Below w.heap.size w (w.alloc (.cells #[] 33))) := B0
  have O0 : Hid ((w.alloc (.cells #[] 33)).ownsRow w.heap.size 33 3 (.slice (some ⟨w.heap.size, 0, none⟩) 0 0) 0 []) := own_none w _ 33 3 (Nat.le_refl _)
  clear hr hok
  go_enter Try.func21, Try.ntmps21
  go_wp2_with (go_at_call 12; refine KR.out.mono ?_)
  first | rintro e wc vs rfl oc bc | rintro e wc ⟨vs, rfl, oc, bc⟩
  have Bc : Hid (Below w.heap.size w wc) := B0.out.trans (bc.mono (by simp))
  have Oc : Hid (wc.ownsRow w.heap.size 33 3 (.slice (some ⟨w.heap.size, 0, none⟩) 0 0) 0 []) := owns_below O0.out bc
  have Rc : Hid (Rd3 .i64 wc vs (runsL L)) := Rd3.of_owns oc
  have hvs : Hid (∀ g, vs.ownBlock = some g → w.heap.size + 1 ≤ g ∧ g < wc.heap.size) := fun g hg => by
    obtain ⟨h1, cur, h2⟩ := own_in oc hg
    have := (Array.getElem?_eq_some_iff.1 h2).1
    simp at h1
    omega
  obtain ⟨av, cv, rfl, -, -⟩ := owns_slice oc
  clear oc bc KR B0 O0
  generalize hRe : runsL L = R at *
  replace hRe : Hid (runsL L = R) := hRe
  go_wp2_with fail
  go_loopw [3, 10] (fun x y wr => ∃ k : Nat, k ≤ R.length ∧ y = .int .i64 (k : Nat) ∧ Hid (wr.ownsRow w.heap.size 33 3 x (lst (R.take k)).length (cel3 .i64 (lst (R.take k)))) ∧ Hid (Below w.heap.size w wr) ∧ Hid (Rd3 .i64 wr (.slice av R.length cv) R) ∧ Hid (x.ownBlock = some w.heap.size ∨ ∃ g, x.ownBlock = some g ∧ wc.heap.size ≤ g) ∧ Hid (wc.heap.size ≤ wr.heap.size)) (fun _ y _ => (R.length - (intOf y).toNat : Nat))
  case atStart => exact ⟨0, Nat.zero_le _, rfl, Oc, Bc, Rc, .inl rfl, Nat.le_refl _⟩
  case round =>
    obtain ⟨k, hk, rfl, hO, hB, hR, hX, hZ⟩ := hrel
    have hbsz := hB.out.size
    clear Oc Bc Rc
    by_cases hkl : k < R.length
    · obtain ⟨a2, c2, e2, -, hc⟩ := hR.out
      obtain ⟨rfl, rfl⟩ : av = a2 ∧ cv = c2 := by simpa using e2
      obtain ⟨g, off, rfl, hd⟩ := hc (by omega)
      obtain ⟨e1, e2', e3⟩ := hd k hkl
      have kl : (k : Int) < (R.length : Int) := by omega
      have hsn := lst_take hkl
      have hll : (lst (R.take k)).length ≤ k := by have := lst_len (R.take k); simp at this; omega
      clear hd hc e2
      generalize R.getD k (0, 0, 0) = s at *
      obtain ⟨x, y, n⟩ := s
      simp only at e1 e2' e3 hsn
      obtain ⟨q1, q2, q3⟩ := box3 wr (.int .i64 x) (.int .i64 y) (.int .i64 n) 33
      have B1 : Hid (Below w.heap.size w (wr.alloc (.cells #[.int .i64 x, .int .i64 y, .int .i64 n] 33))) := hB.out.alloc hbsz _
      have bA : Below wr.heap.size wr (wr.alloc (.cells #[.int .i64 x, .int .i64 y, .int .i64 n] 33)) := (Below.refl _ _).alloc (Nat.le_refl _) _
      have O1 : Hid ((wr.alloc (.cells #[.int .i64 x, .int .i64 y, .int .i64 n] 33)).ownsRow w.heap.size 33 3 u3 (lst (R.take k)).length (cel3 .i64 (lst (R.take k)))) := hO.out.alloc _
      have R1 : Hid (Rd3 .i64 (wr.alloc (.cells #[.int .i64 x, .int .i64 y, .int .i64 n] 33)) (.slice (some ⟨g, off, none⟩) R.length cv) R) := hR.out.below bA
      have Z1 : Hid (wc.heap.size ≤ (wr.alloc (.cells #[.int .i64 x, .int .i64 y, .int .i64 n] 33)).heap.size) := by rw [Hid]; have := hZ.out; simp; omega
      have HLL : Hid ((lst (R.take k)).length ≤ k) := hll
      clear hO hB hR bA hll
      by_cases hn : n = 0
      · have hnd : (n == 0) = true := by simpa using hn
        have hsn2 : Hid (lst (R.take (k + 1)) = lst (R.take k)) := by rw [Hid, hsn, hn]; simp
        clear hsn hn
        go_wp2
        refine ⟨⟨k + 1, by omega, by go_num, by rw [hsn2.out]; exact O1.out, B1, R1, hX, Z1⟩, by simp [intOf]; omega⟩
      · have hnd : (n == 0) = false := by simpa using hn
        have hsn2 : Hid (lst (R.take (k + 1)) = lst (R.take k) ++ [(x, y, n)]) := by rw [Hid, hsn]; simp [hn]
        have hcn : Hid _ := cells_new (wr.alloc (.cells #[.int .i64 x, .int .i64 y, .int .i64 n] 33)) #[.int .i64 x, .int .i64 y, .int .i64 n] 33
        clear hsn hn
        go_wp2_with (at_builtin; refine wpList_append_own_at _ rfl _ _ 25 rfl w.heap.size 33 i0 _ 3 24 Try.underlying25 hi hz0 hz1 hz2 rfl (by decide) _ _ _ rfl (O1.out.alloc _) ⟨_, 0, none⟩ 1 1 [.int .i64 x, .int .i64 y, .int .i64 n] rfl rfl ?h1 ?h2 ?h3 ?h4 ?h5 ?h6)
        case h2 => simp [Value.oneCell']
        case h3 => unfold maxLen; have := HLL.out; omega
        case h4 => have := HLL.out; omega
        case h5 => first | omega | (simp; omega)
        case h6 =>
          intro v' w' hown' hgrow _ hloc
          have O2 : Hid (w'.ownsRow w.heap.size 33 3 v' (lst (R.take (k + 1))).length (cel3 .i64 (lst (R.take (k + 1))))) := by rw [Hid, hsn2.out, cel3_snoc, List.length_append]; exact hown'
          have B2 : Hid (Below w.heap.size w w') := (B1.out.alloc (by have := B1.out.size; simp; omega) _).grown hgrow (by simp; omega) (fun j hj => (O1.out.lt j hj).1)
          have R2 : Hid (Rd3 .i64 w' (.slice (some ⟨g, off, none⟩) R.length cv) R) := Rd3.kept (R1.out.below ((Below.refl _ _).alloc (Nat.le_refl _) _)) hgrow (fun g' hg' e => by
            have h1 := hvs.out g' hg'
            rcases hX.out with h | ⟨g2, h, h'⟩
            · rw [h] at e; cases e; omega
            · rw [h] at e; cases e; omega)
          have X2 : Hid (v'.ownBlock = some w.heap.size ∨ ∃ g, v'.ownBlock = some g ∧ wc.heap.size ≤ g) := by
            rcases hloc with h | h
            · rw [Hid, h]; exact hX.out
            · exact .inr ⟨_, h, by have := Z1.out; simp at this ⊢; omega⟩
          have Z2 : Hid (wc.heap.size ≤ w'.heap.size) := by rw [Hid]; have := hgrow.size; have := Z1.out; simp at *; omega
          clear hown' hgrow hloc O1 B1 R1 Z1 hX hZ q1 q2 q3 hcn e1 e2' e3
          go_wp2
          refine ⟨⟨k + 1, by omega, by go_num, O2, B2, R2, X2, Z2⟩, by simp [intOf]; omega⟩
    · have hkk : k = R.length := by omega
      subst hkk
      have O2 : Hid (wr.ownsRow w.heap.size 33 3 u3 (lst R).length (cel3 .i64 (lst R))) := by
        have := hO.out
        rwa [List.take_length] at this
      go_wp2
      go_ret
      exact ⟨_, rfl, by rw [hRe.out]; exact O2.out, hB.out⟩
theorem over_drop {L : List Rw} {k : Nat} (hk : k < L.length) (p : Int) : over nought (L.drop k) p = if (L.getD k (0, 0, 0)).1 ≤ p ∧ p ≤ (L.getD k (0, 0, 0)).2.1 then (L.getD k (0, 0, 0)).2.2 else over nought (L.drop (k + 1)) p := by
  rw [List.drop_eq_getElem_cons hk]
  have e1 : L.getD k (0, 0, 0) = L[k] := by simp [List.getD, hk]
  rw [e1]
  show (if inR L[k] p = true then _ else _) = _
  by_cases c : L[k].1 ≤ p ∧ p ≤ L[k].2.1
  · rw [if_pos c, if_pos (inR_iff.2 c)]
  · rw [if_neg c, if_neg (fun hh => c (inR_iff.1 hh))]
set_option maxRecDepth 100000 in
set_option maxHeartbeats 1000000 in
theorem rlook_any (L : List Rw) (v : Value) (p : Int) (w : World) (hr : Rd3 .i64 w v L) (hl : L.length ≤ 8796093022208) : Calls Try.prog 28 #[v, .int .i64 p] w fun e w' => e = .returned (.int .i64 (lk L p)) ∧ Below w.heap.size w w' := by
  obtain ⟨a, c, rfl, hlc, hc⟩ := hr
  have HC : Hid _ := hc
  clear hc hlc
  go_enter Try.func28, Try.ntmps28
  go_wp2_with fail
  go_loopw [9] (fun y wr => ∃ k : Nat, k ≤ L.length ∧ y = .int .i64 (k : Nat) ∧ Hid (lk L p = over nought (L.drop k) p) ∧ Hid (Below w.heap.size w wr)) (fun y _ => (L.length - (intOf y).toNat : Nat))
  case atStart => exact ⟨0, Nat.zero_le _, rfl, rfl, Below.refl _ _⟩
  case round =>
    obtain ⟨k, hk, rfl, hS, hB⟩ := hrel
    by_cases hkl : k < L.length
    · obtain ⟨g, off, rfl, hd⟩ := HC.out (by omega)
      obtain ⟨d1, d2, d3⟩ := hd k hkl
      have kl : (k : Int) < (L.length : Int) := by omega
      have g1 := World.block_lt_of_cell? w _ d1
      have e1 := (hB.out.cell (p := ⟨g, off + k * 3, none⟩) (by simpa using g1)).trans d1
      have e2 := (hB.out.cell (p := ⟨g, off + k * 3 + 1, none⟩) (by simpa using g1)).trans d2
      have e3 := (hB.out.cell (p := ⟨g, off + k * 3 + 2, none⟩) (by simpa using g1)).trans d3
      have hst : Hid (lk L p = if (L.getD k (0, 0, 0)).1 ≤ p ∧ p ≤ (L.getD k (0, 0, 0)).2.1 then (L.getD k (0, 0, 0)).2.2 else over nought (L.drop (k + 1)) p) := by rw [Hid, hS.out]; exact over_drop hkl p
      clear d1 d2 d3 hd g1 HC hS
      generalize L.getD k (0, 0, 0) = s at *
      obtain ⟨x, y, n⟩ := s
      simp only at e1 e2 e3 hst
      have hbsz := hB.out.size
      obtain ⟨q1, q2, q3⟩ := box3 wr (.int .i64 x) (.int .i64 y) (.int .i64 n) 33
      have B1 : Hid (Below w.heap.size w (wr.alloc (.cells #[.int .i64 x, .int .i64 y, .int .i64 n] 33))) := hB.out.alloc hbsz _
      by_cases c1 : x ≤ p
      · have hd1 : decide (x ≤ p) = true := decide_eq_true c1
        by_cases c2 : p ≤ y
        · have hd2 : decide (p ≤ y) = true := decide_eq_true c2
          have hres : Hid (lk L p = n) := by rw [Hid, hst.out, if_pos ⟨c1, c2⟩]
          go_wp2
          go_ret
          exact ⟨by rw [hres.out]; rfl, B1.out⟩
        · have hd2 : decide (p ≤ y) = false := decide_eq_false c2
          have hres : Hid (lk L p = over nought (L.drop (k + 1)) p) := by rw [Hid, hst.out, if_neg (fun h => c2 h.2)]
          go_wp2
          refine ⟨⟨k + 1, by omega, by go_num, hres, B1⟩, by simp [intOf]; omega⟩
      · have hd1 : decide (x ≤ p) = false := decide_eq_false c1
        have hres : Hid (lk L p = over nought (L.drop (k + 1)) p) := by rw [Hid, hst.out, if_neg (fun h => c1 h.1)]
        go_wp2
        refine ⟨⟨k + 1, by omega, by go_num, hres, B1⟩, by simp [intOf]; omega⟩
    · have hkk : k = L.length := by omega
      subst hkk
      have hres : Hid (lk L p = 0) := by
        have := hS.out
        rw [List.drop_length] at this
        exact this
      go_wp2
      go_ret
      exact ⟨by rw [hres.out]; rfl, hB.out⟩
end Go.Proofs.Ytookbgmolggohaa
