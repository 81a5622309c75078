/-
  The contract of the document's Swap: rows with one number in the place of another one. Conditions: the rows rise and are no more than 65536; the new number is from 0 to 65535.
-/
import Derived.Test.YtookbgmolggohabMa
namespace Go.Proofs.Ytookbgmolggohab
open Go.RowKit
/-- Rows with t in the place of f. -/
def swp (f t : Int) (X : List Rw) : List Rw := X.map fun r => (r.1, r.2.1, if r.2.2 = f then t else r.2.2)
theorem swp_len (f t : Int) (X : List Rw) : (swp f t X).length = X.length := by simp [swp]
theorem swp_take {R : List Rw} {k : Nat} (f t : Int) (hk : k < R.length) : swp f t (R.take (k + 1)) = swp f t (R.take k) ++ [((R.getD k (0, 0, 0)).1, (R.getD k (0, 0, 0)).2.1, if (R.getD k (0, 0, 0)).2.2 = f then t else (R.getD k (0, 0, 0)).2.2)] := by
  rw [take_snoc3 R k hk]
  simp [swp]
theorem Rn.ok {F : Int → Int} (hF : ∀ p, 0 ≤ F p ∧ F p ≤ 65535) : ∀ {X : List Rw} {m e : Int}, Rn F m X e → e ≤ 1114112 → okF m X
  | [], m, e, h, he => trivial
  | r :: X, m, e, h, he => by
    obtain ⟨h1, h2, h3, h4, -⟩ := h.tail
    have h5 := (Rn.mem h4).1
    have h6 := hF r.1
    rw [h3 r.1 (by omega) (by omega)] at h6
    exact ⟨by omega, h2, by omega, h6.1, h6.2, Rn.ok hF h4 he⟩
theorem swp_okF {f t : Int} (ht : 0 ≤ t ∧ t ≤ 65535) : ∀ {X : List Rw} {m : Int}, okF m X → okF m (swp f t X)
  | [], m, h => trivial
  | r :: X, m, h => by
    obtain ⟨h1, h2, h3, h4, h5, h6⟩ := h
    refine ⟨h1, h2, h3, ?_, ?_, swp_okF ht h6⟩
    · show 0 ≤ (if r.2.2 = f then t else r.2.2)
      split <;> omega
    · show (if r.2.2 = f then t else r.2.2) ≤ 65535
      split <;> omega
theorem swp_ok {f t : Int} {L : List Rw} (ht : 0 ≤ t ∧ t ≤ 65535) (hok : okF 0 L) : okF 0 (swp f t (runsL L)) := swp_okF ht (Rn.ok (lk_range hok) (runs_rn hok) (by decide))
theorem box_froz (w : World) (xs : Array Value) (t : TypeId) (j : Nat) : (w.alloc (.cells xs t)).frozen? ⟨w.heap.size, j, none⟩ = false := by
  have h := heap_alloc_last w (.cells xs t)
  generalize w.alloc (.cells xs t) = w' at h ⊢
  simp [World.frozen?, h]
set_option maxRecDepth 100000 in
set_option maxHeartbeats 4000000 in
theorem rswap_any (L : List Rw) (f t : Int) (v : Value) (w : World) (hr : Rd3 .i64 w v L) (hok : okF 0 L) (hl : L.length ≤ 65536) (ht : 0 ≤ t ∧ t ≤ 65535) : Calls Try.prog 32 #[v, .int .i64 f, .int .i64 t] w fun e w' => ∃ v', e = .returned v' ∧ Rd3 .i64 w' v' (lst (runsL (swp f t (runsL L)))) ∧ Below w.heap.size w w' := by
  have hlR : (runsL L).length ≤ 131073 := by have := runsL_len L; omega
  have KL : Hid (∀ w1 v1, Rd3 .i64 w1 v1 (swp f t (runsL L)) → Calls Try.prog 15 #[v1] w1 fun e w' => ∃ v', e = .returned v' ∧ Rd3 .i64 w' v' (lst (runsL (swp f t (runsL L)))) ∧ Below w1.heap.size w1 w') := fun w1 v1 h1 => (least_any _ v1 w1 h1 (swp_ok ht hok) (by rw [swp_len]; omega) (by have := runsL_len (swp f t (runsL L)); rw [swp_len] at this; omega)).mono fun e w' ⟨v, h1, h3, h4⟩ => ⟨v, h1, Rd3.of_owns h3, h4⟩
  obtain ⟨i0, hi, hz0, hz1, hz2⟩ := info_parts info33
  have B0 : Below w.heap.size w (w.alloc (.cells #[] 57)) := (Below.refl _ _).alloc (Nat.le_refl _) _
  have KR : Hid (Calls Try.prog 17 #[v] (w.alloc (.cells #[] 57)) fun e w' => ∃ v', e = .returned v' ∧ w'.ownsRow (w.alloc (.cells #[] 57)).heap.size 57 3 v' (runsL L).length (cel3 .i64 (runsL L)) ∧ Below (w.alloc (.cells #[] 57)).heap.size (w.alloc (.cells #[] 57)) w') := runs_any L v _ (hr.below B0) hok (by omega)
  replace B0 : Hid (Below w.heap.size w (w.alloc (.cells #[] 57))) := B0
  have O0 : Hid ((w.alloc (.cells #[] 57)).ownsRow w.heap.size 57 3 (.slice (some ⟨w.heap.size, 0, none⟩) 0 0) 0 []) := own_none w _ 57 3 (Nat.le_refl _)
  clear hr hok
  go_enter Try.func32, Try.ntmps32
  go_wp2_with (go_at_call 17; refine KR.out.mono ?_)
  first | rintro e wc vs rfl oc bc | rintro e wc ⟨vs, rfl, oc, bc⟩
  have Bc : Hid (Below w.heap.size w wc) := B0.out.trans (bc.mono (by simp))
  have Oc : Hid (wc.ownsRow w.heap.size 57 3 (.slice (some ⟨w.heap.size, 0, none⟩) 0 0) 0 []) := owns_below O0.out bc
  have Rc : Hid (Rd3 .i64 wc vs (runsL L)) := Rd3.of_owns oc
  have hvs : Hid (∀ g, vs.ownBlock = some g → w.heap.size + 1 ≤ g ∧ g < wc.heap.size) := fun g hg => by
    obtain ⟨h1, cur, h2⟩ := own_in oc hg
    have := (Array.getElem?_eq_some_iff.1 h2).1
    simp at h1
    omega
  obtain ⟨av, cv, rfl, -, -⟩ := owns_slice oc
  clear oc bc KR B0 O0
  generalize hRe : runsL L = R at *
  replace hRe : Hid (runsL L = R) := hRe
  go_wp2_with fail
  go_loopw [7, 14] (fun x y wr => ∃ k : Nat, k ≤ R.length ∧ y = .int .i64 (k : Nat) ∧ Hid (wr.ownsRow w.heap.size 57 3 x (swp f t (R.take k)).length (cel3 .i64 (swp f t (R.take k)))) ∧ Hid (Below w.heap.size w wr) ∧ Hid (Rd3 .i64 wr (.slice av R.length cv) R) ∧ Hid (x.ownBlock = some w.heap.size ∨ ∃ g, x.ownBlock = some g ∧ wc.heap.size ≤ g) ∧ Hid (wc.heap.size ≤ wr.heap.size)) (fun _ y _ => (R.length - (intOf y).toNat : Nat))
  case atStart => exact ⟨0, Nat.zero_le _, rfl, Oc, Bc, Rc, .inl rfl, Nat.le_refl _⟩
  case round =>
    obtain ⟨k, hk, rfl, hO, hB, hR, hX, hZ⟩ := hrel
    have hbsz := hB.out.size
    clear Oc Bc Rc
    by_cases hkl : k < R.length
    · obtain ⟨a2, c2, e2, -, hc⟩ := hR.out
      obtain ⟨rfl, rfl⟩ : av = a2 ∧ cv = c2 := by simpa using e2
      obtain ⟨g, off, rfl, hd⟩ := hc (by omega)
      obtain ⟨e1, e2', e3⟩ := hd k hkl
      have kl : (k : Int) < (R.length : Int) := by omega
      have hsn := swp_take f t hkl
      have hll : (swp f t (R.take k)).length ≤ k := by rw [swp_len]; simp; omega
      clear hd hc e2
      generalize R.getD k (0, 0, 0) = s at *
      obtain ⟨x, y, n⟩ := s
      simp only at e1 e2' e3 hsn
      obtain ⟨q1, q2, q3⟩ := box3 wr (.int .i64 x) (.int .i64 y) (.int .i64 n) 57
      have B1 : Hid (Below w.heap.size w (wr.alloc (.cells #[.int .i64 x, .int .i64 y, .int .i64 n] 57))) := hB.out.alloc hbsz _
      have bA : Below wr.heap.size wr (wr.alloc (.cells #[.int .i64 x, .int .i64 y, .int .i64 n] 57)) := (Below.refl _ _).alloc (Nat.le_refl _) _
      have O1 : Hid ((wr.alloc (.cells #[.int .i64 x, .int .i64 y, .int .i64 n] 57)).ownsRow w.heap.size 57 3 u7 (swp f t (R.take k)).length (cel3 .i64 (swp f t (R.take k)))) := hO.out.alloc _
      have R1 : Hid (Rd3 .i64 (wr.alloc (.cells #[.int .i64 x, .int .i64 y, .int .i64 n] 57)) (.slice (some ⟨g, off, none⟩) R.length cv) R) := hR.out.below bA
      have Z1 : Hid (wc.heap.size ≤ (wr.alloc (.cells #[.int .i64 x, .int .i64 y, .int .i64 n] 57)).heap.size) := by rw [Hid]; have := hZ.out; simp; omega
      have HLL : Hid ((swp f t (R.take k)).length ≤ k) := hll
      have hBw := hB
      have hOw := hO
      have hRw := hR
      clear hO hB hR bA hll
      by_cases hn : n = f
      · have hnd : (n == f) = true := by simpa using hn
        have hsn2 : Hid (swp f t (R.take (k + 1)) = swp f t (R.take k) ++ [(x, y, t)]) := by rw [Hid, hsn, if_pos hn]
        have fz := box_froz wr #[.int .i64 x, .int .i64 y, .int .i64 n] 57 2
        obtain ⟨p1, p2, p3⟩ := box3 wr (.int .i64 x) (.int .i64 y) (.int .i64 t) 57
        have B1' : Hid (Below w.heap.size w (wr.alloc (.cells #[.int .i64 x, .int .i64 y, .int .i64 t] 57))) := hBw.out.alloc hbsz _
        have O1' : Hid ((wr.alloc (.cells #[.int .i64 x, .int .i64 y, .int .i64 t] 57)).ownsRow w.heap.size 57 3 u7 (swp f t (R.take k)).length (cel3 .i64 (swp f t (R.take k)))) := hOw.out.alloc _
        have R1' : Hid (Rd3 .i64 (wr.alloc (.cells #[.int .i64 x, .int .i64 y, .int .i64 t] 57)) (.slice (some ⟨g, off, none⟩) R.length cv) R) := hRw.out.below ((Below.refl _ _).alloc (Nat.le_refl _) _)
        have Z1' : Hid (wc.heap.size ≤ (wr.alloc (.cells #[.int .i64 x, .int .i64 y, .int .i64 t] 57)).heap.size) := by rw [Hid]; have := hZ.out; simp; omega
        clear O1 B1 R1 Z1 hBw hOw hRw
        have B1 := B1'
        have O1 := O1'
        have R1 := R1'
        have Z1 := Z1'
        clear O1' B1' R1' Z1'
        have hcn : Hid _ := cells_new (wr.alloc (.cells #[.int .i64 x, .int .i64 y, .int .i64 t] 57)) #[.int .i64 x, .int .i64 y, .int .i64 t] 57
        clear hsn hn
        go_wp2_with (at_builtin; refine wpList_append_own_at _ rfl _ _ 30 rfl w.heap.size 57 i0 _ 3 24 Try.underlying30 hi hz0 hz1 hz2 rfl (by decide) _ _ _ rfl (O1.out.alloc _) ⟨_, 0, none⟩ 1 1 [.int .i64 x, .int .i64 y, .int .i64 t] rfl rfl ?h1 ?h2 ?h3 ?h4 ?h5 ?h6)
        case h2 => simp [Value.oneCell']
        case h3 => unfold maxLen; have := HLL.out; omega
        case h4 => have := HLL.out; omega
        case h5 => first | omega | (simp; omega)
        case h6 =>
          intro v' w' hown' hgrow _ hloc
          have O2 : Hid (w'.ownsRow w.heap.size 57 3 v' (swp f t (R.take (k + 1))).length (cel3 .i64 (swp f t (R.take (k + 1))))) := by rw [Hid, hsn2.out, cel3_snoc, List.length_append]; exact hown'
          have B2 : Hid (Below w.heap.size w w') := (B1.out.alloc (by have := B1.out.size; simp; omega) _).grown hgrow (by simp; omega) (fun j hj => (O1.out.lt j hj).1)
          have R2 : Hid (Rd3 .i64 w' (.slice (some ⟨g, off, none⟩) R.length cv) R) := Rd3.kept (R1.out.below ((Below.refl _ _).alloc (Nat.le_refl _) _)) hgrow (fun g' hg' e => by
            have h1 := hvs.out g' hg'
            rcases hX.out with h | ⟨g2, h, h'⟩
            · rw [h] at e; cases e; omega
            · rw [h] at e; cases e; omega)
          have X2 : Hid (v'.ownBlock = some w.heap.size ∨ ∃ g, v'.ownBlock = some g ∧ wc.heap.size ≤ g) := by
            rcases hloc with h | h
            · rw [Hid, h]; exact hX.out
            · exact .inr ⟨_, h, by have := Z1.out; simp at this ⊢; omega⟩
          have Z2 : Hid (wc.heap.size ≤ w'.heap.size) := by rw [Hid]; have := hgrow.size; have := Z1.out; simp at *; omega
          clear hown' hgrow hloc O1 B1 R1 Z1 hX hZ q1 q2 q3 p1 p2 p3 fz hcn e1 e2' e3
          go_wp2
          refine ⟨⟨k + 1, by omega, by go_num, O2, B2, R2, X2, Z2⟩, by simp [intOf]; omega⟩
      · have hnd : (n == f) = false := by simpa using hn
        have hsn2 : Hid (swp f t (R.take (k + 1)) = swp f t (R.take k) ++ [(x, y, n)]) := by rw [Hid, hsn, if_neg hn]
        clear hBw hOw hRw
        have hcn : Hid _ := cells_new (wr.alloc (.cells #[.int .i64 x, .int .i64 y, .int .i64 n] 57)) #[.int .i64 x, .int .i64 y, .int .i64 n] 57
        clear hsn hn
        go_wp2_with (at_builtin; refine wpList_append_own_at _ rfl _ _ 30 rfl w.heap.size 57 i0 _ 3 24 Try.underlying30 hi hz0 hz1 hz2 rfl (by decide) _ _ _ rfl (O1.out.alloc _) ⟨_, 0, none⟩ 1 1 [.int .i64 x, .int .i64 y, .int .i64 n] rfl rfl ?k1 ?k2 ?k3 ?k4 ?k5 ?k6)
        case k2 => simp [Value.oneCell']
        case k3 => unfold maxLen; have := HLL.out; omega
        case k4 => have := HLL.out; omega
        case k5 => first | omega | (simp; omega)
        case k6 =>
          intro v' w' hown' hgrow _ hloc
          have O2 : Hid (w'.ownsRow w.heap.size 57 3 v' (swp f t (R.take (k + 1))).length (cel3 .i64 (swp f t (R.take (k + 1))))) := by rw [Hid, hsn2.out, cel3_snoc, List.length_append]; exact hown'
          have B2 : Hid (Below w.heap.size w w') := (B1.out.alloc (by have := B1.out.size; simp; omega) _).grown hgrow (by simp; omega) (fun j hj => (O1.out.lt j hj).1)
          have R2 : Hid (Rd3 .i64 w' (.slice (some ⟨g, off, none⟩) R.length cv) R) := Rd3.kept (R1.out.below ((Below.refl _ _).alloc (Nat.le_refl _) _)) hgrow (fun g' hg' e => by
            have h1 := hvs.out g' hg'
            rcases hX.out with h | ⟨g2, h, h'⟩
            · rw [h] at e; cases e; omega
            · rw [h] at e; cases e; omega)
          have X2 : Hid (v'.ownBlock = some w.heap.size ∨ ∃ g, v'.ownBlock = some g ∧ wc.heap.size ≤ g) := by
            rcases hloc with h | h
            · rw [Hid, h]; exact hX.out
            · exact .inr ⟨_, h, by have := Z1.out; simp at this ⊢; omega⟩
          have Z2 : Hid (wc.heap.size ≤ w'.heap.size) := by rw [Hid]; have := hgrow.size; have := Z1.out; simp at *; omega
          clear hown' hgrow hloc O1 B1 R1 Z1 hX hZ q1 q2 q3 hcn e1 e2' e3
          go_wp2
          refine ⟨⟨k + 1, by omega, by go_num, O2, B2, R2, X2, Z2⟩, by simp [intOf]; omega⟩
    · have hkk : k = R.length := by omega
      subst hkk
      have O2 : Hid (Rd3 .i64 wr u7 (swp f t R)) := by
        have := Rd3.of_owns hO.out
        rwa [List.take_length] at this
      go_wp2_with (go_at_call 15; refine (KL.out _ _ O2.out).mono ?_)
      first | rintro e wz vz rfl rz bz | rintro e wz ⟨vz, rfl, rz, bz⟩
      replace rz : Hid (Rd3 .i64 wz vz _) := rz
      have Bz : Hid (Below w.heap.size w wz) := hB.out.trans (bz.mono hB.out.size)
      clear bz
      go_wp2
      go_ret
      exact ⟨_, rfl, by rw [hRe.out]; exact rz.out, Bz.out⟩
end Go.Proofs.Ytookbgmolggohab
