/-
  The contract of the document's Where. Conditions: the spans are a set; the rows rise and are no more than 65536.
-/
import Derived.Test.YtookbgmolggohabWb
namespace Go.Proofs.Ytookbgmolggohab
open Go.RowKit
def sps (X : List Rw) : List Rw := X.map fun s => (s.1, s.2.1, 1)
theorem sps_get {X : List Rw} {k : Nat} (h : k < X.length) : (sps X).getD k (0, 0, 0) = ((X.getD k (0, 0, 0)).1, (X.getD k (0, 0, 0)).2.1, 1) := by
  simp [sps, List.getD, List.getElem?_eq_getElem h]
theorem runs_again {K : List Rw} (h : okF 0 K) : okF 0 (runsL K) ∧ lk (runsL K) = lk K := by
  have hT := (runs_rn h).tl
  refine ⟨hT.ok (lkr h) (by decide), ?_⟩
  funext p
  show over nought (runsL K) p = lk K p
  rw [hT.says p]
  by_cases c : (0 : Int) ≤ p ∧ p < 1114112
  · rw [if_pos c]
  · rw [if_neg c, lk_out h (by omega)]
set_option maxRecDepth 100000 in
set_option maxHeartbeats 4000000 in
theorem rwhere_any (X L K : List Rw) (v rl rk : Value) (w : World) (hv : Rd3 .i64 w v (sps X)) (hL : Rd3 .i64 w rl L) (hK : Rd3 .i64 w rk K) (hok : okF 0 L) (hkk : okF 0 K) (hx : X.length ≤ 65536) (hl : L.length ≤ 65536) (hk : K.length ≤ 65536) (hs : spB 0 X = true) : Calls Try.prog 29 #[v, rl, rk] w fun e w' => ∃ v', e = .returned v' ∧ Rd3 .i64 w' v' (lst (runsL (ovr (whL X (runsL L)) (runsL (runsL K)) (runsL (whL X (runsL L)))))) ∧ Below w.heap.size w w' := by
  obtain ⟨i0, hi, hz0, hz1, hz2⟩ := info_parts info33
  have hrgL := lkr hok
  have hRN := runs_rn hok
  have hokW := whL_ok hrgL hRN hs
  obtain ⟨hokR, -⟩ := runs_again hkk
  have hlR : (runsL K).length ≤ 131073 := by have := runsL_len K; omega
  have hlQ : (runsL L).length ≤ 131073 := by have := runsL_len L; omega
  have KO : Hid (∀ W v1 v2, Rd3 .i64 W v1 (runsL K) → Rd3 .i64 W v2 (whL X (runsL L)) → Calls Try.prog 57 #[v1, v2] W fun e w' => ∃ v', e = .returned v' ∧ Rd3 .i64 w' v' (lst (runsL (ovr (whL X (runsL L)) (runsL (runsL K)) (runsL (whL X (runsL L)))))) ∧ Below W.heap.size W w') := fun W v1 v2 h1 h2 => rover_any (runsL K) (whL X (runsL L)) v1 v2 W h1 h2 hokR hokW (by omega) (by have := okF_len hokW (by decide); omega)
  have HV : Hid (∀ W, Below w.heap.size w W → Rd3 .i64 W v (sps X)) := fun W hW => hv.below hW
  have HM : Hid (∀ k, k < X.length → 0 ≤ (X.getD k (0, 0, 0)).1 ∧ (X.getD k (0, 0, 0)).1 ≤ (X.getD k (0, 0, 0)).2.1 ∧ (X.getD k (0, 0, 0)).2.1 ≤ 1114111) := fun k hk => by
    have h1 := spB_front (k + 1) hs
    rw [spB_step hk, Bool.and_eq_true, okR_iff] at h1
    exact ⟨h1.2.1, h1.2.2.1, h1.2.2.2.1⟩
  have KA : Hid (∀ W, Below w.heap.size w W → Calls Try.prog 17 #[rk] W fun e w' => ∃ v', e = .returned v' ∧ w'.ownsRow W.heap.size 57 3 v' (runsL K).length (cel3 .i64 (runsL K)) ∧ Below W.heap.size W w') := fun W hW => runs_any K rk W (hK.below hW) hkk (by omega)
  have KB : Hid (∀ W, Below w.heap.size w W → Calls Try.prog 17 #[rl] W fun e w' => ∃ v', e = .returned v' ∧ w'.ownsRow W.heap.size 57 3 v' (runsL L).length (cel3 .i64 (runsL L)) ∧ Below W.heap.size W w') := fun W hW => runs_any L rl W (hL.below hW) hok (by omega)
  have HLen : Hid (∀ k, (whL (X.take k) (runsL L)).length ≤ 1114112) := fun k => by
    have := okF_len (whL_ok hrgL hRN (spB_front k hs)) (by decide)
    omega
  have HSt : Hid (∀ k, k < X.length → whL (X.take (k + 1)) (runsL L) = whL (X.take k) (runsL L) ++ clp (X.getD k (0, 0, 0)).1 (X.getD k (0, 0, 0)).2.1 (runsL L)) := fun k hk => flat_step (fun s => clp s.1 s.2.1 (runsL L)) hk
  have hxl : (sps X).length = X.length := by simp [sps]
  obtain ⟨xv, xc, rfl, -, -⟩ := hv
  rw [hxl] at HV ⊢
  have hx' : (X.length : Int) ≤ 65536 := by omega
  have B0 : Hid (Below w.heap.size w (w.alloc (.cells #[] 57))) := (Below.refl _ _).alloc (Nat.le_refl _) _
  have O0 : Hid ((w.alloc (.cells #[] 57)).ownsRow w.heap.size 57 3 (.slice (some ⟨w.heap.size, 0, none⟩) 0 0) 0 []) := own_none w _ 57 3 (Nat.le_refl _)
  clear hL hK hok hkk hl hk hs hrgL hRN hokW hokR hx hxl
  generalize hRS : lst (runsL (ovr (whL X (runsL L)) (runsL (runsL K)) (runsL (whL X (runsL L))))) = RS at *
  clear hRS
  generalize runsL K = A at *
  generalize runsL L = Q at *
  go_enter Try.func29, Try.ntmps29
  go_wp2_with (go_at_call 17; refine (KA.out _ B0.out).mono ?_)
  first | rintro e wa va rfl oa ba | rintro e wa ⟨va, rfl, oa, ba⟩
  have Ba : Hid (Below w.heap.size w wa) := B0.out.trans (ba.mono (by simp))
  have Oa : Hid (wa.ownsRow w.heap.size 57 3 (.slice (some ⟨w.heap.size, 0, none⟩) 0 0) 0 []) := owns_below O0.out ba
  have Ra : Hid (Rd3 .i64 wa va A) := Rd3.of_owns oa
  have hva : Hid (∀ g, va.ownBlock = some g → w.heap.size + 1 ≤ g ∧ g < wa.heap.size) := fun g hg => by
    obtain ⟨h1, cur, h2⟩ := own_in oa hg
    have := (Array.getElem?_eq_some_iff.1 h2).1
    simp at h1
    omega
  obtain ⟨av, cv, rfl, -, -⟩ := owns_slice oa
  clear oa ba KA B0 O0
  have hlA' : (A.length : Int) ≤ 131073 := by omega
  replace hlR : Hid (A.length ≤ 131073) := hlR
  have hlQ' : (Q.length : Int) ≤ 131073 := by omega
  replace hlQ : Hid (Q.length ≤ 131073) := hlQ
  go_wp2_with fail
  go_loopw [7, 21] (fun x y wr => ∃ k : Nat, k ≤ A.length ∧ y = .int .i64 (k : Nat) ∧ Hid (wr.ownsRow w.heap.size 57 3 x (A.take k).length (cel3 .i64 (A.take k))) ∧ Hid (Below w.heap.size w wr) ∧ Hid (Rd3 .i64 wr (.slice av A.length cv) A) ∧ Hid (x.ownBlock = some w.heap.size ∨ ∃ g, x.ownBlock = some g ∧ wa.heap.size ≤ g) ∧ Hid (wa.heap.size ≤ wr.heap.size)) (fun _ y _ => (A.length - (intOf y).toNat : Nat))
  case atStart => exact ⟨0, Nat.zero_le _, rfl, Oa, Ba, Ra, .inl rfl, Nat.le_refl _⟩
  case round =>
    obtain ⟨k, hk, rfl, hO, hB, hR, hX, hZ⟩ := hrel
    have hbsz := hB.out.size
    clear Oa Ba Ra
    by_cases hkl : k < A.length
    · obtain ⟨a2, c2, e2, -, hc⟩ := hR.out
      obtain ⟨rfl, rfl⟩ : av = a2 ∧ cv = c2 := by simpa using e2
      obtain ⟨g, off, rfl, hd1⟩ := hc (by omega)
      obtain ⟨e1, e2', e3⟩ := hd1 k hkl
      have kl : (k : Int) < (A.length : Int) := by omega
      have hst : Hid (A.take (k + 1) = A.take k ++ [A.getD k (0, 0, 0)]) := by rw [Hid, List.take_add_one, List.getElem?_eq_getElem hkl]; simp [List.getD, List.getElem?_eq_getElem hkl]
      have OL : Hid ((A.take k).length ≤ 131073) := by rw [Hid, List.length_take]; have := hlR.out; omega
      have HK : Hid (k < A.length) := hkl
      clear hd1 hc e2 hkl
      generalize A.getD k (0, 0, 0) = s at *
      obtain ⟨x, y, z⟩ := s
      simp only at e1 e2' e3
      obtain ⟨q1, q2, q3⟩ := box3 wr (.int .i64 x) (.int .i64 y) (.int .i64 z) 57
      have bA : Below wr.heap.size wr (wr.alloc (.cells #[.int .i64 x, .int .i64 y, .int .i64 z] 57)) := (Below.refl _ _).alloc (Nat.le_refl _) _
      have B1 : Hid (Below w.heap.size w (wr.alloc (.cells #[.int .i64 x, .int .i64 y, .int .i64 z] 57))) := hB.out.alloc hbsz _
      have O1 : Hid ((wr.alloc (.cells #[.int .i64 x, .int .i64 y, .int .i64 z] 57)).ownsRow w.heap.size 57 3 u7 (A.take k).length (cel3 .i64 (A.take k))) := hO.out.alloc _
      have R1 : Hid (Rd3 .i64 (wr.alloc (.cells #[.int .i64 x, .int .i64 y, .int .i64 z] 57)) (.slice (some ⟨g, off, none⟩) A.length cv) A) := hR.out.below bA
      have Z1 : Hid (wa.heap.size ≤ (wr.alloc (.cells #[.int .i64 x, .int .i64 y, .int .i64 z] 57)).heap.size) := by rw [Hid]; have := hZ.out; simp; omega
      clear hO hB hR bA hZ
      generalize A.take k = PP at *
      go_wp2_with (at_builtin; refine wpList_append_own_at _ rfl _ _ 30 rfl w.heap.size 57 i0 _ 3 24 Try.underlying30 hi hz0 hz1 hz2 rfl (by decide) _ _ _ rfl (O1.out.alloc _) ⟨_, 0, none⟩ 1 1 [.int .i64 x, .int .i64 y, .int .i64 z] rfl rfl ?a1 ?a2 ?a3 ?a4 ?a5 ?a6)
      try any_goals (first | exact cells_new _ #[.int .i64 x, .int .i64 y, .int .i64 z] _ | (intro j' u hj; have hj2 := cells_new (wr.alloc (.cells #[.int .i64 x, .int .i64 y, .int .i64 z] 57)) #[.int .i64 x, .int .i64 y, .int .i64 z] 57 j' u hj; rw [World.size_alloc] at hj2; exact hj2))
      case a2 => simp [Value.oneCell']
      case a3 => unfold maxLen; have := OL.out; omega
      case a4 => have := OL.out; omega
      case a5 => first | omega | (simp; omega)
      case a6 =>
        intro v1 W1 hown1 hgrow1 _ hloc
        have O2 : Hid (W1.ownsRow w.heap.size 57 3 v1 (A.take (k + 1)).length (cel3 .i64 (A.take (k + 1)))) := by rw [Hid, hst.out, cel3_snoc, List.length_append]; exact hown1
        have B2 : Hid (Below w.heap.size w W1) := (B1.out.alloc (by have := B1.out.size; simp at this ⊢; omega) _).grown hgrow1 (by have := B1.out.size; simp at this ⊢; omega) (fun j hj => (O1.out.lt j hj).1)
        have R2 : Hid (Rd3 .i64 W1 (.slice (some ⟨g, off, none⟩) A.length cv) A) := Rd3.kept (R1.out.below ((Below.refl _ _).alloc (Nat.le_refl _) _)) hgrow1 (fun g' hg' e => by
          have h1 := hva.out g' hg'
          rcases hX.out with h | ⟨g2, h, h'⟩
          · rw [h] at e; cases e; omega
          · rw [h] at e; cases e; omega)
        have X2 : Hid (v1.ownBlock = some w.heap.size ∨ ∃ g, v1.ownBlock = some g ∧ wa.heap.size ≤ g) := by
          rcases hloc with h | h
          · rw [Hid, h]; exact hX.out
          · exact .inr ⟨_, h, by have := Z1.out; simp at this ⊢; omega⟩
        have Z2 : Hid (wa.heap.size ≤ W1.heap.size) := by rw [Hid]; have := hgrow1.size; have := Z1.out; simp at *; omega
        clear hown1 hgrow1 hloc O1 B1 R1 Z1 hX q1 q2 q3 e1 e2' e3
        go_wp2
        exact ⟨⟨k + 1, by have := HK.out; omega, by go_num, O2, B2, R2, X2, Z2⟩, by have := HK.out; simp [intOf]; omega⟩
    · have kl : decide ((k : Int) < (A.length : Int)) = false := decide_eq_false (by omega)
      have kl2 : ¬ ((k : Int) < (A.length : Int)) := by omega
      obtain ⟨w1, hw1⟩ : ∃ w1, w1 = wr := ⟨_, rfl⟩
      subst hw1
      have RO : Hid (Rd3 .i64 w1 u7 A) := by
        have := Rd3.of_owns hO.out
        rw [List.take_of_length_le (by omega)] at this
        exact this
      obtain ⟨vo, hvo⟩ : ∃ vo, vo = u7 := ⟨_, rfl⟩
      subst hvo
      have B1 : Hid (Below w.heap.size w w1) := hB.out
      clear hO hB hR hX hZ hkl hva
      have B2 : Hid (Below w1.heap.size w1 (w1.alloc (.cells #[] 57))) := (Below.refl _ _).alloc (Nat.le_refl _) _
      have O2 : Hid ((w1.alloc (.cells #[] 57)).ownsRow w1.heap.size 57 3 (.slice (some ⟨w1.heap.size, 0, none⟩) 0 0) 0 []) := own_none w1 _ 57 3 (Nat.le_refl _)
      go_wp2_with fail
      go_loopw [10, 39] (fun x y wr => ∃ k : Nat, k ≤ X.length ∧ y = .int .i64 (k : Nat) ∧ Hid (wr.ownsRow w1.heap.size 57 3 x (whL (X.take k) Q).length (cel3 .i64 (whL (X.take k) Q))) ∧ Hid (Below w1.heap.size w1 wr)) (fun _ y _ => (X.length - (intOf y).toNat : Nat))
      case atStart => exact ⟨0, Nat.zero_le _, rfl, O2, B2⟩
      case round =>
        obtain ⟨k, hk, rfl, hO, hB⟩ := hrel
        have hbsz := hB.out.size
        clear O2 B2
        obtain ⟨wo, hwo⟩ : ∃ wo, wo = wr := ⟨_, rfl⟩
        subst hwo
        by_cases hkl : k < X.length
        · obtain ⟨a2, c2, e2, -, hc⟩ := HV.out wo (B1.out.trans (hB.out.mono B1.out.size))
          obtain ⟨rfl, rfl⟩ : xv = a2 ∧ xc = c2 := by simpa [sps] using e2
          have hsl : (sps X).length = X.length := by simp [sps]
          obtain ⟨g, off, rfl, hd1⟩ := hc (by omega)
          obtain ⟨e1, e2', e3⟩ := hd1 k (by omega)
          rw [sps_get hkl] at e1 e2' e3
          have kl : (k : Int) < (X.length : Int) := by omega
          obtain ⟨m1, m2, m3⟩ := HM.out k hkl
          have hstep := HSt.out k hkl
          have hln := HLen.out (k + 1)
          rw [hstep, List.length_append] at hln
          have HK : Hid (k < X.length) := hkl
          clear hd1 hc e2 hsl hkl
          generalize X.getD k (0, 0, 0) = s at *
          obtain ⟨x, y, z⟩ := s
          simp only at e1 e2' e3 m1 m2 m3 hstep hln
          replace hstep : Hid (whL (X.take (k + 1)) Q = whL (X.take k) Q ++ clp x y Q) := hstep
          replace hln : Hid ((whL (X.take k) Q).length + (clp x y Q).length ≤ 1114112) := hln
          obtain ⟨q1, q2, q3⟩ := box3 wo (.int .i64 x) (.int .i64 y) (.int .i64 1) 57
          have B3 : Hid (Below w1.heap.size w1 (wo.alloc (.cells #[.int .i64 x, .int .i64 y, .int .i64 1] 57))) := hB.out.alloc hbsz _
          have O3 : Hid ((wo.alloc (.cells #[.int .i64 x, .int .i64 y, .int .i64 1] 57)).ownsRow w1.heap.size 57 3 u10 (whL (X.take k) Q).length (cel3 .i64 (whL (X.take k) Q))) := hO.out.alloc _
          have X1 : Hid (∀ b, u10.ownBlock = some b → b < wo.heap.size) := fun b e => by
            obtain ⟨_, cur, h⟩ := own_in hO.out e
            exact (Array.getElem?_eq_some_iff.1 h).1
          clear hO hB
          go_wp2_with (go_at_call 17; refine (KB.out _ (B1.out.trans (B3.out.mono B1.out.size))).mono ?_)
          first | rintro e wc vc rfl oc bc | rintro e wc ⟨vc, rfl, oc, bc⟩
          have B4 : Hid (Below w1.heap.size w1 wc) := B3.out.trans (bc.mono B3.out.size)
          have O4 : Hid (wc.ownsRow w1.heap.size 57 3 u10 (whL (X.take k) Q).length (cel3 .i64 (whL (X.take k) Q))) := owns_below O3.out bc
          have R4 : Hid (Rd3 .i64 wc vc Q) := Rd3.of_owns oc
          have hvc : Hid (∀ b, vc.ownBlock = some b → wo.heap.size + 1 ≤ b ∧ b < wc.heap.size) := fun b e => by
            obtain ⟨h1, cur, h⟩ := own_in oc e
            have := (Array.getElem?_eq_some_iff.1 h).1
            simp at h1
            omega
          have C4 : Hid (wc.cell? ⟨wo.heap.size, 0, none⟩ = some (.int .i64 x) ∧ wc.cell? ⟨wo.heap.size, 1, none⟩ = some (.int .i64 y)) := ⟨(bc.cell (p := ⟨wo.heap.size, 0, none⟩) (by simp)).trans q1, (bc.cell (p := ⟨wo.heap.size, 1, none⟩) (by simp)).trans q2⟩
          have hsz : Hid (wo.heap.size < wc.heap.size) := by rw [Hid]; have := bc.size; simp at this; omega
          obtain ⟨qa, qc, rfl, -, -⟩ := owns_slice oc
          clear oc bc O3 B3 q1 q2 q3 e1 e2' e3
          go_wp2_with fail
          go_loopw [10, 46] (fun x' y' wi => ∃ j : Nat, j ≤ Q.length ∧ y' = .int .i64 (j : Nat) ∧ Hid (wi.ownsRow w1.heap.size 57 3 x' (whL (X.take k) Q ++ clp x y (Q.take j)).length (cel3 .i64 (whL (X.take k) Q ++ clp x y (Q.take j)))) ∧ Hid (Below w1.heap.size w1 wi) ∧ Hid (Rd3 .i64 wi (.slice qa Q.length qc) Q) ∧ Hid (∀ b, x'.ownBlock = some b → b < wo.heap.size ∨ wc.heap.size ≤ b) ∧ Hid (wc.heap.size ≤ wi.heap.size) ∧ Hid (wi.cell? ⟨wo.heap.size, 0, none⟩ = some (.int .i64 x) ∧ wi.cell? ⟨wo.heap.size, 1, none⟩ = some (.int .i64 y))) (fun _ y' _ => (Q.length - (intOf y').toNat : Nat))
          case atStart => exact ⟨0, Nat.zero_le _, rfl, by rw [show clp x y (Q.take 0) = [] from rfl, List.append_nil]; exact O4, B4, R4, fun b e => .inl (X1.out b e), Nat.le_refl _, C4⟩
          case round =>
            obtain ⟨j, hj, rfl, jO, jB, jR, jX, jZ, jC⟩ := hrel
            have jbsz := jB.out.size
            clear O4 B4 R4 C4 X1
            by_cases hjl : j < Q.length
            · obtain ⟨a2, c2, e2, -, hc⟩ := jR.out
              obtain ⟨rfl, rfl⟩ : qa = a2 ∧ qc = c2 := by simpa using e2
              obtain ⟨g', off', rfl, hd1⟩ := hc (by omega)
              obtain ⟨f1, f2, f3⟩ := hd1 j hjl
              have jl : (j : Int) < (Q.length : Int) := by omega
              have jst := clp_take (A := x) (E := y) hjl
              have jln : Hid ((whL (X.take k) Q ++ clp x y (Q.take j)).length ≤ 1300000) := by
                rw [Hid, List.length_append]
                have h1 := clp_len x y (Q.take j)
                have h2 := HLen.out k
                have h3 := hlQ.out
                rw [List.length_take] at h1
                omega
              have HJ : Hid (j < Q.length) := hjl
              clear hd1 hc e2 hjl
              generalize Q.getD j (0, 0, 0) = s at *
              obtain ⟨p, q, r⟩ := s
              simp only [clA, clE] at f1 f2 f3 jst
              obtain ⟨t1, t2, t3⟩ := box3 wr (.int .i64 p) (.int .i64 q) (.int .i64 r) 57
              have bA : Below wr.heap.size wr (wr.alloc (.cells #[.int .i64 p, .int .i64 q, .int .i64 r] 57)) := (Below.refl _ _).alloc (Nat.le_refl _) _
              have B5 : Below w1.heap.size w1 (wr.alloc (.cells #[.int .i64 p, .int .i64 q, .int .i64 r] 57)) := jB.out.alloc jbsz _
              have O5 := jO.out.alloc (.cells #[.int .i64 p, .int .i64 q, .int .i64 r] 57)
              have R5 := jR.out.below bA
              have hz5 := jZ.out
              obtain ⟨y1, y2⟩ := jC.out
              have hlt : wo.heap.size < wr.heap.size := by have := hsz.out; omega
              have s1 := (bA.cell (p := ⟨wo.heap.size, 0, none⟩) hlt).trans y1
              have s2 := (bA.cell (p := ⟨wo.heap.size, 1, none⟩) hlt).trans y2
              have Z5 : wc.heap.size ≤ (wr.alloc (.cells #[.int .i64 p, .int .i64 q, .int .i64 r] 57)).heap.size := by simp; omega
              clear jO jB jR jZ jC bA y1 y2
              go_wp2_with fail
              go_quiet (fail)
              have bD : Below (wr.alloc (.cells #[.int .i64 p, .int .i64 q, .int .i64 r] 57)).heap.size (wr.alloc (.cells #[.int .i64 p, .int .i64 q, .int .i64 r] 57)) ((wr.alloc (.cells #[.int .i64 p, .int .i64 q, .int .i64 r] 57)).drewN nq) := below_drew nq (Below.refl _ _)
              replace B5 : Hid (Below w1.heap.size w1 ((wr.alloc (.cells #[.int .i64 p, .int .i64 q, .int .i64 r] 57)).drewN nq)) := B5.trans (bD.mono B5.size)
              replace O5 : Hid (((wr.alloc (.cells #[.int .i64 p, .int .i64 q, .int .i64 r] 57)).drewN nq).ownsRow w1.heap.size 57 3 u10 (whL (X.take k) Q ++ clp x y (Q.take j)).length (cel3 .i64 (whL (X.take k) Q ++ clp x y (Q.take j)))) := owns_below O5 bD
              replace R5 : Hid (Rd3 .i64 ((wr.alloc (.cells #[.int .i64 p, .int .i64 q, .int .i64 r] 57)).drewN nq) (.slice (some ⟨g', off', none⟩) Q.length qc) Q) := R5.below bD
              replace s1 : ((wr.alloc (.cells #[.int .i64 p, .int .i64 q, .int .i64 r] 57)).drewN nq).cell? ⟨wo.heap.size, 0, none⟩ = some (.int .i64 x) := s1
              replace s2 : ((wr.alloc (.cells #[.int .i64 p, .int .i64 q, .int .i64 r] 57)).drewN nq).cell? ⟨wo.heap.size, 1, none⟩ = some (.int .i64 y) := s2
              replace t3 : ((wr.alloc (.cells #[.int .i64 p, .int .i64 q, .int .i64 r] 57)).drewN nq).cell? ⟨wr.heap.size, 2, none⟩ = some (.int .i64 r) := t3
              replace Z5 : Hid (wc.heap.size ≤ ((wr.alloc (.cells #[.int .i64 p, .int .i64 q, .int .i64 r] 57)).drewN nq).heap.size) := Z5
              clear bD t1 t2 hlt hz5
              generalize (wr.alloc (.cells #[.int .i64 p, .int .i64 q, .int .i64 r] 57)).drewN nq = W3 at *
              have C5 : Hid (W3.cell? ⟨wo.heap.size, 0, none⟩ = some (.int .i64 x) ∧ W3.cell? ⟨wo.heap.size, 1, none⟩ = some (.int .i64 y)) := ⟨s1, s2⟩
              by_cases c1 : p < x
              · by_cases c2 : y < q
                · skip
                  have d1 : decide (p < x) = true := decide_eq_true c1
                  have d2 : decide (y < q) = true := decide_eq_true c2
                  rw [if_pos c1, if_pos c2] at jst
                  clear c1 c2
                  by_cases cf : x ≤ y
                  · have d3 : decide (x ≤ y) = true := decide_eq_true cf
                    have jst2 : Hid (whL (X.take k) Q ++ clp x y (Q.take (j + 1)) = (whL (X.take k) Q ++ clp x y (Q.take j)) ++ [(x, y, r)]) := by rw [Hid, jst, if_pos cf, List.append_assoc]
                    have hb5 : w1.heap.size ≤ W3.heap.size := B5.out.size
                    clear cf jst
                    generalize whL (X.take k) Q ++ clp x y (Q.take j) = PP at *
                    have cn : Hid (∀ j' u, [Value.int .i64 x, .int .i64 y, .int .i64 r][j']? = some u → (W3.alloc (.cells #[.int .i64 x, .int .i64 y, .int .i64 r] 57)).cell? ((⟨W3.heap.size, 0, none⟩ : Addr).add j') = some u) := cells_new W3 #[.int .i64 x, .int .i64 y, .int .i64 r] 57
                    go_wp2_with (at_builtin; refine wpList_append_own_at _ rfl _ _ 30 rfl w1.heap.size 57 i0 _ 3 24 Try.underlying30 hi hz0 hz1 hz2 rfl (by decide) _ _ _ rfl (O5.out.alloc _) ⟨_, 0, none⟩ 1 1 [.int .i64 x, .int .i64 y, .int .i64 r] rfl rfl cn.out ?b112 ?b113 ?b114 ?b115 ?b116)
                    case b112 => simp [Value.oneCell']
                    case b113 => unfold maxLen; have := jln.out; omega
                    case b114 => have := jln.out; omega
                    case b115 => first | omega | (simp; omega)
                    case b116 =>
                      intro v6 W6 hown hgrow _ hloc
                      have O6 : Hid (W6.ownsRow w1.heap.size 57 3 v6 (whL (X.take k) Q ++ clp x y (Q.take (j + 1))).length (cel3 .i64 (whL (X.take k) Q ++ clp x y (Q.take (j + 1))))) := by rw [Hid, jst2.out, cel3_snoc, List.length_append]; exact hown
                      have B6 : Hid (Below w1.heap.size w1 W6) := (B5.out.alloc hb5 _).grown hgrow (by simp; omega) (fun i hi => (O5.out.lt i hi).1)
                      have R6 : Hid (Rd3 .i64 W6 (.slice (some ⟨g', off', none⟩) Q.length qc) Q) := Rd3.kept (R5.out.below ((Below.refl _ _).alloc (Nat.le_refl _) _)) hgrow (fun b hb e => by
                        have h1 := hvc.out b hb
                        have h2 := jX.out b e
                        omega)
                      have X6 : Hid (∀ b, v6.ownBlock = some b → b < wo.heap.size ∨ wc.heap.size ≤ b) := fun b hb => by
                        rcases hloc with h | h
                        · exact jX.out b (by rw [← h]; exact hb)
                        · rw [h] at hb
                          cases hb
                          exact .inr (by have := Z5.out; simp; omega)
                      have Z6 : Hid (wc.heap.size ≤ W6.heap.size) := by rw [Hid]; have := hgrow.size; have := Z5.out; simp at *; omega
                      have C6 : Hid (W6.cell? ⟨wo.heap.size, 0, none⟩ = some (.int .i64 x) ∧ W6.cell? ⟨wo.heap.size, 1, none⟩ = some (.int .i64 y)) := by
                        have hne : u10.ownBlock ≠ some wo.heap.size := fun e => by have := jX.out _ e; have := hsz.out; omega
                        have hl3 : wo.heap.size < W3.heap.size := by have := Z5.out; have := hsz.out; omega
                        have bb : Below W3.heap.size W3 (W3.alloc (.cells #[.int .i64 x, .int .i64 y, .int .i64 r] 57)) := (Below.refl _ _).alloc (Nat.le_refl _) _
                        exact ⟨grown_cell ((bb.cell (p := ⟨wo.heap.size, 0, none⟩) hl3).trans C5.out.1) hgrow hne, grown_cell ((bb.cell (p := ⟨wo.heap.size, 1, none⟩) hl3).trans C5.out.2) hgrow hne⟩
                      clear hown hgrow hloc O5 B5 R5 Z5 C5 jX jst2 s1 s2 t3 cn
                      go_wp2
                      exact ⟨⟨j + 1, by have := HJ.out; omega, by go_num, O6, B6, R6, X6, Z6, C6⟩, by have := HJ.out; simp [intOf]; omega⟩
                  · exact absurd m2 cf
                · skip
                  have d1 : decide (p < x) = true := decide_eq_true c1
                  have d2 : decide (y < q) = false := decide_eq_false c2
                  rw [if_pos c1, if_neg c2] at jst
                  clear c1 c2
                  by_cases cf : x ≤ q
                  · have d3 : decide (x ≤ q) = true := decide_eq_true cf
                    have jst2 : Hid (whL (X.take k) Q ++ clp x y (Q.take (j + 1)) = (whL (X.take k) Q ++ clp x y (Q.take j)) ++ [(x, q, r)]) := by rw [Hid, jst, if_pos cf, List.append_assoc]
                    have hb5 : w1.heap.size ≤ W3.heap.size := B5.out.size
                    clear cf jst
                    generalize whL (X.take k) Q ++ clp x y (Q.take j) = PP at *
                    have cn : Hid (∀ j' u, [Value.int .i64 x, .int .i64 q, .int .i64 r][j']? = some u → (W3.alloc (.cells #[.int .i64 x, .int .i64 q, .int .i64 r] 57)).cell? ((⟨W3.heap.size, 0, none⟩ : Addr).add j') = some u) := cells_new W3 #[.int .i64 x, .int .i64 q, .int .i64 r] 57
                    go_wp2_with (at_builtin; refine wpList_append_own_at _ rfl _ _ 30 rfl w1.heap.size 57 i0 _ 3 24 Try.underlying30 hi hz0 hz1 hz2 rfl (by decide) _ _ _ rfl (O5.out.alloc _) ⟨_, 0, none⟩ 1 1 [.int .i64 x, .int .i64 q, .int .i64 r] rfl rfl cn.out ?b102 ?b103 ?b104 ?b105 ?b106)
                    case b102 => simp [Value.oneCell']
                    case b103 => unfold maxLen; have := jln.out; omega
                    case b104 => have := jln.out; omega
                    case b105 => first | omega | (simp; omega)
                    case b106 =>
                      intro v6 W6 hown hgrow _ hloc
                      have O6 : Hid (W6.ownsRow w1.heap.size 57 3 v6 (whL (X.take k) Q ++ clp x y (Q.take (j + 1))).length (cel3 .i64 (whL (X.take k) Q ++ clp x y (Q.take (j + 1))))) := by rw [Hid, jst2.out, cel3_snoc, List.length_append]; exact hown
                      have B6 : Hid (Below w1.heap.size w1 W6) := (B5.out.alloc hb5 _).grown hgrow (by simp; omega) (fun i hi => (O5.out.lt i hi).1)
                      have R6 : Hid (Rd3 .i64 W6 (.slice (some ⟨g', off', none⟩) Q.length qc) Q) := Rd3.kept (R5.out.below ((Below.refl _ _).alloc (Nat.le_refl _) _)) hgrow (fun b hb e => by
                        have h1 := hvc.out b hb
                        have h2 := jX.out b e
                        omega)
                      have X6 : Hid (∀ b, v6.ownBlock = some b → b < wo.heap.size ∨ wc.heap.size ≤ b) := fun b hb => by
                        rcases hloc with h | h
                        · exact jX.out b (by rw [← h]; exact hb)
                        · rw [h] at hb
                          cases hb
                          exact .inr (by have := Z5.out; simp; omega)
                      have Z6 : Hid (wc.heap.size ≤ W6.heap.size) := by rw [Hid]; have := hgrow.size; have := Z5.out; simp at *; omega
                      have C6 : Hid (W6.cell? ⟨wo.heap.size, 0, none⟩ = some (.int .i64 x) ∧ W6.cell? ⟨wo.heap.size, 1, none⟩ = some (.int .i64 y)) := by
                        have hne : u10.ownBlock ≠ some wo.heap.size := fun e => by have := jX.out _ e; have := hsz.out; omega
                        have hl3 : wo.heap.size < W3.heap.size := by have := Z5.out; have := hsz.out; omega
                        have bb : Below W3.heap.size W3 (W3.alloc (.cells #[.int .i64 x, .int .i64 q, .int .i64 r] 57)) := (Below.refl _ _).alloc (Nat.le_refl _) _
                        exact ⟨grown_cell ((bb.cell (p := ⟨wo.heap.size, 0, none⟩) hl3).trans C5.out.1) hgrow hne, grown_cell ((bb.cell (p := ⟨wo.heap.size, 1, none⟩) hl3).trans C5.out.2) hgrow hne⟩
                      clear hown hgrow hloc O5 B5 R5 Z5 C5 jX jst2 s1 s2 t3 cn
                      go_wp2
                      exact ⟨⟨j + 1, by have := HJ.out; omega, by go_num, O6, B6, R6, X6, Z6, C6⟩, by have := HJ.out; simp [intOf]; omega⟩
                  · have d3 : decide (x ≤ q) = false := decide_eq_false cf
                    rw [if_neg cf, List.append_nil] at jst
                    replace O5 : Hid (W3.ownsRow w1.heap.size 57 3 u10 (whL (X.take k) Q ++ clp x y (Q.take (j + 1))).length (cel3 .i64 (whL (X.take k) Q ++ clp x y (Q.take (j + 1))))) := by rw [Hid, jst]; exact O5.out
                    clear cf jst
                    go_wp2
                    exact ⟨⟨j + 1, by have := HJ.out; omega, by go_num, O5, B5, R5, jX, Z5, C5⟩, by have := HJ.out; simp [intOf]; omega⟩
              · by_cases c2 : y < q
                · skip
                  have d1 : decide (p < x) = false := decide_eq_false c1
                  have d2 : decide (y < q) = true := decide_eq_true c2
                  rw [if_neg c1, if_pos c2] at jst
                  clear c1 c2
                  by_cases cf : p ≤ y
                  · have d3 : decide (p ≤ y) = true := decide_eq_true cf
                    have jst2 : Hid (whL (X.take k) Q ++ clp x y (Q.take (j + 1)) = (whL (X.take k) Q ++ clp x y (Q.take j)) ++ [(p, y, r)]) := by rw [Hid, jst, if_pos cf, List.append_assoc]
                    have hb5 : w1.heap.size ≤ W3.heap.size := B5.out.size
                    clear cf jst
                    generalize whL (X.take k) Q ++ clp x y (Q.take j) = PP at *
                    have cn : Hid (∀ j' u, [Value.int .i64 p, .int .i64 y, .int .i64 r][j']? = some u → (W3.alloc (.cells #[.int .i64 p, .int .i64 y, .int .i64 r] 57)).cell? ((⟨W3.heap.size, 0, none⟩ : Addr).add j') = some u) := cells_new W3 #[.int .i64 p, .int .i64 y, .int .i64 r] 57
                    go_wp2_with (at_builtin; refine wpList_append_own_at _ rfl _ _ 30 rfl w1.heap.size 57 i0 _ 3 24 Try.underlying30 hi hz0 hz1 hz2 rfl (by decide) _ _ _ rfl (O5.out.alloc _) ⟨_, 0, none⟩ 1 1 [.int .i64 p, .int .i64 y, .int .i64 r] rfl rfl cn.out ?b012 ?b013 ?b014 ?b015 ?b016)
                    case b012 => simp [Value.oneCell']
                    case b013 => unfold maxLen; have := jln.out; omega
                    case b014 => have := jln.out; omega
                    case b015 => first | omega | (simp; omega)
                    case b016 =>
                      intro v6 W6 hown hgrow _ hloc
                      have O6 : Hid (W6.ownsRow w1.heap.size 57 3 v6 (whL (X.take k) Q ++ clp x y (Q.take (j + 1))).length (cel3 .i64 (whL (X.take k) Q ++ clp x y (Q.take (j + 1))))) := by rw [Hid, jst2.out, cel3_snoc, List.length_append]; exact hown
                      have B6 : Hid (Below w1.heap.size w1 W6) := (B5.out.alloc hb5 _).grown hgrow (by simp; omega) (fun i hi => (O5.out.lt i hi).1)
                      have R6 : Hid (Rd3 .i64 W6 (.slice (some ⟨g', off', none⟩) Q.length qc) Q) := Rd3.kept (R5.out.below ((Below.refl _ _).alloc (Nat.le_refl _) _)) hgrow (fun b hb e => by
                        have h1 := hvc.out b hb
                        have h2 := jX.out b e
                        omega)
                      have X6 : Hid (∀ b, v6.ownBlock = some b → b < wo.heap.size ∨ wc.heap.size ≤ b) := fun b hb => by
                        rcases hloc with h | h
                        · exact jX.out b (by rw [← h]; exact hb)
                        · rw [h] at hb
                          cases hb
                          exact .inr (by have := Z5.out; simp; omega)
                      have Z6 : Hid (wc.heap.size ≤ W6.heap.size) := by rw [Hid]; have := hgrow.size; have := Z5.out; simp at *; omega
                      have C6 : Hid (W6.cell? ⟨wo.heap.size, 0, none⟩ = some (.int .i64 x) ∧ W6.cell? ⟨wo.heap.size, 1, none⟩ = some (.int .i64 y)) := by
                        have hne : u10.ownBlock ≠ some wo.heap.size := fun e => by have := jX.out _ e; have := hsz.out; omega
                        have hl3 : wo.heap.size < W3.heap.size := by have := Z5.out; have := hsz.out; omega
                        have bb : Below W3.heap.size W3 (W3.alloc (.cells #[.int .i64 p, .int .i64 y, .int .i64 r] 57)) := (Below.refl _ _).alloc (Nat.le_refl _) _
                        exact ⟨grown_cell ((bb.cell (p := ⟨wo.heap.size, 0, none⟩) hl3).trans C5.out.1) hgrow hne, grown_cell ((bb.cell (p := ⟨wo.heap.size, 1, none⟩) hl3).trans C5.out.2) hgrow hne⟩
                      clear hown hgrow hloc O5 B5 R5 Z5 C5 jX jst2 s1 s2 t3 cn
                      go_wp2
                      exact ⟨⟨j + 1, by have := HJ.out; omega, by go_num, O6, B6, R6, X6, Z6, C6⟩, by have := HJ.out; simp [intOf]; omega⟩
                  · have d3 : decide (p ≤ y) = false := decide_eq_false cf
                    rw [if_neg cf, List.append_nil] at jst
                    replace O5 : Hid (W3.ownsRow w1.heap.size 57 3 u10 (whL (X.take k) Q ++ clp x y (Q.take (j + 1))).length (cel3 .i64 (whL (X.take k) Q ++ clp x y (Q.take (j + 1))))) := by rw [Hid, jst]; exact O5.out
                    clear cf jst
                    go_wp2
                    exact ⟨⟨j + 1, by have := HJ.out; omega, by go_num, O5, B5, R5, jX, Z5, C5⟩, by have := HJ.out; simp [intOf]; omega⟩
                · skip
                  have d1 : decide (p < x) = false := decide_eq_false c1
                  have d2 : decide (y < q) = false := decide_eq_false c2
                  rw [if_neg c1, if_neg c2] at jst
                  clear c1 c2
                  by_cases cf : p ≤ q
                  · have d3 : decide (p ≤ q) = true := decide_eq_true cf
                    have jst2 : Hid (whL (X.take k) Q ++ clp x y (Q.take (j + 1)) = (whL (X.take k) Q ++ clp x y (Q.take j)) ++ [(p, q, r)]) := by rw [Hid, jst, if_pos cf, List.append_assoc]
                    have hb5 : w1.heap.size ≤ W3.heap.size := B5.out.size
                    clear cf jst
                    generalize whL (X.take k) Q ++ clp x y (Q.take j) = PP at *
                    have cn : Hid (∀ j' u, [Value.int .i64 p, .int .i64 q, .int .i64 r][j']? = some u → (W3.alloc (.cells #[.int .i64 p, .int .i64 q, .int .i64 r] 57)).cell? ((⟨W3.heap.size, 0, none⟩ : Addr).add j') = some u) := cells_new W3 #[.int .i64 p, .int .i64 q, .int .i64 r] 57
                    go_wp2_with (at_builtin; refine wpList_append_own_at _ rfl _ _ 30 rfl w1.heap.size 57 i0 _ 3 24 Try.underlying30 hi hz0 hz1 hz2 rfl (by decide) _ _ _ rfl (O5.out.alloc _) ⟨_, 0, none⟩ 1 1 [.int .i64 p, .int .i64 q, .int .i64 r] rfl rfl cn.out ?b002 ?b003 ?b004 ?b005 ?b006)
                    case b002 => simp [Value.oneCell']
                    case b003 => unfold maxLen; have := jln.out; omega
                    case b004 => have := jln.out; omega
                    case b005 => first | omega | (simp; omega)
                    case b006 =>
                      intro v6 W6 hown hgrow _ hloc
                      have O6 : Hid (W6.ownsRow w1.heap.size 57 3 v6 (whL (X.take k) Q ++ clp x y (Q.take (j + 1))).length (cel3 .i64 (whL (X.take k) Q ++ clp x y (Q.take (j + 1))))) := by rw [Hid, jst2.out, cel3_snoc, List.length_append]; exact hown
                      have B6 : Hid (Below w1.heap.size w1 W6) := (B5.out.alloc hb5 _).grown hgrow (by simp; omega) (fun i hi => (O5.out.lt i hi).1)
                      have R6 : Hid (Rd3 .i64 W6 (.slice (some ⟨g', off', none⟩) Q.length qc) Q) := Rd3.kept (R5.out.below ((Below.refl _ _).alloc (Nat.le_refl _) _)) hgrow (fun b hb e => by
                        have h1 := hvc.out b hb
                        have h2 := jX.out b e
                        omega)
                      have X6 : Hid (∀ b, v6.ownBlock = some b → b < wo.heap.size ∨ wc.heap.size ≤ b) := fun b hb => by
                        rcases hloc with h | h
                        · exact jX.out b (by rw [← h]; exact hb)
                        · rw [h] at hb
                          cases hb
                          exact .inr (by have := Z5.out; simp; omega)
                      have Z6 : Hid (wc.heap.size ≤ W6.heap.size) := by rw [Hid]; have := hgrow.size; have := Z5.out; simp at *; omega
                      have C6 : Hid (W6.cell? ⟨wo.heap.size, 0, none⟩ = some (.int .i64 x) ∧ W6.cell? ⟨wo.heap.size, 1, none⟩ = some (.int .i64 y)) := by
                        have hne : u10.ownBlock ≠ some wo.heap.size := fun e => by have := jX.out _ e; have := hsz.out; omega
                        have hl3 : wo.heap.size < W3.heap.size := by have := Z5.out; have := hsz.out; omega
                        have bb : Below W3.heap.size W3 (W3.alloc (.cells #[.int .i64 p, .int .i64 q, .int .i64 r] 57)) := (Below.refl _ _).alloc (Nat.le_refl _) _
                        exact ⟨grown_cell ((bb.cell (p := ⟨wo.heap.size, 0, none⟩) hl3).trans C5.out.1) hgrow hne, grown_cell ((bb.cell (p := ⟨wo.heap.size, 1, none⟩) hl3).trans C5.out.2) hgrow hne⟩
                      clear hown hgrow hloc O5 B5 R5 Z5 C5 jX jst2 s1 s2 t3 cn
                      go_wp2
                      exact ⟨⟨j + 1, by have := HJ.out; omega, by go_num, O6, B6, R6, X6, Z6, C6⟩, by have := HJ.out; simp [intOf]; omega⟩
                  · have d3 : decide (p ≤ q) = false := decide_eq_false cf
                    rw [if_neg cf, List.append_nil] at jst
                    replace O5 : Hid (W3.ownsRow w1.heap.size 57 3 u10 (whL (X.take k) Q ++ clp x y (Q.take (j + 1))).length (cel3 .i64 (whL (X.take k) Q ++ clp x y (Q.take (j + 1))))) := by rw [Hid, jst]; exact O5.out
                    clear cf jst
                    go_wp2
                    exact ⟨⟨j + 1, by have := HJ.out; omega, by go_num, O5, B5, R5, jX, Z5, C5⟩, by have := HJ.out; simp [intOf]; omega⟩
            · have jl : decide ((j : Int) < (Q.length : Int)) = false := decide_eq_false (by omega)
              have jl2 : ¬ ((j : Int) < (Q.length : Int)) := by omega
              have O6 : Hid (wr.ownsRow w1.heap.size 57 3 u10 (whL (X.take (k + 1)) Q).length (cel3 .i64 (whL (X.take (k + 1)) Q))) := by
                have := jO.out
                rw [show Q.take j = Q from List.take_of_length_le (by omega)] at this
                rw [Hid, hstep.out]
                exact this
              clear jO jR jX jZ jC hjl
              go_wp2
              exact ⟨⟨k + 1, by have := HK.out; omega, by go_num, O6, jB⟩, by have := HK.out; simp [intOf]; omega⟩
        · have kl : decide ((k : Int) < (X.length : Int)) = false := decide_eq_false (by omega)
          have kl2 : ¬ ((k : Int) < (X.length : Int)) := by omega
          have R7 : Hid (Rd3 .i64 wo u10 (whL X Q)) := by
            have := Rd3.of_owns hO.out
            rw [List.take_of_length_le (by omega)] at this
            exact this
          have R8 : Hid (Rd3 .i64 wo vo A) := RO.out.below hB.out
          have B7 : Hid (Below w.heap.size w wo) := B1.out.trans (hB.out.mono B1.out.size)
          clear hO hB hkl
          go_wp2_with (go_at_call 57; refine (KO.out _ _ _ R8.out R7.out).mono ?_)
          first | rintro e W9 v9 rfl r9 b9 | rintro e W9 ⟨v9, rfl, r9, b9⟩
          have R9 : Hid (Rd3 .i64 W9 v9 RS) := r9
          have B9 : Hid (Below w.heap.size w W9) := B7.out.trans (b9.mono B7.out.size)
          clear r9 b9
          go_wp2
          go_ret
          exact ⟨_, rfl, R9.out, B9.out⟩
end Go.Proofs.Ytookbgmolggohab
