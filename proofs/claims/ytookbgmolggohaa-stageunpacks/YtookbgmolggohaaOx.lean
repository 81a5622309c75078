/-
  The contract of the document's Over: rows laid over rows. Conditions: the rows rise; the lists are no longer than 2000000.
-/
import Derived.Test.YtookbgmolggohaaOw
import Derived.Test.YtookbgmolggohaaSt
import Derived.BigQuiet
import Derived.Deep.QuietTactic
namespace Go.Proofs.Ytookbgmolggohaa
open Go.RowKit
theorem lkr {L : List Rw} (h : okF 0 L) : ∀ p, 0 ≤ lk L p ∧ lk L p ≤ 65535 := over_range (fun _ => by unfold nought; omega) h
theorem gmem {Y : List Rw} {k : Nat} (hk : k < Y.length) : Y.getD k (0, 0, 0) ∈ Y := by
  rw [show Y.getD k (0, 0, 0) = Y[k] by simp [List.getD, List.getElem?_eq_getElem hk]]
  exact List.getElem_mem hk
theorem flat_take {α β : Type} (g : α → List β) (l : List α) (k : Nat) : ((l.take k).flatMap g).length ≤ (l.flatMap g).length := by
  conv => rhs; rw [← List.take_append_drop k l, List.flatMap_append, List.length_append]
  omega
theorem flat_step {β : Type} (g : Rw → List β) {l : List Rw} {k : Nat} (h : k < l.length) : (l.take (k + 1)).flatMap g = (l.take k).flatMap g ++ g (l.getD k (0, 0, 0)) := by
  rw [List.take_add_one, List.getElem?_eq_getElem h, List.flatMap_append]
  simp [List.getD, List.getElem?_eq_getElem h]
theorem ovr_len {L later : List Rw} (hok : okF 0 L) (hoq : okF 0 later) : (ovr later (runsL L) (runsL later)).length ≤ 1114112 := by
  have := (ovr_tl hoq (runs_rn hoq).tl (runs_rn hok).tl (by decide) (by decide)).len
  omega
theorem ovr_bound {L later : List Rw} (hok : okF 0 L) (hoq : okF 0 later) {k j : Nat} (hk : k < (runsL L).length) : (ovr later ((runsL L).take k) (runsL later) ++ ovr2 later ((runsL later).take j) ((runsL L).getD k (0, 0, 0))).length ≤ 1114112 := by
  have h1 := flat_take (ovr2 later (runsL later)) (runsL L) (k + 1)
  rw [flat_step _ hk] at h1
  have h2 := flat_take (ovr1 later ((runsL L).getD k (0, 0, 0))) (runsL later) j
  have h3 := ovr_len hok hoq
  unfold ovr at h3 ⊢
  unfold ovr2 at *
  rw [List.length_append] at *
  omega
theorem cut_ne {later : List Rw} (hoq : okF 0 later) {f t n : Int} (h : f ≤ t) : 0 < (cutL later f t n).length := by
  have := cut_tl (F := over (fun _ => n) later) (n := n) (t := t) (f0 := f) later ([], f) 0 hoq rfl (by simp only; omega) (.inl h) (fun _ _ _ => rfl)
  rcases hq : cutL later f t n with _ | ⟨r, X⟩
  · rw [show cutE n t (later.foldl (cutS n t) ([], f)) = cutL later f t n from rfl, hq] at this
    have : f = t + 1 := this
    omega
  · simp
theorem grown_cell {w w' : World} {row : Option Nat} {g i : Nat} {v : Value} (h : w.cell? ⟨g, i, none⟩ = some v) (hg : w.grownBy w' row) (hn : row ≠ some g) : w'.cell? ⟨g, i, none⟩ = some v := by
  rw [← h]
  exact World.cell?_of_block (hg.block g (by simpa using World.block_lt_of_cell? w _ h) (fun e => hn e.symm))
theorem cel3_app (k : IntKind) (X Y : List Rw) : cel3 k (X ++ Y) = cel3 k X ++ cel3 k Y := by simp [cel3]
theorem cel3_one (k : IntKind) (L : List Rw) : ∀ u ∈ cel3 k L, u.oneCell' = true := fun u hu => by
  simp only [cel3, List.mem_flatMap] at hu
  obtain ⟨s, _, hs⟩ := hu
  simp at hs
  rcases hs with rfl | rfl | rfl <;> rfl
set_option maxRecDepth 100000 in
set_option maxHeartbeats 4000000 in
theorem rover_any (L later : List Rw) (v u : Value) (w : World) (hr : Rd3 .i64 w v L) (hq : Rd3 .i64 w u later) (hok : okF 0 L) (hoq : okF 0 later) (hl : L.length ≤ 2000000) (hl2 : later.length ≤ 2000000) : Calls Try.prog 18 #[v, u] w fun e w' => ∃ v', e = .returned v' ∧ Rd3 .i64 w' v' (lst (runsL (ovr later (runsL L) (runsL later)))) ∧ Below w.heap.size w w' := by
  obtain ⟨i0, hi, hz0, hz1, hz2⟩ := info_parts info33
  have htl := ovr_tl hoq (runs_rn hoq).tl (runs_rn hok).tl (by decide) (by decide)
  have hokO : okF 0 (ovr later (runsL L) (runsL later)) := htl.ok (over_range (lkr hok) hoq) (by decide)
  have HLE : Hid (∀ W v1, Rd3 .i64 W v1 (ovr later (runsL L) (runsL later)) → Calls Try.prog 21 #[v1] W fun e w' => ∃ v', e = .returned v' ∧ w'.ownsRow W.heap.size 33 3 v' (lst (runsL (ovr later (runsL L) (runsL later)))).length (cel3 .i64 (lst (runsL (ovr later (runsL L) (runsL later))))) ∧ Below W.heap.size W w') := fun W v1 h1 => least_any _ v1 W h1 hokO (by have := ovr_len hok hoq; omega) (by have := runsL_len (ovr later (runsL L) (runsL later)); have := ovr_len hok hoq; omega)
  have HB : Hid (∀ k j, k < (runsL L).length → (ovr later ((runsL L).take k) (runsL later) ++ ovr2 later ((runsL later).take j) ((runsL L).getD k (0, 0, 0))).length ≤ 1114112) := fun k j hk => ovr_bound hok hoq hk
  have HC : Hid (∀ W f t n, Below w.heap.size w W → 0 ≤ t → t ≤ 1114111 → Calls Try.prog 38 #[u, .int .i64 f, .int .i64 t, .int .i64 n] W fun e w' => ∃ v', e = .returned v' ∧ w'.ownsRow W.heap.size 33 3 v' (cutL later f t n).length (cel3 .i64 (cutL later f t n)) ∧ Below W.heap.size W w') := fun W f t n hW h0 h1 => cut_any later f t n u W (hq.below hW) hoq (by omega) h0 h1
  have HN : Hid (∀ f t n, f ≤ t → 0 < (cutL later f t n).length) := fun f t n h => cut_ne hoq h
  have HA : Hid (∀ k, k < (runsL L).length → 0 ≤ ((runsL L).getD k (0, 0, 0)).1 ∧ ((runsL L).getD k (0, 0, 0)).1 ≤ ((runsL L).getD k (0, 0, 0)).2.1 ∧ ((runsL L).getD k (0, 0, 0)).2.1 ≤ 1114111) := fun k hk => by
    have := (runs_rn hok).tl.mem ((runsL L).getD k (0, 0, 0)) (gmem hk)
    omega
  have HBm : Hid (∀ k, k < (runsL later).length → 0 ≤ ((runsL later).getD k (0, 0, 0)).1 ∧ ((runsL later).getD k (0, 0, 0)).1 ≤ ((runsL later).getD k (0, 0, 0)).2.1 ∧ ((runsL later).getD k (0, 0, 0)).2.1 ≤ 1114111) := fun k hk => by
    have := (runs_rn hoq).tl.mem ((runsL later).getD k (0, 0, 0)) (gmem hk)
    omega
  have hlA : (runsL L).length ≤ 4000001 := by have := runsL_len L; omega
  have hlB : (runsL later).length ≤ 4000001 := by have := runsL_len later; omega
  have B0 : Below w.heap.size w (w.alloc (.cells #[] 33)) := (Below.refl _ _).alloc (Nat.le_refl _) _
  have KA : Hid (∀ W, Below w.heap.size w W → Calls Try.prog 12 #[v] W fun e w' => ∃ v', e = .returned v' ∧ w'.ownsRow W.heap.size 33 3 v' (runsL L).length (cel3 .i64 (runsL L)) ∧ Below W.heap.size W w') := fun W hW => runs_any L v W (hr.below hW) hok (by omega)
  have KB : Hid (∀ W, Below w.heap.size w W → Calls Try.prog 12 #[u] W fun e w' => ∃ v', e = .returned v' ∧ w'.ownsRow W.heap.size 33 3 v' (runsL later).length (cel3 .i64 (runsL later)) ∧ Below W.heap.size W w') := fun W hW => runs_any later u W (hq.below hW) hoq (by omega)
  replace B0 : Hid (Below w.heap.size w (w.alloc (.cells #[] 33))) := B0
  have O0 : Hid ((w.alloc (.cells #[] 33)).ownsRow w.heap.size 33 3 (.slice (some ⟨w.heap.size, 0, none⟩) 0 0) 0 []) := own_none w _ 33 3 (Nat.le_refl _)
  clear hr hq hok hoq htl hokO hl hl2
  generalize hOe : ovr later (runsL L) (runsL later) = OO at *
  generalize runsL L = A at *
  generalize runsL later = B at *
  replace hOe : Hid (ovr later A B = OO) := hOe
  go_enter Try.func18, Try.ntmps18
  go_wp2_with (go_at_call 12; refine (KA.out _ B0.out).mono ?_)
  first | rintro e wa va rfl oa ba | rintro e wa ⟨va, rfl, oa, ba⟩
  have Ba : Hid (Below w.heap.size w wa) := B0.out.trans (ba.mono (by simp))
  have Oa : Hid (wa.ownsRow w.heap.size 33 3 (.slice (some ⟨w.heap.size, 0, none⟩) 0 0) 0 []) := owns_below O0.out ba
  have Ra : Hid (Rd3 .i64 wa va A) := Rd3.of_owns oa
  have hva : Hid (∀ g, va.ownBlock = some g → w.heap.size + 1 ≤ g ∧ g < wa.heap.size) := fun g hg => by
    obtain ⟨h1, cur, h2⟩ := own_in oa hg
    have := (Array.getElem?_eq_some_iff.1 h2).1
    simp at h1
    omega
  obtain ⟨av, cv, rfl, -, -⟩ := owns_slice oa
  have hsa : Hid (w.heap.size + 1 ≤ wa.heap.size) := by rw [Hid]; have := ba.size; simpa using this
  clear oa ba KA B0 O0
  go_wp2_with (go_at_call 12; refine (KB.out _ Ba.out).mono ?_)
  first | rintro e wb vb rfl ob bb | rintro e wb ⟨vb, rfl, ob, bb⟩
  have Bb : Hid (Below w.heap.size w wb) := Ba.out.trans (bb.mono Ba.out.size)
  have Ob : Hid (wb.ownsRow w.heap.size 33 3 (.slice (some ⟨w.heap.size, 0, none⟩) 0 0) 0 []) := owns_below Oa.out bb
  replace Ra : Hid (Rd3 .i64 wb (.slice av A.length cv) A) := Ra.out.below bb
  have Rb : Hid (Rd3 .i64 wb vb B) := Rd3.of_owns ob
  have hvb : Hid (∀ g, vb.ownBlock = some g → w.heap.size + 1 ≤ g ∧ g < wb.heap.size) := fun g hg => by
    obtain ⟨h1, cur, h2⟩ := own_in ob hg
    have := (Array.getElem?_eq_some_iff.1 h2).1
    have := hsa.out
    omega
  replace hva : Hid (∀ g, (Value.slice av A.length cv).ownBlock = some g → w.heap.size + 1 ≤ g ∧ g < wb.heap.size) := fun g hg => by have := hva.out g hg; have := bb.size; omega
  obtain ⟨bv, dv, rfl, -, -⟩ := owns_slice ob
  clear ob bb KB Ba Oa hsa
  have hlA' : (A.length : Int) ≤ 4000001 := by omega
  have hlB' : (B.length : Int) ≤ 4000001 := by omega
  replace hlA : Hid (A.length ≤ 4000001) := hlA
  replace hlB : Hid (B.length ≤ 4000001) := hlB
  go_wp2_with fail
  go_loopw [5, 21] (fun x y wr => ∃ k : Nat, k ≤ A.length ∧ y = .int .i64 (k : Nat) ∧ Hid (wr.ownsRow w.heap.size 33 3 x (ovr later (A.take k) B).length (cel3 .i64 (ovr later (A.take k) B))) ∧ Hid (Below w.heap.size w wr) ∧ Hid (Rd3 .i64 wr (.slice av A.length cv) A) ∧ Hid (Rd3 .i64 wr (.slice bv B.length dv) B) ∧ Hid (x.ownBlock = some w.heap.size ∨ ∃ g, x.ownBlock = some g ∧ wb.heap.size ≤ g) ∧ Hid (wb.heap.size ≤ wr.heap.size)) (fun _ y _ => (A.length - (intOf y).toNat : Nat))
  case atStart => exact ⟨0, Nat.zero_le _, rfl, Ob, Bb, Ra, Rb, .inl rfl, Nat.le_refl _⟩
  case round =>
    obtain ⟨k, hk, rfl, hO, hBl, hRa, hRb, hX, hZ⟩ := hrel
    obtain ⟨wo, hwo⟩ : ∃ wo, wo = wr := ⟨_, rfl⟩
    subst hwo
    have hbsz := hBl.out.size
    clear Ob Bb Ra Rb
    by_cases hkl : k < A.length
    · obtain ⟨a2, c2, e2, -, hc⟩ := hRa.out
      obtain ⟨rfl, rfl⟩ : av = a2 ∧ cv = c2 := by simpa using e2
      obtain ⟨g, off, rfl, hd⟩ := hc (by omega)
      obtain ⟨e1, e2', e3⟩ := hd k hkl
      have kl : (k : Int) < (A.length : Int) := by omega
      have hstep := flat_step (ovr2 later B) hkl
      have hbk := fun j => HB.out k j hkl
      obtain ⟨m1, m2, m3⟩ := HA.out k hkl
      clear hd hc e2
      generalize A.getD k (0, 0, 0) = s at *
      obtain ⟨x, y, z⟩ := s
      simp only at e1 e2' e3 m1 m2 m3
      replace hstep : Hid ((A.take (k + 1)).flatMap (ovr2 later B) = (A.take k).flatMap (ovr2 later B) ++ ovr2 later B (x, y, z)) := hstep
      replace hbk : Hid (∀ j, (ovr later (A.take k) B ++ ovr2 later (B.take j) (x, y, z)).length ≤ 1114112) := hbk
      obtain ⟨q1, q2, q3⟩ := box3 wo (.int .i64 x) (.int .i64 y) (.int .i64 z) 33
      have bA : Below wo.heap.size wo (wo.alloc (.cells #[.int .i64 x, .int .i64 y, .int .i64 z] 33)) := (Below.refl _ _).alloc (Nat.le_refl _) _
      have B1 : Hid (Below w.heap.size w (wo.alloc (.cells #[.int .i64 x, .int .i64 y, .int .i64 z] 33))) := hBl.out.alloc hbsz _
      have O1 : Hid ((wo.alloc (.cells #[.int .i64 x, .int .i64 y, .int .i64 z] 33)).ownsRow w.heap.size 33 3 u5 (ovr later (A.take k) B).length (cel3 .i64 (ovr later (A.take k) B))) := hO.out.alloc _
      have Ra1 : Hid (Rd3 .i64 (wo.alloc (.cells #[.int .i64 x, .int .i64 y, .int .i64 z] 33)) (.slice (some ⟨g, off, none⟩) A.length cv) A) := hRa.out.below bA
      have Rb1 : Hid (Rd3 .i64 (wo.alloc (.cells #[.int .i64 x, .int .i64 y, .int .i64 z] 33)) (.slice bv B.length dv) B) := hRb.out.below bA
      have X1 : Hid (u5.ownBlock ≠ some wo.heap.size) := fun e => by
        obtain ⟨_, cur, h⟩ := own_in hO.out e
        have := (Array.getElem?_eq_some_iff.1 h).1
        omega
      have Z1 : Hid (wb.heap.size ≤ (wo.alloc (.cells #[.int .i64 x, .int .i64 y, .int .i64 z] 33)).heap.size ∧ wo.heap.size < (wo.alloc (.cells #[.int .i64 x, .int .i64 y, .int .i64 z] 33)).heap.size) := by rw [Hid]; have := hZ.out; simp; omega
      have C1 : Hid ((wo.alloc (.cells #[.int .i64 x, .int .i64 y, .int .i64 z] 33)).cell? ⟨wo.heap.size, 0, none⟩ = some (.int .i64 x) ∧ (wo.alloc (.cells #[.int .i64 x, .int .i64 y, .int .i64 z] 33)).cell? ⟨wo.heap.size, 1, none⟩ = some (.int .i64 y) ∧ (wo.alloc (.cells #[.int .i64 x, .int .i64 y, .int .i64 z] 33)).cell? ⟨wo.heap.size, 2, none⟩ = some (.int .i64 z)) := ⟨q1, q2, q3⟩
      clear hO hBl hRa hRb hZ bA q1 q2 q3
      go_wp2_with fail
      go_loopw [5, 27] (fun x' y' wi => ∃ j : Nat, j ≤ B.length ∧ y' = .int .i64 (j : Nat) ∧ Hid (wi.ownsRow w.heap.size 33 3 x' (ovr later (A.take k) B ++ ovr2 later (B.take j) (x, y, z)).length (cel3 .i64 (ovr later (A.take k) B ++ ovr2 later (B.take j) (x, y, z)))) ∧ Hid (Below w.heap.size w wi) ∧ Hid (Rd3 .i64 wi (.slice (some ⟨g, off, none⟩) A.length cv) A) ∧ Hid (Rd3 .i64 wi (.slice bv B.length dv) B) ∧ Hid (x'.ownBlock = some w.heap.size ∨ ∃ g, x'.ownBlock = some g ∧ wb.heap.size ≤ g) ∧ Hid (x'.ownBlock ≠ some wo.heap.size) ∧ Hid (wb.heap.size ≤ wi.heap.size ∧ wo.heap.size < wi.heap.size) ∧ Hid (wi.cell? ⟨wo.heap.size, 0, none⟩ = some (.int .i64 x) ∧ wi.cell? ⟨wo.heap.size, 1, none⟩ = some (.int .i64 y) ∧ wi.cell? ⟨wo.heap.size, 2, none⟩ = some (.int .i64 z))) (fun _ y' _ => (B.length - (intOf y').toNat : Nat))
      case atStart => exact ⟨0, Nat.zero_le _, rfl, by rw [show ovr2 later (B.take 0) (x, y, z) = [] from rfl, List.append_nil]; exact O1, B1, Ra1, Rb1, hX, X1, Z1, C1⟩
      case round =>
        obtain ⟨j, hj, rfl, jO, jB, jRa, jRb, jX, jN, jZ, jC⟩ := hrel
        have jbsz := jB.out.size
        clear O1 B1 Ra1 Rb1 X1 Z1 C1 hX
        by_cases hjl : j < B.length
        · obtain ⟨a2, c2, e2, -, hc⟩ := jRb.out
          obtain ⟨rfl, rfl⟩ : bv = a2 ∧ dv = c2 := by simpa using e2
          obtain ⟨g', off', rfl, hd⟩ := hc (by omega)
          obtain ⟨f1, f2, f3⟩ := hd j hjl
          have jl : (j : Int) < (B.length : Int) := by omega
          have jstep := flat_step (ovr1 later (x, y, z)) hjl
          have jlen := hbk.out (j + 1)
          obtain ⟨n1, n2, n3⟩ := HBm.out j hjl
          clear hd hc e2
          generalize B.getD j (0, 0, 0) = s at *
          obtain ⟨p, q, r⟩ := s
          simp only at f1 f2 f3 n1 n2 n3
          obtain ⟨t1, t2, t3⟩ := box3 wr (.int .i64 p) (.int .i64 q) (.int .i64 r) 33
          have bA : Below wr.heap.size wr (wr.alloc (.cells #[.int .i64 p, .int .i64 q, .int .i64 r] 33)) := (Below.refl _ _).alloc (Nat.le_refl _) _
          have B2 : Hid (Below w.heap.size w (wr.alloc (.cells #[.int .i64 p, .int .i64 q, .int .i64 r] 33))) := jB.out.alloc jbsz _
          have O2 : Hid ((wr.alloc (.cells #[.int .i64 p, .int .i64 q, .int .i64 r] 33)).ownsRow w.heap.size 33 3 u5 (ovr later (A.take k) B ++ ovr2 later (B.take j) (x, y, z)).length (cel3 .i64 (ovr later (A.take k) B ++ ovr2 later (B.take j) (x, y, z)))) := jO.out.alloc _
          have Ra2 : Hid (Rd3 .i64 (wr.alloc (.cells #[.int .i64 p, .int .i64 q, .int .i64 r] 33)) (.slice (some ⟨g, off, none⟩) A.length cv) A) := jRa.out.below bA
          have Rb2 : Hid (Rd3 .i64 (wr.alloc (.cells #[.int .i64 p, .int .i64 q, .int .i64 r] 33)) (.slice (some ⟨g', off', none⟩) B.length dv) B) := jRb.out.below bA
          have Z2 : Hid (wb.heap.size ≤ (wr.alloc (.cells #[.int .i64 p, .int .i64 q, .int .i64 r] 33)).heap.size ∧ wo.heap.size < (wr.alloc (.cells #[.int .i64 p, .int .i64 q, .int .i64 r] 33)).heap.size) := by rw [Hid]; have := jZ.out; simp; omega
          obtain ⟨s1, s2, s3⟩ : (wr.alloc (.cells #[.int .i64 p, .int .i64 q, .int .i64 r] 33)).cell? ⟨wo.heap.size, 0, none⟩ = some (.int .i64 x) ∧ (wr.alloc (.cells #[.int .i64 p, .int .i64 q, .int .i64 r] 33)).cell? ⟨wo.heap.size, 1, none⟩ = some (.int .i64 y) ∧ (wr.alloc (.cells #[.int .i64 p, .int .i64 q, .int .i64 r] 33)).cell? ⟨wo.heap.size, 2, none⟩ = some (.int .i64 z) := by
            obtain ⟨y1, y2, y3⟩ := jC.out
            have hlt : wo.heap.size < wr.heap.size := jZ.out.2
            exact ⟨(bA.cell (p := ⟨wo.heap.size, 0, none⟩) hlt).trans y1, (bA.cell (p := ⟨wo.heap.size, 1, none⟩) hlt).trans y2, (bA.cell (p := ⟨wo.heap.size, 2, none⟩) hlt).trans y3⟩
          rw [show (B.take (j + 1)).flatMap (ovr1 later (x, y, z)) = ovr2 later (B.take (j + 1)) (x, y, z) from rfl, show (B.take j).flatMap (ovr1 later (x, y, z)) = ovr2 later (B.take j) (x, y, z) from rfl] at jstep
          rw [jstep, ← List.append_assoc] at jlen
          simp only [ovr1, mxI, mnI] at jstep jlen
          replace jlen : Hid _ := jlen
          clear jO jB jRa jRb jZ jC bA
          go_wp2_with fail
          go_quiet (fail)
          have bD : Below (wr.alloc (.cells #[.int .i64 p, .int .i64 q, .int .i64 r] 33)).heap.size (wr.alloc (.cells #[.int .i64 p, .int .i64 q, .int .i64 r] 33)) ((wr.alloc (.cells #[.int .i64 p, .int .i64 q, .int .i64 r] 33)).drewN nq) := below_drew nq (Below.refl _ _)
          replace B2 : Hid (Below w.heap.size w ((wr.alloc (.cells #[.int .i64 p, .int .i64 q, .int .i64 r] 33)).drewN nq)) := B2.out.trans (bD.mono B2.out.size)
          replace O2 : Hid (((wr.alloc (.cells #[.int .i64 p, .int .i64 q, .int .i64 r] 33)).drewN nq).ownsRow w.heap.size 33 3 u5 (ovr later (A.take k) B ++ ovr2 later (B.take j) (x, y, z)).length (cel3 .i64 (ovr later (A.take k) B ++ ovr2 later (B.take j) (x, y, z)))) := owns_below O2.out bD
          replace Ra2 : Hid (Rd3 .i64 ((wr.alloc (.cells #[.int .i64 p, .int .i64 q, .int .i64 r] 33)).drewN nq) (.slice (some ⟨g, off, none⟩) A.length cv) A) := Ra2.out.below bD
          replace Rb2 : Hid (Rd3 .i64 ((wr.alloc (.cells #[.int .i64 p, .int .i64 q, .int .i64 r] 33)).drewN nq) (.slice (some ⟨g', off', none⟩) B.length dv) B) := Rb2.out.below bD
          replace Z2 : Hid (wb.heap.size ≤ ((wr.alloc (.cells #[.int .i64 p, .int .i64 q, .int .i64 r] 33)).drewN nq).heap.size ∧ wo.heap.size < ((wr.alloc (.cells #[.int .i64 p, .int .i64 q, .int .i64 r] 33)).drewN nq).heap.size) := Z2.out
          replace s1 : ((wr.alloc (.cells #[.int .i64 p, .int .i64 q, .int .i64 r] 33)).drewN nq).cell? ⟨wo.heap.size, 0, none⟩ = some (.int .i64 x) := s1
          replace s2 : ((wr.alloc (.cells #[.int .i64 p, .int .i64 q, .int .i64 r] 33)).drewN nq).cell? ⟨wo.heap.size, 1, none⟩ = some (.int .i64 y) := s2
          replace s3 : ((wr.alloc (.cells #[.int .i64 p, .int .i64 q, .int .i64 r] 33)).drewN nq).cell? ⟨wo.heap.size, 2, none⟩ = some (.int .i64 z) := s3
          replace t1 : ((wr.alloc (.cells #[.int .i64 p, .int .i64 q, .int .i64 r] 33)).drewN nq).cell? ⟨wr.heap.size, 0, none⟩ = some (.int .i64 p) := t1
          replace t2 : ((wr.alloc (.cells #[.int .i64 p, .int .i64 q, .int .i64 r] 33)).drewN nq).cell? ⟨wr.heap.size, 1, none⟩ = some (.int .i64 q) := t2
          clear bD t3
          generalize (wr.alloc (.cells #[.int .i64 p, .int .i64 q, .int .i64 r] 33)).drewN nq = W3 at *
          have C3 : Hid (W3.cell? ⟨wo.heap.size, 0, none⟩ = some (.int .i64 x) ∧ W3.cell? ⟨wo.heap.size, 1, none⟩ = some (.int .i64 y) ∧ W3.cell? ⟨wo.heap.size, 2, none⟩ = some (.int .i64 z)) := ⟨s1, s2, s3⟩
          by_cases cx : x < p
          · by_cases cq : q < y
            · skip
              have d1 : decide (x < p) = true := decide_eq_true cx
              have d2 : decide (q < y) = true := decide_eq_true cq
              rw [if_pos cx, if_pos cq] at jstep
              replace jlen : Hid ((ovr later (A.take k) B ++ ovr2 later (B.take j) (x, y, z) ++ if p ≤ q then cutL later p q z else []).length ≤ 1114112) := by have := jlen.out; rw [if_pos cx, if_pos cq] at this; exact this
              clear cx cq
              by_cases cf : p ≤ q
              · have d3 : decide (p ≤ q) = true := decide_eq_true cf
                rw [if_pos cf] at jstep
                replace jlen : Hid ((ovr later (A.take k) B ++ ovr2 later (B.take j) (x, y, z)).length + (cutL later p q z).length ≤ 1114112) := by have := jlen.out; rw [if_pos cf, List.length_append] at this; exact this
                have KC : Hid (Calls Try.prog 38 #[u, .int .i64 p, .int .i64 q, .int .i64 z] W3 fun e w' => ∃ v', e = .returned v' ∧ w'.ownsRow W3.heap.size 33 3 v' (cutL later p q z).length (cel3 .i64 (cutL later p q z)) ∧ Below W3.heap.size W3 w') := HC.out W3 p q z B2.out (by omega) (by omega)
                have hpos : Hid (0 < (cutL later p q z).length) := HN.out _ _ _ cf
                replace jstep : Hid (ovr later (A.take k) B ++ ovr2 later (B.take (j + 1)) (x, y, z) = (ovr later (A.take k) B ++ ovr2 later (B.take j) (x, y, z)) ++ cutL later p q z) := by rw [Hid, jstep, List.append_assoc]
                clear cf
                generalize cutL later p q z = CC at *
                generalize ovr later (A.take k) B ++ ovr2 later (B.take j) (x, y, z) = PP at *
                go_wp2_with (go_at_call 38; refine KC.out.mono ?_)
                first | rintro e W4 vs rfl o4 b4 | rintro e W4 ⟨vs, rfl, o4, b4⟩
                have B4 : Hid (Below w.heap.size w W4) := B2.out.trans (b4.mono B2.out.size)
                have O4 : Hid (W4.ownsRow w.heap.size 33 3 u5 PP.length (cel3 .i64 PP)) := owns_below O2.out b4
                have Ra4 : Hid (Rd3 .i64 W4 (.slice (some ⟨g, off, none⟩) A.length cv) A) := Ra2.out.below b4
                have Rb4 : Hid (Rd3 .i64 W4 (.slice (some ⟨g', off', none⟩) B.length dv) B) := Rb2.out.below b4
                have Z4 : Hid (wb.heap.size ≤ W4.heap.size ∧ wo.heap.size < W4.heap.size) := by rw [Hid]; have := Z2.out; have := b4.size; omega
                have C4 : Hid (W4.cell? ⟨wo.heap.size, 0, none⟩ = some (.int .i64 x) ∧ W4.cell? ⟨wo.heap.size, 1, none⟩ = some (.int .i64 y) ∧ W4.cell? ⟨wo.heap.size, 2, none⟩ = some (.int .i64 z)) := by
                  obtain ⟨y1, y2, y3⟩ := C3.out
                  have hlt : wo.heap.size < W3.heap.size := Z2.out.2
                  exact ⟨(b4.cell (p := ⟨wo.heap.size, 0, none⟩) hlt).trans y1, (b4.cell (p := ⟨wo.heap.size, 1, none⟩) hlt).trans y2, (b4.cell (p := ⟨wo.heap.size, 2, none⟩) hlt).trans y3⟩
                obtain ⟨sa, sc, rfl, -, hsn⟩ := owns_slice o4
                obtain ⟨sg, rfl⟩ := hsn hpos.out
                have S4 : Hid (∀ i u, (cel3 .i64 CC)[i]? = some u → W4.cell? ((⟨sg, 0, none⟩ : Addr).add i) = some u) := fun i u h => by
                  rw [Go.WideShapes.add_plain, Nat.zero_add]
                  exact (owns_cell o4 rfl _ _ h).1
                have hb4 : w.heap.size ≤ W4.heap.size := B4.out.size
                clear o4 b4 hsn KC B2 O2 Ra2 Rb2 Z2 C3 s1 s2 s3 t1 t2
                go_wp2_with (at_builtin; refine wpList_append_own_at _ rfl _ _ 25 rfl w.heap.size 33 i0 _ 3 24 Try.underlying25 hi hz0 hz1 hz2 rfl (by decide) _ _ _ rfl O4.out ⟨sg, 0, none⟩ CC.length sc (cel3 .i64 CC) rfl (cel3_len _ _) S4.out (cel3_one _ _) ?r113 ?r114 hb4 ?r116)
                case r113 => unfold maxLen; have := jlen.out; omega
                case r114 => have := jlen.out; omega
                case r116 =>
                  intro v5 W5 hown hgrow _ hloc
                  have O5 : Hid (W5.ownsRow w.heap.size 33 3 v5 (ovr later (A.take k) B ++ ovr2 later (B.take (j + 1)) (x, y, z)).length (cel3 .i64 (ovr later (A.take k) B ++ ovr2 later (B.take (j + 1)) (x, y, z)))) := by
                    rw [Hid, jstep.out, cel3_app, List.length_append]
                    exact hown
                  have B5 : Hid (Below w.heap.size w W5) := B4.out.grown hgrow hb4 (fun i hi => (O4.out.lt i hi).1)
                  have Ra5 : Hid (Rd3 .i64 W5 (.slice (some ⟨g, off, none⟩) A.length cv) A) := Rd3.kept Ra4.out hgrow (fun g1 hg1 e => by
                    have h1 := hva.out g1 hg1
                    rcases jX.out with h | ⟨g2, h, h'⟩
                    · rw [h] at e; cases e; omega
                    · rw [h] at e; cases e; omega)
                  have Rb5 : Hid (Rd3 .i64 W5 (.slice (some ⟨g', off', none⟩) B.length dv) B) := Rd3.kept Rb4.out hgrow (fun g1 hg1 e => by
                    have h1 := hvb.out g1 hg1
                    rcases jX.out with h | ⟨g2, h, h'⟩
                    · rw [h] at e; cases e; omega
                    · rw [h] at e; cases e; omega)
                  have X5 : Hid (v5.ownBlock = some w.heap.size ∨ ∃ g, v5.ownBlock = some g ∧ wb.heap.size ≤ g) := by
                    rcases hloc with h | h
                    · rw [Hid, h]; exact jX.out
                    · exact .inr ⟨_, h, Z4.out.1⟩
                  have N5 : Hid (v5.ownBlock ≠ some wo.heap.size) := by
                    rcases hloc with h | h
                    · rw [Hid, h]; exact jN.out
                    · rw [Hid, h]
                      intro e
                      have := Option.some.inj e
                      have := Z4.out.2
                      omega
                  have Z5 : Hid (wb.heap.size ≤ W5.heap.size ∧ wo.heap.size < W5.heap.size) := by rw [Hid]; have := Z4.out; have := hgrow.size; omega
                  have C5 : Hid (W5.cell? ⟨wo.heap.size, 0, none⟩ = some (.int .i64 x) ∧ W5.cell? ⟨wo.heap.size, 1, none⟩ = some (.int .i64 y) ∧ W5.cell? ⟨wo.heap.size, 2, none⟩ = some (.int .i64 z)) := ⟨grown_cell C4.out.1 hgrow jN.out, grown_cell C4.out.2.1 hgrow jN.out, grown_cell C4.out.2.2 hgrow jN.out⟩
                  clear hown hgrow hloc O4 B4 Ra4 Rb4 Z4 C4 S4 jX jN jstep jlen
                  go_wp2
                  exact ⟨⟨j + 1, by omega, by go_num, O5, B5, Ra5, Rb5, X5, N5, Z5, C5⟩, by simp [intOf]; omega⟩
              · exact absurd n2 cf
            · skip
              have d1 : decide (x < p) = true := decide_eq_true cx
              have d2 : decide (q < y) = false := decide_eq_false cq
              rw [if_pos cx, if_neg cq] at jstep
              replace jlen : Hid ((ovr later (A.take k) B ++ ovr2 later (B.take j) (x, y, z) ++ if p ≤ y then cutL later p y z else []).length ≤ 1114112) := by have := jlen.out; rw [if_pos cx, if_neg cq] at this; exact this
              clear cx cq
              by_cases cf : p ≤ y
              · have d3 : decide (p ≤ y) = true := decide_eq_true cf
                rw [if_pos cf] at jstep
                replace jlen : Hid ((ovr later (A.take k) B ++ ovr2 later (B.take j) (x, y, z)).length + (cutL later p y z).length ≤ 1114112) := by have := jlen.out; rw [if_pos cf, List.length_append] at this; exact this
                have KC : Hid (Calls Try.prog 38 #[u, .int .i64 p, .int .i64 y, .int .i64 z] W3 fun e w' => ∃ v', e = .returned v' ∧ w'.ownsRow W3.heap.size 33 3 v' (cutL later p y z).length (cel3 .i64 (cutL later p y z)) ∧ Below W3.heap.size W3 w') := HC.out W3 p y z B2.out (by omega) (by omega)
                have hpos : Hid (0 < (cutL later p y z).length) := HN.out _ _ _ cf
                replace jstep : Hid (ovr later (A.take k) B ++ ovr2 later (B.take (j + 1)) (x, y, z) = (ovr later (A.take k) B ++ ovr2 later (B.take j) (x, y, z)) ++ cutL later p y z) := by rw [Hid, jstep, List.append_assoc]
                clear cf
                generalize cutL later p y z = CC at *
                generalize ovr later (A.take k) B ++ ovr2 later (B.take j) (x, y, z) = PP at *
                go_wp2_with (go_at_call 38; refine KC.out.mono ?_)
                first | rintro e W4 vs rfl o4 b4 | rintro e W4 ⟨vs, rfl, o4, b4⟩
                have B4 : Hid (Below w.heap.size w W4) := B2.out.trans (b4.mono B2.out.size)
                have O4 : Hid (W4.ownsRow w.heap.size 33 3 u5 PP.length (cel3 .i64 PP)) := owns_below O2.out b4
                have Ra4 : Hid (Rd3 .i64 W4 (.slice (some ⟨g, off, none⟩) A.length cv) A) := Ra2.out.below b4
                have Rb4 : Hid (Rd3 .i64 W4 (.slice (some ⟨g', off', none⟩) B.length dv) B) := Rb2.out.below b4
                have Z4 : Hid (wb.heap.size ≤ W4.heap.size ∧ wo.heap.size < W4.heap.size) := by rw [Hid]; have := Z2.out; have := b4.size; omega
                have C4 : Hid (W4.cell? ⟨wo.heap.size, 0, none⟩ = some (.int .i64 x) ∧ W4.cell? ⟨wo.heap.size, 1, none⟩ = some (.int .i64 y) ∧ W4.cell? ⟨wo.heap.size, 2, none⟩ = some (.int .i64 z)) := by
                  obtain ⟨y1, y2, y3⟩ := C3.out
                  have hlt : wo.heap.size < W3.heap.size := Z2.out.2
                  exact ⟨(b4.cell (p := ⟨wo.heap.size, 0, none⟩) hlt).trans y1, (b4.cell (p := ⟨wo.heap.size, 1, none⟩) hlt).trans y2, (b4.cell (p := ⟨wo.heap.size, 2, none⟩) hlt).trans y3⟩
                obtain ⟨sa, sc, rfl, -, hsn⟩ := owns_slice o4
                obtain ⟨sg, rfl⟩ := hsn hpos.out
                have S4 : Hid (∀ i u, (cel3 .i64 CC)[i]? = some u → W4.cell? ((⟨sg, 0, none⟩ : Addr).add i) = some u) := fun i u h => by
                  rw [Go.WideShapes.add_plain, Nat.zero_add]
                  exact (owns_cell o4 rfl _ _ h).1
                have hb4 : w.heap.size ≤ W4.heap.size := B4.out.size
                clear o4 b4 hsn KC B2 O2 Ra2 Rb2 Z2 C3 s1 s2 s3 t1 t2
                go_wp2_with (at_builtin; refine wpList_append_own_at _ rfl _ _ 25 rfl w.heap.size 33 i0 _ 3 24 Try.underlying25 hi hz0 hz1 hz2 rfl (by decide) _ _ _ rfl O4.out ⟨sg, 0, none⟩ CC.length sc (cel3 .i64 CC) rfl (cel3_len _ _) S4.out (cel3_one _ _) ?r103 ?r104 hb4 ?r106)
                case r103 => unfold maxLen; have := jlen.out; omega
                case r104 => have := jlen.out; omega
                case r106 =>
                  intro v5 W5 hown hgrow _ hloc
                  have O5 : Hid (W5.ownsRow w.heap.size 33 3 v5 (ovr later (A.take k) B ++ ovr2 later (B.take (j + 1)) (x, y, z)).length (cel3 .i64 (ovr later (A.take k) B ++ ovr2 later (B.take (j + 1)) (x, y, z)))) := by
                    rw [Hid, jstep.out, cel3_app, List.length_append]
                    exact hown
                  have B5 : Hid (Below w.heap.size w W5) := B4.out.grown hgrow hb4 (fun i hi => (O4.out.lt i hi).1)
                  have Ra5 : Hid (Rd3 .i64 W5 (.slice (some ⟨g, off, none⟩) A.length cv) A) := Rd3.kept Ra4.out hgrow (fun g1 hg1 e => by
                    have h1 := hva.out g1 hg1
                    rcases jX.out with h | ⟨g2, h, h'⟩
                    · rw [h] at e; cases e; omega
                    · rw [h] at e; cases e; omega)
                  have Rb5 : Hid (Rd3 .i64 W5 (.slice (some ⟨g', off', none⟩) B.length dv) B) := Rd3.kept Rb4.out hgrow (fun g1 hg1 e => by
                    have h1 := hvb.out g1 hg1
                    rcases jX.out with h | ⟨g2, h, h'⟩
                    · rw [h] at e; cases e; omega
                    · rw [h] at e; cases e; omega)
                  have X5 : Hid (v5.ownBlock = some w.heap.size ∨ ∃ g, v5.ownBlock = some g ∧ wb.heap.size ≤ g) := by
                    rcases hloc with h | h
                    · rw [Hid, h]; exact jX.out
                    · exact .inr ⟨_, h, Z4.out.1⟩
                  have N5 : Hid (v5.ownBlock ≠ some wo.heap.size) := by
                    rcases hloc with h | h
                    · rw [Hid, h]; exact jN.out
                    · rw [Hid, h]
                      intro e
                      have := Option.some.inj e
                      have := Z4.out.2
                      omega
                  have Z5 : Hid (wb.heap.size ≤ W5.heap.size ∧ wo.heap.size < W5.heap.size) := by rw [Hid]; have := Z4.out; have := hgrow.size; omega
                  have C5 : Hid (W5.cell? ⟨wo.heap.size, 0, none⟩ = some (.int .i64 x) ∧ W5.cell? ⟨wo.heap.size, 1, none⟩ = some (.int .i64 y) ∧ W5.cell? ⟨wo.heap.size, 2, none⟩ = some (.int .i64 z)) := ⟨grown_cell C4.out.1 hgrow jN.out, grown_cell C4.out.2.1 hgrow jN.out, grown_cell C4.out.2.2 hgrow jN.out⟩
                  clear hown hgrow hloc O4 B4 Ra4 Rb4 Z4 C4 S4 jX jN jstep jlen
                  go_wp2
                  exact ⟨⟨j + 1, by omega, by go_num, O5, B5, Ra5, Rb5, X5, N5, Z5, C5⟩, by simp [intOf]; omega⟩
              · have d3 : decide (p ≤ y) = false := decide_eq_false cf
                rw [if_neg cf, List.append_nil] at jstep
                replace O2 : Hid (W3.ownsRow w.heap.size 33 3 u5 (ovr later (A.take k) B ++ ovr2 later (B.take (j + 1)) (x, y, z)).length (cel3 .i64 (ovr later (A.take k) B ++ ovr2 later (B.take (j + 1)) (x, y, z)))) := by rw [Hid, jstep]; exact O2.out
                clear cf jlen jstep
                go_wp2
                exact ⟨⟨j + 1, by omega, by go_num, O2, B2, Ra2, Rb2, jX, jN, Z2, C3⟩, by simp [intOf]; omega⟩
          · by_cases cq : q < y
            · skip
              have d1 : decide (x < p) = false := decide_eq_false cx
              have d2 : decide (q < y) = true := decide_eq_true cq
              rw [if_neg cx, if_pos cq] at jstep
              replace jlen : Hid ((ovr later (A.take k) B ++ ovr2 later (B.take j) (x, y, z) ++ if x ≤ q then cutL later x q z else []).length ≤ 1114112) := by have := jlen.out; rw [if_neg cx, if_pos cq] at this; exact this
              clear cx cq
              by_cases cf : x ≤ q
              · have d3 : decide (x ≤ q) = true := decide_eq_true cf
                rw [if_pos cf] at jstep
                replace jlen : Hid ((ovr later (A.take k) B ++ ovr2 later (B.take j) (x, y, z)).length + (cutL later x q z).length ≤ 1114112) := by have := jlen.out; rw [if_pos cf, List.length_append] at this; exact this
                have KC : Hid (Calls Try.prog 38 #[u, .int .i64 x, .int .i64 q, .int .i64 z] W3 fun e w' => ∃ v', e = .returned v' ∧ w'.ownsRow W3.heap.size 33 3 v' (cutL later x q z).length (cel3 .i64 (cutL later x q z)) ∧ Below W3.heap.size W3 w') := HC.out W3 x q z B2.out (by omega) (by omega)
                have hpos : Hid (0 < (cutL later x q z).length) := HN.out _ _ _ cf
                replace jstep : Hid (ovr later (A.take k) B ++ ovr2 later (B.take (j + 1)) (x, y, z) = (ovr later (A.take k) B ++ ovr2 later (B.take j) (x, y, z)) ++ cutL later x q z) := by rw [Hid, jstep, List.append_assoc]
                clear cf
                generalize cutL later x q z = CC at *
                generalize ovr later (A.take k) B ++ ovr2 later (B.take j) (x, y, z) = PP at *
                go_wp2_with (go_at_call 38; refine KC.out.mono ?_)
                first | rintro e W4 vs rfl o4 b4 | rintro e W4 ⟨vs, rfl, o4, b4⟩
                have B4 : Hid (Below w.heap.size w W4) := B2.out.trans (b4.mono B2.out.size)
                have O4 : Hid (W4.ownsRow w.heap.size 33 3 u5 PP.length (cel3 .i64 PP)) := owns_below O2.out b4
                have Ra4 : Hid (Rd3 .i64 W4 (.slice (some ⟨g, off, none⟩) A.length cv) A) := Ra2.out.below b4
                have Rb4 : Hid (Rd3 .i64 W4 (.slice (some ⟨g', off', none⟩) B.length dv) B) := Rb2.out.below b4
                have Z4 : Hid (wb.heap.size ≤ W4.heap.size ∧ wo.heap.size < W4.heap.size) := by rw [Hid]; have := Z2.out; have := b4.size; omega
                have C4 : Hid (W4.cell? ⟨wo.heap.size, 0, none⟩ = some (.int .i64 x) ∧ W4.cell? ⟨wo.heap.size, 1, none⟩ = some (.int .i64 y) ∧ W4.cell? ⟨wo.heap.size, 2, none⟩ = some (.int .i64 z)) := by
                  obtain ⟨y1, y2, y3⟩ := C3.out
                  have hlt : wo.heap.size < W3.heap.size := Z2.out.2
                  exact ⟨(b4.cell (p := ⟨wo.heap.size, 0, none⟩) hlt).trans y1, (b4.cell (p := ⟨wo.heap.size, 1, none⟩) hlt).trans y2, (b4.cell (p := ⟨wo.heap.size, 2, none⟩) hlt).trans y3⟩
                obtain ⟨sa, sc, rfl, -, hsn⟩ := owns_slice o4
                obtain ⟨sg, rfl⟩ := hsn hpos.out
                have S4 : Hid (∀ i u, (cel3 .i64 CC)[i]? = some u → W4.cell? ((⟨sg, 0, none⟩ : Addr).add i) = some u) := fun i u h => by
                  rw [Go.WideShapes.add_plain, Nat.zero_add]
                  exact (owns_cell o4 rfl _ _ h).1
                have hb4 : w.heap.size ≤ W4.heap.size := B4.out.size
                clear o4 b4 hsn KC B2 O2 Ra2 Rb2 Z2 C3 s1 s2 s3 t1 t2
                go_wp2_with (at_builtin; refine wpList_append_own_at _ rfl _ _ 25 rfl w.heap.size 33 i0 _ 3 24 Try.underlying25 hi hz0 hz1 hz2 rfl (by decide) _ _ _ rfl O4.out ⟨sg, 0, none⟩ CC.length sc (cel3 .i64 CC) rfl (cel3_len _ _) S4.out (cel3_one _ _) ?r013 ?r014 hb4 ?r016)
                case r013 => unfold maxLen; have := jlen.out; omega
                case r014 => have := jlen.out; omega
                case r016 =>
                  intro v5 W5 hown hgrow _ hloc
                  have O5 : Hid (W5.ownsRow w.heap.size 33 3 v5 (ovr later (A.take k) B ++ ovr2 later (B.take (j + 1)) (x, y, z)).length (cel3 .i64 (ovr later (A.take k) B ++ ovr2 later (B.take (j + 1)) (x, y, z)))) := by
                    rw [Hid, jstep.out, cel3_app, List.length_append]
                    exact hown
                  have B5 : Hid (Below w.heap.size w W5) := B4.out.grown hgrow hb4 (fun i hi => (O4.out.lt i hi).1)
                  have Ra5 : Hid (Rd3 .i64 W5 (.slice (some ⟨g, off, none⟩) A.length cv) A) := Rd3.kept Ra4.out hgrow (fun g1 hg1 e => by
                    have h1 := hva.out g1 hg1
                    rcases jX.out with h | ⟨g2, h, h'⟩
                    · rw [h] at e; cases e; omega
                    · rw [h] at e; cases e; omega)
                  have Rb5 : Hid (Rd3 .i64 W5 (.slice (some ⟨g', off', none⟩) B.length dv) B) := Rd3.kept Rb4.out hgrow (fun g1 hg1 e => by
                    have h1 := hvb.out g1 hg1
                    rcases jX.out with h | ⟨g2, h, h'⟩
                    · rw [h] at e; cases e; omega
                    · rw [h] at e; cases e; omega)
                  have X5 : Hid (v5.ownBlock = some w.heap.size ∨ ∃ g, v5.ownBlock = some g ∧ wb.heap.size ≤ g) := by
                    rcases hloc with h | h
                    · rw [Hid, h]; exact jX.out
                    · exact .inr ⟨_, h, Z4.out.1⟩
                  have N5 : Hid (v5.ownBlock ≠ some wo.heap.size) := by
                    rcases hloc with h | h
                    · rw [Hid, h]; exact jN.out
                    · rw [Hid, h]
                      intro e
                      have := Option.some.inj e
                      have := Z4.out.2
                      omega
                  have Z5 : Hid (wb.heap.size ≤ W5.heap.size ∧ wo.heap.size < W5.heap.size) := by rw [Hid]; have := Z4.out; have := hgrow.size; omega
                  have C5 : Hid (W5.cell? ⟨wo.heap.size, 0, none⟩ = some (.int .i64 x) ∧ W5.cell? ⟨wo.heap.size, 1, none⟩ = some (.int .i64 y) ∧ W5.cell? ⟨wo.heap.size, 2, none⟩ = some (.int .i64 z)) := ⟨grown_cell C4.out.1 hgrow jN.out, grown_cell C4.out.2.1 hgrow jN.out, grown_cell C4.out.2.2 hgrow jN.out⟩
                  clear hown hgrow hloc O4 B4 Ra4 Rb4 Z4 C4 S4 jX jN jstep jlen
                  go_wp2
                  exact ⟨⟨j + 1, by omega, by go_num, O5, B5, Ra5, Rb5, X5, N5, Z5, C5⟩, by simp [intOf]; omega⟩
              · have d3 : decide (x ≤ q) = false := decide_eq_false cf
                rw [if_neg cf, List.append_nil] at jstep
                replace O2 : Hid (W3.ownsRow w.heap.size 33 3 u5 (ovr later (A.take k) B ++ ovr2 later (B.take (j + 1)) (x, y, z)).length (cel3 .i64 (ovr later (A.take k) B ++ ovr2 later (B.take (j + 1)) (x, y, z)))) := by rw [Hid, jstep]; exact O2.out
                clear cf jlen jstep
                go_wp2
                exact ⟨⟨j + 1, by omega, by go_num, O2, B2, Ra2, Rb2, jX, jN, Z2, C3⟩, by simp [intOf]; omega⟩
            · skip
              have d1 : decide (x < p) = false := decide_eq_false cx
              have d2 : decide (q < y) = false := decide_eq_false cq
              rw [if_neg cx, if_neg cq] at jstep
              replace jlen : Hid ((ovr later (A.take k) B ++ ovr2 later (B.take j) (x, y, z) ++ if x ≤ y then cutL later x y z else []).length ≤ 1114112) := by have := jlen.out; rw [if_neg cx, if_neg cq] at this; exact this
              clear cx cq
              by_cases cf : x ≤ y
              · have d3 : decide (x ≤ y) = true := decide_eq_true cf
                rw [if_pos cf] at jstep
                replace jlen : Hid ((ovr later (A.take k) B ++ ovr2 later (B.take j) (x, y, z)).length + (cutL later x y z).length ≤ 1114112) := by have := jlen.out; rw [if_pos cf, List.length_append] at this; exact this
                have KC : Hid (Calls Try.prog 38 #[u, .int .i64 x, .int .i64 y, .int .i64 z] W3 fun e w' => ∃ v', e = .returned v' ∧ w'.ownsRow W3.heap.size 33 3 v' (cutL later x y z).length (cel3 .i64 (cutL later x y z)) ∧ Below W3.heap.size W3 w') := HC.out W3 x y z B2.out (by omega) (by omega)
                have hpos : Hid (0 < (cutL later x y z).length) := HN.out _ _ _ cf
                replace jstep : Hid (ovr later (A.take k) B ++ ovr2 later (B.take (j + 1)) (x, y, z) = (ovr later (A.take k) B ++ ovr2 later (B.take j) (x, y, z)) ++ cutL later x y z) := by rw [Hid, jstep, List.append_assoc]
                clear cf
                generalize cutL later x y z = CC at *
                generalize ovr later (A.take k) B ++ ovr2 later (B.take j) (x, y, z) = PP at *
                go_wp2_with (go_at_call 38; refine KC.out.mono ?_)
                first | rintro e W4 vs rfl o4 b4 | rintro e W4 ⟨vs, rfl, o4, b4⟩
                have B4 : Hid (Below w.heap.size w W4) := B2.out.trans (b4.mono B2.out.size)
                have O4 : Hid (W4.ownsRow w.heap.size 33 3 u5 PP.length (cel3 .i64 PP)) := owns_below O2.out b4
                have Ra4 : Hid (Rd3 .i64 W4 (.slice (some ⟨g, off, none⟩) A.length cv) A) := Ra2.out.below b4
                have Rb4 : Hid (Rd3 .i64 W4 (.slice (some ⟨g', off', none⟩) B.length dv) B) := Rb2.out.below b4
                have Z4 : Hid (wb.heap.size ≤ W4.heap.size ∧ wo.heap.size < W4.heap.size) := by rw [Hid]; have := Z2.out; have := b4.size; omega
                have C4 : Hid (W4.cell? ⟨wo.heap.size, 0, none⟩ = some (.int .i64 x) ∧ W4.cell? ⟨wo.heap.size, 1, none⟩ = some (.int .i64 y) ∧ W4.cell? ⟨wo.heap.size, 2, none⟩ = some (.int .i64 z)) := by
                  obtain ⟨y1, y2, y3⟩ := C3.out
                  have hlt : wo.heap.size < W3.heap.size := Z2.out.2
                  exact ⟨(b4.cell (p := ⟨wo.heap.size, 0, none⟩) hlt).trans y1, (b4.cell (p := ⟨wo.heap.size, 1, none⟩) hlt).trans y2, (b4.cell (p := ⟨wo.heap.size, 2, none⟩) hlt).trans y3⟩
                obtain ⟨sa, sc, rfl, -, hsn⟩ := owns_slice o4
                obtain ⟨sg, rfl⟩ := hsn hpos.out
                have S4 : Hid (∀ i u, (cel3 .i64 CC)[i]? = some u → W4.cell? ((⟨sg, 0, none⟩ : Addr).add i) = some u) := fun i u h => by
                  rw [Go.WideShapes.add_plain, Nat.zero_add]
                  exact (owns_cell o4 rfl _ _ h).1
                have hb4 : w.heap.size ≤ W4.heap.size := B4.out.size
                clear o4 b4 hsn KC B2 O2 Ra2 Rb2 Z2 C3 s1 s2 s3 t1 t2
                go_wp2_with (at_builtin; refine wpList_append_own_at _ rfl _ _ 25 rfl w.heap.size 33 i0 _ 3 24 Try.underlying25 hi hz0 hz1 hz2 rfl (by decide) _ _ _ rfl O4.out ⟨sg, 0, none⟩ CC.length sc (cel3 .i64 CC) rfl (cel3_len _ _) S4.out (cel3_one _ _) ?r003 ?r004 hb4 ?r006)
                case r003 => unfold maxLen; have := jlen.out; omega
                case r004 => have := jlen.out; omega
                case r006 =>
                  intro v5 W5 hown hgrow _ hloc
                  have O5 : Hid (W5.ownsRow w.heap.size 33 3 v5 (ovr later (A.take k) B ++ ovr2 later (B.take (j + 1)) (x, y, z)).length (cel3 .i64 (ovr later (A.take k) B ++ ovr2 later (B.take (j + 1)) (x, y, z)))) := by
                    rw [Hid, jstep.out, cel3_app, List.length_append]
                    exact hown
                  have B5 : Hid (Below w.heap.size w W5) := B4.out.grown hgrow hb4 (fun i hi => (O4.out.lt i hi).1)
                  have Ra5 : Hid (Rd3 .i64 W5 (.slice (some ⟨g, off, none⟩) A.length cv) A) := Rd3.kept Ra4.out hgrow (fun g1 hg1 e => by
                    have h1 := hva.out g1 hg1
                    rcases jX.out with h | ⟨g2, h, h'⟩
                    · rw [h] at e; cases e; omega
                    · rw [h] at e; cases e; omega)
                  have Rb5 : Hid (Rd3 .i64 W5 (.slice (some ⟨g', off', none⟩) B.length dv) B) := Rd3.kept Rb4.out hgrow (fun g1 hg1 e => by
                    have h1 := hvb.out g1 hg1
                    rcases jX.out with h | ⟨g2, h, h'⟩
                    · rw [h] at e; cases e; omega
                    · rw [h] at e; cases e; omega)
                  have X5 : Hid (v5.ownBlock = some w.heap.size ∨ ∃ g, v5.ownBlock = some g ∧ wb.heap.size ≤ g) := by
                    rcases hloc with h | h
                    · rw [Hid, h]; exact jX.out
                    · exact .inr ⟨_, h, Z4.out.1⟩
                  have N5 : Hid (v5.ownBlock ≠ some wo.heap.size) := by
                    rcases hloc with h | h
                    · rw [Hid, h]; exact jN.out
                    · rw [Hid, h]
                      intro e
                      have := Option.some.inj e
                      have := Z4.out.2
                      omega
                  have Z5 : Hid (wb.heap.size ≤ W5.heap.size ∧ wo.heap.size < W5.heap.size) := by rw [Hid]; have := Z4.out; have := hgrow.size; omega
                  have C5 : Hid (W5.cell? ⟨wo.heap.size, 0, none⟩ = some (.int .i64 x) ∧ W5.cell? ⟨wo.heap.size, 1, none⟩ = some (.int .i64 y) ∧ W5.cell? ⟨wo.heap.size, 2, none⟩ = some (.int .i64 z)) := ⟨grown_cell C4.out.1 hgrow jN.out, grown_cell C4.out.2.1 hgrow jN.out, grown_cell C4.out.2.2 hgrow jN.out⟩
                  clear hown hgrow hloc O4 B4 Ra4 Rb4 Z4 C4 S4 jX jN jstep jlen
                  go_wp2
                  exact ⟨⟨j + 1, by omega, by go_num, O5, B5, Ra5, Rb5, X5, N5, Z5, C5⟩, by simp [intOf]; omega⟩
              · exact absurd m2 cf
        · have jl : decide ((j : Int) < (B.length : Int)) = false := decide_eq_false (by omega)
          have jl2 : ¬ ((j : Int) < (B.length : Int)) := by omega
          have jt : B.take j = B := List.take_of_length_le (by omega)
          have O2 : Hid (wr.ownsRow w.heap.size 33 3 u5 (ovr later (A.take (k + 1)) B).length (cel3 .i64 (ovr later (A.take (k + 1)) B))) := by
            have := jO.out
            rw [jt] at this
            rw [Hid, show ovr later (A.take (k + 1)) B = (A.take (k + 1)).flatMap (ovr2 later B) from rfl, hstep.out]
            exact this
          have Z2 : Hid (wb.heap.size ≤ wr.heap.size) := jZ.out.1
          clear jt jO jN jZ jC hstep hbk
          go_wp2
          exact ⟨⟨k + 1, by omega, by go_num, O2, jB, jRa, jRb, jX, Z2⟩, by simp [intOf]; omega⟩
    · have kl : decide ((k : Int) < (A.length : Int)) = false := decide_eq_false (by omega)
      have kl2 : ¬ ((k : Int) < (A.length : Int)) := by omega
      have kt : A.take k = A := List.take_of_length_le (by omega)
      have R2 : Hid (Rd3 .i64 wo u5 OO) := by
        have := Rd3.of_owns hO.out
        rw [kt, hOe.out] at this
        exact this
      clear kt hO hRa hRb hX hZ
      go_wp2_with (go_at_call 21; refine (HLE.out _ _ R2.out).mono ?_)
      first | rintro e W4 vs rfl o4 b4 | rintro e W4 ⟨vs, rfl, o4, b4⟩
      have R4 : Hid (Rd3 .i64 W4 vs (lst (runsL OO))) := Rd3.of_owns o4
      have B4 : Hid (Below w.heap.size w W4) := hBl.out.trans (b4.mono hBl.out.size)
      clear o4 b4
      go_wp2
      go_ret
      exact ⟨_, rfl, R4.out, B4.out⟩
end Go.Proofs.Ytookbgmolggohaa
