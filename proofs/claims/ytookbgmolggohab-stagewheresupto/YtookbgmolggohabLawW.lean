/-
  The law StageWheres, walked. Conditions: the numbers fit; the spans are no more than 1048576; the other lists take no more bytes than there are.
-/
import Derived.Test.YtookbgmolggohabWd
import Derived.Test.YtookbgmolggohabOn
namespace Go.Proofs.Ytookbgmolggohab
open Go.RowKit
set_option maxRecDepth 100000 in
theorem run_ia_35 {w : World} {l : List (Nat × Value)} {o : Oper} {a b : Operand} {g off n c k : Nat} (ho : o.op = .indexAddr 35 a b) (ha : rho l a = .slice (some ⟨g, off, none⟩) n c) (hb : rho l b = .int .i64 (k : Int)) (h : k < n) : (execOp (rho l) o).run Try.prog w = .ok (.value (.pointer (some ⟨g, off + k * 2, none⟩))) w := by
  have h2 : ¬ n ≤ k := by omega
  unfold execOp
  simp only [ho, ha, hb]
  simp [Instr.indexAt, asIntOf, run_underlying Try.underlying35, h2, Try.sizeOf41, Instr.sureAddr, Go.WideShapes.add_plain]
theorem getD_at {X : List Rw} {k : Nat} (h : k < X.length) : X.getD k (0, 0, 0) = X[k] := by
  rw [List.getD_eq_getElem?_getD, List.getElem?_eq_getElem h, Option.getD_some]
theorem sps_step {X : List Rw} {k : Nat} (h : k < X.length) : sps (X.take (k + 1)) = sps (X.take k) ++ [((X.getD k (0, 0, 0)).1, (X.getD k (0, 0, 0)).2.1, 1)] := by
  unfold sps
  rw [List.take_add_one, List.map_append]
  congr 1
  rw [List.getElem?_eq_getElem h, getD_at h]
  rfl
theorem sps_len (X : List Rw) : (sps X).length = X.length := by simp [sps]
theorem and_false_of {a b : Bool} (h : b = false) : (a && b) = false := by rw [h, Bool.and_false]
set_option maxRecDepth 100000 in
set_option maxHeartbeats 8000000 in
theorem law_wheres (X L K : List Rw) (v u t : Value) (w : World) (hx : Rd2 w v X) (hfx : ∀ s ∈ X, -2147483648 ≤ s.1 ∧ s.1 ≤ 2147483647 ∧ -2147483648 ≤ s.2.1 ∧ s.2.1 ≤ 2147483647) (hlx : X.length ≤ 1048576) (hr : Rd3 .i32 w u L) (hf : fit3 L) (hl : L.length ≤ 8796093022208) (hr2 : Rd3 .i32 w t K) (hf2 : fit3 K) (hl2 : K.length ≤ 8796093022208) : Calls Try.prog 5 #[v, u, t] w fun e w' => e = .returned (.bool true) ∧ Below w.heap.size w w' := by
  obtain ⟨i0, hi, hz0, hz1, hz2⟩ := info_parts info33
  have KT : Hid (Calls Try.prog 18 #[u, t] w fun e w' => Told L K e w' ∧ Below w.heap.size w w') := two_any L K u t w hr hf hl hr2 hf2 hl2
  obtain ⟨okL, lnL⟩ := gd_ok L
  obtain ⟨okK, lnK⟩ := gd_ok K
  have HV : Hid (∀ W, Below w.heap.size w W → Rd2 W v X) := fun W hW => hx.below hW
  have HF : Hid (∀ k, k < X.length → -2147483648 ≤ (X.getD k (0, 0, 0)).1 ∧ (X.getD k (0, 0, 0)).1 ≤ 2147483647 ∧ -2147483648 ≤ (X.getD k (0, 0, 0)).2.1 ∧ (X.getD k (0, 0, 0)).2.1 ≤ 2147483647) := fun k hk => hfx _ (gmem hk)
  have KG : Hid (∀ W ta tb, Below w.heap.size w W → Tab W ta (lk (gd L)) → Tab W tb (lk (gd K)) → X.length ≤ 65536 → spB 0 X = true → Calls Try.prog 27 #[v, ta, tb] W fun e w' => ∃ T, e = .returned (.tuple #[.pointer (some ⟨T, 0, none⟩), .int .i64 0]) ∧ TabAt w' T (over (lk (gd K)) (whL X (runsL (gd L)))) ∧ Below W.heap.size W w') := fun W ta tb hW h1 h2 h3 h4 => where_good X (gd L) (gd K) v ta tb W (hx.below hW) h1 h2 okL okK h3 h4
  have KN : Hid (∀ W ta tb, Below w.heap.size w W → ¬ (X.length ≤ 65536 ∧ spB 0 X = true) → Calls Try.prog 27 #[v, ta, tb] W fun e w' => e = .returned (.tuple #[.pointer none, .int .i64 70]) ∧ Below W.heap.size W w') := fun W ta tb hW h => where_bad X v ta tb W (hx.below hW) (by omega) h
  have KW : Hid (∀ W vs ra rb, Rd3 .i64 W vs (sps X) → Rd3 .i64 W ra (gd L) → Rd3 .i64 W rb (gd K) → X.length ≤ 65536 → spB 0 X = true → Calls Try.prog 29 #[vs, ra, rb] W fun e w' => ∃ v', e = .returned v' ∧ Rd3 .i64 w' v' (lst (runsL (ovr (whL X (runsL (gd L))) (runsL (runsL (gd K))) (runsL (whL X (runsL (gd L))))))) ∧ Below W.heap.size W w') := fun W vs ra rb h1 h2 h3 h4 h5 => rwhere_any X (gd L) (gd K) vs ra rb W h1 h2 h3 okL okK h4 lnL lnK h5
  have KS0 : Hid (∀ W M ta ra, okF 0 M → M.length ≤ 65536 → Tab W ta (lk M) → (∃ p, ta = .pointer p) → Rd3 .i64 W ra M → Calls Try.prog 28 #[ta, ra, .slice none 0 0, .int .i64 0] W fun e w' => e = .returned (.bool true) ∧ Below W.heap.size W w') := fun W M ta ra hM hl h1 h2 h3 => stands_any M [] ta ra _ 0 W h1 h2 h3 ⟨none, 0, rfl, Nat.le_refl _, fun h => by simp at h⟩ (fun x hx => by cases hx) (by simp) hM (by omega)
  have KS1 : Hid (∀ W T va, spB 0 X = true → TabAt W T (over (lk (gd K)) (whL X (runsL (gd L)))) → Rd3 .i64 W va (lst (runsL (ovr (whL X (runsL (gd L))) (runsL (runsL (gd K))) (runsL (whL X (runsL (gd L))))))) → Calls Try.prog 28 #[.pointer (some ⟨T, 0, none⟩), va, .slice none 0 0, .int .i64 1] W fun e w' => e = .returned (.bool true) ∧ Below W.heap.size W w') := fun W T va hs h1 h2 => by
    obtain ⟨ra1, ra2⟩ := runs_again okK
    obtain ⟨s1, s2, s3⟩ := over_says ra1 (whL_ok (lkr okL) (runs_rn okL) hs)
    rw [ra2] at s2
    exact stands_any _ [] _ va _ 1 W (.inr ⟨T, rfl, by rw [s2]; exact h1⟩) ⟨_, rfl⟩ h2 ⟨none, 0, rfl, Nat.le_refl _, fun h => by simp at h⟩ (fun x hx => by cases hx) (by simp) s1 (by omega)
  have HOK : Hid (okF 0 (gd L) ∧ (gd L).length ≤ 65536 ∧ okF 0 (gd K) ∧ (gd K).length ≤ 65536) := ⟨okL, lnL, okK, lnK⟩
  obtain ⟨xv, xc, rfl, -, -⟩ := hx
  have hlx' : (X.length : Int) ≤ 1048576 := by omega
  replace hlx : Hid (X.length ≤ 1048576) := hlx
  have B0 : Hid (Below w.heap.size w w) := Below.refl _ _
  clear hr hf hl hr2 hf2 hl2 hfx okL lnL okK lnK
  go_enter Try.func5, Try.ntmps5
  go_wp2_with (go_at_call 18; refine KT.out.mono ?_)
  rintro e w1 ⟨⟨ta, tb, ra, rb, rfl, h1, h2, h3, h4, h5, h6⟩, b1⟩
  obtain ⟨pa, rfl⟩ := h3
  obtain ⟨pb, rfl⟩ := h4
  replace h1 : Hid (Tab w1 (.pointer pa) (lk (gd L))) := h1
  replace h2 : Hid (Tab w1 (.pointer pb) (lk (gd K))) := h2
  replace h5 : Hid (Rd3 .i64 w1 ra (gd L)) := h5
  replace h6 : Hid (Rd3 .i64 w1 rb (gd K)) := h6
  replace b1 : Hid (Below w.heap.size w w1) := b1
  clear KT B0
  go_wp2_with (go_at_call 8; refine (awake_any _).mono ?_)
  first | rintro e w2 rfl b2 | rintro e w2 ⟨rfl, b2⟩
  have T1 : Hid (Tab w2 (.pointer pa) (lk (gd L))) := h1.out.below b2
  have T2 : Hid (Tab w2 (.pointer pb) (lk (gd K))) := h2.out.below b2
  have R1 : Hid (Rd3 .i64 w2 ra (gd L)) := h5.out.below b2
  have R2 : Hid (Rd3 .i64 w2 rb (gd K)) := h6.out.below b2
  have B2 : Hid (Below w.heap.size w w2) := b1.out.trans (b2.mono b1.out.size)
  have O2 : Hid (w2.ownsRow w2.heap.size 57 3 (.slice none 0 0) 0 (cel3 .i64 (sps (X.take 0)))) := World.ownsRow_nil _ _ _ _
  clear h1 h2 h5 h6 b1 b2
  go_wp2_with fail
  go_loopw [12, 13, 35] (fun st x y wr => ∃ k : Nat, k ≤ X.length ∧ y = .int .i64 (k : Nat) ∧ st = .bool (spB 0 (X.take k)) ∧ Hid (wr.ownsRow w2.heap.size 57 3 x k (cel3 .i64 (sps (X.take k)))) ∧ Hid (Below w2.heap.size w2 wr)) (fun _ _ y _ => (X.length - (intOf y).toNat : Nat))
  case atStart => exact ⟨0, Nat.zero_le _, rfl, rfl, O2, Below.refl _ _⟩
  case round =>
    obtain ⟨k, hk, rfl, rfl, hO, hB⟩ := hrel
    have hbsz := hB.out.size
    clear O2
    by_cases hkl : k < X.length
    · obtain ⟨a2, c2, e2, -, hc⟩ := HV.out wr (B2.out.trans (hB.out.mono B2.out.size))
      obtain ⟨rfl, rfl⟩ : xv = a2 ∧ xc = c2 := by simpa using e2
      obtain ⟨g, off, rfl, hd1⟩ := hc (by omega)
      obtain ⟨e1, e2'⟩ := hd1 k hkl
      have kl : (k : Int) < (X.length : Int) := by omega
      have hst := spB_step hkl
      have hsp : Hid (sps (X.take (k + 1)) = sps (X.take k) ++ [((X.getD k (0, 0, 0)).1, (X.getD k (0, 0, 0)).2.1, 1)]) := sps_step hkl
      obtain ⟨f1, f2, f3, f4⟩ := HF.out k hkl
      have HK : Hid (k < X.length) := hkl
      have CP0 : Hid (0 < k → wr.cell? ⟨g, off + (k - 1) * 2 + 1, none⟩ = some (.int .i32 (X.getD (k - 1) (0, 0, 0)).2.1)) := fun h0 => (hd1 (k - 1) (by omega)).2
      have hnx : Hid (nx X k = if k = 0 then 0 else (X.getD (k - 1) (0, 0, 0)).2.1 + 2) := rfl
      have hpr : Hid (spB 0 (X.take k) = true → 0 < k → 0 ≤ (X.getD (k - 1) (0, 0, 0)).2.1 ∧ (X.getD (k - 1) (0, 0, 0)).2.1 ≤ 1114111) := fun hs h0 => by
        have h1 := spB_step (X := X) (k := k - 1) (by omega)
        rw [show k - 1 + 1 = k by omega, hs] at h1
        have h2 := (Bool.and_eq_true _ _).mp h1.symm
        rw [okR_iff] at h2
        omega
      clear hd1 hc e2 hkl
      generalize X.getD k (0, 0, 0) = s at *
      obtain ⟨x, y, z⟩ := s
      generalize (X.getD (k - 1) (0, 0, 0)).2.1 = y0 at *
      simp only at e1 e2' f1 f2 f3 f4 hsp
      obtain ⟨q1, q2⟩ := box2 wr (.int .i32 x) (.int .i32 y) 41
      have bA : Below wr.heap.size wr (wr.alloc (.cells #[.int .i32 x, .int .i32 y] 41)) := (Below.refl _ _).alloc (Nat.le_refl _) _
      have B3 : Hid (Below w2.heap.size w2 (wr.alloc (.cells #[.int .i32 x, .int .i32 y] 41))) := hB.out.alloc hbsz _
      have O3 : Hid ((wr.alloc (.cells #[.int .i32 x, .int .i32 y] 41)).ownsRow w2.heap.size 57 3 u13 k (cel3 .i64 (sps (X.take k)))) := hO.out.alloc _
      have CB : Hid (∀ W, Below (wr.alloc (.cells #[.int .i32 x, .int .i32 y] 41)).heap.size (wr.alloc (.cells #[.int .i32 x, .int .i32 y] 41)) W → W.cell? ⟨wr.heap.size, 0, none⟩ = some (.int .i32 x) ∧ W.cell? ⟨wr.heap.size, 0 + 1, none⟩ = some (.int .i32 y)) := fun W hW => ⟨(hW.cell (p := ⟨wr.heap.size, 0, none⟩) (by simp)).trans q1, (hW.cell (p := ⟨wr.heap.size, 1, none⟩) (by simp)).trans q2⟩
      have CP1 : Hid (0 < k → ∀ W, Below (wr.alloc (.cells #[.int .i32 x, .int .i32 y] 41)).heap.size (wr.alloc (.cells #[.int .i32 x, .int .i32 y] 41)) W → W.cell? ⟨g, off + (k - 1) * 2 + 1, none⟩ = some (.int .i32 y0)) := fun h0 W hW => by
        have h1 := CP0.out h0
        have h2 : g < wr.heap.size := by simpa using World.block_lt_of_cell? wr _ h1
        exact (hW.cell (p := ⟨g, off + (k - 1) * 2 + 1, none⟩) (by simp; omega)).trans ((bA.cell (p := ⟨g, off + (k - 1) * 2 + 1, none⟩) h2).trans h1)
      clear hO hB bA CP0
      have KF : Hid (∀ (b : Bool), spB 0 (X.take (k + 1)) = b → True) := fun _ _ => trivial
      clear KF
      generalize hb0 : spB 0 (X.take k) = b0 at *
      replace hb0 : Hid (spB 0 (X.take k) = b0) := hb0
      generalize nx X k = l0 at *
      go_wp2_with fail
      cases b0
      · have HS : Hid (spB 0 (X.take (k + 1)) = false) := by rw [Hid, hst, Bool.false_and]
        clear hst hpr hnx hb0
        refine wp_region_vals (a1 := ?a1r9n1) (grown _) [.bool false, .bool false, undef, undef, undef, .bool false, .bool false, undef, undef, undef, undef, undef, .bool false, .bool false, undef, undef, undef, .bool false, .bool false, undef, undef, undef, undef, undef, undef, undef, undef, undef, undef, undef, undef, undef, undef, .bool false, .bool false] 129 rfl (by kernel_rfl) (by kernel_rfl) (grown_start _) ⟨?o0r9n1, ?o1r9n1, ?o2r9n1, ?o3r9n1, ?o4r9n1, ?o5r9n1, ?o6r9n1, ?o7r9n1, ?o8r9n1, ?o9r9n1, ?o10r9n1, ?o11r9n1, ?o12r9n1, ?o13r9n1, ?o14r9n1, ?o15r9n1, ?o16r9n1, ?o17r9n1, ?o18r9n1, ?o19r9n1, ?o20r9n1, ?o21r9n1, ?o22r9n1, ?o23r9n1, ?o24r9n1, ?o25r9n1, ?o26r9n1, ?o27r9n1, ?o28r9n1, ?o29r9n1, ?o30r9n1, ?o31r9n1, ?o32r9n1, ?o33r9n1, ?o34r9n1, trivial⟩ ?har9n1 ?hdoner9n1
        case har9n1 => simp [putAll, Act.put]; exact rfl
        case o0r9n1 => exact ValOp.pure (grown_steady _ 0) [(12, .bool false)] rfl (fun _ _ h2 => ⟨(h2 12 (by kernel_rfl)).trans rfl, trivial⟩) (by kernel_rfl) (fun _ _ _ _ _ => by kernel_rfl)
        case o1r9n1 => exact ValOp.pure (grown_steady _ 1) [(40, .bool false)] rfl (fun _ h1 _ => ⟨h1 0 40 (by kernel_rfl), trivial⟩) (by kernel_rfl) (fun _ _ _ _ _ => by kernel_rfl)
        case o2r9n1 => exact ValOp.no (grown_steady _ 2) (.inl ⟨41, _, rfl, rfl, by kernel_rfl, rfl⟩) rfl
        case o3r9n1 => exact ValOp.no (grown_steady _ 3) (.inl ⟨41, _, rfl, rfl, by kernel_rfl, rfl⟩) rfl
        case o4r9n1 => exact ValOp.no (grown_steady _ 4) (.inl ⟨41, _, rfl, rfl, by kernel_rfl, rfl⟩) rfl
        case o5r9n1 => exact ValOp.pure (grown_steady _ 5) [(41, .bool false), (44, undef)] rfl (fun _ h1 _ => ⟨h1 1 41 (by kernel_rfl), h1 4 44 (by kernel_rfl), trivial⟩) (by kernel_rfl) (fun _ _ _ _ _ => by kernel_rfl)
        case o6r9n1 => exact ValOp.pure (grown_steady _ 6) [(45, .bool false)] rfl (fun _ h1 _ => ⟨h1 5 45 (by kernel_rfl), trivial⟩) (by kernel_rfl) (fun _ _ _ _ _ => by kernel_rfl)
        case o7r9n1 => exact ValOp.no (grown_steady _ 7) (.inl ⟨46, _, rfl, rfl, by kernel_rfl, rfl⟩) rfl
        case o8r9n1 => exact ValOp.no (grown_steady _ 8) (.inl ⟨46, _, rfl, rfl, by kernel_rfl, rfl⟩) rfl
        case o9r9n1 => exact ValOp.no (grown_steady _ 9) (.inl ⟨46, _, rfl, rfl, by kernel_rfl, rfl⟩) rfl
        case o10r9n1 => exact ValOp.no (grown_steady _ 10) (.inl ⟨46, _, rfl, rfl, by kernel_rfl, rfl⟩) rfl
        case o11r9n1 => exact ValOp.no (grown_steady _ 11) (.inl ⟨46, _, rfl, rfl, by kernel_rfl, rfl⟩) rfl
        case o12r9n1 => exact ValOp.pure (grown_steady _ 12) [(46, .bool false), (51, undef)] rfl (fun _ h1 _ => ⟨h1 6 46 (by kernel_rfl), h1 11 51 (by kernel_rfl), trivial⟩) (by kernel_rfl) (fun _ _ _ _ _ => by kernel_rfl)
        case o13r9n1 => exact ValOp.pure (grown_steady _ 13) [(52, .bool false)] rfl (fun _ h1 _ => ⟨h1 12 52 (by kernel_rfl), trivial⟩) (by kernel_rfl) (fun _ _ _ _ _ => by kernel_rfl)
        case o14r9n1 => exact ValOp.no (grown_steady _ 14) (.inl ⟨53, _, rfl, rfl, by kernel_rfl, rfl⟩) rfl
        case o15r9n1 => exact ValOp.no (grown_steady _ 15) (.inl ⟨53, _, rfl, rfl, by kernel_rfl, rfl⟩) rfl
        case o16r9n1 => exact ValOp.no (grown_steady _ 16) (.inl ⟨53, _, rfl, rfl, by kernel_rfl, rfl⟩) rfl
        case o17r9n1 => exact ValOp.pure (grown_steady _ 17) [(53, .bool false), (56, undef)] rfl (fun _ h1 _ => ⟨h1 13 53 (by kernel_rfl), h1 16 56 (by kernel_rfl), trivial⟩) (by kernel_rfl) (fun _ _ _ _ _ => by kernel_rfl)
        case o18r9n1 => exact ValOp.pure (grown_steady _ 18) [(57, .bool false)] rfl (fun _ h1 _ => ⟨h1 17 57 (by kernel_rfl), trivial⟩) (by kernel_rfl) (fun _ _ _ _ _ => by kernel_rfl)
        case o19r9n1 => exact ValOp.no (grown_steady _ 19) (.inl ⟨58, _, rfl, rfl, by kernel_rfl, rfl⟩) rfl
        case o20r9n1 => exact ValOp.no (grown_steady _ 20) (.inl ⟨58, _, rfl, rfl, by kernel_rfl, rfl⟩) rfl
        case o21r9n1 => exact ValOp.no (grown_steady _ 21) (.inl ⟨58, _, rfl, rfl, by kernel_rfl, rfl⟩) rfl
        case o22r9n1 => exact ValOp.no (grown_steady _ 22) (.inr ⟨rfl, 61, rfl, rfl, by kernel_rfl⟩) rfl
        case o23r9n1 => exact ValOp.no (grown_steady _ 23) (.inr ⟨rfl, 61, rfl, rfl, by kernel_rfl⟩) rfl
        case o24r9n1 => exact ValOp.no (grown_steady _ 24) (.inr ⟨rfl, 61, rfl, rfl, by kernel_rfl⟩) rfl
        case o25r9n1 => exact ValOp.no (grown_steady _ 25) (.inr ⟨rfl, 61, rfl, rfl, by kernel_rfl⟩) rfl
        case o26r9n1 => exact ValOp.no (grown_steady _ 26) (.inr ⟨rfl, 61, rfl, rfl, by kernel_rfl⟩) rfl
        case o27r9n1 => exact ValOp.no (grown_steady _ 27) (.inr ⟨rfl, 61, rfl, rfl, by kernel_rfl⟩) rfl
        case o28r9n1 => exact ValOp.no (grown_steady _ 28) (.inr ⟨rfl, 61, rfl, rfl, by kernel_rfl⟩) rfl
        case o29r9n1 => exact ValOp.no (grown_steady _ 29) (.inr ⟨rfl, 61, rfl, rfl, by kernel_rfl⟩) rfl
        case o30r9n1 => exact ValOp.no (grown_steady _ 30) (.inr ⟨rfl, 61, rfl, rfl, by kernel_rfl⟩) rfl
        case o31r9n1 => exact ValOp.no (grown_steady _ 31) (.inr ⟨rfl, 61, rfl, rfl, by kernel_rfl⟩) rfl
        case o32r9n1 => exact ValOp.no (grown_steady _ 32) (.inl ⟨58, _, rfl, rfl, by kernel_rfl, rfl⟩) rfl
        case o33r9n1 => exact ValOp.pure (grown_steady _ 33) [(58, .bool false), (72, undef)] rfl (fun _ h1 _ => ⟨h1 18 58 (by kernel_rfl), h1 32 72 (by kernel_rfl), trivial⟩) (by kernel_rfl) (fun _ _ _ _ _ => by kernel_rfl)
        case o34r9n1 => exact ValOp.pure (grown_steady _ 34) [(73, .bool false)] rfl (fun _ h1 _ => ⟨h1 33 73 (by kernel_rfl), trivial⟩) (by kernel_rfl) (fun _ _ _ _ _ => by kernel_rfl)
        case hdoner9n1 =>
          intro w9 s9 hs9 b9
          have B9 : Hid (Below w2.heap.size w2 w9) := B3.out.trans (Below.mono b9 B3.out.size)
          have O9 : Hid (w9.ownsRow w2.heap.size 57 3 u13 k (cel3 .i64 (sps (X.take k)))) := owns_below O3.out b9
          obtain ⟨z1, z2⟩ := CB.out w9 b9
          have hb9 : w2.heap.size ≤ w9.heap.size := B9.out.size
          have cn : Hid (∀ j' u, [Value.int .i64 x, .int .i64 y, .int .i64 1][j']? = some u → (w9.alloc (.cells #[.int .i64 x, .int .i64 y, .int .i64 1] 57)).cell? ((⟨w9.heap.size, 0, none⟩ : Addr).add j') = some u) := cells_new w9 #[.int .i64 x, .int .i64 y, .int .i64 1] 57
          have wx : IntKind.i64.wrap x = x := IntWalk.i64_in _ (by omega)
          have wy : IntKind.i64.wrap y = y := IntWalk.i64_in _ (by omega)
          clear b9 hs9 B3 O3 CB CP1
          go_wp2_with (at_builtin; refine wpList_append_own_at _ rfl _ _ 30 rfl w2.heap.size 57 i0 _ 3 24 Try.underlying30 hi hz0 hz1 hz2 rfl (by decide) _ _ _ rfl (O9.out.alloc _) ⟨_, 0, none⟩ 1 1 [.int .i64 x, .int .i64 y, .int .i64 1] rfl rfl cn.out ?cS02 ?cS03 ?cS04 ?cS05 ?cS06)
          case cS02 => simp [Value.oneCell']
          case cS03 => unfold maxLen; have := HK.out; have := hlx.out; omega
          case cS04 => have := HK.out; have := hlx.out; omega
          case cS05 => first | omega | (simp; omega)
          case cS06 =>
            intro v6 W6 hown hgrow _ _
            have O6 : Hid (W6.ownsRow w2.heap.size 57 3 v6 (k + 1) (cel3 .i64 (sps (X.take (k + 1))))) := by rw [Hid, hsp.out, cel3_snoc]; exact hown
            have B6 : Hid (Below w2.heap.size w2 W6) := (B9.out.alloc hb9 _).grown hgrow (by simp; omega) (fun i hi => (O9.out.lt i hi).1)
            clear hown hgrow O9 B9 cn hsp z1 z2
            go_wp2
            exact ⟨⟨k + 1, by have := HK.out; omega, by go_num, by rw [HS.out], O6, B6⟩, by have := HK.out; simp [intOf]; omega⟩
      · rw [Bool.true_and] at hst
        by_cases c1 : 0 ≤ x
        · have d1 : decide (0 ≤ x) = true := decide_eq_true c1
          by_cases c2 : x ≤ y
          · have d2 : decide (x ≤ y) = true := decide_eq_true c2
            by_cases c3 : y ≤ 1114111
            · have d3 : decide (y ≤ 1114111) = true := decide_eq_true c3
              by_cases c4 : k = 0
              · have d4 : ((k : Int) == 0) = true := by simp [c4]
                have HS : Hid (spB 0 (X.take (k + 1)) = true) := by
                  rw [Hid, hst, okR_iff]
                  have := hnx.out
                  rw [if_pos c4] at this
                  exact ⟨c1, c2, c3, by omega⟩
                clear hst hpr hnx hb0 c1 c2 c3 c4
                refine wp_region_vals (a1 := ?a1r9n2) (grown _) [.bool true, .bool true, .pointer (some ⟨wr.heap.size, 0, none⟩), .int .i32 x, .bool true, .bool true, .bool true, .pointer (some ⟨wr.heap.size, 0, none⟩), .int .i32 x, .pointer (some ⟨wr.heap.size, 1, none⟩), .int .i32 y, .bool true, .bool true, .bool true, .pointer (some ⟨wr.heap.size, 1, none⟩), .int .i32 y, .bool true, .bool true, .bool true, .int .i64 (k : Int), .bool true, .bool true, undef, undef, undef, undef, undef, undef, undef, undef, undef, undef, .bool true, .bool true, .bool true] 129 rfl (by kernel_rfl) (by kernel_rfl) (grown_start _) ⟨?o0r9n2, ?o1r9n2, ?o2r9n2, ?o3r9n2, ?o4r9n2, ?o5r9n2, ?o6r9n2, ?o7r9n2, ?o8r9n2, ?o9r9n2, ?o10r9n2, ?o11r9n2, ?o12r9n2, ?o13r9n2, ?o14r9n2, ?o15r9n2, ?o16r9n2, ?o17r9n2, ?o18r9n2, ?o19r9n2, ?o20r9n2, ?o21r9n2, ?o22r9n2, ?o23r9n2, ?o24r9n2, ?o25r9n2, ?o26r9n2, ?o27r9n2, ?o28r9n2, ?o29r9n2, ?o30r9n2, ?o31r9n2, ?o32r9n2, ?o33r9n2, ?o34r9n2, trivial⟩ ?har9n2 ?hdoner9n2
                case har9n2 => simp [putAll, Act.put]; exact rfl
                case o0r9n2 => exact ValOp.pure (grown_steady _ 0) [(12, .bool true)] rfl (fun _ _ h2 => ⟨(h2 12 (by kernel_rfl)).trans rfl, trivial⟩) (by kernel_rfl) (fun _ _ _ _ _ => by kernel_rfl)
                case o1r9n2 => exact ValOp.pure (grown_steady _ 1) [(40, .bool true)] rfl (fun _ h1 _ => ⟨h1 0 40 (by kernel_rfl), trivial⟩) (by kernel_rfl) (fun _ _ _ _ _ => by kernel_rfl)
                case o2r9n2 => exact ValOp.pure (grown_steady _ 2) [(15, .pointer (some ⟨wr.heap.size, 0, none⟩))] (.inl ⟨41, _, rfl, rfl, by kernel_rfl, rfl⟩) (fun _ _ h2 => ⟨(h2 15 (by kernel_rfl)).trans rfl, trivial⟩) (by kernel_rfl) (fun _ _ _ _ _ => by kernel_rfl)
                case o3r9n2 => exact ValOp.pure (grown_steady _ 3) [(42, .pointer (some ⟨wr.heap.size, 0, none⟩))] (.inl ⟨41, _, rfl, rfl, by kernel_rfl, rfl⟩) (fun _ h1 _ => ⟨h1 2 42 (by kernel_rfl), trivial⟩) (by kernel_rfl) (fun _ W _ hg _ => run_read rfl rfl (run_cell1 ((CB.out W hg).1) (Try.isAgg21 _)))
                case o4r9n2 => exact ValOp.pure (grown_steady _ 4) [(43, .int .i32 x)] (.inl ⟨41, _, rfl, rfl, by kernel_rfl, rfl⟩) (fun _ h1 _ => ⟨h1 3 43 (by kernel_rfl), trivial⟩) (by kernel_rfl) (fun _ _ _ _ _ => run_bin (a := .int .i32 x) (b := .int .i32 0) rfl rfl rfl (by kernel_rfl) (by simp [go_sem, d1]))
                case o5r9n2 => exact ValOp.pure (grown_steady _ 5) [(41, .bool true), (44, .bool true)] rfl (fun _ h1 _ => ⟨h1 1 41 (by kernel_rfl), h1 4 44 (by kernel_rfl), trivial⟩) (by kernel_rfl) (fun _ _ _ _ _ => by kernel_rfl)
                case o6r9n2 => exact ValOp.pure (grown_steady _ 6) [(45, .bool true)] rfl (fun _ h1 _ => ⟨h1 5 45 (by kernel_rfl), trivial⟩) (by kernel_rfl) (fun _ _ _ _ _ => by kernel_rfl)
                case o7r9n2 => exact ValOp.pure (grown_steady _ 7) [(15, .pointer (some ⟨wr.heap.size, 0, none⟩))] (.inl ⟨46, _, rfl, rfl, by kernel_rfl, rfl⟩) (fun _ _ h2 => ⟨(h2 15 (by kernel_rfl)).trans rfl, trivial⟩) (by kernel_rfl) (fun _ _ _ _ _ => by kernel_rfl)
                case o8r9n2 => exact ValOp.pure (grown_steady _ 8) [(47, .pointer (some ⟨wr.heap.size, 0, none⟩))] (.inl ⟨46, _, rfl, rfl, by kernel_rfl, rfl⟩) (fun _ h1 _ => ⟨h1 7 47 (by kernel_rfl), trivial⟩) (by kernel_rfl) (fun _ W _ hg _ => run_read rfl rfl (run_cell1 ((CB.out W hg).1) (Try.isAgg21 _)))
                case o9r9n2 => exact ValOp.pure (grown_steady _ 9) [(15, .pointer (some ⟨wr.heap.size, 0, none⟩))] (.inl ⟨46, _, rfl, rfl, by kernel_rfl, rfl⟩) (fun _ _ h2 => ⟨(h2 15 (by kernel_rfl)).trans rfl, trivial⟩) (by kernel_rfl) (fun _ _ _ _ _ => by kernel_rfl)
                case o10r9n2 => exact ValOp.pure (grown_steady _ 10) [(49, .pointer (some ⟨wr.heap.size, 1, none⟩))] (.inl ⟨46, _, rfl, rfl, by kernel_rfl, rfl⟩) (fun _ h1 _ => ⟨h1 9 49 (by kernel_rfl), trivial⟩) (by kernel_rfl) (fun _ W _ hg _ => run_read rfl rfl (run_cell1 ((CB.out W hg).2) (Try.isAgg21 _)))
                case o11r9n2 => exact ValOp.pure (grown_steady _ 11) [(48, .int .i32 x), (50, .int .i32 y)] (.inl ⟨46, _, rfl, rfl, by kernel_rfl, rfl⟩) (fun _ h1 _ => ⟨h1 8 48 (by kernel_rfl), h1 10 50 (by kernel_rfl), trivial⟩) (by kernel_rfl) (fun _ _ _ _ _ => run_bin (a := .int .i32 x) (b := .int .i32 y) rfl rfl rfl (by kernel_rfl) (by simp [go_sem, d2]))
                case o12r9n2 => exact ValOp.pure (grown_steady _ 12) [(46, .bool true), (51, .bool true)] rfl (fun _ h1 _ => ⟨h1 6 46 (by kernel_rfl), h1 11 51 (by kernel_rfl), trivial⟩) (by kernel_rfl) (fun _ _ _ _ _ => by kernel_rfl)
                case o13r9n2 => exact ValOp.pure (grown_steady _ 13) [(52, .bool true)] rfl (fun _ h1 _ => ⟨h1 12 52 (by kernel_rfl), trivial⟩) (by kernel_rfl) (fun _ _ _ _ _ => by kernel_rfl)
                case o14r9n2 => exact ValOp.pure (grown_steady _ 14) [(15, .pointer (some ⟨wr.heap.size, 0, none⟩))] (.inl ⟨53, _, rfl, rfl, by kernel_rfl, rfl⟩) (fun _ _ h2 => ⟨(h2 15 (by kernel_rfl)).trans rfl, trivial⟩) (by kernel_rfl) (fun _ _ _ _ _ => by kernel_rfl)
                case o15r9n2 => exact ValOp.pure (grown_steady _ 15) [(54, .pointer (some ⟨wr.heap.size, 1, none⟩))] (.inl ⟨53, _, rfl, rfl, by kernel_rfl, rfl⟩) (fun _ h1 _ => ⟨h1 14 54 (by kernel_rfl), trivial⟩) (by kernel_rfl) (fun _ W _ hg _ => run_read rfl rfl (run_cell1 ((CB.out W hg).2) (Try.isAgg21 _)))
                case o16r9n2 => exact ValOp.pure (grown_steady _ 16) [(55, .int .i32 y)] (.inl ⟨53, _, rfl, rfl, by kernel_rfl, rfl⟩) (fun _ h1 _ => ⟨h1 15 55 (by kernel_rfl), trivial⟩) (by kernel_rfl) (fun _ _ _ _ _ => run_bin (a := .int .i32 y) (b := .int .i32 1114111) rfl rfl rfl (by kernel_rfl) (by simp [go_sem, d3]))
                case o17r9n2 => exact ValOp.pure (grown_steady _ 17) [(53, .bool true), (56, .bool true)] rfl (fun _ h1 _ => ⟨h1 13 53 (by kernel_rfl), h1 16 56 (by kernel_rfl), trivial⟩) (by kernel_rfl) (fun _ _ _ _ _ => by kernel_rfl)
                case o18r9n2 => exact ValOp.pure (grown_steady _ 18) [(57, .bool true)] rfl (fun _ h1 _ => ⟨h1 17 57 (by kernel_rfl), trivial⟩) (by kernel_rfl) (fun _ _ _ _ _ => by kernel_rfl)
                case o19r9n2 => exact ValOp.pure (grown_steady _ 19) [(14, .int .i64 (k : Int))] (.inl ⟨58, _, rfl, rfl, by kernel_rfl, rfl⟩) (fun _ _ h2 => ⟨(h2 14 (by kernel_rfl)).trans rfl, trivial⟩) (by kernel_rfl) (fun _ _ _ _ _ => by kernel_rfl)
                case o20r9n2 => exact ValOp.pure (grown_steady _ 20) [(59, .int .i64 (k : Int))] (.inl ⟨58, _, rfl, rfl, by kernel_rfl, rfl⟩) (fun _ h1 _ => ⟨h1 19 59 (by kernel_rfl), trivial⟩) (by kernel_rfl) (fun _ _ _ _ _ => run_bin (a := .int .i64 (k : Int)) (b := .int .i64 0) rfl rfl rfl (by kernel_rfl) (by simp [go_sem, d4]))
                case o21r9n2 => exact ValOp.pure (grown_steady _ 21) [(60, .bool true)] (.inl ⟨58, _, rfl, rfl, by kernel_rfl, rfl⟩) (fun _ h1 _ => ⟨h1 20 60 (by kernel_rfl), trivial⟩) (by kernel_rfl) (fun _ _ _ _ _ => by kernel_rfl)
                case o22r9n2 => exact ValOp.no (grown_steady _ 22) (.inl ⟨61, _, rfl, rfl, by kernel_rfl, rfl⟩) rfl
                case o23r9n2 => exact ValOp.no (grown_steady _ 23) (.inl ⟨61, _, rfl, rfl, by kernel_rfl, rfl⟩) rfl
                case o24r9n2 => exact ValOp.no (grown_steady _ 24) (.inl ⟨61, _, rfl, rfl, by kernel_rfl, rfl⟩) rfl
                case o25r9n2 => exact ValOp.no (grown_steady _ 25) (.inl ⟨61, _, rfl, rfl, by kernel_rfl, rfl⟩) rfl
                case o26r9n2 => exact ValOp.no (grown_steady _ 26) (.inl ⟨61, _, rfl, rfl, by kernel_rfl, rfl⟩) rfl
                case o27r9n2 => exact ValOp.no (grown_steady _ 27) (.inl ⟨61, _, rfl, rfl, by kernel_rfl, rfl⟩) rfl
                case o28r9n2 => exact ValOp.no (grown_steady _ 28) (.inl ⟨61, _, rfl, rfl, by kernel_rfl, rfl⟩) rfl
                case o29r9n2 => exact ValOp.no (grown_steady _ 29) (.inl ⟨61, _, rfl, rfl, by kernel_rfl, rfl⟩) rfl
                case o30r9n2 => exact ValOp.no (grown_steady _ 30) (.inl ⟨61, _, rfl, rfl, by kernel_rfl, rfl⟩) rfl
                case o31r9n2 => exact ValOp.no (grown_steady _ 31) (.inl ⟨61, _, rfl, rfl, by kernel_rfl, rfl⟩) rfl
                case o32r9n2 => exact ValOp.pure (grown_steady _ 32) [(61, .bool true), (71, undef)] (.inl ⟨58, _, rfl, rfl, by kernel_rfl, rfl⟩) (fun _ h1 _ => ⟨h1 21 61 (by kernel_rfl), h1 31 71 (by kernel_rfl), trivial⟩) (by kernel_rfl) (fun _ _ _ _ _ => by kernel_rfl)
                case o33r9n2 => exact ValOp.pure (grown_steady _ 33) [(58, .bool true), (72, .bool true)] rfl (fun _ h1 _ => ⟨h1 18 58 (by kernel_rfl), h1 32 72 (by kernel_rfl), trivial⟩) (by kernel_rfl) (fun _ _ _ _ _ => by kernel_rfl)
                case o34r9n2 => exact ValOp.pure (grown_steady _ 34) [(73, .bool true)] rfl (fun _ h1 _ => ⟨h1 33 73 (by kernel_rfl), trivial⟩) (by kernel_rfl) (fun _ _ _ _ _ => by kernel_rfl)
                case hdoner9n2 =>
                  intro w9 s9 hs9 b9
                  have B9 : Hid (Below w2.heap.size w2 w9) := B3.out.trans (Below.mono b9 B3.out.size)
                  have O9 : Hid (w9.ownsRow w2.heap.size 57 3 u13 k (cel3 .i64 (sps (X.take k)))) := owns_below O3.out b9
                  obtain ⟨z1, z2⟩ := CB.out w9 b9
                  have hb9 : w2.heap.size ≤ w9.heap.size := B9.out.size
                  have cn : Hid (∀ j' u, [Value.int .i64 x, .int .i64 y, .int .i64 1][j']? = some u → (w9.alloc (.cells #[.int .i64 x, .int .i64 y, .int .i64 1] 57)).cell? ((⟨w9.heap.size, 0, none⟩ : Addr).add j') = some u) := cells_new w9 #[.int .i64 x, .int .i64 y, .int .i64 1] 57
                  have wx : IntKind.i64.wrap x = x := IntWalk.i64_in _ (by omega)
                  have wy : IntKind.i64.wrap y = y := IntWalk.i64_in _ (by omega)
                  clear b9 hs9 B3 O3 CB CP1
                  go_wp2_with (at_builtin; refine wpList_append_own_at _ rfl _ _ 30 rfl w2.heap.size 57 i0 _ 3 24 Try.underlying30 hi hz0 hz1 hz2 rfl (by decide) _ _ _ rfl (O9.out.alloc _) ⟨_, 0, none⟩ 1 1 [.int .i64 x, .int .i64 y, .int .i64 1] rfl rfl cn.out ?cS42 ?cS43 ?cS44 ?cS45 ?cS46)
                  case cS42 => simp [Value.oneCell']
                  case cS43 => unfold maxLen; have := HK.out; have := hlx.out; omega
                  case cS44 => have := HK.out; have := hlx.out; omega
                  case cS45 => first | omega | (simp; omega)
                  case cS46 =>
                    intro v6 W6 hown hgrow _ _
                    have O6 : Hid (W6.ownsRow w2.heap.size 57 3 v6 (k + 1) (cel3 .i64 (sps (X.take (k + 1))))) := by rw [Hid, hsp.out, cel3_snoc]; exact hown
                    have B6 : Hid (Below w2.heap.size w2 W6) := (B9.out.alloc hb9 _).grown hgrow (by simp; omega) (fun i hi => (O9.out.lt i hi).1)
                    clear hown hgrow O9 B9 cn hsp z1 z2
                    go_wp2
                    exact ⟨⟨k + 1, by have := HK.out; omega, by go_num, by rw [HS.out], O6, B6⟩, by have := HK.out; simp [intOf]; omega⟩
              · have d4 : ((k : Int) == 0) = false := by simp [c4]
                have hy0r := hpr.out rfl (by omega)
                have CP : Hid (∀ W, Below (wr.alloc (.cells #[.int .i32 x, .int .i32 y] 41)).heap.size (wr.alloc (.cells #[.int .i32 x, .int .i32 y] 41)) W → W.cell? ⟨g, off + (k - 1) * 2 + 1, none⟩ = some (.int .i32 y0)) := fun W hW => CP1.out (by omega) W hW
                have hk1 : Hid (((k - 1 : Nat) : Int) = (k : Int) - 1) := by rw [Hid]; omega
                have hk2 : Hid (IntKind.i64.wrap ((k : Int) - 1) = (k : Int) - 1) := IntWalk.i64_in _ (by have := HK.out; have := hlx.out; omega)
                have hy0 : Hid (IntKind.i32.wrap (y0 + 1) = y0 + 1) := IntWalk.i32_in _ (by omega)
                have hnx2 := hnx.out
                rw [if_neg c4] at hnx2
                by_cases c5 : y0 + 1 < x
                · have d5 : decide (y0 + 1 < x) = true := decide_eq_true c5
                  have HS : Hid (spB 0 (X.take (k + 1)) = true) := by
                    rw [Hid, hst, okR_iff]
                    exact ⟨c1, c2, c3, by simp only; omega⟩
                  clear hst hpr hnx hb0 c1 c2 c3 c4 c5 hy0r hnx2
                  refine wp_region_vals (a1 := ?a1r9n3) (grown _) [.bool true, .bool true, .pointer (some ⟨wr.heap.size, 0, none⟩), .int .i32 x, .bool true, .bool true, .bool true, .pointer (some ⟨wr.heap.size, 0, none⟩), .int .i32 x, .pointer (some ⟨wr.heap.size, 1, none⟩), .int .i32 y, .bool true, .bool true, .bool true, .pointer (some ⟨wr.heap.size, 1, none⟩), .int .i32 y, .bool true, .bool true, .bool true, .int .i64 (k : Int), .bool false, .bool false, .pointer (some ⟨wr.heap.size, 0, none⟩), .int .i32 x, .slice (some ⟨g, off, none⟩) X.length xc, .int .i64 (k : Int), .int .i64 ((k - 1 : Nat) : Int), .pointer (some ⟨g, off + (k - 1) * 2, none⟩), .pointer (some ⟨g, off + (k - 1) * 2 + 1, none⟩), .int .i32 y0, .int .i32 (y0 + 1), .bool true, .bool true, .bool true, .bool true] 129 rfl (by kernel_rfl) (by kernel_rfl) (grown_start _) ⟨?o0r9n3, ?o1r9n3, ?o2r9n3, ?o3r9n3, ?o4r9n3, ?o5r9n3, ?o6r9n3, ?o7r9n3, ?o8r9n3, ?o9r9n3, ?o10r9n3, ?o11r9n3, ?o12r9n3, ?o13r9n3, ?o14r9n3, ?o15r9n3, ?o16r9n3, ?o17r9n3, ?o18r9n3, ?o19r9n3, ?o20r9n3, ?o21r9n3, ?o22r9n3, ?o23r9n3, ?o24r9n3, ?o25r9n3, ?o26r9n3, ?o27r9n3, ?o28r9n3, ?o29r9n3, ?o30r9n3, ?o31r9n3, ?o32r9n3, ?o33r9n3, ?o34r9n3, trivial⟩ ?har9n3 ?hdoner9n3
                  case har9n3 => simp [putAll, Act.put]; exact rfl
                  case o0r9n3 => exact ValOp.pure (grown_steady _ 0) [(12, .bool true)] rfl (fun _ _ h2 => ⟨(h2 12 (by kernel_rfl)).trans rfl, trivial⟩) (by kernel_rfl) (fun _ _ _ _ _ => by kernel_rfl)
                  case o1r9n3 => exact ValOp.pure (grown_steady _ 1) [(40, .bool true)] rfl (fun _ h1 _ => ⟨h1 0 40 (by kernel_rfl), trivial⟩) (by kernel_rfl) (fun _ _ _ _ _ => by kernel_rfl)
                  case o2r9n3 => exact ValOp.pure (grown_steady _ 2) [(15, .pointer (some ⟨wr.heap.size, 0, none⟩))] (.inl ⟨41, _, rfl, rfl, by kernel_rfl, rfl⟩) (fun _ _ h2 => ⟨(h2 15 (by kernel_rfl)).trans rfl, trivial⟩) (by kernel_rfl) (fun _ _ _ _ _ => by kernel_rfl)
                  case o3r9n3 => exact ValOp.pure (grown_steady _ 3) [(42, .pointer (some ⟨wr.heap.size, 0, none⟩))] (.inl ⟨41, _, rfl, rfl, by kernel_rfl, rfl⟩) (fun _ h1 _ => ⟨h1 2 42 (by kernel_rfl), trivial⟩) (by kernel_rfl) (fun _ W _ hg _ => run_read rfl rfl (run_cell1 ((CB.out W hg).1) (Try.isAgg21 _)))
                  case o4r9n3 => exact ValOp.pure (grown_steady _ 4) [(43, .int .i32 x)] (.inl ⟨41, _, rfl, rfl, by kernel_rfl, rfl⟩) (fun _ h1 _ => ⟨h1 3 43 (by kernel_rfl), trivial⟩) (by kernel_rfl) (fun _ _ _ _ _ => run_bin (a := .int .i32 x) (b := .int .i32 0) rfl rfl rfl (by kernel_rfl) (by simp [go_sem, d1]))
                  case o5r9n3 => exact ValOp.pure (grown_steady _ 5) [(41, .bool true), (44, .bool true)] rfl (fun _ h1 _ => ⟨h1 1 41 (by kernel_rfl), h1 4 44 (by kernel_rfl), trivial⟩) (by kernel_rfl) (fun _ _ _ _ _ => by kernel_rfl)
                  case o6r9n3 => exact ValOp.pure (grown_steady _ 6) [(45, .bool true)] rfl (fun _ h1 _ => ⟨h1 5 45 (by kernel_rfl), trivial⟩) (by kernel_rfl) (fun _ _ _ _ _ => by kernel_rfl)
                  case o7r9n3 => exact ValOp.pure (grown_steady _ 7) [(15, .pointer (some ⟨wr.heap.size, 0, none⟩))] (.inl ⟨46, _, rfl, rfl, by kernel_rfl, rfl⟩) (fun _ _ h2 => ⟨(h2 15 (by kernel_rfl)).trans rfl, trivial⟩) (by kernel_rfl) (fun _ _ _ _ _ => by kernel_rfl)
                  case o8r9n3 => exact ValOp.pure (grown_steady _ 8) [(47, .pointer (some ⟨wr.heap.size, 0, none⟩))] (.inl ⟨46, _, rfl, rfl, by kernel_rfl, rfl⟩) (fun _ h1 _ => ⟨h1 7 47 (by kernel_rfl), trivial⟩) (by kernel_rfl) (fun _ W _ hg _ => run_read rfl rfl (run_cell1 ((CB.out W hg).1) (Try.isAgg21 _)))
                  case o9r9n3 => exact ValOp.pure (grown_steady _ 9) [(15, .pointer (some ⟨wr.heap.size, 0, none⟩))] (.inl ⟨46, _, rfl, rfl, by kernel_rfl, rfl⟩) (fun _ _ h2 => ⟨(h2 15 (by kernel_rfl)).trans rfl, trivial⟩) (by kernel_rfl) (fun _ _ _ _ _ => by kernel_rfl)
                  case o10r9n3 => exact ValOp.pure (grown_steady _ 10) [(49, .pointer (some ⟨wr.heap.size, 1, none⟩))] (.inl ⟨46, _, rfl, rfl, by kernel_rfl, rfl⟩) (fun _ h1 _ => ⟨h1 9 49 (by kernel_rfl), trivial⟩) (by kernel_rfl) (fun _ W _ hg _ => run_read rfl rfl (run_cell1 ((CB.out W hg).2) (Try.isAgg21 _)))
                  case o11r9n3 => exact ValOp.pure (grown_steady _ 11) [(48, .int .i32 x), (50, .int .i32 y)] (.inl ⟨46, _, rfl, rfl, by kernel_rfl, rfl⟩) (fun _ h1 _ => ⟨h1 8 48 (by kernel_rfl), h1 10 50 (by kernel_rfl), trivial⟩) (by kernel_rfl) (fun _ _ _ _ _ => run_bin (a := .int .i32 x) (b := .int .i32 y) rfl rfl rfl (by kernel_rfl) (by simp [go_sem, d2]))
                  case o12r9n3 => exact ValOp.pure (grown_steady _ 12) [(46, .bool true), (51, .bool true)] rfl (fun _ h1 _ => ⟨h1 6 46 (by kernel_rfl), h1 11 51 (by kernel_rfl), trivial⟩) (by kernel_rfl) (fun _ _ _ _ _ => by kernel_rfl)
                  case o13r9n3 => exact ValOp.pure (grown_steady _ 13) [(52, .bool true)] rfl (fun _ h1 _ => ⟨h1 12 52 (by kernel_rfl), trivial⟩) (by kernel_rfl) (fun _ _ _ _ _ => by kernel_rfl)
                  case o14r9n3 => exact ValOp.pure (grown_steady _ 14) [(15, .pointer (some ⟨wr.heap.size, 0, none⟩))] (.inl ⟨53, _, rfl, rfl, by kernel_rfl, rfl⟩) (fun _ _ h2 => ⟨(h2 15 (by kernel_rfl)).trans rfl, trivial⟩) (by kernel_rfl) (fun _ _ _ _ _ => by kernel_rfl)
                  case o15r9n3 => exact ValOp.pure (grown_steady _ 15) [(54, .pointer (some ⟨wr.heap.size, 1, none⟩))] (.inl ⟨53, _, rfl, rfl, by kernel_rfl, rfl⟩) (fun _ h1 _ => ⟨h1 14 54 (by kernel_rfl), trivial⟩) (by kernel_rfl) (fun _ W _ hg _ => run_read rfl rfl (run_cell1 ((CB.out W hg).2) (Try.isAgg21 _)))
                  case o16r9n3 => exact ValOp.pure (grown_steady _ 16) [(55, .int .i32 y)] (.inl ⟨53, _, rfl, rfl, by kernel_rfl, rfl⟩) (fun _ h1 _ => ⟨h1 15 55 (by kernel_rfl), trivial⟩) (by kernel_rfl) (fun _ _ _ _ _ => run_bin (a := .int .i32 y) (b := .int .i32 1114111) rfl rfl rfl (by kernel_rfl) (by simp [go_sem, d3]))
                  case o17r9n3 => exact ValOp.pure (grown_steady _ 17) [(53, .bool true), (56, .bool true)] rfl (fun _ h1 _ => ⟨h1 13 53 (by kernel_rfl), h1 16 56 (by kernel_rfl), trivial⟩) (by kernel_rfl) (fun _ _ _ _ _ => by kernel_rfl)
                  case o18r9n3 => exact ValOp.pure (grown_steady _ 18) [(57, .bool true)] rfl (fun _ h1 _ => ⟨h1 17 57 (by kernel_rfl), trivial⟩) (by kernel_rfl) (fun _ _ _ _ _ => by kernel_rfl)
                  case o19r9n3 => exact ValOp.pure (grown_steady _ 19) [(14, .int .i64 (k : Int))] (.inl ⟨58, _, rfl, rfl, by kernel_rfl, rfl⟩) (fun _ _ h2 => ⟨(h2 14 (by kernel_rfl)).trans rfl, trivial⟩) (by kernel_rfl) (fun _ _ _ _ _ => by kernel_rfl)
                  case o20r9n3 => exact ValOp.pure (grown_steady _ 20) [(59, .int .i64 (k : Int))] (.inl ⟨58, _, rfl, rfl, by kernel_rfl, rfl⟩) (fun _ h1 _ => ⟨h1 19 59 (by kernel_rfl), trivial⟩) (by kernel_rfl) (fun _ _ _ _ _ => run_bin (a := .int .i64 (k : Int)) (b := .int .i64 0) rfl rfl rfl (by kernel_rfl) (by simp [go_sem, d4]))
                  case o21r9n3 => exact ValOp.pure (grown_steady _ 21) [(60, .bool false)] (.inl ⟨58, _, rfl, rfl, by kernel_rfl, rfl⟩) (fun _ h1 _ => ⟨h1 20 60 (by kernel_rfl), trivial⟩) (by kernel_rfl) (fun _ _ _ _ _ => by kernel_rfl)
                  case o22r9n3 => exact ValOp.pure (grown_steady _ 22) [(15, .pointer (some ⟨wr.heap.size, 0, none⟩))] (.inl ⟨61, _, rfl, rfl, by kernel_rfl, rfl⟩) (fun _ _ h2 => ⟨(h2 15 (by kernel_rfl)).trans rfl, trivial⟩) (by kernel_rfl) (fun _ _ _ _ _ => by kernel_rfl)
                  case o23r9n3 => exact ValOp.pure (grown_steady _ 23) [(62, .pointer (some ⟨wr.heap.size, 0, none⟩))] (.inl ⟨61, _, rfl, rfl, by kernel_rfl, rfl⟩) (fun _ h1 _ => ⟨h1 22 62 (by kernel_rfl), trivial⟩) (by kernel_rfl) (fun _ W _ hg _ => run_read rfl rfl (run_cell1 ((CB.out W hg).1) (Try.isAgg21 _)))
                  case o24r9n3 => exact ValOp.pure (grown_steady _ 24) [(0, .slice (some ⟨g, off, none⟩) X.length xc)] (.inl ⟨61, _, rfl, rfl, by kernel_rfl, rfl⟩) (fun _ _ h2 => ⟨(h2 0 (by kernel_rfl)).trans rfl, trivial⟩) (by kernel_rfl) (fun _ _ _ _ _ => by kernel_rfl)
                  case o25r9n3 => exact ValOp.pure (grown_steady _ 25) [(14, .int .i64 (k : Int))] (.inl ⟨61, _, rfl, rfl, by kernel_rfl, rfl⟩) (fun _ _ h2 => ⟨(h2 14 (by kernel_rfl)).trans rfl, trivial⟩) (by kernel_rfl) (fun _ _ _ _ _ => by kernel_rfl)
                  case o26r9n3 => exact ValOp.pure (grown_steady _ 26) [(65, .int .i64 (k : Int))] (.inl ⟨61, _, rfl, rfl, by kernel_rfl, rfl⟩) (fun _ h1 _ => ⟨h1 25 65 (by kernel_rfl), trivial⟩) (by kernel_rfl) (fun _ _ _ _ _ => run_bin (a := .int .i64 (k : Int)) (b := .int .i64 1) rfl rfl rfl (by kernel_rfl) (by simp only [hk1.out]; simp [go_sem, hk2.out]))
                  case o27r9n3 => exact ValOp.pure (grown_steady _ 27) [(64, .slice (some ⟨g, off, none⟩) X.length xc), (66, .int .i64 ((k - 1 : Nat) : Int))] (.inl ⟨61, _, rfl, rfl, by kernel_rfl, rfl⟩) (fun _ h1 _ => ⟨h1 24 64 (by kernel_rfl), h1 26 66 (by kernel_rfl), trivial⟩) (by kernel_rfl) (fun _ _ _ _ _ => run_ia_35 rfl rfl rfl (by have := HK.out; omega))
                  case o28r9n3 => exact ValOp.pure (grown_steady _ 28) [(67, .pointer (some ⟨g, off + (k - 1) * 2, none⟩))] (.inl ⟨61, _, rfl, rfl, by kernel_rfl, rfl⟩) (fun _ h1 _ => ⟨h1 27 67 (by kernel_rfl), trivial⟩) (by kernel_rfl) (fun _ _ _ _ _ => by kernel_rfl)
                  case o29r9n3 => exact ValOp.pure (grown_steady _ 29) [(68, .pointer (some ⟨g, off + (k - 1) * 2 + 1, none⟩))] (.inl ⟨61, _, rfl, rfl, by kernel_rfl, rfl⟩) (fun _ h1 _ => ⟨h1 28 68 (by kernel_rfl), trivial⟩) (by kernel_rfl) (fun _ W _ hg _ => run_read rfl rfl (run_cell1 (CP.out W hg) (Try.isAgg21 _)))
                  case o30r9n3 => exact ValOp.pure (grown_steady _ 30) [(69, .int .i32 y0)] (.inl ⟨61, _, rfl, rfl, by kernel_rfl, rfl⟩) (fun _ h1 _ => ⟨h1 29 69 (by kernel_rfl), trivial⟩) (by kernel_rfl) (fun _ _ _ _ _ => run_bin (a := .int .i32 y0) (b := .int .i32 1) rfl rfl rfl (by kernel_rfl) (by simp [go_sem, hy0.out]))
                  case o31r9n3 => exact ValOp.pure (grown_steady _ 31) [(63, .int .i32 x), (70, .int .i32 (y0 + 1))] (.inl ⟨61, _, rfl, rfl, by kernel_rfl, rfl⟩) (fun _ h1 _ => ⟨h1 23 63 (by kernel_rfl), h1 30 70 (by kernel_rfl), trivial⟩) (by kernel_rfl) (fun _ _ _ _ _ => run_bin (a := .int .i32 x) (b := .int .i32 (y0 + 1)) rfl rfl rfl (by kernel_rfl) (by simp [go_sem, d5]))
                  case o32r9n3 => exact ValOp.pure (grown_steady _ 32) [(61, .bool false), (71, .bool true)] (.inl ⟨58, _, rfl, rfl, by kernel_rfl, rfl⟩) (fun _ h1 _ => ⟨h1 21 61 (by kernel_rfl), h1 31 71 (by kernel_rfl), trivial⟩) (by kernel_rfl) (fun _ _ _ _ _ => by kernel_rfl)
                  case o33r9n3 => exact ValOp.pure (grown_steady _ 33) [(58, .bool true), (72, .bool true)] rfl (fun _ h1 _ => ⟨h1 18 58 (by kernel_rfl), h1 32 72 (by kernel_rfl), trivial⟩) (by kernel_rfl) (fun _ _ _ _ _ => by kernel_rfl)
                  case o34r9n3 => exact ValOp.pure (grown_steady _ 34) [(73, .bool true)] rfl (fun _ h1 _ => ⟨h1 33 73 (by kernel_rfl), trivial⟩) (by kernel_rfl) (fun _ _ _ _ _ => by kernel_rfl)
                  case hdoner9n3 =>
                    intro w9 s9 hs9 b9
                    have B9 : Hid (Below w2.heap.size w2 w9) := B3.out.trans (Below.mono b9 B3.out.size)
                    have O9 : Hid (w9.ownsRow w2.heap.size 57 3 u13 k (cel3 .i64 (sps (X.take k)))) := owns_below O3.out b9
                    obtain ⟨z1, z2⟩ := CB.out w9 b9
                    have hb9 : w2.heap.size ≤ w9.heap.size := B9.out.size
                    have cn : Hid (∀ j' u, [Value.int .i64 x, .int .i64 y, .int .i64 1][j']? = some u → (w9.alloc (.cells #[.int .i64 x, .int .i64 y, .int .i64 1] 57)).cell? ((⟨w9.heap.size, 0, none⟩ : Addr).add j') = some u) := cells_new w9 #[.int .i64 x, .int .i64 y, .int .i64 1] 57
                    have wx : IntKind.i64.wrap x = x := IntWalk.i64_in _ (by omega)
                    have wy : IntKind.i64.wrap y = y := IntWalk.i64_in _ (by omega)
                    clear b9 hs9 B3 O3 CB CP1
                    go_wp2_with (at_builtin; refine wpList_append_own_at _ rfl _ _ 30 rfl w2.heap.size 57 i0 _ 3 24 Try.underlying30 hi hz0 hz1 hz2 rfl (by decide) _ _ _ rfl (O9.out.alloc _) ⟨_, 0, none⟩ 1 1 [.int .i64 x, .int .i64 y, .int .i64 1] rfl rfl cn.out ?cS52 ?cS53 ?cS54 ?cS55 ?cS56)
                    case cS52 => simp [Value.oneCell']
                    case cS53 => unfold maxLen; have := HK.out; have := hlx.out; omega
                    case cS54 => have := HK.out; have := hlx.out; omega
                    case cS55 => first | omega | (simp; omega)
                    case cS56 =>
                      intro v6 W6 hown hgrow _ _
                      have O6 : Hid (W6.ownsRow w2.heap.size 57 3 v6 (k + 1) (cel3 .i64 (sps (X.take (k + 1))))) := by rw [Hid, hsp.out, cel3_snoc]; exact hown
                      have B6 : Hid (Below w2.heap.size w2 W6) := (B9.out.alloc hb9 _).grown hgrow (by simp; omega) (fun i hi => (O9.out.lt i hi).1)
                      clear hown hgrow O9 B9 cn hsp z1 z2
                      go_wp2
                      exact ⟨⟨k + 1, by have := HK.out; omega, by go_num, by rw [HS.out], O6, B6⟩, by have := HK.out; simp [intOf]; omega⟩
                · have d5 : decide (y0 + 1 < x) = false := decide_eq_false c5
                  have HS : Hid (spB 0 (X.take (k + 1)) = false) := by
                    rw [Hid, hst]
                    cases q : okR l0 (x, y, z)
                    · rfl
                    · rw [okR_iff] at q
                      simp only at q
                      omega
                  clear hst hpr hnx hb0 c1 c2 c3 c4 c5 hy0r hnx2
                  refine wp_region_vals (a1 := ?a1r9n4) (grown _) [.bool true, .bool true, .pointer (some ⟨wr.heap.size, 0, none⟩), .int .i32 x, .bool true, .bool true, .bool true, .pointer (some ⟨wr.heap.size, 0, none⟩), .int .i32 x, .pointer (some ⟨wr.heap.size, 1, none⟩), .int .i32 y, .bool true, .bool true, .bool true, .pointer (some ⟨wr.heap.size, 1, none⟩), .int .i32 y, .bool true, .bool true, .bool true, .int .i64 (k : Int), .bool false, .bool false, .pointer (some ⟨wr.heap.size, 0, none⟩), .int .i32 x, .slice (some ⟨g, off, none⟩) X.length xc, .int .i64 (k : Int), .int .i64 ((k - 1 : Nat) : Int), .pointer (some ⟨g, off + (k - 1) * 2, none⟩), .pointer (some ⟨g, off + (k - 1) * 2 + 1, none⟩), .int .i32 y0, .int .i32 (y0 + 1), .bool false, .bool false, .bool false, .bool false] 129 rfl (by kernel_rfl) (by kernel_rfl) (grown_start _) ⟨?o0r9n4, ?o1r9n4, ?o2r9n4, ?o3r9n4, ?o4r9n4, ?o5r9n4, ?o6r9n4, ?o7r9n4, ?o8r9n4, ?o9r9n4, ?o10r9n4, ?o11r9n4, ?o12r9n4, ?o13r9n4, ?o14r9n4, ?o15r9n4, ?o16r9n4, ?o17r9n4, ?o18r9n4, ?o19r9n4, ?o20r9n4, ?o21r9n4, ?o22r9n4, ?o23r9n4, ?o24r9n4, ?o25r9n4, ?o26r9n4, ?o27r9n4, ?o28r9n4, ?o29r9n4, ?o30r9n4, ?o31r9n4, ?o32r9n4, ?o33r9n4, ?o34r9n4, trivial⟩ ?har9n4 ?hdoner9n4
                  case har9n4 => simp [putAll, Act.put]; exact rfl
                  case o0r9n4 => exact ValOp.pure (grown_steady _ 0) [(12, .bool true)] rfl (fun _ _ h2 => ⟨(h2 12 (by kernel_rfl)).trans rfl, trivial⟩) (by kernel_rfl) (fun _ _ _ _ _ => by kernel_rfl)
                  case o1r9n4 => exact ValOp.pure (grown_steady _ 1) [(40, .bool true)] rfl (fun _ h1 _ => ⟨h1 0 40 (by kernel_rfl), trivial⟩) (by kernel_rfl) (fun _ _ _ _ _ => by kernel_rfl)
                  case o2r9n4 => exact ValOp.pure (grown_steady _ 2) [(15, .pointer (some ⟨wr.heap.size, 0, none⟩))] (.inl ⟨41, _, rfl, rfl, by kernel_rfl, rfl⟩) (fun _ _ h2 => ⟨(h2 15 (by kernel_rfl)).trans rfl, trivial⟩) (by kernel_rfl) (fun _ _ _ _ _ => by kernel_rfl)
                  case o3r9n4 => exact ValOp.pure (grown_steady _ 3) [(42, .pointer (some ⟨wr.heap.size, 0, none⟩))] (.inl ⟨41, _, rfl, rfl, by kernel_rfl, rfl⟩) (fun _ h1 _ => ⟨h1 2 42 (by kernel_rfl), trivial⟩) (by kernel_rfl) (fun _ W _ hg _ => run_read rfl rfl (run_cell1 ((CB.out W hg).1) (Try.isAgg21 _)))
                  case o4r9n4 => exact ValOp.pure (grown_steady _ 4) [(43, .int .i32 x)] (.inl ⟨41, _, rfl, rfl, by kernel_rfl, rfl⟩) (fun _ h1 _ => ⟨h1 3 43 (by kernel_rfl), trivial⟩) (by kernel_rfl) (fun _ _ _ _ _ => run_bin (a := .int .i32 x) (b := .int .i32 0) rfl rfl rfl (by kernel_rfl) (by simp [go_sem, d1]))
                  case o5r9n4 => exact ValOp.pure (grown_steady _ 5) [(41, .bool true), (44, .bool true)] rfl (fun _ h1 _ => ⟨h1 1 41 (by kernel_rfl), h1 4 44 (by kernel_rfl), trivial⟩) (by kernel_rfl) (fun _ _ _ _ _ => by kernel_rfl)
                  case o6r9n4 => exact ValOp.pure (grown_steady _ 6) [(45, .bool true)] rfl (fun _ h1 _ => ⟨h1 5 45 (by kernel_rfl), trivial⟩) (by kernel_rfl) (fun _ _ _ _ _ => by kernel_rfl)
                  case o7r9n4 => exact ValOp.pure (grown_steady _ 7) [(15, .pointer (some ⟨wr.heap.size, 0, none⟩))] (.inl ⟨46, _, rfl, rfl, by kernel_rfl, rfl⟩) (fun _ _ h2 => ⟨(h2 15 (by kernel_rfl)).trans rfl, trivial⟩) (by kernel_rfl) (fun _ _ _ _ _ => by kernel_rfl)
                  case o8r9n4 => exact ValOp.pure (grown_steady _ 8) [(47, .pointer (some ⟨wr.heap.size, 0, none⟩))] (.inl ⟨46, _, rfl, rfl, by kernel_rfl, rfl⟩) (fun _ h1 _ => ⟨h1 7 47 (by kernel_rfl), trivial⟩) (by kernel_rfl) (fun _ W _ hg _ => run_read rfl rfl (run_cell1 ((CB.out W hg).1) (Try.isAgg21 _)))
                  case o9r9n4 => exact ValOp.pure (grown_steady _ 9) [(15, .pointer (some ⟨wr.heap.size, 0, none⟩))] (.inl ⟨46, _, rfl, rfl, by kernel_rfl, rfl⟩) (fun _ _ h2 => ⟨(h2 15 (by kernel_rfl)).trans rfl, trivial⟩) (by kernel_rfl) (fun _ _ _ _ _ => by kernel_rfl)
                  case o10r9n4 => exact ValOp.pure (grown_steady _ 10) [(49, .pointer (some ⟨wr.heap.size, 1, none⟩))] (.inl ⟨46, _, rfl, rfl, by kernel_rfl, rfl⟩) (fun _ h1 _ => ⟨h1 9 49 (by kernel_rfl), trivial⟩) (by kernel_rfl) (fun _ W _ hg _ => run_read rfl rfl (run_cell1 ((CB.out W hg).2) (Try.isAgg21 _)))
                  case o11r9n4 => exact ValOp.pure (grown_steady _ 11) [(48, .int .i32 x), (50, .int .i32 y)] (.inl ⟨46, _, rfl, rfl, by kernel_rfl, rfl⟩) (fun _ h1 _ => ⟨h1 8 48 (by kernel_rfl), h1 10 50 (by kernel_rfl), trivial⟩) (by kernel_rfl) (fun _ _ _ _ _ => run_bin (a := .int .i32 x) (b := .int .i32 y) rfl rfl rfl (by kernel_rfl) (by simp [go_sem, d2]))
                  case o12r9n4 => exact ValOp.pure (grown_steady _ 12) [(46, .bool true), (51, .bool true)] rfl (fun _ h1 _ => ⟨h1 6 46 (by kernel_rfl), h1 11 51 (by kernel_rfl), trivial⟩) (by kernel_rfl) (fun _ _ _ _ _ => by kernel_rfl)
                  case o13r9n4 => exact ValOp.pure (grown_steady _ 13) [(52, .bool true)] rfl (fun _ h1 _ => ⟨h1 12 52 (by kernel_rfl), trivial⟩) (by kernel_rfl) (fun _ _ _ _ _ => by kernel_rfl)
                  case o14r9n4 => exact ValOp.pure (grown_steady _ 14) [(15, .pointer (some ⟨wr.heap.size, 0, none⟩))] (.inl ⟨53, _, rfl, rfl, by kernel_rfl, rfl⟩) (fun _ _ h2 => ⟨(h2 15 (by kernel_rfl)).trans rfl, trivial⟩) (by kernel_rfl) (fun _ _ _ _ _ => by kernel_rfl)
                  case o15r9n4 => exact ValOp.pure (grown_steady _ 15) [(54, .pointer (some ⟨wr.heap.size, 1, none⟩))] (.inl ⟨53, _, rfl, rfl, by kernel_rfl, rfl⟩) (fun _ h1 _ => ⟨h1 14 54 (by kernel_rfl), trivial⟩) (by kernel_rfl) (fun _ W _ hg _ => run_read rfl rfl (run_cell1 ((CB.out W hg).2) (Try.isAgg21 _)))
                  case o16r9n4 => exact ValOp.pure (grown_steady _ 16) [(55, .int .i32 y)] (.inl ⟨53, _, rfl, rfl, by kernel_rfl, rfl⟩) (fun _ h1 _ => ⟨h1 15 55 (by kernel_rfl), trivial⟩) (by kernel_rfl) (fun _ _ _ _ _ => run_bin (a := .int .i32 y) (b := .int .i32 1114111) rfl rfl rfl (by kernel_rfl) (by simp [go_sem, d3]))
                  case o17r9n4 => exact ValOp.pure (grown_steady _ 17) [(53, .bool true), (56, .bool true)] rfl (fun _ h1 _ => ⟨h1 13 53 (by kernel_rfl), h1 16 56 (by kernel_rfl), trivial⟩) (by kernel_rfl) (fun _ _ _ _ _ => by kernel_rfl)
                  case o18r9n4 => exact ValOp.pure (grown_steady _ 18) [(57, .bool true)] rfl (fun _ h1 _ => ⟨h1 17 57 (by kernel_rfl), trivial⟩) (by kernel_rfl) (fun _ _ _ _ _ => by kernel_rfl)
                  case o19r9n4 => exact ValOp.pure (grown_steady _ 19) [(14, .int .i64 (k : Int))] (.inl ⟨58, _, rfl, rfl, by kernel_rfl, rfl⟩) (fun _ _ h2 => ⟨(h2 14 (by kernel_rfl)).trans rfl, trivial⟩) (by kernel_rfl) (fun _ _ _ _ _ => by kernel_rfl)
                  case o20r9n4 => exact ValOp.pure (grown_steady _ 20) [(59, .int .i64 (k : Int))] (.inl ⟨58, _, rfl, rfl, by kernel_rfl, rfl⟩) (fun _ h1 _ => ⟨h1 19 59 (by kernel_rfl), trivial⟩) (by kernel_rfl) (fun _ _ _ _ _ => run_bin (a := .int .i64 (k : Int)) (b := .int .i64 0) rfl rfl rfl (by kernel_rfl) (by simp [go_sem, d4]))
                  case o21r9n4 => exact ValOp.pure (grown_steady _ 21) [(60, .bool false)] (.inl ⟨58, _, rfl, rfl, by kernel_rfl, rfl⟩) (fun _ h1 _ => ⟨h1 20 60 (by kernel_rfl), trivial⟩) (by kernel_rfl) (fun _ _ _ _ _ => by kernel_rfl)
                  case o22r9n4 => exact ValOp.pure (grown_steady _ 22) [(15, .pointer (some ⟨wr.heap.size, 0, none⟩))] (.inl ⟨61, _, rfl, rfl, by kernel_rfl, rfl⟩) (fun _ _ h2 => ⟨(h2 15 (by kernel_rfl)).trans rfl, trivial⟩) (by kernel_rfl) (fun _ _ _ _ _ => by kernel_rfl)
                  case o23r9n4 => exact ValOp.pure (grown_steady _ 23) [(62, .pointer (some ⟨wr.heap.size, 0, none⟩))] (.inl ⟨61, _, rfl, rfl, by kernel_rfl, rfl⟩) (fun _ h1 _ => ⟨h1 22 62 (by kernel_rfl), trivial⟩) (by kernel_rfl) (fun _ W _ hg _ => run_read rfl rfl (run_cell1 ((CB.out W hg).1) (Try.isAgg21 _)))
                  case o24r9n4 => exact ValOp.pure (grown_steady _ 24) [(0, .slice (some ⟨g, off, none⟩) X.length xc)] (.inl ⟨61, _, rfl, rfl, by kernel_rfl, rfl⟩) (fun _ _ h2 => ⟨(h2 0 (by kernel_rfl)).trans rfl, trivial⟩) (by kernel_rfl) (fun _ _ _ _ _ => by kernel_rfl)
                  case o25r9n4 => exact ValOp.pure (grown_steady _ 25) [(14, .int .i64 (k : Int))] (.inl ⟨61, _, rfl, rfl, by kernel_rfl, rfl⟩) (fun _ _ h2 => ⟨(h2 14 (by kernel_rfl)).trans rfl, trivial⟩) (by kernel_rfl) (fun _ _ _ _ _ => by kernel_rfl)
                  case o26r9n4 => exact ValOp.pure (grown_steady _ 26) [(65, .int .i64 (k : Int))] (.inl ⟨61, _, rfl, rfl, by kernel_rfl, rfl⟩) (fun _ h1 _ => ⟨h1 25 65 (by kernel_rfl), trivial⟩) (by kernel_rfl) (fun _ _ _ _ _ => run_bin (a := .int .i64 (k : Int)) (b := .int .i64 1) rfl rfl rfl (by kernel_rfl) (by simp only [hk1.out]; simp [go_sem, hk2.out]))
                  case o27r9n4 => exact ValOp.pure (grown_steady _ 27) [(64, .slice (some ⟨g, off, none⟩) X.length xc), (66, .int .i64 ((k - 1 : Nat) : Int))] (.inl ⟨61, _, rfl, rfl, by kernel_rfl, rfl⟩) (fun _ h1 _ => ⟨h1 24 64 (by kernel_rfl), h1 26 66 (by kernel_rfl), trivial⟩) (by kernel_rfl) (fun _ _ _ _ _ => run_ia_35 rfl rfl rfl (by have := HK.out; omega))
                  case o28r9n4 => exact ValOp.pure (grown_steady _ 28) [(67, .pointer (some ⟨g, off + (k - 1) * 2, none⟩))] (.inl ⟨61, _, rfl, rfl, by kernel_rfl, rfl⟩) (fun _ h1 _ => ⟨h1 27 67 (by kernel_rfl), trivial⟩) (by kernel_rfl) (fun _ _ _ _ _ => by kernel_rfl)
                  case o29r9n4 => exact ValOp.pure (grown_steady _ 29) [(68, .pointer (some ⟨g, off + (k - 1) * 2 + 1, none⟩))] (.inl ⟨61, _, rfl, rfl, by kernel_rfl, rfl⟩) (fun _ h1 _ => ⟨h1 28 68 (by kernel_rfl), trivial⟩) (by kernel_rfl) (fun _ W _ hg _ => run_read rfl rfl (run_cell1 (CP.out W hg) (Try.isAgg21 _)))
                  case o30r9n4 => exact ValOp.pure (grown_steady _ 30) [(69, .int .i32 y0)] (.inl ⟨61, _, rfl, rfl, by kernel_rfl, rfl⟩) (fun _ h1 _ => ⟨h1 29 69 (by kernel_rfl), trivial⟩) (by kernel_rfl) (fun _ _ _ _ _ => run_bin (a := .int .i32 y0) (b := .int .i32 1) rfl rfl rfl (by kernel_rfl) (by simp [go_sem, hy0.out]))
                  case o31r9n4 => exact ValOp.pure (grown_steady _ 31) [(63, .int .i32 x), (70, .int .i32 (y0 + 1))] (.inl ⟨61, _, rfl, rfl, by kernel_rfl, rfl⟩) (fun _ h1 _ => ⟨h1 23 63 (by kernel_rfl), h1 30 70 (by kernel_rfl), trivial⟩) (by kernel_rfl) (fun _ _ _ _ _ => run_bin (a := .int .i32 x) (b := .int .i32 (y0 + 1)) rfl rfl rfl (by kernel_rfl) (by simp [go_sem, d5]))
                  case o32r9n4 => exact ValOp.pure (grown_steady _ 32) [(61, .bool false), (71, .bool false)] (.inl ⟨58, _, rfl, rfl, by kernel_rfl, rfl⟩) (fun _ h1 _ => ⟨h1 21 61 (by kernel_rfl), h1 31 71 (by kernel_rfl), trivial⟩) (by kernel_rfl) (fun _ _ _ _ _ => by kernel_rfl)
                  case o33r9n4 => exact ValOp.pure (grown_steady _ 33) [(58, .bool true), (72, .bool false)] rfl (fun _ h1 _ => ⟨h1 18 58 (by kernel_rfl), h1 32 72 (by kernel_rfl), trivial⟩) (by kernel_rfl) (fun _ _ _ _ _ => by kernel_rfl)
                  case o34r9n4 => exact ValOp.pure (grown_steady _ 34) [(73, .bool false)] rfl (fun _ h1 _ => ⟨h1 33 73 (by kernel_rfl), trivial⟩) (by kernel_rfl) (fun _ _ _ _ _ => by kernel_rfl)
                  case hdoner9n4 =>
                    intro w9 s9 hs9 b9
                    have B9 : Hid (Below w2.heap.size w2 w9) := B3.out.trans (Below.mono b9 B3.out.size)
                    have O9 : Hid (w9.ownsRow w2.heap.size 57 3 u13 k (cel3 .i64 (sps (X.take k)))) := owns_below O3.out b9
                    obtain ⟨z1, z2⟩ := CB.out w9 b9
                    have hb9 : w2.heap.size ≤ w9.heap.size := B9.out.size
                    have cn : Hid (∀ j' u, [Value.int .i64 x, .int .i64 y, .int .i64 1][j']? = some u → (w9.alloc (.cells #[.int .i64 x, .int .i64 y, .int .i64 1] 57)).cell? ((⟨w9.heap.size, 0, none⟩ : Addr).add j') = some u) := cells_new w9 #[.int .i64 x, .int .i64 y, .int .i64 1] 57
                    have wx : IntKind.i64.wrap x = x := IntWalk.i64_in _ (by omega)
                    have wy : IntKind.i64.wrap y = y := IntWalk.i64_in _ (by omega)
                    clear b9 hs9 B3 O3 CB CP1
                    go_wp2_with (at_builtin; refine wpList_append_own_at _ rfl _ _ 30 rfl w2.heap.size 57 i0 _ 3 24 Try.underlying30 hi hz0 hz1 hz2 rfl (by decide) _ _ _ rfl (O9.out.alloc _) ⟨_, 0, none⟩ 1 1 [.int .i64 x, .int .i64 y, .int .i64 1] rfl rfl cn.out ?cS62 ?cS63 ?cS64 ?cS65 ?cS66)
                    case cS62 => simp [Value.oneCell']
                    case cS63 => unfold maxLen; have := HK.out; have := hlx.out; omega
                    case cS64 => have := HK.out; have := hlx.out; omega
                    case cS65 => first | omega | (simp; omega)
                    case cS66 =>
                      intro v6 W6 hown hgrow _ _
                      have O6 : Hid (W6.ownsRow w2.heap.size 57 3 v6 (k + 1) (cel3 .i64 (sps (X.take (k + 1))))) := by rw [Hid, hsp.out, cel3_snoc]; exact hown
                      have B6 : Hid (Below w2.heap.size w2 W6) := (B9.out.alloc hb9 _).grown hgrow (by simp; omega) (fun i hi => (O9.out.lt i hi).1)
                      clear hown hgrow O9 B9 cn hsp z1 z2
                      go_wp2
                      exact ⟨⟨k + 1, by have := HK.out; omega, by go_num, by rw [HS.out], O6, B6⟩, by have := HK.out; simp [intOf]; omega⟩
            · have d3 : decide (y ≤ 1114111) = false := decide_eq_false c3
              have HS : Hid (spB 0 (X.take (k + 1)) = false) := by rw [Hid, hst]; simp [okR, c3]
              clear hst hpr hnx hb0 c1 c2 c3
              refine wp_region_vals (a1 := ?a1r9n5) (grown _) [.bool true, .bool true, .pointer (some ⟨wr.heap.size, 0, none⟩), .int .i32 x, .bool true, .bool true, .bool true, .pointer (some ⟨wr.heap.size, 0, none⟩), .int .i32 x, .pointer (some ⟨wr.heap.size, 1, none⟩), .int .i32 y, .bool true, .bool true, .bool true, .pointer (some ⟨wr.heap.size, 1, none⟩), .int .i32 y, .bool false, .bool false, .bool false, undef, undef, undef, undef, undef, undef, undef, undef, undef, undef, undef, undef, undef, undef, .bool false, .bool false] 129 rfl (by kernel_rfl) (by kernel_rfl) (grown_start _) ⟨?o0r9n5, ?o1r9n5, ?o2r9n5, ?o3r9n5, ?o4r9n5, ?o5r9n5, ?o6r9n5, ?o7r9n5, ?o8r9n5, ?o9r9n5, ?o10r9n5, ?o11r9n5, ?o12r9n5, ?o13r9n5, ?o14r9n5, ?o15r9n5, ?o16r9n5, ?o17r9n5, ?o18r9n5, ?o19r9n5, ?o20r9n5, ?o21r9n5, ?o22r9n5, ?o23r9n5, ?o24r9n5, ?o25r9n5, ?o26r9n5, ?o27r9n5, ?o28r9n5, ?o29r9n5, ?o30r9n5, ?o31r9n5, ?o32r9n5, ?o33r9n5, ?o34r9n5, trivial⟩ ?har9n5 ?hdoner9n5
              case har9n5 => simp [putAll, Act.put]; exact rfl
              case o0r9n5 => exact ValOp.pure (grown_steady _ 0) [(12, .bool true)] rfl (fun _ _ h2 => ⟨(h2 12 (by kernel_rfl)).trans rfl, trivial⟩) (by kernel_rfl) (fun _ _ _ _ _ => by kernel_rfl)
              case o1r9n5 => exact ValOp.pure (grown_steady _ 1) [(40, .bool true)] rfl (fun _ h1 _ => ⟨h1 0 40 (by kernel_rfl), trivial⟩) (by kernel_rfl) (fun _ _ _ _ _ => by kernel_rfl)
              case o2r9n5 => exact ValOp.pure (grown_steady _ 2) [(15, .pointer (some ⟨wr.heap.size, 0, none⟩))] (.inl ⟨41, _, rfl, rfl, by kernel_rfl, rfl⟩) (fun _ _ h2 => ⟨(h2 15 (by kernel_rfl)).trans rfl, trivial⟩) (by kernel_rfl) (fun _ _ _ _ _ => by kernel_rfl)
              case o3r9n5 => exact ValOp.pure (grown_steady _ 3) [(42, .pointer (some ⟨wr.heap.size, 0, none⟩))] (.inl ⟨41, _, rfl, rfl, by kernel_rfl, rfl⟩) (fun _ h1 _ => ⟨h1 2 42 (by kernel_rfl), trivial⟩) (by kernel_rfl) (fun _ W _ hg _ => run_read rfl rfl (run_cell1 ((CB.out W hg).1) (Try.isAgg21 _)))
              case o4r9n5 => exact ValOp.pure (grown_steady _ 4) [(43, .int .i32 x)] (.inl ⟨41, _, rfl, rfl, by kernel_rfl, rfl⟩) (fun _ h1 _ => ⟨h1 3 43 (by kernel_rfl), trivial⟩) (by kernel_rfl) (fun _ _ _ _ _ => run_bin (a := .int .i32 x) (b := .int .i32 0) rfl rfl rfl (by kernel_rfl) (by simp [go_sem, d1]))
              case o5r9n5 => exact ValOp.pure (grown_steady _ 5) [(41, .bool true), (44, .bool true)] rfl (fun _ h1 _ => ⟨h1 1 41 (by kernel_rfl), h1 4 44 (by kernel_rfl), trivial⟩) (by kernel_rfl) (fun _ _ _ _ _ => by kernel_rfl)
              case o6r9n5 => exact ValOp.pure (grown_steady _ 6) [(45, .bool true)] rfl (fun _ h1 _ => ⟨h1 5 45 (by kernel_rfl), trivial⟩) (by kernel_rfl) (fun _ _ _ _ _ => by kernel_rfl)
              case o7r9n5 => exact ValOp.pure (grown_steady _ 7) [(15, .pointer (some ⟨wr.heap.size, 0, none⟩))] (.inl ⟨46, _, rfl, rfl, by kernel_rfl, rfl⟩) (fun _ _ h2 => ⟨(h2 15 (by kernel_rfl)).trans rfl, trivial⟩) (by kernel_rfl) (fun _ _ _ _ _ => by kernel_rfl)
              case o8r9n5 => exact ValOp.pure (grown_steady _ 8) [(47, .pointer (some ⟨wr.heap.size, 0, none⟩))] (.inl ⟨46, _, rfl, rfl, by kernel_rfl, rfl⟩) (fun _ h1 _ => ⟨h1 7 47 (by kernel_rfl), trivial⟩) (by kernel_rfl) (fun _ W _ hg _ => run_read rfl rfl (run_cell1 ((CB.out W hg).1) (Try.isAgg21 _)))
              case o9r9n5 => exact ValOp.pure (grown_steady _ 9) [(15, .pointer (some ⟨wr.heap.size, 0, none⟩))] (.inl ⟨46, _, rfl, rfl, by kernel_rfl, rfl⟩) (fun _ _ h2 => ⟨(h2 15 (by kernel_rfl)).trans rfl, trivial⟩) (by kernel_rfl) (fun _ _ _ _ _ => by kernel_rfl)
              case o10r9n5 => exact ValOp.pure (grown_steady _ 10) [(49, .pointer (some ⟨wr.heap.size, 1, none⟩))] (.inl ⟨46, _, rfl, rfl, by kernel_rfl, rfl⟩) (fun _ h1 _ => ⟨h1 9 49 (by kernel_rfl), trivial⟩) (by kernel_rfl) (fun _ W _ hg _ => run_read rfl rfl (run_cell1 ((CB.out W hg).2) (Try.isAgg21 _)))
              case o11r9n5 => exact ValOp.pure (grown_steady _ 11) [(48, .int .i32 x), (50, .int .i32 y)] (.inl ⟨46, _, rfl, rfl, by kernel_rfl, rfl⟩) (fun _ h1 _ => ⟨h1 8 48 (by kernel_rfl), h1 10 50 (by kernel_rfl), trivial⟩) (by kernel_rfl) (fun _ _ _ _ _ => run_bin (a := .int .i32 x) (b := .int .i32 y) rfl rfl rfl (by kernel_rfl) (by simp [go_sem, d2]))
              case o12r9n5 => exact ValOp.pure (grown_steady _ 12) [(46, .bool true), (51, .bool true)] rfl (fun _ h1 _ => ⟨h1 6 46 (by kernel_rfl), h1 11 51 (by kernel_rfl), trivial⟩) (by kernel_rfl) (fun _ _ _ _ _ => by kernel_rfl)
              case o13r9n5 => exact ValOp.pure (grown_steady _ 13) [(52, .bool true)] rfl (fun _ h1 _ => ⟨h1 12 52 (by kernel_rfl), trivial⟩) (by kernel_rfl) (fun _ _ _ _ _ => by kernel_rfl)
              case o14r9n5 => exact ValOp.pure (grown_steady _ 14) [(15, .pointer (some ⟨wr.heap.size, 0, none⟩))] (.inl ⟨53, _, rfl, rfl, by kernel_rfl, rfl⟩) (fun _ _ h2 => ⟨(h2 15 (by kernel_rfl)).trans rfl, trivial⟩) (by kernel_rfl) (fun _ _ _ _ _ => by kernel_rfl)
              case o15r9n5 => exact ValOp.pure (grown_steady _ 15) [(54, .pointer (some ⟨wr.heap.size, 1, none⟩))] (.inl ⟨53, _, rfl, rfl, by kernel_rfl, rfl⟩) (fun _ h1 _ => ⟨h1 14 54 (by kernel_rfl), trivial⟩) (by kernel_rfl) (fun _ W _ hg _ => run_read rfl rfl (run_cell1 ((CB.out W hg).2) (Try.isAgg21 _)))
              case o16r9n5 => exact ValOp.pure (grown_steady _ 16) [(55, .int .i32 y)] (.inl ⟨53, _, rfl, rfl, by kernel_rfl, rfl⟩) (fun _ h1 _ => ⟨h1 15 55 (by kernel_rfl), trivial⟩) (by kernel_rfl) (fun _ _ _ _ _ => run_bin (a := .int .i32 y) (b := .int .i32 1114111) rfl rfl rfl (by kernel_rfl) (by simp [go_sem, d3]))
              case o17r9n5 => exact ValOp.pure (grown_steady _ 17) [(53, .bool true), (56, .bool false)] rfl (fun _ h1 _ => ⟨h1 13 53 (by kernel_rfl), h1 16 56 (by kernel_rfl), trivial⟩) (by kernel_rfl) (fun _ _ _ _ _ => by kernel_rfl)
              case o18r9n5 => exact ValOp.pure (grown_steady _ 18) [(57, .bool false)] rfl (fun _ h1 _ => ⟨h1 17 57 (by kernel_rfl), trivial⟩) (by kernel_rfl) (fun _ _ _ _ _ => by kernel_rfl)
              case o19r9n5 => exact ValOp.no (grown_steady _ 19) (.inl ⟨58, _, rfl, rfl, by kernel_rfl, rfl⟩) rfl
              case o20r9n5 => exact ValOp.no (grown_steady _ 20) (.inl ⟨58, _, rfl, rfl, by kernel_rfl, rfl⟩) rfl
              case o21r9n5 => exact ValOp.no (grown_steady _ 21) (.inl ⟨58, _, rfl, rfl, by kernel_rfl, rfl⟩) rfl
              case o22r9n5 => exact ValOp.no (grown_steady _ 22) (.inr ⟨rfl, 61, rfl, rfl, by kernel_rfl⟩) rfl
              case o23r9n5 => exact ValOp.no (grown_steady _ 23) (.inr ⟨rfl, 61, rfl, rfl, by kernel_rfl⟩) rfl
              case o24r9n5 => exact ValOp.no (grown_steady _ 24) (.inr ⟨rfl, 61, rfl, rfl, by kernel_rfl⟩) rfl
              case o25r9n5 => exact ValOp.no (grown_steady _ 25) (.inr ⟨rfl, 61, rfl, rfl, by kernel_rfl⟩) rfl
              case o26r9n5 => exact ValOp.no (grown_steady _ 26) (.inr ⟨rfl, 61, rfl, rfl, by kernel_rfl⟩) rfl
              case o27r9n5 => exact ValOp.no (grown_steady _ 27) (.inr ⟨rfl, 61, rfl, rfl, by kernel_rfl⟩) rfl
              case o28r9n5 => exact ValOp.no (grown_steady _ 28) (.inr ⟨rfl, 61, rfl, rfl, by kernel_rfl⟩) rfl
              case o29r9n5 => exact ValOp.no (grown_steady _ 29) (.inr ⟨rfl, 61, rfl, rfl, by kernel_rfl⟩) rfl
              case o30r9n5 => exact ValOp.no (grown_steady _ 30) (.inr ⟨rfl, 61, rfl, rfl, by kernel_rfl⟩) rfl
              case o31r9n5 => exact ValOp.no (grown_steady _ 31) (.inr ⟨rfl, 61, rfl, rfl, by kernel_rfl⟩) rfl
              case o32r9n5 => exact ValOp.no (grown_steady _ 32) (.inl ⟨58, _, rfl, rfl, by kernel_rfl, rfl⟩) rfl
              case o33r9n5 => exact ValOp.pure (grown_steady _ 33) [(58, .bool false), (72, undef)] rfl (fun _ h1 _ => ⟨h1 18 58 (by kernel_rfl), h1 32 72 (by kernel_rfl), trivial⟩) (by kernel_rfl) (fun _ _ _ _ _ => by kernel_rfl)
              case o34r9n5 => exact ValOp.pure (grown_steady _ 34) [(73, .bool false)] rfl (fun _ h1 _ => ⟨h1 33 73 (by kernel_rfl), trivial⟩) (by kernel_rfl) (fun _ _ _ _ _ => by kernel_rfl)
              case hdoner9n5 =>
                intro w9 s9 hs9 b9
                have B9 : Hid (Below w2.heap.size w2 w9) := B3.out.trans (Below.mono b9 B3.out.size)
                have O9 : Hid (w9.ownsRow w2.heap.size 57 3 u13 k (cel3 .i64 (sps (X.take k)))) := owns_below O3.out b9
                obtain ⟨z1, z2⟩ := CB.out w9 b9
                have hb9 : w2.heap.size ≤ w9.heap.size := B9.out.size
                have cn : Hid (∀ j' u, [Value.int .i64 x, .int .i64 y, .int .i64 1][j']? = some u → (w9.alloc (.cells #[.int .i64 x, .int .i64 y, .int .i64 1] 57)).cell? ((⟨w9.heap.size, 0, none⟩ : Addr).add j') = some u) := cells_new w9 #[.int .i64 x, .int .i64 y, .int .i64 1] 57
                have wx : IntKind.i64.wrap x = x := IntWalk.i64_in _ (by omega)
                have wy : IntKind.i64.wrap y = y := IntWalk.i64_in _ (by omega)
                clear b9 hs9 B3 O3 CB CP1
                go_wp2_with (at_builtin; refine wpList_append_own_at _ rfl _ _ 30 rfl w2.heap.size 57 i0 _ 3 24 Try.underlying30 hi hz0 hz1 hz2 rfl (by decide) _ _ _ rfl (O9.out.alloc _) ⟨_, 0, none⟩ 1 1 [.int .i64 x, .int .i64 y, .int .i64 1] rfl rfl cn.out ?cS32 ?cS33 ?cS34 ?cS35 ?cS36)
                case cS32 => simp [Value.oneCell']
                case cS33 => unfold maxLen; have := HK.out; have := hlx.out; omega
                case cS34 => have := HK.out; have := hlx.out; omega
                case cS35 => first | omega | (simp; omega)
                case cS36 =>
                  intro v6 W6 hown hgrow _ _
                  have O6 : Hid (W6.ownsRow w2.heap.size 57 3 v6 (k + 1) (cel3 .i64 (sps (X.take (k + 1))))) := by rw [Hid, hsp.out, cel3_snoc]; exact hown
                  have B6 : Hid (Below w2.heap.size w2 W6) := (B9.out.alloc hb9 _).grown hgrow (by simp; omega) (fun i hi => (O9.out.lt i hi).1)
                  clear hown hgrow O9 B9 cn hsp z1 z2
                  go_wp2
                  exact ⟨⟨k + 1, by have := HK.out; omega, by go_num, by rw [HS.out], O6, B6⟩, by have := HK.out; simp [intOf]; omega⟩
          · have d2 : decide (x ≤ y) = false := decide_eq_false c2
            have HS : Hid (spB 0 (X.take (k + 1)) = false) := by rw [Hid, hst]; simp [okR, c2]
            clear hst hpr hnx hb0 c1 c2
            refine wp_region_vals (a1 := ?a1r9n6) (grown _) [.bool true, .bool true, .pointer (some ⟨wr.heap.size, 0, none⟩), .int .i32 x, .bool true, .bool true, .bool true, .pointer (some ⟨wr.heap.size, 0, none⟩), .int .i32 x, .pointer (some ⟨wr.heap.size, 1, none⟩), .int .i32 y, .bool false, .bool false, .bool false, undef, undef, undef, .bool false, .bool false, undef, undef, undef, undef, undef, undef, undef, undef, undef, undef, undef, undef, undef, undef, .bool false, .bool false] 129 rfl (by kernel_rfl) (by kernel_rfl) (grown_start _) ⟨?o0r9n6, ?o1r9n6, ?o2r9n6, ?o3r9n6, ?o4r9n6, ?o5r9n6, ?o6r9n6, ?o7r9n6, ?o8r9n6, ?o9r9n6, ?o10r9n6, ?o11r9n6, ?o12r9n6, ?o13r9n6, ?o14r9n6, ?o15r9n6, ?o16r9n6, ?o17r9n6, ?o18r9n6, ?o19r9n6, ?o20r9n6, ?o21r9n6, ?o22r9n6, ?o23r9n6, ?o24r9n6, ?o25r9n6, ?o26r9n6, ?o27r9n6, ?o28r9n6, ?o29r9n6, ?o30r9n6, ?o31r9n6, ?o32r9n6, ?o33r9n6, ?o34r9n6, trivial⟩ ?har9n6 ?hdoner9n6
            case har9n6 => simp [putAll, Act.put]; exact rfl
            case o0r9n6 => exact ValOp.pure (grown_steady _ 0) [(12, .bool true)] rfl (fun _ _ h2 => ⟨(h2 12 (by kernel_rfl)).trans rfl, trivial⟩) (by kernel_rfl) (fun _ _ _ _ _ => by kernel_rfl)
            case o1r9n6 => exact ValOp.pure (grown_steady _ 1) [(40, .bool true)] rfl (fun _ h1 _ => ⟨h1 0 40 (by kernel_rfl), trivial⟩) (by kernel_rfl) (fun _ _ _ _ _ => by kernel_rfl)
            case o2r9n6 => exact ValOp.pure (grown_steady _ 2) [(15, .pointer (some ⟨wr.heap.size, 0, none⟩))] (.inl ⟨41, _, rfl, rfl, by kernel_rfl, rfl⟩) (fun _ _ h2 => ⟨(h2 15 (by kernel_rfl)).trans rfl, trivial⟩) (by kernel_rfl) (fun _ _ _ _ _ => by kernel_rfl)
            case o3r9n6 => exact ValOp.pure (grown_steady _ 3) [(42, .pointer (some ⟨wr.heap.size, 0, none⟩))] (.inl ⟨41, _, rfl, rfl, by kernel_rfl, rfl⟩) (fun _ h1 _ => ⟨h1 2 42 (by kernel_rfl), trivial⟩) (by kernel_rfl) (fun _ W _ hg _ => run_read rfl rfl (run_cell1 ((CB.out W hg).1) (Try.isAgg21 _)))
            case o4r9n6 => exact ValOp.pure (grown_steady _ 4) [(43, .int .i32 x)] (.inl ⟨41, _, rfl, rfl, by kernel_rfl, rfl⟩) (fun _ h1 _ => ⟨h1 3 43 (by kernel_rfl), trivial⟩) (by kernel_rfl) (fun _ _ _ _ _ => run_bin (a := .int .i32 x) (b := .int .i32 0) rfl rfl rfl (by kernel_rfl) (by simp [go_sem, d1]))
            case o5r9n6 => exact ValOp.pure (grown_steady _ 5) [(41, .bool true), (44, .bool true)] rfl (fun _ h1 _ => ⟨h1 1 41 (by kernel_rfl), h1 4 44 (by kernel_rfl), trivial⟩) (by kernel_rfl) (fun _ _ _ _ _ => by kernel_rfl)
            case o6r9n6 => exact ValOp.pure (grown_steady _ 6) [(45, .bool true)] rfl (fun _ h1 _ => ⟨h1 5 45 (by kernel_rfl), trivial⟩) (by kernel_rfl) (fun _ _ _ _ _ => by kernel_rfl)
            case o7r9n6 => exact ValOp.pure (grown_steady _ 7) [(15, .pointer (some ⟨wr.heap.size, 0, none⟩))] (.inl ⟨46, _, rfl, rfl, by kernel_rfl, rfl⟩) (fun _ _ h2 => ⟨(h2 15 (by kernel_rfl)).trans rfl, trivial⟩) (by kernel_rfl) (fun _ _ _ _ _ => by kernel_rfl)
            case o8r9n6 => exact ValOp.pure (grown_steady _ 8) [(47, .pointer (some ⟨wr.heap.size, 0, none⟩))] (.inl ⟨46, _, rfl, rfl, by kernel_rfl, rfl⟩) (fun _ h1 _ => ⟨h1 7 47 (by kernel_rfl), trivial⟩) (by kernel_rfl) (fun _ W _ hg _ => run_read rfl rfl (run_cell1 ((CB.out W hg).1) (Try.isAgg21 _)))
            case o9r9n6 => exact ValOp.pure (grown_steady _ 9) [(15, .pointer (some ⟨wr.heap.size, 0, none⟩))] (.inl ⟨46, _, rfl, rfl, by kernel_rfl, rfl⟩) (fun _ _ h2 => ⟨(h2 15 (by kernel_rfl)).trans rfl, trivial⟩) (by kernel_rfl) (fun _ _ _ _ _ => by kernel_rfl)
            case o10r9n6 => exact ValOp.pure (grown_steady _ 10) [(49, .pointer (some ⟨wr.heap.size, 1, none⟩))] (.inl ⟨46, _, rfl, rfl, by kernel_rfl, rfl⟩) (fun _ h1 _ => ⟨h1 9 49 (by kernel_rfl), trivial⟩) (by kernel_rfl) (fun _ W _ hg _ => run_read rfl rfl (run_cell1 ((CB.out W hg).2) (Try.isAgg21 _)))
            case o11r9n6 => exact ValOp.pure (grown_steady _ 11) [(48, .int .i32 x), (50, .int .i32 y)] (.inl ⟨46, _, rfl, rfl, by kernel_rfl, rfl⟩) (fun _ h1 _ => ⟨h1 8 48 (by kernel_rfl), h1 10 50 (by kernel_rfl), trivial⟩) (by kernel_rfl) (fun _ _ _ _ _ => run_bin (a := .int .i32 x) (b := .int .i32 y) rfl rfl rfl (by kernel_rfl) (by simp [go_sem, d2]))
            case o12r9n6 => exact ValOp.pure (grown_steady _ 12) [(46, .bool true), (51, .bool false)] rfl (fun _ h1 _ => ⟨h1 6 46 (by kernel_rfl), h1 11 51 (by kernel_rfl), trivial⟩) (by kernel_rfl) (fun _ _ _ _ _ => by kernel_rfl)
            case o13r9n6 => exact ValOp.pure (grown_steady _ 13) [(52, .bool false)] rfl (fun _ h1 _ => ⟨h1 12 52 (by kernel_rfl), trivial⟩) (by kernel_rfl) (fun _ _ _ _ _ => by kernel_rfl)
            case o14r9n6 => exact ValOp.no (grown_steady _ 14) (.inl ⟨53, _, rfl, rfl, by kernel_rfl, rfl⟩) rfl
            case o15r9n6 => exact ValOp.no (grown_steady _ 15) (.inl ⟨53, _, rfl, rfl, by kernel_rfl, rfl⟩) rfl
            case o16r9n6 => exact ValOp.no (grown_steady _ 16) (.inl ⟨53, _, rfl, rfl, by kernel_rfl, rfl⟩) rfl
            case o17r9n6 => exact ValOp.pure (grown_steady _ 17) [(53, .bool false), (56, undef)] rfl (fun _ h1 _ => ⟨h1 13 53 (by kernel_rfl), h1 16 56 (by kernel_rfl), trivial⟩) (by kernel_rfl) (fun _ _ _ _ _ => by kernel_rfl)
            case o18r9n6 => exact ValOp.pure (grown_steady _ 18) [(57, .bool false)] rfl (fun _ h1 _ => ⟨h1 17 57 (by kernel_rfl), trivial⟩) (by kernel_rfl) (fun _ _ _ _ _ => by kernel_rfl)
            case o19r9n6 => exact ValOp.no (grown_steady _ 19) (.inl ⟨58, _, rfl, rfl, by kernel_rfl, rfl⟩) rfl
            case o20r9n6 => exact ValOp.no (grown_steady _ 20) (.inl ⟨58, _, rfl, rfl, by kernel_rfl, rfl⟩) rfl
            case o21r9n6 => exact ValOp.no (grown_steady _ 21) (.inl ⟨58, _, rfl, rfl, by kernel_rfl, rfl⟩) rfl
            case o22r9n6 => exact ValOp.no (grown_steady _ 22) (.inr ⟨rfl, 61, rfl, rfl, by kernel_rfl⟩) rfl
            case o23r9n6 => exact ValOp.no (grown_steady _ 23) (.inr ⟨rfl, 61, rfl, rfl, by kernel_rfl⟩) rfl
            case o24r9n6 => exact ValOp.no (grown_steady _ 24) (.inr ⟨rfl, 61, rfl, rfl, by kernel_rfl⟩) rfl
            case o25r9n6 => exact ValOp.no (grown_steady _ 25) (.inr ⟨rfl, 61, rfl, rfl, by kernel_rfl⟩) rfl
            case o26r9n6 => exact ValOp.no (grown_steady _ 26) (.inr ⟨rfl, 61, rfl, rfl, by kernel_rfl⟩) rfl
            case o27r9n6 => exact ValOp.no (grown_steady _ 27) (.inr ⟨rfl, 61, rfl, rfl, by kernel_rfl⟩) rfl
            case o28r9n6 => exact ValOp.no (grown_steady _ 28) (.inr ⟨rfl, 61, rfl, rfl, by kernel_rfl⟩) rfl
            case o29r9n6 => exact ValOp.no (grown_steady _ 29) (.inr ⟨rfl, 61, rfl, rfl, by kernel_rfl⟩) rfl
            case o30r9n6 => exact ValOp.no (grown_steady _ 30) (.inr ⟨rfl, 61, rfl, rfl, by kernel_rfl⟩) rfl
            case o31r9n6 => exact ValOp.no (grown_steady _ 31) (.inr ⟨rfl, 61, rfl, rfl, by kernel_rfl⟩) rfl
            case o32r9n6 => exact ValOp.no (grown_steady _ 32) (.inl ⟨58, _, rfl, rfl, by kernel_rfl, rfl⟩) rfl
            case o33r9n6 => exact ValOp.pure (grown_steady _ 33) [(58, .bool false), (72, undef)] rfl (fun _ h1 _ => ⟨h1 18 58 (by kernel_rfl), h1 32 72 (by kernel_rfl), trivial⟩) (by kernel_rfl) (fun _ _ _ _ _ => by kernel_rfl)
            case o34r9n6 => exact ValOp.pure (grown_steady _ 34) [(73, .bool false)] rfl (fun _ h1 _ => ⟨h1 33 73 (by kernel_rfl), trivial⟩) (by kernel_rfl) (fun _ _ _ _ _ => by kernel_rfl)
            case hdoner9n6 =>
              intro w9 s9 hs9 b9
              have B9 : Hid (Below w2.heap.size w2 w9) := B3.out.trans (Below.mono b9 B3.out.size)
              have O9 : Hid (w9.ownsRow w2.heap.size 57 3 u13 k (cel3 .i64 (sps (X.take k)))) := owns_below O3.out b9
              obtain ⟨z1, z2⟩ := CB.out w9 b9
              have hb9 : w2.heap.size ≤ w9.heap.size := B9.out.size
              have cn : Hid (∀ j' u, [Value.int .i64 x, .int .i64 y, .int .i64 1][j']? = some u → (w9.alloc (.cells #[.int .i64 x, .int .i64 y, .int .i64 1] 57)).cell? ((⟨w9.heap.size, 0, none⟩ : Addr).add j') = some u) := cells_new w9 #[.int .i64 x, .int .i64 y, .int .i64 1] 57
              have wx : IntKind.i64.wrap x = x := IntWalk.i64_in _ (by omega)
              have wy : IntKind.i64.wrap y = y := IntWalk.i64_in _ (by omega)
              clear b9 hs9 B3 O3 CB CP1
              go_wp2_with (at_builtin; refine wpList_append_own_at _ rfl _ _ 30 rfl w2.heap.size 57 i0 _ 3 24 Try.underlying30 hi hz0 hz1 hz2 rfl (by decide) _ _ _ rfl (O9.out.alloc _) ⟨_, 0, none⟩ 1 1 [.int .i64 x, .int .i64 y, .int .i64 1] rfl rfl cn.out ?cS22 ?cS23 ?cS24 ?cS25 ?cS26)
              case cS22 => simp [Value.oneCell']
              case cS23 => unfold maxLen; have := HK.out; have := hlx.out; omega
              case cS24 => have := HK.out; have := hlx.out; omega
              case cS25 => first | omega | (simp; omega)
              case cS26 =>
                intro v6 W6 hown hgrow _ _
                have O6 : Hid (W6.ownsRow w2.heap.size 57 3 v6 (k + 1) (cel3 .i64 (sps (X.take (k + 1))))) := by rw [Hid, hsp.out, cel3_snoc]; exact hown
                have B6 : Hid (Below w2.heap.size w2 W6) := (B9.out.alloc hb9 _).grown hgrow (by simp; omega) (fun i hi => (O9.out.lt i hi).1)
                clear hown hgrow O9 B9 cn hsp z1 z2
                go_wp2
                exact ⟨⟨k + 1, by have := HK.out; omega, by go_num, by rw [HS.out], O6, B6⟩, by have := HK.out; simp [intOf]; omega⟩
        · have d1 : decide (0 ≤ x) = false := decide_eq_false c1
          have HS : Hid (spB 0 (X.take (k + 1)) = false) := by rw [Hid, hst]; simp [okR, c1]
          clear hst hpr hnx hb0 c1
          refine wp_region_vals (a1 := ?a1r9n7) (grown _) [.bool true, .bool true, .pointer (some ⟨wr.heap.size, 0, none⟩), .int .i32 x, .bool false, .bool false, .bool false, undef, undef, undef, undef, undef, .bool false, .bool false, undef, undef, undef, .bool false, .bool false, undef, undef, undef, undef, undef, undef, undef, undef, undef, undef, undef, undef, undef, undef, .bool false, .bool false] 129 rfl (by kernel_rfl) (by kernel_rfl) (grown_start _) ⟨?o0r9n7, ?o1r9n7, ?o2r9n7, ?o3r9n7, ?o4r9n7, ?o5r9n7, ?o6r9n7, ?o7r9n7, ?o8r9n7, ?o9r9n7, ?o10r9n7, ?o11r9n7, ?o12r9n7, ?o13r9n7, ?o14r9n7, ?o15r9n7, ?o16r9n7, ?o17r9n7, ?o18r9n7, ?o19r9n7, ?o20r9n7, ?o21r9n7, ?o22r9n7, ?o23r9n7, ?o24r9n7, ?o25r9n7, ?o26r9n7, ?o27r9n7, ?o28r9n7, ?o29r9n7, ?o30r9n7, ?o31r9n7, ?o32r9n7, ?o33r9n7, ?o34r9n7, trivial⟩ ?har9n7 ?hdoner9n7
          case har9n7 => simp [putAll, Act.put]; exact rfl
          case o0r9n7 => exact ValOp.pure (grown_steady _ 0) [(12, .bool true)] rfl (fun _ _ h2 => ⟨(h2 12 (by kernel_rfl)).trans rfl, trivial⟩) (by kernel_rfl) (fun _ _ _ _ _ => by kernel_rfl)
          case o1r9n7 => exact ValOp.pure (grown_steady _ 1) [(40, .bool true)] rfl (fun _ h1 _ => ⟨h1 0 40 (by kernel_rfl), trivial⟩) (by kernel_rfl) (fun _ _ _ _ _ => by kernel_rfl)
          case o2r9n7 => exact ValOp.pure (grown_steady _ 2) [(15, .pointer (some ⟨wr.heap.size, 0, none⟩))] (.inl ⟨41, _, rfl, rfl, by kernel_rfl, rfl⟩) (fun _ _ h2 => ⟨(h2 15 (by kernel_rfl)).trans rfl, trivial⟩) (by kernel_rfl) (fun _ _ _ _ _ => by kernel_rfl)
          case o3r9n7 => exact ValOp.pure (grown_steady _ 3) [(42, .pointer (some ⟨wr.heap.size, 0, none⟩))] (.inl ⟨41, _, rfl, rfl, by kernel_rfl, rfl⟩) (fun _ h1 _ => ⟨h1 2 42 (by kernel_rfl), trivial⟩) (by kernel_rfl) (fun _ W _ hg _ => run_read rfl rfl (run_cell1 ((CB.out W hg).1) (Try.isAgg21 _)))
          case o4r9n7 => exact ValOp.pure (grown_steady _ 4) [(43, .int .i32 x)] (.inl ⟨41, _, rfl, rfl, by kernel_rfl, rfl⟩) (fun _ h1 _ => ⟨h1 3 43 (by kernel_rfl), trivial⟩) (by kernel_rfl) (fun _ _ _ _ _ => run_bin (a := .int .i32 x) (b := .int .i32 0) rfl rfl rfl (by kernel_rfl) (by simp [go_sem, d1]))
          case o5r9n7 => exact ValOp.pure (grown_steady _ 5) [(41, .bool true), (44, .bool false)] rfl (fun _ h1 _ => ⟨h1 1 41 (by kernel_rfl), h1 4 44 (by kernel_rfl), trivial⟩) (by kernel_rfl) (fun _ _ _ _ _ => by kernel_rfl)
          case o6r9n7 => exact ValOp.pure (grown_steady _ 6) [(45, .bool false)] rfl (fun _ h1 _ => ⟨h1 5 45 (by kernel_rfl), trivial⟩) (by kernel_rfl) (fun _ _ _ _ _ => by kernel_rfl)
          case o7r9n7 => exact ValOp.no (grown_steady _ 7) (.inl ⟨46, _, rfl, rfl, by kernel_rfl, rfl⟩) rfl
          case o8r9n7 => exact ValOp.no (grown_steady _ 8) (.inl ⟨46, _, rfl, rfl, by kernel_rfl, rfl⟩) rfl
          case o9r9n7 => exact ValOp.no (grown_steady _ 9) (.inl ⟨46, _, rfl, rfl, by kernel_rfl, rfl⟩) rfl
          case o10r9n7 => exact ValOp.no (grown_steady _ 10) (.inl ⟨46, _, rfl, rfl, by kernel_rfl, rfl⟩) rfl
          case o11r9n7 => exact ValOp.no (grown_steady _ 11) (.inl ⟨46, _, rfl, rfl, by kernel_rfl, rfl⟩) rfl
          case o12r9n7 => exact ValOp.pure (grown_steady _ 12) [(46, .bool false), (51, undef)] rfl (fun _ h1 _ => ⟨h1 6 46 (by kernel_rfl), h1 11 51 (by kernel_rfl), trivial⟩) (by kernel_rfl) (fun _ _ _ _ _ => by kernel_rfl)
          case o13r9n7 => exact ValOp.pure (grown_steady _ 13) [(52, .bool false)] rfl (fun _ h1 _ => ⟨h1 12 52 (by kernel_rfl), trivial⟩) (by kernel_rfl) (fun _ _ _ _ _ => by kernel_rfl)
          case o14r9n7 => exact ValOp.no (grown_steady _ 14) (.inl ⟨53, _, rfl, rfl, by kernel_rfl, rfl⟩) rfl
          case o15r9n7 => exact ValOp.no (grown_steady _ 15) (.inl ⟨53, _, rfl, rfl, by kernel_rfl, rfl⟩) rfl
          case o16r9n7 => exact ValOp.no (grown_steady _ 16) (.inl ⟨53, _, rfl, rfl, by kernel_rfl, rfl⟩) rfl
          case o17r9n7 => exact ValOp.pure (grown_steady _ 17) [(53, .bool false), (56, undef)] rfl (fun _ h1 _ => ⟨h1 13 53 (by kernel_rfl), h1 16 56 (by kernel_rfl), trivial⟩) (by kernel_rfl) (fun _ _ _ _ _ => by kernel_rfl)
          case o18r9n7 => exact ValOp.pure (grown_steady _ 18) [(57, .bool false)] rfl (fun _ h1 _ => ⟨h1 17 57 (by kernel_rfl), trivial⟩) (by kernel_rfl) (fun _ _ _ _ _ => by kernel_rfl)
          case o19r9n7 => exact ValOp.no (grown_steady _ 19) (.inl ⟨58, _, rfl, rfl, by kernel_rfl, rfl⟩) rfl
          case o20r9n7 => exact ValOp.no (grown_steady _ 20) (.inl ⟨58, _, rfl, rfl, by kernel_rfl, rfl⟩) rfl
          case o21r9n7 => exact ValOp.no (grown_steady _ 21) (.inl ⟨58, _, rfl, rfl, by kernel_rfl, rfl⟩) rfl
          case o22r9n7 => exact ValOp.no (grown_steady _ 22) (.inr ⟨rfl, 61, rfl, rfl, by kernel_rfl⟩) rfl
          case o23r9n7 => exact ValOp.no (grown_steady _ 23) (.inr ⟨rfl, 61, rfl, rfl, by kernel_rfl⟩) rfl
          case o24r9n7 => exact ValOp.no (grown_steady _ 24) (.inr ⟨rfl, 61, rfl, rfl, by kernel_rfl⟩) rfl
          case o25r9n7 => exact ValOp.no (grown_steady _ 25) (.inr ⟨rfl, 61, rfl, rfl, by kernel_rfl⟩) rfl
          case o26r9n7 => exact ValOp.no (grown_steady _ 26) (.inr ⟨rfl, 61, rfl, rfl, by kernel_rfl⟩) rfl
          case o27r9n7 => exact ValOp.no (grown_steady _ 27) (.inr ⟨rfl, 61, rfl, rfl, by kernel_rfl⟩) rfl
          case o28r9n7 => exact ValOp.no (grown_steady _ 28) (.inr ⟨rfl, 61, rfl, rfl, by kernel_rfl⟩) rfl
          case o29r9n7 => exact ValOp.no (grown_steady _ 29) (.inr ⟨rfl, 61, rfl, rfl, by kernel_rfl⟩) rfl
          case o30r9n7 => exact ValOp.no (grown_steady _ 30) (.inr ⟨rfl, 61, rfl, rfl, by kernel_rfl⟩) rfl
          case o31r9n7 => exact ValOp.no (grown_steady _ 31) (.inr ⟨rfl, 61, rfl, rfl, by kernel_rfl⟩) rfl
          case o32r9n7 => exact ValOp.no (grown_steady _ 32) (.inl ⟨58, _, rfl, rfl, by kernel_rfl, rfl⟩) rfl
          case o33r9n7 => exact ValOp.pure (grown_steady _ 33) [(58, .bool false), (72, undef)] rfl (fun _ h1 _ => ⟨h1 18 58 (by kernel_rfl), h1 32 72 (by kernel_rfl), trivial⟩) (by kernel_rfl) (fun _ _ _ _ _ => by kernel_rfl)
          case o34r9n7 => exact ValOp.pure (grown_steady _ 34) [(73, .bool false)] rfl (fun _ h1 _ => ⟨h1 33 73 (by kernel_rfl), trivial⟩) (by kernel_rfl) (fun _ _ _ _ _ => by kernel_rfl)
          case hdoner9n7 =>
            intro w9 s9 hs9 b9
            have B9 : Hid (Below w2.heap.size w2 w9) := B3.out.trans (Below.mono b9 B3.out.size)
            have O9 : Hid (w9.ownsRow w2.heap.size 57 3 u13 k (cel3 .i64 (sps (X.take k)))) := owns_below O3.out b9
            obtain ⟨z1, z2⟩ := CB.out w9 b9
            have hb9 : w2.heap.size ≤ w9.heap.size := B9.out.size
            have cn : Hid (∀ j' u, [Value.int .i64 x, .int .i64 y, .int .i64 1][j']? = some u → (w9.alloc (.cells #[.int .i64 x, .int .i64 y, .int .i64 1] 57)).cell? ((⟨w9.heap.size, 0, none⟩ : Addr).add j') = some u) := cells_new w9 #[.int .i64 x, .int .i64 y, .int .i64 1] 57
            have wx : IntKind.i64.wrap x = x := IntWalk.i64_in _ (by omega)
            have wy : IntKind.i64.wrap y = y := IntWalk.i64_in _ (by omega)
            clear b9 hs9 B3 O3 CB CP1
            go_wp2_with (at_builtin; refine wpList_append_own_at _ rfl _ _ 30 rfl w2.heap.size 57 i0 _ 3 24 Try.underlying30 hi hz0 hz1 hz2 rfl (by decide) _ _ _ rfl (O9.out.alloc _) ⟨_, 0, none⟩ 1 1 [.int .i64 x, .int .i64 y, .int .i64 1] rfl rfl cn.out ?cS12 ?cS13 ?cS14 ?cS15 ?cS16)
            case cS12 => simp [Value.oneCell']
            case cS13 => unfold maxLen; have := HK.out; have := hlx.out; omega
            case cS14 => have := HK.out; have := hlx.out; omega
            case cS15 => first | omega | (simp; omega)
            case cS16 =>
              intro v6 W6 hown hgrow _ _
              have O6 : Hid (W6.ownsRow w2.heap.size 57 3 v6 (k + 1) (cel3 .i64 (sps (X.take (k + 1))))) := by rw [Hid, hsp.out, cel3_snoc]; exact hown
              have B6 : Hid (Below w2.heap.size w2 W6) := (B9.out.alloc hb9 _).grown hgrow (by simp; omega) (fun i hi => (O9.out.lt i hi).1)
              clear hown hgrow O9 B9 cn hsp z1 z2
              go_wp2
              exact ⟨⟨k + 1, by have := HK.out; omega, by go_num, by rw [HS.out], O6, B6⟩, by have := HK.out; simp [intOf]; omega⟩
    · have kl : decide ((k : Int) < (X.length : Int)) = false := decide_eq_false (by omega)
      have kl2 : ¬ ((k : Int) < (X.length : Int)) := by omega
      have hke : X.take k = X := List.take_of_length_le (by omega)
      have RV : Hid (Rd3 .i64 wr u13 (sps X)) := by
        have h0 := hO.out
        rw [hke] at h0
        refine Rd3.of_owns (b := w2.heap.size) (e := 57) ?_
        rw [sps_len]
        rwa [show k = X.length by omega] at h0
      rw [hke]
      replace T1 : Hid (Tab wr (.pointer pa) (lk (gd L))) := T1.out.below hB.out
      replace T2 : Hid (Tab wr (.pointer pb) (lk (gd K))) := T2.out.below hB.out
      replace R1 : Hid (Rd3 .i64 wr ra (gd L)) := R1.out.below hB.out
      replace R2 : Hid (Rd3 .i64 wr rb (gd K)) := R2.out.below hB.out
      replace B2 : Hid (Below w.heap.size w wr) := B2.out.trans (hB.out.mono B2.out.size)
      clear hO hB hke hkl
      by_cases hgood : X.length ≤ 65536 ∧ spB 0 X = true
      · have d65 : decide ((65536 : Int) < (X.length : Int)) = false := decide_eq_false (by omega)
        have h65 : ¬ ((65536 : Int) < (X.length : Int)) := by omega
        have HG : Hid (X.length ≤ 65536 ∧ spB 0 X = true) := hgood
        rw [hgood.2]
        clear hgood
        go_wp2_with (go_at_call 27; refine (KG.out _ _ _ B2.out T1.out T2.out HG.out.1 HG.out.2).mono ?_)
        first | rintro e w4 T4 rfl t4 b4 | rintro e w4 ⟨T4, rfl, t4, b4⟩
        have T4' : Hid (TabAt w4 T4 (over (lk (gd K)) (whL X (runsL (gd L))))) := t4
        replace T1 : Hid (Tab w4 (.pointer pa) (lk (gd L))) := T1.out.below b4
        replace T2 : Hid (Tab w4 (.pointer pb) (lk (gd K))) := T2.out.below b4
        replace R1 : Hid (Rd3 .i64 w4 ra (gd L)) := R1.out.below b4
        replace R2 : Hid (Rd3 .i64 w4 rb (gd K)) := R2.out.below b4
        replace RV : Hid (Rd3 .i64 w4 u13 (sps X)) := RV.out.below b4
        replace B2 : Hid (Below w.heap.size w w4) := B2.out.trans (b4.mono B2.out.size)
        clear t4 b4 KG KN
        go_wp2_with (go_at_call 29; refine (KW.out _ _ _ _ RV.out R1.out R2.out HG.out.1 HG.out.2).mono ?_)
        first | rintro e w5 v5 rfl r5 b5 | rintro e w5 ⟨v5, rfl, r5, b5⟩
        have R5 : Hid (Rd3 .i64 w5 v5 (lst (runsL (ovr (whL X (runsL (gd L))) (runsL (runsL (gd K))) (runsL (whL X (runsL (gd L)))))))) := r5
        replace T4' : Hid (TabAt w5 T4 (over (lk (gd K)) (whL X (runsL (gd L))))) := T4'.out.below b5
        replace T1 : Hid (Tab w5 (.pointer pa) (lk (gd L))) := T1.out.below b5
        replace T2 : Hid (Tab w5 (.pointer pb) (lk (gd K))) := T2.out.below b5
        replace R1 : Hid (Rd3 .i64 w5 ra (gd L)) := R1.out.below b5
        replace R2 : Hid (Rd3 .i64 w5 rb (gd K)) := R2.out.below b5
        replace B2 : Hid (Below w.heap.size w w5) := B2.out.trans (b5.mono B2.out.size)
        clear r5 b5 KW RV
        go_wp2_with (go_at_call 28; refine (KS1.out _ _ _ HG.out.2 T4'.out R5.out).mono ?_)
        first | rintro e w6 rfl b6 | rintro e w6 ⟨rfl, b6⟩
        replace T1 : Hid (Tab w6 (.pointer pa) (lk (gd L))) := T1.out.below b6
        replace T2 : Hid (Tab w6 (.pointer pb) (lk (gd K))) := T2.out.below b6
        replace R1 : Hid (Rd3 .i64 w6 ra (gd L)) := R1.out.below b6
        replace R2 : Hid (Rd3 .i64 w6 rb (gd K)) := R2.out.below b6
        replace B2 : Hid (Below w.heap.size w w6) := B2.out.trans (b6.mono B2.out.size)
        clear b6 KS1 T4' R5
        go_wp2_with (go_at_call 28; refine (KS0.out _ _ _ _ HOK.out.1 HOK.out.2.1 T1.out ⟨_, rfl⟩ R1.out).mono ?_)
        first | rintro e w7 rfl b7 | rintro e w7 ⟨rfl, b7⟩
        replace T2 : Hid (Tab w7 (.pointer pb) (lk (gd K))) := T2.out.below b7
        replace R2 : Hid (Rd3 .i64 w7 rb (gd K)) := R2.out.below b7
        replace B2 : Hid (Below w.heap.size w w7) := B2.out.trans (b7.mono B2.out.size)
        clear b7 T1 R1
        go_wp2_with (go_at_call 28; refine (KS0.out _ _ _ _ HOK.out.2.2.1 HOK.out.2.2.2 T2.out ⟨_, rfl⟩ R2.out).mono ?_)
        first | rintro e w8 rfl b8 | rintro e w8 ⟨rfl, b8⟩
        replace B2 : Hid (Below w.heap.size w w8) := B2.out.trans (b8.mono B2.out.size)
        clear b8 T2 R2 KS0
        go_wp2
        go_ret
        exact ⟨rfl, B2.out⟩
      · have HG : Hid (¬ (X.length ≤ 65536 ∧ spB 0 X = true)) := hgood
        generalize hsb : spB 0 X = sb at *
        cases sb
        · clear hgood
          go_wp2_with (go_at_call 27; refine (KN.out _ _ _ B2.out (by simp)).mono ?_)
          first | rintro e w4 rfl b4 | rintro e w4 ⟨rfl, b4⟩
          replace B2 : Hid (Below w.heap.size w w4) := B2.out.trans (b4.mono B2.out.size)
          clear b4 KG KN T1 T2 R1 R2 RV
          go_wp2
          go_ret
          exact ⟨rfl, B2.out⟩
        · have d65 : decide ((65536 : Int) < (X.length : Int)) = true := decide_eq_true (by have : ¬ X.length ≤ 65536 := fun h => hgood ⟨h, rfl⟩; omega)
          clear hgood
          go_wp2_with (go_at_call 27; refine (KN.out _ _ _ B2.out (by have := HG.out; simpa using this)).mono ?_)
          first | rintro e w4 rfl b4 | rintro e w4 ⟨rfl, b4⟩
          replace B2 : Hid (Below w.heap.size w w4) := B2.out.trans (b4.mono B2.out.size)
          clear b4 KG KN T1 T2 R1 R2 RV
          go_wp2
          go_ret
          exact ⟨rfl, B2.out⟩
end Go.Proofs.Ytookbgmolggohab
