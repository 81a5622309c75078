/-
  The law StageMemory where the table is built. Conditions: the rows' numbers fit; the list takes no more bytes than there are.
-/
import Derived.Test.YtookbgmolggohabMa
namespace Go.Proofs.Ytookbgmolggohab
open Go.RowKit
set_option maxRecDepth 100000 in
set_option maxHeartbeats 8000000 in
theorem memory_good (L : List Rw) (v : Value) (n : Int) (w : World) (hr : Rd3 .i32 w v L) (hf : fit3 L) (hl : L.length ≤ 8796093022208) (h : (chk L).2 = 0) : Calls Try.prog 3 #[v, .int .i64 n] w fun e w' => e = .returned (.bool true) ∧ Below w.heap.size w w' := by
  have HR : Hid (Rd3 .i32 w v L) := hr
  obtain ⟨hl2, hok, hce⟩ := chk_ok h
  have hrg := lk_range hok
  have HRN : Hid (Rn (lk L) 0 (runsL L) 1114112) := runs_rn hok
  have hlR : (runsL L).length ≤ 1000000 := by have := runsL_len L; omega
  have HF : Hid (fit3 L) := hf
  have K1 : Hid (∀ vc wc, Rd3 .i32 wc vc L → Calls Try.prog 9 #[vc] wc fun e w' => ∃ T, e = .returned (.tuple #[.pointer (some ⟨T, 0, none⟩), .int .i64 0, .int .i64 0]) ∧ TabFrom w' wc.heap.size T (lk L) ∧ Below wc.heap.size wc w') := fun vc wc h1 => build_from L vc wc h1 hf h
  have K2 : Hid (∀ w1, Below w.heap.size w w1 → Calls Try.prog 11 #[v] w1 fun e w' => ∃ v', e = .returned v' ∧ Rd3 .i64 w' v' L ∧ Below w1.heap.size w1 w') := fun w1 b1 => (plain_any L v w1 (hr.below b1) hf hl).mono fun e w' ⟨v', h1, h2, h3⟩ => ⟨v', h1, Rd3.of_owns h2, h3⟩
  have K3 : Hid (∀ w1 v1, Rd3 .i64 w1 v1 L → Calls Try.prog 10 #[v1] w1 fun e w' => e = .returned (.tuple #[.int .i64 0, .int .i64 0]) ∧ Below w1.heap.size w1 w') := fun w1 v1 h1 => by
    have := check_any L v1 w1 h1 hf
    rw [hce] at this
    exact this
  have K4 : Hid (∀ (w1 : World) T, TabAt w1 T (lk L) → Calls Try.prog 12 #[.pointer (some ⟨T, 0, none⟩)] w1 fun e w' => ∃ v, e = .returned v ∧ w'.ownsRow w1.heap.size 33 3 v (lst (runsL L)).length (cel3 .i32 (lst (runsL L))) ∧ Below w1.heap.size w1 w') := fun w1 T hT => (rows_any _ (lk L) w1 (.inr ⟨T, rfl, hT⟩) hrg).mono fun e w' ⟨v, ys, h1, h2, h3, h4⟩ => by
    rw [Rn.uniq h2 HRN.out] at h3
    exact ⟨v, h1, h3, h4⟩
  have K5 : Hid (∀ (w1 : World) T, TabAt w1 T (lk L) → Calls Try.prog 13 #[.pointer (some ⟨T, 0, none⟩), .int .i64 n] w1 fun e w' => ∃ v, e = .returned v ∧ w'.ownsRow (w1.heap.size + 2) 41 2 v (ofN n (runsL L)).length (celS (ofN n (runsL L))) ∧ Below w1.heap.size w1 w') := fun w1 T hT => (set_any _ (lk L) n w1 (.inr ⟨T, rfl, hT⟩) hrg ⟨_, rfl⟩).mono fun e w' ⟨v, ys, h1, h2, h3, h4⟩ => by
    obtain ⟨s1, s2⟩ := set_is h2 HRN.out
    rw [s1, s2] at h3
    exact ⟨v, h1, h3, h4⟩
  have K6 : Hid (∀ (w1 : World) (v1 : Value), Rd3 .i64 w1 v1 L → Calls Try.prog 15 #[v1] w1 fun e w' => ∃ v, e = .returned v ∧ Rd3 .i64 w' v (lst (runsL L)) ∧ Below w1.heap.size w1 w') := fun w1 v1 h1 => (least_any L v1 w1 h1 hok (by omega) hlR).mono fun e w' ⟨v, h1, h3, h4⟩ => ⟨v, h1, Rd3.of_owns h3, h4⟩
  have hmem : ∀ r ∈ runsL L, 0 ≤ r.1 ∧ r.1 ≤ 1114111 ∧ 0 ≤ r.2.1 ∧ r.2.1 ≤ 1114111 := fun r hr => by
    obtain ⟨m1, m2, m3, -⟩ := (Rn.mem HRN.out).2 r hr
    omega
  have hfl : fit3 (lst (runsL L)) := fun r hr => by
    have hr' := (List.mem_filter.1 hr).1
    obtain ⟨m1, m2, m3, m4⟩ := (Rn.mem HRN.out).2 r hr'
    have := hrg r.1
    rw [m4 r.1 (by omega) (by omega)] at this
    omega
  have hn1 : (lst (runsL L)).length ≤ 1000000 := Nat.le_trans (lst_len _) hlR
  have hn2 : (ofN n (runsL L)).length ≤ 1000000 := Nat.le_trans (List.length_filter_le _ _) hlR
  have K7 : Hid (∀ (w1 : World) (v v' : Value), Rd3 .i32 w1 v (lst (runsL L)) → Rd3 .i64 w1 v' (lst (runsL L)) → Calls Try.prog 14 #[v, v'] w1 fun e w' => e = .returned (.bool true) ∧ Below w1.heap.size w1 w') := fun w1 v v' h1 h2 => rows_same _ v v' w1 h1 h2 hfl (by omega)
  have K8 : Hid (∀ (w1 : World) (v1 : Value), Rd3 .i64 w1 v1 L → Calls Try.prog 17 #[v1] w1 fun e w' => ∃ v, e = .returned v ∧ Rd3 .i64 w' v (runsL L) ∧ Below w1.heap.size w1 w') := fun w1 v1 h1 => (runs_any L v1 w1 h1 hok (by omega)).mono fun e w' ⟨v, h1, h3, h4⟩ => ⟨v, h1, Rd3.of_owns h3, h4⟩
  have K9 : Hid (∀ (w1 : World) (v v' : Value), Rd2 w1 v (ofN n (runsL L)) → Rd3 .i64 w1 v' (runsL L) → Calls Try.prog 16 #[v, v', .int .i64 n] w1 fun e w' => e = .returned (.bool true) ∧ Below w1.heap.size w1 w') := fun w1 v v' h1 h2 => spans_same _ n v v' w1 h1 h2 hmem (by omega)
  clear hr h hce hf hok hrg hmem hfl HRN hlR HF
  generalize lk L = F at *
  generalize lst (runsL L) = X1 at *
  generalize ofN n (runsL L) = X2 at *
  generalize runsL L = R at *
  go_enter Try.func3, Try.ntmps3
  go_wp2_with (go_at_call 8; refine (awake_any _).mono ?_)
  intro e wa hq
  first | (obtain ⟨rfl, ba⟩ : _ ∧ _ := hq) | (subst hq; intro ba)
  replace ba : Hid (Below w.heap.size w wa) := ba
  obtain ⟨vc, wc, hap, hoc, hbc⟩ := run_copy wa L v 22 (HR.out.below ba.out) hl
  have hap' : Hid _ := hap
  have HO : Hid (wc.ownsRow wa.heap.size 33 3 vc L.length (cel3 .i32 L)) := hoc
  have HB : Hid (Below w.heap.size w wc) := ba.out.trans (hbc.mono ba.out.size)
  have hac : Hid (w.heap.size ≤ wa.heap.size) := ba.out.size
  clear hap hoc hbc ba
  go_wp2_with (first | (at_builtin; refine wpList_append_run _ rfl _ _ 22 rfl _ _ _ _ rfl rfl hap'.out ?_) | (go_at_call 9; refine (K1.out _ _ (Rd3.of_owns HO.out)).mono ?_))
  first | rintro e w1 T rfl t1 b1 | rintro e w1 ⟨T, rfl, t1, b1⟩
  have B1 : Hid (Below w.heap.size w w1) := HB.out.trans (b1.mono HB.out.size)
  have C1 : Hid (Below wc.heap.size wc w1) := b1
  replace t1 : Hid (TabFrom w1 wc.heap.size T F) := t1
  clear b1 K1 hap'
  go_wp2_with (go_at_call 11; refine (K2.out _ B1.out).mono ?_)
  first | rintro e w2 v2 rfl R2 b2 | rintro e w2 ⟨v2, rfl, R2, b2⟩
  replace R2 : Hid (Rd3 .i64 w2 v2 L) := R2
  have B2 : Hid (Below w.heap.size w w2) := B1.out.trans (b2.mono B1.out.size)
  have C2 : Hid (Below wc.heap.size wc w2) := C1.out.trans (b2.mono C1.out.size)
  have t2 : Hid (TabFrom w2 wc.heap.size T F) := t1.out.below b2
  clear b2 B1 C1 t1
  go_wp2_with (go_at_call 10; refine (K3.out _ _ R2.out).mono ?_)
  intro e w3 hq
  first | (obtain ⟨rfl, b3⟩ : _ ∧ _ := hq) | (subst hq; intro b3)
  have B3 : Hid (Below w.heap.size w w3) := B2.out.trans (b3.mono B2.out.size)
  have C3 : Hid (Below wc.heap.size wc w3) := C2.out.trans (b3.mono C2.out.size)
  have t3 : Hid (TabFrom w3 wc.heap.size T F) := t2.out.below b3
  have O3 := owns_below HO.out C3.out
  have hgin : ∀ g, vc.ownBlock = some g → g < wc.heap.size := fun g hg => by obtain ⟨_, cur, h⟩ := own_in HO.out hg; exact (Array.getElem?_eq_some_iff.1 h).1
  obtain ⟨av, cv, rfl, hlc, hav⟩ := owns_slice O3
  have hin : Hid (0 < L.length → ∃ g, av = some ⟨g, 0, none⟩ ∧ Blk w3 g (L.length * 3) 33 ∧ wa.heap.size ≤ g ∧ g < wc.heap.size) := fun hp => by
    obtain ⟨g, rfl⟩ := hav hp
    obtain ⟨h1, h2⟩ := owns_blk O3
    exact ⟨g, rfl, h1, h2, hgin g rfl⟩
  clear b3 K3 R2 B2 C2 C3 t2 O3 HO HB hgin hav
  go_wp2_with fail
  go_loopw [41] (fun y wr => ∃ k : Nat, k ≤ L.length ∧ y = .int .i64 (k : Nat) ∧ Hid (0 < L.length → ∃ g, av = some ⟨g, 0, none⟩ ∧ Blk wr g (L.length * 3) 33 ∧ wa.heap.size ≤ g ∧ g < wc.heap.size) ∧ Hid (∀ g, wc.heap.size ≤ g → wr.heap[g]? = w3.heap[g]?) ∧ Hid (Below w.heap.size w wr)) (fun y _ => (L.length - (intOf y).toNat : Nat))
  case atStart => exact ⟨0, Nat.zero_le _, rfl, hin, fun _ _ => rfl, B3⟩
  case round =>
    clear hin
    obtain ⟨k, hk, rfl, hin, hsm, hB⟩ := hrel
    by_cases hkl : k < L.length
    · obtain ⟨g, rfl, hbk, hg1, hg2⟩ := hin.out (by omega)
      have kl : (k : Int) < (L.length : Int) := by omega
      obtain ⟨c1, c2, c3⟩ : (∃ u, wr.cell? ⟨g, k * 3, none⟩ = some u ∧ wr.frozen? ⟨g, k * 3, none⟩ = false) ∧ (∃ u, wr.cell? ⟨g, k * 3 + 1, none⟩ = some u ∧ wr.frozen? ⟨g, k * 3 + 1, none⟩ = false) ∧ (∃ u, wr.cell? ⟨g, k * 3 + 2, none⟩ = some u ∧ wr.frozen? ⟨g, k * 3 + 2, none⟩ = false) := ⟨hbk.cell _ (by omega), hbk.cell _ (by omega), hbk.cell _ (by omega)⟩
      obtain ⟨u1, c1, z1⟩ := c1
      obtain ⟨u2, c2, z2⟩ := c2
      obtain ⟨u3, c3, z3⟩ := c3
      have hwg : w.heap.size ≤ g := Nat.le_trans hac.out hg1
      have M1 : Hid (0 < L.length → ∃ g', some (⟨g, 0, none⟩ : Addr) = some ⟨g', 0, none⟩ ∧ Blk (((wr.setCell ⟨g, k * 3, none⟩ (.int .i32 7)).setCell ⟨g, k * 3 + 1, none⟩ (.int .i32 7)).setCell ⟨g, k * 3 + 2, none⟩ (.int .i64 7)) g' (L.length * 3) 33 ∧ wa.heap.size ≤ g' ∧ g' < wc.heap.size) := fun _ => ⟨g, rfl, ((hbk.set _ _).set _ _).set _ _, hg1, hg2⟩
      have M2 : Hid (∀ g', wc.heap.size ≤ g' → (((wr.setCell ⟨g, k * 3, none⟩ (.int .i32 7)).setCell ⟨g, k * 3 + 1, none⟩ (.int .i32 7)).setCell ⟨g, k * 3 + 2, none⟩ (.int .i64 7)).heap[g']? = w3.heap[g']?) := fun g' hg' => by
        have hne : g' ≠ g := by omega
        rw [heap_setCell_other _ ⟨g, k * 3 + 2, none⟩ g' _ hne, heap_setCell_other _ ⟨g, k * 3 + 1, none⟩ g' _ hne, heap_setCell_other _ ⟨g, k * 3, none⟩ g' _ hne]
        exact hsm.out g' hg'
      have M3 : Hid (Below w.heap.size w (((wr.setCell ⟨g, k * 3, none⟩ (.int .i32 7)).setCell ⟨g, k * 3 + 1, none⟩ (.int .i32 7)).setCell ⟨g, k * 3 + 2, none⟩ (.int .i64 7))) := ((hB.out.setCell (p := ⟨g, k * 3, none⟩) hwg _).setCell (p := ⟨g, k * 3 + 1, none⟩) hwg _).setCell (p := ⟨g, k * 3 + 2, none⟩) hwg _
      clear hbk hin hsm hB
      go_wp2
      refine ⟨⟨k + 1, by omega, by go_num, M1, M2, M3⟩, by simp [intOf]; omega⟩
    · have hkk : k = L.length := by omega
      subst hkk
      have tA : Hid (TabAt wr T F) := t3.out wr fun g hg _ => hsm.out g hg
      clear hin hsm t3 B3
      go_wp2_with fail
      clear hkl hk hlc hac
      obtain ⟨i0, hi, hz0, hz1, hz2⟩ := info_parts info62
      obtain ⟨i1, hj, hy0, hy1, hy2⟩ := info_parts info88
      go_loopw [49] (fun y wr => ∃ k : Nat, k ≤ 2 ∧ y = .int .i64 (k : Nat) ∧ Hid (TabAt wr T F) ∧ Hid (Below w.heap.size w wr)) (fun y _ => (2 - (intOf y).toNat : Nat))
      case atStart => exact ⟨0, by omega, rfl, tA, hB⟩
      case round =>
        clear tA hB
        obtain ⟨k, hk, rfl, tA, hB⟩ := hrel
        obtain ⟨wo, hwo⟩ : ∃ wo, wo = wr := ⟨wr, rfl⟩
        subst hwo
        by_cases hk2 : k < 2
        · have kl : (k : Int) < 2 := by omega
          go_wp2_with (go_at_call 12; refine (K4.out _ _ tA.out).mono ?_)
          first | rintro e wb vx rfl ob bb | rintro e wb ⟨vx, rfl, ob, bb⟩
          have Ob : Hid (wb.ownsRow wo.heap.size 33 3 vx X1.length (cel3 .i32 X1)) := ob
          have Bb : Hid (Below wo.heap.size wo wb) := bb
          clear ob bb K4
          go_wp2_with (go_at_call 13; refine (K5.out _ _ (tA.out.below Bb.out)).mono ?_)
          first | rintro e wd vy rfl od bd | rintro e wd ⟨vy, rfl, od, bd⟩
          have Od : Hid (wd.ownsRow wo.heap.size 41 2 vy X2.length (celS X2)) := owns_mono od (by have := Bb.out.size; omega)
          have Oe : Hid (wd.ownsRow wo.heap.size 33 3 vx X1.length (cel3 .i32 X1)) := owns_below Ob.out bd
          have Bd : Hid (Below wo.heap.size wo wd) := Bb.out.trans (bd.mono Bb.out.size)
          clear od bd Ob Bb K5
          go_wp2_with (go_at_call 11; refine (K2.out _ (hB.out.trans (Bd.out.mono hB.out.size))).mono ?_)
          first | rintro e we v3 rfl r3 be | rintro e we ⟨v3, rfl, r3, be⟩
          have Be : Hid (Below wd.heap.size wd we) := be
          replace r3 : Hid (Rd3 .i64 we v3 L) := r3
          clear be
          go_wp2_with (go_at_call 15; refine (K6.out _ _ r3.out).mono ?_)
          first | rintro e wf v4 rfl r4 bf | rintro e wf ⟨v4, rfl, r4, bf⟩
          have Bf : Hid (Below wd.heap.size wd wf) := Be.out.trans (bf.mono Be.out.size)
          replace r4 : Hid (Rd3 .i64 wf v4 X1) := r4
          clear bf Be r3
          go_wp2_with (go_at_call 14; refine (K7.out _ _ _ ((Rd3.of_owns Oe.out).below Bf.out) r4.out).mono ?_)
          intro e wg hq
          first | (obtain ⟨rfl, bg⟩ : _ ∧ _ := hq) | (subst hq; intro bg)
          have Bg : Hid (Below wd.heap.size wd wg) := Bf.out.trans (bg.mono Bf.out.size)
          clear bg Bf r4
          go_wp2_with (go_at_call 11; refine (K2.out _ (hB.out.trans ((Bd.out.trans (Bg.out.mono Bd.out.size)).mono hB.out.size))).mono ?_)
          first | rintro e wh v5 rfl r5 bh | rintro e wh ⟨v5, rfl, r5, bh⟩
          have Bh : Hid (Below wd.heap.size wd wh) := Bg.out.trans (bh.mono Bg.out.size)
          replace r5 : Hid (Rd3 .i64 wh v5 L) := r5
          clear bh Bg
          go_wp2_with (go_at_call 17; refine (K8.out _ _ r5.out).mono ?_)
          first | rintro e wj v6 rfl r6 bj | rintro e wj ⟨v6, rfl, r6, bj⟩
          have Bj : Hid (Below wd.heap.size wd wj) := Bh.out.trans (bj.mono Bh.out.size)
          replace r6 : Hid (Rd3 .i64 wj v6 R) := r6
          clear bj Bh r5
          go_wp2_with (go_at_call 16; refine (K9.out _ _ _ ((Rd2.of_owns Od.out).below Bj.out) r6.out).mono ?_)
          intro e wm hq
          first | (obtain ⟨rfl, bm⟩ : _ ∧ _ := hq) | (subst hq; intro bm)
          have Bm : Hid (Below wd.heap.size wd wm) := Bj.out.trans (bm.mono Bj.out.size)
          have Ox : Hid (∃ xs, wm.ownsRow wo.heap.size 33 3 vx X1.length xs ∧ minus xs 0) := ⟨_, owns_below Oe.out Bm.out, fun j hj => by omega⟩
          have Oy : Hid (∃ ys, wm.ownsRow wo.heap.size 41 2 vy X2.length ys) := ⟨_, owns_below Od.out Bm.out⟩
          have BB : Hid (Below wo.heap.size wo wm) := Bd.out.trans (Bm.out.mono Bd.out.size)
          clear bm Bj r6 Bm Oe Od Bd K2 K6 K7 K8 K9
          generalize X1.length = n1 at *
          generalize X2.length = n2 at *
          obtain ⟨ax, cx, rfl, hlx, hax⟩ := owns_slice Ox.out.choose_spec.1
          obtain ⟨ay, cy, rfl, hly, hay⟩ := owns_slice Oy.out.choose_spec
          replace hax : Hid (0 < n1 → ∃ g, ax = some ⟨g, 0, none⟩) := hax
          replace hay : Hid (0 < n2 → ∃ g, ay = some ⟨g, 0, none⟩) := hay
          clear hlx hly
          go_wp2_with fail
          go_loopw [73] (fun y wr => ∃ j : Nat, j ≤ n1 ∧ y = .int .i64 (j : Nat) ∧ Hid (∃ xs, wr.ownsRow wo.heap.size 33 3 (.slice ax n1 cx) n1 xs ∧ minus xs j) ∧ Hid (∃ ys, wr.ownsRow wo.heap.size 41 2 (.slice ay n2 cy) n2 ys) ∧ Hid (Below wo.heap.size wo wr)) (fun y _ => (n1 - (intOf y).toNat : Nat))
          case atStart => exact ⟨0, by omega, rfl, Ox, Oy, BB⟩
          case round =>
            clear Ox Oy BB
            obtain ⟨j, hj1, rfl, Ox, Oy, BB⟩ := hrel
            by_cases hjl : j < n1
            · have jl : (j : Int) < (n1 : Int) := by omega
              obtain ⟨g, rfl⟩ := hax.out (by omega)
              obtain ⟨xs, o1, m1⟩ := Ox.out
              obtain ⟨ys, o2⟩ := Oy.out
              obtain ⟨bk, hg⟩ := owns_blk o1
              obtain ⟨u, c1, z1⟩ := bk.cell (j * 3 + 2) (by omega)
              have st := o1.stored (j * 3 + 2) (.int .i64 (-1))
              have P1 : Hid (∃ xs, (wr.setCell ⟨g, j * 3 + 2, none⟩ (.int .i64 (-1))).ownsRow wo.heap.size 33 3 (.slice (some ⟨g, 0, none⟩) n1 cx) n1 xs ∧ minus xs (j + 1)) := ⟨_, st.1, minus_set m1 o1.1 hjl⟩
              have P2 : Hid (∃ ys, (wr.setCell ⟨g, j * 3 + 2, none⟩ (.int .i64 (-1))).ownsRow wo.heap.size 41 2 (.slice ay n2 cy) n2 ys) := ⟨_, owns_kept o2 st.2 fun g' hg' e => by
                cases e
                exact owns_apart o2 o1 (by decide) g hg' rfl⟩
              have P3 : Hid (Below wo.heap.size wo (wr.setCell ⟨g, j * 3 + 2, none⟩ (.int .i64 (-1)))) := BB.out.setCell (p := ⟨g, j * 3 + 2, none⟩) hg _
              clear o1 o2 m1 bk st Ox Oy BB
              go_wp2
              refine ⟨⟨j + 1, by omega, by go_num, P1, P2, P3⟩, by simp [intOf]; omega⟩
            · have hjj : n1 = j := by omega
              subst hjj
              clear hjl hj1
              go_wp2_with fail
              go_loopw [83] (fun y wr => ∃ j : Nat, j ≤ n2 ∧ y = .int .i64 (j : Nat) ∧ Hid (∃ xs, wr.ownsRow wo.heap.size 33 3 (.slice ax n1 cx) n1 xs ∧ minus xs n1) ∧ Hid (∃ ys, wr.ownsRow wo.heap.size 41 2 (.slice ay n2 cy) n2 ys) ∧ Hid (Below wo.heap.size wo wr)) (fun y _ => (n2 - (intOf y).toNat : Nat))
              case atStart => exact ⟨0, by omega, rfl, Ox, Oy, BB⟩
              case round =>
                clear Ox Oy BB
                obtain ⟨j, hj1, rfl, Ox, Oy, BB⟩ := hrel
                by_cases hjl : j < n2
                · have jl : (j : Int) < (n2 : Int) := by omega
                  obtain ⟨g, rfl⟩ := hay.out (by omega)
                  obtain ⟨xs, o1, m1⟩ := Ox.out
                  obtain ⟨ys, o2⟩ := Oy.out
                  obtain ⟨bk, hg⟩ := owns_blk o2
                  obtain ⟨u, c1, z1⟩ := bk.cell (j * 2) (by omega)
                  have st := o2.stored (j * 2) (.int .i32 (-1))
                  have P2 : Hid (∃ ys, (wr.setCell ⟨g, j * 2, none⟩ (.int .i32 (-1))).ownsRow wo.heap.size 41 2 (.slice (some ⟨g, 0, none⟩) n2 cy) n2 ys) := ⟨_, st.1⟩
                  have P1 : Hid (∃ xs, (wr.setCell ⟨g, j * 2, none⟩ (.int .i32 (-1))).ownsRow wo.heap.size 33 3 (.slice ax n1 cx) n1 xs ∧ minus xs n1) := ⟨_, owns_kept o1 st.2 (fun g' hg' e => by
                    cases e
                    exact owns_apart o1 o2 (by decide) g hg' rfl), m1⟩
                  have P3 : Hid (Below wo.heap.size wo (wr.setCell ⟨g, j * 2, none⟩ (.int .i32 (-1)))) := BB.out.setCell (p := ⟨g, j * 2, none⟩) hg _
                  clear o1 o2 m1 bk st Ox Oy BB
                  go_wp2
                  refine ⟨⟨j + 1, by omega, by go_num, P1, P2, P3⟩, by simp [intOf]; omega⟩
                · have hjj : n2 = j := by omega
                  subst hjj
                  clear hjl hj1
                  go_wp2_with fail
                  go_loopw [12, 13, 91] (fun x y z wr => ∃ j : Nat, j ≤ 9 ∧ z = .int .i64 (j : Nat) ∧ Hid (∃ xs, wr.ownsRow wo.heap.size 33 3 x (n1 + j) xs ∧ minus xs n1) ∧ Hid (∃ ys, wr.ownsRow wo.heap.size 41 2 y (n2 + j) ys) ∧ Hid (Below wo.heap.size wo wr)) (fun _ _ z _ => (9 - (intOf z).toNat : Nat))
                  case atStart => exact ⟨0, by omega, rfl, Ox, Oy, BB⟩
                  case round =>
                    clear Ox Oy BB
                    obtain ⟨j, hj1, rfl, Ox, Oy, BB⟩ := hrel
                    by_cases hjl : j < 9
                    · have jl : (j : Int) < 9 := by omega
                      obtain ⟨xs, o1, m1⟩ := Ox.out
                      obtain ⟨ys, o2⟩ := Oy.out
                      have hbsz := BB.out.size
                      have hcn := cells_new wr #[.int .i32 0, .int .i32 0, .int .i64 (-2)] 33
                      go_wp2_with (at_builtin; refine wpList_append_own_at _ rfl _ _ 22 rfl wo.heap.size 33 i0 _ 3 16 Try.underlying22 hi hz0 hz1 hz2 rfl (by decide) _ _ _ rfl (o1.alloc _) ⟨_, 0, none⟩ 1 1 [.int .i32 0, .int .i32 0, .int .i64 (-2)] rfl rfl ?h1 ?h2 ?h3 ?h4 ?h5 ?h6)
                      try (case h1 => exact hcn)
                      case h2 => simp [Value.oneCell']
                      case h3 => unfold maxLen; omega
                      case h4 => omega
                      case h5 => first | omega | (simp; omega)
                      case h6 =>
                        intro v' w' hown hgrow _ _
                        have P1 : Hid (∃ xs, w'.ownsRow wo.heap.size 33 3 v' (n1 + (j + 1)) xs ∧ minus xs n1) := ⟨_, hown, minus_app m1⟩
                        have P2 : Hid (w'.ownsRow wo.heap.size 41 2 u13 (n2 + j) ys) := owns_kept (o2.alloc _) hgrow (fun g' hg' => owns_apart o2 o1 (by decide) g' hg')
                        have P3 : Hid (Below wo.heap.size wo w') := (BB.out.alloc hbsz _).grown hgrow (by simp; omega) (fun i hi => (o1.lt i hi).1)
                        clear hown hgrow o1 o2 m1 hcn Ox Oy BB hbsz
                        obtain ⟨wq, hwq⟩ : ∃ wq, wq = w' := ⟨w', rfl⟩
                        subst hwq
                        have hbsz := P3.out.size
                        have hcn := cells_new wq #[.int .i32 (-2), .int .i32 0] 41
                        go_wp2_with (at_builtin; refine wpList_append_own_at _ rfl _ _ 35 rfl wo.heap.size 41 i1 _ 2 8 Try.underlying35 hj hy0 hy1 hy2 rfl (by decide) _ _ _ rfl (P2.out.alloc _) ⟨_, 0, none⟩ 1 1 [.int .i32 (-2), .int .i32 0] rfl rfl ?g1 ?g2 ?g3 ?g4 ?g5 ?g6)
                        try (case g1 => exact hcn)
                        case g2 => simp [Value.oneCell']
                        case g3 => unfold maxLen; omega
                        case g4 => omega
                        case g5 => first | omega | (simp; omega)
                        case g6 =>
                          intro v2' w2' hown hgrow _ _
                          obtain ⟨xs, o1, m1⟩ := P1.out
                          have Q1 : Hid (∃ xs, w2'.ownsRow wo.heap.size 33 3 v' (n1 + (j + 1)) xs ∧ minus xs n1) := ⟨_, owns_kept (o1.alloc _) hgrow (fun g' hg' => owns_apart o1 P2.out (by decide) g' hg'), m1⟩
                          have Q2 : Hid (∃ ys, w2'.ownsRow wo.heap.size 41 2 v2' (n2 + (j + 1)) ys) := ⟨_, hown⟩
                          have Q3 : Hid (Below wo.heap.size wo w2') := (P3.out.alloc hbsz _).grown hgrow (by simp; omega) (fun i hi => (P2.out.lt i hi).1)
                          clear hown hgrow o1 m1 P1 P2 P3 hcn hbsz
                          go_wp2
                          refine ⟨⟨j + 1, by omega, by go_num, Q1, Q2, Q3⟩, by simp [intOf]; omega⟩
                    · have hjj : j = 9 := by omega
                      subst hjj
                      clear hjl hj1
                      obtain ⟨xs, o1, m1⟩ := Ox.out
                      obtain ⟨ax9, cx9, hv9, hl9, ha9⟩ := owns_slice o1
                      obtain ⟨g9, rfl⟩ := ha9 (by omega)
                      rw [hv9] at o1
                      have HX : Hid (∀ i, i < n1 → wr.cell? ⟨g9, i * 3 + 2, none⟩ = some (.int .i64 (-1))) := fun i hi => (owns_cell o1 rfl (i * 3 + 2) _ (m1 i hi)).1
                      have hg9 : Hid (n1 ≤ n1 + 9 ∧ g9 < wr.heap.size) := ⟨by omega, by obtain ⟨⟨cur, h1, _⟩, _⟩ := owns_blk o1; exact (Array.getElem?_eq_some_iff.1 h1).1⟩
                      have w9 : IntKind.i64.wrap (((n1 + 9 : Nat) : Int) - 9) = (n1 : Int) := by rw [IntWalk.i64_in _ (by omega)]; omega
                      clear o1 m1 Ox Oy ha9
                      rw [hv9]
                      go_wp2_with fail
                      go_loopw [105] (fun y wi => ∃ j : Nat, j ≤ n1 ∧ y = .int .i64 (j : Nat) ∧ Hid (∀ i, i < n1 → wi.cell? ⟨g9, i * 3 + 2, none⟩ = some (.int .i64 (-1))) ∧ Hid (Below wo.heap.size wo wi)) (fun y _ => (n1 - (intOf y).toNat : Nat))
                      case atStart => exact ⟨0, by omega, rfl, HX, BB⟩
                      case round =>
                        clear HX BB
                        obtain ⟨j, hj1, rfl, HX, BB⟩ := hrel
                        by_cases hjl : j < n1
                        · have jl : (j : Int) < (n1 : Int) := by omega
                          have c1 := HX.out j hjl
                          have j9 : ¬ n1 + 9 ≤ j := by omega
                          go_wp2
                          refine ⟨⟨j + 1, by omega, by go_num, HX, BB⟩, by simp [intOf]; omega⟩
                        · have hjj : n1 = j := by omega
                          subst hjj
                          have tB : Hid (TabAt wr T F) := tA.out.below BB.out
                          have BC : Hid (Below w.heap.size w wr) := hB.out.trans (BB.out.mono hB.out.size)
                          clear HX hjl hj1
                          go_wp2
                          refine ⟨⟨k + 1, by omega, by go_num, tB, BC⟩, by simp [intOf]; omega⟩
        · have hkk : k = 2 := by omega
          subst hkk
          go_wp2
          go_ret
          exact ⟨rfl, hB.out⟩
theorem law_memory (L : List Rw) (v : Value) (n : Int) (w : World) (hr : Rd3 .i32 w v L) (hf : fit3 L) (hl : L.length ≤ 8796093022208) : Calls Try.prog 3 #[v, .int .i64 n] w fun e w' => e = .returned (.bool true) ∧ Below w.heap.size w w' := by
  by_cases h : (chk L).2 = 0
  · exact memory_good L v n w hr hf hl h
  · exact memory_bad L v n w hr hf hl h
end Go.Proofs.Ytookbgmolggohab
