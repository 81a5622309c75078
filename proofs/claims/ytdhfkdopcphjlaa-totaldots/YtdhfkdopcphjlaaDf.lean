/-
  The contract of the document's ExactDot, and what the statement of Dot, ExactDot and Poly asks: it is true. Conditions: the floats' bits fit; the lists take no more bytes than there are.
-/
import Derived.Test.YtdhfkdopcphjlaaDe
import Derived.Deep.QuietTactic
import Derived.BigQuiet
namespace Go.Proofs.Ytdhfkdopcphjlaa
open Go.RowKit
theorem rd_both {us bs : List Nat} {al : Bool} {f : Nat → Int} (h : RdAt us bs us.length true true al f) : rdV us bs = 9218868437227405313 := by
  obtain ⟨a1, a2, a3, -, -, -⟩ := h
  unfold rdV
  rw [a1, ← a2, ← a3]
  rfl
theorem rd_up {us bs : List Nat} {al : Bool} {f : Nat → Int} (h : RdAt us bs us.length true false al f) : rdV us bs = 9218868437227405312 := by
  obtain ⟨a1, a2, a3, -, -, -⟩ := h
  unfold rdV exV
  rw [a1, ← a2, ← a3]
  rfl
theorem rd_down {us bs : List Nat} {al : Bool} {f : Nat → Int} (h : RdAt us bs us.length false true al f) : rdV us bs = 18442240474082181120 := by
  obtain ⟨a1, a2, a3, -, -, -⟩ := h
  unfold rdV exV
  rw [a1, ← a2, ← a3]
  rfl
theorem ord_sg {b : Nat} (hb : b < 18446744073709551616) (hn : nan64 b = false) (hz : nulB b = false) : FloatKind.f64.format.order b 0 = some .lt ∨ FloatKind.f64.format.order b 0 = some .gt := by
  have h := ord_nul hb hn
  have hz' := of_decide_eq_false hz
  unfold plc64 at h
  by_cases s : b < 9223372036854775808
  · rw [if_pos s, cmp_gt (by omega)] at h; exact .inr h
  · rw [if_neg s, cmp_lt (by omega)] at h; exact .inl h
theorem ord_eq {b : Nat} (hb : b < 18446744073709551616) (hn : nan64 b = false) (hz : nulB b = true) : FloatKind.f64.format.order b 0 = some .eq := by
  have h := ord_nul hb hn
  have hz' := of_decide_eq_true hz
  unfold plc64 at h
  rw [cmp_eq (by split <;> omega)] at h
  exact h
theorem below_drew (B : Nat) (w : World) (n : Nat) : Below B w (w.drewN n) := ⟨rfl, rfl, rfl, Nat.le_refl _, fun _ _ => rfl⟩
theorem RdAt.cast {us bs : List Nat} {k : Nat} {u u' d d' al : Bool} {f : Nat → Int} (h : RdAt us bs k u d al f) (e1 : u = u') (e2 : d = d') : RdAt us bs k u' d' al f := by subst e1 e2; exact h
theorem wr_mul {a b : Nat} {A B : Int} (ha : A = (a : Int)) (hb : B = (b : Int)) (h : a * b < 18446744073709551616) : IntKind.u64.wrap (A * B) = ((a * b : Nat) : Int) := by
  subst ha hb
  rw [IntKind.wrap_u64, ← Int.natCast_mul]
  omega
theorem inf_nul {b : Nat} (h : infB b = true) : nulB b = false := by
  have := of_decide_eq_true h
  exact decide_eq_false (by omega)
attribute [local go_sem] rowB_size stB isRow_at isRow_past rowIn_at rowIn_past setRow_at setRow_past
set_option maxRecDepth 100000 in
set_option maxHeartbeats 8000000 in
theorem rexdot_any (us bs : List Nat) (p q : Option Addr) (c d : Nat) (w : World) (ha : ∀ b ∈ us, b < 18446744073709551616) (hb : ∀ b ∈ bs, b < 18446744073709551616) (hl : us.length ≤ 65536) (he : bs.length = us.length) (hr : Rd w (.slice p us.length c) (flt us)) (hq : Rd w (.slice q us.length d) (flt bs)) : Calls Try.prog 35 #[.slice p us.length c, .slice q us.length d] w fun e w' => e = .returned (.float .f64 (rdV us bs)) ∧ Below w.heap.size w w' := by
  obtain ⟨hz, hi⟩ := zero_of_info info62
  clear hi
  have x10 := ext10
  have k43 := None_any
  have hl2 : (us.length : Int) ≤ 65536 := by omega
  have hl3 : decide ((us.length : Int) > 0) = decide (0 < us.length) := by rw [decide_eq_decide]; omega
  have hl4 : decide ((0 : Int) < (us.length : Int)) = decide (0 < us.length) := hl3
  have HL : Hid (us.length ≤ 65536) := hl
  replace ha : Hid (∀ b ∈ us, b < 18446744073709551616) := ha
  replace hb : Hid (∀ b ∈ bs, b < 18446744073709551616) := hb
  replace hr : Hid (Rd w (.slice p us.length c) (flt us)) := hr
  replace hq : Hid (Rd w (.slice q us.length d) (flt bs)) := hq
  replace he : Hid (bs.length = us.length) := he
  have BK : Hid (Bk (w.alloc (.cells (rowB fun _ => 0) 62)) w.heap.size fun _ => 0) := Bk.new _ _
  have BB : Hid (Below w.heap.size w (w.alloc (.cells (rowB fun _ => 0) 62))) := (Below.refl _ _).alloc (Nat.le_refl _) _
  clear hl
  go_enter Try.func35, Try.ntmps35
  go_wp2_with fail
  go_loopw [5, 6, 7, 9] (fun y5 y6 y7 x wr => ∃ (k : Nat) (up dn al : Bool) (f : Nat → Int), k ≤ us.length ∧ x = .int .i64 (k : Int) ∧ y5 = .bool up ∧ y6 = .bool dn ∧ y7 = .bool al ∧ Hid (RdAt us bs k up dn al f) ∧ Hid (Bk wr w.heap.size f) ∧ Hid (Below w.heap.size w wr)) (fun _ _ _ x _ => us.length - (intOf x).toNat)
  case atStart => exact ⟨0, false, false, decide (0 < us.length), fun _ => 0, by omega, rfl, rfl, rfl, rfl, RdAt.start us bs, BK.out, BB.out⟩
  case round =>
    clear BK BB hz hl3 hl4
    obtain ⟨k, up, dn, al, f, hk, rfl, rfl, rfl, rfl, hR, bk, bb⟩ := hrel
    by_cases ck : k < us.length
    · have k2 : (k : Int) < (us.length : Int) := by omega
      have ck2 : Hid (k < us.length) := ck
      have hkb : k < bs.length := by have := he.out; omega
      obtain ⟨g, off, rfl, c1⟩ := hr.out.at rfl bb.out ck
      obtain ⟨g', off', rfl, c2⟩ := hq.out.at he.out.symm bb.out hkb
      have hx := getD_lt ha.out k ck
      have hy := getD_lt hb.out k hkb
      have hnn : Hid (nnB (us.getD k 0) (bs.getD k 0) = true → rdV us bs = 9218868437227405313) := fun h => by
        unfold rdV
        rw [dF_n ha.out hb.out he.out ck h]
        rfl
      have k42x := none_any (us.getD k 0)
      have k42y := none_any (bs.getD k 0)
      have k44x := fun w h => infinite_doc (us.getD k 0) w hx h
      have k44y := fun w h => infinite_doc (bs.getD k 0) w hy h
      have k45x := fun w => negative_any (us.getD k 0) w hx
      have k45y := fun w => negative_any (bs.getD k 0) w hy
      have k46x := fun w => rparts_any (us.getD k 0) w hx
      have k46y := fun w => rparts_any (bs.getD k 0) w hy
      have hI := fun h1 h2 => hR.out.inf hx hy h1 h2
      have hFi := fun h1 h2 h3 h4 => hR.out.fin (by have := HL.out; omega) hx hy h1 h2 h3 h4
      have oxs := fun h1 h2 => ord_sg hx h1 h2
      have oys := fun h1 h2 => ord_sg hy h1 h2
      have oxe := fun h1 h2 => ord_eq hx h1 h2
      have oye := fun h1 h2 => ord_eq hy h1 h2
      have izx := fun h => inf_nul (b := us.getD k 0) h
      have izy := fun h => inf_nul (b := bs.getD k 0) h
      have rx := pe_rng (us.getD k 0)
      have ry := pe_rng (bs.getD k 0)
      have mx := pm_53 (us.getD k 0)
      have my := pm_53 (bs.getD k 0)
      unfold nnB at hnn hI
      clear hR hx hy hkb ck hk
      generalize us.getD k 0 = x at *
      generalize bs.getD k 0 = y at *
      generalize pmB x = PM at *
      generalize pmB y = PN at *
      generalize peB x = PE at *
      generalize peB y = PF at *
      generalize sgB x = S at *
      generalize sgB y = T at *
      cases nx : nan64 x
      · cases ny : nan64 y
        · rw [nx] at k42x
          rw [ny] at k42y
          replace k44x := fun w => k44x w nx
          replace k44y := fun w => k44y w ny
          replace oxs := oxs nx
          replace oys := oys ny
          replace oxe := oxe nx
          replace oye := oye ny
          rw [nx, ny] at hI
          cases ix : infB x
          · rw [ix] at k44x hI
            cases iy : infB y
            · rw [iy] at k44y
              clear hI hnn izx izy
              obtain ⟨g1, g2, g3, g4, p1, p2, p3, p4, hR4⟩ := hFi nx ny ix iy
              clear hFi nx ny ix iy
              obtain ⟨rx1, rx2⟩ := rx
              obtain ⟨ry1, ry2⟩ := ry
              have q1 := wr_mul (A := (PM : Int) % 4294967296) (B := (PN : Int) % 4294967296) (a := PM % 4294967296) (b := PN % 4294967296) (by omega) (by omega) (mul_small (p := 4294967295) (q := 4294967295) (by omega) (by omega) (by decide))
              have q2 := wr_mul (A := (PM : Int) / 4294967296) (B := (PN : Int) % 4294967296) (a := PM / 4294967296) (b := PN % 4294967296) (by omega) (by omega) (mul_small (p := 4294967295) (q := 4294967295) (by omega) (by omega) (by decide))
              have q3 := wr_mul (A := (PM : Int) % 4294967296) (B := (PN : Int) / 4294967296) (a := PM % 4294967296) (b := PN / 4294967296) (by omega) (by omega) (mul_small (p := 4294967295) (q := 4294967295) (by omega) (by omega) (by decide))
              have q4 := wr_mul (A := (PM : Int) / 4294967296) (B := (PN : Int) / 4294967296) (a := PM / 4294967296) (b := PN / 4294967296) (by omega) (by omega) (mul_small (p := 4294967295) (q := 4294967295) (by omega) (by omega) (by decide))
              unfold Plus at p1 p2 p3 p4
              generalize PM % 4294967296 * (PN % 4294967296) = M1 at *
              generalize PM / 4294967296 * (PN % 4294967296) = M2 at *
              generalize PM % 4294967296 * (PN / 4294967296) = M3 at *
              generalize PM / 4294967296 * (PN / 4294967296) = M4 at *
              replace p1 : ∀ w', Calls Try.prog 47 #[.agg (rowB f), .int .u64 (M1 : Int), .int .i64 (PE + PF), .bool (!(S == T))] w' fun e w'' => e = .returned (.agg (rowB g1)) ∧ Below w'.heap.size w' w'' := p1
              replace p2 : ∀ w', Calls Try.prog 47 #[.agg (rowB g1), .int .u64 (M2 : Int), .int .i64 (PE + PF + 32), .bool (!(S == T))] w' fun e w'' => e = .returned (.agg (rowB g2)) ∧ Below w'.heap.size w' w'' := p2
              replace p3 : ∀ w', Calls Try.prog 47 #[.agg (rowB g2), .int .u64 (M3 : Int), .int .i64 (PE + PF + 32), .bool (!(S == T))] w' fun e w'' => e = .returned (.agg (rowB g3)) ∧ Below w'.heap.size w' w'' := p3
              replace p4 : ∀ w', Calls Try.prog 47 #[.agg (rowB g3), .int .u64 (M4 : Int), .int .i64 (PE + PF + 64), .bool (!(S == T))] w' fun e w'' => e = .returned (.agg (rowB g4)) ∧ Below w'.heap.size w' w'' := p4
              clear mx my k43
              have bk0 := bk
              have bb0 := bb
              cases al
              · have HR4 : Hid (RdAt us bs (k + 1) up dn false g4) := hR4
                clear hR4 oxs oys oxe oye
                go_wp2_with fail
                go_quiet (fail)
                go_wp2_with fail
                refine (k42x _).mono ?_
                rintro e w1 ⟨rfl, rfl⟩
                go_wp2_with fail
                refine (k42y _).mono ?_
                rintro e w1 ⟨rfl, rfl⟩
                go_wp2_with fail
                refine (k44x _).mono ?_
                rintro e w1 ⟨rfl, rfl⟩
                go_wp2_with fail
                refine (k44y _).mono ?_
                rintro e w1 ⟨rfl, rfl⟩
                go_wp2_with fail
                refine (k45x _).mono ?_
                rintro e w1 ⟨rfl, rfl⟩
                go_wp2_with fail
                refine (k45y _).mono ?_
                rintro e w1 ⟨rfl, rfl⟩
                go_wp2_with fail
                refine (k44x _).mono ?_
                rintro e w1 ⟨rfl, rfl⟩
                go_wp2_with fail
                refine (k44y _).mono ?_
                rintro e w1 ⟨rfl, rfl⟩
                go_wp2_with fail
                refine (k46x _).mono ?_
                rintro e w1 ⟨rfl, rfl⟩
                go_wp2_with fail
                refine (k46y _).mono ?_
                rintro e w1 ⟨rfl, rfl⟩
                go_wp2_with (refine wpList_ld rfl 62 _ rfl w.heap.size rfl 280 Try.underlying62 rfl (by kernel_rfl) (rowB f) bk0.out.isRow bk0.out.rowIn ?_)
                refine (p1 _).mono ?_
                rintro e w2 ⟨rfl, b2⟩
                have bkn := Bk.below (w := wr.drewN _) bk0.out b2
                have bbn := bb0.out.trans ((below_drew _ _ _).trans (b2.mono bb0.out.size))
                have hRn1 := bkn.isRow
                have bk1 : Hid (Bk (w2.setRow w.heap.size (rowB g1)) w.heap.size g1) := bkn.set _
                have bb1 : Hid (Below w.heap.size w (w2.setRow w.heap.size (rowB g1))) := below_setRow bbn (Nat.le_refl _) _
                clear b2 bkn bbn
                go_wp2_with (refine wpList_ld rfl 62 _ rfl w.heap.size rfl 280 Try.underlying62 rfl (by kernel_rfl) (rowB g1) bk1.out.isRow bk1.out.rowIn ?_)
                refine (p2 _).mono ?_
                rintro e w3 ⟨rfl, b2⟩
                have bkn := bk1.out.below b2
                have bbn := bb1.out.trans (b2.mono bb1.out.size)
                have hRn2 := bkn.isRow
                have bk2 : Hid (Bk (w3.setRow w.heap.size (rowB g2)) w.heap.size g2) := bkn.set _
                have bb2 : Hid (Below w.heap.size w (w3.setRow w.heap.size (rowB g2))) := below_setRow bbn (Nat.le_refl _) _
                clear b2 bkn bbn
                go_wp2_with (refine wpList_ld rfl 62 _ rfl w.heap.size rfl 280 Try.underlying62 rfl (by kernel_rfl) (rowB g2) bk2.out.isRow bk2.out.rowIn ?_)
                refine (p3 _).mono ?_
                rintro e w4 ⟨rfl, b2⟩
                have bkn := bk2.out.below b2
                have bbn := bb2.out.trans (b2.mono bb2.out.size)
                have hRn3 := bkn.isRow
                have bk3 : Hid (Bk (w4.setRow w.heap.size (rowB g3)) w.heap.size g3) := bkn.set _
                have bb3 : Hid (Below w.heap.size w (w4.setRow w.heap.size (rowB g3))) := below_setRow bbn (Nat.le_refl _) _
                clear b2 bkn bbn
                go_wp2_with (refine wpList_ld rfl 62 _ rfl w.heap.size rfl 280 Try.underlying62 rfl (by kernel_rfl) (rowB g3) bk3.out.isRow bk3.out.rowIn ?_)
                refine (p4 _).mono ?_
                rintro e w5 ⟨rfl, b2⟩
                have bkn := bk3.out.below b2
                have bbn := bb3.out.trans (b2.mono bb3.out.size)
                have hRn4 := bkn.isRow
                have bk4 : Hid (Bk (w5.setRow w.heap.size (rowB g4)) w.heap.size g4) := bkn.set _
                have bb4 : Hid (Below w.heap.size w (w5.setRow w.heap.size (rowB g4))) := below_setRow bbn (Nat.le_refl _) _
                clear b2 bkn bbn
                go_wp2
                exact ⟨⟨k + 1, up, dn, _, g4, ck2.out, by go_num, rfl, rfl, rfl, HR4.out, bk4.out, bb4.out⟩, by have := ck2.out; simp [intOf]; omega⟩
              · cases zx : nulB x
                · have ox := oxs zx
                  cases zy : nulB y
                  · have oy := oys zy
                    have HR4 : Hid (RdAt us bs (k + 1) up dn false g4) := by rw [zx, zy] at hR4; exact hR4
                    clear hR4 oxs oys oxe oye
                    rcases ox with ox | ox <;> rcases oy with oy | oy
                    all_goals
                      go_wp2_with fail
                      go_quiet (fail)
                      go_wp2_with fail
                      refine (k42x _).mono ?_
                      rintro e w1 ⟨rfl, rfl⟩
                      go_wp2_with fail
                      refine (k42y _).mono ?_
                      rintro e w1 ⟨rfl, rfl⟩
                      go_wp2_with fail
                      refine (k44x _).mono ?_
                      rintro e w1 ⟨rfl, rfl⟩
                      go_wp2_with fail
                      refine (k44y _).mono ?_
                      rintro e w1 ⟨rfl, rfl⟩
                      go_wp2_with fail
                      refine (k45x _).mono ?_
                      rintro e w1 ⟨rfl, rfl⟩
                      go_wp2_with fail
                      refine (k45y _).mono ?_
                      rintro e w1 ⟨rfl, rfl⟩
                      go_wp2_with fail
                      refine (k44x _).mono ?_
                      rintro e w1 ⟨rfl, rfl⟩
                      go_wp2_with fail
                      refine (k44y _).mono ?_
                      rintro e w1 ⟨rfl, rfl⟩
                      go_wp2_with fail
                      refine (k46x _).mono ?_
                      rintro e w1 ⟨rfl, rfl⟩
                      go_wp2_with fail
                      refine (k46y _).mono ?_
                      rintro e w1 ⟨rfl, rfl⟩
                      go_wp2_with (refine wpList_ld rfl 62 _ rfl w.heap.size rfl 280 Try.underlying62 rfl (by kernel_rfl) (rowB f) bk0.out.isRow bk0.out.rowIn ?_)
                      refine (p1 _).mono ?_
                      rintro e w2 ⟨rfl, b2⟩
                      have bkn := Bk.below (w := wr.drewN _) bk0.out b2
                      have bbn := bb0.out.trans ((below_drew _ _ _).trans (b2.mono bb0.out.size))
                      have hRn1 := bkn.isRow
                      have bk1 : Hid (Bk (w2.setRow w.heap.size (rowB g1)) w.heap.size g1) := bkn.set _
                      have bb1 : Hid (Below w.heap.size w (w2.setRow w.heap.size (rowB g1))) := below_setRow bbn (Nat.le_refl _) _
                      clear b2 bkn bbn
                      go_wp2_with (refine wpList_ld rfl 62 _ rfl w.heap.size rfl 280 Try.underlying62 rfl (by kernel_rfl) (rowB g1) bk1.out.isRow bk1.out.rowIn ?_)
                      refine (p2 _).mono ?_
                      rintro e w3 ⟨rfl, b2⟩
                      have bkn := bk1.out.below b2
                      have bbn := bb1.out.trans (b2.mono bb1.out.size)
                      have hRn2 := bkn.isRow
                      have bk2 : Hid (Bk (w3.setRow w.heap.size (rowB g2)) w.heap.size g2) := bkn.set _
                      have bb2 : Hid (Below w.heap.size w (w3.setRow w.heap.size (rowB g2))) := below_setRow bbn (Nat.le_refl _) _
                      clear b2 bkn bbn
                      go_wp2_with (refine wpList_ld rfl 62 _ rfl w.heap.size rfl 280 Try.underlying62 rfl (by kernel_rfl) (rowB g2) bk2.out.isRow bk2.out.rowIn ?_)
                      refine (p3 _).mono ?_
                      rintro e w4 ⟨rfl, b2⟩
                      have bkn := bk2.out.below b2
                      have bbn := bb2.out.trans (b2.mono bb2.out.size)
                      have hRn3 := bkn.isRow
                      have bk3 : Hid (Bk (w4.setRow w.heap.size (rowB g3)) w.heap.size g3) := bkn.set _
                      have bb3 : Hid (Below w.heap.size w (w4.setRow w.heap.size (rowB g3))) := below_setRow bbn (Nat.le_refl _) _
                      clear b2 bkn bbn
                      go_wp2_with (refine wpList_ld rfl 62 _ rfl w.heap.size rfl 280 Try.underlying62 rfl (by kernel_rfl) (rowB g3) bk3.out.isRow bk3.out.rowIn ?_)
                      refine (p4 _).mono ?_
                      rintro e w5 ⟨rfl, b2⟩
                      have bkn := bk3.out.below b2
                      have bbn := bb3.out.trans (b2.mono bb3.out.size)
                      have hRn4 := bkn.isRow
                      have bk4 : Hid (Bk (w5.setRow w.heap.size (rowB g4)) w.heap.size g4) := bkn.set _
                      have bb4 : Hid (Below w.heap.size w (w5.setRow w.heap.size (rowB g4))) := below_setRow bbn (Nat.le_refl _) _
                      clear b2 bkn bbn
                      go_wp2
                      exact ⟨⟨k + 1, up, dn, _, g4, ck2.out, by go_num, rfl, rfl, rfl, HR4.out, bk4.out, bb4.out⟩, by have := ck2.out; simp [intOf]; omega⟩
                  · have oy := oye zy
                    have HR4 : Hid (RdAt us bs (k + 1) up dn (!(S == T)) g4) := by rw [zx, zy] at hR4; exact hR4
                    clear hR4 oxs oys oxe oye
                    rcases ox with ox | ox
                    all_goals
                      go_wp2_with fail
                      go_quiet (fail)
                      go_wp2_with fail
                      refine (k42x _).mono ?_
                      rintro e w1 ⟨rfl, rfl⟩
                      go_wp2_with fail
                      refine (k42y _).mono ?_
                      rintro e w1 ⟨rfl, rfl⟩
                      go_wp2_with fail
                      refine (k44x _).mono ?_
                      rintro e w1 ⟨rfl, rfl⟩
                      go_wp2_with fail
                      refine (k44y _).mono ?_
                      rintro e w1 ⟨rfl, rfl⟩
                      go_wp2_with fail
                      refine (k45x _).mono ?_
                      rintro e w1 ⟨rfl, rfl⟩
                      go_wp2_with fail
                      refine (k45y _).mono ?_
                      rintro e w1 ⟨rfl, rfl⟩
                      go_wp2_with fail
                      refine (k44x _).mono ?_
                      rintro e w1 ⟨rfl, rfl⟩
                      go_wp2_with fail
                      refine (k44y _).mono ?_
                      rintro e w1 ⟨rfl, rfl⟩
                      go_wp2_with fail
                      refine (k46x _).mono ?_
                      rintro e w1 ⟨rfl, rfl⟩
                      go_wp2_with fail
                      refine (k46y _).mono ?_
                      rintro e w1 ⟨rfl, rfl⟩
                      go_wp2_with (refine wpList_ld rfl 62 _ rfl w.heap.size rfl 280 Try.underlying62 rfl (by kernel_rfl) (rowB f) bk0.out.isRow bk0.out.rowIn ?_)
                      refine (p1 _).mono ?_
                      rintro e w2 ⟨rfl, b2⟩
                      have bkn := Bk.below (w := wr.drewN _) bk0.out b2
                      have bbn := bb0.out.trans ((below_drew _ _ _).trans (b2.mono bb0.out.size))
                      have hRn1 := bkn.isRow
                      have bk1 : Hid (Bk (w2.setRow w.heap.size (rowB g1)) w.heap.size g1) := bkn.set _
                      have bb1 : Hid (Below w.heap.size w (w2.setRow w.heap.size (rowB g1))) := below_setRow bbn (Nat.le_refl _) _
                      clear b2 bkn bbn
                      go_wp2_with (refine wpList_ld rfl 62 _ rfl w.heap.size rfl 280 Try.underlying62 rfl (by kernel_rfl) (rowB g1) bk1.out.isRow bk1.out.rowIn ?_)
                      refine (p2 _).mono ?_
                      rintro e w3 ⟨rfl, b2⟩
                      have bkn := bk1.out.below b2
                      have bbn := bb1.out.trans (b2.mono bb1.out.size)
                      have hRn2 := bkn.isRow
                      have bk2 : Hid (Bk (w3.setRow w.heap.size (rowB g2)) w.heap.size g2) := bkn.set _
                      have bb2 : Hid (Below w.heap.size w (w3.setRow w.heap.size (rowB g2))) := below_setRow bbn (Nat.le_refl _) _
                      clear b2 bkn bbn
                      go_wp2_with (refine wpList_ld rfl 62 _ rfl w.heap.size rfl 280 Try.underlying62 rfl (by kernel_rfl) (rowB g2) bk2.out.isRow bk2.out.rowIn ?_)
                      refine (p3 _).mono ?_
                      rintro e w4 ⟨rfl, b2⟩
                      have bkn := bk2.out.below b2
                      have bbn := bb2.out.trans (b2.mono bb2.out.size)
                      have hRn3 := bkn.isRow
                      have bk3 : Hid (Bk (w4.setRow w.heap.size (rowB g3)) w.heap.size g3) := bkn.set _
                      have bb3 : Hid (Below w.heap.size w (w4.setRow w.heap.size (rowB g3))) := below_setRow bbn (Nat.le_refl _) _
                      clear b2 bkn bbn
                      go_wp2_with (refine wpList_ld rfl 62 _ rfl w.heap.size rfl 280 Try.underlying62 rfl (by kernel_rfl) (rowB g3) bk3.out.isRow bk3.out.rowIn ?_)
                      refine (p4 _).mono ?_
                      rintro e w5 ⟨rfl, b2⟩
                      have bkn := bk3.out.below b2
                      have bbn := bb3.out.trans (b2.mono bb3.out.size)
                      have hRn4 := bkn.isRow
                      have bk4 : Hid (Bk (w5.setRow w.heap.size (rowB g4)) w.heap.size g4) := bkn.set _
                      have bb4 : Hid (Below w.heap.size w (w5.setRow w.heap.size (rowB g4))) := below_setRow bbn (Nat.le_refl _) _
                      clear b2 bkn bbn
                      go_wp2
                      exact ⟨⟨k + 1, up, dn, _, g4, ck2.out, by go_num, rfl, rfl, rfl, HR4.out, bk4.out, bb4.out⟩, by have := ck2.out; simp [intOf]; omega⟩
                · have ox := oxe zx
                  have HR4 : Hid (RdAt us bs (k + 1) up dn (!(S == T)) g4) := by rw [zx] at hR4; exact hR4
                  clear hR4 oxs oys oxe oye
                  go_wp2_with fail
                  go_quiet (fail)
                  go_wp2_with fail
                  refine (k42x _).mono ?_
                  rintro e w1 ⟨rfl, rfl⟩
                  go_wp2_with fail
                  refine (k42y _).mono ?_
                  rintro e w1 ⟨rfl, rfl⟩
                  go_wp2_with fail
                  refine (k44x _).mono ?_
                  rintro e w1 ⟨rfl, rfl⟩
                  go_wp2_with fail
                  refine (k44y _).mono ?_
                  rintro e w1 ⟨rfl, rfl⟩
                  go_wp2_with fail
                  refine (k45x _).mono ?_
                  rintro e w1 ⟨rfl, rfl⟩
                  go_wp2_with fail
                  refine (k45y _).mono ?_
                  rintro e w1 ⟨rfl, rfl⟩
                  go_wp2_with fail
                  refine (k44x _).mono ?_
                  rintro e w1 ⟨rfl, rfl⟩
                  go_wp2_with fail
                  refine (k44y _).mono ?_
                  rintro e w1 ⟨rfl, rfl⟩
                  go_wp2_with fail
                  refine (k46x _).mono ?_
                  rintro e w1 ⟨rfl, rfl⟩
                  go_wp2_with fail
                  refine (k46y _).mono ?_
                  rintro e w1 ⟨rfl, rfl⟩
                  go_wp2_with (refine wpList_ld rfl 62 _ rfl w.heap.size rfl 280 Try.underlying62 rfl (by kernel_rfl) (rowB f) bk0.out.isRow bk0.out.rowIn ?_)
                  refine (p1 _).mono ?_
                  rintro e w2 ⟨rfl, b2⟩
                  have bkn := Bk.below (w := wr.drewN _) bk0.out b2
                  have bbn := bb0.out.trans ((below_drew _ _ _).trans (b2.mono bb0.out.size))
                  have hRn1 := bkn.isRow
                  have bk1 : Hid (Bk (w2.setRow w.heap.size (rowB g1)) w.heap.size g1) := bkn.set _
                  have bb1 : Hid (Below w.heap.size w (w2.setRow w.heap.size (rowB g1))) := below_setRow bbn (Nat.le_refl _) _
                  clear b2 bkn bbn
                  go_wp2_with (refine wpList_ld rfl 62 _ rfl w.heap.size rfl 280 Try.underlying62 rfl (by kernel_rfl) (rowB g1) bk1.out.isRow bk1.out.rowIn ?_)
                  refine (p2 _).mono ?_
                  rintro e w3 ⟨rfl, b2⟩
                  have bkn := bk1.out.below b2
                  have bbn := bb1.out.trans (b2.mono bb1.out.size)
                  have hRn2 := bkn.isRow
                  have bk2 : Hid (Bk (w3.setRow w.heap.size (rowB g2)) w.heap.size g2) := bkn.set _
                  have bb2 : Hid (Below w.heap.size w (w3.setRow w.heap.size (rowB g2))) := below_setRow bbn (Nat.le_refl _) _
                  clear b2 bkn bbn
                  go_wp2_with (refine wpList_ld rfl 62 _ rfl w.heap.size rfl 280 Try.underlying62 rfl (by kernel_rfl) (rowB g2) bk2.out.isRow bk2.out.rowIn ?_)
                  refine (p3 _).mono ?_
                  rintro e w4 ⟨rfl, b2⟩
                  have bkn := bk2.out.below b2
                  have bbn := bb2.out.trans (b2.mono bb2.out.size)
                  have hRn3 := bkn.isRow
                  have bk3 : Hid (Bk (w4.setRow w.heap.size (rowB g3)) w.heap.size g3) := bkn.set _
                  have bb3 : Hid (Below w.heap.size w (w4.setRow w.heap.size (rowB g3))) := below_setRow bbn (Nat.le_refl _) _
                  clear b2 bkn bbn
                  go_wp2_with (refine wpList_ld rfl 62 _ rfl w.heap.size rfl 280 Try.underlying62 rfl (by kernel_rfl) (rowB g3) bk3.out.isRow bk3.out.rowIn ?_)
                  refine (p4 _).mono ?_
                  rintro e w5 ⟨rfl, b2⟩
                  have bkn := bk3.out.below b2
                  have bbn := bb3.out.trans (b2.mono bb3.out.size)
                  have hRn4 := bkn.isRow
                  have bk4 : Hid (Bk (w5.setRow w.heap.size (rowB g4)) w.heap.size g4) := bkn.set _
                  have bb4 : Hid (Below w.heap.size w (w5.setRow w.heap.size (rowB g4))) := below_setRow bbn (Nat.le_refl _) _
                  clear b2 bkn bbn
                  go_wp2
                  exact ⟨⟨k + 1, up, dn, _, g4, ck2.out, by go_num, rfl, rfl, rfl, HR4.out, bk4.out, bb4.out⟩, by have := ck2.out; simp [intOf]; omega⟩
            · rw [iy] at k44y hI
              have zy := izy iy
              cases zx : nulB x
              · have hI' := hI (by rw [zx, zy]; rfl) rfl
                clear hI hFi hnn
                have hI2 : Hid (RdAt us bs (k + 1) (up || !(S != T)) (dn || (S != T)) false f) := hI'
                rcases oxs zx with ox | ox
                all_goals
                  clear hI' oxs oys oxe oye izx izy
                  cases up <;> cases dn
                  all_goals
                    go_wp2_with fail
                    go_quiet (fail)
                    go_wp2_with fail
                    refine (k42x _).mono ?_
                    rintro e w1 ⟨rfl, rfl⟩
                    go_wp2_with fail
                    refine (k42y _).mono ?_
                    rintro e w1 ⟨rfl, rfl⟩
                    go_wp2_with fail
                    refine (k44x _).mono ?_
                    rintro e w1 ⟨rfl, rfl⟩
                    go_wp2_with fail
                    refine (k44y _).mono ?_
                    rintro e w1 ⟨rfl, rfl⟩
                    go_wp2_with fail
                    refine (k45x _).mono ?_
                    rintro e w1 ⟨rfl, rfl⟩
                    go_wp2_with fail
                    refine (k45y _).mono ?_
                    rintro e w1 ⟨rfl, rfl⟩
                    go_wp2_with fail
                    refine (k44x _).mono ?_
                    rintro e w1 ⟨rfl, rfl⟩
                    go_wp2_with fail
                    refine (k44y _).mono ?_
                    rintro e w1 ⟨rfl, rfl⟩
                    go_wp2
                    exact ⟨⟨k + 1, _, _, false, f, ck2.out, by go_num, rfl, rfl, rfl, hI2.out.cast (by cases S <;> cases T <;> rfl) (by cases S <;> cases T <;> rfl), bk.out, bb.out.trans (below_drew _ _ _)⟩, by have := ck2.out; simp [intOf]; omega⟩
              · have HX : Hid (rdV us bs = 9218868437227405313) := hnn.out (by rw [iy, zx]; simp)
                have ox := oxe zx
                clear hI hFi hnn oxs oys oxe oye izx izy
                go_wp2_with fail
                go_quiet (fail)
                go_wp2_with fail
                refine (k42x _).mono ?_
                rintro e w1 ⟨rfl, rfl⟩
                go_wp2_with fail
                refine (k42y _).mono ?_
                rintro e w1 ⟨rfl, rfl⟩
                go_wp2_with fail
                refine (k44x _).mono ?_
                rintro e w1 ⟨rfl, rfl⟩
                go_wp2_with fail
                refine (k44y _).mono ?_
                rintro e w1 ⟨rfl, rfl⟩
                go_wp2_with fail
                refine (k43 _).mono ?_
                rintro e w1 ⟨rfl, rfl⟩
                go_wp2
                (try simp only [Exit.inBlock, Exit.then])
                go_ret
                exact ⟨by rw [HX.out]; rfl, bb.out.trans (below_drew _ _ _)⟩

          · rw [ix] at k44x hI
            have zx := izx ix
            cases zy : nulB y
            · have hI' := hI (by rw [zx, zy]; simp) rfl
              clear hI hFi hnn
              have hI2 : Hid (RdAt us bs (k + 1) (up || !(S != T)) (dn || (S != T)) false f) := hI'
              have ox := oxs zx
              have oy := oys zy
              clear hI' oxs oys oxe oye izx izy
              cases iy : infB y
              · rw [iy] at k44y
                clear ox
                rcases oy with oy | oy
                all_goals
                  cases up <;> cases dn
                  all_goals
                    go_wp2_with fail
                    go_quiet (fail)
                    go_wp2_with fail
                    refine (k42x _).mono ?_
                    rintro e w1 ⟨rfl, rfl⟩
                    go_wp2_with fail
                    refine (k42y _).mono ?_
                    rintro e w1 ⟨rfl, rfl⟩
                    go_wp2_with fail
                    refine (k44x _).mono ?_
                    rintro e w1 ⟨rfl, rfl⟩
                    go_wp2_with fail
                    refine (k44y _).mono ?_
                    rintro e w1 ⟨rfl, rfl⟩
                    go_wp2_with fail
                    refine (k45x _).mono ?_
                    rintro e w1 ⟨rfl, rfl⟩
                    go_wp2_with fail
                    refine (k45y _).mono ?_
                    rintro e w1 ⟨rfl, rfl⟩
                    go_wp2_with fail
                    refine (k44x _).mono ?_
                    rintro e w1 ⟨rfl, rfl⟩
                    go_wp2
                    exact ⟨⟨k + 1, _, _, false, f, ck2.out, by go_num, rfl, rfl, rfl, hI2.out.cast (by cases S <;> cases T <;> rfl) (by cases S <;> cases T <;> rfl), bk.out, bb.out.trans (below_drew _ _ _)⟩, by have := ck2.out; simp [intOf]; omega⟩
              · rw [iy] at k44y
                rcases ox with ox | ox <;> rcases oy with oy | oy
                all_goals
                  cases up <;> cases dn
                  all_goals
                    go_wp2_with fail
                    go_quiet (fail)
                    go_wp2_with fail
                    refine (k42x _).mono ?_
                    rintro e w1 ⟨rfl, rfl⟩
                    go_wp2_with fail
                    refine (k42y _).mono ?_
                    rintro e w1 ⟨rfl, rfl⟩
                    go_wp2_with fail
                    refine (k44x _).mono ?_
                    rintro e w1 ⟨rfl, rfl⟩
                    go_wp2_with fail
                    refine (k44y _).mono ?_
                    rintro e w1 ⟨rfl, rfl⟩
                    go_wp2_with fail
                    refine (k45x _).mono ?_
                    rintro e w1 ⟨rfl, rfl⟩
                    go_wp2_with fail
                    refine (k45y _).mono ?_
                    rintro e w1 ⟨rfl, rfl⟩
                    go_wp2_with fail
                    refine (k44x _).mono ?_
                    rintro e w1 ⟨rfl, rfl⟩
                    go_wp2
                    exact ⟨⟨k + 1, _, _, false, f, ck2.out, by go_num, rfl, rfl, rfl, hI2.out.cast (by cases S <;> cases T <;> rfl) (by cases S <;> cases T <;> rfl), bk.out, bb.out.trans (below_drew _ _ _)⟩, by have := ck2.out; simp [intOf]; omega⟩
            · have HX : Hid (rdV us bs = 9218868437227405313) := hnn.out (by rw [ix, zy]; simp)
              have oy := oye zy
              clear hI hFi hnn oxs oys oxe oye izx izy
              go_wp2_with fail
              go_quiet (fail)
              go_wp2_with fail
              refine (k42x _).mono ?_
              rintro e w1 ⟨rfl, rfl⟩
              go_wp2_with fail
              refine (k42y _).mono ?_
              rintro e w1 ⟨rfl, rfl⟩
              go_wp2_with fail
              refine (k44x _).mono ?_
              rintro e w1 ⟨rfl, rfl⟩
              go_wp2_with fail
              refine (k43 _).mono ?_
              rintro e w1 ⟨rfl, rfl⟩
              go_wp2
              (try simp only [Exit.inBlock, Exit.then])
              go_ret
              exact ⟨by rw [HX.out]; rfl, bb.out.trans (below_drew _ _ _)⟩

        · have HX : Hid (rdV us bs = 9218868437227405313) := hnn.out (by rw [ny]; simp)
          rw [nx] at k42x
          rw [ny] at k42y
          clear hI hFi hnn oxs oys oxe oye izx izy
          go_wp2_with fail
          go_quiet (fail)
          go_wp2_with fail
          refine (k42x _).mono ?_
          rintro e w1 ⟨rfl, rfl⟩
          go_wp2_with fail
          refine (k42y _).mono ?_
          rintro e w1 ⟨rfl, rfl⟩
          go_wp2_with fail
          refine (k43 _).mono ?_
          rintro e w1 ⟨rfl, rfl⟩
          go_wp2
          (try simp only [Exit.inBlock, Exit.then])
          go_ret
          exact ⟨by rw [HX.out]; rfl, bb.out.trans (below_drew _ _ _)⟩

      · have HX : Hid (rdV us bs = 9218868437227405313) := hnn.out (by rw [nx]; simp)
        rw [nx] at k42x
        clear hI hFi hnn oxs oys oxe oye izx izy
        go_wp2_with fail
        go_quiet (fail)
        go_wp2_with fail
        refine (k42x _).mono ?_
        rintro e w1 ⟨rfl, rfl⟩
        go_wp2_with fail
        refine (k43 _).mono ?_
        rintro e w1 ⟨rfl, rfl⟩
        go_wp2
        (try simp only [Exit.inBlock, Exit.then])
        go_ret
        exact ⟨by rw [HX.out]; rfl, bb.out.trans (below_drew _ _ _)⟩

    · have k2 : ¬ (k : Int) < (us.length : Int) := by omega
      have e : k = us.length := by omega
      subst e
      clear hk ck
      cases up <;> cases dn
      · have k49 : Hid (∀ w', Calls Try.prog 49 #[.agg (rowB f), .bool al] w' fun e w'' => e = .returned (.float .f64 (rdV us bs)) ∧ Below w'.heap.size w' w'') := fun w' => hR.out.out ha.out hb.out he.out HL.out w'
        clear hR
        go_wp2_with (refine wpList_ld rfl 62 _ rfl w.heap.size rfl 280 Try.underlying62 rfl (by kernel_rfl) (rowB f) bk.out.isRow bk.out.rowIn ?_)
        refine (k49.out _).mono ?_
        rintro e w2 ⟨rfl, b2⟩
        have bb1 : Hid (Below w.heap.size w w2) := bb.out.trans (b2.mono bb.out.size)
        clear b2 k49
        go_wp2
        (try simp only [Exit.inBlock, Exit.then])
        go_ret
        exact ⟨rfl, bb1.out⟩
      · have HX : Hid (rdV us bs = 18442240474082181120) := rd_down hR.out
        clear hR
        go_wp2
        (try simp only [Exit.inBlock, Exit.then])
        go_ret
        exact ⟨by rw [HX.out]; rfl, bb.out⟩
      · have HX : Hid (rdV us bs = 9218868437227405312) := rd_up hR.out
        clear hR
        go_wp2
        (try simp only [Exit.inBlock, Exit.then])
        go_ret
        exact ⟨by rw [HX.out]; rfl, bb.out⟩
      · have HX : Hid (rdV us bs = 9218868437227405313) := rd_both hR.out
        clear hR
        go_wp2_with fail
        refine (k43 _).mono ?_
        rintro e w1 ⟨rfl, rfl⟩
        go_wp2
        (try simp only [Exit.inBlock, Exit.then])
        go_ret
        exact ⟨by rw [HX.out]; rfl, bb.out⟩
set_option maxRecDepth 100000 in
set_option maxHeartbeats 1000000 in
theorem lawD_long (n m c d x : Nat) (p q : Option Addr) (w : World) (hn : 65536 < n ∨ 65536 < m) (hn2 : n ≤ 140737488355328) (hm2 : m ≤ 140737488355328) : Calls Try.prog 8 #[.slice p n c, .slice q m d, .float .f64 x] w fun e w' => e = .returned (.bool true) ∧ Below w.heap.size w w' := by
  by_cases h1 : 65536 < n
  · have h2 : ((n : Nat) : Int) > 65536 := by omega
    clear hn
    go_enter Try.func8, Try.ntmps8
    go_wp2_with fail
    refine (awake_any _).mono ?_
    rintro e w1 ⟨rfl, b1⟩
    go_wp2
    go_ret
    exact ⟨rfl, b1⟩
  · have h2 : ((m : Nat) : Int) > 65536 := by omega
    have h3 : ((n : Nat) : Int) ≤ 65536 := by omega
    clear hn h1
    go_enter Try.func8, Try.ntmps8
    go_wp2_with fail
    refine (awake_any _).mono ?_
    rintro e w1 ⟨rfl, b1⟩
    go_wp2
    go_ret
    exact ⟨rfl, b1⟩
/-- What the exact sum of products stands for. -/
def doO (us bs : List Nat) : Option Nat := if ((dF us bs us.length).n || ((dF us bs us.length).a && (dF us bs us.length).l)) = true then none else some (exV (dF us bs us.length) (dZ us bs us.length))
theorem exV_is (F : Fl) (Z : Int) : Is (exV F Z) (if (F.n || (F.a && F.l)) = true then none else some (exV F Z)) := by
  cases hc : (F.n || (F.a && F.l))
  · rw [if_neg (by decide)]
    refine ⟨rfl, ?_⟩
    have hr : rz Z % 9223372036854775808 ≤ 9218868437227405312 ∧ rz Z < 18446744073709551616 := by
      unfold rz
      have h1 := near_top (mantF Z.natAbs) ((cutF Z.natAbs : Int) - 2148) (by have := mant_lt Z.natAbs; omega)
      generalize nearB 52 11 1023 _ _ = X at *
      split <;> omega
    have key : exV F Z < 18446744073709551616 ∧ exV F Z % 9223372036854775808 ≤ 9218868437227405312 := by
      unfold exV
      cases hn : F.n
      · cases ha : F.a
        · rw [if_neg (by decide), if_neg (by decide)]
          split
          · decide
          · split
            · decide
            · exact ⟨hr.2, hr.1⟩
        · cases hl : F.l
          · rw [if_neg (by decide), if_pos rfl, if_neg (by decide)]
            decide
          · rw [hn, ha, hl] at hc
            exact absurd hc (by decide)
      · rw [hn] at hc
        exact absurd hc (by simp)
    exact ⟨by rw [nan64_is key.1]; exact decide_eq_false (by omega), key.1⟩
  · rw [if_pos rfl]
    have e : exV F Z = 9221120237041090561 := by
      unfold exV
      cases hn : F.n
      · rw [hn] at hc
        have : F.a = true ∧ F.l = true := by simpa using hc
        rw [if_neg (by decide), if_pos this.1, if_pos this.2]
      · rw [if_pos rfl]
    rw [e]
    exact ⟨by decide +kernel, by decide⟩
theorem rdV_is (us bs : List Nat) : Is (rdV us bs) (doO us bs) := by
  have h := exV_is (dF us bs us.length) (dZ us bs us.length)
  unfold doO rdV
  cases hc : ((dF us bs us.length).n || ((dF us bs us.length).a && (dF us bs us.length).l))
  · rw [hc, if_neg (by decide)] at h
    rw [if_neg (by decide), if_neg (by decide)]
    exact h
  · rw [if_pos rfl, if_pos rfl]
    exact ⟨by decide +kernel, by decide⟩
/-- Poly, of a list that may be empty. -/
def poO (cs : List Nat) (x : Option Nat) : Option Nat := if cs.length = 0 then some 0 else plO cs x (cs.length - 1)
theorem poly_all (cs : List Nat) (p : Option Addr) (c x : Nat) (w : World) (ha : ∀ b ∈ cs, b < 18446744073709551616) (hl : cs.length ≤ 65536) (hx : x < 18446744073709551616) (hr : Rd w (.slice p cs.length c) (flt cs)) : Calls Try.prog 32 #[.slice p cs.length c, .float .f64 x] w fun e w' => ∃ r, e = .returned (.tuple #[.float .f64 r, .int .i64 0]) ∧ Is r (poO cs (inj x)) ∧ Below w.heap.size w w' := by
  unfold poO
  by_cases h : cs.length = 0
  · rw [if_pos h, h]
    exact (poly_any0 p c x w).mono fun e w' ⟨h1, h2⟩ => ⟨0, h1, is_zero', by rw [h2]; exact Below.refl _ _⟩
  · rw [if_neg h]
    exact (poly_any cs p c x _ w ha hl (by omega) (is_inj hx) hr).mono fun e w' ⟨r, h1, h2, h3⟩ => ⟨r, h1, h2, h3.below _⟩
theorem rpoly_all (cs : List Nat) (p : Option Addr) (c x : Nat) (w : World) (ha : ∀ b ∈ cs, b < 18446744073709551616) (hl : cs.length ≤ 65536) (hx : x < 18446744073709551616) (hr : Rd w (.slice p cs.length c) (flt cs)) : Calls Try.prog 33 #[.slice p cs.length c, .float .f64 x] w fun e w' => ∃ r, e = .returned (.float .f64 r) ∧ Is r (poO cs (inj x)) ∧ Below w.heap.size w w' := by
  unfold poO
  by_cases h : cs.length = 0
  · rw [if_pos h, h]
    exact (rpoly_any0 p c x w).mono fun e w' ⟨h1, h2⟩ => ⟨0, h1, is_zero', by rw [h2]; exact Below.refl _ _⟩
  · rw [if_neg h]
    exact (rpoly_any cs p c x _ w ha hl (by omega) (is_inj hx) hr).mono fun e w' ⟨r, h1, h2, h3⟩ => ⟨r, h1, h2, h3.below _⟩
set_option maxRecDepth 100000 in
set_option maxHeartbeats 1000000 in
theorem law_dots (us bs : List Nat) (v u : Value) (x : Nat) (w : World) (ha : ∀ b ∈ us, b < 18446744073709551616) (hb : ∀ b ∈ bs, b < 18446744073709551616) (hla : 8 * us.length ≤ 140737488355328) (hlb : 8 * bs.length ≤ 140737488355328) (hr : Rd w v (flt us)) (hq : Rd w u (flt bs)) (hx : x < 18446744073709551616) : Calls Try.prog 8 #[v, u, .float .f64 x] w fun e w' => e = .returned (.bool true) ∧ Below w.heap.size w w' := by
  have hv : ∃ p c, v = .slice p us.length c := by obtain ⟨p, c, rfl, -⟩ := hr; exact ⟨p, c, by rw [flt_len]⟩
  obtain ⟨p, c, rfl⟩ := hv
  have hu : ∃ q d, u = .slice q bs.length d := by obtain ⟨q, d, rfl, -⟩ := hq; exact ⟨q, d, by rw [flt_len]⟩
  obtain ⟨q, d, rfl⟩ := hu
  by_cases hlen : us.length ≤ 65536 ∧ bs.length ≤ 65536
  · obtain ⟨l1, l2⟩ := hlen
    have l3 : (us.length : Int) ≤ 65536 := by omega
    have l4 : (bs.length : Int) ≤ 65536 := by omega
    have P1 : Hid (∀ w', Below w.heap.size w w' → Calls Try.prog 32 #[.slice p us.length c, .float .f64 x] w' fun e w'' => ∃ r, e = .returned (.tuple #[.float .f64 r, .int .i64 0]) ∧ Is r (poO us (inj x)) ∧ Below w'.heap.size w' w'') := fun w' h => poly_all us p c x w' ha l1 hx (hr.below h)
    have P2 : Hid (∀ w', Below w.heap.size w w' → Calls Try.prog 33 #[.slice p us.length c, .float .f64 x] w' fun e w'' => ∃ r, e = .returned (.float .f64 r) ∧ Is r (poO us (inj x)) ∧ Below w'.heap.size w' w'') := fun w' h => rpoly_all us p c x w' ha l1 hx (hr.below h)
    by_cases he : bs.length = us.length
    · have k30 : Hid (∀ w', Below w.heap.size w w' → Calls Try.prog 30 #[.slice p us.length c, .slice q us.length d] w' fun e w'' => ∃ r, e = .returned (.tuple #[.float .f64 r, .int .i64 0]) ∧ Is r (dotO us bs us.length) ∧ Alike w' w'') := fun w' h => dot_any us bs p q c d w' ha hb l1 he (hr.below h) (by rw [← he]; exact hq.below h)
      have k31 : Hid (∀ w', Below w.heap.size w w' → Calls Try.prog 31 #[.slice p us.length c, .slice q us.length d] w' fun e w'' => e = .returned (.tuple #[.float .f64 (exV (dF us bs us.length) (dZ us bs us.length)), .int .i64 0]) ∧ Below w'.heap.size w' w'') := fun w' h => exdot_any us bs p q c d w' ha hb l1 he (hr.below h) (by rw [← he]; exact hq.below h)
      have k34 : Hid (∀ w', Below w.heap.size w w' → Calls Try.prog 34 #[.slice p us.length c, .slice q us.length d] w' fun e w'' => ∃ r, e = .returned (.float .f64 r) ∧ Is r (dotO us bs us.length) ∧ Below w'.heap.size w' w'') := fun w' h => rdot_any us bs p q c d w' ha hb l1 he (hr.below h) (by rw [← he]; exact hq.below h)
      have k35 : Hid (∀ w', Below w.heap.size w w' → Calls Try.prog 35 #[.slice p us.length c, .slice q us.length d] w' fun e w'' => e = .returned (.float .f64 (rdV us bs)) ∧ Below w'.heap.size w' w'') := fun w' h => rexdot_any us bs p q c d w' ha hb l1 he (hr.below h) (by rw [← he]; exact hq.below h)
      have ex := exV_is (dF us bs us.length) (dZ us bs us.length)
      have k15 := fun w => same_any (exV (dF us bs us.length) (dZ us bs us.length)) (rdV us bs) w (same_by (o := doO us bs) ex (rdV_is us bs))
      rw [he]
      clear hr hq ha hb hla hlb hx he l1 l2 l4 ex
      generalize exV (dF us bs us.length) (dZ us bs us.length) = EX at *
      generalize rdV us bs = RV at *
      go_enter Try.func8, Try.ntmps8
      go_wp2_with fail
      refine (k30.out w (Below.refl _ _)).mono ?_
      rintro e w1 ⟨r1, rfl, i1, a1⟩
      replace i1 : Hid (Is r1 (dotO us bs us.length)) := i1
      have B1 : Hid (Below w.heap.size w w1) := a1.below _
      clear a1 k30
      go_wp2_with fail
      refine (k31.out w1 B1.out).mono ?_
      rintro e w2 ⟨rfl, b2⟩
      have B2 : Hid (Below w.heap.size w w2) := B1.out.trans (b2.mono B1.out.size)
      clear b2 k31 B1
      go_wp2_with fail
      refine (P1.out w2 B2.out).mono ?_
      rintro e w3 ⟨r3, rfl, i3, b3⟩
      replace i3 : Hid (Is r3 (poO us (inj x))) := i3
      have B3 : Hid (Below w.heap.size w w3) := B2.out.trans (b3.mono B2.out.size)
      clear b3 P1 B2
      go_wp2_with fail
      refine (awake_any _).mono ?_
      rintro e w4 ⟨rfl, b4⟩
      have B4 : Hid (Below w.heap.size w w4) := B3.out.trans (b4.mono B3.out.size)
      clear b4 B3
      go_wp2_with fail
      refine (P2.out w4 B4.out).mono ?_
      rintro e w5 ⟨r5, rfl, i5, b5⟩
      replace i5 : Hid (Is r5 (poO us (inj x))) := i5
      have B5 : Hid (Below w.heap.size w w5) := B4.out.trans (b5.mono B4.out.size)
      clear b5 P2 B4
      go_wp2_with fail
      refine (same_any r3 r5 _ (same_by i3.out i5.out)).mono ?_
      rintro e w6 ⟨rfl, hw⟩
      rw [hw]
      clear hw w6
      go_wp2_with fail
      refine (k34.out w5 B5.out).mono ?_
      rintro e w7 ⟨r7, rfl, i7, b7⟩
      replace i7 : Hid (Is r7 (dotO us bs us.length)) := i7
      have B7 : Hid (Below w.heap.size w w7) := B5.out.trans (b7.mono B5.out.size)
      clear b7 k34 B5
      go_wp2_with fail
      refine (same_any r1 r7 _ (same_by i1.out i7.out)).mono ?_
      rintro e w8 ⟨rfl, hw⟩
      rw [hw]
      clear hw w8
      go_wp2_with fail
      refine (k35.out w7 B7.out).mono ?_
      rintro e w9 ⟨rfl, b9⟩
      have B9 : Hid (Below w.heap.size w w9) := B7.out.trans (b9.mono B7.out.size)
      clear b9 k35 B7
      go_wp2_with fail
      refine (k15 _).mono ?_
      rintro e w10 ⟨rfl, hw⟩
      rw [hw]
      clear hw w10
      go_wp2
      go_ret
      exact ⟨rfl, B9.out⟩
    · have k30 := fun w => dot_ne 30 us.length bs.length c d p q w l1 l2 (by omega) (.inl rfl)
      have k31 := fun w => dot_ne 31 us.length bs.length c d p q w l1 l2 (by omega) (.inr rfl)
      have h5 : ((us.length : Int) != (bs.length : Int)) = true := by rw [bne_iff_ne]; omega
      clear hr hq ha hb hla hlb hx he l1 l2
      go_enter Try.func8, Try.ntmps8
      go_wp2_with fail
      refine (k30 _).mono ?_
      rintro e w1 ⟨rfl, hw⟩
      rw [hw]
      clear hw w1
      go_wp2_with fail
      refine (k31 _).mono ?_
      rintro e w2 ⟨rfl, hw⟩
      rw [hw]
      clear hw w2
      go_wp2_with fail
      refine (P1.out w (Below.refl _ _)).mono ?_
      rintro e w3 ⟨r3, rfl, i3, b3⟩
      replace i3 : Hid (Is r3 (poO us (inj x))) := i3
      have B3 : Hid (Below w.heap.size w w3) := b3
      clear b3 P1
      go_wp2_with fail
      refine (awake_any _).mono ?_
      rintro e w4 ⟨rfl, b4⟩
      have B4 : Hid (Below w.heap.size w w4) := B3.out.trans (b4.mono B3.out.size)
      clear b4 B3
      go_wp2_with fail
      refine (P2.out w4 B4.out).mono ?_
      rintro e w5 ⟨r5, rfl, i5, b5⟩
      replace i5 : Hid (Is r5 (poO us (inj x))) := i5
      have B5 : Hid (Below w.heap.size w w5) := B4.out.trans (b5.mono B4.out.size)
      clear b5 P2 B4
      go_wp2_with fail
      refine (same_any r3 r5 _ (same_by i3.out i5.out)).mono ?_
      rintro e w6 ⟨rfl, hw⟩
      rw [hw]
      clear hw w6
      go_wp2
      go_ret
      exact ⟨rfl, B5.out⟩
  · exact lawD_long us.length bs.length c d x p q w (by omega) (by omega) (by omega)
end Go.Proofs.Ytdhfkdopcphjlaa
