/-
  Insertion: a stretch put in order.
-/
import Derived.Test.YtahmeejcgddlhabQd
import Derived.BigRegion
namespace Go.Proofs.Ytahmeejcgddlhab
open Go.RowKit
/-- What is said of a place of a list. -/
def KZ (zs : List Int) : Int → Int := fun i => zs.getD i.toNat 0
def InD (f : Nat → Int) (n : Nat) (zs : List Int) : Prop := ∀ j, j < n → 0 ≤ f j ∧ f j < (zs.length : Int)
theorem InD.sam {f h : Nat → Int} {n a b : Nat} {zs : List Int} (hd : InD f n zs) (hs : Sam f h a b) (hb : b ≤ n) : InD h n zs := fun j hj => (hs.wide (Nat.zero_le a) hb).all (fun x => 0 ≤ x ∧ x < (zs.length : Int)) (fun i _ h => hd i h) j (Nat.zero_le _) hj
theorem drewN_add (w : World) (n q : Nat) : (w.drewN n).drewN q = w.drewN (n + q) := by
  show ({ ({ w with drawn := w.drawn + n } : World) with drawn := w.drawn + n + q } : World) = _
  rw [Nat.add_assoc]; rfl
/-- The comparison, in the midst of a region that draws. -/
theorem cmp_quiet (B lb : Nat) (zs : List Int) (x y : Int) (w : World) (hI : InL B lb zs w) (hx : 0 ≤ x ∧ x < (zs.length : Int)) (hy : 0 ≤ y ∧ y < (zs.length : Int)) (n : Nat) : Calls Try.prog 50 #[.int .i64 x, .int .i64 y, .pointer (some ⟨lb, 0, none⟩)] (w.drewN n) fun e w' => e = .returned (.int .i64 (cmpV (KZ zs x) (KZ zs y))) ∧ ∃ m, w' = w.drewN m := by
  have := clo49_any B lb zs x.toNat y.toNat (w.drewN n) (hI.drew n) (by omega) (by omega)
  rw [show ((x.toNat : Nat) : Int) = x by omega, show ((y.toNat : Nat) : Int) = y by omega] at this
  refine this.mono ?_
  rintro e w' ⟨h1, q, h2⟩
  exact ⟨h1, n + q, by rw [h2, drewN_add]⟩
theorem cmpV_neg (x y : Int) : (cmpV x y < 0) ↔ x < y := by unfold cmpV; split <;> (try split) <;> omega
set_option maxRecDepth 100000 in
set_option maxHeartbeats 8000000 in
theorem insertion_any (B lb : Nat) (zs : List Int) (g cap n a b : Nat) (f : Nat → Int) (w : World) (hI : InL B lb zs w) (hBg : B ≤ g) (hab : a ≤ b) (hbn : b ≤ n) (hn : n < 2097152) (hd : InD f n zs) (hasc : ∀ u v, a ≤ u → u < v → v < b → f u < f v) (hC : CelC .i64 3 w g cap n f) :
    Calls Try.prog 61 #[.slice (some ⟨g, 0, none⟩) n cap, .int .i64 (a : Int), .int .i64 (b : Int), .func (.func 50) #[] #[.pointer (some ⟨lb, 0, none⟩)]] w fun e w' => e = .returned (.tuple #[]) ∧ (∃ h, CelC .i64 3 w' g cap n h ∧ Sam f h a b ∧ Srt (KZ zs) h a b) ∧ Only g w w' := by
  have HN : Hid (a ≤ b ∧ b ≤ n ∧ n < 2097152 ∧ B ≤ g) := ⟨hab, hbn, hn, hBg⟩
  have HC : Hid (CelC .i64 3 w g cap n f) := hC
  have HD : Hid (InD f n zs) := hd
  have HI : Hid (InL B lb zs w) := hI
  have HA : Hid (∀ u v, a ≤ u → u < v → v < b → f u < f v) := hasc
  have a9 : (a : Int) ≤ 9007199254740992 := by omega
  clear hab hbn hn hBg hC hd hI hasc
  go_enter Try.func61, Try.ntmps61
  go_wp2
  go_loopw [8] (fun x wr => ∃ i : Nat, x = .int .i64 (i : Int) ∧ Hid (a + 1 ≤ i ∧ i ≤ b + 1 ∧ ∃ h, CelC .i64 3 wr g cap n h ∧ (Sam f h a i ∧ Srt (KZ zs) h a i ∧ i ≤ b ∨ i = a + 1 ∧ b ≤ a ∧ h = f)) ∧ Hid (Only g w wr)) (fun x _ => b + 1 - (RowKit.intOf x).toNat)
  case atStart =>
    refine ⟨a + 1, by simp, ⟨Nat.le_refl _, by have := HN.out; omega, f, HC.out, ?_⟩, Only.refl _ _⟩
    by_cases c : b ≤ a
    · exact .inr ⟨rfl, c, rfl⟩
    · exact .inl ⟨Sam.refl _ _ _, fun u v _ _ _ => by omega, by omega⟩
  case round =>
    clear HC
    obtain ⟨wo, hwo⟩ : ∃ wo, wr = wo := ⟨_, rfl⟩
    rw [hwo] at hrel ⊢
    clear hwo
    obtain ⟨i, rfl, ⟨g1, g2, h, hC, hS⟩, hO⟩ := hrel
    obtain ⟨n1, n2, n3, n4⟩ := HN.out
    have i9 : (i : Int) ≤ 9007199254740992 := by omega
    by_cases c : i < b
    · have c1 : decide ((i : Int) < (b : Int)) = true := decide_eq_true (by omega)
      obtain ⟨s1, s2, -⟩ := hS.resolve_right (by omega)
      have HI0 : Hid (InsI (KZ zs) f a i i h) := InsI.start (by omega) s2 s1 (fun u v h1 h2 h3 => HA.out u v h1 h2 (by omega))
      have HC0 : Hid (CelC .i64 3 wo g cap n h) := hC
      have hib : Hid (a + 1 ≤ i ∧ i < b ∧ b ≤ n) := ⟨g1, c, n2⟩
      clear hC hS s1 s2 n1 n2 n3 n4 g1 g2
      go_wp2
      go_loopw [9] (fun x wq => ∃ j : Nat, x = .int .i64 (j : Int) ∧ Hid (∃ hh, InsI (KZ zs) f a i j hh ∧ CelC .i64 3 wq g cap n hh) ∧ Hid (Only g w wq)) (fun x _ => (RowKit.intOf x).toNat)
      case atStart => exact ⟨i, rfl, ⟨h, HI0.out, HC0.out⟩, hO⟩
      case round =>
        clear HI0 HC0 hO h
        obtain ⟨j, rfl, ⟨hh, hI, hC⟩, hO⟩ := hrel
        have hlo := hI.lo
        have hhi := hI.hi
        have hb := hib.out
        have j9 : (j : Int) ≤ 9007199254740992 := by omega
        have hgd : ∀ wz, Only g w wz → InL B lb zs wz := fun wz hz => HI.out.only hz HN.out.2.2.2
        by_cases d : a < j
        · have d1 : decide ((a : Int) < (j : Int)) = true := decide_eq_true (by omega)
          obtain ⟨jm, rfl⟩ : ∃ jm, j = jm + 1 := ⟨j - 1, by omega⟩
          obtain ⟨J, hJ⟩ : ∃ J, jm + 1 = J := ⟨_, rfl⟩
          have e1 : (J : Int) - 1 = (jm : Int) := by omega
          have d3 : decide (a < J) = true := decide_eq_true (by omega)
          have d4 : (a : Int) < (J : Int) := by omega
          have d5 : decide ((a : Int) < (J : Int)) = true := decide_eq_true d4
          clear d1
          obtain ⟨x1, x2⟩ := hC.at (jm + 1) (by omega)
          obtain ⟨y1, y2⟩ := hC.at jm (by omega)
          have hD2 : InD hh n zs := HD.out.sam hI.sam (by omega)
          have kq := cmp_quiet B lb zs (hh (jm + 1)) (hh jm) wr (hgd wr hO.out) (hD2 _ (by omega)) (hD2 _ (by omega))
          have hk := cmpV_neg (KZ zs (hh (jm + 1))) (KZ zs (hh jm))
          have jn : (J : Int) < (n : Int) := by omega
          have jmn : (jm : Int) < (n : Int) := by omega
          have jm9 : (jm : Int) ≤ 9007199254740992 := by omega
          obtain ⟨R, hR⟩ : ∃ R, cmpV (KZ zs (hh (jm + 1))) (KZ zs (hh jm)) = R := ⟨_, rfl⟩
          rw [hR] at hk
          simp only [hR] at kq
          by_cases cc : R < 0
          · have c3 : decide (R < 0) = true := decide_eq_true cc
            have hsk := hI.sink (by omega) (hk.1 cc)
            have HE : Hid (∀ q, ∃ h2, InsI (KZ zs) f a i jm h2 ∧ CelC .i64 3 (((wr.drewN q).setCell ⟨g, jm + 1, none⟩ (.int .i64 (hh jm))).setCell ⟨g, jm, none⟩ (.int .i64 (hh (jm + 1)))).drew g cap n h2) := fun q =>
              ⟨_, hsk, (((hC.drew q).set (jm + 1) (hh jm)).set jm (hh (jm + 1))).congr (fun k _ => by
                unfold swp
                by_cases p1 : k = jm
                · rw [if_pos p1, if_neg (by omega), if_pos p1]
                · rw [if_neg p1]
                  by_cases p2 : k = jm + 1
                  · rw [if_pos p2, if_pos p2]
                  · rw [if_neg p2, if_neg p2, if_neg p1])⟩
            have HO : Hid (∀ q, Only g w (((wr.drewN q).setCell ⟨g, jm + 1, none⟩ (.int .i64 (hh jm))).setCell ⟨g, jm, none⟩ (.int .i64 (hh (jm + 1)))).drew) := fun q => only_drew1 (((only_drew hO.out q).set _ _).set _ _)
            have hne : J ≠ jm := by omega
            clear hsk hI hC hk hD2 hlo hhi hb hgd hO d cc hR
            generalize hh (jm + 1) = X at *
            generalize hh jm = Y at *
            rw [hJ] at x1 x2 HE HO ⊢
            clear hJ
            go_wp2
            go_quiet (first | (go_at_call 50; exact kq _))
            have x1' : (wr.drewN nq).cell? ⟨g, J, none⟩ = some (.int .i64 X) := x1
            have x2' : (wr.drewN nq).frozen? ⟨g, J, none⟩ = false := x2
            have y1' : (wr.drewN nq).cell? ⟨g, jm, none⟩ = some (.int .i64 Y) := y1
            have y2' : (wr.drewN nq).frozen? ⟨g, jm, none⟩ = false := y2
            have HE2 := HE.out nq
            have HO2 := HO.out nq
            clear x1 x2 y1 y2 kq HE HO
            generalize wr.drewN nq = W0 at *
            replace HE2 : Hid (∃ h2, InsI (KZ zs) f a i jm h2 ∧ CelC .i64 3 (((W0).setCell ⟨g, J, none⟩ (.int .i64 Y)).setCell ⟨g, jm, none⟩ (.int .i64 X)).drew g cap n h2) := HE2
            replace HO2 : Hid (Only g w (((W0).setCell ⟨g, J, none⟩ (.int .i64 Y)).setCell ⟨g, jm, none⟩ (.int .i64 X)).drew) := HO2
            go_wp2
            go_region
            generalize ((W0.setCell ⟨g, J, none⟩ (.int .i64 Y)).setCell ⟨g, jm, none⟩ (.int .i64 X)).drew = W2 at *
            clear x1' x2' y1' y2'
            go_wp2
            refine ⟨⟨jm, by simp, HE2.out, HO2⟩, ?_⟩
            simp [RowKit.intOf]; omega
          · have c3 : decide (R < 0) = false := decide_eq_false cc
            have hdn := hI.done (.inr (fun q => cc (hk.2 (by simpa using q))))
            have HE : Hid (∀ q, CelC .i64 3 (wr.drewN q) g cap n hh ∧ Only g w (wr.drewN q)) := fun q => ⟨hC.drew q, only_drew hO.out q⟩
            have HS : Hid (Sam f hh a (i + 1) ∧ Srt (KZ zs) hh a (i + 1)) := ⟨hI.sam, hdn⟩
            clear hdn hI hC hk hD2 hlo hhi hb hgd hO d cc hR
            generalize hh (jm + 1) = X at *
            generalize hh jm = Y at *
            rw [hJ] at x1 x2 ⊢
            clear hJ
            go_wp2
            go_quiet (first | (go_at_call 50; exact kq _))
            obtain ⟨HE1, HE2⟩ := HE.out nq
            clear x1 x2 y1 y2 kq HE
            generalize wr.drewN nq = W0 at *
            replace HE1 : Hid (CelC .i64 3 W0 g cap n hh) := HE1
            replace HE2 : Hid (Only g w W0) := HE2
            go_wp2
            refine ⟨⟨i + 1, by simp, ⟨by have := hib.out; omega, by have := hib.out; omega, hh, HE1.out, .inl ⟨HS.out.1, HS.out.2, by have := hib.out; omega⟩⟩, HE2⟩, ?_⟩
            have := hib.out
            simp [RowKit.intOf]; omega
        · obtain rfl : j = a := by omega
          have d3 : decide (j < j) = false := by simp
          have hdn := hI.done (.inl rfl)
          have HE : Hid (∀ q, CelC .i64 3 (wr.drewN q) g cap n hh ∧ Only g w (wr.drewN q)) := fun q => ⟨hC.drew q, only_drew hO.out q⟩
          have HS : Hid (Sam f hh j (i + 1) ∧ Srt (KZ zs) hh j (i + 1)) := ⟨hI.sam, hdn⟩
          clear hdn hI hC hlo hhi hb hgd hO d
          go_wp2
          go_quiet (fail)
          obtain ⟨HE1, HE2⟩ := HE.out nq
          clear HE
          generalize wr.drewN nq = W0 at *
          replace HE1 : Hid (CelC .i64 3 W0 g cap n hh) := HE1
          replace HE2 : Hid (Only g w W0) := HE2
          go_wp2
          refine ⟨⟨i + 1, by simp, ⟨by have := hib.out; omega, by have := hib.out; omega, hh, HE1.out, .inl ⟨HS.out.1, HS.out.2, by have := hib.out; omega⟩⟩, HE2⟩, ?_⟩
          have := hib.out
          simp [RowKit.intOf]; omega
    · have c1 : decide ((i : Int) < (b : Int)) = false := decide_eq_false (by omega)
      have HE : Hid (∃ h, CelC .i64 3 wo g cap n h ∧ Sam f h a b ∧ Srt (KZ zs) h a b) := by
        rcases hS with ⟨s1, s2, s3⟩ | ⟨s1, s2, s3⟩
        · obtain rfl : i = b := by omega
          exact ⟨h, hC, s1, s2⟩
        · subst s3
          exact ⟨h, hC, Sam.refl _ _ _, fun u v _ _ _ => by omega⟩
      clear hS hC n1 n2 n3 n4 g1 g2
      go_wp2
      go_end0
      exact ⟨rfl, HE.out, hO.out⟩
end Go.Proofs.Ytahmeejcgddlhab
