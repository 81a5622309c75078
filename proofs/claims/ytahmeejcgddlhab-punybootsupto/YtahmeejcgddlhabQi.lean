/-
  Two rows in order become one: the whole.
-/
import Derived.Test.YtahmeejcgddlhabQh
namespace Go.Proofs.Ytahmeejcgddlhab
open Go.RowKit
set_option maxRecDepth 100000 in
set_option maxHeartbeats 2000000 in
theorem sym_p3 {Q : Exit → Act → World → Prop} (lb : Nat) (zs : List Int) (g cap n a m b mid s e : Nat) (f : Nat → Int) (ac : Act) (w : World) (hC : Hid (CelC .i64 3 w g cap n f)) (HN : Hid (a ≤ s ∧ s ≤ mid ∧ a ≤ mid)) (hc : Hid (CutI (KZ zs) f a s mid e b))
    (k61 : Hid (a < s → s < mid → Calls Try.prog 62 #[.slice (some ⟨g, 0, none⟩) n cap, .int .i64 (a : Int), .int .i64 (s : Int), .int .i64 (mid : Int), .func (.func 50) #[] #[.pointer (some ⟨lb, 0, none⟩)]] w fun e w' => e = .returned (.tuple #[]) ∧ (∃ h, CelC .i64 3 w' g cap n h ∧ Sam f h a mid ∧ Srt (KZ zs) h a mid) ∧ Only g w w'))
    (hK : Hid (∀ ac w2 h, Hid (CelC .i64 3 w2 g cap n h) → Hid (Sam f h a mid ∧ Srt (KZ zs) h a mid) → Hid (Only g w w2) → At 220 [(0, .slice (some ⟨g, 0, none⟩) n cap), (1, .int .i64 (a : Int)), (2, .int .i64 (m : Int)), (3, .int .i64 (b : Int)), (4, .func (.func 50) #[] #[.pointer (some ⟨lb, 0, none⟩)]), (18, .int .i64 (mid : Int)), (20, .int .i64 (s : Int)), (24, .int .i64 (e : Int))] ac → Code.wp Try.prog (sq 11 body61) Q ac w2)) (ha : At 220 [(0, .slice (some ⟨g, 0, none⟩) n cap), (1, .int .i64 (a : Int)), (2, .int .i64 (m : Int)), (3, .int .i64 (b : Int)), (4, .func (.func 50) #[] #[.pointer (some ⟨lb, 0, none⟩)]), (18, .int .i64 (mid : Int)), (20, .int .i64 (s : Int)), (24, .int .i64 (e : Int))] ac) : Code.wp Try.prog (sq 10 body61) Q ac w := by
  obtain ⟨n1, n2, n3⟩ := HN.out
  obtain ⟨fr, rfl, h0, h1, h2, h3, h4, h18, h20, h24, -⟩ := ha.lit
  change Code.wp _ _ _ ⟨#[fr 0, fr 1, fr 2, fr 3, fr 4, fr 5, fr 6, fr 7, fr 8, fr 9, fr 10, fr 11, fr 12, fr 13, fr 14, fr 15, fr 16, fr 17, fr 18, fr 19, fr 20, fr 21, fr 22, fr 23, fr 24, fr 25, fr 26, fr 27, fr 28, fr 29, fr 30, fr 31, fr 32, fr 33, fr 34, fr 35, fr 36, fr 37, fr 38, fr 39, fr 40, fr 41, fr 42, fr 43, fr 44, fr 45, fr 46, fr 47, fr 48, fr 49, fr 50, fr 51, fr 52, fr 53, fr 54, fr 55, fr 56, fr 57, fr 58, fr 59, fr 60, fr 61, fr 62, fr 63, fr 64, fr 65, fr 66, fr 67, fr 68, fr 69, fr 70, fr 71, fr 72, fr 73, fr 74, fr 75, fr 76, fr 77, fr 78, fr 79, fr 80, fr 81, fr 82, fr 83, fr 84, fr 85, fr 86, fr 87, fr 88, fr 89, fr 90, fr 91, fr 92, fr 93, fr 94, fr 95, fr 96, fr 97, fr 98, fr 99, fr 100, fr 101, fr 102, fr 103, fr 104, fr 105, fr 106, fr 107, fr 108, fr 109, fr 110, fr 111, fr 112, fr 113, fr 114, fr 115, fr 116, fr 117, fr 118, fr 119, fr 120, fr 121, fr 122, fr 123, fr 124, fr 125, fr 126, fr 127, fr 128, fr 129, fr 130, fr 131, fr 132, fr 133, fr 134, fr 135, fr 136, fr 137, fr 138, fr 139, fr 140, fr 141, fr 142, fr 143, fr 144, fr 145, fr 146, fr 147, fr 148, fr 149, fr 150, fr 151, fr 152, fr 153, fr 154, fr 155, fr 156, fr 157, fr 158, fr 159, fr 160, fr 161, fr 162, fr 163, fr 164, fr 165, fr 166, fr 167, fr 168, fr 169, fr 170, fr 171, fr 172, fr 173, fr 174, fr 175, fr 176, fr 177, fr 178, fr 179, fr 180, fr 181, fr 182, fr 183, fr 184, fr 185, fr 186, fr 187, fr 188, fr 189, fr 190, fr 191, fr 192, fr 193, fr 194, fr 195, fr 196, fr 197, fr 198, fr 199, fr 200, fr 201, fr 202, fr 203, fr 204, fr 205, fr 206, fr 207, fr 208, fr 209, fr 210, fr 211, fr 212, fr 213, fr 214, fr 215, fr 216, fr 217, fr 218, fr 219], []⟩ _
  simp only at h0 h1 h2 h3 h4 h18 h20 h24
  simp only [h0, h1, h2, h3, h4, h18, h20, h24]
  clear h0 h1 h2 h3 h4 h18 h20 h24
  change Code.wp _ (Code.seq (hd (sq 10 body61)) (sq 11 body61)) _ _ _
  generalize sq 11 body61 = REST at hK ⊢
  conv => arg 2; arg 1; whnf
  by_cases c1 : a < s
  · have c1' : decide (a < s) = true := decide_eq_true c1
    have c1i : (a : Int) < (s : Int) := by omega
    by_cases c2 : s < mid
    · have c2' : decide (s < mid) = true := decide_eq_true c2
      have c2i : (s : Int) < (mid : Int) := by omega
      have k := k61.out c1 c2
      clear HN n1 n2 n3 hC hc k61
      go_wp2_with (go_at_call 62; refine k.mono ?_)
      rintro _ w2 ⟨rfl, ⟨h, hc2, hs2, ho2⟩, hw2⟩
      have hC2 : Hid (CelC .i64 3 w2 g cap n h) := hc2
      have hS2 : Hid (Sam f h a mid ∧ Srt (KZ zs) h a mid) := ⟨hs2, ho2⟩
      have hO2 : Hid (Only g w w2) := hw2
      clear hc2 hs2 ho2 hw2 k
      go_wp2
      exact hK.out _ _ h hC2 hS2 hO2 ⟨rfl, rfl, rfl, rfl, rfl, rfl, rfl, rfl, rfl, rfl, trivial⟩
    · have c2' : decide (s < mid) = false := decide_eq_false c2
      have hS2 : Hid (Sam f f a mid ∧ Srt (KZ zs) f a mid) := ⟨Sam.refl _ _ _, by
        obtain rfl : s = mid := by omega
        exact hc.out.l1⟩
      have hO2 : Hid (Only g w w) := Only.refl _ _
      clear HN n1 n2 n3 hc k61
      go_wp2
      exact hK.out _ _ f hC hS2 hO2 ⟨rfl, rfl, rfl, rfl, rfl, rfl, rfl, rfl, rfl, rfl, trivial⟩
  · have c1' : decide (a < s) = false := decide_eq_false c1
    have hS2 : Hid (Sam f f a mid ∧ Srt (KZ zs) f a mid) := ⟨Sam.refl _ _ _, by
      obtain rfl : a = s := by omega
      exact hc.out.l2⟩
    have hO2 : Hid (Only g w w) := Only.refl _ _
    clear HN n1 n2 n3 hc k61
    go_wp2
    exact hK.out _ _ f hC hS2 hO2 ⟨rfl, rfl, rfl, rfl, rfl, rfl, rfl, rfl, rfl, rfl, trivial⟩
set_option maxRecDepth 100000 in
set_option maxHeartbeats 2000000 in
theorem sym_p4 (lb : Nat) (zs : List Int) (g cap n a m b mid s e : Nat) (f : Nat → Int) (PR : World → Prop) (ac : Act) (w : World) (hC : Hid (CelC .i64 3 w g cap n f)) (HN : Hid (mid ≤ e ∧ e ≤ b)) (hc1 : Hid (e = mid → Srt (KZ zs) f mid b)) (hc2 : Hid (e = b → Srt (KZ zs) f mid b))
    (k61 : Hid (mid < e → e < b → Calls Try.prog 62 #[.slice (some ⟨g, 0, none⟩) n cap, .int .i64 (mid : Int), .int .i64 (e : Int), .int .i64 (b : Int), .func (.func 50) #[] #[.pointer (some ⟨lb, 0, none⟩)]] w fun e w' => e = .returned (.tuple #[]) ∧ (∃ h, CelC .i64 3 w' g cap n h ∧ Sam f h mid b ∧ Srt (KZ zs) h mid b) ∧ Only g w w'))
    (hK : Hid (∀ w2 h, CelC .i64 3 w2 g cap n h → Sam f h mid b → Srt (KZ zs) h mid b → Only g w w2 → PR w2)) (ha : At 220 [(0, .slice (some ⟨g, 0, none⟩) n cap), (1, .int .i64 (a : Int)), (2, .int .i64 (m : Int)), (3, .int .i64 (b : Int)), (4, .func (.func 50) #[] #[.pointer (some ⟨lb, 0, none⟩)]), (18, .int .i64 (mid : Int)), (20, .int .i64 (s : Int)), (24, .int .i64 (e : Int))] ac) : Code.wp Try.prog (sq 11 body61) (bodyPost Try.prog Try.f62 fun e w' => e = .returned (.tuple #[]) ∧ PR w') ac w := by
  obtain ⟨n1, n2⟩ := HN.out
  obtain ⟨fr, rfl, h0, h1, h2, h3, h4, h18, h20, h24, -⟩ := ha.lit
  change Code.wp _ _ _ ⟨#[fr 0, fr 1, fr 2, fr 3, fr 4, fr 5, fr 6, fr 7, fr 8, fr 9, fr 10, fr 11, fr 12, fr 13, fr 14, fr 15, fr 16, fr 17, fr 18, fr 19, fr 20, fr 21, fr 22, fr 23, fr 24, fr 25, fr 26, fr 27, fr 28, fr 29, fr 30, fr 31, fr 32, fr 33, fr 34, fr 35, fr 36, fr 37, fr 38, fr 39, fr 40, fr 41, fr 42, fr 43, fr 44, fr 45, fr 46, fr 47, fr 48, fr 49, fr 50, fr 51, fr 52, fr 53, fr 54, fr 55, fr 56, fr 57, fr 58, fr 59, fr 60, fr 61, fr 62, fr 63, fr 64, fr 65, fr 66, fr 67, fr 68, fr 69, fr 70, fr 71, fr 72, fr 73, fr 74, fr 75, fr 76, fr 77, fr 78, fr 79, fr 80, fr 81, fr 82, fr 83, fr 84, fr 85, fr 86, fr 87, fr 88, fr 89, fr 90, fr 91, fr 92, fr 93, fr 94, fr 95, fr 96, fr 97, fr 98, fr 99, fr 100, fr 101, fr 102, fr 103, fr 104, fr 105, fr 106, fr 107, fr 108, fr 109, fr 110, fr 111, fr 112, fr 113, fr 114, fr 115, fr 116, fr 117, fr 118, fr 119, fr 120, fr 121, fr 122, fr 123, fr 124, fr 125, fr 126, fr 127, fr 128, fr 129, fr 130, fr 131, fr 132, fr 133, fr 134, fr 135, fr 136, fr 137, fr 138, fr 139, fr 140, fr 141, fr 142, fr 143, fr 144, fr 145, fr 146, fr 147, fr 148, fr 149, fr 150, fr 151, fr 152, fr 153, fr 154, fr 155, fr 156, fr 157, fr 158, fr 159, fr 160, fr 161, fr 162, fr 163, fr 164, fr 165, fr 166, fr 167, fr 168, fr 169, fr 170, fr 171, fr 172, fr 173, fr 174, fr 175, fr 176, fr 177, fr 178, fr 179, fr 180, fr 181, fr 182, fr 183, fr 184, fr 185, fr 186, fr 187, fr 188, fr 189, fr 190, fr 191, fr 192, fr 193, fr 194, fr 195, fr 196, fr 197, fr 198, fr 199, fr 200, fr 201, fr 202, fr 203, fr 204, fr 205, fr 206, fr 207, fr 208, fr 209, fr 210, fr 211, fr 212, fr 213, fr 214, fr 215, fr 216, fr 217, fr 218, fr 219], []⟩ _
  simp only at h0 h1 h2 h3 h4 h18 h20 h24
  simp only [h0, h1, h2, h3, h4, h18, h20, h24]
  clear h0 h1 h2 h3 h4 h18 h20 h24
  conv => arg 2; whnf
  by_cases c1 : mid < e
  · have c1' : decide (mid < e) = true := decide_eq_true c1
    have c1i : (mid : Int) < (e : Int) := by omega
    by_cases c2 : e < b
    · have c2' : decide (e < b) = true := decide_eq_true c2
      have c2i : (e : Int) < (b : Int) := by omega
      have k := k61.out c1 c2
      clear HN n1 n2 hC hc1 hc2 k61
      go_wp2_with (go_at_call 62; refine k.mono ?_)
      rintro _ w2 ⟨rfl, ⟨h, hc2, hs2, ho2⟩, hw2⟩
      have HP : Hid (PR w2) := hK.out w2 h hc2 hs2 ho2 hw2
      clear hc2 hs2 ho2 hw2 k hK
      go_wp2
      go_end0
      exact ⟨rfl, HP.out⟩
    · have c2' : decide (e < b) = false := decide_eq_false c2
      have HP : Hid (PR w) := hK.out w f hC.out (Sam.refl _ _ _) (hc2.out (by omega)) (Only.refl _ _)
      clear HN n1 n2 hC hc1 hc2 k61 hK
      go_wp2
      go_end0
      exact ⟨rfl, HP.out⟩
  · have c1' : decide (mid < e) = false := decide_eq_false c1
    have HP : Hid (PR w) := hK.out w f hC.out (Sam.refl _ _ _) (hc1.out (by omega)) (Only.refl _ _)
    clear HN n1 n2 hC hc1 hc2 k61 hK
    go_wp2
    go_end0
    exact ⟨rfl, HP.out⟩
/-- What merging two rows in order promises. -/
def SymOk (lb : Nat) (zs : List Int) (g cap n a m b : Nat) (f : Nat → Int) (w : World) : Prop :=
  Calls Try.prog 62 #[.slice (some ⟨g, 0, none⟩) n cap, .int .i64 (a : Int), .int .i64 (m : Int), .int .i64 (b : Int), .func (.func 50) #[] #[.pointer (some ⟨lb, 0, none⟩)]] w fun e w' => e = .returned (.tuple #[]) ∧ (∃ h, CelC .i64 3 w' g cap n h ∧ Sam f h a b ∧ Srt (KZ zs) h a b) ∧ Only g w w'
theorem Idx.sam {f h : Nat → Int} {a m b lo hi : Nat} (hx : Idx f a m b) (hs : Sam f h lo hi) (hq : hi ≤ a ∨ b ≤ lo) : Idx h a m b := fun i j h1 h2 h3 h4 => by
  rw [hs.out i (by omega), hs.out j (by omega)]; exact hx i j h1 h2 h3 h4
theorem Srt.sam {K : Int → Int} {f h : Nat → Int} {a b lo hi : Nat} (hx : Srt K f a b) (hs : Sam f h lo hi) (hq : hi ≤ a ∨ b ≤ lo) : Srt K h a b := fun i j h1 h2 h3 => by
  rw [hs.out i (by omega), hs.out j (by omega)]; exact hx i j h1 h2 h3
set_option maxRecDepth 100000 in
set_option maxHeartbeats 4000000 in
theorem sym_step (B lb : Nat) (zs : List Int) (g cap n a m b : Nat) (f : Nat → Int) (w : World) (hI : InL B lb zs w) (hBg : B ≤ g) (ham : a + 2 ≤ m) (hmb : m + 2 ≤ b) (hbn : b ≤ n) (hn : n < 2097152) (hd : InD f n zs) (h1 : Srt (KZ zs) f a m) (h2 : Srt (KZ zs) f m b) (hx : Idx f a m b) (hC : CelC .i64 3 w g cap n f)
    (ih : ∀ (a2 m2 b2 : Nat) (f2 : Nat → Int) (w2 : World), b2 - a2 < b - a → a2 < m2 → m2 < b2 → b2 ≤ n → InL B lb zs w2 → InD f2 n zs → Srt (KZ zs) f2 a2 m2 → Srt (KZ zs) f2 m2 b2 → Idx f2 a2 m2 b2 → CelC .i64 3 w2 g cap n f2 → SymOk lb zs g cap n a2 m2 b2 f2 w2) : SymOk lb zs g cap n a m b f w := by
  unfold SymOk
  obtain ⟨mid, hmid⟩ : ∃ mid, (a + b) / 2 = mid := ⟨_, rfl⟩
  obtain ⟨N, hN⟩ : ∃ N, mid + m = N := ⟨_, rfl⟩
  obtain ⟨s0, r0, hsr⟩ : ∃ s0 r0, (m > mid ∧ s0 = N - b ∧ r0 = mid ∨ ¬ m > mid ∧ s0 = a ∧ r0 = m) := by
    by_cases c : m > mid
    · exact ⟨_, _, .inl ⟨c, rfl, rfl⟩⟩
    · exact ⟨_, _, .inr ⟨c, rfl, rfl⟩⟩
  have hK : Hid (∀ ac, At 220 [(0, .slice (some ⟨g, 0, none⟩) n cap), (1, .int .i64 (a : Int)), (2, .int .i64 (m : Int)), (3, .int .i64 (b : Int)), (4, .func (.func 50) #[] #[.pointer (some ⟨lb, 0, none⟩)]), (18, .int .i64 (mid : Int)), (19, .int .i64 (N : Int)), (20, .int .i64 (s0 : Int)), (21, .int .i64 (r0 : Int))] ac → Code.wp Try.prog (sq 6 body61) (bodyPost Try.prog Try.f62 fun e w' => e = .returned (.tuple #[]) ∧ (∃ h, CelC .i64 3 w' g cap n h ∧ Sam f h a b ∧ Srt (KZ zs) h a b) ∧ Only g w w') ac w) := fun ac ha =>
    sym_p1 B lb zs g cap n a m b mid N s0 r0 f ac w hI hC hd h1 h2 ⟨by omega, by omega, hbn, hn, hBg, hN.symm, hmid.symm, hsr⟩ (fun ac2 w2 s hs hc2 ho2 ha2 => by
      obtain ⟨k1, k2, k3, k4⟩ := hs.out
      obtain ⟨x1, x2, x3, x4, x5, x6, x7⟩ := cut_at h1 h2 hmid.symm hN.symm (by omega) (by omega) hsr k1 k2 (fun c y1 y2 => by have := k3 c y1 y2; omega) k4
      have hcut := cut_rot h1 h2 hx x1 x2 x3 x4 x6 x7
      rw [x5] at hcut
      have hrs := (Sam.rot f s m (N - s) x2 x3).wide x1 x4
      refine sym_p2 lb g cap n a m b mid N s (N - s) f ac2 w2 hc2 ⟨x2, x3, x4, hbn, hn, rfl, by omega, by omega⟩ (fun ac3 w3 hc3 ho3 ha3 => ?_) ha2
      have hI3 : InL B lb zs w3 := (hI.only ho2.out hBg).only ho3.out hBg
      have hd3 : InD (rot f s m (N - s)) n zs := hd.sam hrs hbn
      refine sym_p3 lb zs g cap n a m b mid s (N - s) _ ac3 w3 hc3 ⟨x1, by omega, by omega⟩ hcut (fun q1 q2 => ih a s mid _ w3 (by omega) q1 q2 (by omega) hI3 hd3 hcut.l1 hcut.l2 hcut.lx hc3.out) (fun ac4 w4 h4 hc4 hs4 ho4 ha4 => ?_) ha3
      have hI4 : InL B lb zs w4 := hI3.only ho4.out hBg
      have hd4 : InD h4 n zs := hd3.sam hs4.out.1 (by omega)
      refine sym_p4 lb zs g cap n a m b mid s (N - s) h4 _ ac4 w4 hc4 ⟨by omega, x4⟩ (fun q => ?_) (fun q => ?_) (fun q1 q2 => ih mid (N - s) b h4 w4 (by omega) q1 q2 hbn hI4 hd4 (hcut.r1.sam hs4.out.1 (by omega)) (hcut.r2.sam hs4.out.1 (by omega)) (hcut.rx.sam hs4.out.1 (by omega)) hc4.out) (fun w5 h5 hc5 hs5 ho5 hw5 => ?_) ha4
      · have := hcut.r2.sam hs4.out.1 (by omega); rw [q] at this; exact this
      · have := hcut.r1.sam hs4.out.1 (by omega); rw [q] at this; exact this
      · have hfin := hcut.done (by omega) (by omega) hs4.out.1 hs4.out.2 hs5 ho5
        exact ⟨⟨h5, hc5, hrs.trans hfin.1, hfin.2⟩, ((ho2.out.trans ho3.out).trans ho4.out).trans hw5⟩) ha
  have A9 : (a : Int) ≤ 9007199254740992 := by omega
  have M9 : (m : Int) ≤ 9007199254740992 := by omega
  have b9 : (b : Int) ≤ 9007199254740992 := by omega
  have d9 : (mid : Int) ≤ 9007199254740992 := by omega
  have m1 : (((m : Int) - (a : Int)) == 1) = false := by simp; omega
  have m2 : (((b : Int) - (m : Int)) == 1) = false := by simp; omega
  have e1 : ((a : Int) + (b : Int)) / 2 = (mid : Int) := by omega
  have e2 : (mid : Int) + (m : Int) = (N : Int) := by omega
  have N9 : (N : Int) ≤ 9007199254740992 := by omega
  have hsi : Hid (m > mid ∧ (N : Int) - (b : Int) = (s0 : Int) ∧ r0 = mid ∨ ¬ m > mid ∧ s0 = a ∧ r0 = m) := by
    show _ ∨ _
    omega
  clear hI hBg ham hmb hbn hn hd h1 h2 hx hC ih hmid hN hsr
  go_enter Try.func62, Try.ntmps62
  change Code.wp _ (Code.seq (hd (sq 0 body61)) (Code.seq (hd (sq 1 body61)) (Code.seq (hd (sq 2 body61)) (Code.seq (hd (sq 3 body61)) (Code.seq (hd (sq 4 body61)) (Code.seq (hd (sq 5 body61)) (sq 6 body61))))))) _ _ _
  generalize sq 6 body61 = REST at hK ⊢
  conv => arg 2; arg 1; whnf
  conv => arg 2; arg 2; arg 1; whnf
  conv => arg 2; arg 2; arg 2; arg 1; whnf
  conv => arg 2; arg 2; arg 2; arg 2; arg 1; whnf
  conv => arg 2; arg 2; arg 2; arg 2; arg 2; arg 1; whnf
  conv => arg 2; arg 2; arg 2; arg 2; arg 2; arg 2; arg 1; whnf
  rcases hsi.out with ⟨c, c2, c3⟩ | ⟨c, c2, c3⟩
  · have c' : decide (mid < m) = true := decide_eq_true c
    have ci : (mid : Int) < (m : Int) := by omega
    subst c3
    go_wp2
    exact hK.out _ ⟨rfl, rfl, rfl, rfl, rfl, rfl, rfl, rfl, rfl, rfl, rfl, trivial⟩
  · have c' : decide (mid < m) = false := decide_eq_false c
    subst c2 c3
    go_wp2
    exact hK.out _ ⟨rfl, rfl, rfl, rfl, rfl, rfl, rfl, rfl, rfl, rfl, rfl, trivial⟩
theorem sym_any (B lb : Nat) (zs : List Int) (g cap n : Nat) (hBg : B ≤ g) (hn : n < 2097152) : ∀ (L a m b : Nat) (f : Nat → Int) (w : World), b - a ≤ L → a < m → m < b → b ≤ n → InL B lb zs w → InD f n zs → Srt (KZ zs) f a m → Srt (KZ zs) f m b → Idx f a m b → CelC .i64 3 w g cap n f → SymOk lb zs g cap n a m b f w := by
  intro L
  induction L with
  | zero => intro a m b f w h; omega
  | succ L ih =>
    intro a m b f w hL h1 h2 h3 hI hd hs1 hs2 hx hC
    by_cases c : a + 1 = m
    · subst c
      exact symA B lb zs g cap n a b f w hI hBg h2 h3 hn hd hs2 hx hC
    · by_cases c2 : m + 1 = b
      · subst c2
        exact symB B lb zs g cap n a m f w hI hBg (by omega) h3 hn hd hs1 hx hC
      · exact sym_step B lb zs g cap n a m b f w hI hBg (by omega) (by omega) h3 hn hd hs1 hs2 hx hC (fun a2 m2 b2 f2 w2 h4 => ih a2 m2 b2 f2 w2 (by omega))
end Go.Proofs.Ytahmeejcgddlhab
