/-
  What is written of a list, or that a number is too great.
-/
import Derived.Test.YtahmeejcgddlhabQm
namespace Go.Proofs.Ytahmeejcgddlhab
open Go.RowKit
/-- The digits of all that is not basic; none: a number is too great. -/
def encL (p : Bt) (zs : List Int) : List Int → Int → Int → Int → Nat → (Nat → Bool) → Bool → Option (List Int)
  | [], _, _, _, _, _, _ => some []
  | x :: os, n, i, bias, m, mk, first =>
    if 2147483647 < (KZ zs x - n) * ((m + 1 : Nat) : Int) + (cnt mk x.toNat : Int) then none else
    match numF p bias 31 ((KZ zs x - n) * ((m + 1 : Nat) : Int) + (cnt mk x.toNat : Int) - i) 1 p.base with
    | none => none
    | some ds => (encL p zs os (KZ zs x) ((cnt mk x.toNat : Int) + 1) (adF p ((KZ zs x - n) * ((m + 1 : Nat) : Int) + (cnt mk x.toNat : Int) - i) ((m + 1 : Nat) : Int) first) (m + 1) (setB mk x.toNat true) false).map (ds ++ ·)
/-- What is wanted of those that are left. -/
structure EO (zs : List Int) (os : List Int) (n i : Int) (m : Nat) (mk : Nat → Bool) : Prop where
  i0 : 0 ≤ i
  im : i ≤ (m : Int)
  ge : ∀ x ∈ os, n ≤ KZ zs x ∧ (KZ zs x = n → i ≤ (cnt mk x.toNat : Int))
  srt : os.Pairwise (LT (KZ zs))
  rng : ∀ x ∈ os, 0 ≤ x ∧ x < (zs.length : Int) ∧ mk x.toNat = false
  tot : cnt mk zs.length = m
theorem EO.step {zs os : List Int} {x n i : Int} {m : Nat} {mk : Nat → Bool} (h : EO zs (x :: os) n i m mk) : EO zs os (KZ zs x) ((cnt mk x.toNat : Int) + 1) (m + 1) (setB mk x.toNat true) := by
  obtain ⟨x0, x1, x2⟩ := h.rng x (by simp)
  have hp := List.pairwise_cons.1 h.srt
  have hc := cnt_mono mk (show x.toNat ≤ zs.length by omega)
  have htot := h.tot
  refine ⟨by omega, by omega, fun y hy => ?_, hp.2, fun y hy => ?_, by rw [cnt_set_on mk _ x2 _ (by omega), htot]⟩
  · have hl := hp.1 y hy
    obtain ⟨y0, y1, y2⟩ := h.rng y (by simp [hy])
    unfold LT at hl
    refine ⟨by omega, fun e => ?_⟩
    have hxy : x < y := by omega
    rw [cnt_set_on mk _ x2 _ (by omega)]
    have := cnt_mono mk (show x.toNat ≤ y.toNat by omega)
    omega
  · have hl := hp.1 y hy
    obtain ⟨y0, y1, y2⟩ := h.rng y (by simp [hy])
    unfold LT at hl
    refine ⟨y0, y1, ?_⟩
    unfold setB
    by_cases c : y.toNat = x.toNat
    · have : y = x := by omega
      subst this; omega
    · rw [if_neg c]; exact y2
theorem EO.next {zs os : List Int} {x n i : Int} {m : Nat} {mk : Nat → Bool} (h : EO zs (x :: os) n i m mk) : i ≤ (KZ zs x - n) * ((m + 1 : Nat) : Int) + (cnt mk x.toNat : Int) := by
  obtain ⟨g1, g2⟩ := h.ge x (by simp)
  have him := h.im
  by_cases c : KZ zs x = n
  · have := g2 c
    rw [c, Int.sub_self, Int.zero_mul]; omega
  · have : 1 * ((m + 1 : Nat) : Int) ≤ (KZ zs x - n) * ((m + 1 : Nat) : Int) := Int.mul_le_mul_of_nonneg_right (by omega) (by omega)
    omega
theorem cnt_mkB (p : Bt) (zs : List Int) : ∀ k, k ≤ zs.length → cnt (mkB p zs zs.length) k = (bsL p zs k).length
  | 0, _ => by simp [cnt, bsL]
  | k + 1, h => by
    rw [cnt, cnt_mkB p zs k (by omega)]
    cases hb : isB p (zs.getD k 0) with
    | true =>
      rw [bsL_yes p zs k (by omega) hb, List.length_append]
      have : mkB p zs zs.length k = true := by unfold mkB; rw [hb]; simp; omega
      rw [if_pos this]; rfl
    | false =>
      rw [bsL_no p zs k (by omega) hb]
      have : ¬ mkB p zs zs.length k = true := by unfold mkB; rw [hb]; simp
      rw [if_neg this]; rfl
theorem EO.start (p : Bt) (zs os : List Int) (hs : SrtL (KZ zs) (osL p zs zs.length) os) (hv : ∀ j, j < zs.length → isB p (zs.getD j 0) = false → p.first ≤ zs.getD j 0) : EO zs os p.first 0 (bsL p zs zs.length).length (mkB p zs zs.length) := by
  refine ⟨Int.le_refl _, by omega, fun x hx => ?_, hs.srt, fun x hx => ?_, cnt_mkB p zs zs.length (Nat.le_refl _)⟩
  · obtain ⟨j, rfl, h1, h2⟩ := (osL_mem p zs zs.length x).1 ((hs.mem x).1 hx)
    exact ⟨by unfold KZ; rw [Int.toNat_natCast]; exact hv j h1 h2, fun _ => by omega⟩
  · obtain ⟨j, rfl, h1, h2⟩ := (osL_mem p zs zs.length x).1 ((hs.mem x).1 hx)
    refine ⟨by omega, by omega, ?_⟩
    unfold mkB
    rw [Int.toNat_natCast, h2]; simp
theorem bo_len (p : Bt) (zs : List Int) : ∀ k, k ≤ zs.length → (bsL p zs k).length + (osL p zs k).length = k
  | 0, _ => by simp [bsL, osL]
  | k + 1, h => by
    have ih := bo_len p zs k (by omega)
    cases hb : isB p (zs.getD k 0) with
    | true => rw [bsL_yes p zs k (by omega) hb, osL_yes p zs k hb, List.length_append]; simp; omega
    | false => rw [bsL_no p zs k (by omega) hb, osL_no p zs k hb, List.length_append]; simp; omega
/-- What stands while the others are written. -/
structure WrI (p : Bt) (zs os : List Int) (F : Option (List Int)) (mb O : Nat) (VS : Value) (wr : World) (v6 : Value) (k M : Nat) (n i bias : Int) (acc : List Int) (mk : Nat → Bool) : Prop where
  eo : EO zs (os.drop k) n i M mk
  enc : (encL p zs (os.drop k) n i bias M mk (k == 0)).map ((outL p zs ++ acc) ++ ·) = F
  out : Rw .u8 5 (mb + 1) wr v6 (outL p zs ++ acc)
  mrk : ∃ fr, Cel .i64 wr mb (zs.length + 1) fr ∧ FT (zs.length + 1) fr mk ∧ fr 0 = 0
  oth : Rw .i64 3 (mb + 1) wr VS os
  len : acc.length ≤ 31 * k
  pts : M + os.length = zs.length + k
  nb : 0 ≤ n ∧ n ≤ 1114111
  bb : 0 ≤ bias ∧ bias ≤ 10000
  sz : mb + 1 ≤ wr.heap.size
  box : wr.heap[O]? = some (.cells (bv p) 23)
theorem WrI.drew {p : Bt} {zs os : List Int} {F : Option (List Int)} {mb O : Nat} {VS : Value} {wr : World} {v6 : Value} {k M : Nat} {n i bias : Int} {acc : List Int} {mk : Nat → Bool} (h : WrI p zs os F mb O VS wr v6 k M n i bias acc mk) (q : Nat) : WrI p zs os F mb O VS (wr.drewN q) v6 k M n i bias acc mk :=
  ⟨h.eo, h.enc, h.out, h.mrk, h.oth, h.len, h.pts, h.nb, h.bb, h.sz, h.box⟩
theorem int_beq_zero (k : Nat) : ((k : Int) == 0) = (k == 0) := by
  by_cases c : k = 0
  · subst c; rfl
  · have h1 : ((k : Int) == 0) = false := by simp; omega
    have h2 : (k == 0) = false := by simp; omega
    rw [h1, h2]
theorem numF_len (p : Bt) (bias : Int) : ∀ (f : Nat) (q w k : Int) (ds : List Int), numF p bias f q w k = some ds → ds.length ≤ f
  | 0, _, _, _, _, h => by simp [numF] at h
  | f + 1, q, w, k, ds, h => by
    rw [numF] at h
    split at h
    · simp at h; subst h; simp
    · split at h
      · simp at h
      · cases hn : numF p bias f ((q - thr p k bias) / (p.base - thr p k bias)) (w * (p.base - thr p k bias)) (k + p.base) with
        | none => rw [hn] at h; simp at h
        | some d =>
          rw [hn] at h
          simp at h
          have := numF_len p bias f _ _ _ d hn
          subst h
          simp; omega
theorem outL_len (p : Bt) (zs : List Int) : (outL p zs).length ≤ zs.length + 1 := by
  unfold outL
  have := bsL_len p zs zs.length
  split
  · simp
  · simp; omega
/-- What is written; none: a number is too great. -/
def wrF (p : Bt) (zs os : List Int) : Option (List Int) := (encL p zs os p.first 0 p.bias (bsL p zs zs.length).length (mkB p zs zs.length) true).map (outL p zs ++ ·)
/-- What writing answers. -/
def wrA (p : Bt) (zs : List Int) (e : Ending) : Prop := ∃ os, SrtL (KZ zs) (osL p zs zs.length) os ∧
  match wrF p zs os with
  | none => e = .returned (.tuple #[.string ⟨#[]⟩, .bool false])
  | some L => e = .returned (.tuple #[.string (strOfNums L), .bool true])
set_option maxRecDepth 100000 in
set_option maxHeartbeats 8000000 in
theorem written_any (p : Bt) (zs : List Int) (v : Value) (w : World) (hp : Okb p) (hz : zs.length < 1048577) (h : Rds .i32 w v zs) (hsc : ∀ j, j < zs.length → 0 ≤ zs.getD j 0 ∧ zs.getD j 0 ≤ 1114111) (hlo : ∀ j, j < zs.length → isB p (zs.getD j 0) = false → p.first ≤ zs.getD j 0) :
    Calls Try.prog 34 #[.agg (bv p), v] w fun e w' => wrA p zs e ∧ Below w.heap.size w w' := by
  have k38 := fun w h => apart_any p zs v w hz h hsc
  have HB : Hid (Below w.heap.size w (w.alloc (.cells (bv p) 23))) := (Below.refl w.heap.size w).alloc (Nat.le_refl _) _
  have hl : Hid ((w.alloc (.cells (bv p) 23)).heap[w.heap.size]? = some (.cells (bv p) 23)) := heap_new _ _
  have HD : Hid (Rds .i32 w v zs) := h
  have k38' := k38 (w.alloc (.cells (bv p) 23)) (h.below HB.out)
  have HZ : Hid (zs.length < 1048577) := hz
  have HS : Hid (∀ j, j < zs.length → 0 ≤ zs.getD j 0 ∧ zs.getD j 0 ≤ 1114111) := hsc
  have HLO : Hid (∀ j, j < zs.length → isB p (zs.getD j 0) = false → p.first ≤ zs.getD j 0) := hlo
  obtain ⟨a, c, rfl, -⟩ := h
  have cb := fun (j : Nat) (u : Value) (h : (bv p)[j]? = some u) (W1 : World) (hh : W1.heap[w.heap.size]? = some (.cells (bv p) 23)) => (show W1.cell? ⟨w.heap.size, j, none⟩ = some u by simp [World.cell?, hh, h])
  have hs1 : (w.alloc (.cells (bv p) 23)).heap.size = w.heap.size + 1 := by simp
  clear k38 hz hsc hlo
  have CB : Hid (∀ (j : Nat) (u : Value), (bv p)[j]? = some u → ∀ (W1 : World), W1.heap[w.heap.size]? = some (.cells (bv p) 23) → W1.cell? ⟨w.heap.size, j, none⟩ = some u) := cb
  have a0 := cb 0 (.int .i64 p.base) rfl _ hl.out
  have a1 := cb 1 (.int .i64 p.least) rfl _ hl.out
  have a2 := cb 2 (.int .i64 p.most) rfl _ hl.out
  have a3 := cb 3 (.int .i64 p.skew) rfl _ hl.out
  have a4 := cb 4 (.int .i64 p.damp) rfl _ hl.out
  have a5 := cb 5 (.int .i64 p.bias) rfl _ hl.out
  have a6 := cb 6 (.int .i64 p.first) rfl _ hl.out
  have a7 := cb 7 (.int .u8 p.btw) rfl _ hl.out
  clear cb
  go_enter Try.func34, Try.ntmps34
  go_wp2_with (go_at_call 38; refine (calls_hid k38').mono ?_)
  intro _ w2 hq
  obtain ⟨⟨vo, vs, mb, os, rfl, b1, b2, hR1, hR2, hS, fr, hf1, hf2, hf3⟩, hB2⟩ := hq.out
  clear hq k38' a0 a1 a2 a3 a4 a5 a6 a7
  generalize hO : w.heap.size = O at *
  generalize w.alloc (.cells (bv p) 23) = W1 at *
  have hB3 : Hid (Below O w w2) := HB.out.trans (hB2.mono (by omega))
  have hl3 : Hid (w2.heap[O]? = some (.cells (bv p) 23)) := (hB2.block O (by omega)).trans hl.out
  have hm1 : Hid (O + 1 ≤ mb ∧ mb + 1 ≤ w2.heap.size) := ⟨by omega, b2⟩
  obtain ⟨F, hF⟩ : ∃ F, Hid (wrF p zs os = F) := ⟨_, rfl⟩
  have HW : Hid (∀ e, (match F with | none => e = .returned (.tuple #[.string ⟨#[]⟩, .bool false]) | some L => e = .returned (.tuple #[.string (strOfNums L), .bool true])) → wrA p zs e) := fun e he => ⟨os, hS, by rw [hF.out]; exact he⟩
  obtain ⟨ao, co, e1, -⟩ := owns_slice hR1
  obtain ⟨as_, cs, e2, -⟩ := owns_slice hR2
  subst e1 e2
  have hol : os.length ≤ zs.length := by rw [hS.len]; exact osL_len p zs zs.length
  have HE0 : Hid (EO zs os p.first 0 (bsL p zs zs.length).length (mkB p zs zs.length)) := EO.start p zs os hS HLO.out
  have HR1 : Hid (Rw .u8 5 (mb + 1) w2 (.slice ao (outL p zs).length co) (outL p zs)) := hR1
  have HR2 : Hid (Rw .i64 3 (mb + 1) w2 (.slice as_ os.length cs) os) := hR2
  have HM : Hid (∃ fr, Cel .i64 w2 mb (zs.length + 1) fr ∧ FT (zs.length + 1) fr (mkB p zs zs.length) ∧ fr 0 = 0) := ⟨fr, hf1, hf2, hf3⟩
  have hpt : (bsL p zs zs.length).length + os.length = zs.length := by have := bo_len p zs zs.length (Nat.le_refl _); rw [hS.len]; exact this
  clear hR1 hR2 hf1 hf2 hf3 hB2 b1 b2 HB hl hs1 fr
  have hcb := fun W h => And.intro (CB.out 5 (.int .i64 p.bias) rfl W h) (CB.out 6 (.int .i64 p.first) rfl W h)
  obtain ⟨c5, c6⟩ := hcb w2 hl3.out
  have ol9 : (os.length : Int) ≤ (zs.length : Int) := by omega
  have zl9 : (zs.length : Int) ≤ 9007199254740992 := by have := HZ.out; omega
  go_wp2
  go_quiet (fail)
  have HI0 : Hid (WrI p zs os F mb O (.slice as_ os.length cs) (w2.drewN nq) (.slice ao (outL p zs).length co) 0 (bsL p zs zs.length).length p.first 0 p.bias [] (mkB p zs zs.length)) :=
    ⟨HE0.out, by rw [List.append_nil]; exact hF.out, by rw [List.append_nil]; exact HR1.out, HM.out, HR2.out, Nat.zero_le _, by omega, ⟨by have := hp.f1; omega, hp.f2⟩, ⟨hp.i1, hp.i2⟩, hm1.out.2, hl3.out⟩
  have hB4 : Hid (Below O w (w2.drewN nq)) := below_drewN hB3.out _
  have hpt2 : (zs.length : Int) - (os.length : Int) = ((bsL p zs zs.length).length : Int) := by omega
  clear HE0 HR1 HR2 HM hl3 hB3 c5 c6 hcb hF
  generalize w2.drewN nq = W2 at *
  generalize hM0 : (bsL p zs zs.length).length = M0 at *
  clear hM0 hpt
  go_wp2
  replace hpt2 : Hid ((zs.length : Int) - (os.length : Int) = (M0 : Int)) := hpt2
  go_loopw [6, 9, 10, 11, 12, 38] (fun v6 x9 x10 x11 x12 x38 wr => ∃ (k M : Nat) (n i bias : Int), x38 = .int .i64 (k : Int) ∧ x9 = .int .i64 (M : Int) ∧ x10 = .int .i64 n ∧ x11 = .int .i64 i ∧ x12 = .int .i64 bias ∧ k ≤ os.length ∧ Hid (∃ acc mk, WrI p zs os F mb O (.slice as_ os.length cs) wr v6 k M n i bias acc mk) ∧ Hid (Below O w wr)) (fun _ _ _ _ _ x38 _ => os.length - (RowKit.intOf x38).toNat)
  case atStart => exact ⟨0, M0, p.first, 0, p.bias, rfl, by rw [hpt2.out], rfl, rfl, rfl, Nat.zero_le _, ⟨[], _, HI0.out⟩, hB4⟩
  case round =>
    clear HI0 hB4 hpt2
    obtain ⟨k, M, n, i, bias, rfl, rfl, rfl, rfl, rfl, hk, ⟨acc, mk, hI⟩, hB⟩ := hrel
    obtain ⟨V6, hV6⟩ : ∃ V, u6 = V := ⟨_, rfl⟩
    rw [hV6] at hI ⊢
    clear hV6
    by_cases d : k < os.length
    · have d1 : (k : Int) < (os.length : Int) := by omega
      have d2 : decide ((k : Int) < (os.length : Int)) = true := decide_eq_true d1
      obtain ⟨x, hx⟩ : ∃ x, os.getD k 0 = x := ⟨_, rfl⟩
      have hdr : os.drop k = x :: os.drop (k + 1) := by
        rw [List.drop_eq_getElem_cons d, ← hx]; simp [List.getD, List.getElem?_eq_getElem d]
      have heo := hI.eo
      have henc := hI.enc
      rw [hdr] at heo henc
      obtain ⟨x0, x1, x2⟩ := heo.rng x (by simp)
      obtain ⟨at_, hat⟩ : ∃ at_ : Nat, x = (at_ : Int) := ⟨x.toNat, by omega⟩
      subst hat
      have hstep := heo.step
      have hnx := heo.next
      have hcnt := cnt_le mk at_
      have hK : KZ zs (at_ : Int) = zs.getD at_ 0 := by unfold KZ; rw [Int.toNat_natCast]
      rw [Int.toNat_natCast] at x2 hstep hnx
      rw [hK] at hstep hnx
      rw [encL, Int.toNat_natCast, hK] at henc
      have hat2 : at_ < zs.length := by omega
      obtain ⟨c0, c1⟩ := HS.out at_ hat2
      have hpts := hI.pts
      have hzl := HZ.out
      obtain ⟨m2, hm2⟩ : ∃ m2, M + 1 = m2 := ⟨_, rfl⟩
      rw [hm2] at hstep hnx henc
      obtain ⟨C, hC⟩ : ∃ C, zs.getD at_ 0 = C := ⟨_, rfl⟩
      have hRd := HD.out.below (hO ▸ hB.out)
      obtain ⟨a1, cc1, e1, hcell⟩ := hRd
      cases e1
      obtain ⟨gz, off, rfl, hcell2⟩ := hcell (by omega)
      have y1 := hcell2 at_ hat2
      rw [hC] at y1 c0 c1 hstep hnx henc
      have hro := hI.oth.rds
      obtain ⟨a2, cc2, e2, hcell3⟩ := hro
      cases e2
      obtain ⟨go, oo, rfl, hcell4⟩ := hcell3 (by omega)
      have y2 := hcell4 k d
      rw [hx] at y2
      obtain ⟨fr, hf1, hf2, hf3⟩ := hI.mrk
      have kq := fun nq => ahead_ft mb (zs.length + 1) at_ fr mk (wr.drewN nq) (by omega) (by omega) hf2 hf3 hf1
      obtain ⟨PL, hPL⟩ : ∃ PL, cnt mk at_ = PL := ⟨_, rfl⟩
      simp only [hPL] at kq hnx henc hstep hcnt
      have n0 := hI.nb
      have bb0 := hI.bb
      have i0 := hI.eo.i0
      obtain ⟨Pr, hPr⟩ : ∃ Pr, (C - n) * (m2 : Int) = Pr := ⟨_, rfl⟩
      have pr1 : Pr ≤ 1114111 * 2097152 := by
        rw [← hPr]
        by_cases q : 0 ≤ C - n
        · exact Int.mul_le_mul (by omega) (by omega) (by omega) (by omega)
        · have : (C - n) * (m2 : Int) ≤ 0 := Int.mul_nonpos_of_nonpos_of_nonneg (by omega) (by omega)
          omega
      have pr0 : -(1114111 * 2097152) ≤ Pr := by
        rw [← hPr]
        have : (-1114111) * (m2 : Int) ≤ (C - n) * (m2 : Int) := Int.mul_le_mul_of_nonneg_right (by omega) (by omega)
        omega
      rw [hPr] at hnx henc
      have hm3 : (M : Int) + 1 = (m2 : Int) := by omega
      have m29 : (m2 : Int) ≤ 9007199254740992 := by omega
      have at9 : (at_ : Int) < (zs.length : Int) := by omega
      have k9 : (k : Int) ≤ 9007199254740992 := by omega
      have pl0 : (PL : Int) ≤ 9007199254740992 := by omega
      have cn : wrap64 (C - n) = C - n := by unfold wrap64; omega
      have cw : IntKind.i64.wrap C = C := IntWalk.i64_in _ ⟨by omega, by omega⟩
      obtain ⟨NX, hNX⟩ : ∃ NX, Pr + (PL : Int) = NX := ⟨_, rfl⟩
      rw [hNX] at hnx henc
      have prw : wrap64 Pr = Pr := by unfold wrap64; omega
      have nxw : wrap64 NX = NX := by unfold wrap64; omega
      obtain ⟨DL, hDL⟩ : ∃ DL, NX - i = DL := ⟨_, rfl⟩
      rw [hDL] at henc
      have im := hI.eo.im
      have dlw : wrap64 DL = DL := by unfold wrap64; omega
      have HST : Hid (EO zs (os.drop (k + 1)) C ((PL : Int) + 1) m2 (setB mk at_ true) ∧ mk at_ = false ∧ at_ < zs.length ∧ M + 1 = m2 ∧ m2 ≤ zs.length ∧ 0 ≤ DL ∧ (PL : Int) + 1 ≤ 9007199254740992 ∧ 0 ≤ C ∧ C ≤ 1114111) := ⟨hstep, x2, hat2, hm2, by omega, by omega, by omega, c0, c1⟩
      have hIH : Hid (WrI p zs os F mb O (.slice (some ⟨go, oo, none⟩) os.length cs) wr V6 k M n i bias acc mk) := hI
      have nbs : Hid (0 ≤ n ∧ n ≤ 1114111 ∧ 0 ≤ i ∧ i ≤ NX ∧ NX ≤ 9007199254740992) := ⟨n0.1, n0.2, i0, by omega, by omega⟩
      have hne : Hid (numF p bias 31 DL 1 p.base = numF p bias 31 DL 1 p.base) := rfl
      clear hI hdr heo hstep hnx hcnt hK x0 x1 x2 hat2 hpts hzl hm2 hC hcell hcell2 hcell3 hcell4 hf1 hf2 hf3 hPL n0 bb0 i0 pr1 pr0 im hx c0 c1
      by_cases t1 : 2147483647 < NX
      · rw [if_pos t1] at henc
        have hFN : Hid (F = none) := henc.symm
        have t1' : decide (2147483647 < NX) = true := decide_eq_true t1
        clear henc t1 hDL dlw
        go_wp2
        go_quiet (first | (go_at_call 39; refine Calls.quiet_of_same (kq _)))
        have hB5 : Hid (Below O w (wr.drewN nq)) := below_drewN hB.out _
        clear kq y1 y2
        generalize wr.drewN nq = W0 at *
        go_wp2
        go_ret2
        exact ⟨HW.out (.returned (.tuple #[.string ⟨#[]⟩, .bool false])) (by rw [hFN.out]), by rw [hO]; exact hB5.out⟩
      rw [if_neg t1] at henc
      have t1' : decide (2147483647 < NX) = false := decide_eq_false t1
      have hDb : Hid (0 ≤ DL ∧ DL ≤ 2147483647) := ⟨HST.out.2.2.2.2.2.1, by have := nbs.out; omega⟩
      clear t1
      go_wp2
      go_quiet (first | (go_at_call 39; refine Calls.quiet_of_same (kq _)))
      have hB5 : Hid (Below O w (wr.drewN nq)) := below_drewN hB.out _
      have hI5 : Hid (WrI p zs os F mb O (.slice (some ⟨go, oo, none⟩) os.length cs) (wr.drewN nq) V6 k M n i bias acc mk) := hIH.out.drew nq
      clear kq y1 y2 hB hIH
      generalize wr.drewN nq = W0 at *
      have a0 := CB.out 0 (.int .i64 p.base) rfl W0 hI5.out.box
      have a1 := CB.out 1 (.int .i64 p.least) rfl W0 hI5.out.box
      have a2 := CB.out 2 (.int .i64 p.most) rfl W0 hI5.out.box
      have a3 := CB.out 3 (.int .i64 p.skew) rfl W0 hI5.out.box
      have a4 := CB.out 4 (.int .i64 p.damp) rfl W0 hI5.out.box
      have a5 := CB.out 5 (.int .i64 p.bias) rfl W0 hI5.out.box
      have a6 := CB.out 6 (.int .i64 p.first) rfl W0 hI5.out.box
      have a7 := CB.out 7 (.int .u8 p.btw) rfl W0 hI5.out.box
      have hol1 := outL_len p zs
      have k40 := appNum_any p (outL p zs ++ acc) V6 DL bias (mb + 1) W0 hp hI5.out.out hI5.out.sz (by rw [List.length_append]; have := hI5.out.len; have := HZ.out; omega) hDb.out.1 hDb.out.2 hI5.out.bb.1 (by have := hI5.out.bb.2; omega)
      clear hol1
      go_wp2_with (go_at_call 40; refine (calls_hid k40).mono ?_)
      intro _ w5 hq
      obtain ⟨hA, hb5, hk5⟩ := hq.out
      have hB6 : Hid (Below O w w5) := hB5.out.trans (hb5.mono (by have := hm1.out; omega))
      clear hq k40 a0 a1 a2 a3 a4 a5 a6 a7
      cases hn : numF p bias 31 DL 1 p.base with
      | none =>
        rw [hn] at hA henc
        have hFN : Hid (F = none) := henc.symm
        rw [anA] at hA
        subst hA
        clear hb5 hk5 henc hn
        go_wp2
        go_ret2
        exact ⟨HW.out (.returned (.tuple #[.string ⟨#[]⟩, .bool false])) (by rw [hFN.out]), by rw [hO]; exact hB6.out⟩
      | some ds =>
        rw [hn] at hA henc
        obtain ⟨u', rfl, hR6⟩ := hA
        simp only at henc
        have hOm := hm1.out.1
        have hx6 : Hid (w5.heap[O]? = some (.cells (bv p) 23)) := (hb5.block O (by omega)).trans hI5.out.box
        have hoth6 : Rw .i64 3 (mb + 1) w5 (.slice (some ⟨go, oo, none⟩) os.length cs) os := hI5.out.oth.keep hk5 (by decide)
        obtain ⟨fr6, hg1, hg2, hg3⟩ := hI5.out.mrk
        have hg6 := hg1.lower hb5 (by omega)
        have hsz6 : mb + 1 ≤ w5.heap.size := Nat.le_trans hI5.out.sz hb5.size
        have hdl := numF_len p bias 31 DL 1 p.base ds hn
        have hkb : ((k : Int) == 0) = (k == 0) := int_beq_zero k
        have k28 := adapt_any p DL (m2 : Int) (k == 0) w5 hp hDb.out.1 (by have := hDb.out.2; omega) (by have := HST.out; omega) (by have := HST.out; have := HZ.out; omega)
        have ab := adF_bound p hp DL (m2 : Int) (k == 0) hDb.out.1 (by have := hDb.out.2; omega) (by have := HST.out; omega)
        obtain ⟨A, hA⟩ : ∃ A, adF p DL (m2 : Int) (k == 0) = A := ⟨_, rfl⟩
        rw [hA] at k28 ab henc
        rw [← hkb] at k28
        have HF : Hid (∀ w7 fr7, Below w5.heap.size w5 w7 → ∀ w8, Only mb w7 w8 → Cel .i64 w8 mb (zs.length + 1) fr7 → FT (zs.length + 1) fr7 (setB mk at_ true) → fr7 0 = 0 → Hid (∃ acc mk, WrI p zs os F mb O (.slice (some ⟨go, oo, none⟩) os.length cs) w8 u' (k + 1) m2 C ((PL : Int) + 1) A acc mk) ∧ Hid (Below O w w8)) := fun w7 fr7 hb7 w8 ho8 q1 q2 q3 => by
          have hst := HST.out
          have hb57 : Below O w w7 := hB6.out.trans (hb7.mono (by omega))
          refine ⟨⟨acc ++ ds, setB mk at_ true, hst.1, ?_, ?_, ⟨fr7, q1, q2, q3⟩, Rw.only (hoth6.below hb7) ho8 (by omega), ?_, ?_, ⟨hst.2.2.2.2.2.2.2.1, hst.2.2.2.2.2.2.2.2⟩, ab, ?_, ?_⟩, Only.below hb57 (by omega) (by have := hb7.size; omega) ho8⟩
          · rw [← henc, show (k + 1 == 0) = false from rfl]
            cases encL p zs (os.drop (k + 1)) C ((PL : Int) + 1) A m2 (setB mk at_ true) false <;> simp
          · rw [← List.append_assoc]; exact Rw.only (Rw.below hR6 hb7) ho8 (by omega)
          · rw [List.length_append]; have := hI5.out.len; omega
          · have := hI5.out.pts; omega
          · have := hb7.size; have := ho8.size; omega
          · exact (ho8.block O (by have := hb7.size; omega) (by intro q; cases q; omega)).trans ((hb7.block O (by omega)).trans hx6.out)
        have hg7 : Hid (Cel .i64 w5 mb (zs.length + 1) fr6 ∧ FT (zs.length + 1) fr6 mk ∧ fr6 0 = 0 ∧ zs.length + 1 < 4194304 ∧ at_ < zs.length + 1 ∧ mk at_ = false) := ⟨hg6, hg2, hg3, by have := HZ.out; omega, by have := HST.out; omega, HST.out.2.1⟩
        have hkk : Hid (k < os.length) := d
        have pl9 : (PL : Int) ≤ 9007199254740992 := by have := HST.out; omega
        have e0 := CB.out 0 (.int .i64 p.base) rfl w5 hx6.out
        have e1 := CB.out 1 (.int .i64 p.least) rfl w5 hx6.out
        have e2 := CB.out 2 (.int .i64 p.most) rfl w5 hx6.out
        have e3 := CB.out 3 (.int .i64 p.skew) rfl w5 hx6.out
        have e4 := CB.out 4 (.int .i64 p.damp) rfl w5 hx6.out
        have e5 := CB.out 5 (.int .i64 p.bias) rfl w5 hx6.out
        have e6 := CB.out 6 (.int .i64 p.first) rfl w5 hx6.out
        have e7 := CB.out 7 (.int .u8 p.btw) rfl w5 hx6.out
        clear hb5 hk5 hB5 hB6 hI5 hR6 hx6 hoth6 hg1 hg2 hg3 hg6 hsz6 hdl hA ab henc hn hOm hkb
        go_wp2_with (go_at_call 41; refine (calls_hid k28).mono ?_)
        intro _ w7 hq
        obtain ⟨rfl, hb7⟩ := hq.out
        have hf7 := hg7.out.1.below hb7
        have k41 := change_on mb (zs.length + 1) at_ fr6 mk w7 hg7.out.2.2.2.1 hg7.out.2.2.2.2.1 hg7.out.2.1 hg7.out.2.2.1 hg7.out.2.2.2.2.2 hf7
        have HF7 : Hid (∀ fr7 w8, Only mb w7 w8 → Cel .i64 w8 mb (zs.length + 1) fr7 → FT (zs.length + 1) fr7 (setB mk at_ true) → fr7 0 = 0 → Hid (∃ acc mk, WrI p zs os F mb O (.slice (some ⟨go, oo, none⟩) os.length cs) w8 u' (k + 1) m2 C ((PL : Int) + 1) A acc mk) ∧ Hid (Below O w w8)) := fun fr7 w8 h1 h2 h3 h4 => HF.out w7 fr7 hb7 w8 h1 h2 h3 h4
        clear hq hb7 k28 HF hg7 hf7 e0 e1 e2 e3 e4 e5 e6 e7
        go_wp2_with (go_at_call 42; refine (calls_hid k41).mono ?_)
        intro _ w8 hq
        obtain ⟨rfl, ⟨fr8, q1, q2, q3⟩, q4⟩ := hq.out
        have HE : Hid _ := HF7.out fr8 w8 q4 q1 q2 q3
        clear hq q1 q2 q3 q4 HF7 k41
        go_wp2
        refine ⟨⟨k + 1, m2, C, (PL : Int) + 1, A, by simp, rfl, rfl, rfl, rfl, by have := hkk.out; omega, HE.out⟩, ?_⟩
        have := hkk.out
        simp [RowKit.intOf]; omega
    · obtain rfl : k = os.length := by omega
      have d2 : decide ((os.length : Int) < (os.length : Int)) = false := by simp
      have he := hI.enc
      rw [List.drop_length, encL] at he
      simp only [Option.map_some, List.append_nil] at he
      have hRo := hI.out
      clear hI
      obtain ⟨LL, hLL⟩ : ∃ LL, outL p zs ++ acc = LL := ⟨_, rfl⟩
      rw [hLL] at hRo he
      obtain ⟨av, cv, e1, -⟩ := owns_slice hRo
      subst e1
      have hst := string_own hRo
      have HP := HW.out (.returned (.tuple #[.string (strOfNums LL), .bool true])) (by rw [← he])
      replace HP : Hid (wrA p zs (.returned (.tuple #[.string (strOfNums LL), .bool true]))) := HP
      clear he HW hRo hLL
      go_wp2
      go_ret2
      exact ⟨HP.out, by rw [hO]; exact hB.out⟩
end Go.Proofs.Ytahmeejcgddlhab
