/-
  The document's Encode.
-/
import Derived.Test.YtahmeejcgddlhaaRg
import Derived.Deep.DeepMust
namespace Go.Proofs.Ytahmeejcgddlhaa
open Go.RowKit
set_option maxRecDepth 100000 in
set_option maxHeartbeats 4000000 in
theorem rEncode_any (zs os : List Int) (v : Value) (w : World) (hz : zs.length < 1048577) (h : Rds .i32 w v zs) (hS : SrtL (KZ zs) (osL usual zs zs.length) os) : Calls Try.prog 11 #[v] w fun e w' => rnA zs os e ∧ Below w.heap.size w w' := by
  have HD : Hid (Rds .i32 w v zs) := h
  have HZ : Hid (zs.length < 1048577) := hz
  have HS : Hid (SrtL (KZ zs) (osL usual zs zs.length) os) := hS
  obtain ⟨AA, CC, rfl, -⟩ := h
  have hB0 : Hid (Below w.heap.size w (w.alloc (.cells #[] 5))) := (Below.refl _ w).alloc (Nat.le_refl _) _
  have hE0 : Hid (Rw .u8 5 w.heap.size (w.alloc (.cells #[] 5)) (.slice (some ⟨w.heap.size, 0, none⟩) 0 0) []) := ⟨rfl, .inr ⟨_, _, _, rfl, Nat.le_refl _, heap_new _ _, by simp, by decide, rfl, rfl⟩⟩
  obtain ⟨O, hO⟩ : ∃ O, w.heap.size = O := ⟨_, rfl⟩
  rw [hO] at hB0 hE0 ⊢
  have HO : Hid (O = w.heap.size) := hO.symm
  clear hz hS
  have hN : ∀ (h0 : ¬ 0 ≤ ixF (fun n => !isSc n) zs zs.length 0) (F : Option (List Int)), F = (encU usual zs os 128 0 72 (bsL usual zs zs.length).length (mkB usual zs zs.length) true).map (outL usual zs ++ ·) → F = none → ∀ w', Below O w w' → rnA zs os (.returned (.tuple #[.string ⟨#[]⟩, .int .i64 0, .int .i64 142])) ∧ Below O w w' := fun h0 F hF hn w' hb => by
    refine ⟨?_, hb⟩
    unfold rnA
    rw [if_neg h0]
    rw [hF] at hn
    cases he : encU usual zs os 128 0 72 (bsL usual zs zs.length).length (mkB usual zs zs.length) true with
    | none => rfl
    | some D => rw [he] at hn; simp at hn
  have hK : ∀ (h0 : ¬ 0 ≤ ixF (fun n => !isSc n) zs zs.length 0) (F : Option (List Int)), F = (encU usual zs os 128 0 72 (bsL usual zs zs.length).length (mkB usual zs zs.length) true).map (outL usual zs ++ ·) → ∀ D a w' v', F = some D → Rw .u8 5 O w' v' D → D.length ≤ 67000000 → Below O w w' → At 161 [(5, v')] a → Code.wp Try.prog (sq 7 body11) (bodyPost Try.prog Try.f11 fun e w' => rnA zs os e ∧ Below O w w') a w' := fun h0 F hF D a w' v' hD hR hl hb ha => by
    cases he : encU usual zs os 128 0 72 (bsL usual zs zs.length).length (mkB usual zs zs.length) true with
    | none => rw [he] at hF; rw [hF] at hD; simp at hD
    | some D0 =>
      rw [he] at hF
      rw [hF] at hD
      have e : D = txL usual (bsL usual zs zs.length) D0 := by show D = outL usual zs ++ D0; simpa using hD.symm
      subst e
      exact renc_end zs os D0 O v' a w w' h0 he hR hl hb (by have := hb.size; omega) ha
  have hM : ∀ (h0 : ¬ 0 ≤ ixF (fun n => !isSc n) zs zs.length 0) (w1 : World) (v0 : Value) (a : Act), Rw .u8 5 O w1 v0 (outL usual zs) → Below O w w1 → At 161 [(0, .slice AA zs.length CC), (5, v0), (8, .int .i64 ((bsL usual zs zs.length).length : Int)), (9, .int .i64 128), (10, .int .i64 0), (11, .int .i64 72), (12, .int .i64 ((bsL usual zs zs.length).length : Int))] a → Code.wp Try.prog (sq 6 body11) (bodyPost Try.prog Try.f11 fun e w' => rnA zs os e ∧ Below O w w') a w1 := fun h0 w1 v0 a hR hb ha =>
    renc_main zs os _ _ O AA CC v0 (outL usual zs) (fun e w' => rnA zs os e ∧ Below O w w') a w w1 HZ HD HO (fun j hj => isSc_ok (by have := ixF_none (fun n => !isSc n) zs zs.length 0 (by omega) j (Nat.zero_le _) (by omega); simpa using this)) hb ⟨_, wki_start zs os O w1 v0 HS.out hR⟩ (hN h0 _ rfl) (hK h0 _ rfl) ha
  replace hM : Hid (∀ (h0 : ¬ 0 ≤ ixF (fun n => !isSc n) zs zs.length 0) (w1 : World) (v0 : Value) (a : Act), Rw .u8 5 O w1 v0 (outL usual zs) → Below O w w1 → At 161 [(0, .slice AA zs.length CC), (5, v0), (8, .int .i64 ((bsL usual zs zs.length).length : Int)), (9, .int .i64 128), (10, .int .i64 0), (11, .int .i64 72), (12, .int .i64 ((bsL usual zs zs.length).length : Int))] a → Code.wp Try.prog (sq 6 body11) (bodyPost Try.prog Try.f11 fun e w' => rnA zs os e ∧ Below O w w') a w1) := hM
  have hBad : Hid (∀ r : Int, ixF (fun n => !isSc n) zs zs.length 0 = r → 0 ≤ r → rnA zs os (.returned (.tuple #[.string ⟨#[]⟩, .int .i64 r, .int .i64 20]))) := fun r hr h0 => by unfold rnA; rw [if_pos (by omega), hr]
  clear hN hK
  have zl9 : (zs.length : Int) ≤ 9007199254740992 := by have := HZ.out; omega
  go_enter Try.func11, Try.ntmps11
  change Code.wp _ (Code.seq (hd (sq 0 body11)) (Code.seq (hd (sq 1 body11)) (Code.seq (hd (sq 2 body11)) (Code.seq (hd (sq 3 body11)) (Code.seq (hd (sq 4 body11)) (Code.seq (hd (sq 5 body11)) (sq 6 body11))))))) _ _ _
  generalize sq 6 body11 = REST at hM ⊢
  conv => arg 2; arg 1; whnf
  conv => arg 2; arg 2; arg 1; whnf
  conv => arg 2; arg 2; arg 2; arg 1; whnf
  conv => arg 2; arg 2; arg 2; arg 2; arg 1; whnf
  conv => arg 2; arg 2; arg 2; arg 2; arg 2; arg 1; whnf
  conv => arg 2; arg 2; arg 2; arg 2; arg 2; arg 2; arg 1; whnf
  go_wp2
  generalize w.alloc (.cells #[] 5) = W1 at *
  clear hO
  go_loopw [5, 27] (fun v5 x27 wr => ∃ k : Nat, x27 = .int .i64 (k : Int) ∧ k ≤ zs.length ∧ Hid (ixF (fun n => !isSc n) zs zs.length 0 = ixF (fun n => !isSc n) zs (zs.length - k) k) ∧ Hid (∀ jj, jj < k → isSc (zs.getD jj 0) = true) ∧ Hid (Rw .u8 5 O wr v5 (bsL usual zs k)) ∧ Hid (Below O w wr)) (fun _ x27 _ => zs.length - (RowKit.intOf x27).toNat)
  case atStart => exact ⟨0, rfl, Nat.zero_le _, rfl, fun jj hjj => by omega, hE0.out, hB0⟩
  case round =>
    clear hE0 hB0
    obtain ⟨k, rfl, hk, hix, hsc, hR, hB⟩ := hrel
    obtain ⟨V, hV⟩ : ∃ V, u5 = V := ⟨_, rfl⟩
    rw [hV] at hR ⊢
    clear hV
    by_cases c : k < zs.length
    · have c1 : (k : Int) < (zs.length : Int) := by omega
      have c2 : decide ((k : Int) < (zs.length : Int)) = true := decide_eq_true c1
      have hRd := HD.out.below (HO.out ▸ hB.out)
      obtain ⟨a1, cc1, e1, hcell⟩ := hRd
      cases e1
      obtain ⟨gz, off, rfl, hcell2⟩ := hcell (by omega)
      have y1 := hcell2 k c
      have hst := ixF_step (fun n => !isSc n) zs k c
      rw [← hix.out] at hst
      obtain ⟨Z, hZ⟩ : ∃ Z, zs.getD k 0 = Z := ⟨_, rfl⟩
      have k9 : (k : Int) ≤ 9007199254740992 := by omega
      have k24 := fun w => rscalar_any Z w
      clear hcell hcell2
      cases hq : isSc Z with
      | false =>
        rw [hZ, hq] at hst
        have HE := hBad.out (k : Int) (by simpa using hst) (by omega)
        replace HE : Hid (rnA zs os (.returned (.tuple #[.string ⟨#[]⟩, .int .i64 (k : Int), .int .i64 20]))) := HE
        rw [hZ] at y1
        rw [hq] at k24
        clear hst hix hsc hR hZ
        go_wp2_with (go_at_call 24; refine (k24 _).mono ?_; rintro e w' ⟨rfl, hw⟩; rw [hw]; clear hw)
        go_ret3
        exact ⟨HE.out, hB.out⟩
      | true =>
        rw [hZ, hq] at hst
        rw [hZ] at y1
        rw [hq] at k24
        have hz0 := isSc_ok hq
        have HX : Hid (ixF (fun n => !isSc n) zs zs.length 0 = ixF (fun n => !isSc n) zs (zs.length - (k + 1)) (k + 1)) := by show _ = _; simpa using hst
        have HX2 : Hid (∀ jj, jj < k + 1 → isSc (zs.getD jj 0) = true) := fun jj hjj => by
          by_cases e : jj = k
          · subst e; rw [hZ]; exact hq
          · exact hsc.out jj (by omega)
        have z0 := hz0.1
        have z1 := hz0.2.1
        clear hst hix hsc hz0
        by_cases d : Z < 128
        · have d2 : decide (Z < 128) = true := decide_eq_true d
          have hb1 : isB usual (zs.getD k 0) = true := by rw [hZ]; unfold isB; rw [show usual.first = 128 from rfl, d2]; rfl
          have hbs := bsL_yes usual zs k c hb1
          rw [hZ] at hbs
          have hal : (bsL usual zs k).length < 1000000000 := by have := bsL_len usual zs k; have := HZ.out; omega
          have hOz : O ≤ wr.heap.size := by have := hB.out.size; have := HO.out; omega
          have zw : IntKind.u8.wrap Z = Z := IntWalk.u8_in _ ⟨by omega, by omega⟩
          replace hbs : Hid (bsL usual zs (k + 1) = bsL usual zs k ++ [Z]) := hbs
          obtain ⟨BL, hBL⟩ : ∃ BL, bsL usual zs k = BL := ⟨_, rfl⟩
          rw [hBL] at hR hal hbs
          clear hBL hb1 d hZ hq
          go_wp2_with (first | (go_at_call 24; refine (k24 _).mono ?_; rintro e w' ⟨rfl, hw⟩; rw [hw]; clear hw) | (at_builtin; go_must (refine wpList_app1 rfl _ _ 36 rfl O 5 .u8 1 Try.underlying36 info5 (by decide) V BL Z rfl hR.out rfl hal hOz ?_)))
          intro v' w3 hR3 _ hB3
          have HY : Hid (Hid (Rw .u8 5 O w3 v' (bsL usual zs (k + 1))) ∧ Hid (Below O w w3)) := ⟨by rw [hbs.out]; exact hR3.out, hB.out.trans hB3.out⟩
          clear hR hB hR3 hB3 hbs hal hOz
          go_wp2
          refine ⟨⟨k + 1, by simp, by omega, HX, HX2, HY.out.1, HY.out.2⟩, ?_⟩
          simp [RowKit.intOf]; omega
        · have d2 : decide (Z < 128) = false := decide_eq_false d
          have hb1 : isB usual (zs.getD k 0) = false := by rw [hZ]; unfold isB; rw [d2]; simp
          have hbs := bsL_no usual zs k c hb1
          have HY : Hid (Rw .u8 5 O wr V (bsL usual zs (k + 1))) := by rw [hbs]; exact hR
          clear hR hbs hb1 d hZ hq
          go_wp2_with (go_at_call 24; refine (k24 _).mono ?_; rintro e w' ⟨rfl, hw⟩; rw [hw]; clear hw)
          refine ⟨⟨k + 1, by simp, by omega, HX, HX2, HY, hB⟩, ?_⟩
          simp [RowKit.intOf]; omega
    · obtain rfl : k = zs.length := by omega
      have c2 : decide ((zs.length : Int) < (zs.length : Int)) = false := by simp
      have h0 : ¬ 0 ≤ ixF (fun n => !isSc n) zs zs.length 0 := by rw [hix.out, Nat.sub_self, ixF]; decide
      have HM := fun w1 v0 a => hM.out (by have := h0; omega) w1 v0 a
      have hbl := bsL_len usual zs zs.length
      have hol : Hid (outL usual zs = if bsL usual zs zs.length = [] then [] else bsL usual zs zs.length ++ [45]) := rfl
      obtain ⟨BL, hBL⟩ : ∃ BL, bsL usual zs zs.length = BL := ⟨_, rfl⟩
      obtain ⟨OL, hOL⟩ : ∃ OL, outL usual zs = OL := ⟨_, rfl⟩
      simp only [hBL, hOL] at HM hR hbl hol
      have hal : BL.length < 1000000000 := by have := HZ.out; omega
      have hOz : O ≤ wr.heap.size := by have := hB.out.size; have := HO.out; omega
      obtain ⟨av, cv, hvv, -⟩ := owns_slice hR.out
      subst hvv
      have bl9 : (BL.length : Int) ≤ 9007199254740992 := by have := HZ.out; omega
      replace HM : Hid (∀ (w1 : World) (v0 : Value) (a : Act), Rw .u8 5 O w1 v0 OL → Below O w w1 → At 161 [(0, .slice AA zs.length CC), (5, v0), (8, .int .i64 (BL.length : Int)), (9, .int .i64 128), (10, .int .i64 0), (11, .int .i64 72), (12, .int .i64 (BL.length : Int))] a → Code.wp Try.prog REST (bodyPost Try.prog Try.f11 fun e w' => rnA zs os e ∧ Below O w w') a w1) := HM
      clear hM hBad h0 hix hsc hBL hOL hbl hk c
      by_cases d : BL = []
      · have d2 : decide (0 < BL.length) = false := by subst d; rfl
        have HR0 : Hid (Rw .u8 5 O wr (.slice av BL.length cv) OL) := by rw [hol.out, if_pos d, ← d]; exact hR
        clear hR hol d
        go_wp2
        exact HM.out wr _ _ HR0.out hB.out ⟨rfl, rfl, rfl, rfl, rfl, rfl, rfl, rfl, rfl, trivial⟩
      · have d2 : decide (0 < BL.length) = true := decide_eq_true (List.length_pos_iff.2 d)
        have HX : Hid (OL = BL ++ [45]) := by show _ = _; rw [hol.out, if_neg d]
        clear hol d
        go_wp2_with (at_builtin; go_must (refine wpList_app1 rfl _ _ 36 rfl O 5 .u8 1 Try.underlying36 info5 (by decide) (.slice av BL.length cv) BL 45 rfl hR.out rfl hal hOz ?_))
        intro v' w3 hR3 _ hB3
        have HR0 : Hid (Rw .u8 5 O w3 v' OL) := by rw [HX.out]; exact hR3
        have HB0 : Hid (Below O w w3) := hB.out.trans hB3.out
        clear hR hB hR3 hB3 HX hal hOz
        go_wp2
        exact HM.out w3 v' _ HR0.out HB0.out ⟨rfl, rfl, rfl, rfl, rfl, rfl, rfl, rfl, rfl, trivial⟩
end Go.Proofs.Ytahmeejcgddlhaa
