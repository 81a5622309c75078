/-
  Any parameters: the document's DecodeBy, its beginning.
-/
import Derived.Test.YtahmeejcgddlhabSi
import Derived.Test.YtahmeejcgddlhabCm
import Derived.Test.YtahmeejcgddlhabPn
import Derived.Deep.DeepMust
namespace Go.Proofs.Ytahmeejcgddlhab
open Go.RowKit
theorem run_cvr (w : World) (Y : Nat) (h : Y < 256) (t : Nat) (o : Oper) (ho : o.op = .convert 5 21 (.tmp t)) : (execOp (rho [(t, .int .u8 (Y : Int))]) o).run Try.prog w = .ok (.value (.int .i32 (Y : Int))) w := by
  have e : IntKind.i32.wrap (Y : Int) = (Y : Int) := IntWalk.i32_in _ ⟨by omega, by omega⟩
  unfold execOp
  simp [ho, rho, go_sem, e]
set_option maxRecDepth 100000 in
set_option maxHeartbeats 8000000 in
theorem rdecodeBy_ok (p : Bt) (hp : Okb p) (s : ByteArray) (W1 : World) (Bx O : Nat) (P : Ending → World → Prop) (a : Act) (w1 : World) (HS : Hid (s.size < 9000000000000)) (HO : Hid (O = W1.heap.size)) (HBX : Hid (W1.heap[Bx]? = some (.cells (bv p) 29))) (hB : Hid (Below O W1 w1))
    (HPE : Hid (∀ at_ code w', decS p s = .inl (at_, code) → Below O W1 w' → P (.returned (.tuple #[.slice none 0 0, .int .i64 (at_ : Int), .int .i64 code])) w'))
    (HPK : Hid (∀ L v w', decS p s = .inr L → Rw .i32 21 O w' v L → Below O W1 w' → P (.returned (.tuple #[v, .int .i64 0, .int .i64 0])) w'))
    (ha : At 173 [(1, .string s), (2, .pointer (some ⟨Bx, 0, none⟩))] a) : Code.wp Try.prog (sq 2 body13) (bodyPost Try.prog Try.f13 P) a w1 := by
  obtain ⟨F, hF⟩ : ∃ F, Hid (decS p s = F) := ⟨_, rfl⟩
  rw [hF.out] at HPE HPK
  have hM : Hid (∀ (R : Nat) (v0 : Value) (L0 : List Int) (a : Act) (w1 : World), R ≤ s.size → L0.length ≤ R → F = finJ L0 (rdL p s (s.size - R) R p.first 0 p.bias L0.length) → Rw .i32 21 O w1 v0 L0 → Below O W1 w1 → At 173 [(1, .string s), (2, .pointer (some ⟨Bx, 0, none⟩)), (7, .int .i64 (R : Int)), (9, v0), (11, .int .i64 p.first), (12, .int .i64 0), (13, .int .i64 p.bias)] a → Code.wp Try.prog (sq 8 body13) (bodyPost Try.prog Try.f13 P) a w1) := fun R v0 L0 a w1 h1 h2 h3 h4 h5 h6 =>
    rdecB_main p hp s F R Bx O L0 v0 P a W1 w1 HS h1 h2 HO HBX h3 h4 h5 HPE HPK h6
  obtain ⟨f, rfl, h1, h2, -⟩ := ha.lit
  change Code.wp _ _ _ ⟨#[f 0, f 1, f 2, f 3, f 4, f 5, f 6, f 7, f 8, f 9, f 10, f 11, f 12, f 13, f 14, f 15, f 16, f 17, f 18, f 19, f 20, f 21, f 22, f 23, f 24, f 25, f 26, f 27, f 28, f 29, f 30, f 31, f 32, f 33, f 34, f 35, f 36, f 37, f 38, f 39, f 40, f 41, f 42, f 43, f 44, f 45, f 46, f 47, f 48, f 49, f 50, f 51, f 52, f 53, f 54, f 55, f 56, f 57, f 58, f 59, f 60, f 61, f 62, f 63, f 64, f 65, f 66, f 67, f 68, f 69, f 70, f 71, f 72, f 73, f 74, f 75, f 76, f 77, f 78, f 79, f 80, f 81, f 82, f 83, f 84, f 85, f 86, f 87, f 88, f 89, f 90, f 91, f 92, f 93, f 94, f 95, f 96, f 97, f 98, f 99, f 100, f 101, f 102, f 103, f 104, f 105, f 106, f 107, f 108, f 109, f 110, f 111, f 112, f 113, f 114, f 115, f 116, f 117, f 118, f 119, f 120, f 121, f 122, f 123, f 124, f 125, f 126, f 127, f 128, f 129, f 130, f 131, f 132, f 133, f 134, f 135, f 136, f 137, f 138, f 139, f 140, f 141, f 142, f 143, f 144, f 145, f 146, f 147, f 148, f 149, f 150, f 151, f 152, f 153, f 154, f 155, f 156, f 157, f 158, f 159, f 160, f 161, f 162, f 163, f 164, f 165, f 166, f 167, f 168, f 169, f 170, f 171, f 172], []⟩ _
  simp only at h1 h2
  simp only [h1, h2]
  clear h1 h2
  change Code.wp _ (Code.seq (hd (sq 2 body13)) (Code.seq (hd (sq 3 body13)) (Code.seq (hd (sq 4 body13)) (Code.seq (hd (sq 5 body13)) (Code.seq (hd (sq 6 body13)) (Code.seq (hd (sq 7 body13)) (sq 8 body13))))))) _ _ _
  generalize sq 8 body13 = REST at hM ⊢
  conv => arg 2; arg 1; whnf
  conv => arg 2; arg 2; arg 1; whnf
  conv => arg 2; arg 2; arg 2; arg 1; whnf
  conv => arg 2; arg 2; arg 2; arg 2; arg 1; whnf
  conv => arg 2; arg 2; arg 2; arg 2; arg 2; arg 1; whnf
  conv => arg 2; arg 2; arg 2; arg 2; arg 2; arg 2; arg 1; whnf
  have s9 : (s.size : Int) ≤ 9007199254740992 := by have := HS.out; omega
  go_wp2
  go_loopw [7, 8] (fun y x wr => ∃ k : Nat, x = .int .i64 (k : Int) ∧ y = .int .i64 ((lix s p.btw k).toNat : Int) ∧ k ≤ s.size ∧ Hid (Below O W1 wr)) (fun _ x _ => s.size - (RowKit.intOf x).toNat)
  case atStart => exact ⟨0, rfl, rfl, Nat.zero_le _, hB⟩
  case round =>
    clear hB
    obtain ⟨wo, hwo⟩ : ∃ wo, wr = wo := ⟨_, rfl⟩
    rw [hwo] at hrel ⊢
    clear hwo
    obtain ⟨k, rfl, rfl, hk, HB⟩ := hrel
    by_cases c : k < s.size
    · have c1 : (k : Int) < (s.size : Int) := by omega
      have c2 : decide ((k : Int) < (s.size : Int)) = true := decide_eq_true c1
      have q0 : (s[k]'c).toNat = byt s k := byt_eq s k c
      have k9 : (k : Int) ≤ 9007199254740992 := by omega
      have hx : lix s p.btw (k + 1) = if (byt s k : Int) = p.btw then (k : Int) else lix s p.btw k := rfl
      have hl := (lix_bound s p.btw k).1
      have a7 := box_cell (box_at HBX.out HO.out HB.out) 7 (.int .u8 p.btw) rfl
      by_cases d : (byt s k : Int) = p.btw
      · rw [if_pos d] at hx
        have d2 : ((byt s k : Int) == p.btw) = true := by simpa using d
        have HX : Hid ((k : Int) = ((lix s p.btw (k + 1)).toNat : Int)) := by show _ = _; rw [hx]; omega
        clear hx hl d
        generalize byt s k = Y at *
        generalize lix s p.btw k = Z at *
        go_wp2
        go_quiet (fail)
        go_wp2
        refine ⟨⟨k + 1, by simp, by rw [← HX.out], by omega, below_drewN HB.out _⟩, ?_⟩
        simp [RowKit.intOf]; omega
      · rw [if_neg d] at hx
        have d2 : ((byt s k : Int) == p.btw) = false := by simpa using d
        have HX : Hid (((lix s p.btw k).toNat : Int) = ((lix s p.btw (k + 1)).toNat : Int)) := by show _ = _; rw [hx]
        clear hx hl d
        generalize byt s k = Y at *
        generalize lix s p.btw k = Z at *
        go_wp2
        go_quiet (fail)
        go_wp2
        refine ⟨⟨k + 1, by simp, by rw [← HX.out], by omega, below_drewN HB.out _⟩, ?_⟩
        simp [RowKit.intOf]; omega
    · obtain rfl : k = s.size := by omega
      have c2 : decide ((s.size : Int) < (s.size : Int)) = false := by simp
      have hH : (lix s p.btw s.size).toNat = hdN p s := rfl
      have hhd := hdN_lt p s
      have hfr := frN_le p s
      have hfe : frN p s = if 0 < hdN p s then hdN p s + 1 else 0 := rfl
      have hdS := decS_fin p s
      have hdB : ∀ k, fbF p s (hdN p s) 0 = some k → decS p s = .inl (k, 141) := fun k h => by unfold decS; rw [h]
      rw [hH]
      simp only [hF.out] at hdS hdB
      obtain ⟨H, hHH⟩ : ∃ H, hdN p s = H := ⟨_, rfl⟩
      obtain ⟨R, hRR⟩ : ∃ R, frN p s = R := ⟨_, rfl⟩
      simp only [hHH, hRR] at hhd hfr hfe hdS hdB ⊢
      replace hdS : Hid (fbF p s H 0 = none → F = finJ (ahd s H) (rdL p s (s.size - R) R p.first 0 p.bias H)) := hdS
      replace hdB : Hid (∀ k, fbF p s H 0 = some k → F = .inl (k, 141)) := hdB
      have HH : Hid (H ≤ s.size ∧ R ≤ s.size ∧ H ≤ R ∧ (0 < H → R = H + 1) ∧ (¬ 0 < H → R = 0)) := ⟨hhd.1, hfr.1, hfr.2, fun q => by rw [hfe, if_pos q], fun q => by rw [hfe, if_neg q]⟩
      have hOw : Hid (O ≤ wo.heap.size) := by have := HB.out.size; have := HO.out; show _ ≤ _; omega
      have hE0 : Hid (Rw .i32 21 O (wo.alloc (.cells #[] 21)) (.slice (some ⟨wo.heap.size, 0, none⟩) 0 0) []) := ⟨rfl, .inr ⟨_, _, _, rfl, hOw.out, heap_new _ _, by simp, by decide, rfl, rfl⟩⟩
      have hB0 : Hid (Below O W1 (wo.alloc (.cells #[] 21))) := HB.out.alloc (by have := hOw.out; have := HO.out; omega) _
      clear hH hF hk hhd hfr hfe c HB hOw hHH hRR
      go_wp2
      generalize wo.alloc (.cells #[] 21) = wx at *
      go_loopw [9, 10] (fun v x wq => ∃ k : Nat, x = .int .i64 (k : Int) ∧ k ≤ H ∧ Hid (fbF p s H 0 = fbF p s (H - k) k) ∧ Hid (Rw .i32 21 O wq v (ahd s k)) ∧ Hid (Below O W1 wq)) (fun _ x _ => H - (RowKit.intOf x).toNat)
      case atStart => exact ⟨0, rfl, Nat.zero_le _, rfl, hE0.out, hB0⟩
      case round =>
        clear hE0 hB0
        obtain ⟨wy, hwy⟩ : ∃ wy, wr = wy := ⟨_, rfl⟩
        rw [hwy] at hrel ⊢
        clear hwy
        obtain ⟨k, rfl, hk, hfb, hRw, hB⟩ := hrel
        obtain ⟨V, hV⟩ : ∃ V, u9 = V := ⟨_, rfl⟩
        rw [hV] at hRw ⊢
        clear hV
        by_cases c : k < H
        · have c1 : (k : Int) < (H : Int) := by omega
          have c2 : decide ((k : Int) < (H : Int)) = true := decide_eq_true c1
          have hks : k < s.size := by have := HH.out; omega
          have q0 : (s[k]'hks).toNat = byt s k := byt_eq s k hks
          have q1 : (k : Int) < (s.size : Int) := by omega
          have k9 : (k : Int) ≤ 9007199254740992 := by have := HS.out; omega
          have hfx : fbF p s H 0 = if (byt s k : Int) < p.first ∧ (byt s k : Int) < 128 then fbF p s (H - (k + 1)) (k + 1) else some k := by
            rw [hfb.out, show H - k = (H - (k + 1)) + 1 by omega, fbF]
          have hsn := ahd_snoc s k
          have hy := byt_lt s k
          have hlen := ahd_len s k
          have kbb := fun w => rbasic_any p (byt s k : Int) w (by omega) (by omega)
          have hl : Hid (wy.heap[Bx]? = some (.cells (bv p) 29)) := box_at HBX.out HO.out hB.out
          have hOy : Hid (O ≤ wy.heap.size) := by have := hB.out.size; have := HO.out; show _ ≤ _; omega
          generalize byt s k = Y at *
          obtain ⟨B, hBB⟩ : ∃ B, isB p (Y : Int) = B := ⟨_, rfl⟩
          have hB2 : (decide ((Y : Int) < p.first) && decide ((Y : Int) < 128)) = B := hBB
          simp only [hBB] at kbb
          clear hBB
          go_wp2_with fail
          rename_i Q' K' hcont
          refine wp_region_vals (a1 := ?a1r8n1) (grown _) [.agg (bv p), .string s, .int .i64 (k : Int), .int .u8 (Y : Int), .int .i32 (Y : Int), .bool B, .bool (!B)] 173 rfl (by kernel_rfl) (by kernel_rfl) (grown_start _) ⟨?o0r8n1, ?o1r8n1, ?o2r8n1, ?o3r8n1, ?o4r8n1, ?o5r8n1, ?o6r8n1, trivial⟩ ?har8n1 ?hdoner8n1
          case har8n1 => simp [putAll, Act.put]; exact rfl
          case o0r8n1 => exact ValOp.pure (grown_steady _ 0) [(2, .pointer (some ⟨Bx, 0, none⟩))] rfl (fun _ _ h2 => ⟨(h2 2 (by kernel_rfl)).trans rfl, trivial⟩) (by kernel_rfl) (fun _ _ _ hg _ => run_read rfl rfl (run_loadVar_row _ _ _ _ _ _ _ (below_at hl.out hg) Try.underlying29 rfl (by kernel_rfl)))
          case o1r8n1 => exact ValOp.pure (grown_steady _ 1) [(1, .string s)] rfl (fun _ _ h2 => ⟨(h2 1 (by kernel_rfl)).trans rfl, trivial⟩) (by kernel_rfl) (fun _ _ _ _ _ => by kernel_rfl)
          case o2r8n1 => exact ValOp.pure (grown_steady _ 2) [(10, .int .i64 (k : Int))] rfl (fun _ _ h2 => ⟨(h2 10 (by kernel_rfl)).trans rfl, trivial⟩) (by kernel_rfl) (fun _ _ _ _ _ => by kernel_rfl)
          case o3r8n1 => exact ValOp.pure (grown_steady _ 3) [(44, .string s), (45, .int .i64 (k : Int))] rfl (fun _ h1 _ => ⟨h1 1 44 (by kernel_rfl), h1 2 45 (by kernel_rfl), trivial⟩) (by kernel_rfl) (fun _ _ _ hg _ => run_sidx hks q0 rfl rfl rfl)
          case o4r8n1 => exact ValOp.pure (grown_steady _ 4) [(46, .int .u8 (Y : Int))] rfl (fun _ h1 _ => ⟨h1 3 46 (by kernel_rfl), trivial⟩) (by kernel_rfl) (fun _ _ _ hg _ => run_cvr _ Y hy 46 _ rfl)
          case o5r8n1 => exact ValOp.call (grown_steady _ 5) [(43, .agg (bv p)), (47, .int .i32 (Y : Int))] rfl (fun _ h1 _ => ⟨h1 0 43 (by kernel_rfl), h1 4 47 (by kernel_rfl), trivial⟩) (by kernel_rfl) 22 #[.agg (bv p), .int .i32 (Y : Int)] (fun _ => by kernel_rfl) (fun _ w1 _ => kbb w1)
          case o6r8n1 => exact ValOp.pure (grown_steady _ 6) [(48, .bool B)] rfl (fun _ h1 _ => ⟨h1 5 48 (by kernel_rfl), trivial⟩) (by kernel_rfl) (fun _ _ _ _ _ => by kernel_rfl)
          intro w5 _ _ hb
          have hB5 : Hid (Below O W1 w5) := hB.out.trans (hb.mono hOy.out)
          have hR5 : Hid (Rw .i32 21 O w5 V (ahd s k)) := hRw.out.below hb
          refine hcont _ _ ?_
          cases hBv : B with
          | false =>
            rw [hBv] at hB2
            rw [if_neg (by simpa using hB2)] at hfx
            have HE : Hid (F = .inl (k, 141)) := hdB.out k hfx
            clear hfx hsn hRw hlen hB hb kbb hR5 hl hOy hdB hdS
            go_wp2
            go_ret3
            exact HPE.out k 141 _ HE.out hB5.out
          | true =>
            rw [hBv] at hB2
            rw [if_pos (by simpa using hB2)] at hfx
            have HE : Hid (fbF p s H 0 = fbF p s (H - (k + 1)) (k + 1)) := hfx
            have hi32 : IntKind.i32.wrap (Y : Int) = (Y : Int) := IntWalk.i32_in _ ⟨by omega, by omega⟩
            replace hsn : Hid (ahd s (k + 1) = ahd s k ++ [(Y : Int)]) := hsn
            obtain ⟨AL, hAL⟩ : ∃ AL, ahd s k = AL := ⟨_, rfl⟩
            rw [hAL] at hR5 hsn hlen
            have hlA : AL.length < 10000000000000 := by have := HS.out; omega
            have hbO : O ≤ w5.heap.size := by have := hB5.out.size; have := HO.out; omega
            clear hfx hy hlen hAL hRw hB hb kbb hl hOy hdB hdS hB2
            go_wp2_with (at_builtin; go_must (refine wpList_appL rfl _ _ 24 rfl O 21 .i32 4 Try.underlying24 info21 (by decide) V AL (Y : Int) rfl hR5.out rfl hlA hbO ?_))
            intro v' w6 hR6 _ hB6
            have HX : Hid (k + 1 ≤ H ∧ Hid (fbF p s H 0 = fbF p s (H - (k + 1)) (k + 1)) ∧ Hid (Rw .i32 21 O w6 v' (ahd s (k + 1))) ∧ Hid (Below O W1 w6)) := ⟨by omega, HE, by rw [hsn.out]; exact hR6, hB5.out.trans hB6.out⟩
            clear hB5 hR5 hR6 hB6 HE hsn hlA hbO
            go_wp2
            refine ⟨⟨k + 1, by simp, HX.out⟩, ?_⟩
            simp [RowKit.intOf]; omega
        · obtain rfl : k = H := by omega
          have c2 : decide ((k : Int) < (k : Int)) = false := by simp
          have hfN : fbF p s k 0 = none := by rw [hfb.out, Nat.sub_self, fbF]
          have HF : Hid (F = finJ (ahd s k) (rdL p s (s.size - R) R p.first 0 p.bias (ahd s k).length)) := by rw [ahd_len]; exact hdS.out hfN
          have hlen := ahd_len s k
          have hh := HH.out
          have a6 := box_cell (box_at HBX.out HO.out hB.out) 6 (.int .i64 p.first) rfl
          have a5 := box_cell (box_at HBX.out HO.out hB.out) 5 (.int .i64 p.bias) rfl
          have hk9 : (k : Int) ≤ 9007199254740992 := by have h1 := HS.out; omega
          have HLE : Hid ((ahd s k).length ≤ R) := by show _ ≤ _; omega
          by_cases d : 0 < k
          · have d2 : decide (0 < k) = true := decide_eq_true d
            have hRk : Hid ((R : Int) = (k : Int) + 1) := by have := hh.2.2.2.1 d; show _ = _; omega
            clear hfN hlen hh d
            go_wp2
            go_quiet (fail)
            go_wp2
            refine hM.out R V (ahd s k) _ _ HH.out.2.1 HLE.out HF.out (hRw.out.below (below_drewN (Below.refl _ _) _)) (below_drewN hB.out _) ⟨rfl, rfl, rfl, rfl, by rw [hRk.out]; rfl, rfl, rfl, rfl, rfl, trivial⟩
          · have d2 : decide (0 < k) = false := decide_eq_false d
            have hRk : Hid ((R : Int) = (k : Int)) := by have := hh.2.2.2.2 d; show _ = _; omega
            clear hfN hlen hh d
            go_wp2
            go_quiet (fail)
            go_wp2
            refine hM.out R V (ahd s k) _ _ HH.out.2.1 HLE.out HF.out (hRw.out.below (below_drewN (Below.refl _ _) _)) (below_drewN hB.out _) ⟨rfl, rfl, rfl, rfl, by rw [hRk.out]; rfl, rfl, rfl, rfl, rfl, trivial⟩
end Go.Proofs.Ytahmeejcgddlhab
