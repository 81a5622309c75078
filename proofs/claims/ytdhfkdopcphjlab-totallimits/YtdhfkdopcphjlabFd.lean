/-
  The contracts of Kept, of the code and of the document: the sum with what was lost. Conditions: the floats' bits fit; the list is not too long.
-/
import Derived.Test.YtdhfkdopcphjlabFc
import Derived.OwnWalk
namespace Go.Proofs.Ytdhfkdopcphjlab
open Go.RowKit
/-- A number more: the sum, what was lost. -/
def kSt (p : Option Nat × Option Nat) (b : Nat) : Option Nat × Option Nat :=
  (fop .add p.1 (inj b), if geO p.1 (inj b) = true then fop .add p.2 (fop .add (fop .sub p.1 (fop .add p.1 (inj b))) (inj b)) else fop .add p.2 (fop .add (fop .sub (inj b) (fop .add p.1 (inj b))) p.1))
def kAll (bs : List Nat) : Option Nat × Option Nat := bs.foldl kSt (some 0, some 0)
theorem kAll_snoc (bs : List Nat) (b : Nat) : kAll (bs ++ [b]) = kSt (kAll bs) b := by unfold kAll; rw [List.foldl_append]; rfl
theorem is_zero : Is 0 (some 0) := ⟨rfl, by decide +kernel, by decide⟩
set_option maxRecDepth 100000 in
set_option maxHeartbeats 1000000 in
theorem kept_any (bs : List Nat) (v : Value) (w : World) (hb : ∀ b ∈ bs, b < 18446744073709551616) (hl : bs.length ≤ 65536) (hr : Rd w v (flt bs)) : Calls Try.prog 13 #[v] w fun e w' => ∃ r s, e = .returned (.tuple #[.float .f64 r, .float .f64 s, .int .i64 0]) ∧ Is r (fop .add (kAll bs).1 (kAll bs).2) ∧ Is s (kAll bs).2 ∧ Alike w w' := by
  obtain ⟨a0, c0, rfl, h0⟩ := hr
  rw [flt_len] at h0 ⊢
  have hl2 : (bs.length : Int) ≤ 65536 := by omega
  replace h0 : Hid (0 < bs.length → ∃ g off, a0 = some ⟨g, off, none⟩ ∧ ∀ j, j < bs.length → w.cell? ⟨g, off + j, none⟩ = some ((flt bs).getD j undef)) := h0
  replace hb : Hid (∀ b ∈ bs, b < 18446744073709551616) := hb
  go_enter Try.func13, Try.ntmps13
  go_wp2_with fail
  go_loopw [5, 6, 15] (fun u v x wr => ∃ k s l : Nat, k ≤ bs.length ∧ x = .int .i64 (k : Int) ∧ u = .float .f64 s ∧ v = .float .f64 l ∧ Hid (Is s (kAll (bs.take k)).1) ∧ Hid (Is l (kAll (bs.take k)).2) ∧ Hid (Alike w wr)) (fun _ _ x _ => bs.length - (intOf x).toNat)
  case atStart => exact ⟨0, 0, 0, by omega, rfl, rfl, rfl, is_zero, is_zero, Alike.refl _⟩
  case round =>
    obtain ⟨k, s, l, hk, rfl, rfl, rfl, hS, hL, hA⟩ := hrel
    by_cases ck : k < bs.length
    · have k2 : (k : Int) < (bs.length : Int) := by omega
      obtain ⟨g, off, rfl, hd⟩ := h0.out (by omega)
      have hc := hd k ck
      rw [flt_get bs k ck] at hc
      have hc2 : wr.cell? ⟨g, off + k, none⟩ = some (.float .f64 (bs.getD k 0)) := (hA.out.cell _).trans hc
      have HT : Hid (bs.take (k + 1) = bs.take k ++ [bs.getD k 0]) := take_snoc bs k ck
      have hx : Hid (bs.getD k 0 < 18446744073709551616) := getD_lt hb.out k ck
      clear hc hd h0
      generalize bs.getD k 0 = x at *
      have hI : Hid (Is x (inj x)) := is_inj hx.out
      go_wp2_with (refine wpList_flt rfl .add .f64 _ _ _ _ rfl rfl _ _ rfl rfl ?_)
      intro r1 w1 f1 a1
      have i1 : Hid (Is r1 (fop .add (kAll (bs.take k)).1 (inj x))) := hS.out.op hI.out f1.out
      go_wp2_with fail
      refine (abs_any s _ hS.out.lt).mono ?_
      rintro e w2 ⟨p, rfl, hp, rfl⟩
      replace hp : Hid (Sz p s) := hp
      go_wp2_with fail
      refine (abs_any x _ hx.out).mono ?_
      rintro e w2 ⟨q, rfl, hq, rfl⟩
      replace hq : Hid (Sz q x) := hq
      have hkt : Hid (kAll (bs.take (k + 1)) = kSt (kAll (bs.take k)) x) := show _ = _ by rw [HT.out, kAll_snoc]
      rcases ge_order hS.out hI.out hp.out hq.out with ⟨ho, hg⟩ | ⟨ho, hg⟩ | ⟨ho, hg⟩ | ⟨ho, hg⟩
      · replace hg : Hid (geO (kAll (bs.take k)).1 (inj x) = false) := hg
        go_wp2_with (refine wpList_flt rfl .sub .f64 _ _ _ _ rfl rfl _ _ rfl rfl ?_)
        intro r3 w3 f3 a3
        go_wp2_with (refine wpList_flt rfl .add .f64 _ _ _ _ rfl rfl _ _ rfl rfl ?_)
        intro r4 w4 f4 a4
        go_wp2_with (refine wpList_flt rfl .add .f64 _ _ _ _ rfl rfl _ _ rfl rfl ?_)
        intro r5 w5 f5 a5
        go_wp2
        have i3 := hI.out.op i1.out f3.out
        have i4 := i3.op hS.out f4.out
        have i5 := hL.out.op i4 f5.out
        refine ⟨⟨k + 1, r1, r5, by omega, by go_num, rfl, rfl, ?_, ?_, hA.out.trans (a1.out.trans (a3.out.trans (a4.out.trans a5.out)))⟩, by simp [intOf]; omega⟩
        · rw [hkt.out]; exact i1.out
        · rw [hkt.out]; unfold kSt; dsimp only; rw [hg.out]; exact i5
      · replace hg : Hid (geO (kAll (bs.take k)).1 (inj x) = false) := hg
        go_wp2_with (refine wpList_flt rfl .sub .f64 _ _ _ _ rfl rfl _ _ rfl rfl ?_)
        intro r3 w3 f3 a3
        go_wp2_with (refine wpList_flt rfl .add .f64 _ _ _ _ rfl rfl _ _ rfl rfl ?_)
        intro r4 w4 f4 a4
        go_wp2_with (refine wpList_flt rfl .add .f64 _ _ _ _ rfl rfl _ _ rfl rfl ?_)
        intro r5 w5 f5 a5
        go_wp2
        have i3 := hI.out.op i1.out f3.out
        have i4 := i3.op hS.out f4.out
        have i5 := hL.out.op i4 f5.out
        refine ⟨⟨k + 1, r1, r5, by omega, by go_num, rfl, rfl, ?_, ?_, hA.out.trans (a1.out.trans (a3.out.trans (a4.out.trans a5.out)))⟩, by simp [intOf]; omega⟩
        · rw [hkt.out]; exact i1.out
        · rw [hkt.out]; unfold kSt; dsimp only; rw [hg.out]; exact i5
      · replace hg : Hid (geO (kAll (bs.take k)).1 (inj x) = true) := hg
        go_wp2_with (refine wpList_flt rfl .sub .f64 _ _ _ _ rfl rfl _ _ rfl rfl ?_)
        intro r3 w3 f3 a3
        go_wp2_with (refine wpList_flt rfl .add .f64 _ _ _ _ rfl rfl _ _ rfl rfl ?_)
        intro r4 w4 f4 a4
        go_wp2_with (refine wpList_flt rfl .add .f64 _ _ _ _ rfl rfl _ _ rfl rfl ?_)
        intro r5 w5 f5 a5
        go_wp2
        have i3 := hS.out.op i1.out f3.out
        have i4 := i3.op hI.out f4.out
        have i5 := hL.out.op i4 f5.out
        refine ⟨⟨k + 1, r1, r5, by omega, by go_num, rfl, rfl, ?_, ?_, hA.out.trans (a1.out.trans (a3.out.trans (a4.out.trans a5.out)))⟩, by simp [intOf]; omega⟩
        · rw [hkt.out]; exact i1.out
        · rw [hkt.out]; unfold kSt; dsimp only; rw [hg.out]; exact i5
      · replace hg : Hid (geO (kAll (bs.take k)).1 (inj x) = true) := hg
        go_wp2_with (refine wpList_flt rfl .sub .f64 _ _ _ _ rfl rfl _ _ rfl rfl ?_)
        intro r3 w3 f3 a3
        go_wp2_with (refine wpList_flt rfl .add .f64 _ _ _ _ rfl rfl _ _ rfl rfl ?_)
        intro r4 w4 f4 a4
        go_wp2_with (refine wpList_flt rfl .add .f64 _ _ _ _ rfl rfl _ _ rfl rfl ?_)
        intro r5 w5 f5 a5
        go_wp2
        have i3 := hS.out.op i1.out f3.out
        have i4 := i3.op hI.out f4.out
        have i5 := hL.out.op i4 f5.out
        refine ⟨⟨k + 1, r1, r5, by omega, by go_num, rfl, rfl, ?_, ?_, hA.out.trans (a1.out.trans (a3.out.trans (a4.out.trans a5.out)))⟩, by simp [intOf]; omega⟩
        · rw [hkt.out]; exact i1.out
        · rw [hkt.out]; unfold kSt; dsimp only; rw [hg.out]; exact i5
    · have k2 : ¬ (k : Int) < (bs.length : Int) := by omega
      have e : k = bs.length := by omega
      rw [e, List.take_length] at hS hL
      clear e h0
      go_wp2_with (refine wpList_flt rfl .add .f64 _ _ _ _ rfl rfl _ _ rfl rfl ?_)
      intro r1 w1 f1 a1
      go_wp2
      refine bodyPost_ret (results_tmp3 rfl _ _ _) rfl ?_
      exact ⟨_, _, rfl, hS.out.op hL.out f1.out, hL.out, hA.out.trans a1.out⟩
end Go.Proofs.Ytdhfkdopcphjlab
