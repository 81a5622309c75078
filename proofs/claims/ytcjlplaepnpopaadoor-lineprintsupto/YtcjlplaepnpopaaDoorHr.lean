/-
  The law, but for its card.
-/
import Derived.Test.YtcjlplaepnpopaaDoorHp
import Derived.Test.YtcjlplaepnpopaaDoorAw
import Derived.LoopN
import Derived.IntWalk
import Derived.OwnWalk
import Derived.WalkSmall
import Derived.BigQuiet
import Derived.Deep.QuietTactic
import Derived.KernelRfl
import Derived.Laws.Cover4
namespace Go.Proofs.YtcjlplaepnpopaaDoor
open Go.RowKit
def few (N : Nat) (least most : Int) : Int := if (N : Int) < least ∨ most < (N : Int) then 94 else 0
set_option maxHeartbeats 1000000 in
theorem fieldsN_any (num : Int) (a : Option Addr) (N c : Nat) (note : ByteArray) (least most : Int) (w : World) :
    Calls Tryd.prog 19 #[.agg #[.int .i64 num, .slice a N c, .string note], .int .i64 least, .int .i64 most] w fun e w' => e = .returned (.int .i64 (few N least most)) ∧ Hid (Below w.heap.size w w') := by
  have HB : Hid (Below w.heap.size w (w.alloc (.cells #[.int .i64 num, .slice a N c, .string note] 46))) := (Below.refl _ _).alloc (Nat.le_refl _) _
  by_cases h1 : (N : Int) < least
  · have HR : Hid (few N least most = 94) := if_pos (.inl h1)
    have d1 : decide ((N : Int) < least) = true := decide_eq_true h1
    go_enter Tryd.func19, Tryd.ntmps19
    go_wp2
    exact bodyPost_ret (v := .int .i64 94) (by simp [results, Tryd.results19, go_sem]) rfl ⟨by rw [HR.out], HB⟩
  · have d1 : decide ((N : Int) < least) = false := decide_eq_false h1
    by_cases h2 : most < (N : Int)
    · have HR : Hid (few N least most = 94) := if_pos (.inr h2)
      have d2 : decide (most < (N : Int)) = true := decide_eq_true h2
      go_enter Tryd.func19, Tryd.ntmps19
      go_wp2
      exact bodyPost_ret (v := .int .i64 94) (by simp [results, Tryd.results19, go_sem]) rfl ⟨by rw [HR.out], HB⟩
    · have HR : Hid (few N least most = 0) := if_neg (by omega)
      have d2 : decide (most < (N : Int)) = false := decide_eq_false h2
      go_enter Tryd.func19, Tryd.ntmps19
      go_wp2
      exact bodyPost_ret (v := .int .i64 0) (by simp [results, Tryd.results19, go_sem]) rfl ⟨by rw [HR.out], HB⟩
theorem prA_form (L : List ByteArray) (note : ByteArray) : ∃ (s : ByteArray) (z : Int), prA L note = .returned (.tuple #[.string s, .int .i64 z]) := by
  unfold prA
  split
  · exact ⟨_, _, rfl⟩
  · exact ⟨_, _, rfl⟩
theorem tlA_form (zs : List Int) : ∃ (s : ByteArray) (z : Int), tlA zs = .returned (.tuple #[.string s, .int .i64 z]) := by
  unfold tlA
  split
  · exact ⟨_, _, rfl⟩
  · exact ⟨_, _, rfl⟩
/-- The two boxes of the law. -/
def Bxs (O : Nat) (num : Int) (v : Value) (note : ByteArray) (least most : Int) (w w2 : World) : Prop := Below O w w2 ∧ O + 2 ≤ w2.heap.size ∧ w2.cell? ⟨O, 0, none⟩ = some (.int .i64 num) ∧ w2.cell? ⟨O, 1, none⟩ = some v ∧ w2.cell? ⟨O, 2, none⟩ = some (.string note) ∧ w2.cell? ⟨O + 1, 0, none⟩ = some (.int .i64 least) ∧ w2.cell? ⟨O + 1, 1, none⟩ = some (.int .i64 most)
theorem Bxs.step {O : Nat} {num : Int} {v : Value} {note : ByteArray} {least most : Int} {w w2 w3 : World} (h : Bxs O num v note least most w w2) (hb : Below w2.heap.size w2 w3) : Bxs O num v note least most w w3 := by
  obtain ⟨h1, h2, h3, h4, h5, h6, h7⟩ := h
  exact ⟨h1.trans (hb.mono (by omega)), Nat.le_trans h2 hb.size, (hb.cell (p := ⟨O, 0, none⟩) (by show O < _; omega)).trans h3, (hb.cell (p := ⟨O, 1, none⟩) (by show O < _; omega)).trans h4, (hb.cell (p := ⟨O, 2, none⟩) (by show O < _; omega)).trans h5, (hb.cell (p := ⟨O + 1, 0, none⟩) (by show O + 1 < _; omega)).trans h6, (hb.cell (p := ⟨O + 1, 1, none⟩) (by show O + 1 < _; omega)).trans h7⟩
set_option maxRecDepth 100000 in
set_option maxHeartbeats 8000000 in
theorem law_prints (num : Int) (v : Value) (L : List ByteArray) (note : ByteArray) (vr : Value) (zs : List Int) (least most : Int) (w : World) (hv : RdT2 w v L) (hr : Rds .i32 w vr zs) (hL : L.length ≤ 2000000) (hs : ∀ x ∈ L, x.size ≤ 2000000) (hn : note.size < 4294967281) (hz : zs.length ≤ 2000000) (hT : Tz w) (hg : 5 < w.heap.size) :
    Calls Tryd.prog 4 #[.agg #[.int .i64 num, v, .string note], vr, .agg #[.int .i64 least, .int .i64 most]] w fun e w' => e = .returned (.bool true) ∧ Below w.heap.size w w' := by
  have HV : Hid (RdT2 w v L) := hv
  have HVb : Hid (∀ w2, Below w.heap.size w w2 → RdT2 w2 v L) := fun w2 hb => by
    rcases HV.out with h | ⟨ad, c, e, hle, hc⟩
    · exact .inl h
    · exact .inr ⟨ad, c, e, hle, fun j u hj => by
        have h2 := hc j u hj
        exact (hb.cell (World.block_lt_of_cell? w _ h2)).trans h2⟩
  have HRb : Hid (∀ w2, Below w.heap.size w w2 → Rds .i32 w2 vr zs) := fun w2 hb => hr.below hb
  obtain ⟨a, n, c, hvs⟩ : ∃ a n c, v = .slice a n c := by
    rcases hv with ⟨e, -⟩ | ⟨ad, c, e, -⟩
    · exact ⟨_, _, _, e⟩
    · exact ⟨_, _, _, e⟩
  obtain ⟨S1, z1, hp⟩ := prA_form L note
  obtain ⟨S2, z2, ht⟩ := tlA_form zs
  have nL : n = L.length := by
    rcases hv with ⟨e, e2⟩ | ⟨ad, c, e, -⟩
    · rw [hvs] at e; cases e; rw [e2]; rfl
    · rw [hvs] at e; cases e; rfl
  subst nL
  have k14 := fun w2 (hb : Below w.heap.size w w2) => print_any num v L note w2 (HVb.out w2 hb).rd hL hs hn
  have k16 := fun w2 (hb : Below w.heap.size w w2) => given_any num v L note w2 (HVb.out w2 hb) hL
  have k15 := fun v' w2 (hb : RdT w2 v' L) => rprint_any num v' L note w2 hb hL hs hn
  have k17 := fun w2 (hb : Below w.heap.size w w2) => tell_any vr zs w2 (HRb.out w2 hb) hz (hT.below hg hb) (Nat.lt_of_lt_of_le hg hb.size)
  have k18 := fun w2 (hb : Below w.heap.size w w2) => rtell_any vr zs w2 (HRb.out w2 hb) hz
  have k19 := fun w2 => fieldsN_any num a L.length c note least most w2
  have k13 := fun w2 => awake_any w2
  simp only [hp] at k14 k15
  simp only [ht] at k17 k18
  have hB0 : Below w.heap.size w ((w.alloc (.cells #[.int .i64 num, v, .string note] 46)).alloc (.cells #[.int .i64 least, .int .i64 most] 48)) := ((Below.refl _ _).alloc (Nat.le_refl _) _).alloc (by simp) _
  have HX0 : Hid (Bxs w.heap.size num v note least most w ((w.alloc (.cells #[.int .i64 num, v, .string note] 46)).alloc (.cells #[.int .i64 least, .int .i64 most] 48))) := by
    have b0 := heap_new w (.cells #[.int .i64 num, v, .string note] 46)
    have b1 := heap_new (w.alloc (.cells #[.int .i64 num, v, .string note] 46)) (.cells #[.int .i64 least, .int .i64 most] 48)
    rw [World.size_alloc] at b1
    have b2 := (Below.heap_alloc (w.alloc (.cells #[.int .i64 num, v, .string note] 46)) (.cells #[.int .i64 least, .int .i64 most] 48) w.heap.size (by simp)).trans b0
    have b3 : w.heap.size + 2 ≤ ((w.alloc (.cells #[.int .i64 num, v, .string note] 46)).alloc (.cells #[.int .i64 least, .int .i64 most] 48)).heap.size := by simp
    have b4 := hB0
    obtain ⟨X, hX⟩ : ∃ X, (w.alloc (.cells #[.int .i64 num, v, .string note] 46)).alloc (.cells #[.int .i64 least, .int .i64 most] 48) = X := ⟨_, rfl⟩
    rw [hX] at b1 b2 b3 b4 ⊢
    exact ⟨b4, b3, by simp [World.cell?, b2], by simp [World.cell?, b2], by simp [World.cell?, b2], by simp [World.cell?, b1], by simp [World.cell?, b1]⟩
  clear hv hr hp ht hT hg hL hs hn hz hB0 HV HVb HRb
  subst hvs
  obtain ⟨N, hN⟩ : ∃ N, L.length = N := ⟨_, rfl⟩
  rw [hN] at HX0 k14 k16 ⊢
  simp only [hN] at k19
  go_enter Tryd.func4, Tryd.ntmps4
  go_wp2_with (go_at_call 14; refine (k14 _ HX0.out.1).mono ?_)
  rintro e w1 ⟨rfl, hb⟩
  have H1 : Hid (Bxs w.heap.size num (.slice a N c) note least most w w1) := HX0.out.step hb.out
  clear hb k14 HX0
  obtain ⟨O, hO⟩ : ∃ O, w.heap.size = O := ⟨_, rfl⟩
  have HO : Hid (w.heap.size = O) := hO
  rw [hO] at H1 ⊢
  clear hO
  have c0 := H1.out.2.2.1
  have c1 := H1.out.2.2.2.1
  have c2 := H1.out.2.2.2.2.1
  go_wp2_with (go_at_call 16; refine (k16 _ (by have := H1.out.1; rw [← HO.out] at this; exact this)).mono ?_)
  rintro e w2 ⟨r, rfl, hr, hb⟩
  have H2 : Hid (Bxs O num (.slice a N c) note least most w w2) := H1.out.step hb.out
  clear hb k16 c0 c1 c2 H1
  go_wp2_with (go_at_call 15; refine (k15 _ _ hr.out).mono ?_)
  rintro e w3 ⟨rfl, hb⟩
  have H3 : Hid (Bxs O num (.slice a N c) note least most w w3) := H2.out.step hb.out
  clear hb k15 hr H2
  go_wp2_with (go_at_call 17; refine (k17 _ (by have := H3.out.1; rw [← HO.out] at this; exact this)).mono ?_)
  rintro e w4 ⟨rfl, hb⟩
  have H4 : Hid (Bxs O num (.slice a N c) note least most w w4) := H3.out.step hb.out
  clear hb k17 H3
  have c1 := H4.out.2.2.2.1
  have c3 := H4.out.2.2.2.2.2.1
  have c4 := H4.out.2.2.2.2.2.2
  have c0 := H4.out.2.2.1
  have c2 := H4.out.2.2.2.2.1
  have k18' := k18 w4 (by have := H4.out.1; rw [← HO.out] at this; exact this)
  have k13' := k13 w4
  have k19' := k19 w4
  have HE : Hid (O ≤ w4.heap.size) := by have := H4.out.2.1; show _ ≤ _; omega
  clear k18 k13 k19
  have hfin : ∀ F : Int, few N least most = F → Hid (Calls Tryd.prog 19 #[.agg #[.int .i64 num, .slice a N c, .string note], .int .i64 least, .int .i64 most] w4 fun e w' => e = .returned (.int .i64 F) ∧ Hid (Below w4.heap.size w4 w')) := fun F h => by rw [← h]; exact k19'
  clear k19'
  by_cases h1 : (N : Int) < least
  · have K := hfin 94 (if_pos (.inl h1))
    have d1 : decide ((N : Int) < least) = true := decide_eq_true h1
    clear hfin
    go_wp2_with (first | (go_at_call 18; refine k18'.mono ?_; rintro e w' ⟨rfl, hw⟩; rw [hw]) | (go_at_call 13; refine k13'.mono ?_; rintro e w' ⟨rfl, hw⟩; rw [hw]))
    go_wp2_with (go_at_call 19; refine K.out.mono ?_)
    rintro e w5 ⟨rfl, hb⟩
    have H5 : Hid (Bxs O num (.slice a N c) note least most w w5) := H4.out.step hb.out
    clear hb K
    go_wp2
    exact bodyPost_ret (v := .bool true) (by simp [results, Tryd.results4, go_sem]) rfl ⟨rfl, by have := H5.out.1; rw [← HO.out] at this; exact this⟩
  · have d1 : decide ((N : Int) < least) = false := decide_eq_false h1
    by_cases h2 : most < (N : Int)
    · have K := hfin 94 (if_pos (.inr h2))
      have d2 : decide (most < (N : Int)) = true := decide_eq_true h2
      clear hfin
      go_wp2_with (first | (go_at_call 18; refine k18'.mono ?_; rintro e w' ⟨rfl, hw⟩; rw [hw]) | (go_at_call 13; refine k13'.mono ?_; rintro e w' ⟨rfl, hw⟩; rw [hw]))
      go_wp2_with (go_at_call 19; refine K.out.mono ?_)
      rintro e w5 ⟨rfl, hb⟩
      have H5 : Hid (Bxs O num (.slice a N c) note least most w w5) := H4.out.step hb.out
      clear hb K
      go_wp2
      exact bodyPost_ret (v := .bool true) (by simp [results, Tryd.results4, go_sem]) rfl ⟨rfl, by have := H5.out.1; rw [← HO.out] at this; exact this⟩
    · have K := hfin 0 (if_neg (by omega))
      have d2 : decide (most < (N : Int)) = false := decide_eq_false h2
      clear hfin
      go_wp2_with (first | (go_at_call 18; refine k18'.mono ?_; rintro e w' ⟨rfl, hw⟩; rw [hw]) | (go_at_call 13; refine k13'.mono ?_; rintro e w' ⟨rfl, hw⟩; rw [hw]))
      go_wp2_with (go_at_call 19; refine K.out.mono ?_)
      rintro e w5 ⟨rfl, hb⟩
      have H5 : Hid (Bxs O num (.slice a N c) note least most w w5) := H4.out.step hb.out
      clear hb K
      go_wp2
      exact bodyPost_ret (v := .bool true) (by simp [results, Tryd.results4, go_sem]) rfl ⟨rfl, by have := H5.out.1; rw [← HO.out] at this; exact this⟩
end Go.Proofs.YtcjlplaepnpopaaDoor
