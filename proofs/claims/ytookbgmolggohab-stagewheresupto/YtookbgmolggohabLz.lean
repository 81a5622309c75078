/-
  The contracts of laid, Over and Build once more, with where the table lies: above all that was there. Conditions: as those of Ly and Fa.
-/
import Derived.Test.YtookbgmolggohabFa
namespace Go.Proofs.Ytookbgmolggohab
open Go.RowKit
/-- A table all of whose blocks lie from b on. -/
def TabFrom (w : World) (b T : Nat) (F : Int → Int) : Prop := ∀ w' : World, (∀ g, b ≤ g → g < w.heap.size → w'.heap[g]? = w.heap[g]?) → TabAt w' T F
theorem TabFrom.at {w : World} {b T : Nat} {F : Int → Int} (h : TabFrom w b T F) : TabAt w T F := h w fun _ _ _ => rfl
theorem TabFrom.mono {w : World} {b b' T : Nat} {F : Int → Int} (h : TabFrom w b T F) (hb : b' ≤ b) : TabFrom w b' T F := fun w' hs => h w' fun g hg hl => hs g (Nat.le_trans hb hg) hl
theorem Mk.from {w : World} {B M T K : Nat} {pv uv : Value} {F : Int → Int} (h : Mk w B M T K pv uv (unl F 8704) (plcs F 8704)) : TabFrom w B T F := fun w' hs => by
  have ht := (hs T h.bT (Array.getElem?_eq_some_iff.1 h.t).1).trans h.t
  have hp := owns_same (w' := w') h.p fun k hk => hs k (own_in h.p hk).1 (by obtain ⟨_, cur, h3⟩ := own_in h.p hk; exact (Array.getElem?_eq_some_iff.1 h3).1)
  have hu := owns_same (w' := w') h.u fun k hk => hs k (own_in h.u hk).1 (by obtain ⟨_, cur, h3⟩ := own_in h.u hk; exact (Array.getElem?_eq_some_iff.1 h3).1)
  rw [plcs_len] at hp
  obtain ⟨a, c, rfl, hc, hn⟩ := owns_slice hp
  obtain ⟨pg, rfl⟩ := hn (by decide)
  obtain ⟨a', c', rfl, hc', hn'⟩ := owns_slice hu
  obtain ⟨ug, rfl⟩ := hn' (unl_pos F 8703)
  exact ⟨pg, c, ug, c', ht, hc, hc', fun i hi => (owns_cell hp rfl i _ (plcs_get F 8704 i hi)).1, fun i f hf j hj => (owns_cell hu rfl _ _ (celU_get _ i j f hf hj)).1⟩
set_option maxRecDepth 100000 in
set_option maxHeartbeats 2000000 in
theorem laid_from (L : List Rw) (F : Int → Int) (v vt : Value) (w : World) (hR : Rd3 .i32 w v L) (hT : Tab w vt F) (hok : okF 0 L) (hF : ∀ p, 0 ≤ F p ∧ F p ≤ 65535) :
    Calls Try.prog 54 #[vt, v] w fun e w' => ∃ T, e = .returned (.pointer (some ⟨T, 0, none⟩)) ∧ TabFrom w' w.heap.size T (over F L) ∧ Below w.heap.size w w' := by
  have HR : Hid (Rd3 .i32 w v L) := hR
  go_enter Try.func54, Try.ntmps54
  change Code.wp _ (Code.seq (hd body37) (Code.seq (hd (sq 1 body37)) (Code.seq (hd (sq 2 body37)) (Code.seq (Code.seq (hd (hd (sq 3 body37))) (sq 1 (hd (sq 3 body37)))) (sq 4 body37))))) _ _ _
  generalize hL : sq 1 (hd (sq 3 body37)) = LOOP
  replace hL : Hid (sq 1 (hd (sq 3 body37)) = LOOP) := hL
  conv => arg 2; arg 1; whnf
  conv => arg 2; arg 2; arg 1; whnf
  conv => arg 2; arg 2; arg 2; arg 1; whnf
  conv => arg 2; arg 2; arg 2; arg 2; arg 1; arg 1; whnf
  conv => arg 2; arg 2; arg 2; arg 2; arg 2; whnf
  go_wp2_with (go_at_call 59; refine (full_any _ vt F hT).mono ?_)
  rintro e w1 ⟨T0, rfl, t1, b1⟩
  go_wp2_with (go_at_call 62; refine (maker_new _).mono ?_)
  rintro e w2 ⟨rfl, rfl⟩
  have hM := maker_mk w1
  have hB2 : Below w1.heap.size w1 (((w1.alloc (.cells #[.slice none 0 0, .slice none 0 0] 105)).alloc (.map #[] 0)).alloc (.cells #[.pointer (some ⟨w1.heap.size, 0, none⟩), .map (some (w1.heap.size + 1))] 112)) := (((Below.refl _ w1).alloc (Nat.le_refl _) _).alloc (by simp) _).alloc (by simp; omega) _
  have hRw := (hR.below b1)
  generalize (((w1.alloc (.cells #[.slice none 0 0, .slice none 0 0] 105)).alloc (.map #[] 0)).alloc (.cells #[.pointer (some ⟨w1.heap.size, 0, none⟩), .map (some (w1.heap.size + 1))] 112)) = w2 at *
  obtain ⟨pg, pc, ug, uc, c1, c2, c3, c4, c5⟩ := t1
  obtain ⟨g, off, hg⟩ : ∃ g off, RestV g off L.length 0 v ∧ (0 < L.length → g < w1.heap.size) ∧ Cel3 w1 g off L := by
    obtain ⟨av, c, rfl, hl, hc⟩ := hRw
    by_cases h0 : 0 < L.length
    · obtain ⟨g, off, rfl, hd⟩ := hc h0
      exact ⟨g, off, ⟨_, c, rfl, by omega, fun _ => by simp⟩, fun _ => World.block_lt_of_cell? w1 _ (hd 0 h0).1, hd⟩
    · exact ⟨0, 0, ⟨av, c, rfl, by omega, fun h => absurd h h0⟩, fun h => absurd h h0, fun j hj => by omega⟩
  obtain ⟨hV, hgl, hC⟩ := hg
  have hS0 : Src w1 w1.heap.size T0 pg pc ug uc g off F L := ⟨(Array.getElem?_eq_some_iff.1 c1).1, c1, World.block_lt_of_cell? w1 _ (c4 0 (by decide)), c4, World.block_lt_of_cell? w1 _ (c5 _ _ (plc_get F (n := 8704) (i := 0) (by decide)) 0 (by decide)), c5, hgl, hC⟩
  have hS := hS0.below hB2
  obtain ⟨d1, d2⟩ := tab_cells hS.t
  have b2 : Hid (Below w.heap.size w w2) := b1.trans (hB2.mono b1.size)
  have hlt : Hid (w.heap.size ≤ w1.heap.size) := b1.size
  have HH : Hid (∀ (Q : Exit → Act → World → Prop) (a : Act), (∀ a' w' v1' pv' uv', At 67 [(0, .pointer (some ⟨T0, 0, none⟩)), (1, v1'), (5, .pointer (some ⟨w1.heap.size + 2, 0, none⟩)), (16, .slice (some ⟨pg, 0, none⟩) 8704 pc), (17, .int .i64 8704), (18, .int .i64 (8704 : Nat))] a' → Mk w' w1.heap.size (w1.heap.size + 2) w1.heap.size (w1.heap.size + 1) pv' uv' (unl (over F L) 8704) (plcs (over F L) 8704) → Below w1.heap.size w2 w' → Q .normal a' w') → At 67 [(0, .pointer (some ⟨T0, 0, none⟩)), (1, v), (5, .pointer (some ⟨w1.heap.size + 2, 0, none⟩)), (16, .slice (some ⟨pg, 0, none⟩) 8704 pc), (17, .int .i64 8704), (18, .int .i64 (0 : Nat))] a → Code.wp Try.prog (sq 1 (hd (sq 3 body37))) Q a w2) := fun Q a hq ha => laid_loop L F _ _ _ _ T0 pg pc ug uc g off _ _ v a w2 hok hF hV hS hM hq ha
  clear hV hC hS hS0 hM c1 c2 c3 c4 c5 hRw hR HR b1 hB2 hgl hT d2
  rw [hL.out] at HH
  have HH2 : Hid _ := HH.out
  clear HH
  go_wp2
  refine HH2.out _ _ (fun a3 w3 v3 pv3 uv3 ha3 hM3 hB3 => ?_) ⟨rfl, rfl, rfl, rfl, rfl, rfl, rfl, rfl, trivial⟩
  rename_i K2 hK2
  refine hK2 _ _ ?_
  obtain ⟨m0, -⟩ := tab_cells hM3.m
  have t3 : Hid (TabFrom w3 w.heap.size w1.heap.size (over F L)) := hM3.from.mono hlt.out
  have B3 : Hid (Below w.heap.size w w3) := b2.out.trans (hB3.mono hlt.out)
  clear hM3 hB3 HH2 hK2
  obtain ⟨f2, rfl, h0, h1, h5, h16, h17, h18, -⟩ := ha3.lit
  change Code.wp _ _ _ ⟨#[f2 0, f2 1, f2 2, f2 3, f2 4, f2 5, f2 6, f2 7, f2 8, f2 9, f2 10, f2 11, f2 12, f2 13, f2 14, f2 15, f2 16, f2 17, f2 18, f2 19, f2 20, f2 21, f2 22, f2 23, f2 24, f2 25, f2 26, f2 27, f2 28, f2 29, f2 30, f2 31, f2 32, f2 33, f2 34, f2 35, f2 36, f2 37, f2 38, f2 39, f2 40, f2 41, f2 42, f2 43, f2 44, f2 45, f2 46, f2 47, f2 48, f2 49, f2 50, f2 51, f2 52, f2 53, f2 54, f2 55, f2 56, f2 57, f2 58, f2 59, f2 60, f2 61, f2 62, f2 63, f2 64, f2 65, f2 66], []⟩ _
  simp only at h0 h1 h5 h16 h17 h18
  simp only [h0, h1, h5, h16, h17, h18]
  clear h0 h1 h5 h16 h17 h18
  go_wp2
  go_ret
  exact ⟨_, rfl, t3.out, B3.out⟩
theorem over_from (L : List Rw) (F : Int → Int) (v vt : Value) (w : World) (hr : Rd3 .i32 w v L) (hf : fit3 L) (h : (chk L).2 = 0) (hT : Tab w vt F) (hF : ∀ p, 0 ≤ F p ∧ F p ≤ 65535) : Calls Try.prog 39 #[vt, v] w fun e w' => ∃ T, e = .returned (.tuple #[.pointer (some ⟨T, 0, none⟩), .int .i64 0, .int .i64 0]) ∧ TabFrom w' w.heap.size T (over F L) ∧ Below w.heap.size w w' := by
  obtain ⟨h1, h2, h3⟩ := chk_ok h
  have K := fault_any L v w hr hf
  rw [h3] at K
  simp only at K
  have KL : Hid (∀ w1, Below w.heap.size w w1 → Calls Try.prog 54 #[vt, v] w1 fun e w' => ∃ T, e = .returned (.pointer (some ⟨T, 0, none⟩)) ∧ TabFrom w' w1.heap.size T (over F L) ∧ Below w1.heap.size w1 w') := fun w1 b1 => laid_from L F v vt w1 (hr.below b1) (hT.below b1) h2 hF
  clear h h1 h2 h3 hr hT
  go_enter Try.func39, Try.ntmps39
  go_wp2_with (go_at_call 69; refine K.mono ?_)
  intro e1 w1 hq
  first | (obtain ⟨rfl, b1⟩ : _ ∧ _ := hq) | (subst hq; intro b1)
  clear K
  go_wp2_with (go_at_call 54; refine (KL.out _ b1).mono ?_)
  rintro e w2 ⟨T, rfl, t2, b2⟩
  go_wp2
  go_ret3
  exact ⟨T, rfl, t2.mono b1.size, b1.trans (b2.mono b1.size)⟩
theorem build_from (L : List Rw) (v : Value) (w : World) (hr : Rd3 .i32 w v L) (hf : fit3 L) (h : (chk L).2 = 0) : Calls Try.prog 9 #[v] w fun e w' => ∃ T, e = .returned (.tuple #[.pointer (some ⟨T, 0, none⟩), .int .i64 0, .int .i64 0]) ∧ TabFrom w' w.heap.size T (lk L) ∧ Below w.heap.size w w' := by
  have K := over_from L nought v (.pointer none) w hr hf h (.inl ⟨rfl, rfl⟩) nought_range
  clear h hr
  go_enter Try.func9, Try.ntmps9
  go_wp2_with (go_at_call 39; refine K.mono ?_)
  rintro e1 w1 ⟨T, rfl, t1, b1⟩
  clear K
  go_wp2
  go_ret3
  exact ⟨T, rfl, t1, b1⟩
end Go.Proofs.Ytookbgmolggohab
