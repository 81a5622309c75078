/-
  The contract of laid, whole. Conditions: the rows may be, but there may be more of them than MaxRows; the table's numbers are from 0 to 65535.
-/
import Derived.Test.YtookbgmolggohaaLx
namespace Go.Proofs.Ytookbgmolggohaa
open Go.RowKit
theorem owns_cell {W : World} {b e size n : Nat} {v : Value} {xs : List Value} (h : W.ownsRow b e size v n xs) {g cap : Nat} (hv : v = .slice (some ⟨g, 0, none⟩) n cap) (i : Nat) (u : Value) (hi : xs[i]? = some u) : W.cell? ⟨g, i, none⟩ = some u ∧ W.frozen? ⟨g, i, none⟩ = false := by
  obtain ⟨h1, ⟨h2, _⟩ | ⟨g', cap', cur, rfl, h3, h4, h5, h6, h7, h8⟩⟩ := h
  · rw [h2] at hv; cases hv
  · cases hv
    have hl : i < n * size := by rw [← h1]; exact (List.getElem?_eq_some_iff.1 hi).1
    rw [← h8, List.getElem?_take_of_lt hl, Array.getElem?_toList] at hi
    exact ⟨by simp [World.cell?, h4, hi], by simp [World.frozen?, h4]⟩
theorem plcs_get (F : Int → Int) (n i : Nat) (h : i < n) : (celP (plcs F n))[i]? = some (.int .u16 (plc F i : Nat)) := by
  simp [celP, plcs, h]
/-- A maker that has made all blocks is a table. -/
theorem Mk.tab {w : World} {B M T K : Nat} {pv uv : Value} {F : Int → Int} (h : Mk w B M T K pv uv (unl F 8704) (plcs F 8704)) : TabAt w T F := by
  have h1 := h.p
  rw [plcs_len] at h1
  obtain ⟨a, c, rfl, hc, hn⟩ := owns_slice h1
  obtain ⟨pg, rfl⟩ := hn (by decide)
  obtain ⟨a', c', rfl, hc', hn'⟩ := owns_slice h.u
  obtain ⟨ug, rfl⟩ := hn' (unl_pos F 8703)
  exact ⟨pg, c, ug, c', h.t, hc, hc', fun i hi => (owns_cell h1 rfl i _ (plcs_get F 8704 i hi)).1, fun i f hf j hj => (owns_cell h.u rfl _ _ (celU_get _ i j f hf hj)).1⟩
theorem maker_mk (w : World) : Mk (((w.alloc (.cells #[.slice none 0 0, .slice none 0 0] 76)).alloc (.map #[] 0)).alloc (.cells #[.pointer (some ⟨w.heap.size, 0, none⟩), .map (some (w.heap.size + 1))] 100)) w.heap.size (w.heap.size + 2) w.heap.size (w.heap.size + 1) (.slice none 0 0) (.slice none 0 0) [] [] := by
  refine ⟨by omega, Nat.le_refl _, by omega, three_c w _ _ _, three_a w _ _ _, ⟨rfl, .inl ⟨rfl, rfl⟩⟩, ⟨rfl, .inl ⟨rfl, rfl⟩⟩, ?_⟩
  have h := MapU.new (w.alloc (.cells #[.slice none 0 0, .slice none 0 0] 76))
  rw [show (w.alloc (.cells #[.slice none 0 0, .slice none 0 0] 76)).heap.size = w.heap.size + 1 by simp] at h
  exact h.same (Go.RowKit.Below.heap_alloc _ _ _ (by simp))
set_option maxRecDepth 100000 in
set_option maxHeartbeats 2000000 in
theorem laid_loop {Q : Exit → Act → World → Prop} (L : List Rw) (F : Int → Int) (B M T K T0 pg pc ug uc g off : Nat) (pv0 uv0 v0 : Value) (a : Act) (w : World) (hok : okF 0 L) (hF : ∀ p, 0 ≤ F p ∧ F p ≤ 65535)
    (hV : RestV g off L.length 0 v0) (hS : Src w B T0 pg pc ug uc g off F L) (hM : Mk w B M T K pv0 uv0 [] [])
    (hK : ∀ a' w' v1' pv' uv', At 67 [(0, .pointer (some ⟨T0, 0, none⟩)), (1, v1'), (5, .pointer (some ⟨M, 0, none⟩)), (16, .slice (some ⟨pg, 0, none⟩) 8704 pc), (17, .int .i64 8704), (18, .int .i64 (8704 : Nat))] a' → Mk w' B M T K pv' uv' (unl (over F L) 8704) (plcs (over F L) 8704) → Below B w w' → Q .normal a' w')
    (ha : At 67 [(0, .pointer (some ⟨T0, 0, none⟩)), (1, v0), (5, .pointer (some ⟨M, 0, none⟩)), (16, .slice (some ⟨pg, 0, none⟩) 8704 pc), (17, .int .i64 8704), (18, .int .i64 (0 : Nat))] a) : Code.wp Try.prog (sq 1 (hd (sq 3 body37))) Q a w := by
  change Code.wp _ (Code.block 0 (Code.loop out37)) _ _ _
  refine wp_block ?_
  refine wp_loop_ghost_k (fun m a w' => ∃ (i k : Nat) (v1 pv uv : Value), i ≤ 8704 ∧ m = 8704 - i ∧ k ≤ L.length ∧ At 67 [(0, .pointer (some ⟨T0, 0, none⟩)), (1, v1), (5, .pointer (some ⟨M, 0, none⟩)), (16, .slice (some ⟨pg, 0, none⟩) 8704 pc), (17, .int .i64 8704), (18, .int .i64 (i : Nat))] a ∧ RestV g off L.length k v1 ∧ (∀ r ∈ L.take k, r.2.1 < 128 * (i : Int)) ∧ Mk w' B M T K pv uv (unl (over F L) i) (plcs (over F L) i) ∧ Below B w w') 8704 ⟨0, 0, v0, pv0, uv0, by omega, rfl, by omega, ha, hV, fun r hr => by simp at hr, hM, Below.refl _ _⟩ ?_
  clear ha hV hM
  rintro m a wr ⟨i, k, v1, pv, uv, hi, rfl, hk, ha, hV, hT, hM, hB⟩ J0 K1 hJ hK1
  by_cases hil : i < 8704
  · have hin : Hid (∀ (Q : Exit → Act → World → Prop) (a : Act), (∀ a' w' v1' k' pv' uv', k' ≤ L.length → At 67 [(0, .pointer (some ⟨T0, 0, none⟩)), (1, v1'), (5, .pointer (some ⟨M, 0, none⟩)), (16, .slice (some ⟨pg, 0, none⟩) 8704 pc), (17, .int .i64 8704), (18, .int .i64 (i : Nat))] a' → RestV g off L.length k' v1' → (∀ r ∈ L.take k', r.2.1 < 128 * (i : Int) + 128) → Mk w' B M T K pv' uv' (unl (over F L) (i + 1)) (plcs (over F L) (i + 1)) → Below B wr w' → Q .normal a' w') → At 67 [(0, .pointer (some ⟨T0, 0, none⟩)), (1, v1), (5, .pointer (some ⟨M, 0, none⟩)), (16, .slice (some ⟨pg, 0, none⟩) 8704 pc), (17, .int .i64 8704), (18, .int .i64 (i : Nat))] a → Code.wp Try.prog in37 Q a wr) := fun Q a hq ha => laid_round L F i k B M T K T0 pg pc ug uc g off pv uv v1 a wr hok hF hil hk hV (hS.below hB) hM hT hq ha
    have HB : Hid (Below B w wr) := hB
    have HJ : Hid (∀ (k : Nat) (a' : Act) (w' : World), (∃ (i k_1 : Nat) (v1 pv uv : Value), i ≤ 8704 ∧ k = 8704 - i ∧ k_1 ≤ L.length ∧ At 67 [(0, .pointer (some ⟨T0, 0, none⟩)), (1, v1), (5, .pointer (some ⟨M, 0, none⟩)), (16, .slice (some ⟨pg, 0, none⟩) 8704 pc), (17, .int .i64 8704), (18, .int .i64 (i : Nat))] a' ∧ RestV g off L.length k_1 v1 ∧ (∀ r ∈ L.take k_1, r.2.1 < 128 * (i : Int)) ∧ Mk w' B M T K pv uv (unl (over F L) i) (plcs (over F L) i) ∧ Below B w w') → J0 k a' w') := hJ
    have HI : Hid (i < 8704) := hil
    have hil' : (i : Int) < 8704 := by omega
    clear hK hV hS hM hT hB hJ hok hF hk hi hil
    change Code.wp _ (Code.seq (hd out37) (Code.seq (hd (sq 1 out37)) (Code.seq (Code.block 1 in37) (sq 3 out37)))) _ _ _
    generalize in37 = IN at *
    conv => arg 2; arg 1; whnf
    conv => arg 2; arg 2; arg 1; whnf
    conv => arg 2; arg 2; arg 2; arg 2; whnf
    obtain ⟨f, rfl, h0, h1, h5, h16, h17, h18, -⟩ := ha.lit
    change Code.wp _ _ _ ⟨#[f 0, f 1, f 2, f 3, f 4, f 5, f 6, f 7, f 8, f 9, f 10, f 11, f 12, f 13, f 14, f 15, f 16, f 17, f 18, f 19, f 20, f 21, f 22, f 23, f 24, f 25, f 26, f 27, f 28, f 29, f 30, f 31, f 32, f 33, f 34, f 35, f 36, f 37, f 38, f 39, f 40, f 41, f 42, f 43, f 44, f 45, f 46, f 47, f 48, f 49, f 50, f 51, f 52, f 53, f 54, f 55, f 56, f 57, f 58, f 59, f 60, f 61, f 62, f 63, f 64, f 65, f 66], []⟩ _
    simp only at h0 h1 h5 h16 h17 h18
    simp only [h0, h1, h5, h16, h17, h18]
    clear h0 h1 h5 h16 h17 h18
    go_wp2
    refine hin.out _ _ (fun a2 w2 v2 k2 pv2 uv2 hk2 ha2 hV2 hT2 hM2 hB2 => ?_) ⟨rfl, rfl, rfl, rfl, rfl, rfl, rfl, rfl, trivial⟩
    rename_i K2 hK2
    refine hK2 _ _ ?_
    have HV2 : Hid (RestV g off L.length k2 v2) := hV2
    have HT2 : Hid (∀ r ∈ L.take k2, r.2.1 < 128 * (i : Int) + 128) := hT2
    have HM2 : Hid (Mk w2 B M T K pv2 uv2 (unl (over F L) (i + 1)) (plcs (over F L) (i + 1))) := hM2
    have HB2 : Hid (Below B w w2) := HB.out.trans hB2
    have HK2 : Hid (k2 ≤ L.length) := hk2
    clear hV2 hT2 hM2 hB2 hin hK2 hk2
    obtain ⟨f2, rfl, h0, h1, h5, h16, h17, h18, -⟩ := ha2.lit
    change Code.wp _ _ _ ⟨#[f2 0, f2 1, f2 2, f2 3, f2 4, f2 5, f2 6, f2 7, f2 8, f2 9, f2 10, f2 11, f2 12, f2 13, f2 14, f2 15, f2 16, f2 17, f2 18, f2 19, f2 20, f2 21, f2 22, f2 23, f2 24, f2 25, f2 26, f2 27, f2 28, f2 29, f2 30, f2 31, f2 32, f2 33, f2 34, f2 35, f2 36, f2 37, f2 38, f2 39, f2 40, f2 41, f2 42, f2 43, f2 44, f2 45, f2 46, f2 47, f2 48, f2 49, f2 50, f2 51, f2 52, f2 53, f2 54, f2 55, f2 56, f2 57, f2 58, f2 59, f2 60, f2 61, f2 62, f2 63, f2 64, f2 65, f2 66], []⟩ _
    simp only at h0 h1 h5 h16 h17 h18
    simp only [h0, h1, h5, h16, h17, h18]
    clear h0 h1 h5 h16 h17 h18
    go_wp2
    have := HI.out
    refine Handed.intro (8704 - (i + 1)) (by omega) (HJ.out _ _ _ ⟨i + 1, k2, v2, pv2, uv2, by omega, rfl, HK2.out, ?_, HV2.out, fun r hr => by have := HT2.out r hr; omega, HM2.out, HB2.out⟩)
    rw [show ((i + 1 : Nat) : Int) = (i : Int) + 1 by omega]
    exact ⟨rfl, rfl, rfl, rfl, rfl, rfl, rfl, rfl, trivial⟩
  · obtain rfl : i = 8704 := by omega
    have HK : Hid _ := hK
    have HM : Hid (Mk wr B M T K pv uv (unl (over F L) 8704) (plcs (over F L) 8704)) := hM
    have HB : Hid (Below B w wr) := hB
    clear hK hV hS hM hT hB hJ hok hF hk hi
    obtain ⟨f, rfl, h0, h1, h5, h16, h17, h18, -⟩ := ha.lit
    change Code.wp _ _ _ ⟨#[f 0, f 1, f 2, f 3, f 4, f 5, f 6, f 7, f 8, f 9, f 10, f 11, f 12, f 13, f 14, f 15, f 16, f 17, f 18, f 19, f 20, f 21, f 22, f 23, f 24, f 25, f 26, f 27, f 28, f 29, f 30, f 31, f 32, f 33, f 34, f 35, f 36, f 37, f 38, f 39, f 40, f 41, f 42, f 43, f 44, f 45, f 46, f 47, f 48, f 49, f 50, f 51, f 52, f 53, f 54, f 55, f 56, f 57, f 58, f 59, f 60, f 61, f 62, f 63, f 64, f 65, f 66], []⟩ _
    simp only at h0 h1 h5 h16 h17 h18
    simp only [h0, h1, h5, h16, h17, h18]
    clear h0 h1 h5 h16 h17 h18
    conv => arg 2; whnf
    go_wp2
    exact HK.out _ wr _ _ _ ⟨rfl, rfl, rfl, rfl, rfl, rfl, rfl, rfl, trivial⟩ HM.out HB.out
set_option maxRecDepth 100000 in
set_option maxHeartbeats 2000000 in
theorem laid_any (L : List Rw) (F : Int → Int) (v vt : Value) (w : World) (hR : Rd3 .i32 w v L) (hT : Tab w vt F) (hok : okF 0 L) (hF : ∀ p, 0 ≤ F p ∧ F p ≤ 65535) :
    Calls Try.prog 37 #[vt, v] w fun e w' => ∃ T, e = .returned (.pointer (some ⟨T, 0, none⟩)) ∧ TabAt w' T (over F L) ∧ Below w.heap.size w w' := by
  have HR : Hid (Rd3 .i32 w v L) := hR
  go_enter Try.func37, Try.ntmps37
  change Code.wp _ (Code.seq (hd body37) (Code.seq (hd (sq 1 body37)) (Code.seq (hd (sq 2 body37)) (Code.seq (Code.seq (hd (hd (sq 3 body37))) (sq 1 (hd (sq 3 body37)))) (sq 4 body37))))) _ _ _
  generalize hL : sq 1 (hd (sq 3 body37)) = LOOP
  replace hL : Hid (sq 1 (hd (sq 3 body37)) = LOOP) := hL
  conv => arg 2; arg 1; whnf
  conv => arg 2; arg 2; arg 1; whnf
  conv => arg 2; arg 2; arg 2; arg 1; whnf
  conv => arg 2; arg 2; arg 2; arg 2; arg 1; arg 1; whnf
  conv => arg 2; arg 2; arg 2; arg 2; arg 2; whnf
  go_wp2_with (go_at_call 39; refine (full_any _ vt F hT).mono ?_)
  rintro e w1 ⟨T0, rfl, t1, b1⟩
  go_wp2_with (go_at_call 48; refine (maker_new _).mono ?_)
  rintro e w2 ⟨rfl, rfl⟩
  have hM := maker_mk w1
  have hB2 : Below w1.heap.size w1 (((w1.alloc (.cells #[.slice none 0 0, .slice none 0 0] 76)).alloc (.map #[] 0)).alloc (.cells #[.pointer (some ⟨w1.heap.size, 0, none⟩), .map (some (w1.heap.size + 1))] 100)) := (((Below.refl _ w1).alloc (Nat.le_refl _) _).alloc (by simp) _).alloc (by simp; omega) _
  have hRw := (hR.below b1)
  generalize (((w1.alloc (.cells #[.slice none 0 0, .slice none 0 0] 76)).alloc (.map #[] 0)).alloc (.cells #[.pointer (some ⟨w1.heap.size, 0, none⟩), .map (some (w1.heap.size + 1))] 100)) = w2 at *
  obtain ⟨pg, pc, ug, uc, c1, c2, c3, c4, c5⟩ := t1
  obtain ⟨g, off, hg⟩ : ∃ g off, RestV g off L.length 0 v ∧ (0 < L.length → g < w1.heap.size) ∧ Cel3 w1 g off L := by
    obtain ⟨av, c, rfl, hl, hc⟩ := hRw
    by_cases h0 : 0 < L.length
    · obtain ⟨g, off, rfl, hd⟩ := hc h0
      exact ⟨g, off, ⟨_, c, rfl, by omega, fun _ => by simp⟩, fun _ => World.block_lt_of_cell? w1 _ (hd 0 h0).1, hd⟩
    · exact ⟨0, 0, ⟨av, c, rfl, by omega, fun h => absurd h h0⟩, fun h => absurd h h0, fun j hj => by omega⟩
  obtain ⟨hV, hgl, hC⟩ := hg
  have hS0 : Src w1 w1.heap.size T0 pg pc ug uc g off F L := ⟨(Array.getElem?_eq_some_iff.1 c1).1, c1, World.block_lt_of_cell? w1 _ (c4 0 (by decide)), c4, World.block_lt_of_cell? w1 _ (c5 _ _ (plc_get F (n := 8704) (i := 0) (by decide)) 0 (by decide)), c5, hgl, hC⟩
  have hS := hS0.below hB2
  obtain ⟨d1, d2⟩ := tab_cells hS.t
  have b2 : Hid (Below w.heap.size w w2) := b1.trans (hB2.mono b1.size)
  have hlt : Hid (w.heap.size ≤ w1.heap.size) := b1.size
  have HH : Hid (∀ (Q : Exit → Act → World → Prop) (a : Act), (∀ a' w' v1' pv' uv', At 67 [(0, .pointer (some ⟨T0, 0, none⟩)), (1, v1'), (5, .pointer (some ⟨w1.heap.size + 2, 0, none⟩)), (16, .slice (some ⟨pg, 0, none⟩) 8704 pc), (17, .int .i64 8704), (18, .int .i64 (8704 : Nat))] a' → Mk w' w1.heap.size (w1.heap.size + 2) w1.heap.size (w1.heap.size + 1) pv' uv' (unl (over F L) 8704) (plcs (over F L) 8704) → Below w1.heap.size w2 w' → Q .normal a' w') → At 67 [(0, .pointer (some ⟨T0, 0, none⟩)), (1, v), (5, .pointer (some ⟨w1.heap.size + 2, 0, none⟩)), (16, .slice (some ⟨pg, 0, none⟩) 8704 pc), (17, .int .i64 8704), (18, .int .i64 (0 : Nat))] a → Code.wp Try.prog (sq 1 (hd (sq 3 body37))) Q a w2) := fun Q a hq ha => laid_loop L F _ _ _ _ T0 pg pc ug uc g off _ _ v a w2 hok hF hV hS hM hq ha
  clear hV hC hS hS0 hM c1 c2 c3 c4 c5 hRw hR HR b1 hB2 hgl hT d2
  rw [hL.out] at HH
  have HH2 : Hid _ := HH.out
  clear HH
  go_wp2
  refine HH2.out _ _ (fun a3 w3 v3 pv3 uv3 ha3 hM3 hB3 => ?_) ⟨rfl, rfl, rfl, rfl, rfl, rfl, rfl, rfl, trivial⟩
  rename_i K2 hK2
  refine hK2 _ _ ?_
  obtain ⟨m0, -⟩ := tab_cells hM3.m
  have t3 : Hid (TabAt w3 w1.heap.size (over F L)) := hM3.tab
  have B3 : Hid (Below w.heap.size w w3) := b2.out.trans (hB3.mono hlt.out)
  clear hM3 hB3 HH2 hK2
  obtain ⟨f2, rfl, h0, h1, h5, h16, h17, h18, -⟩ := ha3.lit
  change Code.wp _ _ _ ⟨#[f2 0, f2 1, f2 2, f2 3, f2 4, f2 5, f2 6, f2 7, f2 8, f2 9, f2 10, f2 11, f2 12, f2 13, f2 14, f2 15, f2 16, f2 17, f2 18, f2 19, f2 20, f2 21, f2 22, f2 23, f2 24, f2 25, f2 26, f2 27, f2 28, f2 29, f2 30, f2 31, f2 32, f2 33, f2 34, f2 35, f2 36, f2 37, f2 38, f2 39, f2 40, f2 41, f2 42, f2 43, f2 44, f2 45, f2 46, f2 47, f2 48, f2 49, f2 50, f2 51, f2 52, f2 53, f2 54, f2 55, f2 56, f2 57, f2 58, f2 59, f2 60, f2 61, f2 62, f2 63, f2 64, f2 65, f2 66], []⟩ _
  simp only at h0 h1 h5 h16 h17 h18
  simp only [h0, h1, h5, h16, h17, h18]
  clear h0 h1 h5 h16 h17 h18
  go_wp2
  go_ret
  exact ⟨_, rfl, t3.out, B3.out⟩
end Go.Proofs.Ytookbgmolggohaa
