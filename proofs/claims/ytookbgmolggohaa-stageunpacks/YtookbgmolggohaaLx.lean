/-
  The contract of laid, whole. Conditions: the rows may be, but there may be more of them than MaxRows; the table's numbers are from 0 to 65535.
-/
import Derived.Test.YtookbgmolggohaaLw
namespace Go.Proofs.Ytookbgmolggohaa
open Go.RowKit
/-- What laid reads: a table and rows, in blocks below B. -/
structure Src (w : World) (B T0 pg pc ug uc g off : Nat) (F : Int → Int) (L : List Rw) : Prop where
  tl : T0 < B
  t : w.heap[T0]? = some (.cells #[.slice (some ⟨pg, 0, none⟩) 8704 pc, .slice (some ⟨ug, 0, none⟩) (unl F 8704).length uc] 76 (0, 0))
  pl : pg < B
  p : ∀ i, i < 8704 → w.cell? ⟨pg, i, none⟩ = some (.int .u16 (plc F i : Nat))
  ul : ug < B
  u : ∀ i f, (unl F 8704)[i]? = some f → ∀ j, j < 128 → w.cell? ⟨ug, i * 128 + j, none⟩ = some (.int .u16 (f j))
  cl : 0 < L.length → g < B
  c : Cel3 w g off L
theorem Src.below {w w' : World} {B T0 pg pc ug uc g off : Nat} {F : Int → Int} {L : List Rw} (h : Src w B T0 pg pc ug uc g off F L) (hb : Below B w w') : Src w' B T0 pg pc ug uc g off F L :=
  ⟨h.tl, (hb.block T0 h.tl).trans h.t, h.pl, fun i hi => (hb.cell (p := ⟨pg, i, none⟩) h.pl).trans (h.p i hi), h.ul, fun i f hf j hj => (hb.cell (p := ⟨ug, i * 128 + j, none⟩) h.ul).trans (h.u i f hf j hj), h.cl, fun j hj => by
    obtain ⟨c1, c2, c3⟩ := h.c j hj
    have hg := h.cl (by omega)
    exact ⟨(hb.cell (p := ⟨g, off + j * 3, none⟩) hg).trans c1, (hb.cell (p := ⟨g, off + j * 3 + 1, none⟩) hg).trans c2, (hb.cell (p := ⟨g, off + j * 3 + 2, none⟩) hg).trans c3⟩⟩
set_option maxRecDepth 100000 in
set_option maxHeartbeats 2000000 in
theorem laid_round {Q : Exit → Act → World → Prop} (L : List Rw) (F : Int → Int) (i k B M T K T0 pg pc ug uc g off : Nat) (pv uv v1 : Value) (a : Act) (w : World) (hok : okF 0 L) (hF : ∀ p, 0 ≤ F p ∧ F p ≤ 65535) (hi : i < 8704) (hk : k ≤ L.length)
    (hV : RestV g off L.length k v1) (hS : Src w B T0 pg pc ug uc g off F L) (hM : Mk w B M T K pv uv (unl (over F L) i) (plcs (over F L) i)) (hT : ∀ r ∈ L.take k, r.2.1 < 128 * (i : Int))
    (hK : ∀ a' w' v1' k' pv' uv', k' ≤ L.length → At 67 [(0, .pointer (some ⟨T0, 0, none⟩)), (1, v1'), (5, .pointer (some ⟨M, 0, none⟩)), (16, .slice (some ⟨pg, 0, none⟩) 8704 pc), (17, .int .i64 8704), (18, .int .i64 (i : Nat))] a' → RestV g off L.length k' v1' → (∀ r ∈ L.take k', r.2.1 < 128 * (i : Int) + 128) → Mk w' B M T K pv' uv' (unl (over F L) (i + 1)) (plcs (over F L) (i + 1)) → Below B w w' → Q .normal a' w')
    (ha : At 67 [(0, .pointer (some ⟨T0, 0, none⟩)), (1, v1), (5, .pointer (some ⟨M, 0, none⟩)), (16, .slice (some ⟨pg, 0, none⟩) 8704 pc), (17, .int .i64 8704), (18, .int .i64 (i : Nat))] a) : Code.wp Try.prog in37 Q a w := by
  have hB := hM.size
  have hR : ∀ p, 0 ≤ over F L p ∧ over F L p ≤ 65535 := over_range hF hok
  -- the last piece
  have h3 : Hid (∀ (b : Nat) (a : Act) (w2 : World) (v2 : Value) (k2 : Nat), k2 ≤ L.length → At 67 [(0, .pointer (some ⟨T0, 0, none⟩)), (1, v2), (5, .pointer (some ⟨M, 0, none⟩)), (8, .pointer (some ⟨b, 0, none⟩)), (9, .int .i32 (128 * (i : Nat) : Int)), (16, .slice (some ⟨pg, 0, none⟩) 8704 pc), (17, .int .i64 8704), (18, .int .i64 (i : Nat))] a → RestV g off L.length k2 v2 → (∀ r ∈ L.take k2, r.2.1 < 128 * (i : Int) + 128) → Below B w w2 → Mk w2 B M T K pv uv (unl (over F L) i) (plcs (over F L) i) → w2.heap[b]? = some (.cells (rowOf .u16 128 (blk (over F L) i)) 72 (0, 0)) → Code.wp Try.prog (sq 3 in37) Q a w2) := by
    intro b a w2 v2 k2 hk2 ha hV2 hT2 hB2 hM2 hb2
    have KA : Hid (Calls Try.prog 49 #[.pointer (some ⟨M, 0, none⟩), .agg (rowOf .u16 128 (blk (over F L) i))] w2 fun e w' => e = .returned (.tuple #[]) ∧ Below B w2 w' ∧ ∃ pv' uv', Mk w' B M T K pv' uv' (unl (over F L) (i + 1)) (plcs (over F L) (i + 1))) := add_any B M T K pv uv (over F L) i w2 hM2 hR hi
    have hrow : Hid (isRow w2 b 128) := ⟨_, 72, hb2, rowOf_size _ _ _⟩
    have hrin : Hid (rowIn w2 b = rowOf .u16 128 (blk (over F L) i)) := by rw [Hid]; unfold rowIn; rw [hb2]
    have HKK : Hid _ := fun a' w' v1' pv' uv' => hK a' w' v1' k2 pv' uv' hk2
    have HV2 : Hid (RestV g off L.length k2 v2) := hV2
    have HT2 : Hid _ := hT2
    have HB2 : Hid _ := hB2
    clear hK hV hS hM hT hM2 hb2 hV2 hT2 hB2
    obtain ⟨f, rfl, h0, h1, h5, h8, h9, h16, h17, h18, -⟩ := ha.lit
    change Code.wp _ _ _ ⟨#[f 0, f 1, f 2, f 3, f 4, f 5, f 6, f 7, f 8, f 9, f 10, f 11, f 12, f 13, f 14, f 15, f 16, f 17, f 18, f 19, f 20, f 21, f 22, f 23, f 24, f 25, f 26, f 27, f 28, f 29, f 30, f 31, f 32, f 33, f 34, f 35, f 36, f 37, f 38, f 39, f 40, f 41, f 42, f 43, f 44, f 45, f 46, f 47, f 48, f 49, f 50, f 51, f 52, f 53, f 54, f 55, f 56, f 57, f 58, f 59, f 60, f 61, f 62, f 63, f 64, f 65, f 66], []⟩ _
    simp only at h0 h1 h5 h8 h9 h16 h17 h18
    simp only [h0, h1, h5, h8, h9, h16, h17, h18]
    clear h0 h1 h5 h8 h9 h16 h17 h18
    generalize rowOf .u16 128 (blk (over F L) i) = X at *
    conv => arg 2; whnf
    go_wp2_with (first | (refine wpList_ld rfl 72 _ rfl b rfl 128 Try.underlying72 rfl (by kernel_rfl) X hrow.out hrin.out ?_) | (go_at_call 49; refine KA.out.mono ?_))
    rintro e w3 ⟨rfl, B3, pv', uv', M3⟩
    go_wp2
    exact HKK.out _ w3 _ _ _ ⟨rfl, rfl, rfl, rfl, rfl, rfl, rfl, rfl, trivial⟩ HV2.out HT2.out M3 (HB2.out.trans B3)
  -- the loop within
  have h2 : Hid (∀ (b : Nat) (a : Act) (w1 : World), b = w.heap.size → At 67 [(0, .pointer (some ⟨T0, 0, none⟩)), (1, v1), (5, .pointer (some ⟨M, 0, none⟩)), (8, .pointer (some ⟨b, 0, none⟩)), (9, .int .i32 (128 * (i : Nat) : Int)), (16, .slice (some ⟨pg, 0, none⟩) 8704 pc), (17, .int .i64 8704), (18, .int .i64 (i : Nat))] a → Below b w w1 → w1.heap[b]? = some (.cells (rowOf .u16 128 (blk F i)) 72 (0, 0)) → Code.wp Try.prog (sq 2 in37) Q a w1) := by
    intro b a w1 hb ha B1 hb1
    change Code.wp _ (Code.seq lp37 (sq 3 in37)) _ _ _
    have hBb : B ≤ b := by omega
    have hfar : ∀ w', Far (fun q => q = b) w1 w' → Below b w1 w' := fun w' hf => hf.toBelow (by have := B1.size; omega) (fun k hk => by omega)
    refine wp_seq (laid_in L F i k b g off v1 _ _ _ a w1 hok hk hi hV (fun w' hf => (hS.below ((B1.mono hBb).trans ((hfar w' hf).mono hBb))).c) hb1 hT ?_ ha)
    intro a' w' v2 k2 hk2 ha2 hV2 hf hT2 hb2
    have B2 : Below b w w' := B1.trans (hfar w' hf)
    exact h3.out b a' w' v2 k2 hk2 ha2 hV2 hT2 (B2.mono hBb) (hM.below (by rw [← hb]; exact B2)) hb2
  -- what is ahead
  change Code.wp _ (Code.seq (hd in37) (Code.seq (hd (sq 1 in37)) (sq 2 in37))) _ _ _
  have hp := hS.p i hi
  have hpl := plc_lt F hi
  have hpm : plc F i < 65536 := by have := unl_len F 8704; omega
  have h1 : Hid (∀ (a : Act), At 67 [(0, .pointer (some ⟨T0, 0, none⟩)), (1, v1), (5, .pointer (some ⟨M, 0, none⟩)), (6, .int .i64 (i : Nat)), (7, .int .u16 (plc F i : Nat)), (16, .slice (some ⟨pg, 0, none⟩) 8704 pc), (17, .int .i64 8704), (18, .int .i64 (i : Nat))] a → Code.wp Try.prog (Code.seq (hd (sq 1 in37)) (sq 2 in37)) Q a w) := fun a ha => by
    refine wp_seq (laid_R6 F i w.heap.size (plc F i) T0 M pg pc ug (unl F 8704).length uc v1 _ a w hi rfl hS.t hpl (hS.u _ _ (plc_get F hi)) ha ?_)
    exact fun a w' ha hb hb' => h2.out _ a w' rfl ha hb hb'
  generalize hm : plc F i = m at *
  generalize (Code.seq (hd (sq 1 in37)) (sq 2 in37)) = REST at *
  clear hK hV hS hM hT h2 h3 hok hF hR hm hk
  obtain ⟨f, rfl, h0, h1, h5, h16, h17, h18, -⟩ := ha.lit
  change Code.wp _ _ _ ⟨#[f 0, f 1, f 2, f 3, f 4, f 5, f 6, f 7, f 8, f 9, f 10, f 11, f 12, f 13, f 14, f 15, f 16, f 17, f 18, f 19, f 20, f 21, f 22, f 23, f 24, f 25, f 26, f 27, f 28, f 29, f 30, f 31, f 32, f 33, f 34, f 35, f 36, f 37, f 38, f 39, f 40, f 41, f 42, f 43, f 44, f 45, f 46, f 47, f 48, f 49, f 50, f 51, f 52, f 53, f 54, f 55, f 56, f 57, f 58, f 59, f 60, f 61, f 62, f 63, f 64, f 65, f 66], []⟩ _
  simp only at h0 h1 h5 h16 h17 h18
  simp only [h0, h1, h5, h16, h17, h18]
  clear h0 h1 h5 h16 h17 h18
  conv => arg 2; arg 1; whnf
  go_wp2
  exact h1.out _ ⟨rfl, rfl, rfl, rfl, rfl, rfl, rfl, rfl, rfl, rfl, trivial⟩
end Go.Proofs.Ytookbgmolggohaa
