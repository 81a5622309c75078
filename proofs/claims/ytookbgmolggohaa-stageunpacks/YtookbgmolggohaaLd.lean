/-
  The contract of laid: a table with rows laid over it. Conditions: the rows may be, but there may be more of them than MaxRows; the table's numbers are from 0 to 65535.
-/
import Derived.Test.YtookbgmolggohaaLa
namespace Go.Proofs.Ytookbgmolggohaa
open Go.RowKit
def blkC : Code → Code
  | .block _ c => c
  | c => c
def lpC : Code → Code
  | .loop c => c
  | c => c
noncomputable def body37 : Code := Try.f37.body.getD .skip
noncomputable def out37 : Code := lpC (blkC (sq 1 (hd (sq 3 body37))))
noncomputable def in37 : Code := blkC (hd (sq 2 out37))
noncomputable def lp37 : Code := hd (sq 2 in37)
/-- What is left of a slice of rows behind its first k. -/
def RestV (g off n k : Nat) (v : Value) : Prop := ∃ a c, v = .slice a (n - k) c ∧ n - k ≤ c ∧ (k < n → a = some ⟨g, off + k * 3, none⟩)
/-- The cells of rows. -/
def Cel3 (w : World) (g off : Nat) (L : List Rw) : Prop := ∀ j, j < L.length → w.cell? ⟨g, off + j * 3, none⟩ = some (.int .i32 (L.getD j (0, 0, 0)).1) ∧ w.cell? ⟨g, off + j * 3 + 1, none⟩ = some (.int .i32 (L.getD j (0, 0, 0)).2.1) ∧ w.cell? ⟨g, off + j * 3 + 2, none⟩ = some (.int .i64 (L.getD j (0, 0, 0)).2.2)
theorem take_snoc3 (L : List Rw) (k : Nat) (h : k < L.length) : L.take (k + 1) = L.take k ++ [L.getD k (0, 0, 0)] := by
  rw [List.take_succ_eq_append_getElem h]
  simp [List.getD, h]
theorem over_cut {F : Int → Int} {L : List Rw} {k : Nat} {p : Int} (h : okF 0 L) (hk : k < L.length) (hp : p < (L.getD k (0, 0, 0)).1) : over F L p = over F (L.take k) p := by
  have e : L = L.take k ++ L.drop k := (List.take_append_drop k L).symm
  have hd : ∀ r ∈ L.drop k, inR r p = false := by
    have h2 : okF 0 (L.take k ++ L.drop k) := by rw [← e]; exact h
    obtain ⟨l', _, h3⟩ := okF_right h2
    rw [List.drop_eq_getElem_cons hk] at h3 ⊢
    have e1 : L.getD k (0, 0, 0) = L[k] := by simp [List.getD, hk]
    rw [e1] at hp
    intro r hr
    rw [Bool.eq_false_iff]
    intro hin
    have := inR_iff.1 hin
    rcases List.mem_cons.1 hr with rfl | hr
    · omega
    · have h5 := okF_mem h3.2.2.2.2.2 r hr
      have := h3.2.1
      omega
  conv => lhs; rw [e]
  rw [over_app]
  have : ∀ (X : List Rw), over (over F (L.drop k)) X p = over F X p := by
    intro X
    induction X with
    | nil => exact over_none hd
    | cons r X ih => show (if inR r p = true then _ else _) = (if inR r p = true then _ else _); rw [ih]
  exact this _
theorem over_step {F : Int → Int} {L : List Rw} {k : Nat} (h : okF 0 L) (hk : k < L.length) (p : Int) : over F (L.take (k + 1)) p = if (L.getD k (0, 0, 0)).1 ≤ p ∧ p ≤ (L.getD k (0, 0, 0)).2.1 then (L.getD k (0, 0, 0)).2.2 else over F (L.take k) p := by
  rw [take_snoc3 L k hk]
  have h2 : okF 0 (L.take k ++ [L.getD k (0, 0, 0)]) := by
    rw [← take_snoc3 L k hk]
    have e : L = L.take (k + 1) ++ L.drop (k + 1) := (List.take_append_drop _ L).symm
    rw [e] at h
    exact (okF_app h).1
  rw [over_snoc h2]
  by_cases c : (L.getD k (0, 0, 0)).1 ≤ p ∧ p ≤ (L.getD k (0, 0, 0)).2.1
  · rw [if_pos c, if_pos (inR_iff.2 c)]
  · rw [if_neg c, if_neg (fun hh => c (inR_iff.1 hh))]
theorem ok_get {L : List Rw} {k : Nat} (h : okF 0 L) (hk : k < L.length) : 0 ≤ (L.getD k (0, 0, 0)).1 ∧ (L.getD k (0, 0, 0)).1 ≤ (L.getD k (0, 0, 0)).2.1 ∧ (L.getD k (0, 0, 0)).2.1 ≤ 1114111 ∧ 0 ≤ (L.getD k (0, 0, 0)).2.2 ∧ (L.getD k (0, 0, 0)).2.2 ≤ 65535 := by
  have e1 : L.getD k (0, 0, 0) = L[k] := by simp [List.getD, hk]
  rw [e1]
  exact okF_mem h _ (List.getElem_mem hk)
theorem ok_before {L : List Rw} {k : Nat} (h : okF 0 L) (hk : k < L.length) : ∀ r ∈ L.take k, r.2.1 < (L.getD k (0, 0, 0)).1 := by
  have h2 : okF 0 (L.take k ++ [L.getD k (0, 0, 0)]) := by
    rw [← take_snoc3 L k hk]
    have e : L = L.take (k + 1) ++ L.drop (k + 1) := (List.take_append_drop _ L).symm
    rw [e] at h
    exact (okF_app h).1
  exact fun r hr => (okF_app h2).2 r hr _ (by simp)
theorem ok_next {L : List Rw} {k : Nat} (h : okF 0 L) (hk : k + 1 < L.length) : (L.getD k (0, 0, 0)).2.1 < (L.getD (k + 1) (0, 0, 0)).1 := ok_before h hk _ (by rw [take_snoc3 L k (by omega)]; simp)
theorem over_cut' {F : Int → Int} {L : List Rw} {k : Nat} {p : Int} (h : okF 0 L) (hk : k < L.length) (hp : p ≤ (L.getD k (0, 0, 0)).2.1) : over F L p = over F (L.take (k + 1)) p := by
  by_cases hk2 : k + 1 < L.length
  · exact over_cut h hk2 (by have := ok_next h hk2; omega)
  · rw [List.take_of_length_le (by omega)]
theorem in_block {i : Nat} {Q : Exit → Act → World → Prop} {a : Act} {w : World} (h : Q .normal a w) : Exit.inBlock i Q (.exit i) a w := by
  simp [Exit.inBlock]; exact h
set_option maxRecDepth 100000 in
set_option maxHeartbeats 2000000 in
theorem laid_in {Q : Exit → Act → World → Prop} (L : List Rw) (F : Int → Int) (i k0 b g off : Nat) (v0 vt vm vp : Value) (a : Act) (w : World) (hok : okF 0 L) (hk0 : k0 ≤ L.length) (hi : i < 8704)
    (hV : RestV g off L.length k0 v0) (hC : ∀ w', Far (fun q => q = b) w w' → Cel3 w' g off L) (hb : w.heap[b]? = some (.cells (rowOf .u16 128 (blk F i)) 72 (0, 0))) (hT : ∀ r ∈ L.take k0, r.2.1 < 128 * (i : Int))
    (hK : ∀ a' w' v1 k, k ≤ L.length → At 67 [(0, vt), (1, v1), (5, vm), (8, .pointer (some ⟨b, 0, none⟩)), (9, .int .i32 (128 * (i : Nat) : Int)), (16, vp), (17, .int .i64 8704), (18, .int .i64 (i : Nat))] a' → RestV g off L.length k v1 → Far (fun q => q = b) w w' → (∀ r ∈ L.take k, r.2.1 < 128 * (i : Int) + 128) → w'.heap[b]? = some (.cells (rowOf .u16 128 (blk (over F L) i)) 72 (0, 0)) → Q .normal a' w')
    (ha : At 67 [(0, vt), (1, v0), (5, vm), (8, .pointer (some ⟨b, 0, none⟩)), (9, .int .i32 (128 * (i : Nat) : Int)), (16, vp), (17, .int .i64 8704), (18, .int .i64 (i : Nat))] a) : Code.wp Try.prog lp37 Q a w := by
  conv => arg 2; whnf
  refine wp_block ?_
  refine wp_loop_ghost_k (fun m a w' => ∃ (k : Nat) (v1 : Value), k ≤ L.length ∧ m = L.length - k ∧ At 67 [(0, vt), (1, v1), (5, vm), (8, .pointer (some ⟨b, 0, none⟩)), (9, .int .i32 (128 * (i : Nat) : Int)), (16, vp), (17, .int .i64 8704), (18, .int .i64 (i : Nat))] a ∧ RestV g off L.length k v1 ∧ Far (fun q => q = b) w w' ∧ (∀ r ∈ L.take k, r.2.1 < 128 * (i : Int) + 128) ∧ w'.heap[b]? = some (.cells (rowOf .u16 128 (fun j => over F (L.take k) (128 * (i : Int) + (j : Int)))) 72 (0, 0))) (L.length - k0) ⟨k0, v0, hk0, rfl, ha, hV, Far.refl _ _, fun r hr => by have := hT r hr; omega, ?_⟩ ?_
  · refine hb.trans (congrArg (fun z => some (Obj.cells z 72 (0, 0))) (rowOf_congr _ _ _ _ fun j hj => ?_))
    unfold blk
    rw [if_pos hj]
    symm
    refine over_none fun r hr => ?_
    rw [Bool.eq_false_iff]
    intro hin
    have := inR_iff.1 hin
    have := hT r hr
    omega
  clear ha hV hb hT hk0
  rintro m a wr ⟨k, v1, hk, rfl, ha, hV, hF, hT, hb⟩ J0 K1 hJ hK1
  have hfin : ∀ (G : Nat → Int), (∀ j, j < 128 → G j = over F L (128 * (i : Int) + (j : Int))) → ∀ w' : World, w'.heap[b]? = some (.cells (rowOf .u16 128 G) 72 (0, 0)) → w'.heap[b]? = some (.cells (rowOf .u16 128 (blk (over F L) i)) 72 (0, 0)) := fun G hG w' hw' => by
    refine hw'.trans (congrArg (fun z => some (Obj.cells z 72 (0, 0))) (rowOf_congr _ _ _ _ fun j hj => ?_))
    unfold blk
    rw [if_pos hj, hG j hj]
  by_cases hkl : k < L.length
  · obtain ⟨av, c, rfl, hc, hav⟩ := hV
    obtain rfl := hav hkl
    have hCk : Hid (∀ w', Far (fun q => q = b) w w' → w'.cell? ⟨g, off + k * 3, none⟩ = some (.int .i32 (L.getD k (0, 0, 0)).1) ∧ w'.cell? ⟨g, off + k * 3 + 1, none⟩ = some (.int .i32 (L.getD k (0, 0, 0)).2.1) ∧ w'.cell? ⟨g, off + k * 3 + 2, none⟩ = some (.int .i64 (L.getD k (0, 0, 0)).2.2)) := fun w' hw' => hC w' hw' k hkl
    have hg0 := ok_get hok hkl
    have hbef : Hid _ := ok_before hok hkl
    have hst := fun p => over_step (F := F) hok hkl p
    have hcut := fun p => over_cut (F := F) (p := p) hok hkl
    have hcut' := fun p => over_cut' (F := F) (p := p) hok hkl
    have hsn := take_snoc3 L k hkl
    generalize L.getD k (0, 0, 0) = r at *
    obtain ⟨x, y, n⟩ := r
    simp only at hCk hg0 hbef hst hcut hcut' hsn
    obtain ⟨g1, g2, g3, g4, g5⟩ := hg0
    have HT : Hid (∀ r ∈ L.take k, r.2.1 < 128 * (i : Int) + 128) := hT
    have HF : Hid (Far (fun q => q = b) w wr) := hF
    have HBk : Hid (wr.heap[b]? = some (.cells (rowOf .u16 128 (fun j => over F (L.take k) (128 * (i : Int) + (j : Int)))) 72 (0, 0))) := hb
    have HST : Hid (∀ p, over F (L.take (k + 1)) p = if x ≤ p ∧ p ≤ y then n else over F (L.take k) p) := hst
    have HSN : Hid (L.take (k + 1) = L.take k ++ [(x, y, n)]) := hsn
    have HCUT : Hid (∀ p, p < x → over F L p = over F (L.take k) p) := hcut
    have HCUT' : Hid (∀ p, p ≤ y → over F L p = over F (L.take (k + 1)) p) := hcut'
    have HFIN : Hid _ := hfin
    have HJ : Hid _ := hJ
    have HK : Hid _ := hK
    have HKL : Hid (k < L.length) := hkl
    have hlen : L.length - k ≠ 0 := by omega
    have hlen' : 0 < L.length - k := by omega
    have HLC : Hid (L.length - k ≤ c) := hc
    obtain ⟨d0, d1, d2⟩ := hCk.out wr hF
    have HOK := show Hid (okF 0 L) from hok
    clear hT hF hb hst hsn hcut hcut' hfin hJ hK hC hok hkl hk hav hc
    generalize hm0 : L.length - k = m0 at *
    replace hm0 : Hid (L.length - k = m0) := hm0
    generalize hp0 : off + k * 3 = p at *
    replace hp0 : Hid (off + k * 3 = p) := hp0
    have a1 : IntKind.i32.wrap (128 * (i : Int) + 128) = 128 * (i : Int) + 128 := IntWalk.i32_in _ (by omega)
    by_cases hx : x < 128 * (i : Int) + 128
    · have hxd : decide (x < 128 * (i : Int) + 128) = true := decide_eq_true hx
      have KL := fun (w1 : World) (h1 : w1.heap[b]? = some (.cells (rowOf .u16 128 (fun j => over F (L.take k) (128 * (i : Int) + (j : Int)))) 72 (0, 0))) => lay_any b _ (128 * (i : Int)) x y n w1 h1 (by omega) (by omega) g1 (by omega) (by omega) g3 g4 g5
      replace KL : Hid _ := KL
      obtain ⟨f, rfl, h0, h1, h5, h8, h9, h16, h17, h18, -⟩ := ha.lit
      change Code.wp _ _ _ ⟨#[f 0, f 1, f 2, f 3, f 4, f 5, f 6, f 7, f 8, f 9, f 10, f 11, f 12, f 13, f 14, f 15, f 16, f 17, f 18, f 19, f 20, f 21, f 22, f 23, f 24, f 25, f 26, f 27, f 28, f 29, f 30, f 31, f 32, f 33, f 34, f 35, f 36, f 37, f 38, f 39, f 40, f 41, f 42, f 43, f 44, f 45, f 46, f 47, f 48, f 49, f 50, f 51, f 52, f 53, f 54, f 55, f 56, f 57, f 58, f 59, f 60, f 61, f 62, f 63, f 64, f 65, f 66], []⟩ _
      simp only at h0 h1 h5 h8 h9 h16 h17 h18
      simp only [h0, h1, h5, h8, h9, h16, h17, h18]
      clear h0 h1 h5 h8 h9 h16 h17 h18
      go_wp2_with (go_at_call 55; refine (KL.out _ HBk.out).mono ?_)
      rintro e w2 ⟨rfl, F2, hb2⟩
      have F3 : Hid (Far (fun q => q = b) w w2) := HF.out.trans F2
      have HB2 : Hid (w2.heap[b]? = some (.cells (rowOf .u16 128 (fun j => over F (L.take (k + 1)) (128 * (i : Int) + (j : Int)))) 72 (0, 0))) := hb2.trans (congrArg (fun z => some (Obj.cells z 72 (0, 0))) (rowOf_congr _ _ _ _ fun j hj => by rw [HST.out]))
      obtain ⟨-, d1', -⟩ := hCk.out w2 F3.out
      clear F2 hb2 KL HBk
      by_cases hy : 128 * (i : Int) + 128 ≤ y
      · have hyd : decide (128 * (i : Int) + 128 ≤ y) = true := decide_eq_true hy
        go_wp2
        exact HK.out _ w2 _ k (Nat.le_of_lt HKL.out) ⟨rfl, rfl, rfl, rfl, rfl, rfl, rfl, rfl, rfl, rfl, trivial⟩ ⟨_, c, by rw [hm0.out], by rw [hm0.out]; exact HLC.out, fun _ => by rw [hp0.out]⟩ F3.out HT.out (HFIN.out _ (fun j hj => (HCUT'.out _ (by omega)).symm) w2 HB2.out)
      · have hyd : decide (128 * (i : Int) + 128 ≤ y) = false := decide_eq_false hy
        have HT2 : Hid (∀ r ∈ L.take (k + 1), r.2.1 < 128 * (i : Int) + 128) := by
          rw [Hid, HSN.out]
          intro r hr
          rcases List.mem_append.1 hr with hr | hr
          · exact HT.out r hr
          · obtain rfl : r = (x, y, n) := by simpa using hr
            simp only
            omega
        go_wp2
        · have h1 := HLC.out
          have h2 := hm0.out
          have h3 := HKL.out
          refine Handed.intro (L.length - (k + 1)) (by omega) (HJ.out _ _ _ ⟨k + 1, _, by omega, rfl, ⟨rfl, rfl, rfl, rfl, rfl, rfl, rfl, rfl, rfl, rfl, trivial⟩, ⟨_, 0, by rw [show L.length - (k + 1) = m0 - 1 by omega], by omega, fun h => by omega⟩, F3.out, HT2.out, HB2.out⟩)
        · have h1 := HLC.out
          have h2 := hm0.out
          have h3 := HKL.out
          have h4 := hp0.out
          refine Handed.intro (L.length - (k + 1)) (by omega) (HJ.out _ _ _ ⟨k + 1, _, by omega, rfl, ⟨rfl, rfl, rfl, rfl, rfl, rfl, rfl, rfl, rfl, rfl, trivial⟩, ⟨_, c - 1, by rw [show L.length - (k + 1) = m0 - 1 by omega], by omega, fun h => by rw [show off + (k + 1) * 3 = p + 3 by omega]⟩, F3.out, HT2.out, HB2.out⟩)
    · have hxd : decide (x < 128 * (i : Int) + 128) = false := decide_eq_false hx
      obtain ⟨f, rfl, h0, h1, h5, h8, h9, h16, h17, h18, -⟩ := ha.lit
      change Code.wp _ _ _ ⟨#[f 0, f 1, f 2, f 3, f 4, f 5, f 6, f 7, f 8, f 9, f 10, f 11, f 12, f 13, f 14, f 15, f 16, f 17, f 18, f 19, f 20, f 21, f 22, f 23, f 24, f 25, f 26, f 27, f 28, f 29, f 30, f 31, f 32, f 33, f 34, f 35, f 36, f 37, f 38, f 39, f 40, f 41, f 42, f 43, f 44, f 45, f 46, f 47, f 48, f 49, f 50, f 51, f 52, f 53, f 54, f 55, f 56, f 57, f 58, f 59, f 60, f 61, f 62, f 63, f 64, f 65, f 66], []⟩ _
      simp only at h0 h1 h5 h8 h9 h16 h17 h18
      simp only [h0, h1, h5, h8, h9, h16, h17, h18]
      clear h0 h1 h5 h8 h9 h16 h17 h18
      go_wp2
      exact HK.out _ wr _ k (Nat.le_of_lt HKL.out) ⟨rfl, rfl, rfl, rfl, rfl, rfl, rfl, rfl, rfl, rfl, trivial⟩ ⟨_, c, by rw [hm0.out], by rw [hm0.out]; exact HLC.out, fun _ => by rw [hp0.out]⟩ HF.out HT.out (HFIN.out _ (fun j hj => (HCUT.out _ (by omega)).symm) wr HBk.out)
  · have hkk : k = L.length := by omega
    subst hkk
    obtain ⟨av, c, rfl, hc, hav⟩ := hV
    have HFIN := show Hid _ from hfin
    have HK := show Hid _ from hK
    rw [List.take_length] at hb
    have HT := show Hid _ from hT
    have HF := show Hid _ from hF
    have HB := show Hid _ from hb
    clear hT hF hb hfin hJ hK hC hok hk hav hkl
    simp only [Nat.sub_self] at *
    have REST : ∀ c, RestV g off L.length L.length (.slice av 0 c) := fun c => ⟨av, c, by rw [Nat.sub_self], by omega, fun h => by omega⟩
    replace REST : Hid _ := REST
    obtain ⟨f, rfl, h0, h1, h5, h8, h9, h16, h17, h18, -⟩ := ha.lit
    change Code.wp _ _ _ ⟨#[f 0, f 1, f 2, f 3, f 4, f 5, f 6, f 7, f 8, f 9, f 10, f 11, f 12, f 13, f 14, f 15, f 16, f 17, f 18, f 19, f 20, f 21, f 22, f 23, f 24, f 25, f 26, f 27, f 28, f 29, f 30, f 31, f 32, f 33, f 34, f 35, f 36, f 37, f 38, f 39, f 40, f 41, f 42, f 43, f 44, f 45, f 46, f 47, f 48, f 49, f 50, f 51, f 52, f 53, f 54, f 55, f 56, f 57, f 58, f 59, f 60, f 61, f 62, f 63, f 64, f 65, f 66], []⟩ _
    simp only at h0 h1 h5 h8 h9 h16 h17 h18
    simp only [h0, h1, h5, h8, h9, h16, h17, h18]
    clear h0 h1 h5 h8 h9 h16 h17 h18
    go_wp2
    exact HK.out _ wr _ L.length (Nat.le_refl _) ⟨rfl, rfl, rfl, rfl, rfl, rfl, rfl, rfl, rfl, rfl, trivial⟩ (REST.out c) HF.out HT.out (HFIN.out _ (fun j hj => rfl) wr HB.out)
end Go.Proofs.Ytookbgmolggohaa
