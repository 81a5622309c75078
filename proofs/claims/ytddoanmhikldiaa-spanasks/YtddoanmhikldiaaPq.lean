/-
  The contracts of the document's Put and Make. Conditions: the lists' spans may be; the lists are not too long.
-/
import Derived.Test.YtddoanmhikldiaaPp
import Derived.Test.YtddoanmhikldiaaMk
namespace Go.Proofs.Ytddoanmhikldiaa
open Go.RowKit
theorem in_block {id : Nat} {Q : Exit → Act → World → Prop} {a : Act} {w : World} (h : Q .normal a w) : Exit.inBlock id Q (.exit id) a w := by
  show (if id = id then Q .normal a w else Q (.exit id) a w)
  rw [if_pos rfl]
  exact h
set_option maxRecDepth 100000 in
set_option maxHeartbeats 2000000 in
theorem in20_any {Q : Exit → Act → World → Prop} (A B : List Sn) (E : List Int) (pa pb : Option Addr) (ca cb ge oe ce way i D : Nat) (vo : Value) (a : Act) (w : World) (hw : way = 0 ∨ way = 1 ∨ way = 2 ∨ way = 3) (hD : D ≤ w.heap.size) (hi : i < E.length) (hlE : E.length ≤ 100000000) (hfit : ∀ z ∈ E, 0 ≤ z ∧ z ≤ 1114111)
    (hla : A.length ≤ 1000000) (hlb : B.length ≤ 1000000) (hO : w.ownsRow D 58 2 vo (putK E (fun p => opB way (hasB A p) (hasB B p)) i).length (celS (putK E (fun p => opB way (hasB A p) (hasB B p)) i))) (hset : isS 0 (putK E (fun p => opB way (hasB A p) (hasB B p)) i) = true) (hlo : (putK E (fun p => opB way (hasB A p) (hasB B p)) i).length ≤ i)
    (hrE : ∀ j, j < E.length → w.cell? ⟨ge, oe + j, none⟩ = some (.int .i32 (E.getD j 0))) (hra : RdS w (.slice pa A.length ca) A) (hrb : RdS w (.slice pb B.length cb) B)
    (hQ : ∀ a w' vo', Below D w w' → w'.ownsRow D 58 2 vo' (putK E (fun p => opB way (hasB A p) (hasB B p)) (i + 1)).length (celS (putK E (fun p => opB way (hasB A p) (hasB B p)) (i + 1))) → At 111 [(0, .slice pa A.length ca), (1, .slice pb B.length cb), (2, .int .i64 (way : Nat)), (7, .slice (some ⟨ge, oe, none⟩) E.length ce), (8, vo'), (9, .int .i64 (i : Nat))] a → Q .normal a w' ∧ Q (.exit 1) a w') (ha : At 111 [(0, .slice pa A.length ca), (1, .slice pb B.length cb), (2, .int .i64 (way : Nat)), (7, .slice (some ⟨ge, oe, none⟩) E.length ce), (8, vo), (9, .int .i64 (i : Nat))] a) : Code.wp Try.prog in20 Q a w := by
  have hcell : ∀ (w1 : World), Below w.heap.size w w1 → ∀ j, j < E.length → w1.cell? ⟨ge, oe + j, none⟩ = some (.int .i32 (E.getD j 0)) := fun w1 hb j hj => (hb.cell (p := ⟨ge, oe + j, none⟩) (by simpa using World.block_lt_of_cell? w _ (hrE j hj))).trans (hrE j hj)
  refine put_A A B E pa pb ca cb ge oe ce way i vo (E.getD i 0) (toE E i) (hasB A (E.getD i 0)) (hasB B (E.getD i 0)) a w hi hlE rfl hfit (fun w1 hb => hcell w1 hb i hi) (fun h => hrE (i + 1) h) (fun w1 hb => rhas_any A _ _ w1 (hra.below hb) (by omega)) (fun w1 hb => rhas_any B _ _ w1 (hrb.below hb) (by omega)) (fun a w1 hb1 ha1 => ?_) ha
  refine put_B A B E pa pb ca cb ge oe ce way i vo (toE E i) _ _ a w1 hw (fun hin a ha2 => ?_) (fun hin a ha2 => ?_) ha1
  · have hO1 := owns_below hO hb1
    have hD1 : D ≤ w1.heap.size := Nat.le_trans hD hb1.size
    have hg : putK E (fun p => opB way (hasB A p) (hasB B p)) (i + 1) = glue (putK E (fun p => opB way (hasB A p) (hasB B p)) i) (E.getD i 0, toE E i) := by
      show (if opB way (hasB A (E.getD i 0)) (hasB B (E.getD i 0)) then _ else _) = _
      rw [if_pos hin]
    rw [hg] at hQ
    have hE1 : ∀ w2 : World, Below w1.heap.size w1 w2 → w2.cell? ⟨ge, oe + i, none⟩ = some (.int .i32 (E.getD i 0)) := fun w2 hb2 => hcell w2 (hb1.trans (hb2.mono hb1.size)) i hi
    have hQ1 : ∀ a w' vo', Below D w1 w' → w'.ownsRow D 58 2 vo' (glue (putK E (fun p => opB way (hasB A p) (hasB B p)) i) (E.getD i 0, toE E i)).length (celS (glue (putK E (fun p => opB way (hasB A p) (hasB B p)) i) (E.getD i 0, toE E i))) → At 111 [(0, .slice pa A.length ca), (1, .slice pb B.length cb), (2, .int .i64 (way : Nat)), (7, .slice (some ⟨ge, oe, none⟩) E.length ce), (8, vo'), (9, .int .i64 (i : Nat))] a → Q .normal a w' := fun a w' vo' hb hown hat => (hQ a w' vo' ((hb1.mono hD).trans hb) hown hat).1
    generalize putK E (fun p => opB way (hasB A p) (hasB B p)) i = o at *
    rcases snoc_or o with rfl | ⟨y, ⟨t1, t2⟩, rfl⟩
    · obtain ⟨po, co, rfl, _, _⟩ := owns_slice hO1
      exact put_C0 A B E pa pb ca cb ge oe ce way i D [] _ _ a w1 po co rfl hD1 hi hO1 hE1 hQ1 ha2
    · have hlen : (y ++ [(t1, t2)]).length = y.length + 1 := by simp
      rw [hlen] at hO1 hlo
      obtain ⟨po, co, rfl, _, hn⟩ := owns_slice hO1
      obtain ⟨g, rfl⟩ := hn (by omega)
      have ht := may_iff.1 (isS_snoc.1 hset).2.1
      simp only at ht
      have hc := (owns_cell hO1 rfl (y.length * 2 + 1) (.int .i32 t2) (by rw [celS_snoc, List.getElem?_append_right (by rw [celS_len]; omega), celS_len, show y.length * 2 + 1 - y.length * 2 = 1 by omega]; rfl)).1
      have hT0 : Hid (w1.cell? ⟨g, 0 + y.length * 2 + 1, none⟩ = some (.int .i32 t2)) := by rw [Hid, Nat.zero_add]; exact hc
      by_cases he : t2 + 1 = E.getD i 0
      · exact put_C2 A B E pa pb ca cb ge oe ce way i D _ _ _ a w1 g y.length co t2 (by omega) hlen ⟨by omega, by omega⟩ hT0 he (y ++ [(t1, toE E i)]) (by simp) (by rw [glue_snoc, if_pos he]) (celS_set y t1 t2 _) hD1 hi hO1 hE1 hQ1 ha2
      · exact put_C1 A B E pa pb ca cb ge oe ce way i D _ _ _ a w1 g y.length co t2 (by omega) hlen ⟨by omega, by omega⟩ hT0 (by simpa using he) (by rw [glue_snoc, if_neg he]) hD1 hi hO1 hE1 hQ1 ha2
  · have hg : putK E (fun p => opB way (hasB A p) (hasB B p)) (i + 1) = putK E (fun p => opB way (hasB A p) (hasB B p)) i := by
      show (if opB way (hasB A (E.getD i 0)) (hasB B (E.getD i 0)) then _ else _) = _
      rw [if_neg (by rw [hin]; simp)]
    rw [hg] at hQ
    exact (hQ a w1 vo (hb1.mono hD) (owns_below hO hb1) ha2).2
set_option maxRecDepth 100000 in
set_option maxHeartbeats 2000000 in
theorem put_loop {Q : Exit → Act → World → Prop} (A B : List Sn) (E : List Int) (pa pb : Option Addr) (ca cb ge oe ce way D : Nat) (vo0 : Value) (a : Act) (w : World) (hw : way = 0 ∨ way = 1 ∨ way = 2 ∨ way = 3) (hD : D ≤ w.heap.size) (hlE : E.length ≤ 100000000) (hfit : Hid (∀ z ∈ E, 0 ≤ z ∧ z ≤ 1114111))
    (hla : A.length ≤ 1000000) (hlb : B.length ≤ 1000000) (hO : Hid (w.ownsRow D 58 2 vo0 0 [])) (hset : Hid (∀ i, i ≤ E.length → isS 0 (putK E (fun p => opB way (hasB A p) (hasB B p)) i) = true ∧ (putK E (fun p => opB way (hasB A p) (hasB B p)) i).length ≤ i))
    (hrE : Hid (∀ w1 : World, Below D w w1 → ∀ j, j < E.length → w1.cell? ⟨ge, oe + j, none⟩ = some (.int .i32 (E.getD j 0)))) (hra : Hid (∀ w1 : World, Below D w w1 → RdS w1 (.slice pa A.length ca) A)) (hrb : Hid (∀ w1 : World, Below D w w1 → RdS w1 (.slice pb B.length cb) B))
    (hK : Hid (∀ a w' vo', Below D w w' → w'.ownsRow D 58 2 vo' (putK E (fun p => opB way (hasB A p) (hasB B p)) E.length).length (celS (putK E (fun p => opB way (hasB A p) (hasB B p)) E.length)) → At 111 [(8, vo')] a → Code.wp Try.prog (sq 4 body20) Q a w')) (ha : At 111 [(0, .slice pa A.length ca), (1, .slice pb B.length cb), (2, .int .i64 (way : Nat)), (7, .slice (some ⟨ge, oe, none⟩) E.length ce), (8, vo0)] a) : Code.wp Try.prog (sq 3 body20) Q a w := by
  obtain ⟨f, rfl, h0, h1, h2, h7, h8, -⟩ := ha.lit
  change Code.wp _ _ _ ⟨#[f 0, f 1, f 2, f 3, f 4, f 5, f 6, f 7, f 8, f 9, f 10, f 11, f 12, f 13, f 14, f 15, f 16, f 17, f 18, f 19, f 20, f 21, f 22, f 23, f 24, f 25, f 26, f 27, f 28, f 29, f 30, f 31, f 32, f 33, f 34, f 35, f 36, f 37, f 38, f 39, f 40, f 41, f 42, f 43, f 44, f 45, f 46, f 47, f 48, f 49, f 50, f 51, f 52, f 53, f 54, f 55, f 56, f 57, f 58, f 59, f 60, f 61, f 62, f 63, f 64, f 65, f 66, f 67, f 68, f 69, f 70, f 71, f 72, f 73, f 74, f 75, f 76, f 77, f 78, f 79, f 80, f 81, f 82, f 83, f 84, f 85, f 86, f 87, f 88, f 89, f 90, f 91, f 92, f 93, f 94, f 95, f 96, f 97, f 98, f 99, f 100, f 101, f 102, f 103, f 104, f 105, f 106, f 107, f 108, f 109, f 110], []⟩ _
  simp only at h0 h1 h2 h7 h8
  simp only [h0, h1, h2, h7, h8]
  clear h0 h1 h2 h7 h8
  change Code.wp _ (Code.seq (hd (sq 3 body20)) (sq 4 body20)) _ _ _
  generalize sq 4 body20 = REST at hK ⊢
  conv => arg 2; arg 1; whnf
  go_wp2
  refine wp_loop_ghost_k (fun m a w' => ∃ (k : Nat) (vo : Value), k ≤ E.length ∧ m = E.length - k ∧ At 111 [(0, .slice pa A.length ca), (1, .slice pb B.length cb), (2, .int .i64 (way : Nat)), (7, .slice (some ⟨ge, oe, none⟩) E.length ce), (8, vo), (9, .int .i64 (k : Nat))] a ∧ Below D w w' ∧ w'.ownsRow D 58 2 vo (putK E (fun p => opB way (hasB A p) (hasB B p)) k).length (celS (putK E (fun p => opB way (hasB A p) (hasB B p)) k))) E.length ⟨0, vo0, Nat.zero_le _, rfl, ⟨rfl, rfl, rfl, rfl, rfl, rfl, rfl, rfl, trivial⟩, Below.refl _ _, hO.out⟩ ?_
  rintro m a wr ⟨k, vo, hk, rfl, ha, hB, hO⟩ J0 K1 hJ hK1
  by_cases c : k < E.length
  · have hin : Hid (∀ (Q : Exit → Act → World → Prop) (a : Act), (∀ a w' vo', Below D wr w' → w'.ownsRow D 58 2 vo' (putK E (fun p => opB way (hasB A p) (hasB B p)) (k + 1)).length (celS (putK E (fun p => opB way (hasB A p) (hasB B p)) (k + 1))) → At 111 [(0, .slice pa A.length ca), (1, .slice pb B.length cb), (2, .int .i64 (way : Nat)), (7, .slice (some ⟨ge, oe, none⟩) E.length ce), (8, vo'), (9, .int .i64 (k : Nat))] a → Q .normal a w' ∧ Q (.exit 1) a w') → At 111 [(0, .slice pa A.length ca), (1, .slice pb B.length cb), (2, .int .i64 (way : Nat)), (7, .slice (some ⟨ge, oe, none⟩) E.length ce), (8, vo), (9, .int .i64 (k : Nat))] a → Code.wp Try.prog in20 Q a wr) := fun Q a hQ ha => in20_any A B E pa pb ca cb ge oe ce way k D vo a wr hw (Nat.le_trans hD hB.size) c hlE hfit.out hla hlb hO (hset.out k hk).1 (hset.out k hk).2 (hrE.out wr hB) (hra.out wr hB) (hrb.out wr hB) hQ ha
    have hkl : (k : Int) < (E.length : Int) := by omega
    have hc := show Hid _ from c
    have HB := show Hid _ from hB
    have hJ := show Hid _ from hJ
    change Code.wp _ (Code.seq (hd loop20) (Code.seq (Code.block 1 in20) (sq 2 loop20))) _ _ _
    generalize in20 = IN at hin ⊢
    conv => arg 2; arg 1; whnf
    conv => arg 2; arg 2; arg 2; whnf
    clear hK hra hrb hrE hfit hset hB hk c hO
    obtain ⟨f, rfl, h0, h1, h2, h7, h8, h9, -⟩ := ha.lit
    change Code.wp _ _ _ ⟨#[f 0, f 1, f 2, f 3, f 4, f 5, f 6, f 7, f 8, f 9, f 10, f 11, f 12, f 13, f 14, f 15, f 16, f 17, f 18, f 19, f 20, f 21, f 22, f 23, f 24, f 25, f 26, f 27, f 28, f 29, f 30, f 31, f 32, f 33, f 34, f 35, f 36, f 37, f 38, f 39, f 40, f 41, f 42, f 43, f 44, f 45, f 46, f 47, f 48, f 49, f 50, f 51, f 52, f 53, f 54, f 55, f 56, f 57, f 58, f 59, f 60, f 61, f 62, f 63, f 64, f 65, f 66, f 67, f 68, f 69, f 70, f 71, f 72, f 73, f 74, f 75, f 76, f 77, f 78, f 79, f 80, f 81, f 82, f 83, f 84, f 85, f 86, f 87, f 88, f 89, f 90, f 91, f 92, f 93, f 94, f 95, f 96, f 97, f 98, f 99, f 100, f 101, f 102, f 103, f 104, f 105, f 106, f 107, f 108, f 109, f 110], []⟩ _
    simp only at h0 h1 h2 h7 h8 h9
    simp only [h0, h1, h2, h7, h8, h9]
    clear h0 h1 h2 h7 h8 h9
    go_wp2
    refine hin.out _ _ (fun a w2 vo2 B2 O2 ha => ?_) ⟨rfl, rfl, rfl, rfl, rfl, rfl, rfl, rfl, trivial⟩
    rename_i K2 hK2
    have fin : K2 a w2 := by
      refine hK2 _ _ ?_
      have B3 : Hid (Below D w w2) := HB.out.trans B2
      have O3 := show Hid _ from O2
      clear hK2 B2 O2 hin
      obtain ⟨f, rfl, h0, h1, h2, h7, h8, h9, -⟩ := ha.lit
      change Code.wp _ _ _ ⟨#[f 0, f 1, f 2, f 3, f 4, f 5, f 6, f 7, f 8, f 9, f 10, f 11, f 12, f 13, f 14, f 15, f 16, f 17, f 18, f 19, f 20, f 21, f 22, f 23, f 24, f 25, f 26, f 27, f 28, f 29, f 30, f 31, f 32, f 33, f 34, f 35, f 36, f 37, f 38, f 39, f 40, f 41, f 42, f 43, f 44, f 45, f 46, f 47, f 48, f 49, f 50, f 51, f 52, f 53, f 54, f 55, f 56, f 57, f 58, f 59, f 60, f 61, f 62, f 63, f 64, f 65, f 66, f 67, f 68, f 69, f 70, f 71, f 72, f 73, f 74, f 75, f 76, f 77, f 78, f 79, f 80, f 81, f 82, f 83, f 84, f 85, f 86, f 87, f 88, f 89, f 90, f 91, f 92, f 93, f 94, f 95, f 96, f 97, f 98, f 99, f 100, f 101, f 102, f 103, f 104, f 105, f 106, f 107, f 108, f 109, f 110], []⟩ _
      simp only at h0 h1 h2 h7 h8 h9
      simp only [h0, h1, h2, h7, h8, h9]
      clear h0 h1 h2 h7 h8 h9
      go_wp2
      refine Handed.intro (E.length - (k + 1)) (by have := hc.out; omega) (hJ.out _ _ _ ⟨k + 1, vo2, hc.out, rfl, ?_, B3.out, O3.out⟩)
      rw [show ((k + 1 : Nat) : Int) = (k : Int) + 1 by omega]
      exact ⟨rfl, rfl, rfl, rfl, rfl, rfl, rfl, rfl, trivial⟩
    exact ⟨fin, in_block fin⟩
  · have hkb : k = E.length := by omega
    subst hkb
    have HB := show Hid _ from hB
    have HO := show Hid _ from hO
    clear hJ hK1 c hk hB hO hrE hra hrb hset hfit
    obtain ⟨f, rfl, h0, h1, h2, h7, h8, h9, -⟩ := ha.lit
    change Code.wp _ _ _ ⟨#[f 0, f 1, f 2, f 3, f 4, f 5, f 6, f 7, f 8, f 9, f 10, f 11, f 12, f 13, f 14, f 15, f 16, f 17, f 18, f 19, f 20, f 21, f 22, f 23, f 24, f 25, f 26, f 27, f 28, f 29, f 30, f 31, f 32, f 33, f 34, f 35, f 36, f 37, f 38, f 39, f 40, f 41, f 42, f 43, f 44, f 45, f 46, f 47, f 48, f 49, f 50, f 51, f 52, f 53, f 54, f 55, f 56, f 57, f 58, f 59, f 60, f 61, f 62, f 63, f 64, f 65, f 66, f 67, f 68, f 69, f 70, f 71, f 72, f 73, f 74, f 75, f 76, f 77, f 78, f 79, f 80, f 81, f 82, f 83, f 84, f 85, f 86, f 87, f 88, f 89, f 90, f 91, f 92, f 93, f 94, f 95, f 96, f 97, f 98, f 99, f 100, f 101, f 102, f 103, f 104, f 105, f 106, f 107, f 108, f 109, f 110], []⟩ _
    simp only at h0 h1 h2 h7 h8 h9
    simp only [h0, h1, h2, h7, h8, h9]
    clear h0 h1 h2 h7 h8 h9
    change Code.wp _ loop20 _ _ _
    conv => arg 2; whnf
    go_wp2
    exact hK.out _ _ _ HB.out HO.out ⟨rfl, rfl, rfl, trivial⟩
set_option maxRecDepth 100000 in
set_option maxHeartbeats 2000000 in
theorem put_any (A B : List Sn) (va vb : Value) (way : Nat) (w : World) (hw : way = 0 ∨ way = 1 ∨ way = 2 ∨ way = 3) (ha : RdS w va A) (hb : RdS w vb B) (hma : ∀ s ∈ A, mayB s = true) (hmb : ∀ s ∈ B, mayB s = true) (hla : A.length ≤ 1000000) (hlb : B.length ≤ 1000000) : Calls Try.prog 20 #[va, vb, .int .i64 (way : Nat)] w fun e w' => ∃ v' X, e = .returned v' ∧ w'.ownsRow w.heap.size 58 2 v' X.length (celS X) ∧ isS 0 X = true ∧ (∀ p, hasB X p = (decide (0 ≤ p) && decide (p < 1114112) && opB way (hasB A p) (hasB B p))) ∧ X.length ≤ 1 + 2 * A.length + 2 * B.length ∧ Below w.heap.size w w' := by
  have HA : Hid (RdS w va A) := ha
  have HB : Hid (RdS w vb B) := hb
  obtain ⟨pa, ca, rfl, _, _⟩ := ha
  obtain ⟨pb, cb, rfl, _, _⟩ := hb
  have HP : Hid _ := put_all A B way hma hmb
  have hLE : Hid ((edF (edF [0] A) B).length ≤ 1 + 2 * A.length + 2 * B.length) := by
    have l1 := edF_len A [0]
    have l2 := edF_len B (edF [0] A)
    simp only [List.length_cons, List.length_nil] at l1
    rw [Hid]; omega
  have hfit : Hid (∀ z ∈ edF (edF [0] A) B, 0 ≤ z ∧ z ≤ 1114111) := by
    intro x hx
    rw [edF_mem, edF_mem] at hx
    rcases hx with (h | ⟨s, hs, q⟩) | ⟨s, hs, q⟩
    · simp at h; omega
    · have := may_iff.1 (hma s hs); omega
    · have := may_iff.1 (hmb s hs); omega
  have HMA : Hid (∀ s ∈ A, mayB s = true) := hma
  have HMB : Hid (∀ s ∈ B, mayB s = true) := hmb
  clear hma hmb
  have HL : Hid (∀ (E : List Int) (ge oe ce D : Nat) (vo0 : Value) (a : Act) (w1 : World) (Q : Exit → Act → World → Prop), edF (edF [0] A) B = E → D ≤ w1.heap.size → w1.ownsRow D 58 2 vo0 0 [] → (∀ w2 : World, Below D w1 w2 → ∀ j, j < E.length → w2.cell? ⟨ge, oe + j, none⟩ = some (.int .i32 (E.getD j 0))) → (∀ w2 : World, Below D w1 w2 → RdS w2 (.slice pa A.length ca) A) → (∀ w2 : World, Below D w1 w2 → RdS w2 (.slice pb B.length cb) B) → (∀ a w' vo', Below D w1 w' → w'.ownsRow D 58 2 vo' (putK E (fun p => opB way (hasB A p) (hasB B p)) E.length).length (celS (putK E (fun p => opB way (hasB A p) (hasB B p)) E.length)) → At 111 [(8, vo')] a → Code.wp Try.prog (sq 4 body20) Q a w') → At 111 [(0, .slice pa A.length ca), (1, .slice pb B.length cb), (2, .int .i64 (way : Nat)), (7, .slice (some ⟨ge, oe, none⟩) E.length ce), (8, vo0)] a → Code.wp Try.prog (sq 3 body20) Q a w1) := by
    rintro E ge oe ce D vo0 a w1 Q rfl h1 h2 h3 h4 h5 h6 h7
    exact put_loop A B _ pa pb ca cb ge oe ce way D vo0 a w1 hw h1 (by have := hLE.out; omega) hfit hla hlb h2 (fun i hi => ⟨(HP.out i hi).1, (HP.out i hi).2.2⟩) h3 h4 h5 h6 h7
  go_enter Try.func20, Try.ntmps20
  change Code.wp _ (Code.seq (hd (sq 0 body20)) (Code.seq (hd (sq 1 body20)) (Code.seq (hd (sq 2 body20)) (sq 3 body20)))) _ _ _
  generalize sq 3 body20 = REST at HL ⊢
  conv => arg 2; arg 1; whnf
  conv => arg 2; arg 2; arg 1; whnf
  conv => arg 2; arg 2; arg 2; arg 1; whnf
  go_wp2_with fail
  have bW : Hid (Below w.heap.size w (w.alloc (.cells #[.slice pa A.length ca, .slice pb B.length cb] 23))) := (Below.refl _ _).alloc (Nat.le_refl _) _
  refine (edges_any A B _ _ w.heap.size _ (HA.out.below bW.out) (HB.out.below bW.out) (cells_new w #[.slice pa A.length ca, .slice pb B.length cb] 23 0 _ rfl) (cells_new w #[.slice pa A.length ca, .slice pb B.length cb] 23 1 _ rfl) HMA.out HMB.out hla hlb).mono ?_
  rintro e w1 ⟨v', rfl, R1, B1⟩
  have B2 : Hid (Below w.heap.size w w1) := bW.out.trans (B1.mono bW.out.size)
  obtain ⟨ge, oe, ce, rfl, hce, hdE⟩ := R1
  have HD : Hid (∀ j, j < (edF (edF [0] A) B).length → w1.cell? ⟨ge, oe + j, none⟩ = some (.int .i32 ((edF (edF [0] A) B).getD j 0))) := hdE
  obtain ⟨E, hEq⟩ : ∃ E, edF (edF [0] A) B = E := ⟨_, rfl⟩
  rw [hEq] at HD hLE hfit HP ⊢
  have HEQ : Hid (edF (edF [0] A) B = E) := hEq
  clear B1 hdE hce hEq
  go_wp2_with fail
  have O0 := own_none w1 w1.heap.size 58 (Nat.le_refl _)
  have BD : Below w1.heap.size w1 (w1.alloc (.cells #[] 58)) := (Below.refl _ _).alloc (Nat.le_refl _) _
  refine HL.out E ge oe ce w1.heap.size _ _ _ _ HEQ.out (by simp) O0 (fun w2 hb j hj => ?_) (fun w2 hb => ?_) (fun w2 hb => ?_) (fun a w' vo' hb hown hat => ?_) ⟨rfl, rfl, rfl, rfl, rfl, rfl, rfl, trivial⟩
  · exact ((BD.trans hb).cell (p := ⟨ge, oe + j, none⟩) (by simpa using World.block_lt_of_cell? w1 _ (HD.out j hj))).trans (HD.out j hj)
  · exact (HA.out.below B2.out).below (BD.trans hb)
  · exact (HB.out.below B2.out).below (BD.trans hb)
  · have HO := show Hid _ from hown
    have B3 : Hid (Below w.heap.size w w') := B2.out.trans ((BD.trans hb).mono B2.out.size)
    have hzz := B2.out.size
    clear hown hb HL O0 BD
    obtain ⟨f, rfl, h8, -⟩ := hat.lit
    change Code.wp _ _ _ ⟨#[f 0, f 1, f 2, f 3, f 4, f 5, f 6, f 7, f 8, f 9, f 10, f 11, f 12, f 13, f 14, f 15, f 16, f 17, f 18, f 19, f 20, f 21, f 22, f 23, f 24, f 25, f 26, f 27, f 28, f 29, f 30, f 31, f 32, f 33, f 34, f 35, f 36, f 37, f 38, f 39, f 40, f 41, f 42, f 43, f 44, f 45, f 46, f 47, f 48, f 49, f 50, f 51, f 52, f 53, f 54, f 55, f 56, f 57, f 58, f 59, f 60, f 61, f 62, f 63, f 64, f 65, f 66, f 67, f 68, f 69, f 70, f 71, f 72, f 73, f 74, f 75, f 76, f 77, f 78, f 79, f 80, f 81, f 82, f 83, f 84, f 85, f 86, f 87, f 88, f 89, f 90, f 91, f 92, f 93, f 94, f 95, f 96, f 97, f 98, f 99, f 100, f 101, f 102, f 103, f 104, f 105, f 106, f 107, f 108, f 109, f 110], []⟩ _
    simp only at h8
    simp only [h8]
    clear h8
    conv => arg 2; whnf
    go_wp2
    go_ret
    refine ⟨_, _, rfl, ?_, (HP.out E.length (Nat.le_refl _)).1, fun p => ?_, ?_, B3.out⟩
    · obtain ⟨h1, h2 | ⟨g, cap, cur, h3, h4, h5⟩⟩ := HO.out
      · exact ⟨h1, .inl h2⟩
      · exact ⟨h1, .inr ⟨g, cap, cur, h3, Nat.le_trans hzz h4, h5⟩⟩
    · rw [(HP.out E.length (Nat.le_refl _)).2.1 p, bnd_end]
    · exact Nat.le_trans (HP.out E.length (Nat.le_refl _)).2.2 hLE.out
end Go.Proofs.Ytddoanmhikldiaa
