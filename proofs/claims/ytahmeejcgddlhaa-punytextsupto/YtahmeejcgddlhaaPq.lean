/-
  The document's Decode: behind a number that is read.
-/
import Derived.Test.YtahmeejcgddlhaaPp
namespace Go.Proofs.Ytahmeejcgddlhaa
open Go.RowKit
noncomputable def body14 : Code := Try.f14.body.getD .skip
/-- The last loop's body. -/
def loopOf : Code → Code
  | .loop c => c
  | .block _ c => loopOf c
  | .seq _ b => loopOf b
  | c => c
def blk : Code → Code
  | .block _ c => c
  | c => c
noncomputable def in14 : Code := blk (sq 1 (loopOf (hd (sq 7 body14))))
/-- What comes behind a number that is read. -/
def rdT (p : Bt) (s : ByteArray) (f : Nat) (n i : Int) (L : List Int) : (Nat × Int) ⊕ (Int × Nat) → (Nat × Int) ⊕ List Int
  | .inl e => .inl e
  | .inr (x, last) =>
    if 1114111 < n + x / ((L.length + 1 : Nat) : Int) then .inl (last, 142)
    else if 55296 ≤ n + x / ((L.length + 1 : Nat) : Int) ∧ n + x / ((L.length + 1 : Nat) : Int) ≤ 57343 then .inl (last, 143)
    else finJ (L.insertIdx (x % ((L.length + 1 : Nat) : Int)).toNat (n + x / ((L.length + 1 : Nat) : Int))) (rdL p s f (last + 1) (n + x / ((L.length + 1 : Nat) : Int)) (x % ((L.length + 1 : Nat) : Int) + 1) (adF p (x - i) ((L.length + 1 : Nat) : Int) (i == 0)) (L.length + 1))
theorem fin_step (p : Bt) (s : ByteArray) (f at_ : Nat) (n i bias : Int) (L : List Int) (h : at_ < s.size) : finJ L (rdL p s (f + 1) at_ n i bias L.length) = rdT p s f n i L (rdN p s bias (s.size - at_) at_ i 1 p.base) := by
  rw [rdL, if_neg (by omega)]
  cases rdN p s bias (s.size - at_) at_ i 1 p.base with
  | inl e => rfl
  | inr r =>
    obtain ⟨x, last⟩ := r
    simp only [rdT]
    split
    · rfl
    · split
      · rfl
      · cases rdL p s f (last + 1) (n + x / ((L.length + 1 : Nat) : Int)) (x % ((L.length + 1 : Nat) : Int) + 1) (adF p (x - i) ((L.length + 1 : Nat) : Int) (i == 0)) (L.length + 1) <;> rfl
set_option maxRecDepth 100000 in
set_option maxHeartbeats 4000000 in
theorem rdec_tail {Q : Exit → Act → World → Prop} (s : ByteArray) (F : (Nat × Int) ⊕ List Int) (ff at2 O : Nat) (n i x bias : Int) (L : List Int) (V : Value) (z : Nat → Value) (a : Act) (w wr : World) (HS : Hid (s.size < 67108865)) (HN : Hid (1 ≤ n ∧ n ≤ 1114111 ∧ 0 ≤ i ∧ i ≤ x ∧ x ≤ 2147483647 ∧ L.length ≤ at2 ∧ at2 < s.size ∧ O ≤ w.heap.size ∧ s.size ≤ at2 + 1 + ff)) (HT : Hid (F = rdT usual s ff n i L (.inr (x, at2)))) (hv : Hid (Rw .i32 21 O wr V L)) (HB : Hid (Below O w wr))
    (hE : Hid (∀ a code, F = .inl (at2, code) → At 149 [(2, .slice none 0 0), (3, .int .i64 (at2 : Int)), (4, .int .i64 code)] a → Q .ret a wr))
    (hK : Hid (∀ a w2 v2 (n2 i2 b2 : Int) (L2 : List Int), L2.length ≤ at2 + 1 → Hid (Rw .i32 21 O w2 v2 L2) → Hid (1 ≤ n2 ∧ n2 ≤ 1114111 ∧ 0 ≤ i2 ∧ i2 ≤ 2147483647 ∧ 0 ≤ b2 ∧ b2 ≤ 10000) → Hid (F = finJ L2 (rdL usual s (s.size - (at2 + 1)) (at2 + 1) n2 i2 b2 L2.length)) → Hid (Below O w w2) → At 149 [(0, .string s), (5, .int .i64 ((at2 + 1 : Nat) : Int)), (7, v2), (9, .int .i64 n2), (10, .int .i64 i2), (11, .int .i64 b2), (1, z 1), (6, z 6), (8, z 8), (19, z 19), (20, z 20), (21, z 21), (22, z 22), (23, z 23), (24, z 24), (25, z 25), (26, z 26), (27, z 27), (28, z 28), (29, z 29), (30, z 30), (31, z 31), (32, z 32), (33, z 33), (34, z 34), (35, z 35), (36, z 36), (37, z 37), (38, z 38), (39, z 39), (40, z 40), (41, z 41), (42, z 42), (43, z 43), (44, z 44), (45, z 45), (46, z 46), (47, z 47), (48, z 48), (49, z 49), (50, z 50), (51, z 51), (148, z 148)] a → Q .normal a w2))
    (ha : At 149 [(0, .string s), (5, .int .i64 (at2 : Int)), (7, V), (9, .int .i64 n), (10, .int .i64 x), (11, .int .i64 bias), (12, .int .i64 i), (1, z 1), (6, z 6), (8, z 8), (19, z 19), (20, z 20), (21, z 21), (22, z 22), (23, z 23), (24, z 24), (25, z 25), (26, z 26), (27, z 27), (28, z 28), (29, z 29), (30, z 30), (31, z 31), (32, z 32), (33, z 33), (34, z 34), (35, z 35), (36, z 36), (37, z 37), (38, z 38), (39, z 39), (40, z 40), (41, z 41), (42, z 42), (43, z 43), (44, z 44), (45, z 45), (46, z 46), (47, z 47), (48, z 48), (49, z 49), (50, z 50), (51, z 51), (148, z 148)] a) : Code.wp Try.prog (sq 2 in14) Q a wr := by
  obtain ⟨M, hM⟩ : ∃ M, L.length + 1 = M := ⟨_, rfl⟩
  have hh := HN.out
  have hs := HS.out
  have hM1 : 1 ≤ (M : Int) := by omega
  have hM3 : (M : Int) ≤ 134217728 := by omega
  have x0 : 0 ≤ x := by omega
  have q0 := Int.ediv_nonneg x0 (show 0 ≤ (M : Int) by omega)
  have q1 : x / (M : Int) ≤ 2147483647 := by have := Int.ediv_le_self (a := x) (M : Int) x0; omega
  have r0 := Int.emod_nonneg x (show (M : Int) ≠ 0 by omega)
  have r1 := Int.emod_lt_of_pos x (show 0 < (M : Int) by omega)
  have k21 := fun w => radapt_any (x - i) (M : Int) (i == 0) w (by omega) (by omega) hM1 (by omega)
  have k21 : ∀ w, Calls Try.prog 21 #[.int .i64 (x - i), .int .i64 (M : Int), .bool (i == 0)] w fun e w' => Hid (e = .returned (.int .i64 (adF usual (x - i) (M : Int) (i == 0))) ∧ w' = w) := k21
  have ab := adF_bound usual usual_ok (x - i) (M : Int) (i == 0) (by omega) (by omega) hM1
  rw [rdT, hM] at HT
  obtain ⟨A, hA⟩ : ∃ A, adF usual (x - i) (M : Int) (i == 0) = A := ⟨_, rfl⟩
  simp only [hA] at k21 ab HT
  obtain ⟨Qd, hQd⟩ : ∃ Qd, x / (M : Int) = Qd := ⟨_, rfl⟩
  rw [hQd] at q0 q1 HT
  have QR : Hid (0 ≤ Qd ∧ 0 ≤ x % (M : Int) ∧ x % (M : Int) < (M : Int) ∧ (M : Int) ≤ 134217728 ∧ L.length + 1 = M ∧ 0 ≤ A ∧ A ≤ 10000) := ⟨q0, r0, r1, hM3, hM, ab.1, ab.2⟩
  have n3 : n + Qd ≤ 9007199254740992 := by omega
  have n4 : 1 ≤ n + Qd := by omega
  have Z1 : Hid (x / (M : Int) = Qd ∧ n + Qd ≤ 9007199254740992 ∧ 1 ≤ n + Qd ∧ wrap64 (n + Qd) = n + Qd ∧ ((M : Int) == 0) = false ∧ 0 ≤ x ∧ x ≤ 9007199254740992) := ⟨hQd, n3, n4, by unfold wrap64; omega, by simp; omega, x0, by omega⟩
  have xi : wrap64 (x - i) = x - i := by unfold wrap64; omega
  have hM2 : (L.length : Int) + 1 = (M : Int) := by omega
  have hM4 : (M : Int) ≤ 9007199254740992 := by omega
  obtain ⟨a1, cc1, hVV, -⟩ := owns_slice hv.out
  subst hVV
  clear hA hh hs hM3 x0 q0 q1 r0 r1 ab hQd n3 n4 hM
  obtain ⟨f, rfl, h0, h5, h7, h9, h10, h11, h12, h1, h6, h8, h19, h20, h21, h22, h23, h24, h25, h26, h27, h28, h29, h30, h31, h32, h33, h34, h35, h36, h37, h38, h39, h40, h41, h42, h43, h44, h45, h46, h47, h48, h49, h50, h51, h148, -⟩ := ha.lit
  change Code.wp _ _ _ ⟨#[f 0, f 1, f 2, f 3, f 4, f 5, f 6, f 7, f 8, f 9, f 10, f 11, f 12, f 13, f 14, f 15, f 16, f 17, f 18, f 19, f 20, f 21, f 22, f 23, f 24, f 25, f 26, f 27, f 28, f 29, f 30, f 31, f 32, f 33, f 34, f 35, f 36, f 37, f 38, f 39, f 40, f 41, f 42, f 43, f 44, f 45, f 46, f 47, f 48, f 49, f 50, f 51, f 52, f 53, f 54, f 55, f 56, f 57, f 58, f 59, f 60, f 61, f 62, f 63, f 64, f 65, f 66, f 67, f 68, f 69, f 70, f 71, f 72, f 73, f 74, f 75, f 76, f 77, f 78, f 79, f 80, f 81, f 82, f 83, f 84, f 85, f 86, f 87, f 88, f 89, f 90, f 91, f 92, f 93, f 94, f 95, f 96, f 97, f 98, f 99, f 100, f 101, f 102, f 103, f 104, f 105, f 106, f 107, f 108, f 109, f 110, f 111, f 112, f 113, f 114, f 115, f 116, f 117, f 118, f 119, f 120, f 121, f 122, f 123, f 124, f 125, f 126, f 127, f 128, f 129, f 130, f 131, f 132, f 133, f 134, f 135, f 136, f 137, f 138, f 139, f 140, f 141, f 142, f 143, f 144, f 145, f 146, f 147, f 148], []⟩ _
  simp only at h0 h5 h7 h9 h10 h11 h12 h1 h6 h8 h19 h20 h21 h22 h23 h24 h25 h26 h27 h28 h29 h30 h31 h32 h33 h34 h35 h36 h37 h38 h39 h40 h41 h42 h43 h44 h45 h46 h47 h48 h49 h50 h51 h148
  simp only [h0, h5, h7, h9, h10, h11, h12, h1, h6, h8, h19, h20, h21, h22, h23, h24, h25, h26, h27, h28, h29, h30, h31, h32, h33, h34, h35, h36, h37, h38, h39, h40, h41, h42, h43, h44, h45, h46, h47, h48, h49, h50, h51, h148]
  clear h0 h5 h7 h9 h10 h11 h12 h1 h6 h8 h19 h20 h21 h22 h23 h24 h25 h26 h27 h28 h29 h30 h31 h32 h33 h34 h35 h36 h37 h38 h39 h40 h41 h42 h43 h44 h45 h46 h47 h48 h49 h50 h51 h148
  conv => arg 2; whnf
  go_wp2_with (go_at_call 21; refine (k21 _).mono ?_)
  intro e w3 hq
  obtain ⟨rfl, hw3⟩ : _ ∧ _ := hq
  rw [hw3]
  clear hw3 k21 xi hM2 hM4
  obtain ⟨hQd, n3, n4, wn, hM0, x0, x9⟩ := Z1.out
  by_cases t1 : 1114111 < n + Qd
  · rw [if_pos t1] at HT
    have t1' : decide (1114111 < n + Qd) = true := decide_eq_true t1
    go_wp2
    exact hE.out _ 142 HT.out ⟨rfl, rfl, rfl, rfl, rfl, trivial⟩
  rw [if_neg t1] at HT
  have t1' : decide (1114111 < n + Qd) = false := decide_eq_false t1
  have hn32 : IntKind.i32.wrap (n + Qd) = n + Qd := IntWalk.i32_in _ ⟨by omega, by omega⟩
  by_cases t2 : 55296 ≤ n + Qd ∧ n + Qd ≤ 57343
  · rw [if_pos t2] at HT
    have t2' : isSc (n + Qd) = false := by unfold isSc; simp; omega
    clear t1 t2
    go_wp2_with (go_at_call 24; refine (rscalar_any _ _).mono ?_; rintro e w' ⟨rfl, hw⟩; rw [hw]; clear hw)
    exact hE.out _ 143 HT.out ⟨rfl, rfl, rfl, rfl, rfl, trivial⟩
  rw [if_neg t2] at HT
  have t2' : isSc (n + Qd) = true := by unfold isSc; simp; omega
  have hlA : L.length < 1000000000 := by have := QR.out; omega
  have hbO : O ≤ wr.heap.size := by have := HB.out.size; have := HN.out; omega
  have T9 : Hid (n + Qd ≤ 1114111) := by show n + Qd ≤ 1114111; omega
  clear t2
  go_wp2_with (first | (go_at_call 24; refine (rscalar_any _ _).mono ?_; rintro e w' ⟨rfl, hw⟩; rw [hw]; clear hw) | (at_builtin; go_must (refine wpList_app1 rfl _ _ 22 rfl O 21 .i32 4 Try.underlying22 info21 (by decide) (.slice a1 L.length cc1) L 0 rfl hv.out rfl hlA hbO ?_)))
  intro v3 w3 hR3 _ hB3
  have hl1 : (L ++ [0]).length = M := by have := QR.out; simp; omega
  obtain ⟨g, cap, rfl, hg, hC⟩ := hR3.out.celc (by have := QR.out; omega)
  rw [hl1] at hC ⊢
  obtain ⟨q0, r0, r1, hM3, hM, A0, A1⟩ := QR.out
  obtain ⟨pp, hpp⟩ : ∃ pp : Nat, x % (M : Int) = (pp : Int) := ⟨(x % (M : Int)).toNat, by omega⟩
  have hpn : (x % (M : Int)).toNat = pp := by omega
  rw [hpn] at HT
  have hpl : pp ≤ L.length := by omega
  have hpM : (pp : Int) < (M : Int) := by omega
  have HB3 : Hid (Below O w w3) := HB.out.trans hB3.out
  have hgd : ∀ j, (L ++ [0]).getD j 0 = L.getD j 0 := fun j => by
    simp only [List.getD_eq_getElem?_getD]
    by_cases c : j < L.length
    · rw [List.getElem?_append_left c]
    · rw [List.getElem?_append_right (by omega), List.getElem?_eq_none (l := L) (by omega)]
      by_cases d : j - L.length = 0
      · rw [d]; rfl
      · rw [List.getElem?_eq_none (by simp; omega)]
  have hC2 : Hid (CelC .i32 21 w3 g cap M (fun j => if j ≤ L.length then L.getD j 0 else L.getD (j - 1) 0)) := hC.congr (fun j hj => by rw [hgd, if_pos (by omega)])
  have hMi : (M : Int) = (L.length : Int) + 1 := by omega
  have hLM : (L.length : Int) = (M : Int) - 1 := by omega
  have hM9 : (M : Int) ≤ 9007199254740992 := by omega
  have hMM : Hid (L.length + 1 = M ∧ pp ≤ L.length) := ⟨hM, hpl⟩
  have Z3 : Hid (n + Qd ≤ 9007199254740992 ∧ wrap64 (n + Qd) = n + Qd ∧ 1 ≤ n + Qd ∧ IntKind.i32.wrap (n + Qd) = n + Qd) := ⟨n3, wn, n4, hn32⟩
  clear hC hgd hR3 hB3 hv hE n3 n4 wn hn32 x0 x9 hQd hM0 t1' t2' r0 r1 q0 A0 A1 hM3 hl1 hlA hbO hMi hM hpl hpn
  replace hpp : Hid (x % (M : Int) = (pp : Int)) := hpp
  go_wp2
  rw [hpp.out] at HT ⊢
  go_loopw [18] (fun z wq => ∃ j : Nat, z = .int .i64 (j : Int) ∧ pp ≤ j ∧ Hid (j < M ∧ CelC .i32 21 wq g cap M (fun y => if y ≤ j then L.getD y 0 else L.getD (y - 1) 0) ∧ Below O w wq)) (fun z _ => (RowKit.intOf z).toNat)
  case atStart => exact ⟨L.length, by rw [hLM], hMM.out.2, by have := hMM.out; omega, hC2.out, HB3.out⟩
  case round =>
    clear hC2 HB3
    obtain ⟨j, rfl, hj, hj2, hC, hB⟩ := hrel
    by_cases c : pp < j
    · obtain ⟨j, rfl⟩ : ∃ j', j = j' + 1 := ⟨j - 1, by omega⟩
      have e : ((j + 1 : Nat) : Int) = (j : Int) + 1 := by omega
      have c1 : (pp : Int) < (j : Int) + 1 := by omega
      have c2 : decide ((pp : Int) < (j : Int) + 1) = true := decide_eq_true c1
      obtain ⟨x1, -⟩ := hC.at j (by omega)
      obtain ⟨y1, y2⟩ := hC.at (j + 1) hj2
      rw [if_pos (by omega)] at x1
      have HE : Hid (j < M ∧ CelC .i32 21 (wr.setCell ⟨g, j + 1, none⟩ (.int .i32 (L.getD j 0))) g cap M (fun y => if y ≤ j then L.getD y 0 else L.getD (y - 1) 0) ∧ Below O w (wr.setCell ⟨g, j + 1, none⟩ (.int .i32 (L.getD j 0)))) :=
        ⟨by omega, (hC.set (j + 1) (L.getD j 0)).congr (fun y hy => by
          by_cases d : y = j + 1
          · subst d; rw [if_pos rfl, if_neg (by omega)]; simp
          · rw [if_neg d]
            by_cases d2 : y ≤ j
            · rw [if_pos (by omega), if_pos d2]
            · rw [if_neg (by omega), if_neg d2]), hB.setCell (by omega) _⟩
      have k1 : (j : Int) + 1 < (M : Int) := by omega
      have k2 : (j : Int) < (M : Int) := by omega
      have k3 : (j : Int) ≤ 9007199254740992 := by omega
      clear hC hB hj2 hMM
      generalize L.getD j 0 = U at *
      rw [e]
      go_wp2
      refine ⟨⟨j, by simp, by omega, HE⟩, ?_⟩
      simp [RowKit.intOf]
    · obtain rfl : pp = j := by omega
      have c2 : decide ((pp : Int) < (pp : Int)) = false := by simp
      obtain ⟨n3, wn, n4, hn32⟩ := Z3.out
      obtain ⟨-, y2⟩ := hC.at pp (by omega)
      obtain ⟨y1, -⟩ := hC.at pp (by omega)
      have hlen : (L.insertIdx pp (n + Qd)).length = M := by rw [len_ins _ _ _ hMM.out.2]; exact hMM.out.1
      have hfin : CelC .i32 21 (wr.setCell ⟨g, pp, none⟩ (.int .i32 (n + Qd))) g cap (L.insertIdx pp (n + Qd)).length (fun y => (L.insertIdx pp (n + Qd)).getD y 0) := by
        rw [hlen]
        refine (hC.set pp (n + Qd)).congr (fun y hy => ?_)
        rw [getD_ins _ _ _ _ hMM.out.2]
        by_cases d : y = pp
        · rw [if_pos d, if_neg (by omega), if_pos d]
        · rw [if_neg d]
          by_cases d2 : y < pp
          · rw [if_pos (by omega), if_pos d2]
          · rw [if_neg (by omega), if_neg d2, if_neg d]
      have hfb : Below O w (wr.setCell ⟨g, pp, none⟩ (.int .i32 (n + Qd))) := hB.setCell (by omega) _
      have hrw := hfin.owns O hg
      rw [hlen] at hrw
      obtain ⟨h1, h2, h3, h4, h5, h6, h7, h8, h9⟩ := HN.out
      have hq := QR.out
      have hp2 := hpp.out
      have KX : Hid (∀ a, At 149 [(0, .string s), (5, .int .i64 ((at2 + 1 : Nat) : Int)), (7, .slice (some ⟨g, 0, none⟩) M cap), (9, .int .i64 (n + Qd)), (10, .int .i64 ((pp : Int) + 1)), (11, .int .i64 A), (1, z 1), (6, z 6), (8, z 8), (19, z 19), (20, z 20), (21, z 21), (22, z 22), (23, z 23), (24, z 24), (25, z 25), (26, z 26), (27, z 27), (28, z 28), (29, z 29), (30, z 30), (31, z 31), (32, z 32), (33, z 33), (34, z 34), (35, z 35), (36, z 36), (37, z 37), (38, z 38), (39, z 39), (40, z 40), (41, z 41), (42, z 42), (43, z 43), (44, z 44), (45, z 45), (46, z 46), (47, z 47), (48, z 48), (49, z 49), (50, z 50), (51, z 51), (148, z 148)] a → Q .normal a (wr.setCell ⟨g, pp, none⟩ (.int .i32 (n + Qd)))) := fun a ha =>
        hK.out a _ _ (n + Qd) ((pp : Int) + 1) A (L.insertIdx pp (n + Qd)) (by rw [hlen]; have := hMM.out; omega) (by rw [hlen] at *; exact hrw) ⟨by omega, by exact T9.out, by omega, by omega, hq.2.2.2.2.2.1, hq.2.2.2.2.2.2⟩ (by
          show _ = _
          rw [HT.out, hlen, rdL_fuel usual s (s.size - (at2 + 1)) ff (at2 + 1) _ _ _ _ (by omega) h9]) hfb ha
      have a9 : (at2 : Int) ≤ 9007199254740992 := by have := HS.out; omega
      have p9 : (pp : Int) ≤ 9007199254740992 := by omega
      clear hC hB hfin hfb hrw h1 h2 h3 h4 h5 h6 h7 h8 h9 hq hp2 hlen hK hj hj2 HT hLM hM9
      go_wp2
      have e1 : ((at2 + 1 : Nat) : Int) = (at2 : Int) + 1 := by omega
      have KX2 := KX.out
      rw [e1] at KX2
      exact KX2 _ ⟨rfl, rfl, rfl, rfl, rfl, rfl, rfl, rfl, rfl, rfl, rfl, rfl, rfl, rfl, rfl, rfl, rfl, rfl, rfl, rfl, rfl, rfl, rfl, rfl, rfl, rfl, rfl, rfl, rfl, rfl, rfl, rfl, rfl, rfl, rfl, rfl, rfl, rfl, rfl, rfl, rfl, rfl, rfl, rfl, rfl, trivial⟩
end Go.Proofs.Ytahmeejcgddlhaa
