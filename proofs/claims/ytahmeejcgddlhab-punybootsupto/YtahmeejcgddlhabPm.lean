/-
  The contract of read.
-/
import Derived.Test.YtahmeejcgddlhabPl
import Derived.Deep.DeepMust
namespace Go.Proofs.Ytahmeejcgddlhab
open Go.RowKit
theorem rdN_code (p : Bt) (s : ByteArray) (bias : Int) : ∀ (f at_ : Nat) (i w k : Int) (a : Nat) (c : Int), rdN p s bias f at_ i w k = .inl (a, c) → c = 140 ∨ c = 142
  | 0, _, _, _, _, a, c, h => by simp [rdN] at h; omega
  | f + 1, at_, i, w, k, a, c, h => by
    rw [rdN] at h
    split at h
    · simp at h; omega
    · split at h
      · simp at h; omega
      · split at h
        · simp at h
        · split at h
          · simp at h; omega
          · exact rdN_code p s bias f _ _ _ _ a c h
theorem Pw.base {b b' : Nat} {w : World} {v : Value} {ps : List (Int × Nat)} (h : Pw b w v ps) (hb : b' ≤ b) : Pw b' w v ps := by
  obtain ⟨h1, h2 | ⟨g, cap, cur, rfl, h3, h4⟩⟩ := h
  · exact ⟨h1, .inl h2⟩
  · exact ⟨h1, .inr ⟨g, cap, cur, rfl, Nat.le_trans hb h3, h4⟩⟩
theorem rdL_fuel (p : Bt) (s : ByteArray) : ∀ (f g at_ : Nat) (n i bias : Int) (m : Nat), s.size ≤ at_ + f → s.size ≤ at_ + g → rdL p s f at_ n i bias m = rdL p s g at_ n i bias m
  | 0, 0, _, _, _, _, _, _, _ => rfl
  | 0, g + 1, at_, n, i, bias, m, h, _ => by rw [rdL, rdL, if_pos (by omega)]
  | f + 1, 0, at_, n, i, bias, m, _, h => by rw [rdL, rdL, if_pos (by omega)]
  | f + 1, g + 1, at_, n, i, bias, m, h1, h2 => by
    rw [rdL, rdL]
    by_cases c : s.size ≤ at_
    · rw [if_pos c, if_pos c]
    rw [if_neg c, if_neg c]
    cases hr : rdN p s bias (s.size - at_) at_ i 1 p.base with
    | inl e => rfl
    | inr r =>
      obtain ⟨x, last⟩ := r
      have hk := rdN_ok p s bias _ _ _ _ _ _ _ hr (by omega) (by omega)
      simp only
      rw [rdL_fuel p s f g (last + 1) _ _ _ (m + 1) (by omega) (by omega)]
/-- An append of one that is put in. -/
theorem wpList_app2 {ops : Array Oper} {rest : List Oper} {o : Oper} {a : Act} {Q : Exit → Act → World → Prop} {W : World} (hgd : o.guard = none) (s x : Operand) (t : TypeId)
    (ho : o.op = .call { callee := .builtin .append, args := #[s, x], argTypes := #[t, t] })
    (b : Nat) (ht : Try.prog.underlying t = some (.slice 76))
    (v : Value) (ps : List (Int × Nat)) (c : Int) (pl : Nat) (pli : Int) (hpl : pli = (pl : Int)) (hs : a.eval s = v) (hown : Pw b W v ps) (hx : a.eval x = .slice (some ⟨W.heap.size, 0, none⟩) 1 1) (hlen : ps.length < 1000000000) (hb : b ≤ W.heap.size)
    (h : ∀ v' w', Hid (Pw b w' v' (ps ++ [(c, pl)])) → Hid (Below b W w') → wpList Try.prog ops Q rest (a.put o.dst v') w') :
    wpList Try.prog ops Q (o :: rest) a (W.alloc (.cells #[.int .i32 c, .int .i64 pli] 76)) := by
  subst hpl
  obtain ⟨i0, hi, hz0, hz1, hz2⟩ := info_parts info77
  refine wpList_append_own _ hgd _ _ t ho b 76 i0 (.agg #[.int .i32 0, .int .i64 0]) 2 16 ht hi hz0 hz1 hz2 rfl (by decide) v ps.length _ hs (World.ownsRow.alloc hown _) ⟨W.heap.size, 0, none⟩ 1 1 [.int .i32 c, .int .i64 (pl : Int)] hx rfl (cells_new W #[.int .i32 c, .int .i64 (pl : Int)] 76) (by simp [Value.oneCell']) (by unfold maxLen; omega) (by omega) (by simp; omega) ?_
  intro v' w' h1 h2 _
  refine h v' w' ?_ (grown_below hb hown h2)
  unfold Hid Pw
  rw [List.length_append, show putC (ps ++ [(c, pl)]) = putC ps ++ [.int .i32 c, .int .i64 (pl : Int)] by simp [putC]]
  exact h1
set_option maxRecDepth 100000 in
set_option maxHeartbeats 2000000 in
theorem read_any (p : Bt) (s : ByteArray) (at0 m0 : Nat) (w : World) (hp : Okb p) (hs : s.size < 134217728) (ha : at0 ≤ s.size) (hm0 : m0 ≤ at0) :
    Calls Try.prog 36 #[.agg (bv p), .string s, .int .i64 (at0 : Int), .int .i64 (m0 : Int)] w fun e w' => rdA (rdL p s (s.size - at0) at0 p.first 0 p.bias m0) w.heap.size e w' ∧ Below w.heap.size w w' := by
  obtain ⟨F, hF⟩ : ∃ F, Hid (rdL p s (s.size - at0) at0 p.first 0 p.bias m0 = F) := ⟨_, rfl⟩
  rw [hF.out]
  have HN : Hid ((s.size : Int) < 134217728 ∧ 1 ≤ p.first ∧ p.first ≤ 1114111 ∧ 0 ≤ p.bias ∧ p.bias ≤ 10000) := ⟨by omega, hp.f1, hp.f2, hp.i1, hp.i2⟩
  have HB : Hid (Below w.heap.size w (w.alloc (.cells (bv p) 23))) := (Below.refl w.heap.size w).alloc (Nat.le_refl _) _
  have c5 : (w.alloc (.cells (bv p) 23)).cell? ⟨w.heap.size, 5, none⟩ = some (.int .i64 p.bias) := World.cell?_alloc_at _ _ _ _ rfl
  have c6 : (w.alloc (.cells (bv p) 23)).cell? ⟨w.heap.size, 6, none⟩ = some (.int .i64 p.first) := World.cell?_alloc_at _ _ _ _ rfl
  have hl : Hid ((w.alloc (.cells (bv p) 23)).heap[w.heap.size]? = some (.cells (bv p) 23)) := heap_new _ _
  clear hs
  go_enter Try.func36, Try.ntmps36
  go_wp2
  generalize w.alloc (.cells (bv p) 23) = W1 at *
  generalize hO : w.heap.size = O at *
  go_quiet (fail)
  have HB2 : Hid (Below O w (W1.drewN nq)) := below_drewN HB.out _
  have hl2 : Hid ((W1.drewN nq).heap[O]? = some (.cells (bv p) 23)) := hl.out
  go_wp2
  generalize W1.drewN nq = W2 at *
  clear HB hl c5 c6
  go_loopw [2, 3, 11, 12, 13, 14] (fun x2 x3 x11 x12 x13 x14 wr => ∃ (at_ m : Nat) (n i bias : Int), x2 = .int .i64 (at_ : Int) ∧ x3 = .int .i64 (m : Int) ∧ x12 = .int .i64 n ∧ x13 = .int .i64 i ∧ x14 = .int .i64 bias ∧ at_ ≤ s.size ∧ m ≤ at_ ∧ Hid (∃ pre : List (Int × Nat), pre.length ≤ at_ ∧ rdJ pre (rdL p s (s.size - at_) at_ n i bias m) = F ∧ Pw (O + 1) wr x11 pre) ∧ Hid (1 ≤ n ∧ n ≤ 1114111 ∧ 0 ≤ i ∧ i ≤ 2147483647 ∧ 0 ≤ bias ∧ bias ≤ 10000) ∧ Hid (Below O w wr) ∧ Hid (wr.heap[O]? = some (.cells (bv p) 23))) (fun x2 _ _ _ _ _ _ => s.size - (RowKit.intOf x2).toNat)
  case atStart => exact ⟨at0, m0, p.first, 0, p.bias, rfl, rfl, rfl, rfl, rfl, ha, hm0, ⟨[], Nat.zero_le _, by rw [← hF.out]; cases rdL p s (s.size - at0) at0 p.first 0 p.bias m0 <;> rfl, World.ownsRow_nil _ _ _ _⟩, by have h1 := HN.out; exact ⟨h1.2.1, h1.2.2.1, by omega, by omega, h1.2.2.2.1, h1.2.2.2.2⟩, HB2, hl2⟩
  case round =>
    clear hF HB2 hl2 ha hm0
    obtain ⟨at_, m, n, i, bias, rfl, rfl, rfl, rfl, rfl, hat, hm, ⟨pre, hpl, hJ, hPw⟩, H, HB, hl⟩ := hrel
    by_cases c : at_ < s.size
    · have c1 : (at_ : Int) < (s.size : Int) := by omega
      have c2 : decide ((at_ : Int) < (s.size : Int)) = true := decide_eq_true c1
      obtain ⟨n1, n2, i1, i2, b1, b2⟩ := H.out
      have k43 := fun w => readNumber_any p s at_ i bias w hp (by have := HN.out; omega) hat i1 i2 b1 (by omega)
      obtain ⟨f, hf⟩ : ∃ f, s.size - at_ = f + 1 := ⟨s.size - at_ - 1, by omega⟩
      rw [hf, rdL, if_neg (by omega)] at hJ
      have cb := fun (j : Nat) (u : Value) (h : (bv p)[j]? = some u) (W1 : World) (hh : W1.heap[O]? = some (.cells (bv p) 23)) => (show W1.cell? ⟨O, j, none⟩ = some u by simp [World.cell?, hh, h])
      have cb0 := cb 0 (.int .i64 p.base) rfl
      have cb1 := cb 1 (.int .i64 p.least) rfl
      have cb2 := cb 2 (.int .i64 p.most) rfl
      have cb3 := cb 3 (.int .i64 p.skew) rfl
      have cb4 := cb 4 (.int .i64 p.damp) rfl
      have cb5 := cb 5 (.int .i64 p.bias) rfl
      have cb6 := cb 6 (.int .i64 p.first) rfl
      have cb7 := cb 7 (.int .u8 p.btw) rfl
      clear cb
      have a0 := cb0 wr hl.out
      have a1 := cb1 wr hl.out
      have a2 := cb2 wr hl.out
      have a3 := cb3 wr hl.out
      have a4 := cb4 wr hl.out
      have a5 := cb5 wr hl.out
      have a6 := cb6 wr hl.out
      have a7 := cb7 wr hl.out
      have hOw := (Array.getElem?_eq_some_iff.1 hl.out).1
      have hm2 : (m : Int) < 134217728 := by have := HN.out; omega
      cases hr : rdN p s bias (s.size - at_) at_ i 1 p.base with
      | inl e =>
        obtain ⟨ea, ec⟩ := e
        have hcode := rdN_code p s bias _ _ _ _ _ _ _ hr
        have hne : (ec == 0) = false := by simp; omega
        rw [hr] at hJ
        simp only [hr, rdV] at k43
        subst hJ
        clear hPw hpl hcode n1 n2 i1 i2 b1 b2 hf hat hm
        go_wp2_with (go_at_call 44; refine (k43 _).mono ?_)
        rintro e w3 ⟨rfl, b3⟩
        have hB3 : Hid (Below O w w3) := HB.out.trans (b3.mono (by omega))
        clear b3 hm2 k43
        go_wp2
        go_ret3
        exact ⟨rfl, hB3.out⟩
      | inr xl =>
        obtain ⟨x, last⟩ := xl
        have hk := rdN_ok p s bias _ _ _ _ _ _ _ hr (by omega) (by omega)
        rw [hr] at hJ
        simp only [hr, rdV] at k43
        obtain ⟨⟨la1, la2⟩, x1, x2⟩ := hk
        obtain ⟨M, hM⟩ : ∃ M, m + 1 = M := ⟨_, rfl⟩
        have hM2 : (m : Int) + 1 = (M : Int) := by omega
        rw [hM] at hJ
        have hM1 : 1 ≤ (M : Int) := by omega
        have hM3 : (M : Int) ≤ 134217728 := by omega
        have hM0 : ((M : Int) == 0) = false := by simp; omega
        have x0 : 0 ≤ x := by omega
        have q0 := Int.ediv_nonneg x0 (show 0 ≤ (M : Int) by omega)
        have q1 : x / (M : Int) ≤ 2147483647 := by have := Int.ediv_le_self (a := x) (M : Int) x0; omega
        have r0 := Int.emod_nonneg x (show (M : Int) ≠ 0 by omega)
        have r1 := Int.emod_lt_of_pos x (show 0 < (M : Int) by omega)
        have k28 := fun w => adapt_any p (x - i) (M : Int) (i == 0) w hp (by omega) (by omega) hM1 (by omega)
        have ab := adF_bound p hp (x - i) (M : Int) (i == 0) (by omega) (by omega) hM1
        obtain ⟨A, hA⟩ : ∃ A, adF p (x - i) (M : Int) (i == 0) = A := ⟨_, rfl⟩
        simp only [hA] at k28 ab hJ
        obtain ⟨Qd, hQd⟩ : ∃ Qd, x / (M : Int) = Qd := ⟨_, rfl⟩
        obtain ⟨Rd, hRd⟩ : ∃ Rd, x % (M : Int) = Rd := ⟨_, rfl⟩
        rw [hQd] at q0 q1 hJ
        rw [hRd] at r0 r1 hJ
        replace hA : Hid (adF p (x - i) (M : Int) (i == 0) = A) := hA
        have NN : Hid (1 ≤ n ∧ n ≤ 1114111 ∧ 0 ≤ i ∧ i ≤ 2147483647 ∧ 0 ≤ bias ∧ bias ≤ 10000 ∧ (last : Int) < 134217728) := ⟨n1, n2, i1, i2, b1, b2, by have := HN.out; omega⟩
        clear n1 n2 i1 i2 b1 b2 H
        go_wp2_with (go_at_call 44; refine (k43 _).mono ?_)
        rintro e w3 ⟨rfl, b3⟩
        have hB3 : Hid (Below O w w3) := HB.out.trans (b3.mono (by omega))
        have hl3 : Hid (w3.heap[O]? = some (.cells (bv p) 23)) := (b3.block O hOw).trans hl.out
        have hP3 : Pw (O + 1) w3 u11 pre := owns_below hPw b3
        have z0 := cb0 w3 hl3.out
        have z1 := cb1 w3 hl3.out
        have z2 := cb2 w3 hl3.out
        have z3 := cb3 w3 hl3.out
        have z4 := cb4 w3 hl3.out
        have z5 := cb5 w3 hl3.out
        have z6 := cb6 w3 hl3.out
        have z7 := cb7 w3 hl3.out
        have hO3 : O < w3.heap.size := by have := b3.size; omega
        clear a0 a1 a2 a3 a4 a5 a6 a7 b3 hPw k43 hr hl HB
        replace hP3 : Hid (Pw (O + 1) w3 u11 pre) := hP3
        have AB : Hid (0 ≤ A ∧ A ≤ 10000) := ab
        have QR : Hid (0 ≤ Qd ∧ Qd ≤ 2147483647 ∧ 0 ≤ Rd ∧ Rd < (M : Int) ∧ (M : Int) ≤ 134217728 ∧ m + 1 = M) := ⟨q0, q1, r0, r1, hM3, hM⟩
        clear ab q0 q1 r0 r1 hm2 hM3
        have y1 : -2147483648 ≤ x - i := by have := NN.out; omega
        have y2 : x - i ≤ 2147483648 := by have := NN.out; omega
        have xi : wrap64 (x - i) = x - i := by unfold wrap64; omega
        go_wp2_with (go_at_call 41; refine (k28 _).mono ?_)
        rintro e w4 ⟨rfl, b4⟩
        have hB4 : Hid (Below O w w4) := hB3.out.trans (b4.mono (by omega))
        have hl4 : Hid (w4.heap[O]? = some (.cells (bv p) 23)) := (b4.block O hO3).trans hl3.out
        have hP4 : Hid (Pw (O + 1) w4 u11 pre) := owns_below hP3.out b4
        have hO4 : Hid (O < w4.heap.size) := by have := b4.size; show O < w4.heap.size; omega
        clear z0 z1 z2 z3 z4 z5 z6 z7 b4 hP3 hl3 hB3 k28 hO3 y1 y2
        obtain ⟨q0, q1, r0, r1, hM3, hM⟩ := QR.out
        have n3 : n + Qd ≤ 2148597758 := by have := NN.out; omega
        have n4 : 1 ≤ n + Qd := by have := NN.out; omega
        have wn : wrap64 (n + Qd) = n + Qd := by unfold wrap64; omega
        clear q0 q1 r0 r1 hM3
        by_cases t1 : 1114111 < n + Qd
        · rw [if_pos t1] at hJ
          subst hJ
          have t1' : decide (1114111 < n + Qd) = true := decide_eq_true t1
          go_wp2
          go_ret3
          exact ⟨rfl, by rw [hO]; exact hB4.out⟩
        rw [if_neg t1] at hJ
        have t1' : decide (1114111 < n + Qd) = false := decide_eq_false t1
        by_cases t2 : 55296 ≤ n + Qd ∧ n + Qd ≤ 57343
        · rw [if_pos t2] at hJ
          subst hJ
          have t2' : (decide (55296 ≤ n + Qd) && decide (n + Qd ≤ 57343)) = true := by simp [t2]
          go_wp2_with (go_at_call 45; refine (surr_any _ _).mono ?_; rintro e w' ⟨rfl, hw⟩; rw [hw]; clear hw)
          go_wp2
          go_ret3
          exact ⟨rfl, by rw [hO]; exact hB4.out⟩
        rw [if_neg t2] at hJ
        have t2' : (decide (55296 ≤ n + Qd) && decide (n + Qd ≤ 57343)) = false := by simp; omega
        have hn32 : IntKind.i32.wrap (n + Qd) = n + Qd := IntWalk.i32_in _ ⟨by omega, by omega⟩
        subst hRd
        have hpl2 : pre.length < 1000000000 := by have := HN.out; omega
        have hpp : Hid (x % (M : Int) = ((x % (M : Int)).toNat : Int)) := by have := QR.out; show _ = _; omega
        have hO5 : O + 1 ≤ w4.heap.size := hO4.out
        go_wp2_with (first | (go_at_call 45; refine (surr_any _ _).mono ?_; rintro e w' ⟨rfl, hw⟩; rw [hw]; clear hw) | (at_builtin; go_must (refine wpList_app2 rfl _ _ 59 rfl (O + 1) Try.underlying59 u11 pre (n + Qd) _ _ hpp.out rfl hP4.out rfl hpl2 hO5 ?_)))
        intro v' w5 hP5 hB5
        have hne : (A == A) = true := by simp
        clear hne
        have hl5 : Hid (w5.heap[O]? = some (.cells (bv p) 23)) := (hB5.out.block O (by omega)).trans hl4.out
        have hB6 : Hid (Below O w w5) := hB4.out.trans (hB5.out.mono (by omega))
        have KJ : Hid (rdJ (pre ++ [(n + Qd, (x % (M : Int)).toNat)]) (rdL p s (s.size - (last + 1)) (last + 1) (n + Qd) (x % (M : Int) + 1) A M) = F) := by
          show _ = _
          rw [← hJ, rdL_fuel p s (s.size - (last + 1)) f (last + 1) (n + Qd) (x % (M : Int) + 1) A M (by omega) (by omega)]
          cases rdL p s f (last + 1) (n + Qd) (x % (M : Int) + 1) A M <;> simp [rdJ]
        have hend : Hid (last + 1 ≤ s.size ∧ M ≤ last + 1 ∧ Hid (∃ pre : List (Int × Nat), pre.length ≤ last + 1 ∧ rdJ pre (rdL p s (s.size - (last + 1)) (last + 1) (n + Qd) (x % (M : Int) + 1) A M) = F ∧ Pw (O + 1) w5 v' pre) ∧ Hid (1 ≤ n + Qd ∧ n + Qd ≤ 1114111 ∧ 0 ≤ x % (M : Int) + 1 ∧ x % (M : Int) + 1 ≤ 2147483647 ∧ 0 ≤ A ∧ A ≤ 10000) ∧ Hid (Below O w w5) ∧ Hid (w5.heap[O]? = some (.cells (bv p) 23))) :=
          ⟨by omega, by omega, ⟨_, by simp; omega, KJ.out, hP5.out⟩, by have h1 := QR.out; have h2 := AB.out; exact ⟨by omega, by omega, by omega, by omega, h2.1, h2.2⟩, hB6, hl5⟩
        have hla : (last : Int) < 134217728 := by have := NN.out; omega
        have hrr : x % (M : Int) < 134217728 := by have := QR.out; omega
        have hr0 : 0 ≤ x % (M : Int) := by have := QR.out; omega
        clear hJ hP4 hP5 hB5 hB4 hl4 hl5 hB6 KJ hpl hpl2 hpp hO5 t1 t2 n3 n4 wn x1 x2 x0 xi hM2 hM1 hM0 hn32
        go_wp2
        refine ⟨⟨last + 1, M, n + Qd, x % (M : Int) + 1, A, by simp, rfl, rfl, rfl, rfl, hend.out⟩, ?_⟩
        simp [RowKit.intOf]; omega
    · obtain rfl : at_ = s.size := by omega
      rw [Nat.sub_self, rdL] at hJ
      subst hJ
      have c2 : decide ((s.size : Int) < (s.size : Int)) = false := by simp
      obtain ⟨a1, c1, rfl, -⟩ := owns_slice hPw
      have HPw : Hid (Pw (O + 1) wr (.slice a1 pre.length c1) pre) := hPw
      clear hPw hpl
      go_wp2
      go_ret3
      refine ⟨?_, by rw [hO]; exact HB.out⟩
      rw [hO]
      refine ⟨_, rfl, ?_⟩
      rw [List.append_nil]
      exact Pw.base HPw.out (by omega)
end Go.Proofs.Ytahmeejcgddlhab
