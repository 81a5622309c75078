/-
  The contract of stands where the table and the rows say the same. Conditions: the rows rise and are no more than 4000000; the code points asked for take no more bytes than there are.
-/
import Derived.Test.YtookbgmolggohaaCo
import Derived.Test.YtookbgmolggohaaWk
import Derived.Test.YtookbgmolggohaaLawA
import Derived.Test.YtookbgmolggohaaSs
namespace Go.Proofs.Ytookbgmolggohaa
open Go.RowKit
/-- A slice of code points that reads as these. -/
def Rd1 (w : World) (v : Value) (A : List Int) : Prop :=
  ∃ a c, v = .slice a A.length c ∧ A.length ≤ c ∧ (0 < A.length → ∃ g off, a = some ⟨g, off, none⟩ ∧ ∀ j, j < A.length → w.cell? ⟨g, off + j, none⟩ = some (.int .i32 (A.getD j 0)))
def fit1 (A : List Int) : Prop := ∀ x ∈ A, -2147483648 ≤ x ∧ x ≤ 2147483647
theorem Rd1.below {w w' : World} {v : Value} {A : List Int} (h : Rd1 w v A) (hb : Below w.heap.size w w') : Rd1 w' v A := by
  obtain ⟨a, c, rfl, hl, hc⟩ := h
  refine ⟨a, c, rfl, hl, fun hp => ?_⟩
  obtain ⟨g, off, rfl, hd⟩ := hc hp
  refine ⟨g, off, rfl, fun j hj => ?_⟩
  have h1 := hd j hj
  have g1 := World.block_lt_of_cell? w _ h1
  exact (hb.cell (p := ⟨g, off + j, none⟩) (by simpa using g1)).trans h1
theorem lk_out {L : List Rw} (h : okF 0 L) {p : Int} (hp : ¬ (0 ≤ p ∧ p ≤ 1114111)) : lk L p = 0 := by
  refine (over_none fun r hr => ?_).trans rfl
  obtain ⟨h1, h2, h3, -⟩ := okF_mem h r hr
  cases hi : inR r p with
  | false => rfl
  | true => have := inR_iff.1 hi; omega
theorem box4 (w : World) (a b c d : Value) (t : TypeId) : ∀ j v, #[a, b, c, d].toList[j]? = some v → (w.alloc (.cells #[a, b, c, d] t)).cell? ⟨w.heap.size, j, none⟩ = some v := fun j v h => by
  have h2 := cells_new w #[a, b, c, d] t j v h
  rwa [show (⟨w.heap.size, 0, none⟩ : Addr).add j = ⟨w.heap.size, j, none⟩ by rw [Go.WideShapes.add_plain, Nat.zero_add]] at h2
/-- The edges of a row. -/
def edg (x y : Int) (j : Nat) : Int := if j = 0 then x - 1 else if j = 1 then x else if j = 2 then y else y + 1
theorem box4_edg (w : World) (x y : Int) (t : TypeId) : ∀ j, j < 4 → (w.alloc (.cells #[.int .i64 (x - 1), .int .i64 x, .int .i64 y, .int .i64 (y + 1)] t)).cell? ⟨w.heap.size, j, none⟩ = some (.int .i64 (edg x y j)) := fun j hj => by
  refine box4 w _ _ _ _ t j _ ?_
  match j, hj with
  | 0, _ => rfl
  | 1, _ => rfl
  | 2, _ => rfl
  | 3, _ => rfl
theorem edg_in {x y : Int} (h1 : 0 ≤ x) (h2 : x ≤ y) (h3 : y ≤ 1114111) (j : Nat) : -1 ≤ edg x y j ∧ edg x y j ≤ 1114112 := by
  unfold edg
  split
  · omega
  · split
    · omega
    · split <;> omega
set_option maxRecDepth 100000 in
set_option maxHeartbeats 4000000 in
theorem stands_any (L : List Rw) (A : List Int) (vt vr va : Value) (n : Int) (w : World) (hT : Tab w vt (lk L)) (hv : ∃ p, vt = .pointer p) (hr : Rd3 .i64 w vr L) (ha : Rd1 w va A) (hfa : fit1 A) (hlA : A.length ≤ 35184372088832) (hok : okF 0 L) (hl : L.length ≤ 4000000) : Calls Try.prog 11 #[vt, vr, va, .int .i64 n] w fun e w' => e = .returned (.bool true) ∧ Below w.heap.size w w' := by
  have hrg := lk_range hok
  have HRN : Hid (Rn (lk L) 0 (runsL L) 1114112) := runs_rn hok
  have hlR : (runsL L).length ≤ 9000000 := by have := runsL_len L; omega
  have HOK : Hid (okF 0 L) := hok
  have KL : Hid (∀ (w1 : World) (p : Int), Below w.heap.size w w1 → Calls Try.prog 13 #[vt, .int .i32 p] w1 fun e w' => e = .returned (.int .i64 (lk L p)) ∧ Below w1.heap.size w1 w') := fun w1 p b1 => by
    have := look_any p w1 vt (lk L) (hT.below b1) hrg
    by_cases hp : 0 ≤ p ∧ p ≤ 1114111
    · rwa [if_pos hp] at this
    · rwa [if_neg hp, ← lk_out hok hp] at this
  have KR : Hid (∀ (w1 : World) (p : Int), Below w.heap.size w w1 → Calls Try.prog 28 #[vr, .int .i64 p] w1 fun e w' => e = .returned (.int .i64 (lk L p)) ∧ Below w1.heap.size w1 w') := fun w1 p b1 => rlook_any L vr p w1 (hr.below b1) (by omega)
  have K1 : Hid (∀ (w1 : World), Below w.heap.size w w1 → Calls Try.prog 20 #[vt] w1 fun e w' => ∃ v, e = .returned v ∧ Rd3 .i32 w' v (lst (runsL L)) ∧ Below w1.heap.size w1 w') := fun w1 b1 => (rows_any vt (lk L) w1 (hT.below b1) hrg).mono fun e w' ⟨v, ys, h1, h2, h3, h4⟩ => by
    rw [Rn.uniq h2 HRN.out] at h3
    exact ⟨v, h1, Rd3.of_owns h3, h4⟩
  have K2 : Hid (∀ (w1 : World), Below w.heap.size w w1 → Calls Try.prog 21 #[vr] w1 fun e w' => ∃ v, e = .returned v ∧ Rd3 .i64 w' v (lst (runsL L)) ∧ Below w1.heap.size w1 w') := fun w1 b1 => (least_any L vr w1 (hr.below b1) hok hl hlR).mono fun e w' ⟨v, h1, h3, h4⟩ => ⟨v, h1, Rd3.of_owns h3, h4⟩
  have hmem : ∀ r ∈ runsL L, 0 ≤ r.1 ∧ r.1 ≤ 1114111 ∧ 0 ≤ r.2.1 ∧ r.2.1 ≤ 1114111 := fun r hr => by
    obtain ⟨m1, m2, m3, -⟩ := (Rn.mem HRN.out).2 r hr
    omega
  have hfl : fit3 (lst (runsL L)) := fun r hr => by
    have hr' := (List.mem_filter.1 hr).1
    obtain ⟨m1, m2, m3, m4⟩ := (Rn.mem HRN.out).2 r hr'
    have := hrg r.1
    rw [m4 r.1 (by omega) (by omega)] at this
    omega
  have K3 : Hid (∀ (w1 : World) (v v' : Value), Rd3 .i32 w1 v (lst (runsL L)) → Rd3 .i64 w1 v' (lst (runsL L)) → Calls Try.prog 17 #[v, v'] w1 fun e w' => e = .returned (.bool true) ∧ Below w1.heap.size w1 w') := fun w1 v v' h1 h2 => rows_same _ v v' w1 h1 h2 hfl (by have := lst_len (runsL L); omega)
  have K4 : Hid (∀ (w1 : World), Below w.heap.size w w1 → Calls Try.prog 29 #[vt, .int .i64 n] w1 fun e w' => e = .returned (.int .i64 (cN (lk L) n 1114112 : Nat)) ∧ Below w1.heap.size w1 w') := fun w1 b1 => count_any vt (lk L) n w1 (hT.below b1) hrg
  have K5 : Hid (∀ (w1 : World), Below w.heap.size w w1 → Calls Try.prog 30 #[vr, .int .i64 n] w1 fun e w' => e = .returned (.int .i64 (cN (lk L) n 1114112 : Nat)) ∧ Below w1.heap.size w1 w') := fun w1 b1 => rcount_any L vr n w1 (hr.below b1) hok hl
  have K6 : Hid (∀ (w1 : World), Below w.heap.size w w1 → Calls Try.prog 32 #[vt, .int .i64 n] w1 fun e w' => ∃ v, e = .returned v ∧ Rd2 w' v (ofN n (runsL L)) ∧ Below w1.heap.size w1 w') := fun w1 b1 => (set_any vt (lk L) n w1 (hT.below b1) hrg hv).mono fun e w' ⟨v, ys, h1, h2, h3, h4⟩ => by
    obtain ⟨s1, s2⟩ := set_is h2 HRN.out
    rw [s1, s2] at h3
    exact ⟨v, h1, Rd2.of_owns h3, h4⟩
  have K7 : Hid (∀ (w1 : World), Below w.heap.size w w1 → Calls Try.prog 12 #[vr] w1 fun e w' => ∃ v, e = .returned v ∧ Rd3 .i64 w' v (runsL L) ∧ Below w1.heap.size w1 w') := fun w1 b1 => (runs_any L vr w1 (hr.below b1) hok hl).mono fun e w' ⟨v, h1, h3, h4⟩ => ⟨v, h1, Rd3.of_owns h3, h4⟩
  have K8 : Hid (∀ (w1 : World) (v v' : Value), Rd2 w1 v (ofN n (runsL L)) → Rd3 .i64 w1 v' (runsL L) → Calls Try.prog 31 #[v, v', .int .i64 n] w1 fun e w' => e = .returned (.bool true) ∧ Below w1.heap.size w1 w') := fun w1 v v' h1 h2 => spans_same _ n v v' w1 h1 h2 hmem (by omega)
  generalize cN (lk L) n 1114112 = C at *
  generalize runsL L = R at *
  obtain ⟨av, ac, rfl, hla, hac⟩ := ha
  obtain ⟨rv, rc, rfl, hlr, hrc⟩ := hr
  have HA : Hid _ := hac
  have HR : Hid _ := hrc
  have HFA : Hid (fit1 A) := hfa
  have HG : Hid (∀ p, -9223372036854775808 ≤ lk L p ∧ lk L p ≤ 9223372036854775807) := fun p => by have := hrg p; omega
  have hl' : Hid (L.length ≤ 4000000) := hl
  obtain ⟨tp, rfl⟩ := hv
  clear hT hac hrc hfa hrg hok hmem hfl HRN hl hlR
  go_enter Try.func11, Try.ntmps11
  go_wp2_with fail
  go_loopw [17] (fun y wr => ∃ k : Nat, k ≤ A.length ∧ y = .int .i64 (k : Nat) ∧ Hid (Below w.heap.size w wr)) (fun y _ => (A.length - (intOf y).toNat : Nat))
  case atStart => exact ⟨0, Nat.zero_le _, rfl, Below.refl _ _⟩
  case round =>
    obtain ⟨k, hk, rfl, hB⟩ := hrel
    obtain ⟨wo, hwo⟩ : ∃ wo, wo = wr := ⟨wr, rfl⟩
    subst hwo
    by_cases hkl : k < A.length
    · obtain ⟨g, off, rfl, hd⟩ := HA.out (by omega)
      have d1 := hd k hkl
      have kl : (k : Int) < (A.length : Int) := by omega
      have g1 := World.block_lt_of_cell? w _ d1
      have e1 := (hB.out.cell (p := ⟨g, off + k, none⟩) (by simpa using g1)).trans d1
      obtain ⟨f1, f2⟩ := HFA.out (A.getD k 0) (by rw [show A.getD k 0 = A[k] by simp [List.getD, hkl]]; exact List.getElem_mem hkl)
      clear d1 hd g1 HA HFA HR
      generalize A.getD k 0 = p at *
      have KLp : Hid _ := fun w1 b => KL.out w1 p b
      have KRp : Hid _ := fun w1 b => KR.out w1 p b
      have wp : IntKind.i64.wrap p = p := IntWalk.i64_in _ (by omega)
      clear KL KR K1 K2 K3 K4 K5 K6 K7 K8 HG
      generalize lk L p = z at *
      go_wp2_with (go_at_call 13; refine (KLp.out _ hB.out).mono ?_)
      intro e w2 hq
      first | (obtain ⟨rfl, b2⟩ : _ ∧ _ := hq) | (subst hq; intro b2)
      have B2 : Hid (Below w.heap.size w w2) := hB.out.trans (b2.mono hB.out.size)
      clear b2 e1
      go_wp2_with (go_at_call 28; refine (KRp.out _ B2.out).mono ?_)
      intro e w3 hq
      first | (obtain ⟨rfl, b3⟩ : _ ∧ _ := hq) | (subst hq; intro b3)
      have B3 : Hid (Below w.heap.size w w3) := B2.out.trans (b3.mono B2.out.size)
      clear b3
      go_wp2
      refine ⟨⟨k + 1, by omega, by go_num, B3⟩, by simp [intOf]; omega⟩
    · have hkk : k = A.length := by omega
      subst hkk
      clear HA HFA hkl hk
      go_wp2_with fail
      go_loopw [32] (fun y wr => ∃ k : Nat, k ≤ L.length ∧ y = .int .i64 (k : Nat) ∧ Hid (Below w.heap.size w wr)) (fun y _ => (L.length - (intOf y).toNat : Nat))
      case atStart => exact ⟨0, Nat.zero_le _, rfl, hB⟩
      case round =>
        clear hB
        obtain ⟨k, hk, rfl, hB⟩ := hrel
        obtain ⟨w0, hw0⟩ : ∃ w0, w0 = wr := ⟨wr, rfl⟩
        subst hw0
        have hll := hl'.out
        by_cases hkl : k < L.length
        · obtain ⟨g, off, rfl, hd⟩ := HR.out (by omega)
          obtain ⟨d1, d2, d3⟩ := hd k hkl
          have kl : (k : Int) < (L.length : Int) := by omega
          have g1 := World.block_lt_of_cell? w _ d1
          have e1 := (hB.out.cell (p := ⟨g, off + k * 3, none⟩) (by simpa using g1)).trans d1
          have e2 := (hB.out.cell (p := ⟨g, off + k * 3 + 1, none⟩) (by simpa using g1)).trans d2
          have e3 := (hB.out.cell (p := ⟨g, off + k * 3 + 2, none⟩) (by simpa using g1)).trans d3
          obtain ⟨s1, s2, s3, s4, s5⟩ := okF_mem HOK.out (L.getD k (0, 0, 0)) (by rw [show L.getD k (0, 0, 0) = L[k] by simp [List.getD, hkl]]; exact List.getElem_mem hkl)
          clear d1 d2 d3 hd g1 HR K1 K2 K3 K4 K5 K6 K7 K8 HG HOK
          generalize L.getD k (0, 0, 0) = s at *
          obtain ⟨x, y, m⟩ := s
          simp only at e1 e2 e3 s1 s2 s3 s4 s5
          obtain ⟨q1, q2, q3⟩ := box3 w0 (.int .i64 x) (.int .i64 y) (.int .i64 m) 33
          have hbsz := hB.out.size
          have B1 : Below w.heap.size w (w0.alloc (.cells #[.int .i64 x, .int .i64 y, .int .i64 m] 33)) := hB.out.alloc hbsz _
          have B2 : Hid (Below w.heap.size w ((w0.alloc (.cells #[.int .i64 x, .int .i64 y, .int .i64 m] 33)).alloc (.cells #[.int .i64 (x - 1), .int .i64 x, .int .i64 y, .int .i64 (y + 1)] 3))) := B1.alloc B1.size _
          have hbx : Hid (∀ j, j < 4 → ((w0.alloc (.cells #[.int .i64 x, .int .i64 y, .int .i64 m] 33)).alloc (.cells #[.int .i64 (x - 1), .int .i64 x, .int .i64 y, .int .i64 (y + 1)] 3)).cell? ⟨w0.heap.size + 1, j, none⟩ = some (.int .i64 (edg x y j))) := fun j hj => by
            have := box4_edg (w0.alloc (.cells #[.int .i64 x, .int .i64 y, .int .i64 m] 33)) x y 3 j hj
            simpa using this
          have hen : Hid (∀ j, -1 ≤ edg x y j ∧ edg x y j ≤ 1114112) := edg_in s1 s2 s3
          have wx : IntKind.i64.wrap (x - 1) = x - 1 := IntWalk.i64_in _ (by omega)
          have wy : IntKind.i64.wrap (y + 1) = y + 1 := IntWalk.i64_in _ (by omega)
          clear B1 s4 s5
          go_wp2_with fail
          go_loopw [48] (fun z wi => ∃ j : Nat, j ≤ 4 ∧ z = .int .i64 (j : Nat) ∧ Hid (∀ j, j < 4 → wi.cell? ⟨w0.heap.size + 1, j, none⟩ = some (.int .i64 (edg x y j))) ∧ Hid (Below w.heap.size w wi)) (fun z _ => (4 - (intOf z).toNat : Nat))
          case atStart => exact ⟨0, by omega, rfl, hbx, B2⟩
          case round =>
            clear hbx B2 q1 q2 q3 e1 e2 e3
            obtain ⟨j, hj, rfl, hbx, hB1⟩ := hrel
            obtain ⟨wi, hwi⟩ : ∃ wi, wi = wr := ⟨wr, rfl⟩
            subst hwi
            by_cases hjl : j < 4
            · have jl : (j : Int) < 4 := by omega
              have e1 := hbx.out j hjl
              obtain ⟨f1, f2⟩ := hen.out j
              have hql : Hid (w0.heap.size + 1 < wi.heap.size) := World.block_lt_of_cell? wi _ e1
              generalize edg x y j = p at *
              have KLp : Hid _ := fun w1 b => KL.out w1 p b
              have KRp : Hid _ := fun w1 b => KR.out w1 p b
              have wp : IntKind.i32.wrap p = p := IntWalk.i32_in _ (by omega)
              clear KL KR hen wx wy
              generalize lk L p = z at *
              go_wp2_with (go_at_call 13; refine (KLp.out _ hB1.out).mono ?_)
              intro e w2 hq
              first | (obtain ⟨rfl, b2⟩ : _ ∧ _ := hq) | (subst hq; intro b2)
              have B2 : Hid (Below w.heap.size w w2) := hB1.out.trans (b2.mono hB1.out.size)
              have hql2 : Hid (w0.heap.size + 1 < w2.heap.size) := Nat.lt_of_lt_of_le hql.out b2.size
              have hbx2 : Hid (∀ j, j < 4 → w2.cell? ⟨w0.heap.size + 1, j, none⟩ = some (.int .i64 (edg x y j))) := fun j hj => (b2.cell (p := ⟨w0.heap.size + 1, j, none⟩) hql.out).trans (hbx.out j hj)
              clear b2 e1 hbx hql
              go_wp2_with (go_at_call 28; refine (KRp.out _ B2.out).mono ?_)
              intro e w3 hq
              first | (obtain ⟨rfl, b3⟩ : _ ∧ _ := hq) | (subst hq; intro b3)
              have B3 : Hid (Below w.heap.size w w3) := B2.out.trans (b3.mono B2.out.size)
              have hbx3 : Hid (∀ j, j < 4 → w3.cell? ⟨w0.heap.size + 1, j, none⟩ = some (.int .i64 (edg x y j))) := fun j hj => (b3.cell (p := ⟨w0.heap.size + 1, j, none⟩) hql2.out).trans (hbx2.out j hj)
              clear b3 hbx2 hql2
              go_wp2
              refine ⟨⟨j + 1, by omega, by go_num, hbx3, B3⟩, by simp [intOf]; omega⟩
            · have hjj : j = 4 := by omega
              subst hjj
              go_wp2
              refine ⟨⟨k + 1, by omega, by go_num, hB1⟩, by simp [intOf]; omega⟩
        · have hkk : k = L.length := by omega
          subst hkk
          clear HR hkl hk hll KL KR HG HOK
          go_wp2_with (go_at_call 20; refine (K1.out _ hB.out).mono ?_)
          first | rintro e wa v1 rfl ra ba | rintro e wa ⟨v1, rfl, ra, ba⟩
          replace ra : Hid (Rd3 .i32 wa v1 (lst R)) := ra
          have Ba : Hid (Below w.heap.size w wa) := hB.out.trans (ba.mono hB.out.size)
          clear ba K1 hB
          go_wp2_with (go_at_call 21; refine (K2.out _ Ba.out).mono ?_)
          first | rintro e wb v2 rfl rb bb | rintro e wb ⟨v2, rfl, rb, bb⟩
          have ra2 : Hid (Rd3 .i32 wb v1 (lst R)) := ra.out.below bb
          replace rb : Hid (Rd3 .i64 wb v2 (lst R)) := rb
          have Bb : Hid (Below w.heap.size w wb) := Ba.out.trans (bb.mono Ba.out.size)
          clear bb K2 Ba ra
          go_wp2_with (go_at_call 17; refine (K3.out _ _ _ ra2.out rb.out).mono ?_)
          intro e wc hq
          first | (obtain ⟨rfl, bc⟩ : _ ∧ _ := hq) | (subst hq; intro bc)
          have Bc : Hid (Below w.heap.size w wc) := Bb.out.trans (bc.mono Bb.out.size)
          clear bc K3 Bb ra2 rb
          go_wp2_with (go_at_call 29; refine (K4.out _ Bc.out).mono ?_)
          intro e wd hq
          first | (obtain ⟨rfl, bd⟩ : _ ∧ _ := hq) | (subst hq; intro bd)
          have Bd : Hid (Below w.heap.size w wd) := Bc.out.trans (bd.mono Bc.out.size)
          clear bd K4 Bc
          go_wp2_with (go_at_call 30; refine (K5.out _ Bd.out).mono ?_)
          intro e we hq
          first | (obtain ⟨rfl, be⟩ : _ ∧ _ := hq) | (subst hq; intro be)
          have Be : Hid (Below w.heap.size w we) := Bd.out.trans (be.mono Bd.out.size)
          clear be K5 Bd
          go_wp2_with (go_at_call 32; refine (K6.out _ Be.out).mono ?_)
          first | rintro e wf v3 rfl rf bf | rintro e wf ⟨v3, rfl, rf, bf⟩
          replace rf : Hid (Rd2 wf v3 (ofN n R)) := rf
          have Bf : Hid (Below w.heap.size w wf) := Be.out.trans (bf.mono Be.out.size)
          clear bf K6 Be
          go_wp2_with (go_at_call 12; refine (K7.out _ Bf.out).mono ?_)
          first | rintro e wg v4 rfl rg bg | rintro e wg ⟨v4, rfl, rg, bg⟩
          have rf2 : Hid (Rd2 wg v3 (ofN n R)) := rf.out.below bg
          replace rg : Hid (Rd3 .i64 wg v4 R) := rg
          have Bg : Hid (Below w.heap.size w wg) := Bf.out.trans (bg.mono Bf.out.size)
          clear bg K7 Bf rf
          go_wp2_with (go_at_call 31; refine (K8.out _ _ _ rf2.out rg.out).mono ?_)
          intro e wh hq
          first | (obtain ⟨rfl, bh⟩ : _ ∧ _ := hq) | (subst hq; intro bh)
          have Bh : Hid (Below w.heap.size w wh) := Bg.out.trans (bh.mono Bg.out.size)
          clear bh K8 Bg rf2 rg
          go_wp2
          go_ret
          exact ⟨rfl, Bh.out⟩
end Go.Proofs.Ytookbgmolggohaa
