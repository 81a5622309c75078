/-
  What Where lays: the stretches within the spans, one behind the other; the contract of stage.Where. Conditions: the spans are a set, or not; the tables' numbers are from 0 to 65535.
-/
import Derived.Test.YtookbgmolggohabWa
namespace Go.Proofs.Ytookbgmolggohab
open Go.RowKit
/-- The stretches of some rows within spans. -/
def whL (X Q : List Rw) : List Rw := X.flatMap fun s => clp s.1 s.2.1 Q
theorem Tl.ok_app {F : Int → Int} (hF : ∀ p, 0 ≤ F p ∧ F p ≤ 65535) : ∀ {X Y : List Rw} {m e l : Int}, Tl F m X e → e ≤ 1114112 → e ≤ l → okF l Y → okF m (X ++ Y)
  | [], Y, m, e, l, h, he, hl, hY => okF_mono hY (by have : m = e := h; omega)
  | y :: X, Y, m, e, l, ⟨h1, h2, h3, h4⟩, he, hl, hY => by
    have hle := h4.le
    have hv := hF y.1
    rw [h3 y.1 (Int.le_refl _) h2] at hv
    exact ⟨by omega, h2, by omega, hv.1, hv.2, h4.ok_app hF he hl hY⟩
theorem clip_rn {F : Int → Int} {Q : List Rw} (hQ : Rn F 0 Q 1114112) {A E : Int} (h0 : 0 ≤ A) (h1 : A ≤ E) (h2 : E ≤ 1114111) : Rn F A (clp A E Q) (E + 1) := by
  have hcl := (Rn.clip h1 hQ (by omega)).1 (by omega)
  by_cases c : (0 : Int) < A
  · rwa [if_pos c] at hcl
  · rw [if_neg c] at hcl; rwa [show A = 0 by omega] at hcl ⊢
theorem whL_ok {F : Int → Int} (hF : ∀ p, 0 ≤ F p ∧ F p ≤ 65535) {Q : List Rw} (hQ : Rn F 0 Q 1114112) : ∀ {X : List Rw} {l : Int}, spB l X = true → okF l (whL X Q)
  | [], _, _ => trivial
  | s :: X, l, h => by
    have h : (okR l s && spB (s.2.1 + 2) X) = true := h
    rw [Bool.and_eq_true, okR_iff] at h
    obtain ⟨⟨a0, a1, a2, a3⟩, h2⟩ := h
    have ih := whL_ok hF hQ h2
    show okF l (clp s.1 s.2.1 Q ++ whL X Q)
    exact okF_mono ((clip_rn hQ a0 a1 a2).tl.ok_app hF (by omega) (show s.2.1 + 1 ≤ s.2.1 + 2 by omega) ih) a3
theorem okF_len : ∀ {X : List Rw} {l : Int}, okF l X → l ≤ 1114112 → (X.length : Int) ≤ 1114112 - l
  | [], l, _, h => by simp; omega
  | r :: X, l, ⟨h1, h2, h3, _, _, h6⟩, h => by
    have := okF_len h6 (by omega)
    rw [List.length_cons]
    push_cast
    omega
theorem clp_pos {F : Int → Int} {A E : Int} {X : List Rw} (h : Rn F A X (E + 1)) (h1 : A ≤ E) : 0 < X.length := by
  cases X with
  | nil => have : A = E + 1 := h; omega
  | cons => simp
set_option maxRecDepth 100000 in
set_option maxHeartbeats 4000000 in
theorem where_good (X L K : List Rw) (v vt vu : Value) (w : World) (hr : Rd2 w v X) (hT : Tab w vt (lk L)) (hU : Tab w vu (lk K)) (hok : okF 0 L) (hkk : okF 0 K) (hl : X.length ≤ 65536) (hs : spB 0 X = true) : Calls Try.prog 27 #[v, vt, vu] w fun e w' => ∃ T, e = .returned (.tuple #[.pointer (some ⟨T, 0, none⟩), .int .i64 0]) ∧ TabAt w' T (over (lk K) (whL X (runsL L))) ∧ Below w.heap.size w w' := by
  obtain ⟨i0, hi, hz0, hz1, hz2⟩ := info_parts info62
  have hrgL := lkr hok
  have hrgK := lkr hkk
  have hRN := runs_rn hok
  have hokW := whL_ok hrgL hRN hs
  have KI : Hid (Calls Try.prog 53 #[v] w fun e w' => e = .returned (.bool true) ∧ Below w.heap.size w w') := is_dec X v w true ⟨fun _ => ⟨hl, hs⟩, fun _ => rfl⟩ hr (by omega)
  have HR : Hid (∀ W, Below w.heap.size w W → Rd2 W v X) := fun W hW => hr.below hW
  have HM : Hid (∀ k, k < X.length → 0 ≤ (X.getD k (0, 0, 0)).1 ∧ (X.getD k (0, 0, 0)).1 ≤ (X.getD k (0, 0, 0)).2.1 ∧ (X.getD k (0, 0, 0)).2.1 ≤ 1114111) := fun k hk => by
    have h1 := spB_front (k + 1) hs
    rw [spB_step hk, Bool.and_eq_true, okR_iff] at h1
    exact ⟨h1.2.1, h1.2.2.1, h1.2.2.2.1⟩
  have KR : Hid (∀ W A E, Below w.heap.size w W → 0 ≤ A → A ≤ E → E ≤ 1114111 → Calls Try.prog 33 #[vt, .int .i32 A, .int .i32 E] W fun e w' => ∃ v, e = .returned v ∧ w'.ownsRow W.heap.size 33 3 v (clp A E (runsL L)).length (cel3 .i32 (clp A E (runsL L))) ∧ Below W.heap.size W w') := fun W A E hW h0 h1 h2 => (sruns_good vt (lk L) A E W (hT.below hW) hrgL h0 h1 h2).mono fun e w' ⟨v, ys, q1, q2, q3, q4⟩ => by
    rw [Rn.uniq q2 (clip_rn hRN h0 h1 h2)] at q3
    exact ⟨v, q1, q3, q4⟩
  have HP : Hid (∀ A E, 0 ≤ A → A ≤ E → E ≤ 1114111 → 0 < (clp A E (runsL L)).length) := fun A E h0 h1 h2 => clp_pos (clip_rn hRN h0 h1 h2) h1
  have HLen : Hid (∀ k, (whL (X.take k) (runsL L)).length ≤ 1114112) := fun k => by
    have := okF_len (whL_ok hrgL hRN (spB_front k hs)) (by decide)
    omega
  have HSt : Hid (∀ k, k < X.length → whL (X.take (k + 1)) (runsL L) = whL (X.take k) (runsL L) ++ clp (X.getD k (0, 0, 0)).1 (X.getD k (0, 0, 0)).2.1 (runsL L)) := fun k hk => flat_step (fun s => clp s.1 s.2.1 (runsL L)) hk
  have KL : Hid (∀ W v1, Below w.heap.size w W → Rd3 .i32 W v1 (whL X (runsL L)) → Calls Try.prog 54 #[vu, v1] W fun e w' => ∃ T, e = .returned (.pointer (some ⟨T, 0, none⟩)) ∧ TabAt w' T (over (lk K) (whL X (runsL L))) ∧ Below W.heap.size W w') := fun W v1 hW h1 => laid_any _ _ v1 vu W h1 (hU.below hW) hokW hrgK
  obtain ⟨av, cv, rfl, -, -⟩ := hr
  have hlx : (X.length : Int) ≤ 65536 := by omega
  clear hT hU hok hkk hs hrgL hrgK hRN hokW hl
  generalize runsL L = Q at *
  go_enter Try.func27, Try.ntmps27
  go_wp2_with (go_at_call 53; refine KI.out.mono ?_)
  first | rintro e wa rfl ba | rintro e wa ⟨rfl, ba⟩
  have Ba : Hid (Below w.heap.size w wa) := ba
  have O0 : Hid (wa.ownsRow w.heap.size 33 3 (.slice none 0 0) 0 []) := World.ownsRow_nil _ _ _ _
  clear ba KI
  go_wp2_with fail
  go_loopw [8, 16] (fun x y wr => ∃ k : Nat, k ≤ X.length ∧ y = .int .i64 (k : Nat) ∧ Hid (wr.ownsRow w.heap.size 33 3 x (whL (X.take k) Q).length (cel3 .i32 (whL (X.take k) Q))) ∧ Hid (Below w.heap.size w wr)) (fun _ y _ => (X.length - (intOf y).toNat : Nat))
  case atStart => exact ⟨0, Nat.zero_le _, rfl, O0, Ba⟩
  case round =>
    obtain ⟨k, hk, rfl, hO, hB⟩ := hrel
    have hbsz := hB.out.size
    clear O0 Ba
    by_cases hkl : k < X.length
    · obtain ⟨a2, c2, e2, -, hc⟩ := HR.out wr hB.out
      obtain ⟨rfl, rfl⟩ : av = a2 ∧ cv = c2 := by simpa using e2
      obtain ⟨g, off, rfl, hd1⟩ := hc (by omega)
      obtain ⟨e1, e2'⟩ := hd1 k hkl
      have kl : (k : Int) < (X.length : Int) := by omega
      obtain ⟨m1, m2, m3⟩ := HM.out k hkl
      have hst := HSt.out k hkl
      have hln := HLen.out (k + 1)
      rw [hst, List.length_append] at hln
      have HK : Hid (k < X.length) := hkl
      clear hd1 hc e2
      generalize X.getD k (0, 0, 0) = s at *
      obtain ⟨x, y, z⟩ := s
      simp only at e1 e2' m1 m2 m3 hst hln
      obtain ⟨q1, q2⟩ := box2 wr (.int .i32 x) (.int .i32 y) 41
      have B1 : Hid (Below w.heap.size w (wr.alloc (.cells #[.int .i32 x, .int .i32 y] 41))) := hB.out.alloc hbsz _
      have O1 : Hid ((wr.alloc (.cells #[.int .i32 x, .int .i32 y] 41)).ownsRow w.heap.size 33 3 u8 (whL (X.take k) Q).length (cel3 .i32 (whL (X.take k) Q))) := hO.out.alloc _
      have KC : Hid (∀ W, Below w.heap.size w W → Calls Try.prog 33 #[vt, .int .i32 x, .int .i32 y] W fun e w' => ∃ v, e = .returned v ∧ w'.ownsRow W.heap.size 33 3 v (clp x y Q).length (cel3 .i32 (clp x y Q)) ∧ Below W.heap.size W w') := fun W hW => KR.out W x y hW m1 m2 m3
      have hpos : Hid (0 < (clp x y Q).length) := HP.out x y m1 m2 m3
      replace hst : Hid (whL (X.take (k + 1)) Q = whL (X.take k) Q ++ clp x y Q) := hst
      replace hln : Hid ((whL (X.take k) Q).length + (clp x y Q).length ≤ 1114112) := hln
      clear hO hB hkl m1 m2 m3
      generalize whL (X.take k) Q = PP at *
      generalize clp x y Q = CC at *
      go_wp2_with (go_at_call 33; refine (KC.out _ B1.out).mono ?_)
      first | rintro e W4 vs rfl o4 b4 | rintro e W4 ⟨vs, rfl, o4, b4⟩
      have B4 : Hid (Below w.heap.size w W4) := B1.out.trans (b4.mono B1.out.size)
      have O4 : Hid (W4.ownsRow w.heap.size 33 3 u8 PP.length (cel3 .i32 PP)) := owns_below O1.out b4
      obtain ⟨sa, sc, rfl, -, hsn⟩ := owns_slice o4
      obtain ⟨sg, rfl⟩ := hsn hpos.out
      have S4 : Hid (∀ i u, (cel3 .i32 CC)[i]? = some u → W4.cell? ((⟨sg, 0, none⟩ : Addr).add i) = some u) := fun i u h => by
        rw [Go.WideShapes.add_plain, Nat.zero_add]
        exact (owns_cell o4 rfl _ _ h).1
      have hb4 : w.heap.size ≤ W4.heap.size := B4.out.size
      clear o4 b4 hsn KC B1 O1 q1 q2
      go_wp2_with (at_builtin; refine wpList_append_own_at _ rfl _ _ 22 rfl w.heap.size 33 i0 _ 3 16 Try.underlying22 hi hz0 hz1 hz2 rfl (by decide) _ _ _ rfl O4.out ⟨sg, 0, none⟩ CC.length sc (cel3 .i32 CC) rfl (cel3_len _ _) S4.out (cel3_one _ _) ?r3 ?r4 hb4 ?r6)
      case r3 => unfold maxLen; have := hln.out; omega
      case r4 => have := hln.out; omega
      case r6 =>
        intro v5 W5 hown hgrow _ _
        have O5 : Hid (W5.ownsRow w.heap.size 33 3 v5 (whL (X.take (k + 1)) Q).length (cel3 .i32 (whL (X.take (k + 1)) Q))) := by rw [Hid, hst.out, cel3_app, List.length_append]; exact hown
        have B5 : Hid (Below w.heap.size w W5) := B4.out.grown hgrow hb4 (fun i hi => (O4.out.lt i hi).1)
        clear hown hgrow O4 B4 S4 hst hln
        go_wp2
        exact ⟨⟨k + 1, by have := HK.out; omega, by go_num, O5, B5⟩, by have := HK.out; simp [intOf]; omega⟩
    · have kl : decide ((k : Int) < (X.length : Int)) = false := decide_eq_false (by omega)
      have kl2 : ¬ ((k : Int) < (X.length : Int)) := by omega
      have R2 : Hid (Rd3 .i32 wr u8 (whL X Q)) := by
        have := Rd3.of_owns hO.out
        rw [List.take_of_length_le (by omega)] at this
        exact this
      clear hO hkl
      go_wp2_with (go_at_call 54; refine (KL.out _ _ hB.out R2.out).mono ?_)
      first | rintro e W6 T6 rfl t6 b6 | rintro e W6 ⟨T6, rfl, t6, b6⟩
      replace t6 : Hid (TabAt W6 T6 (over (lk K) (whL X Q))) := t6
      have B6 : Hid (Below w.heap.size w W6) := hB.out.trans (b6.mono hB.out.size)
      clear b6
      go_wp2
      go_ret2
      first | exact ⟨T6, rfl, t6.out, B6.out⟩ | exact ⟨⟨T6, rfl, t6.out⟩, B6.out⟩
set_option maxRecDepth 100000 in
theorem where_bad (X : List Rw) (v vt vu : Value) (w : World) (hr : Rd2 w v X) (hl : X.length ≤ 17592186044416) (hs : ¬ (X.length ≤ 65536 ∧ spB 0 X = true)) : Calls Try.prog 27 #[v, vt, vu] w fun e w' => e = .returned (.tuple #[.pointer none, .int .i64 70]) ∧ Below w.heap.size w w' := by
  have KI : Hid (Calls Try.prog 53 #[v] w fun e w' => e = .returned (.bool false) ∧ Below w.heap.size w w') := is_dec X v w false ⟨fun h => (by cases h), fun h => absurd h hs⟩ hr hl
  clear hr hl hs
  go_enter Try.func27, Try.ntmps27
  go_wp2_with (go_at_call 53; refine KI.out.mono ?_)
  first | rintro e wa rfl ba | rintro e wa ⟨rfl, ba⟩
  replace ba : Hid (Below w.heap.size w wa) := ba
  go_wp2
  go_ret2
  exact ⟨rfl, ba.out⟩
end Go.Proofs.Ytookbgmolggohab
