/-
  Numbers appended as digits.
-/
import Derived.Test.YtahmeejcgddlhabPs
namespace Go.Proofs.Ytahmeejcgddlhab
open Go.RowKit
/-- Blocks of other kinds stay as they are. -/
def KeepT (e : TypeId) (w w' : World) : Prop := ∀ (k : Nat) (cs : Array Value) (t : TypeId) (fr : Nat × Nat), w.heap[k]? = some (Obj.cells cs t fr) → t ≠ e → w'.heap[k]? = some (Obj.cells cs t fr)
theorem KeepT.refl (e : TypeId) (w : World) : KeepT e w w := fun _ _ _ _ h _ => h
theorem KeepT.trans {e : TypeId} {w w1 w2 : World} (h : KeepT e w w1) (h2 : KeepT e w1 w2) : KeepT e w w2 := fun k cs t fr hk ht => h2 k cs t fr (h k cs t fr hk ht) ht
theorem KeepT.of_below {e : TypeId} {w w' : World} (h : Below w.heap.size w w') : KeepT e w w' := fun k _ _ _ hk _ => (h.block k (Array.getElem?_eq_some_iff.1 hk).1).trans hk
theorem KeepT.of_grown {e b : TypeId} {kd : IntKind} {w w' : World} {v : Value} {zs : List Int} (h : Rw kd e b w v zs) (hg : w.grownBy w' v.ownBlock) : KeepT e w w' := by
  intro k cs t fr hk ht
  rw [hg.block k (Array.getElem?_eq_some_iff.1 hk).1 ?_]
  · exact hk
  · obtain ⟨k1, ⟨rfl, _⟩ | ⟨g', cap', cur', rfl, k3, k4, k5⟩⟩ := h
    · simp [Value.ownBlock]
    · intro q
      simp [Value.ownBlock] at q
      subst q
      rw [hk] at k4
      simp at k4
      exact ht k4.2.1
theorem Rw.keep {kd : IntKind} {e e2 b : Nat} {w w' : World} {v : Value} {zs : List Int} (h : Rw kd e b w v zs) (hk : KeepT e2 w w') (hne : e ≠ e2) : Rw kd e b w' v zs := by
  obtain ⟨h1, h3 | ⟨g, cap, cur, rfl, h3, h4, h5⟩⟩ := h
  · exact ⟨h1, .inl h3⟩
  · exact ⟨h1, .inr ⟨g, cap, cur, rfl, h3, hk _ _ _ _ h4 hne, h5⟩⟩
theorem Rw.only {kd : IntKind} {e b m : Nat} {w w' : World} {v : Value} {zs : List Int} (h : Rw kd e b w v zs) (ho : Only m w w') (hm : m < b) : Rw kd e b w' v zs := by
  obtain ⟨h1, h3 | ⟨g, cap, cur, rfl, h3, h4, h5⟩⟩ := h
  · exact ⟨h1, .inl h3⟩
  · exact ⟨h1, .inr ⟨g, cap, cur, rfl, h3, (ho.block g (Array.getElem?_eq_some_iff.1 h4).1 (by intro q; cases q; omega)).trans h4, h5⟩⟩
theorem Cel.lower {kd : IntKind} {w w' : World} {b n B : Nat} {f : Nat → Int} (h : Cel kd w b n f) (hb : Below B w w') (hl : b < B) : Cel kd w' b n f := by
  intro j hj
  obtain ⟨h1, h2⟩ := h j hj
  exact ⟨(hb.cell (p := ⟨b, j, none⟩) hl).trans h1, (World.frozen?_of_block (hb.block b hl)).trans h2⟩
set_option maxRecDepth 100000 in
set_option maxHeartbeats 1000000 in
theorem appDigit_any (bs : List Int) (u : Value) (d : Int) (b : Nat) (w : World) (h : Rw .u8 5 b w u bs) (hb : b ≤ w.heap.size) (hl : bs.length < 1000000000) (h0 : 0 ≤ d) (h1 : d ≤ 35) : Calls Try.prog 54 #[u, .int .i64 d] w fun e w' => ∃ u', e = .returned u' ∧ Rw .u8 5 b w' u' (bs ++ [ltr d]) ∧ Below b w w' ∧ KeepT 5 w w' := by
  have k := fun w => letter_any d w
  have e : ltrV d = .tuple #[.int .u8 (ltr d), .int .i64 0] := by unfold ltrV; rw [if_pos ⟨h0, h1⟩]
  rw [e] at k
  have HR : Hid (Rw .u8 5 b w u bs) := h
  clear h h0 h1 e
  generalize ltr d = X at *
  go_enter Try.func54, Try.ntmps54
  go_wp2_with (first | (go_at_call 58; refine (k _).mono ?_; rintro e w' ⟨rfl, hw⟩; rw [hw]; clear hw) | (at_builtin; go_must (refine wpList_app1 rfl _ _ 48 rfl b 5 .u8 1 Try.underlying48 info5 (by decide) u bs X rfl HR.out rfl hl hb ?_)))
  intro v' w3 hR3 hg3 hB3
  go_wp2
  go_ret
  exact ⟨_, rfl, hR3.out, hB3.out, KeepT.of_grown HR.out hg3.out⟩
/-- A number as digits; none: what digits say in all would become too great. -/
def numF (p : Bt) (bias : Int) : Nat → Int → Int → Int → Option (List Int)
  | 0, _, _, _ => none
  | f + 1, q, w, k =>
    if q < thr p k bias then some [ltr q]
    else if 2147483647 < w * (p.base - thr p k bias) then none
    else (numF p bias f ((q - thr p k bias) / (p.base - thr p k bias)) (w * (p.base - thr p k bias)) (k + p.base)).map (ltr (thr p k bias + (q - thr p k bias) % (p.base - thr p k bias)) :: ·)
/-- What appending a number answers. -/
def anA (bs : List Int) (b : Nat) (r : Option (List Int)) (e : Ending) (w : World) : Prop :=
  match r with
  | none => e = .returned (.tuple #[.slice none 0 0, .bool false])
  | some ds => ∃ u', e = .returned (.tuple #[u', .bool true]) ∧ Rw .u8 5 b w u' (bs ++ ds)
set_option maxRecDepth 100000 in
set_option maxHeartbeats 2000000 in
theorem appNum_any (p : Bt) (bs : List Int) (u : Value) (q bias : Int) (b : Nat) (w : World) (hp : Okb p) (h : Rw .u8 5 b w u bs) (hb : b ≤ w.heap.size) (hl : bs.length < 900000000) (h0 : 0 ≤ q) (h1 : q ≤ 2147483647) (hb0 : 0 ≤ bias) (hb1 : bias ≤ 100000) : Calls Try.prog 40 #[.agg (bv p), u, .int .i64 q, .int .i64 bias] w fun e w' => anA bs b (numF p bias 31 q 1 p.base) e w' ∧ Below b w w' ∧ KeepT 5 w w' := by
  obtain ⟨F, hF⟩ : ∃ F, Hid (numF p bias 31 q 1 p.base = F) := ⟨_, rfl⟩
  rw [hF.out]
  have kt := fun k w h1 h2 => thr_any p k bias w h1 h2 hb0 (by omega)
  have HN : Hid (3 ≤ p.base ∧ p.base ≤ 36 ∧ b ≤ w.heap.size) := ⟨hp.b1, hp.b2, hb⟩
  have HB : Hid (Below w.heap.size w (w.alloc (.cells (bv p) 23))) := (Below.refl w.heap.size w).alloc (Nat.le_refl _) _
  have c0 : (w.alloc (.cells (bv p) 23)).cell? ⟨w.heap.size, 0, none⟩ = some (.int .i64 p.base) := World.cell?_alloc_at _ _ _ _ rfl
  have kth := thr_bound p hp
  have hlo : Hid ((w.alloc (.cells (bv p) 23)).heap[w.heap.size]? = some (.cells (bv p) 23)) := heap_new _ _
  have hZ : Hid (q ≤ 2147483647 ∧ 0 ≤ q ∧ bs.length < 900000000) := ⟨h1, h0, hl⟩
  have HR : Hid (Rw .u8 5 b (w.alloc (.cells (bv p) 23)) u bs) := h.below HB.out
  have HK : Hid (KeepT 5 w (w.alloc (.cells (bv p) 23))) := KeepT.of_below HB.out
  have HBb : Hid (Below b w (w.alloc (.cells (bv p) 23))) := HB.out.mono hb
  clear hb0 hb1 h0 h1 hl hb h HB
  go_enter Try.func40, Try.ntmps40
  go_wp2
  generalize w.alloc (.cells (bv p) 23) = W1 at *
  generalize hO : w.heap.size = O at *
  clear c0
  go_loopw [1, 2, 10, 11] (fun x1 x2 x10 x11 wr => ∃ (qq wi k : Int), x2 = .int .i64 qq ∧ x10 = .int .i64 wi ∧ x11 = .int .i64 k ∧ Hid (∃ (f : Nat) (ds : List Int), 0 ≤ qq ∧ qq ≤ 2147483647 ∧ 1 ≤ wi ∧ wi ≤ 2147483647 ∧ 0 ≤ k ∧ k + 36 * (f : Int) ≤ 1152 ∧ 2147483647 < wi * 2 ^ f ∧ ds.length + f ≤ 31 ∧ (numF p bias f qq wi k).map (ds ++ ·) = F ∧ Rw .u8 5 b wr x1 (bs ++ ds)) ∧ Hid (Below b w wr) ∧ Hid (KeepT 5 w wr) ∧ Hid (wr.heap[O]? = some (.cells (bv p) 23))) (fun _ _ x10 _ _ => (2147483648 - RowKit.intOf x10).toNat)
  case atStart => exact ⟨q, 1, p.base, rfl, rfl, rfl, ⟨31, [], hZ.out.2.1, hZ.out.1, by omega, by omega, by have := HN.out; omega, by have := HN.out; omega, by decide, by decide, by rw [← hF.out]; simp, by simpa using HR.out⟩, HBb, HK, hlo⟩
  case round =>
    clear hF HR HK HBb hlo
    obtain ⟨qq, wi, k, rfl, rfl, rfl, ⟨f, ds, g1, g2, g3, g4, g5, g6, g7, g8, g9, hR⟩, hB, hK, hlo⟩ := hrel
    obtain ⟨n1, n2, n3⟩ := HN.out
    have hOl := (Array.getElem?_eq_some_iff.1 hlo.out).1
    have g10 : 1 ≤ f := by
      rcases Nat.eq_zero_or_pos f with c | c
      · subst c; simp at g7; omega
      · exact c
    obtain ⟨f, rfl⟩ : ∃ f', f = f' + 1 := ⟨f - 1, by omega⟩
    rw [numF] at g9
    have ktt := fun w => kt k w g5 (by omega)
    have tb := kth k bias
    have cb := fun (j : Nat) (u : Value) (h : (bv p)[j]? = some u) (W1 : World) (hh : W1.heap[O]? = some (.cells (bv p) 23)) => (show W1.cell? ⟨O, j, none⟩ = some u by simp [World.cell?, hh, h])
    have a0 := cb 0 (.int .i64 p.base) rfl wr hlo.out
    have a1 := cb 1 (.int .i64 p.least) rfl wr hlo.out
    have a2 := cb 2 (.int .i64 p.most) rfl wr hlo.out
    have a3 := cb 3 (.int .i64 p.skew) rfl wr hlo.out
    have a4 := cb 4 (.int .i64 p.damp) rfl wr hlo.out
    have a5 := cb 5 (.int .i64 p.bias) rfl wr hlo.out
    have a6 := cb 6 (.int .i64 p.first) rfl wr hlo.out
    have a7 := cb 7 (.int .u8 p.btw) rfl wr hlo.out
    have cz := fun W h => cb 0 (.int .i64 p.base) rfl W h
    obtain ⟨T, hT⟩ : ∃ T, thr p k bias = T := ⟨_, rfl⟩
    simp only [hT] at g9 ktt tb
    obtain ⟨t1, t2⟩ := tb
    replace ktt : ∀ w, Calls Try.prog 53 #[.agg (bv p), .int .i64 k, .int .i64 bias] w fun e w' => Hid (e = .returned (.int .i64 T) ∧ Below w.heap.size w w') := ktt
    have hR2 : Hid (Rw .u8 5 b wr u1 (bs ++ ds)) := hR
    have hbw : Hid (b ≤ wr.heap.size ∧ O < wr.heap.size) := ⟨by have := hB.out.size; omega, hOl⟩
    have hbl : Hid ((bs ++ ds).length < 1000000000) := by show _ < _; rw [List.length_append]; have := hZ.out; omega
    obtain ⟨U, hU⟩ : ∃ U, u1 = U := ⟨_, rfl⟩
    rw [hU] at hR2 ⊢
    clear hU hR
    obtain ⟨R, hRR⟩ : ∃ R, p.base - T = R := ⟨_, rfl⟩
    rw [hRR] at g9
    have r1 : 2 ≤ R := by omega
    have r2 : R ≤ 36 := by omega
    have rw0 : wrap64 (p.base - T) = R := by unfold wrap64; omega
    by_cases e1 : qq < T
    · rw [if_pos e1] at g9
      have e1' : decide (qq < T) = true := decide_eq_true e1
      have ka := fun w1 (hb1 : Below wr.heap.size wr w1) => appDigit_any (bs ++ ds) U qq b w1 (hR2.out.below hb1) (by have := hbw.out; have := hb1.size; omega) hbl.out g1 (by omega)
      have HE : Hid (F = some (ds ++ [ltr qq])) := by show _ = _; rw [← g9]; rfl
      clear g9 cz g7 g8 kt kth e1 rw0 r1 r2 hRR t1 t2 n1 n2 n3 g1 g2 g3 g4 g5 g6
      go_wp2_with (go_at_call 53; refine (ktt _).mono ?_)
      intro e w1 hq
      obtain ⟨rfl, b1⟩ : _ ∧ _ := hq
      have ka2 := ka w1 b1
      have b1' : Hid (Below wr.heap.size wr w1) := b1
      clear b1 ka ktt
      go_wp2_with (go_at_call 54; refine ka2.mono ?_)
      rintro e w2 ⟨u', rfl, hR3, hB3, hK3⟩
      have hBf : Hid (Below b w w2) := (hB.out.trans (b1'.out.mono (by have := hbw.out; omega))).trans hB3
      have hKf : Hid (KeepT 5 w w2) := (hK.out.trans (KeepT.of_below b1'.out)).trans hK3
      have hRf : Hid (Rw .u8 5 b w2 u' (bs ++ (ds ++ [ltr qq]))) := by rw [List.append_assoc] at hR3; exact hR3
      clear hR3 hB3 hK3 ka2
      go_wp2
      go_ret2
      rw [HE.out]
      exact ⟨⟨_, rfl, hRf.out⟩, hBf.out, hKf.out⟩
    · rw [if_neg e1] at g9
      have e1' : decide (qq < T) = false := decide_eq_false e1
      obtain ⟨X, hX⟩ : ∃ X, qq - T = X := ⟨_, rfl⟩
      rw [hX] at g9
      have x0 : 0 ≤ X := by omega
      have x1 : X ≤ 2147483647 := by omega
      have m1 := Int.emod_nonneg X (show R ≠ 0 by omega)
      have m2 := Int.emod_lt_of_pos X (show 0 < R by omega)
      have d1 := Int.ediv_nonneg x0 (show 0 ≤ R by omega)
      have d2 : X / R ≤ X := Int.ediv_le_self R x0
      have y0 : 0 ≤ wi * R := Int.mul_nonneg (by omega) (by omega)
      have y1 : wi * R ≤ 2147483647 * 36 := Int.mul_le_mul g4 r2 (by omega) (by omega)
      have y2 : 2 * wi ≤ wi * R := by rw [Int.mul_comm 2 wi]; exact Int.mul_le_mul_of_nonneg_left r1 (by omega)
      have y3 : 2147483647 < wi * R * 2 ^ f := by
        have h1 : 0 ≤ wi * 2 ^ f := Int.mul_nonneg (by omega) (Int.pow_nonneg (by omega))
        have h2 := Int.mul_le_mul_of_nonneg_left r1 h1
        rw [Int.mul_right_comm wi R]
        rw [Int.pow_succ, ← Int.mul_assoc] at g7
        omega
      obtain ⟨Y, hY⟩ : ∃ Y, wi * R = Y := ⟨_, rfl⟩
      rw [hY] at y0 y1 y2 y3 g9
      have hR0 : (R == 0) = false := by simp; omega
      have hdl : ltr (T + X % R) = ltr (T + X % R) := rfl
      have ka := fun w1 (hb1 : Below wr.heap.size wr w1) => appDigit_any (bs ++ ds) U (T + X % R) b w1 (hR2.out.below hb1) (by have := hbw.out; have := hb1.size; omega) hbl.out (by omega) (by omega)
      have HZ : Hid (0 ≤ X / R ∧ X / R ≤ 2147483647 ∧ Y ≤ 9007199254740992 ∧ 2 * wi ≤ Y ∧ 2147483647 < Y * 2 ^ f ∧ 0 ≤ k + p.base ∧ k + p.base + 36 * (f : Int) ≤ 1152 ∧ ds.length + 1 + f ≤ 31 ∧ 1 ≤ wi) := ⟨d1, by omega, by omega, y2, y3, by omega, by omega, by omega, g3⟩
      have k9 : k ≤ 9007199254740992 := by omega
      have dm : T + X % R ≤ 35 := by omega
      have dm0 : 0 ≤ T + X % R := by omega
      have dw : wrap64 (T + X % R) = T + X % R := by unfold wrap64; omega
      by_cases e2 : 2147483647 < Y
      · rw [if_pos e2] at g9
        have HE : Hid (F = none) := g9.symm
        have e2' : decide (2147483647 < Y) = true := decide_eq_true e2
        clear g9 g7 g8 kt kth rw0 n3 y2 y3 d1 d2 e2 hdl cz
        go_wp2_with (go_at_call 53; refine (ktt _).mono ?_)
        intro e w1 hq
        obtain ⟨rfl, b1⟩ : _ ∧ _ := hq
        have hc1 := (b1.cell (p := ⟨O, 0, none⟩) (by have := hbw.out.2; simpa using this)).trans a0
        have ka2 := ka w1 b1
        have b1' : Hid (Below wr.heap.size wr w1) := b1
        have hl1 : Hid (w1.heap[O]? = some (.cells (bv p) 23)) := (b1.block O hbw.out.2).trans hlo.out
        clear b1 ka ktt a0 a1 a2 a3 a4 a5 a6 a7
        go_wp2_with (go_at_call 54; refine ka2.mono ?_)
        rintro e w2 ⟨u', rfl, hR3, hB3, hK3⟩
        have hBf : Hid (Below b w w2) := (hB.out.trans (b1'.out.mono (by have := hbw.out; omega))).trans hB3
        have hKf : Hid (KeepT 5 w w2) := (hK.out.trans (KeepT.of_below b1'.out)).trans hK3
        clear hR3 hB3 hK3 ka2
        go_wp2
        go_ret2
        rw [HE.out]
        exact ⟨rfl, hBf.out, hKf.out⟩
      · rw [if_neg e2] at g9
        have e2' : decide (2147483647 < Y) = false := decide_eq_false e2
        have HE : Hid ((numF p bias f (X / R) Y (k + p.base)).map ((ds ++ [ltr (T + X % R)]) ++ ·) = F) := by
          show _ = _
          rw [← g9]
          cases numF p bias f (X / R) Y (k + p.base) <;> simp
        have e3 : Y ≤ 2147483647 := by omega
        clear g9 g7 g8 kt kth rw0 n3 y2 y3 d1 d2 e2 hdl y1 g4
        go_wp2_with (go_at_call 53; refine (ktt _).mono ?_)
        intro e w1 hq
        obtain ⟨rfl, b1⟩ : _ ∧ _ := hq
        have hc1 := (b1.cell (p := ⟨O, 0, none⟩) (by have := hbw.out.2; simpa using this)).trans a0
        have ka2 := ka w1 b1
        have b1' : Hid (Below wr.heap.size wr w1) := b1
        have hl1 : Hid (w1.heap[O]? = some (.cells (bv p) 23)) := (b1.block O hbw.out.2).trans hlo.out
        clear b1 ka ktt a0 a1 a2 a3 a4 a5 a6 a7
        go_wp2_with (go_at_call 54; refine ka2.mono ?_)
        rintro e w2 ⟨u', rfl, hR3, hB3, hK3⟩
        have hBf : Hid (Below b w w2) := (hB.out.trans (b1'.out.mono (by have := hbw.out; omega))).trans hB3
        have hKf : Hid (KeepT 5 w w2) := (hK.out.trans (KeepT.of_below b1'.out)).trans hK3
        have hRf : Hid (Rw .u8 5 b w2 u' (bs ++ (ds ++ [ltr (T + X % R)]))) := by rw [List.append_assoc] at hR3; exact hR3
        have hlf : Hid (w2.heap[O]? = some (.cells (bv p) 23)) := hK3 _ _ _ _ hl1.out (by decide)
        have hc2 : w2.cell? ⟨O, 0, none⟩ = some (.int .i64 p.base) := cz w2 hlf.out
        clear hR3 hB3 hK3 ka2 hc1
        go_wp2
        refine ⟨⟨X / R, Y, k + p.base, rfl, rfl, rfl, ?_, hBf, hKf, hlf⟩, ?_⟩
        · have hz := HZ.out
          exact ⟨f, ds ++ [ltr (T + X % R)], hz.1, hz.2.1, by omega, e3, hz.2.2.2.2.2.1, hz.2.2.2.2.2.2.1, hz.2.2.2.2.1, by rw [List.length_append]; have := hz.2.2.2.2.2.2.2.1; simp; omega, HE.out, hRf.out⟩
        · have hz := HZ.out
          simp [RowKit.intOf]; omega
end Go.Proofs.Ytahmeejcgddlhab
