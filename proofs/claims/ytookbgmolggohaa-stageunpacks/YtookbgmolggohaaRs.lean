/-
  The contract of the document's Runs. Conditions: the rows may be; the list is no longer than 4000000.
-/
import Derived.Test.YtookbgmolggohaaRn
namespace Go.Proofs.Ytookbgmolggohaa
open Go.RowKit
theorem own_none (W : World) (b t z : Nat) (hb : b ≤ W.heap.size) : (W.alloc (.cells #[] t)).ownsRow b t z (.slice (some ⟨W.heap.size, 0, none⟩) 0 0) 0 [] :=
  ⟨by simp, .inr ⟨W.heap.size, 0, #[], rfl, hb, heap_alloc_last _ _, Nat.le_refl _, Nat.zero_le _, by simp, by simp⟩⟩
set_option maxRecDepth 100000 in
set_option maxHeartbeats 4000000 in
theorem runs_any (L : List Rw) (v : Value) (w : World) (hr : Rd3 .i64 w v L) (hok : okF 0 L) (hl : L.length ≤ 4000000) : Calls Try.prog 12 #[v] w fun e w' => ∃ v', e = .returned v' ∧ w'.ownsRow w.heap.size 33 3 v' (runsL L).length (cel3 .i64 (runsL L)) ∧ Below w.heap.size w w' := by
  obtain ⟨a, c, rfl, hlc, hc⟩ := hr
  have HC : Hid _ := hc
  have HF : Hid (okF 0 L) := hok
  clear hc hlc hok
  go_enter Try.func12, Try.ntmps12
  go_wp2_with fail
  go_loopw [3, 4, 10] (fun x z y wr => ∃ (k : Nat) (nx : Int) (X : List Rw), k ≤ L.length ∧ z = .int .i64 nx ∧ y = .int .i64 (k : Nat) ∧ 0 ≤ nx ∧ nx ≤ 1114112 ∧ Hid (runA X nx (L.drop k) = runA [] 0 L) ∧ X.length ≤ 2 * k ∧ Hid (wr.ownsRow w.heap.size 33 3 x X.length (cel3 .i64 X)) ∧ Hid (Below w.heap.size w wr)) (fun _ _ y _ => (L.length - (intOf y).toNat : Nat))
  case atStart => exact ⟨0, 0, [], Nat.zero_le _, rfl, rfl, by omega, by omega, rfl, by simp, own_none w _ 33 3 (Nat.le_refl _), (Below.refl _ _).alloc (Nat.le_refl _) _⟩
  case round =>
    obtain ⟨k, nx, X, hk, rfl, rfl, n0, n1, hS, hXl, hO, hB⟩ := hrel
    have hbsz := hB.out.size
    by_cases hkl : k < L.length
    · obtain ⟨g, off, rfl, hd⟩ := HC.out (by omega)
      obtain ⟨d1, d2, d3⟩ := hd k hkl
      have kl : (k : Int) < (L.length : Int) := by omega
      have g1 := World.block_lt_of_cell? w _ d1
      have e1 := (hB.out.cell (p := ⟨g, off + k * 3, none⟩) (by simpa using g1)).trans d1
      have e2 := (hB.out.cell (p := ⟨g, off + k * 3 + 1, none⟩) (by simpa using g1)).trans d2
      have e3 := (hB.out.cell (p := ⟨g, off + k * 3 + 2, none⟩) (by simpa using g1)).trans d3
      obtain ⟨f1, f2, f3, f4, f5⟩ := ok_get HF.out hkl
      have hst : Hid (runA [] 0 L = runA (addR (if nx < (L.getD k (0, 0, 0)).1 then addR X (nx, (L.getD k (0, 0, 0)).1 - 1, 0) else X) (L.getD k (0, 0, 0))) ((L.getD k (0, 0, 0)).2.1 + 1) (L.drop (k + 1))) := by rw [Hid, ← hS.out]; exact runA_step nx hkl
      clear d1 d2 d3 hd g1 HC HF hS
      generalize L.getD k (0, 0, 0) = s at *
      obtain ⟨x, y, n⟩ := s
      simp only at e1 e2 e3 f1 f2 f3 f4 f5 hst
      obtain ⟨q1, q2, q3⟩ := box3 wr (.int .i64 x) (.int .i64 y) (.int .i64 n) 33
      have B1 : Hid (Below w.heap.size w (wr.alloc (.cells #[.int .i64 x, .int .i64 y, .int .i64 n] 33))) := hB.out.alloc hbsz _
      have O1 : Hid ((wr.alloc (.cells #[.int .i64 x, .int .i64 y, .int .i64 n] 33)).ownsRow w.heap.size 33 3 u3 X.length (cel3 .i64 X)) := hO.out.alloc _
      have wy : IntKind.i64.wrap (y + 1) = y + 1 := IntWalk.i64_in _ (by omega)
      have wx : IntKind.i64.wrap (x - 1) = x - 1 := IntWalk.i64_in _ (by omega)
      have hbk : Hid ((wr.alloc (.cells #[.int .i64 x, .int .i64 y, .int .i64 n] 33)).heap[wr.heap.size]? = some (.cells #[.int .i64 x, .int .i64 y, .int .i64 n] 33 (0, 0))) := heap_alloc_last wr _
      have hnb : Hid (u3.ownBlock ≠ some wr.heap.size) := fun hq => by
        obtain ⟨_, cur, hc⟩ := own_in hO.out hq
        have := (Array.getElem?_eq_some_iff.1 hc).1
        omega
      have hsz1 : Hid ((wr.alloc (.cells #[.int .i64 x, .int .i64 y, .int .i64 n] 33)).heap.size = wr.heap.size + 1) := by rw [Hid]; simp
      have HX : Hid (X.length ≤ 2 * k) := hXl
      clear hO hB
      have hq0 : Hid (wr.heap.size = wr.heap.size) := rfl
      -- the last two pieces
      have TAIL : Hid (∀ (w1 : World) (v1 : Value) (Y : List Rw), Y.length ≤ X.length + 1 → w1.ownsRow w.heap.size 33 3 v1 Y.length (cel3 .i64 Y) → Below w.heap.size w w1 → w1.heap[wr.heap.size]? = some (.cells #[.int .i64 x, .int .i64 y, .int .i64 n] 33 (0, 0)) → v1.ownBlock ≠ some wr.heap.size → wr.heap.size < w1.heap.size →
          Calls Try.prog 33 #[v1, .agg #[.int .i64 x, .int .i64 y, .int .i64 n]] w1 fun e w2 => ∃ v2, e = .returned v2 ∧ w2.ownsRow w.heap.size 33 3 v2 (addR Y (x, y, n)).length (cel3 .i64 (addR Y (x, y, n))) ∧ Below w.heap.size w w2 ∧ w2.cell? ⟨wr.heap.size, 1, none⟩ = some (.int .i64 y)) := by
        intro w1 v1 Y hY hO1 hB1 hb1 hn1 hq1
        refine (addr_any w.heap.size Y (x, y, n) v1 w1 hB1.size hO1 (by have := HX.out; omega)).mono ?_
        rintro e w2 ⟨v2, he, hO2, hB2, hF2, -⟩
        refine ⟨v2, he, hO2, hB1.trans hB2, ?_⟩
        rw [World.cell?_of_block (w := w1) (hF2.block wr.heap.size hq1 hn1)]
        exact (cell_of_row w1 wr.heap.size 1 _ 33 (0, 0) hb1).trans rfl
      by_cases hx : nx < x
      · have hxd : decide (nx < x) = true := decide_eq_true hx
        rw [if_pos hx] at hst
        have K1 : Hid (Calls Try.prog 33 #[u3, .agg #[.int .i64 nx, .int .i64 (x - 1), .int .i64 0]] (wr.alloc (.cells #[.int .i64 x, .int .i64 y, .int .i64 n] 33)) fun e w' => ∃ v', e = .returned v' ∧ w'.ownsRow w.heap.size 33 3 v' (addR X (nx, x - 1, 0)).length (cel3 .i64 (addR X (nx, x - 1, 0))) ∧ Below w.heap.size (wr.alloc (.cells #[.int .i64 x, .int .i64 y, .int .i64 n] 33)) w' ∧ Far (fun k => u3.ownBlock = some k) (wr.alloc (.cells #[.int .i64 x, .int .i64 y, .int .i64 n] 33)) w' ∧ (v'.ownBlock = u3.ownBlock ∨ ∃ k, v'.ownBlock = some k ∧ (wr.alloc (.cells #[.int .i64 x, .int .i64 y, .int .i64 n] 33)).heap.size ≤ k)) := addr_any w.heap.size X (nx, x - 1, 0) u3 _ B1.out.size O1.out (by have := HX.out; omega)
        go_wp2_with (go_at_call 33; refine K1.out.mono ?_)
        first | rintro e w1 v1 rfl O2 B2 F2 L2 | rintro e w1 ⟨v1, rfl, O2, B2, F2, L2⟩
        have T1 := TAIL.out w1 v1 (addR X (nx, x - 1, 0)) (addR_len _ _) O2 (B1.out.trans B2) ((F2.block wr.heap.size (by have := hsz1.out; omega) hnb.out).trans hbk.out) (by
          intro hh
          rcases L2 with h | ⟨k2, h, h'⟩
          · rw [h] at hh; exact hnb.out hh
          · rw [h] at hh; cases hh; have := hsz1.out; omega) (by have := F2.size; have := hsz1.out; omega)
        have r0 := (World.cell?_of_block (w := (wr.alloc (.cells #[.int .i64 x, .int .i64 y, .int .i64 n] 33))) (F2.block wr.heap.size (by have := hsz1.out; omega) hnb.out)).trans q1
        have r1 := (World.cell?_of_block (w := (wr.alloc (.cells #[.int .i64 x, .int .i64 y, .int .i64 n] 33))) (F2.block wr.heap.size (by have := hsz1.out; omega) hnb.out)).trans q2
        have r2 := (World.cell?_of_block (w := (wr.alloc (.cells #[.int .i64 x, .int .i64 y, .int .i64 n] 33))) (F2.block wr.heap.size (by have := hsz1.out; omega) hnb.out)).trans q3
        clear K1 TAIL O2 B2 F2 L2 O1 B1 q1 q2 q3 hbk hnb hsz1 e1 e2 e3
        have LEN : Hid ((addR (addR X (nx, x - 1, 0)) (x, y, n)).length ≤ 2 * (k + 1)) := by
          rw [Hid]
          have h1 := addR_len X (nx, x - 1, 0)
          have h2 := addR_len (addR X (nx, x - 1, 0)) (x, y, n)
          have := HX.out
          omega
        go_wp2_with (go_at_call 33; refine T1.mono ?_)
        first | rintro e w2 v2 rfl O3 B3 c3 | rintro e w2 ⟨v2, rfl, O3, B3, c3⟩
        replace O3 : Hid (w2.ownsRow w.heap.size 33 3 v2 (addR (addR X (nx, x - 1, 0)) (x, y, n)).length (cel3 .i64 (addR (addR X (nx, x - 1, 0)) (x, y, n)))) := O3
        replace B3 : Hid (Below w.heap.size w w2) := B3
        clear T1 r0 r1 r2
        go_wp2
        refine ⟨⟨k + 1, y + 1, addR (addR X (nx, x - 1, 0)) (x, y, n), by omega, rfl, by go_num, by omega, by omega, hst.out.symm, LEN.out, O3, B3⟩, by simp [intOf]; omega⟩
      · have hxd : decide (nx < x) = false := decide_eq_false hx
        rw [if_neg hx] at hst
        have T1 := TAIL.out (wr.alloc (.cells #[.int .i64 x, .int .i64 y, .int .i64 n] 33)) u3 X (by omega) O1.out B1.out hbk.out hnb.out (by have := hsz1.out; omega)
        have LEN : Hid ((addR X (x, y, n)).length ≤ 2 * (k + 1)) := by
          rw [Hid]
          have h2 := addR_len X (x, y, n)
          have := HX.out
          omega
        clear TAIL O1 B1 hbk hnb hsz1
        go_wp2_with (go_at_call 33; refine T1.mono ?_)
        first | rintro e w2 v2 rfl O3 B3 c3 | rintro e w2 ⟨v2, rfl, O3, B3, c3⟩
        replace O3 : Hid (w2.ownsRow w.heap.size 33 3 v2 (addR X (x, y, n)).length (cel3 .i64 (addR X (x, y, n)))) := O3
        replace B3 : Hid (Below w.heap.size w w2) := B3
        clear T1 q1 q2 q3
        go_wp2
        refine ⟨⟨k + 1, y + 1, addR X (x, y, n), by omega, rfl, by go_num, by omega, by omega, hst.out.symm, LEN.out, O3, B3⟩, by simp [intOf]; omega⟩
    · have hkk : k = L.length := by omega
      subst hkk
      have hS' : Hid (runA [] 0 L = (X, nx)) := by
        have := hS.out
        rw [List.drop_length] at this
        exact this.symm
      have hXl' : X.length < 9000000 := by omega
      clear hS hXl
      by_cases hn : nx ≤ 1114111
      · have hnd : decide (nx ≤ 1114111) = true := decide_eq_true hn
        have hres : Hid (runsL L = addR X (nx, 1114111, 0)) := by rw [Hid]; unfold runsL; rw [hS'.out, if_pos hn]
        have K1 := addr_any w.heap.size X (nx, 1114111, 0) u3 wr hbsz hO.out hXl'
        go_wp2_with (go_at_call 33; refine K1.mono ?_)
        first | rintro e w1 v1 rfl O2 B2 - - | rintro e w1 ⟨v1, rfl, O2, B2, -, -⟩
        have O3 : Hid (w1.ownsRow w.heap.size 33 3 v1 (runsL L).length (cel3 .i64 (runsL L))) := by rw [Hid, hres.out]; exact O2
        have B3 : Hid (Below w.heap.size w w1) := hB.out.trans B2
        clear K1 O2 B2
        go_wp2
        go_ret
        exact ⟨_, rfl, O3.out, B3.out⟩
      · have hnd : decide (nx ≤ 1114111) = false := decide_eq_false hn
        have hres : Hid (runsL L = X) := by rw [Hid]; unfold runsL; rw [hS'.out, if_neg hn]
        go_wp2
        go_ret
        exact ⟨_, rfl, by rw [hres.out]; exact hO.out, hB.out⟩
end Go.Proofs.Ytookbgmolggohaa
