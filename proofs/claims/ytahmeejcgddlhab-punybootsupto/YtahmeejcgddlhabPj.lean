/-
  The contract of laid: the basic ones with all that is put in between them.
-/
import Derived.Test.YtahmeejcgddlhabPi
namespace Go.Proofs.Ytahmeejcgddlhab
open Go.RowKit
set_option maxRecDepth 100000 in
set_option maxHeartbeats 2000000 in
theorem laid_any (A : ByteArray) (ps : List (Int × Nat)) (v : Value) (w : World) (hP : RdP w v ps) (hN : A.size + ps.length < 2097152) (hok : OkP A.size ps) (hc : ∀ q ∈ ps, 1 ≤ q.1 ∧ q.1 ≤ 1114111) :
    Calls Try.prog 37 #[.string A, v] w fun e w' => e = .returned (.slice (some ⟨w.heap.size, 0, none⟩) (insAll (byts A) ps).length (insAll (byts A) ps).length) ∧ CelB .i32 21 w' w.heap.size (insAll (byts A) ps).length (fun j => (insAll (byts A) ps).getD j 0) ∧ Below w.heap.size w w' := by
  have hok' : OkP (byts A).length ps := by rw [byts_len]; exact hok
  have hL := len_insAll ps (byts A) hok'
  rw [byts_len] at hL
  have hst := LayI.start (byts A) ps hok'
  obtain ⟨L, hLL⟩ : ∃ L, insAll (byts A) ps = L := ⟨_, rfl⟩
  rw [hLL] at hL hst ⊢
  obtain ⟨N, hNN⟩ : ∃ N, A.size + ps.length = N := ⟨_, rfl⟩
  rw [hNN] at hL hN
  have HP : Hid (RdP w v ps) := hP
  obtain ⟨a, cc, rfl, -⟩ := hP
  have kmk := run_mk22 N w (by omega)
  have k45 := fun w => allm_any N w (by omega)
  have hn1 : (A.size : Int) + (ps.length : Int) = (N : Int) := by omega
  have hn2 : (N : Int) < 2097152 := by omega
  have hps : (ps.length : Int) ≤ (N : Int) := by omega
  have hc0 : Hid (CelB .i32 21 (w.alloc (.cells (madeCells (Value.int .i32 0).cells N) 21)) w.heap.size N (fun _ => 0)) := CelB.new w 21 (.int .i32 0) N _ rfl (fun _ _ => rfl)
  have hB0 : Hid (Below w.heap.size w (w.alloc (.cells (madeCells (Value.int .i32 0).cells N) 21))) := (Below.refl _ w).alloc (Nat.le_refl _) _
  have hs0 : (w.alloc (.cells (madeCells (Value.int .i32 0).cells N) 21)).heap.size = w.heap.size + 1 := by simp
  replace hst : Hid (LayI (byts A) ps L ps.length (fun _ => true) (fun _ => 0)) := hst
  replace hLL : Hid (insAll (byts A) ps = L) := hLL
  replace hNN : Hid (A.size + ps.length = N) := hNN
  replace hL : Hid (L.length = N) := hL
  go_enter Try.func37, Try.ntmps37
  generalize hW1 : w.alloc (.cells (madeCells (Value.int .i32 0).cells N) 21) = W1 at *
  go_wp2_with (go_at_call 46; refine (k45 _).mono ?_)
  rintro e w2 ⟨rfl, cB, bB⟩
  have hz2 := bB.size
  have hO : Hid (CelB .i32 21 w2 w.heap.size N (fun _ => 0)) := hc0.out.below bB
  have hR : Hid (Below w.heap.size w w2) := hB0.out.trans (bB.mono (by omega))
  replace cB : Hid (Cel .i64 w2 W1.heap.size (N + 1) (fun j => (lb j : Int))) := cB
  have hNb : W1.heap.size ≠ w.heap.size := by omega
  have hOb : w.heap.size < W1.heap.size := by omega
  generalize hOO : w.heap.size = O at *
  generalize hBB : W1.heap.size = B at *
  clear k45 kmk hc0 hB0 bB hs0 hz2
  have hzz : Hid (O + 1 ≤ w2.heap.size ∧ B < w2.heap.size) := ⟨by have := (hR.out).size; have := Cel.lt cB.out (by omega); omega, Cel.lt cB.out (by omega)⟩
  go_wp2
  go_loopw [7, 8] (fun z _ wr => ∃ (i : Int), z = .int .i64 i ∧ Hid (∃ (t : Nat) (mk : Nat → Bool) (out fr : Nat → Int), i = (t : Int) - 1 ∧ t ≤ ps.length ∧ LayI (byts A) ps L t mk out ∧ FT (N + 1) fr mk ∧ fr 0 = 0 ∧ Cel .i64 wr B (N + 1) fr ∧ CelB .i32 21 wr O N out ∧ Below O w wr ∧ O + 1 ≤ wr.heap.size)) (fun z _ _ => (RowKit.intOf z + 1).toNat)
  case atStart => exact ⟨_, rfl, ps.length, fun _ => true, fun _ => 0, fun j => (lb j : Int), rfl, Nat.le_refl _, hst.out, ft_all _, by decide, cB.out, hO.out, hR.out, hzz.out.1⟩
  case round =>
    clear hst hO hR cB hzz
    obtain ⟨i, rfl, t, mk, out, fr, g1, g2, g3, g4, g5, g6, g7, g8, g9⟩ := hrel
    cases t with
    | zero =>
      obtain rfl : i = -1 := by omega
      clear g1
      have HD := g3.done
      have HI : Hid (∀ x, x < N → (mk x = true → out x = 0 ∧ cnt mk x < A.size ∧ L.getD x 0 = (byts A).getD (cnt mk x) 0) ∧ (mk x = false → out x = L.getD x 0 ∧ 1 ≤ out x)) := fun x hx => by
        have := HD x (by rw [hL.out]; exact hx)
        rw [byts_len] at this
        exact this
      replace g7 : Hid (CelB .i32 21 wr O N out) := g7
      replace g8 : Hid (Below O w wr) := g8
      clear HD g3 g4 g5 g6 hok hc hok'
      go_wp2
      go_loopw [9, 10, 47] (fun z _ x wq => ∃ (k : Nat), x = .int .i64 (k : Int) ∧ z = .int .i64 (cnt mk k : Int) ∧ Hid (k ≤ N ∧ CelB .i32 21 wq O N (fun j => if j < k then L.getD j 0 else out j) ∧ Below O w wq)) (fun _ _ x _ => (N : Int).toNat - (RowKit.intOf x).toNat)
      case atStart => exact ⟨0, rfl, rfl, Nat.zero_le _, g7.out.congr (fun j hj => by simp), g8.out⟩
      case round =>
        obtain ⟨k, rfl, rfl, j1, j2, j3⟩ := hrel
        clear g7 g8
        by_cases c : k < N
        · have c1 : (k : Int) < (N : Int) := by omega
          obtain ⟨x1, x2⟩ := j2.cel k c
          simp only [Nat.lt_irrefl, if_false] at x1
          obtain ⟨m1, m2⟩ := HI.out k c
          have hnx : cnt mk (k + 1) = cnt mk k + (if mk k = true then 1 else 0) := rfl
          replace HI : Hid _ := HI
          cases hm : mk k with
          | true =>
            obtain ⟨m3, m4, m5⟩ := m1 hm
            rw [hm, if_pos rfl] at hnx
            rw [m3] at x1
            have hby : byt A (cnt mk k) < 256 := byt_lt _ _
            have q0 : (A[cnt mk k]'m4).toNat = byt A (cnt mk k) := byt_eq A _ m4
            have m4' : (cnt mk k : Int) < (A.size : Int) := by omega
            have hnx' : ((cnt mk k : Nat) : Int) + 1 = ((cnt mk (k + 1) : Nat) : Int) := by omega
            rw [byts_at A _ m4] at m5
            have HE : Hid (k + 1 ≤ N ∧ CelB .i32 21 (wr.setCell ⟨O, k, none⟩ (.int .i32 ((byt A (cnt mk k) : Nat) : Int))) O N (fun j => if j < k + 1 then L.getD j 0 else out j) ∧ Below O w (wr.setCell ⟨O, k, none⟩ (.int .i32 ((byt A (cnt mk k) : Nat) : Int)))) := ⟨by omega, (j2.set k _).congr (fun j hj => by
              by_cases e : j = k
              · subst e; rw [if_pos rfl, if_pos (by omega), m5]
              · rw [if_neg e]
                by_cases e2 : j < k
                · rw [if_pos e2, if_pos (by omega)]
                · rw [if_neg e2, if_neg (by omega)]), j3.setCell (Nat.le_refl _) _⟩
            replace hnx' : Hid (((cnt mk k : Nat) : Int) + 1 = ((cnt mk (k + 1) : Nat) : Int)) := hnx'
            clear hm m1 m2 m3 m5 j2 j3 hnx HI
            obtain ⟨d, hd⟩ : ∃ d, cnt mk k = d := ⟨_, rfl⟩
            simp only [hd] at *
            generalize byt A d = Y at *
            have hY : (Y : Int) < 256 := by omega
            clear hd
            go_wp2
            refine ⟨⟨k + 1, by go_num, by rw [← hnx'.out], HE⟩, ?_⟩
            simp [RowKit.intOf]; omega
          | false =>
            obtain ⟨m3, m4⟩ := m2 hm
            rw [hm, if_neg (by simp)] at hnx
            have hne : (out k == 0) = false := by simp; omega
            have HE : Hid (k + 1 ≤ N ∧ CelB .i32 21 wr O N (fun j => if j < k + 1 then L.getD j 0 else out j) ∧ Below O w wr) := ⟨by omega, j2.congr (fun j hj => by
              by_cases e2 : j < k
              · rw [if_pos e2, if_pos (by omega)]
              · rw [if_neg e2]
                by_cases e : j = k
                · subst e; rw [if_pos (by omega), m3]
                · rw [if_neg (by omega)]), j3⟩
            replace hnx : Hid (cnt mk (k + 1) = cnt mk k + 0) := hnx
            clear hm m1 m2 m3 m4 j2 j3 HI
            generalize out k = Y at *
            go_wp2
            refine ⟨⟨k + 1, by go_num, by rw [hnx.out]; rfl, HE⟩, ?_⟩
            simp [RowKit.intOf]; omega
        · have c1 : ¬ (k : Int) < (N : Int) := by omega
          have HC : Hid (CelB .i32 21 wr O N (fun j => L.getD j 0)) := j2.congr (fun j hj => by rw [if_pos (by omega)])
          have HB : Hid (Below O w wr) := j3
          clear j2 j3 HI
          go_wp2
          go_ret
          rw [hL.out]
          exact ⟨rfl, HC.out, HB.out⟩
    | succ t =>
      have ht : t < ps.length := by omega
      obtain ⟨⟨pc, pp⟩, hq⟩ : ∃ q, ps[t]? = some q := ⟨ps[t], List.getElem?_eq_getElem ht⟩
      obtain ⟨pc1, pc2⟩ := hc _ (List.mem_of_getElem? hq)
      obtain ⟨r, r1, r2, r3, r4, r5⟩ := g3.step hok' pc pp hq pc1
      have hpp := OkP.at t _ ps hok _ hq
      simp only at pc1 pc2 hpp
      rw [hL.out] at r1
      have hOO' : w.heap.size = O := hOO
      obtain ⟨a1, c1, e1, hcell⟩ := HP.out.below (by rw [hOO']; exact g8)
      cases e1
      obtain ⟨g, rfl, hcell2⟩ := hcell (by omega)
      obtain ⟨-, x1⟩ := hcell2 t _ hq
      obtain rfl : i = (t : Int) := by omega
      have kf := find_ft B (N + 1) fr mk pp r wr (by omega) (by omega) g4 (by omega) (by omega) (fun x hx _ => r4 x hx) g6
      have kc := change_off B (N + 1) r fr mk wr (by omega) (by omega) g4 g5 r2 g6
      have hx2 : ∀ wz, Below O w wz → wz.cell? ⟨g, t * 2, none⟩ = some (.int .i32 pc) := fun wz hb => by
        obtain ⟨a1, c1, e1, hcell⟩ := HP.out.below (by rw [hOO']; exact hb)
        cases e1
        obtain ⟨g', e2, hcell2⟩ := hcell (by omega)
        cases e2
        exact (hcell2 t _ hq).1
      have hgo : g < O := by
        obtain ⟨a1, c1, e1, hcell⟩ := HP.out
        cases e1
        obtain ⟨g', e2, hcell2⟩ := hcell (by omega)
        cases e2
        have := World.block_lt_of_cell? w _ (hcell2 t _ hq).1
        rw [← hOO']; simpa using this
      have G7 : Hid (CelB .i32 21 wr O N out) := g7
      have G8 : Hid (Below O w wr) := g8
      have R5 : Hid (LayI (byts A) ps L t (setB mk r false) (fun j => if j = r then pc else out j)) := r5
      replace hx2 : Hid (∀ wz, Below O w wz → wz.cell? ⟨g, t * 2, none⟩ = some (.int .i32 pc)) := hx2
      have ht1 : (t : Int) < (ps.length : Int) := by omega
      have ht2 : (0 : Int) ≤ (t : Int) := by omega
      have r1' : (r : Int) < (N : Int) := by omega
      clear g1 g3 g4 g5 g6 g7 g8 hq r2 r3 r4 r5 hcell hcell2 hok' hok hc
      go_wp2_with (first | (go_at_call 47; refine kf.mono ?_; rintro e w4 ⟨rfl, hw⟩; rw [hw]; clear hw) | (go_at_call 42; refine kc.mono ?_))
      rintro e w3 ⟨rfl, ⟨fr', c6, f1, f2⟩, ho⟩
      have z1 := hx2.out _ (Only.below G8.out (by omega) (by omega) ho)
      have z2 := CelB.only G7.out (by omega) ho
      obtain ⟨z3, z4⟩ := z2.cel r (by omega)
      have HE : Hid (∃ (t' : Nat) (mk' : Nat → Bool) (out' fr'' : Nat → Int), (t : Int) - 1 = (t' : Int) - 1 ∧ t' ≤ ps.length ∧ LayI (byts A) ps L t' mk' out' ∧ FT (N + 1) fr'' mk' ∧ fr'' 0 = 0 ∧ Cel .i64 (w3.setCell ⟨O, r, none⟩ (.int .i32 pc)) B (N + 1) fr'' ∧ CelB .i32 21 (w3.setCell ⟨O, r, none⟩ (.int .i32 pc)) O N out' ∧ Below O w (w3.setCell ⟨O, r, none⟩ (.int .i32 pc)) ∧ O + 1 ≤ (w3.setCell ⟨O, r, none⟩ (.int .i32 pc)).heap.size) :=
        ⟨t, _, _, fr', rfl, by omega, R5.out, f1, f2, c6.far _ (by simp; omega) _, z2.set r pc, (Only.below G8.out (by omega) (by omega) ho).setCell (Nat.le_refl _) _, by have := ho.size; simp; omega⟩
      clear c6 f1 f2 ho z2 G7 G8 R5 hx2 kf kc g2
      go_wp2
      refine ⟨⟨_, rfl, HE⟩, ?_⟩
      simp [RowKit.intOf]
end Go.Proofs.Ytahmeejcgddlhab
