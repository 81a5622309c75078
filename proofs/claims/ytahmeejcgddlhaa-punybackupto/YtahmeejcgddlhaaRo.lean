/-
  The law PunyBack.
-/
import Derived.Test.YtahmeejcgddlhaaRn
import Derived.Deep.DeepMust
namespace Go.Proofs.Ytahmeejcgddlhaa
open Go.RowKit
set_option maxRecDepth 100000 in
set_option maxHeartbeats 8000000 in
theorem law_back (zs : List Int) (v : Value) (w : World) (hz : zs.length < 1048577) (h : RdsA .i32 w v zs) : Calls Try.prog 5 #[v] w fun e w' => e = .returned (.bool true) ∧ Below w.heap.size w w' := by
  obtain ⟨os, hS⟩ := sorted zs
  have k0 := awake_any w
  have HA0 : Hid (Rds .i32 w v zs) := h.rds
  have HZ : Hid (zs.length < 1048577) := hz
  have k10 := fun w1 (hb : Below w.heap.size w w1) => encP_any zs os v w1 hz hS (HA0.out.below hb)
  have k11 := fun w1 (hb : Below w.heap.size w w1) => encD_any zs os v w1 hz hS (HA0.out.below hb)
  have hbad := encT_bad zs os
  have HG : Hid ((encT zs os).2.2 = 0 → (encT zs os).2.1 = 0 ∧ (encT zs os).1.size < 67108865 ∧ decS usual (encT zs os).1 = .inr zs ∧ propR (encT zs os).1 true ∧ (∀ j, j < (encT zs os).1.size → (byt (encT zs os).1 j : Int) < 128) ∧ ∀ GL : List Int, GL.length = (encT zs os).1.size → (∀ j, j < (encT zs os).1.size → Gr (encT zs os).1 (Go.Proofs.Ytahmeejcgddlhaa.hdN usual (encT zs os).1) j (GL.getD j 0)) → decS usual (strOfNums GL) = .inr zs) := fun h0 => by
    obtain ⟨D, e, ht, he, hc, hs, hd⟩ := enc_good zs os hz hS h0
    have hback := dec_back usual usual_ok _ zs os D hc hS (lo_list zs) ht he
    rw [e]
    refine ⟨rfl, hs, hback, ?_, ht.low usual_ok (bsL_basic usual zs _) hd, fun GL hl hg => ?_⟩
    · unfold propR
      rw [hback]
      intro os' h'
      rw [← hS.uniq h', e]
      simp
    · simp only [ht.hdN.1] at hg
      exact dec_back usual usual_ok _ zs os D hc hS (lo_list zs) (great_txt ht (by decide) hl hg) he
  obtain ⟨r, hr⟩ : ∃ r, encT zs os = r := ⟨_, rfl⟩
  simp only [hr] at k10 k11 HG hbad
  obtain ⟨S, P, E⟩ := r
  unfold encV at k10 k11
  simp only at k10 k11 HG hbad
  clear h hS hr
  go_enter Try.func5, Try.ntmps5
  go_wp2_with (go_at_call 9; refine (calls_hid k0).mono ?_)
  intro _ w1 hq
  obtain ⟨rfl, b1⟩ := hq.out
  have HB1 : Hid (Below w.heap.size w w1) := b1
  have k10b := k10 w1 b1
  clear k0 hq b1 k10
  go_wp2_with (go_at_call 10; refine k10b.mono ?_)
  intro _ w2 hq
  obtain ⟨rfl, b2⟩ := hq.out
  have HB2 : Hid (Below w.heap.size w w2) := HB1.out.trans (b2.mono HB1.out.size)
  clear hq b2 k10b HB1
  by_cases c1 : E ≠ 0
  · have c3 : (E != 0) = true := by simpa using c1
    obtain rfl := hbad c1
    have k11b := k11 w2 HB2.out
    clear hbad c1 HG k11
    go_wp2_with (go_at_call 11; refine k11b.mono ?_)
    intro _ w3 hq
    obtain ⟨rfl, b3⟩ := hq.out
    have HB3 : Hid (Below w.heap.size w w3) := HB2.out.trans (b3.mono HB2.out.size)
    clear hq b3 k11b HB2
    go_wp2
    go_ret
    exact ⟨rfl, HB3.out⟩
  obtain rfl : E = 0 := Decidable.not_not.1 c1
  obtain ⟨rfl, g1, g2, g3, g4, g5⟩ := HG.out rfl
  have HSZ : Hid (S.size < 67108865) := g1
  have HLOW : Hid (∀ j, j < S.size → (byt S j : Int) < 128) := g4
  have HGR : Hid (∀ GL : List Int, GL.length = S.size → (∀ j, j < S.size → Gr S (Go.Proofs.Ytahmeejcgddlhaa.hdN usual S) j (GL.getD j 0)) → decS usual (strOfNums GL) = .inr zs) := g5
  have k13 : ∀ (T : ByteArray) w, T.size < 67108865 → decS usual T = .inr zs → Calls Try.prog 13 #[.string T] w fun e w' => Hid (dcA (.inr zs) w.heap.size e w' ∧ Below w.heap.size w w') := fun T w h1 h2 => by
    have := decP_any T w h1 (fun L hL => by rw [h2] at hL; cases hL; exact HZ.out)
    rwa [h2] at this
  have k15 := fun w => proper_any S w g1 (fun L hL => by rw [g2] at hL; cases hL; exact HZ.out)
  have HD : Hid (decS usual S = .inr zs) := g2
  have HPR : Hid (propR S true) := g3
  clear c1 g1 g2 g3 g4 g5 k11 hbad HG
  have s9 : (S.size : Int) ≤ 9007199254740992 := by have := HSZ.out; omega
  go_wp2
  go_loopw [9, 41] (fun y x wr => ∃ k : Nat, x = .int .i64 (k : Int) ∧ y = .int .i64 ((lix S 45 k).toNat : Int) ∧ k ≤ S.size ∧ Hid (wr = w2)) (fun _ x _ => S.size - (RowKit.intOf x).toNat)
  case atStart => exact ⟨0, rfl, rfl, Nat.zero_le _, rfl⟩
  case round =>
    obtain ⟨k, rfl, rfl, hk, hwr⟩ := hrel
    rw [Hid] at hwr
    subst hwr
    by_cases c : k < S.size
    · have c1 : (k : Int) < (S.size : Int) := by omega
      have c2 : decide ((k : Int) < (S.size : Int)) = true := decide_eq_true c1
      have q0 : (S[k]'c).toNat = byt S k := byt_eq S k c
      have k9 : (k : Int) ≤ 9007199254740992 := by omega
      have hx : lix S 45 (k + 1) = if (byt S k : Int) = 45 then (k : Int) else lix S 45 k := rfl
      have hlo : decide ((127 : Int) < (byt S k : Int)) = false := by have := HLOW.out k c; simp; omega
      have hlo2 : decide (127 < byt S k) = false := by have := HLOW.out k c; simp; omega
      by_cases d : (byt S k : Int) = 45
      · rw [if_pos d] at hx
        have d2 : ((byt S k : Int) == 45) = true := by simpa using d
        have HX : Hid ((k : Int) = ((lix S 45 (k + 1)).toNat : Int)) := by show _ = _; rw [hx]; omega
        clear hx d
        generalize byt S k = Y at *
        generalize lix S 45 k = Z at *
        go_wp2
        refine ⟨⟨k + 1, by simp, by rw [← HX.out], by omega, by first | exact trivial | exact rfl⟩, ?_⟩
        simp [RowKit.intOf]; omega
      · rw [if_neg d] at hx
        have d2 : ((byt S k : Int) == 45) = false := by simpa using d
        have HX : Hid (((lix S 45 k).toNat : Int) = ((lix S 45 (k + 1)).toNat : Int)) := by show _ = _; rw [hx]
        clear hx d
        generalize byt S k = Y at *
        generalize lix S 45 k = Z at *
        go_wp2
        refine ⟨⟨k + 1, by simp, by rw [← HX.out], by omega, by first | exact trivial | exact rfl⟩, ?_⟩
        simp [RowKit.intOf]; omega
    · obtain rfl : k = S.size := by omega
      have c2 : decide ((S.size : Int) < (S.size : Int)) = false := by simp
      have hH : (lix S 45 S.size).toNat = Go.Proofs.Ytahmeejcgddlhaa.hdN usual S := rfl
      rw [hH]
      have hAle := (hdN_lt usual S).1
      obtain ⟨A, hA⟩ : ∃ A, Go.Proofs.Ytahmeejcgddlhaa.hdN usual S = A := ⟨_, rfl⟩
      rw [hA] at HGR hAle ⊢
      have KC : Hid ((convert 9 36 (.string S)).run Try.prog wr = .ok (.slice (some ⟨wr.heap.size, 0, none⟩) S.size (grownCap wr S.size 0 5)) (Lib.bytesWorld wr 5 S)) := Lib.run_convert_string_bytes wr 9 36 5 S Try.underlying9 Try.underlying36 under5
      have C0 : Hid (∃ f : Nat → Int, Cel .u8 (Lib.bytesWorld wr 5 S) wr.heap.size S.size f ∧ ∀ j, j < S.size → Gr S A j (f j) ∧ (A ≤ j → f j = (byt S j : Int))) := ⟨_, Cel.of_text wr S, fun j _ => ⟨.inl rfl, fun _ => rfl⟩⟩
      have B0 : Hid (Below w.heap.size w (Lib.bytesWorld wr 5 S)) := HB2.out.trans ((bw_below wr S).mono HB2.out.size)
      have hg0 : Hid (w.heap.size ≤ wr.heap.size) := HB2.out.size
      clear hH hA c HB2 hk
      generalize Lib.bytesWorld wr 5 S = W3 at *
      generalize grownCap wr S.size 0 5 = cp at *
      generalize wr.heap.size = g at *
      go_wp2_with (refine wpList_cv2 rfl 9 36 _ rfl _ rfl _ KC.out ?_)
      clear KC
      have a9 : (A : Int) ≤ (S.size : Int) := by omega
      go_wp2
      go_loopw [12] (fun x wq => ∃ k : Nat, x = .int .i64 (k : Int) ∧ A ≤ k ∧ k ≤ S.size ∧ Hid (∃ f : Nat → Int, Cel .u8 wq g S.size f ∧ ∀ j, j < S.size → Gr S A j (f j) ∧ (k ≤ j → f j = (byt S j : Int))) ∧ Hid (Below w.heap.size w wq)) (fun x _ => S.size - (RowKit.intOf x).toNat)
      case atStart => exact ⟨A, rfl, Nat.le_refl _, hAle, C0, B0⟩
      case round =>
        clear C0 B0
        obtain ⟨wp, hwp⟩ : ∃ wp, wr = wp := ⟨_, rfl⟩
        rw [hwp] at hrel ⊢
        clear hwp
        obtain ⟨k, rfl, hAk, hk, ⟨f, hC, hf⟩, hB⟩ := hrel
        by_cases c : k < S.size
        · have c1 : (k : Int) < (S.size : Int) := by omega
          have c2 : decide ((k : Int) < (S.size : Int)) = true := decide_eq_true c1
          have k9 : (k : Int) ≤ 9007199254740992 := by omega
          obtain ⟨y1, y2⟩ := hC k c
          rw [(hf k c).2 (Nat.le_refl _)] at y1
          have q0 : (S[0]'(by omega)).toNat = byt S 0 := byt_eq S 0 (by omega)
          have s0 : (0 : Int) < (S.size : Int) := by omega
          have yl := byt_lt S k
          have HC : Hid (Cel .u8 wp g S.size f) := hC
          have HF : Hid (∀ j, j < S.size → Gr S A j (f j) ∧ (k ≤ j → f j = (byt S j : Int))) := hf
          have HE0 : Hid (∃ f : Nat → Int, Cel .u8 wp g S.size f ∧ ∀ j, j < S.size → Gr S A j (f j) ∧ (k + 1 ≤ j → f j = (byt S j : Int))) := ⟨f, hC, fun j hj => ⟨(hf j hj).1, fun q => (hf j hj).2 (by omega)⟩⟩
          have HE1 : 97 ≤ (byt S k : Int) → (byt S k : Int) ≤ 122 → Hid (∃ f : Nat → Int, Cel .u8 (wp.setCell ⟨g, k, none⟩ (.int .u8 ((byt S k : Int) - 32))) g S.size f ∧ ∀ j, j < S.size → Gr S A j (f j) ∧ (k + 1 ≤ j → f j = (byt S j : Int))) := fun h0 h1 => by
            refine ⟨_, hC.set k ((byt S k : Int) - 32), fun j hj => ?_⟩
            by_cases e : j = k
            · subst e
              rw [if_pos rfl]
              exact ⟨.inr ⟨hAk, h0, h1, rfl⟩, fun q => by omega⟩
            · rw [if_neg e]
              exact ⟨(hf j hj).1, fun q => (hf j hj).2 (by omega)⟩
          have HB1 : ∀ x, Hid (Below w.heap.size w (wp.setCell ⟨g, k, none⟩ x)) := fun x => hB.out.setCell (by have := hg0.out; simpa using this) _
          replace HE1 : Hid (97 ≤ (byt S k : Int) → (byt S k : Int) ≤ 122 → Hid (∃ f : Nat → Int, Cel .u8 (wp.setCell ⟨g, k, none⟩ (.int .u8 ((byt S k : Int) - 32))) g S.size f ∧ ∀ j, j < S.size → Gr S A j (f j) ∧ (k + 1 ≤ j → f j = (byt S j : Int)))) := HE1
          replace HB1 : Hid (∀ x, Hid (Below w.heap.size w (wp.setCell ⟨g, k, none⟩ x))) := HB1
          clear hC hf
          by_cases t1 : 97 ≤ (byt S k : Int)
          · have t1' : decide (97 ≤ (byt S k : Int)) = true := decide_eq_true t1
            by_cases t2 : (byt S k : Int) ≤ 122
            · have t2' : decide ((byt S k : Int) ≤ 122) = true := decide_eq_true t2
              have HE2 := HE1.out t1 t2
              have HB2 := HB1.out (.int .u8 ((byt S k : Int) - 32))
              have wv : IntKind.u8.wrap ((byt S k : Int) - 32) = (byt S k : Int) - 32 := IntWalk.u8_in _ ⟨by omega, by omega⟩
              have t0 : (0 : Int) ≤ (byt S k : Int) - 32 := by omega
              clear HE1 HB1 t1 t2 HC HF
              by_cases t3 : 0 < A
              · have t3' : decide (0 < A) = true := decide_eq_true t3
                clear HE0
                generalize byt S 0 = Y0 at *
                generalize (byt S k : Int) = Y at *
                clear t3
                go_wp2
                refine ⟨⟨k + 1, by simp, by omega, by omega, HE2, HB2⟩, ?_⟩
                simp [RowKit.intOf]; omega
              · have t3' : decide (0 < A) = false := decide_eq_false t3
                by_cases t4 : (byt S 0 : Int) = 45
                · have t4' : ((byt S 0 : Int) != 45) = false := by simpa using t4
                  clear HE2 HB2 t4
                  generalize byt S 0 = Y0 at *
                  generalize (byt S k : Int) = Y at *
                  clear t3
                  go_wp2
                  refine ⟨⟨k + 1, by simp, by omega, by omega, HE0, hB⟩, ?_⟩
                  simp [RowKit.intOf]; omega
                · have t4' : ((byt S 0 : Int) != 45) = true := by simpa using t4
                  clear HE0 t4
                  generalize byt S 0 = Y0 at *
                  generalize (byt S k : Int) = Y at *
                  clear t3
                  go_wp2
                  refine ⟨⟨k + 1, by simp, by omega, by omega, HE2, HB2⟩, ?_⟩
                  simp [RowKit.intOf]; omega
            · have t2' : decide ((byt S k : Int) ≤ 122) = false := decide_eq_false t2
              clear HE1 HB1 t1 t2 HC HF
              generalize byt S 0 = Y0 at *
              generalize (byt S k : Int) = Y at *
              go_wp2
              refine ⟨⟨k + 1, by simp, by omega, by omega, HE0, hB⟩, ?_⟩
              simp [RowKit.intOf]; omega
          · have t1' : decide (97 ≤ (byt S k : Int)) = false := decide_eq_false t1
            clear HE1 HB1 t1 HC HF
            generalize byt S 0 = Y0 at *
            generalize (byt S k : Int) = Y at *
            go_wp2
            refine ⟨⟨k + 1, by simp, by omega, by omega, HE0, hB⟩, ?_⟩
            simp [RowKit.intOf]; omega
        · obtain rfl : k = S.size := by omega
          have c2 : decide ((S.size : Int) < (S.size : Int)) = false := by simp
          have HGT : Hid (∃ T : ByteArray, T.size < 67108865 ∧ decS usual T = .inr zs ∧ ∀ w5, Below wp.heap.size wp w5 → ∀ cc, (convert 36 9 (.slice (some ⟨g, 0, none⟩) S.size cc)).run Try.prog w5 = .ok (.string T) w5) := by
            have hgr : decS usual (strOfNums ((List.range S.size).map f)) = .inr zs := HGR.out _ (by simp) fun j hj => by
              have := (hf j hj).1
              simpa [List.getD_eq_getElem?_getD, hj] using this
            refine ⟨strOfNums ((List.range S.size).map f), by rw [strOfNums_size]; have := HSZ.out; simpa using this, hgr, fun w5 hb cc => text_cel (Cel.below hC hb)⟩
          obtain ⟨T, T1, T2, T3⟩ := HGT.out
          have kS := fun w => k13 S w HSZ.out HD.out
          have kT := fun w => k13 T w T1 T2
          have HT3 : Hid (∀ w5, Below wp.heap.size wp w5 → ∀ cc, (convert 36 9 (.slice (some ⟨g, 0, none⟩) S.size cc)).run Try.prog w5 = .ok (.string T) w5) := T3
          clear HGT T1 T2 T3 hC hf k13 c HGR HD hk hAk
          go_wp2_with (go_at_call 13; refine (kS _).mono ?_)
          intro _ w5 hq
          obtain ⟨⟨vk, rfl, hRk⟩, b5⟩ := hq.out
          have HB5 : Hid (Below w.heap.size w w5) := hB.out.trans (b5.mono hB.out.size)
          have HP5 : Hid (Below wp.heap.size wp w5) := b5
          have k12 := sameL_any zs vk v w5 hRk.rds (HA0.out.below HB5.out) (by have := HZ.out; omega)
          obtain ⟨ak, ck, rfl, -⟩ := owns_slice hRk
          clear hq b5 kS hB hRk
          go_wp2_with (go_at_call 12; refine (calls_hid k12).mono ?_)
          intro _ w6 hq
          obtain ⟨rfl, b6⟩ := hq.out
          have HB6 : Hid (Below w.heap.size w w6) := HB5.out.trans (b6.mono HB5.out.size)
          have HP6 : Hid (Below wp.heap.size wp w6) := HP5.out.trans (b6.mono HP5.out.size)
          clear hq b6 k12 HB5 HP5
          go_wp2_with (go_at_call 15; refine (k15 _).mono ?_)
          intro _ w7 hq
          obtain ⟨b, hq⟩ := hq
          obtain ⟨rfl, hb, b7⟩ := hq.out
          obtain rfl : b = true := by
            have h1 := HPR.out
            unfold propR at h1 hb
            cases hG : decS usual S with
            | inl e => rw [hG] at h1; simp at h1
            | inr L =>
              rw [hG] at h1 hb
              obtain ⟨os, hS⟩ := sorted L
              exact (hb os hS).2 ((h1 os hS).1 rfl)
          have HB7 : Hid (Below w.heap.size w w7) := HB6.out.trans (b7.mono HB6.out.size)
          have HP7 : Hid (Below wp.heap.size wp w7) := HP6.out.trans (b7.mono HP6.out.size)
          have hcv := HT3.out w7 HP7.out
          clear hq b7 k15 HB6 HP6 HP7 hb HPR HT3
          go_wp2_with (go_at_call 13; refine (kT _).mono ?_)
          intro _ w8 hq
          obtain ⟨⟨vk, rfl, hRk⟩, b8⟩ := hq.out
          have HB8 : Hid (Below w.heap.size w w8) := HB7.out.trans (b8.mono HB7.out.size)
          have k12 := sameL_any zs vk v w8 hRk.rds (HA0.out.below HB8.out) (by have := HZ.out; omega)
          obtain ⟨ak, ck, rfl, -⟩ := owns_slice hRk
          clear hq b8 kT HB7 hRk hcv
          go_wp2_with (go_at_call 12; refine (calls_hid k12).mono ?_)
          intro _ w9 hq
          obtain ⟨rfl, b9⟩ := hq.out
          have HB9 : Hid (Below w.heap.size w w9) := HB8.out.trans (b9.mono HB8.out.size)
          clear hq b9 k12 HB8
          go_wp2
          go_ret
          exact ⟨rfl, HB9.out⟩
end Go.Proofs.Ytahmeejcgddlhaa
