/-
  The law PunyTexts.
-/
import Derived.Test.YtahmeejcgddlhaaRp
import Derived.Test.YtahmeejcgddlhaaRn
import Derived.Deep.DeepMust
namespace Go.Proofs.Ytahmeejcgddlhaa
open Go.RowKit
set_option maxRecDepth 100000 in
set_option maxHeartbeats 8000000 in
theorem law_texts (s : ByteArray) (w : World) (hs : s.size < 1048577) : Calls Try.prog 6 #[.string s] w fun e w' => e = .returned (.bool true) ∧ Below w.heap.size w w' := by
  have k0 := awake_any w
  have hlim : ∀ L, decS usual s = .inr L → L.length < 1048577 := fun L h => by have := decS_len usual usual_ok s L h; omega
  have k13 := fun w => decP_any s w (by omega) hlim
  have k14 := fun w => decD_any s w (by omega)
  have HL : Hid (∀ L, decS usual s = .inr L → L.length < 1048577 ∧ ∃ os, SrtL (KZ L) (osL usual L L.length) os ∧ encT L os = (strOfNums ((List.range s.size).map (smF s (lix s 45 s.size + 1).toNat)), 0, 0) ∧ ∀ j, j < L.length → okC (L.getD j 0)) := fun L h => by
    refine ⟨hlim L h, ?_⟩
    obtain ⟨os, h1, h2, h3⟩ := text_back s L h
    refine ⟨os, h1, ?_, h3⟩
    rw [h2, show smF s (frN usual s) = smF s (lix s 45 s.size + 1).toNat from funext (smF_same s)]
  have hcode := decS_code usual s
  obtain ⟨G, hG⟩ : ∃ G, decS usual s = G := ⟨_, rfl⟩
  simp only [hG] at k13 k14 HL hcode
  have HS : Hid (s.size < 1048577) := hs
  have s9 : (s.size : Int) ≤ 9007199254740992 := by omega
  clear hG hlim hs
  go_enter Try.func6, Try.ntmps6
  go_wp2_with (go_at_call 9; refine (calls_hid k0).mono ?_)
  intro _ w1 hq
  obtain ⟨rfl, b1⟩ := hq.out
  have HB1 : Hid (Below w.heap.size w w1) := b1
  clear hq b1 k0
  go_wp2_with (go_at_call 13; refine (k13 _).mono ?_)
  intro _ w2 hq
  obtain ⟨hd, b2⟩ := hq.out
  have HB2 : Hid (Below w.heap.size w w2) := HB1.out.trans (b2.mono HB1.out.size)
  cases G with
  | inl g =>
    obtain ⟨ga, gc⟩ := g
    rw [dcA] at hd
    subst hd
    have hc1 : (gc != 0) = true := by simpa using hcode ga gc rfl
    have hc2 : (gc == 0) = false := by simpa using hcode ga gc rfl
    clear hq b2 k13 hcode HB1 HL
    go_wp2_with (go_at_call 14; refine (k14 _).mono ?_)
    intro _ w3 hq
    obtain ⟨hd, b3⟩ := hq.out
    rw [dcA] at hd
    subst hd
    have HB3 : Hid (Below w.heap.size w w3) := HB2.out.trans (b3.mono HB2.out.size)
    clear hq b3 k14 HB2
    go_wp2
    go_ret
    exact ⟨rfl, HB3.out⟩
  | inr L =>
    obtain ⟨v, rfl, hR⟩ := hd
    obtain ⟨hll, os, hS, hE, hok⟩ := HL.out L rfl
    have HLL : Hid (L.length < 1048577) := hll
    have HOK : Hid (∀ j, j < L.length → okC (L.getD j 0)) := hok
    have k10 := fun w5 (h : Rds .i32 w5 v L) => encP_any L os v w5 hll hS h
    rw [hE] at k10
    unfold encV at k10
    simp only at k10
    have HR : Hid (Rds .i32 w2 v L) := hR.rds
    obtain ⟨a1, c1, rfl, -⟩ := owns_slice hR
    clear hq b2 k13 k14 hcode HB1 HL hR hll hS hE hok
    go_wp2
    go_loopw [9, 44] (fun y x wr => ∃ k : Nat, x = .int .i64 (k : Int) ∧ y = .int .i64 (lix s 45 k) ∧ k ≤ s.size ∧ Hid (wr = w2)) (fun _ x _ => s.size - (RowKit.intOf x).toNat)
    case atStart => exact ⟨0, rfl, rfl, Nat.zero_le _, rfl⟩
    case round =>
      obtain ⟨wo, hwo⟩ : ∃ wo, wr = wo := ⟨_, rfl⟩
      rw [hwo] at hrel ⊢
      clear hwo
      obtain ⟨k, rfl, rfl, hk, hwr⟩ := hrel
      rw [Hid] at hwr
      subst hwr
      by_cases c : k < s.size
      · have c1 : (k : Int) < (s.size : Int) := by omega
        have c2 : decide ((k : Int) < (s.size : Int)) = true := decide_eq_true c1
        have q0 : (s[k]'c).toNat = byt s k := byt_eq s k c
        have k9 : (k : Int) ≤ 9007199254740992 := by omega
        have hx : lix s 45 (k + 1) = if (byt s k : Int) = 45 then (k : Int) else lix s 45 k := rfl
        by_cases d : (byt s k : Int) = 45
        · rw [if_pos d] at hx
          have d2 : ((byt s k : Int) == 45) = true := by simpa using d
          replace hx : Hid (lix s 45 (k + 1) = (k : Int)) := hx
          clear d
          generalize byt s k = Y at *
          generalize lix s 45 k = Z at *
          go_wp2
          refine ⟨⟨k + 1, by simp, by rw [hx.out], by omega, by first | exact trivial | exact rfl⟩, ?_⟩
          simp [RowKit.intOf]; omega
        · rw [if_neg d] at hx
          have d2 : ((byt s k : Int) == 45) = false := by simpa using d
          replace hx : Hid (lix s 45 (k + 1) = lix s 45 k) := hx
          clear d
          generalize byt s k = Y at *
          generalize lix s 45 k = Z at *
          go_wp2
          refine ⟨⟨k + 1, by simp, by rw [hx.out], by omega, by first | exact trivial | exact rfl⟩, ?_⟩
          simp [RowKit.intOf]; omega
      · obtain rfl : k = s.size := by omega
        have c2 : decide ((s.size : Int) < (s.size : Int)) = false := by simp
        have hAle := lix_bound s 45 s.size
        obtain ⟨A, hA⟩ : ∃ A : Nat, (lix s 45 s.size + 1).toNat = A := ⟨_, rfl⟩
        have hA2 : lix s 45 s.size + 1 = (A : Int) := by omega
        rw [hA] at k10
        have hAs : A ≤ s.size := by omega
        generalize lix s 45 s.size = Z at *
        have z9 : Z ≤ 9007199254740992 := by omega
        have z0 : -1 ≤ Z := hAle.1
        have KC : Hid ((convert 9 36 (.string s)).run Try.prog wo = .ok (.slice (some ⟨wo.heap.size, 0, none⟩) s.size (grownCap wo s.size 0 5)) (Lib.bytesWorld wo 5 s)) := Lib.run_convert_string_bytes wo 9 36 5 s Try.underlying9 Try.underlying36 under5
        have C0 : Hid (∃ f : Nat → Int, Cel .u8 (Lib.bytesWorld wo 5 s) wo.heap.size s.size f ∧ ∀ j, j < s.size → f j = if j < A then smF s A j else (byt s j : Int)) := ⟨_, Cel.of_text wo s, fun j _ => by
          by_cases q : j < A
          · rw [if_pos q]; unfold smF; rw [if_neg (by omega)]
          · rw [if_neg q]⟩
        have B0 : Hid (Below w.heap.size w (Lib.bytesWorld wo 5 s)) := HB2.out.trans ((bw_below wo s).mono HB2.out.size)
        have R0 : Hid (Rds .i32 (Lib.bytesWorld wo 5 s) (.slice a1 L.length c1) L) := HR.out.below (bw_below wo s)
        have hg0 : Hid (w.heap.size ≤ wo.heap.size) := HB2.out.size
        have hgB : Hid (∀ w', Below wo.heap.size wo w' → Rds .i32 w' (.slice a1 L.length c1) L) := fun w' h => HR.out.below h
        have B1 : Hid (Below wo.heap.size wo (Lib.bytesWorld wo 5 s)) := bw_below wo s
        clear hA c HB2 hk hAle HR R0
        generalize Lib.bytesWorld wo 5 s = W3 at *
        generalize grownCap wo s.size 0 5 = cp at *
        generalize hgw : wo.heap.size = g at *
        clear hgw
        go_wp2_with (refine wpList_cv2 rfl 9 36 _ rfl _ rfl _ KC.out ?_)
        clear KC
        go_wp2
        go_loopw [12] (fun x wq => ∃ k : Nat, x = .int .i64 (k : Int) ∧ A ≤ k ∧ k ≤ s.size ∧ Hid (∃ f : Nat → Int, Cel .u8 wq g s.size f ∧ ∀ j, j < s.size → f j = if j < k then smF s A j else (byt s j : Int)) ∧ Hid (Below w.heap.size w wq) ∧ Hid (Below g wo wq)) (fun x _ => s.size - (RowKit.intOf x).toNat)
        case atStart => exact ⟨A, rfl, Nat.le_refl _, hAs, C0, B0, B1⟩
        case round =>
          clear C0 B0 B1 hA2 z9 z0
          obtain ⟨wp, hwp⟩ : ∃ wp, wr = wp := ⟨_, rfl⟩
          rw [hwp] at hrel ⊢
          clear hwp
          obtain ⟨k, rfl, hAk, hk, ⟨f, hC, hf⟩, hB, hBg⟩ := hrel
          by_cases c : k < s.size
          · have c1 : (k : Int) < (s.size : Int) := by omega
            have c2 : decide ((k : Int) < (s.size : Int)) = true := decide_eq_true c1
            have k9 : (k : Int) ≤ 9007199254740992 := by omega
            obtain ⟨y1, y2⟩ := hC k c
            have hfk := hf k c
            rw [if_neg (by omega)] at hfk
            rw [hfk] at y1
            have yl := byt_lt s k
            have hsm : smF s A k = low (byt s k) := by unfold smF; rw [if_pos hAk]
            have HE0 : low (byt s k) = (byt s k : Int) → Hid (∃ f : Nat → Int, Cel .u8 wp g s.size f ∧ ∀ j, j < s.size → f j = if j < k + 1 then smF s A j else (byt s j : Int)) := fun q => ⟨f, hC, fun j hj => by
              by_cases e : j = k
              · subst e; rw [if_pos (by omega), hsm, q, hfk]
              · rw [hf j hj]
                by_cases e2 : j < k
                · rw [if_pos e2, if_pos (by omega)]
                · rw [if_neg e2, if_neg (by omega)]⟩
            have HE1 : low (byt s k) = (byt s k : Int) + 32 → Hid (∃ f : Nat → Int, Cel .u8 (wp.setCell ⟨g, k, none⟩ (.int .u8 ((byt s k : Int) + 32))) g s.size f ∧ ∀ j, j < s.size → f j = if j < k + 1 then smF s A j else (byt s j : Int)) := fun q => by
              refine ⟨_, hC.set k ((byt s k : Int) + 32), fun j hj => ?_⟩
              by_cases e : j = k
              · subst e
                rw [if_pos rfl, if_pos (by omega), hsm, q]
              · rw [if_neg e, hf j hj]
                by_cases e2 : j < k
                · rw [if_pos e2, if_pos (by omega)]
                · rw [if_neg e2, if_neg (by omega)]
            have HB1 : ∀ x, Hid (Below w.heap.size w (wp.setCell ⟨g, k, none⟩ x)) ∧ Hid (Below g wo (wp.setCell ⟨g, k, none⟩ x)) := fun x => ⟨hB.out.setCell (by have := hg0.out; simpa using this) _, hBg.out.setCell (by simp) _⟩
            have hlow : low (byt s k) = if 65 ≤ (byt s k : Int) ∧ (byt s k : Int) ≤ 90 then (byt s k : Int) + 32 else (byt s k : Int) := rfl
            clear hC hf hsm hfk
            by_cases t1 : 65 ≤ (byt s k : Int)
            · have t1' : decide (65 ≤ (byt s k : Int)) = true := decide_eq_true t1
              by_cases t2 : (byt s k : Int) ≤ 90
              · have t2' : decide ((byt s k : Int) ≤ 90) = true := decide_eq_true t2
                rw [if_pos ⟨t1, t2⟩] at hlow
                have HE2 := HE1 hlow
                obtain ⟨HB2, HB3⟩ := HB1 (.int .u8 ((byt s k : Int) + 32))
                have wv : IntKind.u8.wrap ((byt s k : Int) + 32) = (byt s k : Int) + 32 := IntWalk.u8_in _ ⟨by omega, by omega⟩
                clear HE1 HE0 HB1 hlow hB hBg
                generalize (byt s k : Int) = Y at *
                go_wp2
                refine ⟨⟨k + 1, by simp, by omega, by omega, HE2, HB2, HB3⟩, ?_⟩
                simp [RowKit.intOf]; omega
              · have t2' : decide ((byt s k : Int) ≤ 90) = false := decide_eq_false t2
                rw [if_neg (fun q => t2 q.2)] at hlow
                have HE2 := HE0 hlow
                clear HE1 HE0 HB1 hlow t2
                generalize (byt s k : Int) = Y at *
                go_wp2
                refine ⟨⟨k + 1, by simp, by omega, by omega, HE2, hB, hBg⟩, ?_⟩
                simp [RowKit.intOf]; omega
            · have t1' : decide (65 ≤ (byt s k : Int)) = false := decide_eq_false t1
              rw [if_neg (fun q => t1 q.1)] at hlow
              have HE2 := HE0 hlow
              clear HE1 HE0 HB1 hlow t1
              generalize (byt s k : Int) = Y at *
              go_wp2
              refine ⟨⟨k + 1, by simp, by omega, by omega, HE2, hB, hBg⟩, ?_⟩
              simp [RowKit.intOf]; omega
          · obtain rfl : k = s.size := by omega
            have c2 : decide ((s.size : Int) < (s.size : Int)) = false := by simp
            obtain ⟨T, hT⟩ : ∃ T, strOfNums ((List.range s.size).map (smF s A)) = T := ⟨_, rfl⟩
            have HT3 : Hid (∀ w5, Below wp.heap.size wp w5 → ∀ cc, (convert 36 9 (.slice (some ⟨g, 0, none⟩) s.size cc)).run Try.prog w5 = .ok (.string T) w5) := fun w5 hb cc => by
              have e : (List.range s.size).map f = (List.range s.size).map (smF s A) := List.map_congr_left fun j hj => by
                have hj2 : j < s.size := by simpa using hj
                rw [hf j hj2, if_pos hj2]
              rw [← hT, ← e]
              exact text_cel (Cel.below hC hb)
            have HRp : Hid (Rds .i32 wp (.slice a1 L.length c1) L) := hgB.out wp hBg.out
            have k10b := k10 wp HRp.out
            rw [hT] at k10b
            have l9 : (L.length : Int) ≤ 9007199254740992 := by have := HLL.out; omega
            clear hT hC hf k10 c hgB hBg hAk hk
            go_wp2
            go_loopw [83] (fun x wq => ∃ k : Nat, x = .int .i64 (k : Int) ∧ k ≤ L.length ∧ Hid (wq = wp)) (fun x _ => L.length - (RowKit.intOf x).toNat)
            case atStart => exact ⟨0, rfl, Nat.zero_le _, rfl⟩
            case round =>
              obtain ⟨k, rfl, hk, hwr⟩ := hrel
              rw [Hid] at hwr
              subst hwr
              by_cases c : k < L.length
              · have c1x : (k : Int) < (L.length : Int) := by omega
                have c2x : decide ((k : Int) < (L.length : Int)) = true := decide_eq_true c1x
                have k9 : (k : Int) ≤ 9007199254740992 := by omega
                obtain ⟨a2, cc2, e2, hcell⟩ := HRp.out
                cases e2
                obtain ⟨g2, off, rfl, hcell2⟩ := hcell (by omega)
                have y1 := hcell2 k c
                obtain ⟨z0, z1, z2⟩ := HOK.out k c
                generalize L.getD k 0 = Z at *
                have n1 : decide (Z < 0) = false := by simp; omega
                have n2 : decide (1114111 < Z) = false := by simp; omega
                clear hcell hcell2
                by_cases t1 : 55296 ≤ Z
                · have t1' : decide (55296 ≤ Z) = true := decide_eq_true t1
                  have t2' : decide (Z ≤ 57343) = false := by simp; omega
                  clear z2 t1
                  go_wp2
                  refine ⟨⟨k + 1, by simp, by omega, by first | exact trivial | exact rfl⟩, ?_⟩
                  simp [RowKit.intOf]; omega
                · have t1' : decide (55296 ≤ Z) = false := decide_eq_false t1
                  clear z2 t1
                  go_wp2
                  refine ⟨⟨k + 1, by simp, by omega, by first | exact trivial | exact rfl⟩, ?_⟩
                  simp [RowKit.intOf]; omega
              · obtain rfl : k = L.length := by omega
                have c2x : decide ((L.length : Int) < (L.length : Int)) = false := by simp
                clear c
                go_wp2_with (go_at_call 10; refine k10b.mono ?_)
                intro _ w5 hq
                obtain ⟨rfl, b5⟩ := hq.out
                have HB5 : Hid (Below w.heap.size w w5) := hB.out.trans (b5.mono hB.out.size)
                have hcv := HT3.out w5 b5
                clear hq b5 k10b hB HT3 HRp
                go_wp2
                go_ret
                exact ⟨rfl, HB5.out⟩
end Go.Proofs.Ytahmeejcgddlhaa
