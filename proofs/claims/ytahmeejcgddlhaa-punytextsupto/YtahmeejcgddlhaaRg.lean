/-
  The document's Encode: its end; a list in order.
-/
import Derived.Test.YtahmeejcgddlhaaRf
import Derived.Test.YtahmeejcgddlhaaQo
import Derived.Deep.DeepMust
namespace Go.Proofs.Ytahmeejcgddlhaa
open Go.RowKit
theorem decS_code (p : Bt) (s : ByteArray) (a : Nat) (c : Int) (h : decS p s = .inl (a, c)) : c ≠ 0 := by
  unfold decS at h
  split at h
  · simp at h; omega
  · split at h
    · rename_i e hr
      simp at h
      exact rdL_code p s _ _ _ _ _ _ a c (by rw [hr, h])
    · simp at h
theorem isSc_ok {c : Int} (h : isSc c = true) : okC c := by
  unfold isSc at h
  simp at h
  unfold okC; omega
set_option maxRecDepth 100000 in
set_option maxHeartbeats 4000000 in
theorem renc_end (zs os D0 : List Int) (O : Nat) (v0 : Value) (a : Act) (w w1 : World) (h0 : ¬ 0 ≤ ixF (fun n => !isSc n) zs zs.length 0) (he : encU usual zs os 128 0 72 (bsL usual zs zs.length).length (mkB usual zs zs.length) true = some D0) (hR : Rw .u8 5 O w1 v0 (txL usual (bsL usual zs zs.length) D0)) (hl : (txL usual (bsL usual zs zs.length) D0).length ≤ 67000000) (hB : Below O w w1) (hO : O ≤ w1.heap.size) (ha : At 161 [(5, v0)] a) : Code.wp Try.prog (sq 7 body11) (bodyPost Try.prog Try.f11 fun e w' => rnA zs os e ∧ Below O w w') a w1 := by
  have HP : Hid (∀ e, (match decS usual (strOfNums (txL usual (bsL usual zs zs.length) D0)) with
      | .inl _ => e = .returned (.tuple #[.string ⟨#[]⟩, .int .i64 0, .int .i64 142])
      | .inr _ => e = .returned (.tuple #[.string (strOfNums (txL usual (bsL usual zs zs.length) D0)), .int .i64 0, .int .i64 0])) → rnA zs os e) := fun e hm => by
    unfold rnA; rw [if_neg h0, he]; exact hm
  obtain ⟨TX, hTX⟩ : ∃ TX, txL usual (bsL usual zs zs.length) D0 = TX := ⟨_, rfl⟩
  rw [hTX] at hR hl HP
  have k14 := fun w => rDecode_any (strOfNums TX) w (by rw [strOfNums_size]; omega)
  have hcode := decS_code usual (strOfNums TX)
  have hst := string_own hR
  obtain ⟨a1, c1, hv, -⟩ := owns_slice hR
  subst hv
  have HR : Hid (Rw .u8 5 O w1 (.slice a1 TX.length c1) TX) := hR
  have HBh : Hid (Below O w w1) := hB
  replace hO : Hid (O ≤ w1.heap.size) := hO
  clear hTX he h0 hl hB hR
  generalize hS : strOfNums TX = S at *
  replace hS : Hid (strOfNums TX = S) := hS
  generalize hG : decS usual S = G at *
  clear hG
  replace k14 : ∀ w, Calls Try.prog 14 #[.string S] w fun e w' => Hid (dcA G w.heap.size e w' ∧ Below w.heap.size w w') := k14
  obtain ⟨f, rfl, h5, -⟩ := ha.lit
  change Code.wp _ _ _ ⟨#[f 0, f 1, f 2, f 3, f 4, f 5, f 6, f 7, f 8, f 9, f 10, f 11, f 12, f 13, f 14, f 15, f 16, f 17, f 18, f 19, f 20, f 21, f 22, f 23, f 24, f 25, f 26, f 27, f 28, f 29, f 30, f 31, f 32, f 33, f 34, f 35, f 36, f 37, f 38, f 39, f 40, f 41, f 42, f 43, f 44, f 45, f 46, f 47, f 48, f 49, f 50, f 51, f 52, f 53, f 54, f 55, f 56, f 57, f 58, f 59, f 60, f 61, f 62, f 63, f 64, f 65, f 66, f 67, f 68, f 69, f 70, f 71, f 72, f 73, f 74, f 75, f 76, f 77, f 78, f 79, f 80, f 81, f 82, f 83, f 84, f 85, f 86, f 87, f 88, f 89, f 90, f 91, f 92, f 93, f 94, f 95, f 96, f 97, f 98, f 99, f 100, f 101, f 102, f 103, f 104, f 105, f 106, f 107, f 108, f 109, f 110, f 111, f 112, f 113, f 114, f 115, f 116, f 117, f 118, f 119, f 120, f 121, f 122, f 123, f 124, f 125, f 126, f 127, f 128, f 129, f 130, f 131, f 132, f 133, f 134, f 135, f 136, f 137, f 138, f 139, f 140, f 141, f 142, f 143, f 144, f 145, f 146, f 147, f 148, f 149, f 150, f 151, f 152, f 153, f 154, f 155, f 156, f 157, f 158, f 159, f 160], []⟩ _
  simp only at h5
  simp only [h5]
  clear h5
  conv => arg 2; whnf
  have hst2 : ∀ w2, Below w1.heap.size w1 w2 → (convert 36 9 (.slice a1 TX.length c1)).run Try.prog w2 = .ok (.string S) w2 := fun w2 hb => by
    have := string_own (HR.out.below hb)
    rw [hS.out] at this; exact this
  go_wp2_with (go_at_call 14; refine (k14 _).mono ?_)
  intro e w2 hq
  obtain ⟨hd2, hb2⟩ := hq.out
  have hst3 := hst2 w2 hb2
  have hB2 : Hid (Below O w w2) := HBh.out.trans (hb2.mono hO.out)
  clear hq hst2 k14 hb2 hst
  cases G with
  | inl g =>
    obtain ⟨ga, gc⟩ := g
    rw [dcA] at hd2
    subst hd2
    have hc0 := hcode ga gc rfl
    have hc1 : (gc != 0) = true := by simpa using hc0
    have HX := HP.out (.returned (.tuple #[.string ⟨#[]⟩, .int .i64 0, .int .i64 142])) rfl
    replace HX : Hid (rnA zs os (.returned (.tuple #[.string ⟨#[]⟩, .int .i64 0, .int .i64 142]))) := HX
    clear hc0 hcode HP
    go_wp2
    go_ret3
    exact ⟨HX.out, hB2.out⟩
  | inr L =>
    obtain ⟨vL, rfl, hRL⟩ := hd2
    have HX := HP.out (.returned (.tuple #[.string S, .int .i64 0, .int .i64 0])) rfl
    replace HX : Hid (rnA zs os (.returned (.tuple #[.string S, .int .i64 0, .int .i64 0]))) := HX
    obtain ⟨a2, c2, hv2, -⟩ := owns_slice hRL
    subst hv2
    clear hcode HP hRL
    go_wp2
    go_ret3
    exact ⟨HX.out, hB2.out⟩
theorem ixF_step (pr : Int → Bool) (zs : List Int) (k : Nat) (h : k < zs.length) : ixF pr zs (zs.length - k) k = if pr (zs.getD k 0) = true then (k : Int) else ixF pr zs (zs.length - (k + 1)) (k + 1) := by
  rw [show zs.length - k = (zs.length - (k + 1)) + 1 by omega, ixF]
theorem sort_is (K : Int → Int) : ∀ (l : List Int), l.Pairwise (· < ·) → ∃ os, SrtL K l os
  | [], _ => ⟨[], rfl, fun _ => Iff.rfl, .nil⟩
  | x :: l, h => by
    have hp := List.pairwise_cons.1 h
    obtain ⟨os, h1, h2, h3⟩ := sort_is K l hp.2
    have hne : ∀ y ∈ os, y ≠ x := fun y hy e => by have := hp.1 y ((h2 y).1 hy); omega
    have : ∀ (os : List Int), os.Pairwise (LT K) → (∀ y ∈ os, y ≠ x) → ∃ os' : List Int, os'.length = os.length + 1 ∧ (∀ y, y ∈ os' ↔ y = x ∨ y ∈ os) ∧ os'.Pairwise (LT K) := fun os => by
      induction os with
      | nil => exact fun _ _ => ⟨[x], rfl, by simp, List.pairwise_singleton _ _⟩
      | cons y os ih =>
        intro ho hn
        have hq := List.pairwise_cons.1 ho
        by_cases c : LT K x y
        · refine ⟨x :: y :: os, rfl, by simp, List.pairwise_cons.2 ⟨fun z hz => ?_, ho⟩⟩
          rcases List.mem_cons.1 hz with e | e
          · subst e; exact c
          · exact c.trans (hq.1 z e)
        · obtain ⟨os', i1, i2, i3⟩ := ih hq.2 (fun z hz => hn z (by simp [hz]))
          have hyx : LT K y x := by
            have := hn y (by simp)
            unfold LT at c ⊢
            omega
          refine ⟨y :: os', by simp [i1], fun z => ?_, List.pairwise_cons.2 ⟨fun z hz => ?_, i3⟩⟩
          · rw [List.mem_cons, i2, List.mem_cons]
            constructor
            · rintro (e | e | e) <;> simp [e]
            · rintro (e | e | e) <;> simp [e]
          · rcases (i2 z).1 hz with e | e
            · subst e; exact hyx
            · exact hq.1 z e
    obtain ⟨os', i1, i2, i3⟩ := this os h3 hne
    exact ⟨os', by simp [i1, h1], fun y => by rw [i2, List.mem_cons, h2], i3⟩
theorem wki_start (zs os : List Int) (O : Nat) (wr : World) (v : Value) (hS : SrtL (KZ zs) (osL usual zs zs.length) os) (hv : Rw .u8 5 O wr v (outL usual zs)) : WkI zs os ((encU usual zs os 128 0 72 (bsL usual zs zs.length).length (mkB usual zs zs.length) true).map (outL usual zs ++ ·)) (bsL usual zs zs.length).length O wr v (bsL usual zs zs.length).length 0 0 72 128 0 128 0 (outL usual zs) (mkB usual zs zs.length) := by
  have hlo : ∀ j, j < zs.length → isB usual (zs.getD j 0) = false → usual.first ≤ zs.getD j 0 := fun j _ h => by
    unfold isB at h
    simp at h
    show (128 : Int) ≤ _
    rw [List.getD_eq_getElem?_getD]
    have : usual.first = 128 := rfl
    omega
  have hm : ∀ jj, jj < zs.length → (mkB usual zs zs.length jj = true ↔ zs.getD jj 0 < 128) := fun jj hjj => by
    unfold mkB isB
    rw [decide_eq_true hjj, show usual.first = 128 from rfl]
    simp
  refine ⟨EO.start usual zs os hS hlo, by rw [List.drop_zero]; rfl, hv, rfl, by rw [hS.len]; exact bo_len usual zs zs.length (Nat.le_refl _), Nat.zero_le _, fun jj hjj => ?_, fun jj hjj h => ?_, ?_, Int.le_refl _, Int.le_refl _, by decide, by decide, ?_, by decide⟩
  · rw [hm jj hjj]; omega
  · rw [List.drop_zero]
    refine (hS.mem _).2 ((osL_mem usual zs zs.length _).2 ⟨jj, rfl, hjj, ?_⟩)
    unfold mkB at h
    rw [decide_eq_true hjj] at h
    simpa using h
  · rw [cnt]; simp
  · unfold outL
    split
    · simp
    · simp
end Go.Proofs.Ytahmeejcgddlhaa
