/-
  The contract of decode: what a text says by any parameters that may be.
-/
import Derived.Test.YtahmeejcgddlhabPm
import Derived.Test.YtahmeejcgddlhabCm
namespace Go.Proofs.Ytahmeejcgddlhab
open Go.RowKit
/-- The first byte ahead of a place that is not basic. -/
def fbF (p : Bt) (s : ByteArray) : Nat → Nat → Option Nat
  | 0, _ => none
  | f + 1, k => if (byt s k : Int) < p.first ∧ (byt s k : Int) < 128 then fbF p s f (k + 1) else some k
/-- How many bytes stand ahead of what is between, and where the digits begin. -/
def hdN (p : Bt) (s : ByteArray) : Nat := (lix s p.btw s.size).toNat
def frN (p : Bt) (s : ByteArray) : Nat := if 0 < hdN p s then hdN p s + 1 else 0
def ahd (s : ByteArray) (h : Nat) : List Int := (List.range h).map fun j => (byt s j : Int)
/-- What a text says; or what is wrong first. -/
def decS (p : Bt) (s : ByteArray) : (Nat × Int) ⊕ List Int :=
  match fbF p s (hdN p s) 0 with
  | some k => .inl (k, 141)
  | none => match rdL p s (s.size - frN p s) (frN p s) p.first 0 p.bias (hdN p s) with
    | .inl e => .inl e
    | .inr ps => .inr (insAll (ahd s (hdN p s)) ps)
theorem rdL_code (p : Bt) (s : ByteArray) : ∀ (f at_ : Nat) (n i bias : Int) (m : Nat) (a : Nat) (c : Int), rdL p s f at_ n i bias m = .inl (a, c) → c ≠ 0
  | 0, _, _, _, _, _, a, c, h => by simp [rdL] at h
  | f + 1, at_, n, i, bias, m, a, c, h => by
    rw [rdL] at h
    split at h
    · simp at h
    · split at h
      · rename_i hr
        have := rdN_code p s bias _ _ _ _ _ a c (by rw [hr]; exact congrArg _ (by simpa using h))
        omega
      · split at h
        · simp at h; omega
        · split at h
          · simp at h; omega
          · split at h
            · rename_i hl
              exact rdL_code p s f _ _ _ _ _ a c (by rw [hl]; exact congrArg _ (by simpa using h))
            · simp at h
/-- What decoding answers. -/
def dcA (r : (Nat × Int) ⊕ List Int) (b : Nat) (e : Ending) (w : World) : Prop :=
  match r with
  | .inl (a, c) => e = .returned (.tuple #[.slice none 0 0, .int .i64 (a : Int), .int .i64 c])
  | .inr L => ∃ v, e = .returned (.tuple #[v, .int .i64 0, .int .i64 0]) ∧ Rw .i32 21 b w v L
theorem hdN_lt (p : Bt) (s : ByteArray) : hdN p s ≤ s.size ∧ (0 < hdN p s → hdN p s < s.size) := by
  have := lix_bound s p.btw s.size
  unfold hdN; omega
theorem frN_le (p : Bt) (s : ByteArray) : frN p s ≤ s.size ∧ hdN p s ≤ frN p s := by
  have := hdN_lt p s
  unfold frN; split <;> omega
theorem byt_extract (s : ByteArray) (a b j : Nat) (hb : b ≤ s.size) (h : a + j < b) : byt (s.extract a b) j = byt s (a + j) := by
  have hz : (s.extract a b).size = b - a := by simp; omega
  rw [← byt_eq _ _ (by omega), ← byt_eq s (a + j) (by omega)]
  congr 1
  simp [ByteArray.getElem_extract]
theorem byts_extract (s : ByteArray) (h : Nat) (hh : h ≤ s.size) : byts (s.extract 0 h) = ahd s h := by
  have hz : (s.extract 0 h).size = h := by simp; omega
  unfold byts ahd
  rw [hz]
  apply List.map_congr_left
  intro j hj
  rw [byt_extract s 0 h j hh (by simpa using hj), Nat.zero_add]
theorem byts_empty : byts ⟨#[]⟩ = ([] : List Int) := rfl
theorem run_sidx {w : World} {l : List (Nat × Value)} {o : Oper} {a b : Operand} {A : ByteArray} {k Y : Nat} (h : k < A.size) (hy : (A[k]'h).toNat = Y) (ho : o.op = .index 9 a b) (ha : rho l a = .string A) (hb : rho l b = .int .i64 (k : Int)) : (execOp (rho l) o).run Try.prog w = .ok (.value (.int .u8 (Y : Int))) w := by
  unfold execOp
  simp only [ho, ha, hb]
  simp [Instr.index, go_sem, asIntOf, run_underlying Try.underlying9, h, hy]
theorem run_cvb (w : World) (Y : Nat) (h : Y < 256) (t : Nat) (o : Oper) (ho : o.op = .convert 5 3 (.tmp t)) : (execOp (rho [(t, .int .u8 (Y : Int))]) o).run Try.prog w = .ok (.value (.int .i64 (Y : Int))) w := by
  have e : IntKind.i64.wrap (Y : Int) = (Y : Int) := IntWalk.i64_in _ ⟨by omega, by omega⟩
  unfold execOp
  simp [ho, rho, go_sem, e]
set_option maxRecDepth 100000 in
set_option maxHeartbeats 2000000 in
theorem decode_any (p : Bt) (s : ByteArray) (w : World) (hp : Okb p) (hs : s.size < 67108865) (hlim : ∀ L, decS p s = .inr L → L.length < 2097152) :
    Calls Try.prog 26 #[.agg (bv p), .string s] w fun e w' => dcA (decS p s) w.heap.size e w' ∧ Below w.heap.size w w' := by
  obtain ⟨F, hF⟩ : ∃ F, Hid (decS p s = F) := ⟨_, rfl⟩
  have HLL : Hid (∀ L, F = .inr L → L.length < 2097152) := fun L h => hlim L (by rw [hF.out]; exact h)
  rw [hF.out]
  clear hlim
  obtain ⟨hL1, hL2⟩ := lix_bound s p.btw s.size
  have k35 := fun w => lastIndex_any s p.btw w (by omega) (by have := hp.t1; omega) (by have := hp.t2; omega)
  have hh := hdN_lt p s
  have hf := frN_le p s
  have hdd : hdN p s = (lix s p.btw s.size).toNat := rfl
  obtain ⟨X, hX⟩ : ∃ X, lix s p.btw s.size = X := ⟨_, rfl⟩
  simp only [hX] at hL1 hL2 k35 hdd
  have HB : Hid (Below w.heap.size w (w.alloc (.cells (bv p) 23))) := (Below.refl w.heap.size w).alloc (Nat.le_refl _) _
  have hl : Hid ((w.alloc (.cells (bv p) 23)).heap[w.heap.size]? = some (.cells (bv p) 23)) := heap_new _ _
  have c7 : (w.alloc (.cells (bv p) 23)).cell? ⟨w.heap.size, 7, none⟩ = some (.int .u8 p.btw) := World.cell?_alloc_at _ _ _ _ rfl
  have hXs : X < 67108865 := by omega
  obtain ⟨A, hA⟩ : ∃ A : ByteArray, A = (if 0 < X then s.extract 0 X.toNat else ⟨#[]⟩) := ⟨_, rfl⟩
  obtain ⟨H, hH⟩ : ∃ H, hdN p s = H := ⟨_, rfl⟩
  obtain ⟨R, hR⟩ : ∃ R, frN p s = R := ⟨_, rfl⟩
  have hAs : A.size = H := by
    rw [hA]; by_cases c : 0 < X
    · rw [if_pos c]; simp; omega
    · rw [if_neg c]; show 0 = H; omega
  have hAb : byts A = ahd s H := by
    rw [hA]; by_cases c : 0 < X
    · rw [if_pos c, byts_extract s X.toNat (by omega)]; congr 1; omega
    · rw [if_neg c, show H = 0 by omega]; rfl
  have hAy : ∀ j, j < H → byt A j = byt s j := fun j hj => by
    rw [hA, if_pos (by omega), byt_extract s 0 X.toNat j (by omega) (by omega), Nat.zero_add]
  have hRx : R = (if 0 < X then X + 1 else 0).toNat := by
    rw [← hR]; unfold frN; rw [hH]
    by_cases c : 0 < X
    · rw [if_pos c, if_pos (by omega)]; omega
    · rw [if_neg c, if_neg (by omega)]; rfl
  unfold decS at hF
  rw [hH, hR] at hF
  rw [hH] at hh hdd hf
  rw [hR] at hf
  have hlR : Hid (R ≤ s.size ∧ H ≤ R) := hf
  have hAs2 : (A.size : Int) = (H : Int) := by rw [hAs]
  have hH2 : (H : Int) < 67108865 := by omega
  have PB : Hid (∀ (j : Nat) (u : Value), (bv p)[j]? = some u → ∀ (W1 : World), W1.heap[w.heap.size]? = some (.cells (bv p) 23) → W1.cell? ⟨w.heap.size, j, none⟩ = some u) := fun j u h W1 hh => by simp [World.cell?, hh, h]
  have HL : Hid (s.size < 67108865 ∧ A.size = H) := ⟨hs, hAs⟩
  replace hAb : Hid (byts A = ahd s H) := hAb
  replace hAy : Hid (∀ j, j < H → byt A j = byt s j) := hAy
  replace hf : Hid (R ≤ s.size ∧ H ≤ R) := hf
  have kb := fun c w => basic_any p c w
  by_cases c : 0 < X
  · rw [if_pos c] at hA hRx
    have hA2 : s.extract 0 X.toNat = A := hA.symm
    have hR2 : X + 1 = (R : Int) := by omega
    have hX0 : 0 ≤ X := by omega
    have c1 : decide (0 < X) = true := decide_eq_true c
    have hXl : X ≤ (s.size : Int) := by omega
    clear hA hRx hAs hh hdd hL1 hL2 hX hlR hs hH hR
    go_enter Try.func26, Try.ntmps26
    go_wp2_with (go_at_call 35; refine (k35 _).mono ?_; rintro e w' ⟨rfl, hw⟩; rw [hw]; clear hw)
    generalize w.alloc (.cells (bv p) 23) = W1 at *
    clear hA2 hR2 hX0 c1 hXl c hXs k35 c7
    go_loopw [27] (fun x wr => ∃ k : Nat, x = .int .i64 (k : Int) ∧ k ≤ H ∧ Hid (fbF p s H 0 = fbF p s (H - k) k) ∧ Hid (Below w.heap.size w wr) ∧ Hid (wr.heap[w.heap.size]? = some (.cells (bv p) 23))) (fun x _ => H - (RowKit.intOf x).toNat)
    case atStart => exact ⟨0, rfl, Nat.zero_le _, rfl, HB, hl⟩
    case round =>
      clear HB hl
      obtain ⟨k, rfl, hk, hfb, HB, hl⟩ := hrel
      by_cases c : k < H
      · have c1 : (k : Int) < (H : Int) := by omega
        have c2 : decide ((k : Int) < (H : Int)) = true := decide_eq_true c1
        have q0 : (A[k]'(by have := HL.out; omega)).toNat = byt s k := (byt_eq A k _).trans (hAy.out k c)
        have q1 : (k : Int) < (A.size : Int) := by omega
        have q2 := byt_lt s k
        have a0 := PB.out 0 (.int .i64 p.base) rfl wr hl.out
        have a1 := PB.out 1 (.int .i64 p.least) rfl wr hl.out
        have a2 := PB.out 2 (.int .i64 p.most) rfl wr hl.out
        have a3 := PB.out 3 (.int .i64 p.skew) rfl wr hl.out
        have a4 := PB.out 4 (.int .i64 p.damp) rfl wr hl.out
        have a5 := PB.out 5 (.int .i64 p.bias) rfl wr hl.out
        have a6 := PB.out 6 (.int .i64 p.first) rfl wr hl.out
        have a7 := PB.out 7 (.int .u8 p.btw) rfl wr hl.out
        have hOw := (Array.getElem?_eq_some_iff.1 hl.out).1
        have kbb := fun w => kb (byt s k : Int) w
        obtain ⟨f, hf2⟩ : ∃ f, H - k = f + 1 := ⟨H - k - 1, by omega⟩
        have hf3 : H - (k + 1) = f := by omega
        have hfx : fbF p s H 0 = if (byt s k : Int) < p.first ∧ (byt s k : Int) < 128 then fbF p s f (k + 1) else some k := by rw [hfb.out, hf2, fbF]
        generalize byt s k = Y at *
        have hkA : k < A.size := by have := HL.out; omega
        clear a0 a1 a2 a3 a4 a5 a6 a7
        obtain ⟨B, hB⟩ : ∃ B, (decide ((Y : Int) < p.first) && decide ((Y : Int) < 128)) = B := ⟨_, rfl⟩
        simp only [hB] at kbb
        go_wp2_with fail
        rename_i Q' K' hcont
        refine wp_region_vals (a1 := ?a1r8n1) (grown _) [.agg (bv p), .string A, .int .i64 (k : Int), .int .u8 (Y : Int), .int .i64 (Y : Int), .bool B, .bool (!B)] 56 rfl (by kernel_rfl) (by kernel_rfl) (grown_start _) ⟨?o0r8n1, ?o1r8n1, ?o2r8n1, ?o3r8n1, ?o4r8n1, ?o5r8n1, ?o6r8n1, trivial⟩ ?har8n1 ?hdoner8n1
        case har8n1 => simp [putAll, Act.put]; exact rfl
        case o0r8n1 => exact ValOp.pure (grown_steady _ 0) [(2, .pointer (some ⟨w.heap.size, 0, none⟩))] rfl (fun _ _ h2 => ⟨(h2 2 (by kernel_rfl)).trans rfl, trivial⟩) (by kernel_rfl) (fun _ _ _ hg _ => run_read rfl rfl (run_loadVar_row _ _ _ _ _ _ _ (below_at hl.out hg) Try.underlying23 rfl (by kernel_rfl)))
        case o1r8n1 => exact ValOp.pure (grown_steady _ 1) [(7, .string A)] rfl (fun _ _ h2 => ⟨(h2 7 (by kernel_rfl)).trans rfl, trivial⟩) (by kernel_rfl) (fun _ _ _ _ _ => by kernel_rfl)
        case o2r8n1 => exact ValOp.pure (grown_steady _ 2) [(10, .int .i64 (k : Int))] rfl (fun _ _ h2 => ⟨(h2 10 (by kernel_rfl)).trans rfl, trivial⟩) (by kernel_rfl) (fun _ _ _ _ _ => by kernel_rfl)
        case o3r8n1 => exact ValOp.pure (grown_steady _ 3) [(31, .string A), (32, .int .i64 (k : Int))] rfl (fun _ h1 _ => ⟨h1 1 31 (by kernel_rfl), h1 2 32 (by kernel_rfl), trivial⟩) (by kernel_rfl) (fun _ _ _ hg _ => run_sidx hkA q0 rfl rfl rfl)
        case o4r8n1 => exact ValOp.pure (grown_steady _ 4) [(33, .int .u8 (Y : Int))] rfl (fun _ h1 _ => ⟨h1 3 33 (by kernel_rfl), trivial⟩) (by kernel_rfl) (fun _ _ _ hg _ => run_cvb _ Y q2 33 _ rfl)
        case o5r8n1 => exact ValOp.call (grown_steady _ 5) [(30, .agg (bv p)), (34, .int .i64 (Y : Int))] rfl (fun _ h1 _ => ⟨h1 0 30 (by kernel_rfl), h1 4 34 (by kernel_rfl), trivial⟩) (by kernel_rfl) 33 #[.agg (bv p), .int .i64 (Y : Int)] (fun _ => by kernel_rfl) (fun _ w1 _ => kbb w1)
        case o6r8n1 => exact ValOp.pure (grown_steady _ 6) [(35, .bool B)] rfl (fun _ h1 _ => ⟨h1 5 35 (by kernel_rfl), trivial⟩) (by kernel_rfl) (fun _ _ _ _ _ => by kernel_rfl)
        intro w1 _ _ hb
        have hB1 : Hid (Below w.heap.size w w1) := HB.out.trans (hb.mono HB.out.size)
        have hl1 : Hid (w1.heap[w.heap.size]? = some (.cells (bv p) 23)) := below_at hl.out hb
        refine hcont _ _ ?_
        cases hBv : B with
        | true =>
          rw [hBv] at hB
          have hB' : (Y : Int) < p.first ∧ (Y : Int) < 128 := by simpa using hB
          rw [if_pos hB'] at hfx
          have HE : Hid (fbF p s H 0 = fbF p s (H - (k + 1)) (k + 1)) := by show _ = _; rw [hf3]; exact hfx
          clear q0 hB hb kbb hfx hf2 hf3 hAs2 q1 q2 hB'
          have k9 : (k : Int) ≤ 9007199254740992 := by omega
          clear c1 c2 hH2
          go_wp2
          refine ⟨⟨k + 1, by simp, by omega, HE, hB1, hl1⟩, ?_⟩
          simp [RowKit.intOf]; omega
        | false =>
          rw [hBv] at hB
          have hB' : ¬ ((Y : Int) < p.first ∧ (Y : Int) < 128) := by simpa using hB
          rw [if_neg hB'] at hfx
          have HE : Hid (F = .inl (k, 141)) := by show _ = _; rw [← hF.out, hfx]
          clear q0 hB hb kbb hfx hf2 hf3 hH2 hAs2 hB'
          go_wp2
          go_ret3
          rw [HE.out]
          exact ⟨rfl, hB1.out⟩
      · obtain rfl : k = H := by omega
        have hF2 : Hid ((match rdL p s (s.size - R) R p.first 0 p.bias k with
    | .inl e => .inl e
    | .inr ps => .inr (insAll (ahd s k) ps)) = F) := by
          show _ = _
          rw [← hF.out, hfb.out, Nat.sub_self, fbF]
        have c2 : decide ((k : Int) < (k : Int)) = false := by simp
        have a0 := PB.out 0 (.int .i64 p.base) rfl wr hl.out
        have a1 := PB.out 1 (.int .i64 p.least) rfl wr hl.out
        have a2 := PB.out 2 (.int .i64 p.most) rfl wr hl.out
        have a3 := PB.out 3 (.int .i64 p.skew) rfl wr hl.out
        have a4 := PB.out 4 (.int .i64 p.damp) rfl wr hl.out
        have a5 := PB.out 5 (.int .i64 p.bias) rfl wr hl.out
        have a6 := PB.out 6 (.int .i64 p.first) rfl wr hl.out
        have a7 := PB.out 7 (.int .u8 p.btw) rfl wr hl.out
        obtain ⟨r, hr⟩ : ∃ r, rdL p s (s.size - R) R p.first 0 p.bias k = r := ⟨_, rfl⟩
        have k36 := fun w => read_any p s R k w hp (by have := HL.out; omega) (by have := hf.out; omega) (by have := hf.out; omega)
        simp only [hr] at k36
        replace hr : Hid (rdL p s (s.size - R) R p.first 0 p.bias k = r) := hr
        go_wp2_with (go_at_call 36; refine (k36 _).mono ?_)
        rintro e w3 ⟨hrd, b3⟩
        have hB3 : Hid (Below w.heap.size w w3) := HB.out.trans (b3.mono (by have := HB.out.size; omega))
        cases r with
        | inl e =>
          obtain ⟨ea, ec⟩ := e
          rw [rdA] at hrd
          subst hrd
          have hcode := rdL_code p s _ _ _ _ _ _ _ _ hr.out
          have hne : (ec == 0) = false := by simp; omega
          have hFF : Hid (F = .inl (ea, ec)) := by show _ = _; rw [← hF2.out, hr.out]
          clear b3 k36 hcode hH2 hAs2
          go_wp2
          go_ret3
          rw [hFF.out]
          exact ⟨rfl, hB3.out⟩
        | inr ps =>
          obtain ⟨v, rfl, hP⟩ := hrd
          obtain ⟨o1, o2, o3⟩ := rdL_ok p s _ _ _ _ _ _ _ hr.out (Int.le_refl _) hp.f1 (by have := hf.out; omega)
          have hFF : Hid (F = .inr (insAll (byts A) ps)) := by show _ = _; rw [← hF2.out, hr.out, hAb.out]
          have hll := HLL.out _ hFF.out
          rw [len_insAll ps (byts A) (by rw [byts_len, HL.out.2]; exact o1), byts_len] at hll
          have k37 := laid_any A ps v w3 hP.rdp hll (by rw [HL.out.2]; exact o1) o2
          have hlen : Hid ((insAll (byts A) ps).length ≤ maxLen ∧ w.heap.size ≤ w3.heap.size) := ⟨by rw [len_insAll ps (byts A) (by rw [byts_len, HL.out.2]; exact o1), byts_len]; have := HL.out; unfold maxLen; omega, hB3.out.size⟩
          obtain ⟨L, hL⟩ : ∃ L, insAll (byts A) ps = L := ⟨_, rfl⟩
          simp only [hL] at k37 hFF hlen
          clear b3 k36 hP o1 o2 o3 hll
          go_wp2_with (go_at_call 37; refine k37.mono ?_)
          rintro e w4 ⟨rfl, c4, b4⟩
          have hB4 : Hid (Below w.heap.size w w4) := hB3.out.trans (b4.mono hlen.out.2)
          have hR4 : Hid (Rw .i32 21 w.heap.size w4 (.slice (some ⟨w3.heap.size, 0, none⟩) L.length L.length) L) := c4.owns hlen.out.1 _ hlen.out.2
          clear c4 b4 k37
          go_wp2
          go_ret3
          rw [hFF.out]
          exact ⟨⟨_, rfl, hR4.out⟩, hB4.out⟩
  · rw [if_neg c] at hA hRx
    have hR2 : R = 0 := by rw [hRx]; rfl
    have hH0 : H = 0 := by omega
    have c1 : decide (0 < X) = false := decide_eq_false c
    clear hRx hAs hh hdd hL1 hL2 hX hlR hs hH hR hAs2 hAy hH2
    subst hA hR2 hH0
    have hF2 : Hid ((match rdL p s (s.size - 0) 0 p.first 0 p.bias 0 with
    | .inl e => .inl e
    | .inr ps => .inr (insAll (ahd s 0) ps)) = F) := by
      show _ = _
      rw [← hF.out, fbF]
    clear hF
    go_enter Try.func26, Try.ntmps26
    go_wp2_with (go_at_call 35; refine (k35 _).mono ?_; rintro e w' ⟨rfl, hw⟩; rw [hw]; clear hw)
    generalize w.alloc (.cells (bv p) 23) = W1 at *
    clear c1 c hXs k35 c7
    have a0 := PB.out 0 (.int .i64 p.base) rfl W1 hl.out
    have a1 := PB.out 1 (.int .i64 p.least) rfl W1 hl.out
    have a2 := PB.out 2 (.int .i64 p.most) rfl W1 hl.out
    have a3 := PB.out 3 (.int .i64 p.skew) rfl W1 hl.out
    have a4 := PB.out 4 (.int .i64 p.damp) rfl W1 hl.out
    have a5 := PB.out 5 (.int .i64 p.bias) rfl W1 hl.out
    have a6 := PB.out 6 (.int .i64 p.first) rfl W1 hl.out
    have a7 := PB.out 7 (.int .u8 p.btw) rfl W1 hl.out
    go_loopw [27] (fun x wr => x = .int .i64 0 ∧ wr = W1) (fun _ _ => 0)
    case atStart => exact ⟨rfl, rfl⟩
    case round =>
      obtain ⟨rfl, hwr⟩ := hrel
      subst hwr
      obtain ⟨r, hr⟩ : ∃ r, rdL p s (s.size - 0) 0 p.first 0 p.bias 0 = r := ⟨_, rfl⟩
      have k36 := fun w => read_any p s 0 0 w hp (by have := HL.out; omega) (by have := hf.out; omega) (by have := hf.out; omega)
      simp only [hr] at k36
      replace hr : Hid (rdL p s (s.size - 0) 0 p.first 0 p.bias 0 = r) := hr
      go_wp2_with (go_at_call 36; refine (k36 _).mono ?_)
      rintro e w3 ⟨hrd, b3⟩
      have hB3 : Hid (Below w.heap.size w w3) := HB.out.trans (b3.mono (by have := HB.out.size; omega))
      cases r with
      | inl e =>
        obtain ⟨ea, ec⟩ := e
        rw [rdA] at hrd
        subst hrd
        have hcode := rdL_code p s _ _ _ _ _ _ _ _ hr.out
        have hne : (ec == 0) = false := by simp; omega
        have hFF : Hid (F = .inl (ea, ec)) := by show _ = _; rw [← hF2.out, hr.out]
        clear b3 k36 hcode
        go_wp2
        go_ret3
        rw [hFF.out]
        exact ⟨rfl, hB3.out⟩
      | inr ps =>
        obtain ⟨v, rfl, hP⟩ := hrd
        obtain ⟨o1, o2, o3⟩ := rdL_ok p s _ _ _ _ _ _ _ hr.out (Int.le_refl _) hp.f1 (by have := hf.out; omega)
        have hFF : Hid (F = .inr (insAll (byts ⟨#[]⟩) ps)) := by show _ = _; rw [← hF2.out, hr.out, hAb.out]
        have hll := HLL.out _ hFF.out
        rw [len_insAll ps (byts ⟨#[]⟩) (by exact o1), byts_len] at hll
        have k37 := laid_any ⟨#[]⟩ ps v w3 hP.rdp hll (by exact o1) o2
        have hlen : Hid ((insAll (byts ⟨#[]⟩) ps).length ≤ maxLen ∧ w.heap.size ≤ w3.heap.size) := ⟨by rw [len_insAll ps (byts ⟨#[]⟩) (by exact o1), byts_len]; have := HL.out; unfold maxLen; omega, hB3.out.size⟩
        obtain ⟨L, hL⟩ : ∃ L, insAll (byts ⟨#[]⟩) ps = L := ⟨_, rfl⟩
        simp only [hL] at k37 hFF hlen
        clear b3 k36 hP o1 o2 o3 hll
        go_wp2_with (go_at_call 37; refine k37.mono ?_)
        rintro e w4 ⟨rfl, c4, b4⟩
        have hB4 : Hid (Below w.heap.size w w4) := hB3.out.trans (b4.mono hlen.out.2)
        have hR4 : Hid (Rw .i32 21 w.heap.size w4 (.slice (some ⟨w3.heap.size, 0, none⟩) L.length L.length) L) := c4.owns hlen.out.1 _ hlen.out.2
        clear c4 b4 k37
        go_wp2
        go_ret3
        rw [hFF.out]
        exact ⟨⟨_, rfl, hR4.out⟩, hB4.out⟩
end Go.Proofs.Ytahmeejcgddlhab
