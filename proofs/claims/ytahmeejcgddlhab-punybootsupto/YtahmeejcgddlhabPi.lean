/-
  Contracts of the tree's functions by what is marked; readings of lists.
-/
import Derived.Test.YtahmeejcgddlhabPg
namespace Go.Proofs.Ytahmeejcgddlhab
open Go.RowKit
theorem Cel.only {kd : IntKind} {w w' : World} {b b2 n : Nat} {f : Nat → Int} (h : Cel kd w b n f) (hb : b ≠ b2) (ho : Only b2 w w') : Cel kd w' b n f := by
  intro j hj
  obtain ⟨h1, h2⟩ := h j hj
  have hl : b < w.heap.size := by have := World.block_lt_of_cell? w _ h1; simpa using this
  have e := ho.block b hl (by intro q; cases q; exact hb rfl)
  exact ⟨by rw [← h1]; exact World.cell?_of_block e, by rw [← h2]; exact World.frozen?_of_block e⟩
theorem Only.below {w w1 w2 : World} {b n : Nat} (h : Below n w w1) (hb : n ≤ b) (hn : n ≤ w1.heap.size) (ho : Only b w1 w2) : Below n w w2 :=
  h.grown ho hn (fun j hj => by cases hj; exact hb)
theorem bitLen_lt (n : Nat) : n < 4194304 → n < 2 ^ (Lib.bitLen n) := by
  induction n using Nat.strongRecOn with
  | _ n ih =>
    intro h
    by_cases c : n = 0
    · subst c; decide
    · have := ih (n / 2) (by omega) (by omega)
      rw [Lib.bitLen_half n c (by omega), Nat.add_comm, Nat.pow_succ]
      omega
theorem find_ft (b n : Nat) (f : Nat → Int) (mk : Nat → Bool) (M r : Nat) (w : World) (hn : n < 4194304) (hM : M ≤ 4194304) (hf : FT n f mk) (hr : r < n) (h1 : cnt mk r ≤ M) (h2 : ∀ x, r < x → x < n → M < cnt mk x) (hC : Cel .i64 w b n f) :
    Calls Try.prog 47 #[.slice (some ⟨b, 0, none⟩) n n, .int .i64 (M : Int)] w fun e w' => e = .returned (.int .i64 (r : Int)) ∧ w' = w := by
  have := find_any b n f M w hn (by omega) (by omega) (fun j h1 h2 => by have := hf.bound j h1 h2; omega) hC
  have k := hf.find (by omega) M r hr h1 h2 (Lib.bitLen n + 1) 0 (by omega) (by have := bitLen_lt n hn; rw [Nat.pow_succ]; omega)
  simp only [Nat.mul_zero, cnt, Int.natCast_zero, Int.sub_zero] at k
  rw [k] at this
  exact this
theorem chF_zero (n : Nat) (v : Int) (i : Nat) (f : Nat → Int) (hi : 0 < i) : ∀ t, chF n v t i f 0 = f 0 := fun t => chF_keep n v t i f 0 hi
theorem change_off (b n r : Nat) (f : Nat → Int) (mk : Nat → Bool) (w : World) (hn : n < 4194304) (hr : r < n) (hf : FT n f mk) (h0 : f 0 = 0) (hm : mk r = true) (hC : Cel .i64 w b n f) :
    Calls Try.prog 42 #[.slice (some ⟨b, 0, none⟩) n n, .int .i64 (r : Int), .int .i64 (-1)] w fun e w' => e = .returned (.tuple #[]) ∧ (∃ f', Cel .i64 w' b n f' ∧ FT n f' (setB mk r false) ∧ f' 0 = 0) ∧ Only b w w' := by
  refine (change_any b n r (-1) f w hn (by omega) (by omega) (by omega) (fun j hj => ?_) hC).mono ?_
  · by_cases c : j = 0
    · subst c; rw [h0]; omega
    · have := hf.bound j (by omega) hj; omega
  · rintro e w' ⟨h1, h2, h3⟩
    exact ⟨h1, ⟨_, h2, hf.off (by omega) r hm, by rw [chF_zero _ _ _ _ (by omega)]; exact h0⟩, h3⟩
theorem change_on (b n r : Nat) (f : Nat → Int) (mk : Nat → Bool) (w : World) (hn : n < 4194304) (hr : r < n) (hf : FT n f mk) (h0 : f 0 = 0) (hm : mk r = false) (hC : Cel .i64 w b n f) :
    Calls Try.prog 42 #[.slice (some ⟨b, 0, none⟩) n n, .int .i64 (r : Int), .int .i64 1] w fun e w' => e = .returned (.tuple #[]) ∧ (∃ f', Cel .i64 w' b n f' ∧ FT n f' (setB mk r true) ∧ f' 0 = 0) ∧ Only b w w' := by
  refine (change_any b n r 1 f w hn (by omega) (by omega) (by omega) (fun j hj => ?_) hC).mono ?_
  · by_cases c : j = 0
    · subst c; rw [h0]; omega
    · have := hf.bound j (by omega) hj; omega
  · rintro e w' ⟨h1, h2, h3⟩
    exact ⟨h1, ⟨_, h2, hf.on (by omega) r hm, by rw [chF_zero _ _ _ _ (by omega)]; exact h0⟩, h3⟩
theorem ahead_ft (b n i : Nat) (f : Nat → Int) (mk : Nat → Bool) (w : World) (hn : n < 4194304) (hi : i < n) (hf : FT n f mk) (h0 : f 0 = 0) (hC : Cel .i64 w b n f) :
    Calls Try.prog 39 #[.slice (some ⟨b, 0, none⟩) n n, .int .i64 (i : Int)] w fun e w' => e = .returned (.int .i64 (cnt mk i : Int)) ∧ w' = w := by
  have := ahead_any b n i f w hn hi (fun j hj => by
    by_cases c : j = 0
    · subst c; rw [h0]; omega
    · have := hf.bound j (by omega) hj; omega) hC
  rw [hf.ahead (by omega) i i 0 (Nat.le_refl _) hi, Int.zero_add] at this
  exact this
theorem ft_all (n : Nat) : FT n (fun j => (lb j : Int)) (fun _ => true) := by
  intro i h1 h2
  have := lb_le i
  simp only [cnt_all]
  omega
theorem cnt_none : ∀ n, cnt (fun _ => false) n = 0
  | 0 => rfl
  | n + 1 => by rw [cnt, cnt_none n]; rfl
theorem ft_none (n : Nat) : FT n (fun _ => 0) (fun _ => false) := by
  intro i h1 h2
  simp only [cnt_none]
  omega
/-- A list of what is put in, as a slice. -/
def RdP (w : World) (v : Value) (ps : List (Int × Nat)) : Prop :=
  ∃ a c, v = .slice a ps.length c ∧ (0 < ps.length → ∃ g, a = some ⟨g, 0, none⟩ ∧ ∀ i q, ps[i]? = some q → w.cell? ⟨g, i * 2, none⟩ = some (.int .i32 q.1) ∧ w.cell? ⟨g, i * 2 + 1, none⟩ = some (.int .i64 (q.2 : Int)))
theorem RdP.below {w w' : World} {v : Value} {ps : List (Int × Nat)} (h : RdP w v ps) (hb : Below w.heap.size w w') : RdP w' v ps := by
  obtain ⟨a, c, rfl, hc⟩ := h
  refine ⟨a, c, rfl, fun hp => ?_⟩
  obtain ⟨g, rfl, hd⟩ := hc hp
  refine ⟨g, rfl, fun i q hq => ?_⟩
  obtain ⟨h1, h2⟩ := hd i q hq
  have := World.block_lt_of_cell? w _ h1
  exact ⟨(hb.cell (p := ⟨g, i * 2, none⟩) (by simpa using this)).trans h1, (hb.cell (p := ⟨g, i * 2 + 1, none⟩) (by simpa using this)).trans h2⟩
/-- The bytes of a text. -/
def byt (s : ByteArray) (j : Nat) : Nat := (s.get! j).toNat
theorem byt_lt (s : ByteArray) (j : Nat) : byt s j < 256 := UInt8.toNat_lt _
theorem byt_eq (s : ByteArray) (j : Nat) (h : j < s.size) : (s[j]'h).toNat = byt s j := by
  unfold byt
  cases s with
  | mk d =>
    show _ = (d[j]!).toNat
    rw [getElem!_pos d j h]
    rfl
def byts (s : ByteArray) : List Int := (List.range s.size).map fun j => (byt s j : Int)
theorem byts_len (s : ByteArray) : (byts s).length = s.size := by simp [byts]
theorem byts_at (s : ByteArray) (j : Nat) (h : j < s.size) : (byts s).getD j 0 = (byt s j : Int) := by
  simp [byts, List.getD_eq_getElem?_getD, h]
/-- Cells that are as a list says are a row of the call's own. -/
theorem cells_list {kd : IntKind} {w : World} {b n : Nat} {f : Nat → Int} (h : Cel kd w b n f) (L : List Int) (hf : ∀ j, j < n → f j = L.getD j 0) : Cel kd w b n (fun j => L.getD j 0) := h.congr hf
theorem Cel.rds {kd : IntKind} {w : World} {b c : Nat} {L : List Int} (h : Cel kd w b L.length (fun j => L.getD j 0)) : Rds kd w (.slice (some ⟨b, 0, none⟩) L.length c) L :=
  ⟨_, c, rfl, fun _ => ⟨b, 0, rfl, fun j hj => by rw [Nat.zero_add]; exact (h j hj).1⟩⟩
/-- A whole block of numbers: so many, these. -/
def CelB (kd : IntKind) (e : TypeId) (w : World) (b n : Nat) (f : Nat → Int) : Prop := ∃ cur : Array Value, w.heap[b]? = some (.cells cur e (0, 0)) ∧ cur.size = n ∧ ∀ j, j < n → cur[j]? = some (.int kd (f j))
theorem CelB.cel {kd : IntKind} {e : TypeId} {w : World} {b n : Nat} {f : Nat → Int} (h : CelB kd e w b n f) : Cel kd w b n f := by
  obtain ⟨cur, h1, _, h3⟩ := h
  intro j hj
  exact ⟨by simp [World.cell?, h1, h3 j hj], by simp [World.frozen?, h1]⟩
theorem CelB.lt {kd : IntKind} {e : TypeId} {w : World} {b n : Nat} {f : Nat → Int} (h : CelB kd e w b n f) : b < w.heap.size := by
  obtain ⟨cur, h1, _⟩ := h
  exact (Array.getElem?_eq_some_iff.1 h1).1
theorem CelB.set {kd : IntKind} {e : TypeId} {w : World} {b n : Nat} {f : Nat → Int} (h : CelB kd e w b n f) (k : Nat) (v : Int) : CelB kd e (w.setCell ⟨b, k, none⟩ (.int kd v)) b n (fun j => if j = k then v else f j) := by
  obtain ⟨cur, h1, h2, h3⟩ := h
  refine ⟨cur.setIfInBounds k (.int kd v), by simp [World.setCell, Array.getElem?_modify, h1], by simpa using h2, fun j hj => ?_⟩
  rw [Array.getElem?_setIfInBounds]
  by_cases c : k = j
  · subst c; rw [if_pos rfl, if_pos (by omega)]; simp
  · rw [if_neg c, h3 j hj]; simp [Ne.symm c]
theorem CelB.congr {kd : IntKind} {e : TypeId} {w : World} {b n : Nat} {f g : Nat → Int} (h : CelB kd e w b n f) (hfg : ∀ j, j < n → f j = g j) : CelB kd e w b n g := by
  obtain ⟨cur, h1, h2, h3⟩ := h
  exact ⟨cur, h1, h2, fun j hj => by rw [h3 j hj, hfg j hj]⟩
theorem CelB.below {kd : IntKind} {e : TypeId} {w w' : World} {b n : Nat} {f : Nat → Int} (h : CelB kd e w b n f) (hb : Below w.heap.size w w') : CelB kd e w' b n f := by
  have hl := h.lt
  obtain ⟨cur, h1, h2⟩ := h
  exact ⟨cur, (hb.block b hl).trans h1, h2⟩
theorem CelB.only {kd : IntKind} {e : TypeId} {w w' : World} {b b2 n : Nat} {f : Nat → Int} (h : CelB kd e w b n f) (hne : b ≠ b2) (ho : Only b2 w w') : CelB kd e w' b n f := by
  have hl := h.lt
  obtain ⟨cur, h1, h2⟩ := h
  exact ⟨cur, (ho.block b hl (by intro q; cases q; exact hne rfl)).trans h1, h2⟩
theorem CelB.new {kd : IntKind} (w : World) (e : TypeId) (z : Value) (n : Nat) (f : Nat → Int) (hz : z.cells = #[z]) (hf : ∀ j, j < n → z = .int kd (f j)) : CelB kd e (w.alloc (.cells (madeCells z.cells n) e)) w.heap.size n f := by
  refine ⟨_, heap_new _ _, ?_, fun j hj => ?_⟩
  · rw [size_madeCells]
  · rw [made_at z hz n j hj, hf j hj]
theorem CelB.owns {kd : IntKind} {e : TypeId} {w : World} {b : Nat} {L : List Int} (h : CelB kd e w b L.length (fun j => L.getD j 0)) (hl : L.length ≤ maxLen) (b0 : Nat) (hb : b0 ≤ b) : Rw kd e b0 w (.slice (some ⟨b, 0, none⟩) L.length L.length) L := by
  obtain ⟨cur, h1, h2, h3⟩ := h
  refine ⟨by simp, .inr ⟨b, L.length, cur, rfl, hb, h1, Nat.le_refl _, hl, by omega, ?_⟩⟩
  apply List.ext_getElem?
  intro j
  by_cases c : j < L.length
  · rw [List.getElem?_take_of_lt (by omega), Array.getElem?_toList, h3 j c]
    simp [List.getD, List.getElem?_eq_getElem c]
  · rw [List.getElem?_eq_none (by simp; omega), List.getElem?_eq_none (by simp; omega)]
end Go.Proofs.Ytahmeejcgddlhab
