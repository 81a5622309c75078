/-
  The law PunyBack: great letters.
-/
import Derived.Test.YtahmeejcgddlhaaRl
import Derived.Lib.ConvBytes
import Derived.Laws.BytesArg
import Derived.Deep.DeepMust
namespace Go.Proofs.Ytahmeejcgddlhaa
open Go.RowKit
theorem under5 : Try.prog.underlying 5 = some (.int .u8) := Try.underlying5
/-- The bytes of a text, as a block that may be written. -/
theorem Cel.of_text (w : World) (s : ByteArray) : Cel .u8 (Lib.bytesWorld w 5 s) w.heap.size s.size (fun j => (byt s j : Int)) := by
  intro j hj
  have h := Lib.bytesWorld_at_new w 5 s
  have hz : s.size ≤ (Lib.bytesCells w 5 s).size := by
    unfold Lib.bytesCells
    simp
  have e : s.data.toList.getD j 0 = s.get! j := by
    have h2 : j < s.data.toList.length := by rw [Array.length_toList]; exact hj
    cases s with
    | mk d =>
      show _ = d[j]!
      rw [getElem!_pos d j hj]
      simp [List.getD_eq_getElem?_getD, show j < d.size from hj]
  refine ⟨?_, ?_⟩
  · rw [Lib.bytesWorld_cell w 5 s j hj, e]; rfl
  · simp [World.frozen?, h]
    omega
theorem bw_below (w : World) (s : ByteArray) : Below w.heap.size w (Lib.bytesWorld w 5 s) :=
  ⟨rfl, rfl, rfl, by rw [Lib.bytesWorld_size]; omega, fun k hk => Lib.bytesWorld_at_old w 5 s k hk⟩
theorem wpList_cv2 {P : Program} {ops : Array Oper} {rest : List Oper} {o : Oper} {a : Act} {w w' : World} {Q : Exit → Act → World → Prop} (hgd : o.guard = none) (src dst : TypeId) (x : Operand) (ho : o.op = .convert src dst x) (v : Value) (hx : a.eval x = v) (u : Value) (hr : (convert src dst v).run P w = .ok u w')
    (h : wpList P ops Q rest (a.put o.dst u) w') : wpList P ops Q (o :: rest) a w :=
  wpList_plain hgd fun K hK => by
    unfold Oper.wp execOp
    simp only [ho, hx, Sem.run_bind, Sem.run_pure, Result.andThen_ok, hr]
    exact hK _ _ h
theorem text_cel {w : World} {g N c : Nat} {f : Nat → Int} (h : Cel .u8 w g N f) : (convert 36 9 (.slice (some ⟨g, 0, none⟩) N c)).run Try.prog w = .ok (.string (strOfNums ((List.range N).map f))) w :=
  run_convert_bytes_arg w 36 5 Try.underlying36 Try.underlying5 g 0 N c ((List.range N).map f) (by simp) (fun i hi => by
    rw [Nat.zero_add, (h i hi).1]
    simp [List.getD_eq_getElem?_getD, hi]) 9 Try.underlying9
theorem encT_bad (zs os : List Int) (h : (encT zs os).2.2 ≠ 0) : (encT zs os).1 = ⟨#[]⟩ := by
  unfold encT at h ⊢
  split
  · rfl
  · rename_i c
    rw [if_neg c] at h
    split
    · rfl
    · rename_i D he
      rw [he] at h
      simp at h
theorem dg_low (c : Int) (h : 0 ≤ dg c) : c < 128 := by
  unfold dg at h
  split at h
  · omega
  · split at h
    · omega
    · split at h
      · omega
      · omega
theorem dgTo_dg (p : Bt) (hp : Okb p) {x : Int} (h : isDg p x) : 0 ≤ dgTo p.base x := by
  obtain ⟨d, h0, h1, rfl⟩ := h
  rw [dgTo_ltr p hp d h0 h1]; exact h0
theorem Txt.low {p : Bt} {s : ByteArray} {B D : List Int} (h : Txt p s B D) (hp : Okb p) (hb : ∀ x ∈ B, isB p x = true) (hd : ∀ x ∈ D, isDg p x) : ∀ j, j < s.size → (byt s j : Int) < 128 := by
  intro j hj
  have hz := h.size
  by_cases c : j < B.length
  · rw [h.ahead j c]
    exact isB_range (hb _ (by rw [List.getD_eq_getElem?_getD, List.getElem?_eq_getElem c]; exact List.getElem_mem c))
  · by_cases d : offN B ≤ j
    · have h1 := h.says (j - offN B) (by omega)
      rw [show offN B + (j - offN B) = j by omega] at h1
      have h2 := dgTo_dg p hp (hd (D.getD (j - offN B) 0) (by rw [List.getD_eq_getElem?_getD, List.getElem?_eq_getElem (by omega)]; exact List.getElem_mem _))
      rw [← h1] at h2
      unfold dgTo at h2
      split at h2
      · exact dg_low _ h2
      · omega
    · have hne : B ≠ [] := by intro e; unfold offN at d; rw [if_pos e] at d; omega
      have h3 : j = B.length := by unfold offN at d; rw [if_neg hne] at d; omega
      rw [h3, h.btw hne]
      have := hp.t2; omega
/-- A byte as it was, or a letter made great behind a place. -/
def Gr (s : ByteArray) (at_ : Nat) (j : Nat) (x : Int) : Prop := x = (byt s j : Int) ∨ (at_ ≤ j ∧ 97 ≤ (byt s j : Int) ∧ (byt s j : Int) ≤ 122 ∧ x = (byt s j : Int) - 32)
theorem dg_great {c : Int} (h0 : 97 ≤ c) (h1 : c ≤ 122) : dg (c - 32) = dg c := by
  unfold dg
  rw [if_neg (by omega), if_pos (by omega), if_pos (by omega)]; omega
/-- A text with great letters in its digits is a text of the same digits. -/
theorem great_txt {p : Bt} {s : ByteArray} {B D GL : List Int} (h : Txt p s B D) (hbt : p.btw < 65) (hl : GL.length = s.size) (hg : ∀ j, j < s.size → Gr s B.length j (GL.getD j 0)) : Txt p (strOfNums GL) B D := by
  have hz := h.size
  have hoff : B.length ≤ offN B := by unfold offN; split <;> (try (rename_i e; subst e; simp)); omega
  have e : ∀ j, j < s.size → (byt (strOfNums GL) j : Int) = GL.getD j 0 := fun j hj => by
    have hy := byt_lt s j
    refine str_byt GL j (by omega) ?_
    rcases hg j hj with q | ⟨-, q1, q2, q⟩ <;> omega
  refine ⟨by rw [strOfNums_size, hl, hz], fun j hj => ?_, fun c => ?_, fun j hj => ?_, fun j hj => ?_⟩
  · have := hg j (by omega)
    rw [e j (by omega), ← h.ahead j hj]
    rcases this with q | ⟨q, -⟩
    · exact q
    · omega
  · have hj : B.length < s.size := by unfold offN at hz; rw [if_neg c] at hz; omega
    have h2 := h.btw c
    rw [e _ hj]
    rcases hg _ hj with q | ⟨-, q1, -, -⟩
    · rw [q, h2]
    · omega
  · have h2 := h.digs j hj
    rw [e _ (by omega)]
    rcases hg (offN B + j) (by omega) with q | ⟨-, q1, q2, q⟩
    · rw [q]; exact h2
    · omega
  · rw [e _ (by omega), ← h.says j hj]
    rcases hg (offN B + j) (by omega) with q | ⟨-, q1, q2, q⟩
    · rw [q]
    · rw [q]; unfold dgTo; rw [dg_great q1 q2]
end Go.Proofs.Ytahmeejcgddlhaa
