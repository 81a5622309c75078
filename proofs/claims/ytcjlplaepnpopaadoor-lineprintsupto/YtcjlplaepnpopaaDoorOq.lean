/-
  What came in, opened: a line, code points.
-/
import Derived.Test.YtcjlplaepnpopaaDoorHr
import Derived.Test.YtcjlplaepnpopaaDoorRows
import Derived.ChangeSlices
import Derived.SliceStrings
import Derived.SizedLaws
import Derived.OpenShut
import Derived.WalkKit
import Derived.ProofKit
import Derived.ShutString
import Derived.Deep.DeepHandedRow
import Derived.KernelRfl
namespace Go.Proofs.YtcjlplaepnpopaaDoor
open Go.RowKit
open Go.ChangeShapes Go.WideShapes
theorem trod_kind {H : Type} {enc : TypeId × Value → H} {P : Program} {w : World} {base : Nat} {spare : Nat → Bool} {held : Bool} {e : TypeId} {n : Nat} {v : Value} {k : IntKind} {x : DataW H × List MemPlace} (he : P.underlying e = some (.int k)) (h : DataW.trod enc P w base spare held n e [v] = some x) : ∃ b, v = .int k b ∧ (Lit.int k b).wf = true := by
  cases n with
  | zero => simp [DataW.trod] at h
  | succ n =>
    simp only [DataW.trod, he] at h
    cases v <;> simp at h
    obtain ⟨⟨rfl, h2⟩, -⟩ := h
    exact ⟨_, rfl, h2⟩
theorem cells21 : Tryd.prog.cellsOf 21 = 1 := by kernel_rfl
theorem cells3 : Tryd.prog.cellsOf 3 = 1 := by kernel_rfl
theorem cells9 : Tryd.prog.cellsOf 9 = 1 := by kernel_rfl
theorem cells44 : Tryd.prog.cellsOf 44 = 1 := by kernel_rfl
theorem cells46 : Tryd.prog.cellsOf 46 = 3 := by kernel_rfl
theorem cells48 : Tryd.prog.cellsOf 48 = 2 := by kernel_rfl
set_option maxRecDepth 100000 in
/-- A list of code points that came in. -/
theorem open_runes {H : Type} {enc : TypeId × Value → H} {W : World} {base : Nat} {v : Value} {d : DataW H} {p : List MemPlace} (hval : Value.okWide Tryd.prog W .any base 33 v) (h : DataW.Trod enc Tryd.prog W 0 (fun _ => true) true 33 v d p) :
    ∃ zs, Rds .i32 W v zs ∧ ((d = .nil ∧ zs = []) ∨ ∃ more, d = .slice (lits .i32 zs) (lits .i32 more)) := by
  obtain ⟨a0, len, cap, rfl⟩ := okWide_slice Tryd.underlying33 hval
  obtain ⟨fuel, hf⟩ := h
  rcases open_ints Tryd.underlying33 Tryd.underlying21 cells21 hf with ⟨hcs, hx⟩ | ⟨a, len', cap', zs, hcs, _, hl, hm, hz, hx, hcell, hwz⟩
  · simp [Value.cells] at hcs
    obtain ⟨rfl, rfl, rfl⟩ := hcs
    simp only [Prod.mk.injEq] at hx
    exact ⟨[], ⟨none, 0, rfl, fun h => by simp at h⟩, .inl ⟨hx.1, rfl⟩⟩
  · simp [Value.cells] at hcs
    obtain ⟨rfl, rfl, rfl⟩ := hcs
    simp only [Prod.mk.injEq] at hx
    simp only [if_true] at hz
    have hlen : (zs.take len).length = len := by rw [List.length_take]; omega
    refine ⟨zs.take len, ⟨some a, cap, by rw [hlen], fun h0 => ?_⟩, .inr ⟨zs.drop len, hx.1⟩⟩
    rw [hlen] at h0
    obtain ⟨g, off, spot⟩ := a
    have hspot : spot = none := by simpa [Addr.add] using World.cell?_spot (hcell 0 (by omega))
    subst hspot
    refine ⟨g, off, rfl, fun j hj => ?_⟩
    rw [hlen] at hj
    have h1 := hcell j (by omega)
    rw [Go.WideShapes.add_plain] at h1
    rw [h1]
    simp [List.getD, List.getElem?_take_of_lt hj]
theorem bulk_pos {H : Type} (d : DataW H) : 1 ≤ Rows.uptoBulk d := by
  unfold Rows.uptoBulk
  split <;> omega
theorem bulk_all {H : Type} : ∀ l : List (DataW H), l.length ≤ Rows.uptoBulkAll l
  | [] => by simp
  | d :: l => by
    have h1 := bulk_pos d
    have h2 := bulk_all l
    simp only [Rows.uptoBulkAll, List.length_cons]
    omega
theorem bulk_mem {H : Type} {d : DataW H} : ∀ l : List (DataW H), d ∈ l → Rows.uptoBulk d ≤ Rows.uptoBulkAll l
  | [], h => by cases h
  | e :: l, h => by
    simp only [Rows.uptoBulkAll]
    rcases List.mem_cons.1 h with rfl | h
    · omega
    · have := bulk_mem l h; omega
theorem bulk_runes {H : Type} {d : DataW H} {zs : List Int} (h : (d = .nil ∧ zs = []) ∨ ∃ more, d = .slice (lits .i32 zs) (lits .i32 more)) : zs.length ≤ Rows.uptoBulk d := by
  rcases h with ⟨rfl, rfl⟩ | ⟨more, rfl⟩
  · simp
  · have := bulk_all (lits (H := H) .i32 zs)
    simp only [Rows.uptoBulk]
    simp only [lits, List.length_map] at this ⊢
    omega
theorem bulk_text {H : Type} (s : ByteArray) : Rows.uptoBulk (DataW.lit (H := H) (.string s.data.toList)) = s.size + 1 := by
  have e : s.data.toList.length = s.size := by rw [Array.length_toList]; rfl
  simp only [Rows.uptoBulk, e]
set_option maxRecDepth 100000 in
/-- A line that came in. -/
theorem open_line {H : Type} {enc : TypeId × Value → H} {W : World} {base : Nat} {v : Value} {d : DataW H} {p : List MemPlace} (hval : Value.okWide Tryd.prog W .any base 46 v) (h : DataW.Trod enc Tryd.prog W 0 (fun _ => true) true 46 v d p) :
    ∃ num vF L note, v = .agg #[.int .i64 num, vF, .string note] ∧ RdT2 W vF L ∧ L.length ≤ Rows.uptoBulk d ∧ (∀ x ∈ L, x.size ≤ Rows.uptoBulk d) ∧ note.size ≤ Rows.uptoBulk d := by
  obtain ⟨cs, rfl, hsz, -⟩ : ∃ cs, v = .agg cs ∧ cs.size = Tryd.prog.cellsOf 46 ∧ Row.okWide Tryd.prog W .any base 46 cs := by
    simpa [Value.okWide, Tryd.underlying46] using hval
  rw [cells46] at hsz
  obtain ⟨fuel, hf⟩ := h
  obtain ⟨xs, k, hk, hxy, _, hxl, hff⟩ := DataW.trod_struct Tryd.underlying46 hf
  obtain ⟨cs⟩ := cs
  match xs, hxl, cs, hsz with
  | [y0, y1, y2], _, [v0, v1, v2], _ =>
    have g0 := hff 0 _ rfl
    have g1 := hff 1 _ rfl
    have g2 := hff 2 _ rfl
    simp [cells3, cells44, cells9, Value.cells] at g0 g1 g2
    obtain ⟨c, rfl, -⟩ := trod_kind Tryd.underlying3 g0
    obtain ⟨s, hs, hx2, hsl⟩ := DataW.trod_string Tryd.underlying9 g2
    simp at hs
    subst hs
    simp only [Prod.mk.injEq] at hxy
    have hd : d = .agg [y0.1, y1.1, y2.1] := hxy.1
    have hn : s.size ≤ Rows.uptoBulk d := by
      have e : y2.1 = DataW.lit (.string s.data.toList) := by rw [hx2]
      rw [hd, e]
      have := bulk_text (H := H) s
      simp only [Rows.uptoBulk, Rows.uptoBulkAll] at this ⊢
      omega
    rcases Go.ChangeShapes.open_strings Tryd.underlying44 Tryd.underlying9 cells9 g1 with ⟨hcs, hx⟩ | ⟨a, len, cap, ss, hcs, hb, hl, hm, hz, hx, hcell, _⟩
    · simp at hcs
      subst hcs
      exact ⟨c, _, [], s, rfl, .inl ⟨rfl, rfl⟩, Nat.zero_le _, (fun x hx => by cases hx), hn⟩
    · simp at hcs
      subst hcs
      simp only [if_true] at hz
      have hlen : (ss.take len).length = len := by rw [List.length_take]; omega
      have hLs : ∀ x ∈ ss.take len, x.size ≤ Rows.uptoBulk d := fun x hx2 => by
        have h1 : DataW.lit (H := H) (.string x.data.toList) ∈ Go.ChangeShapes.strs (H := H) (ss.take len) := List.mem_map.2 ⟨x, hx2, rfl⟩
        have h2 := bulk_mem _ h1
        have h3 := bulk_text (H := H) x
        have e : y1.1 = DataW.slice (Go.ChangeShapes.strs (ss.take len)) (Go.ChangeShapes.strs (ss.drop len)) := by rw [hx]
        rw [hd, e]
        simp only [Rows.uptoBulk, Rows.uptoBulkAll] at h2 h3 ⊢
        omega
      have hLn : (ss.take len).length ≤ Rows.uptoBulk d := by
        have h2 := bulk_all (Go.ChangeShapes.strs (H := H) (ss.take len))
        have e : y1.1 = DataW.slice (Go.ChangeShapes.strs (ss.take len)) (Go.ChangeShapes.strs (ss.drop len)) := by rw [hx]
        rw [hd, e]
        simp only [Rows.uptoBulk, Rows.uptoBulkAll]
        simp only [Go.ChangeShapes.strs, List.length_map] at h2 ⊢
        omega
      refine ⟨c, _, ss.take len, s, rfl, .inr ⟨a, cap, by rw [hlen], by omega, fun j u hj => ?_⟩, hLn, hLs, hn⟩
      rw [List.getElem?_map, Option.map_eq_some_iff] at hj
      obtain ⟨x, hx1, rfl⟩ := hj
      obtain ⟨hjl, e⟩ := List.getElem?_eq_some_iff.1 hx1
      rw [hlen] at hjl
      rw [hcell j (by omega)]
      congr 2
      rw [← e]
      simp [List.getD, List.getElem?_eq_getElem (show j < ss.length by omega)]
set_option maxRecDepth 100000 in
theorem open_few {H : Type} {enc : TypeId × Value → H} {W : World} {base : Nat} {v : Value} {d : DataW H} {p : List MemPlace} (hval : Value.okWide Tryd.prog W .any base 48 v) (h : DataW.Trod enc Tryd.prog W 0 (fun _ => true) true 48 v d p) :
    ∃ least most, v = .agg #[.int .i64 least, .int .i64 most] := by
  obtain ⟨cs, rfl, hsz, -⟩ : ∃ cs, v = .agg cs ∧ cs.size = Tryd.prog.cellsOf 48 ∧ Row.okWide Tryd.prog W .any base 48 cs := by
    simpa [Value.okWide, Tryd.underlying48] using hval
  rw [cells48] at hsz
  obtain ⟨fuel, hf⟩ := h
  obtain ⟨xs, k, hk, hxy, _, hxl, hff⟩ := DataW.trod_struct Tryd.underlying48 hf
  obtain ⟨cs⟩ := cs
  match xs, hxl, cs, hsz with
  | [y0, y1], _, [v0, v1], _ =>
    have g0 := hff 0 _ rfl
    have g1 := hff 1 _ rfl
    simp [cells3, Value.cells] at g0 g1
    obtain ⟨c, rfl, -⟩ := trod_kind Tryd.underlying3 g0
    obtain ⟨c2, rfl, -⟩ := trod_kind Tryd.underlying3 g1
    exact ⟨c, c2, rfl⟩
end Go.Proofs.YtcjlplaepnpopaaDoor
